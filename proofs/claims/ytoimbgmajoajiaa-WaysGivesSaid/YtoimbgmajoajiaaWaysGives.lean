/- Statement WaysGives of layer 11, walked. -/
import Derived.Test.YtoimbgmajoajiaaWaysFacts
namespace Go.Proofs.Ytoimbgmajoajiaa
set_option linter.unusedSimpArgs false
open Go.ChangeShapes Go.WideShapes Go.ChangeAt Go.RowKit

theorem field_Ways (R : WS) (w : World) : (Instr.field 27 (.agg (rowOf 10 (setV R))) 0).run Try.prog w = .ok (.agg #[.int .i64 (R.slot 0), .bool (R.tch 0), .int .i64 (R.slot 1), .bool (R.tch 1), .int .i64 (R.slot 2), .bool (R.tch 2), .int .i64 (R.slot 3), .bool (R.tch 3)]) w := by kernel_rfl
theorem gives_held {w w' : World} {a0 a1 a2 n : Nat} {r P : WS} (hn : n < 4) (hb : Below a0 w w') (h1 : Row w' a1 27 10 (setV r)) (h2 : Row w' a2 27 10 (setV P)) : Below a0 w w' ∧ Row w' a1 27 10 (setV r) ∧ Row w' a2 27 10 (setV P) ∧ w'.cell? ⟨a1, n * 2, none⟩ = some (.int .i64 (r.slot n)) ∧ w'.cell? ⟨a2, n * 2, none⟩ = some (.int .i64 (P.slot n)) ∧ w'.cell? ⟨a2, n * 2 + 1, none⟩ = some (.bool (P.tch n)) ∧ w'.cell? ⟨a2, 0, none⟩ = some (.int .i64 (P.slot 0)) ∧ w'.cell? ⟨a2, 1, none⟩ = some (.bool (P.tch 0)) ∧ w'.cell? ⟨a2, 2, none⟩ = some (.int .i64 (P.slot 1)) ∧ w'.cell? ⟨a2, 3, none⟩ = some (.bool (P.tch 1)) ∧ w'.cell? ⟨a2, 4, none⟩ = some (.int .i64 (P.slot 2)) ∧ w'.cell? ⟨a2, 5, none⟩ = some (.bool (P.tch 2)) ∧ w'.cell? ⟨a2, 6, none⟩ = some (.int .i64 (P.slot 3)) ∧ w'.cell? ⟨a2, 7, none⟩ = some (.bool (P.tch 3)) ∧ w'.cell? ⟨a2, 8, none⟩ = some (.int .i64 P.hand) ∧ w'.cell? ⟨a2, 9, none⟩ = some (.int .u64 (P.turns : Nat)) := ⟨hb, h1, h2, set_slot_at h1 n hn, set_slot_at h2 n hn, set_tch_at h2 n hn, set_cells h2⟩

set_option maxRecDepth 100000 in
set_option maxHeartbeats 8000000 in
theorem waysGives_walk (x : Nat) (hx : x < 18446744073709551616) (z : Int) (hz : -9223372036854775808 ≤ z ∧ z ≤ 9223372036854775807) (w : World) :
    Calls Try.prog 5 #[.int .u64 x, .int .i64 z] w fun e w' => e = .returned (.bool true) ∧ Below w.heap.size w w' := by
  have C1 := Lib.hid (fun W => yRead_any x hx W)
  have C8 := Lib.hid lives11_any
  by_cases hin : 1 ≤ z ∧ z ≤ 255
  · have hr := okRead hx
    have C2 := Lib.hid (fun W => yPut_any (readS x) hr z hz W)
    have C3 := Lib.hid (fun W => yWord_any (putS (readS x) z) (hr.putIn hz) W)
    have C4 := Lib.hid (fun W => yRead_any (wordN (putS (readS x) z)) (wordN_lt _) W)
    have hrw := read_word (s := putS (readS x) z) (put_small (fun k _ => read_small x k) hin)
    have hpi := put_in (readS x) z
    have hpe := fun j => @put_else (readS x) z j
    have hgf := @gave_full (readS x)
    have hgt := @gave_touched (readS x)
    have hn := placeI_lt (readS x)
    have hw1 := wordN_lt (putS (readS x) z)
    have hf := fun W => field_Ways (readS (wordN (putS (readS x) z))) W
    rw [(hrw 0 (by omega)).1, (hrw 0 (by omega)).2, (hrw 1 (by omega)).1, (hrw 1 (by omega)).2, (hrw 2 (by omega)).1, (hrw 2 (by omega)).2, (hrw 3 (by omega)).1, (hrw 3 (by omega)).2] at hf
    clear hrw
    have hbs := hr.slot
    generalize readS (wordN (putS (readS x) z)) = R at *
    generalize wordN (putS (readS x) z) = y at *
    generalize putS (readS x) z = P at *
    generalize placeI (readS x) = n at *
    generalize readS x = r at *
    have hE1 := fun W => neq_Ways W P
    have hE2 := fun W => neq_Way W z true
    have HF := Lib.hid hf; have HE1 := Lib.hid hE1; have HE2 := Lib.hid hE2
    have HPI := Lib.hid hpi
    have HPE := Lib.hid hpe
    have HGF := Lib.hid hgf
    have HGT := Lib.hid hgt
    have HBS := Lib.hid hbs
    clear hf hE1 hE2 hpi hpe hgf hgt hr hbs
    have b1 : 1 ≤ z := hin.1
    have b2 : z ≤ 255 := hin.2
    have t1 : decide (z < 1) = false := decide_eq_false (by omega)
    have t2 : decide (255 < z) = false := decide_eq_false (by omega)
    clear hin hz
    go_enter Try.func5, Try.ntmps5
    go_upto_region 2 with (first
      | (go_at_call 9; refine (C1.out _).mono ?_; rintro e w2 ⟨rfl, hb⟩)
      | (refine wpList_store_row rfl 27 _ _ rfl w2.heap.size (rowOf 10 (setV r)) rfl rfl 27 (rowOf 10 (setV zeroS)) (heap_alloc_new w2 _) (by kernel_rfl) rfl (setV_one _ _) ?_))
    rw [World.setRow_alloc_new]
    have p1 : Row (w2.alloc (.cells (rowOf 10 (setV r)) 27)) w2.heap.size 27 10 (setV r) := Row.new _ _ _ _ _ rfl
    have hb2 := hb.alloc hb.size (.cells (rowOf 10 (setV r)) 27)
    have hs0 := hb.size
    clear hb
    generalize hg : w2.heap.size = a1 at *
    generalize World.alloc w2 _ = W3 at *
    clear hg
    generalize hz0 : w.heap.size = a0 at *
    have HZ := Lib.hid hz0; clear hz0
    have hs3 := p1.lt
    go_upto_region 5 with (first
      | (refine wpList_load_row rfl 27 _ rfl a1 rfl 27 (rowOf 10 (setV r)) (0, 0) _ p1 Try.underlying27 rfl (by kernel_rfl) ?_)
      | (go_at_call 16; refine (C2.out _).mono ?_; rintro e w4 ⟨rfl, hb4⟩)
      | (refine wpList_store_row rfl 27 _ _ rfl w4.heap.size (rowOf 10 (setV P)) rfl rfl 27 (rowOf 10 (setV zeroS)) (heap_alloc_new w4 _) (by kernel_rfl) rfl (setV_one _ _) ?_))
    rw [World.setRow_alloc_new]
    have hs4 : a1 < w4.heap.size := Nat.lt_of_lt_of_le hs3 hb4.size
    have q1 := (p1.keep hb4).alloc (.cells (rowOf 10 (setV P)) 27)
    have q2 : Row (w4.alloc (.cells (rowOf 10 (setV P)) 27)) w4.heap.size 27 10 (setV P) := Row.new _ _ _ _ _ rfl
    have hb5 := (below_on hb2 (Nat.le_of_eq HZ.out.symm) hb4).alloc (show a0 ≤ w4.heap.size by omega) (.cells (rowOf 10 (setV P)) 27)
    clear p1 hb2 hb4
    generalize hg : w4.heap.size = a2 at *
    generalize World.alloc w4 _ = W4 at *
    clear hg
    have hkeep : ∀ w1 w2 : World, Below w1.heap.size w1 w2 → (fun w' => Below a0 w w' ∧ Row w' a1 27 10 (setV r) ∧ Row w' a2 27 10 (setV P) ∧ w'.cell? ⟨a1, n * 2, none⟩ = some (.int .i64 (r.slot n)) ∧ w'.cell? ⟨a2, n * 2, none⟩ = some (.int .i64 (P.slot n)) ∧ w'.cell? ⟨a2, n * 2 + 1, none⟩ = some (.bool (P.tch n)) ∧ w'.cell? ⟨a2, 0, none⟩ = some (.int .i64 (P.slot 0)) ∧ w'.cell? ⟨a2, 1, none⟩ = some (.bool (P.tch 0)) ∧ w'.cell? ⟨a2, 2, none⟩ = some (.int .i64 (P.slot 1)) ∧ w'.cell? ⟨a2, 3, none⟩ = some (.bool (P.tch 1)) ∧ w'.cell? ⟨a2, 4, none⟩ = some (.int .i64 (P.slot 2)) ∧ w'.cell? ⟨a2, 5, none⟩ = some (.bool (P.tch 2)) ∧ w'.cell? ⟨a2, 6, none⟩ = some (.int .i64 (P.slot 3)) ∧ w'.cell? ⟨a2, 7, none⟩ = some (.bool (P.tch 3)) ∧ w'.cell? ⟨a2, 8, none⟩ = some (.int .i64 P.hand) ∧ w'.cell? ⟨a2, 9, none⟩ = some (.int .u64 (P.turns : Nat))) w1 → (fun w' => Below a0 w w' ∧ Row w' a1 27 10 (setV r) ∧ Row w' a2 27 10 (setV P) ∧ w'.cell? ⟨a1, n * 2, none⟩ = some (.int .i64 (r.slot n)) ∧ w'.cell? ⟨a2, n * 2, none⟩ = some (.int .i64 (P.slot n)) ∧ w'.cell? ⟨a2, n * 2 + 1, none⟩ = some (.bool (P.tch n)) ∧ w'.cell? ⟨a2, 0, none⟩ = some (.int .i64 (P.slot 0)) ∧ w'.cell? ⟨a2, 1, none⟩ = some (.bool (P.tch 0)) ∧ w'.cell? ⟨a2, 2, none⟩ = some (.int .i64 (P.slot 1)) ∧ w'.cell? ⟨a2, 3, none⟩ = some (.bool (P.tch 1)) ∧ w'.cell? ⟨a2, 4, none⟩ = some (.int .i64 (P.slot 2)) ∧ w'.cell? ⟨a2, 5, none⟩ = some (.bool (P.tch 2)) ∧ w'.cell? ⟨a2, 6, none⟩ = some (.int .i64 (P.slot 3)) ∧ w'.cell? ⟨a2, 7, none⟩ = some (.bool (P.tch 3)) ∧ w'.cell? ⟨a2, 8, none⟩ = some (.int .i64 P.hand) ∧ w'.cell? ⟨a2, 9, none⟩ = some (.int .u64 (P.turns : Nat))) w2 := fun w1 w2 hb h => gives_held hn (below_on h.1 (Nat.le_of_eq HZ.out.symm) hb) (h.2.1.keep hb) (h.2.2.1.keep hb)
    have HST0 := gives_held (n := n) hn hb5.drew q1.drew q2.drew
    rw [HPI.out.1, HPI.out.2] at HST0
    have HST := Lib.hid HST0
    have hkeep2 := hkeep
    rw [HPI.out.1, HPI.out.2] at hkeep2
    have f3 := fold10 P
    have n0 : (0 : Int) ≤ (n : Int) := by omega
    have n1 : (n : Int) < 4 := by omega
    have d1 : decide ((n : Int) < 0) = false := decide_eq_false (by omega)
    have d2 : decide ((3 : Int) < (n : Int)) = false := decide_eq_false (by omega)
    have e1 := HF.out
    have e2 := HE1.out
    have e3 := HE2.out
    have wd : (r.slot n != r.slot n) = false := by simp
    generalize hwas : r.slot n = was at *
    clear q1 q2 hb5 HST0 hkeep
    go_upto_region 5 with fail
    refine wp_region_noPanic ?_
    refine wp_region_held_drew (S := fun w' => Below a0 w w' ∧ Row w' a1 27 10 (setV r) ∧ Row w' a2 27 10 (setV P) ∧ w'.cell? ⟨a1, n * 2, none⟩ = some (.int .i64 was) ∧ w'.cell? ⟨a2, n * 2, none⟩ = some (.int .i64 z) ∧ w'.cell? ⟨a2, n * 2 + 1, none⟩ = some (.bool true) ∧ w'.cell? ⟨a2, 0, none⟩ = some (.int .i64 (P.slot 0)) ∧ w'.cell? ⟨a2, 1, none⟩ = some (.bool (P.tch 0)) ∧ w'.cell? ⟨a2, 2, none⟩ = some (.int .i64 (P.slot 1)) ∧ w'.cell? ⟨a2, 3, none⟩ = some (.bool (P.tch 1)) ∧ w'.cell? ⟨a2, 4, none⟩ = some (.int .i64 (P.slot 2)) ∧ w'.cell? ⟨a2, 5, none⟩ = some (.bool (P.tch 2)) ∧ w'.cell? ⟨a2, 6, none⟩ = some (.int .i64 (P.slot 3)) ∧ w'.cell? ⟨a2, 7, none⟩ = some (.bool (P.tch 3)) ∧ w'.cell? ⟨a2, 8, none⟩ = some (.int .i64 P.hand) ∧ w'.cell? ⟨a2, 9, none⟩ = some (.int .u64 (P.turns : Nat))) (by kernel_rfl) (HST.out) (fun hHeld => ?_)
    (refine wpAnyH_take (i := 0) (v := ?_) rfl (by kernel_rfl) (by kernel_rfl) (by kernel_rfl) (fun _ _ _ h => h) (Or.inl ⟨by rfl, ?_⟩) hHeld ?_; rotate_left; focus (intro w hSw; (try dsimp only at hSw); go_simp; (try with_reducible rfl)))
    try simp only [Act.put, List.getElem_toArray, List.getElem_cons_succ, List.getElem_cons_zero, List.setIfInBounds_toArray, List.set_cons_zero, List.set_cons_succ]
    (refine wpAnyH_take (i := 1) (v := ?_) rfl (by kernel_rfl) (by kernel_rfl) (by kernel_rfl) (fun _ _ _ h => h) (Or.inl ⟨by rfl, ?_⟩) hHeld ?_; rotate_left; focus (intro w hSw; (try dsimp only at hSw); go_simp; (try with_reducible rfl)))
    try simp only [Act.put, List.getElem_toArray, List.getElem_cons_succ, List.getElem_cons_zero, List.setIfInBounds_toArray, List.set_cons_zero, List.set_cons_succ]
    (refine wpAnyH_take (i := 2) (v := ?_) rfl (by kernel_rfl) (by kernel_rfl) (by kernel_rfl) (fun _ _ _ h => h) (Or.inl ⟨by rfl, ?_⟩) hHeld ?_; rotate_left; focus (intro w hSw; (try dsimp only at hSw); go_simp; (try with_reducible rfl)))
    try simp only [Act.put, List.getElem_toArray, List.getElem_cons_succ, List.getElem_cons_zero, List.setIfInBounds_toArray, List.set_cons_zero, List.set_cons_succ]
    first | (refine wpAnyH_take (i := 3) rfl (by kernel_rfl) (by kernel_rfl) (by kernel_rfl) (fun _ _ _ h => h) (Or.inr ⟨by rfl, rfl⟩) hHeld ?_) | (refine wpAnyH_take (i := 3) (v := ?_) rfl (by kernel_rfl) (by kernel_rfl) (by kernel_rfl) (fun _ _ _ h => h) (Or.inl ⟨by rfl, ?_⟩) hHeld ?_; rotate_left; focus (intro w hSw; (try dsimp only at hSw); go_simp; (try with_reducible rfl)))
    try simp only [Act.put, List.getElem_toArray, List.getElem_cons_succ, List.getElem_cons_zero, List.setIfInBounds_toArray, List.set_cons_zero, List.set_cons_succ]
    first | (refine wpAnyH_take (i := 4) rfl (by kernel_rfl) (by kernel_rfl) (by kernel_rfl) (fun _ _ _ h => h) (Or.inr ⟨by rfl, rfl⟩) hHeld ?_) | (refine wpAnyH_take (i := 4) (v := ?_) rfl (by kernel_rfl) (by kernel_rfl) (by kernel_rfl) (fun _ _ _ h => h) (Or.inl ⟨by rfl, ?_⟩) hHeld ?_; rotate_left; focus (intro w hSw; (try dsimp only at hSw); go_simp; (try with_reducible rfl)))
    try simp only [Act.put, List.getElem_toArray, List.getElem_cons_succ, List.getElem_cons_zero, List.setIfInBounds_toArray, List.set_cons_zero, List.set_cons_succ]
    (refine wpAnyH_take (i := 5) (v := ?_) rfl (by kernel_rfl) (by kernel_rfl) (by kernel_rfl) (fun _ _ _ h => h) (Or.inl ⟨by rfl, ?_⟩) hHeld ?_; rotate_left; focus (intro w hSw; (try dsimp only at hSw); go_simp; (try with_reducible rfl)))
    try simp only [Act.put, List.getElem_toArray, List.getElem_cons_succ, List.getElem_cons_zero, List.setIfInBounds_toArray, List.set_cons_zero, List.set_cons_succ]
    (refine wpAnyH_take (i := 6) (v := ?_) rfl (by kernel_rfl) (by kernel_rfl) (by kernel_rfl) (fun _ _ _ h => h) (Or.inl ⟨by rfl, ?_⟩) hHeld ?_; rotate_left; focus (intro w hSw; (try dsimp only at hSw); go_simp; (try with_reducible rfl)))
    try simp only [Act.put, List.getElem_toArray, List.getElem_cons_succ, List.getElem_cons_zero, List.setIfInBounds_toArray, List.set_cons_zero, List.set_cons_succ]
    first | (refine wpAnyH_take (i := 7) rfl (by kernel_rfl) (by kernel_rfl) (by kernel_rfl) (fun _ _ _ h => h) (Or.inr ⟨by rfl, rfl⟩) hHeld ?_) | (refine wpAnyH_take (i := 7) (v := ?_) rfl (by kernel_rfl) (by kernel_rfl) (by kernel_rfl) (fun _ _ _ h => h) (Or.inl ⟨by rfl, ?_⟩) hHeld ?_; rotate_left; focus (intro w hSw; (try dsimp only at hSw); go_simp; (try with_reducible rfl)))
    try simp only [Act.put, List.getElem_toArray, List.getElem_cons_succ, List.getElem_cons_zero, List.setIfInBounds_toArray, List.set_cons_zero, List.set_cons_succ]
    first | (refine wpAnyH_take (i := 8) rfl (by kernel_rfl) (by kernel_rfl) (by kernel_rfl) (fun _ _ _ h => h) (Or.inr ⟨by rfl, rfl⟩) hHeld ?_) | (refine wpAnyH_take (i := 8) (v := ?_) rfl (by kernel_rfl) (by kernel_rfl) (by kernel_rfl) (fun _ _ _ h => h) (Or.inl ⟨by rfl, ?_⟩) hHeld ?_; rotate_left; focus (intro w hSw; (try dsimp only at hSw); go_simp; (try with_reducible rfl)))
    try simp only [Act.put, List.getElem_toArray, List.getElem_cons_succ, List.getElem_cons_zero, List.setIfInBounds_toArray, List.set_cons_zero, List.set_cons_succ]
    first | (refine wpAnyH_take (i := 9) rfl (by kernel_rfl) (by kernel_rfl) (by kernel_rfl) (fun _ _ _ h => h) (Or.inr ⟨by rfl, rfl⟩) hHeld ?_) | (refine wpAnyH_take (i := 9) (v := ?_) rfl (by kernel_rfl) (by kernel_rfl) (by kernel_rfl) (fun _ _ _ h => h) (Or.inl ⟨by rfl, ?_⟩) hHeld ?_; rotate_left; focus (intro w hSw; (try dsimp only at hSw); go_simp; (try with_reducible rfl)))
    try simp only [Act.put, List.getElem_toArray, List.getElem_cons_succ, List.getElem_cons_zero, List.setIfInBounds_toArray, List.set_cons_zero, List.set_cons_succ]
    first | (refine wpAnyH_take (i := 10) rfl (by kernel_rfl) (by kernel_rfl) (by kernel_rfl) (fun _ _ _ h => h) (Or.inr ⟨by rfl, rfl⟩) hHeld ?_) | (refine wpAnyH_take (i := 10) (v := ?_) rfl (by kernel_rfl) (by kernel_rfl) (by kernel_rfl) (fun _ _ _ h => h) (Or.inl ⟨by rfl, ?_⟩) hHeld ?_; rotate_left; focus (intro w hSw; (try dsimp only at hSw); go_simp; (try with_reducible rfl)))
    try simp only [Act.put, List.getElem_toArray, List.getElem_cons_succ, List.getElem_cons_zero, List.setIfInBounds_toArray, List.set_cons_zero, List.set_cons_succ]
    first | (refine wpAnyH_take (i := 11) rfl (by kernel_rfl) (by kernel_rfl) (by kernel_rfl) (fun _ _ _ h => h) (Or.inr ⟨by rfl, rfl⟩) hHeld ?_) | (refine wpAnyH_take (i := 11) (v := ?_) rfl (by kernel_rfl) (by kernel_rfl) (by kernel_rfl) (fun _ _ _ h => h) (Or.inl ⟨by rfl, ?_⟩) hHeld ?_; rotate_left; focus (intro w hSw; (try dsimp only at hSw); go_simp; (try with_reducible rfl)))
    try simp only [Act.put, List.getElem_toArray, List.getElem_cons_succ, List.getElem_cons_zero, List.setIfInBounds_toArray, List.set_cons_zero, List.set_cons_succ]
    first | (refine wpAnyH_take (i := 12) rfl (by kernel_rfl) (by kernel_rfl) (by kernel_rfl) (fun _ _ _ h => h) (Or.inr ⟨by rfl, rfl⟩) hHeld ?_) | (refine wpAnyH_take (i := 12) (v := ?_) rfl (by kernel_rfl) (by kernel_rfl) (by kernel_rfl) (fun _ _ _ h => h) (Or.inl ⟨by rfl, ?_⟩) hHeld ?_; rotate_left; focus (intro w hSw; (try dsimp only at hSw); go_simp; (try with_reducible rfl)))
    try simp only [Act.put, List.getElem_toArray, List.getElem_cons_succ, List.getElem_cons_zero, List.setIfInBounds_toArray, List.set_cons_zero, List.set_cons_succ]
    first | (refine wpAnyH_take (i := 13) rfl (by kernel_rfl) (by kernel_rfl) (by kernel_rfl) (fun _ _ _ h => h) (Or.inr ⟨by rfl, rfl⟩) hHeld ?_) | (refine wpAnyH_take (i := 13) (v := ?_) rfl (by kernel_rfl) (by kernel_rfl) (by kernel_rfl) (fun _ _ _ h => h) (Or.inl ⟨by rfl, ?_⟩) hHeld ?_; rotate_left; focus (intro w hSw; (try dsimp only at hSw); go_simp; (try with_reducible rfl)))
    try simp only [Act.put, List.getElem_toArray, List.getElem_cons_succ, List.getElem_cons_zero, List.setIfInBounds_toArray, List.set_cons_zero, List.set_cons_succ]
    (refine wpAnyH_take (i := 14) (v := ?_) rfl (by kernel_rfl) (by kernel_rfl) (by kernel_rfl) (fun _ _ _ h => h) (Or.inl ⟨by rfl, ?_⟩) hHeld ?_; rotate_left; focus (intro w hSw; (try dsimp only at hSw); go_simp; (try with_reducible rfl)))
    try simp only [Act.put, List.getElem_toArray, List.getElem_cons_succ, List.getElem_cons_zero, List.setIfInBounds_toArray, List.set_cons_zero, List.set_cons_succ]
    (refine wpAnyH_take (i := 15) (v := ?_) rfl (by kernel_rfl) (by kernel_rfl) (by kernel_rfl) (fun _ _ _ h => h) (Or.inl ⟨by rfl, ?_⟩) hHeld ?_; rotate_left; focus (intro w hSw; (try dsimp only at hSw); go_simp; (try with_reducible rfl)))
    try simp only [Act.put, List.getElem_toArray, List.getElem_cons_succ, List.getElem_cons_zero, List.setIfInBounds_toArray, List.set_cons_zero, List.set_cons_succ]
    first | (refine wpAnyH_take (i := 16) rfl (by kernel_rfl) (by kernel_rfl) (by kernel_rfl) (fun _ _ _ h => h) (Or.inr ⟨by rfl, rfl⟩) hHeld ?_) | (refine wpAnyH_take (i := 16) (v := ?_) rfl (by kernel_rfl) (by kernel_rfl) (by kernel_rfl) (fun _ _ _ h => h) (Or.inl ⟨by rfl, ?_⟩) hHeld ?_; rotate_left; focus (intro w hSw; (try dsimp only at hSw); go_simp; (try with_reducible rfl)))
    try simp only [Act.put, List.getElem_toArray, List.getElem_cons_succ, List.getElem_cons_zero, List.setIfInBounds_toArray, List.set_cons_zero, List.set_cons_succ]
    first | (refine wpAnyH_take (i := 17) rfl (by kernel_rfl) (by kernel_rfl) (by kernel_rfl) (fun _ _ _ h => h) (Or.inr ⟨by rfl, rfl⟩) hHeld ?_) | (refine wpAnyH_take (i := 17) (v := ?_) rfl (by kernel_rfl) (by kernel_rfl) (by kernel_rfl) (fun _ _ _ h => h) (Or.inl ⟨by rfl, ?_⟩) hHeld ?_; rotate_left; focus (intro w hSw; (try dsimp only at hSw); go_simp; (try with_reducible rfl)))
    try simp only [Act.put, List.getElem_toArray, List.getElem_cons_succ, List.getElem_cons_zero, List.setIfInBounds_toArray, List.set_cons_zero, List.set_cons_succ]
    first | (refine wpAnyH_take (i := 18) rfl (by kernel_rfl) (by kernel_rfl) (by kernel_rfl) (fun _ _ _ h => h) (Or.inr ⟨by rfl, rfl⟩) hHeld ?_) | (refine wpAnyH_take (i := 18) (v := ?_) rfl (by kernel_rfl) (by kernel_rfl) (by kernel_rfl) (fun _ _ _ h => h) (Or.inl ⟨by rfl, ?_⟩) hHeld ?_; rotate_left; focus (intro w hSw; (try dsimp only at hSw); go_simp; (try with_reducible rfl)))
    try simp only [Act.put, List.getElem_toArray, List.getElem_cons_succ, List.getElem_cons_zero, List.setIfInBounds_toArray, List.set_cons_zero, List.set_cons_succ]
    first | (refine wpAnyH_take (i := 19) rfl (by kernel_rfl) (by kernel_rfl) (by kernel_rfl) (fun _ _ _ h => h) (Or.inr ⟨by rfl, rfl⟩) hHeld ?_) | (refine wpAnyH_take (i := 19) (v := ?_) rfl (by kernel_rfl) (by kernel_rfl) (by kernel_rfl) (fun _ _ _ h => h) (Or.inl ⟨by rfl, ?_⟩) hHeld ?_; rotate_left; focus (intro w hSw; (try dsimp only at hSw); go_simp; (try with_reducible rfl)))
    try simp only [Act.put, List.getElem_toArray, List.getElem_cons_succ, List.getElem_cons_zero, List.setIfInBounds_toArray, List.set_cons_zero, List.set_cons_succ]
    first | (refine wpAnyH_take (i := 20) rfl (by kernel_rfl) (by kernel_rfl) (by kernel_rfl) (fun _ _ _ h => h) (Or.inr ⟨by rfl, rfl⟩) hHeld ?_) | (refine wpAnyH_take (i := 20) (v := ?_) rfl (by kernel_rfl) (by kernel_rfl) (by kernel_rfl) (fun _ _ _ h => h) (Or.inl ⟨by rfl, ?_⟩) hHeld ?_; rotate_left; focus (intro w hSw; (try dsimp only at hSw); go_simp; (try with_reducible rfl)))
    try simp only [Act.put, List.getElem_toArray, List.getElem_cons_succ, List.getElem_cons_zero, List.setIfInBounds_toArray, List.set_cons_zero, List.set_cons_succ]
    first | (refine wpAnyH_take (i := 21) rfl (by kernel_rfl) (by kernel_rfl) (by kernel_rfl) (fun _ _ _ h => h) (Or.inr ⟨by rfl, rfl⟩) hHeld ?_) | (refine wpAnyH_take (i := 21) (v := ?_) rfl (by kernel_rfl) (by kernel_rfl) (by kernel_rfl) (fun _ _ _ h => h) (Or.inl ⟨by rfl, ?_⟩) hHeld ?_; rotate_left; focus (intro w hSw; (try dsimp only at hSw); go_simp; (try with_reducible rfl)))
    try simp only [Act.put, List.getElem_toArray, List.getElem_cons_succ, List.getElem_cons_zero, List.setIfInBounds_toArray, List.set_cons_zero, List.set_cons_succ]
    first | (refine wpAnyH_take (i := 22) rfl (by kernel_rfl) (by kernel_rfl) (by kernel_rfl) (fun _ _ _ h => h) (Or.inr ⟨by rfl, rfl⟩) hHeld ?_) | (refine wpAnyH_take (i := 22) (v := ?_) rfl (by kernel_rfl) (by kernel_rfl) (by kernel_rfl) (fun _ _ _ h => h) (Or.inl ⟨by rfl, ?_⟩) hHeld ?_; rotate_left; focus (intro w hSw; (try dsimp only at hSw); go_simp; (try with_reducible rfl)))
    try simp only [Act.put, List.getElem_toArray, List.getElem_cons_succ, List.getElem_cons_zero, List.setIfInBounds_toArray, List.set_cons_zero, List.set_cons_succ]
    (refine wpAnyH_take (i := 23) (v := ?_) rfl (by kernel_rfl) (by kernel_rfl) (by kernel_rfl) (fun _ _ _ h => h) (Or.inl ⟨by rfl, ?_⟩) hHeld ?_; rotate_left; focus (intro w hSw; (try dsimp only at hSw); go_simp; (try with_reducible rfl)))
    try simp only [Act.put, List.getElem_toArray, List.getElem_cons_succ, List.getElem_cons_zero, List.setIfInBounds_toArray, List.set_cons_zero, List.set_cons_succ]
    (refine wpAnyH_take (i := 24) (v := ?_) rfl (by kernel_rfl) (by kernel_rfl) (by kernel_rfl) (fun _ _ _ h => h) (Or.inl ⟨by rfl, ?_⟩) hHeld ?_; rotate_left; focus (intro w hSw; (try dsimp only at hSw); go_simp; (try with_reducible rfl)))
    try simp only [Act.put, List.getElem_toArray, List.getElem_cons_succ, List.getElem_cons_zero, List.setIfInBounds_toArray, List.set_cons_zero, List.set_cons_succ]
    first | (refine wpAnyH_take (i := 25) rfl (by kernel_rfl) (by kernel_rfl) (by kernel_rfl) (fun _ _ _ h => h) (Or.inr ⟨by rfl, rfl⟩) hHeld ?_) | (refine wpAnyH_take (i := 25) (v := ?_) rfl (by kernel_rfl) (by kernel_rfl) (by kernel_rfl) (fun _ _ _ h => h) (Or.inl ⟨by rfl, ?_⟩) hHeld ?_; rotate_left; focus (intro w hSw; (try dsimp only at hSw); go_simp; (try with_reducible rfl)))
    try simp only [Act.put, List.getElem_toArray, List.getElem_cons_succ, List.getElem_cons_zero, List.setIfInBounds_toArray, List.set_cons_zero, List.set_cons_succ]
    first | (refine wpAnyH_take (i := 29) rfl (by kernel_rfl) (by kernel_rfl) (by kernel_rfl) (fun _ _ _ h => h) (Or.inr ⟨by rfl, rfl⟩) hHeld ?_) | (refine wpAnyH_take (i := 29) (v := ?_) rfl (by kernel_rfl) (by kernel_rfl) (by kernel_rfl) (fun _ _ _ h => h) (Or.inl ⟨by rfl, ?_⟩) hHeld ?_; rotate_left; focus (intro w hSw; (try dsimp only at hSw); go_simp; (try with_reducible rfl)))
    try simp only [Act.put, List.getElem_toArray, List.getElem_cons_succ, List.getElem_cons_zero, List.setIfInBounds_toArray, List.set_cons_zero, List.set_cons_succ]
    first | (refine wpAnyH_take (i := 30) rfl (by kernel_rfl) (by kernel_rfl) (by kernel_rfl) (fun _ _ _ h => h) (Or.inr ⟨by rfl, rfl⟩) hHeld ?_) | (refine wpAnyH_take (i := 30) (v := ?_) rfl (by kernel_rfl) (by kernel_rfl) (by kernel_rfl) (fun _ _ _ h => h) (Or.inl ⟨by rfl, ?_⟩) hHeld ?_; rotate_left; focus (intro w hSw; (try dsimp only at hSw); go_simp; (try with_reducible rfl)))
    try simp only [Act.put, List.getElem_toArray, List.getElem_cons_succ, List.getElem_cons_zero, List.setIfInBounds_toArray, List.set_cons_zero, List.set_cons_succ]
    first | (refine wpAnyH_take (i := 26) rfl (by kernel_rfl) (by kernel_rfl) (by kernel_rfl) (fun _ _ _ h => h) (Or.inr ⟨by rfl, rfl⟩) hHeld ?_) | (refine wpAnyH_ready (rs := [26]) (by kernel_rfl) (by simp) ?_; refine AllReadyH.cons rfl (fun K hK => ?_) AllReadyH.nil; go_simp; (first | (go_at_call 6; refine (C3.out _).mono ?_; rintro t w' ⟨rfl, hb⟩) | (go_at_call 9; refine (C4.out _).mono ?_; rintro t w' ⟨rfl, hb⟩)); (try go_wp2_with fail); refine hK.out _ _ ?_ (fun hHeld' => ?_); (focus (exact hkeep2 _ _ hb hHeld)); clear hK K; replace hHeld := hHeld'; clear hHeld')
    try simp only [Act.put, List.getElem_toArray, List.getElem_cons_succ, List.getElem_cons_zero, List.setIfInBounds_toArray, List.set_cons_zero, List.set_cons_succ]
    first | (refine wpAnyH_take (i := 27) rfl (by kernel_rfl) (by kernel_rfl) (by kernel_rfl) (fun _ _ _ h => h) (Or.inr ⟨by rfl, rfl⟩) hHeld ?_) | (refine wpAnyH_ready (rs := [27]) (by kernel_rfl) (by simp) ?_; refine AllReadyH.cons rfl (fun K hK => ?_) AllReadyH.nil; go_simp; (first | (go_at_call 6; refine (C3.out _).mono ?_; rintro t w' ⟨rfl, hb⟩) | (go_at_call 9; refine (C4.out _).mono ?_; rintro t w' ⟨rfl, hb⟩)); (try go_wp2_with fail); refine hK.out _ _ ?_ (fun hHeld' => ?_); (focus (exact hkeep2 _ _ hb hHeld)); clear hK K; replace hHeld := hHeld'; clear hHeld')
    try simp only [Act.put, List.getElem_toArray, List.getElem_cons_succ, List.getElem_cons_zero, List.setIfInBounds_toArray, List.set_cons_zero, List.set_cons_succ]
    first | (refine wpAnyH_take (i := 28) rfl (by kernel_rfl) (by kernel_rfl) (by kernel_rfl) (fun _ _ _ h => h) (Or.inr ⟨by rfl, rfl⟩) hHeld ?_) | (refine wpAnyH_take (i := 28) (v := ?_) rfl (by kernel_rfl) (by kernel_rfl) (by kernel_rfl) (fun _ _ _ h => h) (Or.inl ⟨by rfl, ?_⟩) hHeld ?_; rotate_left; focus (intro w hSw; (try dsimp only at hSw); go_simp; (try with_reducible rfl)))
    try simp only [Act.put, List.getElem_toArray, List.getElem_cons_succ, List.getElem_cons_zero, List.setIfInBounds_toArray, List.set_cons_zero, List.set_cons_succ]
    first | (refine wpAnyH_take (i := 31) rfl (by kernel_rfl) (by kernel_rfl) (by kernel_rfl) (fun _ _ _ h => h) (Or.inr ⟨by rfl, rfl⟩) hHeld ?_) | (refine wpAnyH_take (i := 31) (v := ?_) rfl (by kernel_rfl) (by kernel_rfl) (by kernel_rfl) (fun _ _ _ h => h) (Or.inl ⟨by rfl, ?_⟩) hHeld ?_; rotate_left; focus (intro w hSw; (try dsimp only at hSw); go_simp; (try with_reducible rfl)))
    try simp only [Act.put, List.getElem_toArray, List.getElem_cons_succ, List.getElem_cons_zero, List.setIfInBounds_toArray, List.set_cons_zero, List.set_cons_succ]
    (refine wpAnyH_take (i := 32) (v := ?_) rfl (by kernel_rfl) (by kernel_rfl) (by kernel_rfl) (fun _ _ _ h => h) (Or.inl ⟨by rfl, ?_⟩) hHeld ?_; rotate_left; focus (intro w hSw; (try dsimp only at hSw); go_simp; (try with_reducible rfl)))
    try simp only [Act.put, List.getElem_toArray, List.getElem_cons_succ, List.getElem_cons_zero, List.setIfInBounds_toArray, List.set_cons_zero, List.set_cons_succ]
    refine wpAnyH_done (by kernel_rfl) ?_ _
    refine NoPanic.normal ?_
    have hF : Below a0 w w' ∧ Row w' a1 27 10 (setV r) ∧ Row w' a2 27 10 (setV P) ∧ w'.cell? ⟨a1, n * 2, none⟩ = some (.int .i64 was) ∧ w'.cell? ⟨a2, n * 2, none⟩ = some (.int .i64 z) ∧ w'.cell? ⟨a2, n * 2 + 1, none⟩ = some (.bool true) ∧ w'.cell? ⟨a2, 0, none⟩ = some (.int .i64 (P.slot 0)) ∧ w'.cell? ⟨a2, 1, none⟩ = some (.bool (P.tch 0)) ∧ w'.cell? ⟨a2, 2, none⟩ = some (.int .i64 (P.slot 1)) ∧ w'.cell? ⟨a2, 3, none⟩ = some (.bool (P.tch 1)) ∧ w'.cell? ⟨a2, 4, none⟩ = some (.int .i64 (P.slot 2)) ∧ w'.cell? ⟨a2, 5, none⟩ = some (.bool (P.tch 2)) ∧ w'.cell? ⟨a2, 6, none⟩ = some (.int .i64 (P.slot 3)) ∧ w'.cell? ⟨a2, 7, none⟩ = some (.bool (P.tch 3)) ∧ w'.cell? ⟨a2, 8, none⟩ = some (.int .i64 P.hand) ∧ w'.cell? ⟨a2, 9, none⟩ = some (.int .u64 (P.turns : Nat)) := by assumption
    obtain ⟨hb6, r1, r2, -⟩ := hF
    have HPE2 := HPE; have HGF2 := HGF; have HGT2 := HGT
    clear hHeld HST hkeep2 e1 e2 e3 wd d1 d2 f3 hwas C1 C2 C3 C4 HF HE1 HE2 hb t1 t2 HPE HGF HGT
    go_upto_region 8 with fail
    go_loopw [9] (fun i wr => ∃ k : Nat, i = .int .i64 k ∧ k ≤ 4 ∧ Drew w' wr) (fun i _ => 4 - (intOf i).toNat)
    case atStart => exact ⟨0, rfl, by omega, Drew.refl _⟩
    case round =>
      obtain ⟨k, rfl, hk, hd⟩ := hrel
      by_cases hlt : k < 4
      · have v1 : wr.cell? ⟨a1, k * 2, none⟩ = some (.int .i64 (r.slot k)) := by rw [hd.cell]; exact set_slot_at r1 k hlt
        have v2 : wr.cell? ⟨a1, k * 2 + 1, none⟩ = some (.bool (r.tch k)) := by rw [hd.cell]; exact set_tch_at r1 k hlt
        have v3 : wr.cell? ⟨a1, n * 2 + 1, none⟩ = some (.bool (r.tch n)) := by rw [hd.cell]; exact set_tch_at r1 n hn
        have u1 : wr.cell? ⟨a2, k * 2, none⟩ = some (.int .i64 (P.slot k)) := by rw [hd.cell]; exact set_slot_at r2 k hlt
        have u2 : wr.cell? ⟨a2, k * 2 + 1, none⟩ = some (.bool (P.tch k)) := by rw [hd.cell]; exact set_tch_at r2 k hlt
        have k0 : (0 : Int) ≤ (k : Int) := by omega
        have k1 : (k : Int) < 4 := by omega
        have G1 := Lib.hid (fun h => HGF2.out h k hlt)
        have G2 := Lib.hid (fun h h' => HGT2.out h h' k hlt)
        have G3 := Lib.hid (HPE2.out k)
        have bk := HBS.out k
        clear HGF2 HGT2 HPE2 HBS HPI r1 r2
        go_upto_region 10 with fail
        go_cut [91] (fun v wx => v = .bool false ∧ wx = wr)
        case first =>
          clear u1 u2 G3
          by_cases hw0 : was = 0
          · have dw : (was != 0) = false := by rw [hw0]; rfl
            clear G1 G2
            by_cases hs0 : r.slot k = 0
            · have ds : (r.slot k == 0) = true := by rw [hs0]; rfl
              clear hs0 hw0
              generalize r.slot k = sk at *
              go_wp2_with fail
              go_meet
              exact ⟨rfl, rfl⟩
            · have ds : (r.slot k == 0) = false := by simpa using hs0
              clear hs0 hw0
              generalize r.slot k = sk at *
              go_wp2_with fail
              go_meet
              exact ⟨rfl, rfl⟩
          · have dw : (was != 0) = true := by simpa using hw0
            have ds : (r.slot k == 0) = false := by simpa using G1.out hw0
            cases htn : r.tch n
            · rw [htn] at v3
              clear G1 G2 hw0
              generalize r.slot k = sk at *
              go_wp2_with fail
              go_meet
              exact ⟨rfl, rfl⟩
            · have htk := G2.out hw0 htn
              rw [htn] at v3
              rw [htk] at v2
              clear G1 G2 hw0
              generalize r.slot k = sk at *
              go_wp2_with fail
              go_meet
              exact ⟨rfl, rfl⟩
        case rest =>
          obtain ⟨rfl, rfl⟩ := hcut
          go_upto_region 12 with fail
          go_cut [127] (fun v wx => v = .bool false ∧ Drew wc wx)
          case first =>
            clear G1 G2 v3
            by_cases hkn : k = n
            · subst hkn
              have dn : ((k : Int) != (k : Int)) = false := by simp
              clear G3
              go_quiet (fail)
              go_wp2_with fail
              go_meet
              exact ⟨rfl, (Drew.refl _).more _⟩
            · obtain ⟨g1, g2⟩ := G3.out hkn
              have dn : ((k : Int) != (n : Int)) = true := by rw [bne_iff_ne]; omega
              rw [g1] at u1
              have ds : (r.slot k != r.slot k) = false := by simp
              generalize r.slot k = sk at *
              cases htp : P.tch k
              · rw [htp] at u2
                clear G3 g1 g2
                go_quiet (fail)
                go_wp2_with fail
                go_meet
                exact ⟨rfl, (Drew.refl _).more _⟩
              · have htk := g2 htp
                rw [htp] at u2
                rw [htk] at v2
                clear G3 g1 g2
                go_quiet (fail)
                go_wp2_with fail
                go_meet
                exact ⟨rfl, (Drew.refl _).more _⟩
          case rest =>
            obtain ⟨rfl, hd2⟩ := hcut
            clear v1 v2 v3 u1 u2 G1 G2 G3
            go_wp2_with fail
            go_roundw
            case rel => exact ⟨k + 1, by go_num, by omega, hd.trans hd2⟩
            case measure => simp [intOf]; omega
      · obtain rfl : k = 4 := by omega
        rw [show ((4 : Nat) : Int) = 4 from rfl]
        have hb7 := hb6.trans (hd.below a0)
        clear r1 r2
        go_wp2_with (go_at_call 11; refine (C8.out _).mono ?_; rintro e w9 ⟨rfl, hb9⟩)
        go_ret
        exact ⟨rfl, by rw [HZ.out]; exact below_on hb7 (Nat.le_of_eq HZ.out.symm) hb9⟩
  · generalize readS x = r at *
    by_cases h1 : z < 1
    · have t1 : decide (z < 1) = true := decide_eq_true h1
      clear hin h1 hz
      go_enter Try.func5, Try.ntmps5
      go_upto_region 2 with (first
        | (go_at_call 9; refine (C1.out _).mono ?_; rintro e w2 ⟨rfl, hb⟩)
        | (refine wpList_store_row rfl 27 _ _ rfl w2.heap.size (rowOf 10 (setV r)) rfl rfl 27 (rowOf 10 (setV zeroS)) (heap_alloc_new w2 _) (by kernel_rfl) rfl (setV_one _ _) ?_))
      rw [World.setRow_alloc_new]
      have hb2 := hb.alloc hb.size (.cells (rowOf 10 (setV r)) 27)
      clear hb
      generalize World.alloc w2 _ = W3 at *
      go_wp2_with (go_at_call 11; refine (C8.out _).mono ?_; rintro e w9 ⟨rfl, hb9⟩)
      go_ret
      exact ⟨rfl, below_on hb2 (Nat.le_refl _) hb9⟩
    · have t1 : decide (z < 1) = false := decide_eq_false h1
      have t2 : decide (255 < z) = true := decide_eq_true (by omega)
      clear hin h1 hz
      go_enter Try.func5, Try.ntmps5
      go_upto_region 2 with (first
        | (go_at_call 9; refine (C1.out _).mono ?_; rintro e w2 ⟨rfl, hb⟩)
        | (refine wpList_store_row rfl 27 _ _ rfl w2.heap.size (rowOf 10 (setV r)) rfl rfl 27 (rowOf 10 (setV zeroS)) (heap_alloc_new w2 _) (by kernel_rfl) rfl (setV_one _ _) ?_))
      rw [World.setRow_alloc_new]
      have hb2 := hb.alloc hb.size (.cells (rowOf 10 (setV r)) 27)
      clear hb
      generalize World.alloc w2 _ = W3 at *
      go_wp2_with (go_at_call 11; refine (C8.out _).mono ?_; rintro e w9 ⟨rfl, hb9⟩)
      go_ret
      exact ⟨rfl, below_on hb2 (Nat.le_refl _) hb9⟩
end Go.Proofs.Ytoimbgmajoajiaa
