/- The walk of CellsHold. -/
import Derived.Test.YtdgafadbajcllaaCellsNewLaw
namespace Go.Proofs.Ytdgafadbajcllaa
set_option linter.unusedSimpArgs false
open Go.ChangeShapes Go.WideShapes Go.ChangeAt Go.RowKit

/-- A memory as the law leaves it. -/
def Good (n : Nat) (f : Nat → Nat) (x k : Nat) (s : Mem) : Prop := OkM s ∧ s.acc ≤ 10 ∧ s.n = n ∧ (∀ i, i ≠ k → s.f i = f i) ∧ s.fault = false ∧ s.wr = 2 ∧ x < 18446744073709551616
theorem good_in {n : Nat} {f : Nat → Nat} {x k : Nat} {s : Mem} (h : Good n f x k s) (h9 : s.acc ≤ 9) (a : Int) : Good n f x k (inS s a) := by
  obtain ⟨h1, h2, h3, h4, h5, h6, h7⟩ := h
  exact ⟨ok_in h1 a (by omega), by show s.acc + 1 ≤ 10; omega, h3, h4, h5, h6, h7⟩

/-- Every memory on the way. -/
theorem hold_states (n : Nat) (f : Nat → Nat) (h1 : 1 ≤ n) (h2 : n ≤ 4096) (hf : ∀ i, f i < 18446744073709551616) (k v x : Nat) (hk : k < n) (hv : v < 18446744073709551616) (hx : x < 18446744073709551616) (hvx : v ≠ x) :
    ∃ s1 s2 s3 s4 s5, storeM (mem0 n f) k v = s1 ∧ touch s1 k = s2 ∧ loadV s1 k = v ∧ casM s2 k x 5 = s3 ∧ casB s2 k x = false ∧ casM s3 k v x = s4 ∧ casB s3 k v = true ∧ loadV s4 k = x ∧ touch s4 k = s5 ∧
      (OkM s1 ∧ s1.acc < 100) ∧ (OkM s2 ∧ s2.acc < 100) ∧ (OkM s3 ∧ s3.acc < 100) ∧ (OkM s4 ∧ s4.acc < 100) ∧ Good n f x k s5 ∧ s5.acc ≤ 9 := by
  have i0 : ∀ s : Mem, s.n = n → inB s k = true := fun s e => inB_yes (by omega) (by rw [e]; omega)
  have t0 : ∀ s : Mem, s.n = n → touch s k = inS s k := fun s e => by unfold touch; rw [i0 s e]; rfl
  have l0 : ∀ s : Mem, s.n = n → loadV s k = s.f k := fun s e => by unfold loadV; rw [i0 s e]; rfl
  have m0 : OkM (mem0 n f) := mem0_ok h1 h2 hf
  have e1 : storeM (mem0 n f) k v = putS (inS (mem0 n f) k) k v := by unfold storeM; rw [i0 _ rfl]; rfl
  have p : ∀ s : Mem, OkM s → s.acc < 100 → ∀ y, y < 18446744073709551616 → OkM (putS (inS s k) k y) := fun s hs ha y hy =>
    ⟨hs.pos, hs.top, fun i => by show (if (i : Int) = (k : Int) then y else s.f i) < _; split; exact hy; exact hs.word i, (ok_in hs k (by omega)).acc0, (ok_in hs k (by omega)).acc1, by have := hs.wr0; show 0 ≤ s.wr + 1; omega, by have := hs.wr1; show s.wr + 1 ≤ s.acc + 1; omega⟩
  have o1 := p _ m0 (by show (0 : Int) < 100; omega) v hv
  have a1 : (putS (inS (mem0 n f) k) k v).f k = v := if_pos rfl
  have e3 : casB (inS (putS (inS (mem0 n f) k) k v) k) k x = false := by
    unfold casB
    rw [i0 _ rfl, show (inS (putS (inS (mem0 n f) k) k v) k).f ((k : Int)).toNat = v from a1, decide_eq_false hvx]; rfl
  have e4 : casM (inS (putS (inS (mem0 n f) k) k v) k) k x 5 = inS (inS (putS (inS (mem0 n f) k) k v) k) k := by unfold casM; rw [e3, t0 _ rfl]; rfl
  have e5 : casB (inS (inS (putS (inS (mem0 n f) k) k v) k) k) k v = true := by
    unfold casB
    rw [i0 _ rfl, show (inS (inS (putS (inS (mem0 n f) k) k v) k) k).f ((k : Int)).toNat = v from a1, decide_eq_true rfl]; rfl
  have e6 : casM (inS (inS (putS (inS (mem0 n f) k) k v) k) k) k v x = putS (inS (inS (inS (putS (inS (mem0 n f) k) k v) k) k) k) k x := by unfold casM; rw [e5]; rfl
  have o2 := ok_in o1 k (by show (1 : Int) < _; omega)
  have o3 := ok_in o2 k (by show (2 : Int) < _; omega)
  have o4 := p _ o3 (by show (3 : Int) < 100; omega) x hx
  refine ⟨_, _, _, _, _, e1, t0 _ rfl, (l0 _ rfl).trans a1, e4, e3, e6, e5, (l0 _ rfl).trans (if_pos rfl), t0 _ rfl, ⟨o1, by show (1 : Int) < 100; omega⟩, ⟨o2, by show (2 : Int) < 100; omega⟩, ⟨o3, by show (3 : Int) < 100; omega⟩, ⟨o4, by show (4 : Int) < 100; omega⟩,
    ⟨ok_in o4 k (by show (4 : Int) < _; omega), by show (5 : Int) ≤ 10; omega, rfl, fun i hi => ?_, rfl, rfl, hx⟩, by show (5 : Int) ≤ 9; omega⟩
  have hne : ¬ (i : Int) = (k : Int) := by omega
  exact (if_neg hne).trans (if_neg hne)

section
variable (A : Option Addr) (n c : Nat) (f : Nat → Nat) (a0 a2 : Int) (v : Nat) (w : World)

theorem cellsHold_long (hl : 500 < n) : Calls Try.prog 5 #[.slice A n c, .agg #[.int .i64 a0, .int .i64 a2], .int .u64 v] w fun e w' => e = .returned (.bool true) ∧ Below w.heap.size w w' := by
  have C9 := Lib.hid fun W => cLives W
  go_enter Try.func5, Try.ntmps5
  go_upto_region 1 with fail
  generalize hW : World.alloc _ _ = W
  have hB : Below w.heap.size w W := by rw [← hW]; exact (Below.refl _ _).alloc (Nat.le_refl _) _
  clear hW
  generalize hz : w.heap.size = a1 at *
  have HZ := Lib.hid hz; clear hz
  have HB := Lib.hid hB; clear hB
  go_wp2_with (go_at_call 7; refine (C9.out _).mono ?_; rintro e w5 ⟨rfl, hb5⟩)
  go_ret
  exact ⟨rfl, by rw [HZ.out]; exact below_on HB.out (Nat.le_of_eq HZ.out.symm) hb5⟩

theorem cellsHold_none (hl : n < 1) : Calls Try.prog 5 #[.slice A n c, .agg #[.int .i64 a0, .int .i64 a2], .int .u64 v] w fun e w' => e = .returned (.bool true) ∧ Below w.heap.size w w' := by
  have C9 := Lib.hid fun W => cLives W
  obtain rfl : n = 0 := by omega
  have C1 := Lib.hid fun W => cOf_no A 0 c (by omega) (by omega) W
  go_enter Try.func5, Try.ntmps5
  go_upto_region 1 with fail
  generalize hW : World.alloc _ _ = W
  have hB : Below w.heap.size w W := by rw [← hW]; exact (Below.refl _ _).alloc (Nat.le_refl _) _
  clear hW
  generalize hz : w.heap.size = a1 at *
  have HZ := Lib.hid hz; clear hz
  have HB := Lib.hid hB; clear hB
  go_wp2_with (first | (go_at_call 7; refine (C9.out _).mono ?_; rintro e w5 ⟨rfl, hb5⟩) | (go_at_call 6; refine (C1.out _).mono ?_; rintro e w' ⟨rfl, rfl⟩))
  go_ret
  exact ⟨rfl, by rw [HZ.out]; exact below_on HB.out (Nat.le_of_eq HZ.out.symm) hb5⟩

theorem cellsHold_out (h1 : 1 ≤ n) (h2 : n ≤ 500) (ho : a0 < 0 ∨ n ≤ a0) (hr : RowIs w A n (us f)) : Calls Try.prog 5 #[.slice A n c, .agg #[.int .i64 a0, .int .i64 a2], .int .u64 v] w fun e w' => e = .returned (.bool true) ∧ Below w.heap.size w w' := by
  have C9 := Lib.hid fun W => cLives W
  have C1 := Lib.hid fun W hr => cOf_yes A n c f h1 (by omega) W hr
  go_enter Try.func5, Try.ntmps5
  go_upto_region 1 with fail
  generalize hW : World.alloc _ _ = W
  have hrw : Row W w.heap.size 45 2 (fun i => if i = 0 then .int .i64 a0 else .int .i64 a2) := by rw [← hW]; exact Row.new _ _ _ _ _ rfl
  have hB : Below w.heap.size w W := by rw [← hW]; exact (Below.refl _ _).alloc (Nat.le_refl _) _
  clear hW
  have hrW := hr.below hB
  generalize hz : w.heap.size = a1 at *
  have HZ := Lib.hid hz; clear hz
  have HB := Lib.hid (And.intro hB (And.intro hrw hrW)); clear hB hrw hrW hr
  go_upto_region 4 with (go_at_call 6; refine (C1.out _ HB.out.2.2).mono ?_; rintro e w1 ⟨g, h, rfl, hm1, hb1, hg, hh⟩)
  have x0 : w1.cell? ⟨a1, 0, none⟩ = some (.int .i64 a0) := (HB.out.2.1.keep hb1).cell (i := 0) (by omega)
  clear hm1
  have q1 := below_on HB.out.1 (Nat.le_of_eq HZ.out.symm) hb1
  clear hb1 hg hh
  rcases ho with ho | ho
  · go_wp2_with (go_at_call 7; refine (C9.out _).mono ?_; rintro e w5 ⟨rfl, hb5⟩)
    go_ret
    exact ⟨rfl, by rw [HZ.out]; exact below_on q1 (Nat.le_of_eq HZ.out.symm) hb5⟩
  · by_cases h0 : a0 < 0
    · omega
    go_wp2_with (go_at_call 7; refine (C9.out _).mono ?_; rintro e w5 ⟨rfl, hb5⟩)
    go_ret
    exact ⟨rfl, by rw [HZ.out]; exact below_on q1 (Nat.le_of_eq HZ.out.symm) hb5⟩

set_option maxHeartbeats 2000000 in
theorem cellsHold_in (h1 : 1 ≤ n) (h2 : n ≤ 500) (k : Nat) (hk : k < n) (hf : ∀ i, f i < 18446744073709551616) (hv : v < 18446744073709551616) (hr : RowIs w A n (us f)) : Calls Try.prog 5 #[.slice A n c, .agg #[.int .i64 (k : Nat), .int .i64 a2], .int .u64 v] w fun e w' => e = .returned (.bool true) ∧ Below w.heap.size w w' := by
  obtain ⟨x, hx, hxv⟩ : ∃ x : Nat, x < 18446744073709551616 ∧ x = (v + 1) % 18446744073709551616 := ⟨_, Nat.mod_lt _ (by omega), rfl⟩
  have hvx : v ≠ x := by omega
  have hadd : IntKind.u64.wrap ((v : Int) + 1) = (x : Int) := by rw [hxv, IntKind.wrap_u64]; omega
  obtain ⟨s1, s2, s3, s4, s5, e1, e2, e3, e4, e5, e6, e7, e8, e9, o1, o2, o3, o4, hG, hG9⟩ := hold_states n f h1 (by omega) hf k v x hk hv hx hvx
  have C9 := Lib.hid fun W => cLives W
  have C1 := Lib.hid fun W hr => cOf_yes A n c f h1 (by omega) W hr
  have C2 := fun g h W hm => cStore_any (mem0 n f) (mem0_ok h1 (by omega) hf) (by show (0 : Int) < _; omega) g h k W hm v
  have C3 := fun g h W hm => cLoad_any s1 o1.1 g h k W hm
  have C4 := fun g h W hm => cCas_any s2 o2.1 (by have := o2.2; omega) g h k W hm x 5
  have C5 := fun g h W hm => cCas_any s3 o3.1 (by have := o3.2; omega) g h k W hm v x
  have C6 := fun g h W hm => cLoad_any s4 o4.1 g h k W hm
  rw [e1] at C2
  rw [e2, e3] at C3
  rw [e4, e5] at C4
  rw [e6, e7] at C5
  rw [e8, e9] at C6
  have C4' : ∀ g h W, MemIs W g h s2 → Calls Try.prog 20 #[.pointer (some ⟨g, 0, none⟩), .int .i64 (k : Nat), .int .u64 (x : Nat), .int .u64 5] W fun e w' => e = .returned (.bool false) ∧ MemIs w' g h s3 ∧ Only (Two g h) W w' := C4
  clear C4
  have C2h := Lib.hid C2; have C3h := Lib.hid C3; have C4h := Lib.hid C4'; have C5h := Lib.hid C5; have C6h := Lib.hid C6
  clear C2 C3 C4' C5 C6
  have HG := Lib.hid (And.intro hG hG9)
  clear e1 e2 e3 e4 e5 e6 e7 e8 e9 o1 o2 o3 o4 hG hG9 hxv
  go_enter Try.func5, Try.ntmps5
  go_upto_region 1 with fail
  generalize hW : World.alloc _ _ = W
  have hrw : Row W w.heap.size 45 2 (fun i => if i = 0 then .int .i64 (k : Nat) else .int .i64 a2) := by rw [← hW]; exact Row.new _ _ _ _ _ rfl
  have hB : Below w.heap.size w W := by rw [← hW]; exact (Below.refl _ _).alloc (Nat.le_refl _) _
  clear hW
  have hrW := hr.below hB
  generalize hz : w.heap.size = a1 at *
  have HZ := Lib.hid hz; clear hz
  have HB := Lib.hid (And.intro hB (And.intro hrw hrW)); clear hB hrw hrW
  go_upto_region 4 with (go_at_call 6; refine (C1.out _ HB.out.2.2).mono ?_; rintro e w1 ⟨g, h, rfl, hm1, hb1, hg, hh⟩)
  have hlt := HB.out.2.1.lt
  have x0 : w1.cell? ⟨a1, 0, none⟩ = some (.int .i64 (k : Nat)) := (HB.out.2.1.keep hb1).cell (i := 0) (by omega)
  have x1 : w1.cell? ⟨a1, 1, none⟩ = some (.int .i64 a2) := (HB.out.2.1.keep hb1).cell (i := 1) (by omega)
  have q1 := below_on HB.out.1 (Nat.le_of_eq HZ.out.symm) hb1
  have HX : Hid (∀ w2, Only (Two g h) w1 w2 → w2.cell? ⟨a1, 0, none⟩ = some (.int .i64 (k : Nat)) ∧ w2.cell? ⟨a1, 1, none⟩ = some (.int .i64 a2) ∧ Below a1 w w2) := Lib.hid fun w2 ho =>
    ⟨by rw [only_cell ho (a := ⟨a1, 0, none⟩) (Nat.lt_of_lt_of_le hlt hb1.size) (by rintro (e | e) <;> (have e' : a1 = _ := e; omega))]; exact x0,
      by rw [only_cell ho (a := ⟨a1, 1, none⟩) (Nat.lt_of_lt_of_le hlt hb1.size) (by rintro (e | e) <;> (have e' : a1 = _ := e; omega))]; exact x1,
      below_two q1 (Nat.le_of_eq HZ.out.symm) ho (by omega) (by omega)⟩
  have H1 := Lib.hid (And.intro hm1 (And.intro hg hh))
  clear hm1 hg hh hb1 q1 x1
  go_upto_region 7 with (go_at_call 18; refine (C2h.out _ _ _ H1.out.1).mono ?_; rintro e w2 ⟨rfl, hm2, ho2⟩)
  clear x0
  obtain ⟨x0, x1, -⟩ := HX.out _ ho2
  have H2 := Lib.hid hm2; have O2 := Lib.hid ho2
  clear hm2 ho2
  go_upto_region 9 with (first | (go_at_call 19; with_reducible refine (C3h.out _ _ _ H2.out).mono ?_; rintro e w3 ⟨rfl, hm3, ho3'⟩; have ho3 := O2.out.trans ho3'; clear ho3' x0 x1; obtain ⟨x0, x1, -⟩ := HX.out _ ho3) | (go_at_call 20; with_reducible refine (C4h.out _ _ _ hm3).mono ?_; rintro e w4 ⟨rfl, hm4, ho4'⟩; have ho4 := ho3.trans ho4'; clear ho4' x0 x1; obtain ⟨x0, x1, -⟩ := HX.out _ ho4) | (go_at_call 20; with_reducible refine (C5h.out _ _ _ hm4).mono ?_; rintro e w5 ⟨rfl, hm5, ho5'⟩; have ho5 := ho4.trans ho5'; clear ho5' x0 x1; obtain ⟨x0, x1, -⟩ := HX.out _ ho5) | (go_at_call 19; with_reducible refine (C6h.out _ _ _ hm5).mono ?_; rintro e w6 ⟨rfl, hm6, ho6'⟩; have ho6 := ho5.trans ho6'; clear ho6' x0 x1; obtain ⟨x0, x1, xB⟩ := HX.out _ ho6))
  have hX6 := Lib.hid (And.intro hm6 (And.intro xB (And.intro H1.out.2 ho6)))
  clear C2h C3h C4h C5h C6h HX C1 hm3 ho3 hm4 ho4 hm5 ho5 hm6 ho6 xB H1 H2 O2 hadd
  by_cases p0 : 0 ≤ a2
  · by_cases p1 : a2 < n
    · by_cases p2 : a2 = k
      · subst p2
        go_region
        have hm9 : MemIs w6.drew g h s5 := ⟨hX6.out.1.row, hX6.out.1.words, hX6.out.1.ne⟩
        have hB9 := hX6.out.2.1.drew
        have hG := And.intro HG.out.1.2.2.2.2.1 HG.out.1.2.2.2.2.2.1
        generalize World.drew _ = W9 at *
        generalize s5 = s9 at *
        obtain ⟨g5, g6⟩ := hG
        have D1 := cFault_any s9 g h _ hm9
        have D2 := cWrites_any s9 g h _ hm9
        rw [g5] at D1
        rw [g6] at D2
        have E1 := Lib.hid D1; have E2 := Lib.hid D2; have E3 := Lib.hid hB9
        clear D1 D2 hB9 hm9 g5 g6
        go_wp2_with (first | (go_at_call 15; with_reducible refine (E1.out).mono ?_; rintro e w' ⟨rfl, rfl⟩) | (go_at_call 14; with_reducible refine (E2.out).mono ?_; rintro e w' ⟨rfl, rfl⟩) | (go_at_call 7; refine (C9.out _).mono ?_; rintro e w8 ⟨rfl, hb8⟩))
        go_ret
        exact ⟨rfl, by rw [HZ.out]; exact below_on E3.out (Nat.le_of_eq HZ.out.symm) hb8⟩
      · obtain ⟨k2, rfl⟩ : ∃ k2 : Nat, a2 = k2 := ⟨a2.toNat, by omega⟩
        have hk2 : k2 < n := by omega
        obtain ⟨b, off, rfl, hbb, hcell⟩ := hr (by omega)
        have hG5 := HG.out.1
        have hne : k2 ≠ k := fun e => p2 (by rw [e])
        have hm9 : MemIs w6.drew g h s5 := ⟨hX6.out.1.row, hX6.out.1.words, hX6.out.1.ne⟩
        have hin : inB s5 (k2 : Nat) = true := inB_yes (by omega) (by rw [hG5.2.2.1]; omega)
        have ht : touch s5 (k2 : Nat) = inS s5 (k2 : Nat) := by unfold touch; rw [hin]; rfl
        have hlv : loadV s5 (k2 : Nat) = f k2 := by unfold loadV; rw [hin]; exact hG5.2.2.2.1 k2 hne
        have CL := cLoad_any s5 hG5.1 g h k2 w6.drew hm9
        rw [ht, hlv] at CL
        have xw : w6.drew.cell? ⟨b, off + k2, none⟩ = some (.int .u64 (f k2 : Nat)) := by
          rw [hX6.out.2.1.drew.cell (p := ⟨b, off + k2, none⟩) (by rw [← HZ.out]; exact hbb)]; exact hcell k2 hk2
        have hba : b < a1 := by rw [← HZ.out]; exact hbb
        have hga : a1 < g ∧ a1 < h := ⟨by have := hX6.out.2.2.1.1; omega, by have := hX6.out.2.2.1.2; omega⟩
        have hsz : a1 < w6.drew.heap.size := Nat.lt_trans hga.1 hm9.row.lt
        have hst : (fun w' : World => Below a1 w w' ∧ w'.cell? ⟨a1, 0, none⟩ = some (.int .i64 (k : Nat)) ∧ w'.cell? ⟨a1, 1, none⟩ = some (.int .i64 (k2 : Nat)) ∧ w'.cell? ⟨b, off + k2, none⟩ = some (.int .u64 (f k2 : Nat)) ∧ ∃ s' : Mem, s'.fault = false ∧ s'.wr = 2 ∧ MemIs w' g h s') w6.drew := ⟨hX6.out.2.1.drew, x0, x1, xw, s5, hG5.2.2.2.2.1, hG5.2.2.2.2.2.1, hm9⟩
        have hkeepL : ∀ w2 : World, MemIs w2 g h (inS s5 (k2 : Nat)) → Only (Two g h) w6.drew w2 → (fun w' : World => Below a1 w w' ∧ w'.cell? ⟨a1, 0, none⟩ = some (.int .i64 (k : Nat)) ∧ w'.cell? ⟨a1, 1, none⟩ = some (.int .i64 (k2 : Nat)) ∧ w'.cell? ⟨b, off + k2, none⟩ = some (.int .u64 (f k2 : Nat)) ∧ ∃ s' : Mem, s'.fault = false ∧ s'.wr = 2 ∧ MemIs w' g h s') w2 := by
          intro w2 hm ho
          refine ⟨Below.only hX6.out.2.1.drew ho (Nat.le_of_lt hsz) (fun i hi => by rcases hi with rfl | rfl <;> omega), ?_, ?_, ?_, inS s5 (k2 : Nat), hG5.2.2.2.2.1, hG5.2.2.2.2.2.1, hm⟩
          · rw [only_cell ho (a := ⟨a1, 0, none⟩) hsz (by rintro (e | e) <;> (have e' : a1 = _ := e; omega))]; exact x0
          · rw [only_cell ho (a := ⟨a1, 1, none⟩) hsz (by rintro (e | e) <;> (have e' : a1 = _ := e; omega))]; exact x1
          · rw [only_cell ho (a := ⟨b, off + k2, none⟩) (Nat.lt_trans hba hsz) (by rintro (e | e) <;> (have e' : b = _ := e; omega))]; exact xw
        have t0 : decide ((0 : Int) ≤ (k2 : Int)) = true := by simp
        have t1 : decide (k2 < n) = true := by simp [hk2]
        have t2 : ((k2 : Int) != (k : Int)) = true := by simp; omega
        have t3 : decide ((k2 : Int) < (n : Int)) = true := by simp [hk2]
        have HS := Lib.hid hst; have CLh := Lib.hid CL
        clear hst CL hlv ht hin hG5 hm9 xw hba hsz hbb hcell hga x0 x1 p2
        refine wp_region_noPanic ?_
        refine wp_region_held_drew (S := fun w' => Below a1 w w' ∧ w'.cell? ⟨a1, 0, none⟩ = some (.int .i64 (k : Nat)) ∧ w'.cell? ⟨a1, 1, none⟩ = some (.int .i64 (k2 : Nat)) ∧ w'.cell? ⟨b, off + k2, none⟩ = some (.int .u64 (f k2 : Nat)) ∧ ∃ s' : Mem, s'.fault = false ∧ s'.wr = 2 ∧ MemIs w' g h s') (by kernel_rfl) (HS.out) (fun hHeld => ?_)
        (refine wpAnyH_take (i := 0) (v := ?_) rfl (by kernel_rfl) (by kernel_rfl) (by kernel_rfl) (fun _ _ _ h => h) (Or.inl ⟨by rfl, ?_⟩) hHeld ?_; rotate_left; focus (intro w hSw; (try dsimp only at hSw); go_simp; (try with_reducible rfl)))
        try simp only [Act.put, List.getElem_toArray, List.getElem_cons_succ, List.getElem_cons_zero, List.setIfInBounds_toArray, List.set_cons_zero, List.set_cons_succ]
        (refine wpAnyH_take (i := 1) (v := ?_) rfl (by kernel_rfl) (by kernel_rfl) (by kernel_rfl) (fun _ _ _ h => h) (Or.inl ⟨by rfl, ?_⟩) hHeld ?_; rotate_left; focus (intro w hSw; (try dsimp only at hSw); go_simp; (try with_reducible rfl)))
        try simp only [Act.put, List.getElem_toArray, List.getElem_cons_succ, List.getElem_cons_zero, List.setIfInBounds_toArray, List.set_cons_zero, List.set_cons_succ]
        (refine wpAnyH_take (i := 2) (v := ?_) rfl (by kernel_rfl) (by kernel_rfl) (by kernel_rfl) (fun _ _ _ h => h) (Or.inl ⟨by rfl, ?_⟩) hHeld ?_; rotate_left; focus (intro w hSw; (try dsimp only at hSw); go_simp; (try with_reducible rfl)))
        try simp only [Act.put, List.getElem_toArray, List.getElem_cons_succ, List.getElem_cons_zero, List.setIfInBounds_toArray, List.set_cons_zero, List.set_cons_succ]
        (refine wpAnyH_take (i := 3) (v := ?_) rfl (by kernel_rfl) (by kernel_rfl) (by kernel_rfl) (fun _ _ _ h => h) (Or.inl ⟨by rfl, ?_⟩) hHeld ?_; rotate_left; focus (intro w hSw; (try dsimp only at hSw); go_simp; (try with_reducible rfl)))
        try simp only [Act.put, List.getElem_toArray, List.getElem_cons_succ, List.getElem_cons_zero, List.setIfInBounds_toArray, List.set_cons_zero, List.set_cons_succ]
        first | (refine wpAnyH_take (i := 4) rfl (by kernel_rfl) (by kernel_rfl) (by kernel_rfl) (fun _ _ _ h => h) (Or.inr ⟨by rfl, rfl⟩) hHeld ?_) | (refine wpAnyH_take (i := 4) (v := ?_) rfl (by kernel_rfl) (by kernel_rfl) (by kernel_rfl) (fun _ _ _ h => h) (Or.inl ⟨by rfl, ?_⟩) hHeld ?_; rotate_left; focus (intro w hSw; (try dsimp only at hSw); go_simp; (try with_reducible rfl)))
        try simp only [Act.put, List.getElem_toArray, List.getElem_cons_succ, List.getElem_cons_zero, List.setIfInBounds_toArray, List.set_cons_zero, List.set_cons_succ]
        first | (refine wpAnyH_take (i := 5) rfl (by kernel_rfl) (by kernel_rfl) (by kernel_rfl) (fun _ _ _ h => h) (Or.inr ⟨by rfl, rfl⟩) hHeld ?_) | (refine wpAnyH_take (i := 5) (v := ?_) rfl (by kernel_rfl) (by kernel_rfl) (by kernel_rfl) (fun _ _ _ h => h) (Or.inl ⟨by rfl, ?_⟩) hHeld ?_; rotate_left; focus (intro w hSw; (try dsimp only at hSw); go_simp; (try with_reducible rfl)))
        try simp only [Act.put, List.getElem_toArray, List.getElem_cons_succ, List.getElem_cons_zero, List.setIfInBounds_toArray, List.set_cons_zero, List.set_cons_succ]
        first | (refine wpAnyH_take (i := 6) rfl (by kernel_rfl) (by kernel_rfl) (by kernel_rfl) (fun _ _ _ h => h) (Or.inr ⟨by rfl, rfl⟩) hHeld ?_) | (refine wpAnyH_take (i := 6) (v := ?_) rfl (by kernel_rfl) (by kernel_rfl) (by kernel_rfl) (fun _ _ _ h => h) (Or.inl ⟨by rfl, ?_⟩) hHeld ?_; rotate_left; focus (intro w hSw; (try dsimp only at hSw); go_simp; (try with_reducible rfl)))
        try simp only [Act.put, List.getElem_toArray, List.getElem_cons_succ, List.getElem_cons_zero, List.setIfInBounds_toArray, List.set_cons_zero, List.set_cons_succ]
        first | (refine wpAnyH_take (i := 7) rfl (by kernel_rfl) (by kernel_rfl) (by kernel_rfl) (fun _ _ _ h => h) (Or.inr ⟨by rfl, rfl⟩) hHeld ?_) | (refine wpAnyH_take (i := 7) (v := ?_) rfl (by kernel_rfl) (by kernel_rfl) (by kernel_rfl) (fun _ _ _ h => h) (Or.inl ⟨by rfl, ?_⟩) hHeld ?_; rotate_left; focus (intro w hSw; (try dsimp only at hSw); go_simp; (try with_reducible rfl)))
        try simp only [Act.put, List.getElem_toArray, List.getElem_cons_succ, List.getElem_cons_zero, List.setIfInBounds_toArray, List.set_cons_zero, List.set_cons_succ]
        first | (refine wpAnyH_take (i := 8) rfl (by kernel_rfl) (by kernel_rfl) (by kernel_rfl) (fun _ _ _ h => h) (Or.inr ⟨by rfl, rfl⟩) hHeld ?_) | (refine wpAnyH_take (i := 8) (v := ?_) rfl (by kernel_rfl) (by kernel_rfl) (by kernel_rfl) (fun _ _ _ h => h) (Or.inl ⟨by rfl, ?_⟩) hHeld ?_; rotate_left; focus (intro w hSw; (try dsimp only at hSw); go_simp; (try with_reducible rfl)))
        try simp only [Act.put, List.getElem_toArray, List.getElem_cons_succ, List.getElem_cons_zero, List.setIfInBounds_toArray, List.set_cons_zero, List.set_cons_succ]
        (refine wpAnyH_take (i := 9) (v := ?_) rfl (by kernel_rfl) (by kernel_rfl) (by kernel_rfl) (fun _ _ _ h => h) (Or.inl ⟨by rfl, ?_⟩) hHeld ?_; rotate_left; focus (intro w hSw; (try dsimp only at hSw); go_simp; (try with_reducible rfl)))
        try simp only [Act.put, List.getElem_toArray, List.getElem_cons_succ, List.getElem_cons_zero, List.setIfInBounds_toArray, List.set_cons_zero, List.set_cons_succ]
        (refine wpAnyH_take (i := 10) (v := ?_) rfl (by kernel_rfl) (by kernel_rfl) (by kernel_rfl) (fun _ _ _ h => h) (Or.inl ⟨by rfl, ?_⟩) hHeld ?_; rotate_left; focus (intro w hSw; (try dsimp only at hSw); go_simp; (try with_reducible rfl)))
        try simp only [Act.put, List.getElem_toArray, List.getElem_cons_succ, List.getElem_cons_zero, List.setIfInBounds_toArray, List.set_cons_zero, List.set_cons_succ]
        first | (refine wpAnyH_take (i := 11) rfl (by kernel_rfl) (by kernel_rfl) (by kernel_rfl) (fun _ _ _ h => h) (Or.inr ⟨by rfl, rfl⟩) hHeld ?_) | (refine wpAnyH_take (i := 11) (v := ?_) rfl (by kernel_rfl) (by kernel_rfl) (by kernel_rfl) (fun _ _ _ h => h) (Or.inl ⟨by rfl, ?_⟩) hHeld ?_; rotate_left; focus (intro w hSw; (try dsimp only at hSw); go_simp; (try with_reducible rfl)))
        try simp only [Act.put, List.getElem_toArray, List.getElem_cons_succ, List.getElem_cons_zero, List.setIfInBounds_toArray, List.set_cons_zero, List.set_cons_succ]
        first | (refine wpAnyH_take (i := 12) rfl (by kernel_rfl) (by kernel_rfl) (by kernel_rfl) (fun _ _ _ h => h) (Or.inr ⟨by rfl, rfl⟩) hHeld ?_) | (refine wpAnyH_take (i := 12) (v := ?_) rfl (by kernel_rfl) (by kernel_rfl) (by kernel_rfl) (fun _ _ _ h => h) (Or.inl ⟨by rfl, ?_⟩) hHeld ?_; rotate_left; focus (intro w hSw; (try dsimp only at hSw); go_simp; (try with_reducible rfl)))
        try simp only [Act.put, List.getElem_toArray, List.getElem_cons_succ, List.getElem_cons_zero, List.setIfInBounds_toArray, List.set_cons_zero, List.set_cons_succ]
        first | (refine wpAnyH_take (i := 13) rfl (by kernel_rfl) (by kernel_rfl) (by kernel_rfl) (fun _ _ _ h => h) (Or.inr ⟨by rfl, rfl⟩) hHeld ?_) | (refine wpAnyH_take (i := 13) (v := ?_) rfl (by kernel_rfl) (by kernel_rfl) (by kernel_rfl) (fun _ _ _ h => h) (Or.inl ⟨by rfl, ?_⟩) hHeld ?_; rotate_left; focus (intro w hSw; (try dsimp only at hSw); go_simp; (try with_reducible rfl)))
        try simp only [Act.put, List.getElem_toArray, List.getElem_cons_succ, List.getElem_cons_zero, List.setIfInBounds_toArray, List.set_cons_zero, List.set_cons_succ]
        first | (refine wpAnyH_take (i := 14) rfl (by kernel_rfl) (by kernel_rfl) (by kernel_rfl) (fun _ _ _ h => h) (Or.inr ⟨by rfl, rfl⟩) hHeld ?_) | (refine wpAnyH_take (i := 14) (v := ?_) rfl (by kernel_rfl) (by kernel_rfl) (by kernel_rfl) (fun _ _ _ h => h) (Or.inl ⟨by rfl, ?_⟩) hHeld ?_; rotate_left; focus (intro w hSw; (try dsimp only at hSw); go_simp; (try with_reducible rfl)))
        try simp only [Act.put, List.getElem_toArray, List.getElem_cons_succ, List.getElem_cons_zero, List.setIfInBounds_toArray, List.set_cons_zero, List.set_cons_succ]
        first | (refine wpAnyH_take (i := 15) rfl (by kernel_rfl) (by kernel_rfl) (by kernel_rfl) (fun _ _ _ h => h) (Or.inr ⟨by rfl, rfl⟩) hHeld ?_) | (refine wpAnyH_take (i := 15) (v := ?_) rfl (by kernel_rfl) (by kernel_rfl) (by kernel_rfl) (fun _ _ _ h => h) (Or.inl ⟨by rfl, ?_⟩) hHeld ?_; rotate_left; focus (intro w hSw; (try dsimp only at hSw); go_simp; (try with_reducible rfl)))
        try simp only [Act.put, List.getElem_toArray, List.getElem_cons_succ, List.getElem_cons_zero, List.setIfInBounds_toArray, List.set_cons_zero, List.set_cons_succ]
        (refine wpAnyH_take (i := 16) (v := ?_) rfl (by kernel_rfl) (by kernel_rfl) (by kernel_rfl) (fun _ _ _ h => h) (Or.inl ⟨by rfl, ?_⟩) hHeld ?_; rotate_left; focus (intro w hSw; (try dsimp only at hSw); go_simp; (try with_reducible rfl)))
        try simp only [Act.put, List.getElem_toArray, List.getElem_cons_succ, List.getElem_cons_zero, List.setIfInBounds_toArray, List.set_cons_zero, List.set_cons_succ]
        (refine wpAnyH_take (i := 17) (v := ?_) rfl (by kernel_rfl) (by kernel_rfl) (by kernel_rfl) (fun _ _ _ h => h) (Or.inl ⟨by rfl, ?_⟩) hHeld ?_; rotate_left; focus (intro w hSw; (try dsimp only at hSw); go_simp; (try with_reducible rfl)))
        try simp only [Act.put, List.getElem_toArray, List.getElem_cons_succ, List.getElem_cons_zero, List.setIfInBounds_toArray, List.set_cons_zero, List.set_cons_succ]
        first | (refine wpAnyH_take (i := 18) rfl (by kernel_rfl) (by kernel_rfl) (by kernel_rfl) (fun _ _ _ h => h) (Or.inr ⟨by rfl, rfl⟩) hHeld ?_) | (refine wpAnyH_take (i := 18) (v := ?_) rfl (by kernel_rfl) (by kernel_rfl) (by kernel_rfl) (fun _ _ _ h => h) (Or.inl ⟨by rfl, ?_⟩) hHeld ?_; rotate_left; focus (intro w hSw; (try dsimp only at hSw); go_simp; (try with_reducible rfl)))
        try simp only [Act.put, List.getElem_toArray, List.getElem_cons_succ, List.getElem_cons_zero, List.setIfInBounds_toArray, List.set_cons_zero, List.set_cons_succ]
        first | (refine wpAnyH_take (i := 19) rfl (by kernel_rfl) (by kernel_rfl) (by kernel_rfl) (fun _ _ _ h => h) (Or.inr ⟨by rfl, rfl⟩) hHeld ?_) | (refine wpAnyH_take (i := 19) (v := ?_) rfl (by kernel_rfl) (by kernel_rfl) (by kernel_rfl) (fun _ _ _ h => h) (Or.inl ⟨by rfl, ?_⟩) hHeld ?_; rotate_left; focus (intro w hSw; (try dsimp only at hSw); go_simp; (try with_reducible rfl)))
        try simp only [Act.put, List.getElem_toArray, List.getElem_cons_succ, List.getElem_cons_zero, List.setIfInBounds_toArray, List.set_cons_zero, List.set_cons_succ]
        first | (refine wpAnyH_take (i := 20) rfl (by kernel_rfl) (by kernel_rfl) (by kernel_rfl) (fun _ _ _ h => h) (Or.inr ⟨by rfl, rfl⟩) hHeld ?_) | (refine wpAnyH_take (i := 20) (v := ?_) rfl (by kernel_rfl) (by kernel_rfl) (by kernel_rfl) (fun _ _ _ h => h) (Or.inl ⟨by rfl, ?_⟩) hHeld ?_; rotate_left; focus (intro w hSw; (try dsimp only at hSw); go_simp; (try with_reducible rfl)))
        try simp only [Act.put, List.getElem_toArray, List.getElem_cons_succ, List.getElem_cons_zero, List.setIfInBounds_toArray, List.set_cons_zero, List.set_cons_succ]
        first | (refine wpAnyH_take (i := 22) rfl (by kernel_rfl) (by kernel_rfl) (by kernel_rfl) (fun _ _ _ h => h) (Or.inr ⟨by rfl, rfl⟩) hHeld ?_) | (refine wpAnyH_take (i := 22) (v := ?_) rfl (by kernel_rfl) (by kernel_rfl) (by kernel_rfl) (fun _ _ _ h => h) (Or.inl ⟨by rfl, ?_⟩) hHeld ?_; rotate_left; focus (intro w hSw; (try dsimp only at hSw); go_simp; (try with_reducible rfl)))
        try simp only [Act.put, List.getElem_toArray, List.getElem_cons_succ, List.getElem_cons_zero, List.setIfInBounds_toArray, List.set_cons_zero, List.set_cons_succ]
        first | (refine wpAnyH_take (i := 23) rfl (by kernel_rfl) (by kernel_rfl) (by kernel_rfl) (fun _ _ _ h => h) (Or.inr ⟨by rfl, rfl⟩) hHeld ?_) | (refine wpAnyH_take (i := 23) (v := ?_) rfl (by kernel_rfl) (by kernel_rfl) (by kernel_rfl) (fun _ _ _ h => h) (Or.inl ⟨by rfl, ?_⟩) hHeld ?_; rotate_left; focus (intro w hSw; (try dsimp only at hSw); go_simp; (try with_reducible rfl)))
        try simp only [Act.put, List.getElem_toArray, List.getElem_cons_succ, List.getElem_cons_zero, List.setIfInBounds_toArray, List.set_cons_zero, List.set_cons_succ]
        first | (refine wpAnyH_take (i := 24) rfl (by kernel_rfl) (by kernel_rfl) (by kernel_rfl) (fun _ _ _ h => h) (Or.inr ⟨by rfl, rfl⟩) hHeld ?_) | (refine wpAnyH_take (i := 24) (v := ?_) rfl (by kernel_rfl) (by kernel_rfl) (by kernel_rfl) (fun _ _ _ h => h) (Or.inl ⟨by rfl, ?_⟩) hHeld ?_; rotate_left; focus (intro w hSw; (try dsimp only at hSw); go_simp; (try with_reducible rfl)))
        try simp only [Act.put, List.getElem_toArray, List.getElem_cons_succ, List.getElem_cons_zero, List.setIfInBounds_toArray, List.set_cons_zero, List.set_cons_succ]
        first | (refine wpAnyH_take (i := 25) rfl (by kernel_rfl) (by kernel_rfl) (by kernel_rfl) (fun _ _ _ h => h) (Or.inr ⟨by rfl, rfl⟩) hHeld ?_) | (refine wpAnyH_take (i := 25) (v := ?_) rfl (by kernel_rfl) (by kernel_rfl) (by kernel_rfl) (fun _ _ _ h => h) (Or.inl ⟨by rfl, ?_⟩) hHeld ?_; rotate_left; focus (intro w hSw; (try dsimp only at hSw); go_simp; (try with_reducible rfl)))
        try simp only [Act.put, List.getElem_toArray, List.getElem_cons_succ, List.getElem_cons_zero, List.setIfInBounds_toArray, List.set_cons_zero, List.set_cons_succ]
        first | (refine wpAnyH_take (i := 26) rfl (by kernel_rfl) (by kernel_rfl) (by kernel_rfl) (fun _ _ _ h => h) (Or.inr ⟨by rfl, rfl⟩) hHeld ?_) | (refine wpAnyH_take (i := 26) (v := ?_) rfl (by kernel_rfl) (by kernel_rfl) (by kernel_rfl) (fun _ _ _ h => h) (Or.inl ⟨by rfl, ?_⟩) hHeld ?_; rotate_left; focus (intro w hSw; (try dsimp only at hSw); go_simp; (try with_reducible rfl)))
        try simp only [Act.put, List.getElem_toArray, List.getElem_cons_succ, List.getElem_cons_zero, List.setIfInBounds_toArray, List.set_cons_zero, List.set_cons_succ]
        first | (refine wpAnyH_take (i := 21) rfl (by kernel_rfl) (by kernel_rfl) (by kernel_rfl) (fun _ _ _ h => h) (Or.inr ⟨by rfl, rfl⟩) hHeld ?_) | (refine wpAnyH_ready (rs := [21]) (by kernel_rfl) (by simp) ?_; refine AllReadyH.cons rfl (fun K hK => ?_) AllReadyH.nil; go_simp; (go_at_call 19; with_reducible refine (CLh.out).mono ?_; rintro e w' ⟨rfl, hmL, hoL⟩); (try go_wp2_with fail); refine hK.out _ _ ?_ (fun hHeld' => ?_); (focus (first | exact hkeepL _ hmL hoL | exact hHeld)); clear hK K; replace hHeld := hHeld'; clear hHeld')
        try simp only [Act.put, List.getElem_toArray, List.getElem_cons_succ, List.getElem_cons_zero, List.setIfInBounds_toArray, List.set_cons_zero, List.set_cons_succ]
        first | (refine wpAnyH_take (i := 27) rfl (by kernel_rfl) (by kernel_rfl) (by kernel_rfl) (fun _ _ _ h => h) (Or.inr ⟨by rfl, rfl⟩) hHeld ?_) | (refine wpAnyH_take (i := 27) (v := ?_) rfl (by kernel_rfl) (by kernel_rfl) (by kernel_rfl) (fun _ _ _ h => h) (Or.inl ⟨by rfl, ?_⟩) hHeld ?_; rotate_left; focus (intro w hSw; (try dsimp only at hSw); go_simp; (try with_reducible rfl)))
        try simp only [Act.put, List.getElem_toArray, List.getElem_cons_succ, List.getElem_cons_zero, List.setIfInBounds_toArray, List.set_cons_zero, List.set_cons_succ]
        (refine wpAnyH_take (i := 28) (v := ?_) rfl (by kernel_rfl) (by kernel_rfl) (by kernel_rfl) (fun _ _ _ h => h) (Or.inl ⟨by rfl, ?_⟩) hHeld ?_; rotate_left; focus (intro w hSw; (try dsimp only at hSw); go_simp; (try with_reducible rfl)))
        try simp only [Act.put, List.getElem_toArray, List.getElem_cons_succ, List.getElem_cons_zero, List.setIfInBounds_toArray, List.set_cons_zero, List.set_cons_succ]
        refine wpAnyH_done (by kernel_rfl) ?_ _
        refine NoPanic.normal ?_
        obtain ⟨hB9, -, -, -, s9, g9, g10, hm9⟩ := hHeld
        have hG := And.intro g9 g10
        clear t0 t1 t2 t3 hkeepL HS CLh g9 g10
        obtain ⟨g5, g6⟩ := hG
        have D1 := cFault_any s9 g h _ hm9
        have D2 := cWrites_any s9 g h _ hm9
        rw [g5] at D1
        rw [g6] at D2
        have E1 := Lib.hid D1; have E2 := Lib.hid D2; have E3 := Lib.hid hB9
        clear D1 D2 hB9 hm9 g5 g6
        go_wp2_with (first | (go_at_call 15; with_reducible refine (E1.out).mono ?_; rintro e w' ⟨rfl, rfl⟩) | (go_at_call 14; with_reducible refine (E2.out).mono ?_; rintro e w' ⟨rfl, rfl⟩) | (go_at_call 7; refine (C9.out _).mono ?_; rintro e w8 ⟨rfl, hb8⟩))
        go_ret
        exact ⟨rfl, by rw [HZ.out]; exact below_on E3.out (Nat.le_of_eq HZ.out.symm) hb8⟩
    · go_region
      have hm9 : MemIs w6.drew g h s5 := ⟨hX6.out.1.row, hX6.out.1.words, hX6.out.1.ne⟩
      have hB9 := hX6.out.2.1.drew
      have hG := And.intro HG.out.1.2.2.2.2.1 HG.out.1.2.2.2.2.2.1
      generalize World.drew _ = W9 at *
      generalize s5 = s9 at *
      obtain ⟨g5, g6⟩ := hG
      have D1 := cFault_any s9 g h _ hm9
      have D2 := cWrites_any s9 g h _ hm9
      rw [g5] at D1
      rw [g6] at D2
      have E1 := Lib.hid D1; have E2 := Lib.hid D2; have E3 := Lib.hid hB9
      clear D1 D2 hB9 hm9 g5 g6
      go_wp2_with (first | (go_at_call 15; with_reducible refine (E1.out).mono ?_; rintro e w' ⟨rfl, rfl⟩) | (go_at_call 14; with_reducible refine (E2.out).mono ?_; rintro e w' ⟨rfl, rfl⟩) | (go_at_call 7; refine (C9.out _).mono ?_; rintro e w8 ⟨rfl, hb8⟩))
      go_ret
      exact ⟨rfl, by rw [HZ.out]; exact below_on E3.out (Nat.le_of_eq HZ.out.symm) hb8⟩
  · go_region
    have hm9 : MemIs w6.drew g h s5 := ⟨hX6.out.1.row, hX6.out.1.words, hX6.out.1.ne⟩
    have hB9 := hX6.out.2.1.drew
    have hG := And.intro HG.out.1.2.2.2.2.1 HG.out.1.2.2.2.2.2.1
    generalize World.drew _ = W9 at *
    generalize s5 = s9 at *
    obtain ⟨g5, g6⟩ := hG
    have D1 := cFault_any s9 g h _ hm9
    have D2 := cWrites_any s9 g h _ hm9
    rw [g5] at D1
    rw [g6] at D2
    have E1 := Lib.hid D1; have E2 := Lib.hid D2; have E3 := Lib.hid hB9
    clear D1 D2 hB9 hm9 g5 g6
    go_wp2_with (first | (go_at_call 15; with_reducible refine (E1.out).mono ?_; rintro e w' ⟨rfl, rfl⟩) | (go_at_call 14; with_reducible refine (E2.out).mono ?_; rintro e w' ⟨rfl, rfl⟩) | (go_at_call 7; refine (C9.out _).mono ?_; rintro e w8 ⟨rfl, hb8⟩))
    go_ret
    exact ⟨rfl, by rw [HZ.out]; exact below_on E3.out (Nat.le_of_eq HZ.out.symm) hb8⟩

theorem cellsHold_walk (A : Option Addr) (n c : Nat) (f : Nat → Nat) (hf : ∀ i, f i < 18446744073709551616) (a0 a2 : Int) (v : Nat) (hv : v < 18446744073709551616) (w : World) (hr : RowIs w A n (us f)) :
    Calls Try.prog 5 #[.slice A n c, .agg #[.int .i64 a0, .int .i64 a2], .int .u64 v] w fun e w' => e = .returned (.bool true) ∧ Below w.heap.size w w' := by
  by_cases hl : 500 < n
  · exact cellsHold_long A n c a0 a2 v w hl
  by_cases h1 : n < 1
  · exact cellsHold_none A n c a0 a2 v w h1
  by_cases ho : a0 < 0 ∨ n ≤ a0
  · exact cellsHold_out A n c f a0 a2 v w (by omega) (by omega) ho hr
  · obtain ⟨k, rfl⟩ : ∃ k : Nat, a0 = k := ⟨a0.toNat, by omega⟩
    exact cellsHold_in A n c f a2 v w (by omega) (by omega) k (by omega) hf hv hr
end
end Go.Proofs.Ytdgafadbajcllaa
