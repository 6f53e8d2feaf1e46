/- Statement WaysTurn of layer 11, walked. -/
import Derived.Test.YtoimbgmajoajiaaWaysLives
import Derived.Test.YtoimbgmajoajiaaWaysTo
import Derived.Test.YtoimbgmajoajiaaRef11Put
namespace Go.Proofs.Ytoimbgmajoajiaa
set_option linter.unusedSimpArgs false
open Go.ChangeShapes Go.WideShapes Go.ChangeAt Go.RowKit

theorem turn_held {w w' : World} {a1 a2 a3 : Nat} {s T : WS} (hb : Below a1 w w') (h1 : Row w' a1 27 10 (setV s)) (h2 : Row w' a2 33 10 (setV s)) (h3 : Row w' a3 33 10 (setV T)) : Below a1 w w' ∧ Row w' a1 27 10 (setV s) ∧ Row w' a2 33 10 (setV s) ∧ Row w' a3 33 10 (setV T) ∧ (w'.cell? ⟨a1, 0, none⟩ = some (.int .i64 (s.slot 0)) ∧ w'.cell? ⟨a1, 1, none⟩ = some (.bool (s.tch 0)) ∧ w'.cell? ⟨a1, 2, none⟩ = some (.int .i64 (s.slot 1)) ∧ w'.cell? ⟨a1, 3, none⟩ = some (.bool (s.tch 1)) ∧ w'.cell? ⟨a1, 4, none⟩ = some (.int .i64 (s.slot 2)) ∧ w'.cell? ⟨a1, 5, none⟩ = some (.bool (s.tch 2)) ∧ w'.cell? ⟨a1, 6, none⟩ = some (.int .i64 (s.slot 3)) ∧ w'.cell? ⟨a1, 7, none⟩ = some (.bool (s.tch 3)) ∧ w'.cell? ⟨a1, 8, none⟩ = some (.int .i64 s.hand) ∧ w'.cell? ⟨a1, 9, none⟩ = some (.int .u64 (s.turns : Nat))) ∧ (w'.cell? ⟨a2, 0, none⟩ = some (.int .i64 (s.slot 0)) ∧ w'.cell? ⟨a2, 1, none⟩ = some (.bool (s.tch 0)) ∧ w'.cell? ⟨a2, 2, none⟩ = some (.int .i64 (s.slot 1)) ∧ w'.cell? ⟨a2, 3, none⟩ = some (.bool (s.tch 1)) ∧ w'.cell? ⟨a2, 4, none⟩ = some (.int .i64 (s.slot 2)) ∧ w'.cell? ⟨a2, 5, none⟩ = some (.bool (s.tch 2)) ∧ w'.cell? ⟨a2, 6, none⟩ = some (.int .i64 (s.slot 3)) ∧ w'.cell? ⟨a2, 7, none⟩ = some (.bool (s.tch 3)) ∧ w'.cell? ⟨a2, 8, none⟩ = some (.int .i64 s.hand) ∧ w'.cell? ⟨a2, 9, none⟩ = some (.int .u64 (s.turns : Nat))) ∧ w'.cell? ⟨a3, 0, none⟩ = some (.int .i64 (T.slot 0)) ∧ w'.cell? ⟨a3, 1, none⟩ = some (.bool (T.tch 0)) ∧ w'.cell? ⟨a3, 2, none⟩ = some (.int .i64 (T.slot 1)) ∧ w'.cell? ⟨a3, 3, none⟩ = some (.bool (T.tch 1)) ∧ w'.cell? ⟨a3, 4, none⟩ = some (.int .i64 (T.slot 2)) ∧ w'.cell? ⟨a3, 5, none⟩ = some (.bool (T.tch 2)) ∧ w'.cell? ⟨a3, 6, none⟩ = some (.int .i64 (T.slot 3)) ∧ w'.cell? ⟨a3, 7, none⟩ = some (.bool (T.tch 3)) ∧ w'.cell? ⟨a3, 8, none⟩ = some (.int .i64 T.hand) ∧ w'.cell? ⟨a3, 9, none⟩ = some (.int .u64 (T.turns : Nat)) := ⟨hb, h1, h2, h3, set_cells h1, set_cells h2, set_cells h3⟩
theorem puts_held {w w' : World} {a1 a4 a5 : Nat} {P : WS} (hb : Below a1 w w') (h1 : Row w' a4 27 10 (setV P)) (h2 : Row w' a5 33 10 (setV P)) : Below a1 w w' ∧ Row w' a4 27 10 (setV P) ∧ Row w' a5 33 10 (setV P) ∧ (w'.cell? ⟨a4, 0, none⟩ = some (.int .i64 (P.slot 0)) ∧ w'.cell? ⟨a4, 1, none⟩ = some (.bool (P.tch 0)) ∧ w'.cell? ⟨a4, 2, none⟩ = some (.int .i64 (P.slot 1)) ∧ w'.cell? ⟨a4, 3, none⟩ = some (.bool (P.tch 1)) ∧ w'.cell? ⟨a4, 4, none⟩ = some (.int .i64 (P.slot 2)) ∧ w'.cell? ⟨a4, 5, none⟩ = some (.bool (P.tch 2)) ∧ w'.cell? ⟨a4, 6, none⟩ = some (.int .i64 (P.slot 3)) ∧ w'.cell? ⟨a4, 7, none⟩ = some (.bool (P.tch 3)) ∧ w'.cell? ⟨a4, 8, none⟩ = some (.int .i64 P.hand) ∧ w'.cell? ⟨a4, 9, none⟩ = some (.int .u64 (P.turns : Nat))) ∧ w'.cell? ⟨a5, 0, none⟩ = some (.int .i64 (P.slot 0)) ∧ w'.cell? ⟨a5, 1, none⟩ = some (.bool (P.tch 0)) ∧ w'.cell? ⟨a5, 2, none⟩ = some (.int .i64 (P.slot 1)) ∧ w'.cell? ⟨a5, 3, none⟩ = some (.bool (P.tch 1)) ∧ w'.cell? ⟨a5, 4, none⟩ = some (.int .i64 (P.slot 2)) ∧ w'.cell? ⟨a5, 5, none⟩ = some (.bool (P.tch 2)) ∧ w'.cell? ⟨a5, 6, none⟩ = some (.int .i64 (P.slot 3)) ∧ w'.cell? ⟨a5, 7, none⟩ = some (.bool (P.tch 3)) ∧ w'.cell? ⟨a5, 8, none⟩ = some (.int .i64 P.hand) ∧ w'.cell? ⟨a5, 9, none⟩ = some (.int .u64 (P.turns : Nat)) := ⟨hb, h1, h2, set_cells h1, set_cells h2⟩
theorem touch_none {s : WS} {i : Int} (h : isB i = false) : touchS s i = s := changeS_no s i (fun h2 => by rw [isB_yes h2] at h; cases h) _ _

theorem row_all_far {w : World} {b g : Nat} {t : TypeId} {f : Nat → Value} (h : Row w b t 10 f) (hg : b ≠ g) (X : WS) :
    Row ((((((((((w.setCell ⟨g, 0, none⟩ (.int .i64 (X.slot 0))).setCell ⟨g, 1, none⟩ (.bool (X.tch 0))).setCell ⟨g, 2, none⟩ (.int .i64 (X.slot 1))).setCell ⟨g, 3, none⟩ (.bool (X.tch 1))).setCell ⟨g, 4, none⟩ (.int .i64 (X.slot 2))).setCell ⟨g, 5, none⟩ (.bool (X.tch 2))).setCell ⟨g, 6, none⟩ (.int .i64 (X.slot 3))).setCell ⟨g, 7, none⟩ (.bool (X.tch 3))).setCell ⟨g, 8, none⟩ (.int .i64 X.hand)).setCell ⟨g, 9, none⟩ (.int .u64 (X.turns : Nat))) b t 10 f :=
  (((((((((h.far hg _).far hg _).far hg _).far hg _).far hg _).far hg _).far hg _).far hg _).far hg _).far hg _
set_option maxRecDepth 100000 in
set_option maxHeartbeats 8000000 in
theorem waysTurn_walk (s : WS) (hs : OkS s) (i : Int) (hi : -9223372036854775808 ≤ i ∧ i ≤ 9223372036854775807) (x : Int) (hx : -9223372036854775808 ≤ x ∧ x ≤ 9223372036854775807) (w : World) :
    Calls Try.prog 4 #[.agg (rowOf 10 (setV s)), .int .i64 i, .int .i64 x] w fun e w' => e = .returned (.bool true) ∧ Below w.heap.size w w' := by
  have C1 := Lib.hid (fun W => yTouch_any s hs i hi W)
  have C2 := Lib.hid (fun W => ySwap_any s hs i hi x hx W)
  have C3 := Lib.hid (fun W => yClear_any s hs i hi W)
  have C4 := Lib.hid (fun W => rSet11_any s hs i hi x hx true W)
  have C5 := Lib.hid (fun W => rSet11_any s hs i hi 0 (by omega) false W)
  have C6 := Lib.hid (fun W => yPut_any s hs x hx W)
  have C7 := Lib.hid (fun W => rPut11_any s hs x hx W)
  have C8 := Lib.hid lives11_any
  have C9 := Lib.hid (fun k (hk : k < 4) W => rSet11_any s hs (k : Nat) (by omega) (s.slot k) (hs.slot k) true W)
  have HT0 := Lib.hid (fun h => touch_none (s := s) (i := i) h)
  have HT1 : Hid (∀ k : Nat, i = k → changeS s (k : Nat) (s.slot k) true = touchS s i) := Lib.hid (fun k h => by subst h; unfold touchS; rw [Int.toNat_natCast])
  have hE1 := fun W => neq_S W (touchS s i)
  have hE2 := fun W => neq_S W (changeS s i x true)
  have hE3 := fun W => neq_S W (changeS s i 0 false)
  have hE4 := fun W => eql_S W (putS s x)
  have hpi := placeI_lt s
  have hps := hs.slot (placeI s)
  have CT := Lib.hid to_any
  have f1 := fold10 s
  generalize touchS s i = T at *
  generalize changeS s i x true = X at *
  generalize changeS s i 0 false = Z at *
  generalize putS s x = P at *
  generalize s.slot (placeI s) = was at *
  generalize placeI s = n at *
  have f2 := fold10 T
  have f3 := fold10 P
  go_enter Try.func4, Try.ntmps4
  go_upto_region 1 with fail
  generalize hW : World.alloc _ _ = W
  have r1 : Row W w.heap.size 27 10 (setV s) := by rw [← hW]; exact Row.new _ _ _ _ _ rfl
  have hB : Below w.heap.size w W := by rw [← hW]; exact (Below.refl _ _).alloc (Nat.le_refl _) _
  clear hW
  generalize hz : w.heap.size = a1 at *
  have HZ := Lib.hid hz; clear hz
  clear f1 f2 f3
  go_upto_region 2 with (first
    | (refine wpList_load_row rfl 27 _ rfl a1 rfl 27 (rowOf 10 (setV s)) (0, 0) _ r1 Try.underlying27 rfl (by kernel_rfl) ?_)
    | (go_at_call 8; refine (CT.out _ _).mono ?_; rintro e w2 ⟨rfl, hb⟩)
    | (refine wpList_store_row rfl 33 _ _ rfl w2.heap.size (rowOf 10 (setV s)) rfl rfl 33 (rowOf 10 (setV zeroS)) (heap_alloc_new w2 _) (by kernel_rfl) rfl (setV_one _ _) ?_))
  rw [World.setRow_alloc_new]
  have hs1 : a1 < w2.heap.size := Nat.lt_of_lt_of_le r1.lt hb.size
  have p1 := (r1.keep hb).alloc (.cells (rowOf 10 (setV s)) 33)
  have p2 : Row (w2.alloc (.cells (rowOf 10 (setV s)) 33)) w2.heap.size 33 10 (setV s) := Row.new _ _ _ _ _ rfl
  have hb3 := (below_on hB (Nat.le_of_eq HZ.out.symm) hb).alloc (Nat.le_of_lt hs1) (.cells (rowOf 10 (setV s)) 33)
  clear r1 hB hb
  generalize hg : w2.heap.size = a2 at *
  generalize World.alloc w2 _ = W3 at *
  clear hg
  have hs3 := p2.lt
  go_upto_region 3 with (first
    | (refine wpList_load_row rfl 33 _ rfl a2 rfl 33 (rowOf 10 (setV s)) (0, 0) _ p2 Try.underlying33 rfl (by kernel_rfl) ?_)
    | (refine wpList_store_row rfl 33 _ _ rfl W3.heap.size (rowOf 10 (setV s)) rfl rfl 33 (rowOf 10 (setV zeroS)) (heap_alloc_new W3 _) (by kernel_rfl) rfl (setV_one _ _) ?_))
  rw [World.setRow_alloc_new]
  have q1 := p1.alloc (.cells (rowOf 10 (setV s)) 33)
  have q2 := p2.alloc (.cells (rowOf 10 (setV s)) 33)
  have q3 : Row (W3.alloc (.cells (rowOf 10 (setV s)) 33)) W3.heap.size 33 10 (setV s) := Row.new _ _ _ _ _ rfl
  have hb4 := hb3.alloc (show a1 ≤ W3.heap.size by omega) (.cells (rowOf 10 (setV s)) 33)
  clear p1 p2 hb3
  generalize hg : W3.heap.size = a3 at *
  generalize World.alloc W3 _ = W4 at *
  clear hg
  have hs4 := q3.lt
  try simp only [Act.put]
  go_upto_region 3 with fail
  go_cut [23] (fun v wx => v = .bool (isB i) ∧ wx = W4)
  case first =>
    have H : Hid (isB i = (decide (0 ≤ i) && decide (i < 4))) := Lib.hid rfl
    clear C1 C2 C3 C4 C5 C6 C7 C8 C9 CT hE1 hE2 hE3 hE4 HT0 HT1
    by_cases h1 : 0 ≤ i
    · by_cases h2 : i < 4
      · go_wp2_with fail
        go_meet
        exact ⟨congrArg Value.bool (by rw [H.out]; simp [h1, h2]), rfl⟩
      · go_wp2_with fail
        go_meet
        exact ⟨congrArg Value.bool (by rw [H.out]; simp [h1, h2]), rfl⟩
    · go_wp2_with fail
      go_meet
      exact ⟨congrArg Value.bool (by rw [H.out, decide_eq_false (show ¬ 0 ≤ i by omega), Bool.false_and]), rfl⟩
  case rest =>
    obtain ⟨rfl, rfl⟩ := hcut
    go_upto_if 23 with fail
    go_cut [] (fun wx => Below a1 w wx ∧ Row wx a1 27 10 (setV s) ∧ Row wx a2 33 10 (setV s) ∧ Row wx a3 33 10 (setV T))
    case first =>
      clear C1 C2 C3 C4 C5 C6 C7 C8 CT hE1 hE2 hE3 hE4
      cases hib : isB i
      · have := HT0.out hib
        subst this
        go_wp2_with fail
        go_meet
        exact ⟨hb4, q1, q2, q3⟩
      · have hin : 0 ≤ i ∧ i < 4 := by simpa [isB] using hib
        obtain ⟨k, hk0⟩ := Int.eq_ofNat_of_zero_le hin.1
        subst hk0
        have hk : k < 4 := by omega
        have c9 := C9.out k hk
        rw [HT1.out k rfl, ← fold10 s, ← fold10 T] at c9
        have C9' := Lib.hid c9
        clear HT0 HT1 C9 c9 hib hi
        have b0 : (0 : Int) ≤ (k : Int) := hin.1
        have b1 : (k : Int) < 4 := hin.2
        clear hin
        obtain ⟨v0, v1, v2, v3, v4, v5, v6, v7, v8, v9⟩ := set_cells q2
        have vk := set_slot_at q2 k hk
        have HQ := Lib.hid (And.intro hb4 (And.intro q1 (And.intro q2 q3)))
        have Q3 := Lib.hid (fun w' (hb : Below wc.drew.heap.size wc.drew w') => Row.keep (w := wc.drew) q3 hb)
        clear hb4 q1 q2 q3
        go_upto_region 4 with fail
        go_region_with (go_at_call 12; refine (C9'.out _).mono ?_; rintro e w5 ⟨rfl, hb⟩; have r3 := Q3.out _ hb; obtain ⟨z0, z1, z2, z3, z4, z5, z6, z7, z8, z9⟩ := set_cells r3; obtain ⟨f0, f1, f2, f3, f4, f5, f6, f7, f8, f9⟩ := set_frozen r3)
        all_goals
          clear z0 z1 z2 z3 z4 z5 z6 z7 z8 z9 f0 f1 f2 f3 f4 f5 f6 f7 f8 f9
          have r4 := row_all r3 T
          have b4 := below_all (below_on HQ.out.1.drew (Nat.le_of_eq HZ.out.symm) hb) (show a1 ≤ a3 by omega) T
          have r5 := row_all_far (HQ.out.2.1.drew.keep hb) (show a1 ≠ a3 by omega) T
          have r6 := row_all_far (HQ.out.2.2.1.drew.keep hb) (show a2 ≠ a3 by omega) T
          generalize World.setCell _ _ _ = W5 at *
          go_wp2_with fail
          go_meet
          exact ⟨b4, r5, r6, r4⟩
    case rest =>
      obtain ⟨hb5, r1, r2, r3⟩ := hcut
      go_upto_region 5 with fail
      have hkeep : ∀ w1 w2 : World, Below w1.heap.size w1 w2 → (fun w' => Below a1 w w' ∧ Row w' a1 27 10 (setV s) ∧ Row w' a2 33 10 (setV s) ∧ Row w' a3 33 10 (setV T) ∧ (w'.cell? ⟨a1, 0, none⟩ = some (.int .i64 (s.slot 0)) ∧ w'.cell? ⟨a1, 1, none⟩ = some (.bool (s.tch 0)) ∧ w'.cell? ⟨a1, 2, none⟩ = some (.int .i64 (s.slot 1)) ∧ w'.cell? ⟨a1, 3, none⟩ = some (.bool (s.tch 1)) ∧ w'.cell? ⟨a1, 4, none⟩ = some (.int .i64 (s.slot 2)) ∧ w'.cell? ⟨a1, 5, none⟩ = some (.bool (s.tch 2)) ∧ w'.cell? ⟨a1, 6, none⟩ = some (.int .i64 (s.slot 3)) ∧ w'.cell? ⟨a1, 7, none⟩ = some (.bool (s.tch 3)) ∧ w'.cell? ⟨a1, 8, none⟩ = some (.int .i64 s.hand) ∧ w'.cell? ⟨a1, 9, none⟩ = some (.int .u64 (s.turns : Nat))) ∧ (w'.cell? ⟨a2, 0, none⟩ = some (.int .i64 (s.slot 0)) ∧ w'.cell? ⟨a2, 1, none⟩ = some (.bool (s.tch 0)) ∧ w'.cell? ⟨a2, 2, none⟩ = some (.int .i64 (s.slot 1)) ∧ w'.cell? ⟨a2, 3, none⟩ = some (.bool (s.tch 1)) ∧ w'.cell? ⟨a2, 4, none⟩ = some (.int .i64 (s.slot 2)) ∧ w'.cell? ⟨a2, 5, none⟩ = some (.bool (s.tch 2)) ∧ w'.cell? ⟨a2, 6, none⟩ = some (.int .i64 (s.slot 3)) ∧ w'.cell? ⟨a2, 7, none⟩ = some (.bool (s.tch 3)) ∧ w'.cell? ⟨a2, 8, none⟩ = some (.int .i64 s.hand) ∧ w'.cell? ⟨a2, 9, none⟩ = some (.int .u64 (s.turns : Nat))) ∧ w'.cell? ⟨a3, 0, none⟩ = some (.int .i64 (T.slot 0)) ∧ w'.cell? ⟨a3, 1, none⟩ = some (.bool (T.tch 0)) ∧ w'.cell? ⟨a3, 2, none⟩ = some (.int .i64 (T.slot 1)) ∧ w'.cell? ⟨a3, 3, none⟩ = some (.bool (T.tch 1)) ∧ w'.cell? ⟨a3, 4, none⟩ = some (.int .i64 (T.slot 2)) ∧ w'.cell? ⟨a3, 5, none⟩ = some (.bool (T.tch 2)) ∧ w'.cell? ⟨a3, 6, none⟩ = some (.int .i64 (T.slot 3)) ∧ w'.cell? ⟨a3, 7, none⟩ = some (.bool (T.tch 3)) ∧ w'.cell? ⟨a3, 8, none⟩ = some (.int .i64 T.hand) ∧ w'.cell? ⟨a3, 9, none⟩ = some (.int .u64 (T.turns : Nat))) w1 → (fun w' => Below a1 w w' ∧ Row w' a1 27 10 (setV s) ∧ Row w' a2 33 10 (setV s) ∧ Row w' a3 33 10 (setV T) ∧ (w'.cell? ⟨a1, 0, none⟩ = some (.int .i64 (s.slot 0)) ∧ w'.cell? ⟨a1, 1, none⟩ = some (.bool (s.tch 0)) ∧ w'.cell? ⟨a1, 2, none⟩ = some (.int .i64 (s.slot 1)) ∧ w'.cell? ⟨a1, 3, none⟩ = some (.bool (s.tch 1)) ∧ w'.cell? ⟨a1, 4, none⟩ = some (.int .i64 (s.slot 2)) ∧ w'.cell? ⟨a1, 5, none⟩ = some (.bool (s.tch 2)) ∧ w'.cell? ⟨a1, 6, none⟩ = some (.int .i64 (s.slot 3)) ∧ w'.cell? ⟨a1, 7, none⟩ = some (.bool (s.tch 3)) ∧ w'.cell? ⟨a1, 8, none⟩ = some (.int .i64 s.hand) ∧ w'.cell? ⟨a1, 9, none⟩ = some (.int .u64 (s.turns : Nat))) ∧ (w'.cell? ⟨a2, 0, none⟩ = some (.int .i64 (s.slot 0)) ∧ w'.cell? ⟨a2, 1, none⟩ = some (.bool (s.tch 0)) ∧ w'.cell? ⟨a2, 2, none⟩ = some (.int .i64 (s.slot 1)) ∧ w'.cell? ⟨a2, 3, none⟩ = some (.bool (s.tch 1)) ∧ w'.cell? ⟨a2, 4, none⟩ = some (.int .i64 (s.slot 2)) ∧ w'.cell? ⟨a2, 5, none⟩ = some (.bool (s.tch 2)) ∧ w'.cell? ⟨a2, 6, none⟩ = some (.int .i64 (s.slot 3)) ∧ w'.cell? ⟨a2, 7, none⟩ = some (.bool (s.tch 3)) ∧ w'.cell? ⟨a2, 8, none⟩ = some (.int .i64 s.hand) ∧ w'.cell? ⟨a2, 9, none⟩ = some (.int .u64 (s.turns : Nat))) ∧ w'.cell? ⟨a3, 0, none⟩ = some (.int .i64 (T.slot 0)) ∧ w'.cell? ⟨a3, 1, none⟩ = some (.bool (T.tch 0)) ∧ w'.cell? ⟨a3, 2, none⟩ = some (.int .i64 (T.slot 1)) ∧ w'.cell? ⟨a3, 3, none⟩ = some (.bool (T.tch 1)) ∧ w'.cell? ⟨a3, 4, none⟩ = some (.int .i64 (T.slot 2)) ∧ w'.cell? ⟨a3, 5, none⟩ = some (.bool (T.tch 2)) ∧ w'.cell? ⟨a3, 6, none⟩ = some (.int .i64 (T.slot 3)) ∧ w'.cell? ⟨a3, 7, none⟩ = some (.bool (T.tch 3)) ∧ w'.cell? ⟨a3, 8, none⟩ = some (.int .i64 T.hand) ∧ w'.cell? ⟨a3, 9, none⟩ = some (.int .u64 (T.turns : Nat))) w2 := fun w1 w2 hb h => turn_held (below_on h.1 (Nat.le_of_eq HZ.out.symm) hb) (h.2.1.keep hb) (h.2.2.1.keep hb) (h.2.2.2.1.keep hb)
      have HST := Lib.hid (turn_held hb5.drew r1.drew r2.drew r3.drew)
      have f1 := fold10 s
      have f2 := fold10 T
      clear q1 q2 q3 hb4 hb5 r1 r2 r3 HT0 HT1 C9
      refine wp_region_noPanic ?_
      refine wp_region_held_drew (S := fun w' => Below a1 w w' ∧ Row w' a1 27 10 (setV s) ∧ Row w' a2 33 10 (setV s) ∧ Row w' a3 33 10 (setV T) ∧ (w'.cell? ⟨a1, 0, none⟩ = some (.int .i64 (s.slot 0)) ∧ w'.cell? ⟨a1, 1, none⟩ = some (.bool (s.tch 0)) ∧ w'.cell? ⟨a1, 2, none⟩ = some (.int .i64 (s.slot 1)) ∧ w'.cell? ⟨a1, 3, none⟩ = some (.bool (s.tch 1)) ∧ w'.cell? ⟨a1, 4, none⟩ = some (.int .i64 (s.slot 2)) ∧ w'.cell? ⟨a1, 5, none⟩ = some (.bool (s.tch 2)) ∧ w'.cell? ⟨a1, 6, none⟩ = some (.int .i64 (s.slot 3)) ∧ w'.cell? ⟨a1, 7, none⟩ = some (.bool (s.tch 3)) ∧ w'.cell? ⟨a1, 8, none⟩ = some (.int .i64 s.hand) ∧ w'.cell? ⟨a1, 9, none⟩ = some (.int .u64 (s.turns : Nat))) ∧ (w'.cell? ⟨a2, 0, none⟩ = some (.int .i64 (s.slot 0)) ∧ w'.cell? ⟨a2, 1, none⟩ = some (.bool (s.tch 0)) ∧ w'.cell? ⟨a2, 2, none⟩ = some (.int .i64 (s.slot 1)) ∧ w'.cell? ⟨a2, 3, none⟩ = some (.bool (s.tch 1)) ∧ w'.cell? ⟨a2, 4, none⟩ = some (.int .i64 (s.slot 2)) ∧ w'.cell? ⟨a2, 5, none⟩ = some (.bool (s.tch 2)) ∧ w'.cell? ⟨a2, 6, none⟩ = some (.int .i64 (s.slot 3)) ∧ w'.cell? ⟨a2, 7, none⟩ = some (.bool (s.tch 3)) ∧ w'.cell? ⟨a2, 8, none⟩ = some (.int .i64 s.hand) ∧ w'.cell? ⟨a2, 9, none⟩ = some (.int .u64 (s.turns : Nat))) ∧ w'.cell? ⟨a3, 0, none⟩ = some (.int .i64 (T.slot 0)) ∧ w'.cell? ⟨a3, 1, none⟩ = some (.bool (T.tch 0)) ∧ w'.cell? ⟨a3, 2, none⟩ = some (.int .i64 (T.slot 1)) ∧ w'.cell? ⟨a3, 3, none⟩ = some (.bool (T.tch 1)) ∧ w'.cell? ⟨a3, 4, none⟩ = some (.int .i64 (T.slot 2)) ∧ w'.cell? ⟨a3, 5, none⟩ = some (.bool (T.tch 2)) ∧ w'.cell? ⟨a3, 6, none⟩ = some (.int .i64 (T.slot 3)) ∧ w'.cell? ⟨a3, 7, none⟩ = some (.bool (T.tch 3)) ∧ w'.cell? ⟨a3, 8, none⟩ = some (.int .i64 T.hand) ∧ w'.cell? ⟨a3, 9, none⟩ = some (.int .u64 (T.turns : Nat))) (by kernel_rfl) (HST.out) (fun hHeld => ?_)
      (refine wpAnyH_take (i := 0) (v := ?_) rfl (by kernel_rfl) (by kernel_rfl) (by kernel_rfl) (fun _ _ _ h => h) (Or.inl ⟨by rfl, ?_⟩) hHeld ?_; rotate_left; focus (intro w hSw; (try dsimp only at hSw); go_simp; (try with_reducible rfl)))
      try simp only [Act.put, List.getElem_toArray, List.getElem_cons_succ, List.getElem_cons_zero, List.setIfInBounds_toArray, List.set_cons_zero, List.set_cons_succ]
      (refine wpAnyH_take (i := 1) (v := ?_) rfl (by kernel_rfl) (by kernel_rfl) (by kernel_rfl) (fun _ _ _ h => h) (Or.inl ⟨by rfl, ?_⟩) hHeld ?_; rotate_left; focus (intro w hSw; (try dsimp only at hSw); go_simp; (try with_reducible rfl)))
      try simp only [Act.put, List.getElem_toArray, List.getElem_cons_succ, List.getElem_cons_zero, List.setIfInBounds_toArray, List.set_cons_zero, List.set_cons_succ]
      (refine wpAnyH_take (i := 4) (v := ?_) rfl (by kernel_rfl) (by kernel_rfl) (by kernel_rfl) (fun _ _ _ h => h) (Or.inl ⟨by rfl, ?_⟩) hHeld ?_; rotate_left; focus (intro w hSw; (try dsimp only at hSw); go_simp; (try with_reducible rfl)))
      try simp only [Act.put, List.getElem_toArray, List.getElem_cons_succ, List.getElem_cons_zero, List.setIfInBounds_toArray, List.set_cons_zero, List.set_cons_succ]
      (refine wpAnyH_ready (rs := [2]) (by kernel_rfl) (by simp) ?_; refine AllReadyH.cons rfl (fun K hK => ?_) AllReadyH.nil; go_simp; (first | (go_at_call 13; refine (C1.out _).mono ?_; rintro t w' ⟨rfl, hb⟩) | (go_at_call 8; refine (CT.out _ _).mono ?_; rintro t w' ⟨rfl, hb⟩) | (go_at_call 14; refine (C2.out _).mono ?_; rintro t w' ⟨rfl, hb⟩) | (go_at_call 12; with_reducible refine (C4.out _).mono ?_; rintro t w' ⟨rfl, hb⟩) | (go_at_call 12; with_reducible refine (C5.out _).mono ?_; rintro t w' ⟨rfl, hb⟩) | (go_at_call 15; refine (C3.out _).mono ?_; rintro t w' ⟨rfl, hb⟩)); (try go_wp2_with fail); refine hK.out _ _ ?_ (fun hHeld' => ?_); (focus (exact hkeep _ _ hb hHeld)); clear hK K; replace hHeld := hHeld'; clear hHeld')
      try simp only [Act.put, List.getElem_toArray, List.getElem_cons_succ, List.getElem_cons_zero, List.setIfInBounds_toArray, List.set_cons_zero, List.set_cons_succ]
      (refine wpAnyH_ready (rs := [3]) (by kernel_rfl) (by simp) ?_; refine AllReadyH.cons rfl (fun K hK => ?_) AllReadyH.nil; go_simp; (first | (go_at_call 13; refine (C1.out _).mono ?_; rintro t w' ⟨rfl, hb⟩) | (go_at_call 8; refine (CT.out _ _).mono ?_; rintro t w' ⟨rfl, hb⟩) | (go_at_call 14; refine (C2.out _).mono ?_; rintro t w' ⟨rfl, hb⟩) | (go_at_call 12; with_reducible refine (C4.out _).mono ?_; rintro t w' ⟨rfl, hb⟩) | (go_at_call 12; with_reducible refine (C5.out _).mono ?_; rintro t w' ⟨rfl, hb⟩) | (go_at_call 15; refine (C3.out _).mono ?_; rintro t w' ⟨rfl, hb⟩)); (try go_wp2_with fail); refine hK.out _ _ ?_ (fun hHeld' => ?_); (focus (exact hkeep _ _ hb hHeld)); clear hK K; replace hHeld := hHeld'; clear hHeld')
      try simp only [Act.put, List.getElem_toArray, List.getElem_cons_succ, List.getElem_cons_zero, List.setIfInBounds_toArray, List.set_cons_zero, List.set_cons_succ]
      (refine wpAnyH_take (i := 5) (v := ?_) rfl (by kernel_rfl) (by kernel_rfl) (by kernel_rfl) (fun _ _ _ h => h) (Or.inl ⟨by rfl, ?_⟩) hHeld ?_; rotate_left; focus (intro w hSw; (try dsimp only at hSw); go_simp; (try with_reducible rfl)))
      try simp only [Act.put, List.getElem_toArray, List.getElem_cons_succ, List.getElem_cons_zero, List.setIfInBounds_toArray, List.set_cons_zero, List.set_cons_succ]
      (refine wpAnyH_take (i := 6) (v := ?_) rfl (by kernel_rfl) (by kernel_rfl) (by kernel_rfl) (fun _ _ _ h => h) (Or.inl ⟨by rfl, ?_⟩) hHeld ?_; rotate_left; focus (intro w hSw; (try dsimp only at hSw); go_simp; (try with_reducible rfl)))
      try simp only [Act.put, List.getElem_toArray, List.getElem_cons_succ, List.getElem_cons_zero, List.setIfInBounds_toArray, List.set_cons_zero, List.set_cons_succ]
      first | (refine wpAnyH_take (i := 7) rfl (by kernel_rfl) (by kernel_rfl) (by kernel_rfl) (fun _ _ _ h => h) (Or.inr ⟨by rfl, rfl⟩) hHeld ?_) | (refine wpAnyH_take (i := 7) (v := ?_) rfl (by kernel_rfl) (by kernel_rfl) (by kernel_rfl) (fun _ _ _ h => h) (Or.inl ⟨by rfl, ?_⟩) hHeld ?_; rotate_left; focus (intro w hSw; (try dsimp only at hSw); go_simp; (try with_reducible rfl)))
      try simp only [Act.put, List.getElem_toArray, List.getElem_cons_succ, List.getElem_cons_zero, List.setIfInBounds_toArray, List.set_cons_zero, List.set_cons_succ]
      first | (refine wpAnyH_take (i := 8) rfl (by kernel_rfl) (by kernel_rfl) (by kernel_rfl) (fun _ _ _ h => h) (Or.inr ⟨by rfl, rfl⟩) hHeld ?_) | (refine wpAnyH_take (i := 8) (v := ?_) rfl (by kernel_rfl) (by kernel_rfl) (by kernel_rfl) (fun _ _ _ h => h) (Or.inl ⟨by rfl, ?_⟩) hHeld ?_; rotate_left; focus (intro w hSw; (try dsimp only at hSw); go_simp; (try with_reducible rfl)))
      try simp only [Act.put, List.getElem_toArray, List.getElem_cons_succ, List.getElem_cons_zero, List.setIfInBounds_toArray, List.set_cons_zero, List.set_cons_succ]
      first | (refine wpAnyH_take (i := 9) rfl (by kernel_rfl) (by kernel_rfl) (by kernel_rfl) (fun _ _ _ h => h) (Or.inr ⟨by rfl, rfl⟩) hHeld ?_) | (refine wpAnyH_take (i := 9) (v := ?_) rfl (by kernel_rfl) (by kernel_rfl) (by kernel_rfl) (fun _ _ _ h => h) (Or.inl ⟨by rfl, ?_⟩) hHeld ?_; rotate_left; focus (intro w hSw; (try dsimp only at hSw); go_simp; (try with_reducible rfl)))
      try simp only [Act.put, List.getElem_toArray, List.getElem_cons_succ, List.getElem_cons_zero, List.setIfInBounds_toArray, List.set_cons_zero, List.set_cons_succ]
      first | (refine wpAnyH_take (i := 12) rfl (by kernel_rfl) (by kernel_rfl) (by kernel_rfl) (fun _ _ _ h => h) (Or.inr ⟨by rfl, rfl⟩) hHeld ?_) | (refine wpAnyH_take (i := 12) (v := ?_) rfl (by kernel_rfl) (by kernel_rfl) (by kernel_rfl) (fun _ _ _ h => h) (Or.inl ⟨by rfl, ?_⟩) hHeld ?_; rotate_left; focus (intro w hSw; (try dsimp only at hSw); go_simp; (try with_reducible rfl)))
      try simp only [Act.put, List.getElem_toArray, List.getElem_cons_succ, List.getElem_cons_zero, List.setIfInBounds_toArray, List.set_cons_zero, List.set_cons_succ]
      first | (refine wpAnyH_take (i := 13) rfl (by kernel_rfl) (by kernel_rfl) (by kernel_rfl) (fun _ _ _ h => h) (Or.inr ⟨by rfl, rfl⟩) hHeld ?_) | (refine wpAnyH_take (i := 13) (v := ?_) rfl (by kernel_rfl) (by kernel_rfl) (by kernel_rfl) (fun _ _ _ h => h) (Or.inl ⟨by rfl, ?_⟩) hHeld ?_; rotate_left; focus (intro w hSw; (try dsimp only at hSw); go_simp; (try with_reducible rfl)))
      try simp only [Act.put, List.getElem_toArray, List.getElem_cons_succ, List.getElem_cons_zero, List.setIfInBounds_toArray, List.set_cons_zero, List.set_cons_succ]
      first | (refine wpAnyH_take (i := 14) rfl (by kernel_rfl) (by kernel_rfl) (by kernel_rfl) (fun _ _ _ h => h) (Or.inr ⟨by rfl, rfl⟩) hHeld ?_) | (refine wpAnyH_take (i := 14) (v := ?_) rfl (by kernel_rfl) (by kernel_rfl) (by kernel_rfl) (fun _ _ _ h => h) (Or.inl ⟨by rfl, ?_⟩) hHeld ?_; rotate_left; focus (intro w hSw; (try dsimp only at hSw); go_simp; (try with_reducible rfl)))
      try simp only [Act.put, List.getElem_toArray, List.getElem_cons_succ, List.getElem_cons_zero, List.setIfInBounds_toArray, List.set_cons_zero, List.set_cons_succ]
      first | (refine wpAnyH_take (i := 15) rfl (by kernel_rfl) (by kernel_rfl) (by kernel_rfl) (fun _ _ _ h => h) (Or.inr ⟨by rfl, rfl⟩) hHeld ?_) | (refine wpAnyH_take (i := 15) (v := ?_) rfl (by kernel_rfl) (by kernel_rfl) (by kernel_rfl) (fun _ _ _ h => h) (Or.inl ⟨by rfl, ?_⟩) hHeld ?_; rotate_left; focus (intro w hSw; (try dsimp only at hSw); go_simp; (try with_reducible rfl)))
      try simp only [Act.put, List.getElem_toArray, List.getElem_cons_succ, List.getElem_cons_zero, List.setIfInBounds_toArray, List.set_cons_zero, List.set_cons_succ]
      first | (refine wpAnyH_take (i := 10) rfl (by kernel_rfl) (by kernel_rfl) (by kernel_rfl) (fun _ _ _ h => h) (Or.inr ⟨by rfl, rfl⟩) hHeld ?_) | (refine wpAnyH_ready (rs := [10]) (by kernel_rfl) (by simp) ?_; refine AllReadyH.cons rfl (fun K hK => ?_) AllReadyH.nil; go_simp; (first | (go_at_call 13; refine (C1.out _).mono ?_; rintro t w' ⟨rfl, hb⟩) | (go_at_call 8; refine (CT.out _ _).mono ?_; rintro t w' ⟨rfl, hb⟩) | (go_at_call 14; refine (C2.out _).mono ?_; rintro t w' ⟨rfl, hb⟩) | (go_at_call 12; with_reducible refine (C4.out _).mono ?_; rintro t w' ⟨rfl, hb⟩) | (go_at_call 12; with_reducible refine (C5.out _).mono ?_; rintro t w' ⟨rfl, hb⟩) | (go_at_call 15; refine (C3.out _).mono ?_; rintro t w' ⟨rfl, hb⟩)); (try go_wp2_with fail); refine hK.out _ _ ?_ (fun hHeld' => ?_); (focus (exact hkeep _ _ hb hHeld)); clear hK K; replace hHeld := hHeld'; clear hHeld')
      try simp only [Act.put, List.getElem_toArray, List.getElem_cons_succ, List.getElem_cons_zero, List.setIfInBounds_toArray, List.set_cons_zero, List.set_cons_succ]
      first | (refine wpAnyH_take (i := 11) rfl (by kernel_rfl) (by kernel_rfl) (by kernel_rfl) (fun _ _ _ h => h) (Or.inr ⟨by rfl, rfl⟩) hHeld ?_) | (refine wpAnyH_ready (rs := [11]) (by kernel_rfl) (by simp) ?_; refine AllReadyH.cons rfl (fun K hK => ?_) AllReadyH.nil; go_simp; (first | (go_at_call 13; refine (C1.out _).mono ?_; rintro t w' ⟨rfl, hb⟩) | (go_at_call 8; refine (CT.out _ _).mono ?_; rintro t w' ⟨rfl, hb⟩) | (go_at_call 14; refine (C2.out _).mono ?_; rintro t w' ⟨rfl, hb⟩) | (go_at_call 12; with_reducible refine (C4.out _).mono ?_; rintro t w' ⟨rfl, hb⟩) | (go_at_call 12; with_reducible refine (C5.out _).mono ?_; rintro t w' ⟨rfl, hb⟩) | (go_at_call 15; refine (C3.out _).mono ?_; rintro t w' ⟨rfl, hb⟩)); (try go_wp2_with fail); refine hK.out _ _ ?_ (fun hHeld' => ?_); (focus (exact hkeep _ _ hb hHeld)); clear hK K; replace hHeld := hHeld'; clear hHeld')
      try simp only [Act.put, List.getElem_toArray, List.getElem_cons_succ, List.getElem_cons_zero, List.setIfInBounds_toArray, List.set_cons_zero, List.set_cons_succ]
      first | (refine wpAnyH_take (i := 16) rfl (by kernel_rfl) (by kernel_rfl) (by kernel_rfl) (fun _ _ _ h => h) (Or.inr ⟨by rfl, rfl⟩) hHeld ?_) | (refine wpAnyH_ready (rs := [16]) (by kernel_rfl) (by simp) ?_; refine AllReadyH.cons rfl (fun K hK => ?_) AllReadyH.nil; go_simp; (first | (go_at_call 13; refine (C1.out _).mono ?_; rintro t w' ⟨rfl, hb⟩) | (go_at_call 8; refine (CT.out _ _).mono ?_; rintro t w' ⟨rfl, hb⟩) | (go_at_call 14; refine (C2.out _).mono ?_; rintro t w' ⟨rfl, hb⟩) | (go_at_call 12; with_reducible refine (C4.out _).mono ?_; rintro t w' ⟨rfl, hb⟩) | (go_at_call 12; with_reducible refine (C5.out _).mono ?_; rintro t w' ⟨rfl, hb⟩) | (go_at_call 15; refine (C3.out _).mono ?_; rintro t w' ⟨rfl, hb⟩)); (try go_wp2_with fail); refine hK.out _ _ ?_ (fun hHeld' => ?_); (focus (exact hkeep _ _ hb hHeld)); clear hK K; replace hHeld := hHeld'; clear hHeld')
      try simp only [Act.put, List.getElem_toArray, List.getElem_cons_succ, List.getElem_cons_zero, List.setIfInBounds_toArray, List.set_cons_zero, List.set_cons_succ]
      first | (refine wpAnyH_take (i := 17) rfl (by kernel_rfl) (by kernel_rfl) (by kernel_rfl) (fun _ _ _ h => h) (Or.inr ⟨by rfl, rfl⟩) hHeld ?_) | (refine wpAnyH_take (i := 17) (v := ?_) rfl (by kernel_rfl) (by kernel_rfl) (by kernel_rfl) (fun _ _ _ h => h) (Or.inl ⟨by rfl, ?_⟩) hHeld ?_; rotate_left; focus (intro w hSw; (try dsimp only at hSw); go_simp; (try with_reducible rfl)))
      try simp only [Act.put, List.getElem_toArray, List.getElem_cons_succ, List.getElem_cons_zero, List.setIfInBounds_toArray, List.set_cons_zero, List.set_cons_succ]
      (refine wpAnyH_take (i := 18) (v := ?_) rfl (by kernel_rfl) (by kernel_rfl) (by kernel_rfl) (fun _ _ _ h => h) (Or.inl ⟨by rfl, ?_⟩) hHeld ?_; rotate_left; focus (intro w hSw; (try dsimp only at hSw); go_simp; (try with_reducible rfl)))
      try simp only [Act.put, List.getElem_toArray, List.getElem_cons_succ, List.getElem_cons_zero, List.setIfInBounds_toArray, List.set_cons_zero, List.set_cons_succ]
      (refine wpAnyH_take (i := 19) (v := ?_) rfl (by kernel_rfl) (by kernel_rfl) (by kernel_rfl) (fun _ _ _ h => h) (Or.inl ⟨by rfl, ?_⟩) hHeld ?_; rotate_left; focus (intro w hSw; (try dsimp only at hSw); go_simp; (try with_reducible rfl)))
      try simp only [Act.put, List.getElem_toArray, List.getElem_cons_succ, List.getElem_cons_zero, List.setIfInBounds_toArray, List.set_cons_zero, List.set_cons_succ]
      first | (refine wpAnyH_take (i := 20) rfl (by kernel_rfl) (by kernel_rfl) (by kernel_rfl) (fun _ _ _ h => h) (Or.inr ⟨by rfl, rfl⟩) hHeld ?_) | (refine wpAnyH_take (i := 20) (v := ?_) rfl (by kernel_rfl) (by kernel_rfl) (by kernel_rfl) (fun _ _ _ h => h) (Or.inl ⟨by rfl, ?_⟩) hHeld ?_; rotate_left; focus (intro w hSw; (try dsimp only at hSw); go_simp; (try with_reducible rfl)))
      try simp only [Act.put, List.getElem_toArray, List.getElem_cons_succ, List.getElem_cons_zero, List.setIfInBounds_toArray, List.set_cons_zero, List.set_cons_succ]
      first | (refine wpAnyH_take (i := 21) rfl (by kernel_rfl) (by kernel_rfl) (by kernel_rfl) (fun _ _ _ h => h) (Or.inr ⟨by rfl, rfl⟩) hHeld ?_) | (refine wpAnyH_take (i := 21) (v := ?_) rfl (by kernel_rfl) (by kernel_rfl) (by kernel_rfl) (fun _ _ _ h => h) (Or.inl ⟨by rfl, ?_⟩) hHeld ?_; rotate_left; focus (intro w hSw; (try dsimp only at hSw); go_simp; (try with_reducible rfl)))
      try simp only [Act.put, List.getElem_toArray, List.getElem_cons_succ, List.getElem_cons_zero, List.setIfInBounds_toArray, List.set_cons_zero, List.set_cons_succ]
      first | (refine wpAnyH_take (i := 24) rfl (by kernel_rfl) (by kernel_rfl) (by kernel_rfl) (fun _ _ _ h => h) (Or.inr ⟨by rfl, rfl⟩) hHeld ?_) | (refine wpAnyH_take (i := 24) (v := ?_) rfl (by kernel_rfl) (by kernel_rfl) (by kernel_rfl) (fun _ _ _ h => h) (Or.inl ⟨by rfl, ?_⟩) hHeld ?_; rotate_left; focus (intro w hSw; (try dsimp only at hSw); go_simp; (try with_reducible rfl)))
      try simp only [Act.put, List.getElem_toArray, List.getElem_cons_succ, List.getElem_cons_zero, List.setIfInBounds_toArray, List.set_cons_zero, List.set_cons_succ]
      first | (refine wpAnyH_take (i := 25) rfl (by kernel_rfl) (by kernel_rfl) (by kernel_rfl) (fun _ _ _ h => h) (Or.inr ⟨by rfl, rfl⟩) hHeld ?_) | (refine wpAnyH_take (i := 25) (v := ?_) rfl (by kernel_rfl) (by kernel_rfl) (by kernel_rfl) (fun _ _ _ h => h) (Or.inl ⟨by rfl, ?_⟩) hHeld ?_; rotate_left; focus (intro w hSw; (try dsimp only at hSw); go_simp; (try with_reducible rfl)))
      try simp only [Act.put, List.getElem_toArray, List.getElem_cons_succ, List.getElem_cons_zero, List.setIfInBounds_toArray, List.set_cons_zero, List.set_cons_succ]
      first | (refine wpAnyH_take (i := 26) rfl (by kernel_rfl) (by kernel_rfl) (by kernel_rfl) (fun _ _ _ h => h) (Or.inr ⟨by rfl, rfl⟩) hHeld ?_) | (refine wpAnyH_take (i := 26) (v := ?_) rfl (by kernel_rfl) (by kernel_rfl) (by kernel_rfl) (fun _ _ _ h => h) (Or.inl ⟨by rfl, ?_⟩) hHeld ?_; rotate_left; focus (intro w hSw; (try dsimp only at hSw); go_simp; (try with_reducible rfl)))
      try simp only [Act.put, List.getElem_toArray, List.getElem_cons_succ, List.getElem_cons_zero, List.setIfInBounds_toArray, List.set_cons_zero, List.set_cons_succ]
      first | (refine wpAnyH_take (i := 22) rfl (by kernel_rfl) (by kernel_rfl) (by kernel_rfl) (fun _ _ _ h => h) (Or.inr ⟨by rfl, rfl⟩) hHeld ?_) | (refine wpAnyH_ready (rs := [22]) (by kernel_rfl) (by simp) ?_; refine AllReadyH.cons rfl (fun K hK => ?_) AllReadyH.nil; go_simp; (first | (go_at_call 13; refine (C1.out _).mono ?_; rintro t w' ⟨rfl, hb⟩) | (go_at_call 8; refine (CT.out _ _).mono ?_; rintro t w' ⟨rfl, hb⟩) | (go_at_call 14; refine (C2.out _).mono ?_; rintro t w' ⟨rfl, hb⟩) | (go_at_call 12; with_reducible refine (C4.out _).mono ?_; rintro t w' ⟨rfl, hb⟩) | (go_at_call 12; with_reducible refine (C5.out _).mono ?_; rintro t w' ⟨rfl, hb⟩) | (go_at_call 15; refine (C3.out _).mono ?_; rintro t w' ⟨rfl, hb⟩)); (try go_wp2_with fail); refine hK.out _ _ ?_ (fun hHeld' => ?_); (focus (exact hkeep _ _ hb hHeld)); clear hK K; replace hHeld := hHeld'; clear hHeld')
      try simp only [Act.put, List.getElem_toArray, List.getElem_cons_succ, List.getElem_cons_zero, List.setIfInBounds_toArray, List.set_cons_zero, List.set_cons_succ]
      first | (refine wpAnyH_take (i := 23) rfl (by kernel_rfl) (by kernel_rfl) (by kernel_rfl) (fun _ _ _ h => h) (Or.inr ⟨by rfl, rfl⟩) hHeld ?_) | (refine wpAnyH_ready (rs := [23]) (by kernel_rfl) (by simp) ?_; refine AllReadyH.cons rfl (fun K hK => ?_) AllReadyH.nil; go_simp; (first | (go_at_call 13; refine (C1.out _).mono ?_; rintro t w' ⟨rfl, hb⟩) | (go_at_call 8; refine (CT.out _ _).mono ?_; rintro t w' ⟨rfl, hb⟩) | (go_at_call 14; refine (C2.out _).mono ?_; rintro t w' ⟨rfl, hb⟩) | (go_at_call 12; with_reducible refine (C4.out _).mono ?_; rintro t w' ⟨rfl, hb⟩) | (go_at_call 12; with_reducible refine (C5.out _).mono ?_; rintro t w' ⟨rfl, hb⟩) | (go_at_call 15; refine (C3.out _).mono ?_; rintro t w' ⟨rfl, hb⟩)); (try go_wp2_with fail); refine hK.out _ _ ?_ (fun hHeld' => ?_); (focus (exact hkeep _ _ hb hHeld)); clear hK K; replace hHeld := hHeld'; clear hHeld')
      try simp only [Act.put, List.getElem_toArray, List.getElem_cons_succ, List.getElem_cons_zero, List.setIfInBounds_toArray, List.set_cons_zero, List.set_cons_succ]
      first | (refine wpAnyH_take (i := 27) rfl (by kernel_rfl) (by kernel_rfl) (by kernel_rfl) (fun _ _ _ h => h) (Or.inr ⟨by rfl, rfl⟩) hHeld ?_) | (refine wpAnyH_ready (rs := [27]) (by kernel_rfl) (by simp) ?_; refine AllReadyH.cons rfl (fun K hK => ?_) AllReadyH.nil; go_simp; (first | (go_at_call 13; refine (C1.out _).mono ?_; rintro t w' ⟨rfl, hb⟩) | (go_at_call 8; refine (CT.out _ _).mono ?_; rintro t w' ⟨rfl, hb⟩) | (go_at_call 14; refine (C2.out _).mono ?_; rintro t w' ⟨rfl, hb⟩) | (go_at_call 12; with_reducible refine (C4.out _).mono ?_; rintro t w' ⟨rfl, hb⟩) | (go_at_call 12; with_reducible refine (C5.out _).mono ?_; rintro t w' ⟨rfl, hb⟩) | (go_at_call 15; refine (C3.out _).mono ?_; rintro t w' ⟨rfl, hb⟩)); (try go_wp2_with fail); refine hK.out _ _ ?_ (fun hHeld' => ?_); (focus (exact hkeep _ _ hb hHeld)); clear hK K; replace hHeld := hHeld'; clear hHeld')
      try simp only [Act.put, List.getElem_toArray, List.getElem_cons_succ, List.getElem_cons_zero, List.setIfInBounds_toArray, List.set_cons_zero, List.set_cons_succ]
      first | (refine wpAnyH_take (i := 28) rfl (by kernel_rfl) (by kernel_rfl) (by kernel_rfl) (fun _ _ _ h => h) (Or.inr ⟨by rfl, rfl⟩) hHeld ?_) | (refine wpAnyH_take (i := 28) (v := ?_) rfl (by kernel_rfl) (by kernel_rfl) (by kernel_rfl) (fun _ _ _ h => h) (Or.inl ⟨by rfl, ?_⟩) hHeld ?_; rotate_left; focus (intro w hSw; (try dsimp only at hSw); go_simp; (try with_reducible rfl)))
      try simp only [Act.put, List.getElem_toArray, List.getElem_cons_succ, List.getElem_cons_zero, List.setIfInBounds_toArray, List.set_cons_zero, List.set_cons_succ]
      (refine wpAnyH_take (i := 29) (v := ?_) rfl (by kernel_rfl) (by kernel_rfl) (by kernel_rfl) (fun _ _ _ h => h) (Or.inl ⟨by rfl, ?_⟩) hHeld ?_; rotate_left; focus (intro w hSw; (try dsimp only at hSw); go_simp; (try with_reducible rfl)))
      try simp only [Act.put, List.getElem_toArray, List.getElem_cons_succ, List.getElem_cons_zero, List.setIfInBounds_toArray, List.set_cons_zero, List.set_cons_succ]
      refine wpAnyH_done (by kernel_rfl) ?_ _
      refine NoPanic.normal ?_
      have hF : Below a1 w w' ∧ Row w' a1 27 10 (setV s) ∧ Row w' a2 33 10 (setV s) ∧ Row w' a3 33 10 (setV T) ∧ (w'.cell? ⟨a1, 0, none⟩ = some (.int .i64 (s.slot 0)) ∧ w'.cell? ⟨a1, 1, none⟩ = some (.bool (s.tch 0)) ∧ w'.cell? ⟨a1, 2, none⟩ = some (.int .i64 (s.slot 1)) ∧ w'.cell? ⟨a1, 3, none⟩ = some (.bool (s.tch 1)) ∧ w'.cell? ⟨a1, 4, none⟩ = some (.int .i64 (s.slot 2)) ∧ w'.cell? ⟨a1, 5, none⟩ = some (.bool (s.tch 2)) ∧ w'.cell? ⟨a1, 6, none⟩ = some (.int .i64 (s.slot 3)) ∧ w'.cell? ⟨a1, 7, none⟩ = some (.bool (s.tch 3)) ∧ w'.cell? ⟨a1, 8, none⟩ = some (.int .i64 s.hand) ∧ w'.cell? ⟨a1, 9, none⟩ = some (.int .u64 (s.turns : Nat))) ∧ (w'.cell? ⟨a2, 0, none⟩ = some (.int .i64 (s.slot 0)) ∧ w'.cell? ⟨a2, 1, none⟩ = some (.bool (s.tch 0)) ∧ w'.cell? ⟨a2, 2, none⟩ = some (.int .i64 (s.slot 1)) ∧ w'.cell? ⟨a2, 3, none⟩ = some (.bool (s.tch 1)) ∧ w'.cell? ⟨a2, 4, none⟩ = some (.int .i64 (s.slot 2)) ∧ w'.cell? ⟨a2, 5, none⟩ = some (.bool (s.tch 2)) ∧ w'.cell? ⟨a2, 6, none⟩ = some (.int .i64 (s.slot 3)) ∧ w'.cell? ⟨a2, 7, none⟩ = some (.bool (s.tch 3)) ∧ w'.cell? ⟨a2, 8, none⟩ = some (.int .i64 s.hand) ∧ w'.cell? ⟨a2, 9, none⟩ = some (.int .u64 (s.turns : Nat))) ∧ w'.cell? ⟨a3, 0, none⟩ = some (.int .i64 (T.slot 0)) ∧ w'.cell? ⟨a3, 1, none⟩ = some (.bool (T.tch 0)) ∧ w'.cell? ⟨a3, 2, none⟩ = some (.int .i64 (T.slot 1)) ∧ w'.cell? ⟨a3, 3, none⟩ = some (.bool (T.tch 1)) ∧ w'.cell? ⟨a3, 4, none⟩ = some (.int .i64 (T.slot 2)) ∧ w'.cell? ⟨a3, 5, none⟩ = some (.bool (T.tch 2)) ∧ w'.cell? ⟨a3, 6, none⟩ = some (.int .i64 (T.slot 3)) ∧ w'.cell? ⟨a3, 7, none⟩ = some (.bool (T.tch 3)) ∧ w'.cell? ⟨a3, 8, none⟩ = some (.int .i64 T.hand) ∧ w'.cell? ⟨a3, 9, none⟩ = some (.int .u64 (T.turns : Nat)) := by assumption
      obtain ⟨hb6, r1, r2, r3, -⟩ := hF
      have HW := Lib.hid (rfl : w = w)
      clear hHeld HST hkeep f1 f2
      clear hb r3 HW C1 C2 C3 C4 C5 hE1 hE2 hE3
      have hs7 := r1.lt
      go_upto_region 8 with (first
        | (refine wpList_load_row rfl 27 _ rfl a1 rfl 27 (rowOf 10 (setV s)) (0, 0) _ r1 Try.underlying27 rfl (by kernel_rfl) ?_)
        | (go_at_call 16; refine (C6.out _).mono ?_; rintro e w7 ⟨rfl, hb7⟩)
        | (refine wpList_store_row rfl 27 _ _ rfl w7.heap.size (rowOf 10 (setV P)) rfl rfl 27 (rowOf 10 (setV zeroS)) (heap_alloc_new w7 _) (by kernel_rfl) rfl (setV_one _ _) ?_))
      rw [World.setRow_alloc_new]
      have ha7 : a1 < w7.heap.size := Nat.lt_of_lt_of_le hs7 hb7.size
      have p2 := (r2.keep hb7).alloc (.cells (rowOf 10 (setV P)) 27)
      have p4 : Row (w7.alloc (.cells (rowOf 10 (setV P)) 27)) w7.heap.size 27 10 (setV P) := Row.new _ _ _ _ _ rfl
      have hb8 := (below_on hb6 (Nat.le_of_eq HZ.out.symm) hb7).alloc (Nat.le_of_lt ha7) (.cells (rowOf 10 (setV P)) 27)
      clear r1 r2 hb6 hb7 hs7
      generalize hg : w7.heap.size = a4 at *
      generalize World.alloc w7 _ = W7 at *
      clear hg
      have hs8 := p4.lt
      go_upto_region 9 with (first
        | (refine wpList_load_row rfl 33 _ rfl a2 rfl 33 (rowOf 10 (setV s)) (0, 0) _ p2 Try.underlying33 rfl (by kernel_rfl) ?_)
        | (go_at_call 17; refine (C7.out _).mono ?_; rintro e w9 ⟨rfl, hb9⟩)
        | (refine wpList_store_row rfl 33 _ _ rfl w9.heap.size (rowOf 10 (setV P)) rfl rfl 33 (rowOf 10 (setV zeroS)) (heap_alloc_new w9 _) (by kernel_rfl) rfl (setV_one _ _) ?_))
      rw [World.setRow_alloc_new]
      have ha9 : a1 < w9.heap.size := Nat.lt_trans ha7 (Nat.lt_of_lt_of_le hs8 hb9.size)
      have q4 := (p4.keep hb9).alloc (.cells (rowOf 10 (setV P)) 33)
      have q5 : Row (w9.alloc (.cells (rowOf 10 (setV P)) 33)) w9.heap.size 33 10 (setV P) := Row.new _ _ _ _ _ rfl
      have hb10 := (below_on hb8 (Nat.le_of_eq HZ.out.symm) hb9).alloc (Nat.le_of_lt ha9) (.cells (rowOf 10 (setV P)) 33)
      clear p2 p4 hb8 hb9
      generalize hg : w9.heap.size = a5 at *
      generalize World.alloc w9 _ = W9 at *
      clear hg
      have hkeep : ∀ w1 w2 : World, Below w1.heap.size w1 w2 → (fun w' => Below a1 w w' ∧ Row w' a4 27 10 (setV P) ∧ Row w' a5 33 10 (setV P) ∧ (w'.cell? ⟨a4, 0, none⟩ = some (.int .i64 (P.slot 0)) ∧ w'.cell? ⟨a4, 1, none⟩ = some (.bool (P.tch 0)) ∧ w'.cell? ⟨a4, 2, none⟩ = some (.int .i64 (P.slot 1)) ∧ w'.cell? ⟨a4, 3, none⟩ = some (.bool (P.tch 1)) ∧ w'.cell? ⟨a4, 4, none⟩ = some (.int .i64 (P.slot 2)) ∧ w'.cell? ⟨a4, 5, none⟩ = some (.bool (P.tch 2)) ∧ w'.cell? ⟨a4, 6, none⟩ = some (.int .i64 (P.slot 3)) ∧ w'.cell? ⟨a4, 7, none⟩ = some (.bool (P.tch 3)) ∧ w'.cell? ⟨a4, 8, none⟩ = some (.int .i64 P.hand) ∧ w'.cell? ⟨a4, 9, none⟩ = some (.int .u64 (P.turns : Nat))) ∧ w'.cell? ⟨a5, 0, none⟩ = some (.int .i64 (P.slot 0)) ∧ w'.cell? ⟨a5, 1, none⟩ = some (.bool (P.tch 0)) ∧ w'.cell? ⟨a5, 2, none⟩ = some (.int .i64 (P.slot 1)) ∧ w'.cell? ⟨a5, 3, none⟩ = some (.bool (P.tch 1)) ∧ w'.cell? ⟨a5, 4, none⟩ = some (.int .i64 (P.slot 2)) ∧ w'.cell? ⟨a5, 5, none⟩ = some (.bool (P.tch 2)) ∧ w'.cell? ⟨a5, 6, none⟩ = some (.int .i64 (P.slot 3)) ∧ w'.cell? ⟨a5, 7, none⟩ = some (.bool (P.tch 3)) ∧ w'.cell? ⟨a5, 8, none⟩ = some (.int .i64 P.hand) ∧ w'.cell? ⟨a5, 9, none⟩ = some (.int .u64 (P.turns : Nat))) w1 → (fun w' => Below a1 w w' ∧ Row w' a4 27 10 (setV P) ∧ Row w' a5 33 10 (setV P) ∧ (w'.cell? ⟨a4, 0, none⟩ = some (.int .i64 (P.slot 0)) ∧ w'.cell? ⟨a4, 1, none⟩ = some (.bool (P.tch 0)) ∧ w'.cell? ⟨a4, 2, none⟩ = some (.int .i64 (P.slot 1)) ∧ w'.cell? ⟨a4, 3, none⟩ = some (.bool (P.tch 1)) ∧ w'.cell? ⟨a4, 4, none⟩ = some (.int .i64 (P.slot 2)) ∧ w'.cell? ⟨a4, 5, none⟩ = some (.bool (P.tch 2)) ∧ w'.cell? ⟨a4, 6, none⟩ = some (.int .i64 (P.slot 3)) ∧ w'.cell? ⟨a4, 7, none⟩ = some (.bool (P.tch 3)) ∧ w'.cell? ⟨a4, 8, none⟩ = some (.int .i64 P.hand) ∧ w'.cell? ⟨a4, 9, none⟩ = some (.int .u64 (P.turns : Nat))) ∧ w'.cell? ⟨a5, 0, none⟩ = some (.int .i64 (P.slot 0)) ∧ w'.cell? ⟨a5, 1, none⟩ = some (.bool (P.tch 0)) ∧ w'.cell? ⟨a5, 2, none⟩ = some (.int .i64 (P.slot 1)) ∧ w'.cell? ⟨a5, 3, none⟩ = some (.bool (P.tch 1)) ∧ w'.cell? ⟨a5, 4, none⟩ = some (.int .i64 (P.slot 2)) ∧ w'.cell? ⟨a5, 5, none⟩ = some (.bool (P.tch 2)) ∧ w'.cell? ⟨a5, 6, none⟩ = some (.int .i64 (P.slot 3)) ∧ w'.cell? ⟨a5, 7, none⟩ = some (.bool (P.tch 3)) ∧ w'.cell? ⟨a5, 8, none⟩ = some (.int .i64 P.hand) ∧ w'.cell? ⟨a5, 9, none⟩ = some (.int .u64 (P.turns : Nat))) w2 := fun w1 w2 hb h => puts_held (below_on h.1 (Nat.le_of_eq HZ.out.symm) hb) (h.2.1.keep hb) (h.2.2.1.keep hb)
      have HST := Lib.hid (puts_held hb10.drew q4.drew q5.drew)
      have f3 := fold10 P
      clear q4 q5 hb10 C6 C7
      go_upto_region 9 with fail
      refine wp_region_noPanic ?_
      refine wp_region_held_drew (S := fun w' => Below a1 w w' ∧ Row w' a4 27 10 (setV P) ∧ Row w' a5 33 10 (setV P) ∧ (w'.cell? ⟨a4, 0, none⟩ = some (.int .i64 (P.slot 0)) ∧ w'.cell? ⟨a4, 1, none⟩ = some (.bool (P.tch 0)) ∧ w'.cell? ⟨a4, 2, none⟩ = some (.int .i64 (P.slot 1)) ∧ w'.cell? ⟨a4, 3, none⟩ = some (.bool (P.tch 1)) ∧ w'.cell? ⟨a4, 4, none⟩ = some (.int .i64 (P.slot 2)) ∧ w'.cell? ⟨a4, 5, none⟩ = some (.bool (P.tch 2)) ∧ w'.cell? ⟨a4, 6, none⟩ = some (.int .i64 (P.slot 3)) ∧ w'.cell? ⟨a4, 7, none⟩ = some (.bool (P.tch 3)) ∧ w'.cell? ⟨a4, 8, none⟩ = some (.int .i64 P.hand) ∧ w'.cell? ⟨a4, 9, none⟩ = some (.int .u64 (P.turns : Nat))) ∧ w'.cell? ⟨a5, 0, none⟩ = some (.int .i64 (P.slot 0)) ∧ w'.cell? ⟨a5, 1, none⟩ = some (.bool (P.tch 0)) ∧ w'.cell? ⟨a5, 2, none⟩ = some (.int .i64 (P.slot 1)) ∧ w'.cell? ⟨a5, 3, none⟩ = some (.bool (P.tch 1)) ∧ w'.cell? ⟨a5, 4, none⟩ = some (.int .i64 (P.slot 2)) ∧ w'.cell? ⟨a5, 5, none⟩ = some (.bool (P.tch 2)) ∧ w'.cell? ⟨a5, 6, none⟩ = some (.int .i64 (P.slot 3)) ∧ w'.cell? ⟨a5, 7, none⟩ = some (.bool (P.tch 3)) ∧ w'.cell? ⟨a5, 8, none⟩ = some (.int .i64 P.hand) ∧ w'.cell? ⟨a5, 9, none⟩ = some (.int .u64 (P.turns : Nat))) (by kernel_rfl) (HST.out) (fun hHeld => ?_)
      (refine wpAnyH_take (i := 0) (v := ?_) rfl (by kernel_rfl) (by kernel_rfl) (by kernel_rfl) (fun _ _ _ h => h) (Or.inl ⟨by rfl, ?_⟩) hHeld ?_; rotate_left; focus (intro w hSw; (try dsimp only at hSw); go_simp; (try with_reducible rfl)))
      try simp only [Act.put, List.getElem_toArray, List.getElem_cons_succ, List.getElem_cons_zero, List.setIfInBounds_toArray, List.set_cons_zero, List.set_cons_succ]
      (refine wpAnyH_take (i := 2) (v := ?_) rfl (by kernel_rfl) (by kernel_rfl) (by kernel_rfl) (fun _ _ _ h => h) (Or.inl ⟨by rfl, ?_⟩) hHeld ?_; rotate_left; focus (intro w hSw; (try dsimp only at hSw); go_simp; (try with_reducible rfl)))
      try simp only [Act.put, List.getElem_toArray, List.getElem_cons_succ, List.getElem_cons_zero, List.setIfInBounds_toArray, List.set_cons_zero, List.set_cons_succ]
      (refine wpAnyH_ready (rs := [1]) (by kernel_rfl) (by simp) ?_; refine AllReadyH.cons rfl (fun K hK => ?_) AllReadyH.nil; go_simp; (first | (go_at_call 8; refine (CT.out _ _).mono ?_; rintro t w' ⟨rfl, hb⟩) | (go_at_call 11; refine (C8.out _).mono ?_; rintro t w' ⟨rfl, hb⟩)); (try go_wp2_with fail); refine hK.out _ _ ?_ (fun hHeld' => ?_); (focus (exact hkeep _ _ hb hHeld)); clear hK K; replace hHeld := hHeld'; clear hHeld')
      try simp only [Act.put, List.getElem_toArray, List.getElem_cons_succ, List.getElem_cons_zero, List.setIfInBounds_toArray, List.set_cons_zero, List.set_cons_succ]
      (refine wpAnyH_take (i := 3) (v := ?_) rfl (by kernel_rfl) (by kernel_rfl) (by kernel_rfl) (fun _ _ _ h => h) (Or.inl ⟨by rfl, ?_⟩) hHeld ?_; rotate_left; focus (intro w hSw; (try dsimp only at hSw); go_simp; (try with_reducible rfl)))
      try simp only [Act.put, List.getElem_toArray, List.getElem_cons_succ, List.getElem_cons_zero, List.setIfInBounds_toArray, List.set_cons_zero, List.set_cons_succ]
      (refine wpAnyH_take (i := 4) (v := ?_) rfl (by kernel_rfl) (by kernel_rfl) (by kernel_rfl) (fun _ _ _ h => h) (Or.inl ⟨by rfl, ?_⟩) hHeld ?_; rotate_left; focus (intro w hSw; (try dsimp only at hSw); go_simp; (try with_reducible rfl)))
      try simp only [Act.put, List.getElem_toArray, List.getElem_cons_succ, List.getElem_cons_zero, List.setIfInBounds_toArray, List.set_cons_zero, List.set_cons_succ]
      first | (refine wpAnyH_take (i := 5) rfl (by kernel_rfl) (by kernel_rfl) (by kernel_rfl) (fun _ _ _ h => h) (Or.inr ⟨by rfl, rfl⟩) hHeld ?_) | (refine wpAnyH_take (i := 5) (v := ?_) rfl (by kernel_rfl) (by kernel_rfl) (by kernel_rfl) (fun _ _ _ h => h) (Or.inl ⟨by rfl, ?_⟩) hHeld ?_; rotate_left; focus (intro w hSw; (try dsimp only at hSw); go_simp; (try with_reducible rfl)))
      try simp only [Act.put, List.getElem_toArray, List.getElem_cons_succ, List.getElem_cons_zero, List.setIfInBounds_toArray, List.set_cons_zero, List.set_cons_succ]
      first | (refine wpAnyH_take (i := 6) rfl (by kernel_rfl) (by kernel_rfl) (by kernel_rfl) (fun _ _ _ h => h) (Or.inr ⟨by rfl, rfl⟩) hHeld ?_) | (refine wpAnyH_take (i := 6) (v := ?_) rfl (by kernel_rfl) (by kernel_rfl) (by kernel_rfl) (fun _ _ _ h => h) (Or.inl ⟨by rfl, ?_⟩) hHeld ?_; rotate_left; focus (intro w hSw; (try dsimp only at hSw); go_simp; (try with_reducible rfl)))
      try simp only [Act.put, List.getElem_toArray, List.getElem_cons_succ, List.getElem_cons_zero, List.setIfInBounds_toArray, List.set_cons_zero, List.set_cons_succ]
      first | (refine wpAnyH_take (i := 7) rfl (by kernel_rfl) (by kernel_rfl) (by kernel_rfl) (fun _ _ _ h => h) (Or.inr ⟨by rfl, rfl⟩) hHeld ?_) | (refine wpAnyH_take (i := 7) (v := ?_) rfl (by kernel_rfl) (by kernel_rfl) (by kernel_rfl) (fun _ _ _ h => h) (Or.inl ⟨by rfl, ?_⟩) hHeld ?_; rotate_left; focus (intro w hSw; (try dsimp only at hSw); go_simp; (try with_reducible rfl)))
      try simp only [Act.put, List.getElem_toArray, List.getElem_cons_succ, List.getElem_cons_zero, List.setIfInBounds_toArray, List.set_cons_zero, List.set_cons_succ]
      (refine wpAnyH_take (i := 8) (v := ?_) rfl (by kernel_rfl) (by kernel_rfl) (by kernel_rfl) (fun _ _ _ h => h) (Or.inl ⟨by rfl, ?_⟩) hHeld ?_; rotate_left; focus (intro w hSw; (try dsimp only at hSw); go_simp; (try with_reducible rfl)))
      try simp only [Act.put, List.getElem_toArray, List.getElem_cons_succ, List.getElem_cons_zero, List.setIfInBounds_toArray, List.set_cons_zero, List.set_cons_succ]
      (refine wpAnyH_take (i := 9) (v := ?_) rfl (by kernel_rfl) (by kernel_rfl) (by kernel_rfl) (fun _ _ _ h => h) (Or.inl ⟨by rfl, ?_⟩) hHeld ?_; rotate_left; focus (intro w hSw; (try dsimp only at hSw); go_simp; (try with_reducible rfl)))
      try simp only [Act.put, List.getElem_toArray, List.getElem_cons_succ, List.getElem_cons_zero, List.setIfInBounds_toArray, List.set_cons_zero, List.set_cons_succ]
      first | (refine wpAnyH_take (i := 10) rfl (by kernel_rfl) (by kernel_rfl) (by kernel_rfl) (fun _ _ _ h => h) (Or.inr ⟨by rfl, rfl⟩) hHeld ?_) | (refine wpAnyH_take (i := 10) (v := ?_) rfl (by kernel_rfl) (by kernel_rfl) (by kernel_rfl) (fun _ _ _ h => h) (Or.inl ⟨by rfl, ?_⟩) hHeld ?_; rotate_left; focus (intro w hSw; (try dsimp only at hSw); go_simp; (try with_reducible rfl)))
      try simp only [Act.put, List.getElem_toArray, List.getElem_cons_succ, List.getElem_cons_zero, List.setIfInBounds_toArray, List.set_cons_zero, List.set_cons_succ]
      first | (refine wpAnyH_take (i := 11) rfl (by kernel_rfl) (by kernel_rfl) (by kernel_rfl) (fun _ _ _ h => h) (Or.inr ⟨by rfl, rfl⟩) hHeld ?_) | (refine wpAnyH_take (i := 11) (v := ?_) rfl (by kernel_rfl) (by kernel_rfl) (by kernel_rfl) (fun _ _ _ h => h) (Or.inl ⟨by rfl, ?_⟩) hHeld ?_; rotate_left; focus (intro w hSw; (try dsimp only at hSw); go_simp; (try with_reducible rfl)))
      try simp only [Act.put, List.getElem_toArray, List.getElem_cons_succ, List.getElem_cons_zero, List.setIfInBounds_toArray, List.set_cons_zero, List.set_cons_succ]
      first | (refine wpAnyH_take (i := 12) rfl (by kernel_rfl) (by kernel_rfl) (by kernel_rfl) (fun _ _ _ h => h) (Or.inr ⟨by rfl, rfl⟩) hHeld ?_) | (refine wpAnyH_take (i := 12) (v := ?_) rfl (by kernel_rfl) (by kernel_rfl) (by kernel_rfl) (fun _ _ _ h => h) (Or.inl ⟨by rfl, ?_⟩) hHeld ?_; rotate_left; focus (intro w hSw; (try dsimp only at hSw); go_simp; (try with_reducible rfl)))
      try simp only [Act.put, List.getElem_toArray, List.getElem_cons_succ, List.getElem_cons_zero, List.setIfInBounds_toArray, List.set_cons_zero, List.set_cons_succ]
      (refine wpAnyH_take (i := 13) (v := ?_) rfl (by kernel_rfl) (by kernel_rfl) (by kernel_rfl) (fun _ _ _ h => h) (Or.inl ⟨by rfl, ?_⟩) hHeld ?_; rotate_left; focus (intro w hSw; (try dsimp only at hSw); go_simp; (try with_reducible rfl)))
      try simp only [Act.put, List.getElem_toArray, List.getElem_cons_succ, List.getElem_cons_zero, List.setIfInBounds_toArray, List.set_cons_zero, List.set_cons_succ]
      (refine wpAnyH_take (i := 14) (v := ?_) rfl (by kernel_rfl) (by kernel_rfl) (by kernel_rfl) (fun _ _ _ h => h) (Or.inl ⟨by rfl, ?_⟩) hHeld ?_; rotate_left; focus (intro w hSw; (try dsimp only at hSw); go_simp; (try with_reducible rfl)))
      try simp only [Act.put, List.getElem_toArray, List.getElem_cons_succ, List.getElem_cons_zero, List.setIfInBounds_toArray, List.set_cons_zero, List.set_cons_succ]
      first | (refine wpAnyH_take (i := 15) rfl (by kernel_rfl) (by kernel_rfl) (by kernel_rfl) (fun _ _ _ h => h) (Or.inr ⟨by rfl, rfl⟩) hHeld ?_) | (refine wpAnyH_ready (rs := [15]) (by kernel_rfl) (by simp) ?_; refine AllReadyH.cons rfl (fun K hK => ?_) AllReadyH.nil; go_simp; (first | (go_at_call 8; refine (CT.out _ _).mono ?_; rintro t w' ⟨rfl, hb⟩) | (go_at_call 11; refine (C8.out _).mono ?_; rintro t w' ⟨rfl, hb⟩)); (try go_wp2_with fail); refine hK.out _ _ ?_ (fun hHeld' => ?_); (focus (exact hkeep _ _ hb hHeld)); clear hK K; replace hHeld := hHeld'; clear hHeld')
      try simp only [Act.put, List.getElem_toArray, List.getElem_cons_succ, List.getElem_cons_zero, List.setIfInBounds_toArray, List.set_cons_zero, List.set_cons_succ]
      (refine wpAnyH_take (i := 16) (v := ?_) rfl (by kernel_rfl) (by kernel_rfl) (by kernel_rfl) (fun _ _ _ h => h) (Or.inl ⟨by rfl, ?_⟩) hHeld ?_; rotate_left; focus (intro w hSw; (try dsimp only at hSw); go_simp; (try with_reducible rfl)))
      try simp only [Act.put, List.getElem_toArray, List.getElem_cons_succ, List.getElem_cons_zero, List.setIfInBounds_toArray, List.set_cons_zero, List.set_cons_succ]
      (refine wpAnyH_take (i := 17) (v := ?_) rfl (by kernel_rfl) (by kernel_rfl) (by kernel_rfl) (fun _ _ _ h => h) (Or.inl ⟨by rfl, ?_⟩) hHeld ?_; rotate_left; focus (intro w hSw; (try dsimp only at hSw); go_simp; (try with_reducible rfl)))
      try simp only [Act.put, List.getElem_toArray, List.getElem_cons_succ, List.getElem_cons_zero, List.setIfInBounds_toArray, List.set_cons_zero, List.set_cons_succ]
      refine wpAnyH_done (by kernel_rfl) ?_ _
      refine NoPanic.normal ?_
      have hF := And.left (by assumption : Below a1 w w' ∧ Row w' a4 27 10 (setV P) ∧ Row w' a5 33 10 (setV P) ∧ (w'.cell? ⟨a4, 0, none⟩ = some (.int .i64 (P.slot 0)) ∧ w'.cell? ⟨a4, 1, none⟩ = some (.bool (P.tch 0)) ∧ w'.cell? ⟨a4, 2, none⟩ = some (.int .i64 (P.slot 1)) ∧ w'.cell? ⟨a4, 3, none⟩ = some (.bool (P.tch 1)) ∧ w'.cell? ⟨a4, 4, none⟩ = some (.int .i64 (P.slot 2)) ∧ w'.cell? ⟨a4, 5, none⟩ = some (.bool (P.tch 2)) ∧ w'.cell? ⟨a4, 6, none⟩ = some (.int .i64 (P.slot 3)) ∧ w'.cell? ⟨a4, 7, none⟩ = some (.bool (P.tch 3)) ∧ w'.cell? ⟨a4, 8, none⟩ = some (.int .i64 P.hand) ∧ w'.cell? ⟨a4, 9, none⟩ = some (.int .u64 (P.turns : Nat))) ∧ w'.cell? ⟨a5, 0, none⟩ = some (.int .i64 (P.slot 0)) ∧ w'.cell? ⟨a5, 1, none⟩ = some (.bool (P.tch 0)) ∧ w'.cell? ⟨a5, 2, none⟩ = some (.int .i64 (P.slot 1)) ∧ w'.cell? ⟨a5, 3, none⟩ = some (.bool (P.tch 1)) ∧ w'.cell? ⟨a5, 4, none⟩ = some (.int .i64 (P.slot 2)) ∧ w'.cell? ⟨a5, 5, none⟩ = some (.bool (P.tch 2)) ∧ w'.cell? ⟨a5, 6, none⟩ = some (.int .i64 (P.slot 3)) ∧ w'.cell? ⟨a5, 7, none⟩ = some (.bool (P.tch 3)) ∧ w'.cell? ⟨a5, 8, none⟩ = some (.int .i64 P.hand) ∧ w'.cell? ⟨a5, 9, none⟩ = some (.int .u64 (P.turns : Nat)))
      clear hHeld HST
      go_wp2
      go_ret
      exact ⟨rfl, by rw [HZ.out]; exact hF⟩
end Go.Proofs.Ytoimbgmajoajiaa
