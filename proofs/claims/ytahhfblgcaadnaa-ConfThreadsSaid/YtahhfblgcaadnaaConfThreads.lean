/- Statement ConfThreads of layer 4, walked. -/
import Derived.Test.YtahhfblgcaadnaaConfLaws
namespace Go.Proofs.Ytahhfblgcaadnaa
open Go.ChangeShapes Go.WideShapes Go.ChangeAt Go.RowKit

theorem thrs_len (c : Nat → Int) (lo hi : Int) : (thrs c lo hi).length ≤ 8 := by
  rw [← rthr_all]; exact rthr_len c lo hi 8
/-- Equal lists. -/
theorem rInts_same (l : List Int) (hl : l.length ≤ 8) (A B : Option Addr) (ca cb : Nat) (w : World)
    (hr : RowIs w A l.length (fun i => .int .i64 (l.getD i 0))) (hq : RowIs w B l.length (fun i => .int .i64 (l.getD i 0))) :
    Calls Try.prog 12 #[.slice A l.length ca, .slice B l.length cb] w fun e w' => e = .returned (.bool true) ∧ Below w.heap.size w w' := by
  refine (rInts_any A B ca cb l l (by omega) (by omega) w hr hq).mono ?_
  rintro e w' ⟨rfl, hd⟩
  exact ⟨by simp, hd.below _⟩
theorem RowIs.keepB {w w' : World} {A : Option Addr} {n : Nat} {f : Nat → Value} (h : RowIs w A n f) (hb : Below w.heap.size w w') : RowIs w' A n f := h.below hb

set_option maxRecDepth 100000 in
set_option maxHeartbeats 4000000 in
theorem confThreads_walk (c : Nat → Int) (hc : Ok64 c) (t l : Int) (ht : -9223372036854775808 ≤ t ∧ t ≤ 9223372036854775807) (w : World) :
    Calls Try.prog 4 #[.agg (rowOf 14 (ints c)), .int .i64 t, .int .i64 l] w fun e w' => e = .returned (.bool true) ∧ Below w.heap.size w w' := by
  have f14 := fold14 c
  have c1 := Lib.hid (rLevel_any c hc t ht)
  have c2 := Lib.hid (cAt_any c hc l)
  have c3 := Lib.hid (rAt_any c hc l l)
  have c4 := Lib.hid (cUpTo_any c hc l)
  have c5 := Lib.hid (rAt_any c hc 0 l)
  have i1 := Lib.hid (rInts_same (thrs c l l) (thrs_len ..))
  have i2 := Lib.hid (rInts_same (thrs c 0 l) (thrs_len ..))
  have c6 := cWrites_any c hc t l ht
  have c7 := cReads_any c hc t l ht
  rw [writesB_eq] at c6
  rw [readsB_eq] at c7
  have C6 := Lib.hid c6; have C7 := Lib.hid c7; clear c6 c7
  generalize thrs c l l = l1 at *
  generalize thrs c 0 l = l2 at *
  generalize lvl c t = n at *
  go_enter Try.func4, Try.ntmps4
  go_upto_region 1 with fail
  generalize hW : World.alloc _ _ = W
  have hr : Row W w.heap.size 24 14 (ints c) := by rw [← hW]; exact Row.new _ _ _ _ _ rfl
  have hB : Below w.heap.size w W := by rw [← hW]; exact (Below.refl _ _).alloc (Nat.le_refl _) _
  clear hW
  generalize hz : w.heap.size = a1 at *
  have HZ := Lib.hid hz; clear hz
  obtain ⟨u0, u1, u2, u3, u4, u5, u6, u7, u8, u9, u10, u11, u12, u13⟩ := conf_cells hr
  have hkeep : ∀ w1 w2 : World, Below w1.heap.size w1 w2 → (fun w' : World => Below a1 w w' ∧ Row w' a1 24 14 (ints c) ∧ w'.cell? ⟨a1, 0, none⟩ = some (.int .i64 (c 0)) ∧ w'.cell? ⟨a1, 1, none⟩ = some (.int .i64 (c 1)) ∧ w'.cell? ⟨a1, 2, none⟩ = some (.int .i64 (c 2)) ∧ w'.cell? ⟨a1, 3, none⟩ = some (.int .i64 (c 3)) ∧ w'.cell? ⟨a1, 4, none⟩ = some (.int .i64 (c 4)) ∧ w'.cell? ⟨a1, 5, none⟩ = some (.int .i64 (c 5)) ∧ w'.cell? ⟨a1, 6, none⟩ = some (.int .i64 (c 6)) ∧ w'.cell? ⟨a1, 7, none⟩ = some (.int .i64 (c 7)) ∧ w'.cell? ⟨a1, 8, none⟩ = some (.int .i64 (c 8)) ∧ w'.cell? ⟨a1, 9, none⟩ = some (.int .i64 (c 9)) ∧ w'.cell? ⟨a1, 10, none⟩ = some (.int .i64 (c 10)) ∧ w'.cell? ⟨a1, 11, none⟩ = some (.int .i64 (c 11)) ∧ w'.cell? ⟨a1, 12, none⟩ = some (.int .i64 (c 12)) ∧ w'.cell? ⟨a1, 13, none⟩ = some (.int .i64 (c 13))) w1 → (fun w' : World => Below a1 w w' ∧ Row w' a1 24 14 (ints c) ∧ w'.cell? ⟨a1, 0, none⟩ = some (.int .i64 (c 0)) ∧ w'.cell? ⟨a1, 1, none⟩ = some (.int .i64 (c 1)) ∧ w'.cell? ⟨a1, 2, none⟩ = some (.int .i64 (c 2)) ∧ w'.cell? ⟨a1, 3, none⟩ = some (.int .i64 (c 3)) ∧ w'.cell? ⟨a1, 4, none⟩ = some (.int .i64 (c 4)) ∧ w'.cell? ⟨a1, 5, none⟩ = some (.int .i64 (c 5)) ∧ w'.cell? ⟨a1, 6, none⟩ = some (.int .i64 (c 6)) ∧ w'.cell? ⟨a1, 7, none⟩ = some (.int .i64 (c 7)) ∧ w'.cell? ⟨a1, 8, none⟩ = some (.int .i64 (c 8)) ∧ w'.cell? ⟨a1, 9, none⟩ = some (.int .i64 (c 9)) ∧ w'.cell? ⟨a1, 10, none⟩ = some (.int .i64 (c 10)) ∧ w'.cell? ⟨a1, 11, none⟩ = some (.int .i64 (c 11)) ∧ w'.cell? ⟨a1, 12, none⟩ = some (.int .i64 (c 12)) ∧ w'.cell? ⟨a1, 13, none⟩ = some (.int .i64 (c 13))) w2 := by
    rintro w1 w2 hb ⟨h0, h4, _⟩
    exact conf_held (below_on h0 (Nat.le_of_eq HZ.out.symm) hb) (h4.keep hb)
  go_wp2_with fail
  refine (c1.out _).mono ?_; rintro e W1 ⟨rfl, hb⟩
  clear u0 u1 u2 u3 u4 u5 u6 u7 u8 u9 u10 u11 u12 u13
  replace hr := hr.keep hb
  replace hB := below_on hB (Nat.le_of_eq HZ.out.symm) hb
  clear hb c1
  have H0 := Lib.hid (conf_held hB.drew hr.drew)
  clear hB hr
  go_upto_region 2 with fail
  go_region_held3 (fun w' => Below a1 w w' ∧ Row w' a1 24 14 (ints c) ∧ w'.cell? ⟨a1, 0, none⟩ = some (.int .i64 (c 0)) ∧ w'.cell? ⟨a1, 1, none⟩ = some (.int .i64 (c 1)) ∧ w'.cell? ⟨a1, 2, none⟩ = some (.int .i64 (c 2)) ∧ w'.cell? ⟨a1, 3, none⟩ = some (.int .i64 (c 3)) ∧ w'.cell? ⟨a1, 4, none⟩ = some (.int .i64 (c 4)) ∧ w'.cell? ⟨a1, 5, none⟩ = some (.int .i64 (c 5)) ∧ w'.cell? ⟨a1, 6, none⟩ = some (.int .i64 (c 6)) ∧ w'.cell? ⟨a1, 7, none⟩ = some (.int .i64 (c 7)) ∧ w'.cell? ⟨a1, 8, none⟩ = some (.int .i64 (c 8)) ∧ w'.cell? ⟨a1, 9, none⟩ = some (.int .i64 (c 9)) ∧ w'.cell? ⟨a1, 10, none⟩ = some (.int .i64 (c 10)) ∧ w'.cell? ⟨a1, 11, none⟩ = some (.int .i64 (c 11)) ∧ w'.cell? ⟨a1, 12, none⟩ = some (.int .i64 (c 12)) ∧ w'.cell? ⟨a1, 13, none⟩ = some (.int .i64 (c 13))) (first | exact H0.out | exact hkeep _ _ hb (by assumption) | assumption)
    (first | (go_at_call 13; refine (c2.out _).mono ?_; rintro e w' ⟨A1, p1, rfl, r1, hb⟩) | (go_at_call 14; (first | (with_reducible refine (c3.out _).mono ?_) | (with_reducible refine (c5.out _).mono ?_)); rintro e w' ⟨A2, p2, rfl, r2, hb⟩; replace r1 := r1.keepB hb) | (go_at_call 15; refine (c4.out _).mono ?_; rintro e w' ⟨A1, p1, rfl, r1, hb⟩) | (go_at_call 12; (first | (with_reducible refine (i1.out A1 A2 p1 p2 _ r1 r2).mono ?_) | (with_reducible refine (i2.out A1 A2 p1 p2 _ r1 r2).mono ?_)); rintro e w' ⟨rfl, hb⟩; clear r1 r2))
  have hF := And.left (by assumption : Below a1 w w' ∧ Row w' a1 24 14 (ints c) ∧ w'.cell? ⟨a1, 0, none⟩ = some (.int .i64 (c 0)) ∧ w'.cell? ⟨a1, 1, none⟩ = some (.int .i64 (c 1)) ∧ w'.cell? ⟨a1, 2, none⟩ = some (.int .i64 (c 2)) ∧ w'.cell? ⟨a1, 3, none⟩ = some (.int .i64 (c 3)) ∧ w'.cell? ⟨a1, 4, none⟩ = some (.int .i64 (c 4)) ∧ w'.cell? ⟨a1, 5, none⟩ = some (.int .i64 (c 5)) ∧ w'.cell? ⟨a1, 6, none⟩ = some (.int .i64 (c 6)) ∧ w'.cell? ⟨a1, 7, none⟩ = some (.int .i64 (c 7)) ∧ w'.cell? ⟨a1, 8, none⟩ = some (.int .i64 (c 8)) ∧ w'.cell? ⟨a1, 9, none⟩ = some (.int .i64 (c 9)) ∧ w'.cell? ⟨a1, 10, none⟩ = some (.int .i64 (c 10)) ∧ w'.cell? ⟨a1, 11, none⟩ = some (.int .i64 (c 11)) ∧ w'.cell? ⟨a1, 12, none⟩ = some (.int .i64 (c 12)) ∧ w'.cell? ⟨a1, 13, none⟩ = some (.int .i64 (c 13)))
  have hR := And.left (And.right (by assumption : Below a1 w w' ∧ Row w' a1 24 14 (ints c) ∧ w'.cell? ⟨a1, 0, none⟩ = some (.int .i64 (c 0)) ∧ w'.cell? ⟨a1, 1, none⟩ = some (.int .i64 (c 1)) ∧ w'.cell? ⟨a1, 2, none⟩ = some (.int .i64 (c 2)) ∧ w'.cell? ⟨a1, 3, none⟩ = some (.int .i64 (c 3)) ∧ w'.cell? ⟨a1, 4, none⟩ = some (.int .i64 (c 4)) ∧ w'.cell? ⟨a1, 5, none⟩ = some (.int .i64 (c 5)) ∧ w'.cell? ⟨a1, 6, none⟩ = some (.int .i64 (c 6)) ∧ w'.cell? ⟨a1, 7, none⟩ = some (.int .i64 (c 7)) ∧ w'.cell? ⟨a1, 8, none⟩ = some (.int .i64 (c 8)) ∧ w'.cell? ⟨a1, 9, none⟩ = some (.int .i64 (c 9)) ∧ w'.cell? ⟨a1, 10, none⟩ = some (.int .i64 (c 10)) ∧ w'.cell? ⟨a1, 11, none⟩ = some (.int .i64 (c 11)) ∧ w'.cell? ⟨a1, 12, none⟩ = some (.int .i64 (c 12)) ∧ w'.cell? ⟨a1, 13, none⟩ = some (.int .i64 (c 13))))
  clear H0 c2 c3 c4 c5 i1 i2
  by_cases g1 : 0 ≤ n
  · by_cases g2 : n = l
    · subst g2
      have e1 : ((n : Int) == n) = true := by simp
      rw [decide_eq_true g1, e1, Bool.true_and] at C6
      rw [decide_eq_true g1, decide_eq_true (Int.le_refl n), Bool.true_and] at C7
      obtain ⟨v0, v1, v2, v3, v4, v5, v6, v7, v8, v9, v10, v11, v12, v13⟩ := conf_cells hR
      go_wp2_with fail
      refine (C6.out _).mono ?_; rintro e W2 ⟨rfl, hb⟩
      have hR2 := hR.keep hb
      have hF2 := below_on hF (Nat.le_of_eq HZ.out.symm) hb
      clear v0 v1 v2 v3 v4 v5 v6 v7 v8 v9 v10 v11 v12 v13 hb
      obtain ⟨v0, v1, v2, v3, v4, v5, v6, v7, v8, v9, v10, v11, v12, v13⟩ := conf_cells hR2
      go_wp2_with fail
      refine (C7.out _).mono ?_; rintro e W3 ⟨rfl, hb⟩
      have hF3 := below_on hF2 (Nat.le_of_eq HZ.out.symm) hb
      clear v0 v1 v2 v3 v4 v5 v6 v7 v8 v9 v10 v11 v12 v13 hb
      go_wp2_with fail
      refine (lives4_any _).mono ?_; rintro e W4 ⟨rfl, hb⟩
      have hF4 := below_on hF3 (Nat.le_of_eq HZ.out.symm) hb
      clear hb
      go_wp2_with fail
      go_ret
      exact ⟨by first | rfl | (refine retB ?_; simp; omega), by rw [HZ.out]; exact hF4⟩
    · have e1 : ((n : Int) == l) = false := by simpa using g2
      rw [decide_eq_true g1, e1, Bool.true_and] at C6
      clear g2
      by_cases g3 : 0 ≤ l
      · by_cases g4 : l ≤ n
        · rw [decide_eq_true g3, decide_eq_true g4, Bool.true_and] at C7
          obtain ⟨v0, v1, v2, v3, v4, v5, v6, v7, v8, v9, v10, v11, v12, v13⟩ := conf_cells hR
          go_wp2_with fail
          refine (C6.out _).mono ?_; rintro e W2 ⟨rfl, hb⟩
          have hR2 := hR.keep hb
          have hF2 := below_on hF (Nat.le_of_eq HZ.out.symm) hb
          clear v0 v1 v2 v3 v4 v5 v6 v7 v8 v9 v10 v11 v12 v13 hb
          obtain ⟨v0, v1, v2, v3, v4, v5, v6, v7, v8, v9, v10, v11, v12, v13⟩ := conf_cells hR2
          go_wp2_with fail
          refine (C7.out _).mono ?_; rintro e W3 ⟨rfl, hb⟩
          have hF3 := below_on hF2 (Nat.le_of_eq HZ.out.symm) hb
          clear v0 v1 v2 v3 v4 v5 v6 v7 v8 v9 v10 v11 v12 v13 hb
          go_wp2_with fail
          refine (lives4_any _).mono ?_; rintro e W4 ⟨rfl, hb⟩
          have hF4 := below_on hF3 (Nat.le_of_eq HZ.out.symm) hb
          clear hb
          go_wp2_with fail
          go_ret
          exact ⟨by first | rfl | (refine retB ?_; simp; omega), by rw [HZ.out]; exact hF4⟩
        · rw [decide_eq_true g3, decide_eq_false g4, Bool.true_and] at C7
          obtain ⟨v0, v1, v2, v3, v4, v5, v6, v7, v8, v9, v10, v11, v12, v13⟩ := conf_cells hR
          go_wp2_with fail
          refine (C6.out _).mono ?_; rintro e W2 ⟨rfl, hb⟩
          have hR2 := hR.keep hb
          have hF2 := below_on hF (Nat.le_of_eq HZ.out.symm) hb
          clear v0 v1 v2 v3 v4 v5 v6 v7 v8 v9 v10 v11 v12 v13 hb
          obtain ⟨v0, v1, v2, v3, v4, v5, v6, v7, v8, v9, v10, v11, v12, v13⟩ := conf_cells hR2
          go_wp2_with fail
          refine (C7.out _).mono ?_; rintro e W3 ⟨rfl, hb⟩
          have hF3 := below_on hF2 (Nat.le_of_eq HZ.out.symm) hb
          clear v0 v1 v2 v3 v4 v5 v6 v7 v8 v9 v10 v11 v12 v13 hb
          go_wp2_with fail
          refine (lives4_any _).mono ?_; rintro e W4 ⟨rfl, hb⟩
          have hF4 := below_on hF3 (Nat.le_of_eq HZ.out.symm) hb
          clear hb
          go_wp2_with fail
          go_ret
          exact ⟨by first | rfl | (refine retB ?_; simp; omega), by rw [HZ.out]; exact hF4⟩
      · rw [decide_eq_false g3, Bool.false_and] at C7
        obtain ⟨v0, v1, v2, v3, v4, v5, v6, v7, v8, v9, v10, v11, v12, v13⟩ := conf_cells hR
        go_wp2_with fail
        refine (C6.out _).mono ?_; rintro e W2 ⟨rfl, hb⟩
        have hR2 := hR.keep hb
        have hF2 := below_on hF (Nat.le_of_eq HZ.out.symm) hb
        clear v0 v1 v2 v3 v4 v5 v6 v7 v8 v9 v10 v11 v12 v13 hb
        obtain ⟨v0, v1, v2, v3, v4, v5, v6, v7, v8, v9, v10, v11, v12, v13⟩ := conf_cells hR2
        go_wp2_with fail
        refine (C7.out _).mono ?_; rintro e W3 ⟨rfl, hb⟩
        have hF3 := below_on hF2 (Nat.le_of_eq HZ.out.symm) hb
        clear v0 v1 v2 v3 v4 v5 v6 v7 v8 v9 v10 v11 v12 v13 hb
        go_wp2_with fail
        refine (lives4_any _).mono ?_; rintro e W4 ⟨rfl, hb⟩
        have hF4 := below_on hF3 (Nat.le_of_eq HZ.out.symm) hb
        clear hb
        go_wp2_with fail
        go_ret
        exact ⟨by first | rfl | (refine retB ?_; simp; omega), by rw [HZ.out]; exact hF4⟩
  · rw [decide_eq_false g1, Bool.false_and] at C6
    by_cases g3 : 0 ≤ l
    · rw [decide_eq_true g3, decide_eq_false (show ¬ l ≤ n by omega), Bool.true_and] at C7
      obtain ⟨v0, v1, v2, v3, v4, v5, v6, v7, v8, v9, v10, v11, v12, v13⟩ := conf_cells hR
      go_wp2_with fail
      refine (C6.out _).mono ?_; rintro e W2 ⟨rfl, hb⟩
      have hR2 := hR.keep hb
      have hF2 := below_on hF (Nat.le_of_eq HZ.out.symm) hb
      clear v0 v1 v2 v3 v4 v5 v6 v7 v8 v9 v10 v11 v12 v13 hb
      obtain ⟨v0, v1, v2, v3, v4, v5, v6, v7, v8, v9, v10, v11, v12, v13⟩ := conf_cells hR2
      go_wp2_with fail
      refine (C7.out _).mono ?_; rintro e W3 ⟨rfl, hb⟩
      have hF3 := below_on hF2 (Nat.le_of_eq HZ.out.symm) hb
      clear v0 v1 v2 v3 v4 v5 v6 v7 v8 v9 v10 v11 v12 v13 hb
      go_wp2_with fail
      refine (lives4_any _).mono ?_; rintro e W4 ⟨rfl, hb⟩
      have hF4 := below_on hF3 (Nat.le_of_eq HZ.out.symm) hb
      clear hb
      go_wp2_with fail
      go_ret
      exact ⟨by first | rfl | (refine retB ?_; simp; omega), by rw [HZ.out]; exact hF4⟩
    · rw [decide_eq_false g3, Bool.false_and] at C7
      obtain ⟨v0, v1, v2, v3, v4, v5, v6, v7, v8, v9, v10, v11, v12, v13⟩ := conf_cells hR
      go_wp2_with fail
      refine (C6.out _).mono ?_; rintro e W2 ⟨rfl, hb⟩
      have hR2 := hR.keep hb
      have hF2 := below_on hF (Nat.le_of_eq HZ.out.symm) hb
      clear v0 v1 v2 v3 v4 v5 v6 v7 v8 v9 v10 v11 v12 v13 hb
      obtain ⟨v0, v1, v2, v3, v4, v5, v6, v7, v8, v9, v10, v11, v12, v13⟩ := conf_cells hR2
      go_wp2_with fail
      refine (C7.out _).mono ?_; rintro e W3 ⟨rfl, hb⟩
      have hF3 := below_on hF2 (Nat.le_of_eq HZ.out.symm) hb
      clear v0 v1 v2 v3 v4 v5 v6 v7 v8 v9 v10 v11 v12 v13 hb
      go_wp2_with fail
      refine (lives4_any _).mono ?_; rintro e W4 ⟨rfl, hb⟩
      have hF4 := below_on hF3 (Nat.le_of_eq HZ.out.symm) hb
      clear hb
      go_wp2_with fail
      go_ret
      exact ⟨by first | rfl | (refine retB ?_; simp; omega), by rw [HZ.out]; exact hF4⟩
end Go.Proofs.Ytahhfblgcaadnaa
