/- Statement ConfBares of layer 4, walked. -/
import Derived.Test.YtahhfblgcaadnaaConfThreads
import Derived.Deep.WholeRow
namespace Go.Proofs.Ytahhfblgcaadnaa
open Go.ChangeShapes Go.WideShapes Go.ChangeAt Go.RowKit

/-- Equal configurations, by the operation. -/
theorem neq_conf (c : Nat → Int) (w : World) : (binOp .neq 24 (.agg (rowOf 14 (ints c))) (.agg (rowOf 14 (ints c)))).run Try.prog w = .ok (.bool false) w := by
  have hA : (Op.equalIn 9999 22 (.agg (rowOf 8 (ints fun i => c (2 + i)))) (.agg (rowOf 8 (ints fun i => c (2 + i))))).run Try.prog w = .ok true w := by
    rw [run_equalIn_ints w 9997 _ _ 8 Try.underlying22 Try.underlying3 (fun _ => by kernel_rfl)]
    simp [eqI]
  have hI : ∀ z : Int, (Op.equalIn 9999 3 (.int .i64 z) (.int .i64 z)).run Try.prog w = .ok true w := fun z => by
    rw [run_equalIn_int w 9998 _ .i64 .i64 z z Try.underlying3]; simp
  have e8 : (rowOf 14 (ints c)).extract 2 10 = rowOf 8 (ints fun i => c (2 + i)) := rfl
  have p1 : ∀ i, i < 14 → (part 3 (rowOf 14 (ints c)) i).run Try.prog w = .ok (.int .i64 (c i)) w := fun i hi => by
    have := rowOf_get (ints c) hi
    simp [part, isAgg, run_underlying Try.underlying3, this, ints]
  have p8 : (part 22 (rowOf 14 (ints c)) 2).run Try.prog w = .ok (.agg (rowOf 8 (ints fun i => c (2 + i)))) w := by
    have hs : (sizeOf 22).run Try.prog w = .ok 8 w := by kernel_rfl
    simp only [part, isAgg, Sem.run_bind, run_underlying Try.underlying22, Result.andThen_ok, Sem.run_pure, if_true, hs, e8]
  have hht : Try.prog.underlying 24 = some (.struct (Try.prog.fieldsOf 24)) := by simp only [Program.fieldsOf, Try.underlying24]
  rw [run_neq_struct, run_equalIn_agg w 9999 _ _ _ hht (by kernel_rfl)]
  simp only [Program.fieldsOf, Try.underlying24, Op.eqFields, Sem.run_ite, Sem.run_bind, p1 _ (show 0 < 14 by omega), p1 _ (show 1 < 14 by omega), p1 _ (show 10 < 14 by omega), p1 _ (show 11 < 14 by omega), p1 _ (show 12 < 14 by omega), p1 _ (show 13 < 14 by omega), p8, Result.andThen_ok, hI, hA]
  simp

theorem bare_same (c : Nat → Int) (l : Int) (h : mayB c = true → c 0 - 1 ≤ l) : bare c l = c := by
  unfold bare
  by_cases hm : mayB c = true
  · rw [if_pos hm]
    obtain ⟨h0, h1, h2, _⟩ := may_bounds hm
    funext i
    unfold bareTo
    by_cases hi : 2 ≤ i ∧ i < 2 + (c 1).toNat ∧ l < c i
    · exfalso
      have := h2 (i - 2) (by omega)
      unfold okT at this
      rw [if_neg (by omega), show 2 + (i - 2) = i by omega] at this
      simp only [Bool.and_eq_true, decide_eq_true_eq] at this
      have := h hm
      omega
    · rw [if_neg hi]
  · rw [if_neg hm]
theorem bare_ok {c : Nat → Int} (hc : Ok64 c) (l : Int) : Ok64 (bare c l) := fun i => by
  unfold bare
  by_cases hm : mayB c = true
  · rw [if_pos hm]
    obtain ⟨h0, _⟩ := may_bounds hm
    unfold bareTo
    split
    · omega
    · exact hc i
  · rw [if_neg hm]; exact hc i
theorem bare_head (c : Nat → Int) (l : Int) (i : Nat) (h : i < 2 ∨ 10 ≤ i) (hm : mayB c = true) : bare c l i = c i := by
  obtain ⟨_, h1, _⟩ := may_bounds hm
  unfold bare
  rw [if_pos hm]
  unfold bareTo
  rw [if_neg (by omega)]
theorem bare_may (c : Nat → Int) (l : Int) : mayB (bare c l) = mayB c := by
  by_cases hm : mayB c = true
  · rw [hm]
    have b := may_bounds hm
    obtain ⟨h0, h1, h2, h10, h11, h12, h13⟩ := b
    rw [may_same]
    simp only [bare_head c l 0 (by omega) hm, bare_head c l 1 (by omega) hm, bare_head c l 10 (by omega) hm, bare_head c l 11 (by omega) hm, bare_head c l 12 (by omega) hm, bare_head c l 13 (by omega) hm]
    rw [decide_eq_true (by omega), decide_eq_true (by omega), decide_eq_true (by omega), Bool.true_and, Bool.and_true, Bool.and_true, okTo_iff]
    intro i hi
    have h3 := h2 i hi
    unfold okT at h3 ⊢
    rw [bare_head c l 0 (by omega) hm, bare_head c l 1 (by omega) hm]
    have e : bare c l (2 + i) = bareTo c l (c 1).toNat (2 + i) := by unfold bare; rw [if_pos hm]
    rw [e]
    unfold bareTo
    by_cases h4 : c 1 ≤ (i : Int)
    · rw [if_pos h4] at h3 ⊢
      rw [if_neg (by omega)]
      exact h3
    · rw [if_neg h4] at h3 ⊢
      split
      · simp; omega
      · exact h3
  · have e : bare c l = c := by unfold bare; rw [if_neg hm]
    rw [e]
theorem bare_twice (c : Nat → Int) (l : Int) (i : Nat) : bare (bare c l) l i = bare c l i := by
  by_cases hm : mayB c = true
  · have hm2 : mayB (bare c l) = true := by rw [bare_may]; exact hm
    have e : bare (bare c l) l i = bareTo (bare c l) l ((bare c l) 1).toNat i := by
      show (if mayB (bare c l) = true then bareTo (bare c l) l ((bare c l) 1).toNat else bare c l) i = _
      rw [if_pos hm2]
    rw [e, bare_head c l 1 (by omega) hm]
    unfold bareTo
    rw [bare_head c l 0 (by omega) hm]
    have e2 : bare c l i = bareTo c l (c 1).toNat i := by unfold bare; rw [if_pos hm]
    rw [e2]
    unfold bareTo
    by_cases h : 2 ≤ i ∧ i < 2 + (c 1).toNat ∧ l < c i
    · rw [if_pos h]
      split <;> rfl
    · rw [if_neg h, if_neg h]
  · have e : bare c l = c := by unfold bare; rw [if_neg hm]
    rw [e, e]
/-- Threads up to a level that is one: the same. -/
theorem bare_thrs (c : Nat → Int) (l : Int) (hl : 0 ≤ l) : thrs (bare c l) 0 l = thrs c 0 l := by
  unfold thrs
  rw [bare_may]
  by_cases hm : mayB c = true
  · rw [if_pos hm, if_pos hm, bare_head c l 1 (by omega) hm]
    obtain ⟨h0, h1, h2, _⟩ := may_bounds hm
    unfold thr
    congr 1
    apply List.filter_congr
    intro i hi
    have hi : i < (c 1).toNat := by simpa using hi
    have e : bare c l (2 + i) = bareTo c l (c 1).toNat (2 + i) := by unfold bare; rw [if_pos hm]
    rw [e]
    unfold bareTo
    split
    · rename_i h
      by_cases h5 : c 0 - 1 ≤ l
      · exfalso
        have := h2 i (by omega)
        unfold okT at this
        rw [if_neg (by omega)] at this
        simp only [Bool.and_eq_true, decide_eq_true_eq] at this
        omega
      · unfold withinB
        rw [decide_eq_false h5, decide_eq_false (show ¬ c (2 + i) ≤ l by omega), Bool.and_false, Bool.and_false]
    · rfl
  · rw [if_neg hm, if_neg hm]

theorem conf_held2 {w w' : World} {a1 a2 : Nat} {c x : Nat → Int} (hb : Below a1 w w') (h : Row w' a1 24 14 (ints c)) (h2 : Row w' a2 24 14 (ints x)) : Below a1 w w' ∧ Row w' a1 24 14 (ints c) ∧ Row w' a2 24 14 (ints x) ∧ w'.cell? ⟨a1, 0, none⟩ = some (.int .i64 (c 0)) ∧ w'.cell? ⟨a1, 1, none⟩ = some (.int .i64 (c 1)) ∧ w'.cell? ⟨a1, 2, none⟩ = some (.int .i64 (c 2)) ∧ w'.cell? ⟨a1, 3, none⟩ = some (.int .i64 (c 3)) ∧ w'.cell? ⟨a1, 4, none⟩ = some (.int .i64 (c 4)) ∧ w'.cell? ⟨a1, 5, none⟩ = some (.int .i64 (c 5)) ∧ w'.cell? ⟨a1, 6, none⟩ = some (.int .i64 (c 6)) ∧ w'.cell? ⟨a1, 7, none⟩ = some (.int .i64 (c 7)) ∧ w'.cell? ⟨a1, 8, none⟩ = some (.int .i64 (c 8)) ∧ w'.cell? ⟨a1, 9, none⟩ = some (.int .i64 (c 9)) ∧ w'.cell? ⟨a1, 10, none⟩ = some (.int .i64 (c 10)) ∧ w'.cell? ⟨a1, 11, none⟩ = some (.int .i64 (c 11)) ∧ w'.cell? ⟨a1, 12, none⟩ = some (.int .i64 (c 12)) ∧ w'.cell? ⟨a1, 13, none⟩ = some (.int .i64 (c 13)) ∧ w'.cell? ⟨a2, 0, none⟩ = some (.int .i64 (x 0)) ∧ w'.cell? ⟨a2, 1, none⟩ = some (.int .i64 (x 1)) ∧ w'.cell? ⟨a2, 2, none⟩ = some (.int .i64 (x 2)) ∧ w'.cell? ⟨a2, 3, none⟩ = some (.int .i64 (x 3)) ∧ w'.cell? ⟨a2, 4, none⟩ = some (.int .i64 (x 4)) ∧ w'.cell? ⟨a2, 5, none⟩ = some (.int .i64 (x 5)) ∧ w'.cell? ⟨a2, 6, none⟩ = some (.int .i64 (x 6)) ∧ w'.cell? ⟨a2, 7, none⟩ = some (.int .i64 (x 7)) ∧ w'.cell? ⟨a2, 8, none⟩ = some (.int .i64 (x 8)) ∧ w'.cell? ⟨a2, 9, none⟩ = some (.int .i64 (x 9)) ∧ w'.cell? ⟨a2, 10, none⟩ = some (.int .i64 (x 10)) ∧ w'.cell? ⟨a2, 11, none⟩ = some (.int .i64 (x 11)) ∧ w'.cell? ⟨a2, 12, none⟩ = some (.int .i64 (x 12)) ∧ w'.cell? ⟨a2, 13, none⟩ = some (.int .i64 (x 13)) := by
  obtain ⟨u0, u1, u2, u3, u4, u5, u6, u7, u8, u9, u10, u11, u12, u13⟩ := conf_cells h
  exact ⟨hb, h, h2, u0, u1, u2, u3, u4, u5, u6, u7, u8, u9, u10, u11, u12, u13, conf_cells h2⟩
set_option maxRecDepth 100000 in
set_option maxHeartbeats 8000000 in
theorem confBares_walk (c : Nat → Int) (hc : Ok64 c) (l : Int) (hl : -9223372036854775808 ≤ l ∧ l ≤ 9223372036854775807) (w : World) :
    Calls Try.prog 5 #[.agg (rowOf 14 (ints c)), .int .i64 l] w fun e w' => e = .returned (.bool true) ∧ Below w.heap.size w w' := by
  have bc0 := hc 0
  have hx := bare_ok hc l
  have B1 := Lib.hid (cBare_any c hc l hl)
  have B2 := Lib.hid (rBare_any c hc l)
  have b3 := cBare_any (bare c l) hx l hl
  rw [rowOf_congr (f := ints (bare (bare c l) l)) (g := ints (bare c l)) (fun i _ => by unfold ints; rw [bare_twice])] at b3
  have B3 := Lib.hid b3; clear b3
  have U1 := Lib.hid (fun h : 0 ≤ l => show ∀ w, Calls Try.prog 15 #[.agg (rowOf 14 (ints (bare c l))), .int .i64 l] w (GivesInts w (thrs c 0 l)) by
    have := cUpTo_any (bare c l) hx l
    rw [bare_thrs c l h] at this
    exact this)
  have U2 := Lib.hid (cUpTo_any c hc l)
  have m1 := cMay_any (bare c l) hx
  rw [bare_may] at m1
  have M1 := Lib.hid m1; clear m1
  have M2 := Lib.hid (cMay_any c hc)
  have N1 := neq_conf (bare c l)
  have N2 := Lib.hid (fun (h : mayB c = true → c 0 - 1 ≤ l) => show ∀ w, (binOp .neq 24 (.agg (rowOf 14 (ints (bare c l)))) (.agg (rowOf 14 (ints c)))).run Try.prog w = .ok (.bool false) w by
    rw [bare_same c l h]; exact neq_conf c)
  have MB : Hid (mayB c = true → 1 ≤ c 0) := Lib.hid (fun h => (may_bounds h).1.1)
  have i1 := Lib.hid (rInts_same (thrs c 0 l) (thrs_len ..))
  have e1 : ((mayB c) == (mayB c)) = true := by simp
  have fc := fold14 c
  have fx := fold14 (bare c l)
  generalize bare c l = x at *
  generalize mayB c = m at *
  generalize thrs c 0 l = l1 at *
  go_enter Try.func5, Try.ntmps5
  go_upto_region 1 with fail
  generalize hW : World.alloc _ _ = W
  have hr : Row W w.heap.size 24 14 (ints c) := by rw [← hW]; exact Row.new _ _ _ _ _ rfl
  have hB : Below w.heap.size w W := by rw [← hW]; exact (Below.refl _ _).alloc (Nat.le_refl _) _
  clear hW
  generalize hz : w.heap.size = a1 at *
  have HZ := Lib.hid hz; clear hz
  obtain ⟨u0, u1, u2, u3, u4, u5, u6, u7, u8, u9, u10, u11, u12, u13⟩ := conf_cells hr
  have hkeep1 : ∀ w1 w2 : World, Below w1.heap.size w1 w2 → Below a1 w w1 → Below a1 w w2 := fun w1 w2 hb h0 => below_on h0 (Nat.le_of_eq HZ.out.symm) hb
  go_wp2_with fail
  refine (B1.out _).mono ?_; rintro e W1 ⟨rfl, hb⟩
  clear u0 u1 u2 u3 u4 u5 u6 u7 u8 u9 u10 u11 u12 u13
  replace hr := hr.keep hb
  replace hB := hkeep1 _ _ hb hB
  clear hb
  go_wp2_with (refine wpList_store_row rfl 24 _ _ rfl W1.heap.size (rowOf 14 (ints x)) rfl rfl 24 (rowOf 14 (ints fun _ => 0)) (heap_alloc_new W1 _) (by kernel_rfl) rfl (ints_one _ _) ?_)
  rw [World.setRow_alloc_new]
  generalize hW : World.alloc _ _ = W2
  have hq : Row W2 W1.heap.size 24 14 (ints x) := by rw [← hW]; exact Row.new _ _ _ _ _ rfl
  replace hr : Row W2 a1 24 14 (ints c) := by rw [← hW]; exact hr.alloc _
  replace hB : Below a1 w W2 := by rw [← hW]; exact hB.alloc (by have := HZ.out; have := hB.size; omega) _
  clear hW
  generalize W1.heap.size = a2 at *
  have hkeep : ∀ w1 w2 : World, Below w1.heap.size w1 w2 → (fun w' : World => Below a1 w w' ∧ Row w' a1 24 14 (ints c) ∧ Row w' a2 24 14 (ints x) ∧ w'.cell? ⟨a1, 0, none⟩ = some (.int .i64 (c 0)) ∧ w'.cell? ⟨a1, 1, none⟩ = some (.int .i64 (c 1)) ∧ w'.cell? ⟨a1, 2, none⟩ = some (.int .i64 (c 2)) ∧ w'.cell? ⟨a1, 3, none⟩ = some (.int .i64 (c 3)) ∧ w'.cell? ⟨a1, 4, none⟩ = some (.int .i64 (c 4)) ∧ w'.cell? ⟨a1, 5, none⟩ = some (.int .i64 (c 5)) ∧ w'.cell? ⟨a1, 6, none⟩ = some (.int .i64 (c 6)) ∧ w'.cell? ⟨a1, 7, none⟩ = some (.int .i64 (c 7)) ∧ w'.cell? ⟨a1, 8, none⟩ = some (.int .i64 (c 8)) ∧ w'.cell? ⟨a1, 9, none⟩ = some (.int .i64 (c 9)) ∧ w'.cell? ⟨a1, 10, none⟩ = some (.int .i64 (c 10)) ∧ w'.cell? ⟨a1, 11, none⟩ = some (.int .i64 (c 11)) ∧ w'.cell? ⟨a1, 12, none⟩ = some (.int .i64 (c 12)) ∧ w'.cell? ⟨a1, 13, none⟩ = some (.int .i64 (c 13)) ∧ w'.cell? ⟨a2, 0, none⟩ = some (.int .i64 (x 0)) ∧ w'.cell? ⟨a2, 1, none⟩ = some (.int .i64 (x 1)) ∧ w'.cell? ⟨a2, 2, none⟩ = some (.int .i64 (x 2)) ∧ w'.cell? ⟨a2, 3, none⟩ = some (.int .i64 (x 3)) ∧ w'.cell? ⟨a2, 4, none⟩ = some (.int .i64 (x 4)) ∧ w'.cell? ⟨a2, 5, none⟩ = some (.int .i64 (x 5)) ∧ w'.cell? ⟨a2, 6, none⟩ = some (.int .i64 (x 6)) ∧ w'.cell? ⟨a2, 7, none⟩ = some (.int .i64 (x 7)) ∧ w'.cell? ⟨a2, 8, none⟩ = some (.int .i64 (x 8)) ∧ w'.cell? ⟨a2, 9, none⟩ = some (.int .i64 (x 9)) ∧ w'.cell? ⟨a2, 10, none⟩ = some (.int .i64 (x 10)) ∧ w'.cell? ⟨a2, 11, none⟩ = some (.int .i64 (x 11)) ∧ w'.cell? ⟨a2, 12, none⟩ = some (.int .i64 (x 12)) ∧ w'.cell? ⟨a2, 13, none⟩ = some (.int .i64 (x 13))) w1 → (fun w' : World => Below a1 w w' ∧ Row w' a1 24 14 (ints c) ∧ Row w' a2 24 14 (ints x) ∧ w'.cell? ⟨a1, 0, none⟩ = some (.int .i64 (c 0)) ∧ w'.cell? ⟨a1, 1, none⟩ = some (.int .i64 (c 1)) ∧ w'.cell? ⟨a1, 2, none⟩ = some (.int .i64 (c 2)) ∧ w'.cell? ⟨a1, 3, none⟩ = some (.int .i64 (c 3)) ∧ w'.cell? ⟨a1, 4, none⟩ = some (.int .i64 (c 4)) ∧ w'.cell? ⟨a1, 5, none⟩ = some (.int .i64 (c 5)) ∧ w'.cell? ⟨a1, 6, none⟩ = some (.int .i64 (c 6)) ∧ w'.cell? ⟨a1, 7, none⟩ = some (.int .i64 (c 7)) ∧ w'.cell? ⟨a1, 8, none⟩ = some (.int .i64 (c 8)) ∧ w'.cell? ⟨a1, 9, none⟩ = some (.int .i64 (c 9)) ∧ w'.cell? ⟨a1, 10, none⟩ = some (.int .i64 (c 10)) ∧ w'.cell? ⟨a1, 11, none⟩ = some (.int .i64 (c 11)) ∧ w'.cell? ⟨a1, 12, none⟩ = some (.int .i64 (c 12)) ∧ w'.cell? ⟨a1, 13, none⟩ = some (.int .i64 (c 13)) ∧ w'.cell? ⟨a2, 0, none⟩ = some (.int .i64 (x 0)) ∧ w'.cell? ⟨a2, 1, none⟩ = some (.int .i64 (x 1)) ∧ w'.cell? ⟨a2, 2, none⟩ = some (.int .i64 (x 2)) ∧ w'.cell? ⟨a2, 3, none⟩ = some (.int .i64 (x 3)) ∧ w'.cell? ⟨a2, 4, none⟩ = some (.int .i64 (x 4)) ∧ w'.cell? ⟨a2, 5, none⟩ = some (.int .i64 (x 5)) ∧ w'.cell? ⟨a2, 6, none⟩ = some (.int .i64 (x 6)) ∧ w'.cell? ⟨a2, 7, none⟩ = some (.int .i64 (x 7)) ∧ w'.cell? ⟨a2, 8, none⟩ = some (.int .i64 (x 8)) ∧ w'.cell? ⟨a2, 9, none⟩ = some (.int .i64 (x 9)) ∧ w'.cell? ⟨a2, 10, none⟩ = some (.int .i64 (x 10)) ∧ w'.cell? ⟨a2, 11, none⟩ = some (.int .i64 (x 11)) ∧ w'.cell? ⟨a2, 12, none⟩ = some (.int .i64 (x 12)) ∧ w'.cell? ⟨a2, 13, none⟩ = some (.int .i64 (x 13))) w2 := by
    rintro w1 w2 hb ⟨h0, h4, h5, _⟩
    exact conf_held2 (hkeep1 _ _ hb h0) (h4.keep hb) (h5.keep hb)
  have H0 := Lib.hid (conf_held2 hB.drew hr.drew hq.drew)
  clear hB hr hq
  go_upto_region 2 with fail
  refine wp_region_noPanic ?_
  refine wp_region_held_drew (S := fun w' => Below a1 w w' ∧ Row w' a1 24 14 (ints c) ∧ Row w' a2 24 14 (ints x) ∧ w'.cell? ⟨a1, 0, none⟩ = some (.int .i64 (c 0)) ∧ w'.cell? ⟨a1, 1, none⟩ = some (.int .i64 (c 1)) ∧ w'.cell? ⟨a1, 2, none⟩ = some (.int .i64 (c 2)) ∧ w'.cell? ⟨a1, 3, none⟩ = some (.int .i64 (c 3)) ∧ w'.cell? ⟨a1, 4, none⟩ = some (.int .i64 (c 4)) ∧ w'.cell? ⟨a1, 5, none⟩ = some (.int .i64 (c 5)) ∧ w'.cell? ⟨a1, 6, none⟩ = some (.int .i64 (c 6)) ∧ w'.cell? ⟨a1, 7, none⟩ = some (.int .i64 (c 7)) ∧ w'.cell? ⟨a1, 8, none⟩ = some (.int .i64 (c 8)) ∧ w'.cell? ⟨a1, 9, none⟩ = some (.int .i64 (c 9)) ∧ w'.cell? ⟨a1, 10, none⟩ = some (.int .i64 (c 10)) ∧ w'.cell? ⟨a1, 11, none⟩ = some (.int .i64 (c 11)) ∧ w'.cell? ⟨a1, 12, none⟩ = some (.int .i64 (c 12)) ∧ w'.cell? ⟨a1, 13, none⟩ = some (.int .i64 (c 13)) ∧ w'.cell? ⟨a2, 0, none⟩ = some (.int .i64 (x 0)) ∧ w'.cell? ⟨a2, 1, none⟩ = some (.int .i64 (x 1)) ∧ w'.cell? ⟨a2, 2, none⟩ = some (.int .i64 (x 2)) ∧ w'.cell? ⟨a2, 3, none⟩ = some (.int .i64 (x 3)) ∧ w'.cell? ⟨a2, 4, none⟩ = some (.int .i64 (x 4)) ∧ w'.cell? ⟨a2, 5, none⟩ = some (.int .i64 (x 5)) ∧ w'.cell? ⟨a2, 6, none⟩ = some (.int .i64 (x 6)) ∧ w'.cell? ⟨a2, 7, none⟩ = some (.int .i64 (x 7)) ∧ w'.cell? ⟨a2, 8, none⟩ = some (.int .i64 (x 8)) ∧ w'.cell? ⟨a2, 9, none⟩ = some (.int .i64 (x 9)) ∧ w'.cell? ⟨a2, 10, none⟩ = some (.int .i64 (x 10)) ∧ w'.cell? ⟨a2, 11, none⟩ = some (.int .i64 (x 11)) ∧ w'.cell? ⟨a2, 12, none⟩ = some (.int .i64 (x 12)) ∧ w'.cell? ⟨a2, 13, none⟩ = some (.int .i64 (x 13))) (by kernel_rfl) (H0.out) (fun hHeld => ?_)
  (refine wpAnyH_take (i := 0) (v := ?_) rfl (by kernel_rfl) (by kernel_rfl) (by kernel_rfl) (fun _ _ _ h => h) (Or.inl ⟨by rfl, ?_⟩) hHeld ?_; rotate_left; focus (intro w hSw; (try dsimp only at hSw); go_simp; (try with_reducible rfl)))
  try simp only [Act.put, List.getElem_toArray, List.getElem_cons_succ, List.getElem_cons_zero, List.setIfInBounds_toArray, List.set_cons_zero, List.set_cons_succ]
  (refine wpAnyH_take (i := 1) (v := ?_) rfl (by kernel_rfl) (by kernel_rfl) (by kernel_rfl) (fun _ _ _ h => h) (Or.inl ⟨by rfl, ?_⟩) hHeld ?_; rotate_left; focus (intro w hSw; (try dsimp only at hSw); go_simp; (try with_reducible rfl)))
  try simp only [Act.put, List.getElem_toArray, List.getElem_cons_succ, List.getElem_cons_zero, List.setIfInBounds_toArray, List.set_cons_zero, List.set_cons_succ]
  (refine wpAnyH_take (i := 2) (v := ?_) rfl (by kernel_rfl) (by kernel_rfl) (by kernel_rfl) (fun _ _ _ h => h) (Or.inl ⟨by rfl, ?_⟩) hHeld ?_; rotate_left; focus (intro w hSw; (try dsimp only at hSw); go_simp; (try with_reducible rfl)))
  try simp only [Act.put, List.getElem_toArray, List.getElem_cons_succ, List.getElem_cons_zero, List.setIfInBounds_toArray, List.set_cons_zero, List.set_cons_succ]
  (refine wpAnyH_ready (rs := [3]) (by kernel_rfl) (by simp) ?_; refine AllReadyH.cons rfl (fun K hK => ?_) AllReadyH.nil; go_simp; (first | (go_at_call 19; refine (B2.out _).mono ?_; rintro e w' ⟨rfl, hb⟩) | (go_at_call 18; refine (B3.out _).mono ?_; rintro e w' ⟨rfl, hb⟩)); (try go_wp2_with fail); refine hK.out _ _ ?_ (fun hHeld' => ?_); (focus (first | exact hkeep _ _ hb hHeld | exact hHeld)); clear hK K; replace hHeld := hHeld'; clear hHeld')
  try simp only [Act.put, List.getElem_toArray, List.getElem_cons_succ, List.getElem_cons_zero, List.setIfInBounds_toArray, List.set_cons_zero, List.set_cons_succ]
  (refine wpAnyH_take (i := 4) (v := ?_) rfl (by kernel_rfl) (by kernel_rfl) (by kernel_rfl) (fun _ _ _ h => h) (Or.inl ⟨by rfl, ?_⟩) hHeld ?_; rotate_left; focus (intro w hSw; (try dsimp only at hSw); go_simp; (try with_reducible rfl)))
  try simp only [Act.put, List.getElem_toArray, List.getElem_cons_succ, List.getElem_cons_zero, List.setIfInBounds_toArray, List.set_cons_zero, List.set_cons_succ]
  (refine wpAnyH_take (i := 5) (v := ?_) rfl (by kernel_rfl) (by kernel_rfl) (by kernel_rfl) (fun _ _ _ h => h) (Or.inl ⟨by rfl, ?_⟩) hHeld ?_; rotate_left; focus (intro w hSw; (try dsimp only at hSw); go_simp; (try with_reducible rfl)))
  try simp only [Act.put, List.getElem_toArray, List.getElem_cons_succ, List.getElem_cons_zero, List.setIfInBounds_toArray, List.set_cons_zero, List.set_cons_succ]
  first | (refine wpAnyH_take (i := 6) rfl (by kernel_rfl) (by kernel_rfl) (by kernel_rfl) (fun _ _ _ h => h) (Or.inr ⟨by rfl, rfl⟩) hHeld ?_) | (refine wpAnyH_take (i := 6) (v := ?_) rfl (by kernel_rfl) (by kernel_rfl) (by kernel_rfl) (fun _ _ _ h => h) (Or.inl ⟨by rfl, ?_⟩) hHeld ?_; rotate_left; focus (intro w hSw; (try dsimp only at hSw); go_simp; (try with_reducible rfl)))
  try simp only [Act.put, List.getElem_toArray, List.getElem_cons_succ, List.getElem_cons_zero, List.setIfInBounds_toArray, List.set_cons_zero, List.set_cons_succ]
  first | (refine wpAnyH_take (i := 7) rfl (by kernel_rfl) (by kernel_rfl) (by kernel_rfl) (fun _ _ _ h => h) (Or.inr ⟨by rfl, rfl⟩) hHeld ?_) | (refine wpAnyH_take (i := 7) (v := ?_) rfl (by kernel_rfl) (by kernel_rfl) (by kernel_rfl) (fun _ _ _ h => h) (Or.inl ⟨by rfl, ?_⟩) hHeld ?_; rotate_left; focus (intro w hSw; (try dsimp only at hSw); go_simp; (try with_reducible rfl)))
  try simp only [Act.put, List.getElem_toArray, List.getElem_cons_succ, List.getElem_cons_zero, List.setIfInBounds_toArray, List.set_cons_zero, List.set_cons_succ]
  first | (refine wpAnyH_take (i := 9) rfl (by kernel_rfl) (by kernel_rfl) (by kernel_rfl) (fun _ _ _ h => h) (Or.inr ⟨by rfl, rfl⟩) hHeld ?_) | (refine wpAnyH_take (i := 9) (v := ?_) rfl (by kernel_rfl) (by kernel_rfl) (by kernel_rfl) (fun _ _ _ h => h) (Or.inl ⟨by rfl, ?_⟩) hHeld ?_; rotate_left; focus (intro w hSw; (try dsimp only at hSw); go_simp; (try with_reducible rfl)))
  try simp only [Act.put, List.getElem_toArray, List.getElem_cons_succ, List.getElem_cons_zero, List.setIfInBounds_toArray, List.set_cons_zero, List.set_cons_succ]
  first | (refine wpAnyH_take (i := 8) rfl (by kernel_rfl) (by kernel_rfl) (by kernel_rfl) (fun _ _ _ h => h) (Or.inr ⟨by rfl, rfl⟩) hHeld ?_) | (refine wpAnyH_ready (rs := [8]) (by kernel_rfl) (by simp) ?_; refine AllReadyH.cons rfl (fun K hK => ?_) AllReadyH.nil; go_simp; (first | (go_at_call 19; refine (B2.out _).mono ?_; rintro e w' ⟨rfl, hb⟩) | (go_at_call 18; refine (B3.out _).mono ?_; rintro e w' ⟨rfl, hb⟩)); (try go_wp2_with fail); refine hK.out _ _ ?_ (fun hHeld' => ?_); (focus (first | exact hkeep _ _ hb hHeld | exact hHeld)); clear hK K; replace hHeld := hHeld'; clear hHeld')
  try simp only [Act.put, List.getElem_toArray, List.getElem_cons_succ, List.getElem_cons_zero, List.setIfInBounds_toArray, List.set_cons_zero, List.set_cons_succ]
  first | (refine wpAnyH_take (i := 10) rfl (by kernel_rfl) (by kernel_rfl) (by kernel_rfl) (fun _ _ _ h => h) (Or.inr ⟨by rfl, rfl⟩) hHeld ?_) | (refine wpAnyH_take (i := 10) (v := ?_) rfl (by kernel_rfl) (by kernel_rfl) (by kernel_rfl) (fun _ _ _ h => h) (Or.inl ⟨by rfl, ?_⟩) hHeld ?_; rotate_left; focus (intro w hSw; (try dsimp only at hSw); go_simp; (try with_reducible rfl)))
  try simp only [Act.put, List.getElem_toArray, List.getElem_cons_succ, List.getElem_cons_zero, List.setIfInBounds_toArray, List.set_cons_zero, List.set_cons_succ]
  (refine wpAnyH_take (i := 11) (v := ?_) rfl (by kernel_rfl) (by kernel_rfl) (by kernel_rfl) (fun _ _ _ h => h) (Or.inl ⟨by rfl, ?_⟩) hHeld ?_; rotate_left; focus (intro w hSw; (try dsimp only at hSw); go_simp; (try with_reducible rfl)))
  try simp only [Act.put, List.getElem_toArray, List.getElem_cons_succ, List.getElem_cons_zero, List.setIfInBounds_toArray, List.set_cons_zero, List.set_cons_succ]
  refine wpAnyH_done (by kernel_rfl) ?_ _
  refine NoPanic.normal ?_
  have hF := And.left (by assumption : Below a1 w w' ∧ Row w' a1 24 14 (ints c) ∧ Row w' a2 24 14 (ints x) ∧ w'.cell? ⟨a1, 0, none⟩ = some (.int .i64 (c 0)) ∧ w'.cell? ⟨a1, 1, none⟩ = some (.int .i64 (c 1)) ∧ w'.cell? ⟨a1, 2, none⟩ = some (.int .i64 (c 2)) ∧ w'.cell? ⟨a1, 3, none⟩ = some (.int .i64 (c 3)) ∧ w'.cell? ⟨a1, 4, none⟩ = some (.int .i64 (c 4)) ∧ w'.cell? ⟨a1, 5, none⟩ = some (.int .i64 (c 5)) ∧ w'.cell? ⟨a1, 6, none⟩ = some (.int .i64 (c 6)) ∧ w'.cell? ⟨a1, 7, none⟩ = some (.int .i64 (c 7)) ∧ w'.cell? ⟨a1, 8, none⟩ = some (.int .i64 (c 8)) ∧ w'.cell? ⟨a1, 9, none⟩ = some (.int .i64 (c 9)) ∧ w'.cell? ⟨a1, 10, none⟩ = some (.int .i64 (c 10)) ∧ w'.cell? ⟨a1, 11, none⟩ = some (.int .i64 (c 11)) ∧ w'.cell? ⟨a1, 12, none⟩ = some (.int .i64 (c 12)) ∧ w'.cell? ⟨a1, 13, none⟩ = some (.int .i64 (c 13)) ∧ w'.cell? ⟨a2, 0, none⟩ = some (.int .i64 (x 0)) ∧ w'.cell? ⟨a2, 1, none⟩ = some (.int .i64 (x 1)) ∧ w'.cell? ⟨a2, 2, none⟩ = some (.int .i64 (x 2)) ∧ w'.cell? ⟨a2, 3, none⟩ = some (.int .i64 (x 3)) ∧ w'.cell? ⟨a2, 4, none⟩ = some (.int .i64 (x 4)) ∧ w'.cell? ⟨a2, 5, none⟩ = some (.int .i64 (x 5)) ∧ w'.cell? ⟨a2, 6, none⟩ = some (.int .i64 (x 6)) ∧ w'.cell? ⟨a2, 7, none⟩ = some (.int .i64 (x 7)) ∧ w'.cell? ⟨a2, 8, none⟩ = some (.int .i64 (x 8)) ∧ w'.cell? ⟨a2, 9, none⟩ = some (.int .i64 (x 9)) ∧ w'.cell? ⟨a2, 10, none⟩ = some (.int .i64 (x 10)) ∧ w'.cell? ⟨a2, 11, none⟩ = some (.int .i64 (x 11)) ∧ w'.cell? ⟨a2, 12, none⟩ = some (.int .i64 (x 12)) ∧ w'.cell? ⟨a2, 13, none⟩ = some (.int .i64 (x 13)))
  have hR := And.left (And.right (by assumption : Below a1 w w' ∧ Row w' a1 24 14 (ints c) ∧ Row w' a2 24 14 (ints x) ∧ w'.cell? ⟨a1, 0, none⟩ = some (.int .i64 (c 0)) ∧ w'.cell? ⟨a1, 1, none⟩ = some (.int .i64 (c 1)) ∧ w'.cell? ⟨a1, 2, none⟩ = some (.int .i64 (c 2)) ∧ w'.cell? ⟨a1, 3, none⟩ = some (.int .i64 (c 3)) ∧ w'.cell? ⟨a1, 4, none⟩ = some (.int .i64 (c 4)) ∧ w'.cell? ⟨a1, 5, none⟩ = some (.int .i64 (c 5)) ∧ w'.cell? ⟨a1, 6, none⟩ = some (.int .i64 (c 6)) ∧ w'.cell? ⟨a1, 7, none⟩ = some (.int .i64 (c 7)) ∧ w'.cell? ⟨a1, 8, none⟩ = some (.int .i64 (c 8)) ∧ w'.cell? ⟨a1, 9, none⟩ = some (.int .i64 (c 9)) ∧ w'.cell? ⟨a1, 10, none⟩ = some (.int .i64 (c 10)) ∧ w'.cell? ⟨a1, 11, none⟩ = some (.int .i64 (c 11)) ∧ w'.cell? ⟨a1, 12, none⟩ = some (.int .i64 (c 12)) ∧ w'.cell? ⟨a1, 13, none⟩ = some (.int .i64 (c 13)) ∧ w'.cell? ⟨a2, 0, none⟩ = some (.int .i64 (x 0)) ∧ w'.cell? ⟨a2, 1, none⟩ = some (.int .i64 (x 1)) ∧ w'.cell? ⟨a2, 2, none⟩ = some (.int .i64 (x 2)) ∧ w'.cell? ⟨a2, 3, none⟩ = some (.int .i64 (x 3)) ∧ w'.cell? ⟨a2, 4, none⟩ = some (.int .i64 (x 4)) ∧ w'.cell? ⟨a2, 5, none⟩ = some (.int .i64 (x 5)) ∧ w'.cell? ⟨a2, 6, none⟩ = some (.int .i64 (x 6)) ∧ w'.cell? ⟨a2, 7, none⟩ = some (.int .i64 (x 7)) ∧ w'.cell? ⟨a2, 8, none⟩ = some (.int .i64 (x 8)) ∧ w'.cell? ⟨a2, 9, none⟩ = some (.int .i64 (x 9)) ∧ w'.cell? ⟨a2, 10, none⟩ = some (.int .i64 (x 10)) ∧ w'.cell? ⟨a2, 11, none⟩ = some (.int .i64 (x 11)) ∧ w'.cell? ⟨a2, 12, none⟩ = some (.int .i64 (x 12)) ∧ w'.cell? ⟨a2, 13, none⟩ = some (.int .i64 (x 13))))
  have hQ := And.left (And.right (And.right (by assumption : Below a1 w w' ∧ Row w' a1 24 14 (ints c) ∧ Row w' a2 24 14 (ints x) ∧ w'.cell? ⟨a1, 0, none⟩ = some (.int .i64 (c 0)) ∧ w'.cell? ⟨a1, 1, none⟩ = some (.int .i64 (c 1)) ∧ w'.cell? ⟨a1, 2, none⟩ = some (.int .i64 (c 2)) ∧ w'.cell? ⟨a1, 3, none⟩ = some (.int .i64 (c 3)) ∧ w'.cell? ⟨a1, 4, none⟩ = some (.int .i64 (c 4)) ∧ w'.cell? ⟨a1, 5, none⟩ = some (.int .i64 (c 5)) ∧ w'.cell? ⟨a1, 6, none⟩ = some (.int .i64 (c 6)) ∧ w'.cell? ⟨a1, 7, none⟩ = some (.int .i64 (c 7)) ∧ w'.cell? ⟨a1, 8, none⟩ = some (.int .i64 (c 8)) ∧ w'.cell? ⟨a1, 9, none⟩ = some (.int .i64 (c 9)) ∧ w'.cell? ⟨a1, 10, none⟩ = some (.int .i64 (c 10)) ∧ w'.cell? ⟨a1, 11, none⟩ = some (.int .i64 (c 11)) ∧ w'.cell? ⟨a1, 12, none⟩ = some (.int .i64 (c 12)) ∧ w'.cell? ⟨a1, 13, none⟩ = some (.int .i64 (c 13)) ∧ w'.cell? ⟨a2, 0, none⟩ = some (.int .i64 (x 0)) ∧ w'.cell? ⟨a2, 1, none⟩ = some (.int .i64 (x 1)) ∧ w'.cell? ⟨a2, 2, none⟩ = some (.int .i64 (x 2)) ∧ w'.cell? ⟨a2, 3, none⟩ = some (.int .i64 (x 3)) ∧ w'.cell? ⟨a2, 4, none⟩ = some (.int .i64 (x 4)) ∧ w'.cell? ⟨a2, 5, none⟩ = some (.int .i64 (x 5)) ∧ w'.cell? ⟨a2, 6, none⟩ = some (.int .i64 (x 6)) ∧ w'.cell? ⟨a2, 7, none⟩ = some (.int .i64 (x 7)) ∧ w'.cell? ⟨a2, 8, none⟩ = some (.int .i64 (x 8)) ∧ w'.cell? ⟨a2, 9, none⟩ = some (.int .i64 (x 9)) ∧ w'.cell? ⟨a2, 10, none⟩ = some (.int .i64 (x 10)) ∧ w'.cell? ⟨a2, 11, none⟩ = some (.int .i64 (x 11)) ∧ w'.cell? ⟨a2, 12, none⟩ = some (.int .i64 (x 12)) ∧ w'.cell? ⟨a2, 13, none⟩ = some (.int .i64 (x 13)))))
  clear hHeld H0
  obtain ⟨u0, u1, u2, u3, u4, u5, u6, u7, u8, u9, u10, u11, u12, u13⟩ := conf_cells hR
  obtain ⟨v0, v1, v2, v3, v4, v5, v6, v7, v8, v9, v10, v11, v12, v13⟩ := conf_cells hQ
  go_upto_region 4 with fail
  go_cut [30] (fun s30 wx => s30 = .bool false ∧ wx = w')
  case first =>
    cases m
    · have n2 := N2.out (by simp)
      clear N2
      go_wp2_with fail
      all_goals go_meet
      all_goals exact ⟨rfl, rfl⟩
    · have hc1 := MB.out rfl
      by_cases g : c 0 - 1 ≤ l
      · have n2 := N2.out (fun _ => g)
        clear N2
        go_wp2_with fail
        all_goals go_meet
        all_goals exact ⟨rfl, rfl⟩
      · clear N2
        go_wp2_with fail
        all_goals go_meet
        all_goals exact ⟨rfl, rfl⟩
  case rest =>
    obtain ⟨rfl, hwx⟩ := hcut
    subst hwx
    have H0 := Lib.hid (conf_held2 hF.drew hR.drew hQ.drew)
    clear hF hR hQ B1 B2 B3 N1 N2 MB hb
    by_cases h0 : l < 0
    · as_aux_lemma =>
        clear U1
        have U1' := trivial
        go_upto_region 6 with fail
        clear u0 u1 u2 u3 u4 u5 u6 u7 u8 u9 u10 u11 u12 u13 v0 v1 v2 v3 v4 v5 v6 v7 v8 v9 v10 v11 v12 v13
        refine wp_region_noPanic ?_
        refine wp_region_held_drew (S := fun w' => Below a1 w w' ∧ Row w' a1 24 14 (ints c) ∧ Row w' a2 24 14 (ints x) ∧ w'.cell? ⟨a1, 0, none⟩ = some (.int .i64 (c 0)) ∧ w'.cell? ⟨a1, 1, none⟩ = some (.int .i64 (c 1)) ∧ w'.cell? ⟨a1, 2, none⟩ = some (.int .i64 (c 2)) ∧ w'.cell? ⟨a1, 3, none⟩ = some (.int .i64 (c 3)) ∧ w'.cell? ⟨a1, 4, none⟩ = some (.int .i64 (c 4)) ∧ w'.cell? ⟨a1, 5, none⟩ = some (.int .i64 (c 5)) ∧ w'.cell? ⟨a1, 6, none⟩ = some (.int .i64 (c 6)) ∧ w'.cell? ⟨a1, 7, none⟩ = some (.int .i64 (c 7)) ∧ w'.cell? ⟨a1, 8, none⟩ = some (.int .i64 (c 8)) ∧ w'.cell? ⟨a1, 9, none⟩ = some (.int .i64 (c 9)) ∧ w'.cell? ⟨a1, 10, none⟩ = some (.int .i64 (c 10)) ∧ w'.cell? ⟨a1, 11, none⟩ = some (.int .i64 (c 11)) ∧ w'.cell? ⟨a1, 12, none⟩ = some (.int .i64 (c 12)) ∧ w'.cell? ⟨a1, 13, none⟩ = some (.int .i64 (c 13)) ∧ w'.cell? ⟨a2, 0, none⟩ = some (.int .i64 (x 0)) ∧ w'.cell? ⟨a2, 1, none⟩ = some (.int .i64 (x 1)) ∧ w'.cell? ⟨a2, 2, none⟩ = some (.int .i64 (x 2)) ∧ w'.cell? ⟨a2, 3, none⟩ = some (.int .i64 (x 3)) ∧ w'.cell? ⟨a2, 4, none⟩ = some (.int .i64 (x 4)) ∧ w'.cell? ⟨a2, 5, none⟩ = some (.int .i64 (x 5)) ∧ w'.cell? ⟨a2, 6, none⟩ = some (.int .i64 (x 6)) ∧ w'.cell? ⟨a2, 7, none⟩ = some (.int .i64 (x 7)) ∧ w'.cell? ⟨a2, 8, none⟩ = some (.int .i64 (x 8)) ∧ w'.cell? ⟨a2, 9, none⟩ = some (.int .i64 (x 9)) ∧ w'.cell? ⟨a2, 10, none⟩ = some (.int .i64 (x 10)) ∧ w'.cell? ⟨a2, 11, none⟩ = some (.int .i64 (x 11)) ∧ w'.cell? ⟨a2, 12, none⟩ = some (.int .i64 (x 12)) ∧ w'.cell? ⟨a2, 13, none⟩ = some (.int .i64 (x 13))) (by kernel_rfl) (H0.out) (fun hHeld => ?_)
        (refine wpAnyH_take (i := 0) (v := ?_) rfl (by kernel_rfl) (by kernel_rfl) (by kernel_rfl) (fun _ _ _ h => h) (Or.inl ⟨by rfl, ?_⟩) hHeld ?_; rotate_left; focus (intro w hSw; (try dsimp only at hSw); go_simp; (try with_reducible rfl)))
        try simp only [Act.put, List.getElem_toArray, List.getElem_cons_succ, List.getElem_cons_zero, List.setIfInBounds_toArray, List.set_cons_zero, List.set_cons_succ]
        (refine wpAnyH_take (i := 1) (v := ?_) rfl (by kernel_rfl) (by kernel_rfl) (by kernel_rfl) (fun _ _ _ h => h) (Or.inl ⟨by rfl, ?_⟩) hHeld ?_; rotate_left; focus (intro w hSw; (try dsimp only at hSw); go_simp; (try with_reducible rfl)))
        try simp only [Act.put, List.getElem_toArray, List.getElem_cons_succ, List.getElem_cons_zero, List.setIfInBounds_toArray, List.set_cons_zero, List.set_cons_succ]
        (refine wpAnyH_take (i := 2) (v := ?_) rfl (by kernel_rfl) (by kernel_rfl) (by kernel_rfl) (fun _ _ _ h => h) (Or.inl ⟨by rfl, ?_⟩) hHeld ?_; rotate_left; focus (intro w hSw; (try dsimp only at hSw); go_simp; (try with_reducible rfl)))
        try simp only [Act.put, List.getElem_toArray, List.getElem_cons_succ, List.getElem_cons_zero, List.setIfInBounds_toArray, List.set_cons_zero, List.set_cons_succ]
        first | (refine wpAnyH_take (i := 3) rfl (by kernel_rfl) (by kernel_rfl) (by kernel_rfl) (fun _ _ _ h => h) (Or.inr ⟨by rfl, rfl⟩) hHeld ?_) | (refine wpAnyH_take (i := 3) (v := ?_) rfl (by kernel_rfl) (by kernel_rfl) (by kernel_rfl) (fun _ _ _ h => h) (Or.inl ⟨by rfl, ?_⟩) hHeld ?_; rotate_left; focus (intro w hSw; (try dsimp only at hSw); go_simp; (try with_reducible rfl)))
        try simp only [Act.put, List.getElem_toArray, List.getElem_cons_succ, List.getElem_cons_zero, List.setIfInBounds_toArray, List.set_cons_zero, List.set_cons_succ]
        first | (refine wpAnyH_take (i := 4) rfl (by kernel_rfl) (by kernel_rfl) (by kernel_rfl) (fun _ _ _ h => h) (Or.inr ⟨by rfl, rfl⟩) hHeld ?_) | (refine wpAnyH_take (i := 4) (v := ?_) rfl (by kernel_rfl) (by kernel_rfl) (by kernel_rfl) (fun _ _ _ h => h) (Or.inl ⟨by rfl, ?_⟩) hHeld ?_; rotate_left; focus (intro w hSw; (try dsimp only at hSw); go_simp; (try with_reducible rfl)))
        try simp only [Act.put, List.getElem_toArray, List.getElem_cons_succ, List.getElem_cons_zero, List.setIfInBounds_toArray, List.set_cons_zero, List.set_cons_succ]
        first | (refine wpAnyH_take (i := 6) rfl (by kernel_rfl) (by kernel_rfl) (by kernel_rfl) (fun _ _ _ h => h) (Or.inr ⟨by rfl, rfl⟩) hHeld ?_) | (refine wpAnyH_take (i := 6) (v := ?_) rfl (by kernel_rfl) (by kernel_rfl) (by kernel_rfl) (fun _ _ _ h => h) (Or.inl ⟨by rfl, ?_⟩) hHeld ?_; rotate_left; focus (intro w hSw; (try dsimp only at hSw); go_simp; (try with_reducible rfl)))
        try simp only [Act.put, List.getElem_toArray, List.getElem_cons_succ, List.getElem_cons_zero, List.setIfInBounds_toArray, List.set_cons_zero, List.set_cons_succ]
        first | (refine wpAnyH_take (i := 7) rfl (by kernel_rfl) (by kernel_rfl) (by kernel_rfl) (fun _ _ _ h => h) (Or.inr ⟨by rfl, rfl⟩) hHeld ?_) | (refine wpAnyH_take (i := 7) (v := ?_) rfl (by kernel_rfl) (by kernel_rfl) (by kernel_rfl) (fun _ _ _ h => h) (Or.inl ⟨by rfl, ?_⟩) hHeld ?_; rotate_left; focus (intro w hSw; (try dsimp only at hSw); go_simp; (try with_reducible rfl)))
        try simp only [Act.put, List.getElem_toArray, List.getElem_cons_succ, List.getElem_cons_zero, List.setIfInBounds_toArray, List.set_cons_zero, List.set_cons_succ]
        first | (refine wpAnyH_take (i := 5) rfl (by kernel_rfl) (by kernel_rfl) (by kernel_rfl) (fun _ _ _ h => h) (Or.inr ⟨by rfl, rfl⟩) hHeld ?_) | (refine wpAnyH_ready (rs := [5]) (by kernel_rfl) (by simp) ?_; refine AllReadyH.cons rfl (fun K hK => ?_) AllReadyH.nil; go_simp; (first | (go_at_call 15; (first | ((with_reducible refine (U1'.out _).mono ?_); rintro e w' ⟨A1, p1, rfl, r1, hb⟩) | ((with_reducible refine (U2.out _).mono ?_); rintro e w' ⟨A2, p2, rfl, r2, hb⟩; replace r1 := r1.keepB hb))) | (go_at_call 12; refine (i1.out A1 A2 p1 p2 _ r1 r2).mono ?_; rintro e w' ⟨rfl, hb⟩; clear r1 r2) | (go_at_call 7; (first | (with_reducible refine (M1.out _).mono ?_) | (with_reducible refine (M2.out _).mono ?_)); rintro e w' ⟨rfl, hb⟩) | (go_at_call 11; refine (lives4_any _).mono ?_; rintro e w' ⟨rfl, hb⟩)); (try go_wp2_with fail); refine hK.out _ _ ?_ (fun hHeld' => ?_); (focus (first | exact hkeep _ _ hb hHeld | exact hHeld)); clear hK K; replace hHeld := hHeld'; clear hHeld')
        try simp only [Act.put, List.getElem_toArray, List.getElem_cons_succ, List.getElem_cons_zero, List.setIfInBounds_toArray, List.set_cons_zero, List.set_cons_succ]
        first | (refine wpAnyH_take (i := 8) rfl (by kernel_rfl) (by kernel_rfl) (by kernel_rfl) (fun _ _ _ h => h) (Or.inr ⟨by rfl, rfl⟩) hHeld ?_) | (refine wpAnyH_ready (rs := [8]) (by kernel_rfl) (by simp) ?_; refine AllReadyH.cons rfl (fun K hK => ?_) AllReadyH.nil; go_simp; (first | (go_at_call 15; (first | ((with_reducible refine (U1'.out _).mono ?_); rintro e w' ⟨A1, p1, rfl, r1, hb⟩) | ((with_reducible refine (U2.out _).mono ?_); rintro e w' ⟨A2, p2, rfl, r2, hb⟩; replace r1 := r1.keepB hb))) | (go_at_call 12; refine (i1.out A1 A2 p1 p2 _ r1 r2).mono ?_; rintro e w' ⟨rfl, hb⟩; clear r1 r2) | (go_at_call 7; (first | (with_reducible refine (M1.out _).mono ?_) | (with_reducible refine (M2.out _).mono ?_)); rintro e w' ⟨rfl, hb⟩) | (go_at_call 11; refine (lives4_any _).mono ?_; rintro e w' ⟨rfl, hb⟩)); (try go_wp2_with fail); refine hK.out _ _ ?_ (fun hHeld' => ?_); (focus (first | exact hkeep _ _ hb hHeld | exact hHeld)); clear hK K; replace hHeld := hHeld'; clear hHeld')
        try simp only [Act.put, List.getElem_toArray, List.getElem_cons_succ, List.getElem_cons_zero, List.setIfInBounds_toArray, List.set_cons_zero, List.set_cons_succ]
        first | (refine wpAnyH_take (i := 9) rfl (by kernel_rfl) (by kernel_rfl) (by kernel_rfl) (fun _ _ _ h => h) (Or.inr ⟨by rfl, rfl⟩) hHeld ?_) | (refine wpAnyH_ready (rs := [9]) (by kernel_rfl) (by simp) ?_; refine AllReadyH.cons rfl (fun K hK => ?_) AllReadyH.nil; go_simp; (first | (go_at_call 15; (first | ((with_reducible refine (U1'.out _).mono ?_); rintro e w' ⟨A1, p1, rfl, r1, hb⟩) | ((with_reducible refine (U2.out _).mono ?_); rintro e w' ⟨A2, p2, rfl, r2, hb⟩; replace r1 := r1.keepB hb))) | (go_at_call 12; refine (i1.out A1 A2 p1 p2 _ r1 r2).mono ?_; rintro e w' ⟨rfl, hb⟩; clear r1 r2) | (go_at_call 7; (first | (with_reducible refine (M1.out _).mono ?_) | (with_reducible refine (M2.out _).mono ?_)); rintro e w' ⟨rfl, hb⟩) | (go_at_call 11; refine (lives4_any _).mono ?_; rintro e w' ⟨rfl, hb⟩)); (try go_wp2_with fail); refine hK.out _ _ ?_ (fun hHeld' => ?_); (focus (first | exact hkeep _ _ hb hHeld | exact hHeld)); clear hK K; replace hHeld := hHeld'; clear hHeld')
        try simp only [Act.put, List.getElem_toArray, List.getElem_cons_succ, List.getElem_cons_zero, List.setIfInBounds_toArray, List.set_cons_zero, List.set_cons_succ]
        (refine wpAnyH_take (i := 10) (v := ?_) rfl (by kernel_rfl) (by kernel_rfl) (by kernel_rfl) (fun _ _ _ h => h) (Or.inl ⟨by rfl, ?_⟩) hHeld ?_; rotate_left; focus (intro w hSw; (try dsimp only at hSw); go_simp; (try with_reducible rfl)))
        try simp only [Act.put, List.getElem_toArray, List.getElem_cons_succ, List.getElem_cons_zero, List.setIfInBounds_toArray, List.set_cons_zero, List.set_cons_succ]
        (refine wpAnyH_take (i := 11) (v := ?_) rfl (by kernel_rfl) (by kernel_rfl) (by kernel_rfl) (fun _ _ _ h => h) (Or.inl ⟨by rfl, ?_⟩) hHeld ?_; rotate_left; focus (intro w hSw; (try dsimp only at hSw); go_simp; (try with_reducible rfl)))
        try simp only [Act.put, List.getElem_toArray, List.getElem_cons_succ, List.getElem_cons_zero, List.setIfInBounds_toArray, List.set_cons_zero, List.set_cons_succ]
        first | (refine wpAnyH_take (i := 12) rfl (by kernel_rfl) (by kernel_rfl) (by kernel_rfl) (fun _ _ _ h => h) (Or.inr ⟨by rfl, rfl⟩) hHeld ?_) | (refine wpAnyH_take (i := 12) (v := ?_) rfl (by kernel_rfl) (by kernel_rfl) (by kernel_rfl) (fun _ _ _ h => h) (Or.inl ⟨by rfl, ?_⟩) hHeld ?_; rotate_left; focus (intro w hSw; (try dsimp only at hSw); go_simp; (try with_reducible rfl)))
        try simp only [Act.put, List.getElem_toArray, List.getElem_cons_succ, List.getElem_cons_zero, List.setIfInBounds_toArray, List.set_cons_zero, List.set_cons_succ]
        first | (refine wpAnyH_take (i := 14) rfl (by kernel_rfl) (by kernel_rfl) (by kernel_rfl) (fun _ _ _ h => h) (Or.inr ⟨by rfl, rfl⟩) hHeld ?_) | (refine wpAnyH_take (i := 14) (v := ?_) rfl (by kernel_rfl) (by kernel_rfl) (by kernel_rfl) (fun _ _ _ h => h) (Or.inl ⟨by rfl, ?_⟩) hHeld ?_; rotate_left; focus (intro w hSw; (try dsimp only at hSw); go_simp; (try with_reducible rfl)))
        try simp only [Act.put, List.getElem_toArray, List.getElem_cons_succ, List.getElem_cons_zero, List.setIfInBounds_toArray, List.set_cons_zero, List.set_cons_succ]
        first | (refine wpAnyH_take (i := 13) rfl (by kernel_rfl) (by kernel_rfl) (by kernel_rfl) (fun _ _ _ h => h) (Or.inr ⟨by rfl, rfl⟩) hHeld ?_) | (refine wpAnyH_ready (rs := [13]) (by kernel_rfl) (by simp) ?_; refine AllReadyH.cons rfl (fun K hK => ?_) AllReadyH.nil; go_simp; (first | (go_at_call 15; (first | ((with_reducible refine (U1'.out _).mono ?_); rintro e w' ⟨A1, p1, rfl, r1, hb⟩) | ((with_reducible refine (U2.out _).mono ?_); rintro e w' ⟨A2, p2, rfl, r2, hb⟩; replace r1 := r1.keepB hb))) | (go_at_call 12; refine (i1.out A1 A2 p1 p2 _ r1 r2).mono ?_; rintro e w' ⟨rfl, hb⟩; clear r1 r2) | (go_at_call 7; (first | (with_reducible refine (M1.out _).mono ?_) | (with_reducible refine (M2.out _).mono ?_)); rintro e w' ⟨rfl, hb⟩) | (go_at_call 11; refine (lives4_any _).mono ?_; rintro e w' ⟨rfl, hb⟩)); (try go_wp2_with fail); refine hK.out _ _ ?_ (fun hHeld' => ?_); (focus (first | exact hkeep _ _ hb hHeld | exact hHeld)); clear hK K; replace hHeld := hHeld'; clear hHeld')
        try simp only [Act.put, List.getElem_toArray, List.getElem_cons_succ, List.getElem_cons_zero, List.setIfInBounds_toArray, List.set_cons_zero, List.set_cons_succ]
        first | (refine wpAnyH_take (i := 15) rfl (by kernel_rfl) (by kernel_rfl) (by kernel_rfl) (fun _ _ _ h => h) (Or.inr ⟨by rfl, rfl⟩) hHeld ?_) | (refine wpAnyH_ready (rs := [15]) (by kernel_rfl) (by simp) ?_; refine AllReadyH.cons rfl (fun K hK => ?_) AllReadyH.nil; go_simp; (first | (go_at_call 15; (first | ((with_reducible refine (U1'.out _).mono ?_); rintro e w' ⟨A1, p1, rfl, r1, hb⟩) | ((with_reducible refine (U2.out _).mono ?_); rintro e w' ⟨A2, p2, rfl, r2, hb⟩; replace r1 := r1.keepB hb))) | (go_at_call 12; refine (i1.out A1 A2 p1 p2 _ r1 r2).mono ?_; rintro e w' ⟨rfl, hb⟩; clear r1 r2) | (go_at_call 7; (first | (with_reducible refine (M1.out _).mono ?_) | (with_reducible refine (M2.out _).mono ?_)); rintro e w' ⟨rfl, hb⟩) | (go_at_call 11; refine (lives4_any _).mono ?_; rintro e w' ⟨rfl, hb⟩)); (try go_wp2_with fail); refine hK.out _ _ ?_ (fun hHeld' => ?_); (focus (first | exact hkeep _ _ hb hHeld | exact hHeld)); clear hK K; replace hHeld := hHeld'; clear hHeld')
        try simp only [Act.put, List.getElem_toArray, List.getElem_cons_succ, List.getElem_cons_zero, List.setIfInBounds_toArray, List.set_cons_zero, List.set_cons_succ]
        first | (refine wpAnyH_take (i := 16) rfl (by kernel_rfl) (by kernel_rfl) (by kernel_rfl) (fun _ _ _ h => h) (Or.inr ⟨by rfl, rfl⟩) hHeld ?_) | (refine wpAnyH_take (i := 16) (v := ?_) rfl (by kernel_rfl) (by kernel_rfl) (by kernel_rfl) (fun _ _ _ h => h) (Or.inl ⟨by rfl, ?_⟩) hHeld ?_; rotate_left; focus (intro w hSw; (try dsimp only at hSw); go_simp; (try with_reducible rfl)))
        try simp only [Act.put, List.getElem_toArray, List.getElem_cons_succ, List.getElem_cons_zero, List.setIfInBounds_toArray, List.set_cons_zero, List.set_cons_succ]
        (refine wpAnyH_take (i := 17) (v := ?_) rfl (by kernel_rfl) (by kernel_rfl) (by kernel_rfl) (fun _ _ _ h => h) (Or.inl ⟨by rfl, ?_⟩) hHeld ?_; rotate_left; focus (intro w hSw; (try dsimp only at hSw); go_simp; (try with_reducible rfl)))
        try simp only [Act.put, List.getElem_toArray, List.getElem_cons_succ, List.getElem_cons_zero, List.setIfInBounds_toArray, List.set_cons_zero, List.set_cons_succ]
        (refine wpAnyH_take (i := 18) (v := ?_) rfl (by kernel_rfl) (by kernel_rfl) (by kernel_rfl) (fun _ _ _ h => h) (Or.inl ⟨by rfl, ?_⟩) hHeld ?_; rotate_left; focus (intro w hSw; (try dsimp only at hSw); go_simp; (try with_reducible rfl)))
        try simp only [Act.put, List.getElem_toArray, List.getElem_cons_succ, List.getElem_cons_zero, List.setIfInBounds_toArray, List.set_cons_zero, List.set_cons_succ]
        first | (refine wpAnyH_take (i := 19) rfl (by kernel_rfl) (by kernel_rfl) (by kernel_rfl) (fun _ _ _ h => h) (Or.inr ⟨by rfl, rfl⟩) hHeld ?_) | (refine wpAnyH_ready (rs := [19]) (by kernel_rfl) (by simp) ?_; refine AllReadyH.cons rfl (fun K hK => ?_) AllReadyH.nil; go_simp; (first | (go_at_call 15; (first | ((with_reducible refine (U1'.out _).mono ?_); rintro e w' ⟨A1, p1, rfl, r1, hb⟩) | ((with_reducible refine (U2.out _).mono ?_); rintro e w' ⟨A2, p2, rfl, r2, hb⟩; replace r1 := r1.keepB hb))) | (go_at_call 12; refine (i1.out A1 A2 p1 p2 _ r1 r2).mono ?_; rintro e w' ⟨rfl, hb⟩; clear r1 r2) | (go_at_call 7; (first | (with_reducible refine (M1.out _).mono ?_) | (with_reducible refine (M2.out _).mono ?_)); rintro e w' ⟨rfl, hb⟩) | (go_at_call 11; refine (lives4_any _).mono ?_; rintro e w' ⟨rfl, hb⟩)); (try go_wp2_with fail); refine hK.out _ _ ?_ (fun hHeld' => ?_); (focus (first | exact hkeep _ _ hb hHeld | exact hHeld)); clear hK K; replace hHeld := hHeld'; clear hHeld')
        try simp only [Act.put, List.getElem_toArray, List.getElem_cons_succ, List.getElem_cons_zero, List.setIfInBounds_toArray, List.set_cons_zero, List.set_cons_succ]
        (refine wpAnyH_take (i := 20) (v := ?_) rfl (by kernel_rfl) (by kernel_rfl) (by kernel_rfl) (fun _ _ _ h => h) (Or.inl ⟨by rfl, ?_⟩) hHeld ?_; rotate_left; focus (intro w hSw; (try dsimp only at hSw); go_simp; (try with_reducible rfl)))
        try simp only [Act.put, List.getElem_toArray, List.getElem_cons_succ, List.getElem_cons_zero, List.setIfInBounds_toArray, List.set_cons_zero, List.set_cons_succ]
        (refine wpAnyH_take (i := 21) (v := ?_) rfl (by kernel_rfl) (by kernel_rfl) (by kernel_rfl) (fun _ _ _ h => h) (Or.inl ⟨by rfl, ?_⟩) hHeld ?_; rotate_left; focus (intro w hSw; (try dsimp only at hSw); go_simp; (try with_reducible rfl)))
        try simp only [Act.put, List.getElem_toArray, List.getElem_cons_succ, List.getElem_cons_zero, List.setIfInBounds_toArray, List.set_cons_zero, List.set_cons_succ]
        refine wpAnyH_done (by kernel_rfl) ?_ _
        refine NoPanic.normal ?_
        have hF := And.left (by assumption : Below a1 w w' ∧ Row w' a1 24 14 (ints c) ∧ Row w' a2 24 14 (ints x) ∧ w'.cell? ⟨a1, 0, none⟩ = some (.int .i64 (c 0)) ∧ w'.cell? ⟨a1, 1, none⟩ = some (.int .i64 (c 1)) ∧ w'.cell? ⟨a1, 2, none⟩ = some (.int .i64 (c 2)) ∧ w'.cell? ⟨a1, 3, none⟩ = some (.int .i64 (c 3)) ∧ w'.cell? ⟨a1, 4, none⟩ = some (.int .i64 (c 4)) ∧ w'.cell? ⟨a1, 5, none⟩ = some (.int .i64 (c 5)) ∧ w'.cell? ⟨a1, 6, none⟩ = some (.int .i64 (c 6)) ∧ w'.cell? ⟨a1, 7, none⟩ = some (.int .i64 (c 7)) ∧ w'.cell? ⟨a1, 8, none⟩ = some (.int .i64 (c 8)) ∧ w'.cell? ⟨a1, 9, none⟩ = some (.int .i64 (c 9)) ∧ w'.cell? ⟨a1, 10, none⟩ = some (.int .i64 (c 10)) ∧ w'.cell? ⟨a1, 11, none⟩ = some (.int .i64 (c 11)) ∧ w'.cell? ⟨a1, 12, none⟩ = some (.int .i64 (c 12)) ∧ w'.cell? ⟨a1, 13, none⟩ = some (.int .i64 (c 13)) ∧ w'.cell? ⟨a2, 0, none⟩ = some (.int .i64 (x 0)) ∧ w'.cell? ⟨a2, 1, none⟩ = some (.int .i64 (x 1)) ∧ w'.cell? ⟨a2, 2, none⟩ = some (.int .i64 (x 2)) ∧ w'.cell? ⟨a2, 3, none⟩ = some (.int .i64 (x 3)) ∧ w'.cell? ⟨a2, 4, none⟩ = some (.int .i64 (x 4)) ∧ w'.cell? ⟨a2, 5, none⟩ = some (.int .i64 (x 5)) ∧ w'.cell? ⟨a2, 6, none⟩ = some (.int .i64 (x 6)) ∧ w'.cell? ⟨a2, 7, none⟩ = some (.int .i64 (x 7)) ∧ w'.cell? ⟨a2, 8, none⟩ = some (.int .i64 (x 8)) ∧ w'.cell? ⟨a2, 9, none⟩ = some (.int .i64 (x 9)) ∧ w'.cell? ⟨a2, 10, none⟩ = some (.int .i64 (x 10)) ∧ w'.cell? ⟨a2, 11, none⟩ = some (.int .i64 (x 11)) ∧ w'.cell? ⟨a2, 12, none⟩ = some (.int .i64 (x 12)) ∧ w'.cell? ⟨a2, 13, none⟩ = some (.int .i64 (x 13)))
        clear hHeld H0
        go_wp2
        go_ret
        exact ⟨rfl, by rw [HZ.out]; exact hF⟩
    · as_aux_lemma =>
        have U1' := Lib.hid (U1.out (by omega))
        clear U1
        go_upto_region 6 with fail
        clear u0 u1 u2 u3 u4 u5 u6 u7 u8 u9 u10 u11 u12 u13 v0 v1 v2 v3 v4 v5 v6 v7 v8 v9 v10 v11 v12 v13
        refine wp_region_noPanic ?_
        refine wp_region_held_drew (S := fun w' => Below a1 w w' ∧ Row w' a1 24 14 (ints c) ∧ Row w' a2 24 14 (ints x) ∧ w'.cell? ⟨a1, 0, none⟩ = some (.int .i64 (c 0)) ∧ w'.cell? ⟨a1, 1, none⟩ = some (.int .i64 (c 1)) ∧ w'.cell? ⟨a1, 2, none⟩ = some (.int .i64 (c 2)) ∧ w'.cell? ⟨a1, 3, none⟩ = some (.int .i64 (c 3)) ∧ w'.cell? ⟨a1, 4, none⟩ = some (.int .i64 (c 4)) ∧ w'.cell? ⟨a1, 5, none⟩ = some (.int .i64 (c 5)) ∧ w'.cell? ⟨a1, 6, none⟩ = some (.int .i64 (c 6)) ∧ w'.cell? ⟨a1, 7, none⟩ = some (.int .i64 (c 7)) ∧ w'.cell? ⟨a1, 8, none⟩ = some (.int .i64 (c 8)) ∧ w'.cell? ⟨a1, 9, none⟩ = some (.int .i64 (c 9)) ∧ w'.cell? ⟨a1, 10, none⟩ = some (.int .i64 (c 10)) ∧ w'.cell? ⟨a1, 11, none⟩ = some (.int .i64 (c 11)) ∧ w'.cell? ⟨a1, 12, none⟩ = some (.int .i64 (c 12)) ∧ w'.cell? ⟨a1, 13, none⟩ = some (.int .i64 (c 13)) ∧ w'.cell? ⟨a2, 0, none⟩ = some (.int .i64 (x 0)) ∧ w'.cell? ⟨a2, 1, none⟩ = some (.int .i64 (x 1)) ∧ w'.cell? ⟨a2, 2, none⟩ = some (.int .i64 (x 2)) ∧ w'.cell? ⟨a2, 3, none⟩ = some (.int .i64 (x 3)) ∧ w'.cell? ⟨a2, 4, none⟩ = some (.int .i64 (x 4)) ∧ w'.cell? ⟨a2, 5, none⟩ = some (.int .i64 (x 5)) ∧ w'.cell? ⟨a2, 6, none⟩ = some (.int .i64 (x 6)) ∧ w'.cell? ⟨a2, 7, none⟩ = some (.int .i64 (x 7)) ∧ w'.cell? ⟨a2, 8, none⟩ = some (.int .i64 (x 8)) ∧ w'.cell? ⟨a2, 9, none⟩ = some (.int .i64 (x 9)) ∧ w'.cell? ⟨a2, 10, none⟩ = some (.int .i64 (x 10)) ∧ w'.cell? ⟨a2, 11, none⟩ = some (.int .i64 (x 11)) ∧ w'.cell? ⟨a2, 12, none⟩ = some (.int .i64 (x 12)) ∧ w'.cell? ⟨a2, 13, none⟩ = some (.int .i64 (x 13))) (by kernel_rfl) (H0.out) (fun hHeld => ?_)
        (refine wpAnyH_take (i := 0) (v := ?_) rfl (by kernel_rfl) (by kernel_rfl) (by kernel_rfl) (fun _ _ _ h => h) (Or.inl ⟨by rfl, ?_⟩) hHeld ?_; rotate_left; focus (intro w hSw; (try dsimp only at hSw); go_simp; (try with_reducible rfl)))
        try simp only [Act.put, List.getElem_toArray, List.getElem_cons_succ, List.getElem_cons_zero, List.setIfInBounds_toArray, List.set_cons_zero, List.set_cons_succ]
        (refine wpAnyH_take (i := 1) (v := ?_) rfl (by kernel_rfl) (by kernel_rfl) (by kernel_rfl) (fun _ _ _ h => h) (Or.inl ⟨by rfl, ?_⟩) hHeld ?_; rotate_left; focus (intro w hSw; (try dsimp only at hSw); go_simp; (try with_reducible rfl)))
        try simp only [Act.put, List.getElem_toArray, List.getElem_cons_succ, List.getElem_cons_zero, List.setIfInBounds_toArray, List.set_cons_zero, List.set_cons_succ]
        (refine wpAnyH_take (i := 2) (v := ?_) rfl (by kernel_rfl) (by kernel_rfl) (by kernel_rfl) (fun _ _ _ h => h) (Or.inl ⟨by rfl, ?_⟩) hHeld ?_; rotate_left; focus (intro w hSw; (try dsimp only at hSw); go_simp; (try with_reducible rfl)))
        try simp only [Act.put, List.getElem_toArray, List.getElem_cons_succ, List.getElem_cons_zero, List.setIfInBounds_toArray, List.set_cons_zero, List.set_cons_succ]
        first | (refine wpAnyH_take (i := 3) rfl (by kernel_rfl) (by kernel_rfl) (by kernel_rfl) (fun _ _ _ h => h) (Or.inr ⟨by rfl, rfl⟩) hHeld ?_) | (refine wpAnyH_take (i := 3) (v := ?_) rfl (by kernel_rfl) (by kernel_rfl) (by kernel_rfl) (fun _ _ _ h => h) (Or.inl ⟨by rfl, ?_⟩) hHeld ?_; rotate_left; focus (intro w hSw; (try dsimp only at hSw); go_simp; (try with_reducible rfl)))
        try simp only [Act.put, List.getElem_toArray, List.getElem_cons_succ, List.getElem_cons_zero, List.setIfInBounds_toArray, List.set_cons_zero, List.set_cons_succ]
        first | (refine wpAnyH_take (i := 4) rfl (by kernel_rfl) (by kernel_rfl) (by kernel_rfl) (fun _ _ _ h => h) (Or.inr ⟨by rfl, rfl⟩) hHeld ?_) | (refine wpAnyH_take (i := 4) (v := ?_) rfl (by kernel_rfl) (by kernel_rfl) (by kernel_rfl) (fun _ _ _ h => h) (Or.inl ⟨by rfl, ?_⟩) hHeld ?_; rotate_left; focus (intro w hSw; (try dsimp only at hSw); go_simp; (try with_reducible rfl)))
        try simp only [Act.put, List.getElem_toArray, List.getElem_cons_succ, List.getElem_cons_zero, List.setIfInBounds_toArray, List.set_cons_zero, List.set_cons_succ]
        first | (refine wpAnyH_take (i := 6) rfl (by kernel_rfl) (by kernel_rfl) (by kernel_rfl) (fun _ _ _ h => h) (Or.inr ⟨by rfl, rfl⟩) hHeld ?_) | (refine wpAnyH_take (i := 6) (v := ?_) rfl (by kernel_rfl) (by kernel_rfl) (by kernel_rfl) (fun _ _ _ h => h) (Or.inl ⟨by rfl, ?_⟩) hHeld ?_; rotate_left; focus (intro w hSw; (try dsimp only at hSw); go_simp; (try with_reducible rfl)))
        try simp only [Act.put, List.getElem_toArray, List.getElem_cons_succ, List.getElem_cons_zero, List.setIfInBounds_toArray, List.set_cons_zero, List.set_cons_succ]
        first | (refine wpAnyH_take (i := 7) rfl (by kernel_rfl) (by kernel_rfl) (by kernel_rfl) (fun _ _ _ h => h) (Or.inr ⟨by rfl, rfl⟩) hHeld ?_) | (refine wpAnyH_take (i := 7) (v := ?_) rfl (by kernel_rfl) (by kernel_rfl) (by kernel_rfl) (fun _ _ _ h => h) (Or.inl ⟨by rfl, ?_⟩) hHeld ?_; rotate_left; focus (intro w hSw; (try dsimp only at hSw); go_simp; (try with_reducible rfl)))
        try simp only [Act.put, List.getElem_toArray, List.getElem_cons_succ, List.getElem_cons_zero, List.setIfInBounds_toArray, List.set_cons_zero, List.set_cons_succ]
        first | (refine wpAnyH_take (i := 5) rfl (by kernel_rfl) (by kernel_rfl) (by kernel_rfl) (fun _ _ _ h => h) (Or.inr ⟨by rfl, rfl⟩) hHeld ?_) | (refine wpAnyH_ready (rs := [5]) (by kernel_rfl) (by simp) ?_; refine AllReadyH.cons rfl (fun K hK => ?_) AllReadyH.nil; go_simp; (first | (go_at_call 15; (first | ((with_reducible refine (U1'.out _).mono ?_); rintro e w' ⟨A1, p1, rfl, r1, hb⟩) | ((with_reducible refine (U2.out _).mono ?_); rintro e w' ⟨A2, p2, rfl, r2, hb⟩; replace r1 := r1.keepB hb))) | (go_at_call 12; refine (i1.out A1 A2 p1 p2 _ r1 r2).mono ?_; rintro e w' ⟨rfl, hb⟩; clear r1 r2) | (go_at_call 7; (first | (with_reducible refine (M1.out _).mono ?_) | (with_reducible refine (M2.out _).mono ?_)); rintro e w' ⟨rfl, hb⟩) | (go_at_call 11; refine (lives4_any _).mono ?_; rintro e w' ⟨rfl, hb⟩)); (try go_wp2_with fail); refine hK.out _ _ ?_ (fun hHeld' => ?_); (focus (first | exact hkeep _ _ hb hHeld | exact hHeld)); clear hK K; replace hHeld := hHeld'; clear hHeld')
        try simp only [Act.put, List.getElem_toArray, List.getElem_cons_succ, List.getElem_cons_zero, List.setIfInBounds_toArray, List.set_cons_zero, List.set_cons_succ]
        first | (refine wpAnyH_take (i := 8) rfl (by kernel_rfl) (by kernel_rfl) (by kernel_rfl) (fun _ _ _ h => h) (Or.inr ⟨by rfl, rfl⟩) hHeld ?_) | (refine wpAnyH_ready (rs := [8]) (by kernel_rfl) (by simp) ?_; refine AllReadyH.cons rfl (fun K hK => ?_) AllReadyH.nil; go_simp; (first | (go_at_call 15; (first | ((with_reducible refine (U1'.out _).mono ?_); rintro e w' ⟨A1, p1, rfl, r1, hb⟩) | ((with_reducible refine (U2.out _).mono ?_); rintro e w' ⟨A2, p2, rfl, r2, hb⟩; replace r1 := r1.keepB hb))) | (go_at_call 12; refine (i1.out A1 A2 p1 p2 _ r1 r2).mono ?_; rintro e w' ⟨rfl, hb⟩; clear r1 r2) | (go_at_call 7; (first | (with_reducible refine (M1.out _).mono ?_) | (with_reducible refine (M2.out _).mono ?_)); rintro e w' ⟨rfl, hb⟩) | (go_at_call 11; refine (lives4_any _).mono ?_; rintro e w' ⟨rfl, hb⟩)); (try go_wp2_with fail); refine hK.out _ _ ?_ (fun hHeld' => ?_); (focus (first | exact hkeep _ _ hb hHeld | exact hHeld)); clear hK K; replace hHeld := hHeld'; clear hHeld')
        try simp only [Act.put, List.getElem_toArray, List.getElem_cons_succ, List.getElem_cons_zero, List.setIfInBounds_toArray, List.set_cons_zero, List.set_cons_succ]
        first | (refine wpAnyH_take (i := 9) rfl (by kernel_rfl) (by kernel_rfl) (by kernel_rfl) (fun _ _ _ h => h) (Or.inr ⟨by rfl, rfl⟩) hHeld ?_) | (refine wpAnyH_ready (rs := [9]) (by kernel_rfl) (by simp) ?_; refine AllReadyH.cons rfl (fun K hK => ?_) AllReadyH.nil; go_simp; (first | (go_at_call 15; (first | ((with_reducible refine (U1'.out _).mono ?_); rintro e w' ⟨A1, p1, rfl, r1, hb⟩) | ((with_reducible refine (U2.out _).mono ?_); rintro e w' ⟨A2, p2, rfl, r2, hb⟩; replace r1 := r1.keepB hb))) | (go_at_call 12; refine (i1.out A1 A2 p1 p2 _ r1 r2).mono ?_; rintro e w' ⟨rfl, hb⟩; clear r1 r2) | (go_at_call 7; (first | (with_reducible refine (M1.out _).mono ?_) | (with_reducible refine (M2.out _).mono ?_)); rintro e w' ⟨rfl, hb⟩) | (go_at_call 11; refine (lives4_any _).mono ?_; rintro e w' ⟨rfl, hb⟩)); (try go_wp2_with fail); refine hK.out _ _ ?_ (fun hHeld' => ?_); (focus (first | exact hkeep _ _ hb hHeld | exact hHeld)); clear hK K; replace hHeld := hHeld'; clear hHeld')
        try simp only [Act.put, List.getElem_toArray, List.getElem_cons_succ, List.getElem_cons_zero, List.setIfInBounds_toArray, List.set_cons_zero, List.set_cons_succ]
        (refine wpAnyH_take (i := 10) (v := ?_) rfl (by kernel_rfl) (by kernel_rfl) (by kernel_rfl) (fun _ _ _ h => h) (Or.inl ⟨by rfl, ?_⟩) hHeld ?_; rotate_left; focus (intro w hSw; (try dsimp only at hSw); go_simp; (try with_reducible rfl)))
        try simp only [Act.put, List.getElem_toArray, List.getElem_cons_succ, List.getElem_cons_zero, List.setIfInBounds_toArray, List.set_cons_zero, List.set_cons_succ]
        (refine wpAnyH_take (i := 11) (v := ?_) rfl (by kernel_rfl) (by kernel_rfl) (by kernel_rfl) (fun _ _ _ h => h) (Or.inl ⟨by rfl, ?_⟩) hHeld ?_; rotate_left; focus (intro w hSw; (try dsimp only at hSw); go_simp; (try with_reducible rfl)))
        try simp only [Act.put, List.getElem_toArray, List.getElem_cons_succ, List.getElem_cons_zero, List.setIfInBounds_toArray, List.set_cons_zero, List.set_cons_succ]
        first | (refine wpAnyH_take (i := 12) rfl (by kernel_rfl) (by kernel_rfl) (by kernel_rfl) (fun _ _ _ h => h) (Or.inr ⟨by rfl, rfl⟩) hHeld ?_) | (refine wpAnyH_take (i := 12) (v := ?_) rfl (by kernel_rfl) (by kernel_rfl) (by kernel_rfl) (fun _ _ _ h => h) (Or.inl ⟨by rfl, ?_⟩) hHeld ?_; rotate_left; focus (intro w hSw; (try dsimp only at hSw); go_simp; (try with_reducible rfl)))
        try simp only [Act.put, List.getElem_toArray, List.getElem_cons_succ, List.getElem_cons_zero, List.setIfInBounds_toArray, List.set_cons_zero, List.set_cons_succ]
        first | (refine wpAnyH_take (i := 14) rfl (by kernel_rfl) (by kernel_rfl) (by kernel_rfl) (fun _ _ _ h => h) (Or.inr ⟨by rfl, rfl⟩) hHeld ?_) | (refine wpAnyH_take (i := 14) (v := ?_) rfl (by kernel_rfl) (by kernel_rfl) (by kernel_rfl) (fun _ _ _ h => h) (Or.inl ⟨by rfl, ?_⟩) hHeld ?_; rotate_left; focus (intro w hSw; (try dsimp only at hSw); go_simp; (try with_reducible rfl)))
        try simp only [Act.put, List.getElem_toArray, List.getElem_cons_succ, List.getElem_cons_zero, List.setIfInBounds_toArray, List.set_cons_zero, List.set_cons_succ]
        first | (refine wpAnyH_take (i := 13) rfl (by kernel_rfl) (by kernel_rfl) (by kernel_rfl) (fun _ _ _ h => h) (Or.inr ⟨by rfl, rfl⟩) hHeld ?_) | (refine wpAnyH_ready (rs := [13]) (by kernel_rfl) (by simp) ?_; refine AllReadyH.cons rfl (fun K hK => ?_) AllReadyH.nil; go_simp; (first | (go_at_call 15; (first | ((with_reducible refine (U1'.out _).mono ?_); rintro e w' ⟨A1, p1, rfl, r1, hb⟩) | ((with_reducible refine (U2.out _).mono ?_); rintro e w' ⟨A2, p2, rfl, r2, hb⟩; replace r1 := r1.keepB hb))) | (go_at_call 12; refine (i1.out A1 A2 p1 p2 _ r1 r2).mono ?_; rintro e w' ⟨rfl, hb⟩; clear r1 r2) | (go_at_call 7; (first | (with_reducible refine (M1.out _).mono ?_) | (with_reducible refine (M2.out _).mono ?_)); rintro e w' ⟨rfl, hb⟩) | (go_at_call 11; refine (lives4_any _).mono ?_; rintro e w' ⟨rfl, hb⟩)); (try go_wp2_with fail); refine hK.out _ _ ?_ (fun hHeld' => ?_); (focus (first | exact hkeep _ _ hb hHeld | exact hHeld)); clear hK K; replace hHeld := hHeld'; clear hHeld')
        try simp only [Act.put, List.getElem_toArray, List.getElem_cons_succ, List.getElem_cons_zero, List.setIfInBounds_toArray, List.set_cons_zero, List.set_cons_succ]
        first | (refine wpAnyH_take (i := 15) rfl (by kernel_rfl) (by kernel_rfl) (by kernel_rfl) (fun _ _ _ h => h) (Or.inr ⟨by rfl, rfl⟩) hHeld ?_) | (refine wpAnyH_ready (rs := [15]) (by kernel_rfl) (by simp) ?_; refine AllReadyH.cons rfl (fun K hK => ?_) AllReadyH.nil; go_simp; (first | (go_at_call 15; (first | ((with_reducible refine (U1'.out _).mono ?_); rintro e w' ⟨A1, p1, rfl, r1, hb⟩) | ((with_reducible refine (U2.out _).mono ?_); rintro e w' ⟨A2, p2, rfl, r2, hb⟩; replace r1 := r1.keepB hb))) | (go_at_call 12; refine (i1.out A1 A2 p1 p2 _ r1 r2).mono ?_; rintro e w' ⟨rfl, hb⟩; clear r1 r2) | (go_at_call 7; (first | (with_reducible refine (M1.out _).mono ?_) | (with_reducible refine (M2.out _).mono ?_)); rintro e w' ⟨rfl, hb⟩) | (go_at_call 11; refine (lives4_any _).mono ?_; rintro e w' ⟨rfl, hb⟩)); (try go_wp2_with fail); refine hK.out _ _ ?_ (fun hHeld' => ?_); (focus (first | exact hkeep _ _ hb hHeld | exact hHeld)); clear hK K; replace hHeld := hHeld'; clear hHeld')
        try simp only [Act.put, List.getElem_toArray, List.getElem_cons_succ, List.getElem_cons_zero, List.setIfInBounds_toArray, List.set_cons_zero, List.set_cons_succ]
        first | (refine wpAnyH_take (i := 16) rfl (by kernel_rfl) (by kernel_rfl) (by kernel_rfl) (fun _ _ _ h => h) (Or.inr ⟨by rfl, rfl⟩) hHeld ?_) | (refine wpAnyH_take (i := 16) (v := ?_) rfl (by kernel_rfl) (by kernel_rfl) (by kernel_rfl) (fun _ _ _ h => h) (Or.inl ⟨by rfl, ?_⟩) hHeld ?_; rotate_left; focus (intro w hSw; (try dsimp only at hSw); go_simp; (try with_reducible rfl)))
        try simp only [Act.put, List.getElem_toArray, List.getElem_cons_succ, List.getElem_cons_zero, List.setIfInBounds_toArray, List.set_cons_zero, List.set_cons_succ]
        (refine wpAnyH_take (i := 17) (v := ?_) rfl (by kernel_rfl) (by kernel_rfl) (by kernel_rfl) (fun _ _ _ h => h) (Or.inl ⟨by rfl, ?_⟩) hHeld ?_; rotate_left; focus (intro w hSw; (try dsimp only at hSw); go_simp; (try with_reducible rfl)))
        try simp only [Act.put, List.getElem_toArray, List.getElem_cons_succ, List.getElem_cons_zero, List.setIfInBounds_toArray, List.set_cons_zero, List.set_cons_succ]
        (refine wpAnyH_take (i := 18) (v := ?_) rfl (by kernel_rfl) (by kernel_rfl) (by kernel_rfl) (fun _ _ _ h => h) (Or.inl ⟨by rfl, ?_⟩) hHeld ?_; rotate_left; focus (intro w hSw; (try dsimp only at hSw); go_simp; (try with_reducible rfl)))
        try simp only [Act.put, List.getElem_toArray, List.getElem_cons_succ, List.getElem_cons_zero, List.setIfInBounds_toArray, List.set_cons_zero, List.set_cons_succ]
        first | (refine wpAnyH_take (i := 19) rfl (by kernel_rfl) (by kernel_rfl) (by kernel_rfl) (fun _ _ _ h => h) (Or.inr ⟨by rfl, rfl⟩) hHeld ?_) | (refine wpAnyH_ready (rs := [19]) (by kernel_rfl) (by simp) ?_; refine AllReadyH.cons rfl (fun K hK => ?_) AllReadyH.nil; go_simp; (first | (go_at_call 15; (first | ((with_reducible refine (U1'.out _).mono ?_); rintro e w' ⟨A1, p1, rfl, r1, hb⟩) | ((with_reducible refine (U2.out _).mono ?_); rintro e w' ⟨A2, p2, rfl, r2, hb⟩; replace r1 := r1.keepB hb))) | (go_at_call 12; refine (i1.out A1 A2 p1 p2 _ r1 r2).mono ?_; rintro e w' ⟨rfl, hb⟩; clear r1 r2) | (go_at_call 7; (first | (with_reducible refine (M1.out _).mono ?_) | (with_reducible refine (M2.out _).mono ?_)); rintro e w' ⟨rfl, hb⟩) | (go_at_call 11; refine (lives4_any _).mono ?_; rintro e w' ⟨rfl, hb⟩)); (try go_wp2_with fail); refine hK.out _ _ ?_ (fun hHeld' => ?_); (focus (first | exact hkeep _ _ hb hHeld | exact hHeld)); clear hK K; replace hHeld := hHeld'; clear hHeld')
        try simp only [Act.put, List.getElem_toArray, List.getElem_cons_succ, List.getElem_cons_zero, List.setIfInBounds_toArray, List.set_cons_zero, List.set_cons_succ]
        (refine wpAnyH_take (i := 20) (v := ?_) rfl (by kernel_rfl) (by kernel_rfl) (by kernel_rfl) (fun _ _ _ h => h) (Or.inl ⟨by rfl, ?_⟩) hHeld ?_; rotate_left; focus (intro w hSw; (try dsimp only at hSw); go_simp; (try with_reducible rfl)))
        try simp only [Act.put, List.getElem_toArray, List.getElem_cons_succ, List.getElem_cons_zero, List.setIfInBounds_toArray, List.set_cons_zero, List.set_cons_succ]
        (refine wpAnyH_take (i := 21) (v := ?_) rfl (by kernel_rfl) (by kernel_rfl) (by kernel_rfl) (fun _ _ _ h => h) (Or.inl ⟨by rfl, ?_⟩) hHeld ?_; rotate_left; focus (intro w hSw; (try dsimp only at hSw); go_simp; (try with_reducible rfl)))
        try simp only [Act.put, List.getElem_toArray, List.getElem_cons_succ, List.getElem_cons_zero, List.setIfInBounds_toArray, List.set_cons_zero, List.set_cons_succ]
        refine wpAnyH_done (by kernel_rfl) ?_ _
        refine NoPanic.normal ?_
        have hF := And.left (by assumption : Below a1 w w' ∧ Row w' a1 24 14 (ints c) ∧ Row w' a2 24 14 (ints x) ∧ w'.cell? ⟨a1, 0, none⟩ = some (.int .i64 (c 0)) ∧ w'.cell? ⟨a1, 1, none⟩ = some (.int .i64 (c 1)) ∧ w'.cell? ⟨a1, 2, none⟩ = some (.int .i64 (c 2)) ∧ w'.cell? ⟨a1, 3, none⟩ = some (.int .i64 (c 3)) ∧ w'.cell? ⟨a1, 4, none⟩ = some (.int .i64 (c 4)) ∧ w'.cell? ⟨a1, 5, none⟩ = some (.int .i64 (c 5)) ∧ w'.cell? ⟨a1, 6, none⟩ = some (.int .i64 (c 6)) ∧ w'.cell? ⟨a1, 7, none⟩ = some (.int .i64 (c 7)) ∧ w'.cell? ⟨a1, 8, none⟩ = some (.int .i64 (c 8)) ∧ w'.cell? ⟨a1, 9, none⟩ = some (.int .i64 (c 9)) ∧ w'.cell? ⟨a1, 10, none⟩ = some (.int .i64 (c 10)) ∧ w'.cell? ⟨a1, 11, none⟩ = some (.int .i64 (c 11)) ∧ w'.cell? ⟨a1, 12, none⟩ = some (.int .i64 (c 12)) ∧ w'.cell? ⟨a1, 13, none⟩ = some (.int .i64 (c 13)) ∧ w'.cell? ⟨a2, 0, none⟩ = some (.int .i64 (x 0)) ∧ w'.cell? ⟨a2, 1, none⟩ = some (.int .i64 (x 1)) ∧ w'.cell? ⟨a2, 2, none⟩ = some (.int .i64 (x 2)) ∧ w'.cell? ⟨a2, 3, none⟩ = some (.int .i64 (x 3)) ∧ w'.cell? ⟨a2, 4, none⟩ = some (.int .i64 (x 4)) ∧ w'.cell? ⟨a2, 5, none⟩ = some (.int .i64 (x 5)) ∧ w'.cell? ⟨a2, 6, none⟩ = some (.int .i64 (x 6)) ∧ w'.cell? ⟨a2, 7, none⟩ = some (.int .i64 (x 7)) ∧ w'.cell? ⟨a2, 8, none⟩ = some (.int .i64 (x 8)) ∧ w'.cell? ⟨a2, 9, none⟩ = some (.int .i64 (x 9)) ∧ w'.cell? ⟨a2, 10, none⟩ = some (.int .i64 (x 10)) ∧ w'.cell? ⟨a2, 11, none⟩ = some (.int .i64 (x 11)) ∧ w'.cell? ⟨a2, 12, none⟩ = some (.int .i64 (x 12)) ∧ w'.cell? ⟨a2, 13, none⟩ = some (.int .i64 (x 13)))
        clear hHeld H0
        go_wp2
        go_ret
        exact ⟨rfl, by rw [HZ.out]; exact hF⟩
end Go.Proofs.Ytahhfblgcaadnaa
