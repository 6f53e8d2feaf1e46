/- Statement ConfOrders of layer 4, walked. -/
import Derived.Test.YtahhfblgcaadnaaConfThreads
namespace Go.Proofs.Ytahhfblgcaadnaa
open Go.ChangeShapes Go.WideShapes Go.ChangeAt Go.RowKit

/-- Threads up to a level: those up to the one below, and those at it. -/
theorem thr_split (c : Nat → Int) (l : Int) (hl : 0 ≤ l ∨ ∀ i : Nat, i < 8 → (i : Int) < c 1 → 0 ≤ c (2 + i)) (k : Nat) (hk : k ≤ 8) (hk1 : (k : Int) ≤ c 1) : (thr c 0 l k).length = (thr c 0 (l - 1) k).length + (thr c l l k).length := by
  induction k with
  | zero => rfl
  | succ k ih =>
    rw [thr_succ, thr_succ, thr_succ, List.length_append, List.length_append, List.length_append, ih (by omega) (by omega)]
    have hb : 0 ≤ c (2 + k) ∨ 0 ≤ l := by
      rcases hl with h | h
      · exact .inr h
      · exact .inl (h k (by omega) (by omega))
    unfold withinB
    generalize c (2 + k) = x at *
    by_cases h1 : 0 ≤ x <;> by_cases h2 : x ≤ l <;> by_cases h3 : x ≤ l - 1 <;> by_cases h4 : l ≤ x <;> simp [h1, h2, h3, h4] <;> omega
theorem thrs_split (c : Nat → Int) (l : Int) : ((thrs c 0 l).length : Int) = ((thrs c 0 (l - 1)).length : Int) + ((thrs c l l).length : Int) := by
  unfold thrs
  by_cases hm : mayB c = true
  · rw [if_pos hm, if_pos hm, if_pos hm]
    obtain ⟨_, h1, h2, _⟩ := may_bounds hm
    rw [thr_split c l (.inr fun i hi hlt => ?_) (c 1).toNat (by omega) (by omega)]
    · omega
    · have := h2 i hi
      unfold okT at this
      rw [if_neg (by omega)] at this
      simp only [Bool.and_eq_true, decide_eq_true_eq] at this
      exact this.1
  · rw [if_neg hm, if_neg hm, if_neg hm]; rfl

/-- How many of the first k levels a thread writes at. -/
def wrN (c : Nat → Int) (t : Int) (k : Nat) : Int := if 0 ≤ lvl c t ∧ lvl c t < k then 1 else 0
theorem wrN_succ (c : Nat → Int) (t : Int) (k : Nat) : wrN c t (k + 1) = wrN c t k + if writesB c t k = true then 1 else 0 := by
  unfold wrN writesB
  generalize lvl c t = n
  by_cases h : (k : Int) = n
  · rw [if_pos (by omega), if_neg (by omega), if_pos (by simp; omega)]; rfl
  · have e : ¬ (decide (0 ≤ (k : Int)) && ((k : Int) == n)) = true := by simp; omega
    rw [if_neg e]
    by_cases h2 : 0 ≤ n ∧ n < k
    · rw [if_pos h2, if_pos (by omega)]; rfl
    · rw [if_neg h2, if_neg (by omega)]; rfl
theorem wrN_bound (c : Nat → Int) (t : Int) (k : Nat) : 0 ≤ wrN c t k ∧ wrN c t k ≤ 1 := by
  unfold wrN; split <;> omega
theorem wrN_four (c : Nat → Int) (t : Int) : (wrN c t 4 = 1 ∧ 0 ≤ lvl c t) ∨ (wrN c t 4 = 0 ∧ ¬ 0 ≤ lvl c t) := by
  unfold wrN
  rcases lvl_bounds c t with ⟨h, _⟩ | h
  · right; rw [if_neg (by omega)]; exact ⟨rfl, by omega⟩
  · left; rw [if_pos ⟨h.1, by omega⟩]; exact ⟨rfl, h.1⟩

def CutW (w : World) (a1 : Nat) (c : Nat → Int) (wx : World) : Prop := Below a1 w wx ∧ Row wx a1 24 14 (ints c)
set_option maxRecDepth 100000 in
set_option maxHeartbeats 8000000 in
theorem confOrders_walk (c : Nat → Int) (hc : Ok64 c) (t l : Int) (ht : -9223372036854775808 ≤ t ∧ t ≤ 9223372036854775807) (hl : -9223372036854775808 ≤ l ∧ l ≤ 9223372036854775807) (w : World) :
    Calls Try.prog 6 #[.agg (rowOf 14 (ints c)), .int .i64 t, .int .i64 l] w fun e w' => e = .returned (.bool true) ∧ Below w.heap.size w w' := by
  by_cases hfar : l < -1000 ∨ 1000 < l
  · by_cases h1 : l < -1000
    · go_enter Try.func6, Try.ntmps6
      go_wp2_with fail
      refine (lives4_any _).mono ?_; rintro e w' ⟨rfl, hb⟩
      go_wp2_with fail
      go_ret
      exact ⟨rfl, ((Below.refl _ _).alloc (Nat.le_refl _) _).trans (hb.mono (by simp))⟩
    · go_enter Try.func6, Try.ntmps6
      go_wp2_with fail
      refine (lives4_any _).mono ?_; rintro e w' ⟨rfl, hb⟩
      go_wp2_with fail
      go_ret
      exact ⟨rfl, ((Below.refl _ _).alloc (Nat.le_refl _) _).trans (hb.mono (by simp))⟩
  have hl1 : -1000 ≤ l := by omega
  have hl2 : l ≤ 1000 := by omega
  clear hfar
  have f14 := fold14 c
  have C1 := Lib.hid (cWrites_any c hc t l ht)
  have C2 := Lib.hid (cReads_any c hc t l ht)
  have C3 := Lib.hid (cReads_any c hc t (l + 1) ht)
  have U1 := Lib.hid (cUpTo_any c hc l)
  have U2 := Lib.hid (cUpTo_any c hc (l - 1))
  have U3 := Lib.hid (cAt_any c hc l)
  have HS := Lib.hid (thrs_split c l)
  have CW := Lib.hid (fun k : Int => cWrites_any c hc t k ht)
  have CL := Lib.hid (cLevel_any c hc t ht)
  have HW := Lib.hid (wrN_succ c t)
  have HB := Lib.hid (wrN_bound c t)
  have HF := Lib.hid (wrN_four c t)
  have n1 := thrs_len c 0 l
  have n2 := thrs_len c 0 (l - 1)
  have n3 := thrs_len c l l
  have H1 : Hid (writesB c t l = true → readsB c t l = true) := Lib.hid (fun h => by unfold writesB at h; unfold readsB withinB; simp at h ⊢; omega)
  have H2 : Hid (readsB c t (l + 1) = true → 0 ≤ l → readsB c t l = true) := Lib.hid (fun h h2 => by unfold readsB withinB at h ⊢; simp at h ⊢; omega)
  generalize readsB c t (l + 1) = q3 at *
  generalize readsB c t l = q2 at *
  generalize hq1 : writesB c t l = q1 at *
  clear hq1
  generalize thrs c 0 l = l1 at *
  generalize thrs c 0 (l - 1) = l2 at *
  generalize thrs c l l = l3 at *
  go_enter Try.func6, Try.ntmps6
  go_upto_region 1 with fail
  generalize hW : World.alloc _ _ = W
  have hr : Row W w.heap.size 24 14 (ints c) := by rw [← hW]; exact Row.new _ _ _ _ _ rfl
  have hB : Below w.heap.size w W := by rw [← hW]; exact (Below.refl _ _).alloc (Nat.le_refl _) _
  clear hW
  generalize hz : w.heap.size = a1 at *
  have HZ := Lib.hid hz; clear hz
  obtain ⟨u0, u1, u2, u3, u4, u5, u6, u7, u8, u9, u10, u11, u12, u13⟩ := conf_cells hr
  clear u0 u1 u2 u3 u4 u5 u6 u7 u8 u9 u10 u11 u12 u13
  have hk1 : ∀ w1 w2 : World, Below w1.heap.size w1 w2 → Below a1 w w1 → Below a1 w w2 := fun w1 w2 hb h0 => below_on h0 (Nat.le_of_eq HZ.out.symm) hb
  have hkeep : ∀ w1 w2 : World, Below w1.heap.size w1 w2 → (fun w' : World => Below a1 w w' ∧ Row w' a1 24 14 (ints c) ∧ w'.cell? ⟨a1, 0, none⟩ = some (.int .i64 (c 0)) ∧ w'.cell? ⟨a1, 1, none⟩ = some (.int .i64 (c 1)) ∧ w'.cell? ⟨a1, 2, none⟩ = some (.int .i64 (c 2)) ∧ w'.cell? ⟨a1, 3, none⟩ = some (.int .i64 (c 3)) ∧ w'.cell? ⟨a1, 4, none⟩ = some (.int .i64 (c 4)) ∧ w'.cell? ⟨a1, 5, none⟩ = some (.int .i64 (c 5)) ∧ w'.cell? ⟨a1, 6, none⟩ = some (.int .i64 (c 6)) ∧ w'.cell? ⟨a1, 7, none⟩ = some (.int .i64 (c 7)) ∧ w'.cell? ⟨a1, 8, none⟩ = some (.int .i64 (c 8)) ∧ w'.cell? ⟨a1, 9, none⟩ = some (.int .i64 (c 9)) ∧ w'.cell? ⟨a1, 10, none⟩ = some (.int .i64 (c 10)) ∧ w'.cell? ⟨a1, 11, none⟩ = some (.int .i64 (c 11)) ∧ w'.cell? ⟨a1, 12, none⟩ = some (.int .i64 (c 12)) ∧ w'.cell? ⟨a1, 13, none⟩ = some (.int .i64 (c 13))) w1 → (fun w' : World => Below a1 w w' ∧ Row w' a1 24 14 (ints c) ∧ w'.cell? ⟨a1, 0, none⟩ = some (.int .i64 (c 0)) ∧ w'.cell? ⟨a1, 1, none⟩ = some (.int .i64 (c 1)) ∧ w'.cell? ⟨a1, 2, none⟩ = some (.int .i64 (c 2)) ∧ w'.cell? ⟨a1, 3, none⟩ = some (.int .i64 (c 3)) ∧ w'.cell? ⟨a1, 4, none⟩ = some (.int .i64 (c 4)) ∧ w'.cell? ⟨a1, 5, none⟩ = some (.int .i64 (c 5)) ∧ w'.cell? ⟨a1, 6, none⟩ = some (.int .i64 (c 6)) ∧ w'.cell? ⟨a1, 7, none⟩ = some (.int .i64 (c 7)) ∧ w'.cell? ⟨a1, 8, none⟩ = some (.int .i64 (c 8)) ∧ w'.cell? ⟨a1, 9, none⟩ = some (.int .i64 (c 9)) ∧ w'.cell? ⟨a1, 10, none⟩ = some (.int .i64 (c 10)) ∧ w'.cell? ⟨a1, 11, none⟩ = some (.int .i64 (c 11)) ∧ w'.cell? ⟨a1, 12, none⟩ = some (.int .i64 (c 12)) ∧ w'.cell? ⟨a1, 13, none⟩ = some (.int .i64 (c 13))) w2 := by
    rintro w1 w2 hb ⟨h0, h4, _⟩
    exact conf_held (hk1 _ _ hb h0) (h4.keep hb)
  obtain ⟨v0, v1, v2, v3, v4, v5, v6, v7, v8, v9, v10, v11, v12, v13⟩ := conf_cells hr
  go_upto_region 3 with fail
  go_cut [44] (fun s44 wx => s44 = .bool false ∧ CutW w a1 c wx)
  case first =>
    by_cases h0 : 0 ≤ l
    · cases q1
      · cases q3
        · as_aux_lemma =>
          go_wp2_with fail
          refine (C1.out _).mono ?_; rintro e W' ⟨rfl, hb⟩
          replace hr := hr.keep hb
          replace hB := hk1 _ _ hb hB
          clear hb
          clear v0 v1 v2 v3 v4 v5 v6 v7 v8 v9 v10 v11 v12 v13
          obtain ⟨v0, v1, v2, v3, v4, v5, v6, v7, v8, v9, v10, v11, v12, v13⟩ := conf_cells hr
          go_wp2_with fail
          refine (C3.out _).mono ?_; rintro e W' ⟨rfl, hb⟩
          replace hr := hr.keep hb
          replace hB := hk1 _ _ hb hB
          clear hb
          clear v0 v1 v2 v3 v4 v5 v6 v7 v8 v9 v10 v11 v12 v13
          obtain ⟨v0, v1, v2, v3, v4, v5, v6, v7, v8, v9, v10, v11, v12, v13⟩ := conf_cells hr
          go_wp2_with fail
          go_meet
          exact ⟨rfl, hB, hr⟩
        · obtain rfl := H2.out rfl h0
          as_aux_lemma =>
            go_wp2_with fail
            refine (C1.out _).mono ?_; rintro e W' ⟨rfl, hb⟩
            replace hr := hr.keep hb
            replace hB := hk1 _ _ hb hB
            clear hb
            clear v0 v1 v2 v3 v4 v5 v6 v7 v8 v9 v10 v11 v12 v13
            obtain ⟨v0, v1, v2, v3, v4, v5, v6, v7, v8, v9, v10, v11, v12, v13⟩ := conf_cells hr
            go_wp2_with fail
            refine (C3.out _).mono ?_; rintro e W' ⟨rfl, hb⟩
            replace hr := hr.keep hb
            replace hB := hk1 _ _ hb hB
            clear hb
            clear v0 v1 v2 v3 v4 v5 v6 v7 v8 v9 v10 v11 v12 v13
            obtain ⟨v0, v1, v2, v3, v4, v5, v6, v7, v8, v9, v10, v11, v12, v13⟩ := conf_cells hr
            go_wp2_with fail
            refine (C2.out _).mono ?_; rintro e W' ⟨rfl, hb⟩
            replace hr := hr.keep hb
            replace hB := hk1 _ _ hb hB
            clear hb
            clear v0 v1 v2 v3 v4 v5 v6 v7 v8 v9 v10 v11 v12 v13
            obtain ⟨v0, v1, v2, v3, v4, v5, v6, v7, v8, v9, v10, v11, v12, v13⟩ := conf_cells hr
            go_wp2_with fail
            go_meet
            exact ⟨rfl, hB, hr⟩
      · obtain rfl := H1.out rfl
        cases q3
        · as_aux_lemma =>
          go_wp2_with fail
          refine (C1.out _).mono ?_; rintro e W' ⟨rfl, hb⟩
          replace hr := hr.keep hb
          replace hB := hk1 _ _ hb hB
          clear hb
          clear v0 v1 v2 v3 v4 v5 v6 v7 v8 v9 v10 v11 v12 v13
          obtain ⟨v0, v1, v2, v3, v4, v5, v6, v7, v8, v9, v10, v11, v12, v13⟩ := conf_cells hr
          go_wp2_with fail
          refine (C2.out _).mono ?_; rintro e W' ⟨rfl, hb⟩
          replace hr := hr.keep hb
          replace hB := hk1 _ _ hb hB
          clear hb
          clear v0 v1 v2 v3 v4 v5 v6 v7 v8 v9 v10 v11 v12 v13
          obtain ⟨v0, v1, v2, v3, v4, v5, v6, v7, v8, v9, v10, v11, v12, v13⟩ := conf_cells hr
          go_wp2_with fail
          refine (C3.out _).mono ?_; rintro e W' ⟨rfl, hb⟩
          replace hr := hr.keep hb
          replace hB := hk1 _ _ hb hB
          clear hb
          clear v0 v1 v2 v3 v4 v5 v6 v7 v8 v9 v10 v11 v12 v13
          obtain ⟨v0, v1, v2, v3, v4, v5, v6, v7, v8, v9, v10, v11, v12, v13⟩ := conf_cells hr
          go_wp2_with fail
          go_meet
          exact ⟨rfl, hB, hr⟩
        · as_aux_lemma =>
          go_wp2_with fail
          refine (C1.out _).mono ?_; rintro e W' ⟨rfl, hb⟩
          replace hr := hr.keep hb
          replace hB := hk1 _ _ hb hB
          clear hb
          clear v0 v1 v2 v3 v4 v5 v6 v7 v8 v9 v10 v11 v12 v13
          obtain ⟨v0, v1, v2, v3, v4, v5, v6, v7, v8, v9, v10, v11, v12, v13⟩ := conf_cells hr
          go_wp2_with fail
          refine (C2.out _).mono ?_; rintro e W' ⟨rfl, hb⟩
          replace hr := hr.keep hb
          replace hB := hk1 _ _ hb hB
          clear hb
          clear v0 v1 v2 v3 v4 v5 v6 v7 v8 v9 v10 v11 v12 v13
          obtain ⟨v0, v1, v2, v3, v4, v5, v6, v7, v8, v9, v10, v11, v12, v13⟩ := conf_cells hr
          go_wp2_with fail
          refine (C3.out _).mono ?_; rintro e W' ⟨rfl, hb⟩
          replace hr := hr.keep hb
          replace hB := hk1 _ _ hb hB
          clear hb
          clear v0 v1 v2 v3 v4 v5 v6 v7 v8 v9 v10 v11 v12 v13
          obtain ⟨v0, v1, v2, v3, v4, v5, v6, v7, v8, v9, v10, v11, v12, v13⟩ := conf_cells hr
          go_wp2_with fail
          refine (C2.out _).mono ?_; rintro e W' ⟨rfl, hb⟩
          replace hr := hr.keep hb
          replace hB := hk1 _ _ hb hB
          clear hb
          clear v0 v1 v2 v3 v4 v5 v6 v7 v8 v9 v10 v11 v12 v13
          obtain ⟨v0, v1, v2, v3, v4, v5, v6, v7, v8, v9, v10, v11, v12, v13⟩ := conf_cells hr
          go_wp2_with fail
          go_meet
          exact ⟨rfl, hB, hr⟩
    · cases q1
      · cases q3
        · as_aux_lemma =>
          go_wp2_with fail
          refine (C1.out _).mono ?_; rintro e W' ⟨rfl, hb⟩
          replace hr := hr.keep hb
          replace hB := hk1 _ _ hb hB
          clear hb
          clear v0 v1 v2 v3 v4 v5 v6 v7 v8 v9 v10 v11 v12 v13
          obtain ⟨v0, v1, v2, v3, v4, v5, v6, v7, v8, v9, v10, v11, v12, v13⟩ := conf_cells hr
          go_wp2_with fail
          refine (C3.out _).mono ?_; rintro e W' ⟨rfl, hb⟩
          replace hr := hr.keep hb
          replace hB := hk1 _ _ hb hB
          clear hb
          clear v0 v1 v2 v3 v4 v5 v6 v7 v8 v9 v10 v11 v12 v13
          obtain ⟨v0, v1, v2, v3, v4, v5, v6, v7, v8, v9, v10, v11, v12, v13⟩ := conf_cells hr
          go_wp2_with fail
          go_meet
          exact ⟨rfl, hB, hr⟩
        · as_aux_lemma =>
          go_wp2_with fail
          refine (C1.out _).mono ?_; rintro e W' ⟨rfl, hb⟩
          replace hr := hr.keep hb
          replace hB := hk1 _ _ hb hB
          clear hb
          clear v0 v1 v2 v3 v4 v5 v6 v7 v8 v9 v10 v11 v12 v13
          obtain ⟨v0, v1, v2, v3, v4, v5, v6, v7, v8, v9, v10, v11, v12, v13⟩ := conf_cells hr
          go_wp2_with fail
          refine (C3.out _).mono ?_; rintro e W' ⟨rfl, hb⟩
          replace hr := hr.keep hb
          replace hB := hk1 _ _ hb hB
          clear hb
          clear v0 v1 v2 v3 v4 v5 v6 v7 v8 v9 v10 v11 v12 v13
          obtain ⟨v0, v1, v2, v3, v4, v5, v6, v7, v8, v9, v10, v11, v12, v13⟩ := conf_cells hr
          go_wp2_with fail
          go_meet
          exact ⟨rfl, hB, hr⟩
      · obtain rfl := H1.out rfl
        cases q3
        · as_aux_lemma =>
          go_wp2_with fail
          refine (C1.out _).mono ?_; rintro e W' ⟨rfl, hb⟩
          replace hr := hr.keep hb
          replace hB := hk1 _ _ hb hB
          clear hb
          clear v0 v1 v2 v3 v4 v5 v6 v7 v8 v9 v10 v11 v12 v13
          obtain ⟨v0, v1, v2, v3, v4, v5, v6, v7, v8, v9, v10, v11, v12, v13⟩ := conf_cells hr
          go_wp2_with fail
          refine (C2.out _).mono ?_; rintro e W' ⟨rfl, hb⟩
          replace hr := hr.keep hb
          replace hB := hk1 _ _ hb hB
          clear hb
          clear v0 v1 v2 v3 v4 v5 v6 v7 v8 v9 v10 v11 v12 v13
          obtain ⟨v0, v1, v2, v3, v4, v5, v6, v7, v8, v9, v10, v11, v12, v13⟩ := conf_cells hr
          go_wp2_with fail
          refine (C3.out _).mono ?_; rintro e W' ⟨rfl, hb⟩
          replace hr := hr.keep hb
          replace hB := hk1 _ _ hb hB
          clear hb
          clear v0 v1 v2 v3 v4 v5 v6 v7 v8 v9 v10 v11 v12 v13
          obtain ⟨v0, v1, v2, v3, v4, v5, v6, v7, v8, v9, v10, v11, v12, v13⟩ := conf_cells hr
          go_wp2_with fail
          go_meet
          exact ⟨rfl, hB, hr⟩
        · as_aux_lemma =>
          go_wp2_with fail
          refine (C1.out _).mono ?_; rintro e W' ⟨rfl, hb⟩
          replace hr := hr.keep hb
          replace hB := hk1 _ _ hb hB
          clear hb
          clear v0 v1 v2 v3 v4 v5 v6 v7 v8 v9 v10 v11 v12 v13
          obtain ⟨v0, v1, v2, v3, v4, v5, v6, v7, v8, v9, v10, v11, v12, v13⟩ := conf_cells hr
          go_wp2_with fail
          refine (C2.out _).mono ?_; rintro e W' ⟨rfl, hb⟩
          replace hr := hr.keep hb
          replace hB := hk1 _ _ hb hB
          clear hb
          clear v0 v1 v2 v3 v4 v5 v6 v7 v8 v9 v10 v11 v12 v13
          obtain ⟨v0, v1, v2, v3, v4, v5, v6, v7, v8, v9, v10, v11, v12, v13⟩ := conf_cells hr
          go_wp2_with fail
          refine (C3.out _).mono ?_; rintro e W' ⟨rfl, hb⟩
          replace hr := hr.keep hb
          replace hB := hk1 _ _ hb hB
          clear hb
          clear v0 v1 v2 v3 v4 v5 v6 v7 v8 v9 v10 v11 v12 v13
          obtain ⟨v0, v1, v2, v3, v4, v5, v6, v7, v8, v9, v10, v11, v12, v13⟩ := conf_cells hr
          go_wp2_with fail
          go_meet
          exact ⟨rfl, hB, hr⟩
  case rest =>
    obtain ⟨rfl, hB', hr'⟩ := hcut
    clear v0 v1 v2 v3 v4 v5 v6 v7 v8 v9 v10 v11 v12 v13
    clear hr hB C1 C2 C3 H1 H2
    have hw1 : IntKind.i64.wrap (l - 1) = l - 1 := IntWalk.i64_in _ (by omega)
    have hw2 : IntKind.i64.wrap ((l2.length : Int) + (l3.length : Int)) = (l2.length : Int) + (l3.length : Int) := IntWalk.i64_in _ (by omega)
    have hne : ((l1.length : Int) != (l2.length : Int) + (l3.length : Int)) = false := by rw [HS.out]; simp
    have H0 := Lib.hid (conf_held hB'.drew hr'.drew)
    clear hB' hr' HS
    go_upto_region 5 with fail
    refine wp_region_noPanic ?_
    refine wp_region_held_drew (S := fun w' => Below a1 w w' ∧ Row w' a1 24 14 (ints c) ∧ w'.cell? ⟨a1, 0, none⟩ = some (.int .i64 (c 0)) ∧ w'.cell? ⟨a1, 1, none⟩ = some (.int .i64 (c 1)) ∧ w'.cell? ⟨a1, 2, none⟩ = some (.int .i64 (c 2)) ∧ w'.cell? ⟨a1, 3, none⟩ = some (.int .i64 (c 3)) ∧ w'.cell? ⟨a1, 4, none⟩ = some (.int .i64 (c 4)) ∧ w'.cell? ⟨a1, 5, none⟩ = some (.int .i64 (c 5)) ∧ w'.cell? ⟨a1, 6, none⟩ = some (.int .i64 (c 6)) ∧ w'.cell? ⟨a1, 7, none⟩ = some (.int .i64 (c 7)) ∧ w'.cell? ⟨a1, 8, none⟩ = some (.int .i64 (c 8)) ∧ w'.cell? ⟨a1, 9, none⟩ = some (.int .i64 (c 9)) ∧ w'.cell? ⟨a1, 10, none⟩ = some (.int .i64 (c 10)) ∧ w'.cell? ⟨a1, 11, none⟩ = some (.int .i64 (c 11)) ∧ w'.cell? ⟨a1, 12, none⟩ = some (.int .i64 (c 12)) ∧ w'.cell? ⟨a1, 13, none⟩ = some (.int .i64 (c 13))) (by kernel_rfl) (H0.out) (fun hHeld => ?_)
    (refine wpAnyH_take (i := 0) (v := ?_) rfl (by kernel_rfl) (by kernel_rfl) (by kernel_rfl) (fun _ _ _ h => h) (Or.inl ⟨by rfl, ?_⟩) hHeld ?_; rotate_left; focus (intro w hSw; (try dsimp only at hSw); go_simp; (try with_reducible rfl)))
    try simp only [Act.put, List.setIfInBounds_toArray, List.set_cons_zero, List.set_cons_succ]
    (refine wpAnyH_take (i := 1) (v := ?_) rfl (by kernel_rfl) (by kernel_rfl) (by kernel_rfl) (fun _ _ _ h => h) (Or.inl ⟨by rfl, ?_⟩) hHeld ?_; rotate_left; focus (intro w hSw; (try dsimp only at hSw); go_simp; (try with_reducible rfl)))
    try simp only [Act.put, List.setIfInBounds_toArray, List.set_cons_zero, List.set_cons_succ]
    (refine wpAnyH_take (i := 4) (v := ?_) rfl (by kernel_rfl) (by kernel_rfl) (by kernel_rfl) (fun _ _ _ h => h) (Or.inl ⟨by rfl, ?_⟩) hHeld ?_; rotate_left; focus (intro w hSw; (try dsimp only at hSw); go_simp; (try with_reducible rfl)))
    try simp only [Act.put, List.setIfInBounds_toArray, List.set_cons_zero, List.set_cons_succ]
    (refine wpAnyH_take (i := 5) (v := ?_) rfl (by kernel_rfl) (by kernel_rfl) (by kernel_rfl) (fun _ _ _ h => h) (Or.inl ⟨by rfl, ?_⟩) hHeld ?_; rotate_left; focus (intro w hSw; (try dsimp only at hSw); go_simp; (try with_reducible rfl)))
    try simp only [Act.put, List.setIfInBounds_toArray, List.set_cons_zero, List.set_cons_succ]
    (refine wpAnyH_take (i := 6) (v := ?_) rfl (by kernel_rfl) (by kernel_rfl) (by kernel_rfl) (fun _ _ _ h => h) (Or.inl ⟨by rfl, ?_⟩) hHeld ?_; rotate_left; focus (intro w hSw; (try dsimp only at hSw); go_simp; (try with_reducible rfl)))
    try simp only [Act.put, List.setIfInBounds_toArray, List.set_cons_zero, List.set_cons_succ]
    (refine wpAnyH_take (i := 9) (v := ?_) rfl (by kernel_rfl) (by kernel_rfl) (by kernel_rfl) (fun _ _ _ h => h) (Or.inl ⟨by rfl, ?_⟩) hHeld ?_; rotate_left; focus (intro w hSw; (try dsimp only at hSw); go_simp; (try with_reducible rfl)))
    try simp only [Act.put, List.setIfInBounds_toArray, List.set_cons_zero, List.set_cons_succ]
    (refine wpAnyH_take (i := 10) (v := ?_) rfl (by kernel_rfl) (by kernel_rfl) (by kernel_rfl) (fun _ _ _ h => h) (Or.inl ⟨by rfl, ?_⟩) hHeld ?_; rotate_left; focus (intro w hSw; (try dsimp only at hSw); go_simp; (try with_reducible rfl)))
    try simp only [Act.put, List.setIfInBounds_toArray, List.set_cons_zero, List.set_cons_succ]
    (refine wpAnyH_ready (rs := [2]) (by kernel_rfl) (by simp) ?_; refine AllReadyH.cons rfl (fun K hK => ?_) AllReadyH.nil; go_simp; (first | (go_at_call 15; (first | (with_reducible refine (U1.out _).mono ?_) | (with_reducible refine (U2.out _).mono ?_)); rintro e w' ⟨A, p, rfl, -, hb⟩) | (go_at_call 13; refine (U3.out _).mono ?_; rintro e w' ⟨A, p, rfl, -, hb⟩)); (try go_wp2_with fail); refine hK.out _ _ ?_ (fun hHeld' => ?_); (focus (exact hkeep _ _ hb hHeld)); clear hK K; replace hHeld := hHeld'; clear hHeld')
    try simp only [Act.put, List.setIfInBounds_toArray, List.set_cons_zero, List.set_cons_succ]
    (refine wpAnyH_take (i := 3) (v := ?_) rfl (by kernel_rfl) (by kernel_rfl) (by kernel_rfl) (fun _ _ _ h => h) (Or.inl ⟨by rfl, ?_⟩) hHeld ?_; rotate_left; focus (intro w hSw; (try dsimp only at hSw); go_simp; (try with_reducible rfl)))
    try simp only [Act.put, List.setIfInBounds_toArray, List.set_cons_zero, List.set_cons_succ]
    (refine wpAnyH_ready (rs := [7]) (by kernel_rfl) (by simp) ?_; refine AllReadyH.cons rfl (fun K hK => ?_) AllReadyH.nil; go_simp; (first | (go_at_call 15; (first | (with_reducible refine (U1.out _).mono ?_) | (with_reducible refine (U2.out _).mono ?_)); rintro e w' ⟨A, p, rfl, -, hb⟩) | (go_at_call 13; refine (U3.out _).mono ?_; rintro e w' ⟨A, p, rfl, -, hb⟩)); (try go_wp2_with fail); refine hK.out _ _ ?_ (fun hHeld' => ?_); (focus (exact hkeep _ _ hb hHeld)); clear hK K; replace hHeld := hHeld'; clear hHeld')
    try simp only [Act.put, List.setIfInBounds_toArray, List.set_cons_zero, List.set_cons_succ]
    (refine wpAnyH_take (i := 8) (v := ?_) rfl (by kernel_rfl) (by kernel_rfl) (by kernel_rfl) (fun _ _ _ h => h) (Or.inl ⟨by rfl, ?_⟩) hHeld ?_; rotate_left; focus (intro w hSw; (try dsimp only at hSw); go_simp; (try with_reducible rfl)))
    try simp only [Act.put, List.setIfInBounds_toArray, List.set_cons_zero, List.set_cons_succ]
    (refine wpAnyH_ready (rs := [11]) (by kernel_rfl) (by simp) ?_; refine AllReadyH.cons rfl (fun K hK => ?_) AllReadyH.nil; go_simp; (first | (go_at_call 15; (first | (with_reducible refine (U1.out _).mono ?_) | (with_reducible refine (U2.out _).mono ?_)); rintro e w' ⟨A, p, rfl, -, hb⟩) | (go_at_call 13; refine (U3.out _).mono ?_; rintro e w' ⟨A, p, rfl, -, hb⟩)); (try go_wp2_with fail); refine hK.out _ _ ?_ (fun hHeld' => ?_); (focus (exact hkeep _ _ hb hHeld)); clear hK K; replace hHeld := hHeld'; clear hHeld')
    try simp only [Act.put, List.setIfInBounds_toArray, List.set_cons_zero, List.set_cons_succ]
    (refine wpAnyH_take (i := 12) (v := ?_) rfl (by kernel_rfl) (by kernel_rfl) (by kernel_rfl) (fun _ _ _ h => h) (Or.inl ⟨by rfl, ?_⟩) hHeld ?_; rotate_left; focus (intro w hSw; (try dsimp only at hSw); go_simp; (try with_reducible rfl)))
    try simp only [Act.put, List.setIfInBounds_toArray, List.set_cons_zero, List.set_cons_succ]
    (refine wpAnyH_take (i := 13) (v := ?_) rfl (by kernel_rfl) (by kernel_rfl) (by kernel_rfl) (fun _ _ _ h => h) (Or.inl ⟨by rfl, ?_⟩) hHeld ?_; rotate_left; focus (intro w hSw; (try dsimp only at hSw); go_simp; (try with_reducible rfl)))
    try simp only [Act.put, List.setIfInBounds_toArray, List.set_cons_zero, List.set_cons_succ]
    (refine wpAnyH_take (i := 14) (v := ?_) rfl (by kernel_rfl) (by kernel_rfl) (by kernel_rfl) (fun _ _ _ h => h) (Or.inl ⟨by rfl, ?_⟩) hHeld ?_; rotate_left; focus (intro w hSw; (try dsimp only at hSw); go_simp; (try with_reducible rfl)))
    try simp only [Act.put, List.setIfInBounds_toArray, List.set_cons_zero, List.set_cons_succ]
    refine wpAnyH_done (by kernel_rfl) ?_ _
    refine NoPanic.normal ?_
    have hF := And.left (by assumption : Below a1 w w' ∧ Row w' a1 24 14 (ints c) ∧ w'.cell? ⟨a1, 0, none⟩ = some (.int .i64 (c 0)) ∧ w'.cell? ⟨a1, 1, none⟩ = some (.int .i64 (c 1)) ∧ w'.cell? ⟨a1, 2, none⟩ = some (.int .i64 (c 2)) ∧ w'.cell? ⟨a1, 3, none⟩ = some (.int .i64 (c 3)) ∧ w'.cell? ⟨a1, 4, none⟩ = some (.int .i64 (c 4)) ∧ w'.cell? ⟨a1, 5, none⟩ = some (.int .i64 (c 5)) ∧ w'.cell? ⟨a1, 6, none⟩ = some (.int .i64 (c 6)) ∧ w'.cell? ⟨a1, 7, none⟩ = some (.int .i64 (c 7)) ∧ w'.cell? ⟨a1, 8, none⟩ = some (.int .i64 (c 8)) ∧ w'.cell? ⟨a1, 9, none⟩ = some (.int .i64 (c 9)) ∧ w'.cell? ⟨a1, 10, none⟩ = some (.int .i64 (c 10)) ∧ w'.cell? ⟨a1, 11, none⟩ = some (.int .i64 (c 11)) ∧ w'.cell? ⟨a1, 12, none⟩ = some (.int .i64 (c 12)) ∧ w'.cell? ⟨a1, 13, none⟩ = some (.int .i64 (c 13)))
    have hR := And.left (And.right (by assumption : Below a1 w w' ∧ Row w' a1 24 14 (ints c) ∧ w'.cell? ⟨a1, 0, none⟩ = some (.int .i64 (c 0)) ∧ w'.cell? ⟨a1, 1, none⟩ = some (.int .i64 (c 1)) ∧ w'.cell? ⟨a1, 2, none⟩ = some (.int .i64 (c 2)) ∧ w'.cell? ⟨a1, 3, none⟩ = some (.int .i64 (c 3)) ∧ w'.cell? ⟨a1, 4, none⟩ = some (.int .i64 (c 4)) ∧ w'.cell? ⟨a1, 5, none⟩ = some (.int .i64 (c 5)) ∧ w'.cell? ⟨a1, 6, none⟩ = some (.int .i64 (c 6)) ∧ w'.cell? ⟨a1, 7, none⟩ = some (.int .i64 (c 7)) ∧ w'.cell? ⟨a1, 8, none⟩ = some (.int .i64 (c 8)) ∧ w'.cell? ⟨a1, 9, none⟩ = some (.int .i64 (c 9)) ∧ w'.cell? ⟨a1, 10, none⟩ = some (.int .i64 (c 10)) ∧ w'.cell? ⟨a1, 11, none⟩ = some (.int .i64 (c 11)) ∧ w'.cell? ⟨a1, 12, none⟩ = some (.int .i64 (c 12)) ∧ w'.cell? ⟨a1, 13, none⟩ = some (.int .i64 (c 13))))
    clear hHeld H0 hw1 hw2 hne U1 U2 U3 hkeep
    go_wp2_with fail
    go_loopw [7, 8] (fun n i wr => ∃ k : Nat, i = .int .i64 k ∧ k ≤ 4 ∧ n = .int .i64 (wrN c t k) ∧ CutW w a1 c wr) (fun _ i _ => 4 - (intOf i).toNat)
    case atStart => exact ⟨0, rfl, by omega, by unfold wrN; rw [if_neg (by omega)], hF, hR⟩
    case round =>
      obtain ⟨k, rfl, hk, rfl, hB, hr⟩ := hrel
      clear hF hR
      obtain ⟨v0, v1, v2, v3, v4, v5, v6, v7, v8, v9, v10, v11, v12, v13⟩ := conf_cells hr
      have hb4 := HB.out k
      by_cases hlt : k < 4
      · have hs := HW.out k
        have cw := Lib.hid (CW.out k)
        generalize writesB c t k = b at *
        generalize wrN c t k = n at *
        cases b
        · rw [if_neg (by simp), Int.add_zero] at hs
          have hS := Lib.hid hs; clear hs HW HF HB CW CL
          go_wp2_with fail
          refine (cw.out _).mono ?_; rintro e W' ⟨rfl, hb⟩
          replace hr := hr.keep hb
          replace hB := hk1 _ _ hb hB
          clear hb
          clear v0 v1 v2 v3 v4 v5 v6 v7 v8 v9 v10 v11 v12 v13
          obtain ⟨v0, v1, v2, v3, v4, v5, v6, v7, v8, v9, v10, v11, v12, v13⟩ := conf_cells hr
          clear v0 v1 v2 v3 v4 v5 v6 v7 v8 v9 v10 v11 v12 v13
          go_wp2_with fail
          go_roundw
          case rel => exact ⟨k + 1, by go_num, by omega, by rw [hS.out], hB, hr⟩
          case measure => simp [intOf]; omega
        · rw [if_pos rfl] at hs
          have hS := Lib.hid hs; clear hs HW HF HB CW CL
          go_wp2_with fail
          refine (cw.out _).mono ?_; rintro e W' ⟨rfl, hb⟩
          replace hr := hr.keep hb
          replace hB := hk1 _ _ hb hB
          clear hb
          clear v0 v1 v2 v3 v4 v5 v6 v7 v8 v9 v10 v11 v12 v13
          obtain ⟨v0, v1, v2, v3, v4, v5, v6, v7, v8, v9, v10, v11, v12, v13⟩ := conf_cells hr
          clear v0 v1 v2 v3 v4 v5 v6 v7 v8 v9 v10 v11 v12 v13
          go_wp2_with fail
          go_roundw
          case rel => exact ⟨k + 1, by go_num, by omega, by rw [hS.out], hB, hr⟩
          case measure => simp [intOf]; omega
      · obtain rfl : k = 4 := by omega
        have hf := HF.out
        clear hb4 HW HB CW HF
        generalize wrN c t 4 = n at *
        generalize lvl c t = v at *
        rcases hf with ⟨rfl, h2⟩ | ⟨rfl, h2⟩
        · as_aux_lemma =>
          go_wp2_with fail
          refine (CL.out _).mono ?_; rintro e W' ⟨rfl, hb⟩
          replace hr := hr.keep hb
          replace hB := hk1 _ _ hb hB
          clear hb
          clear v0 v1 v2 v3 v4 v5 v6 v7 v8 v9 v10 v11 v12 v13
          obtain ⟨v0, v1, v2, v3, v4, v5, v6, v7, v8, v9, v10, v11, v12, v13⟩ := conf_cells hr
          clear v0 v1 v2 v3 v4 v5 v6 v7 v8 v9 v10 v11 v12 v13
          clear CL
          go_wp2_with fail
          refine (lives4_any _).mono ?_; rintro e W4 ⟨rfl, hb⟩
          have hB2 := hk1 _ _ hb hB
          clear hb
          go_wp2_with fail
          go_ret
          exact ⟨by first | rfl | (refine retB ?_; simp; omega), by rw [HZ.out]; exact hB2⟩
        · as_aux_lemma =>
          go_wp2_with fail
          refine (CL.out _).mono ?_; rintro e W' ⟨rfl, hb⟩
          replace hr := hr.keep hb
          replace hB := hk1 _ _ hb hB
          clear hb
          clear v0 v1 v2 v3 v4 v5 v6 v7 v8 v9 v10 v11 v12 v13
          obtain ⟨v0, v1, v2, v3, v4, v5, v6, v7, v8, v9, v10, v11, v12, v13⟩ := conf_cells hr
          clear v0 v1 v2 v3 v4 v5 v6 v7 v8 v9 v10 v11 v12 v13
          clear CL
          go_wp2_with fail
          refine (lives4_any _).mono ?_; rintro e W4 ⟨rfl, hb⟩
          have hB2 := hk1 _ _ hb hB
          clear hb
          go_wp2_with fail
          go_ret
          exact ⟨by first | rfl | (refine retB ?_; simp; omega), by rw [HZ.out]; exact hB2⟩
end Go.Proofs.Ytahhfblgcaadnaa
