/- What plan.New answers: a plan, as 55 numbers in memory, or none. -/
import Derived.Test.YtncemjpfdblecaaPlanDo
import Derived.Test.YtncemjpfdblecaaConfMay
import Derived.Test.YtncemjpfdblecaaRef4
namespace Go.Proofs.Ytncemjpfdblecaa
open Go.ChangeShapes Go.WideShapes Go.ChangeAt Go.RowKit

theorem fold4p (x : Nat → Int) : #[Value.int .i64 (x 0), .int .i64 (x 1), .int .i64 (x 2), .int .i64 (x 3)] = rowOf 4 (ints x) := rfl
theorem fold55 (c : Nat → Int) : #[Value.int .i64 (c 0), .int .i64 (c 1), .int .i64 (c 2), .int .i64 (c 3), .int .i64 (c 4), .int .i64 (c 5), .int .i64 (c 6), .int .i64 (c 7), .int .i64 (c 8), .int .i64 (c 9), .int .i64 (c 10), .int .i64 (c 11), .int .i64 (c 12), .int .i64 (c 13),
    .int .i64 0, .int .i64 0, .int .i64 1, .int .i64 1, .int .i64 0, .int .i64 0, .int .i64 1, .int .i64 1, .int .i64 0, .int .i64 0, .int .i64 1, .int .i64 1, .int .i64 0, .int .i64 0, .int .i64 1, .int .i64 1,
    .int .i64 0, .int .i64 0, .int .i64 4, .int .i64 1, .int .i64 0, .int .i64 0, .int .i64 2, .int .i64 1, .int .i64 0, .int .i64 0, .int .i64 8, .int .i64 1, .int .i64 0, .int .i64 0, .int .i64 (c 11), .int .i64 1,
    .int .i64 0, .int .i64 1, .int .i64 (c 10), .int .i64 1, .int .i64 0, .int .i64 1, .int .i64 (c 10), .int .i64 5, .int .i64 0] = rowOf 55 (ints (planT c 0)) := by rfl

set_option maxRecDepth 100000 in
set_option maxHeartbeats 1000000 in
theorem pNew_no (c : Nat → Int) (hc : Ok64 c) (hm : mayB c = false) (w : World) : Calls Try.prog 10 #[.agg (rowOf 14 (ints c))] w fun e w' => e = .returned (.tuple #[.pointer none, .int .i64 1]) ∧ Below w.heap.size w w' := by
  have f14 := fold14 c
  have cM := cMay_any c hc
  rw [hm] at cM
  have CM := Lib.hid cM; clear cM
  go_enter Try.func10, Try.ntmps10
  go_upto_region 1 with fail
  generalize hW : World.alloc _ _ = W
  have hr : Row W w.heap.size 24 14 (ints c) := by rw [← hW]; exact Row.new _ _ _ _ _ rfl
  have hB : Below w.heap.size w W := by rw [← hW]; exact (Below.refl _ _).alloc (Nat.le_refl _) _
  clear hW
  generalize hz : w.heap.size = a1 at *
  have HZ := Lib.hid hz; clear hz
  obtain ⟨u0, u1, u2, u3, u4, u5, u6, u7, u8, u9, u10, u11, u12, u13⟩ := conf_cells hr
  clear hr
  go_wp2_with fail
  refine (CM.out _).mono ?_; rintro e w1 ⟨rfl, hb⟩
  clear u0 u1 u2 u3 u4 u5 u6 u7 u8 u9 u10 u11 u12 u13 CM f14
  have hB1 := below_on hB (Nat.le_of_eq HZ.out.symm) hb
  clear hb hB
  go_wp2_with fail
  go_ret2
  exact ⟨rfl, by rw [HZ.out]; exact hB1⟩

theorem planT_size (c : Nat → Int) (k : Nat) : planT c k 54 = atK c k := rfl
theorem planT_part (c : Nat → Int) (k i j : Nat) (hi : i < 10) (hj : j < 4) : planT c k (14 + i * 4 + j) = partN c (decide (i < k)) i j := by
  unfold planT
  rw [if_neg (by omega), if_pos (by omega), show (14 + i * 4 + j - 14) / 4 = i by omega, show (14 + i * 4 + j - 14) % 4 = j by omega]
theorem planT_new (c : Nat → Int) (k : Nat) (hk : k < 10) : planT c k (14 + k * 4) = 0 := by
  rw [show 14 + k * 4 = 14 + k * 4 + 0 from rfl, planT_part c k k 0 hk (by omega)]
  unfold partN
  rw [if_pos rfl, if_neg (by simp)]
theorem atK_bounds (c : Nat → Int) (k : Nat) (h10 : 2 ≤ c 10 ∧ c 10 ≤ 60) (h11 : 1 ≤ c 11 ∧ c 11 ≤ 40) : 0 ≤ atK c k ∧ atK c k ≤ 418 := by
  unfold atK
  repeat' split
  all_goals omega
theorem countK_bounds (c : Nat → Int) (k : Nat) (h10 : 2 ≤ c 10 ∧ c 10 ≤ 60) (h11 : 1 ≤ c 11 ∧ c 11 ≤ 40) : 0 ≤ countK c k ∧ countK c k ≤ 60 := by
  unfold countK
  repeat' split
  all_goals omega
theorem eachK_two (k : Nat) : eachK k = 1 ∨ eachK k = 5 := by
  unfold eachK
  split
  · exact Or.inr rfl
  · exact Or.inl rfl
theorem countK_each (c : Nat → Int) (k : Nat) (h10 : 2 ≤ c 10 ∧ c 10 ≤ 60) (h11 : 1 ≤ c 11 ∧ c 11 ≤ 40) : 0 ≤ countK c k * eachK k ∧ countK c k * eachK k ≤ 300 := by
  have h := countK_bounds c k h10 h11
  rcases eachK_two k with e | e <;> rw [e] <;> omega
/-- Where it begins is laid, and behind it how many words there are so far. -/
theorem planT_step (c : Nat → Int) (k : Nat) (hk : k < 10) (i : Nat) (hi : i < 55) :
    (if i = 54 then Value.int .i64 (atK c (k + 1)) else if i = 14 + k * 4 then .int .i64 (atK c k) else ints (planT c k) i) = ints (planT c (k + 1)) i := by
  unfold ints
  by_cases e : i = 54
  · subst e; rw [if_pos rfl]; rfl
  rw [if_neg e]
  by_cases e2 : i = 14 + k * 4
  · subst e2
    rw [if_pos rfl, show 14 + k * 4 = 14 + k * 4 + 0 from rfl, planT_part c (k + 1) k 0 hk (by omega)]
    unfold partN
    rw [if_pos rfl, if_pos (by simp)]
  rw [if_neg e2]
  unfold planT
  by_cases h1 : i < 14
  · rw [if_pos h1, if_pos h1]
  rw [if_neg h1, if_neg h1, if_pos (by omega), if_pos (by omega)]
  congr 1
  unfold partN
  by_cases h3 : (i - 14) % 4 = 0
  · rw [if_pos h3, if_pos h3]
    by_cases h4 : (i - 14) / 4 < k
    · rw [decide_eq_true h4, decide_eq_true (show (i - 14) / 4 < k + 1 by omega)]
    · rw [decide_eq_false h4, decide_eq_false (show ¬ (i - 14) / 4 < k + 1 by omega)]
  · rw [if_neg h3, if_neg h3]

/-- A plan of which k kinds have been laid lies at g. -/
def NewR (a1 : Nat) (w : World) (c : Nat → Int) (g k : Nat) (wr : World) : Prop := Below a1 w wr ∧ Row wr g 49 55 (ints (planT c k)) ∧ a1 ≤ g
set_option maxRecDepth 100000 in
set_option maxHeartbeats 4000000 in
theorem pNew_row (c : Nat → Int) (hc : Ok64 c) (hm : mayB c = true) (w : World) : Calls Try.prog 10 #[.agg (rowOf 14 (ints c))] w fun e w' => ∃ g, e = .returned (.tuple #[.pointer (some ⟨g, 0, none⟩), .int .i64 0]) ∧ Row w' g 49 55 (ints (planN c)) ∧ Below w.heap.size w w' := by
  have f14 := fold14 c
  have cM := cMay_any c hc
  rw [hm] at cM
  have CM := Lib.hid cM; clear cM
  have cP := pParts_any c
  rw [← fold14 c, ← fold40 c] at cP
  simp only at cP
  have CP := Lib.hid cP; clear cP
  have f55 := fold55 c
  simp only at f55
  have F55 := Lib.hid f55; clear f55
  obtain ⟨-, -, -, b10, b11, -⟩ := may_bounds hm
  go_enter Try.func10, Try.ntmps10
  go_upto_region 1 with fail
  generalize hW : World.alloc _ _ = W
  have hr : Row W w.heap.size 24 14 (ints c) := by rw [← hW]; exact Row.new _ _ _ _ _ rfl
  have hB : Below w.heap.size w W := by rw [← hW]; exact (Below.refl _ _).alloc (Nat.le_refl _) _
  clear hW
  generalize hz : w.heap.size = a1 at *
  have HZ := Lib.hid hz; clear hz
  obtain ⟨u0, u1, u2, u3, u4, u5, u6, u7, u8, u9, u10, u11, u12, u13⟩ := conf_cells hr
  go_wp2_with fail
  refine (CM.out _).mono ?_; rintro e w1 ⟨rfl, hb⟩
  clear u0 u1 u2 u3 u4 u5 u6 u7 u8 u9 u10 u11 u12 u13 CM f14
  have hr1 := hr.keep hb
  have hB1 := below_on hB (Nat.le_of_eq HZ.out.symm) hb
  clear hb hB hr
  go_upto_region 3 with fail
  go_cut [4] (fun s wx => ∃ g, s = .pointer (some ⟨g, 0, none⟩) ∧ NewR a1 w c g 0 wx)
  case first =>
    have hkeep : ∀ w1 w2 : World, Below w1.heap.size w1 w2 → (fun w' : World => Below a1 w w' ∧ Row w' a1 24 14 (ints c) ∧ w'.cell? ⟨a1, 0, none⟩ = some (.int .i64 (c 0)) ∧ w'.cell? ⟨a1, 1, none⟩ = some (.int .i64 (c 1)) ∧ w'.cell? ⟨a1, 2, none⟩ = some (.int .i64 (c 2)) ∧ w'.cell? ⟨a1, 3, none⟩ = some (.int .i64 (c 3)) ∧ w'.cell? ⟨a1, 4, none⟩ = some (.int .i64 (c 4)) ∧ w'.cell? ⟨a1, 5, none⟩ = some (.int .i64 (c 5)) ∧ w'.cell? ⟨a1, 6, none⟩ = some (.int .i64 (c 6)) ∧ w'.cell? ⟨a1, 7, none⟩ = some (.int .i64 (c 7)) ∧ w'.cell? ⟨a1, 8, none⟩ = some (.int .i64 (c 8)) ∧ w'.cell? ⟨a1, 9, none⟩ = some (.int .i64 (c 9)) ∧ w'.cell? ⟨a1, 10, none⟩ = some (.int .i64 (c 10)) ∧ w'.cell? ⟨a1, 11, none⟩ = some (.int .i64 (c 11)) ∧ w'.cell? ⟨a1, 12, none⟩ = some (.int .i64 (c 12)) ∧ w'.cell? ⟨a1, 13, none⟩ = some (.int .i64 (c 13))) w1 → (fun w' : World => Below a1 w w' ∧ Row w' a1 24 14 (ints c) ∧ w'.cell? ⟨a1, 0, none⟩ = some (.int .i64 (c 0)) ∧ w'.cell? ⟨a1, 1, none⟩ = some (.int .i64 (c 1)) ∧ w'.cell? ⟨a1, 2, none⟩ = some (.int .i64 (c 2)) ∧ w'.cell? ⟨a1, 3, none⟩ = some (.int .i64 (c 3)) ∧ w'.cell? ⟨a1, 4, none⟩ = some (.int .i64 (c 4)) ∧ w'.cell? ⟨a1, 5, none⟩ = some (.int .i64 (c 5)) ∧ w'.cell? ⟨a1, 6, none⟩ = some (.int .i64 (c 6)) ∧ w'.cell? ⟨a1, 7, none⟩ = some (.int .i64 (c 7)) ∧ w'.cell? ⟨a1, 8, none⟩ = some (.int .i64 (c 8)) ∧ w'.cell? ⟨a1, 9, none⟩ = some (.int .i64 (c 9)) ∧ w'.cell? ⟨a1, 10, none⟩ = some (.int .i64 (c 10)) ∧ w'.cell? ⟨a1, 11, none⟩ = some (.int .i64 (c 11)) ∧ w'.cell? ⟨a1, 12, none⟩ = some (.int .i64 (c 12)) ∧ w'.cell? ⟨a1, 13, none⟩ = some (.int .i64 (c 13))) w2 := by
      rintro w1 w2 hb ⟨h0, h4, _⟩
      exact conf_held (below_on h0 (Nat.le_of_eq HZ.out.symm) hb) (h4.keep hb)
    have hkeepA : ∀ (w1 : World) (o : Obj), (fun w' : World => Below a1 w w' ∧ Row w' a1 24 14 (ints c) ∧ w'.cell? ⟨a1, 0, none⟩ = some (.int .i64 (c 0)) ∧ w'.cell? ⟨a1, 1, none⟩ = some (.int .i64 (c 1)) ∧ w'.cell? ⟨a1, 2, none⟩ = some (.int .i64 (c 2)) ∧ w'.cell? ⟨a1, 3, none⟩ = some (.int .i64 (c 3)) ∧ w'.cell? ⟨a1, 4, none⟩ = some (.int .i64 (c 4)) ∧ w'.cell? ⟨a1, 5, none⟩ = some (.int .i64 (c 5)) ∧ w'.cell? ⟨a1, 6, none⟩ = some (.int .i64 (c 6)) ∧ w'.cell? ⟨a1, 7, none⟩ = some (.int .i64 (c 7)) ∧ w'.cell? ⟨a1, 8, none⟩ = some (.int .i64 (c 8)) ∧ w'.cell? ⟨a1, 9, none⟩ = some (.int .i64 (c 9)) ∧ w'.cell? ⟨a1, 10, none⟩ = some (.int .i64 (c 10)) ∧ w'.cell? ⟨a1, 11, none⟩ = some (.int .i64 (c 11)) ∧ w'.cell? ⟨a1, 12, none⟩ = some (.int .i64 (c 12)) ∧ w'.cell? ⟨a1, 13, none⟩ = some (.int .i64 (c 13))) w1 → (fun w' : World => Below a1 w w' ∧ Row w' a1 24 14 (ints c) ∧ w'.cell? ⟨a1, 0, none⟩ = some (.int .i64 (c 0)) ∧ w'.cell? ⟨a1, 1, none⟩ = some (.int .i64 (c 1)) ∧ w'.cell? ⟨a1, 2, none⟩ = some (.int .i64 (c 2)) ∧ w'.cell? ⟨a1, 3, none⟩ = some (.int .i64 (c 3)) ∧ w'.cell? ⟨a1, 4, none⟩ = some (.int .i64 (c 4)) ∧ w'.cell? ⟨a1, 5, none⟩ = some (.int .i64 (c 5)) ∧ w'.cell? ⟨a1, 6, none⟩ = some (.int .i64 (c 6)) ∧ w'.cell? ⟨a1, 7, none⟩ = some (.int .i64 (c 7)) ∧ w'.cell? ⟨a1, 8, none⟩ = some (.int .i64 (c 8)) ∧ w'.cell? ⟨a1, 9, none⟩ = some (.int .i64 (c 9)) ∧ w'.cell? ⟨a1, 10, none⟩ = some (.int .i64 (c 10)) ∧ w'.cell? ⟨a1, 11, none⟩ = some (.int .i64 (c 11)) ∧ w'.cell? ⟨a1, 12, none⟩ = some (.int .i64 (c 12)) ∧ w'.cell? ⟨a1, 13, none⟩ = some (.int .i64 (c 13))) (w1.alloc o) := fun w1 o h => hkeep w1 _ ((Below.refl _ _).alloc (Nat.le_refl _) o) h
    have H0 := Lib.hid (conf_held hB1.drew hr1.drew)
    clear hr1 hB1
    refine wp_region_noPanic ?_
    refine wp_region_held_drew (S := fun w' => Below a1 w w' ∧ Row w' a1 24 14 (ints c) ∧ w'.cell? ⟨a1, 0, none⟩ = some (.int .i64 (c 0)) ∧ w'.cell? ⟨a1, 1, none⟩ = some (.int .i64 (c 1)) ∧ w'.cell? ⟨a1, 2, none⟩ = some (.int .i64 (c 2)) ∧ w'.cell? ⟨a1, 3, none⟩ = some (.int .i64 (c 3)) ∧ w'.cell? ⟨a1, 4, none⟩ = some (.int .i64 (c 4)) ∧ w'.cell? ⟨a1, 5, none⟩ = some (.int .i64 (c 5)) ∧ w'.cell? ⟨a1, 6, none⟩ = some (.int .i64 (c 6)) ∧ w'.cell? ⟨a1, 7, none⟩ = some (.int .i64 (c 7)) ∧ w'.cell? ⟨a1, 8, none⟩ = some (.int .i64 (c 8)) ∧ w'.cell? ⟨a1, 9, none⟩ = some (.int .i64 (c 9)) ∧ w'.cell? ⟨a1, 10, none⟩ = some (.int .i64 (c 10)) ∧ w'.cell? ⟨a1, 11, none⟩ = some (.int .i64 (c 11)) ∧ w'.cell? ⟨a1, 12, none⟩ = some (.int .i64 (c 12)) ∧ w'.cell? ⟨a1, 13, none⟩ = some (.int .i64 (c 13))) (by kernel_rfl) (H0.out) (fun hHeld => ?_)
    (refine wpAnyH_take (i := 0) (v := ?_) rfl (by kernel_rfl) (by kernel_rfl) (by kernel_rfl) (fun _ _ _ h => h) (Or.inl ⟨by rfl, ?_⟩) hHeld ?_; rotate_left; focus (intro w hSw; (try dsimp only at hSw); go_simp; (try with_reducible rfl)))
    try simp only [Act.put, List.getElem_toArray, List.getElem_cons_succ, List.getElem_cons_zero, List.setIfInBounds_toArray, List.set_cons_zero, List.set_cons_succ]
    (refine wpAnyH_take (i := 1) (v := ?_) rfl (by kernel_rfl) (by kernel_rfl) (by kernel_rfl) (fun _ _ _ h => h) (Or.inl ⟨by rfl, ?_⟩) hHeld ?_; rotate_left; focus (intro w hSw; (try dsimp only at hSw); go_simp; (try with_reducible rfl)))
    try simp only [Act.put, List.getElem_toArray, List.getElem_cons_succ, List.getElem_cons_zero, List.setIfInBounds_toArray, List.set_cons_zero, List.set_cons_succ]
    (refine wpAnyH_ready (rs := [2]) (by kernel_rfl) (by simp) ?_; refine AllReadyH.cons rfl (fun K hK => ?_) AllReadyH.nil; go_simp; (go_at_call 18; refine (CP.out _).mono ?_; rintro e w' ⟨rfl, hb⟩); (try go_wp2_with fail); refine hK.out _ _ ?_ (fun hHeld' => ?_); (focus (first | exact hkeep _ _ hb hHeld | exact hkeepA _ _ hHeld | exact hHeld)); clear hK K; replace hHeld := hHeld'; clear hHeld')
    try simp only [Act.put, List.getElem_toArray, List.getElem_cons_succ, List.getElem_cons_zero, List.setIfInBounds_toArray, List.set_cons_zero, List.set_cons_succ]
    (refine wpAnyH_take (i := 3) (v := ?_) rfl (by kernel_rfl) (by kernel_rfl) (by kernel_rfl) (fun _ _ _ h => h) (Or.inl ⟨by rfl, ?_⟩) hHeld ?_; rotate_left; focus (intro w hSw; (try dsimp only at hSw); go_simp; (try with_reducible rfl)))
    try simp only [Act.put, List.getElem_toArray, List.getElem_cons_succ, List.getElem_cons_zero, List.setIfInBounds_toArray, List.set_cons_zero, List.set_cons_succ]
    (refine wpAnyH_ready (rs := [4]) (by kernel_rfl) (by simp) ?_; refine AllReadyH.cons rfl (fun K hK => ?_) AllReadyH.nil; go_simp; skip; (try go_wp2_with fail); refine hK.out _ _ ?_ (fun hHeld' => ?_); (focus (first | exact hkeep _ _ hb hHeld | exact hkeepA _ _ hHeld | exact hHeld)); clear hK K; replace hHeld := hHeld'; clear hHeld')
    try simp only [Act.put, List.getElem_toArray, List.getElem_cons_succ, List.getElem_cons_zero, List.setIfInBounds_toArray, List.set_cons_zero, List.set_cons_succ]
    (refine wpAnyH_take (i := 5) (v := ?_) rfl (by kernel_rfl) (by kernel_rfl) (by kernel_rfl) (fun _ _ _ h => h) (Or.inl ⟨by rfl, ?_⟩) hHeld ?_; rotate_left; focus (intro w hSw; (try dsimp only at hSw); go_simp; (try with_reducible rfl)))
    try simp only [Act.put, List.getElem_toArray, List.getElem_cons_succ, List.getElem_cons_zero, List.setIfInBounds_toArray, List.set_cons_zero, List.set_cons_succ]
    refine wpAnyH_done (by kernel_rfl) ?_ _
    refine NoPanic.normal ?_
    have h1 := Lib.hid (And.left hHeld)
    have h2 := Lib.hid (Nat.le_trans H0.out.1.size hb.size)
    clear hHeld H0 hkeep hkeepA
    go_wp2_with fail
    go_meet
    refine ⟨_, rfl, h1.out, ?_, ?_⟩
    · rw [F55.out]; exact heap_alloc_new _ _
    · have := HZ.out; have := h2.out; omega
  case rest =>
    obtain ⟨g, rfl, hN, hrow, hg⟩ := hcut
    clear F55 CP hr1
    have v54 : wc.cell? ⟨g, 54, none⟩ = some (.int .i64 0) := hrow.cell (i := 54) (by omega)
    go_wp2_with fail
    clear v54
    go_loopw [14, 5] (fun i _ wr => ∃ k : Nat, i = .int .i64 k ∧ k ≤ 10 ∧ NewR a1 w c g k wr) (fun i _ _ => 10 - (intOf i).toNat)
    case atStart => exact ⟨0, rfl, by omega, hN, hrow, hg⟩
    case round =>
      obtain ⟨k, rfl, hk, hN, hrow, hg⟩ := hrel
      by_cases hlt : k < 10
      · have v0 : wr.cell? ⟨g, 54, none⟩ = some (.int .i64 (planT c k 54)) := hrow.cell (i := 54) (by omega)
        have v1 : wr.cell? ⟨g, 14 + k * 4, none⟩ = some (.int .i64 0) := by rw [hrow.cell (i := 14 + k * 4) (by omega)]; unfold ints; rw [planT_new c k (by omega)]
        rw [planT_size] at v0
        have f0 : wr.frozen? ⟨g, 14 + k * 4, none⟩ = false := hrow.frozen _
        have q0 : (0 : Int) ≤ (k : Int) := by omega
        have q1 : (k : Int) < 10 := by omega
        have R := Lib.hid (And.intro hN (And.intro hrow hg))
        clear hN hrow hg
        go_upto_region 7 with fail
        go_region
        generalize hW2 : World.drew _ = W2
        have hr2 : Row W2 g 49 55 (fun i => if i = 14 + k * 4 then .int .i64 (atK c k) else ints (planT c k) i) := by rw [← hW2]; exact (R.out.2.1.set_ _ _).drew
        have hB2 : Below a1 w W2 := by rw [← hW2]; exact (R.out.1.setCell (by show _ ≤ _; have := R.out.2.2; have := HZ.out; omega) _).drew
        have hg := Lib.hid R.out.2.2
        clear hW2 R v0 v1 f0
        have v0 : W2.cell? ⟨g, 54, none⟩ = some (.int .i64 (atK c k)) := by rw [hr2.cell (i := 54) (by omega), if_neg (by omega)]; rfl
        have x0 : W2.cell? ⟨g, 14 + k * 4, none⟩ = some (.int .i64 (atK c k)) := by rw [hr2.cell (i := 14 + k * 4) (by omega), if_pos rfl]
        have x1 : W2.cell? ⟨g, 14 + k * 4 + 1, none⟩ = some (.int .i64 (firstK k)) := by rw [hr2.cell (i := 14 + k * 4 + 1) (by omega), if_neg (by omega)]; unfold ints; rw [planT_part c k k 1 hlt (by omega)]; rfl
        have x2 : W2.cell? ⟨g, 14 + k * 4 + 2, none⟩ = some (.int .i64 (countK c k)) := by rw [hr2.cell (i := 14 + k * 4 + 2) (by omega), if_neg (by omega)]; unfold ints; rw [planT_part c k k 2 hlt (by omega)]; rfl
        have x3 : W2.cell? ⟨g, 14 + k * 4 + 3, none⟩ = some (.int .i64 (eachK k)) := by rw [hr2.cell (i := 14 + k * 4 + 3) (by omega), if_neg (by omega)]; unfold ints; rw [planT_part c k k 3 hlt (by omega)]; rfl
        have cW := pPartWords_any (fun j => if j = 0 then atK c k else if j = 1 then firstK k else if j = 2 then countK c k else eachK k) (countK c k * eachK k) rfl (countK_bounds c k b10 b11) (eachK_two k)
        have cW' : ∀ W, Calls Try.prog 19 #[.agg #[.int .i64 (atK c k), .int .i64 (firstK k), .int .i64 (countK c k), .int .i64 (eachK k)]] W fun e w' => e = .returned (.int .i64 (countK c k * eachK k)) ∧ Below W.heap.size W w' := cW
        clear cW
        have e1 := atK_succ c k hlt
        have e2 := atK_bounds c k b10 b11
        have e3 := atK_bounds c (k + 1) b10 b11
        have hst := Lib.hid (planT_step c k hlt)
        have hZ : Hid (∀ w', Below W2.drew.heap.size W2.drew w' → w'.cell? ⟨g, 54, none⟩ = some (.int .i64 (atK c k)) ∧ w'.frozen? ⟨g, 54, none⟩ = false) := Lib.hid fun w' hb =>
          ⟨by rw [(hr2.drew.keep hb).cell (i := 54) (by omega), if_neg (by omega)]; rfl, (hr2.drew.keep hb).frozen _⟩
        have CW := Lib.hid cW'; clear cW'
        have em := countK_each c k b10 b11
        generalize countK c k * eachK k = m at *
        have ES := Lib.hid (show atK c k + m = atK c (k + 1) from e1.symm)
        generalize atK c (k + 1) = s' at *
        have HR := Lib.hid hr2; have HB := Lib.hid hB2
        clear hr2 hB2 e1
        generalize hsx : atK c k = sx at *
        clear hsx
        generalize firstK k = fx at *
        generalize countK c k = cx at *
        generalize eachK k = ex at *
        go_upto_region 8 with fail
        go_region_with (go_at_call 19; refine (CW.out _).mono ?_; rintro e w' ⟨rfl, hb⟩; obtain ⟨z0, z1⟩ := hZ.out _ hb)
        all_goals
          have hF : NewR a1 w c g (k + 1) (w'.setCell ⟨g, 54, none⟩ (.int .i64 (sx + m))) := by
            rw [ES.out]
            refine ⟨(below_on HB.out.drew (Nat.le_of_eq HZ.out.symm) hb).setCell (by show _ ≤ _; exact hg.out) _, ?_, hg.out⟩
            exact ((HR.out.drew.keep hb).set_ 54 (.int .i64 s')).congr fun i hi => hst.out i hi
          have HF := Lib.hid hF
          clear hF v0 x0 x1 x2 x3 z0 z1 hst HR HB hb CW hZ
          go_wp2_with fail
          go_roundw
          case rel => exact ⟨k + 1, by go_num, by omega, HF.out⟩
          case measure => simp [intOf]; omega
      · obtain rfl : k = 10 := by omega
        have HR := Lib.hid hrow; have HB := Lib.hid hN
        clear hN hrow
        go_wp2_with fail
        go_ret2
        exact ⟨g, rfl, HR.out, by rw [HZ.out]; exact HB.out⟩
end Go.Proofs.Ytncemjpfdblecaa
