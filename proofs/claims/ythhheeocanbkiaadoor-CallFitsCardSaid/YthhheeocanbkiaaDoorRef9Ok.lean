/- Whether a call may be answered so: the document's answer of layer 9. -/
import Derived.Test.YthhheeocanbkiaaDoorRef9Refs
namespace Go.Proofs.YthhheeocanbkiaaDoor
set_option linter.unusedVariables false
open Go.ChangeShapes Go.WideShapes Go.ChangeAt Go.RowKit
theorem neq_cells (e a b h n k e' a' b' h' n' k' : Int) (w : World) : (binOp .neq 37 (.agg #[.int .i64 e, .int .u64 a, .int .u64 b, .int .u64 h, .int .i64 n, .int .i64 k]) (.agg #[.int .i64 e', .int .u64 a', .int .u64 b', .int .u64 h', .int .i64 n', .int .i64 k'])).run Tryd.prog w = .ok (.bool (!sameA ⟨e, a, b, h, n, k⟩ ⟨e', a', b', h', n', k'⟩)) w :=
  neq_ans w ⟨e, a, b, h, n, k⟩ ⟨e', a', b', h', n', k'⟩
theorem sameA_n {e a b h n k : Int} (hs : sameA ⟨e, a, b, h, n, k⟩ zeroA = true) : n = 0 := by
  unfold sameA at hs
  simp only [Bool.and_eq_true, beq_iff_eq] at hs
  exact hs.2.2.2.2.1
set_option maxHeartbeats 1000000 in
theorem r9Fits_no (op l key pa pb hd r e a b h n k : Int) (hm : mayC op l r = false) (w : World) : Calls Tryd.prog 16 #[(.agg #[.int .i64 op, .int .i64 l, .int .i64 key, .int .u64 pa, .int .u64 pb, .int .u64 hd, .int .i64 r]), (.agg #[.int .i64 e, .int .u64 a, .int .u64 b, .int .u64 h, .int .i64 n, .int .i64 k])] w fun t w' => t = .returned (.bool false) ∧ Below w.heap.size w w' := by
  have C1 := Lib.hid (fun W => (r9May_any op l key pa pb hd r W).mono (fun t w' hh => (show t = .returned (.bool false) ∧ Below W.heap.size W w' from hm ▸ hh)))
  clear hm
  go_enter Tryd.func16, Tryd.ntmps16
  go_upto_region 1 with fail
  generalize hW : World.alloc (World.alloc _ _) _ = W
  obtain ⟨hB, hcl, han⟩ := two_new _ _ _ _ _ _ _ ⟨_, _, _, _, _, _⟩ _ _ w W hW
  clear hW
  generalize hz : w.heap.size = a1 at *
  have HZ := Lib.hid hz; clear hz
  have HB := Lib.hid hB; have HC := Lib.hid hcl; have HA := Lib.hid han; clear hB
  obtain ⟨l0, u0, u1, u2, u3, u4, u5, u6⟩ := hcl
  obtain ⟨l1, v0, v1, v2, v3, v4, v5⟩ := han
  simp only at v0 v1 v2 v3 v4 v5
  go_wp2_with fail
  refine (C1.out _).mono ?_
  rintro t w1 ⟨rfl, hb1⟩
  have hB1 := below_on HB.out (Nat.le_of_eq HZ.out.symm) hb1
  have hcl := HC.out.keep hb1
  have han := HA.out.keep hb1
  clear hb1 HB HC HA u0 u1 u2 u3 u4 u5 u6 v0 v1 v2 v3 v4 v5 l0 l1 C1 W
  have HB := Lib.hid hB1
  have hsz := hB1.size
  clear hB1
  obtain ⟨l0, u0, u1, u2, u3, u4, u5, u6⟩ := hcl
  obtain ⟨l1, v0, v1, v2, v3, v4, v5⟩ := han
  simp only at v0 v1 v2 v3 v4 v5
  go_wp2_with fail
  go_ret
  exact ⟨rfl, by rw [HZ.out]; exact HB.out⟩
set_option maxHeartbeats 1000000 in
theorem r9Ok_0 (l key pa pb hd r a b h n k : Int) (hh : 0 ≤ h) (hm : mayC 0 l r = true) (w : World) : Calls Tryd.prog 16 #[(.agg #[.int .i64 0, .int .i64 l, .int .i64 key, .int .u64 pa, .int .u64 pb, .int .u64 hd, .int .i64 r]), (.agg #[.int .i64 0, .int .u64 a, .int .u64 b, .int .u64 h, .int .i64 n, .int .i64 k])] w fun t w' => t = .returned (.bool (toldT 0 a b h n k)) ∧ Below w.heap.size w w' := by
  have C1 := Lib.hid (fun W => (r9May_any 0 l key pa pb hd r W).mono (fun t w' hh => (show t = .returned (.bool true) ∧ Below W.heap.size W w' from hm ▸ hh)))
  clear hm
  have hE : ∀ W, (binOp .neq 37 (.agg #[.int .i64 0, .int .u64 a, .int .u64 b, .int .u64 h, .int .i64 n, .int .i64 k]) (.agg #[.int .i64 0, .int .u64 0, .int .u64 0, .int .u64 0, .int .i64 0, .int .i64 0])).run Tryd.prog W = .ok (.bool (!sameA ⟨0, a, b, h, n, k⟩ zeroA)) W := fun W => neq_cells 0 a b h n k 0 0 0 0 0 0 W
  cases hs : sameA ⟨0, a, b, h, n, k⟩ zeroA
  · rw [hs] at hE
    have H := Lib.hid (show toldT 0 a b h n k = false by show sameA ⟨0, a, b, h, n, k⟩ zeroA = _; rw [hs])
    clear hs
    go_enter Tryd.func16, Tryd.ntmps16
    go_upto_region 1 with fail
    generalize hW : World.alloc (World.alloc _ _) _ = W
    obtain ⟨hB, hcl, han⟩ := two_new _ _ _ _ _ _ _ ⟨_, _, _, _, _, _⟩ _ _ w W hW
    clear hW
    generalize hz : w.heap.size = a1 at *
    have HZ := Lib.hid hz; clear hz
    have HB := Lib.hid hB; have HC := Lib.hid hcl; have HA := Lib.hid han; clear hB
    obtain ⟨l0, u0, u1, u2, u3, u4, u5, u6⟩ := hcl
    obtain ⟨l1, v0, v1, v2, v3, v4, v5⟩ := han
    simp only at v0 v1 v2 v3 v4 v5
    go_wp2_with fail
    refine (C1.out _).mono ?_
    rintro t w1 ⟨rfl, hb1⟩
    have hB1 := below_on HB.out (Nat.le_of_eq HZ.out.symm) hb1
    have hcl := HC.out.keep hb1
    have han := HA.out.keep hb1
    clear hb1 HB HC HA u0 u1 u2 u3 u4 u5 u6 v0 v1 v2 v3 v4 v5 l0 l1 C1 W
    have HB := Lib.hid hB1
    have hsz := hB1.size
    clear hB1
    obtain ⟨l0, u0, u1, u2, u3, u4, u5, u6⟩ := hcl
    obtain ⟨l1, v0, v1, v2, v3, v4, v5⟩ := han
    simp only at v0 v1 v2 v3 v4 v5
    go_wp2_with fail
    go_ret
    exact ⟨by rw [H.out]; first | rfl | exact congrArg (fun b => Ending.returned (.bool b)) (decide_eq_false (by omega)), by rw [HZ.out]; exact below_on HB.out (Nat.le_of_eq HZ.out.symm) ((Below.refl _ _).alloc (Nat.le_refl _) _)⟩
  · rw [hs] at hE
    have H := Lib.hid (show toldT 0 a b h n k = true by show sameA ⟨0, a, b, h, n, k⟩ zeroA = _; rw [hs])
    obtain rfl := sameA_n hs
    clear hs
    go_enter Tryd.func16, Tryd.ntmps16
    go_upto_region 1 with fail
    generalize hW : World.alloc (World.alloc _ _) _ = W
    obtain ⟨hB, hcl, han⟩ := two_new _ _ _ _ _ _ _ ⟨_, _, _, _, _, _⟩ _ _ w W hW
    clear hW
    generalize hz : w.heap.size = a1 at *
    have HZ := Lib.hid hz; clear hz
    have HB := Lib.hid hB; have HC := Lib.hid hcl; have HA := Lib.hid han; clear hB
    obtain ⟨l0, u0, u1, u2, u3, u4, u5, u6⟩ := hcl
    obtain ⟨l1, v0, v1, v2, v3, v4, v5⟩ := han
    simp only at v0 v1 v2 v3 v4 v5
    go_wp2_with fail
    refine (C1.out _).mono ?_
    rintro t w1 ⟨rfl, hb1⟩
    have hB1 := below_on HB.out (Nat.le_of_eq HZ.out.symm) hb1
    have hcl := HC.out.keep hb1
    have han := HA.out.keep hb1
    clear hb1 HB HC HA u0 u1 u2 u3 u4 u5 u6 v0 v1 v2 v3 v4 v5 l0 l1 C1 W
    have HB := Lib.hid hB1
    have hsz := hB1.size
    clear hB1
    obtain ⟨l0, u0, u1, u2, u3, u4, u5, u6⟩ := hcl
    obtain ⟨l1, v0, v1, v2, v3, v4, v5⟩ := han
    simp only at v0 v1 v2 v3 v4 v5
    go_wp2_with fail
    go_ret
    exact ⟨by rw [H.out]; first | rfl | exact congrArg (fun b => Ending.returned (.bool b)) (decide_eq_false (by omega)), by rw [HZ.out]; exact below_on HB.out (Nat.le_of_eq HZ.out.symm) ((Below.refl _ _).alloc (Nat.le_refl _) _)⟩
set_option maxHeartbeats 1000000 in
theorem r9Ok_1 (l key pa pb hd r a b h n k : Int) (hh : 0 ≤ h) (hm : mayC 1 l r = true) (w : World) : Calls Tryd.prog 16 #[(.agg #[.int .i64 1, .int .i64 l, .int .i64 key, .int .u64 pa, .int .u64 pb, .int .u64 hd, .int .i64 r]), (.agg #[.int .i64 0, .int .u64 a, .int .u64 b, .int .u64 h, .int .i64 n, .int .i64 k])] w fun t w' => t = .returned (.bool (toldT 1 a b h n k)) ∧ Below w.heap.size w w' := by
  have C1 := Lib.hid (fun W => (r9May_any 1 l key pa pb hd r W).mono (fun t w' hh => (show t = .returned (.bool true) ∧ Below W.heap.size W w' from hm ▸ hh)))
  clear hm
  have hE : ∀ W, (binOp .neq 37 (.agg #[.int .i64 0, .int .u64 0, .int .u64 0, .int .u64 h, .int .i64 n, .int .i64 k]) (.agg #[.int .i64 0, .int .u64 0, .int .u64 0, .int .u64 0, .int .i64 0, .int .i64 0])).run Tryd.prog W = .ok (.bool (!sameA ⟨0, 0, 0, h, n, k⟩ zeroA)) W := fun W => neq_cells 0 0 0 h n k 0 0 0 0 0 0 W
  cases hs : sameA ⟨0, 0, 0, h, n, k⟩ zeroA
  · rw [hs] at hE
    have H := Lib.hid (show toldT 1 a b h n k = false by show sameA ⟨0, 0, 0, h, n, k⟩ zeroA = _; rw [hs])
    clear hs
    go_enter Tryd.func16, Tryd.ntmps16
    go_upto_region 1 with fail
    generalize hW : World.alloc (World.alloc _ _) _ = W
    obtain ⟨hB, hcl, han⟩ := two_new _ _ _ _ _ _ _ ⟨_, _, _, _, _, _⟩ _ _ w W hW
    clear hW
    generalize hz : w.heap.size = a1 at *
    have HZ := Lib.hid hz; clear hz
    have HB := Lib.hid hB; have HC := Lib.hid hcl; have HA := Lib.hid han; clear hB
    obtain ⟨l0, u0, u1, u2, u3, u4, u5, u6⟩ := hcl
    obtain ⟨l1, v0, v1, v2, v3, v4, v5⟩ := han
    simp only at v0 v1 v2 v3 v4 v5
    go_wp2_with fail
    refine (C1.out _).mono ?_
    rintro t w1 ⟨rfl, hb1⟩
    have hB1 := below_on HB.out (Nat.le_of_eq HZ.out.symm) hb1
    have hcl := HC.out.keep hb1
    have han := HA.out.keep hb1
    clear hb1 HB HC HA u0 u1 u2 u3 u4 u5 u6 v0 v1 v2 v3 v4 v5 l0 l1 C1 W
    have HB := Lib.hid hB1
    have hsz := hB1.size
    clear hB1
    obtain ⟨l0, u0, u1, u2, u3, u4, u5, u6⟩ := hcl
    obtain ⟨l1, v0, v1, v2, v3, v4, v5⟩ := han
    simp only at v0 v1 v2 v3 v4 v5
    go_wp2_with fail
    go_ret
    exact ⟨by rw [H.out]; first | rfl | exact congrArg (fun b => Ending.returned (.bool b)) (decide_eq_false (by omega)), by rw [HZ.out]; exact below_on HB.out (Nat.le_of_eq HZ.out.symm) ((Below.refl _ _).alloc (Nat.le_refl _) _)⟩
  · rw [hs] at hE
    have H := Lib.hid (show toldT 1 a b h n k = true by show sameA ⟨0, 0, 0, h, n, k⟩ zeroA = _; rw [hs])
    obtain rfl := sameA_n hs
    clear hs
    go_enter Tryd.func16, Tryd.ntmps16
    go_upto_region 1 with fail
    generalize hW : World.alloc (World.alloc _ _) _ = W
    obtain ⟨hB, hcl, han⟩ := two_new _ _ _ _ _ _ _ ⟨_, _, _, _, _, _⟩ _ _ w W hW
    clear hW
    generalize hz : w.heap.size = a1 at *
    have HZ := Lib.hid hz; clear hz
    have HB := Lib.hid hB; have HC := Lib.hid hcl; have HA := Lib.hid han; clear hB
    obtain ⟨l0, u0, u1, u2, u3, u4, u5, u6⟩ := hcl
    obtain ⟨l1, v0, v1, v2, v3, v4, v5⟩ := han
    simp only at v0 v1 v2 v3 v4 v5
    go_wp2_with fail
    refine (C1.out _).mono ?_
    rintro t w1 ⟨rfl, hb1⟩
    have hB1 := below_on HB.out (Nat.le_of_eq HZ.out.symm) hb1
    have hcl := HC.out.keep hb1
    have han := HA.out.keep hb1
    clear hb1 HB HC HA u0 u1 u2 u3 u4 u5 u6 v0 v1 v2 v3 v4 v5 l0 l1 C1 W
    have HB := Lib.hid hB1
    have hsz := hB1.size
    clear hB1
    obtain ⟨l0, u0, u1, u2, u3, u4, u5, u6⟩ := hcl
    obtain ⟨l1, v0, v1, v2, v3, v4, v5⟩ := han
    simp only at v0 v1 v2 v3 v4 v5
    go_wp2_with fail
    go_ret
    exact ⟨by rw [H.out]; first | rfl | exact congrArg (fun b => Ending.returned (.bool b)) (decide_eq_false (by omega)), by rw [HZ.out]; exact below_on HB.out (Nat.le_of_eq HZ.out.symm) ((Below.refl _ _).alloc (Nat.le_refl _) _)⟩
set_option maxHeartbeats 1000000 in
theorem r9Ok_2 (l key pa pb hd r a b h n k : Int) (hh : 0 ≤ h) (hm : mayC 2 l r = true) (w : World) : Calls Tryd.prog 16 #[(.agg #[.int .i64 2, .int .i64 l, .int .i64 key, .int .u64 pa, .int .u64 pb, .int .u64 hd, .int .i64 r]), (.agg #[.int .i64 0, .int .u64 a, .int .u64 b, .int .u64 h, .int .i64 n, .int .i64 k])] w fun t w' => t = .returned (.bool (toldT 2 a b h n k)) ∧ Below w.heap.size w w' := by
  have C1 := Lib.hid (fun W => (r9May_any 2 l key pa pb hd r W).mono (fun t w' hh => (show t = .returned (.bool true) ∧ Below W.heap.size W w' from hm ▸ hh)))
  clear hm
  have hE : ∀ W, (binOp .neq 37 (.agg #[.int .i64 0, .int .u64 0, .int .u64 0, .int .u64 h, .int .i64 n, .int .i64 k]) (.agg #[.int .i64 0, .int .u64 0, .int .u64 0, .int .u64 0, .int .i64 0, .int .i64 0])).run Tryd.prog W = .ok (.bool (!sameA ⟨0, 0, 0, h, n, k⟩ zeroA)) W := fun W => neq_cells 0 0 0 h n k 0 0 0 0 0 0 W
  cases hs : sameA ⟨0, 0, 0, h, n, k⟩ zeroA
  · rw [hs] at hE
    have H := Lib.hid (show toldT 2 a b h n k = false by show sameA ⟨0, 0, 0, h, n, k⟩ zeroA = _; rw [hs])
    clear hs
    go_enter Tryd.func16, Tryd.ntmps16
    go_upto_region 1 with fail
    generalize hW : World.alloc (World.alloc _ _) _ = W
    obtain ⟨hB, hcl, han⟩ := two_new _ _ _ _ _ _ _ ⟨_, _, _, _, _, _⟩ _ _ w W hW
    clear hW
    generalize hz : w.heap.size = a1 at *
    have HZ := Lib.hid hz; clear hz
    have HB := Lib.hid hB; have HC := Lib.hid hcl; have HA := Lib.hid han; clear hB
    obtain ⟨l0, u0, u1, u2, u3, u4, u5, u6⟩ := hcl
    obtain ⟨l1, v0, v1, v2, v3, v4, v5⟩ := han
    simp only at v0 v1 v2 v3 v4 v5
    go_wp2_with fail
    refine (C1.out _).mono ?_
    rintro t w1 ⟨rfl, hb1⟩
    have hB1 := below_on HB.out (Nat.le_of_eq HZ.out.symm) hb1
    have hcl := HC.out.keep hb1
    have han := HA.out.keep hb1
    clear hb1 HB HC HA u0 u1 u2 u3 u4 u5 u6 v0 v1 v2 v3 v4 v5 l0 l1 C1 W
    have HB := Lib.hid hB1
    have hsz := hB1.size
    clear hB1
    obtain ⟨l0, u0, u1, u2, u3, u4, u5, u6⟩ := hcl
    obtain ⟨l1, v0, v1, v2, v3, v4, v5⟩ := han
    simp only at v0 v1 v2 v3 v4 v5
    go_wp2_with fail
    go_ret
    exact ⟨by rw [H.out]; first | rfl | exact congrArg (fun b => Ending.returned (.bool b)) (decide_eq_false (by omega)), by rw [HZ.out]; exact below_on HB.out (Nat.le_of_eq HZ.out.symm) ((Below.refl _ _).alloc (Nat.le_refl _) _)⟩
  · rw [hs] at hE
    have H := Lib.hid (show toldT 2 a b h n k = true by show sameA ⟨0, 0, 0, h, n, k⟩ zeroA = _; rw [hs])
    obtain rfl := sameA_n hs
    clear hs
    go_enter Tryd.func16, Tryd.ntmps16
    go_upto_region 1 with fail
    generalize hW : World.alloc (World.alloc _ _) _ = W
    obtain ⟨hB, hcl, han⟩ := two_new _ _ _ _ _ _ _ ⟨_, _, _, _, _, _⟩ _ _ w W hW
    clear hW
    generalize hz : w.heap.size = a1 at *
    have HZ := Lib.hid hz; clear hz
    have HB := Lib.hid hB; have HC := Lib.hid hcl; have HA := Lib.hid han; clear hB
    obtain ⟨l0, u0, u1, u2, u3, u4, u5, u6⟩ := hcl
    obtain ⟨l1, v0, v1, v2, v3, v4, v5⟩ := han
    simp only at v0 v1 v2 v3 v4 v5
    go_wp2_with fail
    refine (C1.out _).mono ?_
    rintro t w1 ⟨rfl, hb1⟩
    have hB1 := below_on HB.out (Nat.le_of_eq HZ.out.symm) hb1
    have hcl := HC.out.keep hb1
    have han := HA.out.keep hb1
    clear hb1 HB HC HA u0 u1 u2 u3 u4 u5 u6 v0 v1 v2 v3 v4 v5 l0 l1 C1 W
    have HB := Lib.hid hB1
    have hsz := hB1.size
    clear hB1
    obtain ⟨l0, u0, u1, u2, u3, u4, u5, u6⟩ := hcl
    obtain ⟨l1, v0, v1, v2, v3, v4, v5⟩ := han
    simp only at v0 v1 v2 v3 v4 v5
    go_wp2_with fail
    go_ret
    exact ⟨by rw [H.out]; first | rfl | exact congrArg (fun b => Ending.returned (.bool b)) (decide_eq_false (by omega)), by rw [HZ.out]; exact below_on HB.out (Nat.le_of_eq HZ.out.symm) ((Below.refl _ _).alloc (Nat.le_refl _) _)⟩
set_option maxHeartbeats 1000000 in
theorem r9Ok_3 (l key pa pb hd r a b h n k : Int) (hh : 0 ≤ h) (hm : mayC 3 l r = true) (w : World) : Calls Tryd.prog 16 #[(.agg #[.int .i64 3, .int .i64 l, .int .i64 key, .int .u64 pa, .int .u64 pb, .int .u64 hd, .int .i64 r]), (.agg #[.int .i64 0, .int .u64 a, .int .u64 b, .int .u64 h, .int .i64 n, .int .i64 k])] w fun t w' => t = .returned (.bool (toldT 3 a b h n k)) ∧ Below w.heap.size w w' := by
  have C1 := Lib.hid (fun W => (r9May_any 3 l key pa pb hd r W).mono (fun t w' hh => (show t = .returned (.bool true) ∧ Below W.heap.size W w' from hm ▸ hh)))
  clear hm
  by_cases h2 : n = 2
  · subst h2
    have hE : ∀ W, (binOp .neq 37 (.agg #[.int .i64 0, .int .u64 a, .int .u64 b, .int .u64 h, .int .i64 0, .int .i64 0]) (.agg #[.int .i64 0, .int .u64 0, .int .u64 0, .int .u64 0, .int .i64 0, .int .i64 0])).run Tryd.prog W = .ok (.bool (!sameA ⟨0, a, b, h, 0, 0⟩ zeroA)) W := fun W => neq_cells 0 a b h 0 0 0 0 0 0 0 0 W
    cases hs : sameA ⟨0, a, b, h, 0, 0⟩ zeroA
    · rw [hs] at hE
      have H := Lib.hid (show toldT 3 a b h 2 k = false by show (true && sameA ⟨0, a, b, h, 0, 0⟩ zeroA) = _; rw [hs]; rfl)
      clear hs
      go_enter Tryd.func16, Tryd.ntmps16
      go_upto_region 1 with fail
      generalize hW : World.alloc (World.alloc _ _) _ = W
      obtain ⟨hB, hcl, han⟩ := two_new _ _ _ _ _ _ _ ⟨_, _, _, _, _, _⟩ _ _ w W hW
      clear hW
      generalize hz : w.heap.size = a1 at *
      have HZ := Lib.hid hz; clear hz
      have HB := Lib.hid hB; have HC := Lib.hid hcl; have HA := Lib.hid han; clear hB
      obtain ⟨l0, u0, u1, u2, u3, u4, u5, u6⟩ := hcl
      obtain ⟨l1, v0, v1, v2, v3, v4, v5⟩ := han
      simp only at v0 v1 v2 v3 v4 v5
      go_wp2_with fail
      refine (C1.out _).mono ?_
      rintro t w1 ⟨rfl, hb1⟩
      have hB1 := below_on HB.out (Nat.le_of_eq HZ.out.symm) hb1
      have hcl := HC.out.keep hb1
      have han := HA.out.keep hb1
      clear hb1 HB HC HA u0 u1 u2 u3 u4 u5 u6 v0 v1 v2 v3 v4 v5 l0 l1 C1 W
      have HB := Lib.hid hB1
      have hsz := hB1.size
      clear hB1
      obtain ⟨l0, u0, u1, u2, u3, u4, u5, u6⟩ := hcl
      obtain ⟨l1, v0, v1, v2, v3, v4, v5⟩ := han
      simp only at v0 v1 v2 v3 v4 v5
      go_wp2_with fail
      go_ret
      exact ⟨by rw [H.out]; first | rfl | exact congrArg (fun b => Ending.returned (.bool b)) (decide_eq_false (by omega)), by rw [HZ.out]; exact below_on HB.out (Nat.le_of_eq HZ.out.symm) ((Below.refl _ _).alloc (Nat.le_refl _) _)⟩
    · rw [hs] at hE
      have H := Lib.hid (show toldT 3 a b h 2 k = true by show (true && sameA ⟨0, a, b, h, 0, 0⟩ zeroA) = _; rw [hs]; rfl)
      clear hs
      go_enter Tryd.func16, Tryd.ntmps16
      go_upto_region 1 with fail
      generalize hW : World.alloc (World.alloc _ _) _ = W
      obtain ⟨hB, hcl, han⟩ := two_new _ _ _ _ _ _ _ ⟨_, _, _, _, _, _⟩ _ _ w W hW
      clear hW
      generalize hz : w.heap.size = a1 at *
      have HZ := Lib.hid hz; clear hz
      have HB := Lib.hid hB; have HC := Lib.hid hcl; have HA := Lib.hid han; clear hB
      obtain ⟨l0, u0, u1, u2, u3, u4, u5, u6⟩ := hcl
      obtain ⟨l1, v0, v1, v2, v3, v4, v5⟩ := han
      simp only at v0 v1 v2 v3 v4 v5
      go_wp2_with fail
      refine (C1.out _).mono ?_
      rintro t w1 ⟨rfl, hb1⟩
      have hB1 := below_on HB.out (Nat.le_of_eq HZ.out.symm) hb1
      have hcl := HC.out.keep hb1
      have han := HA.out.keep hb1
      clear hb1 HB HC HA u0 u1 u2 u3 u4 u5 u6 v0 v1 v2 v3 v4 v5 l0 l1 C1 W
      have HB := Lib.hid hB1
      have hsz := hB1.size
      clear hB1
      obtain ⟨l0, u0, u1, u2, u3, u4, u5, u6⟩ := hcl
      obtain ⟨l1, v0, v1, v2, v3, v4, v5⟩ := han
      simp only at v0 v1 v2 v3 v4 v5
      go_wp2_with fail
      go_ret
      exact ⟨by rw [H.out]; first | rfl | exact congrArg (fun b => Ending.returned (.bool b)) (decide_eq_false (by omega)), by rw [HZ.out]; exact below_on HB.out (Nat.le_of_eq HZ.out.symm) ((Below.refl _ _).alloc (Nat.le_refl _) _)⟩
  have hq : (n == 2) = false := by simp [h2]
  have hE : ∀ W, (binOp .neq 37 (.agg #[.int .i64 0, .int .u64 a, .int .u64 b, .int .u64 h, .int .i64 0, .int .i64 k]) (.agg #[.int .i64 0, .int .u64 0, .int .u64 0, .int .u64 0, .int .i64 0, .int .i64 0])).run Tryd.prog W = .ok (.bool (!sameA ⟨0, a, b, h, 0, k⟩ zeroA)) W := fun W => neq_cells 0 a b h 0 k 0 0 0 0 0 0 W
  cases hs : sameA ⟨0, a, b, h, 0, k⟩ zeroA
  · rw [hs] at hE
    have H := Lib.hid (show toldT 3 a b h n k = false by show (decide (0 ≤ n ∧ n ≤ 2) && sameA ⟨0, a, b, h, 0, bif n == 2 then 0 else k⟩ zeroA) = _; rw [hq]; show (_ && sameA ⟨0, a, b, h, 0, k⟩ zeroA) = _; rw [hs]; cases decide (0 ≤ n ∧ n ≤ 2) <;> rfl)
    clear hs
    go_enter Tryd.func16, Tryd.ntmps16
    go_upto_region 1 with fail
    generalize hW : World.alloc (World.alloc _ _) _ = W
    obtain ⟨hB, hcl, han⟩ := two_new _ _ _ _ _ _ _ ⟨_, _, _, _, _, _⟩ _ _ w W hW
    clear hW
    generalize hz : w.heap.size = a1 at *
    have HZ := Lib.hid hz; clear hz
    have HB := Lib.hid hB; have HC := Lib.hid hcl; have HA := Lib.hid han; clear hB
    obtain ⟨l0, u0, u1, u2, u3, u4, u5, u6⟩ := hcl
    obtain ⟨l1, v0, v1, v2, v3, v4, v5⟩ := han
    simp only at v0 v1 v2 v3 v4 v5
    go_wp2_with fail
    refine (C1.out _).mono ?_
    rintro t w1 ⟨rfl, hb1⟩
    have hB1 := below_on HB.out (Nat.le_of_eq HZ.out.symm) hb1
    have hcl := HC.out.keep hb1
    have han := HA.out.keep hb1
    clear hb1 HB HC HA u0 u1 u2 u3 u4 u5 u6 v0 v1 v2 v3 v4 v5 l0 l1 C1 W
    have HB := Lib.hid hB1
    have hsz := hB1.size
    clear hB1
    obtain ⟨l0, u0, u1, u2, u3, u4, u5, u6⟩ := hcl
    obtain ⟨l1, v0, v1, v2, v3, v4, v5⟩ := han
    simp only at v0 v1 v2 v3 v4 v5
    go_wp2_with fail
    go_ret
    exact ⟨by rw [H.out]; first | rfl | exact congrArg (fun b => Ending.returned (.bool b)) (decide_eq_false (by omega)), by rw [HZ.out]; exact below_on HB.out (Nat.le_of_eq HZ.out.symm) ((Below.refl _ _).alloc (Nat.le_refl _) _)⟩
  · rw [hs] at hE
    by_cases h0 : 0 ≤ n ∧ n ≤ 2
    · have g1 := h0.1
      have g2 := h0.2
      have H := Lib.hid (show toldT 3 a b h n k = true by show (decide (0 ≤ n ∧ n ≤ 2) && sameA ⟨0, a, b, h, 0, bif n == 2 then 0 else k⟩ zeroA) = _; rw [hq, decide_eq_true h0]; show (true && sameA ⟨0, a, b, h, 0, k⟩ zeroA) = _; rw [hs]; rfl)
      clear hs h0
      go_enter Tryd.func16, Tryd.ntmps16
      go_upto_region 1 with fail
      generalize hW : World.alloc (World.alloc _ _) _ = W
      obtain ⟨hB, hcl, han⟩ := two_new _ _ _ _ _ _ _ ⟨_, _, _, _, _, _⟩ _ _ w W hW
      clear hW
      generalize hz : w.heap.size = a1 at *
      have HZ := Lib.hid hz; clear hz
      have HB := Lib.hid hB; have HC := Lib.hid hcl; have HA := Lib.hid han; clear hB
      obtain ⟨l0, u0, u1, u2, u3, u4, u5, u6⟩ := hcl
      obtain ⟨l1, v0, v1, v2, v3, v4, v5⟩ := han
      simp only at v0 v1 v2 v3 v4 v5
      go_wp2_with fail
      refine (C1.out _).mono ?_
      rintro t w1 ⟨rfl, hb1⟩
      have hB1 := below_on HB.out (Nat.le_of_eq HZ.out.symm) hb1
      have hcl := HC.out.keep hb1
      have han := HA.out.keep hb1
      clear hb1 HB HC HA u0 u1 u2 u3 u4 u5 u6 v0 v1 v2 v3 v4 v5 l0 l1 C1 W
      have HB := Lib.hid hB1
      have hsz := hB1.size
      clear hB1
      obtain ⟨l0, u0, u1, u2, u3, u4, u5, u6⟩ := hcl
      obtain ⟨l1, v0, v1, v2, v3, v4, v5⟩ := han
      simp only at v0 v1 v2 v3 v4 v5
      go_wp2_with fail
      go_ret
      exact ⟨by rw [H.out]; first | rfl | exact congrArg (fun b => Ending.returned (.bool b)) (decide_eq_false (by omega)), by rw [HZ.out]; exact below_on HB.out (Nat.le_of_eq HZ.out.symm) ((Below.refl _ _).alloc (Nat.le_refl _) _)⟩
    · have HF := Lib.hid (show toldT 3 a b h n k = false by show (decide (0 ≤ n ∧ n ≤ 2) && sameA ⟨0, a, b, h, 0, bif n == 2 then 0 else k⟩ zeroA) = _; rw [decide_eq_false h0]; rfl)
      by_cases g1 : 0 ≤ n
      · have g2 : ¬ n ≤ 2 := fun g => h0 ⟨g1, g⟩
        have H := HF
        clear hs h0 HF
        go_enter Tryd.func16, Tryd.ntmps16
        go_upto_region 1 with fail
        generalize hW : World.alloc (World.alloc _ _) _ = W
        obtain ⟨hB, hcl, han⟩ := two_new _ _ _ _ _ _ _ ⟨_, _, _, _, _, _⟩ _ _ w W hW
        clear hW
        generalize hz : w.heap.size = a1 at *
        have HZ := Lib.hid hz; clear hz
        have HB := Lib.hid hB; have HC := Lib.hid hcl; have HA := Lib.hid han; clear hB
        obtain ⟨l0, u0, u1, u2, u3, u4, u5, u6⟩ := hcl
        obtain ⟨l1, v0, v1, v2, v3, v4, v5⟩ := han
        simp only at v0 v1 v2 v3 v4 v5
        go_wp2_with fail
        refine (C1.out _).mono ?_
        rintro t w1 ⟨rfl, hb1⟩
        have hB1 := below_on HB.out (Nat.le_of_eq HZ.out.symm) hb1
        have hcl := HC.out.keep hb1
        have han := HA.out.keep hb1
        clear hb1 HB HC HA u0 u1 u2 u3 u4 u5 u6 v0 v1 v2 v3 v4 v5 l0 l1 C1 W
        have HB := Lib.hid hB1
        have hsz := hB1.size
        clear hB1
        obtain ⟨l0, u0, u1, u2, u3, u4, u5, u6⟩ := hcl
        obtain ⟨l1, v0, v1, v2, v3, v4, v5⟩ := han
        simp only at v0 v1 v2 v3 v4 v5
        go_wp2_with fail
        go_ret
        exact ⟨by rw [H.out]; first | rfl | exact congrArg (fun b => Ending.returned (.bool b)) (decide_eq_false (by omega)), by rw [HZ.out]; exact below_on HB.out (Nat.le_of_eq HZ.out.symm) ((Below.refl _ _).alloc (Nat.le_refl _) _)⟩
      · skip
        have H := HF
        clear hs h0 HF
        go_enter Tryd.func16, Tryd.ntmps16
        go_upto_region 1 with fail
        generalize hW : World.alloc (World.alloc _ _) _ = W
        obtain ⟨hB, hcl, han⟩ := two_new _ _ _ _ _ _ _ ⟨_, _, _, _, _, _⟩ _ _ w W hW
        clear hW
        generalize hz : w.heap.size = a1 at *
        have HZ := Lib.hid hz; clear hz
        have HB := Lib.hid hB; have HC := Lib.hid hcl; have HA := Lib.hid han; clear hB
        obtain ⟨l0, u0, u1, u2, u3, u4, u5, u6⟩ := hcl
        obtain ⟨l1, v0, v1, v2, v3, v4, v5⟩ := han
        simp only at v0 v1 v2 v3 v4 v5
        go_wp2_with fail
        refine (C1.out _).mono ?_
        rintro t w1 ⟨rfl, hb1⟩
        have hB1 := below_on HB.out (Nat.le_of_eq HZ.out.symm) hb1
        have hcl := HC.out.keep hb1
        have han := HA.out.keep hb1
        clear hb1 HB HC HA u0 u1 u2 u3 u4 u5 u6 v0 v1 v2 v3 v4 v5 l0 l1 C1 W
        have HB := Lib.hid hB1
        have hsz := hB1.size
        clear hB1
        obtain ⟨l0, u0, u1, u2, u3, u4, u5, u6⟩ := hcl
        obtain ⟨l1, v0, v1, v2, v3, v4, v5⟩ := han
        simp only at v0 v1 v2 v3 v4 v5
        go_wp2_with fail
        go_ret
        exact ⟨by rw [H.out]; first | rfl | exact congrArg (fun b => Ending.returned (.bool b)) (decide_eq_false (by omega)), by rw [HZ.out]; exact below_on HB.out (Nat.le_of_eq HZ.out.symm) ((Below.refl _ _).alloc (Nat.le_refl _) _)⟩
set_option maxHeartbeats 1000000 in
theorem r9Ok_4 (l key pa pb hd r a b h n k : Int) (hh : 0 ≤ h) (hm : mayC 4 l r = true) (w : World) : Calls Tryd.prog 16 #[(.agg #[.int .i64 4, .int .i64 l, .int .i64 key, .int .u64 pa, .int .u64 pb, .int .u64 hd, .int .i64 r]), (.agg #[.int .i64 0, .int .u64 a, .int .u64 b, .int .u64 h, .int .i64 n, .int .i64 k])] w fun t w' => t = .returned (.bool (toldT 4 a b h n k)) ∧ Below w.heap.size w w' := by
  have C1 := Lib.hid (fun W => (r9May_any 4 l key pa pb hd r W).mono (fun t w' hh => (show t = .returned (.bool true) ∧ Below W.heap.size W w' from hm ▸ hh)))
  clear hm
  have hE : ∀ W, (binOp .neq 37 (.agg #[.int .i64 0, .int .u64 0, .int .u64 0, .int .u64 h, .int .i64 n, .int .i64 k]) (.agg #[.int .i64 0, .int .u64 0, .int .u64 0, .int .u64 0, .int .i64 0, .int .i64 0])).run Tryd.prog W = .ok (.bool (!sameA ⟨0, 0, 0, h, n, k⟩ zeroA)) W := fun W => neq_cells 0 0 0 h n k 0 0 0 0 0 0 W
  cases hs : sameA ⟨0, 0, 0, h, n, k⟩ zeroA
  · rw [hs] at hE
    have H := Lib.hid (show toldT 4 a b h n k = false by show sameA ⟨0, 0, 0, h, n, k⟩ zeroA = _; rw [hs])
    clear hs
    go_enter Tryd.func16, Tryd.ntmps16
    go_upto_region 1 with fail
    generalize hW : World.alloc (World.alloc _ _) _ = W
    obtain ⟨hB, hcl, han⟩ := two_new _ _ _ _ _ _ _ ⟨_, _, _, _, _, _⟩ _ _ w W hW
    clear hW
    generalize hz : w.heap.size = a1 at *
    have HZ := Lib.hid hz; clear hz
    have HB := Lib.hid hB; have HC := Lib.hid hcl; have HA := Lib.hid han; clear hB
    obtain ⟨l0, u0, u1, u2, u3, u4, u5, u6⟩ := hcl
    obtain ⟨l1, v0, v1, v2, v3, v4, v5⟩ := han
    simp only at v0 v1 v2 v3 v4 v5
    go_wp2_with fail
    refine (C1.out _).mono ?_
    rintro t w1 ⟨rfl, hb1⟩
    have hB1 := below_on HB.out (Nat.le_of_eq HZ.out.symm) hb1
    have hcl := HC.out.keep hb1
    have han := HA.out.keep hb1
    clear hb1 HB HC HA u0 u1 u2 u3 u4 u5 u6 v0 v1 v2 v3 v4 v5 l0 l1 C1 W
    have HB := Lib.hid hB1
    have hsz := hB1.size
    clear hB1
    obtain ⟨l0, u0, u1, u2, u3, u4, u5, u6⟩ := hcl
    obtain ⟨l1, v0, v1, v2, v3, v4, v5⟩ := han
    simp only at v0 v1 v2 v3 v4 v5
    go_wp2_with fail
    go_ret
    exact ⟨by rw [H.out]; first | rfl | exact congrArg (fun b => Ending.returned (.bool b)) (decide_eq_false (by omega)), by rw [HZ.out]; exact below_on HB.out (Nat.le_of_eq HZ.out.symm) ((Below.refl _ _).alloc (Nat.le_refl _) _)⟩
  · rw [hs] at hE
    have H := Lib.hid (show toldT 4 a b h n k = true by show sameA ⟨0, 0, 0, h, n, k⟩ zeroA = _; rw [hs])
    obtain rfl := sameA_n hs
    clear hs
    go_enter Tryd.func16, Tryd.ntmps16
    go_upto_region 1 with fail
    generalize hW : World.alloc (World.alloc _ _) _ = W
    obtain ⟨hB, hcl, han⟩ := two_new _ _ _ _ _ _ _ ⟨_, _, _, _, _, _⟩ _ _ w W hW
    clear hW
    generalize hz : w.heap.size = a1 at *
    have HZ := Lib.hid hz; clear hz
    have HB := Lib.hid hB; have HC := Lib.hid hcl; have HA := Lib.hid han; clear hB
    obtain ⟨l0, u0, u1, u2, u3, u4, u5, u6⟩ := hcl
    obtain ⟨l1, v0, v1, v2, v3, v4, v5⟩ := han
    simp only at v0 v1 v2 v3 v4 v5
    go_wp2_with fail
    refine (C1.out _).mono ?_
    rintro t w1 ⟨rfl, hb1⟩
    have hB1 := below_on HB.out (Nat.le_of_eq HZ.out.symm) hb1
    have hcl := HC.out.keep hb1
    have han := HA.out.keep hb1
    clear hb1 HB HC HA u0 u1 u2 u3 u4 u5 u6 v0 v1 v2 v3 v4 v5 l0 l1 C1 W
    have HB := Lib.hid hB1
    have hsz := hB1.size
    clear hB1
    obtain ⟨l0, u0, u1, u2, u3, u4, u5, u6⟩ := hcl
    obtain ⟨l1, v0, v1, v2, v3, v4, v5⟩ := han
    simp only at v0 v1 v2 v3 v4 v5
    go_wp2_with fail
    go_ret
    exact ⟨by rw [H.out]; first | rfl | exact congrArg (fun b => Ending.returned (.bool b)) (decide_eq_false (by omega)), by rw [HZ.out]; exact below_on HB.out (Nat.le_of_eq HZ.out.symm) ((Below.refl _ _).alloc (Nat.le_refl _) _)⟩
set_option maxHeartbeats 1000000 in
theorem r9Ok_5 (l key pa pb hd r a b h n k : Int) (hh : 0 ≤ h) (hm : mayC 5 l r = true) (w : World) : Calls Tryd.prog 16 #[(.agg #[.int .i64 5, .int .i64 l, .int .i64 key, .int .u64 pa, .int .u64 pb, .int .u64 hd, .int .i64 r]), (.agg #[.int .i64 0, .int .u64 a, .int .u64 b, .int .u64 h, .int .i64 n, .int .i64 k])] w fun t w' => t = .returned (.bool (toldT 5 a b h n k)) ∧ Below w.heap.size w w' := by
  have C1 := Lib.hid (fun W => (r9May_any 5 l key pa pb hd r W).mono (fun t w' hh => (show t = .returned (.bool true) ∧ Below W.heap.size W w' from hm ▸ hh)))
  clear hm
  have hE : ∀ W, (binOp .neq 37 (.agg #[.int .i64 0, .int .u64 0, .int .u64 0, .int .u64 h, .int .i64 n, .int .i64 k]) (.agg #[.int .i64 0, .int .u64 0, .int .u64 0, .int .u64 0, .int .i64 0, .int .i64 0])).run Tryd.prog W = .ok (.bool (!sameA ⟨0, 0, 0, h, n, k⟩ zeroA)) W := fun W => neq_cells 0 0 0 h n k 0 0 0 0 0 0 W
  cases hs : sameA ⟨0, 0, 0, h, n, k⟩ zeroA
  · rw [hs] at hE
    have H := Lib.hid (show toldT 5 a b h n k = false by show sameA ⟨0, 0, 0, h, n, k⟩ zeroA = _; rw [hs])
    clear hs
    go_enter Tryd.func16, Tryd.ntmps16
    go_upto_region 1 with fail
    generalize hW : World.alloc (World.alloc _ _) _ = W
    obtain ⟨hB, hcl, han⟩ := two_new _ _ _ _ _ _ _ ⟨_, _, _, _, _, _⟩ _ _ w W hW
    clear hW
    generalize hz : w.heap.size = a1 at *
    have HZ := Lib.hid hz; clear hz
    have HB := Lib.hid hB; have HC := Lib.hid hcl; have HA := Lib.hid han; clear hB
    obtain ⟨l0, u0, u1, u2, u3, u4, u5, u6⟩ := hcl
    obtain ⟨l1, v0, v1, v2, v3, v4, v5⟩ := han
    simp only at v0 v1 v2 v3 v4 v5
    go_wp2_with fail
    refine (C1.out _).mono ?_
    rintro t w1 ⟨rfl, hb1⟩
    have hB1 := below_on HB.out (Nat.le_of_eq HZ.out.symm) hb1
    have hcl := HC.out.keep hb1
    have han := HA.out.keep hb1
    clear hb1 HB HC HA u0 u1 u2 u3 u4 u5 u6 v0 v1 v2 v3 v4 v5 l0 l1 C1 W
    have HB := Lib.hid hB1
    have hsz := hB1.size
    clear hB1
    obtain ⟨l0, u0, u1, u2, u3, u4, u5, u6⟩ := hcl
    obtain ⟨l1, v0, v1, v2, v3, v4, v5⟩ := han
    simp only at v0 v1 v2 v3 v4 v5
    go_wp2_with fail
    go_ret
    exact ⟨by rw [H.out]; first | rfl | exact congrArg (fun b => Ending.returned (.bool b)) (decide_eq_false (by omega)), by rw [HZ.out]; exact below_on HB.out (Nat.le_of_eq HZ.out.symm) ((Below.refl _ _).alloc (Nat.le_refl _) _)⟩
  · rw [hs] at hE
    have H := Lib.hid (show toldT 5 a b h n k = true by show sameA ⟨0, 0, 0, h, n, k⟩ zeroA = _; rw [hs])
    obtain rfl := sameA_n hs
    clear hs
    go_enter Tryd.func16, Tryd.ntmps16
    go_upto_region 1 with fail
    generalize hW : World.alloc (World.alloc _ _) _ = W
    obtain ⟨hB, hcl, han⟩ := two_new _ _ _ _ _ _ _ ⟨_, _, _, _, _, _⟩ _ _ w W hW
    clear hW
    generalize hz : w.heap.size = a1 at *
    have HZ := Lib.hid hz; clear hz
    have HB := Lib.hid hB; have HC := Lib.hid hcl; have HA := Lib.hid han; clear hB
    obtain ⟨l0, u0, u1, u2, u3, u4, u5, u6⟩ := hcl
    obtain ⟨l1, v0, v1, v2, v3, v4, v5⟩ := han
    simp only at v0 v1 v2 v3 v4 v5
    go_wp2_with fail
    refine (C1.out _).mono ?_
    rintro t w1 ⟨rfl, hb1⟩
    have hB1 := below_on HB.out (Nat.le_of_eq HZ.out.symm) hb1
    have hcl := HC.out.keep hb1
    have han := HA.out.keep hb1
    clear hb1 HB HC HA u0 u1 u2 u3 u4 u5 u6 v0 v1 v2 v3 v4 v5 l0 l1 C1 W
    have HB := Lib.hid hB1
    have hsz := hB1.size
    clear hB1
    obtain ⟨l0, u0, u1, u2, u3, u4, u5, u6⟩ := hcl
    obtain ⟨l1, v0, v1, v2, v3, v4, v5⟩ := han
    simp only at v0 v1 v2 v3 v4 v5
    go_wp2_with fail
    go_ret
    exact ⟨by rw [H.out]; first | rfl | exact congrArg (fun b => Ending.returned (.bool b)) (decide_eq_false (by omega)), by rw [HZ.out]; exact below_on HB.out (Nat.le_of_eq HZ.out.symm) ((Below.refl _ _).alloc (Nat.le_refl _) _)⟩
set_option maxHeartbeats 1000000 in
theorem r9Ok_6 (l key pa pb hd r a b h n k : Int) (hh : 0 ≤ h) (hm : mayC 6 l r = true) (w : World) : Calls Tryd.prog 16 #[(.agg #[.int .i64 6, .int .i64 l, .int .i64 key, .int .u64 pa, .int .u64 pb, .int .u64 hd, .int .i64 r]), (.agg #[.int .i64 0, .int .u64 a, .int .u64 b, .int .u64 h, .int .i64 n, .int .i64 k])] w fun t w' => t = .returned (.bool (toldT 6 a b h n k)) ∧ Below w.heap.size w w' := by
  have C1 := Lib.hid (fun W => (r9May_any 6 l key pa pb hd r W).mono (fun t w' hh => (show t = .returned (.bool true) ∧ Below W.heap.size W w' from hm ▸ hh)))
  clear hm
  have hE : ∀ W, (binOp .neq 37 (.agg #[.int .i64 0, .int .u64 a, .int .u64 b, .int .u64 h, .int .i64 n, .int .i64 k]) (.agg #[.int .i64 0, .int .u64 0, .int .u64 0, .int .u64 0, .int .i64 0, .int .i64 0])).run Tryd.prog W = .ok (.bool (!sameA ⟨0, a, b, h, n, k⟩ zeroA)) W := fun W => neq_cells 0 a b h n k 0 0 0 0 0 0 W
  cases hs : sameA ⟨0, a, b, h, n, k⟩ zeroA
  · rw [hs] at hE
    have H := Lib.hid (show toldT 6 a b h n k = false by show sameA ⟨0, a, b, h, n, k⟩ zeroA = _; rw [hs])
    clear hs
    go_enter Tryd.func16, Tryd.ntmps16
    go_upto_region 1 with fail
    generalize hW : World.alloc (World.alloc _ _) _ = W
    obtain ⟨hB, hcl, han⟩ := two_new _ _ _ _ _ _ _ ⟨_, _, _, _, _, _⟩ _ _ w W hW
    clear hW
    generalize hz : w.heap.size = a1 at *
    have HZ := Lib.hid hz; clear hz
    have HB := Lib.hid hB; have HC := Lib.hid hcl; have HA := Lib.hid han; clear hB
    obtain ⟨l0, u0, u1, u2, u3, u4, u5, u6⟩ := hcl
    obtain ⟨l1, v0, v1, v2, v3, v4, v5⟩ := han
    simp only at v0 v1 v2 v3 v4 v5
    go_wp2_with fail
    refine (C1.out _).mono ?_
    rintro t w1 ⟨rfl, hb1⟩
    have hB1 := below_on HB.out (Nat.le_of_eq HZ.out.symm) hb1
    have hcl := HC.out.keep hb1
    have han := HA.out.keep hb1
    clear hb1 HB HC HA u0 u1 u2 u3 u4 u5 u6 v0 v1 v2 v3 v4 v5 l0 l1 C1 W
    have HB := Lib.hid hB1
    have hsz := hB1.size
    clear hB1
    obtain ⟨l0, u0, u1, u2, u3, u4, u5, u6⟩ := hcl
    obtain ⟨l1, v0, v1, v2, v3, v4, v5⟩ := han
    simp only at v0 v1 v2 v3 v4 v5
    go_wp2_with fail
    go_ret
    exact ⟨by rw [H.out]; first | rfl | exact congrArg (fun b => Ending.returned (.bool b)) (decide_eq_false (by omega)), by rw [HZ.out]; exact below_on HB.out (Nat.le_of_eq HZ.out.symm) ((Below.refl _ _).alloc (Nat.le_refl _) _)⟩
  · rw [hs] at hE
    have H := Lib.hid (show toldT 6 a b h n k = true by show sameA ⟨0, a, b, h, n, k⟩ zeroA = _; rw [hs])
    obtain rfl := sameA_n hs
    clear hs
    go_enter Tryd.func16, Tryd.ntmps16
    go_upto_region 1 with fail
    generalize hW : World.alloc (World.alloc _ _) _ = W
    obtain ⟨hB, hcl, han⟩ := two_new _ _ _ _ _ _ _ ⟨_, _, _, _, _, _⟩ _ _ w W hW
    clear hW
    generalize hz : w.heap.size = a1 at *
    have HZ := Lib.hid hz; clear hz
    have HB := Lib.hid hB; have HC := Lib.hid hcl; have HA := Lib.hid han; clear hB
    obtain ⟨l0, u0, u1, u2, u3, u4, u5, u6⟩ := hcl
    obtain ⟨l1, v0, v1, v2, v3, v4, v5⟩ := han
    simp only at v0 v1 v2 v3 v4 v5
    go_wp2_with fail
    refine (C1.out _).mono ?_
    rintro t w1 ⟨rfl, hb1⟩
    have hB1 := below_on HB.out (Nat.le_of_eq HZ.out.symm) hb1
    have hcl := HC.out.keep hb1
    have han := HA.out.keep hb1
    clear hb1 HB HC HA u0 u1 u2 u3 u4 u5 u6 v0 v1 v2 v3 v4 v5 l0 l1 C1 W
    have HB := Lib.hid hB1
    have hsz := hB1.size
    clear hB1
    obtain ⟨l0, u0, u1, u2, u3, u4, u5, u6⟩ := hcl
    obtain ⟨l1, v0, v1, v2, v3, v4, v5⟩ := han
    simp only at v0 v1 v2 v3 v4 v5
    go_wp2_with fail
    go_ret
    exact ⟨by rw [H.out]; first | rfl | exact congrArg (fun b => Ending.returned (.bool b)) (decide_eq_false (by omega)), by rw [HZ.out]; exact below_on HB.out (Nat.le_of_eq HZ.out.symm) ((Below.refl _ _).alloc (Nat.le_refl _) _)⟩
set_option maxHeartbeats 1000000 in
theorem r9Ok_7 (l key pa pb hd r a b h n k : Int) (hh : 0 ≤ h) (hm : mayC 7 l r = true) (w : World) : Calls Tryd.prog 16 #[(.agg #[.int .i64 7, .int .i64 l, .int .i64 key, .int .u64 pa, .int .u64 pb, .int .u64 hd, .int .i64 r]), (.agg #[.int .i64 0, .int .u64 a, .int .u64 b, .int .u64 h, .int .i64 n, .int .i64 k])] w fun t w' => t = .returned (.bool (toldT 7 a b h n k)) ∧ Below w.heap.size w w' := by
  have C1 := Lib.hid (fun W => (r9May_any 7 l key pa pb hd r W).mono (fun t w' hh => (show t = .returned (.bool true) ∧ Below W.heap.size W w' from hm ▸ hh)))
  clear hm
  have hE : ∀ W, (binOp .neq 37 (.agg #[.int .i64 0, .int .u64 0, .int .u64 0, .int .u64 h, .int .i64 n, .int .i64 k]) (.agg #[.int .i64 0, .int .u64 0, .int .u64 0, .int .u64 0, .int .i64 0, .int .i64 0])).run Tryd.prog W = .ok (.bool (!sameA ⟨0, 0, 0, h, n, k⟩ zeroA)) W := fun W => neq_cells 0 0 0 h n k 0 0 0 0 0 0 W
  cases hs : sameA ⟨0, 0, 0, h, n, k⟩ zeroA
  · rw [hs] at hE
    have H := Lib.hid (show toldT 7 a b h n k = false by show sameA ⟨0, 0, 0, h, n, k⟩ zeroA = _; rw [hs])
    clear hs
    go_enter Tryd.func16, Tryd.ntmps16
    go_upto_region 1 with fail
    generalize hW : World.alloc (World.alloc _ _) _ = W
    obtain ⟨hB, hcl, han⟩ := two_new _ _ _ _ _ _ _ ⟨_, _, _, _, _, _⟩ _ _ w W hW
    clear hW
    generalize hz : w.heap.size = a1 at *
    have HZ := Lib.hid hz; clear hz
    have HB := Lib.hid hB; have HC := Lib.hid hcl; have HA := Lib.hid han; clear hB
    obtain ⟨l0, u0, u1, u2, u3, u4, u5, u6⟩ := hcl
    obtain ⟨l1, v0, v1, v2, v3, v4, v5⟩ := han
    simp only at v0 v1 v2 v3 v4 v5
    go_wp2_with fail
    refine (C1.out _).mono ?_
    rintro t w1 ⟨rfl, hb1⟩
    have hB1 := below_on HB.out (Nat.le_of_eq HZ.out.symm) hb1
    have hcl := HC.out.keep hb1
    have han := HA.out.keep hb1
    clear hb1 HB HC HA u0 u1 u2 u3 u4 u5 u6 v0 v1 v2 v3 v4 v5 l0 l1 C1 W
    have HB := Lib.hid hB1
    have hsz := hB1.size
    clear hB1
    obtain ⟨l0, u0, u1, u2, u3, u4, u5, u6⟩ := hcl
    obtain ⟨l1, v0, v1, v2, v3, v4, v5⟩ := han
    simp only at v0 v1 v2 v3 v4 v5
    go_wp2_with fail
    go_ret
    exact ⟨by rw [H.out]; first | rfl | exact congrArg (fun b => Ending.returned (.bool b)) (decide_eq_false (by omega)), by rw [HZ.out]; exact below_on HB.out (Nat.le_of_eq HZ.out.symm) ((Below.refl _ _).alloc (Nat.le_refl _) _)⟩
  · rw [hs] at hE
    have H := Lib.hid (show toldT 7 a b h n k = true by show sameA ⟨0, 0, 0, h, n, k⟩ zeroA = _; rw [hs])
    obtain rfl := sameA_n hs
    clear hs
    go_enter Tryd.func16, Tryd.ntmps16
    go_upto_region 1 with fail
    generalize hW : World.alloc (World.alloc _ _) _ = W
    obtain ⟨hB, hcl, han⟩ := two_new _ _ _ _ _ _ _ ⟨_, _, _, _, _, _⟩ _ _ w W hW
    clear hW
    generalize hz : w.heap.size = a1 at *
    have HZ := Lib.hid hz; clear hz
    have HB := Lib.hid hB; have HC := Lib.hid hcl; have HA := Lib.hid han; clear hB
    obtain ⟨l0, u0, u1, u2, u3, u4, u5, u6⟩ := hcl
    obtain ⟨l1, v0, v1, v2, v3, v4, v5⟩ := han
    simp only at v0 v1 v2 v3 v4 v5
    go_wp2_with fail
    refine (C1.out _).mono ?_
    rintro t w1 ⟨rfl, hb1⟩
    have hB1 := below_on HB.out (Nat.le_of_eq HZ.out.symm) hb1
    have hcl := HC.out.keep hb1
    have han := HA.out.keep hb1
    clear hb1 HB HC HA u0 u1 u2 u3 u4 u5 u6 v0 v1 v2 v3 v4 v5 l0 l1 C1 W
    have HB := Lib.hid hB1
    have hsz := hB1.size
    clear hB1
    obtain ⟨l0, u0, u1, u2, u3, u4, u5, u6⟩ := hcl
    obtain ⟨l1, v0, v1, v2, v3, v4, v5⟩ := han
    simp only at v0 v1 v2 v3 v4 v5
    go_wp2_with fail
    go_ret
    exact ⟨by rw [H.out]; first | rfl | exact congrArg (fun b => Ending.returned (.bool b)) (decide_eq_false (by omega)), by rw [HZ.out]; exact below_on HB.out (Nat.le_of_eq HZ.out.symm) ((Below.refl _ _).alloc (Nat.le_refl _) _)⟩
set_option maxHeartbeats 1000000 in
theorem r9Ok_8 (l key pa pb hd r a b h n k : Int) (hh : 0 ≤ h) (hm : mayC 8 l r = true) (w : World) : Calls Tryd.prog 16 #[(.agg #[.int .i64 8, .int .i64 l, .int .i64 key, .int .u64 pa, .int .u64 pb, .int .u64 hd, .int .i64 r]), (.agg #[.int .i64 0, .int .u64 a, .int .u64 b, .int .u64 h, .int .i64 n, .int .i64 k])] w fun t w' => t = .returned (.bool (toldT 8 a b h n k)) ∧ Below w.heap.size w w' := by
  have C1 := Lib.hid (fun W => (r9May_any 8 l key pa pb hd r W).mono (fun t w' hh => (show t = .returned (.bool true) ∧ Below W.heap.size W w' from hm ▸ hh)))
  clear hm
  have hE : ∀ W, (binOp .neq 37 (.agg #[.int .i64 0, .int .u64 0, .int .u64 0, .int .u64 h, .int .i64 n, .int .i64 k]) (.agg #[.int .i64 0, .int .u64 0, .int .u64 0, .int .u64 0, .int .i64 0, .int .i64 0])).run Tryd.prog W = .ok (.bool (!sameA ⟨0, 0, 0, h, n, k⟩ zeroA)) W := fun W => neq_cells 0 0 0 h n k 0 0 0 0 0 0 W
  cases hs : sameA ⟨0, 0, 0, h, n, k⟩ zeroA
  · rw [hs] at hE
    have H := Lib.hid (show toldT 8 a b h n k = false by show sameA ⟨0, 0, 0, h, n, k⟩ zeroA = _; rw [hs])
    clear hs
    go_enter Tryd.func16, Tryd.ntmps16
    go_upto_region 1 with fail
    generalize hW : World.alloc (World.alloc _ _) _ = W
    obtain ⟨hB, hcl, han⟩ := two_new _ _ _ _ _ _ _ ⟨_, _, _, _, _, _⟩ _ _ w W hW
    clear hW
    generalize hz : w.heap.size = a1 at *
    have HZ := Lib.hid hz; clear hz
    have HB := Lib.hid hB; have HC := Lib.hid hcl; have HA := Lib.hid han; clear hB
    obtain ⟨l0, u0, u1, u2, u3, u4, u5, u6⟩ := hcl
    obtain ⟨l1, v0, v1, v2, v3, v4, v5⟩ := han
    simp only at v0 v1 v2 v3 v4 v5
    go_wp2_with fail
    refine (C1.out _).mono ?_
    rintro t w1 ⟨rfl, hb1⟩
    have hB1 := below_on HB.out (Nat.le_of_eq HZ.out.symm) hb1
    have hcl := HC.out.keep hb1
    have han := HA.out.keep hb1
    clear hb1 HB HC HA u0 u1 u2 u3 u4 u5 u6 v0 v1 v2 v3 v4 v5 l0 l1 C1 W
    have HB := Lib.hid hB1
    have hsz := hB1.size
    clear hB1
    obtain ⟨l0, u0, u1, u2, u3, u4, u5, u6⟩ := hcl
    obtain ⟨l1, v0, v1, v2, v3, v4, v5⟩ := han
    simp only at v0 v1 v2 v3 v4 v5
    go_wp2_with fail
    go_ret
    exact ⟨by rw [H.out]; first | rfl | exact congrArg (fun b => Ending.returned (.bool b)) (decide_eq_false (by omega)), by rw [HZ.out]; exact below_on HB.out (Nat.le_of_eq HZ.out.symm) ((Below.refl _ _).alloc (Nat.le_refl _) _)⟩
  · rw [hs] at hE
    have H := Lib.hid (show toldT 8 a b h n k = true by show sameA ⟨0, 0, 0, h, n, k⟩ zeroA = _; rw [hs])
    obtain rfl := sameA_n hs
    clear hs
    go_enter Tryd.func16, Tryd.ntmps16
    go_upto_region 1 with fail
    generalize hW : World.alloc (World.alloc _ _) _ = W
    obtain ⟨hB, hcl, han⟩ := two_new _ _ _ _ _ _ _ ⟨_, _, _, _, _, _⟩ _ _ w W hW
    clear hW
    generalize hz : w.heap.size = a1 at *
    have HZ := Lib.hid hz; clear hz
    have HB := Lib.hid hB; have HC := Lib.hid hcl; have HA := Lib.hid han; clear hB
    obtain ⟨l0, u0, u1, u2, u3, u4, u5, u6⟩ := hcl
    obtain ⟨l1, v0, v1, v2, v3, v4, v5⟩ := han
    simp only at v0 v1 v2 v3 v4 v5
    go_wp2_with fail
    refine (C1.out _).mono ?_
    rintro t w1 ⟨rfl, hb1⟩
    have hB1 := below_on HB.out (Nat.le_of_eq HZ.out.symm) hb1
    have hcl := HC.out.keep hb1
    have han := HA.out.keep hb1
    clear hb1 HB HC HA u0 u1 u2 u3 u4 u5 u6 v0 v1 v2 v3 v4 v5 l0 l1 C1 W
    have HB := Lib.hid hB1
    have hsz := hB1.size
    clear hB1
    obtain ⟨l0, u0, u1, u2, u3, u4, u5, u6⟩ := hcl
    obtain ⟨l1, v0, v1, v2, v3, v4, v5⟩ := han
    simp only at v0 v1 v2 v3 v4 v5
    go_wp2_with fail
    go_ret
    exact ⟨by rw [H.out]; first | rfl | exact congrArg (fun b => Ending.returned (.bool b)) (decide_eq_false (by omega)), by rw [HZ.out]; exact below_on HB.out (Nat.le_of_eq HZ.out.symm) ((Below.refl _ _).alloc (Nat.le_refl _) _)⟩
set_option maxHeartbeats 1000000 in
theorem r9Ok_9 (l key pa pb hd r a b h n k : Int) (hh : 0 ≤ h) (hm : mayC 9 l r = true) (w : World) : Calls Tryd.prog 16 #[(.agg #[.int .i64 9, .int .i64 l, .int .i64 key, .int .u64 pa, .int .u64 pb, .int .u64 hd, .int .i64 r]), (.agg #[.int .i64 0, .int .u64 a, .int .u64 b, .int .u64 h, .int .i64 n, .int .i64 k])] w fun t w' => t = .returned (.bool (toldT 9 a b h n k)) ∧ Below w.heap.size w w' := by
  have C1 := Lib.hid (fun W => (r9May_any 9 l key pa pb hd r W).mono (fun t w' hh => (show t = .returned (.bool true) ∧ Below W.heap.size W w' from hm ▸ hh)))
  clear hm
  have hE : ∀ W, (binOp .neq 37 (.agg #[.int .i64 0, .int .u64 a, .int .u64 b, .int .u64 0, .int .i64 n, .int .i64 k]) (.agg #[.int .i64 0, .int .u64 0, .int .u64 0, .int .u64 0, .int .i64 0, .int .i64 0])).run Tryd.prog W = .ok (.bool (!sameA ⟨0, a, b, 0, n, k⟩ zeroA)) W := fun W => neq_cells 0 a b 0 n k 0 0 0 0 0 0 W
  cases hs : sameA ⟨0, a, b, 0, n, k⟩ zeroA
  · rw [hs] at hE
    have H := Lib.hid (show toldT 9 a b h n k = false by show (!(h == 0) && sameA ⟨0, a, b, 0, n, k⟩ zeroA) = _; rw [hs]; cases (h == 0) <;> rfl)
    clear hs
    go_enter Tryd.func16, Tryd.ntmps16
    go_upto_region 1 with fail
    generalize hW : World.alloc (World.alloc _ _) _ = W
    obtain ⟨hB, hcl, han⟩ := two_new _ _ _ _ _ _ _ ⟨_, _, _, _, _, _⟩ _ _ w W hW
    clear hW
    generalize hz : w.heap.size = a1 at *
    have HZ := Lib.hid hz; clear hz
    have HB := Lib.hid hB; have HC := Lib.hid hcl; have HA := Lib.hid han; clear hB
    obtain ⟨l0, u0, u1, u2, u3, u4, u5, u6⟩ := hcl
    obtain ⟨l1, v0, v1, v2, v3, v4, v5⟩ := han
    simp only at v0 v1 v2 v3 v4 v5
    go_wp2_with fail
    refine (C1.out _).mono ?_
    rintro t w1 ⟨rfl, hb1⟩
    have hB1 := below_on HB.out (Nat.le_of_eq HZ.out.symm) hb1
    have hcl := HC.out.keep hb1
    have han := HA.out.keep hb1
    clear hb1 HB HC HA u0 u1 u2 u3 u4 u5 u6 v0 v1 v2 v3 v4 v5 l0 l1 C1 W
    have HB := Lib.hid hB1
    have hsz := hB1.size
    clear hB1
    obtain ⟨l0, u0, u1, u2, u3, u4, u5, u6⟩ := hcl
    obtain ⟨l1, v0, v1, v2, v3, v4, v5⟩ := han
    simp only at v0 v1 v2 v3 v4 v5
    go_wp2_with fail
    go_ret
    exact ⟨by rw [H.out]; first | rfl | exact congrArg (fun b => Ending.returned (.bool b)) (decide_eq_false (by omega)), by rw [HZ.out]; exact below_on HB.out (Nat.le_of_eq HZ.out.symm) ((Below.refl _ _).alloc (Nat.le_refl _) _)⟩
  · rw [hs] at hE
    by_cases h0 : h = 0
    · subst h0
      have H := Lib.hid (show toldT 9 a b 0 n k = false from rfl)
      clear hs
      go_enter Tryd.func16, Tryd.ntmps16
      go_upto_region 1 with fail
      generalize hW : World.alloc (World.alloc _ _) _ = W
      obtain ⟨hB, hcl, han⟩ := two_new _ _ _ _ _ _ _ ⟨_, _, _, _, _, _⟩ _ _ w W hW
      clear hW
      generalize hz : w.heap.size = a1 at *
      have HZ := Lib.hid hz; clear hz
      have HB := Lib.hid hB; have HC := Lib.hid hcl; have HA := Lib.hid han; clear hB
      obtain ⟨l0, u0, u1, u2, u3, u4, u5, u6⟩ := hcl
      obtain ⟨l1, v0, v1, v2, v3, v4, v5⟩ := han
      simp only at v0 v1 v2 v3 v4 v5
      go_wp2_with fail
      refine (C1.out _).mono ?_
      rintro t w1 ⟨rfl, hb1⟩
      have hB1 := below_on HB.out (Nat.le_of_eq HZ.out.symm) hb1
      have hcl := HC.out.keep hb1
      have han := HA.out.keep hb1
      clear hb1 HB HC HA u0 u1 u2 u3 u4 u5 u6 v0 v1 v2 v3 v4 v5 l0 l1 C1 W
      have HB := Lib.hid hB1
      have hsz := hB1.size
      clear hB1
      obtain ⟨l0, u0, u1, u2, u3, u4, u5, u6⟩ := hcl
      obtain ⟨l1, v0, v1, v2, v3, v4, v5⟩ := han
      simp only at v0 v1 v2 v3 v4 v5
      go_wp2_with fail
      go_ret
      exact ⟨by rw [H.out]; first | rfl | exact congrArg (fun b => Ending.returned (.bool b)) (decide_eq_false (by omega)), by rw [HZ.out]; exact below_on HB.out (Nat.le_of_eq HZ.out.symm) ((Below.refl _ _).alloc (Nat.le_refl _) _)⟩
    · have g : 0 < h := by omega
      have H := Lib.hid (show toldT 9 a b h n k = true by show (!(h == 0) && sameA ⟨0, a, b, 0, n, k⟩ zeroA) = _; rw [hs, show (h == 0) = false by simp [h0]]; rfl)
      clear hs h0
      go_enter Tryd.func16, Tryd.ntmps16
      go_upto_region 1 with fail
      generalize hW : World.alloc (World.alloc _ _) _ = W
      obtain ⟨hB, hcl, han⟩ := two_new _ _ _ _ _ _ _ ⟨_, _, _, _, _, _⟩ _ _ w W hW
      clear hW
      generalize hz : w.heap.size = a1 at *
      have HZ := Lib.hid hz; clear hz
      have HB := Lib.hid hB; have HC := Lib.hid hcl; have HA := Lib.hid han; clear hB
      obtain ⟨l0, u0, u1, u2, u3, u4, u5, u6⟩ := hcl
      obtain ⟨l1, v0, v1, v2, v3, v4, v5⟩ := han
      simp only at v0 v1 v2 v3 v4 v5
      go_wp2_with fail
      refine (C1.out _).mono ?_
      rintro t w1 ⟨rfl, hb1⟩
      have hB1 := below_on HB.out (Nat.le_of_eq HZ.out.symm) hb1
      have hcl := HC.out.keep hb1
      have han := HA.out.keep hb1
      clear hb1 HB HC HA u0 u1 u2 u3 u4 u5 u6 v0 v1 v2 v3 v4 v5 l0 l1 C1 W
      have HB := Lib.hid hB1
      have hsz := hB1.size
      clear hB1
      obtain ⟨l0, u0, u1, u2, u3, u4, u5, u6⟩ := hcl
      obtain ⟨l1, v0, v1, v2, v3, v4, v5⟩ := han
      simp only at v0 v1 v2 v3 v4 v5
      go_wp2_with fail
      go_ret
      exact ⟨by rw [H.out]; first | rfl | exact congrArg (fun b => Ending.returned (.bool b)) (decide_eq_false (by omega)), by rw [HZ.out]; exact below_on HB.out (Nat.le_of_eq HZ.out.symm) ((Below.refl _ _).alloc (Nat.le_refl _) _)⟩
set_option maxHeartbeats 1000000 in
theorem r9Ok_10 (l key pa pb hd r a b h n k : Int) (hh : 0 ≤ h) (hm : mayC 10 l r = true) (w : World) : Calls Tryd.prog 16 #[(.agg #[.int .i64 10, .int .i64 l, .int .i64 key, .int .u64 pa, .int .u64 pb, .int .u64 hd, .int .i64 r]), (.agg #[.int .i64 0, .int .u64 a, .int .u64 b, .int .u64 h, .int .i64 n, .int .i64 k])] w fun t w' => t = .returned (.bool (toldT 10 a b h n k)) ∧ Below w.heap.size w w' := by
  have C1 := Lib.hid (fun W => (r9May_any 10 l key pa pb hd r W).mono (fun t w' hh => (show t = .returned (.bool true) ∧ Below W.heap.size W w' from hm ▸ hh)))
  clear hm
  have hE : ∀ W, (binOp .neq 37 (.agg #[.int .i64 0, .int .u64 0, .int .u64 0, .int .u64 h, .int .i64 n, .int .i64 k]) (.agg #[.int .i64 0, .int .u64 0, .int .u64 0, .int .u64 0, .int .i64 0, .int .i64 0])).run Tryd.prog W = .ok (.bool (!sameA ⟨0, 0, 0, h, n, k⟩ zeroA)) W := fun W => neq_cells 0 0 0 h n k 0 0 0 0 0 0 W
  cases hs : sameA ⟨0, 0, 0, h, n, k⟩ zeroA
  · rw [hs] at hE
    have H := Lib.hid (show toldT 10 a b h n k = false by show sameA ⟨0, 0, 0, h, n, k⟩ zeroA = _; rw [hs])
    clear hs
    go_enter Tryd.func16, Tryd.ntmps16
    go_upto_region 1 with fail
    generalize hW : World.alloc (World.alloc _ _) _ = W
    obtain ⟨hB, hcl, han⟩ := two_new _ _ _ _ _ _ _ ⟨_, _, _, _, _, _⟩ _ _ w W hW
    clear hW
    generalize hz : w.heap.size = a1 at *
    have HZ := Lib.hid hz; clear hz
    have HB := Lib.hid hB; have HC := Lib.hid hcl; have HA := Lib.hid han; clear hB
    obtain ⟨l0, u0, u1, u2, u3, u4, u5, u6⟩ := hcl
    obtain ⟨l1, v0, v1, v2, v3, v4, v5⟩ := han
    simp only at v0 v1 v2 v3 v4 v5
    go_wp2_with fail
    refine (C1.out _).mono ?_
    rintro t w1 ⟨rfl, hb1⟩
    have hB1 := below_on HB.out (Nat.le_of_eq HZ.out.symm) hb1
    have hcl := HC.out.keep hb1
    have han := HA.out.keep hb1
    clear hb1 HB HC HA u0 u1 u2 u3 u4 u5 u6 v0 v1 v2 v3 v4 v5 l0 l1 C1 W
    have HB := Lib.hid hB1
    have hsz := hB1.size
    clear hB1
    obtain ⟨l0, u0, u1, u2, u3, u4, u5, u6⟩ := hcl
    obtain ⟨l1, v0, v1, v2, v3, v4, v5⟩ := han
    simp only at v0 v1 v2 v3 v4 v5
    go_wp2_with fail
    go_ret
    exact ⟨by rw [H.out]; first | rfl | exact congrArg (fun b => Ending.returned (.bool b)) (decide_eq_false (by omega)), by rw [HZ.out]; exact below_on HB.out (Nat.le_of_eq HZ.out.symm) ((Below.refl _ _).alloc (Nat.le_refl _) _)⟩
  · rw [hs] at hE
    have H := Lib.hid (show toldT 10 a b h n k = true by show sameA ⟨0, 0, 0, h, n, k⟩ zeroA = _; rw [hs])
    obtain rfl := sameA_n hs
    clear hs
    go_enter Tryd.func16, Tryd.ntmps16
    go_upto_region 1 with fail
    generalize hW : World.alloc (World.alloc _ _) _ = W
    obtain ⟨hB, hcl, han⟩ := two_new _ _ _ _ _ _ _ ⟨_, _, _, _, _, _⟩ _ _ w W hW
    clear hW
    generalize hz : w.heap.size = a1 at *
    have HZ := Lib.hid hz; clear hz
    have HB := Lib.hid hB; have HC := Lib.hid hcl; have HA := Lib.hid han; clear hB
    obtain ⟨l0, u0, u1, u2, u3, u4, u5, u6⟩ := hcl
    obtain ⟨l1, v0, v1, v2, v3, v4, v5⟩ := han
    simp only at v0 v1 v2 v3 v4 v5
    go_wp2_with fail
    refine (C1.out _).mono ?_
    rintro t w1 ⟨rfl, hb1⟩
    have hB1 := below_on HB.out (Nat.le_of_eq HZ.out.symm) hb1
    have hcl := HC.out.keep hb1
    have han := HA.out.keep hb1
    clear hb1 HB HC HA u0 u1 u2 u3 u4 u5 u6 v0 v1 v2 v3 v4 v5 l0 l1 C1 W
    have HB := Lib.hid hB1
    have hsz := hB1.size
    clear hB1
    obtain ⟨l0, u0, u1, u2, u3, u4, u5, u6⟩ := hcl
    obtain ⟨l1, v0, v1, v2, v3, v4, v5⟩ := han
    simp only at v0 v1 v2 v3 v4 v5
    go_wp2_with fail
    go_ret
    exact ⟨by rw [H.out]; first | rfl | exact congrArg (fun b => Ending.returned (.bool b)) (decide_eq_false (by omega)), by rw [HZ.out]; exact below_on HB.out (Nat.le_of_eq HZ.out.symm) ((Below.refl _ _).alloc (Nat.le_refl _) _)⟩
set_option maxHeartbeats 1000000 in
theorem r9Ok_11 (l key pa pb hd r a b h n k : Int) (hh : 0 ≤ h) (hm : mayC 11 l r = true) (w : World) : Calls Tryd.prog 16 #[(.agg #[.int .i64 11, .int .i64 l, .int .i64 key, .int .u64 pa, .int .u64 pb, .int .u64 hd, .int .i64 r]), (.agg #[.int .i64 0, .int .u64 a, .int .u64 b, .int .u64 h, .int .i64 n, .int .i64 k])] w fun t w' => t = .returned (.bool (toldT 11 a b h n k)) ∧ Below w.heap.size w w' := by
  have C1 := Lib.hid (fun W => (r9May_any 11 l key pa pb hd r W).mono (fun t w' hh => (show t = .returned (.bool true) ∧ Below W.heap.size W w' from hm ▸ hh)))
  clear hm
  have hE : ∀ W, (binOp .neq 37 (.agg #[.int .i64 0, .int .u64 a, .int .u64 b, .int .u64 h, .int .i64 n, .int .i64 k]) (.agg #[.int .i64 0, .int .u64 0, .int .u64 0, .int .u64 0, .int .i64 0, .int .i64 0])).run Tryd.prog W = .ok (.bool (!sameA ⟨0, a, b, h, n, k⟩ zeroA)) W := fun W => neq_cells 0 a b h n k 0 0 0 0 0 0 W
  cases hs : sameA ⟨0, a, b, h, n, k⟩ zeroA
  · rw [hs] at hE
    have H := Lib.hid (show toldT 11 a b h n k = false by show sameA ⟨0, a, b, h, n, k⟩ zeroA = _; rw [hs])
    clear hs
    go_enter Tryd.func16, Tryd.ntmps16
    go_upto_region 1 with fail
    generalize hW : World.alloc (World.alloc _ _) _ = W
    obtain ⟨hB, hcl, han⟩ := two_new _ _ _ _ _ _ _ ⟨_, _, _, _, _, _⟩ _ _ w W hW
    clear hW
    generalize hz : w.heap.size = a1 at *
    have HZ := Lib.hid hz; clear hz
    have HB := Lib.hid hB; have HC := Lib.hid hcl; have HA := Lib.hid han; clear hB
    obtain ⟨l0, u0, u1, u2, u3, u4, u5, u6⟩ := hcl
    obtain ⟨l1, v0, v1, v2, v3, v4, v5⟩ := han
    simp only at v0 v1 v2 v3 v4 v5
    go_wp2_with fail
    refine (C1.out _).mono ?_
    rintro t w1 ⟨rfl, hb1⟩
    have hB1 := below_on HB.out (Nat.le_of_eq HZ.out.symm) hb1
    have hcl := HC.out.keep hb1
    have han := HA.out.keep hb1
    clear hb1 HB HC HA u0 u1 u2 u3 u4 u5 u6 v0 v1 v2 v3 v4 v5 l0 l1 C1 W
    have HB := Lib.hid hB1
    have hsz := hB1.size
    clear hB1
    obtain ⟨l0, u0, u1, u2, u3, u4, u5, u6⟩ := hcl
    obtain ⟨l1, v0, v1, v2, v3, v4, v5⟩ := han
    simp only at v0 v1 v2 v3 v4 v5
    go_wp2_with fail
    go_ret
    exact ⟨by rw [H.out]; first | rfl | exact congrArg (fun b => Ending.returned (.bool b)) (decide_eq_false (by omega)), by rw [HZ.out]; exact below_on HB.out (Nat.le_of_eq HZ.out.symm) ((Below.refl _ _).alloc (Nat.le_refl _) _)⟩
  · rw [hs] at hE
    have H := Lib.hid (show toldT 11 a b h n k = true by show sameA ⟨0, a, b, h, n, k⟩ zeroA = _; rw [hs])
    obtain rfl := sameA_n hs
    clear hs
    go_enter Tryd.func16, Tryd.ntmps16
    go_upto_region 1 with fail
    generalize hW : World.alloc (World.alloc _ _) _ = W
    obtain ⟨hB, hcl, han⟩ := two_new _ _ _ _ _ _ _ ⟨_, _, _, _, _, _⟩ _ _ w W hW
    clear hW
    generalize hz : w.heap.size = a1 at *
    have HZ := Lib.hid hz; clear hz
    have HB := Lib.hid hB; have HC := Lib.hid hcl; have HA := Lib.hid han; clear hB
    obtain ⟨l0, u0, u1, u2, u3, u4, u5, u6⟩ := hcl
    obtain ⟨l1, v0, v1, v2, v3, v4, v5⟩ := han
    simp only at v0 v1 v2 v3 v4 v5
    go_wp2_with fail
    refine (C1.out _).mono ?_
    rintro t w1 ⟨rfl, hb1⟩
    have hB1 := below_on HB.out (Nat.le_of_eq HZ.out.symm) hb1
    have hcl := HC.out.keep hb1
    have han := HA.out.keep hb1
    clear hb1 HB HC HA u0 u1 u2 u3 u4 u5 u6 v0 v1 v2 v3 v4 v5 l0 l1 C1 W
    have HB := Lib.hid hB1
    have hsz := hB1.size
    clear hB1
    obtain ⟨l0, u0, u1, u2, u3, u4, u5, u6⟩ := hcl
    obtain ⟨l1, v0, v1, v2, v3, v4, v5⟩ := han
    simp only at v0 v1 v2 v3 v4 v5
    go_wp2_with fail
    go_ret
    exact ⟨by rw [H.out]; first | rfl | exact congrArg (fun b => Ending.returned (.bool b)) (decide_eq_false (by omega)), by rw [HZ.out]; exact below_on HB.out (Nat.le_of_eq HZ.out.symm) ((Below.refl _ _).alloc (Nat.le_refl _) _)⟩
set_option maxHeartbeats 1000000 in
theorem r9Ok_12 (l key pa pb hd r a b h n k : Int) (hh : 0 ≤ h) (hm : mayC 12 l r = true) (w : World) : Calls Tryd.prog 16 #[(.agg #[.int .i64 12, .int .i64 l, .int .i64 key, .int .u64 pa, .int .u64 pb, .int .u64 hd, .int .i64 r]), (.agg #[.int .i64 0, .int .u64 a, .int .u64 b, .int .u64 h, .int .i64 n, .int .i64 k])] w fun t w' => t = .returned (.bool (toldT 12 a b h n k)) ∧ Below w.heap.size w w' := by
  have C1 := Lib.hid (fun W => (r9May_any 12 l key pa pb hd r W).mono (fun t w' hh => (show t = .returned (.bool true) ∧ Below W.heap.size W w' from hm ▸ hh)))
  clear hm
  have hE : ∀ W, (binOp .neq 37 (.agg #[.int .i64 0, .int .u64 a, .int .u64 b, .int .u64 h, .int .i64 0, .int .i64 k]) (.agg #[.int .i64 0, .int .u64 0, .int .u64 0, .int .u64 0, .int .i64 0, .int .i64 0])).run Tryd.prog W = .ok (.bool (!sameA ⟨0, a, b, h, 0, k⟩ zeroA)) W := fun W => neq_cells 0 a b h 0 k 0 0 0 0 0 0 W
  cases hs : sameA ⟨0, a, b, h, 0, k⟩ zeroA
  · rw [hs] at hE
    have H := Lib.hid (show toldT 12 a b h n k = false by show (decide (0 ≤ n) && sameA ⟨0, a, b, h, 0, k⟩ zeroA) = _; rw [hs]; cases decide (0 ≤ n) <;> rfl)
    clear hs
    go_enter Tryd.func16, Tryd.ntmps16
    go_upto_region 1 with fail
    generalize hW : World.alloc (World.alloc _ _) _ = W
    obtain ⟨hB, hcl, han⟩ := two_new _ _ _ _ _ _ _ ⟨_, _, _, _, _, _⟩ _ _ w W hW
    clear hW
    generalize hz : w.heap.size = a1 at *
    have HZ := Lib.hid hz; clear hz
    have HB := Lib.hid hB; have HC := Lib.hid hcl; have HA := Lib.hid han; clear hB
    obtain ⟨l0, u0, u1, u2, u3, u4, u5, u6⟩ := hcl
    obtain ⟨l1, v0, v1, v2, v3, v4, v5⟩ := han
    simp only at v0 v1 v2 v3 v4 v5
    go_wp2_with fail
    refine (C1.out _).mono ?_
    rintro t w1 ⟨rfl, hb1⟩
    have hB1 := below_on HB.out (Nat.le_of_eq HZ.out.symm) hb1
    have hcl := HC.out.keep hb1
    have han := HA.out.keep hb1
    clear hb1 HB HC HA u0 u1 u2 u3 u4 u5 u6 v0 v1 v2 v3 v4 v5 l0 l1 C1 W
    have HB := Lib.hid hB1
    have hsz := hB1.size
    clear hB1
    obtain ⟨l0, u0, u1, u2, u3, u4, u5, u6⟩ := hcl
    obtain ⟨l1, v0, v1, v2, v3, v4, v5⟩ := han
    simp only at v0 v1 v2 v3 v4 v5
    go_wp2_with fail
    go_ret
    exact ⟨by rw [H.out]; first | rfl | exact congrArg (fun b => Ending.returned (.bool b)) (decide_eq_false (by omega)), by rw [HZ.out]; exact below_on HB.out (Nat.le_of_eq HZ.out.symm) ((Below.refl _ _).alloc (Nat.le_refl _) _)⟩
  · rw [hs] at hE
    by_cases h0 : 0 ≤ n
    · skip
      have H := Lib.hid (show toldT 12 a b h n k = true by show (decide (0 ≤ n) && sameA ⟨0, a, b, h, 0, k⟩ zeroA) = _; rw [hs, decide_eq_true h0]; rfl)
      clear hs
      go_enter Tryd.func16, Tryd.ntmps16
      go_upto_region 1 with fail
      generalize hW : World.alloc (World.alloc _ _) _ = W
      obtain ⟨hB, hcl, han⟩ := two_new _ _ _ _ _ _ _ ⟨_, _, _, _, _, _⟩ _ _ w W hW
      clear hW
      generalize hz : w.heap.size = a1 at *
      have HZ := Lib.hid hz; clear hz
      have HB := Lib.hid hB; have HC := Lib.hid hcl; have HA := Lib.hid han; clear hB
      obtain ⟨l0, u0, u1, u2, u3, u4, u5, u6⟩ := hcl
      obtain ⟨l1, v0, v1, v2, v3, v4, v5⟩ := han
      simp only at v0 v1 v2 v3 v4 v5
      go_wp2_with fail
      refine (C1.out _).mono ?_
      rintro t w1 ⟨rfl, hb1⟩
      have hB1 := below_on HB.out (Nat.le_of_eq HZ.out.symm) hb1
      have hcl := HC.out.keep hb1
      have han := HA.out.keep hb1
      clear hb1 HB HC HA u0 u1 u2 u3 u4 u5 u6 v0 v1 v2 v3 v4 v5 l0 l1 C1 W
      have HB := Lib.hid hB1
      have hsz := hB1.size
      clear hB1
      obtain ⟨l0, u0, u1, u2, u3, u4, u5, u6⟩ := hcl
      obtain ⟨l1, v0, v1, v2, v3, v4, v5⟩ := han
      simp only at v0 v1 v2 v3 v4 v5
      go_wp2_with fail
      go_ret
      exact ⟨by rw [H.out]; first | rfl | exact congrArg (fun b => Ending.returned (.bool b)) (decide_eq_false (by omega)), by rw [HZ.out]; exact below_on HB.out (Nat.le_of_eq HZ.out.symm) ((Below.refl _ _).alloc (Nat.le_refl _) _)⟩
    · skip
      have H := Lib.hid (show toldT 12 a b h n k = false by show (decide (0 ≤ n) && sameA ⟨0, a, b, h, 0, k⟩ zeroA) = _; rw [decide_eq_false h0]; rfl)
      clear hs
      go_enter Tryd.func16, Tryd.ntmps16
      go_upto_region 1 with fail
      generalize hW : World.alloc (World.alloc _ _) _ = W
      obtain ⟨hB, hcl, han⟩ := two_new _ _ _ _ _ _ _ ⟨_, _, _, _, _, _⟩ _ _ w W hW
      clear hW
      generalize hz : w.heap.size = a1 at *
      have HZ := Lib.hid hz; clear hz
      have HB := Lib.hid hB; have HC := Lib.hid hcl; have HA := Lib.hid han; clear hB
      obtain ⟨l0, u0, u1, u2, u3, u4, u5, u6⟩ := hcl
      obtain ⟨l1, v0, v1, v2, v3, v4, v5⟩ := han
      simp only at v0 v1 v2 v3 v4 v5
      go_wp2_with fail
      refine (C1.out _).mono ?_
      rintro t w1 ⟨rfl, hb1⟩
      have hB1 := below_on HB.out (Nat.le_of_eq HZ.out.symm) hb1
      have hcl := HC.out.keep hb1
      have han := HA.out.keep hb1
      clear hb1 HB HC HA u0 u1 u2 u3 u4 u5 u6 v0 v1 v2 v3 v4 v5 l0 l1 C1 W
      have HB := Lib.hid hB1
      have hsz := hB1.size
      clear hB1
      obtain ⟨l0, u0, u1, u2, u3, u4, u5, u6⟩ := hcl
      obtain ⟨l1, v0, v1, v2, v3, v4, v5⟩ := han
      simp only at v0 v1 v2 v3 v4 v5
      go_wp2_with fail
      go_ret
      exact ⟨by rw [H.out]; first | rfl | exact congrArg (fun b => Ending.returned (.bool b)) (decide_eq_false (by omega)), by rw [HZ.out]; exact below_on HB.out (Nat.le_of_eq HZ.out.symm) ((Below.refl _ _).alloc (Nat.le_refl _) _)⟩
theorem r9Ok (op l key pa pb hd r a b h n k : Int) (hh : 0 ≤ h) (hm : mayC op l r = true) (w : World) : Calls Tryd.prog 16 #[(.agg #[.int .i64 op, .int .i64 l, .int .i64 key, .int .u64 pa, .int .u64 pb, .int .u64 hd, .int .i64 r]), (.agg #[.int .i64 0, .int .u64 a, .int .u64 b, .int .u64 h, .int .i64 n, .int .i64 k])] w fun t w' => t = .returned (.bool (toldT op a b h n k)) ∧ Below w.heap.size w w' := by
  rcases ops13 (mayC_ops hm).1 (mayC_ops hm).2 with rfl | rfl | rfl | rfl | rfl | rfl | rfl | rfl | rfl | rfl | rfl | rfl | rfl
  · exact r9Ok_0 l key pa pb hd r a b h n k hh hm w
  · exact r9Ok_1 l key pa pb hd r a b h n k hh hm w
  · exact r9Ok_2 l key pa pb hd r a b h n k hh hm w
  · exact r9Ok_3 l key pa pb hd r a b h n k hh hm w
  · exact r9Ok_4 l key pa pb hd r a b h n k hh hm w
  · exact r9Ok_5 l key pa pb hd r a b h n k hh hm w
  · exact r9Ok_6 l key pa pb hd r a b h n k hh hm w
  · exact r9Ok_7 l key pa pb hd r a b h n k hh hm w
  · exact r9Ok_8 l key pa pb hd r a b h n k hh hm w
  · exact r9Ok_9 l key pa pb hd r a b h n k hh hm w
  · exact r9Ok_10 l key pa pb hd r a b h n k hh hm w
  · exact r9Ok_11 l key pa pb hd r a b h n k hh hm w
  · exact r9Ok_12 l key pa pb hd r a b h n k hh hm w
end Go.Proofs.YthhheeocanbkiaaDoor
