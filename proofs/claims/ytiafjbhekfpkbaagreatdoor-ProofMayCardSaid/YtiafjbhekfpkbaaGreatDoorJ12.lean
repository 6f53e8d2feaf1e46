/- What a call may be answered where it is done, where it isn't: package call's answers. -/
import Derived.Test.YtiafjbhekfpkbaaGreatDoorJ11
namespace Go.Proofs.YtiafjbhekfpkbaaGreatDoor
set_option linter.unusedSimpArgs false
set_option linter.unusedVariables false
open Go.ChangeShapes Go.WideShapes Go.ChangeAt Go.RowKit

def zeroAn9 : Ans := ⟨0, 0, 0, 0, 0, 0⟩
def pairsB (op : Int) : Bool := op == 1 || (op == 2 || (op == 4 || (op == 5 || (op == 7 || (op == 8 || op == 10)))))
/-- May this be told with OK? -/
def toldT (op a b h n k : Int) : Bool :=
  bif op == 3 then decide (0 ≤ n ∧ n ≤ 2) && sameA ⟨0, a, b, h, 0, bif n == 2 then 0 else k⟩ zeroAn9
  else bif op == 9 then !(h == 0) && sameA ⟨0, a, b, 0, n, k⟩ zeroAn9
  else bif op == 12 then decide (0 ≤ n) && sameA ⟨0, a, b, h, 0, k⟩ zeroAn9
  else bif pairsB op then sameA ⟨0, 0, 0, h, n, k⟩ zeroAn9
  else sameA ⟨0, a, b, h, n, k⟩ zeroAn9
/-- The codes by which an op isn't done, besides ErrPolicy. -/
def refs (op : Int) : List Int := [[7, 8], [6, 13], [6, 9], [8, 9], [6, 13], [6, 9], [8], [6, 9], [6, 13], [8, 10], [11, 13], [11, 9]].getD op.toNat []
def badT (op e : Int) : Bool := (refs op).contains e || e == 12
def fitsC (op l r : Int) (x : Ans) : Bool := bif mayC op l r then (bif x.e == 0 then toldT op x.a x.b x.h x.n x.k else badT op x.e && sameA x ⟨x.e, 0, 0, 0, 0, 0⟩) else false
theorem kSame_cells (e a b h n k e' a' b' h' n' k' : Int) (w : World) : Calls Tryz.prog 54 #[.agg #[.int .i64 e, .int .u64 a, .int .u64 b, .int .u64 h, .int .i64 n, .int .i64 k], .agg #[.int .i64 e', .int .u64 a', .int .u64 b', .int .u64 h', .int .i64 n', .int .i64 k']] w
    fun r w' => r = .returned (.bool (sameA ⟨e, a, b, h, n, k⟩ ⟨e', a', b', h', n', k'⟩)) ∧ Below w.heap.size w w' := kSame_any ⟨e, a, b, h, n, k⟩ ⟨e', a', b', h', n', k'⟩ w
theorem tells_0 (a b h n k : Int) (w : World) : Calls Tryz.prog 68 #[.int .i64 0, (.agg #[.int .i64 0, .int .u64 a, .int .u64 b, .int .u64 h, .int .i64 n, .int .i64 k])] w fun r w' => r = .returned (.bool (toldT 0 a b h n k)) ∧ Below w.heap.size w w' := by
  have C1 := Lib.hid (fun a b h n k W => kSame_cells 0 a b h n k 0 0 0 0 0 0 W)
  go_enter Tryz.func68, Tryz.ntmps68
  go_wp2_with (with_reducible refine (C1.out _ _ _ _ _ _).mono ?_; rintro e w1 ⟨rfl, hb1⟩)
  go_ret
  exact ⟨rfl, (((Below.refl _ _).alloc (Nat.le_refl _) _)).trans (hb1.mono (by simp))⟩
theorem tells_6 (a b h n k : Int) (w : World) : Calls Tryz.prog 68 #[.int .i64 6, (.agg #[.int .i64 0, .int .u64 a, .int .u64 b, .int .u64 h, .int .i64 n, .int .i64 k])] w fun r w' => r = .returned (.bool (toldT 6 a b h n k)) ∧ Below w.heap.size w w' := by
  have C1 := Lib.hid (fun a b h n k W => kSame_cells 0 a b h n k 0 0 0 0 0 0 W)
  go_enter Tryz.func68, Tryz.ntmps68
  go_wp2_with (with_reducible refine (C1.out _ _ _ _ _ _).mono ?_; rintro e w1 ⟨rfl, hb1⟩)
  go_ret
  exact ⟨rfl, (((Below.refl _ _).alloc (Nat.le_refl _) _)).trans (hb1.mono (by simp))⟩
theorem tells_11 (a b h n k : Int) (w : World) : Calls Tryz.prog 68 #[.int .i64 11, (.agg #[.int .i64 0, .int .u64 a, .int .u64 b, .int .u64 h, .int .i64 n, .int .i64 k])] w fun r w' => r = .returned (.bool (toldT 11 a b h n k)) ∧ Below w.heap.size w w' := by
  have C1 := Lib.hid (fun a b h n k W => kSame_cells 0 a b h n k 0 0 0 0 0 0 W)
  go_enter Tryz.func68, Tryz.ntmps68
  go_wp2_with (with_reducible refine (C1.out _ _ _ _ _ _).mono ?_; rintro e w1 ⟨rfl, hb1⟩)
  go_ret
  exact ⟨rfl, (((Below.refl _ _).alloc (Nat.le_refl _) _)).trans (hb1.mono (by simp))⟩
theorem tells_1 (a b h n k : Int) (w : World) : Calls Tryz.prog 68 #[.int .i64 1, (.agg #[.int .i64 0, .int .u64 a, .int .u64 b, .int .u64 h, .int .i64 n, .int .i64 k])] w fun r w' => r = .returned (.bool (toldT 1 a b h n k)) ∧ Below w.heap.size w w' := by
  have C1 := Lib.hid (fun a b h n k W => kSame_cells 0 a b h n k 0 0 0 0 0 0 W)
  go_enter Tryz.func68, Tryz.ntmps68
  go_wp2_with (with_reducible refine (C1.out _ _ _ _ _ _).mono ?_; rintro e w1 ⟨rfl, hb1⟩)
  go_ret
  exact ⟨rfl, (((Below.refl _ _).alloc (Nat.le_refl _) _)).trans (hb1.mono (by simp))⟩
theorem tells_2 (a b h n k : Int) (w : World) : Calls Tryz.prog 68 #[.int .i64 2, (.agg #[.int .i64 0, .int .u64 a, .int .u64 b, .int .u64 h, .int .i64 n, .int .i64 k])] w fun r w' => r = .returned (.bool (toldT 2 a b h n k)) ∧ Below w.heap.size w w' := by
  have C1 := Lib.hid (fun a b h n k W => kSame_cells 0 a b h n k 0 0 0 0 0 0 W)
  go_enter Tryz.func68, Tryz.ntmps68
  go_wp2_with (with_reducible refine (C1.out _ _ _ _ _ _).mono ?_; rintro e w1 ⟨rfl, hb1⟩)
  go_ret
  exact ⟨rfl, (((Below.refl _ _).alloc (Nat.le_refl _) _)).trans (hb1.mono (by simp))⟩
theorem tells_4 (a b h n k : Int) (w : World) : Calls Tryz.prog 68 #[.int .i64 4, (.agg #[.int .i64 0, .int .u64 a, .int .u64 b, .int .u64 h, .int .i64 n, .int .i64 k])] w fun r w' => r = .returned (.bool (toldT 4 a b h n k)) ∧ Below w.heap.size w w' := by
  have C1 := Lib.hid (fun a b h n k W => kSame_cells 0 a b h n k 0 0 0 0 0 0 W)
  go_enter Tryz.func68, Tryz.ntmps68
  go_wp2_with (with_reducible refine (C1.out _ _ _ _ _ _).mono ?_; rintro e w1 ⟨rfl, hb1⟩)
  go_ret
  exact ⟨rfl, (((Below.refl _ _).alloc (Nat.le_refl _) _)).trans (hb1.mono (by simp))⟩
theorem tells_5 (a b h n k : Int) (w : World) : Calls Tryz.prog 68 #[.int .i64 5, (.agg #[.int .i64 0, .int .u64 a, .int .u64 b, .int .u64 h, .int .i64 n, .int .i64 k])] w fun r w' => r = .returned (.bool (toldT 5 a b h n k)) ∧ Below w.heap.size w w' := by
  have C1 := Lib.hid (fun a b h n k W => kSame_cells 0 a b h n k 0 0 0 0 0 0 W)
  go_enter Tryz.func68, Tryz.ntmps68
  go_wp2_with (with_reducible refine (C1.out _ _ _ _ _ _).mono ?_; rintro e w1 ⟨rfl, hb1⟩)
  go_ret
  exact ⟨rfl, (((Below.refl _ _).alloc (Nat.le_refl _) _)).trans (hb1.mono (by simp))⟩
theorem tells_7 (a b h n k : Int) (w : World) : Calls Tryz.prog 68 #[.int .i64 7, (.agg #[.int .i64 0, .int .u64 a, .int .u64 b, .int .u64 h, .int .i64 n, .int .i64 k])] w fun r w' => r = .returned (.bool (toldT 7 a b h n k)) ∧ Below w.heap.size w w' := by
  have C1 := Lib.hid (fun a b h n k W => kSame_cells 0 a b h n k 0 0 0 0 0 0 W)
  go_enter Tryz.func68, Tryz.ntmps68
  go_wp2_with (with_reducible refine (C1.out _ _ _ _ _ _).mono ?_; rintro e w1 ⟨rfl, hb1⟩)
  go_ret
  exact ⟨rfl, (((Below.refl _ _).alloc (Nat.le_refl _) _)).trans (hb1.mono (by simp))⟩
theorem tells_8 (a b h n k : Int) (w : World) : Calls Tryz.prog 68 #[.int .i64 8, (.agg #[.int .i64 0, .int .u64 a, .int .u64 b, .int .u64 h, .int .i64 n, .int .i64 k])] w fun r w' => r = .returned (.bool (toldT 8 a b h n k)) ∧ Below w.heap.size w w' := by
  have C1 := Lib.hid (fun a b h n k W => kSame_cells 0 a b h n k 0 0 0 0 0 0 W)
  go_enter Tryz.func68, Tryz.ntmps68
  go_wp2_with (with_reducible refine (C1.out _ _ _ _ _ _).mono ?_; rintro e w1 ⟨rfl, hb1⟩)
  go_ret
  exact ⟨rfl, (((Below.refl _ _).alloc (Nat.le_refl _) _)).trans (hb1.mono (by simp))⟩
theorem tells_10 (a b h n k : Int) (w : World) : Calls Tryz.prog 68 #[.int .i64 10, (.agg #[.int .i64 0, .int .u64 a, .int .u64 b, .int .u64 h, .int .i64 n, .int .i64 k])] w fun r w' => r = .returned (.bool (toldT 10 a b h n k)) ∧ Below w.heap.size w w' := by
  have C1 := Lib.hid (fun a b h n k W => kSame_cells 0 a b h n k 0 0 0 0 0 0 W)
  go_enter Tryz.func68, Tryz.ntmps68
  go_wp2_with (with_reducible refine (C1.out _ _ _ _ _ _).mono ?_; rintro e w1 ⟨rfl, hb1⟩)
  go_ret
  exact ⟨rfl, (((Below.refl _ _).alloc (Nat.le_refl _) _)).trans (hb1.mono (by simp))⟩
theorem tells_9 (a b h n k : Int) (w : World) : Calls Tryz.prog 68 #[.int .i64 9, (.agg #[.int .i64 0, .int .u64 a, .int .u64 b, .int .u64 h, .int .i64 n, .int .i64 k])] w fun r w' => r = .returned (.bool (toldT 9 a b h n k)) ∧ Below w.heap.size w w' := by
  have C1 := Lib.hid (fun a b h n k W => kSame_cells 0 a b h n k 0 0 0 0 0 0 W)
  by_cases h0 : h = 0
  · subst h0
    go_enter Tryz.func68, Tryz.ntmps68
    go_wp2_with fail
    go_ret
    exact ⟨rfl, (Below.refl _ _).alloc (Nat.le_refl _) _⟩
  · have hf : (h == 0) = false := by simp [h0]
    have H := Lib.hid (show toldT 9 a b h n k = sameA ⟨0, a, b, 0, n, k⟩ zeroAn9 by show (!(h == 0) && _) = _; rw [hf]; rfl)
    go_enter Tryz.func68, Tryz.ntmps68
    go_wp2_with (with_reducible refine (C1.out _ _ _ _ _ _).mono ?_; rintro e w1 ⟨rfl, hb1⟩)
    rw [H.out]
    go_ret
    exact ⟨rfl, (((Below.refl _ _).alloc (Nat.le_refl _) _)).trans (hb1.mono (by simp))⟩
theorem tells_12 (a b h n k : Int) (w : World) : Calls Tryz.prog 68 #[.int .i64 12, (.agg #[.int .i64 0, .int .u64 a, .int .u64 b, .int .u64 h, .int .i64 n, .int .i64 k])] w fun r w' => r = .returned (.bool (toldT 12 a b h n k)) ∧ Below w.heap.size w w' := by
  have C1 := Lib.hid (fun a b h n k W => kSame_cells 0 a b h n k 0 0 0 0 0 0 W)
  by_cases h0 : n < 0
  · have H := Lib.hid (show toldT 12 a b h n k = false by show (decide (0 ≤ n) && _) = _; rw [decide_eq_false (by omega)]; rfl)
    go_enter Tryz.func68, Tryz.ntmps68
    go_wp2_with fail
    go_ret
    exact ⟨by rw [H.out]; rfl, (Below.refl _ _).alloc (Nat.le_refl _) _⟩
  · have H := Lib.hid (show toldT 12 a b h n k = sameA ⟨0, a, b, h, 0, k⟩ zeroAn9 by show (decide (0 ≤ n) && _) = _; rw [decide_eq_true (by omega)]; rfl)
    go_enter Tryz.func68, Tryz.ntmps68
    go_wp2_with (with_reducible refine (C1.out _ _ _ _ _ _).mono ?_; rintro e w1 ⟨rfl, hb1⟩)
    rw [H.out]
    go_ret
    exact ⟨rfl, (((Below.refl _ _).alloc (Nat.le_refl _) _)).trans (hb1.mono (by simp))⟩
theorem tells_3 (a b h n k : Int) (w : World) : Calls Tryz.prog 68 #[.int .i64 3, (.agg #[.int .i64 0, .int .u64 a, .int .u64 b, .int .u64 h, .int .i64 n, .int .i64 k])] w fun r w' => r = .returned (.bool (toldT 3 a b h n k)) ∧ Below w.heap.size w w' := by
  have C1 := Lib.hid (fun a b h n k W => kSame_cells 0 a b h n k 0 0 0 0 0 0 W)
  by_cases h2 : n = 2
  · subst h2
    go_enter Tryz.func68, Tryz.ntmps68
    go_wp2_with (with_reducible refine (C1.out _ _ _ _ _ _).mono ?_; rintro e w1 ⟨rfl, hb1⟩)
    go_ret
    exact ⟨rfl, (((Below.refl _ _).alloc (Nat.le_refl _) _)).trans (hb1.mono (by simp))⟩
  have hq : (n == 2) = false := by simp [h2]
  by_cases h0 : n < 0
  · have H := Lib.hid (show toldT 3 a b h n k = false by show (decide (0 ≤ n ∧ n ≤ 2) && _) = _; rw [decide_eq_false (by omega)]; rfl)
    have hl : ¬ 2 < n := by omega
    go_enter Tryz.func68, Tryz.ntmps68
    go_wp2_with fail
    go_ret
    exact ⟨by rw [H.out]; rfl, (Below.refl _ _).alloc (Nat.le_refl _) _⟩
  by_cases hg : 2 < n
  · have H := Lib.hid (show toldT 3 a b h n k = false by show (decide (0 ≤ n ∧ n ≤ 2) && _) = _; rw [decide_eq_false (by omega)]; rfl)
    go_enter Tryz.func68, Tryz.ntmps68
    go_wp2_with fail
    go_ret
    exact ⟨by rw [H.out]; rfl, (Below.refl _ _).alloc (Nat.le_refl _) _⟩
  · have H := Lib.hid (show toldT 3 a b h n k = sameA ⟨0, a, b, h, 0, k⟩ zeroAn9 by show (decide (0 ≤ n ∧ n ≤ 2) && sameA ⟨0, a, b, h, 0, bif n == 2 then 0 else k⟩ zeroAn9) = _; rw [decide_eq_true (by omega), hq]; rfl)
    go_enter Tryz.func68, Tryz.ntmps68
    go_wp2_with (with_reducible refine (C1.out _ _ _ _ _ _).mono ?_; rintro e w1 ⟨rfl, hb1⟩)
    rw [H.out]
    go_ret
    exact ⟨rfl, (((Below.refl _ _).alloc (Nat.le_refl _) _)).trans (hb1.mono (by simp))⟩
theorem tells_any (op a b h n k : Int) (h0 : 0 ≤ op) (h1 : op ≤ 12) (w : World) : Calls Tryz.prog 68 #[.int .i64 op, (.agg #[.int .i64 0, .int .u64 a, .int .u64 b, .int .u64 h, .int .i64 n, .int .i64 k])] w fun r w' => r = .returned (.bool (toldT op a b h n k)) ∧ Below w.heap.size w w' := by
  rcases ops13 h0 h1 with rfl | rfl | rfl | rfl | rfl | rfl | rfl | rfl | rfl | rfl | rfl | rfl | rfl
  · exact tells_0 a b h n k w
  · exact tells_1 a b h n k w
  · exact tells_2 a b h n k w
  · exact tells_3 a b h n k w
  · exact tells_4 a b h n k w
  · exact tells_5 a b h n k w
  · exact tells_6 a b h n k w
  · exact tells_7 a b h n k w
  · exact tells_8 a b h n k w
  · exact tells_9 a b h n k w
  · exact tells_10 a b h n k w
  · exact tells_11 a b h n k w
  · exact tells_12 a b h n k w
theorem fails_0 (e : Int) (w : World) : Calls Tryz.prog 69 #[.int .i64 0, .int .i64 e] w fun r w' => r = .returned (.bool (badT 0 e)) ∧ w = w' := by
  by_cases h12 : e = 12
  · subst h12
    go_enter Tryz.func69, Tryz.ntmps69
    go_wp2
    go_ret
    exact ⟨rfl, rfl⟩
  by_cases h7 : e = 7
  · subst h7
    go_enter Tryz.func69, Tryz.ntmps69
    go_wp2
    go_ret
    exact ⟨rfl, rfl⟩
  by_cases h8 : e = 8
  · subst h8
    go_enter Tryz.func69, Tryz.ntmps69
    go_wp2
    go_ret
    exact ⟨rfl, rfl⟩
  have q12 : (e == 12) = false := by simp [h12]
  have q7 : (e == 7) = false := by simp [h7]
  have q8 : (e == 8) = false := by simp [h8]
  have H := Lib.hid (show badT 0 e = false by unfold badT; simp [refs, h12, h7, h8])
  clear h12 h7 h8
  go_enter Tryz.func69, Tryz.ntmps69
  go_wp2
  go_ret
  exact ⟨by rw [H.out]; rfl, rfl⟩
theorem fails_1 (e : Int) (w : World) : Calls Tryz.prog 69 #[.int .i64 1, .int .i64 e] w fun r w' => r = .returned (.bool (badT 1 e)) ∧ w = w' := by
  by_cases h12 : e = 12
  · subst h12
    go_enter Tryz.func69, Tryz.ntmps69
    go_wp2
    go_ret
    exact ⟨rfl, rfl⟩
  by_cases h6 : e = 6
  · subst h6
    go_enter Tryz.func69, Tryz.ntmps69
    go_wp2
    go_ret
    exact ⟨rfl, rfl⟩
  by_cases h13 : e = 13
  · subst h13
    go_enter Tryz.func69, Tryz.ntmps69
    go_wp2
    go_ret
    exact ⟨rfl, rfl⟩
  have q12 : (e == 12) = false := by simp [h12]
  have q6 : (e == 6) = false := by simp [h6]
  have q13 : (e == 13) = false := by simp [h13]
  have H := Lib.hid (show badT 1 e = false by unfold badT; simp [refs, h12, h6, h13])
  clear h12 h6 h13
  go_enter Tryz.func69, Tryz.ntmps69
  go_wp2
  go_ret
  exact ⟨by rw [H.out]; rfl, rfl⟩
theorem fails_2 (e : Int) (w : World) : Calls Tryz.prog 69 #[.int .i64 2, .int .i64 e] w fun r w' => r = .returned (.bool (badT 2 e)) ∧ w = w' := by
  by_cases h12 : e = 12
  · subst h12
    go_enter Tryz.func69, Tryz.ntmps69
    go_wp2
    go_ret
    exact ⟨rfl, rfl⟩
  by_cases h6 : e = 6
  · subst h6
    go_enter Tryz.func69, Tryz.ntmps69
    go_wp2
    go_ret
    exact ⟨rfl, rfl⟩
  by_cases h9 : e = 9
  · subst h9
    go_enter Tryz.func69, Tryz.ntmps69
    go_wp2
    go_ret
    exact ⟨rfl, rfl⟩
  have q12 : (e == 12) = false := by simp [h12]
  have q6 : (e == 6) = false := by simp [h6]
  have q9 : (e == 9) = false := by simp [h9]
  have H := Lib.hid (show badT 2 e = false by unfold badT; simp [refs, h12, h6, h9])
  clear h12 h6 h9
  go_enter Tryz.func69, Tryz.ntmps69
  go_wp2
  go_ret
  exact ⟨by rw [H.out]; rfl, rfl⟩
theorem fails_3 (e : Int) (w : World) : Calls Tryz.prog 69 #[.int .i64 3, .int .i64 e] w fun r w' => r = .returned (.bool (badT 3 e)) ∧ w = w' := by
  by_cases h12 : e = 12
  · subst h12
    go_enter Tryz.func69, Tryz.ntmps69
    go_wp2
    go_ret
    exact ⟨rfl, rfl⟩
  by_cases h8 : e = 8
  · subst h8
    go_enter Tryz.func69, Tryz.ntmps69
    go_wp2
    go_ret
    exact ⟨rfl, rfl⟩
  by_cases h9 : e = 9
  · subst h9
    go_enter Tryz.func69, Tryz.ntmps69
    go_wp2
    go_ret
    exact ⟨rfl, rfl⟩
  have q12 : (e == 12) = false := by simp [h12]
  have q8 : (e == 8) = false := by simp [h8]
  have q9 : (e == 9) = false := by simp [h9]
  have H := Lib.hid (show badT 3 e = false by unfold badT; simp [refs, h12, h8, h9])
  clear h12 h8 h9
  go_enter Tryz.func69, Tryz.ntmps69
  go_wp2
  go_ret
  exact ⟨by rw [H.out]; rfl, rfl⟩
theorem fails_4 (e : Int) (w : World) : Calls Tryz.prog 69 #[.int .i64 4, .int .i64 e] w fun r w' => r = .returned (.bool (badT 4 e)) ∧ w = w' := by
  by_cases h12 : e = 12
  · subst h12
    go_enter Tryz.func69, Tryz.ntmps69
    go_wp2
    go_ret
    exact ⟨rfl, rfl⟩
  by_cases h6 : e = 6
  · subst h6
    go_enter Tryz.func69, Tryz.ntmps69
    go_wp2
    go_ret
    exact ⟨rfl, rfl⟩
  by_cases h13 : e = 13
  · subst h13
    go_enter Tryz.func69, Tryz.ntmps69
    go_wp2
    go_ret
    exact ⟨rfl, rfl⟩
  have q12 : (e == 12) = false := by simp [h12]
  have q6 : (e == 6) = false := by simp [h6]
  have q13 : (e == 13) = false := by simp [h13]
  have H := Lib.hid (show badT 4 e = false by unfold badT; simp [refs, h12, h6, h13])
  clear h12 h6 h13
  go_enter Tryz.func69, Tryz.ntmps69
  go_wp2
  go_ret
  exact ⟨by rw [H.out]; rfl, rfl⟩
theorem fails_5 (e : Int) (w : World) : Calls Tryz.prog 69 #[.int .i64 5, .int .i64 e] w fun r w' => r = .returned (.bool (badT 5 e)) ∧ w = w' := by
  by_cases h12 : e = 12
  · subst h12
    go_enter Tryz.func69, Tryz.ntmps69
    go_wp2
    go_ret
    exact ⟨rfl, rfl⟩
  by_cases h6 : e = 6
  · subst h6
    go_enter Tryz.func69, Tryz.ntmps69
    go_wp2
    go_ret
    exact ⟨rfl, rfl⟩
  by_cases h9 : e = 9
  · subst h9
    go_enter Tryz.func69, Tryz.ntmps69
    go_wp2
    go_ret
    exact ⟨rfl, rfl⟩
  have q12 : (e == 12) = false := by simp [h12]
  have q6 : (e == 6) = false := by simp [h6]
  have q9 : (e == 9) = false := by simp [h9]
  have H := Lib.hid (show badT 5 e = false by unfold badT; simp [refs, h12, h6, h9])
  clear h12 h6 h9
  go_enter Tryz.func69, Tryz.ntmps69
  go_wp2
  go_ret
  exact ⟨by rw [H.out]; rfl, rfl⟩
theorem fails_6 (e : Int) (w : World) : Calls Tryz.prog 69 #[.int .i64 6, .int .i64 e] w fun r w' => r = .returned (.bool (badT 6 e)) ∧ w = w' := by
  by_cases h12 : e = 12
  · subst h12
    go_enter Tryz.func69, Tryz.ntmps69
    go_wp2
    go_ret
    exact ⟨rfl, rfl⟩
  by_cases h8 : e = 8
  · subst h8
    go_enter Tryz.func69, Tryz.ntmps69
    go_wp2
    go_ret
    exact ⟨rfl, rfl⟩
  have q12 : (e == 12) = false := by simp [h12]
  have q8 : (e == 8) = false := by simp [h8]
  have H := Lib.hid (show badT 6 e = false by unfold badT; simp [refs, h12, h8])
  clear h12 h8
  go_enter Tryz.func69, Tryz.ntmps69
  go_wp2
  go_ret
  exact ⟨by rw [H.out]; rfl, rfl⟩
theorem fails_7 (e : Int) (w : World) : Calls Tryz.prog 69 #[.int .i64 7, .int .i64 e] w fun r w' => r = .returned (.bool (badT 7 e)) ∧ w = w' := by
  by_cases h12 : e = 12
  · subst h12
    go_enter Tryz.func69, Tryz.ntmps69
    go_wp2
    go_ret
    exact ⟨rfl, rfl⟩
  by_cases h6 : e = 6
  · subst h6
    go_enter Tryz.func69, Tryz.ntmps69
    go_wp2
    go_ret
    exact ⟨rfl, rfl⟩
  by_cases h9 : e = 9
  · subst h9
    go_enter Tryz.func69, Tryz.ntmps69
    go_wp2
    go_ret
    exact ⟨rfl, rfl⟩
  have q12 : (e == 12) = false := by simp [h12]
  have q6 : (e == 6) = false := by simp [h6]
  have q9 : (e == 9) = false := by simp [h9]
  have H := Lib.hid (show badT 7 e = false by unfold badT; simp [refs, h12, h6, h9])
  clear h12 h6 h9
  go_enter Tryz.func69, Tryz.ntmps69
  go_wp2
  go_ret
  exact ⟨by rw [H.out]; rfl, rfl⟩
theorem fails_8 (e : Int) (w : World) : Calls Tryz.prog 69 #[.int .i64 8, .int .i64 e] w fun r w' => r = .returned (.bool (badT 8 e)) ∧ w = w' := by
  by_cases h12 : e = 12
  · subst h12
    go_enter Tryz.func69, Tryz.ntmps69
    go_wp2
    go_ret
    exact ⟨rfl, rfl⟩
  by_cases h6 : e = 6
  · subst h6
    go_enter Tryz.func69, Tryz.ntmps69
    go_wp2
    go_ret
    exact ⟨rfl, rfl⟩
  by_cases h13 : e = 13
  · subst h13
    go_enter Tryz.func69, Tryz.ntmps69
    go_wp2
    go_ret
    exact ⟨rfl, rfl⟩
  have q12 : (e == 12) = false := by simp [h12]
  have q6 : (e == 6) = false := by simp [h6]
  have q13 : (e == 13) = false := by simp [h13]
  have H := Lib.hid (show badT 8 e = false by unfold badT; simp [refs, h12, h6, h13])
  clear h12 h6 h13
  go_enter Tryz.func69, Tryz.ntmps69
  go_wp2
  go_ret
  exact ⟨by rw [H.out]; rfl, rfl⟩
theorem fails_9 (e : Int) (w : World) : Calls Tryz.prog 69 #[.int .i64 9, .int .i64 e] w fun r w' => r = .returned (.bool (badT 9 e)) ∧ w = w' := by
  by_cases h12 : e = 12
  · subst h12
    go_enter Tryz.func69, Tryz.ntmps69
    go_wp2
    go_ret
    exact ⟨rfl, rfl⟩
  by_cases h8 : e = 8
  · subst h8
    go_enter Tryz.func69, Tryz.ntmps69
    go_wp2
    go_ret
    exact ⟨rfl, rfl⟩
  by_cases h10 : e = 10
  · subst h10
    go_enter Tryz.func69, Tryz.ntmps69
    go_wp2
    go_ret
    exact ⟨rfl, rfl⟩
  have q12 : (e == 12) = false := by simp [h12]
  have q8 : (e == 8) = false := by simp [h8]
  have q10 : (e == 10) = false := by simp [h10]
  have H := Lib.hid (show badT 9 e = false by unfold badT; simp [refs, h12, h8, h10])
  clear h12 h8 h10
  go_enter Tryz.func69, Tryz.ntmps69
  go_wp2
  go_ret
  exact ⟨by rw [H.out]; rfl, rfl⟩
theorem fails_10 (e : Int) (w : World) : Calls Tryz.prog 69 #[.int .i64 10, .int .i64 e] w fun r w' => r = .returned (.bool (badT 10 e)) ∧ w = w' := by
  by_cases h12 : e = 12
  · subst h12
    go_enter Tryz.func69, Tryz.ntmps69
    go_wp2
    go_ret
    exact ⟨rfl, rfl⟩
  by_cases h11 : e = 11
  · subst h11
    go_enter Tryz.func69, Tryz.ntmps69
    go_wp2
    go_ret
    exact ⟨rfl, rfl⟩
  by_cases h13 : e = 13
  · subst h13
    go_enter Tryz.func69, Tryz.ntmps69
    go_wp2
    go_ret
    exact ⟨rfl, rfl⟩
  have q12 : (e == 12) = false := by simp [h12]
  have q11 : (e == 11) = false := by simp [h11]
  have q13 : (e == 13) = false := by simp [h13]
  have H := Lib.hid (show badT 10 e = false by unfold badT; simp [refs, h12, h11, h13])
  clear h12 h11 h13
  go_enter Tryz.func69, Tryz.ntmps69
  go_wp2
  go_ret
  exact ⟨by rw [H.out]; rfl, rfl⟩
theorem fails_11 (e : Int) (w : World) : Calls Tryz.prog 69 #[.int .i64 11, .int .i64 e] w fun r w' => r = .returned (.bool (badT 11 e)) ∧ w = w' := by
  by_cases h12 : e = 12
  · subst h12
    go_enter Tryz.func69, Tryz.ntmps69
    go_wp2
    go_ret
    exact ⟨rfl, rfl⟩
  by_cases h11 : e = 11
  · subst h11
    go_enter Tryz.func69, Tryz.ntmps69
    go_wp2
    go_ret
    exact ⟨rfl, rfl⟩
  by_cases h9 : e = 9
  · subst h9
    go_enter Tryz.func69, Tryz.ntmps69
    go_wp2
    go_ret
    exact ⟨rfl, rfl⟩
  have q12 : (e == 12) = false := by simp [h12]
  have q11 : (e == 11) = false := by simp [h11]
  have q9 : (e == 9) = false := by simp [h9]
  have H := Lib.hid (show badT 11 e = false by unfold badT; simp [refs, h12, h11, h9])
  clear h12 h11 h9
  go_enter Tryz.func69, Tryz.ntmps69
  go_wp2
  go_ret
  exact ⟨by rw [H.out]; rfl, rfl⟩
theorem fails_12 (e : Int) (w : World) : Calls Tryz.prog 69 #[.int .i64 12, .int .i64 e] w fun r w' => r = .returned (.bool (badT 12 e)) ∧ w = w' := by
  by_cases h12 : e = 12
  · subst h12
    go_enter Tryz.func69, Tryz.ntmps69
    go_wp2
    go_ret
    exact ⟨rfl, rfl⟩
  have q12 : (e == 12) = false := by simp [h12]
  have H := Lib.hid (show badT 12 e = false by unfold badT; simp [refs, h12])
  clear h12
  go_enter Tryz.func69, Tryz.ntmps69
  go_wp2
  go_ret
  exact ⟨by rw [H.out]; rfl, rfl⟩
theorem fails_any (op e : Int) (h0 : 0 ≤ op) (h1 : op ≤ 12) (w : World) : Calls Tryz.prog 69 #[.int .i64 op, .int .i64 e] w fun r w' => r = .returned (.bool (badT op e)) ∧ w = w' := by
  rcases ops13 h0 h1 with rfl | rfl | rfl | rfl | rfl | rfl | rfl | rfl | rfl | rfl | rfl | rfl | rfl
  · exact fails_0 e w
  · exact fails_1 e w
  · exact fails_2 e w
  · exact fails_3 e w
  · exact fails_4 e w
  · exact fails_5 e w
  · exact fails_6 e w
  · exact fails_7 e w
  · exact fails_8 e w
  · exact fails_9 e w
  · exact fails_10 e w
  · exact fails_11 e w
  · exact fails_12 e w
end Go.Proofs.YtiafjbhekfpkbaaGreatDoor
