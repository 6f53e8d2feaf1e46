/- What may be called, what an op is called, whether it looks, its part: package call's and the document's answers. -/
import Derived.Test.YtodomchanaaonaaRow
import Derived.Test.YtodomchanaaonaaRef8
import Derived.IntWalk
namespace Go.Proofs.Ytodomchanaaonaa
open Go.ChangeShapes Go.WideShapes Go.ChangeAt Go.RowKit

/-- May a call be? -/
def mayC (op l r : Int) : Bool := decide (0 ≤ op) && (decide (op ≤ 12) && (decide (0 ≤ l) && (decide (l ≤ 3) && (decide (0 ≤ r) && decide (r ≤ 40)))))
theorem mayC_yes {op l r : Int} (h0 : 0 ≤ op) (h1 : op ≤ 12) (h2 : 0 ≤ l) (h3 : l ≤ 3) (h4 : 0 ≤ r) (h5 : r ≤ 40) : mayC op l r = true := by
  unfold mayC
  rw [decide_eq_true h0, decide_eq_true h1, decide_eq_true h2, decide_eq_true h3, decide_eq_true h4, decide_eq_true h5]
  rfl
theorem mayC_no {op l r : Int} (h : ¬ (0 ≤ op ∧ op ≤ 12 ∧ 0 ≤ l ∧ l ≤ 3 ∧ 0 ≤ r ∧ r ≤ 40)) : mayC op l r = false := by
  cases hm : mayC op l r
  · rfl
  · exfalso
    apply h
    unfold mayC at hm
    simp only [Bool.and_eq_true, decide_eq_true_eq] at hm
    exact ⟨hm.1, hm.2.1, hm.2.2.1, hm.2.2.2.1, hm.2.2.2.2.1, hm.2.2.2.2.2⟩
theorem mayC_ops {op l r : Int} (h : mayC op l r = true) : 0 ≤ op ∧ op ≤ 12 := by
  unfold mayC at h
  simp only [Bool.and_eq_true, decide_eq_true_eq] at h
  exact ⟨h.1, h.2.1⟩
def belowV (n s : Int) : Bool := decide (0 ≤ n) && decide (n < s)
/-- The ops are thirteen. -/
theorem ops13 {op : Int} (h0 : 0 ≤ op) (h1 : op ≤ 12) : op = 0 ∨ op = 1 ∨ op = 2 ∨ op = 3 ∨ op = 4 ∨ op = 5 ∨ op = 6 ∨ op = 7 ∨ op = 8 ∨ op = 9 ∨ op = 10 ∨ op = 11 ∨ op = 12 := by omega
def looksB (op : Int) : Bool := op == 1 || (op == 4 || (op == 8 || op == 10))
def partN (op : Int) : Int := bif decide (op < 0) || decide (11 < op) then -1 else Int.tdiv op 3
theorem kPart_any (op : Int) (w : World) : Calls Try.prog 16 #[.int .i64 op] w fun e w' => e = .returned (.int .i64 (partN op)) ∧ w = w' := by
  by_cases hop : 0 ≤ op ∧ op ≤ 12
  · rcases ops13 hop.1 hop.2 with rfl | rfl | rfl | rfl | rfl | rfl | rfl | rfl | rfl | rfl | rfl | rfl | rfl
    all_goals (clear hop; go_enter Try.func16, Try.ntmps16; go_wp2; go_ret; exact ⟨rfl, rfl⟩)
  · have H : Hid (partN op = -1) := Lib.hid (by
      unfold partN
      rcases Int.lt_or_le op 0 with h | h
      · rw [decide_eq_true h]; rfl
      · rw [decide_eq_true (show 11 < op by omega), Bool.or_true]; rfl)
    have e0 : (op == 0) = false := by simp; omega
    have e1 : (op == 1) = false := by simp; omega
    have e2 : (op == 2) = false := by simp; omega
    have e3 : (op == 3) = false := by simp; omega
    have e4 : (op == 4) = false := by simp; omega
    have e5 : (op == 5) = false := by simp; omega
    have e6 : (op == 6) = false := by simp; omega
    have e7 : (op == 7) = false := by simp; omega
    have e8 : (op == 8) = false := by simp; omega
    have e9 : (op == 9) = false := by simp; omega
    have e10 : (op == 10) = false := by simp; omega
    have e11 : (op == 11) = false := by simp; omega
    clear hop
    go_enter Try.func16, Try.ntmps16
    go_wp2
    go_ret
    exact ⟨by rw [H.out]; rfl, rfl⟩
theorem r9Part_any (op : Int) (b : -9223372036854775808 ≤ op ∧ op ≤ 9223372036854775807) (w : World) : Calls Try.prog 17 #[.int .i64 op] w fun e w' => e = .returned (.int .i64 (partN op)) ∧ w = w' := by
  by_cases hn : op < 0
  · have H : Hid (partN op = -1) := Lib.hid (by unfold partN; rw [decide_eq_true hn]; rfl)
    go_enter Try.func17, Try.ntmps17
    go_wp2
    go_ret
    exact ⟨by rw [H.out]; rfl, rfl⟩
  · by_cases hg : 11 < op
    · have H : Hid (partN op = -1) := Lib.hid (by unfold partN; rw [decide_eq_true hg, Bool.or_true]; rfl)
      go_enter Try.func17, Try.ntmps17
      go_wp2
      go_ret
      exact ⟨by rw [H.out]; rfl, rfl⟩
    · rcases ops13 (op := op) (by omega) (by omega) with rfl | rfl | rfl | rfl | rfl | rfl | rfl | rfl | rfl | rfl | rfl | rfl | rfl
      all_goals first | (exfalso; omega) | (clear hn hg; go_enter Try.func17, Try.ntmps17; go_wp2; go_ret; exact ⟨rfl, rfl⟩)
end Go.Proofs.Ytodomchanaaonaa
