/- What follows of shares, without a program. -/
import Derived.Test.YtodomchanaaonaaShareI
namespace Go.Proofs.Ytodomchanaaonaa
open Go.ChangeShapes Go.WideShapes Go.ChangeAt Go.RowKit

/-- How many of the first i opers are in one. -/
def inUp (L : List Opr) : Nat → Nat
  | 0 => 0
  | i + 1 => bif whichB (oprN L i) then inUp L i + 1 else inUp L i
theorem inUp_le (L : List Opr) : ∀ i, inUp L i ≤ i
  | 0 => Nat.le_refl _
  | i + 1 => by
    have := inUp_le L i
    unfold inUp
    cases whichB (oprN L i) <;> simp only [cond] <;> omega
def manyTo (L : List Opr) (m : Nat) : Nat → Nat
  | 0 => 0
  | n + 1 => manyTo L m n + (shareUp L n m).length
theorem shareB_is {o : Opr} {n : Nat} : shareB ((n / 4 : Nat) : Int) ((n % 4 : Nat) : Int) o = (whichB o && decide (whichN o = (n : Int))) := by
  have hw := which_bounds o
  unfold shareB
  congr 1
  rw [Bool.eq_iff_iff, Bool.and_eq_true, decide_eq_true_eq, decide_eq_true_eq, decide_eq_true_eq]
  omega
theorem shareUp_succ (L : List Opr) (n i : Nat) : shareUp L n (i + 1) = bif whichB (oprN L i) && decide (whichN (oprN L i) = (n : Int)) then shareUp L n i ++ [oprN L i] else shareUp L n i := by
  rw [← shareB_is]; rfl
theorem shareUp_len (L : List Opr) (n : Nat) (i : Nat) : (shareUp L n i).length ≤ i := keepUp_len _ L i
theorem manyTo_le (L : List Opr) (m : Nat) : ∀ n, manyTo L m n ≤ n * m
  | 0 => by simp [manyTo]
  | n + 1 => by
    have h1 := manyTo_le L m n
    have h2 := shareUp_len L n m
    unfold manyTo
    rw [Nat.succ_mul]
    omega
theorem manyTo_zero (L : List Opr) : ∀ n, manyTo L 0 n = 0
  | 0 => rfl
  | n + 1 => by unfold manyTo; rw [manyTo_zero L n]; rfl
theorem manyTo_succ (L : List Opr) (i : Nat) : ∀ n, manyTo L (i + 1) n = manyTo L i n + (bif whichB (oprN L i) && decide (whichN (oprN L i) < (n : Int)) then 1 else 0)
  | 0 => by
    have hw := which_bounds (oprN L i)
    rw [decide_eq_false (by omega), Bool.and_false]; rfl
  | n + 1 => by
    have ih := manyTo_succ L i n
    have hw := which_bounds (oprN L i)
    unfold manyTo
    rw [ih, shareUp_succ]
    cases whichB (oprN L i)
    · simp only [Bool.false_and, cond]; omega
    · simp only [Bool.true_and]
      by_cases h1 : whichN (oprN L i) = (n : Int)
      · rw [decide_eq_true h1, decide_eq_false (by omega), decide_eq_true (by omega)]
        simp only [cond, List.length_append, List.length_singleton]; omega
      · rw [decide_eq_false h1]
        by_cases h2 : whichN (oprN L i) < (n : Int)
        · rw [decide_eq_true h2, decide_eq_true (by omega)]; simp only [cond]; omega
        · rw [decide_eq_false h2, decide_eq_false (by omega)]; simp only [cond]; omega
/-- All shares together have as many as are in one. -/
theorem many_in (L : List Opr) : ∀ i, manyTo L i 16 = inUp L i
  | 0 => manyTo_zero L 16
  | i + 1 => by
    have hw := which_bounds (oprN L i)
    rw [manyTo_succ, many_in L i]
    show _ = bif whichB (oprN L i) then inUp L i + 1 else inUp L i
    cases whichB (oprN L i)
    · rfl
    · rw [decide_eq_true (show whichN (oprN L i) < ((16 : Nat) : Int) by omega)]; rfl
theorem shareUp_prefix (L : List Opr) (n : Nat) {i : Nat} : ∀ {m : Nat}, i ≤ m → ∃ t, shareUp L n m = shareUp L n i ++ t
  | 0, h => ⟨[], by rw [show i = 0 by omega, List.append_nil]⟩
  | m + 1, h => by
    rcases Nat.lt_or_ge m i with h1 | h1
    · exact ⟨[], by rw [show i = m + 1 by omega, List.append_nil]⟩
    · obtain ⟨t, ht⟩ := shareUp_prefix L n (i := i) (m := m) h1
      rw [shareUp_succ]
      cases whichB (oprN L m) && decide (whichN (oprN L m) = (n : Int))
      · exact ⟨t, ht⟩
      · exact ⟨t ++ [oprN L m], by simp only [cond]; rw [ht, List.append_assoc]⟩
/-- The next oper of its share. -/
theorem shareUp_next {L : List Opr} {i m n : Nat} (h : i < m) (hb : whichB (oprN L i) = true) (hn : whichN (oprN L i) = (n : Int)) :
    (shareUp L n i).length < (shareUp L n m).length ∧ oprN (shareUp L n m) (shareUp L n i).length = oprN L i ∧ ∀ j, (shareUp L j (i + 1)).length = if j = n then (shareUp L j i).length + 1 else (shareUp L j i).length := by
  have h1 : shareUp L n (i + 1) = shareUp L n i ++ [oprN L i] := by rw [shareUp_succ, hb, decide_eq_true hn]; rfl
  obtain ⟨t, ht⟩ := shareUp_prefix L n (i := i + 1) (m := m) h
  refine ⟨by rw [ht, h1]; simp, by rw [ht, h1]; simp [oprN, List.getD], fun j => ?_⟩
  by_cases e : j = n
  · subst e; rw [if_pos rfl, h1]; simp
  · rw [if_neg e, shareUp_succ, hb, decide_eq_false (by omega)]; rfl
theorem shareUp_skip {L : List Opr} {i : Nat} (hb : whichB (oprN L i) = false) (j : Nat) : shareUp L j (i + 1) = shareUp L j i := by
  rw [shareUp_succ, hb]; rfl
end Go.Proofs.Ytodomchanaaonaa
