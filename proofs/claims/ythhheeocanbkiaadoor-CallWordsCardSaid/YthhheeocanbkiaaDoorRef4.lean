/- The document's answers of layer 4 (burnbagref04): whether a configuration may be, and each thread's level. -/
import Derived.Test.YthhheeocanbkiaaDoorConf
namespace Go.Proofs.YthhheeocanbkiaaDoor
open Go.ChangeShapes Go.WideShapes Go.ChangeAt Go.RowKit

/-- Thread i's place in the array is as it may be. -/
def okT (c : Nat → Int) (i : Nat) : Bool := if c 1 ≤ (i : Int) then decide (c (2 + i) = 0) && decide (0 < c 0) else decide (0 ≤ c (2 + i)) && decide (c (2 + i) < c 0)
def okTo (c : Nat → Int) (k : Nat) : Bool := (List.range k).all (okT c)
theorem okTo_iff {c : Nat → Int} {k : Nat} : okTo c k = true ↔ ∀ i, i < k → okT c i = true := by simp [okTo]

/-- The document's test, and the code's, are one. -/
theorem may_same (c : Nat → Int) : mayB c = (decide (1 ≤ c 0 ∧ c 0 ≤ 4 ∧ 1 ≤ c 1 ∧ c 1 ≤ 8) && okTo c 8 && decide (2 ≤ c 10 ∧ c 10 ≤ 60 ∧ 1 ≤ c 11 ∧ c 11 ≤ 40) && decide (1 ≤ c 12 ∧ c 12 ≤ 1048576 ∧ 0 ≤ c 13 ∧ c 13 ≤ 60)) := by
  by_cases h : 1 ≤ c 0 ∧ c 0 ≤ 4 ∧ 1 ≤ c 1 ∧ c 1 ≤ 8
  · have e : fitsB c = okTo c 8 := by
      rw [Bool.eq_iff_iff, okTo_iff]
      unfold fitsB
      rw [eqI_iff]
      refine forall_congr' fun i => forall_congr' fun hi => ?_
      by_cases h2 : (i : Int) < c 1
      · have e1 : fitN c i = clamp (c (2 + i)) (c 0 - 1) := if_pos h2
        have e2 : okT c i = (decide (0 ≤ c (2 + i)) && decide (c (2 + i) < c 0)) := if_neg (by omega)
        rw [e1, e2]
        simp only [Bool.and_eq_true, decide_eq_true_eq]
        unfold clamp
        generalize c (2 + i) = x
        repeat' split
        all_goals omega
      · have e1 : fitN c i = 0 := if_neg h2
        have e2 : okT c i = (decide (c (2 + i) = 0) && decide (0 < c 0)) := if_pos (by omega)
        rw [e1, e2]
        simp only [Bool.and_eq_true, decide_eq_true_eq]
        omega
    unfold mayB withinB
    rw [e, Bool.eq_iff_iff]
    simp only [Bool.and_eq_true, decide_eq_true_eq]
    by_cases hp : okTo c 8 = true
    · simp only [hp, and_true]; omega
    · simp only [hp, and_false, false_and, Bool.false_eq_true]
  · unfold mayB withinB
    rw [Bool.eq_iff_iff]
    simp only [Bool.and_eq_true, decide_eq_true_eq]
    constructor
    · intro h2; exact absurd ⟨by omega, by omega, by omega, by omega⟩ h
    · intro h2; exact absurd h2.1.1.1 h
theorem may_bounds {c : Nat → Int} (h : mayB c = true) : (1 ≤ c 0 ∧ c 0 ≤ 4) ∧ (1 ≤ c 1 ∧ c 1 ≤ 8) ∧ (∀ i, i < 8 → okT c i = true) ∧ (2 ≤ c 10 ∧ c 10 ≤ 60) ∧ (1 ≤ c 11 ∧ c 11 ≤ 40) ∧ (1 ≤ c 12 ∧ c 12 ≤ 1048576) ∧ (0 ≤ c 13 ∧ c 13 ≤ 60) := by
  rw [may_same] at h
  simp only [Bool.and_eq_true, decide_eq_true_eq] at h
  obtain ⟨⟨⟨h1, h2⟩, h3⟩, h4⟩ := h
  exact ⟨⟨h1.1, h1.2.1⟩, h1.2.2, okTo_iff.1 h2, ⟨h3.1, h3.2.1⟩, h3.2.2, ⟨h4.1, h4.2.1⟩, h4.2.2⟩

/-- A thread's level; -1 where there is none. -/
def lvl (c : Nat → Int) (t : Int) : Int := if mayB c = true ∧ 0 ≤ t ∧ t < c 1 then c (2 + t.toNat) else -1
theorem lvl_yes {c : Nat → Int} {t : Int} (h : mayB c = true) (h0 : 0 ≤ t) (h1 : t < c 1) : lvl c t = c (2 + t.toNat) := if_pos ⟨h, h0, h1⟩
theorem lvl_no {c : Nat → Int} {t : Int} (h : ¬ (mayB c = true ∧ 0 ≤ t ∧ t < c 1)) : lvl c t = -1 := if_neg h
theorem lvl_bounds (c : Nat → Int) (t : Int) : (lvl c t = -1 ∧ ¬ (mayB c = true ∧ 0 ≤ t ∧ t < c 1)) ∨ (0 ≤ lvl c t ∧ lvl c t < c 0 ∧ lvl c t < 4 ∧ mayB c = true ∧ 0 ≤ t ∧ t < c 1 ∧ lvl c t = c (2 + t.toNat)) := by
  by_cases h : mayB c = true ∧ 0 ≤ t ∧ t < c 1
  · right
    obtain ⟨h, h0, h1⟩ := h
    obtain ⟨b0, b1, b2, _⟩ := may_bounds h
    have := b2 t.toNat (by omega)
    unfold okT at this
    rw [if_neg (by omega)] at this
    simp only [Bool.and_eq_true, decide_eq_true_eq] at this
    rw [lvl_yes h h0 h1]
    exact ⟨this.1, this.2, by omega, h, h0, h1, rfl⟩
  · exact .inl ⟨lvl_no h, h⟩

theorem okTo_no {c : Nat → Int} {k : Nat} (hk : k < 8) (h : okT c k = false) : okTo c 8 = false := by
  rw [Bool.eq_false_iff]
  intro h2
  rw [okTo_iff.1 h2 k hk] at h
  cases h
theorem okTo_succ {c : Nat → Int} {k : Nat} (h : okTo c k = true) (h2 : okT c k = true) : okTo c (k + 1) = true := by
  rw [okTo_iff] at h ⊢
  intro i hi
  rcases Nat.lt_or_ge i k with h3 | h3
  · exact h i h3
  · obtain rfl : i = k := by omega
    exact h2

end Go.Proofs.YthhheeocanbkiaaDoor
