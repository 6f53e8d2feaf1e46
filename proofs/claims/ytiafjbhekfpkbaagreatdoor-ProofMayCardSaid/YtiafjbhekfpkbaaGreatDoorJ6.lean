/- What follows of orders, without a program: one of what may come next, put behind, goes on to an order that may be. · What package proof's own functions tell, without a program: how often a place is met, what is left, whether an order is in turn, who was answered first; and that it is what the document asks. · Package proof: how often each place is met in an order: a map of counts; isPlace; what is left. · The events of opers, by their places: what burnbagref14.Of tells. · Package hist: answered, Ahead, event. · Parts of a block known whole: read, and stored, from a place on, whatever their number of cells. -/
import Derived.Test.YtiafjbhekfpkbaaGreatDoorJ5
import Derived.Test.YtiafjbhekfpkbaaGreatDoorJ4
import Derived.Maps.OwnOps
import Derived.Maps.Views
import Derived.Maps.OwnSet
import Derived.WalkKit
import Derived.Test.YtiafjbhekfpkbaaGreatDoorJ2
import Derived.Test.YtiafjbhekfpkbaaGreatDoorJ0
import Derived.Deep.MidRow
namespace Go.Proofs.YtiafjbhekfpkbaaGreatDoor
set_option linter.unusedSimpArgs false
set_option linter.unusedVariables false
open Go.ChangeShapes Go.WideShapes Go.ChangeAt Go.RowKit

theorem freeTo_iff {L : List Opr} {O : List Int} {i : Nat} : ∀ {j : Nat}, freeTo L O i j = true ↔ ∀ q, q < j → blockB L O i q = false
  | 0 => ⟨fun _ q h => by omega, fun _ => rfl⟩
  | j + 1 => by
    have ih := freeTo_iff (L := L) (O := O) (i := i) (j := j)
    show (bif blockB L O i j then false else freeTo L O i j) = true ↔ _
    cases hb : blockB L O i j
    · simp only [cond, ih]
      constructor
      · intro h q hq
        rcases Nat.lt_or_ge q j with h1 | h1
        · exact h q h1
        · obtain rfl : q = j := by omega
          exact hb
      · exact fun h q hq => h q (by omega)
    · simp only [cond]
      constructor
      · intro h; cases h
      · intro h
        have := h j (by omega)
        rw [hb] at this; cases this
theorem nextsUp_mem {L : List Opr} {O : List Int} {x : Int} : ∀ {i : Nat}, x ∈ nextsUp L O i ↔ ∃ n : Nat, n < i ∧ x = n ∧ posN O n < 0 ∧ freeTo L O n L.length = true
  | 0 => by simp [nextsUp]
  | i + 1 => by
    have ih := nextsUp_mem (L := L) (O := O) (x := x) (i := i)
    unfold nextsUp
    cases hc : decide (posN O i < 0) && freeTo L O i L.length
    · simp only [cond, ih]
      constructor
      · rintro ⟨n, h1, h2⟩; exact ⟨n, by omega, h2⟩
      · rintro ⟨n, h1, h2, h3, h4⟩
        rcases Nat.lt_or_ge n i with h | h
        · exact ⟨n, h, h2, h3, h4⟩
        · obtain rfl : n = i := by omega
          rw [decide_eq_true h3, h4] at hc; cases hc
    · simp only [cond, List.mem_append, List.mem_singleton, ih]
      simp only [Bool.and_eq_true, decide_eq_true_eq] at hc
      constructor
      · rintro (⟨n, h1, h2⟩ | h)
        · exact ⟨n, by omega, h2⟩
        · exact ⟨i, by omega, h, hc⟩
      · rintro ⟨n, h1, h2, h3⟩
        rcases Nat.lt_or_ge n i with h | h
        · exact .inl ⟨n, h, h2, h3⟩
        · obtain rfl : n = i := by omega
          exact .inr h2
theorem posUp_app (O : List Int) (x n : Int) : ∀ j, j ≤ O.length → posUp (O ++ [x]) n j = posUp O n j
  | 0, _ => rfl
  | j + 1, h => by
    rw [posUp_succ, posUp_succ, posUp_app O x n j (by omega)]
    have : (O ++ [x]).getD j 0 = O.getD j 0 := by simp [List.getD, List.getElem?_append_left (show j < O.length by omega)]
    rw [this]
/-- Where a number stands, when one more is put behind. -/
theorem posN_app (O : List Int) (x n : Int) : posN (O ++ [x]) n = bif decide (posN O n < 0) && decide (x = n) then (O.length : Int) else posN O n := by
  unfold posN
  rw [List.length_append, List.length_singleton, posUp_succ, posUp_app O x n _ (Nat.le_refl _)]
  have : (O ++ [x]).getD O.length 0 = x := by simp [List.getD]
  rw [this]
/-- What an order is that was made of what might come next, step by step. -/
structure Grown (L : List Opr) (O : List Int) : Prop where
  mem : ∀ k, k < O.length → ∃ x : Nat, O.getD k 0 = x ∧ x < L.length
  dist : ∀ k : Nat, k < O.length → posN O (O.getD k 0) = k
  late : ∀ i, i < L.length → ∀ k, k < O.length → lateB L O i k = false
theorem Grown.none_ (L : List Opr) : Grown L [] := ⟨fun k h => by simp at h, fun k h => by simp at h, fun i _ k h => by simp at h⟩
theorem getD_app {O : List Int} {x : Int} {k : Nat} (h : k < O.length) : (O ++ [x]).getD k 0 = O.getD k 0 := by simp [List.getD, List.getElem?_append_left h]
theorem getD_last (O : List Int) (x : Int) : (O ++ [x]).getD O.length 0 = x := by simp [List.getD]
theorem Grown.more {L : List Opr} {O : List Int} (h : Grown L O) {n : Nat} (hn : n < L.length) (hp : posN O n < 0) (hf : freeTo L O n L.length = true) : Grown L (O ++ [(n : Int)]) := by
  have hb : ∀ y : Int, -1 ≤ posN O y ∧ posN O y < O.length := fun y => posUp_bounds O y O.length
  refine ⟨fun k hk => ?_, fun k hk => ?_, fun i hi k hk => ?_⟩
  all_goals rw [List.length_append, List.length_singleton] at hk
  · rcases Nat.lt_or_ge k O.length with h1 | h1
    · rw [getD_app h1]; exact h.mem k h1
    · obtain rfl : k = O.length := by omega
      rw [getD_last]; exact ⟨n, rfl, hn⟩
  · rcases Nat.lt_or_ge k O.length with h1 | h1
    · rw [getD_app h1, posN_app, h.dist k h1, decide_eq_false (by omega), Bool.false_and]; rfl
    · obtain rfl : k = O.length := by omega
      rw [getD_last, posN_app, decide_eq_true hp, decide_eq_true rfl]; rfl
  · rcases Nat.lt_or_ge k O.length with h1 | h1
    · have hl := h.late i hi k h1
      unfold lateB at hl ⊢
      rw [getD_app h1, posN_app]
      cases ha : aheadB (oprN L i) (oprN L (O.getD k 0).toNat)
      · rfl
      · rw [ha, Bool.true_and, Bool.or_eq_false_iff, decide_eq_false_iff_not, decide_eq_false_iff_not] at hl
        rw [decide_eq_false hl.1, Bool.false_and]
        simp only [cond, Bool.true_and, Bool.or_eq_false_iff, decide_eq_false_iff_not]
        exact hl
    · obtain rfl : k = O.length := by omega
      unfold lateB
      rw [getD_last, posN_app, Int.toNat_natCast]
      cases ha : aheadB (oprN L i) (oprN L n)
      · rfl
      · have hblk := freeTo_iff.1 hf i hi
        unfold blockB at hblk
        rw [ha, Bool.and_true] at hblk
        have h2 := hb i
        by_cases e : i = n
        · subst e
          rw [decide_eq_true hp, decide_eq_true rfl]
          simp only [Bool.and_self, cond, Bool.true_and, Bool.or_eq_false_iff, decide_eq_false_iff_not]
          omega
        · rw [decide_eq_false e, Bool.not_false, Bool.true_and, decide_eq_false_iff_not] at hblk
          rw [decide_eq_false hblk, Bool.false_and]
          simp only [cond, Bool.true_and, Bool.or_eq_false_iff, decide_eq_false_iff_not]
          omega
theorem least_of {p : Nat → Prop} {f : Nat → Int} : ∀ {j : Nat}, (∃ i, i < j ∧ p i) → ∃ i, i < j ∧ p i ∧ ∀ q, q < j → p q → f i ≤ f q
  | 0, ⟨i, hi, _⟩ => by omega
  | j + 1, ⟨i, hi, hp⟩ => by
    by_cases hx : ∃ i, i < j ∧ p i
    · obtain ⟨a, h1, h2, h3⟩ := least_of (f := f) hx
      by_cases hj : p j ∧ f j < f a
      · refine ⟨j, by omega, hj.1, fun q hq hpq => ?_⟩
        rcases Nat.lt_or_ge q j with h | h
        · have := h3 q h hpq; omega
        · obtain rfl : q = j := by omega
          exact Int.le_refl _
      · refine ⟨a, by omega, h2, fun q hq hpq => ?_⟩
        rcases Nat.lt_or_ge q j with h | h
        · exact h3 q h hpq
        · obtain rfl : q = j := by omega
          rcases Int.lt_or_le (f q) (f a) with h4 | h4
          · exact absurd ⟨hpq, h4⟩ hj
          · exact h4
    · have hij : i = j := by
        rcases Nat.lt_or_ge i j with h | h
        · exact absurd ⟨i, h, hp⟩ hx
        · omega
      subst hij
      refine ⟨i, by omega, hp, fun q hq hpq => ?_⟩
      rcases Nat.lt_or_ge q i with h | h
      · exact absurd ⟨q, h, hpq⟩ hx
      · obtain rfl : q = i := by omega
        exact Int.le_refl _
/-- While one is left, one may come next. -/
theorem nexts_some {L : List Opr} {O : List Int} (hl : ∀ i, i < L.length → 0 ≤ (oprN L i).to → (oprN L i).fr < (oprN L i).to) (hx : ∃ i, i < L.length ∧ posN O i < 0) : nextsUp L O L.length ≠ [] := by
  obtain ⟨i, h1, h2, h3⟩ := least_of (p := fun i => posN O i < 0) (f := fun i => (oprN L i).fr) hx
  have hm : ((i : Nat) : Int) ∈ nextsUp L O L.length := nextsUp_mem.2 ⟨i, h1, rfl, h2, freeTo_iff.2 fun q hq => by
    unfold blockB
    by_cases e : q = i
    · rw [decide_eq_true e]; rfl
    · by_cases hp : posN O q < 0
      · have hle := h3 q hq hp
        have hah : aheadB (oprN L q) (oprN L i) = false := by
          unfold aheadB
          by_cases h0 : 0 ≤ (oprN L q).to
          · have := hl q hq h0
            rw [decide_eq_true h0, Bool.true_and]
            exact decide_eq_false (by omega)
          · rw [decide_eq_false h0]; rfl
        rw [hah, Bool.and_false, Bool.and_false]
      · rw [decide_eq_false hp, Bool.false_and, Bool.and_false]⟩
  intro h
  rw [h] at hm
  simp at hm
/-- An order that was made so may be just if all that are answered are in it. -/
theorem Grown.may {L : List Opr} {O : List Int} (h : Grown L O) : mayO L O = decide (∀ i, i < L.length → 0 ≤ (oprN L i).to → 0 ≤ posN O i) := by
  have hok : ∀ k, k < O.length → okO L.length O k = true := fun k hk => by
    obtain ⟨x, h1, h2⟩ := h.mem k hk
    have h3 := h.dist k hk
    unfold okO
    rw [h3, h1, decide_eq_false (by omega), decide_eq_false (by omega), decide_eq_true rfl]; rfl
  by_cases hall : ∀ i, i < L.length → 0 ≤ (oprN L i).to → 0 ≤ posN O i
  · rw [decide_eq_true hall]
    refine mayO_yes hok fun i hi => okB_yes ?_ (fun k hk => h.late i hi k hk)
    by_cases h0 : 0 ≤ (oprN L i).to
    · have := hall i hi h0
      rw [decide_eq_false (by omega)]; rfl
    · rw [decide_eq_false h0, Bool.and_false]
  · rw [decide_eq_false hall]
    have : ∃ i, i < L.length ∧ 0 ≤ (oprN L i).to ∧ posN O i < 0 := by
      refine Classical.byContradiction fun hne => hall fun i hi h0 => ?_
      rcases Int.lt_or_le (posN O i) 0 with h1 | h1
      · exact absurd ⟨i, hi, h0, h1⟩ hne
      · exact h1
    obtain ⟨i, h1, h2, h3⟩ := this
    refine mayO_no2 h1 ?_
    unfold okB
    rw [decide_eq_true h3, decide_eq_true h2]; rfl
/-- How many of the first i opers are answered; how many of these are in an order. -/
def doneTo (L : List Opr) : Nat → Nat
  | 0 => 0
  | i + 1 => doneTo L i + bif decide (0 ≤ (oprN L i).to) then 1 else 0
def cntIn (L : List Opr) (O : List Int) : Nat → Nat
  | 0 => 0
  | i + 1 => cntIn L O i + bif decide (0 ≤ (oprN L i).to) && decide (0 ≤ posN O i) then 1 else 0
theorem doneTo_le (L : List Opr) : ∀ i, doneTo L i ≤ i
  | 0 => Nat.le_refl _
  | i + 1 => by
    have := doneTo_le L i
    unfold doneTo
    cases decide (0 ≤ (oprN L i).to) <;> simp only [cond] <;> omega
theorem cntIn_le (L : List Opr) (O : List Int) : ∀ i, cntIn L O i ≤ doneTo L i
  | 0 => Nat.le_refl _
  | i + 1 => by
    have := cntIn_le L O i
    unfold cntIn doneTo
    cases decide (0 ≤ (oprN L i).to) <;> cases decide (0 ≤ posN O i) <;> simp only [cond, Bool.and_self, Bool.and_false, Bool.false_and, Bool.and_true] <;> omega
theorem cntIn_all {L : List Opr} {O : List Int} : ∀ {m : Nat}, cntIn L O m = doneTo L m ↔ ∀ i, i < m → 0 ≤ (oprN L i).to → 0 ≤ posN O i
  | 0 => ⟨fun _ i h => by omega, fun _ => rfl⟩
  | m + 1 => by
    have ih := cntIn_all (L := L) (O := O) (m := m)
    have hle := cntIn_le L O m
    unfold cntIn doneTo
    by_cases h0 : 0 ≤ (oprN L m).to
    · by_cases h1 : 0 ≤ posN O m
      · rw [decide_eq_true h0, decide_eq_true h1]
        simp only [Bool.and_self, cond, Nat.add_right_cancel_iff, ih]
        constructor
        · intro h i hi hto
          rcases Nat.lt_or_ge i m with h2 | h2
          · exact h i h2 hto
          · obtain rfl : i = m := by omega
            exact h1
        · exact fun h i hi => h i (by omega)
      · rw [decide_eq_true h0, decide_eq_false h1]
        simp only [Bool.and_false, cond]
        constructor
        · intro h; omega
        · intro h; exact absurd (h m (by omega) h0) h1
    · rw [decide_eq_false h0]
      simp only [Bool.false_and, cond, Nat.add_right_cancel_iff, ih]
      constructor
      · intro h i hi hto
        rcases Nat.lt_or_ge i m with h2 | h2
        · exact h i h2 hto
        · obtain rfl : i = m := by omega
          exact absurd hto h0
      · exact fun h i hi => h i (by omega)
theorem cntIn_app {L : List Opr} {O : List Int} {n : Nat} (hp : posN O n < 0) : ∀ m, cntIn L (O ++ [(n : Int)]) m = cntIn L O m + bif decide (n < m) && decide (0 ≤ (oprN L n).to) then 1 else 0
  | 0 => by rw [decide_eq_false (by omega), Bool.false_and]; rfl
  | m + 1 => by
    have ih := cntIn_app (L := L) (O := O) hp m
    unfold cntIn
    rw [ih, posN_app]
    by_cases e : m = n
    · subst e
      rw [decide_eq_true hp, decide_eq_true rfl, decide_eq_false (Nat.lt_irrefl m), decide_eq_true (show m < m + 1 by omega), decide_eq_false (show ¬ 0 ≤ posN O m by omega)]
      simp only [Bool.and_self, cond, Bool.false_and, Bool.true_and, Bool.and_false]
      rw [decide_eq_true (show (0 : Int) ≤ (O.length : Int) by omega), Bool.and_true]
    · rw [decide_eq_false (show ¬ (n : Int) = (m : Int) by omega), Bool.and_false]
      have e2 : decide (n < m + 1) = decide (n < m) := decide_eq_decide.2 (by omega)
      rw [e2]
      simp only [cond]
      omega
theorem Grown.count {L : List Opr} {O : List Int} (h : Grown L O) : mayO L O = decide (cntIn L O L.length = doneTo L L.length) := by
  rw [h.may]
  exact decide_eq_decide.2 cntIn_all.symm
end Go.Proofs.YtiafjbhekfpkbaaGreatDoor
namespace Go.Proofs.YtiafjbhekfpkbaaGreatDoor
set_option linter.unusedSimpArgs false
set_option linter.unusedVariables false
open Go.ChangeShapes Go.WideShapes Go.ChangeAt Go.RowKit

/-- How often a number is among the first j. -/
def cntUp (O : List Int) (x : Int) : Nat → Nat
  | 0 => 0
  | j + 1 => cntUp O x j + bif decide (O.getD j 0 = x) then 1 else 0
theorem cntUp_succ (O : List Int) (x : Int) (j : Nat) : cntUp O x (j + 1) = cntUp O x j + bif decide (O.getD j 0 = x) then 1 else 0 := rfl
theorem cntUp_le (O : List Int) (x : Int) : ∀ j, cntUp O x j ≤ j
  | 0 => Nat.le_refl _
  | j + 1 => by
    have := cntUp_le O x j
    rw [cntUp_succ]
    cases decide (O.getD j 0 = x) <;> simp only [cond] <;> omega
theorem cntUp_none (O : List Int) (x : Int) : ∀ j, cntUp O x j = 0 ↔ posUp O x j < 0
  | 0 => ⟨fun _ => by show (-1 : Int) < 0; omega, fun _ => rfl⟩
  | j + 1 => by
    have ih := cntUp_none O x j
    rw [cntUp_succ, posUp_succ]
    by_cases h : O.getD j 0 = x
    · rw [decide_eq_true h]
      by_cases h2 : posUp O x j < 0
      · rw [decide_eq_true h2]; simp only [Bool.and_self, cond]; omega
      · rw [decide_eq_false h2]; simp only [Bool.false_and, cond]; omega
    · rw [decide_eq_false h]; simp only [Bool.and_false, cond]; exact ih
theorem cntUp_mono (O : List Int) (x : Int) (i : Nat) : ∀ j, cntUp O x i ≤ cntUp O x (i + j)
  | 0 => Nat.le_refl _
  | j + 1 => by
    have := cntUp_mono O x i j
    rw [show i + (j + 1) = i + j + 1 from rfl, cntUp_succ]; omega
theorem cntUp_pos {O : List Int} {x : Int} : ∀ {j : Nat}, 0 < cntUp O x j → ∃ a, a < j ∧ O.getD a 0 = x
  | 0, h => absurd h (Nat.lt_irrefl 0)
  | j + 1, h => by
    by_cases e : O.getD j 0 = x
    · exact ⟨j, by omega, e⟩
    · rw [cntUp_succ, decide_eq_false e] at h
      obtain ⟨a, h1, h2⟩ := cntUp_pos (show 0 < cntUp O x j from h)
      exact ⟨a, by omega, h2⟩
theorem cntUp_one {O : List Int} {m : Nat} (hd : ∀ a b, a < b → b < m → O.getD a 0 ≠ O.getD b 0) (x : Int) : ∀ j, j ≤ m → cntUp O x j ≤ 1
  | 0, _ => Nat.zero_le _
  | j + 1, h => by
    have ih := cntUp_one hd x j (by omega)
    rw [cntUp_succ]
    by_cases e : O.getD j 0 = x
    · rw [decide_eq_true e]
      rcases Nat.eq_zero_or_pos (cntUp O x j) with h0 | h0
      · rw [h0]; exact Nat.le_refl _
      · obtain ⟨a, h1, h2⟩ := cntUp_pos h0
        exact absurd (h2.trans e.symm) (hd a j h1 (by omega))
    · rw [decide_eq_false e]; exact ih
/-- None twice: said by the counts, and by the places. -/
theorem once_iff (O : List Int) : (∀ k, k < O.length → cntUp O (O.getD k 0) O.length ≤ 1) ↔ ∀ k, k < O.length → posN O (O.getD k 0) = k := by
  constructor
  · intro h k hk
    refine posN_at hk (fun i hi e => ?_) rfl
    have h1 := h k hk
    have h2 := cntUp_mono O (O.getD k 0) (k + 1) (O.length - (k + 1))
    rw [show k + 1 + (O.length - (k + 1)) = O.length by omega, cntUp_succ, decide_eq_true rfl] at h2
    have h3 := cntUp_mono O (O.getD k 0) (i + 1) (k - (i + 1))
    rw [show i + 1 + (k - (i + 1)) = k by omega, cntUp_succ, decide_eq_true e] at h3
    simp only [cond] at h2 h3
    omega
  · intro h k hk
    refine cntUp_one (fun a b hab hb e => ?_) _ _ (Nat.le_refl _)
    have h1 := h a (by omega)
    have h2 := h b hb
    rw [e, h2] at h1
    omega

/-- Of the first i places those that aren't in an order. -/
def leftN (O : List Int) (i : Nat) : List Nat := (List.range i).filter fun k : Nat => decide (posN O k < 0)
theorem leftN_succ (O : List Int) (i : Nat) : leftN O (i + 1) = bif decide (posN O i < 0) then leftN O i ++ [i] else leftN O i := by
  unfold leftN
  rw [List.range_succ, List.filter_append]
  cases h : decide (posN O i < 0) <;> simp [h]
theorem leftN_len (O : List Int) (i : Nat) : (leftN O i).length ≤ i := by
  have := List.length_filter_le (fun k : Nat => decide (posN O k < 0)) (List.range i)
  rwa [List.length_range] at this
theorem leftN_mem {O : List Int} {i k : Nat} : k ∈ leftN O i ↔ k < i ∧ posN O k < 0 := by simp [leftN]
theorem leftN_pair (O : List Int) (i : Nat) : (leftN O i).Pairwise (· < ·) := List.Pairwise.filter _ List.pairwise_lt_range
def natI (R : List Nat) : List Int := R.map fun k : Nat => (k : Int)
theorem natI_len (R : List Nat) : (natI R).length = R.length := by simp [natI]
theorem natI_app (R S : List Nat) : natI (R ++ S) = natI R ++ natI S := by simp [natI]
theorem natI_at (R : List Nat) {k : Nat} (h : k < R.length) : (natI R).getD k 0 = (R.getD k 0 : Nat) := by simp [natI, List.getD, h]
theorem getD_memN {R : List Nat} {k : Nat} (h : k < R.length) : R.getD k 0 ∈ R := by
  have : R.getD k 0 = R[k] := by simp [List.getD, h]
  rw [this]; exact List.getElem_mem h

def ansB (x : Opr) : Bool := decide (0 ≤ x.to)
/-- Is the k-th number a place, and there once? -/
def ordK (m : Nat) (O : List Int) (k : Nat) : Bool := (decide (0 ≤ O.getD k 0) && decide (O.getD k 0 < m)) && decide (cntUp O (O.getD k 0) O.length ≤ 1)
def ordB (m : Nat) (O : List Int) : Bool := (List.range O.length).all (ordK m O)
def anyB (L : List Opr) (R : List Nat) : Bool := R.any fun k => ansB (oprN L k)
def zeroO : Opr := ⟨0, zeroC, zeroA, 0, 0⟩
/-- Of the first k that one that began last. -/
def latUp (L : List Opr) (O : List Int) : Nat → Opr
  | 0 => zeroO
  | k + 1 => bif decide ((latUp L O k).fr < (oprN L (O.getD k 0).toNat).fr) then oprN L (O.getD k 0).toNat else latUp L O k
def turnB (L : List Opr) (O : List Int) : Bool := (List.range O.length).all fun k => !aheadB (oprN L (O.getD k 0).toNat) (latUp L O k)
theorem latUp_ge (L : List Opr) (O : List Int) : ∀ k i, i < k → (oprN L (O.getD i 0).toNat).fr ≤ (latUp L O k).fr
  | 0, i, h => absurd h (Nat.not_lt_zero i)
  | k + 1, i, h => by
    have ih := latUp_ge L O k
    unfold latUp
    by_cases hd : (latUp L O k).fr < (oprN L (O.getD k 0).toNat).fr
    · rw [decide_eq_true hd]
      simp only [cond]
      rcases Nat.lt_or_ge i k with h1 | h1
      · have := ih i h1; omega
      · obtain rfl : i = k := by omega
        exact Int.le_refl _
    · rw [decide_eq_false hd]
      simp only [cond]
      rcases Nat.lt_or_ge i k with h1 | h1
      · exact ih i h1
      · obtain rfl : i = k := by omega
        omega
theorem latUp_one (L : List Opr) (O : List Int) : ∀ k, latUp L O k = zeroO ∨ ∃ i, i < k ∧ latUp L O k = oprN L (O.getD i 0).toNat
  | 0 => .inl rfl
  | k + 1 => by
    unfold latUp
    cases decide ((latUp L O k).fr < (oprN L (O.getD k 0).toNat).fr)
    · rcases latUp_one L O k with h | ⟨i, h1, h2⟩
      · exact .inl h
      · exact .inr ⟨i, by omega, h2⟩
    · exact .inr ⟨k, by omega, rfl⟩
theorem aheadB_iff {x y : Opr} : aheadB x y = true ↔ 0 ≤ x.to ∧ x.to < y.fr := by simp [aheadB]
/-- Whether an order may be. -/
theorem may_is (L : List Opr) (O : List Int) : mayO L O = (ordB L.length O && (!anyB L (leftN O L.length) && turnB L O)) := by
  rw [Bool.eq_iff_iff]
  have hO := once_iff O
  have ho : ordB L.length O = true ↔ ∀ k, k < O.length → okO L.length O k = true := by
    unfold ordB
    rw [List.all_eq_true]
    simp only [List.mem_range]
    constructor
    · intro h k hk
      have h1 := hO.1 (fun k hk => by
        have := h k hk
        unfold ordK at this
        simp only [Bool.and_eq_true, decide_eq_true_eq] at this
        exact this.2) k hk
      have h2 := h k hk
      unfold ordK at h2
      unfold okO
      simp only [Bool.and_eq_true, decide_eq_true_eq] at h2
      rw [decide_eq_false (show ¬ O.getD k 0 < 0 by omega), decide_eq_false (show ¬ (L.length : Int) ≤ O.getD k 0 by omega), decide_eq_true h1]; rfl
    · intro h k hk
      have h1 := hO.2 (fun k hk => by
        have := h k hk
        unfold okO at this
        simp only [Bool.not_eq_true', Bool.or_eq_false_iff, Bool.not_eq_false', decide_eq_true_eq] at this
        exact this.2.2) k hk
      have h2 := h k hk
      unfold okO at h2
      simp only [Bool.not_eq_true', Bool.or_eq_false_iff, decide_eq_false_iff_not] at h2
      unfold ordK
      rw [decide_eq_true (show 0 ≤ O.getD k 0 by omega), decide_eq_true (show O.getD k 0 < (L.length : Int) by omega), decide_eq_true h1]; rfl
  unfold mayO
  simp only [Bool.and_eq_true]
  rw [ho, List.all_eq_true]
  simp only [List.mem_range]
  constructor
  · rintro ⟨h1, h2⟩
    rw [List.all_eq_true] at h2
    simp only [List.mem_range] at h2
    have h3 : ∀ i, i < L.length → (decide (posN O i < 0) && decide (0 ≤ (oprN L i).to)) = false ∧ ∀ k, k < O.length → lateB L O i k = false := fun i hi => by
      have := h2 i hi
      unfold okB at this
      rw [Bool.and_eq_true, List.all_eq_true] at this
      exact ⟨(Bool.not_eq_true' _).mp this.1, fun k hk => by simpa using this.2 k (List.mem_range.2 hk)⟩
    refine ⟨h1, ?_, ?_⟩
    · unfold anyB
      rw [Bool.not_eq_true', List.any_eq_false]
      intro k hk
      obtain ⟨h4, h5⟩ := leftN_mem.1 hk
      have := (h3 k h4).1
      rw [decide_eq_true h5, Bool.true_and] at this
      unfold ansB
      rw [this]; exact Bool.false_ne_true
    · unfold turnB
      rw [List.all_eq_true]
      intro k hk
      have hk := List.mem_range.1 hk
      rw [Bool.not_eq_true']
      cases ha : aheadB (oprN L (O.getD k 0).toNat) (latUp L O k) with
      | false => rfl
      | true =>
        have h4 := h1 k hk
        unfold okO at h4
        simp only [Bool.not_eq_true', Bool.or_eq_false_iff, decide_eq_false_iff_not, Bool.not_eq_false', decide_eq_true_eq] at h4
        have h5 := aheadB_iff.1 ha
        rcases latUp_one L O k with h6 | ⟨i, hi, h6⟩
        · rw [h6] at h5; exact absurd h5.2 (by show ¬ _ < (0 : Int); omega)
        · have h7 := (h3 (O.getD k 0).toNat (by omega)).2 i (by omega)
          unfold lateB at h7
          rw [← h6, ha, Int.toNat_of_nonneg (by omega), h4.2.2] at h7
          simp only [Bool.true_and, Bool.or_eq_false_iff, decide_eq_false_iff_not] at h7
          omega
  · rintro ⟨h1, h2, h3⟩
    refine ⟨h1, ?_⟩
    rw [List.all_eq_true]
    intro i hi
    have hi := List.mem_range.1 hi
    unfold anyB at h2
    rw [Bool.not_eq_true', List.any_eq_false] at h2
    have hl : ¬ (posN O i < 0 ∧ 0 ≤ (oprN L i).to) := fun ⟨h4, h5⟩ => h2 i (leftN_mem.2 ⟨hi, h4⟩) (decide_eq_true h5)
    refine okB_yes ?_ fun k hk => ?_
    · rw [← Bool.not_eq_true, Bool.and_eq_true, decide_eq_true_eq, decide_eq_true_eq]; exact hl
    · unfold lateB
      cases ha : aheadB (oprN L i) (oprN L (O.getD k 0).toNat) with
      | false => rfl
      | true =>
        have h5 := aheadB_iff.1 ha
        have hp : ¬ posN O i < 0 := fun h => hl ⟨h, h5.1⟩
        rw [decide_eq_false hp, Bool.true_and, Bool.false_or, decide_eq_false_iff_not]
        intro hlt
        have hb := posUp_bounds O i O.length
        have hb2 : posN O i < O.length := hb.2
        have hx : O.getD (posN O i).toNat 0 = i := by
          have : ∀ j, 0 ≤ posUp O i j → O.getD (posUp O i j).toNat 0 = i := by
            intro j
            induction j with
            | zero => intro h; exact absurd h (by show ¬ (0 : Int) ≤ -1; omega)
            | succ j ih =>
              intro h
              rw [posUp_succ] at h ⊢
              by_cases e1 : posUp O i j < 0
              · by_cases e2 : O.getD j 0 = i
                · rw [decide_eq_true e1, decide_eq_true e2]; simp only [Bool.and_self, cond, Int.toNat_natCast]; exact e2
                · rw [decide_eq_false e2, Bool.and_false] at h; exact absurd e1 (by simp only [cond] at h; omega)
              · rw [decide_eq_false e1, Bool.false_and]; exact ih (by omega)
          exact this O.length (by show 0 ≤ posN O i; omega)
        unfold turnB at h3
        rw [List.all_eq_true] at h3
        have h6 := h3 (posN O i).toNat (List.mem_range.2 (by omega))
        rw [hx, Int.toNat_natCast, Bool.not_eq_true'] at h6
        have h7 := latUp_ge L O (posN O i).toNat k (by omega)
        have h8 : aheadB (oprN L i) (latUp L O (posN O i).toNat) = true := aheadB_iff.2 ⟨h5.1, by omega⟩
        rw [h6] at h8; cases h8

/-- Of what is left these were answered first. -/
structure First2 (L : List Opr) (R F : List Nat) : Prop where
  mem : ∀ o, o ∈ F → o ∈ R ∧ 0 ≤ (oprN L o).to
  cover : ∀ j, j ∈ R → 0 ≤ (oprN L j).to → ∀ i, j ≠ i → ∃ o, o ∈ F ∧ o ≠ i ∧ (oprN L o).to ≤ (oprN L j).to
def freeK (L : List Opr) (F : List Nat) (p : Nat) : Bool := F.all fun o => decide (o = p) || !aheadB (oprN L o) (oprN L p)
def nextK (L : List Opr) (F R : List Nat) : Nat → List Int
  | 0 => []
  | k + 1 => bif freeK L F (R.getD k 0) then nextK L F R k ++ [(R.getD k 0 : Int)] else nextK L F R k
theorem nextK_len (L : List Opr) (F R : List Nat) : ∀ k, (nextK L F R k).length ≤ k
  | 0 => Nat.le_refl _
  | k + 1 => by
    have := nextK_len L F R k
    unfold nextK
    cases freeK L F (R.getD k 0)
    · simp only [cond]; omega
    · simp only [cond, List.length_append, List.length_cons, List.length_nil]; omega
theorem nextK_eq (L : List Opr) (F R : List Nat) : ∀ k, k ≤ R.length → nextK L F R k = natI ((R.take k).filter (freeK L F))
  | 0, _ => by simp [nextK, natI]
  | k + 1, h => by
    have hk : k < R.length := by omega
    unfold nextK
    rw [nextK_eq L F R k (by omega), List.take_add_one, List.getElem?_eq_getElem hk, List.filter_append, natI_app]
    have : R.getD k 0 = R[k] := by simp [List.getD, hk]
    rw [this]
    cases hf : freeK L F R[k] <;> simp [hf, natI]
theorem nextsUp_eq (L : List Opr) (O : List Int) : ∀ i, nextsUp L O i = natI ((List.range i).filter fun n : Nat => decide (posN O n < 0) && freeTo L O n L.length)
  | 0 => by simp [nextsUp, natI]
  | i + 1 => by
    unfold nextsUp
    rw [nextsUp_eq L O i, List.range_succ, List.filter_append, natI_app]
    cases hf : decide (posN O i < 0) && freeTo L O i L.length <;> simp [hf, natI]
/-- What comes next. -/
theorem next_is {L : List Opr} {O : List Int} {F : List Nat} (h : First2 L (leftN O L.length) F) : nextK L F (leftN O L.length) (leftN O L.length).length = nextsUp L O L.length := by
  rw [nextK_eq L F _ _ (Nat.le_refl _), List.take_length, nextsUp_eq]
  congr 1
  unfold leftN
  rw [List.filter_filter]
  refine List.filter_congr fun p hp => ?_
  have hp := List.mem_range.1 hp
  cases hd : decide (posN O p < 0) with
  | false => rw [Bool.and_false, Bool.false_and]
  | true =>
    rw [Bool.and_true, Bool.true_and, Bool.eq_iff_iff, freeTo_iff]
    unfold freeK
    rw [List.all_eq_true]
    constructor
    · intro hf q hq
      unfold blockB
      by_cases e : q = p
      · rw [decide_eq_true e]; rfl
      · by_cases hq2 : posN O q < 0
        · cases ha : aheadB (oprN L q) (oprN L p) with
          | false => rw [Bool.and_false, Bool.and_false]
          | true =>
            have h1 := aheadB_iff.1 ha
            obtain ⟨o, h2, h3, h4⟩ := h.cover q (leftN_mem.2 ⟨hq, hq2⟩) h1.1 p e
            have h5 := hf o h2
            rw [decide_eq_false h3, Bool.false_or, Bool.not_eq_true'] at h5
            have h6 : aheadB (oprN L o) (oprN L p) = true := aheadB_iff.2 ⟨(h.mem o h2).2, by omega⟩
            rw [h5] at h6; cases h6
        · rw [decide_eq_false hq2, Bool.false_and, Bool.and_false]
    · intro hf o ho
      obtain ⟨h1, h2⟩ := h.mem o ho
      obtain ⟨h3, h4⟩ := leftN_mem.1 h1
      have h5 := hf o h3
      unfold blockB at h5
      rw [decide_eq_true h4, Bool.true_and] at h5
      cases e : decide (o = p)
      · rw [e, Bool.not_false, Bool.true_and] at h5
        rw [h5]; rfl
      · rfl
end Go.Proofs.YtiafjbhekfpkbaaGreatDoor
namespace Go.Proofs.YtiafjbhekfpkbaaGreatDoor
set_option linter.unusedSimpArgs false
set_option linter.unusedVariables false
open Go.ChangeShapes Go.WideShapes Go.ChangeAt Go.RowKit Go.Maps
set_option linter.unusedSimpArgs false

def I64r (a : Int) : Prop := -9223372036854775808 ≤ a ∧ a ≤ 9223372036854775807
def AllI (O : List Int) : Prop := ∀ k, k < O.length → I64r (O.getD k 0)
theorem intLaw : Keyed Tryz.prog 3 := int_keyed Tryz.underlying3
theorem zeroInt (w : World) : (zeroValue 3).run Tryz.prog w = .ok (.int .i64 0) w := by kernel_rfl
theorem wfR {a : Int} (h : I64r a) : (Lit.int .i64 a).wf = true := by
  unfold I64r at h
  exact WalkArith.wf_i64 (by omega)
theorem keyR {a : Int} (h : I64r a) : keyOf Tryz.prog 3 (.int .i64 a) = some (.int .i64 a) := keyOf_int_mk Tryz.underlying3 (wfR h)
theorem keyL (a : Int) : WideAt.IsKeyLit (.int .i64 a) := trivial

/-- Block m is a map that has so many of each number. -/
def CntIs (w : World) (m n : Nat) (h : Int → Nat) : Prop := ∃ D : DataW Unit, w.ownsMap Tryz.prog 3 (plainElem Tryz.prog 3) m n D ∧ ∀ x : Int, D.atKey (.int .i64 x) (.lit (.int .i64 0)) = .lit (.int .i64 (h x : Nat))
theorem CntIs.keep {w w' : World} {m n : Nat} {h : Int → Nat} (hs : CntIs w m n h) (hb : Below w.heap.size w w') : CntIs w' m n h := by
  obtain ⟨D, ⟨es, clock, hm, r⟩, hD⟩ := hs
  exact ⟨D, ⟨es, clock, (hb.block m (Array.getElem?_eq_some_iff.1 hm).1).trans hm, r⟩, hD⟩
theorem CntIs.lt {w : World} {m n : Nat} {h : Int → Nat} (hs : CntIs w m n h) : m < w.heap.size := by obtain ⟨D, ho, _⟩ := hs; exact ho.lt
theorem CntIs.made (w : World) : CntIs (w.alloc (.map #[] 0)) w.heap.size 0 (fun _ => 0) := ⟨.map [], World.ownsMap_made _ _ _ _, fun _ => rfl⟩

set_option maxRecDepth 100000 in
theorem pMet_any (D : Option Addr) (d : Nat) (O : List Int) (hO : O.length ≤ 1000000) (hI : AllI O) (w : World) (ha : LiesC w D (flatI O)) :
    Calls Tryz.prog 23 #[.slice D O.length d] w fun e w' => ∃ m, e = .returned (.map (some m)) ∧ CntIs w' m O.length (fun x => cntUp O x O.length) ∧ Below w.heap.size w w' := by
  have hmm := @run_makeMap Tryz.prog
  have HA := Lib.hid ha
  have HI := Lib.hid hI
  have HS := Lib.hid (fun x k => cntUp_succ O x k)
  have HL := Lib.hid (fun x k => cntUp_le O x k)
  clear ha hI
  generalize hm : O.length = l at *
  go_enter Tryz.func23, Tryz.ntmps23
  go_wp2_with fail
  go_loopw [9] (fun i wr => ∃ k : Nat, k ≤ l ∧ i = .int .i64 k ∧ CntIs wr w.heap.size k (fun x => cntUp O x k) ∧ Below w.heap.size w wr) (fun i _ => l - (intOf i).toNat)
  case atStart => exact ⟨0, Nat.zero_le _, rfl, CntIs.made _, (Below.refl _ _).alloc (Nat.le_refl _) _⟩
  case round =>
    obtain ⟨k, hk, rfl, ⟨D0, hown, hD⟩, hb⟩ := hrel
    have HB := Lib.hid hb
    have HD : Hid (∀ x : Int, D0.atKey (.int .i64 x) (.lit (.int .i64 0)) = .lit (.int .i64 (cntUp O x k : Nat))) := Lib.hid hD
    clear hD
    by_cases hlt : k < l
    · obtain ⟨b, off, rfl, _, hx⟩ := (HA.out.keep HB.out).atI (by omega)
      have p0 := hx k (by omega)
      have hxi := HI.out k (by rw [hm]; exact hlt)
      have HX := Lib.hid (fun x => HS.out x k)
      have HQ := Lib.hid (HL.out (O.getD k 0) k)
      clear hx hb
      generalize hy : O.getD k 0 = y at *
      have hkey := keyR hxi
      go_wp2_with (first
        | (at_lookup; refine wpList_lookup_own_int _ rfl _ _ 78 rfl 3 3 .i64 intLaw Tryz.underlying78 Tryz.underlying3 (zeroInt _) w.heap.size k _ rfl hown _ _ rfl hkey ?_; intro c hat hwc)
        | (at_mapUpdate; refine wpList_mapUpdate_own _ rfl _ _ _ 78 rfl 3 3 intLaw Tryz.underlying78 _ w.heap.size k _ rfl hown (by unfold maxLen; omega) _ _ _ rfl rfl hkey _ [] (plainElem_int Tryz.underlying3 (wrap64_wf _)) ?_; intro w1 hown1 hgrow1)
        | go_in)
      go_roundw
      case rel =>
        have hc : c = (cntUp O y k : Nat) := by
          have h1 := HD.out y
          rw [hat] at h1
          injection h1 with h1
          injection h1
        have hq := HQ.out
        refine ⟨k + 1, by omega, by go_num, ⟨_, hown1, fun x => ?_⟩, HB.out.grown hgrow1 HB.out.size (fun j hj => by cases hj; exact Nat.le_refl _)⟩
        have h2 := HX.out x
        show _ = DataW.lit (Lit.int .i64 (cntUp O x (k + 1) : Nat))
        by_cases e : x = y
        · subst e
          rw [decide_eq_true rfl] at h2
          rw [atKey_put_same hown.isMap (keyL _), h2, hc]
          rw [show wrap64 ((cntUp O x k : Int) + 1) = (cntUp O x k : Int) + 1 by unfold wrap64; omega]
          rfl
        · rw [decide_eq_false (fun h => e h.symm)] at h2
          rw [atKey_put_other (fun h => e (by injection h)), HD.out x, h2]
          rfl
      case measure => simp [intOf]; omega
    · obtain rfl : k = l := by omega
      go_wp2_with fail
      go_ret
      exact ⟨_, rfl, ⟨D0, hown, HD.out⟩, HB.out⟩
theorem pIsPlace_any (A : Option Addr) (n c : Nat) (hn : n ≤ 1000000) (x : Int) (w : World) :
    Calls Tryz.prog 24 #[.slice A n c, .int .i64 x] w fun e w' => e = .returned (.bool (decide (0 ≤ x) && decide (x < n))) ∧ w = w' := by
  by_cases h : 0 ≤ x
  · have h0 : (!decide (x < 0)) = true := by simp; omega
    rw [decide_eq_true h, Bool.true_and]
    by_cases h2 : x < n
    · rw [decide_eq_true h2]
      go_enter Tryz.func24, Tryz.ntmps24
      go_wp2_with fail
      go_ret
      exact ⟨rfl, rfl⟩
    · rw [decide_eq_false h2]
      go_enter Tryz.func24, Tryz.ntmps24
      go_wp2_with fail
      go_ret
      exact ⟨rfl, rfl⟩
  · rw [decide_eq_false h, Bool.false_and]
    go_enter Tryz.func24, Tryz.ntmps24
    go_wp2_with fail
    go_ret
    exact ⟨rfl, rfl⟩
set_option maxRecDepth 100000 in
set_option maxHeartbeats 2000000 in
theorem pLeft_any (A D : Option Addr) (c d : Nat) (L : List Opr) (O : List Int) (hL : L.length ≤ 1000000) (hO : O.length ≤ 1000000) (hI : AllI O) (w : World) (hd : LiesC w D (flatI O)) :
    Calls Tryz.prog 15 #[.slice A L.length c, .slice D O.length d] w fun e w' => ∃ v, e = .returned v ∧ LnIs w' v (leftN O L.length).length (flatI (natI (leftN O L.length))) ∧ Far w.heap.size v ∧ Below w.heap.size w w' := by
  obtain ⟨j0, hj0, hj1, hj2, hj3⟩ := infoI
  have CM := Lib.hid (fun W h => pMet_any D d O hO hI W h)
  have HD := Lib.hid hd
  have HX := Lib.hid (fun i => leftN_succ O i)
  have hnl := leftN_len O
  have HN := Lib.hid (fun x => cntUp_none O x O.length)
  clear hd hI
  generalize hml : L.length = m at *
  generalize hol : O.length = l at *
  go_enter Tryz.func15, Tryz.ntmps15
  go_upto_region 2 with (go_at_call 23; refine (CM.out _ HD.out).mono ?_; rintro e w1 ⟨mb, rfl, hC, hb⟩)
  have HC := Lib.hid hC; clear hC
  have HB := Lib.hid hb; clear hb
  go_wp2_with fail
  go_loopw [6, 12] (fun v s wr => ∃ k : Nat, s = .int .i64 k ∧ k ≤ m ∧ OwnR w1 w1.heap.size 3 1 v (leftN O k).length (flatI (natI (leftN O k))) wr) (fun _ s _ => m - (intOf s).toNat)
  case atStart => exact ⟨0, rfl, Nat.zero_le _, Below.refl _ _, World.ownsRow_nil _ _ _ _, Nat.le_refl _⟩
  case round =>
    obtain ⟨k, rfl, hk, R⟩ := hrel
    have hkl := hnl k
    by_cases hlt : k < m
    · have HS := Lib.hid (HX.out k)
      have HR := Lib.hid R; clear R
      obtain ⟨D0, hown, hD⟩ := HC.out.keep HR.out.bel
      have HK : Hid (D0.atKey (.int .i64 (k : Int)) (.lit (.int .i64 0)) = .lit (.int .i64 (cntUp O (k : Int) l : Nat))) := Lib.hid (hD (k : Int))
      have hn := HN.out (k : Int)
      have hkey : keyOf Tryz.prog 3 (.int .i64 (k : Int)) = some (.int .i64 (k : Int)) := keyR (by unfold I64r; omega)
      clear hD
      generalize hq : cntUp O (k : Int) l = q at *
      have hp : posUp O (k : Int) l = posN O (k : Int) := by unfold posN; rw [hol]
      rw [hp] at hn
      clear hp hq
      generalize leftN O k = xs at *
      by_cases hz : q = 0
      · have d1 : ((q : Int) == 0) = true := by rw [hz]; rfl
        rw [decide_eq_true (hn.1 hz)] at HS
        clear hn hz
        go_wp2_with (first
          | (at_lookup; refine wpList_lookup_own_int _ rfl _ _ 78 rfl 3 3 .i64 intLaw Tryz.underlying78 Tryz.underlying3 (zeroInt _) mb l _ rfl hown _ _ rfl hkey ?_; intro c hat hwc; obtain rfl : c = (q : Int) := (by have h1 := HK.out; rw [hat] at h1; injection h1 with h1; injection h1); clear hat)
          | (at_builtin; refine wpList_append_own _ rfl _ _ 23 rfl w1.heap.size 3 j0 (.int .i64 0) 1 8 Tryz.underlying23 hj0 hj1 hj2 hj3 rfl (by decide) _ _ _ rfl (HR.out.own.alloc _) ⟨wr.heap.size, 0, none⟩ 1 1 (flatI [(k : Int)]) rfl rfl (Cells.new wr #[.int .i64 (k : Int)] 3).news (flatI_one _) ?c3 ?c4 ?c5 ?_)
          | go_in)
        case c3 => unfold maxLen; omega
        case c4 => omega
        case c5 => have := HR.out.le; simp; omega
        intro v' w2 hown' hgrow _
        have HZ := Lib.hid ((HR.out.alloc _).grow hown' hgrow)
        clear hown' hgrow hown
        go_wp2_with fail
        go_roundw
        case rel => exact ⟨k + 1, by go_num, by omega, by rw [HS.out]; simp only [cond]; rw [List.length_append, natI_app, flatI_append]; exact HZ.out⟩
        case measure => simp [intOf]; omega
      · have d1 : ((q : Int) == 0) = false := by simp; omega
        rw [decide_eq_false (fun h => hz (hn.2 h))] at HS
        clear hn hz
        go_wp2_with (first
          | (at_lookup; refine wpList_lookup_own_int _ rfl _ _ 78 rfl 3 3 .i64 intLaw Tryz.underlying78 Tryz.underlying3 (zeroInt _) mb l _ rfl hown _ _ rfl hkey ?_; intro c hat hwc; obtain rfl : c = (q : Int) := (by have h1 := HK.out; rw [hat] at h1; injection h1 with h1; injection h1); clear hat)
          | go_in)
        go_roundw
        case rel => exact ⟨k + 1, by go_num, by omega, by rw [HS.out]; exact HR.out⟩
        case measure => simp [intOf]; omega
    · obtain rfl : k = m := by omega
      go_wp2_with fail
      go_ret
      exact ⟨_, rfl, lnIs_of_own R.own, (far_of_own R.own).mono HB.out.size, HB.out.trans (R.bel.mono HB.out.size)⟩
end Go.Proofs.YtiafjbhekfpkbaaGreatDoor
namespace Go.Proofs.YtiafjbhekfpkbaaGreatDoor
set_option linter.unusedSimpArgs false
set_option linter.unusedVariables false
open Go.ChangeShapes Go.WideShapes Go.ChangeAt Go.RowKit

/-- The places of the first i opers. -/
def placesUp (L : List Opr) : Nat → List Int
  | 0 => []
  | i + 1 => bif decide (0 ≤ (oprN L i).fr) then placesUp L i ++ [(oprN L i).fr, (oprN L i).to] else placesUp L i
/-- The least of the first j numbers that is above last; -1: none. -/
def nextUp (ps : List Int) (last : Int) : Nat → Int
  | 0 => -1
  | j + 1 => bif decide (last < ps.getD j 0) && (decide (nextUp ps last j < 0) || decide (ps.getD j 0 < nextUp ps last j)) then ps.getD j 0 else nextUp ps last j
def begE (o : Opr) : Ev := ⟨o.th, false, o.c, zeroA⟩
def backE (o : Opr) : Ev := ⟨o.th, true, zeroC, o.a⟩
/-- The beginnings at a place, of the first i opers; the answers. -/
def begsUp (L : List Opr) (p : Int) : Nat → List Ev
  | 0 => []
  | i + 1 => bif decide ((oprN L i).fr = p) then begsUp L p i ++ [begE (oprN L i)] else begsUp L p i
def backsUp (L : List Opr) (p : Int) : Nat → List Ev
  | 0 => []
  | i + 1 => bif decide (0 ≤ (oprN L i).fr) && decide ((oprN L i).to = p) then backsUp L p i ++ [backE (oprN L i)] else backsUp L p i
def evsAt (L : List Opr) (p : Int) : List Ev := begsUp L p L.length ++ backsUp L p L.length
def above (ps : List Int) (last : Int) : Nat := (ps.filter fun x => decide (last < x)).length
def ofFrom (L : List Opr) (ps : List Int) : Nat → Int → List Ev
  | 0, _ => []
  | f + 1, last => bif decide (nextUp ps last ps.length < 0) then [] else evsAt L (nextUp ps last ps.length) ++ ofFrom L ps f (nextUp ps last ps.length)
def ofRest (L : List Opr) (ps : List Int) (last : Int) : List Ev := ofFrom L ps (above ps last + 1) last
/-- The events of opers. -/
def ofL (L : List Opr) : List Ev := ofRest L (placesUp L L.length) (-1)

theorem placesUp_len (L : List Opr) : ∀ i, (placesUp L i).length ≤ 2 * i
  | 0 => Nat.le_refl _
  | i + 1 => by
    have := placesUp_len L i
    unfold placesUp
    cases decide (0 ≤ (oprN L i).fr)
    · simp only [cond]; omega
    · simp only [cond, List.length_append, List.length_cons, List.length_nil]; omega
theorem begsUp_len (L : List Opr) (p : Int) : ∀ i, (begsUp L p i).length ≤ i
  | 0 => Nat.le_refl _
  | i + 1 => by
    have := begsUp_len L p i
    unfold begsUp
    cases decide ((oprN L i).fr = p)
    · simp only [cond]; omega
    · simp only [cond, List.length_append, List.length_cons, List.length_nil]; omega
theorem backsUp_len (L : List Opr) (p : Int) : ∀ i, (backsUp L p i).length ≤ i
  | 0 => Nat.le_refl _
  | i + 1 => by
    have := backsUp_len L p i
    unfold backsUp
    cases decide (0 ≤ (oprN L i).fr) && decide ((oprN L i).to = p)
    · simp only [cond]; omega
    · simp only [cond, List.length_append, List.length_cons, List.length_nil]; omega
theorem getD_mem {ps : List Int} {j : Nat} (h : j < ps.length) : ps.getD j 0 ∈ ps := by
  simp [List.getD, h]
theorem nextUp_spec (ps : List Int) (last : Int) : ∀ j, j ≤ ps.length → nextUp ps last j = -1 ∨ (nextUp ps last j ∈ ps ∧ last < nextUp ps last j)
  | 0, _ => .inl rfl
  | j + 1, h => by
    have ih := nextUp_spec ps last j (by omega)
    unfold nextUp
    cases hc : decide (last < ps.getD j 0) && (decide (nextUp ps last j < 0) || decide (ps.getD j 0 < nextUp ps last j))
    · exact ih
    · simp only [Bool.and_eq_true, decide_eq_true_eq] at hc
      exact .inr ⟨getD_mem (by omega), hc.1⟩
theorem above_lt {ps : List Int} {last x : Int} (hx : x ∈ ps) (h : last < x) : above ps x < above ps last := by
  unfold above
  induction ps with
  | nil => simp at hx
  | cons y ps ih =>
    have hle : ∀ l : List Int, (l.filter fun z => decide (x < z)).length ≤ (l.filter fun z => decide (last < z)).length := fun l => by
      induction l with
      | nil => simp
      | cons z l ih2 =>
        by_cases h1 : x < z
        · rw [List.filter_cons_of_pos (by simpa using h1), List.filter_cons_of_pos (by simp; omega)]; simp; omega
        · rw [List.filter_cons_of_neg (by simpa using h1)]
          by_cases h2 : last < z
          · rw [List.filter_cons_of_pos (by simpa using h2)]; simp; omega
          · rw [List.filter_cons_of_neg (by simpa using h2)]; exact ih2
    rcases List.mem_cons.1 hx with rfl | hx
    · rw [List.filter_cons_of_neg (by simp), List.filter_cons_of_pos (by simpa using h)]
      have := hle ps
      simp; omega
    · have := ih hx
      by_cases h1 : x < y
      · rw [List.filter_cons_of_pos (by simpa using h1), List.filter_cons_of_pos (by simp; omega)]; simp; omega
      · rw [List.filter_cons_of_neg (by simpa using h1)]
        by_cases h2 : last < y
        · rw [List.filter_cons_of_pos (by simpa using h2)]; simp; omega
        · rw [List.filter_cons_of_neg (by simpa using h2)]; exact this
theorem ofFrom_same (L : List Opr) (ps : List Int) : ∀ f g last, -1 ≤ last → above ps last < f → above ps last < g → ofFrom L ps f last = ofFrom L ps g last
  | 0, _, _, _, h, _ => by omega
  | _ + 1, 0, _, _, _, h => by omega
  | f + 1, g + 1, last, h0, hf, hg => by
    have hs := nextUp_spec ps last ps.length (Nat.le_refl _)
    unfold ofFrom
    cases hd : decide (nextUp ps last ps.length < 0)
    · simp only [decide_eq_false_iff_not] at hd
      have hm : nextUp ps last ps.length ∈ ps ∧ last < nextUp ps last ps.length := hs.resolve_left (by omega)
      have hl := above_lt hm.1 hm.2
      simp only [cond]
      rw [ofFrom_same L ps f g _ (by omega) (by omega) (by omega)]
    · rfl
theorem ofRest_done {L : List Opr} {ps : List Int} {last : Int} (h : nextUp ps last ps.length < 0) : ofRest L ps last = [] := by
  unfold ofRest ofFrom
  rw [decide_eq_true h]; rfl
theorem ofRest_step {L : List Opr} {ps : List Int} {last : Int} (h : ¬ nextUp ps last ps.length < 0) : ofRest L ps last = evsAt L (nextUp ps last ps.length) ++ ofRest L ps (nextUp ps last ps.length) ∧ last < nextUp ps last ps.length ∧ above ps (nextUp ps last ps.length) < above ps last := by
  have hm := (nextUp_spec ps last ps.length (Nat.le_refl _)).resolve_left (by omega)
  have hl := above_lt hm.1 hm.2
  refine ⟨?_, hm.2, hl⟩
  unfold ofRest
  rw [show ofFrom L ps (above ps last + 1) last = bif decide (nextUp ps last ps.length < 0) then [] else evsAt L (nextUp ps last ps.length) ++ ofFrom L ps (above ps last) (nextUp ps last ps.length) from rfl, decide_eq_false h]
  simp only [cond]
  rw [ofFrom_same L ps (above ps last) (above ps (nextUp ps last ps.length) + 1) _ (by omega) hl (by omega)]
theorem ofFrom_len (L : List Opr) (ps : List Int) : ∀ f last, (ofFrom L ps f last).length ≤ f * (2 * L.length)
  | 0, _ => by simp [ofFrom]
  | f + 1, last => by
    have ih := ofFrom_len L ps f (nextUp ps last ps.length)
    have h1 := begsUp_len L (nextUp ps last ps.length) L.length
    have h2 := backsUp_len L (nextUp ps last ps.length) L.length
    unfold ofFrom
    rw [Nat.succ_mul]
    cases decide (nextUp ps last ps.length < 0)
    · simp only [cond, evsAt, List.length_append]; omega
    · simp
theorem above_le (ps : List Int) (last : Int) : above ps last ≤ ps.length := List.length_filter_le ..
theorem ofL_len (L : List Opr) : (ofL L).length ≤ (2 * L.length + 1) * (2 * L.length) := by
  have h1 := ofFrom_len L (placesUp L L.length) (above (placesUp L L.length) (-1) + 1) (-1)
  have h2 := above_le (placesUp L L.length) (-1)
  have h3 := placesUp_len L L.length
  exact Nat.le_trans h1 (Nat.mul_le_mul (by omega) (Nat.le_refl _))
end Go.Proofs.YtiafjbhekfpkbaaGreatDoor
namespace Go.Proofs.YtiafjbhekfpkbaaGreatDoor
set_option linter.unusedSimpArgs false
set_option linter.unusedVariables false
open Go.ChangeShapes Go.WideShapes Go.ChangeAt Go.RowKit

theorem hAnswered_any (x : Opr) (w : World) : Calls Tryz.prog 34 #[.agg (opF x).toArray] w fun e w' => e = .returned (.bool (decide (0 ≤ x.to))) ∧ Below w.heap.size w w' := by
  go_enter Tryz.func34, Tryz.ntmps34
  go_upto_region 1 with fail
  generalize hW : World.alloc _ _ = W
  obtain ⟨hB, hx⟩ := one_cells _ _ _ W hW
  have p0 : W.cell? ⟨w.heap.size, 15, none⟩ = some (.int .i64 x.to) := hx.cell 15
  have HB := Lib.hid hB
  clear hW hx hB
  go_wp2_with fail
  go_ret
  exact ⟨by simp, HB.out⟩

theorem hAhead_any (x y : Opr) (w : World) : Calls Tryz.prog 20 #[.agg (opF x).toArray, .agg (opF y).toArray] w fun e w' => e = .returned (.bool (aheadB x y)) ∧ Below w.heap.size w w' := by
  have C := Lib.hid (fun W => hAnswered_any x W)
  have H := Lib.hid (show aheadB x y = (decide (0 ≤ x.to) && decide (x.to < y.fr)) from rfl)
  go_enter Tryz.func20, Tryz.ntmps20
  go_upto_region 1 with fail
  generalize hW : World.alloc _ _ = W
  obtain ⟨hB, hx, hy⟩ := two_cells _ _ _ _ _ W hW
  obtain ⟨p0, p1, p2, p3, p4, p5, p6, p7, p8, p9, p10, p11, p12, p13, p14, p15⟩ := opr_cells (w := W) (b := w.heap.size) (o := 0) (x := x) (fun j _ => by rw [Nat.zero_add]; exact hx.cell j)
  simp only [Nat.zero_add] at p1 p2 p3 p4 p5 p6 p7 p8 p9 p10 p11 p12 p13 p14 p15
  have HX := Lib.hid hx; have HY := Lib.hid hy
  have HB := Lib.hid hB
  clear hW hx hy hB
  by_cases h1 : 0 ≤ x.to
  · have HD := Lib.hid (decide_eq_true h1)
    rw [decide_eq_true h1] at C
    go_upto_region 2 with (go_at_call 34; refine (C.out _).mono ?_; rintro e w1 ⟨rfl, hb⟩; have q15 : w1.cell? ⟨w.heap.size, 15, none⟩ = some (.int .i64 x.to) := (HX.out.keep hb).cell 15; have q14 : w1.cell? ⟨w.heap.size + 1, 14, none⟩ = some (.int .i64 y.fr) := (HY.out.keep hb).cell 14; have HB1 := Lib.hid (HB.out.trans (hb.mono HB.out.size)); clear hb)
    go_ret
    exact ⟨by rw [H.out, HD.out]; rfl, HB1.out⟩
  · have HD := Lib.hid (decide_eq_false h1)
    rw [decide_eq_false h1] at C
    go_wp2_with (go_at_call 34; refine (C.out _).mono ?_; rintro e w1 ⟨rfl, hb⟩; have HB1 := Lib.hid (HB.out.trans (hb.mono HB.out.size)); clear hb)
    go_ret
    exact ⟨by rw [H.out, HD.out]; rfl, HB1.out⟩

theorem evF_all (x : Ev) : (evF x).toArray.all (·.oneCell') = true := by simp [evF, Value.oneCell']
/-- What happens to an oper. -/
def eventE (o : Opr) (what : Int) : Ev := bif decide (what = 1) then backE o else begE o
end Go.Proofs.YtiafjbhekfpkbaaGreatDoor
namespace Go.Proofs.YtiafjbhekfpkbaaGreatDoor
set_option linter.unusedSimpArgs false
set_option linter.unusedVariables false
open Go.ChangeShapes Go.WideShapes Go.ChangeAt Go.RowKit

/-- A row's cells with m of them, from the o-th on, told by G. -/
def putF (f : Nat → Value) (o m : Nat) (G : Nat → Value) (i : Nat) : Value := if o ≤ i ∧ i < o + m then G (i - o) else f i
theorem putF_in {f : Nat → Value} {o m : Nat} {G : Nat → Value} {j : Nat} (h : j < m) : putF f o m G (o + j) = G j := by
  unfold putF; rw [if_pos ⟨by omega, by omega⟩, show o + j - o = j by omega]
theorem putF_out {f : Nat → Value} {o m : Nat} {G : Nat → Value} {i : Nat} (h : i < o ∨ o + m ≤ i) : putF f o m G i = f i := by
  unfold putF; rw [if_neg (by omega)]
/-- m of a row's cells, from the o-th on. -/
def cutF (f : Nat → Value) (o : Nat) (i : Nat) : Value := f (o + i)
theorem rowOf_list (n : Nat) (f : Nat → Value) : (rowOf n f).toList = (List.range n).map f := by simp [rowOf]
theorem rowOf_all {n : Nat} {f : Nat → Value} (h : ∀ i, i < n → (f i).oneCell' = true) : (rowOf n f).all (·.oneCell') = true := by
  unfold rowOf
  rw [List.all_toArray, List.all_eq_true]
  intro v hv
  obtain ⟨i, hi, rfl⟩ := List.mem_map.1 hv
  exact h i (List.mem_range.1 hi)

section
variable {w w' : World} {g n o m : Nat} {t : TypeId} {f : Nat → Value}
theorem Row.range (h : Row w g t n f) (ho : o + m ≤ n) : w.rangeAt g o ((List.range m).map (cutF f o)) := fun j v hj => by
  obtain ⟨hjm, e⟩ := List.getElem?_eq_some_iff.1 hj
  have hj' : j < m := by simpa using hjm
  rw [List.getElem_map, List.getElem_range] at e
  rw [h.cell (by omega), ← e]
  rfl
theorem Row.range0 (h : Row w g t n f) : w.rangeAt g 0 ((List.range n).map f) := fun j v hj => by
  obtain ⟨hjm, e⟩ := List.getElem?_eq_some_iff.1 hj
  have hj' : j < n := by simpa using hjm
  rw [List.getElem_map, List.getElem_range] at e
  rw [Nat.zero_add, h.cell hj', ← e]
theorem Row.there (h : Row w g t n f) (ho : o + m ≤ n) : w.there g o m := fun j hj => ⟨by rw [h.cell (by omega)]; rfl, h.frozen _⟩
theorem Row.cells_ (cs : List Value) : ∀ {w : World} {f : Nat → Value} {o : Nat}, Row w g t n f → o + cs.length ≤ n → Row (w.setCells g o cs) g t n (fun i => if o ≤ i ∧ i < o + cs.length then cs.getD (i - o) undef else f i) := by
  induction cs with
  | nil =>
    intro w f o h ho
    refine h.congr fun i _ => ?_
    rw [if_neg (by simp only [List.length_nil]; omega)]
  | cons v r ih =>
    intro w f o h ho
    rw [World.setCells]
    have h1 := ih (o := o + 1) (h.set_ o v) (by simp at ho; omega)
    refine h1.congr fun i _ => ?_
    simp only [List.length_cons] at ho ⊢
    by_cases h2 : i = o
    · subst h2
      rw [if_neg (by omega), if_pos rfl, if_pos (by omega)]
      simp
    · rw [if_neg h2]
      by_cases h3 : o + 1 ≤ i ∧ i < o + 1 + r.length
      · rw [if_pos h3, if_pos (by omega), show i - o = (i - (o + 1)) + 1 by omega]
        simp
      · rw [if_neg h3, if_neg (by omega)]
theorem Row.put (h : Row w g t n f) (G : Nat → Value) (ho : o + m ≤ n) : Row (w.setCells g o (rowOf m G).toList) g t n (putF f o m G) := by
  have hl : (rowOf m G).toList.length = m := by simp [rowOf]
  refine (Row.cells_ (rowOf m G).toList h (by rw [hl]; exact ho)).congr fun i _ => ?_
  unfold putF
  rw [hl]
  by_cases h2 : o ≤ i ∧ i < o + m
  · rw [if_pos h2, if_pos h2, rowOf_list]
    simp [List.getD, show i - o < m by omega]
  · rw [if_neg h2, if_neg h2]
theorem Row.cells_far (cs : List Value) : ∀ {w : World} {o : Nat} {b : Nat}, Row w g t n f → g ≠ b → Row (w.setCells b o cs) g t n f := by
  induction cs with
  | nil => intro w o b h _; exact h
  | cons v r ih => intro w o b h hb; rw [World.setCells]; exact ih (h.far (p := ⟨b, o, none⟩) hb v) hb
theorem below_cells {B : Nat} {w : World} (cs : List Value) : ∀ {w' : World} {o : Nat} {b : Nat}, Below B w w' → B ≤ b → Below B w (w'.setCells b o cs) := by
  induction cs with
  | nil => intro w' o b h _; exact h
  | cons v r ih => intro w' o b h hb; rw [World.setCells]; exact ih (h.setCell (p := ⟨b, o, none⟩) hb v) hb
theorem only_cells {F : Nat → Prop} {w : World} (cs : List Value) : ∀ {w' : World} {o : Nat} {b : Nat}, Only F w w' → F b → Only F w (w'.setCells b o cs) := by
  induction cs with
  | nil => intro w' o b h _; exact h
  | cons v r ih => intro w' o b h hb; rw [World.setCells]; exact ih (h.setCell (p := ⟨b, o, none⟩) hb v) hb
theorem only_setRow {F : Nat → Prop} {w w' : World} {b : Nat} (h : Only F w w') (hb : F b) (cs : Array Value) : Only F w (w'.setRow b cs) :=
  ⟨below_setRow_ h.1 (Nat.zero_le _) _, fun i hi hn => (setRow_other _ _ _ _ (fun e => hn (by rw [e]; exact hb))).trans (h.2 i hi hn)⟩
theorem cells_size (cs : List Value) : ∀ {w : World} {o b : Nat}, (w.setCells b o cs).heap.size = w.heap.size := by
  induction cs with
  | nil => intro w o b; rfl
  | cons v r ih => intro w o b; rw [World.setCells, ih]; simp [World.setCell]
end
/-- Two blocks, the first of which is stored whole. -/
theorem two_then {w : World} {c1 c2 : Array Value} {t1 t2 : TypeId} {n : Nat} {F : Nat → Value} : ∀ W, ((w.alloc (.cells c1 t1)).alloc (.cells c2 t2)).setRow w.heap.size (rowOf n F) = W →
    Below w.heap.size w W ∧ Row W w.heap.size t1 n F ∧ W.heap[w.heap.size + 1]? = some (.cells c2 t2 (0, 0)) := by
  rintro W rfl
  have h1 : ((w.alloc (.cells c1 t1)).alloc (.cells c2 t2)).heap[w.heap.size]? = some (.cells c1 t1 (0, 0)) := (Below.heap_alloc _ _ _ (by simp)).trans (heap_alloc_new w _)
  have h2 : ((w.alloc (.cells c1 t1)).alloc (.cells c2 t2)).heap[w.heap.size + 1]? = some (.cells c2 t2 (0, 0)) := by
    have := heap_alloc_new (w.alloc (.cells c1 t1)) (.cells c2 t2)
    rw [World.size_alloc] at this
    exact this
  refine ⟨below_setRow_ (((Below.refl _ w).alloc (Nat.le_refl _) _).alloc (by simp) _) (Nat.le_refl _) _, setRow_heap _ _ _ _ _ _ h1, (setRow_other _ _ _ _ (by omega)).trans h2⟩
theorem heap_alloc_fst (w : World) (o1 o2 : Obj) : ((w.alloc o1).alloc o2).heap[w.heap.size]? = some o1 := (Below.heap_alloc _ _ _ (by simp)).trans (heap_alloc_new w _)
theorem if_wanted {c : Bool} {X E : Prop} (h : c = true) (hx : X) : if c = true then X else E := by rw [if_pos h]; exact hx
/-- A whole load that is guarded, and wanted. -/
theorem wpList_load_rowG {P : Program} {ops : Array Oper} {rest : List Oper} {o : Oper} {a : Act} {w : World} {Q : Exit → Act → World → Prop} (hw : Region.wanted o (yielded ops a.tmps) = true) (ty : TypeId) (x : Operand) (ho : o.op = .load ty x)
    (g : Nat) (hx : a.eval x = .pointer (some ⟨g, 0, none⟩)) (t : TypeId) (cs : Array Value) (fr : Nat × Nat) (d : TypeDesc) (hg : w.heap[g]? = some (.cells cs t fr))
    (hu : P.underlying ty = some d) (hd : (match d with | .struct _ | .array _ _ => true | _ => false) = true) (hi : (P.info? ty).map (·.size) = some cs.size)
    (h : wpList P ops Q rest (a.put o.dst (.agg cs)) w) : wpList P ops Q (o :: rest) a w :=
  wpList_step fun K hK => by simp only [hw, if_true]; exact wp_load_row ty x ho g hx t cs fr d hg hu hd hi (hK _ _ h)
/-- A struct out of a block, and one number: a function's two results. -/
theorem results_cell_tmp {P : Program} {fn : Func} {p u : Tmp} {ty : TypeId} (h : fn.results = #[.cell p ty, .tmp u]) (tmps : Array Value) (w : World) (g : Nat) (t : TypeId) (cs : Array Value) (fr : Nat × Nat) (d : TypeDesc)
    (hp : tmps.getD p undef = .pointer (some ⟨g, 0, none⟩)) (hg : w.heap[g]? = some (.cells cs t fr))
    (hu : P.underlying ty = some d) (hd : (match d with | .struct _ | .array _ _ => true | _ => false) = true) (hi : (P.info? ty).map (·.size) = some cs.size) :
    (results fn tmps).run P w = .ok (.tuple #[.agg cs, tmps.getD u undef]) w := by
  have hp' : tmps[p]?.getD undef = .pointer (some ⟨g, 0, none⟩) := by simpa using hp
  simp [results, h, hp', asAddr, run_loadVar_row w g t ty cs fr d hg hu hd hi]
/-- Two structs out of blocks. -/
theorem results_two_cells {P : Program} {fn : Func} {p q : Tmp} {ty tz : TypeId} (h : fn.results = #[.cell p ty, .cell q tz]) (tmps : Array Value) (w : World) (g k : Nat) (t u : TypeId) (cs ds : Array Value) (fr fs : Nat × Nat) (d e : TypeDesc)
    (hp : tmps.getD p undef = .pointer (some ⟨g, 0, none⟩)) (hq : tmps.getD q undef = .pointer (some ⟨k, 0, none⟩)) (hg : w.heap[g]? = some (.cells cs t fr)) (hk : w.heap[k]? = some (.cells ds u fs))
    (hu : P.underlying ty = some d) (hd : (match d with | .struct _ | .array _ _ => true | _ => false) = true) (hi : (P.info? ty).map (·.size) = some cs.size)
    (hu2 : P.underlying tz = some e) (hd2 : (match e with | .struct _ | .array _ _ => true | _ => false) = true) (hi2 : (P.info? tz).map (·.size) = some ds.size) :
    (results fn tmps).run P w = .ok (.tuple #[.agg cs, .agg ds]) w := by
  have hp' : tmps[p]?.getD undef = .pointer (some ⟨g, 0, none⟩) := by simpa using hp
  have hq' : tmps[q]?.getD undef = .pointer (some ⟨k, 0, none⟩) := by simpa using hq
  simp [results, h, hp', hq', asAddr, run_loadVar_row w g t ty cs fr d hg hu hd hi, run_loadVar_row w k u tz ds fs e hk hu2 hd2 hi2]
end Go.Proofs.YtiafjbhekfpkbaaGreatDoor
