/- The events of a history's opers are that history. -/
import Derived.Test.YtckcliimngeieaaHistFacts
namespace Go.Proofs.Ytckcliimngeieaa
open Go.ChangeShapes Go.WideShapes Go.ChangeAt Go.RowKit

theorem take_next_get {α : Type} [Inhabited α] {L : List α} {i : Nat} (h : i < L.length) : L.take (i + 1) = L.take i ++ [L.getD i default] := by
  rw [List.take_add_one]
  simp [List.getD, h]
theorem begsUp_filter (L : List Opr) (p : Int) : ∀ i, i ≤ L.length → begsUp L p i = ((L.take i).filter fun o => decide (o.fr = p)).map begE
  | 0, _ => by simp [begsUp]
  | i + 1, h => by
    have ih := begsUp_filter L p i (by omega)
    unfold begsUp
    rw [take_next_get (by omega), List.filter_append, List.map_append, ← ih]
    show _ = _ ++ List.map begE (List.filter _ [oprN L i])
    cases hd : decide ((oprN L i).fr = p)
    · rw [List.filter_cons_of_neg (by rw [hd]; simp)]; simp
    · rw [List.filter_cons_of_pos (by exact hd)]; simp
theorem backsUp_filter (L : List Opr) (p : Int) : ∀ i, i ≤ L.length → backsUp L p i = ((L.take i).filter fun o => decide (0 ≤ o.fr) && decide (o.to = p)).map backE
  | 0, _ => by simp [backsUp]
  | i + 1, h => by
    have ih := backsUp_filter L p i (by omega)
    unfold backsUp
    rw [take_next_get (by omega), List.filter_append, List.map_append, ← ih]
    show _ = _ ++ List.map backE (List.filter _ [oprN L i])
    cases hd : (decide (0 ≤ (oprN L i).fr) && decide ((oprN L i).to = p))
    · rw [List.filter_cons_of_neg (by rw [hd]; simp)]; simp
    · rw [List.filter_cons_of_pos (by exact hd)]; simp
theorem evsAt_filter (L : List Opr) (p : Int) : evsAt L p = ((L.filter fun o => decide (o.fr = p)).map begE) ++ ((L.filter fun o => decide (0 ≤ o.fr) && decide (o.to = p)).map backE) := by
  unfold evsAt
  rw [begsUp_filter L p _ (Nat.le_refl _), backsUp_filter L p _ (Nat.le_refl _), List.take_length]
theorem placesUp_mem {L : List Opr} {x : Int} : ∀ {i : Nat}, i ≤ L.length → (x ∈ placesUp L i ↔ ∃ o ∈ L.take i, 0 ≤ o.fr ∧ (x = o.fr ∨ x = o.to))
  | 0, _ => by simp [placesUp]
  | i + 1, h => by
    have ih := placesUp_mem (L := L) (x := x) (i := i) (by omega)
    unfold placesUp
    rw [take_next_get (by omega)]
    simp only [List.mem_append, List.mem_singleton]
    change _ ↔ ∃ o, (o ∈ L.take i ∨ o = oprN L i) ∧ _
    cases hd : decide (0 ≤ (oprN L i).fr)
    · simp only [cond, ih]
      simp only [decide_eq_false_iff_not] at hd
      constructor
      · rintro ⟨o, h1, h2⟩; exact ⟨o, .inl h1, h2⟩
      · rintro ⟨o, h1 | rfl, h2, h3⟩
        · exact ⟨o, h1, h2, h3⟩
        · exact absurd h2 hd
    · simp only [cond, List.mem_append, ih, List.mem_cons, List.not_mem_nil, or_false]
      simp only [decide_eq_true_eq] at hd
      constructor
      · rintro (⟨o, h1, h2⟩ | h1)
        · exact ⟨o, .inl h1, h2⟩
        · exact ⟨_, .inr rfl, hd, h1⟩
      · rintro ⟨o, h1 | rfl, h2, h3⟩
        · exact .inl ⟨o, h1, h2, h3⟩
        · exact .inr h3
theorem placesUp_all {L : List Opr} {x : Int} : x ∈ placesUp L L.length ↔ ∃ o ∈ L, 0 ≤ o.fr ∧ (x = o.fr ∨ x = o.to) := by
  have := placesUp_mem (L := L) (x := x) (Nat.le_refl L.length)
  rwa [List.take_length] at this
theorem nextUp_le {ps : List Int} {last x : Int} (hl : -1 ≤ last) (h : last < x) : ∀ {j : Nat}, (∃ i, i < j ∧ ps.getD i 0 = x) → 0 ≤ nextUp ps last j ∧ nextUp ps last j ≤ x
  | 0, ⟨i, hi, _⟩ => by omega
  | j + 1, ⟨i, hi, he⟩ => by
    unfold nextUp
    cases hc : decide (last < ps.getD j 0) && (decide (nextUp ps last j < 0) || decide (ps.getD j 0 < nextUp ps last j))
    · simp only [cond]
      rcases Nat.lt_or_ge i j with h1 | h1
      · exact nextUp_le hl h ⟨i, h1, he⟩
      · obtain rfl : i = j := by omega
        rw [he, decide_eq_true h, Bool.true_and, Bool.or_eq_false_iff, decide_eq_false_iff_not, decide_eq_false_iff_not] at hc
        omega
    · simp only [cond]
      simp only [Bool.and_eq_true, Bool.or_eq_true, decide_eq_true_eq] at hc
      rcases Nat.lt_or_ge i j with h1 | h1
      · have := nextUp_le (ps := ps) hl h ⟨i, h1, he⟩
        omega
      · obtain rfl : i = j := by omega
        omega
/-- The next place is the one behind, where there is one. -/
theorem nextUp_is {ps : List Int} {last : Int} (hl : -1 ≤ last) (h : last + 1 ∈ ps) : nextUp ps last ps.length = last + 1 := by
  obtain ⟨i, hi, he⟩ := List.getElem_of_mem h
  have h1 := nextUp_le (ps := ps) (x := last + 1) hl (by omega) (j := ps.length) ⟨i, hi, by simp [List.getD, hi, he]⟩
  have h2 := nextUp_spec ps last ps.length (Nat.le_refl _)
  omega
theorem nextUp_no {ps : List Int} {last : Int} (h : ∀ x ∈ ps, x ≤ last) : nextUp ps last ps.length < 0 := by
  rcases nextUp_spec ps last ps.length (Nat.le_refl _) with h1 | ⟨h1, h2⟩
  · omega
  · have := h _ h1; omega

section
variable {L : List Ev} {n : Nat}
theorem begs_at (H : Hist L n) {j : Nat} (hj : j < n) : ∀ i, i ≤ n → ((opsUp L n i).filter fun o => decide (o.fr = (j : Int))).map begE = bif decide (j < i) && !(evN L j).back then [evN L j] else []
  | 0, _ => by simp [opsUp]
  | i + 1, h => by
    have ih := begs_at H hj i (by omega)
    unfold opsUp
    cases hb : (evN L i).back
    · simp only [cond_false, List.filter_append, List.map_append, ih]
      by_cases e : i = j
      · subst e
        rw [List.filter_cons_of_pos (by show decide ((i : Int) = (i : Int)) = true; simp), hb, decide_eq_false (by omega), decide_eq_true (by omega)]
        simp only [Bool.false_and, cond_false, Bool.not_false, Bool.and_self, cond_true, List.nil_append, List.filter_nil, List.map_cons, List.map_nil]
        congr 1
        have ha := H.ans i hj hb
        show (⟨(evN L i).th, false, (evN L i).c, zeroA⟩ : Ev) = evN L i
        rw [← ha, ← hb]
      · rw [List.filter_cons_of_neg (by show ¬ decide ((i : Int) = (j : Int)) = true; simp; omega)]
        have e2 : decide (j < i + 1) = decide (j < i) := decide_eq_decide.2 (by omega)
        rw [e2]
        simp
    · simp only [cond_true, ih]
      by_cases e : i = j
      · subst e
        rw [hb]; simp
      · have e2 : decide (j < i + 1) = decide (j < i) := decide_eq_decide.2 (by omega)
        rw [e2]
theorem backs_no (H : Hist L n) {j : Nat} (hj : j < n) (hb : (evN L j).back = false) : ∀ i, i ≤ n → ((opsUp L n i).filter fun o => decide (0 ≤ o.fr) && decide (o.to = (j : Int))).map backE = [] := fun i hi => by
  rw [List.map_eq_nil_iff, List.filter_eq_nil_iff]
  intro o ho
  obtain ⟨p, h1, h2, rfl⟩ := mem_opsUp.1 ho
  simp only [Bool.and_eq_true, decide_eq_true_eq, not_and]
  intro _ h4
  obtain ⟨q, e1, e2, e3, e4, e5, _⟩ := H.to (by omega) h2 (by omega)
  have : q = j := by omega
  subst this
  rw [e5] at hb; cases hb
theorem backs_at (H : Hist L n) {j p : Nat} (hj : j < n) (hb : (evN L j).back = true) (h1 : p < j) (h2 : (evN L p).back = false) (h3 : (evN L j).th = (evN L p).th) (h4 : ∀ r, p + 1 ≤ r → r < j → (evN L r).th ≠ (evN L p).th) :
    ∀ i, i ≤ n → ((opsUp L n i).filter fun o => decide (0 ≤ o.fr) && decide (o.to = (j : Int))).map backE = bif decide (p < i) then [evN L j] else []
  | 0, _ => by simp [opsUp]
  | i + 1, h => by
    have ih := backs_at H hj hb h1 h2 h3 h4 i (by omega)
    unfold opsUp
    by_cases e : i = p
    · subst e
      rw [h2]
      simp only [cond_false, List.filter_append, List.map_append, ih]
      have hto := H.to_is h1 hj h3 h4
      rw [List.filter_cons_of_pos (by rw [hto]; show (decide (0 ≤ (i : Int)) && decide ((j : Int) = (j : Int))) = true; simp), decide_eq_false (by omega), decide_eq_true (by omega)]
      simp only [cond_false, cond_true, List.nil_append, List.filter_nil, List.map_cons, List.map_nil]
      congr 1
      obtain ⟨q, e1, e2, e3, e4, e5, e6, _⟩ := H.to (by omega) h2 (by rw [hto]; omega)
      rw [hto] at e1
      have : j = q := by omega
      subst this
      have hc := H.call j hj hb
      show (⟨(evN L i).th, true, zeroC, (scan L i (n - (i + 1))).a⟩ : Ev) = evN L j
      rw [e6, ← hc, ← hb, ← h3]
    · have e2 : decide (p < i + 1) = decide (p < i) := decide_eq_decide.2 (by omega)
      rw [e2]
      cases hbi : (evN L i).back
      · simp only [cond_false, List.filter_append, List.map_append, ih]
        have hne : ¬ (scan L i (n - (i + 1))).to = (j : Int) := fun hto => by
          obtain ⟨q, e3, e4, e5, e6, e7, e8, e9⟩ := H.to (by omega) hbi (by omega)
          have : q = j := by omega
          subst this
          rcases Nat.lt_trichotomy i p with h5 | h5 | h5
          · exact e9 p (by omega) h1 (by rw [← h3, e6])
          · exact e h5
          · exact h4 i (by omega) e4 (by rw [← h3, e6])
        rw [List.filter_cons_of_neg (by rw [decide_eq_false hne]; simp)]
        simp
      · simp only [cond_true, ih]
theorem evsAt_hist (H : Hist L n) {j : Nat} (hj : j < n) : evsAt (opsUp L n n) (j : Int) = [evN L j] := by
  rw [evsAt_filter, begs_at H hj n (Nat.le_refl _)]
  cases hb : (evN L j).back
  · rw [backs_no H hj hb n (Nat.le_refl _), decide_eq_true hj]; rfl
  · obtain ⟨p, h1, h2, h3, h4⟩ := H.asked hj hb
    rw [backs_at H hj hb h1 h2 h3 h4 n (Nat.le_refl _), decide_eq_true (show p < n by omega)]
    simp
theorem places_hist (H : Hist L n) {j : Nat} (hj : j < n) : (j : Int) ∈ placesUp (opsUp L n n) (opsUp L n n).length := by
  rw [placesUp_all]
  cases hb : (evN L j).back
  · exact ⟨_, mem_opsUp.2 ⟨j, hj, hb, rfl⟩, by show (0 : Int) ≤ (j : Int); omega, .inl rfl⟩
  · obtain ⟨p, h1, h2, h3, h4⟩ := H.asked hj hb
    exact ⟨_, mem_opsUp.2 ⟨p, by omega, h2, rfl⟩, by show (0 : Int) ≤ (p : Int); omega, .inr (H.to_is h1 hj h3 h4).symm⟩
theorem places_below (H : Hist L n) (h0 : 0 < n) : ∀ x ∈ placesUp (opsUp L n n) (opsUp L n n).length, x ≤ ((n - 1 : Nat) : Int) := fun x hx => by
  obtain ⟨o, ho, _, h2⟩ := placesUp_all.1 hx
  obtain ⟨p, h3, h4, rfl⟩ := mem_opsUp.1 ho
  rcases h2 with rfl | rfl
  · show (p : Int) ≤ _; omega
  · have hb := found_bounds L (evN L p).th (p + 1) (n - (p + 1))
    show found L (evN L p).th (p + 1) (n - (p + 1)) ≤ _
    omega
theorem rest_hist (H : Hist L n) (hn : n = L.length) : ∀ m j, j + m = n → ofRest (opsUp L n n) (placesUp (opsUp L n n) (opsUp L n n).length) ((j : Int) - 1) = L.drop j
  | 0, j, h => by
    rw [List.drop_of_length_le (by omega)]
    apply ofRest_done
    rcases Nat.eq_zero_or_pos n with h0 | h0
    · subst h0
      have : j = 0 := by omega
      subst this
      show (-1 : Int) < 0
      decide
    · have hj : ((j : Int) - 1) = ((n - 1 : Nat) : Int) := by omega
      rw [hj]
      exact nextUp_no (places_below H h0)
  | m + 1, j, h => by
    have hj : j < n := by omega
    have hx := nextUp_is (last := (j : Int) - 1) (by omega) (by rw [show (j : Int) - 1 + 1 = (j : Int) by omega]; exact places_hist H hj)
    rw [show (j : Int) - 1 + 1 = (j : Int) by omega] at hx
    obtain ⟨h1, -, -⟩ := ofRest_step (L := opsUp L n n) (ps := placesUp (opsUp L n n) (opsUp L n n).length) (last := (j : Int) - 1) (by rw [hx]; omega)
    have ih := rest_hist H hn m (j + 1) (by omega)
    rw [show (((j + 1 : Nat) : Int)) - 1 = (j : Int) by omega] at ih
    rw [h1, hx, evsAt_hist H hj, ih, List.drop_eq_getElem_cons (by omega : j < L.length)]
    show evN L j :: _ = _
    congr 1
    simp [evN, List.getD, show j < L.length by omega]
end
/-- The events of a history's opers are that history. -/
theorem of_opers {L : List Ev} (hm : mayL L = true) : ofL (opersL L) = L := by
  obtain ⟨H, -⟩ := mayL_hist hm
  have ho : opersL L = opsUp L L.length L.length := by unfold opersL; rw [hm]; rfl
  rw [ho]
  have := rest_hist H rfl L.length 0 (by omega)
  exact this
end Go.Proofs.Ytckcliimngeieaa
