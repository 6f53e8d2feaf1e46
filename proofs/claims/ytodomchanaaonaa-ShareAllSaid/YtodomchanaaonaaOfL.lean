/- The events of opers, by their places: what burnbagref14.Of tells. -/
import Derived.Test.YtodomchanaaonaaRef14
namespace Go.Proofs.Ytodomchanaaonaa
open Go.ChangeShapes Go.WideShapes Go.ChangeAt Go.RowKit

/-- The places of the first i opers. -/
def placesUp (L : List Opr) : Nat → List Int
  | 0 => []
  | i + 1 => bif decide (0 ≤ (oprN L i).fr) then placesUp L i ++ [(oprN L i).fr, (oprN L i).to] else placesUp L i
/-- The least of the first j numbers that is above last; -1: none. -/
def nextUp (ps : List Int) (last : Int) : Nat → Int
  | 0 => -1
  | j + 1 => bif decide (last < ps.getD j 0) && (decide (nextUp ps last j < 0) || decide (ps.getD j 0 < nextUp ps last j)) then ps.getD j 0 else nextUp ps last j
def begE (o : Opr) : Ev := ⟨o.th, false, o.c, zeroA⟩
def backE (o : Opr) : Ev := ⟨o.th, true, zeroC, o.a⟩
/-- The beginnings at a place, of the first i opers; the answers. -/
def begsUp (L : List Opr) (p : Int) : Nat → List Ev
  | 0 => []
  | i + 1 => bif decide ((oprN L i).fr = p) then begsUp L p i ++ [begE (oprN L i)] else begsUp L p i
def backsUp (L : List Opr) (p : Int) : Nat → List Ev
  | 0 => []
  | i + 1 => bif decide (0 ≤ (oprN L i).fr) && decide ((oprN L i).to = p) then backsUp L p i ++ [backE (oprN L i)] else backsUp L p i
def evsAt (L : List Opr) (p : Int) : List Ev := begsUp L p L.length ++ backsUp L p L.length
def above (ps : List Int) (last : Int) : Nat := (ps.filter fun x => decide (last < x)).length
def ofFrom (L : List Opr) (ps : List Int) : Nat → Int → List Ev
  | 0, _ => []
  | f + 1, last => bif decide (nextUp ps last ps.length < 0) then [] else evsAt L (nextUp ps last ps.length) ++ ofFrom L ps f (nextUp ps last ps.length)
def ofRest (L : List Opr) (ps : List Int) (last : Int) : List Ev := ofFrom L ps (above ps last + 1) last
/-- The events of opers. -/
def ofL (L : List Opr) : List Ev := ofRest L (placesUp L L.length) (-1)

theorem placesUp_len (L : List Opr) : ∀ i, (placesUp L i).length ≤ 2 * i
  | 0 => Nat.le_refl _
  | i + 1 => by
    have := placesUp_len L i
    unfold placesUp
    cases decide (0 ≤ (oprN L i).fr)
    · simp only [cond]; omega
    · simp only [cond, List.length_append, List.length_cons, List.length_nil]; omega
theorem begsUp_len (L : List Opr) (p : Int) : ∀ i, (begsUp L p i).length ≤ i
  | 0 => Nat.le_refl _
  | i + 1 => by
    have := begsUp_len L p i
    unfold begsUp
    cases decide ((oprN L i).fr = p)
    · simp only [cond]; omega
    · simp only [cond, List.length_append, List.length_cons, List.length_nil]; omega
theorem backsUp_len (L : List Opr) (p : Int) : ∀ i, (backsUp L p i).length ≤ i
  | 0 => Nat.le_refl _
  | i + 1 => by
    have := backsUp_len L p i
    unfold backsUp
    cases decide (0 ≤ (oprN L i).fr) && decide ((oprN L i).to = p)
    · simp only [cond]; omega
    · simp only [cond, List.length_append, List.length_cons, List.length_nil]; omega
theorem getD_mem {ps : List Int} {j : Nat} (h : j < ps.length) : ps.getD j 0 ∈ ps := by
  simp [List.getD, h]
theorem nextUp_spec (ps : List Int) (last : Int) : ∀ j, j ≤ ps.length → nextUp ps last j = -1 ∨ (nextUp ps last j ∈ ps ∧ last < nextUp ps last j)
  | 0, _ => .inl rfl
  | j + 1, h => by
    have ih := nextUp_spec ps last j (by omega)
    unfold nextUp
    cases hc : decide (last < ps.getD j 0) && (decide (nextUp ps last j < 0) || decide (ps.getD j 0 < nextUp ps last j))
    · exact ih
    · simp only [Bool.and_eq_true, decide_eq_true_eq] at hc
      exact .inr ⟨getD_mem (by omega), hc.1⟩
theorem above_lt {ps : List Int} {last x : Int} (hx : x ∈ ps) (h : last < x) : above ps x < above ps last := by
  unfold above
  induction ps with
  | nil => simp at hx
  | cons y ps ih =>
    have hle : ∀ l : List Int, (l.filter fun z => decide (x < z)).length ≤ (l.filter fun z => decide (last < z)).length := fun l => by
      induction l with
      | nil => simp
      | cons z l ih2 =>
        by_cases h1 : x < z
        · rw [List.filter_cons_of_pos (by simpa using h1), List.filter_cons_of_pos (by simp; omega)]; simp; omega
        · rw [List.filter_cons_of_neg (by simpa using h1)]
          by_cases h2 : last < z
          · rw [List.filter_cons_of_pos (by simpa using h2)]; simp; omega
          · rw [List.filter_cons_of_neg (by simpa using h2)]; exact ih2
    rcases List.mem_cons.1 hx with rfl | hx
    · rw [List.filter_cons_of_neg (by simp), List.filter_cons_of_pos (by simpa using h)]
      have := hle ps
      simp; omega
    · have := ih hx
      by_cases h1 : x < y
      · rw [List.filter_cons_of_pos (by simpa using h1), List.filter_cons_of_pos (by simp; omega)]; simp; omega
      · rw [List.filter_cons_of_neg (by simpa using h1)]
        by_cases h2 : last < y
        · rw [List.filter_cons_of_pos (by simpa using h2)]; simp; omega
        · rw [List.filter_cons_of_neg (by simpa using h2)]; exact this
theorem ofFrom_same (L : List Opr) (ps : List Int) : ∀ f g last, -1 ≤ last → above ps last < f → above ps last < g → ofFrom L ps f last = ofFrom L ps g last
  | 0, _, _, _, h, _ => by omega
  | _ + 1, 0, _, _, _, h => by omega
  | f + 1, g + 1, last, h0, hf, hg => by
    have hs := nextUp_spec ps last ps.length (Nat.le_refl _)
    unfold ofFrom
    cases hd : decide (nextUp ps last ps.length < 0)
    · simp only [decide_eq_false_iff_not] at hd
      have hm : nextUp ps last ps.length ∈ ps ∧ last < nextUp ps last ps.length := hs.resolve_left (by omega)
      have hl := above_lt hm.1 hm.2
      simp only [cond]
      rw [ofFrom_same L ps f g _ (by omega) (by omega) (by omega)]
    · rfl
theorem ofRest_done {L : List Opr} {ps : List Int} {last : Int} (h : nextUp ps last ps.length < 0) : ofRest L ps last = [] := by
  unfold ofRest ofFrom
  rw [decide_eq_true h]; rfl
theorem ofRest_step {L : List Opr} {ps : List Int} {last : Int} (h : ¬ nextUp ps last ps.length < 0) : ofRest L ps last = evsAt L (nextUp ps last ps.length) ++ ofRest L ps (nextUp ps last ps.length) ∧ last < nextUp ps last ps.length ∧ above ps (nextUp ps last ps.length) < above ps last := by
  have hm := (nextUp_spec ps last ps.length (Nat.le_refl _)).resolve_left (by omega)
  have hl := above_lt hm.1 hm.2
  refine ⟨?_, hm.2, hl⟩
  unfold ofRest
  rw [show ofFrom L ps (above ps last + 1) last = bif decide (nextUp ps last ps.length < 0) then [] else evsAt L (nextUp ps last ps.length) ++ ofFrom L ps (above ps last) (nextUp ps last ps.length) from rfl, decide_eq_false h]
  simp only [cond]
  rw [ofFrom_same L ps (above ps last) (above ps (nextUp ps last ps.length) + 1) _ (by omega) hl (by omega)]
theorem ofFrom_len (L : List Opr) (ps : List Int) : ∀ f last, (ofFrom L ps f last).length ≤ f * (2 * L.length)
  | 0, _ => by simp [ofFrom]
  | f + 1, last => by
    have ih := ofFrom_len L ps f (nextUp ps last ps.length)
    have h1 := begsUp_len L (nextUp ps last ps.length) L.length
    have h2 := backsUp_len L (nextUp ps last ps.length) L.length
    unfold ofFrom
    rw [Nat.succ_mul]
    cases decide (nextUp ps last ps.length < 0)
    · simp only [cond, evsAt, List.length_append]; omega
    · simp
theorem above_le (ps : List Int) (last : Int) : above ps last ≤ ps.length := List.length_filter_le ..
theorem ofL_len (L : List Opr) : (ofL L).length ≤ (2 * L.length + 1) * (2 * L.length) := by
  have h1 := ofFrom_len L (placesUp L L.length) (above (placesUp L L.length) (-1) + 1) (-1)
  have h2 := above_le (placesUp L L.length) (-1)
  have h3 := placesUp_len L L.length
  exact Nat.le_trans h1 (Nat.mul_le_mul (by omega) (Nat.le_refl _))
end Go.Proofs.Ytodomchanaaonaa
