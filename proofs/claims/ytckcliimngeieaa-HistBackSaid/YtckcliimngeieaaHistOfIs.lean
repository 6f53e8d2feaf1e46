/- The events of spots, sorted, are the document's: no program. -/
import Derived.Test.YtckcliimngeieaaHistOfFn
namespace Go.Proofs.Ytckcliimngeieaa
open Go.ChangeShapes Go.WideShapes Go.ChangeAt Go.RowKit

/-- The spots at a place: beginnings, answers. -/
def begSp (L : List Opr) (p : Int) : Nat → List Spt
  | 0 => []
  | i + 1 => bif decide ((oprN L i).fr = p) then begSp L p i ++ [⟨p, 0, i⟩] else begSp L p i
def backSp (L : List Opr) (p : Int) : Nat → List Spt
  | 0 => []
  | i + 1 => bif decide (0 ≤ (oprN L i).fr) && decide ((oprN L i).to = p) then backSp L p i ++ [⟨p, 1, i⟩] else backSp L p i
def spAt (L : List Opr) (p : Int) : List Spt := begSp L p L.length ++ backSp L p L.length
def spFrom (L : List Opr) (ps : List Int) : Nat → Int → List Spt
  | 0, _ => []
  | f + 1, last => bif decide (nextUp ps last ps.length < 0) then [] else spAt L (nextUp ps last ps.length) ++ spFrom L ps f (nextUp ps last ps.length)
def evS (L : List Opr) (s : Spt) : Ev := eventE (oprN L s.o.toNat) s.k
theorem begSp_map (L : List Opr) (p : Int) : ∀ i, (begSp L p i).map (evS L) = begsUp L p i
  | 0 => rfl
  | i + 1 => by
    have ih := begSp_map L p i
    unfold begSp begsUp
    cases decide ((oprN L i).fr = p)
    · exact ih
    · simp only [cond, List.map_append, ih, List.map_cons, List.map_nil]
      rfl
theorem backSp_map (L : List Opr) (p : Int) : ∀ i, (backSp L p i).map (evS L) = backsUp L p i
  | 0 => rfl
  | i + 1 => by
    have ih := backSp_map L p i
    unfold backSp backsUp
    cases decide (0 ≤ (oprN L i).fr) && decide ((oprN L i).to = p)
    · exact ih
    · simp only [cond, List.map_append, ih, List.map_cons, List.map_nil]
      rfl
theorem spFrom_map (L : List Opr) (ps : List Int) : ∀ f last, (spFrom L ps f last).map (evS L) = ofFrom L ps f last
  | 0, _ => rfl
  | f + 1, last => by
    have ih := spFrom_map L ps f (nextUp ps last ps.length)
    unfold spFrom ofFrom
    cases decide (nextUp ps last ps.length < 0)
    · simp only [cond, List.map_append, ih, spAt, begSp_map, backSp_map, evsAt]
    · rfl
theorem mem_begSp {L : List Opr} {p : Int} {s : Spt} : ∀ {i : Nat}, s ∈ begSp L p i ↔ ∃ j : Nat, j < i ∧ (oprN L j).fr = p ∧ s = ⟨p, 0, j⟩
  | 0 => by simp [begSp]
  | i + 1 => by
    have ih := mem_begSp (L := L) (p := p) (s := s) (i := i)
    unfold begSp
    by_cases h : (oprN L i).fr = p
    · rw [decide_eq_true h]
      simp only [cond, List.mem_append, List.mem_singleton, ih]
      constructor
      · rintro (⟨j, h1, h2, h3⟩ | h3)
        · exact ⟨j, by omega, h2, h3⟩
        · exact ⟨i, by omega, h, h3⟩
      · rintro ⟨j, h1, h2, h3⟩
        rcases Nat.lt_or_ge j i with h4 | h4
        · exact .inl ⟨j, h4, h2, h3⟩
        · obtain rfl : j = i := by omega
          exact .inr h3
    · rw [decide_eq_false h]
      simp only [cond, ih]
      constructor
      · rintro ⟨j, h1, h2, h3⟩; exact ⟨j, by omega, h2, h3⟩
      · rintro ⟨j, h1, h2, h3⟩
        rcases Nat.lt_or_ge j i with h4 | h4
        · exact ⟨j, h4, h2, h3⟩
        · obtain rfl : j = i := by omega
          exact absurd h2 h
theorem mem_backSp {L : List Opr} {p : Int} {s : Spt} : ∀ {i : Nat}, s ∈ backSp L p i ↔ ∃ j : Nat, j < i ∧ 0 ≤ (oprN L j).fr ∧ (oprN L j).to = p ∧ s = ⟨p, 1, j⟩
  | 0 => by simp [backSp]
  | i + 1 => by
    have ih := mem_backSp (L := L) (p := p) (s := s) (i := i)
    unfold backSp
    by_cases h : 0 ≤ (oprN L i).fr ∧ (oprN L i).to = p
    · rw [decide_eq_true h.1, decide_eq_true h.2]
      simp only [Bool.and_self, cond, List.mem_append, List.mem_singleton, ih]
      constructor
      · rintro (⟨j, h1, h2, h3, h4⟩ | h3)
        · exact ⟨j, by omega, h2, h3, h4⟩
        · exact ⟨i, by omega, h.1, h.2, h3⟩
      · rintro ⟨j, h1, h2, h3, h4⟩
        rcases Nat.lt_or_ge j i with h5 | h5
        · exact .inl ⟨j, h5, h2, h3, h4⟩
        · obtain rfl : j = i := by omega
          exact .inr h4
    · have hd : (decide (0 ≤ (oprN L i).fr) && decide ((oprN L i).to = p)) = false := by
        rw [Bool.and_eq_false_iff, decide_eq_false_iff_not, decide_eq_false_iff_not]
        by_cases h1 : 0 ≤ (oprN L i).fr
        · exact .inr fun h2 => h ⟨h1, h2⟩
        · exact .inl h1
      rw [hd]
      simp only [cond, ih]
      constructor
      · rintro ⟨j, h1, h2, h3, h4⟩; exact ⟨j, by omega, h2, h3, h4⟩
      · rintro ⟨j, h1, h2, h3, h4⟩
        rcases Nat.lt_or_ge j i with h5 | h5
        · exact ⟨j, h5, h2, h3, h4⟩
        · obtain rfl : j = i := by omega
          exact absurd ⟨h2, h3⟩ h
theorem mem_spotsUp {L : List Opr} {s : Spt} : ∀ {i : Nat}, s ∈ spotsUp L i ↔ ∃ j : Nat, j < i ∧ 0 ≤ (oprN L j).fr ∧ (s = ⟨(oprN L j).fr, 0, j⟩ ∨ 0 ≤ (oprN L j).to ∧ s = ⟨(oprN L j).to, 1, j⟩)
  | 0 => by simp [spotsUp]
  | i + 1 => by
    have ih := mem_spotsUp (L := L) (s := s) (i := i)
    have hs : s ∈ sptOf (oprN L i) i ↔ 0 ≤ (oprN L i).fr ∧ (s = ⟨(oprN L i).fr, 0, i⟩ ∨ 0 ≤ (oprN L i).to ∧ s = ⟨(oprN L i).to, 1, i⟩) := by
      unfold sptOf
      by_cases h1 : (oprN L i).fr < 0
      · rw [decide_eq_true h1]
        simp only [cond, List.not_mem_nil, false_iff]
        rintro ⟨h, _⟩; omega
      · rw [decide_eq_false h1]
        by_cases h2 : 0 ≤ (oprN L i).to
        · rw [decide_eq_true h2]
          simp only [cond, List.mem_cons, List.not_mem_nil, or_false]
          constructor
          · rintro (h | h)
            · exact ⟨by omega, .inl h⟩
            · exact ⟨by omega, .inr ⟨h2, h⟩⟩
          · rintro ⟨_, h | ⟨_, h⟩⟩
            · exact .inl h
            · exact .inr h
        · rw [decide_eq_false h2]
          simp only [cond, List.mem_cons, List.not_mem_nil, or_false]
          constructor
          · intro h; exact ⟨by omega, .inl h⟩
          · rintro ⟨_, h | ⟨h, _⟩⟩
            · exact h
            · exact absurd h h2
    show s ∈ spotsUp L i ++ sptOf (oprN L i) i ↔ _
    rw [List.mem_append, ih, hs]
    constructor
    · rintro (⟨j, h1, h2⟩ | h)
      · exact ⟨j, by omega, h2⟩
      · exact ⟨i, by omega, h⟩
    · rintro ⟨j, h1, h2⟩
      rcases Nat.lt_or_ge j i with h3 | h3
      · exact .inl ⟨j, h3, h2⟩
      · obtain rfl : j = i := by omega
        exact .inr h2
theorem mem_places {L : List Opr} {x : Int} : ∀ {i : Nat}, x ∈ placesUp L i ↔ ∃ j : Nat, j < i ∧ 0 ≤ (oprN L j).fr ∧ (x = (oprN L j).fr ∨ x = (oprN L j).to)
  | 0 => by simp [placesUp]
  | i + 1 => by
    have ih := mem_places (L := L) (x := x) (i := i)
    unfold placesUp
    by_cases h : 0 ≤ (oprN L i).fr
    · rw [decide_eq_true h]
      simp only [cond, List.mem_append, List.mem_cons, List.not_mem_nil, or_false, ih]
      constructor
      · rintro (⟨j, h1, h2⟩ | h3)
        · exact ⟨j, by omega, h2⟩
        · exact ⟨i, by omega, h, h3⟩
      · rintro ⟨j, h1, h2, h3⟩
        rcases Nat.lt_or_ge j i with h4 | h4
        · exact .inl ⟨j, h4, h2, h3⟩
        · obtain rfl : j = i := by omega
          exact .inr h3
    · rw [decide_eq_false h]
      simp only [cond, ih]
      constructor
      · rintro ⟨j, h1, h2⟩; exact ⟨j, by omega, h2⟩
      · rintro ⟨j, h1, h2, h3⟩
        rcases Nat.lt_or_ge j i with h4 | h4
        · exact ⟨j, h4, h2, h3⟩
        · obtain rfl : j = i := by omega
          exact absurd h2 h
/-- The next number is the least above. -/
theorem nextUp_least {ps : List Int} {last : Int} (h0 : -1 ≤ last) : ∀ {j : Nat}, j ≤ ps.length → ∀ i, i < j → last < ps.getD i 0 → 0 ≤ nextUp ps last j ∧ nextUp ps last j ≤ ps.getD i 0
  | 0, _, i, hi, _ => by omega
  | j + 1, h, i, hi, hx => by
    have hs := nextUp_spec ps last j (by omega)
    unfold nextUp
    cases hc : decide (last < ps.getD j 0) && (decide (nextUp ps last j < 0) || decide (ps.getD j 0 < nextUp ps last j))
    · simp only [cond]
      rcases Nat.lt_or_ge i j with h1 | h1
      · exact nextUp_least h0 (by omega) i h1 hx
      · obtain rfl : i = j := by omega
        rw [decide_eq_true hx, Bool.true_and, Bool.or_eq_false_iff, decide_eq_false_iff_not, decide_eq_false_iff_not] at hc
        omega
    · simp only [cond]
      simp only [Bool.and_eq_true, Bool.or_eq_true, decide_eq_true_eq] at hc
      rcases Nat.lt_or_ge i j with h1 | h1
      · have := nextUp_least h0 (j := j) (by omega) i h1 hx
        omega
      · obtain rfl : i = j := by omega
        omega
theorem begSp_rise (L : List Opr) (p : Int) : ∀ i, (begSp L p i).Pairwise (fun a b => ltS a b = true)
  | 0 => by simp [begSp]
  | i + 1 => by
    have ih := begSp_rise L p i
    unfold begSp
    cases decide ((oprN L i).fr = p)
    · exact ih
    · simp only [cond]
      rw [List.pairwise_append]
      refine ⟨ih, by simp, fun a ha b hb => ?_⟩
      obtain ⟨j, h1, _, rfl⟩ := mem_begSp.1 ha
      rw [List.mem_singleton] at hb
      subst hb
      unfold ltS
      exact decide_eq_true (.inr ⟨rfl, .inr ⟨rfl, by show (j : Int) < (i : Int); omega⟩⟩)
theorem backSp_rise (L : List Opr) (p : Int) : ∀ i, (backSp L p i).Pairwise (fun a b => ltS a b = true)
  | 0 => by simp [backSp]
  | i + 1 => by
    have ih := backSp_rise L p i
    unfold backSp
    cases decide (0 ≤ (oprN L i).fr) && decide ((oprN L i).to = p)
    · exact ih
    · simp only [cond]
      rw [List.pairwise_append]
      refine ⟨ih, by simp, fun a ha b hb => ?_⟩
      obtain ⟨j, h1, _, _, rfl⟩ := mem_backSp.1 ha
      rw [List.mem_singleton] at hb
      subst hb
      unfold ltS
      exact decide_eq_true (.inr ⟨rfl, .inr ⟨rfl, by show (j : Int) < (i : Int); omega⟩⟩)
theorem mem_spAt {L : List Opr} {p : Int} {s : Spt} (h : s ∈ spAt L p) : s.p = p := by
  unfold spAt at h
  rcases List.mem_append.1 h with h | h
  · obtain ⟨j, _, _, rfl⟩ := mem_begSp.1 h; rfl
  · obtain ⟨j, _, _, _, rfl⟩ := mem_backSp.1 h; rfl
theorem spAt_rise (L : List Opr) (p : Int) : (spAt L p).Pairwise (fun a b => ltS a b = true) := by
  unfold spAt
  rw [List.pairwise_append]
  refine ⟨begSp_rise L p _, backSp_rise L p _, fun a ha b hb => ?_⟩
  obtain ⟨j, _, _, rfl⟩ := mem_begSp.1 ha
  obtain ⟨i, _, _, _, rfl⟩ := mem_backSp.1 hb
  unfold ltS
  exact decide_eq_true (.inr ⟨rfl, .inl (by show (0 : Int) < 1; omega)⟩)
theorem spFrom_above {L : List Opr} {ps : List Int} {s : Spt} : ∀ {f : Nat} {last : Int}, s ∈ spFrom L ps f last → -1 ≤ last → last < s.p
  | 0, _, h, _ => by simp [spFrom] at h
  | f + 1, last, h, h0 => by
    unfold spFrom at h
    have hs := nextUp_spec ps last ps.length (Nat.le_refl _)
    cases hd : decide (nextUp ps last ps.length < 0)
    · rw [hd] at h
      simp only [cond] at h
      have hn := of_decide_eq_false hd
      have hl := (hs.resolve_left (by omega)).2
      rcases List.mem_append.1 h with h | h
      · rw [mem_spAt h]; exact hl
      · have := spFrom_above h (by omega); omega
    · rw [hd] at h; simp at h
theorem spFrom_rise (L : List Opr) (ps : List Int) : ∀ (f : Nat) (last : Int), -1 ≤ last → (spFrom L ps f last).Pairwise (fun a b => ltS a b = true)
  | 0, _, _ => by simp [spFrom]
  | f + 1, last, h0 => by
    unfold spFrom
    have hs := nextUp_spec ps last ps.length (Nat.le_refl _)
    cases hd : decide (nextUp ps last ps.length < 0)
    · simp only [cond]
      have hn := of_decide_eq_false hd
      have hl := (hs.resolve_left (by omega)).2
      rw [List.pairwise_append]
      refine ⟨spAt_rise L _, spFrom_rise L ps f _ (by omega), fun a ha b hb => ?_⟩
      have h1 := mem_spAt ha
      have h2 := spFrom_above hb (by omega)
      unfold ltS
      exact decide_eq_true (.inl (by omega))
    · simp
/-- All places above are come to. -/
theorem mem_spFrom {L : List Opr} {ps : List Int} {s : Spt} : ∀ {f : Nat} {last : Int}, -1 ≤ last → above ps last < f → (s ∈ spFrom L ps f last ↔ last < s.p ∧ s.p ∈ ps ∧ s ∈ spAt L s.p)
  | 0, _, _, h => by omega
  | f + 1, last, h0, hf => by
    have hs := nextUp_spec ps last ps.length (Nat.le_refl _)
    unfold spFrom
    by_cases hn : nextUp ps last ps.length < 0
    · rw [decide_eq_true hn]
      simp only [cond, List.not_mem_nil, false_iff]
      rintro ⟨h1, h2, _⟩
      obtain ⟨i, hi, e⟩ := List.mem_iff_getElem.1 h2
      have := nextUp_least h0 (Nat.le_refl _) i hi (by simp [List.getD, hi, e, h1])
      omega
    · rw [decide_eq_false hn]
      obtain ⟨hm, hl⟩ := hs.resolve_left (by omega)
      have ha := above_lt hm hl
      have ih := mem_spFrom (L := L) (ps := ps) (s := s) (f := f) (last := nextUp ps last ps.length) (by omega) (by omega)
      simp only [cond, List.mem_append, ih]
      constructor
      · rintro (h | ⟨h1, h2, h3⟩)
        · have e := mem_spAt h
          exact ⟨by omega, by rw [e]; exact hm, by rw [e]; exact h⟩
        · exact ⟨by omega, h2, h3⟩
      · rintro ⟨h1, h2, h3⟩
        obtain ⟨i, hi, e⟩ := List.mem_iff_getElem.1 h2
        have hle := nextUp_least h0 (Nat.le_refl _) i hi (by simp [List.getD, hi, e, h1])
        have e2 : ps.getD i 0 = s.p := by simp [List.getD, hi, e]
        rcases Int.lt_or_eq_of_le hle.2 with h4 | h4
        · exact .inr ⟨by omega, h2, h3⟩
        · rw [e2] at h4
          rw [h4]
          exact .inl h3
theorem ltS_asymm {a b : Spt} (h : ltS a b = true) : a ≠ b := by
  rintro rfl
  unfold ltS at h
  have := of_decide_eq_true h
  omega
theorem spots_nodup (L : List Opr) : ∀ i, (spotsUp L i).Nodup
  | 0 => by simp [spotsUp]
  | i + 1 => by
    have ih := spots_nodup L i
    show (spotsUp L i ++ sptOf (oprN L i) i).Nodup
    rw [List.nodup_append]
    refine ⟨ih, ?_, fun a ha b hb => ?_⟩
    · unfold sptOf
      cases decide ((oprN L i).fr < 0) <;> cases decide (0 ≤ (oprN L i).to) <;> simp [cond]
    · have h1 := (spots_in ha).2
      have h2 : b.o = i := by
        unfold sptOf at hb
        revert hb
        cases decide ((oprN L i).fr < 0) <;> cases decide (0 ≤ (oprN L i).to) <;> simp only [cond, List.mem_cons, List.not_mem_nil, or_false] <;> intro hb
        · subst hb; rfl
        · rcases hb with rfl | rfl <;> rfl
        · exact hb.elim
        · exact hb.elim
      rintro rfl
      omega
theorem of_is (L : List Opr) : evsS L (sortS (spotsUp L L.length)) = ofL L := by
  have hR : ofL L = (spFrom L (placesUp L L.length) (above (placesUp L L.length) (-1) + 1) (-1)).map (evS L) := (spFrom_map L _ _ _).symm
  have hrise := spFrom_rise L (placesUp L L.length) (above (placesUp L L.length) (-1) + 1) (-1) (Int.le_refl _)
  have hmem : ∀ s, s ∈ spFrom L (placesUp L L.length) (above (placesUp L L.length) (-1) + 1) (-1) ↔ s ∈ spotsUp L L.length := fun s => by
    rw [mem_spFrom (Int.le_refl _) (Nat.lt_succ_self _), mem_spotsUp]
    constructor
    · rintro ⟨h1, h2, h3⟩
      unfold spAt at h3
      rcases List.mem_append.1 h3 with h | h
      · obtain ⟨j, g1, g2, g3⟩ := mem_begSp.1 h
        exact ⟨j, g1, by omega, .inl (by rw [g2]; exact g3)⟩
      · obtain ⟨j, g1, g2, g3, g4⟩ := mem_backSp.1 h
        exact ⟨j, g1, g2, .inr ⟨by omega, by rw [g3]; exact g4⟩⟩
    · rintro ⟨j, g1, g2, rfl | ⟨g3, rfl⟩⟩
      · refine ⟨by show (-1 : Int) < (oprN L j).fr; omega, mem_places.2 ⟨j, g1, g2, .inl rfl⟩, List.mem_append_left _ (mem_begSp.2 ⟨j, g1, rfl, rfl⟩)⟩
      · refine ⟨by show (-1 : Int) < (oprN L j).to; omega, mem_places.2 ⟨j, g1, g2, .inr rfl⟩, List.mem_append_right _ (mem_backSp.2 ⟨j, g1, g2, rfl, rfl⟩)⟩
  rw [hR]
  show (sortS _).map (evS L) = _
  have hnd : (spFrom L (placesUp L L.length) (above (placesUp L L.length) (-1) + 1) (-1)).Nodup := hrise.imp fun h => ltS_asymm h
  have hO := swoS
  have hT := totS
  rw [ltOf_cmpS] at hO hT
  refine congrArg (List.map (evS L)) ?_
  refine List.Perm.eq_of_pairwise (le := fun x y => (!ltS y x) = true) (fun a b _ _ h1 h2 => ?_) ?_ ?_ ((sortS_perm _).trans ((List.perm_ext_iff_of_nodup (spots_nodup L _) hnd).2 fun s => (hmem s).symm))
  · simp only [Bool.not_eq_true'] at h1 h2
    exact hT a b h2 h1
  · unfold sortS
    rw [ltOf_cmpS]
    refine List.pairwise_mergeSort ?_ ?_ _
    · intro a b c h1 h2
      simp only [Bool.not_eq_true'] at h1 h2 ⊢
      exact hO.ntrans c b a h2 h1
    · intro a b
      cases h : ltS b a with
      | false => simp
      | true => simp [hO.asymmA h]
  · refine hrise.imp fun {a b} h => ?_
    simp [hO.asymmA h]
end Go.Proofs.Ytckcliimngeieaa
