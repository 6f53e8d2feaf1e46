/- What inTurn tells, against what the document says of histories: no program. -/
import Derived.Test.YtckcliimngeieaaInTurn
import Derived.Test.YtckcliimngeieaaRef14Opers
import Derived.Test.YtckcliimngeieaaHistFacts
namespace Go.Proofs.Ytckcliimngeieaa
open Go.ChangeShapes Go.WideShapes Go.ChangeAt Go.RowKit

theorem mem_told {L : List Ev} {k : Nat} {p : Nat × Int} : p ∈ toldUp L k ↔ p.1 < k ∧ p.2 = turnN L p.1 := by
  unfold toldUp
  rw [List.mem_map]
  constructor
  · rintro ⟨i, hi, rfl⟩
    exact ⟨List.mem_range.1 hi, rfl⟩
  · rintro ⟨h1, h2⟩
    exact ⟨p.1, List.mem_range.2 h1, by rw [← h2]⟩
theorem toldUp_mono {L : List Ev} {k n : Nat} (h : k ≤ n) {p : Nat × Int} (hp : p ∈ toldUp L k) : p ∈ toldUp L n := by
  rw [mem_told] at hp ⊢
  exact ⟨by omega, hp.2⟩
/-- The opers that the first k events tell. -/
def opsT (L : List Ev) : Nat → List Opr
  | 0 => []
  | k + 1 => bif (evN L k).back then (opsT L k).set (turnN L k).toNat ⟨(oprN (opsT L k) (turnN L k).toNat).th, (oprN (opsT L k) (turnN L k).toNat).c, (evN L k).a, (oprN (opsT L k) (turnN L k).toNat).fr, k⟩ else opsT L k ++ [⟨(evN L k).th, (evN L k).c, zeroA, k, -1⟩]
theorem opsT_len (L : List Ev) : ∀ k, (opsT L k).length ≤ k
  | 0 => Nat.le_refl _
  | k + 1 => by
    have := opsT_len L k
    unfold opsT
    cases (evN L k).back
    · simp only [cond, List.length_append, List.length_cons, List.length_nil]; omega
    · simp only [cond, List.length_set]; omega
theorem opsT_beg (L : List Ev) : ∀ k, (opsT L k).length = begAt L k
  | 0 => rfl
  | k + 1 => by
    have := opsT_beg L k
    unfold opsT begAt
    cases (evN L k).back
    · simp only [cond, List.length_append, List.length_cons, List.length_nil]; omega
    · simp only [cond, List.length_set]; exact this

/-- What nextV, nextF say, case by case. -/
theorem next_beg {f : Nat → Int} {e : Ev} (hb : e.back = false) (hv : nextV f e ≠ -1) :
    0 ≤ e.th ∧ e.th < 8 ∧ e.a = zeroA ∧ f e.th.toNat = -1 ∧ f 8 ≠ 40 ∧ nextV f e = f 8 ∧ nextF f e = putF (putF f 8 (f 8 + 1)) e.th.toNat (f 8) := by
  unfold nextV at hv ⊢
  unfold nextF
  cases hd : decide (e.th < 0) || decide (8 ≤ e.th)
  · rw [hd, hb] at hv
    simp only [cond] at hv
    rw [Bool.or_eq_false_iff, decide_eq_false_iff_not, decide_eq_false_iff_not] at hd
    unfold begV at hv
    cases hc : decide (e.a = zeroA) && (decide (f e.th.toNat = -1) && !decide (f 8 = 40))
    · rw [hc] at hv; exact absurd rfl hv
    · have hc2 := hc
      simp only [Bool.and_eq_true, Bool.not_eq_true', decide_eq_false_iff_not, decide_eq_true_eq] at hc
      refine ⟨by omega, by omega, hc.1, hc.2.1, hc.2.2, ?_, ?_⟩
      · rw [hb]; simp only [cond]; unfold begV; rw [hc2]; rfl
      · rw [hb]; simp only [cond]; unfold begF; rw [hc2]; rfl
  · rw [hd] at hv; exact absurd rfl hv
theorem next_end {f : Nat → Int} {e : Ev} (hb : e.back = true) (hv : nextV f e ≠ -1) :
    0 ≤ e.th ∧ e.th < 8 ∧ e.c = zeroC ∧ nextV f e = f e.th.toNat ∧ nextF f e = putF f e.th.toNat (-1) := by
  unfold nextV at hv ⊢
  unfold nextF
  cases hd : decide (e.th < 0) || decide (8 ≤ e.th)
  · rw [hd, hb] at hv
    simp only [cond] at hv
    rw [Bool.or_eq_false_iff, decide_eq_false_iff_not, decide_eq_false_iff_not] at hd
    unfold endV at hv
    cases hc : decide (e.c = zeroC)
    · rw [hc] at hv; exact absurd rfl hv
    · refine ⟨by omega, by omega, of_decide_eq_true hc, ?_, ?_⟩
      · rw [hb]; simp only [cond]; unfold endV; rw [hc]; rfl
      · rw [hb]; simp only [cond]; unfold endF; rw [hc]; rfl
  · rw [hd] at hv; exact absurd rfl hv

/-- While all events may be where they are: who is within what. -/
structure TurnI (L : List Ev) (k : Nat) : Prop where
  cnt : runF L k 8 = (begAt L k : Nat)
  le : begAt L k ≤ 40
  wn : ∀ t, t < 8 → (runF L k t = -1 ∧ wnAt L k t = false ∨ 0 ≤ runF L k t ∧ runF L k t < (begAt L k : Nat) ∧ wnAt L k t = true)
theorem turnI (L : List Ev) : ∀ k, (∀ j, j < k → turnN L j ≠ -1) → TurnI L k
  | 0, _ => ⟨rfl, Nat.zero_le _, fun t ht => .inl ⟨by show start9 t = -1; unfold start9; rw [if_neg (by omega)], rfl⟩⟩
  | k + 1, h => by
    have I := turnI L k fun j hj => h j (by omega)
    have hv : nextV (runF L k) (evN L k) ≠ -1 := h k (by omega)
    have h8 := runF_8 L k
    have hw : ∀ t, wnAt L (k + 1) t = if t = (evN L k).th.toNat then !(evN L k).back else wnAt L k t := fun t => rfl
    cases hb : (evN L k).back
    · obtain ⟨e1, e2, e3, e4, e5, e6, e7⟩ := next_beg hb hv
      have hr : runF L (k + 1) = putF (putF (runF L k) 8 (runF L k 8 + 1)) (evN L k).th.toNat (runF L k 8) := e7
      have hbe : begAt L (k + 1) = begAt L k + 1 := by show (bif (evN L k).back then _ else _) = _; rw [hb]; rfl
      have hc := I.cnt
      refine ⟨?_, by rw [hbe]; omega, fun t ht => ?_⟩
      · rw [hr, hbe, putF_8 _ _ _ (by omega)]
        unfold putF
        rw [if_pos rfl]
        omega
      · rw [hr, hbe, hw t, hb]
        by_cases ht2 : t = (evN L k).th.toNat
        · right
          rw [if_pos ht2]
          have : putF (putF (runF L k) 8 (runF L k 8 + 1)) (evN L k).th.toNat (runF L k 8) t = runF L k 8 := by
            show (if t = (evN L k).th.toNat then _ else _) = _
            rw [if_pos ht2]
          rw [this]
          exact ⟨by omega, by omega, rfl⟩
        · rw [if_neg ht2]
          have : putF (putF (runF L k) 8 (runF L k 8 + 1)) (evN L k).th.toNat (runF L k 8) t = runF L k t := by
            show (if t = (evN L k).th.toNat then _ else (if t = 8 then _ else _)) = _
            rw [if_neg ht2, if_neg (by omega)]
          rw [this]
          rcases I.wn t ht with h1 | ⟨h1, h2, h3⟩
          · exact .inl h1
          · exact .inr ⟨h1, by omega, h3⟩
    · obtain ⟨e1, e2, e3, e6, e7⟩ := next_end hb hv
      have hr : runF L (k + 1) = putF (runF L k) (evN L k).th.toNat (-1) := e7
      have hbe : begAt L (k + 1) = begAt L k := by show (bif (evN L k).back then _ else _) = _; rw [hb]; rfl
      refine ⟨?_, by rw [hbe]; exact I.le, fun t ht => ?_⟩
      · rw [hr, hbe, putF_8 _ _ _ (by omega)]
        exact I.cnt
      · rw [hr, hbe, hw t, hb]
        by_cases ht2 : t = (evN L k).th.toNat
        · left
          rw [if_pos ht2]
          exact ⟨by show (if t = (evN L k).th.toNat then _ else _) = _; rw [if_pos ht2], rfl⟩
        · rw [if_neg ht2]
          have : putF (runF L k) (evN L k).th.toNat (-1) t = runF L k t := by
            show (if t = (evN L k).th.toNat then _ else _) = _
            rw [if_neg ht2]
          rw [this]
          exact I.wn t ht
/-- An event may be where it is, just if it tells an oper. -/
theorem turn_ok {L : List Ev} {k : Nat} (I : TurnI L k) : turnN L k ≠ -1 ↔ okAt L k = true ∧ ((evN L k).back = false → begAt L k ≠ 40) := by
  have hc := I.cnt
  unfold okAt
  constructor
  · intro hv
    cases hb : (evN L k).back
    · obtain ⟨e1, e2, e3, e4, e5, e6, e7⟩ := next_beg hb hv
      have hw := I.wn (evN L k).th.toNat (by omega)
      refine ⟨?_, fun _ => by omega⟩
      rw [decide_eq_true e1, decide_eq_true (show (evN L k).th ≤ 7 by omega), decide_eq_true e3]
      rcases hw with ⟨_, h⟩ | ⟨h, _⟩
      · rw [h]; rfl
      · omega
    · obtain ⟨e1, e2, e3, e6, e7⟩ := next_end hb hv
      have hw := I.wn (evN L k).th.toNat (by omega)
      refine ⟨?_, fun h => by cases h⟩
      rw [decide_eq_true e1, decide_eq_true (show (evN L k).th ≤ 7 by omega), decide_eq_true e3]
      rcases hw with ⟨h, _⟩ | ⟨_, _, h⟩
      · exact absurd (e6.trans h) hv
      · rw [h]; rfl
  · rintro ⟨ho, h40⟩
    simp only [Bool.and_eq_true, decide_eq_true_eq, beq_iff_eq] at ho
    obtain ⟨h0, h7, hw, hx⟩ := ho
    have hwn := I.wn (evN L k).th.toNat (by omega)
    show nextV (runF L k) (evN L k) ≠ -1
    unfold nextV
    rw [decide_eq_false (show ¬ (evN L k).th < 0 by omega), decide_eq_false (show ¬ 8 ≤ (evN L k).th by omega)]
    cases hb : (evN L k).back
    · rw [hb] at hx hw
      simp only [cond] at hx
      have hx := of_decide_eq_true hx
      have h40 := h40 hb
      simp only [Bool.or_self, cond]
      unfold begV
      rcases hwn with ⟨h, _⟩ | ⟨_, _, h⟩
      · rw [decide_eq_true hx, decide_eq_true h, decide_eq_false (show ¬ runF L k 8 = 40 by omega)]
        show runF L k 8 ≠ -1
        omega
      · rw [h] at hw; cases hw
    · rw [hb] at hx hw
      simp only [cond] at hx
      have hx := of_decide_eq_true hx
      simp only [Bool.or_self, cond]
      unfold endV
      rw [decide_eq_true hx]
      show runF L k (evN L k).th.toNat ≠ -1
      rcases hwn with ⟨_, h⟩ | ⟨h, _⟩
      · rw [h] at hw; cases hw
      · omega
theorem begAt_mono (L : List Ev) (a : Nat) : ∀ d, begAt L a ≤ begAt L (a + d)
  | 0 => Nat.le_refl _
  | d + 1 => by
    have := begAt_mono L a d
    rw [show a + (d + 1) = a + d + 1 by omega]
    show _ ≤ (bif (evN L (a + d)).back then _ else _)
    cases (evN L (a + d)).back <;> simp only [cond] <;> omega
/-- A history may be, just if each event tells an oper. -/
theorem may_told (L : List Ev) : mayL L = (toldUp L L.length).all (fun p => p.2 != -1) := by
  cases ha : (toldUp L L.length).all (fun p => p.2 != -1)
  · -- the first that tells none
    rw [List.all_eq_false] at ha
    obtain ⟨p, hp, hv⟩ := ha
    obtain ⟨h1, h2⟩ := mem_told.1 hp
    have hv : turnN L p.1 = -1 := by rw [← h2]; simpa using hv
    have key : ∀ n, n < L.length → turnN L n = -1 → ∃ k, k < L.length ∧ turnN L k = -1 ∧ ∀ j, j < k → turnN L j ≠ -1 := fun n => by
      induction n using Nat.strongRecOn with
      | ind n ih =>
        intro hn hv
        by_cases hall : ∀ j, j < n → turnN L j ≠ -1
        · exact ⟨n, hn, hv, hall⟩
        · have : ∃ j, j < n ∧ turnN L j = -1 := Classical.byContradiction fun hc => hall fun j hj he => hc ⟨j, hj, he⟩
          obtain ⟨j, hj, he⟩ := this
          exact ih j hj (by omega) he
    obtain ⟨k, hk, hkv, hall⟩ := key p.1 h1 hv
    have I := turnI L k hall
    have hno := mt (turn_ok I).2 (fun h => h hkv)
    cases ho : okAt L k
    · exact mayL_no hk ho
    · have hb : (evN L k).back = false ∧ begAt L k = 40 := by
        refine ⟨?_, ?_⟩
        · cases hb : (evN L k).back
          · rfl
          · exact absurd ⟨ho, fun h => by rw [hb] at h; cases h⟩ hno
        · exact Classical.byContradiction fun hc => hno ⟨ho, fun _ => hc⟩
      have h41 : begAt L (k + 1) = 41 := by show (bif (evN L k).back then _ else _) = _; rw [hb.1, hb.2]; rfl
      have hm := begAt_mono L (k + 1) (L.length - (k + 1))
      rw [show k + 1 + (L.length - (k + 1)) = L.length by omega] at hm
      unfold mayL
      rw [decide_eq_false (by omega), Bool.and_false]
  · rw [List.all_eq_true] at ha
    have hall : ∀ j, j < L.length → turnN L j ≠ -1 := fun j hj => by
      have := ha (j, turnN L j) (mem_told.2 ⟨hj, rfl⟩)
      simpa using this
    rw [mayL_all rfl fun i hi => ((turn_ok (turnI L i fun j hj => hall j (by omega))).1 (hall i hi)).1]
    exact decide_eq_true (turnI L _ hall).le
theorem told_all {L : List Ev} {k : Nat} (h : ∀ p ∈ toldUp L k, p.2 ≠ -1) : ∀ j, j < k → turnN L j ≠ -1 := fun j hj => h (j, turnN L j) (mem_told.2 ⟨hj, rfl⟩)
theorem turn_in {L : List Ev} {k : Nat} (_ : k < L.length) (h : ∀ p ∈ toldUp L k, p.2 ≠ -1) (ht : turnN L k ≠ -1) (hb : (evN L k).back = true) : 0 ≤ turnN L k ∧ turnN L k < (opsT L k).length := by
  have I := turnI L k (told_all h)
  obtain ⟨e1, e2, e3, e6, e7⟩ := next_end hb ht
  have hv : turnN L k = runF L k (evN L k).th.toNat := e6
  rw [hv, opsT_beg]
  rcases I.wn (evN L k).th.toNat (by omega) with ⟨h1, _⟩ | ⟨h1, h2, _⟩
  · exact absurd (hv.trans h1) ht
  · exact ⟨h1, h2⟩

/-- Where calls begin, among the first i events. -/
def begsL (L : List Ev) : Nat → List Nat
  | 0 => []
  | i + 1 => bif (evN L i).back then begsL L i else begsL L i ++ [i]
theorem begsL_len (L : List Ev) : ∀ i, (begsL L i).length = begAt L i
  | 0 => rfl
  | i + 1 => by
    have := begsL_len L i
    unfold begsL begAt
    cases (evN L i).back
    · simp only [cond, List.length_append, List.length_cons, List.length_nil]; omega
    · exact this
theorem opsUp_map (L : List Ev) (m : Nat) : ∀ i, opsUp L m i = (begsL L i).map fun p => scan L p (m - (p + 1))
  | 0 => rfl
  | i + 1 => by
    have := opsUp_map L m i
    unfold opsUp begsL
    cases (evN L i).back
    · simp only [cond, List.map_append, List.map_cons, List.map_nil, this]
    · exact this
theorem mem_begs {L : List Ev} {p : Nat} : ∀ {i : Nat}, p ∈ begsL L i ↔ p < i ∧ (evN L p).back = false
  | 0 => by simp [begsL]
  | i + 1 => by
    have ih := mem_begs (L := L) (p := p) (i := i)
    unfold begsL
    cases hb : (evN L i).back
    · simp only [cond, List.mem_append, List.mem_singleton, ih]
      constructor
      · rintro (⟨h1, h2⟩ | rfl)
        · exact ⟨by omega, h2⟩
        · exact ⟨by omega, hb⟩
      · rintro ⟨h1, h2⟩
        rcases Nat.lt_or_ge p i with h | h
        · exact .inl ⟨h, h2⟩
        · exact .inr (by omega)
    · simp only [cond, ih]
      constructor
      · rintro ⟨h1, h2⟩; exact ⟨by omega, h2⟩
      · rintro ⟨h1, h2⟩
        refine ⟨?_, h2⟩
        rcases Nat.lt_or_ge p i with h | h
        · exact h
        · obtain rfl : p = i := by omega
          rw [hb] at h2; cases h2
theorem begs_get {L : List Ev} {p : Nat} (hb : (evN L p).back = false) : ∀ {i : Nat}, p < i → (begsL L i)[begAt L p]? = some p
  | 0, h => by omega
  | i + 1, h => by
    unfold begsL
    rcases Nat.lt_or_ge p i with h1 | h1
    · have ih := begs_get hb h1
      cases (evN L i).back
      · simp only [cond]
        rw [List.getElem?_append_left (List.getElem?_eq_some_iff.1 ih).1]
        exact ih
      · exact ih
    · obtain rfl : p = i := by omega
      rw [hb]
      simp only [cond]
      rw [List.getElem?_append_right (by rw [begsL_len]; omega), begsL_len]
      simp
theorem begs_rise (L : List Ev) : ∀ i, (begsL L i).Pairwise (· < ·)
  | 0 => by simp [begsL]
  | i + 1 => by
    have ih := begs_rise L i
    unfold begsL
    cases (evN L i).back
    · simp only [cond]
      rw [List.pairwise_append]
      exact ⟨ih, by simp, fun a ha b hb => by have := (mem_begs.1 ha).1; rw [List.mem_singleton] at hb; omega⟩
    · exact ih
/-- What one more event tells of an oper. -/
theorem scan_next {L : List Ev} {n k q : Nat} (hqk : q < k) (hm : ¬ (found L (evN L q).th (q + 1) (k - (q + 1)) < 0 ∧ (evN L k).th = (evN L q).th)) (_ : k < n) : scan L q (k + 1 - (q + 1)) = scan L q (k - (q + 1)) := by
  rw [show k + 1 - (q + 1) = k - (q + 1) + 1 by omega]
  by_cases h0 : found L (evN L q).th (q + 1) (k - (q + 1)) < 0
  · refine scan_miss h0 ?_
    rw [show q + 1 + (k - (q + 1)) = k by omega]
    exact fun e => hm ⟨h0, e⟩
  · have h1 := scan_last (L := L) (k := q) (m := k - (q + 1)) (n := k + 1) (by omega) (.inr h0)
    rw [show k + 1 - (q + 1) = k - (q + 1) + 1 by omega] at h1
    exact h1.symm
theorem scan_next_hit {L : List Ev} {k q : Nat} (hqk : q < k) (h0 : found L (evN L q).th (q + 1) (k - (q + 1)) < 0) (he : (evN L k).th = (evN L q).th) :
    scan L q (k + 1 - (q + 1)) = ⟨(scan L q (k - (q + 1))).th, (scan L q (k - (q + 1))).c, (evN L k).a, (scan L q (k - (q + 1))).fr, k⟩ := by
  rw [show k + 1 - (q + 1) = k - (q + 1) + 1 by omega]
  have h := scan_hit (L := L) (k := q) (m := k - (q + 1)) h0 (by rw [show q + 1 + (k - (q + 1)) = k by omega]; exact he)
  rw [show q + 1 + (k - (q + 1)) = k by omega] at h
  exact h
/-- Which call a thread is within. -/
def RunI (L : List Ev) (k : Nat) : Prop := ∀ t : Nat, t < 8 → 0 ≤ runF L k t → ∃ p, p < k ∧ (evN L p).back = false ∧ (evN L p).th = t ∧ runF L k t = (begAt L p : Nat) ∧ ∀ r, p + 1 ≤ r → r < k → (evN L r).th ≠ t
theorem runI (L : List Ev) : ∀ k, (∀ j, j < k → turnN L j ≠ -1) → RunI L k
  | 0, _ => fun t ht h0 => by
    have : runF L 0 t = -1 := by show start9 t = -1; unfold start9; rw [if_neg (by omega)]
    omega
  | k + 1, h => fun t ht h0 => by
    have ih := runI L k fun j hj => h j (by omega)
    have I := turnI L k fun j hj => h j (by omega)
    have hv : nextV (runF L k) (evN L k) ≠ -1 := h k (by omega)
    cases hb : (evN L k).back
    · obtain ⟨e1, e2, e3, e4, e5, e6, e7⟩ := next_beg hb hv
      have hr : runF L (k + 1) = putF (putF (runF L k) 8 (runF L k 8 + 1)) (evN L k).th.toNat (runF L k 8) := e7
      by_cases ht2 : t = (evN L k).th.toNat
      · refine ⟨k, by omega, hb, by omega, ?_, fun r h1 h2 => by omega⟩
        rw [hr, show putF (putF (runF L k) 8 (runF L k 8 + 1)) (evN L k).th.toNat (runF L k 8) t = runF L k 8 by
          show (if t = (evN L k).th.toNat then _ else _) = _
          rw [if_pos ht2]]
        exact I.cnt
      · have hrt : runF L (k + 1) t = runF L k t := by
          rw [hr]
          show (if t = (evN L k).th.toNat then _ else (if t = 8 then _ else _)) = _
          rw [if_neg ht2, if_neg (by omega)]
        rw [hrt] at h0 ⊢
        obtain ⟨p, h1, h2, h3, h4, h5⟩ := ih t ht h0
        refine ⟨p, by omega, h2, h3, h4, fun r h6 h7 => ?_⟩
        rcases Nat.lt_or_ge r k with h8 | h8
        · exact h5 r h6 h8
        · obtain rfl : r = k := by omega
          omega
    · obtain ⟨e1, e2, e3, e6, e7⟩ := next_end hb hv
      have hr : runF L (k + 1) = putF (runF L k) (evN L k).th.toNat (-1) := e7
      by_cases ht2 : t = (evN L k).th.toNat
      · have : runF L (k + 1) t = -1 := by
          rw [hr]
          show (if t = (evN L k).th.toNat then _ else _) = _
          rw [if_pos ht2]
        omega
      · have hrt : runF L (k + 1) t = runF L k t := by
          rw [hr]
          show (if t = (evN L k).th.toNat then _ else _) = _
          rw [if_neg ht2]
        rw [hrt] at h0 ⊢
        obtain ⟨p, h1, h2, h3, h4, h5⟩ := ih t ht h0
        refine ⟨p, by omega, h2, h3, h4, fun r h6 h7 => ?_⟩
        rcases Nat.lt_or_ge r k with h8 | h8
        · exact h5 r h6 h8
        · obtain rfl : r = k := by omega
          omega
theorem opsT_up {L : List Ev} {n : Nat} (H : Hist L n) (h : ∀ j, j < n → turnN L j ≠ -1) : ∀ k, k ≤ n → opsT L k = opsUp L k k
  | 0, _ => rfl
  | k + 1, hk => by
    have ih := opsT_up H h k (by omega)
    have hv : nextV (runF L k) (evN L k) ≠ -1 := h k (by omega)
    rw [opsUp_map] at ih ⊢
    cases hb : (evN L k).back
    · have h1 : opsT L (k + 1) = opsT L k ++ [⟨(evN L k).th, (evN L k).c, zeroA, k, -1⟩] := by
        show (bif (evN L k).back then _ else _) = _
        rw [hb]; rfl
      have h2 : begsL L (k + 1) = begsL L k ++ [k] := by
        show (bif (evN L k).back then _ else _) = _
        rw [hb]; rfl
      rw [h1, h2, ih, List.map_append, List.map_cons, List.map_nil, Nat.sub_self]
      congr 1
      refine List.map_congr_left fun q hq => ?_
      obtain ⟨q1, q2⟩ := mem_begs.1 hq
      refine (scan_next q1 (fun ⟨g1, g2⟩ => ?_) hk).symm
      have hfb := found_bounds L (evN L q).th (q + 1) (k - (q + 1))
      have := H.answers q2 q1 (by omega) g2 (fun r h3 h4 => found_none (show found L (evN L q).th (q + 1) (k - (q + 1)) = -1 by omega) r h3 (by omega))
      rw [hb] at this
      cases this
    · obtain ⟨e1, e2, e3, e6, e7⟩ := next_end hb hv
      have I := turnI L k fun j hj => h j (by omega)
      have htv : turnN L k = runF L k (evN L k).th.toNat := e6
      have h0 : 0 ≤ runF L k (evN L k).th.toNat := by
        rcases I.wn (evN L k).th.toNat (by omega) with ⟨h1, _⟩ | ⟨h1, _⟩
        · exact absurd (htv.trans h1) (h k (by omega))
        · exact h1
      obtain ⟨p, p1, p2, p3, p4, p5⟩ := runI L k (fun j hj => h j (by omega)) _ (by omega) h0
      have hpt : (evN L k).th = (evN L p).th := by omega
      have htn : (turnN L k).toNat = begAt L p := by rw [htv, p4]; exact Int.toNat_natCast _
      have hgp := begs_get (L := L) p2 p1
      have hon : oprN (opsT L k) (begAt L p) = scan L p (k - (p + 1)) := by
        unfold oprN
        rw [ih, List.getD, List.getElem?_map, hgp]
        rfl
      have h1 : opsT L (k + 1) = (opsT L k).set (turnN L k).toNat ⟨(oprN (opsT L k) (turnN L k).toNat).th, (oprN (opsT L k) (turnN L k).toNat).c, (evN L k).a, (oprN (opsT L k) (turnN L k).toNat).fr, k⟩ := by
        show (bif (evN L k).back then _ else _) = _
        rw [hb]; rfl
      have h2 : begsL L (k + 1) = begsL L k := by
        show (bif (evN L k).back then _ else _) = _
        rw [hb]; rfl
      have hnone : found L (evN L p).th (p + 1) (k - (p + 1)) < 0 := by
        have hfb := found_bounds L (evN L p).th (p + 1) (k - (p + 1))
        rcases Int.lt_or_le (found L (evN L p).th (p + 1) (k - (p + 1))) 0 with g | g
        · exact g
        · obtain ⟨q, g1, g2, g3, g4, _⟩ := found_some g
          exact absurd (by rw [g4]; omega) (p5 q g2 (by omega))
      rw [h1, h2, htn, hon, ← scan_next_hit p1 hnone hpt, ih]
      apply List.ext_getElem?
      intro i
      rw [List.getElem?_set, List.getElem?_map, List.getElem?_map, List.length_map]
      by_cases hi : begAt L p = i
      · subst hi
        rw [if_pos rfl, if_pos (List.getElem?_eq_some_iff.1 hgp).1, hgp]
        rfl
      · rw [if_neg hi]
        cases hq : (begsL L k)[i]? with
        | none => rfl
        | some q =>
          obtain ⟨q1, q2⟩ := mem_begs.1 (List.mem_of_getElem? hq)
          show some (scan L q (k - (q + 1))) = some (scan L q (k + 1 - (q + 1)))
          refine congrArg some (scan_next q1 (fun ⟨g1, g2⟩ => ?_) hk).symm
          have hqp : q ≠ p := fun e => by
            subst e
            have hnd : i = begAt L q := by
              have hl : (begsL L k).Pairwise (· < ·) := begs_rise L k
              have a1 := (List.getElem?_eq_some_iff.1 hq)
              have a2 := (List.getElem?_eq_some_iff.1 hgp)
              obtain ⟨b1, b2⟩ := a1
              obtain ⟨c1, c2⟩ := a2
              rcases Nat.lt_trichotomy i (begAt L q) with h | h | h
              · have := List.pairwise_iff_getElem.1 hl _ _ b1 c1 h; omega
              · exact h
              · have := List.pairwise_iff_getElem.1 hl _ _ c1 b1 h; omega
            exact hi hnd.symm
          have hfb := found_bounds L (evN L q).th (q + 1) (k - (q + 1))
          rcases Nat.lt_trichotomy p q with h | h | h
          · exact p5 q (by omega) q1 (by rw [← g2]; omega)
          · exact hqp h.symm
          · exact found_none (show found L (evN L q).th (q + 1) (k - (q + 1)) = -1 by omega) p (by omega) (by omega) (by rw [← g2, hpt])
theorem opers_told (L : List Ev) (h : mayL L = true) : opersL L = opsT L L.length := by
  have hm := may_told L
  rw [h] at hm
  have hall := List.all_eq_true.1 hm.symm
  unfold opersL
  rw [h, opsT_up (mayL_hist h).1 (fun j hj => by simpa using hall (j, turnN L j) (mem_told.2 ⟨hj, rfl⟩)) L.length (Nat.le_refl _)]
  rfl
end Go.Proofs.Ytckcliimngeieaa
