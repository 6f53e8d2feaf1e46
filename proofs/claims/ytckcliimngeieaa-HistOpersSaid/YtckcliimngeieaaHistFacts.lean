/- What follows of histories, without a program: opers rise, the events of a history's opers are that history. -/
import Derived.Test.YtckcliimngeieaaOfL
import Derived.Test.YtckcliimngeieaaRef14Opers
namespace Go.Proofs.Ytckcliimngeieaa
open Go.ChangeShapes Go.WideShapes Go.ChangeAt Go.RowKit

theorem mem_opsUp {L : List Ev} {m : Nat} {o : Opr} : ∀ {i : Nat}, o ∈ opsUp L m i ↔ ∃ p, p < i ∧ (evN L p).back = false ∧ o = scan L p (m - (p + 1))
  | 0 => by simp [opsUp]
  | i + 1 => by
    have ih := mem_opsUp (L := L) (m := m) (o := o) (i := i)
    unfold opsUp
    cases hb : (evN L i).back
    · simp only [cond, List.mem_append, List.mem_singleton, ih]
      constructor
      · rintro (⟨p, h1, h2, h3⟩ | h)
        · exact ⟨p, by omega, h2, h3⟩
        · exact ⟨i, by omega, hb, h⟩
      · rintro ⟨p, h1, h2, h3⟩
        rcases Nat.lt_or_ge p i with h | h
        · exact .inl ⟨p, h, h2, h3⟩
        · obtain rfl : p = i := by omega
          exact .inr h3
    · simp only [cond, ih]
      constructor
      · rintro ⟨p, h1, h2, h3⟩
        exact ⟨p, by omega, h2, h3⟩
      · rintro ⟨p, h1, h2, h3⟩
        rcases Nat.lt_or_ge p i with h | h
        · exact ⟨p, h, h2, h3⟩
        · obtain rfl : p = i := by omega
          rw [hb] at h2; cases h2
theorem opsUp_rises (L : List Ev) (m : Nat) : ∀ i, (opsUp L m i).Pairwise (fun a b => a.fr < b.fr)
  | 0 => by simp [opsUp]
  | i + 1 => by
    have ih := opsUp_rises L m i
    unfold opsUp
    cases (evN L i).back
    · simp only [cond]
      rw [List.pairwise_append]
      refine ⟨ih, by simp, fun a ha b hb => ?_⟩
      obtain ⟨p, h1, _, rfl⟩ := mem_opsUp.1 ha
      rw [List.mem_singleton] at hb
      subst hb
      show (p : Int) < (i : Int)
      omega
    · exact ih
/-- All that a history keeps, event by event. -/
structure Hist (L : List Ev) (n : Nat) : Prop where
  th : ∀ i, i < n → 0 ≤ (evN L i).th ∧ (evN L i).th ≤ 7
  back : ∀ i, i < n → (evN L i).back = wnAt L i (evN L i).th.toNat
  ans : ∀ i, i < n → (evN L i).back = false → (evN L i).a = zeroA
  call : ∀ i, i < n → (evN L i).back = true → (evN L i).c = zeroC
theorem mayL_hist {L : List Ev} (h : mayL L = true) : Hist L L.length ∧ begAt L L.length ≤ 40 := by
  unfold mayL at h
  rw [Bool.and_eq_true, List.all_eq_true, decide_eq_true_eq] at h
  have hk : ∀ i, i < L.length → okAt L i = true := fun i hi => h.1 i (List.mem_range.2 hi)
  unfold okAt at hk
  refine ⟨⟨fun i hi => ?_, fun i hi => ?_, fun i hi hb => ?_, fun i hi hb => ?_⟩, h.2⟩
  all_goals
    have := hk i hi
    simp only [Bool.and_eq_true, decide_eq_true_eq, beq_iff_eq] at this
  · exact ⟨this.1, this.2.1⟩
  · exact this.2.2.1
  · have h4 := this.2.2.2
    rw [hb] at h4
    exact of_decide_eq_true h4
  · have h4 := this.2.2.2
    rw [hb] at h4
    exact of_decide_eq_true h4
section
variable {L : List Ev} {n : Nat}
/-- Where no event of a thread lies, it stays as it was. -/
theorem Hist.still (H : Hist L n) {t : Nat} {a : Nat} : ∀ {j : Nat}, a ≤ j → j ≤ n → (∀ q, a ≤ q → q < j → (evN L q).th ≠ (t : Int)) → wnAt L j t = wnAt L a t
  | 0, h, _, _ => by rw [show a = 0 by omega]
  | j + 1, h, hn, hq => by
    rcases Nat.lt_or_ge j a with h1 | h1
    · rw [show a = j + 1 by omega]
    · have ih := H.still (t := t) (a := a) (j := j) h1 (by omega) (fun q h2 h3 => hq q h2 (by omega))
      have h2 := H.th j (by omega)
      have h3 := hq j h1 (by omega)
      show (if t = (evN L j).th.toNat then !(evN L j).back else wnAt L j t) = _
      rw [if_neg (by omega), ih]
theorem found_none {th : Int} {a : Nat} : ∀ {m : Nat}, found L th a m = -1 → ∀ q, a ≤ q → q < a + m → (evN L q).th ≠ th
  | 0, _, q, h1, h2 => by omega
  | m + 1, h, q, h1, h2 => by
    have hb := found_bounds L th a m
    rw [found_succ] at h
    cases hd : decide (found L th a m < 0)
    · rw [hd] at h
      simp only [cond] at h
      simp only [decide_eq_false_iff_not] at hd
      omega
    · rw [hd] at h
      simp only [cond] at h
      simp only [decide_eq_true_eq] at hd
      rcases Nat.lt_or_ge q (a + m) with h3 | h3
      · exact found_none (by omega) q h1 h3
      · obtain rfl : q = a + m := by omega
        intro e
        rw [decide_eq_true e] at h
        simp only at h
        omega
theorem found_some {th : Int} {a : Nat} : ∀ {m : Nat}, 0 ≤ found L th a m → ∃ q : Nat, found L th a m = q ∧ a ≤ q ∧ q < a + m ∧ (evN L q).th = th ∧ ∀ r, a ≤ r → r < q → (evN L r).th ≠ th
  | 0, h => by simp [found] at h
  | m + 1, h => by
    have hb := found_bounds L th a m
    rw [found_succ] at h ⊢
    cases hd : decide (found L th a m < 0)
    · simp only [decide_eq_false_iff_not] at hd
      obtain ⟨q, h1, h2, h3, h4, h5⟩ := found_some (th := th) (a := a) (m := m) (by omega)
      exact ⟨q, h1, h2, by omega, h4, h5⟩
    · rw [hd] at h
      simp only [cond] at h ⊢
      simp only [decide_eq_true_eq] at hd
      cases he : decide ((evN L (a + m)).th = th)
      · rw [he] at h; simp only at h; omega
      · exact ⟨a + m, rfl, by omega, by omega, of_decide_eq_true he, fun r h1 h2 => found_none (th := th) (a := a) (m := m) (by omega) r h1 (by omega)⟩
theorem found_is {th : Int} {a m q : Nat} (h1 : a ≤ q) (h2 : q < a + m) (h3 : (evN L q).th = th) (h4 : ∀ r, a ≤ r → r < q → (evN L r).th ≠ th) : found L th a m = q := by
  have hb := found_bounds L th a m
  by_cases h0 : 0 ≤ found L th a m
  · obtain ⟨p, e1, e2, e3, e4, e5⟩ := found_some h0
    rw [e1]
    rcases Nat.lt_trichotomy p q with h | h | h
    · exact absurd e4 (h4 p e2 h)
    · rw [h]
    · exact absurd h3 (e5 q h1 h)
  · exact absurd h3 (found_none (by omega) q h1 h2)
/-- What answers a call is an answer. -/
theorem Hist.answers (H : Hist L n) {p q : Nat} (hp : (evN L p).back = false) (h1 : p < q) (hq : q < n) (h3 : (evN L q).th = (evN L p).th) (h4 : ∀ r, p + 1 ≤ r → r < q → (evN L r).th ≠ (evN L p).th) : (evN L q).back = true := by
  have ht := H.th p (by omega)
  obtain ⟨t, ht2⟩ : ∃ t : Nat, (evN L p).th = t := ⟨(evN L p).th.toNat, by omega⟩
  rw [H.back q hq, h3, ht2, Int.toNat_natCast, H.still (a := p + 1) (by omega) (by omega) (fun r h5 h6 => by rw [← ht2]; exact h4 r h5 h6)]
  show (if t = (evN L p).th.toNat then !(evN L p).back else wnAt L p t) = true
  rw [if_pos (by omega), hp]; rfl
/-- What is an answer answers a call. -/
theorem Hist.asked (H : Hist L n) {q : Nat} (hq : q < n) (hb : (evN L q).back = true) : ∃ p, p < q ∧ (evN L p).back = false ∧ (evN L q).th = (evN L p).th ∧ ∀ r, p + 1 ≤ r → r < q → (evN L r).th ≠ (evN L p).th := by
  have ht := H.th q hq
  obtain ⟨t, ht2⟩ : ∃ t : Nat, (evN L q).th = t := ⟨(evN L q).th.toNat, by omega⟩
  have hw := H.back q hq
  rw [hb, ht2, Int.toNat_natCast] at hw
  have key : ∀ j, j ≤ q → wnAt L j t = true → ∃ p, p < j ∧ (evN L p).back = false ∧ (evN L p).th = t ∧ ∀ r, p + 1 ≤ r → r < j → (evN L r).th ≠ t := by
    intro j
    induction j with
    | zero => intro _ h; simp [wnAt] at h
    | succ j ih =>
      intro hj h
      have hj2 := H.th j (by omega)
      by_cases e : (evN L j).th = t
      · refine ⟨j, by omega, ?_, e, fun r h1 h2 => by omega⟩
        have h5 : (if t = (evN L j).th.toNat then !(evN L j).back else wnAt L j t) = true := h
        rw [if_pos (by omega)] at h5
        simpa using h5
      · have h5 : (if t = (evN L j).th.toNat then !(evN L j).back else wnAt L j t) = true := h
        rw [if_neg (by omega)] at h5
        obtain ⟨p, e1, e2, e3, e4⟩ := ih (by omega) h5
        refine ⟨p, by omega, e2, e3, fun r h6 h7 => ?_⟩
        rcases Nat.lt_or_ge r j with h8 | h8
        · exact e4 r h6 h8
        · obtain rfl : r = j := by omega
          exact e
  obtain ⟨p, e1, e2, e3, e4⟩ := key q (Nat.le_refl _) hw.symm
  exact ⟨p, e1, e2, by rw [ht2, e3], fun r h1 h2 => by rw [e3]; exact e4 r h1 h2⟩
/-- The oper that began at p: when it is answered, and by what. -/
theorem Hist.to (H : Hist L n) {p : Nat} (hp : p < n) (hb : (evN L p).back = false) (h0 : 0 ≤ (scan L p (n - (p + 1))).to) :
    ∃ q : Nat, (scan L p (n - (p + 1))).to = q ∧ p < q ∧ q < n ∧ (evN L q).th = (evN L p).th ∧ (evN L q).back = true ∧ (scan L p (n - (p + 1))).a = (evN L q).a ∧ ∀ r, p + 1 ≤ r → r < q → (evN L r).th ≠ (evN L p).th := by
  obtain ⟨q, h1, h2, h3, h4, h5⟩ := found_some (L := L) (th := (evN L p).th) (a := p + 1) (m := n - (p + 1)) h0
  refine ⟨q, h1, by omega, by omega, h4, H.answers hb (by omega) (by omega) h4 h5, ?_, h5⟩
  show ansAt L (found L (evN L p).th (p + 1) (n - (p + 1))) = _
  unfold ansAt
  rw [h1, decide_eq_true (by omega), Int.toNat_natCast]
  rfl
theorem Hist.to_is (H : Hist L n) {p q : Nat} (h1 : p < q) (hq : q < n) (h3 : (evN L q).th = (evN L p).th) (h4 : ∀ r, p + 1 ≤ r → r < q → (evN L r).th ≠ (evN L p).th) : (scan L p (n - (p + 1))).to = q :=
  found_is (by omega) (by omega) h3 h4
/-- Of one thread, what began first is ahead. -/
theorem Hist.one (H : Hist L n) {p r : Nat} (hp : p < r) (hr : r < n) (hbp : (evN L p).back = false) (hbr : (evN L r).back = false) (ht : (evN L p).th = (evN L r).th) : aheadB (scan L p (n - (p + 1))) (scan L r (n - (r + 1))) = true := by
  have h0 : 0 ≤ (scan L p (n - (p + 1))).to := by
    have hb := found_bounds L (evN L p).th (p + 1) (n - (p + 1))
    rcases Int.lt_or_le (found L (evN L p).th (p + 1) (n - (p + 1))) 0 with h | h
    · exact absurd ht.symm (found_none (show found L (evN L p).th (p + 1) (n - (p + 1)) = -1 by omega) r (by omega) (by omega))
    · exact h
  obtain ⟨q, h1, h2, h3, h4, h5, _, h6⟩ := H.to (by omega) hbp h0
  have hqr : q < r := by
    rcases Nat.lt_trichotomy q r with h | h | h
    · exact h
    · subst h; rw [h5] at hbr; cases hbr
    · exact absurd ht.symm (h6 r (by omega) h)
  unfold aheadB
  rw [h1, decide_eq_true (by omega)]
  show decide ((q : Int) < (r : Int)) = true
  exact decide_eq_true (by omega)
theorem ahead_lt {L : List Ev} {n : Nat} (H : Hist L n) {p r : Nat} (hp : p < n) (hb : (evN L p).back = false) (h : aheadB (scan L p (n - (p + 1))) (scan L r (n - (r + 1))) = true) : p < r := by
  unfold aheadB at h
  rw [Bool.and_eq_true, decide_eq_true_eq, decide_eq_true_eq] at h
  obtain ⟨q, h1, h2, h3, _⟩ := H.to hp hb h.1
  have h4 : (scan L p (n - (p + 1))).to < (r : Int) := h.2
  omega
end

theorem oprN_mem {L : List Opr} {i : Nat} (h : i < L.length) : oprN L i ∈ L := by
  unfold oprN
  simp [List.getD, h]
/-- What HistBack asks of any two, any three opers of a history. -/
theorem opers_two {L : List Ev} (hm : mayL L = true) {i k : Nat} (hi : i < (opersL L).length) (hk : k < (opersL L).length) :
    (i < k → (oprN (opersL L) i).th = (oprN (opersL L) k).th → aheadB (oprN (opersL L) i) (oprN (opersL L) k) = true) ∧
    (aheadB (oprN (opersL L) i) (oprN (opersL L) k) = true → i < k ∧ aheadB (oprN (opersL L) k) (oprN (opersL L) i) = false) := by
  obtain ⟨H, -⟩ := mayL_hist hm
  have ho : opersL L = opsUp L L.length L.length := by unfold opersL; rw [hm]; rfl
  rw [ho] at hi hk ⊢
  have hr := List.pairwise_iff_getElem.1 (opsUp_rises L L.length L.length)
  obtain ⟨p, h1, h2, h3⟩ := mem_opsUp.1 (oprN_mem hi)
  obtain ⟨r, g1, g2, g3⟩ := mem_opsUp.1 (oprN_mem hk)
  have hrise : ∀ {a b : Nat} (ha : a < (opsUp L L.length L.length).length) (hb : b < (opsUp L L.length L.length).length), a < b → (oprN (opsUp L L.length L.length) a).fr < (oprN (opsUp L L.length L.length) b).fr := fun ha hb hab => by
    have := hr _ _ ha hb hab
    simp only [oprN, List.getD, List.getElem?_eq_getElem ha, List.getElem?_eq_getElem hb, Option.getD_some]
    exact this
  have fp : (oprN (opsUp L L.length L.length) i).fr = p := by rw [h3]; rfl
  have fr : (oprN (opsUp L L.length L.length) k).fr = r := by rw [g3]; rfl
  refine ⟨fun hik ht => ?_, fun ha => ?_⟩
  · have := hrise hi hk hik
    rw [h3, g3] at ht ⊢
    exact H.one (by omega) g1 h2 g2 ht
  · rw [h3, g3] at ha
    have hpr := ahead_lt H h1 h2 ha
    refine ⟨?_, ?_⟩
    · rcases Nat.lt_trichotomy i k with h | h | h
      · exact h
      · subst h; omega
      · have := hrise hk hi h; omega
    · cases hb : aheadB (oprN (opsUp L L.length L.length) k) (oprN (opsUp L L.length L.length) i)
      · rfl
      · rw [h3, g3] at hb
        have := ahead_lt H g1 g2 hb
        omega
theorem opers_three {L : List Ev} (hm : mayL L = true) {i k n : Nat} (hi : i < (opersL L).length) (hk : k < (opersL L).length) (hn : n < (opersL L).length)
    (h1 : aheadB (oprN (opersL L) i) (oprN (opersL L) k) = true) (h2 : aheadB (oprN (opersL L) k) (oprN (opersL L) n) = true) : aheadB (oprN (opersL L) i) (oprN (opersL L) n) = true := by
  obtain ⟨H, -⟩ := mayL_hist hm
  have ho : opersL L = opsUp L L.length L.length := by unfold opersL; rw [hm]; rfl
  rw [ho] at hi hk hn h1 h2 ⊢
  obtain ⟨r, g1, g2, g3⟩ := mem_opsUp.1 (oprN_mem hk)
  rw [g3] at h1 h2
  unfold aheadB at h1 h2 ⊢
  rw [Bool.and_eq_true, decide_eq_true_eq, decide_eq_true_eq] at h1 h2 ⊢
  obtain ⟨q, e1, e2, -⟩ := H.to g1 g2 h2.1
  have e3 : (scan L r (L.length - (r + 1))).fr = r := rfl
  rw [e3] at h1
  exact ⟨h1.1, by omega⟩
end Go.Proofs.Ytckcliimngeieaa
