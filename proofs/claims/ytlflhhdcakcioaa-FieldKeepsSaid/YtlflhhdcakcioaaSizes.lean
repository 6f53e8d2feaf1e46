/- Plain facts on sizes that lie side by side, and on numbers packed by them. No program is named. -/
import Derived.Test.YtlflhhdcakcioaaBits
namespace Go.Proofs.Ytlflhhdcakcioaa

/-- The first k sizes together. -/
def tot (l : List Int) : Nat → Int
  | 0 => 0
  | k + 1 => tot l k + l.getD k 0
/-- May these be sizes: none below 1, not above 64 together? -/
def okS (l : List Int) : Bool := l.all (fun z => decide (1 ≤ z)) && decide (tot l l.length ≤ 64)

theorem okS_pos {l : List Int} (h : okS l = true) {i : Nat} (hi : i < l.length) : 1 ≤ l.getD i 0 := by
  unfold okS at h
  simp only [Bool.and_eq_true, List.all_eq_true, decide_eq_true_eq] at h
  have := h.1 l[i] (List.getElem_mem hi)
  simpa [List.getD, List.getElem?_eq_getElem hi] using this
theorem okS_tot {l : List Int} (h : okS l = true) : tot l l.length ≤ 64 := by
  unfold okS at h
  simp only [Bool.and_eq_true, decide_eq_true_eq] at h
  exact h.2
theorem tot_mono {l : List Int} (h : ∀ i, i < l.length → 1 ≤ l.getD i 0) {j k : Nat} (hjk : j ≤ k) (hk : k ≤ l.length) : tot l j + (k - j : Nat) ≤ tot l k := by
  induction k with
  | zero => obtain rfl : j = 0 := by omega
            simp
  | succ k ih =>
    rcases Nat.lt_or_ge k j with hc | hc
    · obtain rfl : j = k + 1 := by omega
      simp
    · have h1 := ih hc (by omega)
      have h2 := h k (by omega)
      show _ ≤ tot l k + l.getD k 0
      omega
theorem tot_nonneg {l : List Int} (h : ∀ i, i < l.length → 1 ≤ l.getD i 0) {k : Nat} (hk : k ≤ l.length) : (k : Int) ≤ tot l k := by
  have := tot_mono h (Nat.zero_le k) hk
  simp [tot] at this
  exact this
theorem okS_not {l : List Int} {i : Nat} (hi : i < l.length) (h : l.getD i 0 < 1) : okS l = false := by
  unfold okS
  rw [Bool.and_eq_false_iff]
  left
  rw [List.all_eq_false]
  refine ⟨l[i], List.getElem_mem hi, ?_⟩
  simp [List.getD, List.getElem?_eq_getElem hi] at h
  simpa using h
theorem okS_over {l : List Int} {k : Nat} (hk : k ≤ l.length) (h : 64 < tot l k) : okS l = false := by
  cases ho : okS l
  · rfl
  · have h1 := tot_mono (fun i hi => okS_pos ho hi) hk (Nat.le_refl _)
    have h2 := okS_tot ho
    omega
theorem okS_yes {l : List Int} (h1 : ∀ i, i < l.length → 1 ≤ l.getD i 0) (h2 : tot l l.length ≤ 64) : okS l = true := by
  unfold okS
  simp only [Bool.and_eq_true, List.all_eq_true, decide_eq_true_eq]
  refine ⟨fun z hz => ?_, h2⟩
  obtain ⟨i, hi, rfl⟩ := List.mem_iff_getElem.1 hz
  have := h1 i hi
  simpa [List.getD, List.getElem?_eq_getElem hi] using this
theorem okS_le {l : List Int} (h : okS l = true) {k : Nat} (hk : k ≤ l.length) : tot l k ≤ 64 := by
  have h1 := tot_mono (fun i hi => okS_pos h hi) hk (Nat.le_refl _)
  have h2 := okS_tot h
  omega
theorem okS_len {l : List Int} (h : okS l = true) : l.length ≤ 64 := by
  have h1 := tot_nonneg (fun i hi => okS_pos h hi) (Nat.le_refl l.length)
  have h2 := okS_tot h
  omega
theorem okS_size {l : List Int} (h : okS l = true) {k : Nat} (hk : k < l.length) : 1 ≤ l.getD k 0 ∧ l.getD k 0 ≤ 64 := by
  refine ⟨okS_pos h hk, ?_⟩
  have h1 := okS_le h (show k + 1 ≤ l.length by omega)
  have h2 := tot_nonneg (fun i hi => okS_pos h hi) (show k ≤ l.length by omega)
  have h3 : tot l (k + 1) = tot l k + l.getD k 0 := rfl
  omega

/-- All sizes together, 0 if they may not be. -/
def sumS (l : List Int) : Int := if okS l then tot l l.length else 0
theorem sumS_yes {l : List Int} (h : okS l = true) : sumS l = tot l l.length := by unfold sumS; rw [if_pos h]
theorem sumS_no {l : List Int} (h : okS l = false) : sumS l = 0 := by unfold sumS; rw [if_neg (by simp [h])]
theorem sumS_range (l : List Int) : 0 ≤ sumS l ∧ sumS l ≤ 64 := by
  cases h : okS l
  · rw [sumS_no h]; omega
  · rw [sumS_yes h]
    have h1 := tot_nonneg (fun i hi => okS_pos h hi) (Nat.le_refl l.length)
    have h2 := okS_tot h
    omega
/-- Numbers that have no bit beyond their sizes. -/
def fitsTo (l : List Int) (ns : List Nat) : Nat → Bool
  | 0 => true
  | k + 1 => fitsTo l ns k && decide (ns.getD k 0 < pw (l.getD k 0).toNat)
/-- The first k numbers, side by side. -/
def packTo (l : List Int) (ns : List Nat) : Nat → Nat
  | 0 => 0
  | k + 1 => packTo l ns k + ns.getD k 0 * pw (tot l k).toNat
/-- May these numbers be packed by these sizes? -/
def okP (l : List Int) (ns : List Nat) : Bool := okS l && decide (l.length = ns.length) && fitsTo l ns l.length

/-- What is packed, 0 if it may not be. -/
def packV (l : List Int) (ns : List Nat) : Nat := if okP l ns then packTo l ns l.length else 0
theorem packV_yes {l : List Int} {ns : List Nat} (h : okP l ns = true) : packV l ns = packTo l ns l.length := by unfold packV; rw [if_pos h]
theorem packV_no {l : List Int} {ns : List Nat} (h : okP l ns = false) : packV l ns = 0 := by unfold packV; rw [if_neg (by simp [h])]
theorem okP_sizes {l : List Int} {ns : List Nat} (h : okS l = false) : okP l ns = false := by unfold okP; rw [h]; rfl
theorem okP_len {l : List Int} {ns : List Nat} (h : l.length ≠ ns.length) : okP l ns = false := by unfold okP; rw [decide_eq_false h]; simp
theorem okP_fits {l : List Int} {ns : List Nat} (h : fitsTo l ns l.length = false) : okP l ns = false := by unfold okP; rw [h]; simp
theorem okP_yes {l : List Int} {ns : List Nat} (h1 : okS l = true) (h2 : l.length = ns.length) (h3 : fitsTo l ns l.length = true) : okP l ns = true := by unfold okP; rw [h1, h3, decide_eq_true h2]; rfl

theorem fitsTo_not {l : List Int} {ns : List Nat} {i k : Nat} (hik : i < k) (h : ¬ ns.getD i 0 < pw (l.getD i 0).toNat) : fitsTo l ns k = false := by
  induction k with
  | zero => omega
  | succ k ih =>
    unfold fitsTo
    rcases Nat.lt_or_ge i k with hc | hc
    · rw [ih hc]; rfl
    · obtain rfl : i = k := by omega
      rw [decide_eq_false h, Bool.and_false]
theorem fitsTo_succ {l : List Int} {ns : List Nat} {k : Nat} (h : fitsTo l ns k = true) (hk : ns.getD k 0 < pw (l.getD k 0).toNat) : fitsTo l ns (k + 1) = true := by
  unfold fitsTo; rw [h, decide_eq_true hk]; rfl
theorem fitsTo_at {l : List Int} {ns : List Nat} {i k : Nat} (hik : i < k) (h : fitsTo l ns k = true) : ns.getD i 0 < pw (l.getD i 0).toNat := by
  rcases Nat.lt_or_ge (ns.getD i 0) (pw (l.getD i 0).toNat) with hc | hc
  · exact hc
  · rw [fitsTo_not hik (by omega)] at h; cases h
theorem tot_succ (l : List Int) (k : Nat) : tot l (k + 1) = tot l k + l.getD k 0 := rfl
theorem packTo_lt {l : List Int} (ho : okS l = true) {ns : List Nat} {k : Nat} (hk : k ≤ l.length) (h : fitsTo l ns k = true) : packTo l ns k < pw (tot l k).toNat := by
  induction k with
  | zero => exact pw_pos _
  | succ k ih =>
    have hf : fitsTo l ns k = true := by unfold fitsTo at h; simp at h; exact h.1
    have h1 := ih (by omega) hf
    have h2 := fitsTo_at (Nat.lt_succ_self k) h
    have h3 := tot_nonneg (fun i hi => okS_pos ho hi) (show k ≤ l.length by omega)
    have h4 := okS_pos ho (show k < l.length by omega)
    show packTo l ns k + ns.getD k 0 * pw (tot l k).toNat < _
    rw [tot_succ, show (tot l k + l.getD k 0).toNat = (tot l k).toNat + (l.getD k 0).toNat by omega]
    have h5 : pw ((tot l k).toNat + (l.getD k 0).toNat) = pw (l.getD k 0).toNat * pw (tot l k).toNat := by unfold pw; rw [Nat.pow_add, Nat.mul_comm]
    rw [h5]
    calc packTo l ns k + ns.getD k 0 * pw (tot l k).toNat < pw (tot l k).toNat + ns.getD k 0 * pw (tot l k).toNat := by omega
      _ = (ns.getD k 0 + 1) * pw (tot l k).toNat := by rw [Nat.add_mul]; omega
      _ ≤ _ := Nat.mul_le_mul_right _ h2
/-- What is packed further goes where nothing stands yet. -/
theorem setN_add {w n : Nat} {at_ size : Int} (ha : 0 ≤ at_) (hs : 0 ≤ size) (hle : at_ + size ≤ 64) (hw : w < pw at_.toNat) (hn : n < pw size.toNat) : setN w at_ size n = w + n * pw at_.toNat := by
  have hlt : w + n * pw at_.toNat < 2 ^ 64 := by
    have h5 : pw (at_.toNat + size.toNat) = pw size.toNat * pw at_.toNat := by unfold pw; rw [Nat.pow_add, Nat.mul_comm]
    have h6 : pw (at_.toNat + size.toNat) ≤ pw 64 := pw_le (by omega)
    have h7 : w + n * pw at_.toNat < pw size.toNat * pw at_.toNat :=
      calc w + n * pw at_.toNat < pw at_.toNat + n * pw at_.toNat := by omega
        _ = (n + 1) * pw at_.toNat := by rw [Nat.add_mul]; omega
        _ ≤ _ := Nat.mul_le_mul_right _ hn
    rw [← h5] at h7
    exact Nat.lt_of_lt_of_le h7 h6
  refine eq_of_bits (n := 64) (bits64 _) hlt (fun i hi => ?_)
  unfold setN
  rw [bitsOf_bit, Nat.add_comm w, Nat.mul_comm]
  have hb : (pw at_.toNat * n + w).testBit i = if i < at_.toNat then w.testBit i else n.testBit (i - at_.toNat) := Nat.testBit_two_pow_mul_add n hw i
  rw [hb]
  simp only [hi, decide_true, Bool.true_and]
  unfold inPart
  by_cases h1 : i < at_.toNat
  · rw [if_pos h1, if_neg (by simp; omega)]
  · rw [if_neg h1]
    by_cases h2 : (i : Int) < at_ + size
    · rw [if_pos (by simp; omega), bitAt_in _ _ (by omega) (by omega)]
      congr 1; omega
    · rw [if_neg (by simp; omega)]
      have e1 : w.testBit i = false := Nat.testBit_lt_two_pow (Nat.lt_of_lt_of_le hw (pw_le (by omega)))
      have e2 : n.testBit (i - at_.toNat) = false := Nat.testBit_lt_two_pow (Nat.lt_of_lt_of_le hn (pw_le (by omega)))
      rw [e1, e2]

/-- May a word be unpacked by these sizes? -/
def okU (l : List Int) (x : Nat) : Bool := okS l && decide (x < pw (tot l l.length).toNat)
theorem okU_sizes {l : List Int} {x : Nat} (h : okS l = false) : okU l x = false := by unfold okU; rw [h]; rfl
theorem okU_big {l : List Int} {x : Nat} (h : pw (tot l l.length).toNat ≤ x) : okU l x = false := by unfold okU; rw [decide_eq_false (by omega)]; simp
theorem okU_yes {l : List Int} {x : Nat} (h1 : okS l = true) (h2 : x < pw (tot l l.length).toNat) : okU l x = true := by unfold okU; rw [h1, decide_eq_true h2]; rfl
end Go.Proofs.Ytlflhhdcakcioaa
