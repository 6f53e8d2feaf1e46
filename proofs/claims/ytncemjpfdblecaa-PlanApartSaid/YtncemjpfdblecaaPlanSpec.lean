/- Places of a plan, as numbers: each word has its own. -/
import Derived.Test.YtncemjpfdblecaaRef5At
import Derived.Test.YtncemjpfdblecaaRef4
namespace Go.Proofs.Ytncemjpfdblecaa
open Go.ChangeShapes Go.WideShapes Go.ChangeAt Go.RowKit

/-- How many words there are. -/
def wordsN (c : Nat → Int) : Nat := (c 0).toNat * perN c
/-- A level's word, by its kind, I and J. -/
def backR (c : Nat → Int) (k i j : Nat) : Nat :=
  if k < 4 then k else if k = 4 then 4 + i else if k = 5 then 8 + i else if k = 6 then 10 + i else if k = 7 then 18 + i else if k = 8 then 18 + (c 11).toNat + (i - 1) else 18 + (c 11).toNat + (c 10).toNat + 5 * (i - 1) + j
theorem backR_kindR (c : Nat → Int) (r : Nat) : backR c (kindR c r).1 (kindR c r).2.1 (kindR c r).2.2 = r := by
  unfold kindR
  by_cases h1 : r < 4
  · rw [if_pos h1]; unfold backR; rw [if_pos h1]
  by_cases h2 : r < 8
  · rw [if_neg h1, if_pos h2]; unfold backR; simp; omega
  by_cases h3 : r < 10
  · rw [if_neg h1, if_neg h2, if_pos h3]; unfold backR; simp; omega
  by_cases h4 : r < 18
  · rw [if_neg h1, if_neg h2, if_neg h3, if_pos h4]; unfold backR; simp; omega
  by_cases h5 : r < 18 + (c 11).toNat
  · rw [if_neg h1, if_neg h2, if_neg h3, if_neg h4, if_pos h5]; unfold backR; simp; omega
  by_cases h6 : r < 18 + (c 11).toNat + (c 10).toNat
  · rw [if_neg h1, if_neg h2, if_neg h3, if_neg h4, if_neg h5, if_pos h6]; unfold backR; simp; omega
  · rw [if_neg h1, if_neg h2, if_neg h3, if_neg h4, if_neg h5, if_neg h6]; unfold backR; simp; omega
theorem plc_inj (c : Nat → Int) (a b : Nat) (h : ∀ j, j < 4 → plc c a j = plc c b j) : a = b := by
  have h0 := h 0 (by omega)
  have h1 := h 1 (by omega)
  have h2 := h 2 (by omega)
  have h3 := h 3 (by omega)
  unfold plc at h0 h1 h2 h3
  simp only [if_true, if_false, show (1 : Nat) = 0 ↔ False by simp, show (2 : Nat) = 0 ↔ False by simp, show (2 : Nat) = 1 ↔ False by simp, show (3 : Nat) = 0 ↔ False by simp, show (3 : Nat) = 1 ↔ False by simp, show (3 : Nat) = 2 ↔ False by simp] at h0 h1 h2 h3
  have e0 : a / perN c = b / perN c := by omega
  have er : a % perN c = b % perN c := by
    rw [← backR_kindR c (a % perN c), ← backR_kindR c (b % perN c), Int.ofNat_inj.1 h1, Int.ofNat_inj.1 h2, Int.ofNat_inj.1 h3]
  rw [← Nat.div_add_mod a (perN c), ← Nat.div_add_mod b (perN c), e0, er]
theorem eqI_plc (c : Nat → Int) (a b : Nat) : eqI 4 (plc c a) (plc c b) = decide (a = b) := by
  rw [Bool.eq_iff_iff, eqI_iff, decide_eq_true_eq]
  exact ⟨plc_inj c a b, fun h j _ => by rw [h]⟩
theorem atN_plc (c : Nat → Int) (n a : Nat) (h : a < n) : atN c n (plc c a) = a :=
  atN_yes h (fun i hi => by rw [eqI_plc]; exact decide_eq_false (by omega)) (by rw [eqI_plc]; exact decide_eq_true rfl)
theorem words_bounds {c : Nat → Int} (hm : mayB c = true) : 0 < wordsN c ∧ wordsN c ≤ 1672 := by
  obtain ⟨⟨h0, h0'⟩, _, _, ⟨h1, h2⟩, ⟨h3, h4⟩, _⟩ := may_bounds hm
  unfold wordsN
  have hp : perN c ≤ 418 := by unfold perN; omega
  constructor
  · exact Nat.mul_pos (by omega) (perN_pos c)
  · exact Nat.le_trans (Nat.mul_le_mul (show (c 0).toNat ≤ 4 by omega) hp) (by omega)
/-- A word's level is one that there is. -/
theorem plc_level {c : Nat → Int} (hm : mayB c = true) {a : Nat} (h : a < wordsN c) : 0 ≤ plc c a 0 ∧ plc c a 0 < c 0 := by
  obtain ⟨⟨h0, h0'⟩, _⟩ := may_bounds hm
  unfold plc
  rw [if_pos rfl]
  unfold wordsN at h
  have h5 := Nat.div_lt_of_lt_mul (show a < perN c * (c 0).toNat by rw [Nat.mul_comm]; exact h)
  generalize a / perN c = q at *
  omega
theorem plc_rises (c : Nat → Int) {a b : Nat} (h : a ≤ b) : plc c a 0 ≤ plc c b 0 := by
  unfold plc
  rw [if_pos rfl, if_pos rfl]
  exact Int.ofNat_le.2 (Nat.div_le_div_right h)
theorem plc_ok (c : Nat → Int) (k : Nat) (hk : k ≤ 1000000) : Ok64 (plc c k) := fun j => by
  have h1 : k / perN c ≤ k := Nat.div_le_self ..
  have h2 : k % perN c ≤ k := Nat.mod_le ..
  have h3 : (kindR c (k % perN c)).1 ≤ 9 ∧ (kindR c (k % perN c)).2.1 ≤ k % perN c + 1 ∧ (kindR c (k % perN c)).2.2 ≤ 4 := by
    unfold kindR
    generalize k % perN c = r
    repeat' split
    all_goals (refine ⟨?_, ?_, ?_⟩ <;> simp only [] <;> omega)
  unfold plc
  generalize k / perN c = a at *
  generalize kindR c (k % perN c) = t at *
  generalize k % perN c = r at *
  repeat' split
  all_goals omega
/-- What a plan tells of a word. -/
def whatP (c : Nat → Int) (a : Int) : Nat → Int := if 0 ≤ a ∧ a < (wordsN c : Int) then plc c a.toNat else fun _ => 0
def whatB (c : Nat → Int) (a : Int) : Bool := decide (0 ≤ a) && decide (a < (wordsN c : Int))
end Go.Proofs.Ytncemjpfdblecaa
