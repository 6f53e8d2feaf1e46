/- Which kind a level's word is of, by where the kinds begin; where a place is. -/
import Derived.Test.YtncemjpfdblecaaPlanRead
namespace Go.Proofs.Ytncemjpfdblecaa
open Go.ChangeShapes Go.WideShapes Go.ChangeAt Go.RowKit

theorem kindR_at {c : Nat → Int} (hm : mayB c = true) (r k : Nat) (hk : k < 10) (h1 : atK c k ≤ (r : Int)) (h2 : (r : Int) < atK c (k + 1)) :
    ((kindR c r).1 : Int) = k ∧ ((kindR c r).2.1 : Int) = firstK k + ((r : Int) - atK c k) / eachK k ∧ ((kindR c r).2.2 : Int) = ((r : Int) - atK c k) % eachK k := by
  obtain ⟨-, -, -, b10, b11, -⟩ := may_bounds hm
  unfold kindR
  match k, hk with
  | 0, _ => simp [atK, firstK, eachK] at h1 h2 ⊢; rw [if_pos (by omega)]; simp; omega
  | 1, _ => simp [atK, firstK, eachK] at h1 h2 ⊢; rw [if_pos (by omega)]; simp; omega
  | 2, _ => simp [atK, firstK, eachK] at h1 h2 ⊢; rw [if_pos (by omega)]; simp; omega
  | 3, _ => simp [atK, firstK, eachK] at h1 h2 ⊢; rw [if_pos (by omega)]; simp; omega
  | 4, _ => simp [atK, firstK, eachK] at h1 h2 ⊢; rw [if_neg (by omega), if_pos (by omega)]; simp; omega
  | 5, _ => simp [atK, firstK, eachK] at h1 h2 ⊢; rw [if_neg (by omega), if_neg (by omega), if_pos (by omega)]; simp; omega
  | 6, _ => simp [atK, firstK, eachK] at h1 h2 ⊢; rw [if_neg (by omega), if_neg (by omega), if_neg (by omega), if_pos (by omega)]; simp; omega
  | 7, _ => simp [atK, firstK, eachK] at h1 h2 ⊢; rw [if_neg (by omega), if_neg (by omega), if_neg (by omega), if_neg (by omega), if_pos (by omega)]; simp; omega
  | 8, _ => simp [atK, firstK, eachK] at h1 h2 ⊢; rw [if_neg (by omega), if_neg (by omega), if_neg (by omega), if_neg (by omega), if_neg (by omega), if_pos (by omega)]; simp; omega
  | 9, _ => simp [atK, firstK, eachK] at h1 h2 ⊢; rw [if_neg (by omega), if_neg (by omega), if_neg (by omega), if_neg (by omega), if_neg (by omega), if_neg (by omega)]; simp; omega
theorem kind_ex {c : Nat → Int} (hm : mayB c = true) (r : Nat) (h : r < perN c) : ∃ k, k < 10 ∧ atK c k ≤ (r : Int) ∧ (r : Int) < atK c (k + 1) := by
  obtain ⟨-, -, -, b10, b11, -⟩ := may_bounds hm
  unfold perN at h
  by_cases h0 : r < 4
  · match r, h0 with
    | 0, _ => exact ⟨0, by omega, by simp [atK], by simp [atK]⟩
    | 1, _ => exact ⟨1, by omega, by simp [atK], by simp [atK]⟩
    | 2, _ => exact ⟨2, by omega, by simp [atK], by simp [atK]⟩
    | 3, _ => exact ⟨3, by omega, by simp [atK], by simp [atK]⟩
  by_cases h1 : r < 8
  · exact ⟨4, by omega, by simp [atK]; omega, by simp [atK]; omega⟩
  by_cases h2 : r < 10
  · exact ⟨5, by omega, by simp [atK]; omega, by simp [atK]; omega⟩
  by_cases h3 : r < 18
  · exact ⟨6, by omega, by simp [atK]; omega, by simp [atK]; omega⟩
  by_cases h4 : (r : Int) < 18 + c 11
  · exact ⟨7, by omega, by simp [atK]; omega, by simp [atK]; omega⟩
  by_cases h5 : (r : Int) < 18 + c 11 + c 10
  · exact ⟨8, by omega, by simp [atK]; omega, by simp [atK]; omega⟩
  · exact ⟨9, by omega, by simp [atK]; omega, by simp [atK]; omega⟩

/-- Is there such a place? Its kind is k. -/
def isPlc (c x : Nat → Int) (k : Nat) : Prop := (0 ≤ x 0 ∧ x 0 < c 0) ∧ (0 ≤ x 2 - firstK k ∧ x 2 - firstK k < countK c k) ∧ (0 ≤ x 3 ∧ x 3 < eachK k)
theorem each_pos (k : Nat) : 0 < eachK k := by rcases eachK_two k with e | e <;> omega
/-- A word's place is one that there is. -/
theorem plc_isPlc {c : Nat → Int} (hm : mayB c = true) (n : Nat) (h : n < wordsN c) : ∃ k : Nat, k < 10 ∧ plc c n 1 = (k : Int) ∧ isPlc c (plc c n) k := by
  have hl := plc_level hm h
  have hr : n % perN c < perN c := Nat.mod_lt _ (perN_pos c)
  obtain ⟨k, hk, h1, h2⟩ := kind_ex hm _ hr
  obtain ⟨e1, e2, e3⟩ := kindR_at hm _ k hk h1 h2
  refine ⟨k, hk, e1, hl, ?_, ?_⟩
  · show 0 ≤ ((kindR c (n % perN c)).2.1 : Int) - firstK k ∧ ((kindR c (n % perN c)).2.1 : Int) - firstK k < countK c k
    rw [e2]
    rw [atK_succ c k hk] at h2
    have h3 : (((n % perN c : Nat) : Int) - atK c k) < countK c k * eachK k := by omega
    have h4 := Int.ediv_lt_of_lt_mul (each_pos k) h3
    have h5 := Int.ediv_nonneg (show (0 : Int) ≤ ((n % perN c : Nat) : Int) - atK c k by omega) (Int.le_of_lt (each_pos k))
    omega
  · show 0 ≤ ((kindR c (n % perN c)).2.2 : Int) ∧ ((kindR c (n % perN c)).2.2 : Int) < eachK k
    rw [e3]
    exact ⟨Int.emod_nonneg _ (by have := each_pos k; omega), Int.emod_lt_of_pos _ (each_pos k)⟩
theorem atN_congr {c x y : Nat → Int} {n : Nat} (h : ∀ j, j < 4 → x j = y j) : atN c n x = atN c n y := by
  have : ∀ i, eqI 4 (plc c i) x = eqI 4 (plc c i) y := fun i => by
    rw [eqI_four, eqI_four, h 0 (by omega), h 1 (by omega), h 2 (by omega), h 3 (by omega)]
  unfold atN
  simp only [this]
theorem eqI_false {x y : Nat → Int} (h : ¬ ∀ j, j < 4 → x j = y j) : eqI 4 x y = false := by
  cases e : eqI 4 x y
  · rfl
  · exact absurd (eqI_iff.1 e) h
theorem at_none {c : Nat → Int} (hm : mayB c = true) (x : Nat → Int) (h : ∀ k : Nat, k < 10 → x 1 = (k : Int) → ¬ isPlc c x k) : atN c (wordsN c) x = -1 := by
  refine atN_no fun i hi => eqI_false fun he => ?_
  obtain ⟨k, hk, e1, e2⟩ := plc_isPlc hm i hi
  refine h k hk (by rw [← he 1 (by omega)]; exact e1) ?_
  unfold isPlc at e2 ⊢
  rw [he 0 (by omega), he 2 (by omega), he 3 (by omega)] at e2
  exact e2
theorem at_some {c : Nat → Int} (hm : mayB c = true) (x : Nat → Int) (k : Nat) (hk : k < 10) (h1 : x 1 = k) (h : isPlc c x k) :
    atN c (wordsN c) x = x 0 * planN c 54 + atK c k + (x 2 - firstK k) * eachK k + x 3 := by
  obtain ⟨⟨l0, l1⟩, ⟨i0, i1⟩, j0, j1⟩ := h
  obtain ⟨-, -, -, b10, b11, -⟩ := may_bounds hm
  have hp := perN_int hm
  obtain ⟨m, hm0⟩ := Int.eq_ofNat_of_zero_le l0
  have hA := atK_bounds c k b10 b11
  have hS := atK_succ c k hk
  have hmono : atK c (k + 1) ≤ (perN c : Int) := by
    rw [hp]
    match k, hk with
    | 0, _ => simp [atK]; omega
    | 1, _ => simp [atK]; omega
    | 2, _ => simp [atK]; omega
    | 3, _ => simp [atK]; omega
    | 4, _ => simp [atK]; omega
    | 5, _ => simp [atK]; omega
    | 6, _ => simp [atK]; omega
    | 7, _ => simp [atK]; omega
    | 8, _ => simp [atK]; omega
    | 9, _ => simp [atK]
  have hb : (x 2 - firstK k) * eachK k + x 3 < countK c k * eachK k ∧ 0 ≤ (x 2 - firstK k) * eachK k + x 3 := by
    rcases eachK_two k with e | e <;> rw [e] at j1 ⊢ <;> omega
  obtain ⟨r, hr⟩ := Int.eq_ofNat_of_zero_le (show 0 ≤ atK c k + ((x 2 - firstK k) * eachK k + x 3) by omega)
  have hrl : r < perN c := by omega
  obtain ⟨e1, e2, e3⟩ := kindR_at hm r k hk (by omega) (by omega)
  have hrk : (r : Int) - atK c k = (x 2 - firstK k) * eachK k + x 3 := by omega
  rw [hrk] at e2 e3
  have hd : ((x 2 - firstK k) * eachK k + x 3) / eachK k = x 2 - firstK k ∧ ((x 2 - firstK k) * eachK k + x 3) % eachK k = x 3 := by
    rcases eachK_two k with e | e <;> rw [e] at j1 ⊢ <;> omega
  obtain ⟨p1, p2⟩ := plc_at c m r hrl
  have hx : ∀ j, j < 4 → x j = plc c (m * perN c + r) j := fun j hj => by
    unfold plc
    rw [p1, p2]
    match j, hj with
    | 0, _ => exact hm0
    | 1, _ => simp; rw [h1, e1]
    | 2, _ => simp; rw [e2, hd.1]; omega
    | 3, _ => simp; rw [e3, hd.2]
  rw [atN_congr hx, atN_plc]
  · rw [planN_size, ← hp, hm0, Int.natCast_add, Int.natCast_mul]
    show (m : Int) * (perN c : Int) + (r : Int) = (m : Int) * (perN c : Int) + atK c k + (x 2 - firstK k) * eachK k + x 3
    omega
  · unfold wordsN
    have h2 : m + 1 ≤ (c 0).toNat := by omega
    have h3 := Nat.mul_le_mul_right (perN c) h2
    rw [Nat.succ_mul] at h3
    omega
end Go.Proofs.Ytncemjpfdblecaa
