/- What WaysGives says, without a program. -/
import Derived.Test.YtoimbgmajoajiaaWaysWords
namespace Go.Proofs.Ytoimbgmajoajiaa
open Go.ChangeShapes Go.WideShapes Go.ChangeAt Go.RowKit

theorem putS_eq (s : WS) (x : Int) : putS s x = ((placeS s).put (placeI s) x true).more := changeS_yes _ _ (placeI_lt s) _ _
theorem put_in (s : WS) (x : Int) : (putS s x).slot (placeI s) = x ∧ (putS s x).tch (placeI s) = true := by
  rw [putS_eq]
  unfold WS.more WS.put
  exact ⟨if_pos rfl, if_pos rfl⟩
theorem place_tch (s : WS) (j : Nat) (h : (placeS s).tch j = true) : s.tch j = true := by
  unfold placeS at h
  split at h
  · exact h
  · exact gone_imp h
theorem put_else (s : WS) (x : Int) {j : Nat} (hj : j ≠ placeI s) : (putS s x).slot j = s.slot j ∧ ((putS s x).tch j = true → s.tch j = true) := by
  rw [putS_eq]
  constructor
  · show (if j = placeI s then x else (placeS s).slot j) = _
    rw [if_neg hj, place_slot]
  · intro h
    have h2 : (if j = placeI s then true else (placeS s).tch j) = true := h
    rw [if_neg hj] at h2
    exact place_tch s j h2
/-- What was given up was no empty way: none was empty. -/
theorem gave_none {s : WS} (h : s.slot (placeI s) ≠ 0) : emp s = 4 := by
  have hle := emp_le s
  rcases Nat.lt_or_ge (emp s) 4 with h1 | h1
  · have e : placeI s = emp s := by unfold placeI; rw [if_pos h1]
    rw [e] at h
    exact absurd (emp_slot h1) h
  · omega
theorem gave_full {s : WS} (h : s.slot (placeI s) ≠ 0) (j : Nat) (hj : j < 4) : s.slot j ≠ 0 := emp_not (gave_none h) j hj
/-- A way that was touched was given up: all were touched. -/
theorem gave_touched {s : WS} (h : s.slot (placeI s) ≠ 0) (ht : s.tch (placeI s) = true) (j : Nat) (hj : j < 4) : s.tch j = true := by
  have he := gave_none h
  have e : placeI s = (handOf s + laps (handOf s) s.tch) % 4 := by unfold placeI; rw [if_neg (by omega)]; rfl
  rw [e] at ht
  generalize handOf s = g at *
  generalize s.tch = t at *
  have ne : ∀ {b : Bool}, b = true → b = false → False := fun h1 h2 => by rw [h1] at h2; cases h2
  have key : ∀ i, i < 4 → t ((g + i) % 4) = true := by
    intro i hi
    cases hb : t ((g + i) % 4)
    · exfalso
      unfold laps at ht
      split at ht
      · rename_i h0; exact ne ht h0
      · split at ht
        · rename_i h0; exact ne ht h0
        · split at ht
          · rename_i h0; exact ne ht h0
          · split at ht
            · rename_i h0; exact ne ht h0
            · rename_i h0 h1 h2 h3
              rcases (show i = 0 ∨ i = 1 ∨ i = 2 ∨ i = 3 by omega) with rfl | rfl | rfl | rfl
              · exact h0 hb
              · exact h1 hb
              · exact h2 hb
              · exact h3 hb
    · rfl
  have := key ((j + 4 - g % 4) % 4) (by omega)
  rw [show (g + (j + 4 - g % 4) % 4) % 4 = j by omega] at this
  exact this
/-- What is written is read. -/
theorem read_word {s : WS} (h : ∀ k, k < 4 → 0 ≤ s.slot k ∧ s.slot k ≤ 255) : ∀ k, k < 4 → (readS (wordN s)).slot k = s.slot k ∧ (readS (wordN s)).tch k = s.tch k := by
  have hq : ∃ q, headN s = 68719476736 * q := by obtain ⟨q, h, _⟩ := headN_eq s; exact ⟨q, h⟩
  obtain ⟨q, hq⟩ := hq
  have hs : ∀ k, k < 4 → ∃ c : Nat, s.slot k = (c : Int) ∧ c < 256 ∧ (s.slot k % 256).toNat = c := fun k hk => ⟨(s.slot k).toNat, by have := h k hk; omega, by have := h k hk; omega, by have := h k hk; omega⟩
  have hb : ∀ k, ∃ t : Nat, (s.tch k).toNat = t ∧ t < 2 ∧ s.tch k = decide (t = 1) := fun k => ⟨(s.tch k).toNat, rfl, by cases s.tch k <;> decide, by cases s.tch k <;> rfl⟩
  obtain ⟨c0, e0, l0, d0⟩ := hs 0 (by omega)
  obtain ⟨c1, e1, l1, d1⟩ := hs 1 (by omega)
  obtain ⟨c2, e2, l2, d2⟩ := hs 2 (by omega)
  obtain ⟨c3, e3, l3, d3⟩ := hs 3 (by omega)
  obtain ⟨t0, g0, m0, b0⟩ := hb 0
  obtain ⟨t1, g1, m1, b1⟩ := hb 1
  obtain ⟨t2, g2, m2, b2⟩ := hb 2
  obtain ⟨t3, g3, m3, b3⟩ := hb 3
  obtain ⟨p0, p1, p2, p3, p4, p5, p6, p7⟩ := pw9
  have hw : wordN s = 68719476736 * q + (0 + 1 * c0 + 256 * t0 + 512 * c1 + 131072 * t1 + 262144 * c2 + 67108864 * t2 + 134217728 * c3 + 34359738368 * t3) := by
    unfold wordN
    rw [hq]
    simp only [lows, d0, d1, d2, d3, g0, g1, g2, g3, p0, p1, p2, p3, p4, p5, p6, p7]
  generalize wordN s = y at *
  intro k hk
  have hsl : (readS y).slot k = ((y / pw (9 * k) % 256 : Nat) : Int) := rfl
  have htc : (readS y).tch k = decide (y / pw (9 * k + 8) % 2 = 1) := rfl
  rw [hsl, htc]
  rcases (show k = 0 ∨ k = 1 ∨ k = 2 ∨ k = 3 by omega) with rfl | rfl | rfl | rfl
  · rw [p0, p4, e0, b0]; exact ⟨by omega, by rw [decide_eq_decide]; omega⟩
  · rw [p1, p5, e1, b1]; exact ⟨by omega, by rw [decide_eq_decide]; omega⟩
  · rw [p2, p6, e2, b2]; exact ⟨by omega, by rw [decide_eq_decide]; omega⟩
  · rw [p3, p7, e3, b3]; exact ⟨by omega, by rw [decide_eq_decide]; omega⟩
theorem read_small (x k : Nat) : 0 ≤ (readS x).slot k ∧ (readS x).slot k ≤ 255 := by
  show 0 ≤ ((x / pw (9 * k) % 256 : Nat) : Int) ∧ ((x / pw (9 * k) % 256 : Nat) : Int) ≤ 255
  omega
theorem put_small {s : WS} {x : Int} (hs : ∀ k, k < 4 → 0 ≤ s.slot k ∧ s.slot k ≤ 255) (hx : 1 ≤ x ∧ x ≤ 255) (k : Nat) (hk : k < 4) : 0 ≤ (putS s x).slot k ∧ (putS s x).slot k ≤ 255 := by
  by_cases h : k = placeI s
  · subst h; rw [(put_in s x).1]; omega
  · rw [(put_else s x h).1]; exact hs k hk
end Go.Proofs.Ytoimbgmajoajiaa
