/- The document's answers of layer 4 (burnbagref04): whether a configuration may be, and each thread's level. -/
import Derived.Test.YtodomchanaaonaaConf
namespace Go.Proofs.Ytodomchanaaonaa
open Go.ChangeShapes Go.WideShapes Go.ChangeAt Go.RowKit

/-- Thread i's place in the array is as it may be. -/
def okT (c : Nat → Int) (i : Nat) : Bool := if c 1 ≤ (i : Int) then decide (c (2 + i) = 0) && decide (0 < c 0) else decide (0 ≤ c (2 + i)) && decide (c (2 + i) < c 0)
def okTo (c : Nat → Int) (k : Nat) : Bool := (List.range k).all (okT c)
theorem okTo_iff {c : Nat → Int} {k : Nat} : okTo c k = true ↔ ∀ i, i < k → okT c i = true := by simp [okTo]

/-- The document's test, and the code's, are one. -/
theorem may_same (c : Nat → Int) : mayB c = (decide (1 ≤ c 0 ∧ c 0 ≤ 4 ∧ 1 ≤ c 1 ∧ c 1 ≤ 8) && okTo c 8 && decide (2 ≤ c 10 ∧ c 10 ≤ 60 ∧ 1 ≤ c 11 ∧ c 11 ≤ 40) && decide (1 ≤ c 12 ∧ c 12 ≤ 1048576 ∧ 0 ≤ c 13 ∧ c 13 ≤ 60)) := by
  by_cases h : 1 ≤ c 0 ∧ c 0 ≤ 4 ∧ 1 ≤ c 1 ∧ c 1 ≤ 8
  · have e : fitsB c = okTo c 8 := by
      rw [Bool.eq_iff_iff, okTo_iff]
      unfold fitsB
      rw [eqI_iff]
      refine forall_congr' fun i => forall_congr' fun hi => ?_
      by_cases h2 : (i : Int) < c 1
      · have e1 : fitN c i = clamp (c (2 + i)) (c 0 - 1) := if_pos h2
        have e2 : okT c i = (decide (0 ≤ c (2 + i)) && decide (c (2 + i) < c 0)) := if_neg (by omega)
        rw [e1, e2]
        simp only [Bool.and_eq_true, decide_eq_true_eq]
        unfold clamp
        generalize c (2 + i) = x
        repeat' split
        all_goals omega
      · have e1 : fitN c i = 0 := if_neg h2
        have e2 : okT c i = (decide (c (2 + i) = 0) && decide (0 < c 0)) := if_pos (by omega)
        rw [e1, e2]
        simp only [Bool.and_eq_true, decide_eq_true_eq]
        omega
    unfold mayB withinB
    rw [e, Bool.eq_iff_iff]
    simp only [Bool.and_eq_true, decide_eq_true_eq]
    by_cases hp : okTo c 8 = true
    · simp only [hp, and_true]; omega
    · simp only [hp, and_false, false_and, Bool.false_eq_true]
  · unfold mayB withinB
    rw [Bool.eq_iff_iff]
    simp only [Bool.and_eq_true, decide_eq_true_eq]
    constructor
    · intro h2; exact absurd ⟨by omega, by omega, by omega, by omega⟩ h
    · intro h2; exact absurd h2.1.1.1 h
theorem may_bounds {c : Nat → Int} (h : mayB c = true) : (1 ≤ c 0 ∧ c 0 ≤ 4) ∧ (1 ≤ c 1 ∧ c 1 ≤ 8) ∧ (∀ i, i < 8 → okT c i = true) ∧ (2 ≤ c 10 ∧ c 10 ≤ 60) ∧ (1 ≤ c 11 ∧ c 11 ≤ 40) ∧ (1 ≤ c 12 ∧ c 12 ≤ 1048576) ∧ (0 ≤ c 13 ∧ c 13 ≤ 60) := by
  rw [may_same] at h
  simp only [Bool.and_eq_true, decide_eq_true_eq] at h
  obtain ⟨⟨⟨h1, h2⟩, h3⟩, h4⟩ := h
  exact ⟨⟨h1.1, h1.2.1⟩, h1.2.2, okTo_iff.1 h2, ⟨h3.1, h3.2.1⟩, h3.2.2, ⟨h4.1, h4.2.1⟩, h4.2.2⟩

/-- A thread's level; -1 where there is none. -/
def lvl (c : Nat → Int) (t : Int) : Int := if mayB c = true ∧ 0 ≤ t ∧ t < c 1 then c (2 + t.toNat) else -1
theorem lvl_yes {c : Nat → Int} {t : Int} (h : mayB c = true) (h0 : 0 ≤ t) (h1 : t < c 1) : lvl c t = c (2 + t.toNat) := if_pos ⟨h, h0, h1⟩
theorem lvl_no {c : Nat → Int} {t : Int} (h : ¬ (mayB c = true ∧ 0 ≤ t ∧ t < c 1)) : lvl c t = -1 := if_neg h
theorem lvl_bounds (c : Nat → Int) (t : Int) : (lvl c t = -1 ∧ ¬ (mayB c = true ∧ 0 ≤ t ∧ t < c 1)) ∨ (0 ≤ lvl c t ∧ lvl c t < c 0 ∧ lvl c t < 4 ∧ mayB c = true ∧ 0 ≤ t ∧ t < c 1 ∧ lvl c t = c (2 + t.toNat)) := by
  by_cases h : mayB c = true ∧ 0 ≤ t ∧ t < c 1
  · right
    obtain ⟨h, h0, h1⟩ := h
    obtain ⟨b0, b1, b2, _⟩ := may_bounds h
    have := b2 t.toNat (by omega)
    unfold okT at this
    rw [if_neg (by omega)] at this
    simp only [Bool.and_eq_true, decide_eq_true_eq] at this
    rw [lvl_yes h h0 h1]
    exact ⟨this.1, this.2, by omega, h, h0, h1, rfl⟩
  · exact .inl ⟨lvl_no h, h⟩

theorem okTo_no {c : Nat → Int} {k : Nat} (hk : k < 8) (h : okT c k = false) : okTo c 8 = false := by
  rw [Bool.eq_false_iff]
  intro h2
  rw [okTo_iff.1 h2 k hk] at h
  cases h
theorem okTo_succ {c : Nat → Int} {k : Nat} (h : okTo c k = true) (h2 : okT c k = true) : okTo c (k + 1) = true := by
  rw [okTo_iff] at h ⊢
  intro i hi
  rcases Nat.lt_or_ge i k with h3 | h3
  · exact h i h3
  · obtain rfl : i = k := by omega
    exact h2

set_option maxRecDepth 100000 in
set_option maxHeartbeats 1000000 in
theorem rMay_any (c : Nat → Int) (hc : Ok64 c) (w : World) :
    Calls Try.prog 27 #[.agg (rowOf 14 (ints c))] w fun e w' => e = .returned (.bool (mayB c)) ∧ Below w.heap.size w w' := by
  have hM := Lib.hid (may_same c)
  have b0 := hc 0
  have b1 := hc 1
  go_enter Try.func27, Try.ntmps27
  go_upto_region 1 with fail
  generalize hW : World.alloc _ _ = W
  have hr : Row W w.heap.size 41 14 (ints c) := by rw [← hW]; exact Row.new _ _ _ _ _ rfl
  have hB : Below w.heap.size w W := by rw [← hW]; exact (Below.refl _ _).alloc (Nat.le_refl _) _
  clear hW
  generalize hz : w.heap.size = a1 at *
  have HZ := Lib.hid hz; clear hz
  obtain ⟨u0, u1, -, -, -, -, -, -, -, -, u10, u11, u12, u13⟩ := conf_cells hr
  by_cases h1 : c 0 < 1
  · go_wp2
    go_ret
    exact ⟨by rw [hM.out, decide_eq_false (by omega)]; rfl, by rw [HZ.out]; exact hB⟩
  by_cases h2 : 4 < c 0
  · go_wp2
    go_ret
    exact ⟨by rw [hM.out, decide_eq_false (by omega)]; rfl, by rw [HZ.out]; exact hB⟩
  by_cases h3 : c 1 < 1
  · go_wp2
    go_ret
    exact ⟨by rw [hM.out, decide_eq_false (by omega)]; rfl, by rw [HZ.out]; exact hB⟩
  by_cases h4 : 8 < c 1
  · go_wp2
    go_ret
    exact ⟨by rw [hM.out, decide_eq_false (by omega)]; rfl, by rw [HZ.out]; exact hB⟩
  go_wp2
  go_loopw [3] (fun t wr => ∃ k : Nat, t = .int .i64 k ∧ k ≤ 8 ∧ Hid (okTo c k = true) ∧ Drew W wr) (fun t _ => 8 - (intOf t).toNat)
  case atStart => exact ⟨0, rfl, by omega, Lib.hid rfl, Drew.refl _⟩
  case round =>
    obtain ⟨k, rfl, hk, ho, hd⟩ := hrel
    have hBr := hB.trans (hd.below a1)
    have hrr : Row wr a1 41 14 (ints c) := by obtain ⟨m, rfl⟩ := hd; exact hr
    obtain ⟨v0, v1, -, -, -, -, -, -, -, -, v10, v11, v12, v13⟩ := conf_cells hrr
    clear u0 u1 u10 u11 u12 u13
    by_cases hlt : k < 8
    · have vk : wr.cell? ⟨a1, 2 + k, none⟩ = some (.int .i64 (c (2 + k))) := hrr.cell (i := 2 + k) (by omega)
      have bk := hc (2 + k)
      have q0 : (0 : Int) ≤ (k : Int) := by omega
      have q1 : (k : Int) < 8 := by omega
      have H1 : Hid (okT c k = if c 1 ≤ (k : Int) then decide (c (2 + k) = 0) && decide (0 < c 0) else decide (0 ≤ c (2 + k)) && decide (c (2 + k) < c 0)) := Lib.hid rfl
      generalize c (2 + k) = x at *
      by_cases g1 : c 1 ≤ (k : Int)
      · have d1 : decide (c 1 ≤ (k : Int)) = true := decide_eq_true g1
        by_cases g2 : x = 0
        · subst g2
          have d2 : ((0 : Int) != 0) = false := rfl
          have d3 : decide (c 0 ≤ 0) = false := decide_eq_false (by omega)
          have Ho := Lib.hid (okTo_succ ho.out (by rw [H1.out, if_pos g1, decide_eq_true rfl, decide_eq_true (by omega)]; rfl))
          clear ho
          go_wp2_with fail
          go_quiet (fail)
          go_wp2
          go_roundw
          case rel => exact ⟨k + 1, by go_num, by omega, Ho, hd.more _⟩
          case measure => simp [intOf]; omega
        · have d2 : (x != 0) = true := by simpa using g2
          have Ho := Lib.hid (okTo_no hlt (by rw [H1.out, if_pos g1, decide_eq_false g2]; rfl))
          clear ho g2
          go_wp2_with fail
          go_quiet (fail)
          go_wp2
          go_ret
          exact ⟨by rw [hM.out, Ho.out, Bool.and_false]; rfl, by rw [HZ.out]; exact below_drewN hBr _⟩
      · have d1 : decide (c 1 ≤ (k : Int)) = false := decide_eq_false g1
        by_cases g2 : x < 0
        · have Ho := Lib.hid (okTo_no hlt (by rw [H1.out, if_neg g1, decide_eq_false (show ¬ 0 ≤ x by omega)]; rfl))
          have d2 : decide (x < 0) = true := decide_eq_true g2
          clear ho
          go_wp2_with fail
          go_quiet (fail)
          go_wp2
          go_ret
          exact ⟨by rw [hM.out, Ho.out, Bool.and_false]; rfl, by rw [HZ.out]; exact below_drewN hBr _⟩
        · have d2 : decide (x < 0) = false := decide_eq_false g2
          by_cases g3 : c 0 ≤ x
          · have Ho := Lib.hid (okTo_no hlt (by rw [H1.out, if_neg g1, decide_eq_false (show ¬ x < c 0 by omega), Bool.and_false]))
            have d3 : decide (c 0 ≤ x) = true := decide_eq_true g3
            clear ho
            go_wp2_with fail
            go_quiet (fail)
            go_wp2
            go_ret
            exact ⟨by rw [hM.out, Ho.out, Bool.and_false]; rfl, by rw [HZ.out]; exact below_drewN hBr _⟩
          · have d3 : decide (c 0 ≤ x) = false := decide_eq_false g3
            have Ho := Lib.hid (okTo_succ ho.out (by rw [H1.out, if_neg g1, decide_eq_true (show 0 ≤ x by omega), decide_eq_true (show x < c 0 by omega)]; rfl))
            clear ho
            go_wp2_with fail
            go_quiet (fail)
            go_wp2
            go_roundw
            case rel => exact ⟨k + 1, by go_num, by omega, Ho, hd.more _⟩
            case measure => simp [intOf]; omega
    · obtain rfl : k = 8 := by omega
      have hs := hM.out
      rw [ho.out, decide_eq_true (show 1 ≤ c 0 ∧ c 0 ≤ 4 ∧ 1 ≤ c 1 ∧ c 1 ≤ 8 by omega)] at hs
      have HS := Lib.hid hs
      clear hs hM ho
      go_wp2
      all_goals
        go_ret
        exact ⟨by rw [HS.out]; refine retB ?_; rw [Bool.eq_iff_iff]; simp; omega, by rw [HZ.out]; exact hBr⟩
end Go.Proofs.Ytodomchanaaonaa
