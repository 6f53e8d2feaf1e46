/- What the functions of package handle that build structs answer; and the document's answers of layer 3. -/
import Derived.Test.YtnbkkihpnfpgcaaHandle
import Derived.Deep.RegionHeld3
namespace Go.Proofs.Ytnbkkihpnfpgcaa
open Go.ChangeShapes Go.WideShapes Go.ChangeAt Go.RowKit

theorem hParts_any (x : Nat) (hx : x < 18446744073709551616) (w : World) :
    Calls Try.prog 7 #[.int .u64 x] w fun e w' => e = .returned (.tuple #[.int .i64 (x / 1152921504606846976 : Nat), .int .i64 (x % 256 : Nat), .int .i64 (x / 256 % 4294967296 : Nat), .bool (rightB x)]) ∧ w = w' := by
  have h1 : cutN x 60 4 = x / 1152921504606846976 := by rw [cutN_div hx (by omega) (by omega) (by omega)]; show x / 1152921504606846976 % 16 = _; omega
  have h2 : cutN x 0 8 = x % 256 := by rw [cutN_div hx (by omega) (by omega) (by omega)]; show x / 1 % 256 = _; omega
  have h3 : cutN x 8 32 = x / 256 % 4294967296 := by rw [cutN_div hx (by omega) (by omega) (by omega)]; rfl
  have hr : Hid (rightB x = ((((x % 256 : Nat) : Int) != 0) && ((x : Int) == (mkH (x / 1152921504606846976 : Nat) (x % 256 : Nat) (x / 256 % 4294967296 : Nat) : Nat)))) := by
    refine Lib.hid ?_
    unfold rightB mkH
    rw [Bool.eq_iff_iff]; simp; omega
  have c1 := Lib.hid (hPart_any x hx 60 4 (by omega) (by omega) _ h1 (by omega))
  have c2 := Lib.hid (hPart_any x hx 0 8 (by omega) (by omega) _ h2 (by omega))
  have c3 := Lib.hid (hPart_any x hx 8 32 (by omega) (by omega) _ h3 (by omega))
  have c4 := Lib.hid (hMake_any (x / 1152921504606846976 : Nat) (x % 256 : Nat) (x / 256 % 4294967296 : Nat) (by omega) (by omega) (by omega))
  have b2 : x % 256 < 256 := by omega
  clear h1 h2 h3
  generalize mkH (x / 1152921504606846976 : Nat) (x % 256 : Nat) (x / 256 % 4294967296 : Nat) = m at *
  generalize x / 1152921504606846976 = k1 at *
  generalize x % 256 = k2 at *
  generalize x / 256 % 4294967296 = k3 at *
  generalize rightB x = rb at *
  cases hc : (((k2 : Nat) : Int) != 0)
  all_goals
    rw [hc] at hr
    go_enter Try.func7, Try.ntmps7
    go_wp2_with fail
    refine (c1.out _).mono ?_; rintro e w' ⟨rfl, rfl⟩
    go_wp2_with fail
    refine (c2.out _).mono ?_; rintro e w' ⟨rfl, rfl⟩
    go_wp2_with fail
    refine (c3.out _).mono ?_; rintro e w' ⟨rfl, rfl⟩
    go_wp2_with (go_at_call 9; refine (c4.out _).mono ?_; rintro e w' ⟨rfl, rfl⟩)
    exact bodyPost_ret (v := .tuple #[.int .i64 k1, .int .i64 k2, .int .i64 k3, .bool rb]) (by simp [results, Try.results7, go_sem, hr.out]) rfl ⟨rfl, rfl⟩
theorem kind_cases (x : Nat) : (x = 0 ∧ kindN x = 0 ∧ fills x = false) ∨ (9223372036854775808 ≤ x ∧ kindN x = 1 ∧ fills x = false) ∨ (0 < x ∧ x < 9223372036854775808 ∧ kindN x = 2 ∧ fills x = true) := by
  unfold fills kindN
  by_cases h : x = 0
  · simp [h]
  · by_cases h2 : 9223372036854775808 ≤ x
    · simp [h, h2]
    · simp [h, h2]; omega
theorem hKind_any (x : Nat) (hx : x < 18446744073709551616) (w : World) :
    Calls Try.prog 21 #[.int .u64 x] w fun e w' => e = .returned (.int .i64 (kindN x)) ∧ w = w' := by
  have c1 := fHas_any x hx 63 (by omega)
  rw [top_bit hx] at c1
  rcases kind_cases x with ⟨h0, h1, _⟩ | ⟨h0, h1, _⟩ | ⟨h0, h2, h1, _⟩
  · have H := Lib.hid h1; clear h1
    subst h0
    go_enter Try.func21, Try.ntmps21
    go_wp2
    go_ret
    exact ⟨by rw [H.out]; rfl, rfl⟩
  · have H := Lib.hid h1; clear h1
    rw [decide_eq_true h0] at c1
    have C1 := Lib.hid c1; clear c1
    go_enter Try.func21, Try.ntmps21
    go_wp2_with (go_at_call 31; refine (C1.out _).mono ?_; rintro e w' ⟨rfl, rfl⟩)
    go_ret
    exact ⟨by rw [H.out]; rfl, rfl⟩
  · have H := Lib.hid h1; clear h1
    rw [decide_eq_false (by omega)] at c1
    have C1 := Lib.hid c1; clear c1
    go_enter Try.func21, Try.ntmps21
    go_wp2_with (go_at_call 31; refine (C1.out _).mono ?_; rintro e w' ⟨rfl, rfl⟩)
    go_ret
    exact ⟨by rw [H.out]; rfl, rfl⟩
theorem r3Kind_any (x : Nat) (hx : x < 18446744073709551616) (w : World) :
    Calls Try.prog 22 #[.int .u64 x] w fun e w' => e = .returned (.int .i64 (kindN x)) ∧ w = w' := by
  rcases kind_cases x with ⟨h0, h1, _⟩ | ⟨h0, h1, _⟩ | ⟨h0, h2, h1, _⟩
  · have H := Lib.hid h1; clear h1
    subst h0
    go_enter Try.func22, Try.ntmps22
    go_wp2
    go_ret
    exact ⟨by rw [H.out]; rfl, rfl⟩
  · have H := Lib.hid h1; clear h1
    have e1 : ((x : Int) == 0) = false := by simp; omega
    have e2 : Hid (9223372036854775808 ≤ (x : Int)) := Lib.hid (by omega)
    clear h0 hx
    generalize kindN x = kn at *
    generalize (x : Int) = z at *
    go_enter Try.func22, Try.ntmps22
    go_wp2_with fail
    all_goals first | (go_ret; exact ⟨by rw [H.out]; rfl, rfl⟩) | (exfalso; have := e2.out; omega)
  · have H := Lib.hid h1; clear h1
    have e1 : ((x : Int) == 0) = false := by simp; omega
    have e2 : Hid ((x : Int) < 9223372036854775808) := Lib.hid (by omega)
    clear h0 hx h2
    generalize kindN x = kn at *
    generalize (x : Int) = z at *
    go_enter Try.func22, Try.ntmps22
    go_wp2_with fail
    all_goals first | (go_ret; exact ⟨by rw [H.out]; rfl, rfl⟩) | (exfalso; have := e2.out; omega)
theorem what_no {x : Nat} (h : fills x = false) : whatV x = .agg #[.int .i64 0, .int .i64 0, .int .u64 0] := by
  unfold whatV wS wG wL; simp [h]
theorem what_yes {x : Nat} (h : fills x = true) : whatV x = .agg #[.int .i64 (x % 256 : Nat), .int .i64 (x / 256 % 16777216 : Nat), .int .u64 (x / 4294967296 % 1073741824 : Nat)] := by
  unfold whatV wS wG wL; simp [h]
theorem hWhat_any (x : Nat) (hx : x < 18446744073709551616) (w : World) :
    Calls Try.prog 16 #[.int .u64 x] w fun e w' => e = .returned (whatV x) ∧ Below w.heap.size w w' := by
  have h1 : cutN x 0 8 = x % 256 := by rw [cutN_div hx (by omega) (by omega) (by omega)]; show x / 1 % 256 = _; omega
  have h2 : cutN x 8 24 = x / 256 % 16777216 := by rw [cutN_div hx (by omega) (by omega) (by omega)]; rfl
  have h3 : cutN x 32 30 = x / 4294967296 % 1073741824 := by rw [cutN_div hx (by omega) (by omega) (by omega)]; rfl
  have c1 := Lib.hid (hPart_any x hx 0 8 (by omega) (by omega) _ h1 (by omega))
  have c2 := Lib.hid (hPart_any x hx 8 24 (by omega) (by omega) _ h2 (by omega))
  have c3 := fCut_any x hx 32 30 (by omega) (by omega)
  rw [h3] at c3
  have C3 := Lib.hid c3; clear c3 h1 h2 h3
  have c4 := hKind_any x hx
  have key : kindN x = 2 ∧ fills x = true ∨ (kindN x = 0 ∨ kindN x = 1) ∧ fills x = false := by
    rcases kind_cases x with h | h | h
    · exact .inr ⟨.inl h.2.1, h.2.2⟩
    · exact .inr ⟨.inr h.2.1, h.2.2⟩
    · exact .inl ⟨h.2.2.1, h.2.2.2⟩
  rcases key with ⟨hk, hf⟩ | ⟨hk, hf⟩
  · have H := Lib.hid (what_yes hf); clear hf
    rw [hk] at c4
    have C4 := Lib.hid c4; clear c4 hk
    generalize whatV x = v at *
    generalize x % 256 = k1 at *
    generalize x / 256 % 16777216 = k2 at *
    generalize x / 4294967296 % 1073741824 = k3 at *
    go_enter Try.func16, Try.ntmps16
    go_wp2_with (first | (go_at_call 21; refine (C4.out _).mono ?_; rintro e w' ⟨rfl, rfl⟩) | fail)
    refine (c1.out _).mono ?_; rintro e w' ⟨rfl, rfl⟩
    go_wp2_with fail
    refine (c2.out _).mono ?_; rintro e w' ⟨rfl, rfl⟩
    go_wp2_with fail
    refine (C3.out _).mono ?_; rintro e w' ⟨rfl, rfl⟩
    go_wp2_with fail
    exact bodyPost_ret (v := .agg #[.int .i64 k1, .int .i64 k2, .int .u64 k3]) (by simp [results, Try.results16, go_sem]) rfl ⟨by rw [H.out], (Below.refl _ _).alloc (Nat.le_refl _) _⟩
  · have H := Lib.hid (what_no hf); clear hf
    generalize whatV x = v at *
    rcases hk with hk | hk
    all_goals
      rw [hk] at c4
      have C4 := Lib.hid c4; clear c4 hk
      go_enter Try.func16, Try.ntmps16
      go_wp2_with (go_at_call 21; refine (C4.out _).mono ?_; rintro e w' ⟨rfl, rfl⟩)
      exact bodyPost_ret (v := .agg #[.int .i64 0, .int .i64 0, .int .u64 0]) (by simp [results, Try.results16, go_sem]) rfl ⟨by rw [H.out], (Below.refl _ _).alloc (Nat.le_refl _) _⟩
theorem r3What_any (x : Nat) (hx : x < 18446744073709551616) (w : World) :
    Calls Try.prog 23 #[.int .u64 x] w fun e w' => e = .returned (whatV x) ∧ Below w.heap.size w w' := by
  have c4 := r3Kind_any x hx
  have key : kindN x = 2 ∧ fills x = true ∨ (kindN x = 0 ∨ kindN x = 1) ∧ fills x = false := by
    rcases kind_cases x with h | h | h
    · exact .inr ⟨.inl h.2.1, h.2.2⟩
    · exact .inr ⟨.inr h.2.1, h.2.2⟩
    · exact .inl ⟨h.2.2.1, h.2.2.2⟩
  rcases key with ⟨hk, hf⟩ | ⟨hk, hf⟩
  · have H := Lib.hid (what_yes hf); clear hf
    rw [hk] at c4
    have C4 := Lib.hid c4; clear c4 hk
    generalize whatV x = v at *
    go_enter Try.func23, Try.ntmps23
    go_wp2_with (go_at_call 22; refine (C4.out _).mono ?_; rintro e w' ⟨rfl, rfl⟩)
    exact bodyPost_ret (v := .agg #[.int .i64 (x % 256 : Nat), .int .i64 (x / 256 % 16777216 : Nat), .int .u64 (x / 4294967296 % 1073741824 : Nat)]) (by simp [results, Try.results23, go_sem]) rfl ⟨by rw [H.out], (Below.refl _ _).alloc (Nat.le_refl _) _⟩
  · have H := Lib.hid (what_no hf); clear hf
    generalize whatV x = v at *
    rcases hk with hk | hk
    all_goals
      rw [hk] at c4
      have C4 := Lib.hid c4; clear c4 hk
      go_enter Try.func23, Try.ntmps23
      go_wp2_with (go_at_call 22; refine (C4.out _).mono ?_; rintro e w' ⟨rfl, rfl⟩)
      exact bodyPost_ret (v := .agg #[.int .i64 0, .int .i64 0, .int .u64 0]) (by simp [results, Try.results23, go_sem]) rfl ⟨by rw [H.out], (Below.refl _ _).alloc (Nat.le_refl _) _⟩
theorem r3Parts_any (x : Nat) (hx : x < 18446744073709551616) (w : World) :
    Calls Try.prog 8 #[.int .u64 x] w fun e w' => e = .returned (.tuple #[.agg #[.int .i64 (x / 1152921504606846976 : Nat), .int .i64 (x % 256 : Nat), .int .i64 (x / 256 % 4294967296 : Nat)], .bool (rightB x)]) ∧ Below w.heap.size w w' := by
  have h0 : rightB x = (decide (0 < x % 256) && decide (x / 1099511627776 % 1048576 = 0)) := rfl
  have b2 : x / 1099511627776 % 1048576 < 1048576 := by omega
  cases hc : decide (0 < x % 256)
  all_goals
    rw [hc] at h0
    have H := Lib.hid h0; clear h0
    simp only [decide_eq_true_eq, decide_eq_false_iff_not] at hc
    generalize rightB x = rb at *
    go_enter Try.func8, Try.ntmps8
    go_wp2
    all_goals exact bodyPost_ret (v := .tuple #[.agg #[.int .i64 (x / 1152921504606846976 : Nat), .int .i64 (x % 256 : Nat), .int .i64 (x / 256 % 4294967296 : Nat)], .bool rb]) (by simp [results, Try.results8, go_sem, H.out]; try (rw [Bool.eq_iff_iff]; simp; omega)) rfl ⟨rfl, ((Below.refl _ _).alloc (Nat.le_refl _) _).alloc (by simp) _⟩
theorem hCell_any (s g : Int) (l : Nat) (hs : -9223372036854775808 ≤ s ∧ s ≤ 9223372036854775807) (hg : -9223372036854775808 ≤ g ∧ g ≤ 9223372036854775807) (hl : l < 18446744073709551616) (w : World) :
    Calls Try.prog 17 #[.agg #[.int .i64 s, .int .i64 g, .int .u64 l]] w fun e w' => e = .returned (.int .u64 (mkC s g l)) ∧ Below w.heap.size w w' := by
  have h1 : setN 0 0 8 (s % 18446744073709551616).toNat = (s % 256).toNat := by
    rw [setN_top (by omega) (by omega) (by omega) (pw_pos _)]; show 0 + 1 * (_ % 256) = _; omega
  have h2 : setN (s % 256).toNat 8 24 (g % 18446744073709551616).toNat = (s % 256).toNat + 256 * (g % 16777216).toNat := by
    rw [setN_top (by omega) (by omega) (by omega) (show _ < 256 by omega)]; show _ + 256 * (_ % 16777216) = _; omega
  have h3 : setN ((s % 256).toNat + 256 * (g % 16777216).toNat) 32 30 l = (s % 256).toNat + 256 * (g % 16777216).toNat + 4294967296 * (l % 1073741824) := by
    rw [setN_top (by omega) (by omega) (by omega) (show _ < 4294967296 by omega)]; rfl
  have h4 : turnN ((s % 256).toNat + 256 * (g % 16777216).toNat + 4294967296 * (l % 1073741824)) 62 true = mkC s g l := by
    rw [show (62 : Int) = ((62 : Nat) : Int) by rfl, top_turn (b := 62) (by omega) (show _ < 4611686018427387904 by omega), show pw 62 = 4611686018427387904 by rfl]; unfold mkC; rfl
  have b1 : (s % 256).toNat < 256 := by omega
  have c1 := Lib.hid (hWith_any 0 (by omega) 0 8 s (by omega) (by omega) hs _ h1)
  have c2 := Lib.hid (hWith_any _ (by omega) 8 24 g (by omega) (by omega) hg _ h2)
  have c3 := fSet_any ((s % 256).toNat + 256 * (g % 16777216).toNat) (by omega) 32 30 (by omega) (by omega) l hl
  have c4 := fTurn_any ((s % 256).toNat + 256 * (g % 16777216).toNat + 4294967296 * (l % 1073741824)) (by omega) 62 (by omega) true
  rw [h3] at c3; rw [h4] at c4
  have C3 := Lib.hid c3; have C4 := Lib.hid c4; clear c3 c4
  clear h1 h2 h3 h4
  generalize (s % 256).toNat + 256 * (g % 16777216).toNat + 4294967296 * (l % 1073741824) = k3 at *
  generalize (s % 256).toNat + 256 * (g % 16777216).toNat = k2 at *
  generalize (s % 256).toNat = k1 at *
  generalize mkC s g l = k4 at *
  go_enter Try.func17, Try.ntmps17
  go_wp2_with fail
  generalize hW : World.alloc _ _ = W
  have hT : Three W w.heap.size (.int .i64 s) (.int .i64 g) (.int .u64 l) := by rw [← hW]; exact Three.new ..
  have hB : Below w.heap.size w W := by rw [← hW]; exact (Below.refl _ _).alloc (Nat.le_refl _) _
  clear hW
  obtain ⟨u1, u2, u3⟩ := hT
  have c1' : ∀ w, Calls Try.prog 27 #[.int .u64 0, .int .i64 0, .int .i64 8, .int .i64 s] w fun e w' => e = .returned (.int .u64 k1) ∧ w = w' := c1.out
  have C1 := Lib.hid c1'; clear c1 c1'
  go_quiet ((go_at_call 27; first | (with_reducible exact Calls.quiet_of_same (quiet_eq (C1.out _))) | (with_reducible exact Calls.quiet_of_same (quiet_eq (c2.out _)))))
  go_wp2_with fail
  refine (C3.out _).mono ?_; rintro e w' ⟨rfl, rfl⟩
  go_wp2_with fail
  refine (C4.out _).mono ?_; rintro e w' ⟨rfl, rfl⟩
  go_wp2_with fail
  go_ret
  exact ⟨rfl, below_drewN hB _⟩
theorem hOld_any (l e : Nat) (hl : l < 18446744073709551616) (he : e < 18446744073709551616) (w : World) :
    Calls Try.prog 24 #[.int .u64 l, .int .u64 e] w fun r w' => r = .returned (.bool (oldB l e)) ∧ w = w' := by
  have H : Hid (oldB l e = decide (l + 2 ≤ e)) := Lib.hid rfl
  generalize oldB l e = b at *
  by_cases h : 2 ≤ e
  all_goals
    go_enter Try.func24, Try.ntmps24
    go_wp2
    go_ret
    exact ⟨by rw [H.out]; apply retB; rw [Bool.eq_iff_iff]; simp; omega, rfl⟩
theorem r3Old_any (l e : Nat) (hl : l < 18446744073709551616) (he : e < 18446744073709551616) (w : World) :
    Calls Try.prog 25 #[.int .u64 l, .int .u64 e] w fun r w' => r = .returned (.bool (oldB l e)) ∧ w = w' := by
  have H : Hid (oldB l e = decide (l + 2 ≤ e)) := Lib.hid rfl
  generalize oldB l e = b at *
  rcases Nat.lt_or_ge l 18446744073709551614 with h | h
  · have e1 : decide ((l : Int) < 18446744073709551614) = true := by simp; omega
    have h2 : l + 2 < 18446744073709551616 := by omega
    have Hh := Lib.hid h; clear h
    go_enter Try.func25, Try.ntmps25
    go_wp2
    go_ret
    exact ⟨by rw [H.out]; apply retB; rw [Bool.eq_iff_iff]; have := Hh.out; simp; omega, rfl⟩
  · have e1 : decide ((l : Int) < 18446744073709551614) = false := by simp; omega
    have Hh := Lib.hid h; clear h
    go_enter Try.func25, Try.ntmps25
    go_wp2
    go_ret
    exact ⟨by rw [H.out]; apply retB; rw [Bool.eq_iff_iff]; have := Hh.out; simp; omega, rfl⟩
theorem r3Make_any (l s g : Int) (hl : -9223372036854775808 ≤ l ∧ l ≤ 9223372036854775807) (hs : -9223372036854775808 ≤ s ∧ s ≤ 9223372036854775807) (hg : -9223372036854775808 ≤ g ∧ g ≤ 9223372036854775807) (w : World) :
    Calls Try.prog 10 #[.agg #[.int .i64 l, .int .i64 s, .int .i64 g]] w fun e w' => e = .returned (.int .u64 (mkH l s g)) ∧ Below w.heap.size w w' := by
  obtain ⟨ml, l1, l2, l3⟩ := wrap_nat l
  obtain ⟨ms, s1, s2, s3⟩ := wrap_nat s
  obtain ⟨mg, g1, g2, g3⟩ := wrap_nat g
  have H : Hid (((ms % 256 : Nat) : Int) + 256 * ((mg % 4294967296 : Nat) : Int) + 1152921504606846976 * ((ml % 16 : Nat) : Int) = (mkH l s g : Nat)) := Lib.hid (by unfold mkH; omega)
  clear l2 s2 g2
  have L1 := Lib.hid l1; have S1 := Lib.hid s1; have G1 := Lib.hid g1; clear l1 s1 g1
  generalize mkH l s g = k at *
  go_enter Try.func10, Try.ntmps10
  go_wp2
  go_ret
  refine ⟨?_, (Below.refl _ _).alloc (Nat.le_refl _) _⟩
  rw [L1.out, S1.out, G1.out, ← H.out, Int.tmod_eq_emod_of_nonneg (by omega), Int.tmod_eq_emod_of_nonneg (by omega), Int.tmod_eq_emod_of_nonneg (by omega)]
  simp only [IntKind.wrap_u64]
  apply retI
  omega
end Go.Proofs.Ytnbkkihpnfpgcaa
