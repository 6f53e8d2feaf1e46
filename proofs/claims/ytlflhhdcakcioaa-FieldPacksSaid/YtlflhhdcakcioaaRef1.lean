/- What the functions of package burnbagref01 answer, as numbers given bit by bit. -/
import Derived.Test.YtlflhhdcakcioaaRows
import Derived.Test.YtlflhhdcakcioaaBits
import Derived.WalkKit
import Derived.ProofKit
import Derived.OpenShut
import Derived.Outline
import Derived.Lib.Hide
namespace Go.Proofs.Ytlflhhdcakcioaa
open Go.ChangeShapes Go.WideShapes Go.ChangeAt Go.RowKit

theorem power_any (n : Int) (h0 : 0 ≤ n) (h : n ≤ 63) (w : World) :
    Calls Try.prog 31 #[.int .i64 n] w fun e w' => e = .returned (.int .u64 (pw n.toNat)) ∧ w = w' := by
  obtain ⟨m, rfl⟩ := Int.eq_ofNat_of_zero_le h0
  rw [Int.toNat_natCast]
  go_enter Try.func31, Try.ntmps31
  go_wp2
  go_loop [3, 4] (fun p i => ∃ k : Nat, k ≤ m ∧ i = .int .i64 k ∧ p = .int .u64 (pw k)) (fun _ i => m - (intOf i).toNat)
  case atStart => exact ⟨0, Nat.zero_le _, rfl, rfl⟩
  case round =>
    obtain ⟨k, hk, rfl, rfl⟩ := hrel
    have hp := pw_63 (k := k) (by omega)
    by_cases hlt : k < m
    · have hq := pw_63 (k := k + 1) (by omega)
      rw [pw_succ] at hq
      go_wp2
      go_round
      case rel => exact ⟨k + 1, by omega, by go_num, by rw [pw_succ]; go_num⟩
      case measure => simp [intOf]; omega
    · go_wp2
      go_ret
      obtain rfl : k = m := by omega
      exact ⟨rfl, rfl⟩

theorem bit_any (x : Nat) (hx : x < 18446744073709551616) (i : Int) (hi : -9223372036854775808 ≤ i ∧ i ≤ 9223372036854775807) (w : World) :
    Calls Try.prog 15 #[.int .u64 x, .int .i64 i] w fun e w' => e = .returned (.int .u64 ((bitAt x i).toNat : Nat)) ∧ w = w' := by
  by_cases h : i < 0 ∨ 63 < i
  · rw [bitAt_out x i (by omega)]
    rcases h with h | h
    all_goals
      go_enter Try.func15, Try.ntmps15
      go_wp2
      go_ret
      exact ⟨rfl, rfl⟩
  · have h0 : 0 ≤ i := by omega
    have h1 : i ≤ 63 := by omega
    clear h
    have hp := pw_pos i.toNat
    have hfin : (((bitAt x i).toNat : Nat) : Int) = (x : Int) / (pw i.toNat : Int) % 2 := by
      rw [bitAt_in x i h0 (by omega), Nat.testBit_eq_decide_div_mod_eq]
      unfold pw
      rcases Nat.mod_two_eq_zero_or_one (x / 2 ^ i.toNat) with h | h
      · have : ((x / 2 ^ i.toNat % 2 : Nat) : Int) = 0 := by rw [h]; rfl
        rw [h]; simp at this ⊢; omega
      · have : ((x / 2 ^ i.toNat % 2 : Nat) : Int) = 1 := by rw [h]; rfl
        rw [h]; simp at this ⊢; omega
    have hq0 : 0 ≤ (x : Int) / (pw i.toNat : Int) := Int.ediv_nonneg (by omega) (by omega)
    have hq1 : (x : Int) / (pw i.toNat : Int) ≤ 18446744073709551615 := by
      have := Int.ediv_le_self (b := (pw i.toNat : Int)) (a := (x : Int)) (by omega)
      omega
    have H := Lib.hid hfin; clear hfin
    go_enter Try.func15, Try.ntmps15
    go_wp2_with (go_at_call 31; refine (power_any _ h0 h1 _).mono ?_; rintro e w' ⟨rfl, rfl⟩)
    go_ret
    exact ⟨by rw [H.out]; rfl, rfl⟩

theorem within_any (i a s : Int) (hi : 0 ≤ i ∧ i ≤ 1000000) (ha : -9000000000000000000 ≤ a ∧ a ≤ 9223372036854775807) (hs : -9223372036854775808 ≤ s ∧ s ≤ 9223372036854775807) (w : World) :
    Calls Try.prog 30 #[.int .i64 i, .int .i64 a, .int .i64 s] w fun e w' => e = .returned (.bool (inPart a s i.toNat)) ∧ w = w' := by
  obtain ⟨n, rfl⟩ := Int.eq_ofNat_of_zero_le hi.1
  rw [Int.toNat_natCast]
  by_cases h1 : 1 ≤ s ∧ a ≤ n
  · have hfin : inPart a s n = decide ((n : Int) - a < s) := by unfold inPart; simp [h1.2]; omega
    obtain ⟨h2, h3⟩ := h1
    have H := Lib.hid hfin; clear hfin
    go_enter Try.func30, Try.ntmps30
    go_wp2
    all_goals first | (exfalso; omega) | (go_ret; exact ⟨by rw [H.out]; rfl, rfl⟩)
  · have hfin : inPart a s n = false := by unfold inPart; simp; omega
    have H := Lib.hid hfin; clear hfin
    by_cases h2 : 1 ≤ s
    all_goals
      go_enter Try.func30, Try.ntmps30
      go_wp2
      all_goals first | (exfalso; omega) | (go_ret; exact ⟨by rw [H.out]; rfl, rfl⟩)

theorem refMask_any (a s : Int) (ha : -9000000000000000000 ≤ a ∧ a ≤ 9223372036854775807) (hs : -9223372036854775808 ≤ s ∧ s ≤ 9223372036854775807) (w : World) :
    Calls Try.prog 12 #[.int .i64 a, .int .i64 s] w fun e w' => e = .returned (.int .u64 (maskN a s)) ∧ w = w' := by
  go_enter Try.func12, Try.ntmps12
  go_wp2
  go_loop [5, 6] (fun m i => ∃ k : Nat, k ≤ 64 ∧ i = .int .i64 k ∧ m = .int .u64 (bitsOf (inPart a s) k)) (fun _ i => 64 - (intOf i).toNat)
  case atStart => exact ⟨0, Nat.zero_le _, rfl, rfl⟩
  case round =>
    obtain ⟨k, hk, rfl, rfl⟩ := hrel
    by_cases hlt : k < 64
    · have hb := bits_step (inPart a s) k hlt
      cases hin : inPart a s k
      · have hs2 := bits_succ_f _ _ hin
        have H := Lib.hid hs2; have H2 := Lib.hid hin; clear hs2 hin
        go_wp2_with (first | (go_at_call 30; refine (within_any _ a s (by omega) ha hs _).mono ?_; rintro e w' ⟨rfl, rfl⟩; simp only [Int.toNat_natCast, H2.out]) | (go_at_call 31; refine (power_any _ (by omega) (by omega) _).mono ?_; rintro e w' ⟨rfl, rfl⟩))
        go_round
        case rel => exact ⟨k + 1, by omega, by go_num, by rw [H.out]⟩
        case measure => simp [intOf]; omega
      · have hs2 := bits_succ_t _ _ hin
        have H := Lib.hid hs2; have H2 := Lib.hid hin; clear hs2 hin
        go_wp2_with (first | (go_at_call 30; refine (within_any _ a s (by omega) ha hs _).mono ?_; rintro e w' ⟨rfl, rfl⟩; simp only [Int.toNat_natCast, H2.out]) | (go_at_call 31; refine (power_any _ (by omega) (by omega) _).mono ?_; rintro e w' ⟨rfl, rfl⟩))
        go_round
        case rel => exact ⟨k + 1, by omega, by go_num, by rw [H.out]; go_num⟩
        case measure => simp [intOf]; omega
    · obtain rfl : k = 64 := by omega
      go_wp2
      go_ret
      exact ⟨rfl, rfl⟩

theorem refCut_any (x : Nat) (hx : x < 18446744073709551616) (a s : Int) (ha : -9000000000000000000 ≤ a ∧ a ≤ 9000000000000000000) (hs : -9223372036854775808 ≤ s ∧ s ≤ 9223372036854775807) (w : World) :
    Calls Try.prog 13 #[.int .u64 x, .int .i64 a, .int .i64 s] w fun e w' => e = .returned (.int .u64 (cutN x a s)) ∧ w = w' := by
  unfold cutN
  generalize hf : (fun k : Nat => decide ((k : Int) < s) && bitAt x (a + k)) = f
  have hstop : ∀ k : Nat, k ≤ 64 → s ≤ k → bitsOf f k = bitsOf f 64 := fun k hk hs => (bits_stop f k 64 hk (fun i h1 _ => by rw [← hf]; simp; omega)).symm
  have hstep : ∀ k : Nat, (k : Int) < s → f k = bitAt x (a + k) := fun k hk => by rw [← hf]; simp [hk]
  have hout : (63 < a ∨ a < -64) → ∀ k, k ≤ 64 → bitsOf f k = 0 := fun h k hk => bits_none f k (fun i hi => by rw [← hf]; simp; intro _; exact bitAt_out _ _ (by omega))
  clear hf
  have Hs := Lib.hid hstop; have Ht := Lib.hid hstep; have Ho := Lib.hid hout; clear hstop hstep hout
  go_enter Try.func13, Try.ntmps13
  go_wp2
  go_loop [7, 8] (fun m i => ∃ k : Nat, k ≤ 64 ∧ i = .int .i64 k ∧ m = .int .u64 (bitsOf f k)) (fun _ i => 64 - (intOf i).toNat)
  case atStart => exact ⟨0, Nat.zero_le _, rfl, rfl⟩
  case round =>
    obtain ⟨k, hk, rfl, rfl⟩ := hrel
    by_cases hk1 : k < 64
    · by_cases hk2 : (k : Int) < s
      · by_cases ho : 63 < a ∨ a < -64
        · have H0 := Lib.hid ((Ho.out ho k hk).trans (Ho.out ho 64 (Nat.le_refl _)).symm)
          rcases ho with ho | ho
          all_goals
            go_wp2
            all_goals first | (exfalso; omega) | (go_ret; exact ⟨by rw [← H0.out]; rfl, rfl⟩)
        · have hb := bits_step f k hk1
          have ho1 : a ≤ 63 := by omega
          have ho2 : -64 ≤ a := by omega
          clear ho
          have Ht1 := Lib.hid (Ht.out k hk2)
          cases hin : f k
          · have hs2 := bits_succ_f _ _ hin
            have H := Lib.hid hs2; have H2 := Lib.hid (Ht1.out.symm.trans hin); clear hs2 hin
            go_wp2_with (first | (go_at_call 15; refine (bit_any x hx _ (by omega) _).mono ?_; rintro e w' ⟨rfl, rfl⟩; simp only [H2.out, Bool.toNat_false]) | (go_at_call 31; refine (power_any _ (by omega) (by omega) _).mono ?_; rintro e w' ⟨rfl, rfl⟩))
            all_goals first | (exfalso; omega) | skip
            go_round
            case rel => exact ⟨k + 1, by omega, by go_num, by rw [H.out]⟩
            case measure => simp [intOf]; omega
          · have hs2 := bits_succ_t _ _ hin
            have H := Lib.hid hs2; have H2 := Lib.hid (Ht1.out.symm.trans hin); clear hs2 hin
            go_wp2_with (first | (go_at_call 15; refine (bit_any x hx _ (by omega) _).mono ?_; rintro e w' ⟨rfl, rfl⟩; simp only [H2.out, Bool.toNat_true]) | (go_at_call 31; refine (power_any _ (by omega) (by omega) _).mono ?_; rintro e w' ⟨rfl, rfl⟩))
            all_goals first | (exfalso; omega) | skip
            go_round
            case rel => exact ⟨k + 1, by omega, by go_num, by rw [H.out]; go_num⟩
            case measure => simp [intOf]; omega
      · have H0 := Lib.hid (Hs.out k hk (by omega))
        have hk3 : s ≤ k := by omega
        go_wp2
        all_goals first | (exfalso; omega) | (go_ret; exact ⟨by rw [← H0.out]; rfl, rfl⟩)
    · obtain rfl : k = 64 := by omega
      go_wp2
      go_ret
      exact ⟨rfl, rfl⟩

theorem refSet_any (x : Nat) (hx : x < 18446744073709551616) (a s : Int) (ha : -9000000000000000000 ≤ a ∧ a ≤ 9223372036854775807) (hs : -9223372036854775808 ≤ s ∧ s ≤ 9223372036854775807) (n : Nat) (hn : n < 18446744073709551616) (w : World) :
    Calls Try.prog 18 #[.int .u64 x, .int .i64 a, .int .i64 s, .int .u64 n] w fun e w' => e = .returned (.int .u64 (setN x a s n)) ∧ w = w' := by
  unfold setN
  generalize hf : (fun i : Nat => if inPart a s i then bitAt n (i - a) else x.testBit i) = f
  have hin : ∀ k : Nat, k < 64 → inPart a s k = true → f k = bitAt n (k - a) := fun k _ h => by rw [← hf]; simp [h]
  have hfar : ∀ k : Nat, k < 64 → inPart a s k = true → a ≤ -64 → f k = false := fun k _ h ha => by rw [← hf]; simp only [h, if_true]; exact bitAt_out _ _ (by omega)
  have hno : ∀ k : Nat, k < 64 → inPart a s k = false → f k = bitAt x k := fun k h0 h => by rw [← hf]; simp only [h]; rw [bitAt_nat x k h0]; rfl
  have hpos : ∀ k : Nat, inPart a s k = true → a ≤ k := fun k h => by unfold inPart at h; simp at h; omega
  clear hf
  have Hi := Lib.hid hin; have Hf := Lib.hid hfar; have Hn := Lib.hid hno; have Hp := Lib.hid hpos; clear hin hfar hno hpos
  go_enter Try.func18, Try.ntmps18
  go_wp2
  go_loop [9, 10, 11] (fun m i b => ∃ k : Nat, k ≤ 64 ∧ i = .int .i64 k ∧ m = .int .u64 (bitsOf f k)) (fun _ i _ => 64 - (intOf i).toNat)
  case atStart => exact ⟨0, Nat.zero_le _, rfl, rfl⟩
  case round =>
    obtain ⟨k, hk, rfl, rfl⟩ := hrel
    by_cases hk1 : k < 64
    · have hb := bits_step f k hk1
      cases hfk : f k
      all_goals
        first | have HE := Lib.hid (bits_succ_f _ _ hfk) | have HE := Lib.hid (bits_succ_t _ _ hfk)
        cases hp : inPart a s k
      all_goals
        have H2 := Lib.hid hp; clear hp
      · have HB := Lib.hid ((Hn.out k hk1 H2.out).symm.trans hfk); clear hfk
        go_wp2_with (first | (go_at_call 15; refine (bit_any x hx _ (by omega) _).mono ?_; rintro e w' ⟨rfl, rfl⟩; simp only [HB.out, Bool.toNat_false]) | (go_at_call 30; refine (within_any _ a s (by omega) ha hs _).mono ?_; rintro e w' ⟨rfl, rfl⟩; simp only [Int.toNat_natCast, H2.out]) | (go_at_call 31; refine (power_any _ (by omega) (by omega) _).mono ?_; rintro e w' ⟨rfl, rfl⟩))
        go_round
        case rel => exact ⟨k + 1, by omega, by go_num, by rw [HE.out]⟩
        case measure => simp [intOf]; omega
      · have HB := Lib.hid ((Hi.out k hk1 H2.out).symm.trans hfk); clear hfk
        have hpos := Hp.out k H2.out
        by_cases ha2 : -64 < a
        all_goals
          go_wp2_with (first | (go_at_call 15; refine (bit_any _ (by assumption) _ (by omega) _).mono ?_; rintro e w' ⟨rfl, rfl⟩; try simp only [HB.out, Bool.toNat_false]) | (go_at_call 30; refine (within_any _ a s (by omega) ha hs _).mono ?_; rintro e w' ⟨rfl, rfl⟩; simp only [Int.toNat_natCast, H2.out]) | (go_at_call 31; refine (power_any _ (by omega) (by omega) _).mono ?_; rintro e w' ⟨rfl, rfl⟩))
          go_round
          case rel => exact ⟨k + 1, by omega, by go_num, by rw [HE.out]⟩
          case measure => simp [intOf]; omega
      · have HB := Lib.hid ((Hn.out k hk1 H2.out).symm.trans hfk); clear hfk
        go_wp2_with (first | (go_at_call 15; refine (bit_any x hx _ (by omega) _).mono ?_; rintro e w' ⟨rfl, rfl⟩; simp only [HB.out, Bool.toNat_true]) | (go_at_call 30; refine (within_any _ a s (by omega) ha hs _).mono ?_; rintro e w' ⟨rfl, rfl⟩; simp only [Int.toNat_natCast, H2.out]) | (go_at_call 31; refine (power_any _ (by omega) (by omega) _).mono ?_; rintro e w' ⟨rfl, rfl⟩))
        go_round
        case rel => exact ⟨k + 1, by omega, by go_num, by rw [HE.out]; go_num⟩
        case measure => simp [intOf]; omega
      · have HB := Lib.hid ((Hi.out k hk1 H2.out).symm.trans hfk)
        have hpos := Hp.out k H2.out
        have ha2 : -64 < a := by
          rcases Int.lt_or_le (-64) a with h | h
          · exact h
          · rw [Hf.out k hk1 H2.out h] at hfk; cases hfk
        clear hfk
        go_wp2_with (first | (go_at_call 15; refine (bit_any _ (by assumption) _ (by omega) _).mono ?_; rintro e w' ⟨rfl, rfl⟩; try simp only [HB.out, Bool.toNat_true]) | (go_at_call 30; refine (within_any _ a s (by omega) ha hs _).mono ?_; rintro e w' ⟨rfl, rfl⟩; simp only [Int.toNat_natCast, H2.out]) | (go_at_call 31; refine (power_any _ (by omega) (by omega) _).mono ?_; rintro e w' ⟨rfl, rfl⟩))
        go_round
        case rel => exact ⟨k + 1, by omega, by go_num, by rw [HE.out]; go_num⟩
        case measure => simp [intOf]; omega
    · obtain rfl : k = 64 := by omega
      go_wp2
      go_ret
      exact ⟨rfl, rfl⟩

theorem refBits_any (n : Int) (hn : -9223372036854775808 ≤ n ∧ n ≤ 9223372036854775807) (w : World) :
    Calls Try.prog 25 #[.int .i64 n] w fun e w' => e = .returned (.int .u64 (IntKind.u64.wrap n)) ∧ w = w' := by
  have hw : IntKind.u64.wrap n = if n < 0 then n + 18446744073709551616 else n := by rw [IntKind.wrap_u64]; split <;> omega
  have H := Lib.hid hw; clear hw
  by_cases h : n < 0
  all_goals
    go_enter Try.func25, Try.ntmps25
    go_wp2
    go_ret
    refine ⟨?_, rfl⟩
    rw [H.out]
    simp [h]
    try omega
theorem refNumber_any (n : Int) (hn : 0 ≤ n ∧ n ≤ 18446744073709551615) (w : World) :
    Calls Try.prog 27 #[.int .u64 n] w fun e w' => e = .returned (.int .i64 (wrap64 n)) ∧ w = w' := by
  have hw : wrap64 n = if n < 9223372036854775808 then n else n - 18446744073709551616 := by unfold wrap64; split <;> omega
  have H := Lib.hid hw; clear hw
  by_cases h : n < 9223372036854775808
  all_goals
    go_enter Try.func27, Try.ntmps27
    go_wp2
    go_ret
    refine ⟨?_, rfl⟩
    rw [H.out]
    simp [h]
    try omega
end Go.Proofs.Ytlflhhdcakcioaa
