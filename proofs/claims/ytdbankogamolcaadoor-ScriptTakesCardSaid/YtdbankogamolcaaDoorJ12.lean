/- What the functions of package field answer, as numbers given bit by bit. -/
import Derived.Test.YtdbankogamolcaaDoorRows
import Derived.Test.YtdbankogamolcaaDoorJ8
import Derived.WalkKit
import Derived.ProofKit
import Derived.OpenShut
import Derived.Outline
import Derived.Lib.Hide
import Derived.Laws.Bits64b
namespace Go.Proofs.YtdbankogamolcaaDoor
set_option linter.unusedSimpArgs false
set_option linter.unusedVariables false
open Go.ChangeShapes Go.WideShapes Go.ChangeAt Go.RowKit

theorem wrap_nat (n : Int) : ∃ m : Nat, IntKind.u64.wrap n = (m : Int) ∧ m = (n % 18446744073709551616).toNat ∧ m < 18446744073709551616 := by
  rw [IntKind.wrap_u64]; exact ⟨(n % 18446744073709551616).toNat, by omega, rfl, by omega⟩

theorem ofInt64 (a : Nat) (ha : a < 18446744073709551616) : (BitVec.ofInt 64 (a : Int)).toNat = a := by
  rw [BitVec.ofInt_natCast, BitVec.toNat_ofNat]; exact Nat.mod_eq_of_lt (by omega)
theorem and_bits (a b : Nat) (ha : a < 18446744073709551616) (hb : b < 18446744073709551616) : bits .and .u64 (a : Int) (b : Int) = (bitsOf (fun i => a.testBit i && b.testBit i) 64 : Nat) := by
  rw [bits_and_u64_nat a b ha hb]
  congr 1
  refine eq_of_bits (n := 64) (Nat.and_lt_two_pow _ (by omega)) (bits64 _) (fun i hi => ?_)
  rw [bitsOf_bit, Nat.testBit_and]; simp [hi]
theorem or_bits (a b : Nat) (ha : a < 18446744073709551616) (hb : b < 18446744073709551616) : bits .or .u64 (a : Int) (b : Int) = (bitsOf (fun i => a.testBit i || b.testBit i) 64 : Nat) := by
  rw [bits_or_u64_nat a b ha hb]
  congr 1
  refine eq_of_bits (n := 64) (Nat.or_lt_two_pow (by omega) (by omega)) (bits64 _) (fun i hi => ?_)
  rw [bitsOf_bit, Nat.testBit_or]; simp [hi]
theorem andNot_bits (a b : Nat) (ha : a < 18446744073709551616) (hb : b < 18446744073709551616) : bits .andNot .u64 (a : Int) (b : Int) = (bitsOf (fun i => a.testBit i && !b.testBit i) 64 : Nat) := by
  show IntKind.u64.wrap ((BitVec.ofInt 64 (a : Int) &&& ~~~ BitVec.ofInt 64 (b : Int)).toNat : Int) = _
  have hlt : (BitVec.ofInt 64 (a : Int) &&& ~~~ BitVec.ofInt 64 (b : Int)).toNat < 18446744073709551616 := BitVec.isLt _
  rw [IntKind.wrap_u64, Int.emod_eq_of_lt (by omega) (by omega)]
  congr 1
  refine eq_of_bits (n := 64) hlt (bits64 _) (fun i hi => ?_)
  have e1 : ∀ c : Nat, c < 18446744073709551616 → (BitVec.ofInt 64 (c : Int)).getLsbD i = c.testBit i := fun c hc => by
    show (BitVec.ofInt 64 (c : Int)).toNat.testBit i = _
    rw [ofInt64 c hc]
  rw [bitsOf_bit]
  show (BitVec.ofInt 64 (a : Int) &&& ~~~ BitVec.ofInt 64 (b : Int)).getLsbD i = _
  rw [BitVec.getLsbD_and, BitVec.getLsbD_not, e1 a ha, e1 b hb]
  simp [hi]

/-- A number, moved up by some bits (down, if below 0): within a word. -/
def liftN (x : Nat) (a : Int) : Nat := bitsOf (fun i => bitAt x (i - a)) 64
theorem liftN_lt (x : Nat) (a : Int) : liftN x a < 18446744073709551616 := bits64 _
theorem shr_bits (x : Nat) (hx : x < 18446744073709551616) (m : Nat) : (x : Int) / 2 ^ min m 64 = (liftN x (-m) : Nat) := by
  have : x / 2 ^ min m 64 = liftN x (-m) := by
    have hlt : x / 2 ^ min m 64 < 18446744073709551616 := Nat.lt_of_le_of_lt (Nat.div_le_self _ _) hx
    refine eq_of_bits (n := 64) hlt (liftN_lt _ _) (fun i hi => ?_)
    unfold liftN
    rw [bitsOf_bit, Nat.testBit_div_two_pow]
    simp only [hi, decide_true, Bool.true_and]
    rcases Nat.lt_or_ge (i + m) 64 with h | h
    · rw [bitAt_in _ _ (by omega) (by omega)]
      congr 1; omega
    · rw [bitAt_out _ _ (by omega), Nat.testBit_lt_two_pow]
      exact Nat.lt_of_lt_of_le hx (show 2 ^ 64 ≤ _ from Nat.pow_le_pow_right (by omega) (by omega))
  rw [← this]; simp
theorem shl_bits (x : Nat) (hx : x < 18446744073709551616) (m : Nat) : IntKind.u64.wrap ((x : Int) * 2 ^ min m 64) = (liftN x m : Nat) := by
  rw [IntKind.wrap_u64]
  have : x * 2 ^ min m 64 % 2 ^ 64 = liftN x m := by
    refine eq_of_bits (n := 64) (Nat.mod_lt _ (by omega)) (liftN_lt _ _) (fun i hi => ?_)
    unfold liftN
    rw [bitsOf_bit, Nat.testBit_mod_two_pow, Nat.testBit_mul_two_pow]
    simp only [hi, decide_true, Bool.true_and]
    rcases Nat.lt_or_ge i m with h | h
    · rw [bitAt_out _ _ (by omega)]
      simp; omega
    · rw [bitAt_in _ _ (by omega) (by omega)]
      simp only [show min m 64 ≤ i by omega, decide_true, Bool.true_and]
      congr 1; omega
  rw [← this]
  simp

theorem lowN_lt (s : Int) : lowN s < 18446744073709551616 := bits64 _
theorem maskN_lt (a s : Int) : maskN a s < 18446744073709551616 := bits64 _
theorem low_zero (s : Int) (h : s < 1) : lowN s = 0 := bits_none _ _ (fun i _ => by simp; omega)
theorem low_all (s : Int) (h : 64 ≤ s) : lowN s = 18446744073709551615 := by
  refine eq_of_bits (n := 64) (lowN_lt s) (by omega) (fun i hi => ?_)
  unfold lowN
  rw [bitsOf_bit, show 18446744073709551615 = 2 ^ 64 - 1 by rfl, Nat.testBit_two_pow_sub_one]
  simp [hi]; omega
theorem low_some (s : Int) (h0 : 1 ≤ s) (h : s ≤ 64) : (lowN s : Int) = 18446744073709551615 / 2 ^ (64 - s).toNat := by
  obtain ⟨n, rfl⟩ := Int.eq_ofNat_of_zero_le (show 0 ≤ s by omega)
  rw [show (64 - (n : Int)).toNat = 64 - n by omega]
  have : lowN n = 18446744073709551615 / 2 ^ (64 - n) := by
    have hlt : 18446744073709551615 / 2 ^ (64 - n) < 18446744073709551616 := Nat.lt_of_le_of_lt (Nat.div_le_self _ _) (by omega)
    refine eq_of_bits (n := 64) (lowN_lt n) hlt (fun i hi => ?_)
    unfold lowN
    rw [bitsOf_bit, Nat.testBit_div_two_pow, show 18446744073709551615 = 2 ^ 64 - 1 by rfl, Nat.testBit_two_pow_sub_one]
    simp [hi]; omega
  rw [this]; simp

theorem lowest_any (s : Int) (hs : -9223372036854775808 ≤ s ∧ s ≤ 9223372036854775807) (w : World) :
    Calls Tryd.prog 75 #[.int .i64 s] w fun e w' => e = .returned (.int .u64 (lowN s)) ∧ w = w' := by
  rcases Int.lt_or_le s 1 with h | h
  · have H := Lib.hid (low_zero s h)
    go_enter Tryd.func75, Tryd.ntmps75
    go_wp2
    go_ret
    exact ⟨by rw [H.out]; rfl, rfl⟩
  · rcases Int.lt_or_le 64 s with h2 | h2
    · have H := Lib.hid (low_all s (by omega))
      go_enter Tryd.func75, Tryd.ntmps75
      go_wp2
      go_ret
      exact ⟨by rw [H.out]; rfl, rfl⟩
    · have H := Lib.hid (low_some s h h2)
      go_enter Tryd.func75, Tryd.ntmps75
      go_wp2
      go_ret
      exact ⟨by rw [H.out]; rfl, rfl⟩

/-- Is there a bit beyond a size? -/
theorem beyond (x : Nat) (hx : x < 18446744073709551616) (s : Int) (h0 : 0 ≤ s) (h : s ≤ 64) : (bits BinOp.andNot IntKind.u64 x (lowN s) != 0) = decide (pw s.toNat ≤ x) := by
  rw [andNot_bits x _ hx (lowN_lt _)]
  have hb : ∀ i, i < 64 → (lowN s).testBit i = decide ((i : Int) < s) := fun i hi => by unfold lowN; rw [bitsOf_bit]; simp [hi]
  rcases Nat.lt_or_ge x (pw s.toNat) with hc | hc
  · have : bitsOf (fun i => x.testBit i && !(lowN s).testBit i) 64 = 0 := bits_none _ _ (fun i hi => by
      rw [hb i hi]
      by_cases e : (i : Int) < s
      · simp [e]
      · have : x.testBit i = false := Nat.testBit_lt_two_pow (Nat.lt_of_lt_of_le hc (pw_le (by omega)))
        simp [this])
    rw [this, decide_eq_false (by omega)]; rfl
  · obtain ⟨i, hi1, hi2⟩ := Nat.exists_ge_and_testBit_of_ge_two_pow hc
    have hi : i < 64 := by
      rcases Nat.lt_or_ge i 64 with h | h
      · exact h
      · rw [Nat.testBit_lt_two_pow (Nat.lt_of_lt_of_le hx (show 2 ^ 64 ≤ 2 ^ i from Nat.pow_le_pow_right (by omega) h))] at hi2; cases hi2
    have hn : (bitsOf (fun i => x.testBit i && !(lowN s).testBit i) 64).testBit i = true := by
      rw [bitsOf_bit, hb i hi, hi2]; simp [hi]; omega
    have hne : bitsOf (fun i => x.testBit i && !(lowN s).testBit i) 64 ≠ 0 := by
      intro h0; rw [h0] at hn; simp at hn
    rw [decide_eq_true hc]
    simp
    omega

theorem mask_zero (a s : Int) (h : s < 1) : maskN a s = 0 := bits_none _ _ (fun i _ => by unfold inPart; simp; omega)
theorem mask_neg (a s : Int) (ha : a < 0) : maskN a s = lowN (a + s) := bitsOf_congr _ (fun i _ => by unfold inPart; simp; omega)
theorem mask_pos (a : Nat) (s : Int) : IntKind.u64.wrap ((lowN s : Int) * 2 ^ min a 64) = (maskN a s : Int) := by
  rw [shl_bits _ (lowN_lt s)]
  congr 1
  refine bitsOf_congr _ (fun i hi => ?_)
  unfold inPart lowN
  rcases Nat.lt_or_ge i a with h | h
  · rw [bitAt_out _ _ (by omega)]; simp; omega
  · rw [bitAt_in _ _ (by omega) (by omega), bitsOf_bit]
    rw [Bool.eq_iff_iff]; simp; omega

theorem fMask_any (a s : Int) (ha : -9223372036854775808 ≤ a ∧ a ≤ 9223372036854775807) (hs : -9223372036854775808 ≤ s ∧ s ≤ 9223372036854775807) (w : World) :
    Calls Tryd.prog 68 #[.int .i64 a, .int .i64 s] w fun e w' => e = .returned (.int .u64 (maskN a s)) ∧ w = w' := by
  rcases Int.lt_or_le s 1 with h | h
  · have H := Lib.hid (mask_zero a s h)
    go_enter Tryd.func68, Tryd.ntmps68
    go_wp2
    go_ret
    exact ⟨by rw [H.out]; rfl, rfl⟩
  · rcases Int.lt_or_le a 0 with h2 | h2
    · have H := Lib.hid (mask_neg a s h2)
      go_enter Tryd.func68, Tryd.ntmps68
      go_wp2_with (go_at_call 75; refine (lowest_any _ (by omega) _).mono ?_; rintro e w' ⟨rfl, rfl⟩)
      go_ret
      exact ⟨by rw [H.out]; rfl, rfl⟩
    · obtain ⟨n, rfl⟩ := Int.eq_ofNat_of_zero_le h2
      have H := Lib.hid (mask_pos n s)
      have hlow := lowN_lt s
      go_enter Tryd.func68, Tryd.ntmps68
      go_wp2_with (go_at_call 75; refine (lowest_any _ (by omega) _).mono ?_; rintro e w' ⟨rfl, rfl⟩)
      go_ret
      exact ⟨by rw [← H.out]; rfl, rfl⟩

theorem neg_wraps (a : Int) (h0 : -9223372036854775808 ≤ a) (h : a < 0) : (IntKind.u64.wrap (-IntKind.u64.wrap a)).toNat = (-a).toNat := by
  rw [IntKind.wrap_u64, IntKind.wrap_u64]; omega

theorem lift_any (x : Nat) (hx : x < 18446744073709551616) (a : Int) (ha : -9223372036854775808 ≤ a ∧ a ≤ 9223372036854775807) (w : World) :
    Calls Tryd.prog 69 #[.int .u64 x, .int .i64 a] w fun e w' => e = .returned (.int .u64 (liftN x a)) ∧ w = w' := by
  rcases Int.lt_or_le a 0 with h | h
  · have hs := shr_bits x hx (-a).toNat
    rw [← neg_wraps a ha.1 h, show -((IntKind.u64.wrap (-IntKind.u64.wrap a)).toNat : Int) = a by rw [neg_wraps a ha.1 h]; omega] at hs
    have H := Lib.hid hs; clear hs
    go_enter Tryd.func69, Tryd.ntmps69
    go_wp2
    go_ret
    exact ⟨by rw [← H.out]; rfl, rfl⟩
  · have hs := shl_bits x hx a.toNat
    rw [Int.toNat_of_nonneg h] at hs
    have H := Lib.hid hs; clear hs
    go_enter Tryd.func69, Tryd.ntmps69
    go_wp2
    go_ret
    exact ⟨by rw [← H.out]; rfl, rfl⟩
theorem lower_any (x : Nat) (hx : x < 18446744073709551616) (a : Int) (ha : -9223372036854775808 ≤ a ∧ a ≤ 9223372036854775807) (w : World) :
    Calls Tryd.prog 74 #[.int .u64 x, .int .i64 a] w fun e w' => e = .returned (.int .u64 (liftN x (-a))) ∧ w = w' := by
  rcases Int.lt_or_le a 0 with h | h
  · have hs := shl_bits x hx (-a).toNat
    rw [← neg_wraps a ha.1 h, show ((IntKind.u64.wrap (-IntKind.u64.wrap a)).toNat : Int) = -a by rw [neg_wraps a ha.1 h]; omega] at hs
    have H := Lib.hid hs; clear hs
    go_enter Tryd.func74, Tryd.ntmps74
    go_wp2
    go_ret
    exact ⟨by rw [← H.out]; rfl, rfl⟩
  · have hs := shr_bits x hx a.toNat
    rw [Int.toNat_of_nonneg h] at hs
    have H := Lib.hid hs; clear hs
    go_enter Tryd.func74, Tryd.ntmps74
    go_wp2
    go_ret
    exact ⟨by rw [← H.out]; rfl, rfl⟩

theorem cut_bits (x : Nat) (hx : x < 18446744073709551616) (a s : Int) : liftN (bitsOf (fun i => x.testBit i && (maskN a s).testBit i) 64) (-a) = cutN x a s := by
  refine bitsOf_congr _ (fun i hi => ?_)
  rw [show (i : Int) - -a = a + i by omega]
  rcases Int.lt_or_le (a + i) 0 with h | h
  · rw [bitAt_out _ _ (.inl h), bitAt_out _ _ (.inl h)]; simp
  · rcases Int.lt_or_le (a + i) 64 with h2 | h2
    · rw [bitAt_in _ _ h h2, bitAt_in _ _ h h2, bitsOf_bit]
      unfold maskN inPart
      rw [bitsOf_bit]
      have e1 : (a + (i : Int)).toNat < 64 := by omega
      have e2 : ((a + (i : Int)).toNat : Int) = a + i := by omega
      rw [e2]
      simp only [e1, decide_true, Bool.true_and]
      rw [Bool.eq_iff_iff]
      simp
      constructor
      · rintro ⟨p, q, r⟩; exact ⟨by omega, p⟩
      · rintro ⟨p, q⟩; exact ⟨q, by omega, by omega⟩
    · rw [bitAt_out _ _ (.inr h2), bitAt_out _ _ (.inr h2)]; simp

theorem fCut_any (x : Nat) (hx : x < 18446744073709551616) (a s : Int) (ha : -9223372036854775808 ≤ a ∧ a ≤ 9223372036854775807) (hs : -9223372036854775808 ≤ s ∧ s ≤ 9223372036854775807) (w : World) :
    Calls Tryd.prog 67 #[.int .u64 x, .int .i64 a, .int .i64 s] w fun e w' => e = .returned (.int .u64 (cutN x a s)) ∧ w = w' := by
  have hm := maskN_lt a s
  have H1 := Lib.hid (and_bits x (maskN a s) hx hm)
  have H2 := Lib.hid (cut_bits x hx a s)
  have hb := bits64 (fun i => x.testBit i && (maskN a s).testBit i)
  go_enter Tryd.func67, Tryd.ntmps67
  go_wp2_with (first | (go_at_call 68; refine (fMask_any _ _ (by omega) (by omega) _).mono ?_; rintro e w' ⟨rfl, rfl⟩) | (go_at_call 74; rw [H1.out]; refine (lower_any _ hb _ ha _).mono ?_; rintro e w' ⟨rfl, rfl⟩))
  go_ret
  exact ⟨by rw [← H2.out]; rfl, rfl⟩

theorem maskN_bit (a s : Int) (i : Nat) (hi : i < 64) : (maskN a s).testBit i = inPart a s i := by unfold maskN; rw [bitsOf_bit]; simp [hi]
theorem liftN_bit (x : Nat) (a : Int) (i : Nat) (hi : i < 64) : (liftN x a).testBit i = bitAt x (i - a) := by unfold liftN; rw [bitsOf_bit]; simp [hi]
theorem set_bits (x : Nat) (hx : x < 18446744073709551616) (a s : Int) (n : Nat) : bits .or .u64 (bits .andNot .u64 x (maskN a s)) (bits .and .u64 (liftN n a) (maskN a s)) = (setN x a s n : Nat) := by
  rw [andNot_bits x _ hx (maskN_lt a s), and_bits _ _ (liftN_lt n a) (maskN_lt a s), or_bits _ _ (bits64 _) (bits64 _)]
  congr 1
  refine bitsOf_congr _ (fun i hi => ?_)
  rw [bitsOf_bit, bitsOf_bit, maskN_bit a s i hi, liftN_bit n a i hi]
  simp only [hi, decide_true, Bool.true_and]
  cases inPart a s i <;> simp
theorem one_bit (b : Int) (i : Nat) (hi : i < 64) : (maskN b 1).testBit i = decide ((i : Int) = b) := by
  rw [maskN_bit b 1 i hi]; unfold inPart; rw [Bool.eq_iff_iff]; simp; omega
theorem has_bits (x : Nat) (hx : x < 18446744073709551616) (b : Int) : (bits BinOp.and IntKind.u64 x (maskN b 1) != 0) = bitAt x b := by
  rw [and_bits x _ hx (maskN_lt _ _)]
  cases h : bitAt x b
  · have : bitsOf (fun i => x.testBit i && (maskN b 1).testBit i) 64 = 0 := bits_none _ _ (fun i hi => by
      rw [one_bit b i hi]
      by_cases e : (i : Int) = b
      · subst e; rw [bitAt_nat x i hi] at h; simp [h]
      · simp [e])
    rw [this]; rfl
  · have hr : 0 ≤ b ∧ b < 64 := by unfold bitAt at h; simp at h; exact h.1
    have : (bitsOf (fun i => x.testBit i && (maskN b 1).testBit i) 64).testBit b.toNat = true := by
      rw [bitsOf_bit, one_bit b _ (by omega)]
      rw [bitAt_in x b hr.1 hr.2] at h
      simp [h]; omega
    have hne : bitsOf (fun i => x.testBit i && (maskN b 1).testBit i) 64 ≠ 0 := by
      intro h0; rw [h0] at this; simp at this
    simp
    omega
theorem turn_on (x : Nat) (hx : x < 18446744073709551616) (b : Int) : bits BinOp.or IntKind.u64 x (maskN b 1) = (turnN x b true : Nat) := by
  rw [or_bits x _ hx (maskN_lt _ _)]
  congr 1
  refine bitsOf_congr _ (fun i hi => ?_)
  rw [one_bit b i hi]
  by_cases e : (i : Int) = b <;> simp [e]
theorem turn_off (x : Nat) (hx : x < 18446744073709551616) (b : Int) : bits BinOp.andNot IntKind.u64 x (maskN b 1) = (turnN x b false : Nat) := by
  rw [andNot_bits x _ hx (maskN_lt _ _)]
  congr 1
  refine bitsOf_congr _ (fun i hi => ?_)
  rw [one_bit b i hi]
  by_cases e : (i : Int) = b <;> simp [e]

theorem fSet_any (x : Nat) (hx : x < 18446744073709551616) (a s : Int) (ha : -9223372036854775808 ≤ a ∧ a ≤ 9223372036854775807) (hs : -9223372036854775808 ≤ s ∧ s ≤ 9223372036854775807) (n : Nat) (hn : n < 18446744073709551616) (w : World) :
    Calls Tryd.prog 55 #[.int .u64 x, .int .i64 a, .int .i64 s, .int .u64 n] w fun e w' => e = .returned (.int .u64 (setN x a s n)) ∧ w = w' := by
  have H := Lib.hid (set_bits x hx a s n)
  go_enter Tryd.func55, Tryd.ntmps55
  go_wp2_with (first | (go_at_call 68; refine (fMask_any _ _ (by omega) (by omega) _).mono ?_; rintro e w' ⟨rfl, rfl⟩) | (go_at_call 69; refine (lift_any _ hn _ ha _).mono ?_; rintro e w' ⟨rfl, rfl⟩))
  go_ret
  exact ⟨by rw [← H.out]; rfl, rfl⟩

theorem fBits_any (n : Int) (hn : -9223372036854775808 ≤ n ∧ n ≤ 9223372036854775807) (w : World) :
    Calls Tryd.prog 54 #[.int .i64 n] w fun e w' => e = .returned (.int .u64 (IntKind.u64.wrap n)) ∧ w = w' := by
  go_enter Tryd.func54, Tryd.ntmps54
  go_wp2
  go_ret
  exact ⟨rfl, rfl⟩
theorem fNumber_any (n : Int) (hn : 0 ≤ n ∧ n ≤ 18446744073709551615) (w : World) :
    Calls Tryd.prog 77 #[.int .u64 n] w fun e w' => e = .returned (.int .i64 (wrap64 n)) ∧ w = w' := by
  go_enter Tryd.func77, Tryd.ntmps77
  go_wp2
  go_ret
  exact ⟨rfl, rfl⟩
end Go.Proofs.YtdbankogamolcaaDoor
