/- Parts of words, as quotients and rests. No program is named. -/
import Derived.Test.YtoimbgmajoajiaaBits
namespace Go.Proofs.Ytoimbgmajoajiaa

theorem cutN_div {x : Nat} (_hx : x < 18446744073709551616) {a z : Int} (h0 : 0 ≤ a) (h1 : 0 ≤ z) (h : a + z ≤ 64) : cutN x a z = x / pw a.toNat % pw z.toNat := by
  have hlt : x / pw a.toNat % pw z.toNat < 2 ^ 64 := Nat.lt_of_lt_of_le (Nat.mod_lt _ (pw_pos _)) (pw_le (show z.toNat ≤ 64 by omega))
  refine eq_of_bits (n := 64) (bits64 _) hlt (fun i hi => ?_)
  unfold cutN pw
  rw [bitsOf_bit, Nat.testBit_mod_two_pow, Nat.testBit_div_two_pow]
  by_cases hz : (i : Int) < z
  · rw [bitAt_in _ _ (by omega) (by omega)]
    simp only [hi, hz, decide_true, Bool.true_and, show i < z.toNat by omega]
    congr 1; omega
  · simp [hz]
    try (intro h; omega)

theorem setN_div {x n : Nat} (hx : x < 18446744073709551616) {a s : Int} (h0 : 0 ≤ a) (h1 : 0 ≤ s) (h : a + s ≤ 64) :
    setN x a s n = pw a.toNat * (pw s.toNat * (x / pw (a + s).toNat) + n % pw s.toNat) + x % pw a.toNat := by
  have e : (a + s).toNat = a.toNat + s.toNat := by omega
  have hq : pw a.toNat * (pw s.toNat * (x / pw (a + s).toNat) + n % pw s.toNat) + x % pw a.toNat < 2 ^ 64 := by
    have h5 : pw (a.toNat + s.toNat) = pw a.toNat * pw s.toNat := by unfold pw; rw [Nat.pow_add]
    have h6 := Nat.mod_lt n (pw_pos s.toNat)
    have h7 := Nat.mod_lt x (pw_pos a.toNat)
    have h8 : pw a.toNat * (pw s.toNat * (x / pw (a + s).toNat) + n % pw s.toNat) + x % pw a.toNat < pw a.toNat * (pw s.toNat * (x / pw (a + s).toNat) + pw s.toNat) := by
      have : pw a.toNat * (pw s.toNat * (x / pw (a + s).toNat) + n % pw s.toNat) + pw a.toNat ≤ pw a.toNat * (pw s.toNat * (x / pw (a + s).toNat) + pw s.toNat) := by
        rw [← Nat.mul_succ]; exact Nat.mul_le_mul_left _ (by omega)
      omega
    have h9 : pw a.toNat * (pw s.toNat * (x / pw (a + s).toNat) + pw s.toNat) = pw (a.toNat + s.toNat) * (x / pw (a + s).toNat + 1) := by
      rw [h5, Nat.mul_assoc, Nat.mul_add (pw s.toNat), Nat.mul_one]
    have hp : pw (a.toNat + s.toNat) * pw (64 - (a.toNat + s.toNat)) = 2 ^ 64 := by unfold pw; rw [← Nat.pow_add]; congr 1; omega
    have h10 : x / pw (a.toNat + s.toNat) < pw (64 - (a.toNat + s.toNat)) := Nat.div_lt_of_lt_mul (by rw [hp]; omega)
    have h11 : pw (a.toNat + s.toNat) * (x / pw (a + s).toNat + 1) ≤ pw (a.toNat + s.toNat) * pw (64 - (a.toNat + s.toNat)) := Nat.mul_le_mul_left _ (by rw [e]; omega)
    omega
  refine eq_of_bits (n := 64) (bits64 _) hq (fun i hi => ?_)
  unfold setN inPart pw
  rw [bitsOf_bit, Nat.testBit_two_pow_mul_add _ (Nat.mod_lt _ (Nat.two_pow_pos _))]
  simp only [hi, decide_true, Bool.true_and]
  by_cases h2 : i < a.toNat
  · rw [if_pos h2, Nat.testBit_mod_two_pow, if_neg (by simp; omega)]; simp [h2]
  · rw [if_neg h2, Nat.testBit_two_pow_mul_add _ (Nat.mod_lt _ (Nat.two_pow_pos _))]
    by_cases h3 : i - a.toNat < s.toNat
    · rw [if_pos h3, if_pos (by simp; omega), Nat.testBit_mod_two_pow, bitAt_in _ _ (by omega) (by omega)]
      simp only [h3, decide_true, Bool.true_and]
      congr 1; omega
    · rw [if_neg h3, if_neg (by simp; omega), Nat.testBit_div_two_pow]
      congr 1; omega

theorem bitAt_div {x : Nat} {b : Nat} (hb : b < 64) : bitAt x b = decide (x / pw b % 2 = 1) := by
  rw [bitAt_nat x b hb]; unfold pw; rw [Nat.testBit_eq_decide_div_mod_eq]

theorem turn_set {x : Nat} {b : Nat} (on : Bool) : turnN x b on = setN x b 1 on.toNat := by
  unfold turnN setN
  refine bitsOf_congr _ (fun i hi => ?_)
  unfold inPart
  by_cases e : (i : Int) = b
  · rw [if_pos e, if_pos (by simp; omega), e]
    cases on <;> simp [bitAt]
  · rw [if_neg e, if_neg (by simp; omega)]

theorem top_bit {x : Nat} (hx : x < 18446744073709551616) : bitAt x 63 = decide (9223372036854775808 ≤ x) := by
  have h := bitAt_div (x := x) (b := 63) (by omega)
  rw [show ((63 : Nat) : Int) = 63 by rfl] at h
  rw [h, show pw 63 = 9223372036854775808 by rfl]
  rw [decide_eq_decide]; omega
theorem top_on {x : Nat} (hx : x < 18446744073709551616) : turnN x 63 true = x % 9223372036854775808 + 9223372036854775808 := by
  have h := turn_set (x := x) (b := 63) true
  rw [show ((63 : Nat) : Int) = 63 by rfl] at h
  rw [h, setN_div hx (by omega) (by omega) (by omega)]
  rw [show pw (63 : Int).toNat = 9223372036854775808 by rfl, show pw (1 : Int).toNat = 2 by rfl, show pw (63 + 1 : Int).toNat = 18446744073709551616 by rfl, show true.toNat = 1 by rfl, Nat.div_eq_of_lt hx]
  omega
/-- A part set above all that a word has. -/
theorem setN_top {x n : Nat} {a s : Int} (h0 : 0 ≤ a) (h1 : 0 ≤ s) (h : a + s ≤ 64) (hx : x < pw a.toNat) : setN x a s n = x + pw a.toNat * (n % pw s.toNat) := by
  have h2 : pw a.toNat ≤ pw (a + s).toNat := pw_le (by omega)
  have h3 : pw a.toNat ≤ 2 ^ 64 := pw_le (show a.toNat ≤ 64 by omega)
  rw [setN_div (by omega) h0 h1 h, Nat.div_eq_of_lt (show x < pw (a + s).toNat by omega), Nat.mod_eq_of_lt hx, Nat.mul_zero, Nat.zero_add, Nat.add_comm]
theorem top_turn {x : Nat} {b : Nat} (hb : b < 64) (hx : x < pw b) : turnN x b true = x + pw b := by
  rw [turn_set, setN_top (by omega) (by omega) (by omega) (by simpa using hx)]
  show x + pw b * (1 % 2) = _
  rw [show 1 % 2 = 1 by rfl, Nat.mul_one]
end Go.Proofs.Ytoimbgmajoajiaa
