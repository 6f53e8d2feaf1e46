/- Plain facts on bits of natural numbers: numbers that are given bit by bit. No program is named. -/
namespace Go.Proofs.Ytoimbgmajoajiaa

/-- The number below 2^n whose bit i is f i. -/
def bitsOf (f : Nat → Bool) : Nat → Nat
  | 0 => 0
  | n + 1 => bitsOf f n + if f n then 2 ^ n else 0

theorem bitsOf_lt (f : Nat → Bool) (n : Nat) : bitsOf f n < 2 ^ n := by
  induction n with
  | zero => simp [bitsOf]
  | succ n ih =>
    have : 2 ^ (n + 1) = 2 ^ n + 2 ^ n := by rw [Nat.pow_succ]; omega
    unfold bitsOf; split <;> omega

theorem bitsOf_bit (f : Nat → Bool) (n i : Nat) : (bitsOf f n).testBit i = (decide (i < n) && f i) := by
  induction n with
  | zero => simp [bitsOf]
  | succ n ih =>
    unfold bitsOf
    have hb := bitsOf_lt f n
    by_cases hf : f n
    · rw [if_pos hf, Nat.add_comm]
      rcases Nat.lt_trichotomy i n with h | h | h
      · rw [Nat.testBit_two_pow_add_gt h, ih]; simp [h, Nat.lt_succ_of_lt h]
      · subst h; rw [Nat.testBit_two_pow_add_eq, Nat.testBit_lt_two_pow hb]; simp [hf]
      · have h2 : 2 ^ n + bitsOf f n < 2 ^ i := by
          have h3 : 2 ^ (n + 1) ≤ 2 ^ i := Nat.pow_le_pow_right (by omega) h
          have : 2 ^ (n + 1) = 2 ^ n + 2 ^ n := by rw [Nat.pow_succ]; omega
          omega
        rw [Nat.testBit_lt_two_pow h2]; simp; omega
    · rw [if_neg hf, Nat.add_zero, ih]
      rcases Nat.lt_trichotomy i n with h | h | h
      · simp [h, Nat.lt_succ_of_lt h]
      · subst h; simp [hf]
      · simp [show ¬ i < n by omega, show ¬ i < n + 1 by omega]

theorem bitsOf_congr {f g : Nat → Bool} (n : Nat) (h : ∀ i, i < n → f i = g i) : bitsOf f n = bitsOf g n := by
  apply Nat.eq_of_testBit_eq
  intro i
  rw [bitsOf_bit, bitsOf_bit]
  by_cases hi : i < n
  · simp [hi, h i hi]
  · simp [hi]

/-- A number below 2^n is told by its bits. -/
theorem eq_bitsOf {x n : Nat} (hx : x < 2 ^ n) : x = bitsOf (fun i => x.testBit i) n := by
  apply Nat.eq_of_testBit_eq
  intro i
  rw [bitsOf_bit]
  by_cases hi : i < n
  · simp [hi]
  · have : x < 2 ^ i := Nat.lt_of_lt_of_le hx (Nat.pow_le_pow_right (by omega) (by omega))
    simp [hi, Nat.testBit_lt_two_pow this]

theorem eq_of_bits {x y n : Nat} (hx : x < 2 ^ n) (hy : y < 2 ^ n) (h : ∀ i, i < n → x.testBit i = y.testBit i) : x = y := by
  rw [eq_bitsOf hx, eq_bitsOf hy]
  exact bitsOf_congr n h

/-- A word's bit at an int; false, if there is none. -/
def bitAt (w : Nat) (i : Int) : Bool := decide (0 ≤ i) && decide (i < 64) && w.testBit i.toNat
/-- A part's bits: layer 1, as a number. -/
def inPart (at_ size : Int) (i : Nat) : Bool := decide (at_ ≤ i) && decide ((i : Int) < at_ + size)
def maskN (at_ size : Int) : Nat := bitsOf (inPart at_ size) 64
def cutN (w : Nat) (at_ size : Int) : Nat := bitsOf (fun k => decide ((k : Int) < size) && bitAt w (at_ + k)) 64
def setN (w : Nat) (at_ size : Int) (n : Nat) : Nat := bitsOf (fun i => if inPart at_ size i then bitAt n (i - at_) else w.testBit i) 64
def turnN (w : Nat) (b : Int) (on : Bool) : Nat := bitsOf (fun i => if (i : Int) = b then on else w.testBit i) 64
def pw (k : Nat) : Nat := 2 ^ k
def lowN (s : Int) : Nat := bitsOf (fun i => decide ((i : Int) < s)) 64

theorem pw_succ (k : Nat) : pw (k + 1) = 2 * pw k := by unfold pw; rw [Nat.pow_succ]; omega
theorem pw_pos (k : Nat) : 0 < pw k := Nat.two_pow_pos k
theorem pw_le {j k : Nat} (h : j ≤ k) : pw j ≤ pw k := Nat.pow_le_pow_right (by omega) h
theorem pw_63 {k : Nat} (h : k ≤ 63) : pw k ≤ 9223372036854775808 := pw_le h
theorem pw_64 : pw 64 = 18446744073709551616 := rfl
theorem bits64 (f : Nat → Bool) : bitsOf f 64 < 18446744073709551616 := bitsOf_lt f 64
theorem bits_step (f : Nat → Bool) (k : Nat) (hk : k < 64) : bitsOf f k + pw k ≤ 18446744073709551615 := by
  have h1 := bitsOf_lt f k
  have h2 : pw (k + 1) ≤ pw 64 := pw_le hk
  rw [pw_succ, pw_64] at h2
  unfold pw at *
  omega
theorem bits_succ_t (f : Nat → Bool) (k : Nat) (h : f k = true) : bitsOf f (k + 1) = bitsOf f k + pw k := by
  show bitsOf f k + (if f k then 2 ^ k else 0) = _
  rw [if_pos h]; rfl
theorem bits_succ_f (f : Nat → Bool) (k : Nat) (h : f k = false) : bitsOf f (k + 1) = bitsOf f k := by
  show bitsOf f k + (if f k then 2 ^ k else 0) = _
  rw [if_neg (by simp [h])]; rfl

theorem bits_stop (f : Nat → Bool) (k n : Nat) (hk : k ≤ n) (h : ∀ i, k ≤ i → i < n → f i = false) : bitsOf f n = bitsOf f k := by
  induction n with
  | zero => obtain rfl : k = 0 := by omega
            rfl
  | succ n ih =>
    rcases Nat.lt_or_ge n k with h1 | h1
    · obtain rfl : k = n + 1 := by omega
      rfl
    · rw [bits_succ_f f n (h n h1 (by omega))]
      exact ih h1 (fun i a b => h i a (by omega))
theorem bits_none (f : Nat → Bool) (n : Nat) (h : ∀ i, i < n → f i = false) : bitsOf f n = 0 := bits_stop f 0 n (by omega) (fun i _ b => h i b)
theorem bitAt_nat (w : Nat) (i : Nat) (h : i < 64) : bitAt w i = w.testBit i := by unfold bitAt; simp [show ((i : Int) < 64) by omega]
theorem bitAt_in (w : Nat) (i : Int) (h0 : 0 ≤ i) (h : i < 64) : bitAt w i = w.testBit i.toNat := by unfold bitAt; simp [h0, h]
theorem bitAt_out (w : Nat) (i : Int) (h : i < 0 ∨ 64 ≤ i) : bitAt w i = false := by unfold bitAt; rcases h with h | h <;> simp <;> omega

end Go.Proofs.Ytoimbgmajoajiaa
