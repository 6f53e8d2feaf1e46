/- burnbagref18: number, at; bytes. · Plain facts on bits of natural numbers: numbers that are given bit by bit. No program is named. · What the functions of package burnbagref01 answer, as numbers given bit by bit. · burnbagref18: Put. · Errors that wrap errors: what they are in memory, and how deep they are. · How deep an error is. -/
import Derived.Test.YtdbankogamolcaaDoorJ4
import Derived.Lib.SliceRun
import Derived.IntWalk
import Derived.Test.YtdbankogamolcaaDoorRows
import Derived.WalkKit
import Derived.ProofKit
import Derived.OpenShut
import Derived.Outline
import Derived.Lib.Hide
import Derived.Test.YtdbankogamolcaaDoorJ7
import Derived.Laws.OwnMore
import Derived.Deep.RegionLaw
import Derived.Deep.RegionLawGrows
import Derived.Test.YtdbankogamolcaaDoorJ0
import Derived.LaidEql
import Derived.Stop.Asserts
import Derived.Stop.IfaceNil
import Derived.RowKitTokens
namespace Go.Proofs.YtdbankogamolcaaDoor
set_option linter.unusedSimpArgs false
set_option linter.unusedVariables false
open Go.ChangeShapes Go.WideShapes Go.ChangeAt Go.RowKit
set_option linter.unusedSimpArgs false

/-- Bytes as cells. -/
def flatB (L : List Int) : List Value := L.map fun x => .int .u8 x
theorem flatB_length (L : List Int) : (flatB L).length = L.length * 1 := by simp [flatB]
theorem flatB_one : ∀ L : List Int, ∀ u ∈ flatB L, u.oneCell' = true := fun L u hu => by
  simp only [flatB, List.mem_map] at hu
  obtain ⟨x, _, rfl⟩ := hu
  rfl
theorem flatB_append (L M : List Int) : flatB (L ++ M) = flatB L ++ flatB M := by simp [flatB]
theorem flatB_get (L : List Int) (i : Nat) (h : i < L.length) : (flatB L)[i]? = some (.int .u8 (L.getD i 0)) := by simp [flatB, List.getD, h]
theorem infoB : ∃ i0, Tryd.prog.info? 5 = some i0 ∧ i0.zero = some (.int .u8 0) ∧ i0.size = 1 ∧ i0.bytes = 1 := by
  have h : (Tryd.prog.info? 5).map (fun i => (i.zero, i.size, i.bytes)) = some (some (.int .u8 0), 1, 1) := by kernel_rfl
  obtain ⟨i0, h1, h2⟩ := Option.map_eq_some_iff.1 h
  simp only [Prod.mk.injEq] at h2
  exact ⟨i0, h1, h2⟩
/-- A number's lowest byte. -/
def u8 (x : Int) : Int := x % 256
/-- A number's bytes. -/
def numB (n : Int) : Nat → List Int
  | 0 => []
  | k + 1 => numB n k ++ [n / 256 ^ k % 256]
theorem numB_len (n : Int) : ∀ k, (numB n k).length = k
  | 0 => rfl
  | k + 1 => by unfold numB; rw [List.length_append, numB_len n k]; rfl
set_option maxHeartbeats 2000000 in
theorem r18Number_any (n : Int) (hn : 0 ≤ n ∧ n < 18446744073709551616) (s : Nat) (hs : s ≤ 8) (w : World) :
    Calls Tryd.prog 35 #[.int .u64 n, .int .i64 s] w fun e w' => ∃ v, e = .returned v ∧ w'.ownsRow w.heap.size 5 1 v s (flatB (numB n s)) ∧ Below w.heap.size w w' := by
  obtain ⟨j0, hj0, hj1, hj2, hj3⟩ := infoB
  have HX : Hid (∀ k, numB n (k + 1) = numB n k ++ [n / 256 ^ k % 256]) := Lib.hid fun _ => rfl
  have HL := Lib.hid (numB_len n)
  have HQ : Hid (∀ k : Nat, 0 ≤ n / 256 ^ k ∧ n / 256 ^ k < 18446744073709551616 ∧ n / 256 ^ k / 256 = n / 256 ^ (k + 1)) := Lib.hid fun k => by
    have h1 : (0 : Int) < 256 ^ k := Int.pow_pos (by omega)
    refine ⟨Int.ediv_nonneg hn.1 (by omega), Int.lt_of_le_of_lt (Int.ediv_le_self _ hn.1) hn.2, ?_⟩
    rw [Int.ediv_ediv_of_nonneg (by omega), Int.pow_succ]
  have H0 : Hid (n = n / 256 ^ 0) := Lib.hid (by simp)
  clear hn
  go_enter Tryd.func35, Tryd.ntmps35
  go_wp2_with fail
  go_loopw [0, 5, 6] (fun m b i wr => ∃ k : Nat, i = .int .i64 k ∧ k ≤ s ∧ m = .int .u64 (n / 256 ^ k) ∧ OwnR w w.heap.size 5 1 b k (flatB (numB n k)) wr) (fun _ _ i _ => s - (intOf i).toNat)
  case atStart => exact ⟨0, rfl, Nat.zero_le _, by rw [← H0.out], Below.refl _ _, World.ownsRow_nil _ _ _ _, Nat.le_refl _⟩
  case round =>
    obtain ⟨k, rfl, hk, rfl, R⟩ := hrel
    by_cases hlt : k < s
    · have HS := Lib.hid (HX.out k)
      have HQk := HQ.out k
      have HR := Lib.hid R; clear R
      generalize numB n k = xs at *
      generalize n / 256 ^ k = q at *
      generalize hq2n : n / 256 ^ (k + 1) = q2 at *
      have HQ2 := Lib.hid hq2n; clear hq2n
      obtain ⟨hq0, hq1, hq2⟩ := HQk
      have d1 : IntKind.u64.wrap (q / 256) = q2 := by rw [IntKind.wrap_u64]; omega
      have d2 : Int.tdiv q 256 = q2 := by rw [Int.tdiv_eq_ediv_of_nonneg hq0]; exact hq2
      have d3 : Int.tmod q 256 = q % 256 := by rw [Int.tmod_eq_emod_of_nonneg hq0]
      have HQ0 := Lib.hid (show IntKind.u64.wrap q2 = q2 by rw [IntKind.wrap_u64]; omega)
      clear hq0 hq1 hq2
      go_wp2_with (at_builtin; refine wpList_append_own _ rfl _ _ 39 rfl w.heap.size 5 j0 (.int .u8 0) 1 1 Tryd.underlying39 hj0 hj1 hj2 hj3 rfl (by decide) _ _ _ rfl (HR.out.own.alloc _) ⟨wr.heap.size, 0, none⟩ 1 1 (flatB [q % 256]) rfl rfl (Cells.new wr #[.int .u8 (q % 256)] 5).news (flatB_one _) ?c3 ?c4 ?c5 ?_)
      case c3 => unfold maxLen; omega
      case c4 => omega
      case c5 => have := HR.out.le; simp; omega
      intro v' w2 hown' hgrow _
      have HZ := Lib.hid ((HR.out.alloc _).grow hown' hgrow)
      clear hown' hgrow
      go_wp2_with fail
      go_roundw
      case rel => exact ⟨k + 1, by go_num, by omega, by rw [HQ0.out, HQ2.out], by rw [HS.out, flatB_append]; exact HZ.out⟩
      case measure => simp [intOf]; omega
    · obtain rfl : k = s := by omega
      go_wp2_with fail
      go_ret
      exact ⟨_, rfl, R.own, R.bel⟩

theorem LiesC.atB {w : World} {A : Option Addr} {L : List Int} (h : LiesC w A (flatB L)) (hn : 0 < L.length) : ∃ b off, A = some ⟨b, off, none⟩ ∧ b < w.heap.size ∧ ∀ i, i < L.length → w.cell? ⟨b, off + i, none⟩ = some (.int .u8 (L.getD i 0)) := by
  obtain ⟨b, off, rfl, hb, hx⟩ := h.some_ (by rw [flatB_length]; omega)
  exact ⟨b, off, rfl, hb, fun i hi => hx i _ (flatB_get L i hi)⟩
/-- What bytes are. -/
def Byt (L : List Int) : Prop := ∀ i, 0 ≤ L.getD i 0 ∧ L.getD i 0 ≤ 255
/-- The number of s bytes from a place on, its j highest ones. -/
def atN (L : List Int) (i s : Nat) : Nat → Int
  | 0 => 0
  | j + 1 => 256 * atN L i s j + L.getD (i + (s - 1 - j)) 0
theorem atN_bound {L : List Int} (hL : Byt L) (i s : Nat) : ∀ j, 0 ≤ atN L i s j ∧ atN L i s j < 256 ^ j
  | 0 => ⟨Int.le_refl _, by show (0 : Int) < 256 ^ 0; decide⟩
  | j + 1 => by
    have ih := atN_bound hL i s j
    have hb := hL (i + (s - 1 - j))
    unfold atN
    rw [Int.pow_succ]
    omega
set_option maxHeartbeats 2000000 in
theorem r18At_any (A : Option Addr) (c : Nat) (L : List Int) (hL : Byt L) (hl : L.length ≤ 1000000) (i s : Nat) (hs : s ≤ 8) (hi : i + s ≤ L.length) (w : World) (ha : LiesC w A (flatB L)) :
    Calls Tryd.prog 40 #[.slice A L.length c, .int .i64 i, .int .i64 s] w fun e w' => e = .returned (.int .u64 (atN L i s s)) ∧ w = w' := by
  have HA := Lib.hid ha
  have HX : Hid (∀ j, atN L i s (j + 1) = 256 * atN L i s j + L.getD (i + (s - 1 - j)) 0) := Lib.hid fun _ => rfl
  have HB := Lib.hid (fun j => atN_bound hL i s j)
  have HL := Lib.hid hL
  clear ha hL
  generalize hm : L.length = m at *
  go_enter Tryd.func40, Tryd.ntmps40
  go_wp2_with fail
  go_loopw [7, 8] (fun n k wr => ∃ j : Nat, k = .int .i64 ((s : Int) - 1 - j) ∧ j ≤ s ∧ n = .int .u64 (atN L i s j) ∧ w = wr) (fun _ k _ => (intOf k + 1).toNat)
  case atStart => exact ⟨0, by go_num, Nat.zero_le _, rfl, rfl⟩
  case round =>
    obtain ⟨j, rfl, hj, rfl, rfl⟩ := hrel
    by_cases hlt : j < s
    · obtain ⟨b, off, rfl, _, hx⟩ := HA.out.atB (by omega)
      have p0 := hx (i + (s - 1 - j)) (by omega)
      have HXj := HX.out j
      have hb := HB.out j
      have hb2 := HL.out (i + (s - 1 - j))
      have hp : (256 : Int) ^ j ≤ 256 ^ 7 := by
        have : ∀ k : Nat, k ≤ 7 → (256 : Int) ^ k ≤ 256 ^ 7 := by decide
        exact this j (by omega)
      rw [show (256 : Int) ^ 7 = 72057594037927936 by decide] at hp
      clear hx
      generalize L.getD (i + (s - 1 - j)) 0 = y at *
      generalize atN L i s j = q at *
      generalize (256 : Int) ^ j = pw at *
      have d1 : IntKind.u64.wrap (256 * q) = 256 * q := by rw [IntKind.wrap_u64]; omega
      have d2 : Hid (IntKind.u64.wrap (256 * q + IntKind.u64.wrap y) = 256 * q + y) := Lib.hid (by rw [IntKind.wrap_u64, IntKind.wrap_u64]; omega)
      have HY := Lib.hid HXj
      have hk0 : (!decide ((s : Int) - 1 - (j : Int) < 0)) = true := by simp; omega
      have hk1 : wrap64 ((i : Int) + ((s : Int) - 1 - (j : Int))) = ((i + (s - 1 - j) : Nat) : Int) := by unfold wrap64; omega
      clear hb hb2 hp HXj
      go_wp2_with fail
      go_roundw
      case rel => exact ⟨j + 1, by go_num, by omega, by rw [HY.out, d2.out], trivial⟩
      case measure => simp [intOf]; omega
    · obtain rfl : j = s := by omega
      have hk0 : (!decide ((j : Int) - 1 - (j : Int) < 0)) = false := by simp; omega
      go_wp2_with fail
      go_ret
      exact ⟨rfl, rfl⟩
end Go.Proofs.YtdbankogamolcaaDoor
namespace Go.Proofs.YtdbankogamolcaaDoor
set_option linter.unusedSimpArgs false
set_option linter.unusedVariables false

/-- The number below 2^n whose bit i is f i. -/
def bitsOf (f : Nat → Bool) : Nat → Nat
  | 0 => 0
  | n + 1 => bitsOf f n + if f n then 2 ^ n else 0

theorem bitsOf_lt (f : Nat → Bool) (n : Nat) : bitsOf f n < 2 ^ n := by
  induction n with
  | zero => simp [bitsOf]
  | succ n ih =>
    have : 2 ^ (n + 1) = 2 ^ n + 2 ^ n := by rw [Nat.pow_succ]; omega
    unfold bitsOf; split <;> omega

theorem bitsOf_bit (f : Nat → Bool) (n i : Nat) : (bitsOf f n).testBit i = (decide (i < n) && f i) := by
  induction n with
  | zero => simp [bitsOf]
  | succ n ih =>
    unfold bitsOf
    have hb := bitsOf_lt f n
    by_cases hf : f n
    · rw [if_pos hf, Nat.add_comm]
      rcases Nat.lt_trichotomy i n with h | h | h
      · rw [Nat.testBit_two_pow_add_gt h, ih]; simp [h, Nat.lt_succ_of_lt h]
      · subst h; rw [Nat.testBit_two_pow_add_eq, Nat.testBit_lt_two_pow hb]; simp [hf]
      · have h2 : 2 ^ n + bitsOf f n < 2 ^ i := by
          have h3 : 2 ^ (n + 1) ≤ 2 ^ i := Nat.pow_le_pow_right (by omega) h
          have : 2 ^ (n + 1) = 2 ^ n + 2 ^ n := by rw [Nat.pow_succ]; omega
          omega
        rw [Nat.testBit_lt_two_pow h2]; simp; omega
    · rw [if_neg hf, Nat.add_zero, ih]
      rcases Nat.lt_trichotomy i n with h | h | h
      · simp [h, Nat.lt_succ_of_lt h]
      · subst h; simp [hf]
      · simp [show ¬ i < n by omega, show ¬ i < n + 1 by omega]

theorem bitsOf_congr {f g : Nat → Bool} (n : Nat) (h : ∀ i, i < n → f i = g i) : bitsOf f n = bitsOf g n := by
  apply Nat.eq_of_testBit_eq
  intro i
  rw [bitsOf_bit, bitsOf_bit]
  by_cases hi : i < n
  · simp [hi, h i hi]
  · simp [hi]

/-- A number below 2^n is told by its bits. -/
theorem eq_bitsOf {x n : Nat} (hx : x < 2 ^ n) : x = bitsOf (fun i => x.testBit i) n := by
  apply Nat.eq_of_testBit_eq
  intro i
  rw [bitsOf_bit]
  by_cases hi : i < n
  · simp [hi]
  · have : x < 2 ^ i := Nat.lt_of_lt_of_le hx (Nat.pow_le_pow_right (by omega) (by omega))
    simp [hi, Nat.testBit_lt_two_pow this]

theorem eq_of_bits {x y n : Nat} (hx : x < 2 ^ n) (hy : y < 2 ^ n) (h : ∀ i, i < n → x.testBit i = y.testBit i) : x = y := by
  rw [eq_bitsOf hx, eq_bitsOf hy]
  exact bitsOf_congr n h

/-- A word's bit at an int; false, if there is none. -/
def bitAt (w : Nat) (i : Int) : Bool := decide (0 ≤ i) && decide (i < 64) && w.testBit i.toNat
/-- A part's bits: layer 1, as a number. -/
def inPart (at_ size : Int) (i : Nat) : Bool := decide (at_ ≤ i) && decide ((i : Int) < at_ + size)
def maskN (at_ size : Int) : Nat := bitsOf (inPart at_ size) 64
def cutN (w : Nat) (at_ size : Int) : Nat := bitsOf (fun k => decide ((k : Int) < size) && bitAt w (at_ + k)) 64
def setN (w : Nat) (at_ size : Int) (n : Nat) : Nat := bitsOf (fun i => if inPart at_ size i then bitAt n (i - at_) else w.testBit i) 64
def turnN (w : Nat) (b : Int) (on : Bool) : Nat := bitsOf (fun i => if (i : Int) = b then on else w.testBit i) 64
def pw (k : Nat) : Nat := 2 ^ k
def lowN (s : Int) : Nat := bitsOf (fun i => decide ((i : Int) < s)) 64

theorem pw_succ (k : Nat) : pw (k + 1) = 2 * pw k := by unfold pw; rw [Nat.pow_succ]; omega
theorem pw_pos (k : Nat) : 0 < pw k := Nat.two_pow_pos k
theorem pw_le {j k : Nat} (h : j ≤ k) : pw j ≤ pw k := Nat.pow_le_pow_right (by omega) h
theorem pw_63 {k : Nat} (h : k ≤ 63) : pw k ≤ 9223372036854775808 := pw_le h
theorem pw_64 : pw 64 = 18446744073709551616 := rfl
theorem bits64 (f : Nat → Bool) : bitsOf f 64 < 18446744073709551616 := bitsOf_lt f 64
theorem bits_step (f : Nat → Bool) (k : Nat) (hk : k < 64) : bitsOf f k + pw k ≤ 18446744073709551615 := by
  have h1 := bitsOf_lt f k
  have h2 : pw (k + 1) ≤ pw 64 := pw_le hk
  rw [pw_succ, pw_64] at h2
  unfold pw at *
  omega
theorem bits_succ_t (f : Nat → Bool) (k : Nat) (h : f k = true) : bitsOf f (k + 1) = bitsOf f k + pw k := by
  show bitsOf f k + (if f k then 2 ^ k else 0) = _
  rw [if_pos h]; rfl
theorem bits_succ_f (f : Nat → Bool) (k : Nat) (h : f k = false) : bitsOf f (k + 1) = bitsOf f k := by
  show bitsOf f k + (if f k then 2 ^ k else 0) = _
  rw [if_neg (by simp [h])]; rfl

theorem bits_stop (f : Nat → Bool) (k n : Nat) (hk : k ≤ n) (h : ∀ i, k ≤ i → i < n → f i = false) : bitsOf f n = bitsOf f k := by
  induction n with
  | zero => obtain rfl : k = 0 := by omega
            rfl
  | succ n ih =>
    rcases Nat.lt_or_ge n k with h1 | h1
    · obtain rfl : k = n + 1 := by omega
      rfl
    · rw [bits_succ_f f n (h n h1 (by omega))]
      exact ih h1 (fun i a b => h i a (by omega))
theorem bits_none (f : Nat → Bool) (n : Nat) (h : ∀ i, i < n → f i = false) : bitsOf f n = 0 := bits_stop f 0 n (by omega) (fun i _ b => h i b)
theorem bitAt_nat (w : Nat) (i : Nat) (h : i < 64) : bitAt w i = w.testBit i := by unfold bitAt; simp [show ((i : Int) < 64) by omega]
theorem bitAt_in (w : Nat) (i : Int) (h0 : 0 ≤ i) (h : i < 64) : bitAt w i = w.testBit i.toNat := by unfold bitAt; simp [h0, h]
theorem bitAt_out (w : Nat) (i : Int) (h : i < 0 ∨ 64 ≤ i) : bitAt w i = false := by unfold bitAt; rcases h with h | h <;> simp <;> omega

end Go.Proofs.YtdbankogamolcaaDoor
namespace Go.Proofs.YtdbankogamolcaaDoor
set_option linter.unusedSimpArgs false
set_option linter.unusedVariables false
open Go.ChangeShapes Go.WideShapes Go.ChangeAt Go.RowKit

theorem refBits_any (n : Int) (hn : -9223372036854775808 ≤ n ∧ n ≤ 9223372036854775807) (w : World) :
    Calls Tryd.prog 36 #[.int .i64 n] w fun e w' => e = .returned (.int .u64 (IntKind.u64.wrap n)) ∧ w = w' := by
  have hw : IntKind.u64.wrap n = if n < 0 then n + 18446744073709551616 else n := by rw [IntKind.wrap_u64]; split <;> omega
  have H := Lib.hid hw; clear hw
  by_cases h : n < 0
  all_goals
    go_enter Tryd.func36, Tryd.ntmps36
    go_wp2
    go_ret
    refine ⟨?_, rfl⟩
    rw [H.out]
    simp [h]
    try omega
theorem refNumber_any (n : Int) (hn : 0 ≤ n ∧ n ≤ 18446744073709551615) (w : World) :
    Calls Tryd.prog 41 #[.int .u64 n] w fun e w' => e = .returned (.int .i64 (wrap64 n)) ∧ w = w' := by
  have hw : wrap64 n = if n < 9223372036854775808 then n else n - 18446744073709551616 := by unfold wrap64; split <;> omega
  have H := Lib.hid hw; clear hw
  by_cases h : n < 9223372036854775808
  all_goals
    go_enter Tryd.func41, Tryd.ntmps41
    go_wp2
    go_ret
    refine ⟨?_, rfl⟩
    rw [H.out]
    simp [h]
    try omega
end Go.Proofs.YtdbankogamolcaaDoor
namespace Go.Proofs.YtdbankogamolcaaDoor
set_option linter.unusedSimpArgs false
set_option linter.unusedVariables false
open Go.ChangeShapes Go.WideShapes Go.ChangeAt Go.RowKit
set_option linter.unusedSimpArgs false

theorem lies_litB (w : World) {cs : Array Value} {L : List Int} (t : TypeId) (h : cs = (flatB L).toArray) : LiesC (w.alloc (.cells cs t)) (some ⟨w.heap.size, 0, none⟩) (flatB L) := .inr ⟨w.heap.size, 0, rfl, by simp, fun j v hj => by
  rw [Nat.zero_add, (Cells.new w cs t).cell j, h]
  exact hj⟩
/-- An append of bytes onto a row of the call's own. -/
theorem wpB_app {ops : Array Oper} {rest : List Oper} {o : Oper} {a : Act} {w : World} {Q : Exit → Act → World → Prop} (hgd : o.guard = none) (s x : Operand)
    (ho : o.op = .call { callee := .builtin .append, args := #[s, x], argTypes := #[39, 39] }) {W : World} {B : Nat} {v : Value} {L : List Int} (hs : a.eval s = v) (hR : OwnR W B 5 1 v L.length (flatB L) w)
    (p : Addr) (c : Nat) (M : List Int) (hx : a.eval x = .slice (some p) M.length c) (hl : LiesC w (some p) (flatB M)) (hb : L.length + M.length ≤ 100000000)
    (h : ∀ v' w', OwnR W B 5 1 v' (L ++ M).length (flatB (L ++ M)) w' → w.grownBy w' v.ownBlock → wpList Tryd.prog ops Q rest (a.put o.dst v') w') : wpList Tryd.prog ops Q (o :: rest) a w := by
  obtain ⟨j0, hj0, hj1, hj2, hj3⟩ := infoB
  refine wpList_append_own w hgd s x 39 ho B 5 j0 (.int .u8 0) 1 1 Tryd.underlying39 hj0 hj1 hj2 hj3 rfl (by decide) v L.length (flatB L) hs hR.own p M.length c (flatB M) hx (flatB_length M) (fun j u hj => hl.news j u hj) (flatB_one M) (by unfold maxLen; omega) (by omega) hR.le ?_
  intro v' w' h1 h2 _
  have h3 := hR.grow h1 h2
  rw [← flatB_append, ← List.length_append] at h3
  exact h v' w' h3 h2
/-- A number's bytes, as a slice that is not nil. -/
theorem r18Num_some (n : Int) (hn : 0 ≤ n ∧ n < 18446744073709551616) (s : Nat) (hs : s ≤ 8) (h0 : 0 < s) (w : World) :
    Calls Tryd.prog 35 #[.int .u64 n, .int .i64 s] w fun e w' => ∃ p c, e = .returned (.slice (some p) (numB n s).length c) ∧ LiesC w' (some p) (flatB (numB n s)) ∧ Below w.heap.size w w' := by
  refine (r18Number_any n hn s hs w).mono ?_
  rintro e w' ⟨v, rfl, h1, h2⟩
  obtain ⟨A, c, rfl, h3, -, h4, h5, -⟩ := lnIs_of_own h1
  cases A with
  | none => have := h4 rfl; omega
  | some p => exact ⟨p, c, by rw [numB_len], h5, h2⟩
theorem Cells.grown {w w' : World} {h : Nat} {t : TypeId} {cs : List Value} (hc : Cells w h t cs) {row : Option Nat} (hg : w.grownBy w' row) (hn : row ≠ some h) : Cells w' h t cs := (hg.block h hc.lt (fun e => hn e.symm)).trans hc
/-- A block of calls is no row of bytes. -/
theorem cl_ne {w : World} {h : Nat} {cs : List Value} {base n : Nat} {v : Value} {xs : List Value} (hc : Cells w h 61 cs) (ho : w.ownsRow base 5 1 v n xs) : v.ownBlock ≠ some h := fun e => by
  rcases ho.2 with ⟨rfl, _⟩ | ⟨g, cap, cur, rfl, _, hg, _⟩
  · cases e
  · cases e
    have h1 : w.heap[g]? = some (.cells cs.toArray 61 (0, 0)) := hc
    rw [hg] at h1
    injection h1 with h1
    injection h1 with _ h2
    exact absurd h2 (by decide)
/-- What numbers of a call there may be. -/
structure OkC (x : Cl) : Prop where
  key : -9223372036854775808 ≤ x.key ∧ x.key ≤ 9223372036854775807
  pa : 0 ≤ x.pa ∧ x.pa < 18446744073709551616
  pb : 0 ≤ x.pb ∧ x.pb < 18446744073709551616
  hd : 0 ≤ x.hd ∧ x.hd < 18446744073709551616
/-- A row of bytes, and a call in a block beside it. -/
structure StR (W : World) (B h : Nat) (cs : List Value) (v : Value) (L : List Int) (w : World) : Prop where
  row : OwnR W B 5 1 v L.length (flatB L) w
  blk : Cells w h 61 cs
theorem StR.keep {W : World} {B h : Nat} {cs : List Value} {v : Value} {L : List Int} {w w' : World} (hS : StR W B h cs v L w) (hb : Below w.heap.size w w') : StR W B h cs v L w' := ⟨hS.row.keep hb, hS.blk.keep hb⟩
theorem StR.alloc {W : World} {B h : Nat} {cs : List Value} {v : Value} {L : List Int} {w : World} (hS : StR W B h cs v L w) (o : Obj) : StR W B h cs v L (w.alloc o) := hS.keep ((Below.refl _ _).alloc (Nat.le_refl _) o)
theorem wpB_app2 {ops : Array Oper} {rest : List Oper} {o : Oper} {a : Act} {w : World} {Q : Exit → Act → World → Prop} (hgd : o.guard = none) (s x : Operand)
    (ho : o.op = .call { callee := .builtin .append, args := #[s, x], argTypes := #[39, 39] }) {W : World} {B h : Nat} {cs : List Value} {v : Value} {L : List Int} (hs : a.eval s = v) (hR : StR W B h cs v L w)
    (p : Addr) (c : Nat) (M : List Int) (hx : a.eval x = .slice (some p) M.length c) (hl : LiesC w (some p) (flatB M)) (hb : L.length + M.length ≤ 100000000)
    (hk : ∀ v' w', StR W B h cs v' (L ++ M) w' → wpList Tryd.prog ops Q rest (a.put o.dst v') w') : wpList Tryd.prog ops Q (o :: rest) a w :=
  wpB_app hgd s x ho hs hR.row p c M hx hl hb fun v' w' h1 h2 => hk v' w' ⟨h1, hR.blk.grown h2 (cl_ne hR.blk hR.row.own)⟩
theorem clF_all (x : Cl) : (clF x).toArray.all (·.oneCell') = true := by simp [clF, Value.oneCell']
def zeroCl : Cl := ⟨0, 0, 0, 0, 0, 0, 0⟩
def putC (x : Cl) : List Int := [x.op % 256, x.l % 256, x.r % 256] ++ numB (IntKind.u64.wrap x.key) 8 ++ numB x.pa 8 ++ numB x.pb 8 ++ numB x.hd 8
def putOf (c : Nat → Int) : Nat → List Int
  | 0 => [c 0 % 256, c 1 % 256]
  | t + 1 => putOf c t ++ [c (2 + t) % 256]
def putHd (c : Nat → Int) : List Int := putOf c 8 ++ [c 10 % 256, c 11 % 256] ++ numB (IntKind.u64.wrap (c 12)) 3 ++ [c 13 % 256]
def putCs (L : List Cl) (M : List Int) : Nat → List Int
  | 0 => M ++ [(L.length : Int) % 256]
  | k + 1 => putCs L M k ++ putC (clN L k)
def putPs (s : Scr) : Nat → List Int
  | 0 => putHd s.c
  | t + 1 => putCs (s.p t) (putPs s t) (s.p t).length
def putEs (s : Scr) : Nat → List Int
  | 0 => putPs s (s.c 1).toNat
  | k + 1 => putEs s k ++ [((enN s.e k).th + 8 * (enN s.e k).wh) % 256]
def putS18 (s : Scr) : List Int := putEs s s.e.length
theorem putOf_len (c : Nat → Int) : ∀ t, (putOf c t).length = 2 + t
  | 0 => rfl
  | t + 1 => by unfold putOf; rw [List.length_append, putOf_len c t]; rfl
theorem putC_len (x : Cl) : (putC x).length = 35 := by simp [putC, numB_len]
theorem putHd_len (c : Nat → Int) : (putHd c).length = 16 := by simp [putHd, numB_len, putOf_len]
theorem putCs_len (L : List Cl) (M : List Int) : ∀ k, (putCs L M k).length = M.length + 1 + 35 * k
  | 0 => by simp [putCs]
  | k + 1 => by unfold putCs; rw [List.length_append, putCs_len L M k, putC_len]; omega
theorem putPs_len {s : Scr} (h : ∀ t, t < 8 → (s.p t).length ≤ 1000) : ∀ t, t ≤ 8 → (putPs s t).length ≤ 16 + 36000 * t
  | 0, _ => by unfold putPs; rw [putHd_len]; omega
  | t + 1, ht => by
    have ih := putPs_len h t (by omega)
    have := h t (by omega)
    unfold putPs; rw [putCs_len]; omega
theorem putEs_len {s : Scr} (h : ∀ t, t < 8 → (s.p t).length ≤ 1000) (h8 : (s.c 1).toNat ≤ 8) : ∀ k, (putEs s k).length ≤ 300000 + k
  | 0 => by
    have := putPs_len h (s.c 1).toNat h8
    unfold putEs; omega
  | k + 1 => by
    have := putEs_len h h8 k
    unfold putEs; rw [List.length_append]; simp; omega
/-- Put's blocks: the script, its configuration. -/
structure PutR (g : Nat) (f : Nat → Value) (s : Scr) (w W : World) : Prop where
  at_ : ScrAt g f s W
  cf : Row W (g + 1) 24 14 (ints s.c)
  bel : Below g w W
theorem PutR.keep {g : Nat} {f : Nat → Value} {s : Scr} {w W W' : World} (h : PutR g f s w W) (hb : Below W.heap.size W W') : PutR g f s w W' := ⟨h.at_.keep hb, h.cf.keep hb, h.bel.trans (hb.mono (by have := h.at_.row.lt; omega))⟩
theorem PutR.below {g : Nat} {f : Nat → Value} {s : Scr} {w W W' : World} {B : Nat} (h : PutR g f s w W) (hb : Below B W W') (hB : B = W.heap.size) : PutR g f s w W' := h.keep (by rw [← hB]; exact hb)
set_option maxRecDepth 100000 in
set_option maxHeartbeats 8000000 in
theorem r18Put_any (f : Nat → Value) (s : Scr) (hm : mayB s.c = true) (hle : s.e.length ≤ 1000000) (hlp : ∀ t, t < 8 → (s.p t).length ≤ 1000) (hcl : ∀ t, t < 8 → ∀ k, k < (s.p t).length → OkC (clN (s.p t) k)) (hth : ∀ i, i < s.e.length → 0 ≤ (enN s.e i).th ∧ (enN s.e i).th ≤ 7 ∧ 0 ≤ (enN s.e i).wh ∧ (enN s.e i).wh ≤ 3) (w : World) (hs : ScrIs w f s) :
    Calls Tryd.prog 17 #[.agg (rowOf 23 f)] w fun e w' => ∃ v, e = .returned v ∧ LnIs w' v (putS18 s).length (flatB (putS18 s)) ∧ Far w.heap.size v ∧ Below w.heap.size w w' := by
  have HT := Lib.hid (scr_new hs)
  have hbd := may_bounds hm
  have hf1 := fold14I s.c
  have HTH := Lib.hid hth
  have HOK := Lib.hid hcl
  have CN := Lib.hid (fun n h (k : Nat) hk W => r18Number_any n h k hk W)
  have HBD := Lib.hid hbd
  clear hs hth hm hbd hcl
  go_enter Tryd.func17, Tryd.ntmps17
  go_upto_region 1 with fail
  generalize hW : World.alloc _ _ = W
  have hr := HT.out W hW
  have HSZ : Hid (∀ W, w.alloc (.cells (rowOf 23 f) 29) = W → W.heap.size = w.heap.size + 1) := Lib.hid fun W e => by rw [← e]; simp
  have hW2 := hW
  clear hW HT
  generalize hg : w.heap.size = g at *
  have HG := Lib.hid hg; clear hg
  have hX := hr.1
  have HB0 := Lib.hid hr.2
  have hsz : W.heap.size = g + 1 := HSZ.out W hW2
  have hth2 : ∀ c : Array Value, (W.alloc (.cells c 24)).heap[g + 1]? = some (.cells c 24 (0, 0)) := fun c => by rw [← hsz]; exact heap_alloc_new W _
  have HPR : Hid (∀ c : Array Value, PutR g f s w ((W.alloc (.cells c 24)).setRow (g + 1) (rowOf 14 (ints s.c)))) := Lib.hid fun c => by
    have h3 : (W.alloc (.cells c 24)).setRow (g + 1) (rowOf 14 (ints s.c)) = W.alloc (.cells (rowOf 14 (ints s.c)) 24) := by rw [← hsz]; exact World.setRow_alloc_new W _ _ _
    rw [h3]
    refine ⟨hX.keep ((Below.refl _ _).alloc (Nat.le_refl _) _), ?_, HB0.out.alloc (by omega) _⟩
    rw [← hsz]; exact Row.new W _ _ _ _ rfl
  clear HSZ hW2
  go_upto_region 2 with (first
    | (refine wpList_load_mid rfl 24 _ rfl g 0 rfl ((List.range 14).map (ints s.c)) _ hX.confR Tryd.underlying24 rfl (by kernel_rfl) ?_)
    | (refine wpList_store_row rfl 24 _ _ rfl (g + 1) (rowOf 14 (ints s.c)) rfl rfl 24 _ (hth2 _) (by kernel_rfl) rfl (ints_one _ _) ?_))
  generalize hq : World.setRow (World.alloc W _) _ _ = W1
  have hP : PutR g f s w W1 := by rw [← hq]; exact HPR.out _
  clear hq HPR hth2 hX hsz HB0 hr
  clear W
  have HP := Lib.hid hP
  have c0 : W1.cell? ⟨g + 1, 0, none⟩ = some (.int .i64 (s.c 0)) := hP.cf.cell (i := 0) (by omega)
  have c1 : W1.cell? ⟨g + 1, 1, none⟩ = some (.int .i64 (s.c 1)) := hP.cf.cell (i := 1) (by omega)
  clear hP
  generalize hB : W1.heap.size = B at *
  have HBB := Lib.hid hB; clear hB
  go_upto_region 3 with fail
  have HR0 : Hid (OwnR W1 B 5 1 (.slice (some ⟨B, 0, none⟩) 2 2) (putOf s.c 0).length (flatB (putOf s.c 0)) (W1.alloc (.cells #[.int .u8 (s.c 0 % 256), .int .u8 (s.c 1 % 256)] 5))) := Lib.hid ⟨(Below.refl _ _).alloc (by rw [HBB.out]; exact Nat.le_refl _) _, by
    have := World.ownsRow_lit (base := B) (e := 5) (size := 1) W1 #[.int .u8 (s.c 0 % 256), .int .u8 (s.c 1 % 256)] 2 (by rw [HBB.out]; exact Nat.le_refl _) (by decide) rfl
    rwa [HBB.out] at this, by simp [HBB.out]⟩
  have hol := putOf_len s.c
  have HOF : Hid (∀ t, putOf s.c (t + 1) = putOf s.c t ++ [s.c (2 + t) % 256]) := Lib.hid fun _ => rfl
  have HK : Hid (∀ wr, Below B W1 wr → PutR g f s w wr) := Lib.hid fun wr h => HP.out.below h HBB.out.symm
  clear c0 c1 HP
  go_wp2_with fail
  go_loopw [4, 5] (fun b i wr => ∃ t : Nat, i = .int .i64 t ∧ t ≤ 8 ∧ OwnR W1 B 5 1 b (putOf s.c t).length (flatB (putOf s.c t)) wr) (fun _ i _ => 8 - (intOf i).toNat)
  case atStart => exact ⟨0, rfl, Nat.zero_le _, by rw [← HBB.out]; rw [HBB.out]; exact HR0.out⟩
  case round =>
    clear HR0
    obtain ⟨t, rfl, ht, hr⟩ := hrel
    have hot := hol t
    by_cases hlt : t < 8
    · have h8 : (t : Int) < 8 := by omega
      have co : wr.cell? ⟨g + 1, 2 + t, none⟩ = some (.int .i64 (s.c (2 + t))) := (HK.out wr hr.bel).cf.cell (i := 2 + t) (by omega)
      have HR := Lib.hid hr; clear hr
      have HS := Lib.hid (HOF.out t)
      generalize s.c (2 + t) = ot at *
      generalize putOf s.c t = xs at *
      go_wp2_with (at_builtin; refine wpB_app rfl _ _ rfl rfl (HR.out.alloc _) ⟨wr.heap.size, 0, none⟩ 1 [ot % 256] rfl (lies_litB wr 5 rfl) (by simp; omega) ?_; intro v' w4 h4 hg4; have HZ := Lib.hid h4; clear h4 hg4)
      go_roundw
      case rel => exact ⟨t + 1, by go_num, by omega, by rw [HS.out]; exact HZ.out⟩
      case measure => simp [intOf]; omega
    · obtain rfl : t = 8 := by omega
      rw [show ((8 : Nat) : Int) = 8 from rfl]
      have HHD : Hid (putHd s.c = putOf s.c 8 ++ [s.c 10 % 256, s.c 11 % 256] ++ numB (IntKind.u64.wrap (s.c 12)) 3 ++ [s.c 13 % 256]) := Lib.hid rfl
      have hP := HK.out wr hr.bel
      have c3 : wr.cell? ⟨g + 1, 10, none⟩ = some (.int .i64 (s.c 10)) := hP.cf.cell (i := 10) (by omega)
      have c4 : wr.cell? ⟨g + 1, 11, none⟩ = some (.int .i64 (s.c 11)) := hP.cf.cell (i := 11) (by omega)
      have HR := Lib.hid hr; clear hr hP
      generalize hxs : putOf s.c 8 = xs at *
      have HQ := Lib.hid hxs; clear hxs
      go_upto_region 8 with (at_builtin; refine wpB_app rfl _ _ rfl rfl (HR.out.alloc _) ⟨wr.heap.size, 0, none⟩ 2 [s.c 10 % 256, s.c 11 % 256] rfl (lies_litB wr 5 rfl) (by simp; omega) ?_; intro v1 w4 h4 hg4; have HR1 := Lib.hid h4; clear h4 hg4)
      clear c3 c4 HR
      have c5 : w4.cell? ⟨g + 1, 12, none⟩ = some (.int .i64 (s.c 12)) := (HK.out w4 HR1.out.bel).cf.cell (i := 12) (by omega)
      have C3 := Lib.hid (r18Num_some (IntKind.u64.wrap (s.c 12)) (by rw [IntKind.wrap_u64]; omega) 3 (by omega) (by omega) w4)
      have hnl := numB_len (IntKind.u64.wrap (s.c 12)) 3
      generalize hn3 : numB (IntKind.u64.wrap (s.c 12)) 3 = n3 at *
      have HN3 := Lib.hid hn3; clear hn3
      have HNL := Lib.hid hnl; clear hnl
      go_upto_region 9 with (first
        | (go_at_call 35; refine C3.out.mono ?_; rintro e w5 ⟨p, c, rfl, hl, hb⟩; have HR2 := Lib.hid (HR1.out.keep hb); have HL := Lib.hid hl; clear hl hb)
        | (at_builtin; refine wpB_app rfl _ _ rfl rfl HR2.out p c n3 rfl HL.out (by have := HNL.out; simp; omega) ?_; intro v2 w6 h4 hg4; have HR3 := Lib.hid h4; clear h4 hg4))
      clear c5 C3 HR1
      have c6 : w6.cell? ⟨g + 1, 13, none⟩ = some (.int .i64 (s.c 13)) := (HK.out w6 HR3.out.bel).cf.cell (i := 13) (by omega)
      go_upto_region 10 with (at_builtin; refine wpB_app rfl _ _ rfl rfl (HR3.out.alloc _) ⟨w6.heap.size, 0, none⟩ 1 [s.c 13 % 256] rfl (lies_litB w6 5 rfl) (by have := HNL.out; simp; omega) ?_; intro v3 w7 h4 hg4; have HR4 := Lib.hid h4; clear h4 hg4)
      rw [← HHD.out] at HR4
      clear c6 HR3 HL HQ HN3 HHD HOF hol HR2
      obtain ⟨T, hT⟩ : ∃ T : Nat, s.c 1 = (T : Int) := ⟨(s.c 1).toNat, by have := HBD.out.2.1; omega⟩
      have hT8 : T ≤ 8 := by have := HBD.out.2.1; omega
      have HT := Lib.hid hT
      have HPL := Lib.hid (fun t ht => putPs_len hlp t ht)
      have HPS : Hid (∀ t, putPs s (t + 1) = putCs (s.p t) (putPs s t) (s.p t).length) := Lib.hid fun _ => rfl
      have HP0 : Hid (putPs s 0 = putHd s.c) := Lib.hid rfl
      have HLP := Lib.hid hlp
      clear hT hlp
      go_wp2_with fail
      go_loopw [4, 6] (fun b i wr => ∃ t : Nat, i = .int .i64 t ∧ t ≤ T ∧ OwnR W1 B 5 1 b (putPs s t).length (flatB (putPs s t)) wr) (fun _ i _ => T - (intOf i).toNat)
      case atStart => exact ⟨0, rfl, Nat.zero_le _, by rw [HP0.out]; exact HR4.out⟩
      case round =>
        clear HR4 HP0
        obtain ⟨t, rfl, ht, hr⟩ := hrel
        have hP := HK.out wr hr.bel
        have c7 : wr.cell? ⟨g + 1, 1, none⟩ = some (.int .i64 (T : Int)) := by rw [hP.cf.cell (i := 1) (by omega), ← HT.out]; rfl
        by_cases hlt : t < T
        · have h8 : (t : Int) < 8 := by omega
          have h8n : t < 8 := by omega
          have hpl := HPL.out t (by omega)
          obtain ⟨A3, c3, p3, l3⟩ := hP.at_.progV h8n
          have HR := Lib.hid hr
          have HPSt := Lib.hid (HPS.out t)
          have hn3 := HLP.out t h8n
          have HOKt := Lib.hid (HOK.out t h8n)
          have HCL := putCs_len (s.p t) (putPs s t)
          have HCS : Hid (∀ k, putCs (s.p t) (putPs s t) (k + 1) = putCs (s.p t) (putPs s t) k ++ putC (clN (s.p t) k)) := Lib.hid fun _ => rfl
          have HC0 : Hid (putCs (s.p t) (putPs s t) 0 = putPs s t ++ [((s.p t).length : Int) % 256]) := Lib.hid rfl
          have HPV : Hid (∀ W, PutR g f s w W → ∃ A c, W.cell? ⟨g, 14 + t, none⟩ = some (.slice A (s.p t).length c) ∧ LiesC W A (flatF clF (s.p t))) := Lib.hid fun W h => h.at_.progV h8n
          clear hP hr l3
          generalize hxs : putPs s t = xs at *
          generalize hps : s.p t = P at *
          generalize hnn : P.length = n at *
          have HXN := Lib.hid (And.intro hxs hps)
          have hn1 := Lib.hid hn3
          clear hxs hps hn3
          go_upto_region 14 with (at_builtin; refine wpB_app rfl _ _ rfl rfl (HR.out.alloc _) ⟨wr.heap.size, 0, none⟩ 1 [(n : Int) % 256] rfl (lies_litB wr 5 rfl) (by simp; omega) ?_; intro v1 w4 h4 hg4; have HR1 := Lib.hid h4; clear h4 hg4)
          rw [← HC0.out] at HR1
          clear p3 c7 HR
          go_wp2_with fail
          go_loopw [4, 7] (fun b i wr => ∃ k : Nat, i = .int .i64 k ∧ k ≤ n ∧ OwnR W1 B 5 1 b (putCs P xs k).length (flatB (putCs P xs k)) wr) (fun _ i _ => n - (intOf i).toNat)
          case atStart => exact ⟨0, rfl, Nat.zero_le _, HR1.out⟩
          case round =>
            clear HR1
            obtain ⟨k, rfl, hk, hr⟩ := hrel
            have hcl := HCL k
            obtain ⟨A4, c4, p4, l4⟩ := HPV.out wr (HK.out wr hr.bel)
            by_cases hlt2 : k < n
            · obtain ⟨b2, off2, rfl, _, x2⟩ := l4.atCl (by omega)
              have HRG : Hid (wr.rangeAt b2 (off2 + k * 7) (clF (clN P k))) := Lib.hid (x2 k (by omega))
              have hok := HOKt.out k hlt2
              have HCk := Lib.hid (HCS.out k)
              have HR := Lib.hid hr
              have hn1' := hn1.out
              have HB8 := Lib.hid (fun W => refBits_any (clN P k).key hok.key W)
              have C1 := Lib.hid (fun W => r18Num_some (IntKind.u64.wrap (clN P k).key) (by rw [IntKind.wrap_u64]; omega) 8 (by omega) (by omega) W)
              have C2 := Lib.hid (fun W => r18Num_some (clN P k).pa hok.pa 8 (by omega) (by omega) W)
              have C3 := Lib.hid (fun W => r18Num_some (clN P k).pb hok.pb 8 (by omega) (by omega) W)
              have C4 := Lib.hid (fun W => r18Num_some (clN P k).hd hok.hd 8 (by omega) (by omega) W)
              have HPC : Hid (putC (clN P k) = [(clN P k).op % 256, (clN P k).l % 256, (clN P k).r % 256] ++ numB (IntKind.u64.wrap (clN P k).key) 8 ++ numB (clN P k).pa 8 ++ numB (clN P k).pb 8 ++ numB (clN P k).hd 8) := Lib.hid rfl
              have HN8 := Lib.hid (fun n => numB_len n 8)
              clear x2 l4 hr hok
              generalize hxk : clN P k = x at *
              clear hxk
              generalize putCs P xs k = ys at *
              go_upto_region 18 with (first
                | (refine wpList_load_mid rfl 61 _ rfl b2 (off2 + k * 7) rfl (clF x) _ HRG.out Tryd.underlying61 rfl (by kernel_rfl) ?_)
                | (refine wpList_store_row rfl 61 _ _ rfl wr.heap.size (clF x).toArray rfl rfl 61 (clF zeroCl).toArray (heap_alloc_new wr _) (by kernel_rfl) rfl (clF_all _) ?_))
              rw [World.setRow_alloc_new]
              have hS : StR W1 B wr.heap.size (clF x) u4 ys (wr.alloc (.cells (clF x).toArray 61)) := ⟨HR.out.alloc _, Cells.new wr _ _⟩
              generalize wr.alloc (.cells (clF x).toArray 61) = w5 at *
              generalize wr.heap.size = h at *
              have HS0 := Lib.hid hS
              have q0 : w5.cell? ⟨h, 0, none⟩ = some (.int .i64 x.op) := hS.blk.cell 0
              have q1 : w5.cell? ⟨h, 1, none⟩ = some (.int .i64 x.l) := hS.blk.cell 1
              have q6 : w5.cell? ⟨h, 6, none⟩ = some (.int .i64 x.r) := hS.blk.cell 6
              clear hS HR HRG p4
              go_upto_region 19 with (at_builtin; refine wpB_app2 rfl _ _ rfl rfl (HS0.out.alloc _) ⟨w5.heap.size, 0, none⟩ 3 [x.op % 256, x.l % 256, x.r % 256] rfl (lies_litB w5 5 rfl) (by simp; omega) ?_; intro v1 w6 h4; have HS1 := Lib.hid h4; clear h4)
              have q2 : w6.cell? ⟨h, 2, none⟩ = some (.int .i64 x.key) := HS1.out.blk.cell 2
              clear q0 q1 q6 HS0
              go_upto_region 20 with (first | (go_at_call 36; refine (HB8.out _).mono ?_; rintro e w' ⟨rfl, rfl⟩) | (go_at_call 35; refine (C1.out _).mono ?_; rintro e w7 ⟨p, c, rfl, hl, hb⟩; have HS2 := Lib.hid (HS1.out.keep hb); have HL := Lib.hid hl; clear hl hb) | (at_builtin; refine wpB_app2 rfl _ _ rfl rfl HS2.out p c (numB (IntKind.u64.wrap x.key) 8) rfl HL.out (by have := HN8.out x.pa; have := HN8.out x.pb; have := HN8.out x.hd; have := HN8.out (IntKind.u64.wrap x.key); simp; omega) ?_; intro v9 w6 h4; have HS3 := Lib.hid h4; clear h4))
              have q3 : w6.cell? ⟨h, 3, none⟩ = some (.int .u64 x.pa) := HS3.out.blk.cell 3
              clear q2 HS1 HS2 HL
              go_upto_region 21 with (first | (go_at_call 35; refine (C2.out _).mono ?_; rintro e w7 ⟨p, c, rfl, hl, hb⟩; have HS4 := Lib.hid (HS3.out.keep hb); have HL := Lib.hid hl; clear hl hb) | (at_builtin; refine wpB_app2 rfl _ _ rfl rfl HS4.out p c (numB x.pa 8) rfl HL.out (by have := HN8.out x.pa; have := HN8.out x.pb; have := HN8.out x.hd; have := HN8.out (IntKind.u64.wrap x.key); simp; omega) ?_; intro v9 w6 h4; have HS5 := Lib.hid h4; clear h4))
              have q4 : w6.cell? ⟨h, 4, none⟩ = some (.int .u64 x.pb) := HS5.out.blk.cell 4
              clear q3 HS3 HS4 HL
              go_upto_region 22 with (first | (go_at_call 35; refine (C3.out _).mono ?_; rintro e w7 ⟨p, c, rfl, hl, hb⟩; have HS6 := Lib.hid (HS5.out.keep hb); have HL := Lib.hid hl; clear hl hb) | (at_builtin; refine wpB_app2 rfl _ _ rfl rfl HS6.out p c (numB x.pb 8) rfl HL.out (by have := HN8.out x.pa; have := HN8.out x.pb; have := HN8.out x.hd; have := HN8.out (IntKind.u64.wrap x.key); simp; omega) ?_; intro v9 w6 h4; have HS7 := Lib.hid h4; clear h4))
              have q5 : w6.cell? ⟨h, 5, none⟩ = some (.int .u64 x.hd) := HS7.out.blk.cell 5
              clear q4 HS5 HS6 HL
              have HEQ : Hid (ys ++ [x.op % 256, x.l % 256, x.r % 256] ++ numB (IntKind.u64.wrap x.key) 8 ++ numB x.pa 8 ++ numB x.pb 8 ++ numB x.hd 8 = putCs P xs (k + 1)) := Lib.hid (by rw [HCk.out, HPC.out]; simp only [List.append_assoc])
              go_wp2_with (first | (go_at_call 35; refine (C4.out _).mono ?_; rintro e w7 ⟨p, c, rfl, hl, hb⟩; have HS8 := Lib.hid (HS7.out.keep hb); have HL := Lib.hid hl; clear hl hb) | (at_builtin; refine wpB_app2 rfl _ _ rfl rfl HS8.out p c (numB x.hd 8) rfl HL.out (by have := HN8.out x.pa; have := HN8.out x.pb; have := HN8.out x.hd; have := HN8.out (IntKind.u64.wrap x.key); simp; omega) ?_; intro v9 w6 h4; have HS9 := Lib.hid h4; clear h4))
              have HZ := Lib.hid HS9.out.row
              rw [HEQ.out] at HZ
              go_roundw
              case rel => exact ⟨k + 1, by go_num, by omega, HZ.out⟩
              case measure => simp [intOf]; omega
            · obtain rfl : k = n := by omega
              rw [← HPSt.out] at hr
              have HR := Lib.hid hr
              clear hr
              go_wp2_with fail
              go_roundw
              case rel => exact ⟨t + 1, by go_num, by omega, HR.out⟩
              case measure => simp [intOf]; omega
        · obtain rfl : t = T := by omega
          have HE0 : Hid (putEs s 0 = putPs s t) := Lib.hid (by show putPs s (s.c 1).toNat = _; rw [HT.out, Int.toNat_natCast])
          rw [← HE0.out] at hr
          have HR := Lib.hid hr
          have hel := putEs_len HLP.out (by rw [HT.out, Int.toNat_natCast]; exact hT8)
          have HES : Hid (∀ k, putEs s (k + 1) = putEs s k ++ [((enN s.e k).th + 8 * (enN s.e k).wh) % 256]) := Lib.hid fun _ => rfl
          have HFI : Hid (putEs s s.e.length = putS18 s) := Lib.hid rfl
          clear hr hP
          generalize hnn : s.e.length = n at *
          go_wp2_with fail
          go_loopw [4, 9] (fun b i wr => ∃ k : Nat, i = .int .i64 k ∧ k ≤ n ∧ OwnR W1 B 5 1 b (putEs s k).length (flatB (putEs s k)) wr) (fun _ i _ => n - (intOf i).toNat)
          case atStart => exact ⟨0, rfl, Nat.zero_le _, HR.out⟩
          case round =>
            clear HR c7
            obtain ⟨k, rfl, hk, hr⟩ := hrel
            have hekl := hel k
            obtain ⟨A4, c4, p4, l4⟩ := (HK.out wr hr.bel).at_.entsV
            rw [hnn] at p4
            by_cases hlt2 : k < n
            · obtain ⟨b1, off1, rfl, q0, q1⟩ := l4.atEnt2 (k := k) (by omega)
              have hth := HTH.out k hlt2
              have HESk := Lib.hid (HES.out k)
              have HR := Lib.hid hr
              clear l4 hr
              generalize (enN s.e k).th = th at *
              generalize (enN s.e k).wh = wh at *
              generalize putEs s k = xs at *
              have d1 : wrap64 (8 * wh) = 8 * wh := by unfold wrap64; omega
              have d2 : wrap64 (th + 8 * wh) = th + 8 * wh := by unfold wrap64; omega
              have d3 : IntKind.i64.wrap (8 * wh) = 8 * wh := by rw [IntKind.wrap_i64]; omega
              have d4 : IntKind.i64.wrap (th + 8 * wh) = th + 8 * wh := by rw [IntKind.wrap_i64]; omega
              have d5 : IntKind.u8.wrap (th + 8 * wh) = (th + 8 * wh) % 256 := by rw [IntKind.wrap_u8]
              have HB2 : Hid (0 ≤ th + 8 * wh) := Lib.hid (by omega)
              clear hth
              obtain ⟨j0, hj0, hj1, hj2, hj3⟩ := infoB
              have HR3 := Lib.hid ((HR.out.alloc (.cells #[.int .u8 ((th + 8 * wh) % 256)] 5)).drew)
              have HN := Lib.hid (Cells.new wr #[.int .u8 ((th + 8 * wh) % 256)] 5).drew.news
              go_upto_region 26 with fail
              have e4 : wr.drew.cell? ⟨g, 22, none⟩ = some (.slice (some ⟨b1, off1, none⟩) n c4) := p4
              have e0 : wr.drew.cell? ⟨b1, off1 + k * 2, none⟩ = some (.int .i64 th) := q0
              have e1 : wr.drew.cell? ⟨b1, off1 + k * 2 + 1, none⟩ = some (.int .i64 wh) := q1
              go_region_law (refine step_append_own rfl _ _ 39 rfl B 5 j0 (.int .u8 0) 1 1 Tryd.underlying39 hj0 hj1 hj2 hj3 rfl (by decide) u4 xs.length (flatB xs) (by simp [Act.eval, Act.put]) HR3.out.own ⟨wr.heap.size, 0, none⟩ 1 1 (flatB [(th + 8 * wh) % 256]) (by simp [Act.eval, Act.put]) rfl HN.out (flatB_one _) (by unfold maxLen; omega) (by omega) HR3.out.le ?_
                             intro v2 w4 hown hgrow
                             have HR4 := Lib.hid (HR3.out.grow hown hgrow); clear hown hgrow)
              all_goals
                go_wp2_with fail
                go_roundw
                case rel => exact ⟨k + 1, by go_num, by omega, by rw [HESk.out, List.length_append, flatB_append]; exact HR4.out⟩
                case measure => simp [intOf]; omega
            · obtain rfl : k = n := by omega
              rw [HFI.out] at hr
              have HR := Lib.hid hr
              clear hr l4
              go_wp2_with fail
              go_ret
              exact ⟨_, rfl, lnIs_of_own HR.out.own, (far_of_own HR.out.own).mono (by have := HK.out W1 (Below.refl _ _); have h9 := this.cf.lt; rw [HG.out, ← HBB.out]; omega), by rw [HG.out]; exact (HK.out _ HR.out.bel).bel⟩
end Go.Proofs.YtdbankogamolcaaDoor
namespace Go.Proofs.YtdbankogamolcaaDoor
set_option linter.unusedSimpArgs false
set_option linter.unusedVariables false
open Go.ChangeShapes Go.WideShapes Go.RowKit Go.Extern.Stop Go.Stop Go.Extern

/-- An error of package fail's make: a code, a nil Error, none, an Error (its block), a note. -/
inductive Errs where
  | code (c : Int)
  | nilE
  | no
  | err (g : Nat) (t l : Int) (s : List UInt8) (i : Errs)
  | note (g : Nat) (s : List UInt8) (i : Errs)
def Errs.val : Errs → Value
  | .code c => .iface 35 (.int .i64 c)
  | .nilE => .iface 107 (.pointer none)
  | .no => .nilIface
  | .err g _ _ _ _ => .iface 107 (.pointer (some ⟨g, 0, none⟩))
  | .note g _ _ => .iface 80 (.pointer (some ⟨g, 0, none⟩))
def Errs.inner : Errs → Errs
  | .err _ _ _ _ i => i
  | .note _ _ i => i
  | _ => .no
/-- Two more than its block's place; 1, if it has none; 0 of none. -/
def Errs.top : Errs → Nat
  | .err g _ _ _ _ => g + 2
  | .note g _ _ => g + 2
  | .no => 0
  | _ => 1
def Errs.deep : Errs → Nat
  | .err _ _ _ _ .no => 0
  | .err _ _ _ _ i => 1 + i.deep
  | .note _ _ .no => 0
  | .note _ _ i => 1 + i.deep
  | _ => 0
/-- It is in memory. -/
def ErrsIs (w : World) : Errs → Prop
  | .code c => -9223372036854775808 ≤ c ∧ c ≤ 9223372036854775807
  | .nilE => True
  | .no => True
  | .err g t l s i => g < w.heap.size ∧ w.cell? ⟨g, 0, none⟩ = some (.int .i64 t) ∧ w.cell? ⟨g, 1, none⟩ = some (.int .i64 l) ∧ w.cell? ⟨g, 2, none⟩ = some (.string (sB s)) ∧ w.cell? ⟨g, 3, none⟩ = some i.val
      ∧ (-9223372036854775808 ≤ t ∧ t ≤ 9223372036854775807) ∧ (-9223372036854775808 ≤ l ∧ l ≤ 9223372036854775807) ∧ s.length ≤ 200 ∧ i.top ≤ g + 1 ∧ ErrsIs w i
  | .note g s i => g < w.heap.size ∧ w.cell? ⟨g, 0, none⟩ = some (.string (sB s)) ∧ w.cell? ⟨g, 1, none⟩ = some i.val ∧ s.length ≤ 200 ∧ i.top ≤ g + 1 ∧ ErrsIs w i
theorem ErrsIs.keep {w w' : World} (hs : w.heap.size ≤ w'.heap.size) (hc : ∀ p : Addr, p.block < w.heap.size → w'.cell? p = w.cell? p) : ∀ {e : Errs}, ErrsIs w e → ErrsIs w' e
  | .code _, h => h
  | .nilE, h => h
  | .no, h => h
  | .err g t l s i, ⟨h0, h1, h2, h3, h4, h5, h6, h7, h8, h9⟩ => ⟨by omega, (hc _ h0).trans h1, (hc _ h0).trans h2, (hc _ h0).trans h3, (hc _ h0).trans h4, h5, h6, h7, h8, ErrsIs.keep hs hc h9⟩
  | .note g s i, ⟨h0, h1, h2, h7, h8, h9⟩ => ⟨by omega, (hc _ h0).trans h1, (hc _ h0).trans h2, h7, h8, ErrsIs.keep hs hc h9⟩
theorem ErrsIs.below {w w' : World} {e : Errs} (h : ErrsIs w e) (hb : Below w.heap.size w w') : ErrsIs w' e := h.keep hb.size (fun _ hp => hb.cell hp)
theorem ErrsIs.drew {w : World} {e : Errs} (h : ErrsIs w e) : ErrsIs w.drew e := ErrsIs.keep (w := w) (w' := w.drew) (Nat.le_refl _) (fun _ _ => rfl) h
theorem ErrsIs.inner {w : World} {e : Errs} (h : ErrsIs w e) : ErrsIs w e.inner := by
  cases e with
  | err g t l s i => exact h.2.2.2.2.2.2.2.2.2
  | note g s i => exact h.2.2.2.2.2
  | _ => exact True.intro
/-- What a walk measures by. -/
def mV : Value → Nat
  | .iface _ (.pointer (some a)) => a.block + 2
  | .iface _ _ => 1
  | _ => 0
theorem mV_val (e : Errs) : mV e.val = e.top := by cases e <;> rfl

section
variable (v : Value) (xT : TypeId) (w : World)
theorem tU_code : (Instr.typeAssert (.iface 35 v) xT 121 true).run Tryd.prog w = .ok (.tuple #[.nilIface, .bool false]) w := run_typeAssert_lacksB Tryd.underlying121 (by kernel_rfl) (by kernel_rfl) v xT w
theorem tU_err : (Instr.typeAssert (.iface 107 v) xT 121 true).run Tryd.prog w = .ok (.tuple #[.iface 107 v, .bool true]) w := run_typeAssert_hasB Tryd.underlying121 (by kernel_rfl) v xT w
theorem tU_note : (Instr.typeAssert (.iface 80 v) xT 121 true).run Tryd.prog w = .ok (.tuple #[.iface 80 v, .bool true]) w := run_typeAssert_hasB Tryd.underlying121 (by kernel_rfl) v xT w
theorem tUs_code : (Instr.typeAssert (.iface 35 v) xT 123 true).run Tryd.prog w = .ok (.tuple #[.nilIface, .bool false]) w := run_typeAssert_lacksB Tryd.underlying123 (by kernel_rfl) (by kernel_rfl) v xT w
theorem tUs_err : (Instr.typeAssert (.iface 107 v) xT 123 true).run Tryd.prog w = .ok (.tuple #[.nilIface, .bool false]) w := run_typeAssert_lacksB Tryd.underlying123 (by kernel_rfl) (by kernel_rfl) v xT w
theorem tUs_note : (Instr.typeAssert (.iface 80 v) xT 123 true).run Tryd.prog w = .ok (.tuple #[.nilIface, .bool false]) w := run_typeAssert_lacksB Tryd.underlying123 (by kernel_rfl) (by kernel_rfl) v xT w
theorem tU_nil : (Instr.typeAssert .nilIface xT 121 true).run Tryd.prog w = .ok (.tuple #[.nilIface, .bool false]) w := by kernel_rfl
theorem tUs_nil : (Instr.typeAssert .nilIface xT 123 true).run Tryd.prog w = .ok (.tuple #[.nilIface, .bool false]) w := by kernel_rfl
theorem mU_err : (Go.method 278 107 v "Unwrap").run Tryd.prog w = .ok (113, v) w := by kernel_rfl
theorem mU_note : (Go.method 278 80 v "Unwrap").run Tryd.prog w = .ok (108, v) w := by kernel_rfl
end

theorem eUnwrap_nil (w : World) : Calls Tryd.prog 113 #[.pointer none] w fun e w' => e = .returned .nilIface ∧ w = w' := by
  go_enter Tryd.func113, Tryd.ntmps113
  go_wp2
  go_ret
  exact ⟨rfl, rfl⟩
theorem eUnwrap_any (g : Nat) (v : Value) (w : World) (h : w.cell? ⟨g, 3, none⟩ = some v) : Calls Tryd.prog 113 #[.pointer (some ⟨g, 0, none⟩)] w fun e w' => e = .returned v ∧ w = w' := by
  go_enter Tryd.func113, Tryd.ntmps113
  go_wp2
  go_ret
  exact ⟨rfl, rfl⟩
theorem nUnwrap_any (g : Nat) (v : Value) (w : World) (h : w.cell? ⟨g, 1, none⟩ = some v) : Calls Tryd.prog 108 #[.pointer (some ⟨g, 0, none⟩)] w fun e w' => e = .returned v ∧ w = w' := by
  go_enter Tryd.func108, Tryd.ntmps108
  go_wp2
  go_ret
  exact ⟨rfl, rfl⟩
theorem neq_val (e : Errs) (h : e ≠ .no) (w : World) : (binOp .neq 33 e.val .nilIface).run Tryd.prog w = .ok (.bool true) w := by
  cases e <;> first | exact absurd rfl h | exact run_neq_iface_nil w _ (by kernel_rfl) _ _
theorem eql_val (e : Errs) (h : e ≠ .no) (w : World) : (binOp .eql 33 e.val .nilIface).run Tryd.prog w = .ok (.bool false) w := by
  cases e <;> first | exact absurd rfl h | exact run_eql_iface_nil w _ (by kernel_rfl) _ _
theorem val_iface (e : Errs) (h : e ≠ .no) : ∃ T v, e.val = .iface T v := by
  cases e <;> first | exact absurd rfl h | exact ⟨_, _, rfl⟩
theorem deep_no (e : Errs) (h : e.inner = .no) : e.deep = 0 := by
  cases e with
  | err g t l s i => obtain rfl : i = .no := h; rfl
  | note g s i => obtain rfl : i = .no := h; rfl
  | _ => rfl
theorem deep_more (e : Errs) (h : e.inner ≠ .no) : e.deep = 1 + e.inner.deep := by
  cases e with
  | err g t l s i => cases i <;> first | exact absurd rfl h | rfl
  | note g s i => cases i <;> first | exact absurd rfl h | rfl
  | _ => exact absurd rfl h
theorem top_inner (e : Errs) {w : World} (h : ErrsIs w e) (hn : e ≠ .no) : e.inner.top < e.top := by
  cases e with
  | err g t l s i => have := h.2.2.2.2.2.2.2.2.1; show i.top < g + 2; omega
  | note g s i => have := h.2.2.2.2.1; show i.top < g + 2; omega
  | no => exact absurd rfl hn
  | _ => exact Nat.zero_lt_one
end Go.Proofs.YtdbankogamolcaaDoor
namespace Go.Proofs.YtdbankogamolcaaDoor
set_option linter.unusedSimpArgs false
set_option linter.unusedVariables false
open Go.ChangeShapes Go.WideShapes Go.RowKit Go.Extern.Stop Go.Stop Go.Extern

end Go.Proofs.YtdbankogamolcaaDoor
