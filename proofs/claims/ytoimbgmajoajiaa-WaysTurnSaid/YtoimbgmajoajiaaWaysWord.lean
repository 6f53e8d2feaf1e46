/- A set's word, as package ways makes it. -/
import Derived.Test.YtoimbgmajoajiaaWays
namespace Go.Proofs.Ytoimbgmajoajiaa
open Go.ChangeShapes Go.WideShapes Go.ChangeAt Go.RowKit

/-- A part that is nought, set, adds. -/
theorem add_part {x n a s : Nat} (hx : x < 18446744073709551616) (h : a + s ≤ 64) (hz : x / pw a % pw s = 0) : setN x (a : Nat) (s : Nat) n = x + pw a * (n % pw s) := by
  rw [setN_div hx (by omega) (by omega) (by omega), show ((a : Int) + (s : Int)).toNat = a + s by omega, Int.toNat_natCast, Int.toNat_natCast]
  have h1 : x / pw (a + s) = x / pw a / pw s := by unfold pw; rw [Nat.pow_add, Nat.div_div_eq_div_mul]
  have h2 := Nat.div_add_mod (x / pw a) (pw s)
  rw [hz, Nat.add_zero] at h2
  have h3 := Nat.div_add_mod x (pw a)
  rw [h1, h2, Nat.mul_add]
  omega
/-- Ways' bits, of the first k of them. -/
def lows (s : WS) : Nat → Nat
  | 0 => 0
  | k + 1 => lows s k + pw (9 * k) * (s.slot k % 256).toNat + pw (9 * k + 8) * (s.tch k).toNat
def headN (s : WS) : Nat := pw 36 * (s.hand % 4).toNat + pw 38 * (s.turns % 67108864)
def wordN (s : WS) : Nat := headN s + lows s 4
theorem lows_lt (s : WS) (k : Nat) : lows s k < pw (9 * k) := by
  induction k with
  | zero => exact pw_pos _
  | succ k ih =>
    unfold lows
    have h1 : pw (9 * (k + 1)) = 512 * pw (9 * k) := by unfold pw; rw [show 9 * (k + 1) = 9 * k + 9 by omega, Nat.pow_add]; omega
    have h2 : pw (9 * k + 8) = 256 * pw (9 * k) := by unfold pw; rw [Nat.pow_add]; omega
    have h3 : pw (9 * k) * (s.slot k % 256).toNat ≤ pw (9 * k) * 255 := Nat.mul_le_mul_left _ (by omega)
    have h4 : pw (9 * k + 8) * (s.tch k).toNat ≤ pw (9 * k + 8) * 1 := Nat.mul_le_mul_left _ (by cases s.tch k <;> decide)
    omega
theorem headN_eq (s : WS) : ∃ q, headN s = 68719476736 * q ∧ q < 268435456 := ⟨(s.hand % 4).toNat + 4 * (s.turns % 67108864), by unfold headN; rw [show pw 36 = 68719476736 from rfl, show pw 38 = 274877906944 from rfl]; omega, by omega⟩
theorem part_lt (s : WS) {k : Nat} (hk : k ≤ 4) : headN s + lows s k < 18446744073709551616 := by
  obtain ⟨q, h1, h2⟩ := headN_eq s
  have h3 := lows_lt s k
  have h4 : pw (9 * k) ≤ pw 36 := pw_le (by omega)
  rw [show pw 36 = 68719476736 from rfl] at h4
  omega
theorem wordN_lt (s : WS) : wordN s < 18446744073709551616 := part_lt s (Nat.le_refl 4)
theorem head_step (s : WS) (_hs : OkS s) : setN (setN 0 38 26 s.turns) 36 2 (s.hand % 18446744073709551616).toNat = headN s := by
  have h1 : setN 0 38 26 s.turns = 0 + pw 38 * (s.turns % pw 26) := add_part (a := 38) (s := 26) (by omega) (by omega) (by rw [Nat.zero_div, Nat.zero_mod])
  have e1 : pw 38 = 274877906944 := rfl
  have e2 : pw 26 = 67108864 := rfl
  have e3 : pw 36 = 68719476736 := rfl
  have e4 : pw 2 = 4 := rfl
  rw [h1, e1, e2]
  have h2 := add_part (x := 0 + 274877906944 * (s.turns % 67108864)) (n := (s.hand % 18446744073709551616).toNat) (a := 36) (s := 2) (by omega) (by omega) (by rw [e3, e4]; omega)
  rw [e3, e4] at h2
  refine h2.trans ?_
  unfold headN
  rw [e1, e3]
  omega
theorem pw9 : pw (9 * 0) = 1 ∧ pw (9 * 1) = 512 ∧ pw (9 * 2) = 262144 ∧ pw (9 * 3) = 134217728 ∧ pw (9 * 0 + 8) = 256 ∧ pw (9 * 1 + 8) = 131072 ∧ pw (9 * 2 + 8) = 67108864 ∧ pw (9 * 3 + 8) = 34359738368 := ⟨rfl, rfl, rfl, rfl, rfl, rfl, rfl, rfl⟩
/-- The arithmetic of a step: the head's part, ways ahead, a way's slot, whether it is touched. -/
theorem free_slot {k q l : Nat} (hk : k < 4) (_hq : q < 268435456) (hl : l < pw (9 * k)) : (68719476736 * q + l) / pw (9 * k) % 256 = 0 := by
  obtain ⟨p0, p1, p2, p3, -⟩ := pw9
  rcases (show k = 0 ∨ k = 1 ∨ k = 2 ∨ k = 3 by omega) with rfl | rfl | rfl | rfl
  · rw [p0] at hl ⊢; omega
  · rw [p1] at hl ⊢; omega
  · rw [p2] at hl ⊢; omega
  · rw [p3] at hl ⊢; omega
theorem free_tch {k q l c : Nat} (hk : k < 4) (hq : q < 268435456) (hl : l < pw (9 * k)) (hc : c < 256) : (68719476736 * q + l + pw (9 * k) * c) / pw (9 * k + 8) % 2 = 0 ∧ 68719476736 * q + l + pw (9 * k) * c < 18446744073709551616 := by
  obtain ⟨p0, p1, p2, p3, p4, p5, p6, p7⟩ := pw9
  rcases (show k = 0 ∨ k = 1 ∨ k = 2 ∨ k = 3 by omega) with rfl | rfl | rfl | rfl
  · rw [p4]; rw [p0] at hl ⊢; omega
  · rw [p5]; rw [p1] at hl ⊢; omega
  · rw [p6]; rw [p2] at hl ⊢; omega
  · rw [p7]; rw [p3] at hl ⊢; omega
theorem low_step1 (s : WS) (k : Nat) (hk : k < 4) : setN (headN s + lows s k) (9 * k : Nat) 8 (s.slot k % 18446744073709551616).toNat = headN s + lows s k + pw (9 * k) * (s.slot k % 256).toNat := by
  have h1 := part_lt s (show k ≤ 4 by omega)
  have h2 := lows_lt s k
  obtain ⟨q, h3, h4⟩ := headN_eq s
  rw [h3] at h1 ⊢
  have h5 := add_part (x := 68719476736 * q + lows s k) (n := (s.slot k % 18446744073709551616).toNat) (a := 9 * k) (s := 8) h1 (by omega) (free_slot hk h4 h2)
  refine h5.trans ?_
  have e8 : pw 8 = 256 := rfl
  rw [e8]
  have h6 : (s.slot k % 18446744073709551616).toNat % 256 = (s.slot k % 256).toNat := by omega
  rw [h6]
theorem low_step2 (s : WS) (k : Nat) (hk : k < 4) : turnN (headN s + lows s k + pw (9 * k) * (s.slot k % 256).toNat) (9 * k + 8 : Nat) (s.tch k) = headN s + lows s (k + 1) := by
  have h2 := lows_lt s k
  have h6 : (s.slot k % 256).toNat < 256 := by omega
  have h7 : (s.tch k).toNat ≤ 1 := by cases s.tch k <;> decide
  obtain ⟨q, h3, h4⟩ := headN_eq s
  rw [turn_set]
  show _ = headN s + (lows s k + pw (9 * k) * (s.slot k % 256).toNat + pw (9 * k + 8) * (s.tch k).toNat)
  rw [h3]
  generalize (s.slot k % 256).toNat = c at *
  generalize (s.tch k).toNat = t at *
  generalize lows s k = l at *
  obtain ⟨f1, f2⟩ := free_tch hk h4 h2 h6
  have h5 := add_part (x := 68719476736 * q + l + pw (9 * k) * c) (n := t) (a := 9 * k + 8) (s := 1) f2 (by omega) f1
  refine h5.trans ?_
  have e1 : pw 1 = 2 := rfl
  rw [e1, Nat.mod_eq_of_lt (by omega)]
  omega

theorem way_0 (s : WS) (w : World) : (Instr.index 24 (.agg #[.int .i64 (s.slot 0), .bool (s.tch 0), .int .i64 (s.slot 1), .bool (s.tch 1), .int .i64 (s.slot 2), .bool (s.tch 2), .int .i64 (s.slot 3), .bool (s.tch 3)]) (.int .i64 0)).run Try.prog w = .ok (.agg #[.int .i64 (s.slot 0), .bool (s.tch 0)]) w := by kernel_rfl
theorem way_1 (s : WS) (w : World) : (Instr.index 24 (.agg #[.int .i64 (s.slot 0), .bool (s.tch 0), .int .i64 (s.slot 1), .bool (s.tch 1), .int .i64 (s.slot 2), .bool (s.tch 2), .int .i64 (s.slot 3), .bool (s.tch 3)]) (.int .i64 1)).run Try.prog w = .ok (.agg #[.int .i64 (s.slot 1), .bool (s.tch 1)]) w := by kernel_rfl
theorem way_2 (s : WS) (w : World) : (Instr.index 24 (.agg #[.int .i64 (s.slot 0), .bool (s.tch 0), .int .i64 (s.slot 1), .bool (s.tch 1), .int .i64 (s.slot 2), .bool (s.tch 2), .int .i64 (s.slot 3), .bool (s.tch 3)]) (.int .i64 2)).run Try.prog w = .ok (.agg #[.int .i64 (s.slot 2), .bool (s.tch 2)]) w := by kernel_rfl
theorem way_3 (s : WS) (w : World) : (Instr.index 24 (.agg #[.int .i64 (s.slot 0), .bool (s.tch 0), .int .i64 (s.slot 1), .bool (s.tch 1), .int .i64 (s.slot 2), .bool (s.tch 2), .int .i64 (s.slot 3), .bool (s.tch 3)]) (.int .i64 3)).run Try.prog w = .ok (.agg #[.int .i64 (s.slot 3), .bool (s.tch 3)]) w := by kernel_rfl
theorem way_at (s : WS) (k : Nat) (hk : k < 4) (w : World) : (Instr.index 24 (.agg #[.int .i64 (s.slot 0), .bool (s.tch 0), .int .i64 (s.slot 1), .bool (s.tch 1), .int .i64 (s.slot 2), .bool (s.tch 2), .int .i64 (s.slot 3), .bool (s.tch 3)]) (.int .i64 k)).run Try.prog w = .ok (.agg #[.int .i64 (s.slot k), .bool (s.tch k)]) w :=
  match k, hk with
  | 0, _ => way_0 s w
  | 1, _ => way_1 s w
  | 2, _ => way_2 s w
  | 3, _ => way_3 s w
set_option maxRecDepth 100000 in
theorem yWord_any (s : WS) (hs : OkS s) (w : World) : Calls Try.prog 6 #[.agg (rowOf 10 (setV s))] w fun e w' => e = .returned (.int .u64 (wordN s : Nat)) ∧ Below w.heap.size w w' := by
  have hA := hs.turns
  have c0 := Lib.hid (fun W => fSet_any 0 (by omega) 38 26 (by omega) (by omega) s.turns hA W)
  have c1 := Lib.hid (fun W => yWith_any (setN 0 38 26 s.turns) (bits64 _) 36 2 (by omega) (by omega) s.hand hs.hand W)
  rw [head_step s hs] at c1
  have hx0 : setN 0 38 26 s.turns < 18446744073709551616 := bits64 _
  generalize setN 0 38 26 s.turns = x0 at *
  have P := fun k (hk : k ≤ 4) => part_lt s (k := k) hk
  have HP := Lib.hid P; clear P
  have C1 := Lib.hid (fun k (hk : k < 4) W => yWith_any (headN s + lows s k) (HP.out k (by omega)) (9 * k : Nat) 8 (by omega) (by omega) (s.slot k) (hs.slot k) W)
  have C2 := Lib.hid (fun k (hk : k < 4) W => fTurn_any (headN s + lows s k + pw (9 * k) * (s.slot k % 256).toNat) (by rw [← low_step1 s k hk]; exact bits64 _) (9 * k + 8 : Nat) (by omega) (s.tch k) W)
  have E1 := Lib.hid (fun k hk => low_step1 s k hk)
  have E2 := Lib.hid (fun k hk => low_step2 s k hk)
  go_enter Try.func6, Try.ntmps6
  go_upto_region 1 with fail
  generalize hW : World.alloc _ _ = W
  have hr : Row W w.heap.size 27 10 (setV s) := by rw [← hW]; exact Row.new _ _ _ _ _ rfl
  have hB : Below w.heap.size w W := by rw [← hW]; exact (Below.refl _ _).alloc (Nat.le_refl _) _
  clear hW
  generalize hz : w.heap.size = a1 at *
  have HZ := Lib.hid hz; clear hz
  obtain ⟨u0, u1, u2, u3, u4, u5, u6, u7, u8, u9⟩ := set_cells hr
  clear hr
  go_wp2_with (first | (go_at_call 18; refine (c0.out _).mono ?_; rintro e w' ⟨rfl, rfl⟩) | (go_at_call 19; refine (c1.out _).mono ?_; rintro e w' ⟨rfl, rfl⟩))
  clear u0 u1 u2 u3 u4 u5 u6 u7 u8 u9
  go_loopw [16, 3] (fun i x wr => ∃ k : Nat, i = .int .i64 k ∧ x = .int .u64 (headN s + lows s k : Nat) ∧ k ≤ 4 ∧ Below W.heap.size W wr) (fun i _ _ => 4 - (intOf i).toNat)
  case atStart => exact ⟨0, rfl, rfl, by omega, Below.refl _ _⟩
  case round =>
    obtain ⟨k, rfl, rfl, hk, hbr⟩ := hrel
    by_cases hlt : k < 4
    · have c1 := C1.out k hlt
      have c2 := C2.out k hlt
      rw [E1.out k hlt] at c1
      rw [E2.out k hlt] at c2
      rw [show ((9 * k : Nat) : Int) = (k : Int) * 9 by omega] at c1
      rw [show ((9 * k + 8 : Nat) : Int) = (k : Int) * 9 + 8 by omega] at c2
      have hx := HP.out k hk
      have hy := HP.out (k + 1) hlt
      have HE : Hid (∃ z, z = headN s + lows s (k + 1)) := Lib.hid ⟨_, rfl⟩
      generalize headN s + lows s k = x at *
      generalize x + pw (9 * k) * (s.slot k % 256).toNat = y at *
      have HZ2 := Lib.hid (rfl : headN s + lows s (k + 1) = headN s + lows s (k + 1))
      generalize hgz : headN s + lows s (k + 1) = z at c2
      have HG := Lib.hid hgz
      have hs1 := hbr.size
      clear hgz C1 C2 E1 E2 HP HE HZ2 hx hy c0 hx0 hA
      have D1 := Lib.hid c1; have D2 := Lib.hid c2
      clear c1 c2
      have x1 := way_at s k hlt
      have q0 : (0 : Int) ≤ (k : Int) := by omega
      have q1 : (k : Int) < 4 := by omega
      go_wp2_with (first | (go_at_call 19; refine (D1.out _).mono ?_; rintro e w' ⟨rfl, rfl⟩) | (go_at_call 20; refine (D2.out _).mono ?_; rintro e w' ⟨rfl, rfl⟩))
      go_roundw
      case rel => exact ⟨k + 1, by go_num, congrArg (fun n : Nat => Value.int .u64 (n : Int)) HG.out.symm, by omega, hbr.alloc hs1 _⟩
      case measure => simp [intOf]; omega
    · obtain rfl : k = 4 := by omega
      rw [show ((4 : Nat) : Int) = 4 from rfl]
      go_wp2_with fail
      go_ret
      exact ⟨rfl, by rw [HZ.out]; exact below_on hB (by have := hB.size; have := HZ.out; omega) hbr⟩
end Go.Proofs.Ytoimbgmajoajiaa
