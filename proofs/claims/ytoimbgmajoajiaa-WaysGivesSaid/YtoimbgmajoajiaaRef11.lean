/- The document's answers of layer 11: words. -/
import Derived.Test.YtoimbgmajoajiaaWaysRead
import Derived.Deep.QuietTactic
import Derived.BigQuiet
namespace Go.Proofs.Ytoimbgmajoajiaa
open Go.ChangeShapes Go.WideShapes Go.ChangeAt Go.RowKit

theorem rPower11_any (m : Nat) (h : m ≤ 63) (w : World) :
    Calls Try.prog 21 #[.int .i64 (m : Nat)] w fun e w' => e = .returned (.int .u64 (pw m)) ∧ w = w' := by
  go_enter Try.func21, Try.ntmps21
  go_wp2
  go_loop [3, 4] (fun p i => ∃ k : Nat, k ≤ m ∧ i = .int .i64 k ∧ p = .int .u64 (pw k)) (fun _ i => m - (intOf i).toNat)
  case atStart => exact ⟨0, Nat.zero_le _, rfl, rfl⟩
  case round =>
    obtain ⟨k, hk, rfl, rfl⟩ := hrel
    have hp := pw_63 (k := k) (by omega)
    by_cases hlt : k < m
    · have hq := pw_63 (k := k + 1) (by omega)
      rw [pw_succ] at hq
      go_wp2
      go_round
      case rel => exact ⟨k + 1, by omega, by go_num, by rw [pw_succ]; go_num⟩
      case measure => simp [intOf]; omega
    · go_wp2
      go_ret
      obtain rfl : k = m := by omega
      exact ⟨rfl, rfl⟩

theorem lows_bits (s : WS) (k : Nat) : lows s (k + 1) = lows s k + pw (9 * k) * (s.slot k % 256).toNat + pw (9 * k + 8) * (s.tch k).toNat := rfl
set_option maxRecDepth 100000 in
set_option maxHeartbeats 1000000 in
theorem rWord11_any (s : WS) (hs : OkS s) (w : World) : Calls Try.prog 7 #[.agg (rowOf 10 (setV s))] w fun e w' => e = .returned (.int .u64 (wordN s : Nat)) ∧ Below w.heap.size w w' := by
  have cP := Lib.hid (fun m h W => rPower11_any m h W)
  have P36 : Hid (∀ W, Calls Try.prog 21 #[.int .i64 36] W fun e w' => e = .returned (.int .u64 68719476736) ∧ W = w') := Lib.hid (fun W => rPower11_any 36 (by omega) W)
  have P26 : Hid (∀ W, Calls Try.prog 21 #[.int .i64 26] W fun e w' => e = .returned (.int .u64 67108864) ∧ W = w') := Lib.hid (fun W => rPower11_any 26 (by omega) W)
  have P38 : Hid (∀ W, Calls Try.prog 21 #[.int .i64 38] W fun e w' => e = .returned (.int .u64 274877906944) ∧ W = w') := Lib.hid (fun W => rPower11_any 38 (by omega) W)
  obtain ⟨mh, h1, h2, h3⟩ := wrap_nat s.hand
  have ht := hs.turns
  have E0 : Hid ((mh : Int) % 4 * 68719476736 + (s.turns : Int) % 67108864 * 274877906944 = ((headN s + lows s 0 : Nat) : Int)) := Lib.hid (by
    show _ = ((headN s + 0 : Nat) : Int)
    unfold headN
    rw [show pw 36 = 68719476736 from rfl, show pw 38 = 274877906944 from rfl]
    omega)
  replace h2 := Lib.hid h2
  generalize hz0 : headN s + lows s 0 = x0 at E0
  have HP := Lib.hid (fun k (hk : k ≤ 4) => part_lt s hk)
  have HS := Lib.hid hs.slot
  go_enter Try.func7, Try.ntmps7
  go_upto_region 1 with fail
  generalize hW : World.alloc _ _ = W
  have hr : Row W w.heap.size 33 10 (setV s) := by rw [← hW]; exact Row.new _ _ _ _ _ rfl
  have hB : Below w.heap.size w W := by rw [← hW]; exact (Below.refl _ _).alloc (Nat.le_refl _) _
  clear hW
  generalize hz : w.heap.size = a1 at *
  have HZ := Lib.hid hz; clear hz
  have u8 : W.cell? ⟨a1, 8, none⟩ = some (.int .i64 s.hand) := hr.cell (i := 8) (by omega)
  have u9 : W.cell? ⟨a1, 9, none⟩ = some (.int .u64 (s.turns : Nat)) := hr.cell (i := 9) (by omega)
  go_quiet (first | (go_at_call 21; with_reducible exact Calls.quiet_of_same (quiet_eq (P36.out _))) | (go_at_call 21; with_reducible exact Calls.quiet_of_same (quiet_eq (P26.out _))) | (go_at_call 21; with_reducible exact Calls.quiet_of_same (quiet_eq (P38.out _))))
  rw [E0.out]
  clear u8 u9 E0 P36 P26 P38 h1 h2 h3 ht
  go_upto_region 3 with fail
  go_loopw [4, 3] (fun i x wr => ∃ k : Nat, i = .int .i64 k ∧ x = .int .u64 (headN s + lows s k : Nat) ∧ k ≤ 4 ∧ Drew W wr) (fun i _ _ => 4 - (intOf i).toNat)
  case atStart => exact ⟨0, rfl, by rw [hz0], by omega, (Drew.refl W).more _⟩
  case round =>
    obtain ⟨k, rfl, rfl, hk, hd⟩ := hrel
    clear hz0
    by_cases hlt : k < 4
    · have v1 : wr.cell? ⟨a1, k * 2, none⟩ = some (.int .i64 (s.slot k)) := by rw [hd.cell]; exact set_slot_at hr k hlt
      have v2 : wr.cell? ⟨a1, k * 2 + 1, none⟩ = some (.bool (s.tch k)) := by rw [hd.cell]; exact set_tch_at hr k hlt
      have d1 := fun W => cP.out (9 * k) (by omega) W
      have d2 := fun W => cP.out (9 * k + 8) (by omega) W
      rw [show ((9 * k : Nat) : Int) = 9 * (k : Int) by omega] at d1
      rw [show ((9 * k + 8 : Nat) : Int) = 9 * (k : Int) + 8 by omega] at d2
      obtain ⟨ms, h1, h2, h3⟩ := wrap_nat (s.slot k)
      have hb := HS.out k
      have hc : (s.slot k % 256).toNat = ms % 256 := by omega
      have hy := HP.out (k + 1) hlt
      have hst := lows_bits s k
      have hp := pw_63 (k := 9 * k) (by omega)
      have hp2 := pw_63 (k := 9 * k + 8) (by omega)
      rw [hc, Nat.mul_comm] at hst
      have hq : (ms : Int) % 256 * (pw (9 * k) : Int) = ((ms % 256 * pw (9 * k) : Nat) : Int) := by push_cast; rfl
      generalize ms % 256 * pw (9 * k) = q at *
      rw [hst] at hy
      have HST : Hid (headN s + lows s (k + 1) = headN s + lows s k + q + pw (9 * k + 8) * (s.tch k).toNat) := Lib.hid (by rw [hst]; omega)
      clear h2 hc hst
      have D1 := Lib.hid d1; have D2 := Lib.hid d2
      clear d1 d2 cP HP HS hs
      generalize hgz : headN s + lows s (k + 1) = z at HST
      have HG := Lib.hid hgz
      have hx : headN s + lows s k + q + pw (9 * k + 8) * (s.tch k).toNat < 18446744073709551616 := by omega
      clear hy hgz
      generalize headN s + lows s k = x at *
      generalize pw (9 * k) = p at *
      generalize pw (9 * k + 8) = p2 at *
      generalize s.slot k = v at *
      have b0 : (0 : Int) ≤ (k : Int) := by omega
      have b1 : (k : Int) < 4 := by omega
      cases htc : s.tch k
      · rw [htc] at v2 hx
        have HZZ : Hid (z = x + q) := Lib.hid (by have := HST.out; rw [htc] at this; simpa using this)
        replace hx : x + q < 18446744073709551616 := by simpa using hx
        clear HST D2 htc
        go_upto_region 5 with fail
        go_quiet ((go_at_call 21; with_reducible exact Calls.quiet_of_same (quiet_eq (D1.out _))))
        go_wp2_with fail
        go_roundw
        case rel => exact ⟨k + 1, by go_num, congrArg (fun n : Nat => Value.int .u64 (n : Int)) (HZZ.out.symm.trans HG.out.symm), by omega, hd.more _⟩
        case measure => simp [intOf]; omega
      · rw [htc] at v2 hx
        have HZZ : Hid (z = x + q + p2) := Lib.hid (by have := HST.out; rw [htc] at this; simpa using this)
        replace hx : x + q + p2 < 18446744073709551616 := by simpa using hx
        clear HST htc
        go_upto_region 5 with fail
        go_quiet ((go_at_call 21; with_reducible exact Calls.quiet_of_same (quiet_eq (D1.out _))))
        go_wp2_with (go_at_call 21; with_reducible refine (D2.out _).mono ?_; rintro e w' ⟨rfl, rfl⟩)
        go_roundw
        case rel => exact ⟨k + 1, by go_num, congrArg (fun n : Nat => Value.int .u64 (n : Int)) (HZZ.out.symm.trans HG.out.symm), by omega, hd.more _⟩
        case measure => simp [intOf]; omega
    · obtain rfl : k = 4 := by omega
      rw [show ((4 : Nat) : Int) = 4 from rfl]
      go_wp2_with fail
      go_ret
      exact ⟨rfl, by rw [HZ.out]; exact below_on hB (Nat.le_of_eq HZ.out.symm) (hd.below _)⟩
end Go.Proofs.Ytoimbgmajoajiaa
