/- The statements of layer 1, walked: each returns true, and turns nothing that was there. -/
import Derived.Test.YtlflhhdcakcioaaFieldS
import Derived.Test.YtlflhhdcakcioaaRef1S
import Derived.Deep.RegionHeld3
namespace Go.Proofs.Ytlflhhdcakcioaa
open Go.ChangeShapes Go.WideShapes Go.ChangeAt Go.RowKit

theorem lives_pack : packV [4, 8] [3, 5] = 83 ∧ okP [4, 8] [3, 5] = true := by decide +kernel
theorem lives_set : setN 0 4 8 511 = 4080 := by decide +kernel
theorem lives_rows (w : World) (t u : TypeId) :
    RowIs ((w.alloc (.cells #[.int .i64 4, .int .i64 8] t)).alloc (.cells #[.int .u64 3, .int .u64 5] u)) (some ⟨w.heap.size, 0, none⟩) 2 (fun i => .int .i64 (([4, 8] : List Int).getD i 0)) ∧
    RowIs ((w.alloc (.cells #[.int .i64 4, .int .i64 8] t)).alloc (.cells #[.int .u64 3, .int .u64 5] u)) (some ⟨w.heap.size + 1, 0, none⟩) 2 (fun i => .int .u64 (([3, 5] : List Nat).getD i 0 : Nat)) := by
  constructor
  · exact ((Own.new w #[.int .i64 4, .int .i64 8] t (fun i => .int .i64 (([4, 8] : List Int).getD i 0)) 2 rfl (fun i hi => by
      match i, hi with
      | 0, _ => rfl
      | 1, _ => rfl)).alloc _).row
  · have h := (Own.new (w.alloc (.cells #[.int .i64 4, .int .i64 8] t)) #[.int .u64 3, .int .u64 5] u (fun i => .int .u64 (([3, 5] : List Nat).getD i 0 : Nat)) 2 rfl (fun i hi => by
      match i, hi with
      | 0, _ => rfl
      | 1, _ => rfl)).row
    simpa using h
theorem lives_packs (w : World) (t u : TypeId) :
    Calls Try.prog 19 #[.slice (some ⟨w.heap.size, 0, none⟩) 2 2, .slice (some ⟨w.heap.size + 1, 0, none⟩) 2 2] ((w.alloc (.cells #[.int .i64 4, .int .i64 8] t)).alloc (.cells #[.int .u64 3, .int .u64 5] u))
      fun e w' => e = .returned (.tuple #[.int .u64 83, .bool true]) ∧ Below w.heap.size w w' := by
  have h := fPack_any (some ⟨w.heap.size, 0, none⟩) (some ⟨w.heap.size + 1, 0, none⟩) 2 2 [4, 8] [3, 5] (by decide) (by decide) (fun i => by
      match i with
      | 0 => decide
      | 1 => decide
      | n + 2 => simp) (fun i => by
      match i with
      | 0 => decide
      | 1 => decide
      | n + 2 => simp) _ (lives_rows w t u).1 (lives_rows w t u).2
  rw [lives_pack.1, lives_pack.2] at h
  refine h.mono fun e w' ⟨he, hd⟩ => ⟨he, ?_⟩
  exact (((Below.refl _ _).alloc (Nat.le_refl _) _).alloc (by simp) _).trans (hd.below _)
theorem lives_sets (w : World) : Calls Try.prog 16 #[.int .u64 0, .int .i64 4, .int .i64 8, .int .u64 511] w fun e w' => e = .returned (.int .u64 4080) ∧ w = w' := by
  have h := fSet_any 0 (by omega) 4 8 (by omega) (by omega) 511 (by omega) w
  rw [lives_set] at h
  exact h

theorem lives_any (w : World) : Calls Try.prog 11 #[] w fun e w' => e = .returned (.bool true) ∧ Below w.heap.size w w' := by
  go_enter Try.func11, Try.ntmps11
  go_wp2_with (first | (go_at_call 19; refine (lives_packs w _ _).mono ?_; rintro e w' ⟨rfl, hb⟩) | (go_at_call 16; refine (lives_sets _).mono ?_; rintro e w' ⟨rfl, rfl⟩))
  go_ret
  exact ⟨rfl, hb⟩

def farB (a s : Int) : Bool := decide (a < -1000) || decide (1000 < a) || decide (s < -1000) || decide (1000 < s)
theorem far_any (a s : Int) (ha : -9223372036854775808 ≤ a ∧ a ≤ 9223372036854775807) (hs : -9223372036854775808 ≤ s ∧ s ≤ 9223372036854775807) (w : World) :
    Calls Try.prog 8 #[.int .i64 a, .int .i64 s] w fun e w' => e = .returned (.bool (farB a s)) ∧ w = w' := by
  go_enter Try.func8, Try.ntmps8
  go_wp2
  all_goals go_ret
  all_goals refine ⟨?_, rfl⟩
  all_goals unfold farB
  all_goals simp
  all_goals omega

theorem mask_far (a s : Int) (h : 64 ≤ a) : maskN a s = 0 := bits_none _ _ (fun i hi => by unfold inPart; simp; omega)
theorem cut_far (x : Nat) (a s : Int) (h : 64 ≤ a) : cutN x a s = 0 := bits_none _ _ (fun i hi => by rw [bitAt_out _ _ (by omega)]; simp)

theorem fieldCuts_walk (x : Nat) (hx : x < 18446744073709551616) (a s : Int) (ha : -9223372036854775808 ≤ a ∧ a ≤ 9223372036854775807) (hs : -9223372036854775808 ≤ s ∧ s ≤ 9223372036854775807) (w : World) :
    Calls Try.prog 3 #[.int .u64 x, .int .i64 a, .int .i64 s] w fun e w' => e = .returned (.bool true) ∧ Below w.heap.size w w' := by
  cases hf : farB a s
  · have Hf := Lib.hid hf
    have hr : -1000 ≤ a ∧ a ≤ 1000 ∧ -1000 ≤ s ∧ s ≤ 1000 := by unfold farB at hf; simp at hf; omega
    clear hf
    by_cases h1 : 64 < s ∧ a < 0
    · obtain ⟨h2, h3⟩ := h1
      go_enter Try.func3, Try.ntmps3
      go_wp2_with (first | (go_at_call 8; refine (far_any _ _ ha hs _).mono ?_; rintro e w' ⟨rfl, rfl⟩; rw [Hf.out]) | (go_at_call 9; refine (fMask_any _ _ (by omega) (by omega) _).mono ?_; rintro e w' ⟨rfl, rfl⟩) | (go_at_call 12; refine (refMask_any _ _ (by omega) (by omega) _).mono ?_; rintro e w' ⟨rfl, rfl⟩) | (go_at_call 11; refine (lives_any _).mono ?_; rintro e w' ⟨rfl, hb⟩))
      go_ret
      exact ⟨rfl, hb⟩
    · cases hbit : bitAt x a
      all_goals
        have Hbit := Lib.hid hbit; clear hbit
        by_cases h2 : 64 < s
        all_goals
          go_enter Try.func3, Try.ntmps3
          go_wp2_with (first | (go_at_call 8; refine (far_any _ _ ha hs _).mono ?_; rintro e w' ⟨rfl, rfl⟩; rw [Hf.out]) | (go_at_call 9; refine (fMask_any _ _ (by omega) (by omega) _).mono ?_; rintro e w' ⟨rfl, rfl⟩) | (go_at_call 12; refine (refMask_any _ _ (by omega) (by omega) _).mono ?_; rintro e w' ⟨rfl, rfl⟩) | (go_at_call 10; refine (fCut_any x hx _ _ (by omega) (by omega) _).mono ?_; rintro e w' ⟨rfl, rfl⟩) | (go_at_call 13; refine (refCut_any x hx _ _ (by omega) (by omega) _).mono ?_; rintro e w' ⟨rfl, rfl⟩) | (go_at_call 14; refine (fHas_any x hx _ (by omega) _).mono ?_; rintro e w' ⟨rfl, rfl⟩; rw [Hbit.out]) | (go_at_call 15; refine (bit_any x hx _ (by omega) _).mono ?_; rintro e w' ⟨rfl, rfl⟩; simp only [Hbit.out, Bool.toNat_true, Bool.toNat_false]) | (go_at_call 11; refine (lives_any _).mono ?_; rintro e w' ⟨rfl, hb⟩))
          all_goals first | (exfalso; omega) | (go_ret; exact ⟨rfl, hb⟩)
  · have Hf := Lib.hid hf; clear hf
    by_cases h3 : s < 0
    all_goals
      by_cases h4 : a < 64
      all_goals
        first | have hd : decide (a < 64) = true := decide_eq_true h4 | have hd : decide (a < 64) = false := decide_eq_false h4
        have Hm0 : Hid (∀ z : Int, z ≤ 0 → maskN a z = 0) := Lib.hid (fun z hz => mask_zero a z (by omega))
        have Hm1 : Hid (64 ≤ a → ∀ z : Int, maskN a z = 0) := Lib.hid (fun h z => mask_far a z h)
        have Hc1 : Hid (64 ≤ a → ∀ z : Int, cutN x a z = 0) := Lib.hid (fun h z => cut_far x a z h)
        go_enter Try.func3, Try.ntmps3
        go_wp2_with (first | (go_at_call 8; refine (far_any _ _ ha hs _).mono ?_; rintro e w' ⟨rfl, rfl⟩; rw [Hf.out]) | (go_at_call 9; refine (fMask_any _ _ (by omega) (by omega) _).mono ?_; rintro e w' ⟨rfl, rfl⟩; first | rw [Hm1.out (by omega)] | rw [Hm0.out _ (by omega)]) | (go_at_call 10; refine (fCut_any x hx _ _ (by omega) (by omega) _).mono ?_; rintro e w' ⟨rfl, rfl⟩; rw [Hc1.out (by omega)]) | (go_at_call 11; refine (lives_any _).mono ?_; rintro e w' ⟨rfl, hb⟩))
        all_goals first | (exfalso; omega) | (go_ret; exact ⟨rfl, hb⟩)
end Go.Proofs.Ytlflhhdcakcioaa
