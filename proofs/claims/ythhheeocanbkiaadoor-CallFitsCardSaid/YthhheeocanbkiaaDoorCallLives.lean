/- The chapter's example, as the laws of layer 9 ask it. -/
import Derived.Test.YthhheeocanbkiaaDoorCallPolicy
import Derived.Test.YthhheeocanbkiaaDoorErrsText
namespace Go.Proofs.YthhheeocanbkiaaDoor
open Go.ChangeShapes Go.WideShapes Go.ChangeAt Go.RowKit

def highF : Nat → Int
  | 0 => 2
  | 1 => 1
  | 2 => 1
  | 10 => 2
  | 11 => 1
  | 12 => 1
  | _ => 0
theorem highF_ok : Ok64 highF := fun i => by
  unfold highF
  split <;> exact ⟨by decide, by decide⟩
theorem high_any (w : World) : Calls Tryd.prog 19 #[] w fun e w' => e = .returned (.agg (rowOf 14 (ints highF))) ∧ Below w.heap.size w w' := by
  go_enter Tryd.func19, Tryd.ntmps19
  go_wp2_with fail
  have hr : Row (w.alloc (.cells (rowOf 14 (ints highF)) 46)) w.heap.size 46 14 (ints highF) := Row.new _ _ _ _ _ rfl
  exact bodyPost_ret (results_cell_row (p := 0) (ty := 46) (by kernel_rfl) _ _ w.heap.size 46 (rowOf 14 (ints highF)) (0, 0) _ rfl hr Tryd.underlying46 rfl (by kernel_rfl)) rfl ⟨rfl, (Below.refl _ _).alloc (Nat.le_refl _) _⟩
theorem policy_get : policyN highF 0 1 0 0 = 0 := by decide
theorem policy_put : policyN highF 0 0 0 0 = 12 := by decide
theorem word_put : wordL 0 = [112, 117, 116] := by decide
theorem lives_get (w : World) : Calls Tryd.prog 18 #[.agg (rowOf 14 (ints highF)), .int .i64 0, .agg #[.int .i64 1, .int .i64 0, .int .i64 0, .int .u64 0, .int .u64 0, .int .u64 0, .int .i64 0]] w fun e w' => e = .returned .nilIface ∧ Below w.heap.size w w' :=
  (kPolicy_any highF highF_ok 0 1 0 0 0 0 0 0 (by decide) (by decide) w).mono fun e w' ⟨g, h1, _, h3⟩ => ⟨by rw [h1, policy_get]; rfl, h3⟩
theorem lives_put (w : World) : Calls Tryd.prog 18 #[.agg (rowOf 14 (ints highF)), .int .i64 0, .agg #[.int .i64 0, .int .i64 0, .int .i64 0, .int .u64 0, .int .u64 0, .int .u64 0, .int .i64 0]] w
    fun e w' => ∃ g, e = .returned (.iface 63 (.pointer (some ⟨g, 0, none⟩))) ∧ ErrsIs w' (.err g 0 0 [112, 117, 116] (.code 12)) ∧ Below w.heap.size w w' :=
  (kPolicy_any highF highF_ok 0 0 0 0 0 0 0 0 (by decide) (by decide) w).mono fun e w' ⟨g, h1, h2, h3⟩ => ⟨g, by rw [h1, policy_put]; rfl, by rw [policy_put, word_put] at h2; exact h2 (by decide), h3⟩
theorem lives_text9 (g : Nat) : sB (Errs.err g 0 0 [112, 117, 116] (.code 12)).textE = ⟨#[116, 104, 114, 101, 97, 100, 32, 48, 32, 108, 101, 118, 101, 108, 32, 48, 32, 112, 117, 116, 58, 32, 112, 111, 108, 105, 99, 121]⟩ := by
  have h0 : numL 0 = [48] := by unfold numL; rw [decN_small (by decide)]; rfl
  simp only [Errs.textE, headL, h0]
  rfl
theorem text_put9 (g : Nat) (w : World) (h : ErrsIs w (.err g 0 0 [112, 117, 116] (.code 12))) (ht : TabW w) : Calls Tryd.prog 20 #[.iface 63 (.pointer (some ⟨g, 0, none⟩))] w
    fun r w' => r = .returned (.string ⟨#[116, 104, 114, 101, 97, 100, 32, 48, 32, 108, 101, 118, 101, 108, 32, 48, 32, 112, 117, 116, 58, 32, 112, 111, 108, 105, 99, 121]⟩) ∧ Below w.heap.size w w' := by
  refine (text_any _ w h ht ?_).mono ?_
  · rw [← sB_size, lives_text9]; decide
  · rintro r w' ⟨hr, hb⟩
    exact ⟨by rw [hr, lives_text9], hb⟩
theorem lives9_any (w : World) (ht : TabW w) : Calls Tryd.prog 5 #[] w fun r w' => r = .returned (.bool true) ∧ Below w.heap.size w w' := by
  go_enter Tryd.func5, Tryd.ntmps5
  go_wp2_with fail
  refine (high_any _).mono ?_
  rintro r w1 ⟨rfl, hb1⟩
  go_wp2_with fail
  refine (lives_get _).mono ?_
  rintro r w2 ⟨rfl, hb2⟩
  have d2 := hb1.trans (hb2.mono hb1.size)
  go_wp2_with fail
  refine (high_any _).mono ?_
  rintro r w3 ⟨rfl, hb3⟩
  have d3 := d2.trans (hb3.mono d2.size)
  go_wp2_with fail
  refine (lives_put _).mono ?_
  rintro r w4 ⟨g, rfl, h4, hb4⟩
  have d4 := d3.trans (hb4.mono d3.size)
  go_wp2_with fail
  refine (text_put9 g _ h4 (ht.below d4)).mono ?_
  rintro r w5 ⟨rfl, hb5⟩
  have d5 := d4.trans (hb5.mono d4.size)
  go_wp2_with fail
  go_ret
  exact ⟨rfl, d5⟩
end Go.Proofs.YthhheeocanbkiaaDoor
