/- What makes an error out of a code: New. -/
import Derived.Test.YthhheeocanbkiaaDoorErrs
namespace Go.Proofs.YthhheeocanbkiaaDoor
open Go.ChangeShapes Go.WideShapes Go.RowKit Go.Extern.Stop Go.Stop Go.Extern

theorem ErrsIs.top_le {w : World} {e : Errs} (h : ErrsIs w e) : e.top ≤ w.heap.size + 1 := by
  cases e with
  | err g t l s i => have := h.1; show g + 2 ≤ _; omega
  | note g s i => have := h.1; show g + 2 ≤ _; omega
  | no => exact Nat.zero_le _
  | _ => exact Nat.succ_le_succ (Nat.zero_le _)
theorem new_zero (t l : Int) (s : ByteArray) (w : World) : Calls Tryd.prog 26 #[.int .i64 t, .int .i64 l, .string s, .int .i64 0] w fun r w' => r = .returned .nilIface ∧ w = w' := by
  go_enter Tryd.func26, Tryd.ntmps26
  go_wp2
  go_ret
  exact ⟨rfl, rfl⟩
theorem new_is (t l : Int) (s : List UInt8) (c : Int) (w : World) (bt : -9223372036854775808 ≤ t ∧ t ≤ 9223372036854775807) (bl : -9223372036854775808 ≤ l ∧ l ≤ 9223372036854775807) (bc : -9223372036854775808 ≤ c ∧ c ≤ 9223372036854775807) (hs : s.length ≤ 200) :
    ErrsIs (w.alloc (.cells #[.int .i64 t, .int .i64 l, .string (sB s), .iface 35 (.int .i64 c)] 72)) (.err w.heap.size t l s (.code c)) := by
  refine ⟨by simp, ?_, ?_, ?_, ?_, bt, bl, hs, ?_, bc⟩
  · simp
  · simp
  · simp
  · simp [Errs.val]
  · show 1 ≤ _; omega
theorem new_any (t l : Int) (s : List UInt8) (c : Int) (w : World) (hc : c ≠ 0) (bt : -9223372036854775808 ≤ t ∧ t ≤ 9223372036854775807) (bl : -9223372036854775808 ≤ l ∧ l ≤ 9223372036854775807) (bc : -9223372036854775808 ≤ c ∧ c ≤ 9223372036854775807) (hs : s.length ≤ 200) :
    Calls Tryd.prog 26 #[.int .i64 t, .int .i64 l, .string (sB s), .int .i64 c] w fun r w' => r = .returned (Errs.err w.heap.size t l s (.code c)).val ∧ ErrsIs w' (.err w.heap.size t l s (.code c)) ∧ Below w.heap.size w w' := by
  have hI := Lib.hid (new_is t l s c w bt bl bc hs)
  generalize sB s = S at *
  clear hs
  go_enter Tryd.func26, Tryd.ntmps26
  go_wp2
  go_ret
  exact ⟨rfl, hI.out, (Below.refl _ _).alloc (Nat.le_refl _) _⟩
end Go.Proofs.YthhheeocanbkiaaDoor
