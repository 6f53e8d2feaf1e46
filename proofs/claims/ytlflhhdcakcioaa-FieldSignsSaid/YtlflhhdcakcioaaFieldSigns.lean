/- Statement FieldSigns of layer 1, walked: it returns true, and turns nothing that was there. -/
import Derived.Test.YtlflhhdcakcioaaFieldLaws
namespace Go.Proofs.Ytlflhhdcakcioaa
open Go.ChangeShapes Go.WideShapes Go.ChangeAt Go.RowKit

theorem wrap_back (n : Int) (hn : -9223372036854775808 ≤ n ∧ n ≤ 9223372036854775807) : wrap64 (IntKind.u64.wrap n) = n := by rw [IntKind.wrap_u64]; unfold wrap64; omega
theorem wrap_forth (n : Int) (hn : 0 ≤ n ∧ n ≤ 18446744073709551615) : IntKind.u64.wrap (wrap64 n) = n := by rw [IntKind.wrap_u64]; unfold wrap64; omega

theorem fieldSigns_walk (n : Int) (hn : -9223372036854775808 ≤ n ∧ n ≤ 9223372036854775807) (x : Int) (hx : 0 ≤ x ∧ x ≤ 18446744073709551615) (w : World) :
    Calls Try.prog 6 #[.int .i64 n, .int .u64 x] w fun e w' => e = .returned (.bool true) ∧ Below w.heap.size w w' := by
  have r1 : 0 ≤ IntKind.u64.wrap n ∧ IntKind.u64.wrap n ≤ 18446744073709551615 := by rw [IntKind.wrap_u64]; omega
  have r2 : -9223372036854775808 ≤ wrap64 x ∧ wrap64 x ≤ 9223372036854775807 := by unfold wrap64; omega
  have H1 := Lib.hid (wrap_back n hn); have H2 := Lib.hid (wrap_forth x hx)
  go_enter Try.func6, Try.ntmps6
  go_wp2_with fail
  refine (fBits_any n hn _).mono ?_; rintro e w' ⟨rfl, rfl⟩
  go_wp2_with fail
  refine (refBits_any n hn _).mono ?_; rintro e w' ⟨rfl, rfl⟩
  go_wp2_with fail
  refine (fNumber_any x hx _).mono ?_; rintro e w' ⟨rfl, rfl⟩
  go_wp2_with fail
  refine (refNumber_any x hx _).mono ?_; rintro e w' ⟨rfl, rfl⟩
  go_wp2_with fail
  refine (fBits_any n hn _).mono ?_; rintro e w' ⟨rfl, rfl⟩
  go_wp2_with fail
  refine (fNumber_any _ r1 _).mono ?_; rintro e w' ⟨rfl, rfl⟩; rw [H1.out]
  go_wp2_with fail
  refine (fNumber_any x hx _).mono ?_; rintro e w' ⟨rfl, rfl⟩
  go_wp2_with fail
  refine (fBits_any _ r2 _).mono ?_; rintro e w' ⟨rfl, rfl⟩; rw [H2.out]
  go_wp2_with fail
  refine (lives_any _).mono ?_; rintro e w' ⟨rfl, hb⟩
  go_wp2_with fail
  go_ret
  exact ⟨rfl, hb⟩
end Go.Proofs.Ytlflhhdcakcioaa
