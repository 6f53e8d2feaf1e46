/- The document's answers of layer 2: their functions' contracts. -/
import Derived.Test.YtlldhkcimlmaoaaLink
namespace Go.Proofs.Ytlldhkcimlmaoaa
open Go.ChangeShapes Go.WideShapes Go.ChangeAt Go.RowKit

theorem refLow_any (n : Int) (hn : -9223372036854775808 ≤ n ∧ n ≤ 9223372036854775807) (m : Nat) (h0 : 1 ≤ m) (h : m < 18446744073709551616) (w : World) :
    Calls Try.prog 35 #[.int .i64 n, .int .u64 m] w fun e w' => e = .returned (.int .u64 ((n % 18446744073709551616).toNat % m : Nat)) ∧ w = w' := by
  obtain ⟨k, h1, h2, h3⟩ := wrap_nat n
  rw [← h2]
  have H := Lib.hid h1; clear h1 h2
  go_enter Try.func35, Try.ntmps35
  go_wp2
  rw [H.out]
  go_wp2
  go_ret
  exact ⟨rfl, rfl⟩
theorem ref2Make_any (s g : Int) (hs : -9223372036854775808 ≤ s ∧ s ≤ 9223372036854775807) (hg : -9223372036854775808 ≤ g ∧ g ≤ 9223372036854775807) (w : World) :
    Calls Try.prog 25 #[.int .i64 s, .int .i64 g] w fun e w' => e = .returned (.int .u64 (mkL s g)) ∧ w = w' := by
  have h1 : (s % 18446744073709551616).toNat % 256 = (s % 256).toNat := by omega
  have h2 : (g % 18446744073709551616).toNat % 4294967296 = (g % 4294967296).toNat := by omega
  have H1 := Lib.hid h1; have H2 := Lib.hid h2; clear h1 h2
  have H : Hid (((s % 256).toNat : Int) + 256 * ((g % 4294967296).toNat : Int) = ((mkL s g : Nat) : Int)) := Lib.hid (by unfold mkL; omega)
  have hb1 : (s % 256).toNat < 256 := by omega
  have hb2 : (g % 4294967296).toNat < 4294967296 := by omega
  generalize (s % 256).toNat = a at *
  generalize (g % 4294967296).toNat = b at *
  generalize mkL s g = c at *
  go_enter Try.func25, Try.ntmps25
  go_wp2_with fail
  refine (refLow_any s hs 256 (by omega) (by omega) _).mono ?_; rintro e w' ⟨rfl, rfl⟩; rw [H1.out]
  go_wp2_with fail
  refine (refLow_any g hg 4294967296 (by omega) (by omega) _).mono ?_; rintro e w' ⟨rfl, rfl⟩; rw [H2.out]
  go_wp2_with fail
  rw [H.out]
  go_ret
  exact ⟨rfl, rfl⟩
end Go.Proofs.Ytlldhkcimlmaoaa
