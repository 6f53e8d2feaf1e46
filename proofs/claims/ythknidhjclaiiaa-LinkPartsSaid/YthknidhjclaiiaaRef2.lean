/- The document's answers of layer 2: their functions' contracts. -/
import Derived.Test.YthknidhjclaiiaaLink
namespace Go.Proofs.Ythknidhjclaiiaa
open Go.ChangeShapes Go.WideShapes Go.ChangeAt Go.RowKit

theorem refLow_any (n : Int) (hn : -9223372036854775808 ≤ n ∧ n ≤ 9223372036854775807) (m : Nat) (h0 : 1 ≤ m) (h : m < 18446744073709551616) (w : World) :
    Calls Try.prog 26 #[.int .i64 n, .int .u64 m] w fun e w' => e = .returned (.int .u64 ((n % 18446744073709551616).toNat % m : Nat)) ∧ w = w' := by
  obtain ⟨k, h1, h2, h3⟩ := wrap_nat n
  rw [← h2]
  have H := Lib.hid h1; clear h1 h2
  go_enter Try.func26, Try.ntmps26
  go_wp2
  rw [H.out]
  go_wp2
  go_ret
  exact ⟨rfl, rfl⟩
theorem ref2Make_any (s g : Int) (hs : -9223372036854775808 ≤ s ∧ s ≤ 9223372036854775807) (hg : -9223372036854775808 ≤ g ∧ g ≤ 9223372036854775807) (w : World) :
    Calls Try.prog 13 #[.int .i64 s, .int .i64 g] w fun e w' => e = .returned (.int .u64 (mkL s g)) ∧ w = w' := by
  have h1 : (s % 18446744073709551616).toNat % 256 = (s % 256).toNat := by omega
  have h2 : (g % 18446744073709551616).toNat % 4294967296 = (g % 4294967296).toNat := by omega
  have H1 := Lib.hid h1; have H2 := Lib.hid h2; clear h1 h2
  have H : Hid (((s % 256).toNat : Int) + 256 * ((g % 4294967296).toNat : Int) = ((mkL s g : Nat) : Int)) := Lib.hid (by unfold mkL; omega)
  have hb1 : (s % 256).toNat < 256 := by omega
  have hb2 : (g % 4294967296).toNat < 4294967296 := by omega
  generalize (s % 256).toNat = a at *
  generalize (g % 4294967296).toNat = b at *
  generalize mkL s g = c at *
  go_enter Try.func13, Try.ntmps13
  go_wp2_with fail
  refine (refLow_any s hs 256 (by omega) (by omega) _).mono ?_; rintro e w' ⟨rfl, rfl⟩; rw [H1.out]
  go_wp2_with fail
  refine (refLow_any g hg 4294967296 (by omega) (by omega) _).mono ?_; rintro e w' ⟨rfl, rfl⟩; rw [H2.out]
  go_wp2_with fail
  rw [H.out]
  go_ret
  exact ⟨rfl, rfl⟩
theorem ref2Top_any (s : Int) (hs : -9223372036854775808 ≤ s ∧ s ≤ 9223372036854775807) (c : Nat) (hc : c < 18446744073709551616) (w : World) :
    Calls Try.prog 18 #[.int .i64 s, .int .u64 c] w fun e w' => e = .returned (.int .u64 (mkT s c)) ∧ w = w' := by
  have h1 : (s % 18446744073709551616).toNat % 256 = (s % 256).toNat := by omega
  have H1 := Lib.hid h1; clear h1
  have H : Hid (((s % 256).toNat : Int) + 256 * ((c % 72057594037927936 : Nat) : Int) = ((mkT s c : Nat) : Int)) := Lib.hid (by unfold mkT; omega)
  have hb1 : (s % 256).toNat < 256 := by omega
  generalize (s % 256).toNat = a at *
  generalize mkT s c = d at *
  go_enter Try.func18, Try.ntmps18
  go_wp2_with fail
  refine (refLow_any s hs 256 (by omega) (by omega) _).mono ?_; rintro e w' ⟨rfl, rfl⟩; rw [H1.out]
  go_wp2_with fail
  go_ret
  exact ⟨by rw [← H.out]; rfl, rfl⟩
theorem ref2Changed_any (x : Nat) (hx : x < 18446744073709551616) (s : Int) (hs : -9223372036854775808 ≤ s ∧ s ≤ 9223372036854775807) (w : World) :
    Calls Try.prog 21 #[.int .u64 x, .int .i64 s] w fun e w' => e = .returned (.int .u64 (mkT s (x / 256 + 1))) ∧ w = w' := by
  go_enter Try.func21, Try.ntmps21
  go_wp2_with fail
  refine (ref2Top_any s hs (x / 256 + 1) (by omega) _).mono ?_; rintro e w' ⟨rfl, rfl⟩
  go_wp2_with fail
  go_ret
  exact ⟨rfl, rfl⟩
end Go.Proofs.Ythknidhjclaiiaa
