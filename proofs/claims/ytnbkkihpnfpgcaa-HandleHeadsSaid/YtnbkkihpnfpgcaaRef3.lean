/- The document's answers of layer 3 that are plain numbers. -/
import Derived.Test.YtnbkkihpnfpgcaaHandle2
namespace Go.Proofs.Ytnbkkihpnfpgcaa
open Go.ChangeShapes Go.WideShapes Go.ChangeAt Go.RowKit

theorem r3Cell_any (s g : Int) (l : Nat) (hs : -9223372036854775808 ≤ s ∧ s ≤ 9223372036854775807) (hg : -9223372036854775808 ≤ g ∧ g ≤ 9223372036854775807) (hl : l < 18446744073709551616) (w : World) :
    Calls Try.prog 18 #[.agg #[.int .i64 s, .int .i64 g, .int .u64 l]] w fun e w' => e = .returned (.int .u64 (mkC s g l)) ∧ Below w.heap.size w w' := by
  obtain ⟨ms, s1, s2, s3⟩ := wrap_nat s
  obtain ⟨mg, g1, g2, g3⟩ := wrap_nat g
  have H : Hid (((ms % 256 : Nat) : Int) + 256 * ((mg % 16777216 : Nat) : Int) + 4294967296 * ((l % 1073741824 : Nat) : Int) + 4611686018427387904 = (mkC s g l : Nat)) := Lib.hid (by unfold mkC; omega)
  clear s2 g2
  have S1 := Lib.hid s1; have G1 := Lib.hid g1; clear s1 g1
  have hl2 := Lib.hid hl; clear hl
  generalize mkC s g l = k at *
  go_enter Try.func18, Try.ntmps18
  go_wp2
  go_ret
  refine ⟨?_, (Below.refl _ _).alloc (Nat.le_refl _) _⟩
  rw [S1.out, G1.out, ← H.out]
  repeat rw [Int.tmod_eq_emod_of_nonneg (by omega)]
  simp only [IntKind.wrap_u64]
  apply retI
  omega
theorem r3Hold_any (t : Int) (ht : -9223372036854775808 ≤ t ∧ t ≤ 9223372036854775807) (w : World) :
    Calls Try.prog 20 #[.int .i64 t] w fun e w' => e = .returned (.int .u64 (mkHold t)) ∧ w = w' := by
  obtain ⟨m, h1, h2, h3⟩ := wrap_nat t
  have H : Hid (9223372036854775808 + ((m % 256 : Nat) : Int) = (mkHold t : Nat)) := Lib.hid (by unfold mkHold; omega)
  have H1 := Lib.hid h1; clear h1 h2
  generalize mkHold t = k at *
  go_enter Try.func20, Try.ntmps20
  go_wp2
  go_ret
  refine ⟨?_, rfl⟩
  rw [H1.out, ← H.out]
  repeat rw [Int.tmod_eq_emod_of_nonneg (by omega)]
  simp only [IntKind.wrap_u64]
  apply retI
  omega
theorem r3Head_any (g s : Int) (hg : -9223372036854775808 ≤ g ∧ g ≤ 9223372036854775807) (hs : -9223372036854775808 ≤ s ∧ s ≤ 9223372036854775807) (w : World) :
    Calls Try.prog 15 #[.int .i64 g, .int .i64 s] w fun e w' => e = .returned (.int .u64 (mkHd g s)) ∧ w = w' := by
  obtain ⟨ms, s1, s2, s3⟩ := wrap_nat s
  obtain ⟨mg, g1, g2, g3⟩ := wrap_nat g
  have H : Hid (((ms % 4 : Nat) : Int) + 4 * ((mg % 4294967296 : Nat) : Int) = (mkHd g s : Nat)) := Lib.hid (by unfold mkHd; omega)
  clear s2 g2
  have S1 := Lib.hid s1; have G1 := Lib.hid g1; clear s1 g1
  generalize mkHd g s = k at *
  go_enter Try.func15, Try.ntmps15
  go_wp2
  go_ret
  refine ⟨?_, rfl⟩
  rw [S1.out, G1.out, ← H.out]
  repeat rw [Int.tmod_eq_emod_of_nonneg (by omega)]
  simp only [IntKind.wrap_u64]
  apply retI
  omega
theorem r3State_any (x : Nat) (hx : x < 18446744073709551616) (w : World) :
    Calls Try.prog 13 #[.int .u64 x] w fun e w' => e = .returned (.tuple #[.int .i64 (x / 4 % 4294967296 : Nat), .int .i64 (x % 4 : Nat)]) ∧ w = w' := by
  go_enter Try.func13, Try.ntmps13
  go_wp2
  go_ret2
  exact ⟨rfl, rfl⟩
theorem lives3_any (w : World) : Calls Try.prog 11 #[] w fun e w' => e = .returned (.bool true) ∧ w = w' := by
  have h1 := hMake_any 1 3 2 (by omega) (by omega) (by omega)
  have h2 := hHead_any 1 2 (by omega) (by omega)
  rw [show mkH 1 3 2 = 1152921504606847491 by decide] at h1
  rw [show mkHd 1 2 = 6 by decide] at h2
  have H1 := Lib.hid h1; have H2 := Lib.hid h2; clear h1 h2
  go_enter Try.func11, Try.ntmps11
  go_wp2_with (first | (go_at_call 9; refine (H1.out _).mono ?_; rintro e w' ⟨rfl, rfl⟩) | (go_at_call 14; refine (H2.out _).mono ?_; rintro e w' ⟨rfl, rfl⟩))
  go_ret
  exact ⟨rfl, rfl⟩
theorem handleHeads_walk (g s : Int) (hg : -9223372036854775808 ≤ g ∧ g ≤ 9223372036854775807) (hs : -9223372036854775808 ≤ s ∧ s ≤ 9223372036854775807) (x : Nat) (hx : x < 18446744073709551616) (w : World) :
    Calls Try.prog 4 #[.int .i64 g, .int .i64 s, .int .u64 x] w fun e w' => e = .returned (.bool true) ∧ Below w.heap.size w w' := by
  have c1 := Lib.hid (hState_any x hx)
  have c2 := Lib.hid (r3State_any x hx)
  have c3 := Lib.hid (hHead_any g s hg hs)
  have c4 := Lib.hid (r3Head_any g s hg hs)
  generalize x / 4 % 4294967296 = k1 at *
  generalize x % 4 = k2 at *
  generalize mkHd g s = k3 at *
  go_enter Try.func4, Try.ntmps4
  go_wp2_with (first | (go_at_call 12; refine (c1.out _).mono ?_; rintro e w' ⟨rfl, rfl⟩) | (go_at_call 13; refine (c2.out _).mono ?_; rintro e w' ⟨rfl, rfl⟩) | (go_at_call 14; refine (c3.out _).mono ?_; rintro e w' ⟨rfl, rfl⟩) | (go_at_call 15; refine (c4.out _).mono ?_; rintro e w' ⟨rfl, rfl⟩) | (go_at_call 11; refine (lives3_any _).mono ?_; rintro e w' ⟨rfl, rfl⟩))
  go_ret
  exact ⟨rfl, Below.refl _ _⟩
end Go.Proofs.Ytnbkkihpnfpgcaa
