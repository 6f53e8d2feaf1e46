/- What the functions of package handle answer, as quotients and rests. -/
import Derived.Test.YtnbkkihpnfpgcaaRows
import Derived.Test.YtnbkkihpnfpgcaaWord
import Derived.Test.YtnbkkihpnfpgcaaField
import Derived.Test.YtnbkkihpnfpgcaaLaw
namespace Go.Proofs.Ytnbkkihpnfpgcaa
open Go.ChangeShapes Go.WideShapes Go.ChangeAt Go.RowKit

def mkH (l s g : Int) : Nat := (s % 256).toNat + 256 * (g % 4294967296).toNat + 1152921504606846976 * (l % 16).toNat
def mkHd (g st : Int) : Nat := (st % 4).toNat + 4 * (g % 4294967296).toNat
def mkHold (t : Int) : Nat := (t % 256).toNat + 9223372036854775808
def mkC (s g : Int) (l : Nat) : Nat := (s % 256).toNat + 256 * (g % 16777216).toNat + 4294967296 * (l % 1073741824) + 4611686018427387904
theorem mkH_lt (l s g : Int) : mkH l s g < 18446744073709551616 := by unfold mkH; omega
theorem mkHd_lt (g s : Int) : mkHd g s < 17179869184 := by unfold mkHd; omega
theorem mkHold_lt (t : Int) : mkHold t < 9223372036854776064 := by unfold mkHold; omega
theorem mkC_lt (s g : Int) (l : Nat) : mkC s g l < 9223372036854775808 := by unfold mkC; omega
/-- A cell's kind. -/
def kindN (x : Nat) : Int := if x = 0 then 0 else if 9223372036854775808 ≤ x then 1 else 2
def fills (x : Nat) : Bool := decide (kindN x = 2)
def wS (x : Nat) : Nat := if fills x then x % 256 else 0
def wG (x : Nat) : Nat := if fills x then x / 256 % 16777216 else 0
def wL (x : Nat) : Nat := if fills x then x / 4294967296 % 1073741824 else 0
def whatV (x : Nat) : Value := .agg #[.int .i64 (wS x : Nat), .int .i64 (wG x : Nat), .int .u64 (wL x : Nat)]
def oldB (l e : Nat) : Bool := decide (l + 2 ≤ e)
def rightB (x : Nat) : Bool := decide (0 < x % 256) && decide (x / 1099511627776 % 1048576 = 0)

theorem hWith_any (x : Nat) (hx : x < 18446744073709551616) (a s n : Int) (ha : -9223372036854775808 ≤ a ∧ a ≤ 9223372036854775807) (hs : -9223372036854775808 ≤ s ∧ s ≤ 9223372036854775807) (hn : -9223372036854775808 ≤ n ∧ n ≤ 9223372036854775807)
    (r : Nat) (hr : setN x a s (n % 18446744073709551616).toNat = r) (w : World) :
    Calls Try.prog 27 #[.int .u64 x, .int .i64 a, .int .i64 s, .int .i64 n] w fun e w' => e = .returned (.int .u64 r) ∧ w = w' := by
  obtain ⟨m, h1, h2, h3⟩ := wrap_nat n
  rw [← h2] at hr
  have H1 := Lib.hid h1; clear h1 h2
  have H := Lib.hid hr; clear hr
  go_enter Try.func27, Try.ntmps27
  go_wp2_with fail
  refine (fBits_any _ hn _).mono ?_; rintro e w' ⟨rfl, rfl⟩; rw [H1.out]
  go_wp2_with fail
  refine (fSet_any x hx _ _ ha hs _ h3 _).mono ?_; rintro e w' ⟨rfl, rfl⟩; rw [H.out]
  go_wp2_with fail
  go_ret
  exact ⟨rfl, rfl⟩
theorem hPart_any (x : Nat) (hx : x < 18446744073709551616) (a s : Int) (ha : -9223372036854775808 ≤ a ∧ a ≤ 9223372036854775807) (hs : -9223372036854775808 ≤ s ∧ s ≤ 9223372036854775807)
    (r : Nat) (hr : cutN x a s = r) (hb : r < 9223372036854775808) (w : World) :
    Calls Try.prog 26 #[.int .u64 x, .int .i64 a, .int .i64 s] w fun e w' => e = .returned (.int .i64 r) ∧ w = w' := by
  have H := Lib.hid hr; clear hr
  go_enter Try.func26, Try.ntmps26
  go_wp2_with fail
  refine (fCut_any x hx _ _ ha hs _).mono ?_; rintro e w' ⟨rfl, rfl⟩; rw [H.out]
  go_wp2_with fail
  go_ret
  exact ⟨rfl, rfl⟩

theorem hMake_any (l s g : Int) (hl : -9223372036854775808 ≤ l ∧ l ≤ 9223372036854775807) (hs : -9223372036854775808 ≤ s ∧ s ≤ 9223372036854775807) (hg : -9223372036854775808 ≤ g ∧ g ≤ 9223372036854775807) (w : World) :
    Calls Try.prog 9 #[.int .i64 l, .int .i64 s, .int .i64 g] w fun e w' => e = .returned (.int .u64 (mkH l s g)) ∧ w = w' := by
  have h1 : setN 0 0 8 (s % 18446744073709551616).toNat = (s % 256).toNat := by
    rw [setN_top (by omega) (by omega) (by omega) (pw_pos _)]; show 0 + 1 * (_ % 256) = _; omega
  have h2 : setN (s % 256).toNat 8 32 (g % 18446744073709551616).toNat = (s % 256).toNat + 256 * (g % 4294967296).toNat := by
    rw [setN_top (by omega) (by omega) (by omega) (show _ < 256 by omega)]; show _ + 256 * (_ % 4294967296) = _; omega
  have h3 : setN ((s % 256).toNat + 256 * (g % 4294967296).toNat) 60 4 (l % 18446744073709551616).toNat = mkH l s g := by
    rw [setN_top (by omega) (by omega) (by omega) (show _ < 1152921504606846976 by omega)]; show _ + 1152921504606846976 * (_ % 16) = _; unfold mkH; omega
  have b1 : (s % 256).toNat < 256 := by omega
  have b2 : (s % 256).toNat + 256 * (g % 4294967296).toNat < 1099511627776 := by omega
  have c1 := Lib.hid (hWith_any 0 (by omega) 0 8 s (by omega) (by omega) hs _ h1)
  have c2 := Lib.hid (hWith_any _ (by omega) 8 32 g (by omega) (by omega) hg _ h2)
  have c3 := Lib.hid (hWith_any _ (by omega) 60 4 l (by omega) (by omega) hl _ h3)
  clear h1 h2 h3
  generalize (s % 256).toNat + 256 * (g % 4294967296).toNat = k2 at *
  generalize (s % 256).toNat = k1 at *
  generalize mkH l s g = k3 at *
  go_enter Try.func9, Try.ntmps9
  go_wp2_with fail
  refine (c1.out _).mono ?_; rintro e w' ⟨rfl, rfl⟩
  go_wp2_with fail
  refine (c2.out _).mono ?_; rintro e w' ⟨rfl, rfl⟩
  go_wp2_with fail
  refine (c3.out _).mono ?_; rintro e w' ⟨rfl, rfl⟩
  go_wp2_with fail
  go_ret
  exact ⟨rfl, rfl⟩
theorem hHead_any (g s : Int) (hg : -9223372036854775808 ≤ g ∧ g ≤ 9223372036854775807) (hs : -9223372036854775808 ≤ s ∧ s ≤ 9223372036854775807) (w : World) :
    Calls Try.prog 14 #[.int .i64 g, .int .i64 s] w fun e w' => e = .returned (.int .u64 (mkHd g s)) ∧ w = w' := by
  have h1 : setN 0 0 2 (s % 18446744073709551616).toNat = (s % 4).toNat := by
    rw [setN_top (by omega) (by omega) (by omega) (pw_pos _)]; show 0 + 1 * (_ % 4) = _; omega
  have h2 : setN (s % 4).toNat 2 32 (g % 18446744073709551616).toNat = mkHd g s := by
    rw [setN_top (by omega) (by omega) (by omega) (show _ < 4 by omega)]; show _ + 4 * (_ % 4294967296) = _; unfold mkHd; omega
  have b1 : (s % 4).toNat < 4 := by omega
  have c1 := Lib.hid (hWith_any 0 (by omega) 0 2 s (by omega) (by omega) hs _ h1)
  have c2 := Lib.hid (hWith_any _ (by omega) 2 32 g (by omega) (by omega) hg _ h2)
  clear h1 h2
  generalize (s % 4).toNat = k1 at *
  generalize mkHd g s = k3 at *
  go_enter Try.func14, Try.ntmps14
  go_wp2_with fail
  refine (c1.out _).mono ?_; rintro e w' ⟨rfl, rfl⟩
  go_wp2_with fail
  refine (c2.out _).mono ?_; rintro e w' ⟨rfl, rfl⟩
  go_wp2_with fail
  go_ret
  exact ⟨rfl, rfl⟩
theorem hHold_any (t : Int) (ht : -9223372036854775808 ≤ t ∧ t ≤ 9223372036854775807) (w : World) :
    Calls Try.prog 19 #[.int .i64 t] w fun e w' => e = .returned (.int .u64 (mkHold t)) ∧ w = w' := by
  have h1 : setN 0 0 8 (t % 18446744073709551616).toNat = (t % 256).toNat := by
    rw [setN_top (by omega) (by omega) (by omega) (pw_pos _)]; show 0 + 1 * (_ % 256) = _; omega
  have h2 : turnN (t % 256).toNat 63 true = mkHold t := (top_turn (b := 63) (by omega) (show _ < 9223372036854775808 by omega)).trans rfl
  have b1 : (t % 256).toNat < 256 := by omega
  have c1 := Lib.hid (hWith_any 0 (by omega) 0 8 t (by omega) (by omega) ht _ h1)
  have c2 := Lib.hid (fTurn_any (t % 256).toNat (by omega) 63 (by omega) true)
  rw [h2] at c2
  clear h1 h2
  generalize (t % 256).toNat = k1 at *
  generalize mkHold t = k3 at *
  go_enter Try.func19, Try.ntmps19
  go_wp2_with fail
  refine (c1.out _).mono ?_; rintro e w' ⟨rfl, rfl⟩
  go_wp2_with fail
  refine (c2.out _).mono ?_; rintro e w' ⟨rfl, rfl⟩
  go_wp2_with fail
  go_ret
  exact ⟨rfl, rfl⟩
theorem hState_any (x : Nat) (hx : x < 18446744073709551616) (w : World) :
    Calls Try.prog 12 #[.int .u64 x] w fun e w' => e = .returned (.tuple #[.int .i64 (x / 4 % 4294967296 : Nat), .int .i64 (x % 4 : Nat)]) ∧ w = w' := by
  have h1 : cutN x 2 32 = x / 4 % 4294967296 := by rw [cutN_div hx (by omega) (by omega) (by omega)]; rfl
  have h2 : cutN x 0 2 = x % 4 := by rw [cutN_div hx (by omega) (by omega) (by omega)]; show x / 1 % 4 = _; omega
  have c1 := Lib.hid (hPart_any x hx 2 32 (by omega) (by omega) _ h1 (by omega))
  have c2 := Lib.hid (hPart_any x hx 0 2 (by omega) (by omega) _ h2 (by omega))
  clear h1 h2
  generalize x / 4 % 4294967296 = k1 at *
  generalize x % 4 = k2 at *
  go_enter Try.func12, Try.ntmps12
  go_wp2_with fail
  refine (c1.out _).mono ?_; rintro e w' ⟨rfl, rfl⟩
  go_wp2_with fail
  refine (c2.out _).mono ?_; rintro e w' ⟨rfl, rfl⟩
  go_wp2_with fail
  go_ret2
  exact ⟨rfl, rfl⟩
end Go.Proofs.Ytnbkkihpnfpgcaa
