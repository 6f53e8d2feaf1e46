/- What the functions of package link answer, as quotients and rests; and the document's answers of layer 2. -/
import Derived.Test.YtlldhkcimlmaoaaRows
import Derived.Test.YtlldhkcimlmaoaaWord
import Derived.Test.YtlldhkcimlmaoaaField
namespace Go.Proofs.Ytlldhkcimlmaoaa
open Go.ChangeShapes Go.WideShapes Go.ChangeAt Go.RowKit

/-- A link out of numbers. -/
def mkL (s g : Int) : Nat := (s % 256).toNat + 256 * (g % 4294967296).toNat
def mkT (s : Int) (c : Nat) : Nat := (s % 256).toNat + 256 * (c % 72057594037927936)
theorem mkL_lt (s g : Int) : mkL s g < 1099511627776 := by unfold mkL; omega
theorem mkT_lt (s : Int) (c : Nat) : mkT s c < 18446744073709551616 := by unfold mkT; omega

theorem cut_slot (x : Nat) (hx : x < 18446744073709551616) : cutN x 0 8 = x % 256 := by
  rw [cutN_div hx (by omega) (by omega) (by omega)]; show x / 1 % 256 = _; omega
theorem cut_gen (x : Nat) (hx : x < 18446744073709551616) : cutN x 8 32 = x / 256 % 4294967296 := by
  rw [cutN_div hx (by omega) (by omega) (by omega)]; rfl
theorem cut_changes (x : Nat) (hx : x < 18446744073709551616) : cutN x 8 56 = x / 256 := by
  rw [cutN_div hx (by omega) (by omega) (by omega)]; show x / 256 % 72057594037927936 = _; omega
theorem set_slot (n : Nat) : setN 0 0 8 n = n % 256 := by
  rw [setN_div (by omega) (by omega) (by omega) (by omega)]; show 1 * (256 * (0 / 256) + n % 256) + 0 % 1 = _; omega
theorem set_gen (x n : Nat) (hx : x < 256) : setN x 8 32 n = x + 256 * (n % 4294967296) := by
  rw [setN_div (by omega) (by omega) (by omega) (by omega)]; show 256 * (4294967296 * (x / 1099511627776) + n % 4294967296) + x % 256 = _; omega
theorem set_changes (x n : Nat) (hx : x < 256) : setN x 8 56 n = x + 256 * (n % 72057594037927936) := by
  rw [setN_div (by omega) (by omega) (by omega) (by omega)]; show 256 * (72057594037927936 * (x / 18446744073709551616) + n % 72057594037927936) + x % 256 = _; omega

theorem withSlot_any (s : Int) (hs : -9223372036854775808 ≤ s ∧ s ≤ 9223372036854775807) (w : World) :
    Calls Try.prog 40 #[.int .i64 s] w fun e w' => e = .returned (.int .u64 ((s % 256).toNat : Nat)) ∧ w = w' := by
  obtain ⟨m, h1, h2, h3⟩ := wrap_nat s
  have H1 := Lib.hid h1; clear h1
  have H := Lib.hid (show setN 0 0 8 m = (s % 256).toNat by rw [set_slot]; omega); clear h2
  generalize hk : (s % 256).toNat = k at *
  clear hk
  go_enter Try.func40, Try.ntmps40
  go_wp2_with fail
  refine (fBits_any _ hs _).mono ?_; rintro e w' ⟨rfl, rfl⟩; rw [H1.out]
  go_wp2_with fail
  refine (fSet_any 0 (by omega) _ _ (by omega) (by omega) _ h3 _).mono ?_; rintro e w' ⟨rfl, rfl⟩; rw [H.out]
  go_wp2_with fail
  go_ret
  exact ⟨rfl, rfl⟩
theorem slotOf_any (x : Nat) (hx : x < 18446744073709551616) (w : World) :
    Calls Try.prog 37 #[.int .u64 x] w fun e w' => e = .returned (.int .i64 (x % 256 : Nat)) ∧ w = w' := by
  have H := Lib.hid (cut_slot x hx)
  have hb : x % 256 < 256 := by omega
  generalize hm : x % 256 = m at *
  clear hm
  go_enter Try.func37, Try.ntmps37
  go_wp2_with fail
  refine (fCut_any x hx _ _ (by omega) (by omega) _).mono ?_; rintro e w' ⟨rfl, rfl⟩; rw [H.out]
  go_wp2_with fail
  go_ret
  exact ⟨rfl, rfl⟩
theorem linkMake_any (s g : Int) (hs : -9223372036854775808 ≤ s ∧ s ≤ 9223372036854775807) (hg : -9223372036854775808 ≤ g ∧ g ≤ 9223372036854775807) (w : World) :
    Calls Try.prog 32 #[.int .i64 s, .int .i64 g] w fun e w' => e = .returned (.int .u64 (mkL s g)) ∧ w = w' := by
  obtain ⟨m, h1, h2, h3⟩ := wrap_nat g
  have H1 := Lib.hid h1; clear h1
  have H := Lib.hid (show setN (s % 256).toNat 8 32 m = mkL s g by rw [set_gen _ _ (by omega)]; unfold mkL; omega); clear h2
  have hb : (s % 256).toNat < 18446744073709551616 := by omega
  generalize hk : (s % 256).toNat = k at *
  have Hk := Lib.hid hk; clear hk
  go_enter Try.func32, Try.ntmps32
  go_wp2_with fail
  refine (withSlot_any _ hs _).mono ?_; rintro e w' ⟨rfl, rfl⟩; rw [Hk.out]
  go_wp2_with fail
  refine (fBits_any _ hg _).mono ?_; rintro e w' ⟨rfl, rfl⟩; rw [H1.out]
  go_wp2_with fail
  refine (fSet_any k hb _ _ (by omega) (by omega) _ h3 _).mono ?_; rintro e w' ⟨rfl, rfl⟩; rw [H.out]
  go_wp2_with fail
  go_ret
  exact ⟨rfl, rfl⟩
theorem linkSlot_any (x : Nat) (hx : x < 18446744073709551616) (w : World) :
    Calls Try.prog 30 #[.int .u64 x] w fun e w' => e = .returned (.int .i64 (x % 256 : Nat)) ∧ w = w' := by
  go_enter Try.func30, Try.ntmps30
  go_wp2_with fail
  refine (slotOf_any x hx _).mono ?_; rintro e w' ⟨rfl, rfl⟩
  go_wp2_with fail
  go_ret
  exact ⟨rfl, rfl⟩
theorem linkGen_any (x : Nat) (hx : x < 18446744073709551616) (w : World) :
    Calls Try.prog 43 #[.int .u64 x] w fun e w' => e = .returned (.int .i64 (x / 256 % 4294967296 : Nat)) ∧ w = w' := by
  have H := Lib.hid (cut_gen x hx)
  have hb : x / 256 % 4294967296 < 4294967296 := by omega
  generalize hm : x / 256 % 4294967296 = m at *
  clear hm
  go_enter Try.func43, Try.ntmps43
  go_wp2_with fail
  refine (fCut_any x hx _ _ (by omega) (by omega) _).mono ?_; rintro e w' ⟨rfl, rfl⟩; rw [H.out]
  go_wp2_with fail
  go_ret
  exact ⟨rfl, rfl⟩
def markN (x : Nat) : Nat := x % 9223372036854775808 + 9223372036854775808
theorem markN_lt (x : Nat) : markN x < 18446744073709551616 := by unfold markN; omega
def plainN (x : Nat) : Nat := x % 1099511627776
theorem plainN_lt (x : Nat) : plainN x < 1099511627776 := by unfold plainN; omega
theorem mkL_parts (x : Nat) : mkL (x % 256 : Nat) (x / 256 % 4294967296 : Nat) = plainN x := by unfold mkL plainN; omega
theorem linkPlain_any (x : Nat) (hx : x < 18446744073709551616) (w : World) :
    Calls Try.prog 38 #[.int .u64 x] w fun e w' => e = .returned (.int .u64 (plainN x)) ∧ w = w' := by
  have H := Lib.hid (mkL_parts x)
  have H1 := Lib.hid (linkSlot_any x hx)
  have H2 := Lib.hid (linkGen_any x hx)
  have hb : x % 256 < 256 := by omega
  generalize hm : x % 256 = m at *
  have hc : x / 256 % 4294967296 < 4294967296 := by omega
  generalize hk : x / 256 % 4294967296 = k at *
  clear hm hk
  go_enter Try.func38, Try.ntmps38
  go_wp2_with fail
  refine (H1.out _).mono ?_; rintro e w' ⟨rfl, rfl⟩
  go_wp2_with fail
  refine (H2.out _).mono ?_; rintro e w' ⟨rfl, rfl⟩
  go_wp2_with fail
  refine (linkMake_any _ _ (by omega) (by omega) _).mono ?_; rintro e w' ⟨rfl, rfl⟩; rw [H.out]
  go_wp2_with fail
  go_ret
  exact ⟨rfl, rfl⟩
def sameL (x y : Nat) : Bool := decide (plainN x = plainN y)
theorem linkSame_any (x y : Nat) (hx : x < 18446744073709551616) (hy : y < 18446744073709551616) (w : World) :
    Calls Try.prog 31 #[.int .u64 x, .int .u64 y] w fun e w' => e = .returned (.bool (sameL x y)) ∧ w = w' := by
  have H : Hid ((((plainN x : Nat) : Int) == ((plainN y : Nat) : Int)) = (sameL x y)) := by
    refine Lib.hid ?_
    unfold sameL
    rw [Bool.eq_iff_iff]; simp; omega
  go_enter Try.func31, Try.ntmps31
  go_wp2_with fail
  refine (linkPlain_any x hx _).mono ?_; rintro e w' ⟨rfl, rfl⟩
  go_wp2_with fail
  refine (linkPlain_any y hy _).mono ?_; rintro e w' ⟨rfl, rfl⟩
  go_wp2_with fail
  go_ret
  exact ⟨by rw [H.out]; rfl, rfl⟩
end Go.Proofs.Ytlldhkcimlmaoaa
