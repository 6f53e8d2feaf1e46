/- What the functions of package link answer, as quotients and rests; and the document's answers of layer 2. -/
import Derived.Test.YthknidhjclaiiaaRows
import Derived.Test.YthknidhjclaiiaaWord
import Derived.Test.YthknidhjclaiiaaField
namespace Go.Proofs.Ythknidhjclaiiaa
open Go.ChangeShapes Go.WideShapes Go.ChangeAt Go.RowKit

/-- A link out of numbers. -/
def mkL (s g : Int) : Nat := (s % 256).toNat + 256 * (g % 4294967296).toNat
def mkT (s : Int) (c : Nat) : Nat := (s % 256).toNat + 256 * (c % 72057594037927936)
theorem mkL_lt (s g : Int) : mkL s g < 1099511627776 := by unfold mkL; omega
theorem mkT_lt (s : Int) (c : Nat) : mkT s c < 18446744073709551616 := by unfold mkT; omega

theorem wrap_nat (n : Int) : ∃ m : Nat, IntKind.u64.wrap n = (m : Int) ∧ m = (n % 18446744073709551616).toNat ∧ m < 18446744073709551616 := by
  rw [IntKind.wrap_u64]; exact ⟨(n % 18446744073709551616).toNat, by omega, rfl, by omega⟩

theorem cut_slot (x : Nat) (hx : x < 18446744073709551616) : cutN x 0 8 = x % 256 := by
  rw [cutN_div hx (by omega) (by omega) (by omega)]; show x / 1 % 256 = _; omega
theorem cut_gen (x : Nat) (hx : x < 18446744073709551616) : cutN x 8 32 = x / 256 % 4294967296 := by
  rw [cutN_div hx (by omega) (by omega) (by omega)]; rfl
theorem cut_changes (x : Nat) (hx : x < 18446744073709551616) : cutN x 8 56 = x / 256 := by
  rw [cutN_div hx (by omega) (by omega) (by omega)]; show x / 256 % 72057594037927936 = _; omega
theorem set_slot (n : Nat) : setN 0 0 8 n = n % 256 := by
  rw [setN_div (by omega) (by omega) (by omega) (by omega)]; show 1 * (256 * (0 / 256) + n % 256) + 0 % 1 = _; omega
theorem set_gen (x n : Nat) (hx : x < 256) : setN x 8 32 n = x + 256 * (n % 4294967296) := by
  rw [setN_div (by omega) (by omega) (by omega) (by omega)]; show 256 * (4294967296 * (x / 1099511627776) + n % 4294967296) + x % 256 = _; omega
theorem set_changes (x n : Nat) (hx : x < 256) : setN x 8 56 n = x + 256 * (n % 72057594037927936) := by
  rw [setN_div (by omega) (by omega) (by omega) (by omega)]; show 256 * (72057594037927936 * (x / 18446744073709551616) + n % 72057594037927936) + x % 256 = _; omega

theorem withSlot_any (s : Int) (hs : -9223372036854775808 ≤ s ∧ s ≤ 9223372036854775807) (w : World) :
    Calls Try.prog 28 #[.int .i64 s] w fun e w' => e = .returned (.int .u64 ((s % 256).toNat : Nat)) ∧ w = w' := by
  obtain ⟨m, h1, h2, h3⟩ := wrap_nat s
  have H1 := Lib.hid h1; clear h1
  have H := Lib.hid (show setN 0 0 8 m = (s % 256).toNat by rw [set_slot]; omega); clear h2
  generalize hk : (s % 256).toNat = k at *
  clear hk
  go_enter Try.func28, Try.ntmps28
  go_wp2_with fail
  refine (fBits_any _ hs _).mono ?_; rintro e w' ⟨rfl, rfl⟩; rw [H1.out]
  go_wp2_with fail
  refine (fSet_any 0 (by omega) _ _ (by omega) (by omega) _ h3 _).mono ?_; rintro e w' ⟨rfl, rfl⟩; rw [H.out]
  go_wp2_with fail
  go_ret
  exact ⟨rfl, rfl⟩
theorem slotOf_any (x : Nat) (hx : x < 18446744073709551616) (w : World) :
    Calls Try.prog 22 #[.int .u64 x] w fun e w' => e = .returned (.int .i64 (x % 256 : Nat)) ∧ w = w' := by
  have H := Lib.hid (cut_slot x hx)
  have hb : x % 256 < 256 := by omega
  generalize hm : x % 256 = m at *
  clear hm
  go_enter Try.func22, Try.ntmps22
  go_wp2_with fail
  refine (fCut_any x hx _ _ (by omega) (by omega) _).mono ?_; rintro e w' ⟨rfl, rfl⟩; rw [H.out]
  go_wp2_with fail
  go_ret
  exact ⟨rfl, rfl⟩
theorem linkMake_any (s g : Int) (hs : -9223372036854775808 ≤ s ∧ s ≤ 9223372036854775807) (hg : -9223372036854775808 ≤ g ∧ g ≤ 9223372036854775807) (w : World) :
    Calls Try.prog 16 #[.int .i64 s, .int .i64 g] w fun e w' => e = .returned (.int .u64 (mkL s g)) ∧ w = w' := by
  obtain ⟨m, h1, h2, h3⟩ := wrap_nat g
  have H1 := Lib.hid h1; clear h1
  have H := Lib.hid (show setN (s % 256).toNat 8 32 m = mkL s g by rw [set_gen _ _ (by omega)]; unfold mkL; omega); clear h2
  have hb : (s % 256).toNat < 18446744073709551616 := by omega
  generalize hk : (s % 256).toNat = k at *
  have Hk := Lib.hid hk; clear hk
  go_enter Try.func16, Try.ntmps16
  go_wp2_with fail
  refine (withSlot_any _ hs _).mono ?_; rintro e w' ⟨rfl, rfl⟩; rw [Hk.out]
  go_wp2_with fail
  refine (fBits_any _ hg _).mono ?_; rintro e w' ⟨rfl, rfl⟩; rw [H1.out]
  go_wp2_with fail
  refine (fSet_any k hb _ _ (by omega) (by omega) _ h3 _).mono ?_; rintro e w' ⟨rfl, rfl⟩; rw [H.out]
  go_wp2_with fail
  go_ret
  exact ⟨rfl, rfl⟩
theorem linkSlot_any (x : Nat) (hx : x < 18446744073709551616) (w : World) :
    Calls Try.prog 8 #[.int .u64 x] w fun e w' => e = .returned (.int .i64 (x % 256 : Nat)) ∧ w = w' := by
  go_enter Try.func8, Try.ntmps8
  go_wp2_with fail
  refine (slotOf_any x hx _).mono ?_; rintro e w' ⟨rfl, rfl⟩
  go_wp2_with fail
  go_ret
  exact ⟨rfl, rfl⟩
theorem linkGen_any (x : Nat) (hx : x < 18446744073709551616) (w : World) :
    Calls Try.prog 9 #[.int .u64 x] w fun e w' => e = .returned (.int .i64 (x / 256 % 4294967296 : Nat)) ∧ w = w' := by
  have H := Lib.hid (cut_gen x hx)
  have hb : x / 256 % 4294967296 < 4294967296 := by omega
  generalize hm : x / 256 % 4294967296 = m at *
  clear hm
  go_enter Try.func9, Try.ntmps9
  go_wp2_with fail
  refine (fCut_any x hx _ _ (by omega) (by omega) _).mono ?_; rintro e w' ⟨rfl, rfl⟩; rw [H.out]
  go_wp2_with fail
  go_ret
  exact ⟨rfl, rfl⟩
theorem linkMarked_any (x : Nat) (hx : x < 18446744073709551616) (w : World) :
    Calls Try.prog 10 #[.int .u64 x] w fun e w' => e = .returned (.bool (decide (9223372036854775808 ≤ x))) ∧ w = w' := by
  have H := Lib.hid (top_bit hx)
  go_enter Try.func10, Try.ntmps10
  go_wp2_with fail
  refine (fHas_any x hx _ (by omega) _).mono ?_; rintro e w' ⟨rfl, rfl⟩; rw [H.out]
  go_wp2_with fail
  go_ret
  exact ⟨rfl, rfl⟩
def markN (x : Nat) : Nat := x % 9223372036854775808 + 9223372036854775808
theorem markN_lt (x : Nat) : markN x < 18446744073709551616 := by unfold markN; omega
theorem linkMark_any (x : Nat) (hx : x < 18446744073709551616) (w : World) :
    Calls Try.prog 11 #[.int .u64 x] w fun e w' => e = .returned (.int .u64 (markN x)) ∧ w = w' := by
  have H := Lib.hid (show turnN x 63 true = markN x from top_on hx)
  go_enter Try.func11, Try.ntmps11
  go_wp2_with fail
  refine (fTurn_any x hx _ (by omega) _ _).mono ?_; rintro e w' ⟨rfl, rfl⟩; rw [H.out]
  go_wp2_with fail
  go_ret
  exact ⟨rfl, rfl⟩
def plainN (x : Nat) : Nat := x % 1099511627776
theorem plainN_lt (x : Nat) : plainN x < 1099511627776 := by unfold plainN; omega
theorem mkL_parts (x : Nat) : mkL (x % 256 : Nat) (x / 256 % 4294967296 : Nat) = plainN x := by unfold mkL plainN; omega
theorem linkPlain_any (x : Nat) (hx : x < 18446744073709551616) (w : World) :
    Calls Try.prog 12 #[.int .u64 x] w fun e w' => e = .returned (.int .u64 (plainN x)) ∧ w = w' := by
  have H := Lib.hid (mkL_parts x)
  have H1 := Lib.hid (linkSlot_any x hx)
  have H2 := Lib.hid (linkGen_any x hx)
  have hb : x % 256 < 256 := by omega
  generalize hm : x % 256 = m at *
  have hc : x / 256 % 4294967296 < 4294967296 := by omega
  generalize hk : x / 256 % 4294967296 = k at *
  clear hm hk
  go_enter Try.func12, Try.ntmps12
  go_wp2_with fail
  refine (H1.out _).mono ?_; rintro e w' ⟨rfl, rfl⟩
  go_wp2_with fail
  refine (H2.out _).mono ?_; rintro e w' ⟨rfl, rfl⟩
  go_wp2_with fail
  refine (linkMake_any _ _ (by omega) (by omega) _).mono ?_; rintro e w' ⟨rfl, rfl⟩; rw [H.out]
  go_wp2_with fail
  go_ret
  exact ⟨rfl, rfl⟩
def sameL (x y : Nat) : Bool := decide (plainN x = plainN y)
theorem linkSame_any (x y : Nat) (hx : x < 18446744073709551616) (hy : y < 18446744073709551616) (w : World) :
    Calls Try.prog 14 #[.int .u64 x, .int .u64 y] w fun e w' => e = .returned (.bool (sameL x y)) ∧ w = w' := by
  have H : Hid ((((plainN x : Nat) : Int) == ((plainN y : Nat) : Int)) = (sameL x y)) := by
    refine Lib.hid ?_
    unfold sameL
    rw [Bool.eq_iff_iff]; simp; omega
  go_enter Try.func14, Try.ntmps14
  go_wp2_with fail
  refine (linkPlain_any x hx _).mono ?_; rintro e w' ⟨rfl, rfl⟩
  go_wp2_with fail
  refine (linkPlain_any y hy _).mono ?_; rintro e w' ⟨rfl, rfl⟩
  go_wp2_with fail
  go_ret
  exact ⟨by rw [H.out]; rfl, rfl⟩
theorem linkTop_any (s : Int) (hs : -9223372036854775808 ≤ s ∧ s ≤ 9223372036854775807) (c : Nat) (hc : c < 18446744073709551616) (w : World) :
    Calls Try.prog 17 #[.int .i64 s, .int .u64 c] w fun e w' => e = .returned (.int .u64 (mkT s c)) ∧ w = w' := by
  have H := Lib.hid (show setN (s % 256).toNat 8 56 c = mkT s c by rw [set_changes _ _ (by omega)]; unfold mkT; omega)
  have hb : (s % 256).toNat < 18446744073709551616 := by omega
  generalize hk : (s % 256).toNat = k at *
  have Hk := Lib.hid hk; clear hk
  go_enter Try.func17, Try.ntmps17
  go_wp2_with fail
  refine (withSlot_any _ hs _).mono ?_; rintro e w' ⟨rfl, rfl⟩; rw [Hk.out]
  go_wp2_with fail
  refine (fSet_any k hb _ _ (by omega) (by omega) _ hc _).mono ?_; rintro e w' ⟨rfl, rfl⟩; rw [H.out]
  go_wp2_with fail
  go_ret
  exact ⟨rfl, rfl⟩
theorem linkUnder_any (x : Nat) (hx : x < 18446744073709551616) (w : World) :
    Calls Try.prog 19 #[.int .u64 x] w fun e w' => e = .returned (.int .i64 (x % 256 : Nat)) ∧ w = w' := by
  go_enter Try.func19, Try.ntmps19
  go_wp2_with fail
  refine (slotOf_any x hx _).mono ?_; rintro e w' ⟨rfl, rfl⟩
  go_wp2_with fail
  go_ret
  exact ⟨rfl, rfl⟩
theorem linkChanged_any (x : Nat) (hx : x < 18446744073709551616) (s : Int) (hs : -9223372036854775808 ≤ s ∧ s ≤ 9223372036854775807) (w : World) :
    Calls Try.prog 20 #[.int .u64 x, .int .i64 s] w fun e w' => e = .returned (.int .u64 (mkT s (x / 256 + 1))) ∧ w = w' := by
  have H := Lib.hid (cut_changes x hx)
  have hb : x / 256 < 72057594037927936 := by omega
  generalize hm : x / 256 = m at *
  clear hm
  go_enter Try.func20, Try.ntmps20
  go_wp2_with fail
  refine (fCut_any x hx _ _ (by omega) (by omega) _).mono ?_; rintro e w' ⟨rfl, rfl⟩; rw [H.out]
  go_wp2_with fail
  refine (linkTop_any _ hs (m + 1) (by omega) _).mono ?_; rintro e w' ⟨rfl, rfl⟩
  go_wp2_with fail
  go_ret
  exact ⟨rfl, rfl⟩
end Go.Proofs.Ythknidhjclaiiaa
