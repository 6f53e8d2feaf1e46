/- Statements LinkMakes, LinkTops and LinkKeeps of layer 2, walked: each returns true, and turns nothing that was there. -/
import Derived.Test.YthknidhjclaiiaaLaw
import Derived.Test.YthknidhjclaiiaaRef2
import Derived.Deep.RegionHeld3
namespace Go.Proofs.Ythknidhjclaiiaa
open Go.ChangeShapes Go.WideShapes Go.ChangeAt Go.RowKit

theorem lives2_any (w : World) : Calls Try.prog 15 #[] w fun e w' => e = .returned (.bool true) ∧ w = w' := by
  have H1 := Lib.hid (show mkL 3 1 = 259 by decide)
  have H2 := Lib.hid (show mkT 5 (0 / 256 + 1) = 261 by decide)
  go_enter Try.func15, Try.ntmps15
  go_wp2_with fail
  refine (linkMake_any 3 1 (by omega) (by omega) _).mono ?_; rintro e w' ⟨rfl, rfl⟩; rw [H1.out]
  go_wp2_with fail
  refine (linkChanged_any 0 (by omega) 5 (by omega) _).mono ?_; rintro e w' ⟨rfl, rfl⟩; rw [H2.out]
  go_wp2_with fail
  go_ret
  exact ⟨rfl, rfl⟩

theorem linkMakes_walk (s g : Int) (hs : -9223372036854775808 ≤ s ∧ s ≤ 9223372036854775807) (hg : -9223372036854775808 ≤ g ∧ g ≤ 9223372036854775807) (w : World) :
    Calls Try.prog 4 #[.int .i64 s, .int .i64 g] w fun e w' => e = .returned (.bool true) ∧ Below w.heap.size w w' := by
  go_enter Try.func4, Try.ntmps4
  go_wp2_with fail
  refine (linkMake_any s g hs hg _).mono ?_; rintro e w' ⟨rfl, rfl⟩
  go_wp2_with fail
  refine (ref2Make_any s g hs hg _).mono ?_; rintro e w' ⟨rfl, rfl⟩
  go_wp2_with fail
  refine (lives2_any _).mono ?_; rintro e w' ⟨rfl, rfl⟩
  go_wp2_with fail
  go_ret
  exact ⟨rfl, Below.refl _ _⟩

theorem linkTops_walk (x : Nat) (hx : x < 18446744073709551616) (s : Int) (hs : -9223372036854775808 ≤ s ∧ s ≤ 9223372036854775807) (c : Nat) (hc : c < 18446744073709551616) (w : World) :
    Calls Try.prog 5 #[.int .u64 x, .int .i64 s, .int .u64 c] w fun e w' => e = .returned (.bool true) ∧ Below w.heap.size w w' := by
  go_enter Try.func5, Try.ntmps5
  go_wp2_with fail
  refine (linkTop_any s hs c hc _).mono ?_; rintro e w' ⟨rfl, rfl⟩
  go_wp2_with fail
  refine (ref2Top_any s hs c hc _).mono ?_; rintro e w' ⟨rfl, rfl⟩
  go_wp2_with fail
  refine (linkUnder_any x hx _).mono ?_; rintro e w' ⟨rfl, rfl⟩
  go_wp2_with fail
  refine (linkChanged_any x hx s hs _).mono ?_; rintro e w' ⟨rfl, rfl⟩
  go_wp2_with fail
  refine (ref2Changed_any x hx s hs _).mono ?_; rintro e w' ⟨rfl, rfl⟩
  go_wp2_with fail
  refine (lives2_any _).mono ?_; rintro e w' ⟨rfl, rfl⟩
  go_wp2_with fail
  go_ret
  exact ⟨rfl, Below.refl _ _⟩

theorem linkKeeps_walk (x : Nat) (hx : x < 18446744073709551616) (s g : Int) (hs : -9223372036854775808 ≤ s ∧ s ≤ 9223372036854775807) (hg : -9223372036854775808 ≤ g ∧ g ≤ 9223372036854775807) (w : World) :
    Calls Try.prog 6 #[.int .u64 x, .int .i64 s, .int .i64 g] w fun e w' => e = .returned (.bool true) ∧ Below w.heap.size w w' := by
  have hm := markN_lt x
  have hp := plainN_lt x
  have K1 := Lib.hid (show sameL (markN x) x = true by unfold sameL plainN markN; simp; omega)
  have K2 := Lib.hid (show decide (9223372036854775808 ≤ markN x) = true by unfold markN; simp)
  have K3 := Lib.hid (show decide (9223372036854775808 ≤ plainN x) = false by unfold plainN; simp; omega)
  have K4 := Lib.hid (show sameL (plainN x) x = true by unfold sameL plainN; simp)
  have K5 := Lib.hid (show plainN (plainN x) = plainN x by unfold plainN; simp)
  have K6 := Lib.hid (fun (h : 0 ≤ s ∧ s ≤ 255) => show ((mkT s (x / 256 + 1) % 256 : Nat) : Int) = s by unfold mkT; omega)
  have K7 := Lib.hid (show (((mkT s (x / 256 + 1) : Nat) : Int) != (x : Int)) = true by rw [bne_iff_ne]; unfold mkT; omega)
  have K8 := Lib.hid (show (((mkT s (mkT s (x / 256 + 1) / 256 + 1) : Nat) : Int) != ((mkT s (x / 256 + 1) : Nat) : Int)) = true by rw [bne_iff_ne]; unfold mkT; omega)
  have K9 := Lib.hid (fun (h : 0 ≤ s ∧ s ≤ 255) => show ((mkL s g % 256 : Nat) : Int) = s by unfold mkL; omega)
  have K10 := Lib.hid (fun (h : 0 ≤ g ∧ g ≤ 4294967295) => show ((mkL s g / 256 % 4294967296 : Nat) : Int) = g by unfold mkL; omega)
  have K11 := Lib.hid (show decide (9223372036854775808 ≤ mkL s g) = false by have := mkL_lt s g; simp; omega)
  have ht := mkT_lt s (x / 256 + 1)
  have hl := mkL_lt s g
  have cMark := Lib.hid (linkMark_any x hx)
  have cPlain := Lib.hid (linkPlain_any x hx)
  have cPlain2 := Lib.hid (linkPlain_any (plainN x) (by omega))
  have cMake := Lib.hid (linkMake_any s g hs hg)
  rw [K5.out] at cPlain2
  generalize hgm : markN x = m at *
  generalize hgp : plainN x = p at *
  generalize hgl : mkL s g = l at *
  generalize hgt : mkT s (x / 256 + 1) = t at *
  have Hgt := Lib.hid hgt
  clear hgm hgp hgl hgt
  by_cases h1 : 0 ≤ s ∧ s ≤ 255 ∧ 0 ≤ g ∧ g ≤ 4294967295
  · obtain ⟨h1, h2, h3, h4⟩ := h1
    have K6 := Lib.hid (K6.out ⟨h1, h2⟩); have K9 := Lib.hid (K9.out ⟨h1, h2⟩); have K10 := Lib.hid (K10.out ⟨h3, h4⟩)
    go_enter Try.func6, Try.ntmps6
    go_wp2_with fail
    refine (cMark.out _).mono ?_; rintro e w' ⟨rfl, rfl⟩
    go_wp2_with fail
    refine (linkSame_any _ x hm hx _).mono ?_; rintro e w' ⟨rfl, rfl⟩; rw [K1.out]
    go_wp2_with fail
    refine (cMark.out _).mono ?_; rintro e w' ⟨rfl, rfl⟩
    go_wp2_with fail
    refine (linkMarked_any _ hm _).mono ?_; rintro e w' ⟨rfl, rfl⟩; rw [K2.out]
    go_wp2_with fail
    refine (cPlain.out _).mono ?_; rintro e w' ⟨rfl, rfl⟩
    go_wp2_with fail
    refine (linkMarked_any _ (by omega) _).mono ?_; rintro e w' ⟨rfl, rfl⟩; rw [K3.out]
    go_wp2_with fail
    refine (cPlain.out _).mono ?_; rintro e w' ⟨rfl, rfl⟩
    go_wp2_with fail
    refine (linkSame_any _ x (by omega) hx _).mono ?_; rintro e w' ⟨rfl, rfl⟩; rw [K4.out]
    go_wp2_with fail
    refine (cPlain.out _).mono ?_; rintro e w' ⟨rfl, rfl⟩
    go_wp2_with fail
    refine (cPlain2.out _).mono ?_; rintro e w' ⟨rfl, rfl⟩
    go_wp2_with fail
    refine (cPlain.out _).mono ?_; rintro e w' ⟨rfl, rfl⟩
    go_wp2_with fail
    refine (cMake.out _).mono ?_; rintro e w' ⟨rfl, rfl⟩
    go_wp2_with fail
    refine (linkChanged_any x hx s hs _).mono ?_; rintro e w' ⟨rfl, rfl⟩; rw [Hgt.out]
    go_wp2_with fail
    refine (linkSlot_any _ (by omega) _).mono ?_; rintro e w' ⟨rfl, rfl⟩; rw [K9.out]
    go_wp2_with fail
    refine (linkGen_any _ (by omega) _).mono ?_; rintro e w' ⟨rfl, rfl⟩; rw [K10.out]
    go_wp2_with fail
    refine (linkMarked_any _ (by omega) _).mono ?_; rintro e w' ⟨rfl, rfl⟩; rw [K11.out]
    go_wp2_with fail
    refine (linkUnder_any _ ht _).mono ?_; rintro e w' ⟨rfl, rfl⟩; rw [K6.out]
    have K7' := K7.out
    go_wp2_with fail
    refine (linkChanged_any _ ht s hs _).mono ?_; rintro e w' ⟨rfl, rfl⟩
    have K8' := K8.out
    go_wp2_with fail
    refine (lives2_any _).mono ?_; rintro e w' ⟨rfl, rfl⟩
    go_wp2_with fail
    go_ret
    exact ⟨rfl, Below.refl _ _⟩
  · have hx1 : Hid (¬ (0 ≤ s ∧ s ≤ 255 ∧ 0 ≤ g ∧ g ≤ 4294967295)) := Lib.hid h1
    clear h1
    go_enter Try.func6, Try.ntmps6
    go_wp2_with fail
    refine (cMark.out _).mono ?_; rintro e w' ⟨rfl, rfl⟩
    go_wp2_with fail
    refine (linkSame_any _ x hm hx _).mono ?_; rintro e w' ⟨rfl, rfl⟩; rw [K1.out]
    go_wp2_with fail
    refine (cMark.out _).mono ?_; rintro e w' ⟨rfl, rfl⟩
    go_wp2_with fail
    refine (linkMarked_any _ hm _).mono ?_; rintro e w' ⟨rfl, rfl⟩; rw [K2.out]
    go_wp2_with fail
    refine (cPlain.out _).mono ?_; rintro e w' ⟨rfl, rfl⟩
    go_wp2_with fail
    refine (linkMarked_any _ (by omega) _).mono ?_; rintro e w' ⟨rfl, rfl⟩; rw [K3.out]
    go_wp2_with fail
    refine (cPlain.out _).mono ?_; rintro e w' ⟨rfl, rfl⟩
    go_wp2_with fail
    refine (linkSame_any _ x (by omega) hx _).mono ?_; rintro e w' ⟨rfl, rfl⟩; rw [K4.out]
    go_wp2_with fail
    refine (cPlain.out _).mono ?_; rintro e w' ⟨rfl, rfl⟩
    go_wp2_with fail
    refine (cPlain2.out _).mono ?_; rintro e w' ⟨rfl, rfl⟩
    go_wp2_with fail
    refine (cPlain.out _).mono ?_; rintro e w' ⟨rfl, rfl⟩
    go_wp2_with ((go_at_call 15; refine (lives2_any _).mono ?_; rintro e w' ⟨rfl, rfl⟩))
    all_goals first | (go_ret; exact ⟨rfl, Below.refl _ _⟩) | (exfalso; have := hx1.out; omega) | skip
end Go.Proofs.Ythknidhjclaiiaa
