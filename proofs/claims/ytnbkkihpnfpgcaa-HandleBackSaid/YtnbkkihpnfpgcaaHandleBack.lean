/- Statement HandleBack of layer 3, walked: it returns true, and turns nothing that was there. -/
import Derived.Test.YtnbkkihpnfpgcaaHandleLaws
import Derived.Deep.DeepCutAuto
import Derived.IntWalk
namespace Go.Proofs.Ytnbkkihpnfpgcaa
open Go.ChangeShapes Go.WideShapes Go.ChangeAt Go.RowKit

def hIn (a b c : Int) : Bool := decide (0 ≤ a ∧ a < 16 ∧ 0 < b ∧ b < 256 ∧ 0 ≤ c ∧ c < 4294967296)
def eOut (s g : Int) (l : Nat) : Bool := decide (s < 0 ∨ 255 < s ∨ g < 0 ∨ 16777215 < g ∨ 1073741823 < l)

set_option maxRecDepth 100000 in
set_option maxHeartbeats 4000000 in
theorem handleBack_walk (a b c s g : Int) (l : Nat) (t : Int) (ha : -9223372036854775808 ≤ a ∧ a ≤ 9223372036854775807) (hb : -9223372036854775808 ≤ b ∧ b ≤ 9223372036854775807) (hc : -9223372036854775808 ≤ c ∧ c ≤ 9223372036854775807) (hs : -9223372036854775808 ≤ s ∧ s ≤ 9223372036854775807) (hg : -9223372036854775808 ≤ g ∧ g ≤ 9223372036854775807) (hl : l < 18446744073709551616) (ht : -9223372036854775808 ≤ t ∧ t ≤ 9223372036854775807) (w : World) :
    Calls Try.prog 6 #[.agg #[.int .i64 a, .int .i64 b, .int .i64 c], .agg #[.int .i64 s, .int .i64 g, .int .u64 l], .int .i64 t] w fun e w' => e = .returned (.bool true) ∧ Below w.heap.size w w' := by
  have cMake := Lib.hid (hMake_any a b c ha hb hc)
  have cHead := Lib.hid (hHead_any c a hc ha)
  have cParts := Lib.hid (fun h : hIn a b c = true => show ∀ w, Calls Try.prog 7 #[.int .u64 (mkH a b c : Nat)] w fun e w' => e = .returned (.tuple #[.int .i64 a, .int .i64 b, .int .i64 c, .bool true]) ∧ w = w' by
    have h1 := hParts_any (mkH a b c) (mkH_lt a b c)
    have h2 : 0 ≤ a ∧ a < 16 ∧ 0 < b ∧ b < 256 ∧ 0 ≤ c ∧ c < 4294967296 := by simpa [hIn] using h
    rw [show ((mkH a b c / 1152921504606846976 : Nat) : Int) = a by unfold mkH; omega, show ((mkH a b c % 256 : Nat) : Int) = b by unfold mkH; omega, show ((mkH a b c / 256 % 4294967296 : Nat) : Int) = c by unfold mkH; omega, show rightB (mkH a b c) = true by unfold rightB mkH; simp; omega] at h1
    exact h1)
  have cState := Lib.hid (fun h : hIn a b c = true => show ∀ w, Calls Try.prog 12 #[.int .u64 (mkHd c a : Nat)] w fun e w' => e = .returned (.tuple #[.int .i64 c, .int .i64 (a % 4)]) ∧ w = w' by
    have h1 := hState_any (mkHd c a) (by have := mkHd_lt c a; omega)
    have h2 : 0 ≤ a ∧ a < 16 ∧ 0 < b ∧ b < 256 ∧ 0 ≤ c ∧ c < 4294967296 := by simpa [hIn] using h
    rw [show ((mkHd c a / 4 % 4294967296 : Nat) : Int) = c by unfold mkHd; omega, show ((mkHd c a % 4 : Nat) : Int) = a % 4 by unfold mkHd; omega] at h1
    exact h1)
  have cCell := Lib.hid (hCell_any s g l hs hg hl)
  have kC : kindN (mkC s g l) = 2 ∧ fills (mkC s g l) = true := by
    rcases kind_cases (mkC s g l) with h | h | h
    · have : mkC s g l ≠ 0 := by unfold mkC; omega
      omega
    · have := mkC_lt s g l; omega
    · exact h.2.2
  have kT : kindN (mkHold t) = 1 ∧ fills (mkHold t) = false := by
    rcases kind_cases (mkHold t) with h | h | h
    · have : mkHold t ≠ 0 := by unfold mkHold; omega
      omega
    · exact h.2
    · have : 9223372036854775808 ≤ mkHold t := by unfold mkHold; omega
      omega
  have cKindC := hKind_any (mkC s g l) (by have := mkC_lt s g l; omega)
  rw [kC.1] at cKindC
  have cKindT := hKind_any (mkHold t) (by have := mkHold_lt t; omega)
  rw [kT.1] at cKindT
  have cWhatT := hWhat_any (mkHold t) (by have := mkHold_lt t; omega)
  rw [what_no kT.2] at cWhatT
  have cKind0 : ∀ w, Calls Try.prog 21 #[.int .u64 0] w fun e w' => e = .returned (.int .i64 0) ∧ w = w' := hKind_any 0 (by omega)
  have cWhatC := Lib.hid (fun h : eOut s g l = false => show ∀ w, Calls Try.prog 16 #[.int .u64 (mkC s g l : Nat)] w fun e w' => e = .returned (.agg #[.int .i64 s, .int .i64 g, .int .u64 l]) ∧ Below w.heap.size w w' by
    have h1 := hWhat_any (mkC s g l) (by have := mkC_lt s g l; omega)
    have h2 : ¬ (s < 0 ∨ 255 < s ∨ g < 0 ∨ 16777215 < g ∨ 1073741823 < l) := by simpa [eOut] using h
    rw [what_yes kC.2, show ((mkC s g l % 256 : Nat) : Int) = s by unfold mkC; omega, show ((mkC s g l / 256 % 16777216 : Nat) : Int) = g by unfold mkC; omega, show ((mkC s g l / 4294967296 % 1073741824 : Nat) : Int) = l by unfold mkC; omega] at h1
    exact h1)
  have cKC := Lib.hid cKindC; have cKT := Lib.hid cKindT; have cWT := Lib.hid cWhatT; have cK0 := Lib.hid cKind0
  have cHold := Lib.hid (hHold_any t ht)
  clear cKindC cKindT cWhatT cKind0 kC kT
  generalize mkH a b c = kH at *
  generalize mkHd c a = kD at *
  generalize mkC s g l = kC at *
  generalize mkHold t = kT at *
  go_enter Try.func6, Try.ntmps6
  go_upto_region 1 with fail
  generalize hW : World.alloc _ _ = W
  have hT2 : Three W (w.heap.size + 1) (.int .i64 s) (.int .i64 g) (.int .u64 l) := by rw [← hW]; simpa using Three.new (w.alloc (.cells #[.int .i64 a, .int .i64 b, .int .i64 c] 48)) ..
  have hT : Three W w.heap.size (.int .i64 a) (.int .i64 b) (.int .i64 c) := by rw [← hW]; exact (Three.new ..).alloc (by simp) _
  have hB : Below w.heap.size w W := by rw [← hW]; exact ((Below.refl _ _).alloc (Nat.le_refl _) _).alloc (by simp) _
  have hz : w.heap.size + 1 < W.heap.size := by rw [← hW]; simp
  clear hW
  obtain ⟨u1, u2, u3⟩ := hT
  obtain ⟨v1, v2, v3⟩ := hT2
  generalize hg1 : w.heap.size = a1 at *
  go_cut [41] (fun s41 wx => s41 = .bool (hIn a b c) ∧ wx = W)
  case first =>
    have hH : Hid (hIn a b c = decide (0 ≤ a ∧ a < 16 ∧ 0 < b ∧ b < 256 ∧ 0 ≤ c ∧ c < 4294967296)) := Lib.hid rfl
    go_wp2_with fail
    all_goals go_meet
    all_goals (exact ⟨congrArg Value.bool (by rw [hH.out, Bool.eq_iff_iff]; simp; omega), rfl⟩)
  case rest =>
    obtain ⟨rfl, rfl⟩ := hcut
    have hin : Hid (hIn a b c = true → 0 ≤ a ∧ a < 16) := Lib.hid (fun h => by
      have h2 : 0 ≤ a ∧ a < 16 ∧ 0 < b ∧ b < 256 ∧ 0 ≤ c ∧ c < 4294967296 := by simpa [hIn] using h
      omega)
    cases hi : hIn a b c
    all_goals
      rw [hi] at cParts cState hin
      try (have h0a : 0 ≤ a := (hin.out rfl).1)
      go_upto_region 9 with (first | (go_at_call 9; refine (cMake.out _).mono ?_; rintro e w' ⟨rfl, rfl⟩) | (go_at_call 7; refine (cParts.out (by simp) _).mono ?_; rintro e w' ⟨rfl, rfl⟩) | (go_at_call 14; refine (cHead.out _).mono ?_; rintro e w' ⟨rfl, rfl⟩) | (go_at_call 12; refine (cState.out (by simp) _).mono ?_; rintro e w' ⟨rfl, rfl⟩))
      refine (cCell.out _).mono ?_; rintro e wd ⟨rfl, hbd⟩
      replace u1 := cell_keep hbd u1; replace u2 := cell_keep hbd u2; replace u3 := cell_keep hbd u3
      replace v1 := cell_keep hbd v1; replace v2 := cell_keep hbd v2; replace v3 := cell_keep hbd v3
      replace hB := below_on hB (by omega) hbd
      clear hbd hz
      go_upto_region 9 with ((first | (go_at_call 21; first | (with_reducible refine (cKC.out _).mono ?_); rintro e w' ⟨rfl, rfl⟩ | (with_reducible refine (cKT.out _).mono ?_); rintro e w' ⟨rfl, rfl⟩) | (go_at_call 19; refine (cHold.out _).mono ?_; rintro e w' ⟨rfl, rfl⟩)))
      refine (cWT.out _).mono ?_; rintro e we ⟨rfl, hbe⟩
      replace u1 := cell_keep hbe u1; replace u2 := cell_keep hbe u2; replace u3 := cell_keep hbe u3
      replace v1 := cell_keep hbe v1; replace v2 := cell_keep hbe v2; replace v3 := cell_keep hbe v3
      replace hB := below_on hB (by omega) hbe
      clear hbe
      go_upto_region 9 with ((go_at_call 21; (with_reducible refine (cK0.out _).mono ?_); rintro e w' ⟨rfl, rfl⟩))
      go_cut [141] (fun s141 wx => s141 = .bool (eOut s g l) ∧ wx = we)
      case first =>
        have hH : Hid (eOut s g l = decide (s < 0 ∨ 255 < s ∨ g < 0 ∨ 16777215 < g ∨ 1073741823 < l)) := Lib.hid rfl
        go_wp2_with fail
        all_goals go_meet
        all_goals (exact ⟨congrArg Value.bool (by rw [hH.out, Bool.eq_iff_iff]; simp; omega), rfl⟩)
      case rest =>
        obtain ⟨rfl, rfl⟩ := hcut
        cases he : eOut s g l
        · have hl2 : l ≤ 1073741823 := by
            have : ¬ (s < 0 ∨ 255 < s ∨ g < 0 ∨ 16777215 < g ∨ 1073741823 < l) := by simpa [eOut] using he
            omega
          have cO2' : ∀ w, Calls Try.prog 24 #[.int .u64 l, .int .u64 ((l : Int) + 2)] w fun r w' => r = .returned (.bool true) ∧ w = w' := by
            have h := hOld_any l (l + 2) hl (by omega)
            rw [show oldB l (l + 2) = true by unfold oldB; simp] at h
            exact h
          have cO1' : ∀ w, Calls Try.prog 24 #[.int .u64 l, .int .u64 ((l : Int) + 1)] w fun r w' => r = .returned (.bool false) ∧ w = w' := by
            have h := hOld_any l (l + 1) hl (by omega)
            rw [show oldB l (l + 1) = false by unfold oldB; simp] at h
            exact h
          have cO2 := Lib.hid cO2'; have cO1 := Lib.hid cO1'
          have cWC := Lib.hid (cWhatC.out he)
          clear cO1' cO2' cWhatC
          have hw2 : IntKind.u64.wrap ((l : Int) + 2) = (l : Int) + 2 := by rw [IntKind.wrap_u64]; omega
          have hw1 : IntKind.u64.wrap ((l : Int) + 1) = (l : Int) + 1 := by rw [IntKind.wrap_u64]; omega
          go_upto_region 11 with fail
          have hkeep : ∀ w1 w2 : World, Below w1.heap.size w1 w2 → (fun w' : World => Below a1 w w' ∧ w'.cell? ⟨a1 + 1, 0, none⟩ = some (.int .i64 s) ∧ w'.cell? ⟨a1 + 1, 1, none⟩ = some (.int .i64 g) ∧ w'.cell? ⟨a1 + 1, 2, none⟩ = some (.int .u64 l)) w1 → (fun w' : World => Below a1 w w' ∧ w'.cell? ⟨a1 + 1, 0, none⟩ = some (.int .i64 s) ∧ w'.cell? ⟨a1 + 1, 1, none⟩ = some (.int .i64 g) ∧ w'.cell? ⟨a1 + 1, 2, none⟩ = some (.int .u64 l)) w2 := by
            rintro w1 w2 hb ⟨h0, h4, h5, h6⟩
            exact ⟨below_on h0 (by clear hw1 hw2; omega) hb, cell_keep hb h4, cell_keep hb h5, cell_keep hb h6⟩
          go_region_held3 (fun w' => Below a1 w w' ∧ w'.cell? ⟨a1 + 1, 0, none⟩ = some (.int .i64 s) ∧ w'.cell? ⟨a1 + 1, 1, none⟩ = some (.int .i64 g) ∧ w'.cell? ⟨a1 + 1, 2, none⟩ = some (.int .u64 l))
            (first | exact ⟨hB.drew, v1, v2, v3⟩ | exact hkeep _ _ hb (by assumption) | assumption)
            (first | (go_at_call 16; refine (cWC.out _).mono ?_; rintro e w' ⟨rfl, hb⟩) | (go_at_call 24; first | (with_reducible refine (cO2.out _).mono ?_); rintro e w' ⟨rfl, rfl⟩ | (with_reducible refine (cO1.out _).mono ?_); rintro e w' ⟨rfl, rfl⟩) | (go_at_call 11; refine (lives3_any _).mono ?_; rintro e w' ⟨rfl, rfl⟩))
          all_goals
            have hF := And.left (by assumption : Below a1 w w' ∧ w'.cell? ⟨a1 + 1, 0, none⟩ = some (.int .i64 s) ∧ w'.cell? ⟨a1 + 1, 1, none⟩ = some (.int .i64 g) ∧ w'.cell? ⟨a1 + 1, 2, none⟩ = some (.int .u64 l))
            clear hw1 hw2
            go_wp2
            go_ret
            exact ⟨rfl, by rw [hg1]; exact hF⟩
        · go_wp2_with ((go_at_call 11; refine (lives3_any _).mono ?_; rintro e w' ⟨rfl, rfl⟩))
          go_ret
          exact ⟨rfl, by rw [hg1]; exact hB⟩
end Go.Proofs.Ytnbkkihpnfpgcaa
