/- Statement PlanAll of layer 5, walked; the chapter's example. -/
import Derived.Test.YtncemjpfdblecaaPlanIf
import Derived.Deep.WholeRow
namespace Go.Proofs.Ytncemjpfdblecaa
open Go.ChangeShapes Go.WideShapes Go.ChangeAt Go.RowKit

def exC5 : Nat → Int := fun i => if i = 0 then 1 else if i = 1 then 1 else if i = 10 then 2 else if i = 11 then 1 else if i = 12 then 1 else 0
theorem exC5_ok : Ok64 exC5 := fun i => by
  unfold exC5
  repeat' split
  all_goals omega
def exX5 : Nat → Int := fun i => if i = 1 then 9 else if i = 2 then 1 else 0
theorem exX5_ok : Ok64 exX5 := fun i => by
  unfold exX5
  repeat' split
  all_goals omega
set_option maxRecDepth 100000 in
theorem lives5_any (w : World) : Calls Try.prog 12 #[] w fun e w' => e = .returned (.bool true) ∧ Below w.heap.size w w' := by
  have hm : mayB exC5 = true := by decide
  have c1 := Lib.hid (pNew_yes exC5 exC5_ok hm)
  have hw : ((wordsN exC5 : Nat) : Int) = 31 := by decide
  have ha : atN exC5 (wordsN exC5) exX5 = 21 := by decide +kernel
  have c2 : ∀ a w, PlanIs w a exC5 → Calls Try.prog 7 #[.pointer (some a)] w fun e w' => e = .returned (.int .i64 31) ∧ Below w.heap.size w w' := fun a w h => by
    have := pWords_any a exC5 w h
    rw [hw] at this
    exact this
  have c3 : ∀ a w, PlanIs w a exC5 → Calls Try.prog 8 #[.pointer (some a), .agg (rowOf 4 (ints exX5))] w fun e w' => e = .returned (.int .i64 21) ∧ Below w.heap.size w w' := fun a w h => by
    have := pAt_any a exC5 exX5 exX5_ok w h
    rw [ha] at this
    exact this
  have C2 := Lib.hid c2; have C3 := Lib.hid c3
  clear c2 c3 hm hw ha
  go_enter Try.func12, Try.ntmps12
  go_wp2_with fail
  refine (c1.out _).mono ?_; rintro e w1 ⟨a, rfl, hp, hb⟩
  have hB := hb
  clear hb
  go_wp2_with fail
  refine (C2.out _ _ hp).mono ?_; rintro e w2 ⟨rfl, hb⟩
  replace hp := hp.keep hb
  replace hB := below_on hB (Nat.le_refl _) hb
  clear hb
  go_wp2_with fail
  refine (C3.out _ _ hp).mono ?_; rintro e w3 ⟨rfl, hb⟩
  replace hB := below_on hB (Nat.le_refl _) hb
  clear hb hp
  go_wp2_with fail
  go_ret
  exact ⟨rfl, hB⟩
end Go.Proofs.Ytncemjpfdblecaa
