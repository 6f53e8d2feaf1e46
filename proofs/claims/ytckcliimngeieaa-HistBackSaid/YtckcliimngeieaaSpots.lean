/- Where opers begin and end: spots, and how they are held against each other; the sort of them. -/
import Derived.Test.YtckcliimngeieaaRecs
import Derived.Test.YtckcliimngeieaaLaid
import Derived.Deep.RegionHeld3
import Derived.BigQuiet
namespace Go.Proofs.Ytckcliimngeieaa
open Go.ChangeShapes Go.WideShapes Go.ChangeAt Go.RowKit

structure Spt where
  p : Int
  k : Int
  o : Int
deriving DecidableEq, Inhabited
def spF (x : Spt) : List Value := [.int .i64 x.p, .int .i64 x.k, .int .i64 x.o]
theorem spF_len (x : Spt) : (spF x).length = 3 := rfl
theorem spF_one (x : Spt) : ∀ u ∈ spF x, u.oneCell' = true := by simp [spF, Value.oneCell']
def orV (a b c : Int) : Int := if a ≠ 0 then a else if b ≠ 0 then b else c
def cmpS (x y : Spt) : Int := orV (Lib.compareInt x.p y.p) (Lib.compareInt x.k y.k) (Lib.compareInt x.o y.o)
/-- By place, then by what, then by oper. -/
def ltS (x y : Spt) : Bool := decide (x.p < y.p ∨ x.p = y.p ∧ (x.k < y.k ∨ x.k = y.k ∧ x.o < y.o))
theorem ltOf_cmpS : Go.Proofs.ltOf cmpS = ltS := by
  funext x y
  unfold Go.Proofs.ltOf ltS
  apply decide_eq_decide.2
  unfold cmpS orV Lib.compareInt
  (repeat' split) <;> omega
theorem swoS : Go.Sort.SWO (Go.Proofs.ltOf cmpS) := by
  rw [ltOf_cmpS]
  refine ⟨fun x => ?_, fun x y z h1 h2 => ?_, fun x y z h1 h2 => ?_⟩
  · unfold ltS; exact decide_eq_false (by omega)
  · unfold ltS at *; simp only [decide_eq_true_eq] at *; omega
  · unfold ltS at *; simp only [decide_eq_false_iff_not] at *; omega
theorem totS (x y : Spt) (h1 : Go.Proofs.ltOf cmpS x y = false) (h2 : Go.Proofs.ltOf cmpS y x = false) : x = y := by
  rw [ltOf_cmpS] at h1 h2
  unfold ltS at h1 h2
  simp only [decide_eq_false_iff_not] at h1 h2
  rcases x with ⟨a, b, c⟩
  rcases y with ⟨d, e, f⟩
  simp only [Spt.mk.injEq] at *
  omega

theorem cOr_any (g : Nat) (a b c : Int) (w : World) (h0 : w.cell? ⟨g, 0, none⟩ = some (.int .i64 a)) (h1 : w.cell? ⟨g, 1, none⟩ = some (.int .i64 b)) (h2 : w.cell? ⟨g, 2, none⟩ = some (.int .i64 c)) :
    Calls Try.prog 30 #[.slice (some ⟨g, 0, none⟩) 3 3] w fun e w' => e = .returned (.int .i64 (orV a b c)) ∧ w' = w := by
  have H := Lib.hid (show orV a b c = if a ≠ 0 then a else if b ≠ 0 then b else c from rfl)
  go_enter Try.func30, Try.ntmps30
  go_wp2_with fail
  refine wp_loop_rounds 4 ?_
  by_cases e0 : a = 0
  · by_cases e1 : b = 0
    · by_cases e2 : c = 0
      · rw [rounds_succ]
        go_wp2_with fail
        rw [rounds_succ]
        go_wp2_with fail
        rw [rounds_succ]
        go_wp2_with fail
        rw [rounds_succ]
        go_wp2_with fail
        go_ret
        exact ⟨by rw [H.out]; simp [e0, e1, e2], rfl⟩
      · rw [rounds_succ]
        go_wp2_with fail
        rw [rounds_succ]
        go_wp2_with fail
        rw [rounds_succ]
        go_wp2_with fail
        go_ret
        exact ⟨by rw [H.out]; simp [e0, e1], rfl⟩
    · rw [rounds_succ]
      go_wp2_with fail
      rw [rounds_succ]
      go_wp2_with fail
      go_ret
      exact ⟨by rw [H.out]; simp [e0, e1], rfl⟩
  · rw [rounds_succ]
    go_wp2_with fail
    go_ret
    exact ⟨by rw [H.out]; simp [e0], rfl⟩
end Go.Proofs.Ytckcliimngeieaa
