/- slices.Clone of rows. -/
import Derived.Test.YtajkbeihopicnaaRowL
import Derived.Lib.SliceRun
namespace Go.Proofs.Ytajkbeihopicnaa
open Go.ChangeShapes Go.WideShapes Go.ChangeAt Go.RowKit

theorem rClone_nil (n c : Nat) (w : World) : Calls Try.prog 18 #[.slice none n c] w fun e w' => e = .returned (.slice none 0 0) ∧ w = w' := by
  have q : ∀ (w : World) (a : Option Addr) (n c n' c' : Nat), (binOp .eql 22 (.slice a n c) (.slice none n' c')).run Try.prog w = .ok (.bool a.isNone) w := fun w a n c n' c' => Lib.run_eql_slice_nil w _ _ a n c n' c' Try.underlying22
  go_enter Try.func18, Try.ntmps18
  go_wp2_with fail
  go_ret
  exact ⟨rfl, rfl⟩

theorem lies_news {w : World} {a : Addr} {L : List Rw} (h : Lies w (some a) L) : ∀ j u, (flat L)[j]? = some u → w.cell? (a.add j) = some u := by
  intro j u hj
  rcases h with rfl | ⟨b, off, e, _, hc⟩
  · simp [flat] at hj
  · cases e
    rw [add_row]
    exact hc j u hj

theorem rClone_some (a : Addr) (c : Nat) (L : List Rw) (hL : L.length ≤ 1000000) (w : World) (hA : Lies w (some a) L) :
    Calls Try.prog 18 #[.slice (some a) L.length c] w fun e w' => ∃ v, e = .returned v ∧ w'.ownsRow w.heap.size 27 3 v L.length (flat L) ∧ Below w.heap.size w w' := by
  have q : ∀ (w : World) (a : Option Addr) (n c n' c' : Nat), (binOp .eql 22 (.slice a n c) (.slice none n' c')).run Try.prog w = .ok (.bool a.isNone) w := fun w a n c n' c' => Lib.run_eql_slice_nil w _ _ a n c n' c' Try.underlying22
  obtain ⟨i0, hi0, hz0, hz1, hz3⟩ := infoR
  have HX := Lib.hid (And.intro (World.ownsRow_lit (base := w.heap.size) (e := 27) (size := 3) w #[] 0 (Nat.le_refl _) (by decide) rfl) (lies_news (hA.alloc (.cells #[] 27))))
  generalize hn : L.length = n at *
  have HN := Lib.hid hn; clear hn hA
  go_enter Try.func18, Try.ntmps18
  go_wp2_with (at_builtin; refine wpList_append_own _ rfl _ _ 22 rfl w.heap.size 27 i0 (.agg #[.int .i64 0, .int .u64 0, .int .u64 0]) 3 24 Try.underlying22 hi0 hz0 hz1 hz3 rfl (by decide) (.slice (some ⟨w.heap.size, 0, none⟩) 0 0) 0 [] rfl HX.out.1 a n c (flat L) rfl (by rw [flat_length, HN.out]) HX.out.2 (flat_one L) (by unfold maxLen; omega) (by omega) (by simp) ?_; intro v' w1 hown hgrow hnil)
  go_ret
  refine ⟨v', rfl, by simpa using hown, ?_⟩
  exact below_grown ((Below.refl _ w).alloc (Nat.le_refl _) _) hgrow (by intro k hk; simp [Value.ownBlock] at hk; omega) (by simp)

/-- A copy of any list, in memory of the call's own. -/
theorem rClone_any (A : Option Addr) (c : Nat) (L : List Rw) (hL : L.length ≤ 1000000) (w : World) (hA : Lies w A L) :
    Calls Try.prog 18 #[.slice A L.length c] w fun e w' => ∃ v, e = .returned v ∧ w'.ownsRow w.heap.size 27 3 v L.length (flat L) ∧ Below w.heap.size w w' := by
  cases A with
  | none =>
    have h0 : L = [] := by
      rcases hA with h | ⟨b, off, e, _⟩
      · exact h
      · cases e
    subst h0
    refine (rClone_nil _ _ w).mono ?_
    rintro e w' ⟨rfl, rfl⟩
    exact ⟨_, rfl, World.ownsRow_nil _ _ _ _, Below.refl _ _⟩
  | some a => exact rClone_some a c L hL w hA
end Go.Proofs.Ytajkbeihopicnaa
