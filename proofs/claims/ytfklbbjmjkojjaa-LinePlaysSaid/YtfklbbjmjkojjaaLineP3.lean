/- Package line, at lines of api.Pair: Same. -/
import Derived.Test.YtfklbbjmjkojjaaLineP2
import Derived.Tactics
import Derived.Tactics2
namespace Go.Proofs.Ytfklbbjmjkojjaa
open Go.ChangeShapes Go.WideShapes Go.ChangeAt Go.RowKit

/-- The deferred function of a call that returns: nothing was there to recover. -/
theorem lnPIdle_any (p : Addr) (w : World) : CallsD Try.prog 23 #[.pointer (some p)] .returning w fun e u' w' => e = .returned (.tuple #[]) ∧ u' = .returning ∧ w' = w := by
  refine callsD_of_wpS Try.func23 rfl fun c₀ cs hu => ?_
  apply wpS_seq
  apply wpS_region
  simp [wpOpsS, go_sem, recoverD, hu, Try.ntmps23, Exit.thenS]
  refine wpS_cond (t := false) (by simp [Act.eval, Array.replicate]) ?_
  simp only [Bool.false_eq_true, if_false]
  refine wpS_of_wp (wp_skip ?_)
  cases c₀
  simp_all [bodyPostS, results, Try.results23]

theorem lnPSame_any (A B : Option Addr) (c d : Nat) (L M : List Pr) (hL : L.length ≤ 1000000) (hM : M.length ≤ 1000000) (w : World) (ha : LiesC w A (flatP L)) (hb : LiesC w B (flatP M)) :
    Calls Try.prog 15 #[.agg #[.slice A L.length c], .agg #[.slice B M.length d]] w fun e w' => e = .returned (.bool (decide (L = M))) ∧ Below w.heap.size w w' := by
  have hmf : ∀ (fn : Fn) (first cap : Array Value) (w : World), (Instr.makeFunc fn first cap).run Try.prog w = .ok (.func fn first cap) w := fun _ _ _ _ => rfl
  obtain ⟨W, hW⟩ : ∃ W, ((w.alloc (.cells #[.slice A L.length c] 25)).alloc (.cells #[.slice B M.length d] 25)).alloc (.cells #[.bool false] 4) = W := ⟨_, rfl⟩
  have hx1 : Cells W w.heap.size 25 [.slice A L.length c] := by
    rw [← hW]
    exact ((Cells.new w #[.slice A L.length c] 25).alloc _).alloc _
  have hx2 : Cells W (w.heap.size + 1) 25 [.slice B M.length d] := by
    rw [← hW]
    have := (Cells.new (w.alloc (.cells #[.slice A L.length c] 25)) #[.slice B M.length d] 25).alloc (.cells #[.bool false] 4)
    simp only [World.size_alloc] at this
    exact this
  have hx3 : Cells W (w.heap.size + 1 + 1) 4 [.bool false] := by
    rw [← hW]
    have := Cells.new ((w.alloc (.cells #[.slice A L.length c] 25)).alloc (.cells #[.slice B M.length d] 25)) #[.bool false] 4
    simp only [World.size_alloc] at this
    exact this
  have hbW : Below w.heap.size w W := by
    rw [← hW]
    exact (((Below.refl _ w).alloc (Nat.le_refl _) _).alloc (by simp) _).alloc (by simp only [World.size_alloc]; omega) _
  have p0 := hx1.cell0
  have p1 := hx2.cell0
  have C1 := Lib.hid (lnPEqual_any A B c d L M hL hM W (ha.keep hbW) (hb.keep hbW))
  have H := Lib.hid (And.intro hbW hx3)
  clear hbW hx1 hx2 hx3 ha hb
  generalize L.length = n at *
  generalize M.length = m at *
  go_enter_defers Try.func15, Try.ntmps15
  go_wp2_with (go_at_call 24; refine C1.out.mono ?_; rintro e w1 ⟨rfl, hd⟩
               have x3 := H.out.2.keep (hd.below _)
               have q0 := x3.cell0
               have q1 := x3.frozen 0
               have HX := Lib.hid (And.intro x3 (H.out.1.trans (hd.below _)))
               clear x3 hd)
  refine leaves_cons (f := 23) (args := #[.pointer (some ⟨w.heap.size + 1 + 1, 0, none⟩)]) (by simp) (by simp [go_sem]) ?_
  refine (lnPIdle_any ⟨w.heap.size + 1 + 1, 0, none⟩ _).mono ?_
  rintro e u' w'' ⟨rfl, rfl, rfl⟩
  have z := (HX.out.1.set_ 0 (.bool (decide (L = M)))).cell0
  simp [Leaves, settle, results, Try.results15, go_sem, z]
  exact HX.out.2.setCell (p := ⟨w.heap.size + 1 + 1, 0, none⟩) (by show w.heap.size ≤ w.heap.size + 1 + 1; omega) _
end Go.Proofs.Ytfklbbjmjkojjaa
