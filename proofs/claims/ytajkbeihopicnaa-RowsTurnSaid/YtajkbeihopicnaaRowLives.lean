/- The law's example. -/
import Derived.Test.YtajkbeihopicnaaRowPut
namespace Go.Proofs.Ytajkbeihopicnaa
open Go.ChangeShapes Go.WideShapes Go.ChangeAt Go.RowKit Go.Shelf

def L39 : List Rw := [⟨3, 0, 0⟩, ⟨9, 0, 0⟩]
theorem lies_lit (w : World) (L : List Rw) (cs : Array Value) (t : TypeId) (h : cs = (flat L).toArray) : Lies (w.alloc (.cells cs t)) (some ⟨w.heap.size, 0, none⟩) L := by
  refine .inr ⟨w.heap.size, 0, rfl, by simp, fun j v hj => ?_⟩
  rw [Nat.zero_add, cell_of_row _ _ j cs t (0, 0) (heap_alloc_new w _), h]
  simpa using hj
theorem told_3 {w : World} {v : Value} {x y z : Rw} (h : Told w v [x, y, z]) : ∃ b off c, v = .slice (some ⟨b, off, none⟩) 3 c ∧ w.cell? ⟨b, off + 3, none⟩ = some (.int .i64 y.k) := by
  obtain ⟨A, c, rfl, hl⟩ := h
  obtain ⟨b, off, rfl, _, hc⟩ := hl.at_ (by simp)
  exact ⟨b, off, c, rfl, (hc 1 (by simp)).1⟩
set_option maxHeartbeats 2000000 in
theorem lives10_any (w : World) : Calls Try.prog 6 #[] w fun e w' => e = .returned (.bool true) ∧ Below w.heap.size w w' := by
  have hp : putL L39 ⟨5, 0, 0⟩ = [⟨3, 0, 0⟩, ⟨5, 0, 0⟩, ⟨9, 0, 0⟩] := by decide
  have hi : isAt L39 5 = false := by decide
  have c1 := rPut_any _ 2 L39 (by decide) ⟨5, 0, 0⟩ _ (lies_lit w L39 #[.int .i64 3, .int .u64 0, .int .u64 0, .int .i64 9, .int .u64 0, .int .u64 0] 27 rfl)
  rw [hp, hi] at c1
  have C1 := Lib.hid c1; clear c1 hp hi
  go_enter Try.func6, Try.ntmps6
  go_wp2_with (go_at_call 7; refine C1.out.mono ?_; rintro e w1 ⟨v, rfl, ht, hb⟩; obtain ⟨b, off, c, rfl, x0⟩ := told_3 ht; have HB := Lib.hid hb; clear hb ht)
  go_ret
  exact ⟨rfl, ((Below.refl _ w).alloc (Nat.le_refl _) _).trans (HB.out.mono (by simp))⟩
end Go.Proofs.Ytajkbeihopicnaa
