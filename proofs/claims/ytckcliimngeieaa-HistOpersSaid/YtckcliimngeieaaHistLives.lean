/- burnbaglaw14's example. -/
import Derived.Test.YtckcliimngeieaaHistI
namespace Go.Proofs.Ytckcliimngeieaa
open Go.ChangeShapes Go.WideShapes Go.ChangeAt Go.RowKit

def L3 : List Ev := [⟨0, false, zeroC, zeroA⟩, ⟨1, false, zeroC, zeroA⟩, ⟨0, true, zeroC, zeroA⟩]
theorem lies_cells (w : World) {cs : Array Value} {ds : List Value} (t : TypeId) (h : cs = ds.toArray) : LiesC (w.alloc (.cells cs t)) (some ⟨w.heap.size, 0, none⟩) ds := .inr ⟨w.heap.size, 0, rfl, by simp, fun j v hj => by
  rw [Nat.zero_add, (Cells.new w cs t).cell j, h]
  exact hj⟩
theorem lives14_any (w : World) : Calls Try.prog 6 #[] w fun e w' => e = .returned (.bool true) ∧ Below w.heap.size w w' := by
  have C1 := Lib.hid (hOpers_any (some ⟨w.heap.size, 0, none⟩) 3 L3 (by decide) _ (lies_cells w 45 (cs := (flatF evF L3).toArray) rfl))
  have HO : opersL L3 = [⟨0, zeroC, zeroA, 0, 2⟩, ⟨1, zeroC, zeroA, 1, -1⟩] := by decide
  rw [HO] at C1
  clear HO
  go_enter Try.func6, Try.ntmps6
  go_upto_region 2 with (go_at_call 7; refine C1.out.mono ?_; rintro e w1 ⟨v, rfl, h1, h2, h3⟩)
  obtain ⟨A1, c1, rfl, d1, d2, d3, d4, d5⟩ := h1
  obtain ⟨b, off, rfl, hb, hx⟩ := d4.atO (by decide)
  have p0 : w1.cell? ⟨b, off + 15, none⟩ = some (.int .i64 2) := hx 0 (by decide) 15 (by omega)
  have p1 : w1.cell? ⟨b, off + 16 + 14, none⟩ = some (.int .i64 1) := hx 1 (by decide) 14 (by omega)
  have p2 : w1.cell? ⟨b, off + 16 + 15, none⟩ = some (.int .i64 (-1)) := hx 1 (by decide) 15 (by omega)
  have HB := Lib.hid h3
  clear h2 h3 d3 d4 d5 hx
  go_wp2_with fail
  go_ret
  exact ⟨rfl, ((Below.refl _ w).alloc (Nat.le_refl _) _).trans (HB.out.mono (by simp))⟩
end Go.Proofs.Ytckcliimngeieaa
