/- A place as an argument: four numbers. -/
import Derived.Test.YtncemjpfdblecaaRow
import Derived.Test.YtncemjpfdblecaaConf
import Derived.Test.YtncemjpfdblecaaOpen
namespace Go.Proofs.Ytncemjpfdblecaa
open Go.ChangeShapes Go.WideShapes Go.ChangeAt Go.RowKit Go.Joins Go.Deep
theorem open_place {H : Type} {enc : TypeId × Value → H} {w : World} {base : Nat} {spare : Nat → Bool} {held : Bool} {r : Reach} {b0 : Nat} {v : Value} {d : DataW H} {ps : List MemPlace} (hval : Value.okWide Try.prog w r b0 26 v) (h : DataW.Trod enc Try.prog w base spare held 26 v d ps) :
    ∃ c : Nat → Int, v = .agg (rowOf 4 (ints c)) ∧ Ok64 c := by
  obtain ⟨v0, v1, v2, v3, y0, y1, y2, y3, n, rfl, _, _, t0, t1, t2, t3⟩ := Go.Joins.open_agg4 Try.underlying26 (by kernel_rfl) (by kernel_rfl) hval h
  obtain ⟨x0, rfl, b0⟩ := cell_i Try.underlying3 t0
  obtain ⟨x1, rfl, b1⟩ := cell_i Try.underlying3 t1
  obtain ⟨x2, rfl, b2⟩ := cell_i Try.underlying3 t2
  obtain ⟨x3, rfl, b3⟩ := cell_i Try.underlying3 t3
  refine ⟨fun i => match i with | 0 => x0 | 1 => x1 | 2 => x2 | 3 => x3 | _ => 0, rfl, fun i => ?_⟩
  match i with
  | 0 => exact b0
  | 1 => exact b1
  | 2 => exact b2
  | 3 => exact b3
  | _ + 4 => exact (show (-9223372036854775808 : Int) ≤ 0 ∧ (0 : Int) ≤ 9223372036854775807 from ⟨by omega, by omega⟩)
end Go.Proofs.Ytncemjpfdblecaa
