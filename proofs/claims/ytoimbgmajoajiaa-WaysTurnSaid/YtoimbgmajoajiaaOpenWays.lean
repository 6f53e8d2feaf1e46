/- A set of ways as an argument. -/
import Derived.Test.YtoimbgmajoajiaaWays
import Derived.Test.YtoimbgmajoajiaaOpen
import Derived.Deep.Strs
namespace Go.Proofs.Ytoimbgmajoajiaa
open Go.ChangeShapes Go.WideShapes Go.ChangeAt Go.RowKit Go.Joins Go.Deep
section
variable {H : Type} {enc : TypeId × Value → H} {w : World} {base : Nat} {spare : Nat → Bool} {held : Bool}
theorem cell_bool {P : Program} {t : TypeId} {n : Nat} {v : Value} {y : DataW H × List MemPlace} (ht : P.underlying t = some .bool) (h : DataW.trod enc P w base spare held n t [v] = some y) : ∃ x : Bool, v = .bool x := by
  obtain ⟨x, e0, _⟩ := DataW.trod_bool ht h
  simp at e0
  exact ⟨x, e0⟩
theorem way_of_cells {a b : Value} {fuel : Nat} {y : DataW H × List MemPlace} (h : DataW.trod enc Try.prog w base spare held fuel 23 [a, b] = some y) : ∃ (x : Int) (t : Bool), a = .int .i64 x ∧ b = .bool t ∧ (-9223372036854775808 ≤ x ∧ x ≤ 9223372036854775807) := by
  obtain ⟨y0, y1, n, _, _, t0, t1⟩ := trod_struct2 Try.underlying23 h
  have k1 : Try.prog.cellsOf 3 = 1 := by kernel_rfl
  have k2 : Try.prog.cellsOf 4 = 1 := by kernel_rfl
  obtain ⟨x, rfl, b0⟩ := cell_i Try.underlying3 (v := a) (by simpa [k1] using t0)
  obtain ⟨z, rfl⟩ := cell_bool Try.underlying4 (v := b) (by simpa [k2] using t1)
  exact ⟨x, z, rfl, rfl, b0⟩
theorem set_of_cells {cs : List Value} {fuel : Nat} {y : DataW H × List MemPlace} (h : DataW.trod enc Try.prog w base spare held fuel 27 cs = some y) : ∃ s : WS, cs.toArray = rowOf 10 (setV s) ∧ OkS s := by
  have k1 : Try.prog.cellsOf 3 = 1 := by kernel_rfl
  have ku : Try.prog.cellsOf 25 = 1 := by kernel_rfl
  have k2 : Try.prog.cellsOf 23 = 2 := by kernel_rfl
  have k8 : Try.prog.cellsOf 24 = 8 := by kernel_rfl
  have k10 : Try.prog.cellsOf 27 = 10 := by kernel_rfl
  obtain ⟨xs, n, _, hx, hl, hlen, hg⟩ := DataW.trod_struct Try.underlying27 h
  rw [k10] at hl
  match cs, hl with
  | [v0, v1, v2, v3, v4, v5, v6, v7, v8, v9], _ =>
    match xs, hlen with
    | [y0, y1, y2], _ =>
      have g0 : DataW.trod enc Try.prog w base spare held n 24 [v0, v1, v2, v3, v4, v5, v6, v7] = some y0 := by have := hg 0 _ rfl; simpa [k8] using this
      have g1 : DataW.trod enc Try.prog w base spare held n 3 [v8] = some y1 := by have := hg 1 _ rfl; simpa [k1] using this
      have g2 : DataW.trod enc Try.prog w base spare held n 25 [v9] = some y2 := by have := hg 2 _ rfl; simpa [ku] using this
      obtain ⟨zs, m, _, _, _, hzl, hz⟩ := DataW.trod_array Try.underlying24 g0
      rw [k2] at hz
      have t0 : DataW.trod enc Try.prog w base spare held m 23 [v0, v1] = some (zs[0]'(by omega)) := by have := hz 0 (by omega); rw [List.getElem?_eq_getElem (by omega)] at this; simpa using this
      have t1 : DataW.trod enc Try.prog w base spare held m 23 [v2, v3] = some (zs[1]'(by omega)) := by have := hz 1 (by omega); rw [List.getElem?_eq_getElem (by omega)] at this; simpa using this
      have t2 : DataW.trod enc Try.prog w base spare held m 23 [v4, v5] = some (zs[2]'(by omega)) := by have := hz 2 (by omega); rw [List.getElem?_eq_getElem (by omega)] at this; simpa using this
      have t3 : DataW.trod enc Try.prog w base spare held m 23 [v6, v7] = some (zs[3]'(by omega)) := by have := hz 3 (by omega); rw [List.getElem?_eq_getElem (by omega)] at this; simpa using this
      obtain ⟨x0, c0, rfl, rfl, b0⟩ := way_of_cells t0
      obtain ⟨x1, c1, rfl, rfl, b1⟩ := way_of_cells t1
      obtain ⟨x2, c2, rfl, rfl, b2⟩ := way_of_cells t2
      obtain ⟨x3, c3, rfl, rfl, b3⟩ := way_of_cells t3
      obtain ⟨x8, rfl, b8⟩ := cell_i Try.underlying3 (v := v8) g1
      obtain ⟨x9, rfl, b9⟩ := cell_u Try.underlying25 (v := v9) g2
      refine ⟨⟨fun i => match i with | 0 => x0 | 1 => x1 | 2 => x2 | 3 => x3 | _ => 0, fun i => match i with | 0 => c0 | 1 => c1 | 2 => c2 | 3 => c3 | _ => false, x8, x9⟩, rfl, ⟨fun i => ?_, b8, b9⟩⟩
      match i with
      | 0 => exact b0
      | 1 => exact b1
      | 2 => exact b2
      | 3 => exact b3
      | _ + 4 => exact (show (-9223372036854775808 : Int) ≤ 0 ∧ (0 : Int) ≤ 9223372036854775807 from ⟨by omega, by omega⟩)
theorem open_set {r : Reach} {b0 : Nat} {v : Value} {d : DataW H} {ps : List MemPlace} (hval : Value.okWide Try.prog w r b0 27 v) (h : DataW.Trod enc Try.prog w base spare held 27 v d ps) :
    ∃ s : WS, v = .agg (rowOf 10 (setV s)) ∧ OkS s := by
  obtain ⟨cs, rfl, hsz⟩ := okWide_struct Try.underlying27 hval
  obtain ⟨fuel, hf⟩ := h
  obtain ⟨s, h1, h2⟩ := set_of_cells (cs := cs.toList) hf
  exact ⟨s, by rw [← h1], h2⟩
end
end Go.Proofs.Ytoimbgmajoajiaa
