/- A configuration as an argument: fourteen numbers. -/
import Derived.Test.YtodomchanaaonaaRow
import Derived.Test.YtodomchanaaonaaConf
import Derived.Test.YtodomchanaaonaaOpen
namespace Go.Proofs.Ytodomchanaaonaa
open Go.ChangeShapes Go.WideShapes Go.ChangeAt Go.RowKit Go.Joins Go.Deep
section
variable {H : Type} {enc : TypeId × Value → H} {w : World} {base : Nat} {spare : Nat → Bool} {held : Bool}

/-- Cells that read as a configuration. -/
theorem trod_conf {fuel : Nat} {cs : List Value} {y : DataW H × List MemPlace} (h : DataW.trod enc Try.prog w base spare held fuel 41 cs = some y) : ∃ c : Nat → Int, cs.toArray = rowOf 14 (ints c) ∧ Ok64 c := by
  have k1 : Try.prog.cellsOf 3 = 1 := by kernel_rfl
  have k8 : Try.prog.cellsOf 39 = 8 := by kernel_rfl
  have k14 : Try.prog.cellsOf 41 = 14 := by kernel_rfl
  obtain ⟨xs, n, _, hx, hl, hlen, hg⟩ := DataW.trod_struct Try.underlying41 h
  rw [k14] at hl
  match cs, hl with
  | [v0, v1, v2, v3, v4, v5, v6, v7, v8, v9, v10, v11, v12, v13], _ =>
    match xs, hlen with
    | [y0, y1, y2, y3, y4, y5, y6], _ =>
      have g2 : DataW.trod enc Try.prog w base spare held n 39 [v2, v3, v4, v5, v6, v7, v8, v9] = some y2 := by have := hg 2 _ rfl; simpa [k8] using this
      obtain ⟨zs, m, _, _, _, hzl, hz⟩ := DataW.trod_array Try.underlying39 g2
      rw [k1] at hz
      have t0 : DataW.trod enc Try.prog w base spare held n 3 [v0] = some y0 := by have := hg 0 _ rfl; simpa [k1] using this
      obtain ⟨x0, e0, b0⟩ := cell_i Try.underlying3 (v := v0) t0
      have t1 : DataW.trod enc Try.prog w base spare held n 3 [v1] = some y1 := by have := hg 1 _ rfl; simpa [k1] using this
      obtain ⟨x1, e1, b1⟩ := cell_i Try.underlying3 (v := v1) t1
      have t2 : DataW.trod enc Try.prog w base spare held m 3 [v2] = some (zs[0]'(by omega)) := by have := hz 0 (by omega); rw [List.getElem?_eq_getElem (by omega)] at this; simpa using this
      obtain ⟨x2, e2, b2⟩ := cell_i Try.underlying3 (v := v2) t2
      have t3 : DataW.trod enc Try.prog w base spare held m 3 [v3] = some (zs[1]'(by omega)) := by have := hz 1 (by omega); rw [List.getElem?_eq_getElem (by omega)] at this; simpa using this
      obtain ⟨x3, e3, b3⟩ := cell_i Try.underlying3 (v := v3) t3
      have t4 : DataW.trod enc Try.prog w base spare held m 3 [v4] = some (zs[2]'(by omega)) := by have := hz 2 (by omega); rw [List.getElem?_eq_getElem (by omega)] at this; simpa using this
      obtain ⟨x4, e4, b4⟩ := cell_i Try.underlying3 (v := v4) t4
      have t5 : DataW.trod enc Try.prog w base spare held m 3 [v5] = some (zs[3]'(by omega)) := by have := hz 3 (by omega); rw [List.getElem?_eq_getElem (by omega)] at this; simpa using this
      obtain ⟨x5, e5, b5⟩ := cell_i Try.underlying3 (v := v5) t5
      have t6 : DataW.trod enc Try.prog w base spare held m 3 [v6] = some (zs[4]'(by omega)) := by have := hz 4 (by omega); rw [List.getElem?_eq_getElem (by omega)] at this; simpa using this
      obtain ⟨x6, e6, b6⟩ := cell_i Try.underlying3 (v := v6) t6
      have t7 : DataW.trod enc Try.prog w base spare held m 3 [v7] = some (zs[5]'(by omega)) := by have := hz 5 (by omega); rw [List.getElem?_eq_getElem (by omega)] at this; simpa using this
      obtain ⟨x7, e7, b7⟩ := cell_i Try.underlying3 (v := v7) t7
      have t8 : DataW.trod enc Try.prog w base spare held m 3 [v8] = some (zs[6]'(by omega)) := by have := hz 6 (by omega); rw [List.getElem?_eq_getElem (by omega)] at this; simpa using this
      obtain ⟨x8, e8, b8⟩ := cell_i Try.underlying3 (v := v8) t8
      have t9 : DataW.trod enc Try.prog w base spare held m 3 [v9] = some (zs[7]'(by omega)) := by have := hz 7 (by omega); rw [List.getElem?_eq_getElem (by omega)] at this; simpa using this
      obtain ⟨x9, e9, b9⟩ := cell_i Try.underlying3 (v := v9) t9
      have t10 : DataW.trod enc Try.prog w base spare held n 3 [v10] = some y3 := by have := hg 3 _ rfl; simpa [k1] using this
      obtain ⟨x10, e10, b10⟩ := cell_i Try.underlying3 (v := v10) t10
      have t11 : DataW.trod enc Try.prog w base spare held n 3 [v11] = some y4 := by have := hg 4 _ rfl; simpa [k1] using this
      obtain ⟨x11, e11, b11⟩ := cell_i Try.underlying3 (v := v11) t11
      have t12 : DataW.trod enc Try.prog w base spare held n 3 [v12] = some y5 := by have := hg 5 _ rfl; simpa [k1] using this
      obtain ⟨x12, e12, b12⟩ := cell_i Try.underlying3 (v := v12) t12
      have t13 : DataW.trod enc Try.prog w base spare held n 3 [v13] = some y6 := by have := hg 6 _ rfl; simpa [k1] using this
      obtain ⟨x13, e13, b13⟩ := cell_i Try.underlying3 (v := v13) t13
      subst e0 e1 e2 e3 e4 e5 e6 e7 e8 e9 e10 e11 e12 e13
      refine ⟨fun i => match i with | 0 => x0 | 1 => x1 | 2 => x2 | 3 => x3 | 4 => x4 | 5 => x5 | 6 => x6 | 7 => x7 | 8 => x8 | 9 => x9 | 10 => x10 | 11 => x11 | 12 => x12 | 13 => x13 | _ => 0, rfl, fun i => ?_⟩
      match i with
      | 0 => exact b0
      | 1 => exact b1
      | 2 => exact b2
      | 3 => exact b3
      | 4 => exact b4
      | 5 => exact b5
      | 6 => exact b6
      | 7 => exact b7
      | 8 => exact b8
      | 9 => exact b9
      | 10 => exact b10
      | 11 => exact b11
      | 12 => exact b12
      | 13 => exact b13
      | _ + 14 => exact (show (-9223372036854775808 : Int) ≤ 0 ∧ (0 : Int) ≤ 9223372036854775807 from ⟨by omega, by omega⟩)

theorem open_conf {r : Reach} {b0 : Nat} {v : Value} {d : DataW H} {ps : List MemPlace} (hval : Value.okWide Try.prog w r b0 41 v) (h : DataW.Trod enc Try.prog w base spare held 41 v d ps) :
    ∃ c : Nat → Int, v = .agg (rowOf 14 (ints c)) ∧ Ok64 c := by
  obtain ⟨cs, rfl, hsz⟩ := okWide_struct Try.underlying41 hval
  obtain ⟨fuel, hf⟩ := h
  obtain ⟨c, h1, h2⟩ := trod_conf (cs := cs.toList) hf
  exact ⟨c, by rw [← h1], h2⟩
end
end Go.Proofs.Ytodomchanaaonaa
