/- What arguments are, out of their being read as data: structs and arrays of numbers. -/
import Derived.Test.YtodomchanaaonaaLaw
import Derived.Lib.SmallJoins
namespace Go.Proofs.Ytodomchanaaonaa
open Go.ChangeShapes Go.WideShapes Go.ChangeAt Go.RowKit Go.Joins Go.Deep
section
variable {H : Type} {enc : TypeId × Value → H} {P : Program} {w : World} {base : Nat}

theorem cell_i {t : TypeId} {n : Nat} {v : Value} {y : DataW H × List MemPlace} {spare : Nat → Bool} {held : Bool} (ht : P.underlying t = some (.int .i64)) (h : DataW.trod enc P w base spare held n t [v] = some y) :
    ∃ x : Int, v = .int .i64 x ∧ (-9223372036854775808 ≤ x ∧ x ≤ 9223372036854775807) := by
  obtain ⟨x, e0, _, w0⟩ := DataW.trod_int ht h
  simp at e0
  exact ⟨x, e0, bounds_i64 w0⟩
theorem cell_u {t : TypeId} {n : Nat} {v : Value} {y : DataW H × List MemPlace} {spare : Nat → Bool} {held : Bool} (ht : P.underlying t = some (.int .u64)) (h : DataW.trod enc P w base spare held n t [v] = some y) :
    ∃ x : Nat, v = .int .u64 x ∧ x < 18446744073709551616 := by
  obtain ⟨x, e0, _, w0⟩ := DataW.trod_int ht h
  simp at e0
  have hb := bounds_u64 w0
  exact ⟨x.toNat, by rw [e0]; congr 1; omega, by omega⟩
theorem open_i3 {t e : TypeId} {r : Reach} {b0 : Nat} {v : Value} {d : DataW H} {ps : List MemPlace} (ht : P.underlying t = some (.array 3 e)) (he : P.underlying e = some (.int .i64)) (hc : P.cellsOf e = 1) (hct : P.cellsOf t = 3)
    (hval : Value.okWide P w r b0 t v) (h : DataW.Trod enc P w base (fun _ => true) true t v d ps) :
    ∃ x y z : Int, v = .agg #[.int .i64 x, .int .i64 y, .int .i64 z] ∧ (-9223372036854775808 ≤ x ∧ x ≤ 9223372036854775807) ∧ (-9223372036854775808 ≤ y ∧ y ≤ 9223372036854775807) ∧ (-9223372036854775808 ≤ z ∧ z ≤ 9223372036854775807) := by
  obtain ⟨cs, rfl⟩ := okWide_array ht hval
  obtain ⟨fuel, hf⟩ := h
  obtain ⟨xs, m, _, _, hl, hx, hel⟩ := DataW.trod_array ht hf
  rw [hct] at hl
  have h0 := hel 0 (by omega)
  have h1 := hel 1 (by omega)
  have h2 := hel 2 (by omega)
  rw [List.getElem?_eq_getElem (by omega), hc] at h0 h1 h2
  have hcs : (Value.agg cs).cells.toList = cs.toList := rfl
  rw [hcs] at hl h0 h1 h2
  obtain ⟨cs⟩ := cs
  match cs, hl with
  | [a, b, c], _ =>
    obtain ⟨x, e0, w0⟩ := cell_i he h0
    obtain ⟨y, e1, w1⟩ := cell_i he h1
    obtain ⟨z, e2, w2⟩ := cell_i he h2
    subst e0; subst e1; subst e2
    exact ⟨x, y, z, rfl, w0, w1, w2⟩
end
end Go.Proofs.Ytodomchanaaonaa
