/- Calls of a warden as arguments: one, and a slice of them. -/
import Derived.Test.YtlldhkcimlmaoaaWardLives
import Derived.Test.YtlldhkcimlmaoaaOpen
import Derived.Test.YtlldhkcimlmaoaaOpenRecs
import Derived.Deep.Strs
namespace Go.Proofs.Ytlldhkcimlmaoaa
open Go.ChangeShapes Go.WideShapes Go.ChangeAt Go.RowKit Go.Joins Go.Deep
section
variable {H : Type} {enc : TypeId × Value → H} {w : World} {base : Nat}
theorem cell_b {P : Program} {t : TypeId} {n : Nat} {v : Value} {y : DataW H × List MemPlace} {spare : Nat → Bool} {held : Bool} (ht : P.underlying t = some .bool) (h : DataW.trod enc P w base spare held n t [v] = some y) : ∃ x : Bool, v = .bool x := by
  obtain ⟨x, e0, _⟩ := DataW.trod_bool ht h
  simp at e0
  exact ⟨x, e0⟩
theorem open_op7 {spare : Nat → Bool} {held : Bool} {r : Reach} {b0 : Nat} {v : Value} {d : DataW H} {ps : List MemPlace} (hval : Value.okWide Try.prog w r b0 35 v) (h : DataW.Trod enc Try.prog w base spare held 35 v d ps) :
    ∃ o : OpW, v = .agg (rowOf 3 (opV o)) ∧ OkOp o := by
  obtain ⟨v0, v1, v2, y0, y1, y2, n, rfl, _, _, t0, t1, t2⟩ := Go.Joins.open_agg3 Try.underlying35 (by kernel_rfl) (by kernel_rfl) hval h
  obtain ⟨x0, rfl⟩ := cell_b Try.underlying4 t0
  obtain ⟨x1, rfl, b1⟩ := cell_i Try.underlying3 t1
  obtain ⟨x2, rfl, b2⟩ := cell_i Try.underlying3 t2
  exact ⟨⟨x0, x1, x2⟩, rfl, b1, b2⟩
theorem op7_of_cells {V : List Value} (hl : V.length = 3) {fuel : Nat} {y : DataW H × List MemPlace} (h : DataW.trod enc Try.prog w base (fun _ => true) true fuel 35 V = some y) : ∃ o : OpW, V = (rowOf 3 (opV o)).toList ∧ OkOp o := by
  match V, hl with
  | [v0, v1, v2], _ =>
    obtain ⟨y0, y1, y2, n, hx, _, t0, t1, t2⟩ := Go.Deep.trod_struct3 Try.underlying35 h
    obtain ⟨x0, rfl⟩ := cell_b Try.underlying4 t0
    obtain ⟨x1, rfl, b1⟩ := cell_i Try.underlying3 t1
    obtain ⟨x2, rfl, b2⟩ := cell_i Try.underlying3 t2
    exact ⟨⟨x0, x1, x2⟩, rfl, b1, b2⟩
instance : Inhabited OpW := ⟨⟨false, 0, 0⟩⟩
theorem open_ops7 {r : Reach} {b0 : Nat} {v : Value} {d : DataW H} {ps : List MemPlace} (hval : Value.okWide Try.prog w r b0 23 v) (h : DataW.Trod enc Try.prog w base (fun _ => true) true 23 v d ps) :
    ∃ (A : Option Addr) (n c : Nat) (O : Nat → OpW), v = .slice A n c ∧ n ≤ 9223372036854775807 ∧ (∀ i, i < n → OkOp (O i)) ∧ RowIs w A (n * 3) (fun i => opV (O (i / 3)) (i % 3)) := by
  obtain ⟨A, n, c, V, rfl, hn, hr, hV⟩ := open_recs Try.underlying23 (k := 3) (by kernel_rfl) (by omega) hval h
  obtain ⟨O, hO⟩ := choose_below (n := n) (p := fun i o => V i = (rowOf 3 (opV o)).toList ∧ OkOp o) (fun i hi => by
    obtain ⟨hl, fuel, y, hy⟩ := hV i hi
    exact op7_of_cells hl hy)
  refine ⟨A, n, c, O, rfl, hn, fun i hi => (hO i hi).2, fun h0 => ?_⟩
  obtain ⟨b, off, rfl, hb, hx⟩ := hr h0
  refine ⟨b, off, rfl, hb, fun i hi => ?_⟩
  have h4 : i % 3 < 3 := Nat.mod_lt _ (by omega)
  refine (hx i hi).trans ?_
  show some ((V (i / 3)).getD (i % 3) undef) = some (opV (O (i / 3)) (i % 3))
  rw [(hO (i / 3) (by omega)).1]
  simp only [List.getD, Array.getElem?_toList, rowOf_get (opV (O (i / 3))) h4]
  rfl
end
end Go.Proofs.Ytlldhkcimlmaoaa
