/- Accesses as arguments: one, and a slice of them. -/
import Derived.Test.YtdgafadbajcllaaRef6
import Derived.Test.YtdgafadbajcllaaOpen
import Derived.Test.YtdgafadbajcllaaOpenRecs
namespace Go.Proofs.Ytdgafadbajcllaa
open Go.ChangeShapes Go.WideShapes Go.ChangeAt Go.RowKit Go.Joins Go.Deep
section
variable {H : Type} {enc : TypeId × Value → H} {w : World} {base : Nat}
theorem open_op {spare : Nat → Bool} {held : Bool} {r : Reach} {b0 : Nat} {v : Value} {d : DataW H} {ps : List MemPlace} (hval : Value.okWide Try.prog w r b0 26 v) (h : DataW.Trod enc Try.prog w base spare held 26 v d ps) :
    ∃ o : Opn, v = .agg (rowOf 4 (opR o)) ∧ OkO o := by
  obtain ⟨v0, v1, v2, v3, y0, y1, y2, y3, n, rfl, _, _, t0, t1, t2, t3⟩ := Go.Joins.open_agg4 Try.underlying26 (by kernel_rfl) (by kernel_rfl) hval h
  obtain ⟨x0, rfl, b0⟩ := cell_i Try.underlying3 t0
  obtain ⟨x1, rfl, b1⟩ := cell_i Try.underlying3 t1
  obtain ⟨x2, rfl, b2⟩ := cell_u Try.underlying24 t2
  obtain ⟨x3, rfl, b3⟩ := cell_u Try.underlying24 t3
  exact ⟨⟨x0, x1, x2, x3⟩, rfl, b0, b1, b2, b3⟩
theorem op_of_cells {V : List Value} (hl : V.length = 4) {fuel : Nat} {y : DataW H × List MemPlace} (h : DataW.trod enc Try.prog w base (fun _ => true) true fuel 26 V = some y) : ∃ o : Opn, V = (rowOf 4 (opR o)).toList ∧ OkO o := by
  match V, hl with
  | [v0, v1, v2, v3], _ =>
    obtain ⟨y0, y1, y2, y3, n, hx, _, t0, t1, t2, t3⟩ := Go.Joins.trod_struct4 Try.underlying26 h
    obtain ⟨x0, rfl, b0⟩ := cell_i Try.underlying3 t0
    obtain ⟨x1, rfl, b1⟩ := cell_i Try.underlying3 t1
    obtain ⟨x2, rfl, b2⟩ := cell_u Try.underlying24 t2
    obtain ⟨x3, rfl, b3⟩ := cell_u Try.underlying24 t3
    exact ⟨⟨x0, x1, x2, x3⟩, rfl, b0, b1, b2, b3⟩
instance : Inhabited Opn := ⟨⟨0, 0, 0, 0⟩⟩
theorem open_ops {r : Reach} {b0 : Nat} {v : Value} {d : DataW H} {ps : List MemPlace} (hval : Value.okWide Try.prog w r b0 23 v) (h : DataW.Trod enc Try.prog w base (fun _ => true) true 23 v d ps) :
    ∃ (A : Option Addr) (n c : Nat) (O : Nat → Opn), v = .slice A n c ∧ n ≤ 9223372036854775807 ∧ (∀ i, i < n → OkO (O i)) ∧ RowIs w A (n * 4) (fun i => opR (O (i / 4)) (i % 4)) := by
  obtain ⟨A, n, c, V, rfl, hn, hr, hV⟩ := open_recs Try.underlying23 (k := 4) (by kernel_rfl) (by omega) hval h
  obtain ⟨O, hO⟩ := choose_below (n := n) (p := fun i o => V i = (rowOf 4 (opR o)).toList ∧ OkO o) (fun i hi => by
    obtain ⟨hl, fuel, y, hy⟩ := hV i hi
    exact op_of_cells hl hy)
  refine ⟨A, n, c, O, rfl, hn, fun i hi => (hO i hi).2, fun h0 => ?_⟩
  obtain ⟨b, off, rfl, hb, hx⟩ := hr h0
  refine ⟨b, off, rfl, hb, fun i hi => ?_⟩
  have h4 : i % 4 < 4 := Nat.mod_lt _ (by omega)
  refine (hx i hi).trans ?_
  show some ((V (i / 4)).getD (i % 4) undef) = some (opR (O (i / 4)) (i % 4))
  rw [(hO (i / 4) (by omega)).1]
  simp only [List.getD, Array.getElem?_toList, rowOf_get (opR (O (i / 4))) h4]
  rfl
end
end Go.Proofs.Ytdgafadbajcllaa
