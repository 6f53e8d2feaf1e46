/- A row of the call's own, of structs: a field of an element set; a row kept where others turn. -/
import Derived.Test.YtckcliimngeieaaRecs
import Derived.Test.YtckcliimngeieaaRowOwn
namespace Go.Proofs.Ytckcliimngeieaa
open Go.ChangeShapes Go.WideShapes Go.ChangeAt Go.RowKit

theorem own_onlyC {F : Nat → Prop} {w w' : World} {base size n : Nat} {v : Value} {e : TypeId} {cs : List Value} (h : w.ownsRow base e size v n cs) (ho : Only F w w') (hF : ∀ i, base ≤ i → F i → False) : w'.ownsRow base e size v n cs := by
  refine ⟨h.1, ?_⟩
  rcases h.2 with h | ⟨g, cap, cur, h1, h2, h3, h4⟩
  · exact .inl h
  · exact .inr ⟨g, cap, cur, h1, h2, (ho.2 g (Array.getElem?_eq_some_iff.1 h3).1 (fun hf => hF g h2 hf)).trans h3, h4⟩
/-- A cell of the row set. -/
theorem own_setAt {w : World} {base size n g cap : Nat} {e : TypeId} {cs : List Value} (h : w.ownsRow base e size (.slice (some ⟨g, 0, none⟩) n cap) n cs) (j : Nat) (u : Value) :
    (w.setCell ⟨g, j, none⟩ u).ownsRow base e size (.slice (some ⟨g, 0, none⟩) n cap) n (cs.set j u) := by
  refine ⟨by rw [List.length_set]; exact h.1, ?_⟩
  rcases h.2 with ⟨h, _⟩ | ⟨g', cap', cur, h1, h2, h3, h4, h5, h6, h7⟩
  · cases h
  · cases h1
    refine .inr ⟨g, cap, cur.setIfInBounds j u, rfl, h2, by simp [World.setCell, Array.getElem?_modify, h3], h4, h5, by simpa using h6, ?_⟩
    rw [Array.toList_setIfInBounds, ← h7]
    have hc := Nat.mul_le_mul_right size h4
    apply List.ext_getElem?
    intro i
    simp only [List.getElem?_take, List.getElem?_set, List.length_take]
    split <;> split <;> simp_all <;> omega
theorem own_cellAt {w : World} {base size n g cap : Nat} {e : TypeId} {cs : List Value} (h : w.ownsRow base e size (.slice (some ⟨g, 0, none⟩) n cap) n cs) {j : Nat} {u : Value} (hj : cs[j]? = some u) : w.cell? ⟨g, j, none⟩ = some u := by
  rcases h.2 with ⟨h, _⟩ | ⟨g', cap', cur, h1, h2, h3, h4, h5, h6, h7⟩
  · cases h
  · cases h1
    rw [cell_of_row w g j cur e (0, 0) h3]
    rw [← h7, List.getElem?_take] at hj
    split at hj
    · simpa using hj
    · cases hj
theorem own_frozenAt {w : World} {base size n g cap : Nat} {e : TypeId} {cs : List Value} (h : w.ownsRow base e size (.slice (some ⟨g, 0, none⟩) n cap) n cs) (j : Nat) : w.frozen? ⟨g, j, none⟩ = false := by
  rcases h.2 with ⟨h, _⟩ | ⟨g', cap', cur, h1, h2, h3, h4, h5, h6, h7⟩
  · cases h
  · cases h1
    simp [World.frozen?, h3]
theorem own_blockAt {w : World} {base size n g cap : Nat} {e : TypeId} {cs : List Value} (h : w.ownsRow base e size (.slice (some ⟨g, 0, none⟩) n cap) n cs) : base ≤ g ∧ g < w.heap.size := by
  rcases h.2 with ⟨h, _⟩ | ⟨g', cap', cur, h1, h2, h3, _⟩
  · cases h
  · cases h1
    exact ⟨h2, (Array.getElem?_eq_some_iff.1 h3).1⟩
theorem set_behind {P X : List Value} {n : Nat} (h : P.length = n) (j : Nat) (u : Value) : (P ++ X).set (n + j) u = P ++ X.set j u := by
  subst h
  rw [List.set_append_right _ _ (by omega), Nat.add_sub_cancel_left]
section
variable {α : Type} [Inhabited α] {f : α → List Value} {k : Nat}
/-- A list's cells, an element's between. -/
theorem flatF_at (L : List α) {i : Nat} (hi : i < L.length) : flatF f L = flatF f (L.take i) ++ (f (L.getD i default) ++ flatF f (L.drop (i + 1))) := by
  conv => lhs; rw [← List.take_append_drop i L, List.drop_eq_getElem_cons hi, flatF_append, flatF]
  congr 2
  simp [List.getD, hi]
omit [Inhabited α] in
theorem flatF_set (L : List α) {i : Nat} (hi : i < L.length) (x : α) : flatF f (L.set i x) = flatF f (L.take i) ++ (f x ++ flatF f (L.drop (i + 1))) := by
  rw [List.set_eq_take_append_cons_drop, if_pos hi, flatF_append, flatF]
omit [Inhabited α] in
theorem take_len (hk : ∀ x, (f x).length = k) (L : List α) {i : Nat} (hi : i < L.length) : (flatF f (L.take i)).length = i * k := by
  rw [flatF_length hk, List.length_take, Nat.min_eq_left (by omega)]
end
end Go.Proofs.Ytckcliimngeieaa
