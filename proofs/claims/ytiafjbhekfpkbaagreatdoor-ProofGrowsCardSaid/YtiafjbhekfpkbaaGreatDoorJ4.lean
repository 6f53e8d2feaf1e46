/- Rows of the call's own: what keeps them. -/
import Derived.Test.YtiafjbhekfpkbaaGreatDoorJ0
namespace Go.Proofs.YtiafjbhekfpkbaaGreatDoor
set_option linter.unusedSimpArgs false
set_option linter.unusedVariables false
open Go.ChangeShapes Go.WideShapes Go.ChangeAt Go.RowKit

theorem own_setCell {w : World} {base size n : Nat} {v : Value} {e : TypeId} {cs : List Value} (h : w.ownsRow base e size v n cs) {p : Addr} (hp : v.ownBlock ≠ some p.block) (u : Value) : (w.setCell p u).ownsRow base e size v n cs := by
  refine ⟨h.1, ?_⟩
  rcases h.2 with h | ⟨g, cap, cur, rfl, h2, h3, h4⟩
  · exact .inl h
  · exact .inr ⟨g, cap, cur, rfl, h2, (Below.heap_setCell w p u g (fun e => hp (by rw [e]; rfl))).trans h3, h4⟩
theorem own_keep {w w' : World} {base size n : Nat} {v : Value} {e : TypeId} {cs : List Value} (h : w.ownsRow base e size v n cs) (hb : Below w.heap.size w w') : w'.ownsRow base e size v n cs := by
  refine ⟨h.1, ?_⟩
  rcases h.2 with h | ⟨g, cap, cur, h1, h2, h3, h4⟩
  · exact .inl h
  · exact .inr ⟨g, cap, cur, h1, h2, (hb.block g (Array.getElem?_eq_some_iff.1 h3).1).trans h3, h4⟩
theorem own_ne {w : World} {base size n k : Nat} {v : Value} {e : TypeId} {cs : List Value} (h : w.ownsRow base e size v n cs) (hk : w.heap.size ≤ k) : v.ownBlock ≠ some k := fun e => by have := (h.lt k e).2; omega
/-- A row of the call's own, all else as it was. -/
structure OwnR (W : World) (B : Nat) (T : TypeId) (k : Nat) (v : Value) (n : Nat) (cs : List Value) (wr : World) : Prop where
  bel : Below B W wr
  own : wr.ownsRow B T k v n cs
  le : B ≤ wr.heap.size
section
variable {W wr w1 : World} {B k n : Nat} {T : TypeId} {v v' : Value} {cs : List Value}
theorem OwnR.keep (h : OwnR W B T k v n cs wr) (hb : Below wr.heap.size wr w1) : OwnR W B T k v n cs w1 := ⟨h.bel.trans (hb.mono h.le), own_keep h.own hb, Nat.le_trans h.le hb.size⟩
theorem OwnR.drew (h : OwnR W B T k v n cs wr) : OwnR W B T k v n cs wr.drew := h.keep (Below.refl _ _).drew
theorem OwnR.alloc (h : OwnR W B T k v n cs wr) (o : Obj) : OwnR W B T k v n cs (wr.alloc o) := h.keep ((Below.refl _ _).alloc (Nat.le_refl _) o)
theorem OwnR.grow (h : OwnR W B T k v n cs wr) {m : Nat} {ds : List Value} (hown : w1.ownsRow B T k v' m ds) (hg : wr.grownBy w1 v.ownBlock) : OwnR W B T k v' m ds w1 :=
  ⟨below_grown h.bel hg (fun j hj => (h.own.lt j hj).1) h.le, hown, Nat.le_trans h.le hg.size⟩
end
end Go.Proofs.YtiafjbhekfpkbaaGreatDoor
