/- Worlds that differ in certain blocks alone: what calls that change an object leave as it was. -/
import Derived.Test.YtodomchanaaonaaRow
namespace Go.Proofs.Ytodomchanaaonaa
open Go.ChangeShapes Go.WideShapes Go.ChangeAt Go.RowKit

/-- Of the blocks that were there none but F's has turned. -/
def Only (F : Nat → Prop) (w w' : World) : Prop := Below 0 w w' ∧ ∀ i, i < w.heap.size → ¬ F i → w'.heap[i]? = w.heap[i]?
section
variable {F G : Nat → Prop} {w w' w0 w1 w2 : World} {B : Nat}
theorem Only.refl (F : Nat → Prop) (w : World) : Only F w w := ⟨Below.refl _ _, fun _ _ _ => rfl⟩
theorem Only.size (h : Only F w w') : w.heap.size ≤ w'.heap.size := h.1.size
theorem only_below (h : Below w.heap.size w w') (F : Nat → Prop) : Only F w w' := ⟨h.mono (Nat.zero_le _), fun i hi _ => h.block i hi⟩
theorem Only.mono (h : Only F w w') (hs : ∀ i, i < w.heap.size → F i → G i) : Only G w w' := ⟨h.1, fun i hi hn => h.2 i hi fun hf => hn (hs i hi hf)⟩
theorem Only.trans (h : Only F w w1) (k : Only F w1 w2) : Only F w w2 := ⟨h.1.trans k.1, fun i hi hn => (k.2 i (Nat.lt_of_lt_of_le hi h.size) hn).trans (h.2 i hi hn)⟩
/-- What was there when the call began has stayed, if F's blocks came later. -/
theorem Below.only (h : Below B w0 w) (k : Only F w w') (hB : B ≤ w.heap.size) (hF : ∀ i, F i → B ≤ i) : Below B w0 w' :=
  h.trans ⟨k.1.os, k.1.tape, k.1.output, k.1.size, fun i hi => k.2 i (by omega) fun hf => absurd (hF i hf) (by omega)⟩
theorem Only.block (h : Only F w w') {i : Nat} (hi : i < w.heap.size) (hn : ¬ F i) : w'.heap[i]? = w.heap[i]? := h.2 i hi hn
theorem Row.only {g n : Nat} {t : TypeId} {f : Nat → Value} (hr : Row w g t n f) (h : Only F w w') (hn : ¬ F g) : Row w' g t n f := (h.2 g hr.lt hn).trans hr
theorem only_cell (h : Only F w w') {a : Addr} (ha : a.block < w.heap.size) (hn : ¬ F a.block) : w'.cell? a = w.cell? a := by
  unfold World.cell?
  rw [h.2 _ ha hn]
theorem RowIs.only {A : Option Addr} {n : Nat} {f : Nat → Value} (hr : RowIs w A n f) (h : Only F w w') (hn : ∀ a, A = some a → ¬ F a.block) : RowIs w' A n f := fun h0 => by
  obtain ⟨b, off, rfl, hb, hx⟩ := hr h0
  have hnb : ¬ F b := hn ⟨b, off, none⟩ rfl
  exact ⟨b, off, rfl, Nat.lt_of_lt_of_le hb h.size, fun i hi => (only_cell h (a := ⟨b, off + i, none⟩) hb hnb).trans (hx i hi)⟩
theorem Own.only {g n : Nat} {f : Nat → Value} (hr : Own w g n f) (h : Only F w w') (hn : ¬ F g) : Own w' g n f := by
  have hl := hr.lt
  obtain ⟨cs, t, h1, h2, h3⟩ := hr
  exact ⟨cs, t, (h.2 g hl hn).trans h1, h2, h3⟩
theorem Only.setCell (h : Only F w w') {p : Addr} (hp : F p.block) (u : Value) : Only F w (w'.setCell p u) :=
  ⟨h.1.setCell (Nat.zero_le _) u, fun i hi hn => (Below.heap_setCell w' p u i (by rintro rfl; exact hn hp)).trans (h.2 i hi hn)⟩
theorem Only.then (h : Only F w w1) (k : Below w1.heap.size w1 w2) : Only F w w2 := h.trans (only_below k F)
theorem Only.drew (h : Only F w w1) : Only F w w1.drew := h.then (Below.refl _ _).drew
end

/-- A block of the call's own that holds these n cells, and maybe room behind them: what append makes. -/
def OwnP (w : World) (g n : Nat) (f : Nat → Value) : Prop := ∃ cs t, w.heap[g]? = some (.cells cs t (0, 0)) ∧ n ≤ cs.size ∧ ∀ i, i < n → cs[i]? = some (f i)
section
variable {w w' : World} {g n : Nat} {f : Nat → Value}
theorem OwnP.lt (h : OwnP w g n f) : g < w.heap.size := by
  obtain ⟨cs, t, h, _, _⟩ := h
  rcases Nat.lt_or_ge g w.heap.size with hlt | hge
  · exact hlt
  · rw [Array.getElem?_eq_none hge] at h; cases h
theorem OwnP.cell (h : OwnP w g n f) {i : Nat} (hi : i < n) : w.cell? ⟨g, i, none⟩ = some (f i) := by
  obtain ⟨cs, t, h, _, hc⟩ := h
  rw [cell_of_row w g i cs t (0, 0) h]
  exact hc i hi
theorem OwnP.frozen (h : OwnP w g n f) (i : Nat) : w.frozen? ⟨g, i, none⟩ = false := by
  obtain ⟨cs, t, h, _, hc⟩ := h
  simp [World.frozen?, h]
theorem OwnP.set_ (h : OwnP w g n f) (k : Nat) (u : Value) : OwnP (w.setCell ⟨g, k, none⟩ u) g n (fun i => if i = k then u else f i) := by
  obtain ⟨cs, t, h, hs, hc⟩ := h
  refine ⟨cs.setIfInBounds k u, t, by simp [World.setCell, Array.getElem?_modify, h], by simpa using hs, fun i hi => ?_⟩
  rw [Array.getElem?_setIfInBounds]
  by_cases e : k = i
  · subst e
    rw [if_pos rfl, if_pos (by omega)]
    show some u = some (if k = k then u else f k)
    rw [if_pos rfl]
  · rw [if_neg e, hc i hi]
    show some (f i) = some (if i = k then u else f i)
    rw [if_neg (Ne.symm e)]
theorem OwnP.row (h : OwnP w g n f) : RowIs w (some ⟨g, 0, none⟩) n f := fun _ => ⟨g, 0, rfl, h.lt, fun i hi => by rw [Nat.zero_add]; exact h.cell hi⟩
theorem OwnP.below {B : Nat} (h : OwnP w g n f) (hb : Below B w w') (hg : g < B) : OwnP w' g n f := by
  obtain ⟨cs, t, h, hs, hc⟩ := h
  exact ⟨cs, t, (hb.block g hg).trans h, hs, hc⟩
theorem OwnP.keep (h : OwnP w g n f) (hb : Below w.heap.size w w') : OwnP w' g n f := h.below hb h.lt
theorem OwnP.congr {f' : Nat → Value} (h : OwnP w g n f) (he : ∀ i, i < n → f i = f' i) : OwnP w g n f' := by
  obtain ⟨cs, t, h, hs, hc⟩ := h
  exact ⟨cs, t, h, hs, fun i hi => by rw [hc i hi, he i hi]⟩
theorem OwnP.drew (h : OwnP w g n f) : OwnP w.drew g n f := h
theorem OwnP.far (h : OwnP w g n f) {p : Addr} (hp : g ≠ p.block) (u : Value) : OwnP (w.setCell p u) g n f := by
  obtain ⟨cs, t, h, hs, hc⟩ := h
  exact ⟨cs, t, (Below.heap_setCell w p u g hp).trans h, hs, hc⟩
theorem OwnP.alloc (h : OwnP w g n f) (o : Obj) : OwnP (w.alloc o) g n f := by
  have hl := h.lt
  obtain ⟨cs, t, h, hs, hc⟩ := h
  exact ⟨cs, t, (Below.heap_alloc w o g hl).trans h, hs, hc⟩
theorem OwnP.setRow_far (h : OwnP w g n f) {b : Nat} (hb : b ≠ g) (cs : Array Value) : OwnP (w.setRow b cs) g n f := by
  obtain ⟨cs', t, h, hs, hc⟩ := h
  exact ⟨cs', t, (setRow_other w b g cs (fun e => hb e.symm)).trans h, hs, hc⟩
theorem OwnP.only {F : Nat → Prop} (hr : OwnP w g n f) (h : Only F w w') (hn : ¬ F g) : OwnP w' g n f := by
  have hl := hr.lt
  obtain ⟨cs, t, h1, h2, h3⟩ := hr
  exact ⟨cs, t, (h.2 g hl hn).trans h1, h2, h3⟩
theorem ownP_of {base : Nat} {e : TypeId} {n cap : Nat} {xs : List Value} {f : Nat → Value} (h : w.ownsRow base e 1 (.slice (some ⟨g, 0, none⟩) n cap) n xs) (hx : ∀ i, i < n → xs[i]? = some (f i)) : OwnP w g n f ∧ base ≤ g := by
  rcases h.2 with ⟨h', _⟩ | ⟨g', cap', cur, h', hb, hg, hn, _, hs, htake⟩
  · simp at h'
  · simp only [Value.slice.injEq, Option.some.injEq, Addr.mk.injEq, and_true, true_and] at h'
    obtain ⟨rfl, rfl⟩ := h'
    refine ⟨⟨cur, e, hg, by omega, fun i hi => ?_⟩, hb⟩
    rw [← hx i hi, ← htake, List.getElem?_take, if_pos (by omega)]
    simp
/-- What grew by an append onto a block from B on. -/
theorem below_grown {B : Nat} {w0 : World} {row : Option Nat} (h : Below B w0 w) (hb : w.grownBy w' row) (hr : ∀ k, row = some k → B ≤ k) (hB : B ≤ w.heap.size) : Below B w0 w' :=
  h.trans ⟨hb.os, hb.tape, hb.output, hb.size, fun i hi => hb.block i (by omega) fun e => by have := hr i e.symm; omega⟩
end
end Go.Proofs.Ytodomchanaaonaa
