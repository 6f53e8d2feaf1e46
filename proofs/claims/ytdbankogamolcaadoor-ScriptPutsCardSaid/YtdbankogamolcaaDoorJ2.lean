/- Rows of the call's own: what keeps them. · Parts of a block known whole: read, and stored, from a place on, whatever their number of cells. -/
import Derived.Test.YtdbankogamolcaaDoorJ0
import Derived.Deep.MidRow
namespace Go.Proofs.YtdbankogamolcaaDoor
set_option linter.unusedSimpArgs false
set_option linter.unusedVariables false
open Go.ChangeShapes Go.WideShapes Go.ChangeAt Go.RowKit

theorem own_setCell {w : World} {base size n : Nat} {v : Value} {e : TypeId} {cs : List Value} (h : w.ownsRow base e size v n cs) {p : Addr} (hp : v.ownBlock ≠ some p.block) (u : Value) : (w.setCell p u).ownsRow base e size v n cs := by
  refine ⟨h.1, ?_⟩
  rcases h.2 with h | ⟨g, cap, cur, rfl, h2, h3, h4⟩
  · exact .inl h
  · exact .inr ⟨g, cap, cur, rfl, h2, (Below.heap_setCell w p u g (fun e => hp (by rw [e]; rfl))).trans h3, h4⟩
theorem own_keep {w w' : World} {base size n : Nat} {v : Value} {e : TypeId} {cs : List Value} (h : w.ownsRow base e size v n cs) (hb : Below w.heap.size w w') : w'.ownsRow base e size v n cs := by
  refine ⟨h.1, ?_⟩
  rcases h.2 with h | ⟨g, cap, cur, h1, h2, h3, h4⟩
  · exact .inl h
  · exact .inr ⟨g, cap, cur, h1, h2, (hb.block g (Array.getElem?_eq_some_iff.1 h3).1).trans h3, h4⟩
theorem own_ne {w : World} {base size n k : Nat} {v : Value} {e : TypeId} {cs : List Value} (h : w.ownsRow base e size v n cs) (hk : w.heap.size ≤ k) : v.ownBlock ≠ some k := fun e => by have := (h.lt k e).2; omega
/-- A row of the call's own, all else as it was. -/
structure OwnR (W : World) (B : Nat) (T : TypeId) (k : Nat) (v : Value) (n : Nat) (cs : List Value) (wr : World) : Prop where
  bel : Below B W wr
  own : wr.ownsRow B T k v n cs
  le : B ≤ wr.heap.size
section
variable {W wr w1 : World} {B k n : Nat} {T : TypeId} {v v' : Value} {cs : List Value}
theorem OwnR.keep (h : OwnR W B T k v n cs wr) (hb : Below wr.heap.size wr w1) : OwnR W B T k v n cs w1 := ⟨h.bel.trans (hb.mono h.le), own_keep h.own hb, Nat.le_trans h.le hb.size⟩
theorem OwnR.drew (h : OwnR W B T k v n cs wr) : OwnR W B T k v n cs wr.drew := h.keep (Below.refl _ _).drew
theorem OwnR.alloc (h : OwnR W B T k v n cs wr) (o : Obj) : OwnR W B T k v n cs (wr.alloc o) := h.keep ((Below.refl _ _).alloc (Nat.le_refl _) o)
theorem OwnR.grow (h : OwnR W B T k v n cs wr) {m : Nat} {ds : List Value} (hown : w1.ownsRow B T k v' m ds) (hg : wr.grownBy w1 v.ownBlock) : OwnR W B T k v' m ds w1 :=
  ⟨below_grown h.bel hg (fun j hj => (h.own.lt j hj).1) h.le, hown, Nat.le_trans h.le hg.size⟩
end
end Go.Proofs.YtdbankogamolcaaDoor
namespace Go.Proofs.YtdbankogamolcaaDoor
set_option linter.unusedSimpArgs false
set_option linter.unusedVariables false
open Go.ChangeShapes Go.WideShapes Go.ChangeAt Go.RowKit

/-- A row's cells with m of them, from the o-th on, told by G. -/
def putF (f : Nat → Value) (o m : Nat) (G : Nat → Value) (i : Nat) : Value := if o ≤ i ∧ i < o + m then G (i - o) else f i
theorem putF_in {f : Nat → Value} {o m : Nat} {G : Nat → Value} {j : Nat} (h : j < m) : putF f o m G (o + j) = G j := by
  unfold putF; rw [if_pos ⟨by omega, by omega⟩, show o + j - o = j by omega]
theorem putF_out {f : Nat → Value} {o m : Nat} {G : Nat → Value} {i : Nat} (h : i < o ∨ o + m ≤ i) : putF f o m G i = f i := by
  unfold putF; rw [if_neg (by omega)]
/-- m of a row's cells, from the o-th on. -/
def cutF (f : Nat → Value) (o : Nat) (i : Nat) : Value := f (o + i)
theorem rowOf_list (n : Nat) (f : Nat → Value) : (rowOf n f).toList = (List.range n).map f := by simp [rowOf]
theorem rowOf_all {n : Nat} {f : Nat → Value} (h : ∀ i, i < n → (f i).oneCell' = true) : (rowOf n f).all (·.oneCell') = true := by
  unfold rowOf
  rw [List.all_toArray, List.all_eq_true]
  intro v hv
  obtain ⟨i, hi, rfl⟩ := List.mem_map.1 hv
  exact h i (List.mem_range.1 hi)

section
variable {w w' : World} {g n o m : Nat} {t : TypeId} {f : Nat → Value}
theorem Row.range (h : Row w g t n f) (ho : o + m ≤ n) : w.rangeAt g o ((List.range m).map (cutF f o)) := fun j v hj => by
  obtain ⟨hjm, e⟩ := List.getElem?_eq_some_iff.1 hj
  have hj' : j < m := by simpa using hjm
  rw [List.getElem_map, List.getElem_range] at e
  rw [h.cell (by omega), ← e]
  rfl
theorem Row.range0 (h : Row w g t n f) : w.rangeAt g 0 ((List.range n).map f) := fun j v hj => by
  obtain ⟨hjm, e⟩ := List.getElem?_eq_some_iff.1 hj
  have hj' : j < n := by simpa using hjm
  rw [List.getElem_map, List.getElem_range] at e
  rw [Nat.zero_add, h.cell hj', ← e]
theorem Row.there (h : Row w g t n f) (ho : o + m ≤ n) : w.there g o m := fun j hj => ⟨by rw [h.cell (by omega)]; rfl, h.frozen _⟩
theorem Row.cells_ (cs : List Value) : ∀ {w : World} {f : Nat → Value} {o : Nat}, Row w g t n f → o + cs.length ≤ n → Row (w.setCells g o cs) g t n (fun i => if o ≤ i ∧ i < o + cs.length then cs.getD (i - o) undef else f i) := by
  induction cs with
  | nil =>
    intro w f o h ho
    refine h.congr fun i _ => ?_
    rw [if_neg (by simp only [List.length_nil]; omega)]
  | cons v r ih =>
    intro w f o h ho
    rw [World.setCells]
    have h1 := ih (o := o + 1) (h.set_ o v) (by simp at ho; omega)
    refine h1.congr fun i _ => ?_
    simp only [List.length_cons] at ho ⊢
    by_cases h2 : i = o
    · subst h2
      rw [if_neg (by omega), if_pos rfl, if_pos (by omega)]
      simp
    · rw [if_neg h2]
      by_cases h3 : o + 1 ≤ i ∧ i < o + 1 + r.length
      · rw [if_pos h3, if_pos (by omega), show i - o = (i - (o + 1)) + 1 by omega]
        simp
      · rw [if_neg h3, if_neg (by omega)]
theorem Row.put (h : Row w g t n f) (G : Nat → Value) (ho : o + m ≤ n) : Row (w.setCells g o (rowOf m G).toList) g t n (putF f o m G) := by
  have hl : (rowOf m G).toList.length = m := by simp [rowOf]
  refine (Row.cells_ (rowOf m G).toList h (by rw [hl]; exact ho)).congr fun i _ => ?_
  unfold putF
  rw [hl]
  by_cases h2 : o ≤ i ∧ i < o + m
  · rw [if_pos h2, if_pos h2, rowOf_list]
    simp [List.getD, show i - o < m by omega]
  · rw [if_neg h2, if_neg h2]
theorem Row.cells_far (cs : List Value) : ∀ {w : World} {o : Nat} {b : Nat}, Row w g t n f → g ≠ b → Row (w.setCells b o cs) g t n f := by
  induction cs with
  | nil => intro w o b h _; exact h
  | cons v r ih => intro w o b h hb; rw [World.setCells]; exact ih (h.far (p := ⟨b, o, none⟩) hb v) hb
theorem below_cells {B : Nat} {w : World} (cs : List Value) : ∀ {w' : World} {o : Nat} {b : Nat}, Below B w w' → B ≤ b → Below B w (w'.setCells b o cs) := by
  induction cs with
  | nil => intro w' o b h _; exact h
  | cons v r ih => intro w' o b h hb; rw [World.setCells]; exact ih (h.setCell (p := ⟨b, o, none⟩) hb v) hb
theorem only_cells {F : Nat → Prop} {w : World} (cs : List Value) : ∀ {w' : World} {o : Nat} {b : Nat}, Only F w w' → F b → Only F w (w'.setCells b o cs) := by
  induction cs with
  | nil => intro w' o b h _; exact h
  | cons v r ih => intro w' o b h hb; rw [World.setCells]; exact ih (h.setCell (p := ⟨b, o, none⟩) hb v) hb
theorem only_setRow {F : Nat → Prop} {w w' : World} {b : Nat} (h : Only F w w') (hb : F b) (cs : Array Value) : Only F w (w'.setRow b cs) :=
  ⟨below_setRow_ h.1 (Nat.zero_le _) _, fun i hi hn => (setRow_other _ _ _ _ (fun e => hn (by rw [e]; exact hb))).trans (h.2 i hi hn)⟩
theorem cells_size (cs : List Value) : ∀ {w : World} {o b : Nat}, (w.setCells b o cs).heap.size = w.heap.size := by
  induction cs with
  | nil => intro w o b; rfl
  | cons v r ih => intro w o b; rw [World.setCells, ih]; simp [World.setCell]
end
/-- Two blocks, the first of which is stored whole. -/
theorem two_then {w : World} {c1 c2 : Array Value} {t1 t2 : TypeId} {n : Nat} {F : Nat → Value} : ∀ W, ((w.alloc (.cells c1 t1)).alloc (.cells c2 t2)).setRow w.heap.size (rowOf n F) = W →
    Below w.heap.size w W ∧ Row W w.heap.size t1 n F ∧ W.heap[w.heap.size + 1]? = some (.cells c2 t2 (0, 0)) := by
  rintro W rfl
  have h1 : ((w.alloc (.cells c1 t1)).alloc (.cells c2 t2)).heap[w.heap.size]? = some (.cells c1 t1 (0, 0)) := (Below.heap_alloc _ _ _ (by simp)).trans (heap_alloc_new w _)
  have h2 : ((w.alloc (.cells c1 t1)).alloc (.cells c2 t2)).heap[w.heap.size + 1]? = some (.cells c2 t2 (0, 0)) := by
    have := heap_alloc_new (w.alloc (.cells c1 t1)) (.cells c2 t2)
    rw [World.size_alloc] at this
    exact this
  refine ⟨below_setRow_ (((Below.refl _ w).alloc (Nat.le_refl _) _).alloc (by simp) _) (Nat.le_refl _) _, setRow_heap _ _ _ _ _ _ h1, (setRow_other _ _ _ _ (by omega)).trans h2⟩
theorem heap_alloc_fst (w : World) (o1 o2 : Obj) : ((w.alloc o1).alloc o2).heap[w.heap.size]? = some o1 := (Below.heap_alloc _ _ _ (by simp)).trans (heap_alloc_new w _)
theorem if_wanted {c : Bool} {X E : Prop} (h : c = true) (hx : X) : if c = true then X else E := by rw [if_pos h]; exact hx
/-- A whole load that is guarded, and wanted. -/
theorem wpList_load_rowG {P : Program} {ops : Array Oper} {rest : List Oper} {o : Oper} {a : Act} {w : World} {Q : Exit → Act → World → Prop} (hw : Region.wanted o (yielded ops a.tmps) = true) (ty : TypeId) (x : Operand) (ho : o.op = .load ty x)
    (g : Nat) (hx : a.eval x = .pointer (some ⟨g, 0, none⟩)) (t : TypeId) (cs : Array Value) (fr : Nat × Nat) (d : TypeDesc) (hg : w.heap[g]? = some (.cells cs t fr))
    (hu : P.underlying ty = some d) (hd : (match d with | .struct _ | .array _ _ => true | _ => false) = true) (hi : (P.info? ty).map (·.size) = some cs.size)
    (h : wpList P ops Q rest (a.put o.dst (.agg cs)) w) : wpList P ops Q (o :: rest) a w :=
  wpList_step fun K hK => by simp only [hw, if_true]; exact wp_load_row ty x ho g hx t cs fr d hg hu hd hi (hK _ _ h)
/-- A struct out of a block, and one number: a function's two results. -/
theorem results_cell_tmp {P : Program} {fn : Func} {p u : Tmp} {ty : TypeId} (h : fn.results = #[.cell p ty, .tmp u]) (tmps : Array Value) (w : World) (g : Nat) (t : TypeId) (cs : Array Value) (fr : Nat × Nat) (d : TypeDesc)
    (hp : tmps.getD p undef = .pointer (some ⟨g, 0, none⟩)) (hg : w.heap[g]? = some (.cells cs t fr))
    (hu : P.underlying ty = some d) (hd : (match d with | .struct _ | .array _ _ => true | _ => false) = true) (hi : (P.info? ty).map (·.size) = some cs.size) :
    (results fn tmps).run P w = .ok (.tuple #[.agg cs, tmps.getD u undef]) w := by
  have hp' : tmps[p]?.getD undef = .pointer (some ⟨g, 0, none⟩) := by simpa using hp
  simp [results, h, hp', asAddr, run_loadVar_row w g t ty cs fr d hg hu hd hi]
/-- Two structs out of blocks. -/
theorem results_two_cells {P : Program} {fn : Func} {p q : Tmp} {ty tz : TypeId} (h : fn.results = #[.cell p ty, .cell q tz]) (tmps : Array Value) (w : World) (g k : Nat) (t u : TypeId) (cs ds : Array Value) (fr fs : Nat × Nat) (d e : TypeDesc)
    (hp : tmps.getD p undef = .pointer (some ⟨g, 0, none⟩)) (hq : tmps.getD q undef = .pointer (some ⟨k, 0, none⟩)) (hg : w.heap[g]? = some (.cells cs t fr)) (hk : w.heap[k]? = some (.cells ds u fs))
    (hu : P.underlying ty = some d) (hd : (match d with | .struct _ | .array _ _ => true | _ => false) = true) (hi : (P.info? ty).map (·.size) = some cs.size)
    (hu2 : P.underlying tz = some e) (hd2 : (match e with | .struct _ | .array _ _ => true | _ => false) = true) (hi2 : (P.info? tz).map (·.size) = some ds.size) :
    (results fn tmps).run P w = .ok (.tuple #[.agg cs, .agg ds]) w := by
  have hp' : tmps[p]?.getD undef = .pointer (some ⟨g, 0, none⟩) := by simpa using hp
  have hq' : tmps[q]?.getD undef = .pointer (some ⟨k, 0, none⟩) := by simpa using hq
  simp [results, h, hp', hq', asAddr, run_loadVar_row w g t ty cs fr d hg hu hd hi, run_loadVar_row w k u tz ds fs e hk hu2 hd2 hi2]
end Go.Proofs.YtdbankogamolcaaDoor
