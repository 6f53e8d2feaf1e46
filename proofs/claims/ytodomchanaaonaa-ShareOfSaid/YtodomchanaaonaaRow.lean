/- Blocks whose cells are a function's values, known whole; and the runs that read and write one whole. -/
import Derived.Test.YtodomchanaaonaaLaw
import Derived.Deep.MidRow
import Derived.Laws.Tables
import Derived.Laws.StructEq
namespace Go.Proofs.Ytodomchanaaonaa
open Go.ChangeShapes Go.WideShapes Go.ChangeAt Go.RowKit

/-- n cells, the i-th one f i. -/
def rowOf (n : Nat) (f : Nat → Value) : Array Value := ((List.range n).map f).toArray
/-- Block g is just these cells. -/
def Row (w : World) (g : Nat) (t : TypeId) (n : Nat) (f : Nat → Value) : Prop := w.heap[g]? = some (.cells (rowOf n f) t (0, 0))
/-- Numbers as cells. -/
def ints (c : Nat → Int) : Nat → Value := fun i => .int .i64 (c i)

theorem rowOf_size (n : Nat) (f : Nat → Value) : (rowOf n f).size = n := by simp [rowOf]
theorem rowOf_get {n i : Nat} (f : Nat → Value) (hi : i < n) : (rowOf n f)[i]? = some (f i) := by simp [rowOf, hi]
theorem rowOf_congr {n : Nat} {f g : Nat → Value} (h : ∀ i, i < n → f i = g i) : rowOf n f = rowOf n g := by
  unfold rowOf
  congr 1
  exact List.map_congr_left fun i hi => h i (by simpa using hi)
theorem rowOf_set {n : Nat} {f : Nat → Value} (k : Nat) (u : Value) : (rowOf n f).setIfInBounds k u = rowOf n (fun i => if i = k then u else f i) := by
  apply Array.ext_getElem?
  intro i
  rw [Array.getElem?_setIfInBounds]
  by_cases hi : i < n
  · rw [rowOf_get _ hi]
    by_cases e : k = i
    · subst e; rw [if_pos rfl, if_pos (by rw [rowOf_size]; exact hi), rowOf_get _ hi, if_pos rfl]
    · rw [if_neg e, rowOf_get _ hi, if_neg (Ne.symm e)]
  · have h1 : (rowOf n f)[i]? = none := by rw [Array.getElem?_eq_none_iff, rowOf_size]; omega
    have h2 : (rowOf n (fun i => if i = k then u else f i))[i]? = none := by rw [Array.getElem?_eq_none_iff, rowOf_size]; omega
    rw [h1, h2]
    simp [rowOf_size]; omega
theorem rowOf_one {n : Nat} {f : Nat → Value} (h : ∀ i, (f i).oneCell' = true) : (rowOf n f).all (·.oneCell') = true := by
  rw [Array.all_eq_true_iff_forall_mem]
  intro v hv
  simp only [rowOf, List.mem_toArray, List.mem_map] at hv
  obtain ⟨i, _, rfl⟩ := hv
  exact h i
theorem ints_one (n : Nat) (c : Nat → Int) : (rowOf n (ints c)).all (·.oneCell') = true := rowOf_one fun _ => rfl

section
variable {w w' : World} {g : Nat} {t : TypeId} {n : Nat} {f f' : Nat → Value}
theorem Row.lt (h : Row w g t n f) : g < w.heap.size := by
  rcases Nat.lt_or_ge g w.heap.size with hlt | hge
  · exact hlt
  · unfold Row at h; rw [Array.getElem?_eq_none hge] at h; cases h
theorem Row.cell (h : Row w g t n f) {i : Nat} (hi : i < n) : w.cell? ⟨g, i, none⟩ = some (f i) := by rw [cell_of_row w g i _ t (0, 0) h, rowOf_get f hi]
theorem Row.frozen (h : Row w g t n f) (i : Nat) : w.frozen? ⟨g, i, none⟩ = false := frozen_of_row w g i _ t h
theorem Row.congr (h : Row w g t n f) (he : ∀ i, i < n → f i = f' i) : Row w g t n f' := by unfold Row; rw [← rowOf_congr he]; exact h
theorem Row.new (w : World) (cs : Array Value) (t : TypeId) (f : Nat → Value) (n : Nat) (h : cs = rowOf n f) : Row (w.alloc (.cells cs t)) w.heap.size t n f := by rw [h]; exact heap_alloc_new w _
theorem Row.drew (h : Row w g t n f) : Row w.drew g t n f := h
theorem Row.drewN (h : Row w g t n f) (k : Nat) : Row (w.drewN k) g t n f := h
theorem Row.alloc (h : Row w g t n f) (o : Obj) : Row (w.alloc o) g t n f := (Below.heap_alloc w o g h.lt).trans h
theorem Row.set_ (h : Row w g t n f) (k : Nat) (u : Value) : Row (w.setCell ⟨g, k, none⟩ u) g t n (fun i => if i = k then u else f i) := by
  unfold Row
  rw [heap_setCell_same w g k _ t u h, rowOf_set]
theorem Row.far (h : Row w g t n f) {p : Addr} (hp : g ≠ p.block) (u : Value) : Row (w.setCell p u) g t n f := (Below.heap_setCell w p u g hp).trans h
theorem Row.below {B : Nat} (h : Row w g t n f) (hb : Below B w w') (hg : g < B) : Row w' g t n f := (hb.block g hg).trans h
theorem Row.keep (h : Row w g t n f) (hb : Below w.heap.size w w') : Row w' g t n f := h.below hb h.lt
theorem Row.setRow_ (h : Row w g t n f) (f' : Nat → Value) : Row (w.setRow g (rowOf n f')) g t n f' := setRow_heap w g _ _ t _ h
theorem Row.setRow_far (h : Row w g t n f) {b : Nat} (hb : b ≠ g) (cs : Array Value) : Row (w.setRow b cs) g t n f := (setRow_other w b g cs (fun e => hb e.symm)).trans h
theorem Row.grown {row : Option Nat} (h : Row w g t n f) (hb : w.grownBy w' row) (hg : row ≠ some g) : Row w' g t n f := (hb.block g h.lt (fun e => hg e.symm)).trans h
/-- A row of the call's own, of another element type, is no such block. -/
theorem own_row_ne {base : Nat} {e : TypeId} {size m : Nat} {v : Value} {xs : List Value} (h : w.ownsRow base e size v m xs) (hg : Row w g t n f) (hne : e ≠ t) : v.ownBlock ≠ some g := by
  rcases h.2 with ⟨rfl, _⟩ | ⟨g', cap, cur, rfl, _, hh, _⟩
  · simp [Value.ownBlock]
  · intro he
    have hgg : g' = g := by simpa [Value.ownBlock] using he
    subst hgg
    unfold Row at hg
    rw [hh] at hg
    injection hg with hg
    injection hg with _ ht
    exact hne ht
theorem below_setRow_ {B : Nat} (h : Below B w w') {b : Nat} (hb : B ≤ b) (cs : Array Value) : Below B w (w'.setRow b cs) :=
  ⟨h.os, h.tape, h.output, by simpa using h.size, fun i hi => (setRow_other w' b i cs (by omega)).trans (h.block i hi)⟩
end

theorem two_blocks (w : World) (t1 t2 : TypeId) (n1 n2 : Nat) (f1 f2 : Nat → Value) : ∀ W, (w.alloc (.cells (rowOf n1 f1) t1)).alloc (.cells (rowOf n2 f2) t2) = W →
    Below w.heap.size w W ∧ Row W w.heap.size t1 n1 f1 ∧ Row W (w.heap.size + 1) t2 n2 f2 := by
  rintro W rfl
  refine ⟨((Below.refl _ _).alloc (Nat.le_refl _) _).alloc (by simp) _, (Row.new w _ _ _ _ rfl).alloc _, ?_⟩
  have h := Row.new (w.alloc (.cells (rowOf n1 f1) t1)) _ t2 f2 n2 rfl
  simpa using h

theorem three_blocks (w : World) (t1 t2 t3 : TypeId) (n1 n2 n3 : Nat) (f1 f2 f3 : Nat → Value) : ∀ W, ((w.alloc (.cells (rowOf n1 f1) t1)).alloc (.cells (rowOf n2 f2) t2)).alloc (.cells (rowOf n3 f3) t3) = W →
    Below w.heap.size w W ∧ Row W w.heap.size t1 n1 f1 ∧ Row W (w.heap.size + 1) t2 n2 f2 ∧ Row W (w.heap.size + 1 + 1) t3 n3 f3 := by
  rintro W rfl
  obtain ⟨h1, h2, h3⟩ := two_blocks w t1 t2 n1 n2 f1 f2 _ rfl
  refine ⟨h1.alloc (by simp; omega) _, h2.alloc _, h3.alloc _, ?_⟩
  have h := Row.new ((w.alloc (.cells (rowOf n1 f1) t1)).alloc (.cells (rowOf n2 f2) t2)) _ t3 f3 n3 rfl
  simpa using h

section
variable {P : Program}
/-- The whole block is read. -/
theorem load_row {w : World} {g : Nat} {t ty : TypeId} {n : Nat} {f : Nat → Value} {d : TypeDesc} (h : Row w g t n f) (hu : P.underlying ty = some d) (hd : (match d with | .struct _ | .array _ _ => true | _ => false) = true)
    (hi : (P.info? ty).map (·.size) = some n) : (Instr.loadAt ty (.pointer (some ⟨g, 0, none⟩))).run P w = .ok (.agg (rowOf n f)) w := by
  simp only [Instr.loadAt, Instr.sureAddr, Sem.run_bind, Sem.run_pure, Result.andThen_ok, run_loadVar_row w g t ty _ (0, 0) d h hu hd (by rw [hi, rowOf_size])]
/-- A part of a block is read whole. -/
theorem load_part {w : World} {g o m : Nat} {t ty : TypeId} {n : Nat} {f : Nat → Value} {d : TypeDesc} (h : Row w g t n f) (ho : o + m ≤ n) (hu : P.underlying ty = some d) (hd : d.isRow = true)
    (hi : (P.info? ty).map (·.size) = some m) : (Instr.loadAt ty (.pointer (some ⟨g, o, none⟩))).run P w = .ok (.agg (rowOf m (fun i => f (o + i)))) w := by
  refine run_loadAt_mid w g o ty ((List.range m).map (fun i => f (o + i))) d (fun j v hv => ?_) hu hd (by rw [hi]; simp)
  simp only [List.getElem?_map, Option.map_eq_some_iff] at hv
  obtain ⟨i, hi, rfl⟩ := hv
  have hj := (List.getElem?_eq_some_iff.1 hi).1
  have := List.getElem?_eq_some_iff.1 hi
  obtain ⟨h1, h2⟩ := this
  rw [List.getElem_range] at h2
  subst h2
  exact h.cell (by simp at h1; omega)
end

/-- The first n numbers are the same. -/
def eqI (n : Nat) (a b : Nat → Int) : Bool := (List.range n).all fun i => a i == b i
theorem eqI_iff {n : Nat} {a b : Nat → Int} : eqI n a b = true ↔ ∀ i, i < n → a i = b i := by simp [eqI]
section
variable {P : Program} (w : World)
theorem run_equalIn_ints (d : Nat) (t e : TypeId) (n : Nat) (ht : P.underlying t = some (.array n e)) (he : P.underlying e = some (.int .i64)) (hsz : ∀ w, (sizeOf e).run P w = .ok 1 w) (a b : Nat → Int) :
    (Op.equalIn (d + 2) t (.agg (rowOf n (ints a))) (.agg (rowOf n (ints b)))).run P w = .ok (eqI n a b) w := by
  rw [eqI, List.range_eq_range', Op.equalIn]
  simp only [Sem.run_bind, run_underlying ht, Result.andThen_ok, hsz, Std.Legacy.Range.forIn_eq_forIn_range', Std.Legacy.Range.size, Nat.sub_zero, Nat.add_sub_cancel, Nat.div_one]
  have hl : ∀ i ∈ List.range' 0 n 1, i < n := fun i hi => by simpa using (List.mem_range'_1.1 hi).2
  generalize List.range' 0 n 1 = l at hl ⊢
  induction l with
  | nil => simp
  | cons i l ih =>
    have hi : i < n := hl i (by simp)
    have px : ∀ c : Nat → Int, (part e (rowOf n (ints c)) (i * 1)).run P w = .ok (.int .i64 (c i)) w := fun c => by
      have := rowOf_get (ints c) hi
      simp [part, isAgg, run_underlying he, this, ints]
    have pe : (Op.equalIn (d + 1) e (.int .i64 (a i)) (.int .i64 (b i))).run P w = .ok (a i == b i) w := run_equalIn_int w d e .i64 .i64 _ _ he
    simp only [List.forIn_cons, Sem.run_bind, px, pe, Result.andThen_ok, List.all_cons]
    cases hb : (a i == b i)
    · simp
    · simp only [Bool.not_true, Bool.false_eq_true, if_false, Sem.run_pure, Result.andThen_ok, Bool.true_and]
      exact ih fun j hj => hl j (by simp [hj])
theorem run_eql_ints (t e : TypeId) (n : Nat) (ht : P.underlying t = some (.array n e)) (he : P.underlying e = some (.int .i64)) (hsz : ∀ w, (sizeOf e).run P w = .ok 1 w) (a b : Nat → Int) :
    (binOp .eql t (.agg (rowOf n (ints a))) (.agg (rowOf n (ints b)))).run P w = .ok (.bool (eqI n a b)) w := by
  rw [run_eql_struct, run_equalIn_ints w 9998 t e n ht he hsz a b]
  rfl
end
end Go.Proofs.Ytodomchanaaonaa
