/- What a law's row asks behind the call, out of two facts: it returned true, and nothing that was there has turned. And rows of cells that a slice leads to. · What arguments are, out of their being read as data: structs and arrays of numbers. · Blocks whose cells are a function's values, known whole; and the runs that read and write one whole. · Worlds that differ in certain blocks alone: what calls that change an object leave as it was. · Cells that lie side by side, and slices of them: what a line is made of. · Lists of structs as cells: k cells an element, whatever they are. -/
import Derived.Test.YtdbankogamolcaaDoorRows
import Derived.WalkKit
import Derived.ProofKit
import Derived.OpenShut
import Derived.Carry
import Derived.Lib.Hide
import Derived.Deep.QuietTactic
import Derived.BigQuiet
import Derived.Laws.OwnMore
import Derived.Laws.Rows
import Derived.Deep.OwnRows
import Derived.Lib.SmallJoins
import Derived.Deep.MidRow
import Derived.Laws.Tables
import Derived.Laws.StructEq
import Derived.Deep.AppendLies
import Derived.Deep.RegionLaw
namespace Go.Proofs.YtdbankogamolcaaDoor
set_option linter.unusedSimpArgs false
set_option linter.unusedVariables false
open Go.ChangeShapes Go.WideShapes Go.ChangeAt Go.RowKit

theorem laidOut : laidOutB Tryd.prog = true := by kernel_rfl
theorem own : ownKnob Tryd.prog.godebug = none := by kernel_rfl

section
variable {H : Type} {enc : TypeId × Value → H} {P : Program}

theorem args_read {W W' : World} (hl : laidOutB P = true) (hb : Below W.heap.size W W') : ∀ {ts : List TypeId} {vs : List Value} {ds : List (DataW H)} {ps : List MemPlace},
    ts.all (fun t => P.readableRec t && decide (t < P.types.size)) = true → (∀ x ∈ ps, x.block < W.heap.size) →
    DataW.TrodAll enc P W 0 (fun _ => true) true ts vs ds ps → DataW.TrodAll enc P W' 0 (fun b => decide (b < W.heap.size)) true ts vs ds ps
  | [], [], [], _, _, _, h => h
  | t :: ts, _ :: _, _ :: _, _, hts, hlt, ⟨p, q, h1, h2, e⟩ => by
    simp only [List.all_cons, Bool.and_eq_true, decide_eq_true_eq] at hts
    refine ⟨p, q, ?_, args_read hl hb (by simpa using hts.2) (fun x hx => hlt x (by rw [e]; exact List.mem_append_right _ hx)) h2, e⟩
    exact Below.trod hl hts.1.1 hts.1.2 h1 hb (fun x hx => hlt x (by rw [e]; exact List.mem_append_left _ hx))

/-- The row's post: true was answered, and of what was there nothing has turned. -/
theorem post_law {f : Func} {s : ChangeSpec} {tb : TypeId} {W W' : World} {args : Array Value} {ds gs : List (DataW H)} {before : List MemPlace}
    (hl : laidOutB P = true) (hts : f.params.toList.all (fun t => P.readableRec t && decide (t < P.types.size)) = true) (hrt : f.resultTypes = #[tb]) (hu : P.underlying tb = some .bool)
    (hv : s.vars = []) (hs : (s.fn H (ds ++ gs)).results = [.lit (.bool true)] ∧ (s.fn H (ds ++ gs)).args = ds ∧ (s.fn H (ds ++ gs)).vars = [])
    (hW : DataW.Whole enc P f.params.toList s.vars false W args.toList ds gs before) (hb : Below W.heap.size W W') :
    s.post enc P f false true false false W args (.bool true) W' := by
  have hW' := hW
  obtain ⟨p, q, hA, hV, rfl, hz, hn⟩ := hW
  rw [hv] at hV
  obtain ⟨rfl, rfl⟩ := trodVars_none hV
  have hlt : ∀ x ∈ p, x.block < W.heap.size := fun x hx => by simpa using hW'.lt x (by simpa using hx)
  have hok := ok_one (P := P) (W' := W') (f := f) (v := .bool true) hrt rfl (okWide_bool_mk hu _)
  have hres : ∀ (b : Nat) (sp : Nat → Bool) (hd : Bool), DataW.TrodAll enc P W' b sp hd f.resultTypes.toList ((Value.bool true).resultList f.resultTypes.size) (s.fn H (ds ++ [])).results [] := by
    intro b sp hd
    rw [hrt, hs.1]
    exact trodAll_cons_mk (shut_bool hu _) trodAll_mk0
  refine ⟨ds, [], p ++ [], [], p, [], hW', hres _ _ _, ?_, ?_, ?_, fun h => by cases h⟩
  · rw [hs.2.1]
    exact args_read hl hb hts hlt hA
  · rw [hv, hs.2.2]
    rfl
  · exact hb.frame _

end

/-- A slice's cells: of the first n of them the i-th one holds f i. -/
def RowIs (W : World) (A : Option Addr) (n : Nat) (f : Nat → Value) : Prop :=
  0 < n → ∃ b off, A = some ⟨b, off, none⟩ ∧ b < W.heap.size ∧ ∀ i, i < n → W.cell? ⟨b, off + i, none⟩ = some (f i)

theorem RowIs.none_ (W : World) (A : Option Addr) (f : Nat → Value) : RowIs W A 0 f := fun h => absurd h (by omega)
theorem RowIs.keep {W W' : World} {A : Option Addr} {n : Nat} {f : Nat → Value} (h : RowIs W A n f) (hc : ∀ p : Addr, p.block < W.heap.size → W'.cell? p = W.cell? p) (hs : W.heap.size ≤ W'.heap.size) : RowIs W' A n f := fun hn => by
  obtain ⟨b, off, rfl, hb, hx⟩ := h hn
  exact ⟨b, off, rfl, by omega, fun i hi => (hc ⟨b, off + i, none⟩ hb).trans (hx i hi)⟩
theorem RowIs.below {W W' : World} {A : Option Addr} {n : Nat} {f : Nat → Value} (h : RowIs W A n f) (hb : Below W.heap.size W W') : RowIs W' A n f := h.keep (fun _ hp => hb.cell hp) hb.size
theorem RowIs.drewN {W : World} {A : Option Addr} {n : Nat} {f : Nat → Value} (h : RowIs W A n f) (k : Nat) : RowIs (W.drewN k) A n f := h
theorem RowIs.drew {W : World} {A : Option Addr} {n : Nat} {f : Nat → Value} (h : RowIs W A n f) : RowIs W.drew A n f := h

theorem below_drewN {B : Nat} {a w : World} (h : Below B a w) (n : Nat) : Below B a (w.drewN n) := ⟨h.os, h.tape, h.output, h.size, h.block⟩

/-- Nothing but draws was made. -/
def Drew (w w' : World) : Prop := ∃ m, w' = w.drewN m
theorem Drew.refl (w : World) : Drew w w := ⟨0, rfl⟩
theorem Drew.more {w w' : World} (h : Drew w w') (n : Nat) : Drew w (w'.drewN n) := by
  obtain ⟨m, rfl⟩ := h
  exact ⟨m + n, by rw [World.drewN_drewN]⟩
theorem Drew.trans {a b c : World} (h : Drew a b) (k : Drew b c) : Drew a c := by
  obtain ⟨m, rfl⟩ := k
  exact h.more m
theorem Drew.row {w w' : World} (h : Drew w w') {A : Option Addr} {n : Nat} {f : Nat → Value} (r : RowIs w A n f) : RowIs w' A n f := by
  obtain ⟨m, rfl⟩ := h
  exact r.drewN m
theorem Drew.cell {w w' : World} (h : Drew w w') (a : Addr) : w'.cell? a = w.cell? a := by
  obtain ⟨m, rfl⟩ := h
  rfl
theorem Drew.below {w w' : World} (h : Drew w w') (B : Nat) : Below B w w' := by
  obtain ⟨m, rfl⟩ := h
  exact below_drewN (Below.refl B w) m
theorem quiet_eq {P : Program} {f : FuncId} {args : Array Value} {w : World} {v : Value} (h : Calls P f args w fun e w' => e = .returned v ∧ w = w') : Calls P f args w fun e w' => e = .returned v ∧ w' = w :=
  h.mono fun _ _ ⟨a, b⟩ => ⟨a, b.symm⟩
theorem quiet_drew {P : Program} {f : FuncId} {args : Array Value} {w : World} {v : Value} (h : Calls P f args w fun e w' => e = .returned v ∧ Drew w w') : Calls P f args w fun e w' => e = .returned v ∧ ∃ n, w' = w.drewN n := h

/-- A block that the call has made, whole: n cells, the i-th one holding f i. -/
def Own (w : World) (g n : Nat) (f : Nat → Value) : Prop := ∃ cs t, w.heap[g]? = some (.cells cs t (0, 0)) ∧ cs.size = n ∧ ∀ i, i < n → cs[i]? = some (f i)

section
variable {w w' : World} {g n : Nat} {f : Nat → Value}
theorem Own.lt (h : Own w g n f) : g < w.heap.size := by
  obtain ⟨cs, t, h, _, _⟩ := h
  rcases Nat.lt_or_ge g w.heap.size with hlt | hge
  · exact hlt
  · rw [Array.getElem?_eq_none hge] at h; cases h
theorem Own.cell (h : Own w g n f) {i : Nat} (hi : i < n) : w.cell? ⟨g, i, none⟩ = some (f i) := by
  obtain ⟨cs, t, h, _, hc⟩ := h
  rw [cell_of_row w g i cs t (0, 0) h]
  exact hc i hi
theorem Own.frozen (h : Own w g n f) (i : Nat) : w.frozen? ⟨g, i, none⟩ = false := by
  obtain ⟨cs, t, h, _, hc⟩ := h
  simp [World.frozen?, h]
theorem Own.set_ (h : Own w g n f) (k : Nat) (u : Value) : Own (w.setCell ⟨g, k, none⟩ u) g n (fun i => if i = k then u else f i) := by
  obtain ⟨cs, t, h, hs, hc⟩ := h
  refine ⟨cs.setIfInBounds k u, t, by simp [World.setCell, Array.getElem?_modify, h], by simpa using hs, fun i hi => ?_⟩
  rw [Array.getElem?_setIfInBounds]
  by_cases e : k = i
  · subst e; simp [hs, hi]
  · rw [if_neg e, hc i hi]
    show some (f i) = some (if i = k then u else f i)
    rw [if_neg (Ne.symm e)]
theorem Own.row (h : Own w g n f) : RowIs w (some ⟨g, 0, none⟩) n f := fun _ => ⟨g, 0, rfl, h.lt, fun i hi => by rw [Nat.zero_add]; exact h.cell hi⟩
theorem Own.below {B : Nat} (h : Own w g n f) (hb : Below B w w') (hg : g < B) : Own w' g n f := by
  obtain ⟨cs, t, h, hs, hc⟩ := h
  exact ⟨cs, t, (hb.block g hg).trans h, hs, hc⟩
theorem Own.congr {f' : Nat → Value} (h : Own w g n f) (he : ∀ i, i < n → f i = f' i) : Own w g n f' := by
  obtain ⟨cs, t, h, hs, hc⟩ := h
  exact ⟨cs, t, h, hs, fun i hi => by rw [hc i hi, he i hi]⟩
theorem Own.drewN (h : Own w g n f) (k : Nat) : Own (w.drewN k) g n f := h
theorem Own.far (h : Own w g n f) {p : Addr} (hp : g ≠ p.block) (u : Value) : Own (w.setCell p u) g n f := by
  obtain ⟨cs, t, h, hs, hc⟩ := h
  exact ⟨cs, t, (Below.heap_setCell w p u g hp).trans h, hs, hc⟩
theorem Own.alloc (h : Own w g n f) (o : Obj) : Own (w.alloc o) g n f := by
  have hl := h.lt
  obtain ⟨cs, t, h, hs, hc⟩ := h
  exact ⟨cs, t, (Below.heap_alloc w o g hl).trans h, hs, hc⟩
theorem Own.new (w : World) (cs : Array Value) (t : TypeId) (f : Nat → Value) (n : Nat) (hs : cs.size = n) (hc : ∀ i, i < n → cs[i]? = some (f i)) : Own (w.alloc (.cells cs t)) w.heap.size n f :=
  ⟨cs, t, heap_alloc_new w _, hs, hc⟩
end

/-- Three cells of a block. -/
def Three (w : World) (g : Nat) (a b c : Value) : Prop := w.cell? ⟨g, 0, none⟩ = some a ∧ w.cell? ⟨g, 1, none⟩ = some b ∧ w.cell? ⟨g, 2, none⟩ = some c
theorem Three.new (w : World) (a b c : Value) (t : TypeId) : Three (w.alloc (.cells #[a, b, c] t)) w.heap.size a b c := by
  have h := Own.new w #[a, b, c] t (fun i => if i = 0 then a else if i = 1 then b else c) 3 rfl (fun i hi => by
    match i, hi with
    | 0, _ => rfl
    | 1, _ => rfl
    | 2, _ => rfl)
  exact ⟨h.cell (i := 0) (by omega), h.cell (i := 1) (by omega), h.cell (i := 2) (by omega)⟩
theorem Three.below {w w' : World} {g B : Nat} {a b c : Value} (h : Three w g a b c) (hb : Below B w w') (hg : g < B) : Three w' g a b c :=
  ⟨by rw [hb.cell hg]; exact h.1, by rw [hb.cell hg]; exact h.2.1, by rw [hb.cell hg]; exact h.2.2⟩
theorem Three.alloc {w : World} {g : Nat} {a b c : Value} (h : Three w g a b c) (hg : g < w.heap.size) (o : Obj) : Three (w.alloc o) g a b c :=
  h.below (B := w.heap.size) ((Below.refl _ _).alloc (Nat.le_refl _) o) hg

/-- A cell that was there holds what it held. -/
theorem cell_keep {w1 w2 : World} (hb : Below w1.heap.size w1 w2) {b o : Nat} {v : Value} (h : w1.cell? ⟨b, o, none⟩ = some v) : w2.cell? ⟨b, o, none⟩ = some v := by
  rw [hb.cell (World.block_lt_of_cell? w1 _ h)]; exact h
theorem below_on {B : Nat} {w w1 w2 : World} (h : Below B w w1) (hB : B ≤ w.heap.size) (hb : Below w1.heap.size w1 w2) : Below B w w2 := h.trans (hb.mono (Nat.le_trans hB h.size))
theorem retB {a b : Bool} (h : a = b) : Ending.returned (.bool a) = Ending.returned (.bool b) := by rw [h]
theorem retI {k : IntKind} {a b : Int} (h : a = b) : Ending.returned (.int k a) = Ending.returned (.int k b) := by rw [h]

/-! ### What arguments are, out of their being read as data. -/
section
variable {H : Type} {enc : TypeId × Value → H} {P : Program} {w : World} {base : Nat}

theorem add_row (b off i : Nat) : (⟨b, off, none⟩ : Addr).add i = ⟨b, off + i, none⟩ := add_plain ..

/-- A slice of integers. -/
theorem open_ints_row {t e : TypeId} {k : IntKind} {r : Reach} {b0 : Nat} {v : Value} {d : DataW H} {ps : List MemPlace} (ht : P.underlying t = some (.slice e)) (he : P.underlying e = some (.int k)) (hc : P.cellsOf e = 1)
    (hval : Value.okWide P w r b0 t v) (h : DataW.Trod enc P w base (fun _ => true) true t v d ps) :
    ∃ (A : Option Addr) (n c : Nat) (l : List Int), v = .slice A n c ∧ l.length = n ∧ n ≤ 9223372036854775807 ∧ (∀ z ∈ l, (Lit.int k z).wf = true) ∧ RowIs w A n (fun i => .int k (l.getD i 0)) := by
  obtain ⟨A, n, c, rfl⟩ := okWide_slice ht hval
  obtain ⟨fuel, hf⟩ := h
  rcases open_ints ht he hc hf with ⟨hcs, hx⟩ | ⟨a, len', cap', zs, hcs, _, hl, hm, hz, hx, hcell, hwz⟩
  · simp [Value.cells] at hcs
    obtain ⟨rfl, rfl, rfl⟩ := hcs
    exact ⟨none, 0, 0, [], rfl, rfl, by omega, by simp, RowIs.none_ _ _ _⟩
  · simp [Value.cells] at hcs
    obtain ⟨rfl, rfl, rfl⟩ := hcs
    simp only [if_true] at hz
    unfold maxLen at hm
    have hlen : (zs.take n).length = n := by rw [List.length_take]; omega
    refine ⟨some a, n, c, zs.take n, rfl, hlen, by omega, fun z hz => hwz z (List.mem_of_mem_take hz), fun hn => ?_⟩
    have h0 := hcell 0 (by omega)
    obtain ⟨b, off, spot⟩ := a
    have hspot : spot = none := by simpa [Addr.add] using World.cell?_spot h0
    subst hspot
    refine ⟨b, off, rfl, ?_, fun i hi => ?_⟩
    · rw [add_row] at h0
      exact World.block_lt_of_cell? w _ h0
    · have := hcell i (by omega)
      rw [add_row] at this
      rw [this]
      simp [List.getD, hi]

theorem wf_getD {k : IntKind} {l : List Int} (h : ∀ z ∈ l, (Lit.int k z).wf = true) (h0 : (Lit.int k 0).wf = true) (i : Nat) : (Lit.int k (l.getD i 0)).wf = true := by
  by_cases hi : i < l.length
  · have : l.getD i 0 = l[i] := by simp [List.getD, hi]
    rw [this]
    exact h _ (List.getElem_mem hi)
  · have : l.getD i 0 = 0 := by simp [List.getD, Nat.le_of_not_lt hi]
    rw [this]
    exact h0
/-- A slice of int. -/
theorem open_is {t e : TypeId} {r : Reach} {b0 : Nat} {v : Value} {d : DataW H} {ps : List MemPlace} (ht : P.underlying t = some (.slice e)) (he : P.underlying e = some (.int .i64)) (hc : P.cellsOf e = 1)
    (hval : Value.okWide P w r b0 t v) (h : DataW.Trod enc P w base (fun _ => true) true t v d ps) :
    ∃ (A : Option Addr) (c : Nat) (l : List Int), v = .slice A l.length c ∧ l.length ≤ 9223372036854775807 ∧ (∀ i, -9223372036854775808 ≤ l.getD i 0 ∧ l.getD i 0 ≤ 9223372036854775807) ∧ RowIs w A l.length (fun i => .int .i64 (l.getD i 0)) := by
  obtain ⟨A, n, c, l, rfl, rfl, hn, hw, hr⟩ := open_ints_row ht he hc hval h
  exact ⟨A, c, l, rfl, hn, fun i => bounds_i64 (wf_getD hw (by decide) i), hr⟩
/-- A slice of uint64. -/
theorem open_us {t e : TypeId} {r : Reach} {b0 : Nat} {v : Value} {d : DataW H} {ps : List MemPlace} (ht : P.underlying t = some (.slice e)) (he : P.underlying e = some (.int .u64)) (hc : P.cellsOf e = 1)
    (hval : Value.okWide P w r b0 t v) (h : DataW.Trod enc P w base (fun _ => true) true t v d ps) :
    ∃ (A : Option Addr) (c : Nat) (l : List Nat), v = .slice A l.length c ∧ l.length ≤ 9223372036854775807 ∧ (∀ i, l.getD i 0 < 18446744073709551616) ∧ RowIs w A l.length (fun i => .int .u64 (l.getD i 0 : Nat)) := by
  obtain ⟨A, n, c, l, rfl, rfl, hn, hw, hr⟩ := open_ints_row ht he hc hval h
  have hb := fun i => bounds_u64 (wf_getD hw (by decide) i)
  have e1 : ∀ i, ((l.map Int.toNat).getD i 0 : Int) = l.getD i 0 := fun i => by
    have h1 := hb i
    have h2 : (l.map Int.toNat).getD i 0 = (l.getD i 0).toNat := by
      by_cases hi : i < l.length
      · simp [List.getD, hi]
      · simp [List.getD, Nat.le_of_not_lt hi]
    rw [h2]
    omega
  refine ⟨A, c, l.map Int.toNat, by simp, by simpa using hn, fun i => ?_, ?_⟩
  · have h1 := hb i; have h2 := e1 i; omega
  · intro hn'
    have hl : (l.map Int.toNat).length = l.length := List.length_map ..
    rw [hl] at hn' ⊢
    obtain ⟨b, off, rfl, hbl, hx⟩ := hr hn'
    refine ⟨b, off, rfl, hbl, fun i hi => (hx i hi).trans ?_⟩
    show some (Value.int IntKind.u64 (l.getD i 0)) = some (.int .u64 ((l.map Int.toNat).getD i 0 : Nat))
    rw [e1 i]
/-- An integer, as a number from 0 on. -/
theorem open_u {t : TypeId} {r : Reach} {b0 : Nat} {v : Value} {d : DataW H} {ps : List MemPlace} (ht : P.underlying t = some (.int .u64))
    (hval : Value.okWide P w r b0 t v) (h : DataW.Trod enc P w base (fun _ => true) true t v d ps) : ∃ x : Nat, v = .int .u64 x ∧ x < 18446744073709551616 := by
  obtain ⟨a, rfl, _, _, hw⟩ := open_int ht hval h
  have hb := bounds_u64 hw
  exact ⟨a.toNat, by congr 1; omega, by omega⟩
theorem open_i {t : TypeId} {r : Reach} {b0 : Nat} {v : Value} {d : DataW H} {ps : List MemPlace} (ht : P.underlying t = some (.int .i64))
    (hval : Value.okWide P w r b0 t v) (h : DataW.Trod enc P w base (fun _ => true) true t v d ps) : ∃ x : Int, v = .int .i64 x ∧ (-9223372036854775808 ≤ x ∧ x ≤ 9223372036854775807) := by
  obtain ⟨a, rfl, _, _, hw⟩ := open_int ht hval h
  exact ⟨a, rfl, bounds_i64 hw⟩
theorem okWide_array {n : Nat} {e : TypeId} {r : Reach} {b0 : Nat} {t : TypeId} {v : Value} (ht : P.underlying t = some (.array n e)) (h : Value.okWide P w r b0 t v) : ∃ cs, v = .agg cs := by
  simp only [Value.okWide, ht] at h
  cases v <;> simp_all
/-- Two ints in an array. -/
theorem open_i2 {t e : TypeId} {r : Reach} {b0 : Nat} {v : Value} {d : DataW H} {ps : List MemPlace} (ht : P.underlying t = some (.array 2 e)) (he : P.underlying e = some (.int .i64)) (hc : P.cellsOf e = 1) (hct : P.cellsOf t = 2)
    (hval : Value.okWide P w r b0 t v) (h : DataW.Trod enc P w base (fun _ => true) true t v d ps) :
    ∃ x y : Int, v = .agg #[.int .i64 x, .int .i64 y] ∧ (-9223372036854775808 ≤ x ∧ x ≤ 9223372036854775807) ∧ (-9223372036854775808 ≤ y ∧ y ≤ 9223372036854775807) := by
  obtain ⟨cs, rfl⟩ := okWide_array ht hval
  obtain ⟨fuel, hf⟩ := h
  obtain ⟨xs, m, _, _, hl, hx, hel⟩ := DataW.trod_array ht hf
  rw [hct] at hl
  have h0 := hel 0 (by omega)
  have h1 := hel 1 (by omega)
  rw [List.getElem?_eq_getElem (by omega), hc] at h0 h1
  have hcs : (Value.agg cs).cells.toList = cs.toList := rfl
  rw [hcs] at hl h0 h1
  obtain ⟨cs⟩ := cs
  match cs, hl with
  | [a, b], _ =>
    obtain ⟨x, e0, _, w0⟩ := DataW.trod_int he h0
    obtain ⟨y, e1, _, w1⟩ := DataW.trod_int he h1
    simp at e0 e1
    subst e0; subst e1
    exact ⟨x, y, rfl, bounds_i64 w0, bounds_i64 w1⟩
end

end Go.Proofs.YtdbankogamolcaaDoor
namespace Go.Proofs.YtdbankogamolcaaDoor
set_option linter.unusedSimpArgs false
set_option linter.unusedVariables false
open Go.ChangeShapes Go.WideShapes Go.ChangeAt Go.RowKit Go.Joins Go.Deep
section
variable {H : Type} {enc : TypeId × Value → H} {P : Program} {w : World} {base : Nat}

theorem cell_i {t : TypeId} {n : Nat} {v : Value} {y : DataW H × List MemPlace} {spare : Nat → Bool} {held : Bool} (ht : P.underlying t = some (.int .i64)) (h : DataW.trod enc P w base spare held n t [v] = some y) :
    ∃ x : Int, v = .int .i64 x ∧ (-9223372036854775808 ≤ x ∧ x ≤ 9223372036854775807) := by
  obtain ⟨x, e0, _, w0⟩ := DataW.trod_int ht h
  simp at e0
  exact ⟨x, e0, bounds_i64 w0⟩
theorem cell_u {t : TypeId} {n : Nat} {v : Value} {y : DataW H × List MemPlace} {spare : Nat → Bool} {held : Bool} (ht : P.underlying t = some (.int .u64)) (h : DataW.trod enc P w base spare held n t [v] = some y) :
    ∃ x : Nat, v = .int .u64 x ∧ x < 18446744073709551616 := by
  obtain ⟨x, e0, _, w0⟩ := DataW.trod_int ht h
  simp at e0
  have hb := bounds_u64 w0
  exact ⟨x.toNat, by rw [e0]; congr 1; omega, by omega⟩
theorem open_i3 {t e : TypeId} {r : Reach} {b0 : Nat} {v : Value} {d : DataW H} {ps : List MemPlace} (ht : P.underlying t = some (.array 3 e)) (he : P.underlying e = some (.int .i64)) (hc : P.cellsOf e = 1) (hct : P.cellsOf t = 3)
    (hval : Value.okWide P w r b0 t v) (h : DataW.Trod enc P w base (fun _ => true) true t v d ps) :
    ∃ x y z : Int, v = .agg #[.int .i64 x, .int .i64 y, .int .i64 z] ∧ (-9223372036854775808 ≤ x ∧ x ≤ 9223372036854775807) ∧ (-9223372036854775808 ≤ y ∧ y ≤ 9223372036854775807) ∧ (-9223372036854775808 ≤ z ∧ z ≤ 9223372036854775807) := by
  obtain ⟨cs, rfl⟩ := okWide_array ht hval
  obtain ⟨fuel, hf⟩ := h
  obtain ⟨xs, m, _, _, hl, hx, hel⟩ := DataW.trod_array ht hf
  rw [hct] at hl
  have h0 := hel 0 (by omega)
  have h1 := hel 1 (by omega)
  have h2 := hel 2 (by omega)
  rw [List.getElem?_eq_getElem (by omega), hc] at h0 h1 h2
  have hcs : (Value.agg cs).cells.toList = cs.toList := rfl
  rw [hcs] at hl h0 h1 h2
  obtain ⟨cs⟩ := cs
  match cs, hl with
  | [a, b, c], _ =>
    obtain ⟨x, e0, w0⟩ := cell_i he h0
    obtain ⟨y, e1, w1⟩ := cell_i he h1
    obtain ⟨z, e2, w2⟩ := cell_i he h2
    subst e0; subst e1; subst e2
    exact ⟨x, y, z, rfl, w0, w1, w2⟩
end
end Go.Proofs.YtdbankogamolcaaDoor
namespace Go.Proofs.YtdbankogamolcaaDoor
set_option linter.unusedSimpArgs false
set_option linter.unusedVariables false
open Go.ChangeShapes Go.WideShapes Go.ChangeAt Go.RowKit

/-- n cells, the i-th one f i. -/
def rowOf (n : Nat) (f : Nat → Value) : Array Value := ((List.range n).map f).toArray
/-- Block g is just these cells. -/
def Row (w : World) (g : Nat) (t : TypeId) (n : Nat) (f : Nat → Value) : Prop := w.heap[g]? = some (.cells (rowOf n f) t (0, 0))
/-- Numbers as cells. -/
def ints (c : Nat → Int) : Nat → Value := fun i => .int .i64 (c i)

theorem rowOf_size (n : Nat) (f : Nat → Value) : (rowOf n f).size = n := by simp [rowOf]
theorem rowOf_get {n i : Nat} (f : Nat → Value) (hi : i < n) : (rowOf n f)[i]? = some (f i) := by simp [rowOf, hi]
theorem rowOf_congr {n : Nat} {f g : Nat → Value} (h : ∀ i, i < n → f i = g i) : rowOf n f = rowOf n g := by
  unfold rowOf
  congr 1
  exact List.map_congr_left fun i hi => h i (by simpa using hi)
theorem rowOf_set {n : Nat} {f : Nat → Value} (k : Nat) (u : Value) : (rowOf n f).setIfInBounds k u = rowOf n (fun i => if i = k then u else f i) := by
  apply Array.ext_getElem?
  intro i
  rw [Array.getElem?_setIfInBounds]
  by_cases hi : i < n
  · rw [rowOf_get _ hi]
    by_cases e : k = i
    · subst e; rw [if_pos rfl, if_pos (by rw [rowOf_size]; exact hi), rowOf_get _ hi, if_pos rfl]
    · rw [if_neg e, rowOf_get _ hi, if_neg (Ne.symm e)]
  · have h1 : (rowOf n f)[i]? = none := by rw [Array.getElem?_eq_none_iff, rowOf_size]; omega
    have h2 : (rowOf n (fun i => if i = k then u else f i))[i]? = none := by rw [Array.getElem?_eq_none_iff, rowOf_size]; omega
    rw [h1, h2]
    simp [rowOf_size]; omega
theorem rowOf_one {n : Nat} {f : Nat → Value} (h : ∀ i, (f i).oneCell' = true) : (rowOf n f).all (·.oneCell') = true := by
  rw [Array.all_eq_true_iff_forall_mem]
  intro v hv
  simp only [rowOf, List.mem_toArray, List.mem_map] at hv
  obtain ⟨i, _, rfl⟩ := hv
  exact h i
theorem ints_one (n : Nat) (c : Nat → Int) : (rowOf n (ints c)).all (·.oneCell') = true := rowOf_one fun _ => rfl

section
variable {w w' : World} {g : Nat} {t : TypeId} {n : Nat} {f f' : Nat → Value}
theorem Row.lt (h : Row w g t n f) : g < w.heap.size := by
  rcases Nat.lt_or_ge g w.heap.size with hlt | hge
  · exact hlt
  · unfold Row at h; rw [Array.getElem?_eq_none hge] at h; cases h
theorem Row.cell (h : Row w g t n f) {i : Nat} (hi : i < n) : w.cell? ⟨g, i, none⟩ = some (f i) := by rw [cell_of_row w g i _ t (0, 0) h, rowOf_get f hi]
theorem Row.frozen (h : Row w g t n f) (i : Nat) : w.frozen? ⟨g, i, none⟩ = false := frozen_of_row w g i _ t h
theorem Row.congr (h : Row w g t n f) (he : ∀ i, i < n → f i = f' i) : Row w g t n f' := by unfold Row; rw [← rowOf_congr he]; exact h
theorem Row.new (w : World) (cs : Array Value) (t : TypeId) (f : Nat → Value) (n : Nat) (h : cs = rowOf n f) : Row (w.alloc (.cells cs t)) w.heap.size t n f := by rw [h]; exact heap_alloc_new w _
theorem Row.drew (h : Row w g t n f) : Row w.drew g t n f := h
theorem Row.drewN (h : Row w g t n f) (k : Nat) : Row (w.drewN k) g t n f := h
theorem Row.alloc (h : Row w g t n f) (o : Obj) : Row (w.alloc o) g t n f := (Below.heap_alloc w o g h.lt).trans h
theorem Row.set_ (h : Row w g t n f) (k : Nat) (u : Value) : Row (w.setCell ⟨g, k, none⟩ u) g t n (fun i => if i = k then u else f i) := by
  unfold Row
  rw [heap_setCell_same w g k _ t u h, rowOf_set]
theorem Row.far (h : Row w g t n f) {p : Addr} (hp : g ≠ p.block) (u : Value) : Row (w.setCell p u) g t n f := (Below.heap_setCell w p u g hp).trans h
theorem Row.below {B : Nat} (h : Row w g t n f) (hb : Below B w w') (hg : g < B) : Row w' g t n f := (hb.block g hg).trans h
theorem Row.keep (h : Row w g t n f) (hb : Below w.heap.size w w') : Row w' g t n f := h.below hb h.lt
theorem Row.setRow_ (h : Row w g t n f) (f' : Nat → Value) : Row (w.setRow g (rowOf n f')) g t n f' := setRow_heap w g _ _ t _ h
theorem Row.setRow_far (h : Row w g t n f) {b : Nat} (hb : b ≠ g) (cs : Array Value) : Row (w.setRow b cs) g t n f := (setRow_other w b g cs (fun e => hb e.symm)).trans h
theorem Row.grown {row : Option Nat} (h : Row w g t n f) (hb : w.grownBy w' row) (hg : row ≠ some g) : Row w' g t n f := (hb.block g h.lt (fun e => hg e.symm)).trans h
/-- A row of the call's own, of another element type, is no such block. -/
theorem own_row_ne {base : Nat} {e : TypeId} {size m : Nat} {v : Value} {xs : List Value} (h : w.ownsRow base e size v m xs) (hg : Row w g t n f) (hne : e ≠ t) : v.ownBlock ≠ some g := by
  rcases h.2 with ⟨rfl, _⟩ | ⟨g', cap, cur, rfl, _, hh, _⟩
  · simp [Value.ownBlock]
  · intro he
    have hgg : g' = g := by simpa [Value.ownBlock] using he
    subst hgg
    unfold Row at hg
    rw [hh] at hg
    injection hg with hg
    injection hg with _ ht
    exact hne ht
theorem below_setRow_ {B : Nat} (h : Below B w w') {b : Nat} (hb : B ≤ b) (cs : Array Value) : Below B w (w'.setRow b cs) :=
  ⟨h.os, h.tape, h.output, by simpa using h.size, fun i hi => (setRow_other w' b i cs (by omega)).trans (h.block i hi)⟩
end

theorem two_blocks (w : World) (t1 t2 : TypeId) (n1 n2 : Nat) (f1 f2 : Nat → Value) : ∀ W, (w.alloc (.cells (rowOf n1 f1) t1)).alloc (.cells (rowOf n2 f2) t2) = W →
    Below w.heap.size w W ∧ Row W w.heap.size t1 n1 f1 ∧ Row W (w.heap.size + 1) t2 n2 f2 := by
  rintro W rfl
  refine ⟨((Below.refl _ _).alloc (Nat.le_refl _) _).alloc (by simp) _, (Row.new w _ _ _ _ rfl).alloc _, ?_⟩
  have h := Row.new (w.alloc (.cells (rowOf n1 f1) t1)) _ t2 f2 n2 rfl
  simpa using h

theorem three_blocks (w : World) (t1 t2 t3 : TypeId) (n1 n2 n3 : Nat) (f1 f2 f3 : Nat → Value) : ∀ W, ((w.alloc (.cells (rowOf n1 f1) t1)).alloc (.cells (rowOf n2 f2) t2)).alloc (.cells (rowOf n3 f3) t3) = W →
    Below w.heap.size w W ∧ Row W w.heap.size t1 n1 f1 ∧ Row W (w.heap.size + 1) t2 n2 f2 ∧ Row W (w.heap.size + 1 + 1) t3 n3 f3 := by
  rintro W rfl
  obtain ⟨h1, h2, h3⟩ := two_blocks w t1 t2 n1 n2 f1 f2 _ rfl
  refine ⟨h1.alloc (by simp; omega) _, h2.alloc _, h3.alloc _, ?_⟩
  have h := Row.new ((w.alloc (.cells (rowOf n1 f1) t1)).alloc (.cells (rowOf n2 f2) t2)) _ t3 f3 n3 rfl
  simpa using h

section
variable {P : Program}
/-- The whole block is read. -/
theorem load_row {w : World} {g : Nat} {t ty : TypeId} {n : Nat} {f : Nat → Value} {d : TypeDesc} (h : Row w g t n f) (hu : P.underlying ty = some d) (hd : (match d with | .struct _ | .array _ _ => true | _ => false) = true)
    (hi : (P.info? ty).map (·.size) = some n) : (Instr.loadAt ty (.pointer (some ⟨g, 0, none⟩))).run P w = .ok (.agg (rowOf n f)) w := by
  simp only [Instr.loadAt, Instr.sureAddr, Sem.run_bind, Sem.run_pure, Result.andThen_ok, run_loadVar_row w g t ty _ (0, 0) d h hu hd (by rw [hi, rowOf_size])]
/-- A part of a block is read whole. -/
theorem load_part {w : World} {g o m : Nat} {t ty : TypeId} {n : Nat} {f : Nat → Value} {d : TypeDesc} (h : Row w g t n f) (ho : o + m ≤ n) (hu : P.underlying ty = some d) (hd : d.isRow = true)
    (hi : (P.info? ty).map (·.size) = some m) : (Instr.loadAt ty (.pointer (some ⟨g, o, none⟩))).run P w = .ok (.agg (rowOf m (fun i => f (o + i)))) w := by
  refine run_loadAt_mid w g o ty ((List.range m).map (fun i => f (o + i))) d (fun j v hv => ?_) hu hd (by rw [hi]; simp)
  simp only [List.getElem?_map, Option.map_eq_some_iff] at hv
  obtain ⟨i, hi, rfl⟩ := hv
  have hj := (List.getElem?_eq_some_iff.1 hi).1
  have := List.getElem?_eq_some_iff.1 hi
  obtain ⟨h1, h2⟩ := this
  rw [List.getElem_range] at h2
  subst h2
  exact h.cell (by simp at h1; omega)
end

/-- The first n numbers are the same. -/
def eqI (n : Nat) (a b : Nat → Int) : Bool := (List.range n).all fun i => a i == b i
theorem eqI_iff {n : Nat} {a b : Nat → Int} : eqI n a b = true ↔ ∀ i, i < n → a i = b i := by simp [eqI]
section
variable {P : Program} (w : World)
theorem run_equalIn_ints (d : Nat) (t e : TypeId) (n : Nat) (ht : P.underlying t = some (.array n e)) (he : P.underlying e = some (.int .i64)) (hsz : ∀ w, (sizeOf e).run P w = .ok 1 w) (a b : Nat → Int) :
    (Op.equalIn (d + 2) t (.agg (rowOf n (ints a))) (.agg (rowOf n (ints b)))).run P w = .ok (eqI n a b) w := by
  rw [eqI, List.range_eq_range', Op.equalIn]
  simp only [Sem.run_bind, run_underlying ht, Result.andThen_ok, hsz, Std.Legacy.Range.forIn_eq_forIn_range', Std.Legacy.Range.size, Nat.sub_zero, Nat.add_sub_cancel, Nat.div_one]
  have hl : ∀ i ∈ List.range' 0 n 1, i < n := fun i hi => by simpa using (List.mem_range'_1.1 hi).2
  generalize List.range' 0 n 1 = l at hl ⊢
  induction l with
  | nil => simp
  | cons i l ih =>
    have hi : i < n := hl i (by simp)
    have px : ∀ c : Nat → Int, (part e (rowOf n (ints c)) (i * 1)).run P w = .ok (.int .i64 (c i)) w := fun c => by
      have := rowOf_get (ints c) hi
      simp [part, isAgg, run_underlying he, this, ints]
    have pe : (Op.equalIn (d + 1) e (.int .i64 (a i)) (.int .i64 (b i))).run P w = .ok (a i == b i) w := run_equalIn_int w d e .i64 .i64 _ _ he
    simp only [List.forIn_cons, Sem.run_bind, px, pe, Result.andThen_ok, List.all_cons]
    cases hb : (a i == b i)
    · simp
    · simp only [Bool.not_true, Bool.false_eq_true, if_false, Sem.run_pure, Result.andThen_ok, Bool.true_and]
      exact ih fun j hj => hl j (by simp [hj])
theorem run_eql_ints (t e : TypeId) (n : Nat) (ht : P.underlying t = some (.array n e)) (he : P.underlying e = some (.int .i64)) (hsz : ∀ w, (sizeOf e).run P w = .ok 1 w) (a b : Nat → Int) :
    (binOp .eql t (.agg (rowOf n (ints a))) (.agg (rowOf n (ints b)))).run P w = .ok (.bool (eqI n a b)) w := by
  rw [run_eql_struct, run_equalIn_ints w 9998 t e n ht he hsz a b]
  rfl
end
end Go.Proofs.YtdbankogamolcaaDoor
namespace Go.Proofs.YtdbankogamolcaaDoor
set_option linter.unusedSimpArgs false
set_option linter.unusedVariables false
open Go.ChangeShapes Go.WideShapes Go.ChangeAt Go.RowKit

/-- Of the blocks that were there none but F's has turned. -/
def Only (F : Nat → Prop) (w w' : World) : Prop := Below 0 w w' ∧ ∀ i, i < w.heap.size → ¬ F i → w'.heap[i]? = w.heap[i]?
section
variable {F G : Nat → Prop} {w w' w0 w1 w2 : World} {B : Nat}
theorem Only.refl (F : Nat → Prop) (w : World) : Only F w w := ⟨Below.refl _ _, fun _ _ _ => rfl⟩
theorem Only.size (h : Only F w w') : w.heap.size ≤ w'.heap.size := h.1.size
theorem only_below (h : Below w.heap.size w w') (F : Nat → Prop) : Only F w w' := ⟨h.mono (Nat.zero_le _), fun i hi _ => h.block i hi⟩
theorem Only.mono (h : Only F w w') (hs : ∀ i, i < w.heap.size → F i → G i) : Only G w w' := ⟨h.1, fun i hi hn => h.2 i hi fun hf => hn (hs i hi hf)⟩
theorem Only.trans (h : Only F w w1) (k : Only F w1 w2) : Only F w w2 := ⟨h.1.trans k.1, fun i hi hn => (k.2 i (Nat.lt_of_lt_of_le hi h.size) hn).trans (h.2 i hi hn)⟩
/-- What was there when the call began has stayed, if F's blocks came later. -/
theorem Below.only (h : Below B w0 w) (k : Only F w w') (hB : B ≤ w.heap.size) (hF : ∀ i, F i → B ≤ i) : Below B w0 w' :=
  h.trans ⟨k.1.os, k.1.tape, k.1.output, k.1.size, fun i hi => k.2 i (by omega) fun hf => absurd (hF i hf) (by omega)⟩
theorem Only.block (h : Only F w w') {i : Nat} (hi : i < w.heap.size) (hn : ¬ F i) : w'.heap[i]? = w.heap[i]? := h.2 i hi hn
theorem Row.only {g n : Nat} {t : TypeId} {f : Nat → Value} (hr : Row w g t n f) (h : Only F w w') (hn : ¬ F g) : Row w' g t n f := (h.2 g hr.lt hn).trans hr
theorem only_cell (h : Only F w w') {a : Addr} (ha : a.block < w.heap.size) (hn : ¬ F a.block) : w'.cell? a = w.cell? a := by
  unfold World.cell?
  rw [h.2 _ ha hn]
theorem RowIs.only {A : Option Addr} {n : Nat} {f : Nat → Value} (hr : RowIs w A n f) (h : Only F w w') (hn : ∀ a, A = some a → ¬ F a.block) : RowIs w' A n f := fun h0 => by
  obtain ⟨b, off, rfl, hb, hx⟩ := hr h0
  have hnb : ¬ F b := hn ⟨b, off, none⟩ rfl
  exact ⟨b, off, rfl, Nat.lt_of_lt_of_le hb h.size, fun i hi => (only_cell h (a := ⟨b, off + i, none⟩) hb hnb).trans (hx i hi)⟩
theorem Own.only {g n : Nat} {f : Nat → Value} (hr : Own w g n f) (h : Only F w w') (hn : ¬ F g) : Own w' g n f := by
  have hl := hr.lt
  obtain ⟨cs, t, h1, h2, h3⟩ := hr
  exact ⟨cs, t, (h.2 g hl hn).trans h1, h2, h3⟩
theorem Only.setCell (h : Only F w w') {p : Addr} (hp : F p.block) (u : Value) : Only F w (w'.setCell p u) :=
  ⟨h.1.setCell (Nat.zero_le _) u, fun i hi hn => (Below.heap_setCell w' p u i (by rintro rfl; exact hn hp)).trans (h.2 i hi hn)⟩
theorem Only.then (h : Only F w w1) (k : Below w1.heap.size w1 w2) : Only F w w2 := h.trans (only_below k F)
theorem Only.drew (h : Only F w w1) : Only F w w1.drew := h.then (Below.refl _ _).drew
end

/-- A block of the call's own that holds these n cells, and maybe room behind them: what append makes. -/
def OwnP (w : World) (g n : Nat) (f : Nat → Value) : Prop := ∃ cs t, w.heap[g]? = some (.cells cs t (0, 0)) ∧ n ≤ cs.size ∧ ∀ i, i < n → cs[i]? = some (f i)
section
variable {w w' : World} {g n : Nat} {f : Nat → Value}
theorem OwnP.lt (h : OwnP w g n f) : g < w.heap.size := by
  obtain ⟨cs, t, h, _, _⟩ := h
  rcases Nat.lt_or_ge g w.heap.size with hlt | hge
  · exact hlt
  · rw [Array.getElem?_eq_none hge] at h; cases h
theorem OwnP.cell (h : OwnP w g n f) {i : Nat} (hi : i < n) : w.cell? ⟨g, i, none⟩ = some (f i) := by
  obtain ⟨cs, t, h, _, hc⟩ := h
  rw [cell_of_row w g i cs t (0, 0) h]
  exact hc i hi
theorem OwnP.frozen (h : OwnP w g n f) (i : Nat) : w.frozen? ⟨g, i, none⟩ = false := by
  obtain ⟨cs, t, h, _, hc⟩ := h
  simp [World.frozen?, h]
theorem OwnP.set_ (h : OwnP w g n f) (k : Nat) (u : Value) : OwnP (w.setCell ⟨g, k, none⟩ u) g n (fun i => if i = k then u else f i) := by
  obtain ⟨cs, t, h, hs, hc⟩ := h
  refine ⟨cs.setIfInBounds k u, t, by simp [World.setCell, Array.getElem?_modify, h], by simpa using hs, fun i hi => ?_⟩
  rw [Array.getElem?_setIfInBounds]
  by_cases e : k = i
  · subst e
    rw [if_pos rfl, if_pos (by omega)]
    show some u = some (if k = k then u else f k)
    rw [if_pos rfl]
  · rw [if_neg e, hc i hi]
    show some (f i) = some (if i = k then u else f i)
    rw [if_neg (Ne.symm e)]
theorem OwnP.row (h : OwnP w g n f) : RowIs w (some ⟨g, 0, none⟩) n f := fun _ => ⟨g, 0, rfl, h.lt, fun i hi => by rw [Nat.zero_add]; exact h.cell hi⟩
theorem OwnP.below {B : Nat} (h : OwnP w g n f) (hb : Below B w w') (hg : g < B) : OwnP w' g n f := by
  obtain ⟨cs, t, h, hs, hc⟩ := h
  exact ⟨cs, t, (hb.block g hg).trans h, hs, hc⟩
theorem OwnP.keep (h : OwnP w g n f) (hb : Below w.heap.size w w') : OwnP w' g n f := h.below hb h.lt
theorem OwnP.congr {f' : Nat → Value} (h : OwnP w g n f) (he : ∀ i, i < n → f i = f' i) : OwnP w g n f' := by
  obtain ⟨cs, t, h, hs, hc⟩ := h
  exact ⟨cs, t, h, hs, fun i hi => by rw [hc i hi, he i hi]⟩
theorem OwnP.drew (h : OwnP w g n f) : OwnP w.drew g n f := h
theorem OwnP.far (h : OwnP w g n f) {p : Addr} (hp : g ≠ p.block) (u : Value) : OwnP (w.setCell p u) g n f := by
  obtain ⟨cs, t, h, hs, hc⟩ := h
  exact ⟨cs, t, (Below.heap_setCell w p u g hp).trans h, hs, hc⟩
theorem OwnP.alloc (h : OwnP w g n f) (o : Obj) : OwnP (w.alloc o) g n f := by
  have hl := h.lt
  obtain ⟨cs, t, h, hs, hc⟩ := h
  exact ⟨cs, t, (Below.heap_alloc w o g hl).trans h, hs, hc⟩
theorem OwnP.setRow_far (h : OwnP w g n f) {b : Nat} (hb : b ≠ g) (cs : Array Value) : OwnP (w.setRow b cs) g n f := by
  obtain ⟨cs', t, h, hs, hc⟩ := h
  exact ⟨cs', t, (setRow_other w b g cs (fun e => hb e.symm)).trans h, hs, hc⟩
theorem OwnP.only {F : Nat → Prop} (hr : OwnP w g n f) (h : Only F w w') (hn : ¬ F g) : OwnP w' g n f := by
  have hl := hr.lt
  obtain ⟨cs, t, h1, h2, h3⟩ := hr
  exact ⟨cs, t, (h.2 g hl hn).trans h1, h2, h3⟩
theorem ownP_of {base : Nat} {e : TypeId} {n cap : Nat} {xs : List Value} {f : Nat → Value} (h : w.ownsRow base e 1 (.slice (some ⟨g, 0, none⟩) n cap) n xs) (hx : ∀ i, i < n → xs[i]? = some (f i)) : OwnP w g n f ∧ base ≤ g := by
  rcases h.2 with ⟨h', _⟩ | ⟨g', cap', cur, h', hb, hg, hn, _, hs, htake⟩
  · simp at h'
  · simp only [Value.slice.injEq, Option.some.injEq, Addr.mk.injEq, and_true, true_and] at h'
    obtain ⟨rfl, rfl⟩ := h'
    refine ⟨⟨cur, e, hg, by omega, fun i hi => ?_⟩, hb⟩
    rw [← hx i hi, ← htake, List.getElem?_take, if_pos (by omega)]
    simp
/-- What grew by an append onto a block from B on. -/
theorem below_grown {B : Nat} {w0 : World} {row : Option Nat} (h : Below B w0 w) (hb : w.grownBy w' row) (hr : ∀ k, row = some k → B ≤ k) (hB : B ≤ w.heap.size) : Below B w0 w' :=
  h.trans ⟨hb.os, hb.tape, hb.output, hb.size, fun i hi => hb.block i (by omega) fun e => by have := hr i e.symm; omega⟩
end
end Go.Proofs.YtdbankogamolcaaDoor
namespace Go.Proofs.YtdbankogamolcaaDoor
set_option linter.unusedSimpArgs false
set_option linter.unusedVariables false
open Go.ChangeShapes Go.WideShapes Go.ChangeAt Go.RowKit

/-- These cells lie in memory, from a slice's address on. -/
def LiesC (w : World) (A : Option Addr) (cs : List Value) : Prop :=
  cs = [] ∨ ∃ b off, A = some ⟨b, off, none⟩ ∧ b < w.heap.size ∧ ∀ j v, cs[j]? = some v → w.cell? ⟨b, off + j, none⟩ = some v
section
variable {w w' : World} {A : Option Addr} {cs : List Value}
theorem LiesC.nil_ (w : World) (A : Option Addr) : LiesC w A [] := .inl rfl
theorem LiesC.keep (h : LiesC w A cs) (hb : Below w.heap.size w w') : LiesC w' A cs := by
  rcases h with h | ⟨b, off, rfl, hlt, hc⟩
  · exact .inl h
  · exact .inr ⟨b, off, rfl, Nat.lt_of_lt_of_le hlt hb.size, fun j v hj => by rw [hb.cell (p := ⟨b, off + j, none⟩) hlt]; exact hc j v hj⟩
theorem LiesC.drew (h : LiesC w A cs) : LiesC w.drew A cs := h.keep (Below.refl _ _).drew
theorem LiesC.alloc (h : LiesC w A cs) (o : Obj) : LiesC (w.alloc o) A cs := h.keep ((Below.refl _ _).alloc (Nat.le_refl _) _)
theorem LiesC.some_ (h : LiesC w A cs) (hn : 0 < cs.length) : ∃ b off, A = some ⟨b, off, none⟩ ∧ b < w.heap.size ∧ ∀ j v, cs[j]? = some v → w.cell? ⟨b, off + j, none⟩ = some v := by
  rcases h with rfl | h
  · simp at hn
  · exact h
/-- Other blocks turned. -/
theorem LiesC.only {F : Nat → Prop} (h : LiesC w A cs) (ho : Only F w w') (hn : ∀ a, A = some a → ¬ F a.block) : LiesC w' A cs := by
  rcases h with h | ⟨b, off, rfl, hlt, hc⟩
  · exact .inl h
  · exact .inr ⟨b, off, rfl, Nat.lt_of_lt_of_le hlt ho.size, fun j v hj => (only_cell ho (a := ⟨b, off + j, none⟩) hlt (hn ⟨b, off, none⟩ rfl)).trans (hc j v hj)⟩
theorem LiesC.news {a : Addr} (h : LiesC w (some a) cs) : ∀ j u, cs[j]? = some u → w.cell? (a.add j) = some u := by
  intro j u hj
  rcases h with rfl | ⟨b, off, e, _, hc⟩
  · simp at hj
  · cases e
    rw [add_row]
    exact hc j u hj
theorem LiesC.drop {b off k : Nat} (h : LiesC w (some ⟨b, off, none⟩) cs) : LiesC w (some ⟨b, off + k, none⟩) (cs.drop k) := by
  rcases h with rfl | ⟨b, off, e, hlt, hc⟩
  · left; simp
  · cases e
    refine .inr ⟨b, off + k, rfl, hlt, fun j v hj => ?_⟩
    rw [List.getElem?_drop] at hj
    rw [Nat.add_assoc]
    exact hc _ v hj
end

/-- A slice of n elements whose cells are these. -/
def LnIs (w : World) (v : Value) (n : Nat) (cs : List Value) : Prop :=
  ∃ A c, v = .slice A n c ∧ n ≤ c ∧ c ≤ maxLen ∧ (A = none → c = 0) ∧ LiesC w A cs ∧ ∀ a, A = some a → a.block < w.heap.size
section
variable {w w' : World} {v : Value} {n : Nat} {cs : List Value}
theorem LnIs.keep (h : LnIs w v n cs) (hb : Below w.heap.size w w') : LnIs w' v n cs := by
  obtain ⟨A, c, h1, h2, h3, h4, h5, h6⟩ := h
  exact ⟨A, c, h1, h2, h3, h4, h5.keep hb, fun a e => Nat.lt_of_lt_of_le (h6 a e) hb.size⟩
theorem LnIs.block (h : LnIs w v n cs) : ∀ k, v.ownBlock = some k → k < w.heap.size := by
  obtain ⟨A, c, rfl, h2, h3, h4, h5, h6⟩ := h
  intro k hk
  cases A with
  | none => cases hk
  | some a => cases hk; exact h6 a rfl
theorem lnIs_of_own {base size : Nat} {e : TypeId} (h : w.ownsRow base e size v n cs) : LnIs w v n cs := by
  rcases h.2 with ⟨rfl, rfl⟩ | ⟨g, cap, cur, rfl, hb, hg, hle, hm, hs, ht⟩
  · have h0 : cs = [] := by have := h.1; rw [Nat.zero_mul] at this; exact List.eq_nil_of_length_eq_zero this
    exact ⟨none, 0, rfl, by omega, by unfold maxLen; omega, (fun _ => rfl), .inl h0, (fun a e => by cases e)⟩
  · refine ⟨some ⟨g, 0, none⟩, cap, rfl, hle, hm, (fun e => nomatch e), .inr ⟨g, 0, rfl, ?_, fun j u hj => ?_⟩, (fun a e => by cases e; exact (Array.getElem?_eq_some_iff.1 hg).1)⟩
    · exact (Array.getElem?_eq_some_iff.1 hg).1
    · rw [Nat.zero_add, cell_of_row w g j cur e (0, 0) hg]
      rw [← ht, List.getElem?_take] at hj
      split at hj
      · simpa using hj
      · cases hj
end
/-- A slice's block is B or a later one. -/
def Far (B : Nat) (v : Value) : Prop := ∀ k, v.ownBlock = some k → B ≤ k
theorem Far.mono {B B' : Nat} {v : Value} (h : Far B v) (hb : B' ≤ B) : Far B' v := fun k hk => Nat.le_trans hb (h k hk)
theorem far_of_own {w : World} {base size n : Nat} {e : TypeId} {v : Value} {cs : List Value} (h : w.ownsRow base e size v n cs) : Far base v := fun k hk => (h.lt k hk).1
theorem LnIs.only {F : Nat → Prop} {w w' : World} {v : Value} {n : Nat} {cs : List Value} (h : LnIs w v n cs) (ho : Only F w w') (hn : ∀ k, v.ownBlock = some k → ¬ F k) : LnIs w' v n cs := by
  obtain ⟨A, c, rfl, h2, h3, h4, h5, h6⟩ := h
  exact ⟨A, c, rfl, h2, h3, h4, h5.only ho (fun a e => hn _ (by rw [e]; rfl)), fun a e => Nat.lt_of_lt_of_le (h6 a e) ho.size⟩
/-- A block that holds just these cells. -/
def Cells (w : World) (B : Nat) (t : TypeId) (cs : List Value) : Prop := w.heap[B]? = some (.cells cs.toArray t (0, 0))
section
variable {w w' : World} {B : Nat} {t : TypeId} {cs : List Value}
theorem Cells.lt (h : Cells w B t cs) : B < w.heap.size := (Array.getElem?_eq_some_iff.1 h).1
theorem Cells.new (w : World) (cs : Array Value) (t : TypeId) : Cells (w.alloc (.cells cs t)) w.heap.size t cs.toList := heap_alloc_new w _
theorem Cells.cell (h : Cells w B t cs) (i : Nat) : w.cell? ⟨B, i, none⟩ = cs[i]? := by
  rw [cell_of_row w B i _ t (0, 0) h]; simp
theorem Cells.cell0 {u : Value} {r : List Value} (h : Cells w B t (u :: r)) : w.cell? ⟨B, 0, none⟩ = some u := h.cell 0
theorem Cells.cell1 {u v : Value} {r : List Value} (h : Cells w B t (u :: v :: r)) : w.cell? ⟨B, 1, none⟩ = some v := h.cell 1
theorem Cells.frozen (h : Cells w B t cs) (i : Nat) : w.frozen? ⟨B, i, none⟩ = false := by simp [World.frozen?, show w.heap[B]? = _ from h]
theorem Cells.keep (h : Cells w B t cs) (hb : Below w.heap.size w w') : Cells w' B t cs := (hb.block B h.lt).trans h
theorem Cells.only {F : Nat → Prop} (h : Cells w B t cs) (ho : Only F w w') (hn : ¬ F B) : Cells w' B t cs := (ho.2 B h.lt hn).trans h
theorem Cells.alloc (h : Cells w B t cs) (o : Obj) : Cells (w.alloc o) B t cs := (Below.heap_alloc w o B h.lt).trans h
theorem Cells.drew (h : Cells w B t cs) : Cells w.drew B t cs := h
theorem Cells.set_ (h : Cells w B t cs) (i : Nat) (u : Value) : Cells (w.setCell ⟨B, i, none⟩ u) B t (cs.set i u) := by
  unfold Cells at h ⊢
  simp [World.setCell, Array.getElem?_modify, h]
theorem Cells.far (h : Cells w B t cs) {p : Addr} (hp : B ≠ p.block) (u : Value) : Cells (w.setCell p u) B t cs := (Below.heap_setCell w p u B hp).trans h
theorem Cells.news (h : Cells w B t cs) : ∀ j u, cs[j]? = some u → w.cell? ((⟨B, 0, none⟩ : Addr).add j) = some u := fun j u hj => by
  rw [add_row, Nat.zero_add, h.cell]; exact hj
end
theorem below_new {w w' : World} {o : Obj} {row : Option Nat} (hg : (w.alloc o).grownBy w' row) (hr : row = some w.heap.size) : Below w.heap.size w w' :=
  below_grown ((Below.refl _ w).alloc (Nat.le_refl _) o) hg (by intro k hk; rw [hr] at hk; cases hk; exact Nat.le_refl _) (by simp)
theorem below_grown0 {B : Nat} {w0 w w' : World} (h : Below B w0 w) (hb : w.grownBy w' none) (hB : B ≤ w.heap.size) : Below B w0 w' := below_grown h hb (fun k hk => by cases hk) hB

/-- append onto a row of the call's own, as one step of a region that draws. -/
theorem step_append_own {P : Program} {ops : Array Oper} {o : Oper} {a : Act} {w : World} {K : Act → World → Prop} {Q : Exit → Act → World → Prop} {E : Prop} (hgd : o.guard = none) (s x : Operand) (t : TypeId)
    (ho : o.op = .call { callee := .builtin .append, args := #[s, x], argTypes := #[t, t] })
    (base : Nat) (e : TypeId) (i : TypeInfo) (z : Value) (size bytes : Nat) (ht : P.underlying t = some (.slice e)) (hi : P.info? e = some i) (hz : i.zero = some z)
    (hsize : i.size = size) (hby : i.bytes = bytes) (hzs : z.cells.size = size) (hsz : 0 < size)
    (v : Value) (n : Nat) (xs : List Value) (hs : a.eval s = v) (hown : w.ownsRow base e size v n xs)
    (ad : Addr) (m c : Nat) (news : List Value) (hx : a.eval x = .slice (some ad) m c) (hl : news.length = m * size) (hnews : ∀ j u, news[j]? = some u → w.cell? (ad.add j) = some u) (h1 : ∀ u ∈ news, u.oneCell' = true)
    (h63 : n + m ≤ maxLen) (hbytes : (n + m) * bytes ≤ 140737488355328) (hbase : base ≤ w.heap.size)
    (h : ∀ v' w', w'.ownsRow base e size v' (n + m) (xs ++ news) → w.grownBy w' v.ownBlock → K (a.put o.dst v') w') :
    if Region.wanted o (yielded ops a.tmps) = true then Oper.wp P o a w K Q else E := by
  have hw : Region.wanted o (yielded ops a.tmps) = true := by simp [Region.wanted, hgd]
  rw [if_pos hw]
  exact wp_append_own w s x t ho base e i z size bytes ht hi hz hsize hby hzs hsz v n xs hs hown ad m c news hx hl hnews h1 h63 hbytes hbase fun v' w' h2 h3 _ => h v' w' h2 h3

/-! ### Pairs -/
structure Pr where
  a : Nat
  b : Nat
deriving DecidableEq, Inhabited
def flatP : List Pr → List Value
  | [] => []
  | x :: l => .int .u64 (x.a : Nat) :: .int .u64 (x.b : Nat) :: flatP l
def nthP (L : List Pr) (i : Nat) : Pr := L.getD i ⟨0, 0⟩
def prV (x : Pr) : Value := .agg #[.int .u64 (x.a : Nat), .int .u64 (x.b : Nat)]
theorem flatP_length : ∀ L : List Pr, (flatP L).length = L.length * 2
  | [] => rfl
  | x :: l => by simp only [flatP, List.length_cons, flatP_length l]; omega
theorem flatP_append : ∀ L M : List Pr, flatP (L ++ M) = flatP L ++ flatP M
  | [], _ => rfl
  | x :: l, M => by simp only [List.cons_append, flatP, flatP_append l M]
theorem flatP_one : ∀ L : List Pr, ∀ u ∈ flatP L, u.oneCell' = true
  | [], _, h => by simp [flatP] at h
  | x :: l, u, h => by
    simp only [flatP, List.mem_cons] at h
    rcases h with rfl | rfl | h
    · rfl
    · rfl
    · exact flatP_one l u h
theorem flatP_drop : ∀ (L : List Pr) (i : Nat), flatP (L.drop i) = (flatP L).drop (i * 2)
  | [], i => by simp [flatP]
  | x :: l, 0 => by simp [flatP]
  | x :: l, i + 1 => by rw [show (i + 1) * 2 = i * 2 + 1 + 1 by omega]; simp only [List.drop_succ_cons, flatP, flatP_drop l i]
theorem flatP_get : ∀ (L : List Pr) (i : Nat), i < L.length → (flatP L)[i * 2]? = some (.int .u64 ((nthP L i).a : Nat)) ∧ (flatP L)[i * 2 + 1]? = some (.int .u64 ((nthP L i).b : Nat))
  | x :: l, 0, _ => ⟨rfl, rfl⟩
  | x :: l, i + 1, h => by
    have ih := flatP_get l i (by simpa using h)
    rw [show nthP (x :: l) (i + 1) = nthP l i from rfl, show (i + 1) * 2 = i * 2 + 1 + 1 by omega]
    exact ih
theorem nthP_ext {L M : List Pr} (hl : L.length = M.length) (h : ∀ i, i < L.length → nthP L i = nthP M i) : L = M := by
  apply List.ext_getElem? ; intro i
  by_cases hi : i < L.length
  · have := h i hi
    simp only [nthP, List.getD, List.getElem?_eq_getElem hi, List.getElem?_eq_getElem (show i < M.length by omega), Option.getD_some] at this
    rw [List.getElem?_eq_getElem hi, List.getElem?_eq_getElem (show i < M.length by omega), this]
  · rw [List.getElem?_eq_none (by omega), List.getElem?_eq_none (by omega)]
theorem LiesC.atP {w : World} {A : Option Addr} {L : List Pr} (h : LiesC w A (flatP L)) (hn : 0 < L.length) : ∃ b off, A = some ⟨b, off, none⟩ ∧ b < w.heap.size ∧ ∀ i, i < L.length → w.cell? ⟨b, off + i * 2, none⟩ = some (.int .u64 ((nthP L i).a : Nat)) ∧ w.cell? ⟨b, off + i * 2 + 1, none⟩ = some (.int .u64 ((nthP L i).b : Nat)) := by
  obtain ⟨b, off, rfl, hlt, hc⟩ := h.some_ (by rw [flatP_length]; omega)
  refine ⟨b, off, rfl, hlt, fun i hi => ?_⟩
  obtain ⟨h0, h1⟩ := flatP_get L i hi
  exact ⟨hc _ _ h0, by rw [Nat.add_assoc]; exact hc _ _ h1⟩
section
variable (w : World)
theorem eqFields_pr (p q r s : Int) : (Op.equalIn 10000 59 (.agg #[.int .u64 p, .int .u64 q]) (.agg #[.int .u64 r, .int .u64 s])).run Tryd.prog w = .ok (p == r && q == s) w := by
  have hU : ∀ d (y z : Int), (Op.equalIn (d + 1) 57 (.int .u64 y) (.int .u64 z)).run Tryd.prog w = .ok (y == z) w := fun d y z => run_equalIn_int w d _ .u64 .u64 y z Tryd.underlying57
  have hhp : Tryd.prog.underlying 59 = some (.struct (Tryd.prog.fieldsOf 59)) := by simp only [Program.fieldsOf, Tryd.underlying59]
  have p0 : ∀ (p q : Int), (part 57 #[.int .u64 p, .int .u64 q] 0).run Tryd.prog w = .ok (.int .u64 p) w := fun p q => by simp [part, isAgg, run_underlying Tryd.underlying57]
  have p1 : ∀ (p q : Int), (part 57 #[.int .u64 p, .int .u64 q] 1).run Tryd.prog w = .ok (.int .u64 q) w := fun p q => by simp [part, isAgg, run_underlying Tryd.underlying57]
  rw [run_equalIn_agg w 9999 _ _ _ hhp (by kernel_rfl)]
  simp only [Program.fieldsOf, Tryd.underlying59, Op.eqFields, Sem.run_ite, Sem.run_bind, p0, p1, Result.andThen_ok, hU]
  cases (p == r) <;> cases (q == s) <;> simp
theorem eqB_pr (x y : Pr) : (((x.a : Int) == (y.a : Int)) && ((x.b : Int) == (y.b : Int))) = decide (x = y) := by
  rcases x with ⟨a, b⟩
  rcases y with ⟨a', b'⟩
  simp only [Pr.mk.injEq, Bool.decide_and]
  congr 1
  · show decide ((a : Int) = (a' : Int)) = decide (a = a')
    exact decide_eq_decide.2 (by omega)
  · show decide ((b : Int) = (b' : Int)) = decide (b = b')
    exact decide_eq_decide.2 (by omega)
theorem neq_pr (x y : Pr) : (binOp .neq 59 (.agg #[.int .u64 (x.a : Nat), .int .u64 (x.b : Nat)]) (.agg #[.int .u64 (y.a : Nat), .int .u64 (y.b : Nat)])).run Tryd.prog w = .ok (.bool (!decide (x = y))) w := by
  rw [run_neq_struct, eqFields_pr, eqB_pr]; rfl
theorem infoP : ∃ i0, Tryd.prog.info? 59 = some i0 ∧ i0.zero = some (.agg #[.int .u64 0, .int .u64 0]) ∧ i0.size = 2 ∧ i0.bytes = 16 := by
  have h : (Tryd.prog.info? 59).map (fun i => (i.zero, i.size, i.bytes)) = some (some (.agg #[.int .u64 0, .int .u64 0]), 2, 16) := by kernel_rfl
  exact info_parts h
end
/-! ### Numbers -/
def flatI (L : List Int) : List Value := L.map fun x => .int .i64 x
theorem flatI_length (L : List Int) : (flatI L).length = L.length * 1 := by simp [flatI]
theorem flatI_one : ∀ L : List Int, ∀ u ∈ flatI L, u.oneCell' = true := fun L u hu => by
  obtain ⟨x, _, rfl⟩ := List.mem_map.1 hu
  rfl
theorem flatI_append (L M : List Int) : flatI (L ++ M) = flatI L ++ flatI M := by simp [flatI]
theorem flatI_drop (L : List Int) (i : Nat) : flatI (L.drop i) = (flatI L).drop (i * 1) := by simp [flatI]
theorem flatI_get (L : List Int) (i : Nat) (h : i < L.length) : (flatI L)[i]? = some (.int .i64 (L.getD i 0)) := by simp [flatI, List.getD, h]
theorem LiesC.atI {w : World} {A : Option Addr} {L : List Int} (h : LiesC w A (flatI L)) (hn : 0 < L.length) : ∃ b off, A = some ⟨b, off, none⟩ ∧ b < w.heap.size ∧ ∀ i, i < L.length → w.cell? ⟨b, off + i, none⟩ = some (.int .i64 (L.getD i 0)) := by
  obtain ⟨b, off, rfl, hlt, hc⟩ := h.some_ (by rw [flatI_length]; omega)
  exact ⟨b, off, rfl, hlt, fun i hi => hc _ _ (flatI_get L i hi)⟩
theorem infoI : ∃ i0, Tryd.prog.info? 3 = some i0 ∧ i0.zero = some (.int .i64 0) ∧ i0.size = 1 ∧ i0.bytes = 8 := by
  have h : (Tryd.prog.info? 3).map (fun i => (i.zero, i.size, i.bytes)) = some (some (.int .i64 0), 1, 8) := by kernel_rfl
  exact info_parts h
end Go.Proofs.YtdbankogamolcaaDoor
namespace Go.Proofs.YtdbankogamolcaaDoor
set_option linter.unusedSimpArgs false
set_option linter.unusedVariables false
open Go.ChangeShapes Go.WideShapes Go.ChangeAt Go.RowKit

section
variable {α : Type}
/-- A list's cells. -/
def flatF (f : α → List Value) : List α → List Value
  | [] => []
  | x :: L => f x ++ flatF f L
variable {f : α → List Value} {k : Nat}
theorem flatF_length (hk : ∀ x, (f x).length = k) : ∀ L : List α, (flatF f L).length = L.length * k
  | [] => by simp [flatF]
  | x :: L => by rw [flatF, List.length_append, hk, flatF_length hk L, List.length_cons, Nat.add_mul, Nat.one_mul, Nat.add_comm]
theorem flatF_append : ∀ L M : List α, flatF f (L ++ M) = flatF f L ++ flatF f M
  | [], _ => rfl
  | x :: L, M => by rw [List.cons_append, flatF, flatF, flatF_append L M, List.append_assoc]
theorem flatF_single (x : α) : flatF f [x] = f x := by simp [flatF]
theorem flatF_one (h : ∀ x, ∀ u ∈ f x, u.oneCell' = true) : ∀ L : List α, ∀ u ∈ flatF f L, u.oneCell' = true
  | [], _, hu => by simp [flatF] at hu
  | x :: L, u, hu => by
    rw [flatF, List.mem_append] at hu
    exact hu.elim (h x u) (flatF_one h L u)
theorem flatF_get [Inhabited α] (hk : ∀ x, (f x).length = k) : ∀ (L : List α) (i j : Nat), i < L.length → j < k → (flatF f L)[i * k + j]? = (f (L.getD i default))[j]?
  | x :: L, 0, j, _, hj => by
    rw [Nat.zero_mul, Nat.zero_add, flatF, List.getElem?_append_left (by rw [hk]; exact hj)]
    rfl
  | x :: L, i + 1, j, hi, hj => by
    rw [flatF, List.getElem?_append_right (by rw [hk, Nat.add_mul]; omega), hk, show (i + 1) * k + j - k = i * k + j by rw [Nat.add_mul]; omega, flatF_get hk L i j (by simpa using hi) hj]
    rfl
theorem flatF_drop (hk : ∀ x, (f x).length = k) : ∀ (L : List α) (i : Nat), flatF f (L.drop i) = (flatF f L).drop (i * k)
  | [], i => by simp [flatF]
  | x :: L, 0 => by simp
  | x :: L, i + 1 => by
    rw [List.drop_succ_cons, flatF_drop hk L i, flatF, List.drop_append, hk, show (i + 1) * k - k = i * k by rw [Nat.add_mul]; omega, List.drop_of_length_le (l := f x) (by rw [hk, Nat.add_mul]; omega), List.nil_append]
/-- An element's cells, where its list lies. -/
theorem LiesC.atF [Inhabited α] {w : World} {A : Option Addr} {L : List α} (h : LiesC w A (flatF f L)) (hk : ∀ x, (f x).length = k) (hk0 : 0 < k) (hn : 0 < L.length) :
    ∃ b off, A = some ⟨b, off, none⟩ ∧ b < w.heap.size ∧ ∀ i, i < L.length → ∀ j, j < k → w.cell? ⟨b, off + (i * k + j), none⟩ = (f (L.getD i default))[j]? := by
  obtain ⟨b, off, rfl, hlt, hc⟩ := h.some_ (by rw [flatF_length hk]; exact Nat.mul_pos hn hk0)
  refine ⟨b, off, rfl, hlt, fun i hi j hj => ?_⟩
  have hg := flatF_get hk L i j hi hj
  have hl : (f (L.getD i default))[j]? = some ((f (L.getD i default))[j]'(by rw [hk]; exact hj)) := List.getElem?_eq_getElem _
  rw [hl] at hg ⊢
  exact hc _ _ hg
theorem getD_ext [Inhabited α] {L M : List α} (hl : L.length = M.length) (h : ∀ i, i < L.length → L.getD i default = M.getD i default) : L = M := by
  apply List.ext_getElem? ; intro i
  by_cases hi : i < L.length
  · have := h i hi
    simp only [List.getD, List.getElem?_eq_getElem hi, List.getElem?_eq_getElem (show i < M.length by omega), Option.getD_some] at this
    rw [List.getElem?_eq_getElem hi, List.getElem?_eq_getElem (show i < M.length by omega), this]
  · rw [List.getElem?_eq_none (by omega), List.getElem?_eq_none (by omega)]
theorem eqF_len [DecidableEq α] {L M : List α} (h : L.length ≠ M.length) : decide (L = M) = false := decide_eq_false fun e => h (by rw [e])
theorem eqF_ne [Inhabited α] [DecidableEq α] {L M : List α} {k : Nat} (h : decide (L.getD k default = M.getD k default) = false) : decide (L = M) = false := decide_eq_false fun e => by rw [e] at h; simp at h
theorem eqF_eq [Inhabited α] [DecidableEq α] {L M : List α} (hl : L.length = M.length) (h : ∀ i, i < L.length → L.getD i default = M.getD i default) : decide (L = M) = true := decide_eq_true (getD_ext hl h)
end
/-- Two blocks made one behind the other. -/
theorem two_cells (w : World) (cs1 : Array Value) (t1 : TypeId) (cs2 : Array Value) (t2 : TypeId) : ∀ W, (w.alloc (.cells cs1 t1)).alloc (.cells cs2 t2) = W →
    Below w.heap.size w W ∧ Cells W w.heap.size t1 cs1.toList ∧ Cells W (w.heap.size + 1) t2 cs2.toList := by
  rintro W rfl
  refine ⟨((Below.refl _ w).alloc (Nat.le_refl _) _).alloc (by simp) _, (Cells.new w cs1 t1).alloc _, ?_⟩
  have := Cells.new (w.alloc (.cells cs1 t1)) cs2 t2
  rw [World.size_alloc] at this
  exact this
theorem one_cells (w : World) (cs1 : Array Value) (t1 : TypeId) : ∀ W, w.alloc (.cells cs1 t1) = W → Below w.heap.size w W ∧ Cells W w.heap.size t1 cs1.toList := by
  rintro W rfl
  exact ⟨(Below.refl _ w).alloc (Nat.le_refl _) _, Cells.new w cs1 t1⟩
end Go.Proofs.YtdbankogamolcaaDoor
