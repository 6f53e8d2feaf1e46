/- What a law's row asks behind the call, out of two facts: it returned true, and nothing that was there has turned. And rows of cells that a slice leads to. -/
import Derived.Test.YtodomchanaaonaaRows
import Derived.WalkKit
import Derived.ProofKit
import Derived.OpenShut
import Derived.Carry
import Derived.Lib.Hide
import Derived.Deep.QuietTactic
import Derived.BigQuiet
import Derived.Laws.OwnMore
import Derived.Laws.Rows
import Derived.Deep.OwnRows
namespace Go.Proofs.Ytodomchanaaonaa
open Go.ChangeShapes Go.WideShapes Go.ChangeAt Go.RowKit

theorem laidOut : laidOutB Try.prog = true := by kernel_rfl
theorem own : ownKnob Try.prog.godebug = none := by kernel_rfl

section
variable {H : Type} {enc : TypeId × Value → H} {P : Program}

theorem args_read {W W' : World} (hl : laidOutB P = true) (hb : Below W.heap.size W W') : ∀ {ts : List TypeId} {vs : List Value} {ds : List (DataW H)} {ps : List MemPlace},
    ts.all (fun t => P.readableRec t && decide (t < P.types.size)) = true → (∀ x ∈ ps, x.block < W.heap.size) →
    DataW.TrodAll enc P W 0 (fun _ => true) true ts vs ds ps → DataW.TrodAll enc P W' 0 (fun b => decide (b < W.heap.size)) true ts vs ds ps
  | [], [], [], _, _, _, h => h
  | t :: ts, _ :: _, _ :: _, _, hts, hlt, ⟨p, q, h1, h2, e⟩ => by
    simp only [List.all_cons, Bool.and_eq_true, decide_eq_true_eq] at hts
    refine ⟨p, q, ?_, args_read hl hb (by simpa using hts.2) (fun x hx => hlt x (by rw [e]; exact List.mem_append_right _ hx)) h2, e⟩
    exact Below.trod hl hts.1.1 hts.1.2 h1 hb (fun x hx => hlt x (by rw [e]; exact List.mem_append_left _ hx))

/-- The row's post: true was answered, and of what was there nothing has turned. -/
theorem post_law {f : Func} {s : ChangeSpec} {tb : TypeId} {W W' : World} {args : Array Value} {ds gs : List (DataW H)} {before : List MemPlace}
    (hl : laidOutB P = true) (hts : f.params.toList.all (fun t => P.readableRec t && decide (t < P.types.size)) = true) (hrt : f.resultTypes = #[tb]) (hu : P.underlying tb = some .bool)
    (hv : s.vars = []) (hs : (s.fn H (ds ++ gs)).results = [.lit (.bool true)] ∧ (s.fn H (ds ++ gs)).args = ds ∧ (s.fn H (ds ++ gs)).vars = [])
    (hW : DataW.Whole enc P f.params.toList s.vars false W args.toList ds gs before) (hb : Below W.heap.size W W') :
    s.post enc P f false true false false W args (.bool true) W' := by
  have hW' := hW
  obtain ⟨p, q, hA, hV, rfl, hz, hn⟩ := hW
  rw [hv] at hV
  obtain ⟨rfl, rfl⟩ := trodVars_none hV
  have hlt : ∀ x ∈ p, x.block < W.heap.size := fun x hx => by simpa using hW'.lt x (by simpa using hx)
  have hok := ok_one (P := P) (W' := W') (f := f) (v := .bool true) hrt rfl (okWide_bool_mk hu _)
  have hres : ∀ (b : Nat) (sp : Nat → Bool) (hd : Bool), DataW.TrodAll enc P W' b sp hd f.resultTypes.toList ((Value.bool true).resultList f.resultTypes.size) (s.fn H (ds ++ [])).results [] := by
    intro b sp hd
    rw [hrt, hs.1]
    exact trodAll_cons_mk (shut_bool hu _) trodAll_mk0
  refine ⟨ds, [], p ++ [], [], p, [], hW', hres _ _ _, ?_, ?_, ?_, fun h => by cases h⟩
  · rw [hs.2.1]
    exact args_read hl hb hts hlt hA
  · rw [hv, hs.2.2]
    rfl
  · exact hb.frame _

end

/-- A slice's cells: of the first n of them the i-th one holds f i. -/
def RowIs (W : World) (A : Option Addr) (n : Nat) (f : Nat → Value) : Prop :=
  0 < n → ∃ b off, A = some ⟨b, off, none⟩ ∧ b < W.heap.size ∧ ∀ i, i < n → W.cell? ⟨b, off + i, none⟩ = some (f i)

theorem RowIs.none_ (W : World) (A : Option Addr) (f : Nat → Value) : RowIs W A 0 f := fun h => absurd h (by omega)
theorem RowIs.keep {W W' : World} {A : Option Addr} {n : Nat} {f : Nat → Value} (h : RowIs W A n f) (hc : ∀ p : Addr, p.block < W.heap.size → W'.cell? p = W.cell? p) (hs : W.heap.size ≤ W'.heap.size) : RowIs W' A n f := fun hn => by
  obtain ⟨b, off, rfl, hb, hx⟩ := h hn
  exact ⟨b, off, rfl, by omega, fun i hi => (hc ⟨b, off + i, none⟩ hb).trans (hx i hi)⟩
theorem RowIs.below {W W' : World} {A : Option Addr} {n : Nat} {f : Nat → Value} (h : RowIs W A n f) (hb : Below W.heap.size W W') : RowIs W' A n f := h.keep (fun _ hp => hb.cell hp) hb.size
theorem RowIs.drewN {W : World} {A : Option Addr} {n : Nat} {f : Nat → Value} (h : RowIs W A n f) (k : Nat) : RowIs (W.drewN k) A n f := h
theorem RowIs.drew {W : World} {A : Option Addr} {n : Nat} {f : Nat → Value} (h : RowIs W A n f) : RowIs W.drew A n f := h

theorem below_drewN {B : Nat} {a w : World} (h : Below B a w) (n : Nat) : Below B a (w.drewN n) := ⟨h.os, h.tape, h.output, h.size, h.block⟩

/-- Nothing but draws was made. -/
def Drew (w w' : World) : Prop := ∃ m, w' = w.drewN m
theorem Drew.refl (w : World) : Drew w w := ⟨0, rfl⟩
theorem Drew.more {w w' : World} (h : Drew w w') (n : Nat) : Drew w (w'.drewN n) := by
  obtain ⟨m, rfl⟩ := h
  exact ⟨m + n, by rw [World.drewN_drewN]⟩
theorem Drew.trans {a b c : World} (h : Drew a b) (k : Drew b c) : Drew a c := by
  obtain ⟨m, rfl⟩ := k
  exact h.more m
theorem Drew.row {w w' : World} (h : Drew w w') {A : Option Addr} {n : Nat} {f : Nat → Value} (r : RowIs w A n f) : RowIs w' A n f := by
  obtain ⟨m, rfl⟩ := h
  exact r.drewN m
theorem Drew.cell {w w' : World} (h : Drew w w') (a : Addr) : w'.cell? a = w.cell? a := by
  obtain ⟨m, rfl⟩ := h
  rfl
theorem Drew.below {w w' : World} (h : Drew w w') (B : Nat) : Below B w w' := by
  obtain ⟨m, rfl⟩ := h
  exact below_drewN (Below.refl B w) m
theorem quiet_eq {P : Program} {f : FuncId} {args : Array Value} {w : World} {v : Value} (h : Calls P f args w fun e w' => e = .returned v ∧ w = w') : Calls P f args w fun e w' => e = .returned v ∧ w' = w :=
  h.mono fun _ _ ⟨a, b⟩ => ⟨a, b.symm⟩
theorem quiet_drew {P : Program} {f : FuncId} {args : Array Value} {w : World} {v : Value} (h : Calls P f args w fun e w' => e = .returned v ∧ Drew w w') : Calls P f args w fun e w' => e = .returned v ∧ ∃ n, w' = w.drewN n := h

/-- A block that the call has made, whole: n cells, the i-th one holding f i. -/
def Own (w : World) (g n : Nat) (f : Nat → Value) : Prop := ∃ cs t, w.heap[g]? = some (.cells cs t (0, 0)) ∧ cs.size = n ∧ ∀ i, i < n → cs[i]? = some (f i)

section
variable {w w' : World} {g n : Nat} {f : Nat → Value}
theorem Own.lt (h : Own w g n f) : g < w.heap.size := by
  obtain ⟨cs, t, h, _, _⟩ := h
  rcases Nat.lt_or_ge g w.heap.size with hlt | hge
  · exact hlt
  · rw [Array.getElem?_eq_none hge] at h; cases h
theorem Own.cell (h : Own w g n f) {i : Nat} (hi : i < n) : w.cell? ⟨g, i, none⟩ = some (f i) := by
  obtain ⟨cs, t, h, _, hc⟩ := h
  rw [cell_of_row w g i cs t (0, 0) h]
  exact hc i hi
theorem Own.frozen (h : Own w g n f) (i : Nat) : w.frozen? ⟨g, i, none⟩ = false := by
  obtain ⟨cs, t, h, _, hc⟩ := h
  simp [World.frozen?, h]
theorem Own.set_ (h : Own w g n f) (k : Nat) (u : Value) : Own (w.setCell ⟨g, k, none⟩ u) g n (fun i => if i = k then u else f i) := by
  obtain ⟨cs, t, h, hs, hc⟩ := h
  refine ⟨cs.setIfInBounds k u, t, by simp [World.setCell, Array.getElem?_modify, h], by simpa using hs, fun i hi => ?_⟩
  rw [Array.getElem?_setIfInBounds]
  by_cases e : k = i
  · subst e; simp [hs, hi]
  · rw [if_neg e, hc i hi]
    show some (f i) = some (if i = k then u else f i)
    rw [if_neg (Ne.symm e)]
theorem Own.row (h : Own w g n f) : RowIs w (some ⟨g, 0, none⟩) n f := fun _ => ⟨g, 0, rfl, h.lt, fun i hi => by rw [Nat.zero_add]; exact h.cell hi⟩
theorem Own.below {B : Nat} (h : Own w g n f) (hb : Below B w w') (hg : g < B) : Own w' g n f := by
  obtain ⟨cs, t, h, hs, hc⟩ := h
  exact ⟨cs, t, (hb.block g hg).trans h, hs, hc⟩
theorem Own.congr {f' : Nat → Value} (h : Own w g n f) (he : ∀ i, i < n → f i = f' i) : Own w g n f' := by
  obtain ⟨cs, t, h, hs, hc⟩ := h
  exact ⟨cs, t, h, hs, fun i hi => by rw [hc i hi, he i hi]⟩
theorem Own.drewN (h : Own w g n f) (k : Nat) : Own (w.drewN k) g n f := h
theorem Own.far (h : Own w g n f) {p : Addr} (hp : g ≠ p.block) (u : Value) : Own (w.setCell p u) g n f := by
  obtain ⟨cs, t, h, hs, hc⟩ := h
  exact ⟨cs, t, (Below.heap_setCell w p u g hp).trans h, hs, hc⟩
theorem Own.alloc (h : Own w g n f) (o : Obj) : Own (w.alloc o) g n f := by
  have hl := h.lt
  obtain ⟨cs, t, h, hs, hc⟩ := h
  exact ⟨cs, t, (Below.heap_alloc w o g hl).trans h, hs, hc⟩
theorem Own.new (w : World) (cs : Array Value) (t : TypeId) (f : Nat → Value) (n : Nat) (hs : cs.size = n) (hc : ∀ i, i < n → cs[i]? = some (f i)) : Own (w.alloc (.cells cs t)) w.heap.size n f :=
  ⟨cs, t, heap_alloc_new w _, hs, hc⟩
end

/-- Three cells of a block. -/
def Three (w : World) (g : Nat) (a b c : Value) : Prop := w.cell? ⟨g, 0, none⟩ = some a ∧ w.cell? ⟨g, 1, none⟩ = some b ∧ w.cell? ⟨g, 2, none⟩ = some c
theorem Three.new (w : World) (a b c : Value) (t : TypeId) : Three (w.alloc (.cells #[a, b, c] t)) w.heap.size a b c := by
  have h := Own.new w #[a, b, c] t (fun i => if i = 0 then a else if i = 1 then b else c) 3 rfl (fun i hi => by
    match i, hi with
    | 0, _ => rfl
    | 1, _ => rfl
    | 2, _ => rfl)
  exact ⟨h.cell (i := 0) (by omega), h.cell (i := 1) (by omega), h.cell (i := 2) (by omega)⟩
theorem Three.below {w w' : World} {g B : Nat} {a b c : Value} (h : Three w g a b c) (hb : Below B w w') (hg : g < B) : Three w' g a b c :=
  ⟨by rw [hb.cell hg]; exact h.1, by rw [hb.cell hg]; exact h.2.1, by rw [hb.cell hg]; exact h.2.2⟩
theorem Three.alloc {w : World} {g : Nat} {a b c : Value} (h : Three w g a b c) (hg : g < w.heap.size) (o : Obj) : Three (w.alloc o) g a b c :=
  h.below (B := w.heap.size) ((Below.refl _ _).alloc (Nat.le_refl _) o) hg

/-- A cell that was there holds what it held. -/
theorem cell_keep {w1 w2 : World} (hb : Below w1.heap.size w1 w2) {b o : Nat} {v : Value} (h : w1.cell? ⟨b, o, none⟩ = some v) : w2.cell? ⟨b, o, none⟩ = some v := by
  rw [hb.cell (World.block_lt_of_cell? w1 _ h)]; exact h
theorem below_on {B : Nat} {w w1 w2 : World} (h : Below B w w1) (hB : B ≤ w.heap.size) (hb : Below w1.heap.size w1 w2) : Below B w w2 := h.trans (hb.mono (Nat.le_trans hB h.size))
theorem retB {a b : Bool} (h : a = b) : Ending.returned (.bool a) = Ending.returned (.bool b) := by rw [h]
theorem retI {k : IntKind} {a b : Int} (h : a = b) : Ending.returned (.int k a) = Ending.returned (.int k b) := by rw [h]

/-! ### What arguments are, out of their being read as data. -/
section
variable {H : Type} {enc : TypeId × Value → H} {P : Program} {w : World} {base : Nat}

theorem add_row (b off i : Nat) : (⟨b, off, none⟩ : Addr).add i = ⟨b, off + i, none⟩ := add_plain ..

/-- A slice of integers. -/
theorem open_ints_row {t e : TypeId} {k : IntKind} {r : Reach} {b0 : Nat} {v : Value} {d : DataW H} {ps : List MemPlace} (ht : P.underlying t = some (.slice e)) (he : P.underlying e = some (.int k)) (hc : P.cellsOf e = 1)
    (hval : Value.okWide P w r b0 t v) (h : DataW.Trod enc P w base (fun _ => true) true t v d ps) :
    ∃ (A : Option Addr) (n c : Nat) (l : List Int), v = .slice A n c ∧ l.length = n ∧ n ≤ 9223372036854775807 ∧ (∀ z ∈ l, (Lit.int k z).wf = true) ∧ RowIs w A n (fun i => .int k (l.getD i 0)) := by
  obtain ⟨A, n, c, rfl⟩ := okWide_slice ht hval
  obtain ⟨fuel, hf⟩ := h
  rcases open_ints ht he hc hf with ⟨hcs, hx⟩ | ⟨a, len', cap', zs, hcs, _, hl, hm, hz, hx, hcell, hwz⟩
  · simp [Value.cells] at hcs
    obtain ⟨rfl, rfl, rfl⟩ := hcs
    exact ⟨none, 0, 0, [], rfl, rfl, by omega, by simp, RowIs.none_ _ _ _⟩
  · simp [Value.cells] at hcs
    obtain ⟨rfl, rfl, rfl⟩ := hcs
    simp only [if_true] at hz
    unfold maxLen at hm
    have hlen : (zs.take n).length = n := by rw [List.length_take]; omega
    refine ⟨some a, n, c, zs.take n, rfl, hlen, by omega, fun z hz => hwz z (List.mem_of_mem_take hz), fun hn => ?_⟩
    have h0 := hcell 0 (by omega)
    obtain ⟨b, off, spot⟩ := a
    have hspot : spot = none := by simpa [Addr.add] using World.cell?_spot h0
    subst hspot
    refine ⟨b, off, rfl, ?_, fun i hi => ?_⟩
    · rw [add_row] at h0
      exact World.block_lt_of_cell? w _ h0
    · have := hcell i (by omega)
      rw [add_row] at this
      rw [this]
      simp [List.getD, hi]

theorem wf_getD {k : IntKind} {l : List Int} (h : ∀ z ∈ l, (Lit.int k z).wf = true) (h0 : (Lit.int k 0).wf = true) (i : Nat) : (Lit.int k (l.getD i 0)).wf = true := by
  by_cases hi : i < l.length
  · have : l.getD i 0 = l[i] := by simp [List.getD, hi]
    rw [this]
    exact h _ (List.getElem_mem hi)
  · have : l.getD i 0 = 0 := by simp [List.getD, Nat.le_of_not_lt hi]
    rw [this]
    exact h0
/-- A slice of int. -/
theorem open_is {t e : TypeId} {r : Reach} {b0 : Nat} {v : Value} {d : DataW H} {ps : List MemPlace} (ht : P.underlying t = some (.slice e)) (he : P.underlying e = some (.int .i64)) (hc : P.cellsOf e = 1)
    (hval : Value.okWide P w r b0 t v) (h : DataW.Trod enc P w base (fun _ => true) true t v d ps) :
    ∃ (A : Option Addr) (c : Nat) (l : List Int), v = .slice A l.length c ∧ l.length ≤ 9223372036854775807 ∧ (∀ i, -9223372036854775808 ≤ l.getD i 0 ∧ l.getD i 0 ≤ 9223372036854775807) ∧ RowIs w A l.length (fun i => .int .i64 (l.getD i 0)) := by
  obtain ⟨A, n, c, l, rfl, rfl, hn, hw, hr⟩ := open_ints_row ht he hc hval h
  exact ⟨A, c, l, rfl, hn, fun i => bounds_i64 (wf_getD hw (by decide) i), hr⟩
/-- A slice of uint64. -/
theorem open_us {t e : TypeId} {r : Reach} {b0 : Nat} {v : Value} {d : DataW H} {ps : List MemPlace} (ht : P.underlying t = some (.slice e)) (he : P.underlying e = some (.int .u64)) (hc : P.cellsOf e = 1)
    (hval : Value.okWide P w r b0 t v) (h : DataW.Trod enc P w base (fun _ => true) true t v d ps) :
    ∃ (A : Option Addr) (c : Nat) (l : List Nat), v = .slice A l.length c ∧ l.length ≤ 9223372036854775807 ∧ (∀ i, l.getD i 0 < 18446744073709551616) ∧ RowIs w A l.length (fun i => .int .u64 (l.getD i 0 : Nat)) := by
  obtain ⟨A, n, c, l, rfl, rfl, hn, hw, hr⟩ := open_ints_row ht he hc hval h
  have hb := fun i => bounds_u64 (wf_getD hw (by decide) i)
  have e1 : ∀ i, ((l.map Int.toNat).getD i 0 : Int) = l.getD i 0 := fun i => by
    have h1 := hb i
    have h2 : (l.map Int.toNat).getD i 0 = (l.getD i 0).toNat := by
      by_cases hi : i < l.length
      · simp [List.getD, hi]
      · simp [List.getD, Nat.le_of_not_lt hi]
    rw [h2]
    omega
  refine ⟨A, c, l.map Int.toNat, by simp, by simpa using hn, fun i => ?_, ?_⟩
  · have h1 := hb i; have h2 := e1 i; omega
  · intro hn'
    have hl : (l.map Int.toNat).length = l.length := List.length_map ..
    rw [hl] at hn' ⊢
    obtain ⟨b, off, rfl, hbl, hx⟩ := hr hn'
    refine ⟨b, off, rfl, hbl, fun i hi => (hx i hi).trans ?_⟩
    show some (Value.int IntKind.u64 (l.getD i 0)) = some (.int .u64 ((l.map Int.toNat).getD i 0 : Nat))
    rw [e1 i]
/-- An integer, as a number from 0 on. -/
theorem open_u {t : TypeId} {r : Reach} {b0 : Nat} {v : Value} {d : DataW H} {ps : List MemPlace} (ht : P.underlying t = some (.int .u64))
    (hval : Value.okWide P w r b0 t v) (h : DataW.Trod enc P w base (fun _ => true) true t v d ps) : ∃ x : Nat, v = .int .u64 x ∧ x < 18446744073709551616 := by
  obtain ⟨a, rfl, _, _, hw⟩ := open_int ht hval h
  have hb := bounds_u64 hw
  exact ⟨a.toNat, by congr 1; omega, by omega⟩
theorem open_i {t : TypeId} {r : Reach} {b0 : Nat} {v : Value} {d : DataW H} {ps : List MemPlace} (ht : P.underlying t = some (.int .i64))
    (hval : Value.okWide P w r b0 t v) (h : DataW.Trod enc P w base (fun _ => true) true t v d ps) : ∃ x : Int, v = .int .i64 x ∧ (-9223372036854775808 ≤ x ∧ x ≤ 9223372036854775807) := by
  obtain ⟨a, rfl, _, _, hw⟩ := open_int ht hval h
  exact ⟨a, rfl, bounds_i64 hw⟩
theorem okWide_array {n : Nat} {e : TypeId} {r : Reach} {b0 : Nat} {t : TypeId} {v : Value} (ht : P.underlying t = some (.array n e)) (h : Value.okWide P w r b0 t v) : ∃ cs, v = .agg cs := by
  simp only [Value.okWide, ht] at h
  cases v <;> simp_all
/-- Two ints in an array. -/
theorem open_i2 {t e : TypeId} {r : Reach} {b0 : Nat} {v : Value} {d : DataW H} {ps : List MemPlace} (ht : P.underlying t = some (.array 2 e)) (he : P.underlying e = some (.int .i64)) (hc : P.cellsOf e = 1) (hct : P.cellsOf t = 2)
    (hval : Value.okWide P w r b0 t v) (h : DataW.Trod enc P w base (fun _ => true) true t v d ps) :
    ∃ x y : Int, v = .agg #[.int .i64 x, .int .i64 y] ∧ (-9223372036854775808 ≤ x ∧ x ≤ 9223372036854775807) ∧ (-9223372036854775808 ≤ y ∧ y ≤ 9223372036854775807) := by
  obtain ⟨cs, rfl⟩ := okWide_array ht hval
  obtain ⟨fuel, hf⟩ := h
  obtain ⟨xs, m, _, _, hl, hx, hel⟩ := DataW.trod_array ht hf
  rw [hct] at hl
  have h0 := hel 0 (by omega)
  have h1 := hel 1 (by omega)
  rw [List.getElem?_eq_getElem (by omega), hc] at h0 h1
  have hcs : (Value.agg cs).cells.toList = cs.toList := rfl
  rw [hcs] at hl h0 h1
  obtain ⟨cs⟩ := cs
  match cs, hl with
  | [a, b], _ =>
    obtain ⟨x, e0, _, w0⟩ := DataW.trod_int he h0
    obtain ⟨y, e1, _, w1⟩ := DataW.trod_int he h1
    simp at e0 e1
    subst e0; subst e1
    exact ⟨x, y, rfl, bounds_i64 w0, bounds_i64 w1⟩
end

end Go.Proofs.Ytodomchanaaonaa
