/- errors.As, and what is asked by it: the code that an error is of, where it comes from. -/
import Derived.Test.YtgbgemgpdaclaaaDoorErrsAsC
import Derived.Test.YtgbgemgpdaclaaaDoorErrsAsE
namespace Go.Proofs.YtgbgemgpdaclaaaDoor
open Go.ChangeShapes Go.WideShapes Go.RowKit Go.Extern.Stop Go.Stop Go.Extern

/-- What errors.As reads: the type 'error'. -/
def ErrT (w : World) : Prop := w.cell? ⟨0, 0, none⟩ = some (.iface 89 (.agg #[.pointer (some ⟨4, 29, none⟩)]))
theorem ErrT.below {w w' : World} (h : ErrT w) (hb : Below w.heap.size w w') : ErrT w' := (hb.cell (World.block_lt_of_cell? _ _ h)).trans h
theorem As_nil (t : Value) (w : World) : Calls Tryd.prog 20 #[.nilIface, t] w fun e w' => e = .returned (.bool false) ∧ w' = w := by
  go_enter Tryd.func20, Tryd.ntmps20
  go_wp2
  go_ret
  exact ⟨rfl, rfl⟩

set_option maxHeartbeats 4000000 in
set_option maxRecDepth 100000 in
theorem AsC_any (e : Errs) (tb : Nat) (old : Value) (w : World) (h : ErrsIs w e) (hg : ErrT w) (ht : w.cell? ⟨tb, 0, none⟩ = some old) (hf : w.frozen? ⟨tb, 0, none⟩ = false) :
    Calls Tryd.prog 20 #[e.val, .iface 62 (.pointer (some ⟨tb, 0, none⟩))] w fun r w' => r = .returned (.bool e.codeIn.isSome) ∧ w'.cell? ⟨tb, 0, none⟩ = some (e.codeOr old) ∧ Below tb w w' := by
  by_cases he : e = .no
  · subst he
    refine (As_nil _ w).mono ?_
    rintro r w' ⟨rfl, rfl⟩
    exact ⟨rfl, ht, Below.refl _ _⟩
  obtain ⟨U, v, hv⟩ := val_iface e he
  have x1 := x_ValueOf; have x2 := x_VType; have x3 := x_IsNil; have x4 := x_Kind; have x5 := x_Elem; have x6 := x_Impl
  have m1 := mKind; have m2 := mElem; have m3 := mImpl
  have f1 := vOfpC; have f2 := typC; have f3 := kpC; have f4 := kC; have f5 := elC; have f6 := imC
  have htl := World.block_lt_of_cell? _ _ ht
  have hgl := World.block_lt_of_cell? _ _ hg
  have hB2 : Below w.heap.size w ((w.alloc (.cells #[.pointer (some ⟨tb, 0, none⟩)] 62)).alloc (.cells #[.pointer (some ⟨4, 62, none⟩), .pointer (some ⟨w.heap.size, 0, none⟩), .int .u64 150] 68)) :=
    ((Below.refl _ _).alloc (Nat.le_refl _) _).alloc (by simp) _
  have g2 := hg.below hB2
  have c2 : ((w.alloc (.cells #[.pointer (some ⟨tb, 0, none⟩)] 62)).alloc (.cells #[.pointer (some ⟨4, 62, none⟩), .pointer (some ⟨w.heap.size, 0, none⟩), .int .u64 150] 68)).cell? ⟨w.heap.size, 0, none⟩ = some (.pointer (some ⟨tb, 0, none⟩)) := by
    rw [World.cell?_alloc_lt _ _ ⟨w.heap.size, 0, none⟩ (by simp)]; simp
  have hA := asC_any e tb w.heap.size old _ he (h.below hB2) c2 ((hB2.cell htl).trans ht) ((hB2.frozen htl).trans hf)
  have n8 := isNilC ⟨w.heap.size, 0, none⟩ ⟨tb, 0, none⟩ _ c2
  have HB2 := Lib.hid (hB2.mono (Nat.le_of_lt htl))
  unfold ErrT at g2
  rw [hv] at hA ⊢
  clear hv h hg ht hf he hB2 c2 htl hgl
  go_enter Tryd.func20, Tryd.ntmps20
  go_wp2_with (go_at_call 32; refine hA.mono ?_; rintro r w' ⟨rfl, hc, hb⟩)
  go_ret
  exact ⟨rfl, hc, HB2.out.trans hb⟩

set_option maxHeartbeats 4000000 in
set_option maxRecDepth 100000 in
theorem AsE_any (e : Errs) (tb : Nat) (old : Value) (w : World) (h : ErrsIs w e) (hg : ErrT w) (ht : w.cell? ⟨tb, 0, none⟩ = some old) (hf : w.frozen? ⟨tb, 0, none⟩ = false) :
    Calls Tryd.prog 20 #[e.val, .iface 51 (.pointer (some ⟨tb, 0, none⟩))] w fun r w' => r = .returned (.bool e.fromIn.isSome) ∧ w'.cell? ⟨tb, 0, none⟩ = some (e.fromOr old) ∧ Below tb w w' := by
  by_cases he : e = .no
  · subst he
    refine (As_nil _ w).mono ?_
    rintro r w' ⟨rfl, rfl⟩
    exact ⟨rfl, ht, Below.refl _ _⟩
  obtain ⟨U, v, hv⟩ := val_iface e he
  have x1 := x_ValueOf; have x2 := x_VType; have x3 := x_IsNil; have x4 := x_Kind; have x5 := x_Elem; have x6 := x_Impl
  have m1 := mKind; have m2 := mElem; have m3 := mImpl
  have f1 := vOfpE; have f2 := typE; have f3 := kpE; have f4 := kE; have f5 := elE; have f6 := imE
  have htl := World.block_lt_of_cell? _ _ ht
  have hgl := World.block_lt_of_cell? _ _ hg
  have hB2 : Below w.heap.size w ((w.alloc (.cells #[.pointer (some ⟨tb, 0, none⟩)] 51)).alloc (.cells #[.pointer (some ⟨4, 51, none⟩), .pointer (some ⟨w.heap.size, 0, none⟩), .int .u64 150] 68)) :=
    ((Below.refl _ _).alloc (Nat.le_refl _) _).alloc (by simp) _
  have g2 := hg.below hB2
  have c2 : ((w.alloc (.cells #[.pointer (some ⟨tb, 0, none⟩)] 51)).alloc (.cells #[.pointer (some ⟨4, 51, none⟩), .pointer (some ⟨w.heap.size, 0, none⟩), .int .u64 150] 68)).cell? ⟨w.heap.size, 0, none⟩ = some (.pointer (some ⟨tb, 0, none⟩)) := by
    rw [World.cell?_alloc_lt _ _ ⟨w.heap.size, 0, none⟩ (by simp)]; simp
  have hA := asE_any e tb w.heap.size old _ he (h.below hB2) c2 ((hB2.cell htl).trans ht) ((hB2.frozen htl).trans hf)
  have n8 := isNilE ⟨w.heap.size, 0, none⟩ ⟨tb, 0, none⟩ _ c2
  have HB2 := Lib.hid (hB2.mono (Nat.le_of_lt htl))
  unfold ErrT at g2
  rw [hv] at hA ⊢
  clear hv h hg ht hf he hB2 c2 htl hgl
  go_enter Tryd.func20, Tryd.ntmps20
  go_wp2_with (go_at_call 32; refine hA.mono ?_; rintro r w' ⟨rfl, hc, hb⟩)
  go_ret
  exact ⟨rfl, hc, HB2.out.trans hb⟩

/-- Code. -/
def Errs.codeOf (e : Errs) : Int := match e with | .no => 0 | e => e.codeIn.getD 14
theorem code_any (e : Errs) (w : World) (h : ErrsIs w e) (hg : ErrT w) : Calls Tryd.prog 12 #[e.val] w fun r w' => r = .returned (.int .i64 e.codeOf) ∧ Below w.heap.size w w' := by
  by_cases he : e = .no
  · subst he
    show Calls Tryd.prog 12 #[.nilIface] w fun r w' => r = .returned (.int .i64 0) ∧ Below w.heap.size w w'
    clear h hg
    go_enter Tryd.func12, Tryd.ntmps12
    go_wp2
    go_ret
    exact ⟨rfl, Below.refl _ _⟩
  have hB : Below w.heap.size w (w.alloc (.cells #[.int .i64 0] 22)) := (Below.refl _ _).alloc (Nat.le_refl _) _
  have hA := AsC_any e w.heap.size (.int .i64 0) _ (h.below hB) (hg.below hB) (by simp) (by simp)
  have HB := Lib.hid hB
  have hcd : e.codeOf = e.codeIn.getD 14 := by cases e <;> first | rfl | exact absurd rfl he
  obtain ⟨U, v, hv⟩ := val_iface e he
  rw [hcd]
  unfold Errs.codeOr at hA
  rw [hv] at hA ⊢
  clear hcd hv he h hg hB
  cases hcc : e.codeIn with
  | none =>
    rw [hcc] at hA
    clear hcc
    go_enter Tryd.func12, Tryd.ntmps12
    go_wp2_with (go_at_call 20; refine hA.mono ?_; rintro r w' ⟨rfl, hc, hb⟩)
    go_ret
    exact ⟨rfl, HB.out.trans hb⟩
  | some c =>
    rw [hcc] at hA
    clear hcc
    go_enter Tryd.func12, Tryd.ntmps12
    go_wp2_with (go_at_call 20; refine hA.mono ?_; rintro r w' ⟨rfl, hc, hb⟩)
    go_ret
    exact ⟨rfl, HB.out.trans hb⟩
/-- Where. -/
def Errs.placeIn : Errs → Option (Int × Int)
  | .err _ t l _ _ => some (t, l)
  | .note _ _ i => i.placeIn
  | _ => none
def Errs.wT (e : Errs) : Int := (e.placeIn.getD (0, 0)).1
def Errs.wL (e : Errs) : Int := (e.placeIn.getD (0, 0)).2
theorem from_place {w : World} : ∀ {e : Errs}, ErrsIs w e → (∀ g, e.fromIn = some (some g) → ∃ t l, e.placeIn = some (t, l) ∧ w.cell? ⟨g, 0, none⟩ = some (.int .i64 t) ∧ w.cell? ⟨g, 1, none⟩ = some (.int .i64 l)) ∧ ((∀ g, e.fromIn ≠ some (some g)) → e.placeIn = none)
  | .code _, _ => ⟨fun g h => (by cases h), fun _ => rfl⟩
  | .nilE, _ => ⟨fun g h => (by cases h), fun _ => rfl⟩
  | .no, _ => ⟨fun g h => (by cases h), fun _ => rfl⟩
  | .err g t l s i, h => ⟨fun g' e => (by cases e; exact ⟨t, l, rfl, h.2.1, h.2.2.1⟩), fun hn => absurd rfl (hn g)⟩
  | .note g s i, h => from_place (e := i) h.inner
set_option maxHeartbeats 1000000 in
theorem where_any (e : Errs) (w : World) (h : ErrsIs w e) (hg : ErrT w) : Calls Tryd.prog 9 #[e.val] w fun r w' => r = .returned (.tuple #[.int .i64 e.wT, .int .i64 e.wL, .bool e.placeIn.isSome]) ∧ Below w.heap.size w w' := by
  have hB : Below w.heap.size w (w.alloc (.cells #[.pointer none] 41)) := (Below.refl _ _).alloc (Nat.le_refl _) _
  have hA := AsE_any e w.heap.size (.pointer none) _ (h.below hB) (hg.below hB) (by simp) (by simp)
  have hp := from_place h
  have HB := Lib.hid hB
  have H := Lib.hid h
  unfold Errs.wT Errs.wL
  unfold Errs.fromOr at hA
  generalize e.val = V at *
  clear h hg hB
  cases hf : e.fromIn with
  | none =>
    rw [hf] at hA hp
    obtain hz := hp.2 (fun g h => by cases h)
    rw [hz]
    clear hp hf hz
    go_enter Tryd.func9, Tryd.ntmps9
    go_wp2_with (go_at_call 20; refine hA.mono ?_; rintro r w' ⟨rfl, hc, hb⟩)
    exact bodyPost_ret (v := .tuple #[.int .i64 0, .int .i64 0, .bool false]) (by simp [results, Tryd.results9, go_sem]) rfl ⟨rfl, HB.out.trans hb⟩
  | some o =>
    cases o with
    | none =>
      rw [hf] at hA hp
      obtain hz := hp.2 (fun g h => by cases h)
      rw [hz]
      clear hp hf hz
      go_enter Tryd.func9, Tryd.ntmps9
      go_wp2_with (go_at_call 20; refine hA.mono ?_; rintro r w' ⟨rfl, hc, hb⟩)
      exact bodyPost_ret (v := .tuple #[.int .i64 0, .int .i64 0, .bool false]) (by simp [results, Tryd.results9, go_sem]) rfl ⟨rfl, HB.out.trans hb⟩
    | some g =>
      rw [hf] at hA hp
      obtain ⟨t, l, hz, ht, hl⟩ := hp.1 g rfl
      have hgl := World.block_lt_of_cell? _ _ ht
      have HT := Lib.hid ht; have HL := Lib.hid hl
      rw [hz]
      clear hp hf hz ht hl
      go_enter Tryd.func9, Tryd.ntmps9
      go_upto_region 3 with (go_at_call 20; refine hA.mono ?_; rintro r w' ⟨rfl, hc, hb⟩)
      have hB := HB.out.trans hb
      have hT : w'.cell? ⟨g, 0, none⟩ = some (.int .i64 t) := (hB.cell hgl).trans HT.out
      have hL : w'.cell? ⟨g, 1, none⟩ = some (.int .i64 l) := (hB.cell hgl).trans HL.out
      have HB' := Lib.hid hB
      clear hb hB HB hA
      go_quiet (fail)
      go_wp2_with fail
      refine bodyPost_ret (v := .tuple #[.int .i64 t, .int .i64 l, .bool true]) ?_ rfl ⟨rfl, ?_⟩
      · simp [results, Tryd.results9, go_sem]
      · exact below_drewN HB'.out _
end Go.Proofs.YtgbgemgpdaclaaaDoor
