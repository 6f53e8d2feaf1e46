/- rows.At. -/
import Derived.Test.YtiafjbhekfpkbaaGreatDoorJ15
namespace Go.Proofs.YtiafjbhekfpkbaaGreatDoor
set_option linter.unusedSimpArgs false
set_option linter.unusedVariables false
open Go.ChangeShapes Go.WideShapes Go.ChangeAt Go.RowKit Go.Shelf
attribute [local go_sem] Oper.semAt_some

theorem hits_none {L : List Rw} {key : Int} (h : [] = hits L key L.length) : findN L key = L.length ∧ isAt L key = false := isAt_no fun i hi => hits_nil h.symm i hi
theorem hits_some {L : List Rw} {key : Int} {k : Nat} {x : Nat × Rw} (hk : k ≤ L.length) (h : [x] = hits L key k) : (x.1 : Int) = findN L key ∧ decide (x.2.k = key) = isAt L key := by
  obtain ⟨h1, rfl⟩ := hits_one hk h.symm
  refine ⟨rfl, ?_⟩
  unfold isAt
  rw [decide_eq_true (by omega : findN L key < L.length), Bool.true_and]

theorem boxed_keep {X Y : World} {row : Option Nat} {B : Nat} {t : TypeId} {v : Value} (h : Boxed X B t v) (hg : X.grownBy Y row) (hr : ∀ r, row = some r → ∃ o : Obj, X.heap[r]? = some o ∧ o.isCells = false) : Boxed Y B t v := boxed_own B t (fun (_ : Unit) => v) () X Y row h hg hr
/-- A row in a block of its own. -/
def Box3 (W : World) (B : Nat) (x : Rw) : Prop := W.heap[B]? = some (.cells #[.int .i64 x.k, .int .u64 (x.a : Nat), .int .u64 (x.b : Nat)] 58 (0, 0))
theorem Box3.new (W : World) (x : Rw) : Box3 (W.alloc (.cells #[.int .i64 x.k, .int .u64 (x.a : Nat), .int .u64 (x.b : Nat)] 58)) W.heap.size x := World.alloc_heap_new W _
theorem Box3.lt {W : World} {B : Nat} {x : Rw} (h : Box3 W B x) : B < W.heap.size := (Array.getElem?_eq_some_iff.1 h).1
theorem Box3.cell0 {W : World} {B : Nat} {x : Rw} (h : Box3 W B x) : W.cell? ⟨B, 0, none⟩ = some (.int .i64 x.k) := by simp [World.cell?, show W.heap[B]? = _ from h]
theorem Box3.cell1 {W : World} {B : Nat} {x : Rw} (h : Box3 W B x) : W.cell? ⟨B, 1, none⟩ = some (.int .u64 (x.a : Nat)) := by simp [World.cell?, show W.heap[B]? = _ from h]
theorem Box3.cell2 {W : World} {B : Nat} {x : Rw} (h : Box3 W B x) : W.cell? ⟨B, 2, none⟩ = some (.int .u64 (x.b : Nat)) := by simp [World.cell?, show W.heap[B]? = _ from h]
theorem box3_keep {X Y : World} {row : Option Nat} {B : Nat} {x : Rw} (h : Box3 X B x) (hg : X.grownBy Y row) (hr : ∀ r, row = some r → ∃ o : Obj, X.heap[r]? = some o ∧ o.isCells = false) : Box3 Y B x :=
  (hg.block B h.lt (fun e => by obtain ⟨o, ho, hc⟩ := hr B e.symm; rw [show X.heap[B]? = _ from h] at ho; cases ho; cases hc)).trans h

set_option maxRecDepth 100000 in
set_option maxHeartbeats 2000000 in
theorem rAt_in (F : Fence) (n : Nat) (h1 : F.fn 115) (h2 : F.fn 131) (h3 : F.fn 142) (hro : F.round = none) (hn : 3 ≤ n) (A : Option Addr) (c : Nat) (L : List Rw) (hL : L.length ≤ 1000000) (key : Int) (w : World) (hl : Lies w A L) :
    CallsIn F n Tryz.prog 115 #[.slice A L.length c, .int .i64 key] w fun e w' => e = .returned (.tuple #[.int .i64 (findN L key), .bool (isAt L key)]) ∧ Below w.heap.size w w' := by
  have hn1 : 1 ≤ n := by omega
  have HN := Lib.hid (@hits_none L key)
  have HS := Lib.hid (fun k x => @hits_some L key k x)
  have HL := Lib.hid hl; clear hl
  generalize hm : L.length = m at *
  have HM := Lib.hid hm; clear hm
  refine callsIn_of_wp_marks Tryz.func115 rfl h1 ?_ hro
  simp only [Tryz.ntmps115, List.size_toArray, List.length_cons, List.length_nil, Nat.reduceAdd, Nat.reduceSub, Array.replicate_succ, Array.replicate_zero, List.push_toArray, List.append_toArray, List.nil_append, List.cons_append]
  gi_wp2_with (gi_at_call 131; refine (reaching_in F (n - 1) h2 hro _ _ _ _ _).mono ?_; rintro e w' ⟨rfl, rfl⟩)
  have b3 := ((((Boxed.new w 2 (.int .i64 key)).alloc (.cells #[.int .i64 0] 3)).alloc (.cells #[.bool false] 4)).alloc (.cells #[.slice A m c] 49)).alloc (.cells #[.int .i64 key] 2)
  have b4 := (((Boxed.new (w.alloc (.cells #[.int .i64 key] 2)) 3 (.int .i64 0)).alloc (.cells #[.bool false] 4)).alloc (.cells #[.slice A m c] 49)).alloc (.cells #[.int .i64 key] 2)
  have b5 := ((Boxed.new ((w.alloc (.cells #[.int .i64 key] 2)).alloc (.cells #[.int .i64 0] 3)) 4 (.bool false)).alloc (.cells #[.slice A m c] 49)).alloc (.cells #[.int .i64 key] 2)
  have b6 := (Boxed.new (((w.alloc (.cells #[.int .i64 key] 2)).alloc (.cells #[.int .i64 0] 3)).alloc (.cells #[.bool false] 4)) 49 (.slice A m c)).alloc (.cells #[.int .i64 key] 2)
  have b7 := Boxed.new ((((w.alloc (.cells #[.int .i64 key] 2)).alloc (.cells #[.int .i64 0] 3)).alloc (.cells #[.bool false] 4)).alloc (.cells #[.slice A m c] 49)) 2 (.int .i64 key)
  simp only [World.size_alloc] at b4 b5 b6 b7
  have hB0 : Below w.heap.size w (((((w.alloc (.cells #[.int .i64 key] 2)).alloc (.cells #[.int .i64 0] 3)).alloc (.cells #[.bool false] 4)).alloc (.cells #[.slice A m c] 49)).alloc (.cells #[.int .i64 key] 2)) :=
    (((((Below.refl _ w).alloc (Nat.le_refl _) _).alloc (by simp) _).alloc (by simp; omega) _).alloc (by simp; omega) _).alloc (by simp; omega) _
  have hsz : (((((w.alloc (.cells #[.int .i64 key] 2)).alloc (.cells #[.int .i64 0] 3)).alloc (.cells #[.bool false] 4)).alloc (.cells #[.slice A m c] 49)).alloc (.cells #[.int .i64 key] 2)).heap.size = w.heap.size + 5 := by simp
  obtain ⟨W0, hW0⟩ : ∃ W0, ((((w.alloc (.cells #[.int .i64 key] 2)).alloc (.cells #[.int .i64 0] 3)).alloc (.cells #[.bool false] 4)).alloc (.cells #[.slice A m c] 49)).alloc (.cells #[.int .i64 key] 2) = W0 := ⟨_, rfl⟩
  rw [hW0] at b3 b4 b5 b6 b7 hB0 hsz ⊢
  clear hW0
  have hl0 := HL.out.keep hB0
  refine wpIn_rangeFunc_ownH hro hn1 (gf := 142) (lb := #[.pointer (some ⟨w.heap.size + 1 + 1 + 1, 0, none⟩), .pointer (some ⟨w.heap.size + 1 + 1 + 1 + 1, 0, none⟩)]) rfl h3 (enters_of Tryz.func142 (by kernel_rfl) rfl)
    (reaching_stops F (n - 1) h3 hro (by omega) (fun i => w.heap.size + 5 ≤ i) (w.heap.size + 1 + 1 + 1) (w.heap.size + 1 + 1 + 1 + 1) c A L (by rw [HM.out]; exact hL) key (fun a e h0 => by have := HL.out.lt_ a e h0; omega) (by omega) W0 (by rw [HM.out]; exact b6.cell) b7.cell hl0)
    onlyK_t (onlyK_b fun i hi => by omega) (Below.refl _ _) (fun _ => rfl)
    (fun pre W => (w.heap.size + 5 ≤ W.heap.size ∧ pre = [] ∧ Boxed W w.heap.size 2 (.int .i64 key) ∧ Boxed W (w.heap.size + 1) 3 (.int .i64 0) ∧ Boxed W (w.heap.size + 1 + 1) 4 (.bool false)) ∧ Below w.heap.size w W)
    (fun c pre W => (c = .ret ∧ ∃ x : Nat × Rw, pre = [x] ∧ Boxed W (w.heap.size + 1) 3 (.int .i64 (x.1 : Int)) ∧ Boxed W (w.heap.size + 1 + 1) 4 (.bool (decide (x.2.k = key)))) ∧ Below w.heap.size w W)
    (OwnFrom.and (Own.from (fun s A B row hs hg hr => ⟨Nat.le_trans hs.1 hg.size, hs.2.1, boxed_keep hs.2.2.1 hg hr, boxed_keep hs.2.2.2.1 hg hr, boxed_keep hs.2.2.2.2 hg hr⟩) _) (ownFrom_below (Nat.le_refl _) (by omega)))
    (fun c => OwnFrom.and (Own.from (fun s A B row hs hg hr => by obtain ⟨e1, x, e2, h4, h5⟩ := hs; exact ⟨e1, x, e2, boxed_keep h4 hg hr, boxed_keep h5 hg hr⟩) _) (ownFrom_below (Nat.le_refl _) (by omega)))
    ⟨⟨by omega, rfl, b3, b4, b5⟩, hB0⟩
    (fun x a' W => ∃ Bx, w.heap.size + 5 ≤ Bx ∧ Box3 W Bx x.2 ∧ a' = { tmps := #[.slice A m c, .int .i64 key, undef, .pointer (some ⟨w.heap.size, 0, none⟩), .pointer (some ⟨w.heap.size + 1, 0, none⟩), .pointer (some ⟨w.heap.size + 1 + 1, 0, none⟩), .int .i64 (x.1 : Int), .pointer (some ⟨Bx, 0, none⟩), .slice A m c, .int .i64 key, .func (.func 142) #[] #[.pointer (some ⟨w.heap.size + 1 + 1 + 1, 0, none⟩), .pointer (some ⟨w.heap.size + 1 + 1 + 1 + 1, 0, none⟩)], .int .i64 (x.1 : Int), .agg #[.int .i64 x.2.k, .int .u64 (x.2.a : Nat), .int .u64 (x.2.b : Nat)], undef, undef, undef, undef, undef, undef, undef], defers := [] })
    (fun x a' _ X Y row hs hg hr => by obtain ⟨Bx, e1, e2, e3⟩ := hs; exact ⟨Bx, e1, box3_keep e2 hg (fun r e => (hr r e).2), e3⟩)
    ?assign ?body ?done ?stop
  case assign =>
    rintro l pre ⟨i, k, a, b⟩ W K ⟨⟨hz, rfl, c3, c4, c5⟩, hB⟩ hK
    simp only [told]
    gi_wp2
    exact hK _ _ ((KeepsOthers.alloc _ _).from _) ((Only.refl _ W).then ((Below.refl _ W).alloc (Nat.le_refl _) _)) ⟨⟨by simp; omega, trivial, c3.alloc _, c4.alloc _, c5.alloc _⟩, hB.alloc hB.size _⟩ ⟨W.heap.size, hz, Box3.new W ⟨k, a, b⟩, rfl⟩
  case body =>
    rintro l pre ⟨i, k, a, b⟩ a' W hl ⟨r, hr⟩ ⟨⟨hz, rfl, c3, c4, c5⟩, hB⟩ ⟨Bx, hBx, bX, rfl⟩ hlt
    have k3 := c3.cell
    have k4 := c4.cell
    have k5 := c5.cell
    have f4 := c4.frozen
    have f5 := c5.frozen
    have x0 := bX.cell0
    have hmx : Tryz.prog.follows .mixedOrders = true := by kernel_rfl
    gi_wp2
    gi_region_with_o (fail)
    all_goals gi_wp2
    all_goals (try go_bits)
    all_goals first
      | exact ⟨(((KeepsOthers.setCell _ _ _).trans (KeepsOthers.setCell _ _ _)).trans (KeepsOthers.drew _)).from _, ⟨rfl, _, rfl, (c4.set _).other (by omega) _, (c5.other (by omega) _).set _⟩, ((hB.setCell (p := ⟨w.heap.size + 1, 0, none⟩) (by simp) _).setCell (p := ⟨w.heap.size + 1 + 1, 0, none⟩) (by simp; omega) _).drew⟩
      | exact ⟨(((KeepsOthers.setCell _ _ _).trans (KeepsOthers.setCell _ _ _)).trans (KeepsOthers.drew _)).from _, ⟨rfl, _, rfl, (c4.other (by omega) _).set _, (c5.set _).other (by omega) _⟩, ((hB.setCell (p := ⟨w.heap.size + 1 + 1, 0, none⟩) (by simp; omega) _).setCell (p := ⟨w.heap.size + 1, 0, none⟩) (by simp) _).drew⟩
  case done =>
    rintro D ys W hD hys ⟨⟨hz, rfl, c3, c4, c5⟩, hB⟩ hK
    rw [HM.out] at hys
    obtain ⟨e1, e2⟩ := HN.out hys
    have k4 := c4.cell
    have k5 := c5.cell
    have f4 := c4.frozen
    have f5 := c5.frozen
    gi_wp2
    have d4 := (c4.set (.int .i64 m)).other (B' := w.heap.size + 1 + 1) (by omega) (.bool false)
    have d5 := (c5.other (B' := w.heap.size + 1) (by omega) (.int .i64 m)).set (.bool false)
    have hK1 := ((KeepsOthers.setCell W ⟨w.heap.size + 1, 0, none⟩ (.int .i64 m)).trans (KeepsOthers.setCell _ ⟨w.heap.size + 1 + 1, 0, none⟩ (.bool false))).same D _ hK rfl
    refine ⟨by simp, .inl ⟨_, _, rfl, run_takeDeferred hK1, ?_⟩⟩
    have g4 := cell_kept d4.cell (grownBy_putObj' _ D (.deferred none)) (fun r e => by cases e; exact ⟨_, hK1, rfl⟩)
    have g5 := cell_kept d5.cell (grownBy_putObj' _ D (.deferred none)) (fun r e => by cases e; exact ⟨_, hK1, rfl⟩)
    refine ⟨.tuple #[.int .i64 m, .bool false], ?_, by rw [e1, e2], ((hB.setCell (p := ⟨w.heap.size + 1, 0, none⟩) (by simp) _).setCell (p := ⟨w.heap.size + 1 + 1, 0, none⟩) (by simp; omega) _).trans (belowK_b (w := w) (Nat.le_refl _) _ D _ _ (by omega) hK1 rfl rfl)⟩
    simp [results, Tryz.f115, go_sem, g4, g5]
  case stop =>
    rintro D c pre W hD ⟨k, hk, e0⟩ ⟨⟨rfl, x, rfl, c4, c5⟩, hB⟩ hK
    obtain ⟨e1, e2⟩ := HS.out k x (by rw [← HM.out]; exact hk) e0
    gi_wp2
    refine ⟨by simp, .inl ⟨_, _, rfl, run_takeDeferred hK, ?_⟩⟩
    have g4 := cell_kept c4.cell (grownBy_putObj' _ D (.deferred none)) (fun r e => by cases e; exact ⟨_, hK, rfl⟩)
    have g5 := cell_kept c5.cell (grownBy_putObj' _ D (.deferred none)) (fun r e => by cases e; exact ⟨_, hK, rfl⟩)
    rw [e1] at g4
    rw [e2] at g5
    refine ⟨.tuple #[.int .i64 (findN L key : Nat), .bool (isAt L key)], ?_, rfl, hB.trans (belowK_b (w := w) (Nat.le_refl _) _ D _ _ (by omega) hK rfl rfl)⟩
    simp [results, Tryz.f115, go_sem, g4, g5]

/-- At: the place where a key is, or would be, and whether it is there. -/
theorem rowAt_any (A : Option Addr) (c : Nat) (L : List Rw) (hL : L.length ≤ 1000000) (key : Int) (w : World) (hl : Lies w A L) :
    Calls Tryz.prog 115 #[.slice A L.length c, .int .i64 key] w fun e w' => e = .returned (.tuple #[.int .i64 (findN L key), .bool (isAt L key)]) ∧ Below w.heap.size w w' :=
  (callsIn_wide (n := 9)).1 (rAt_in Fence.wide 9 trivial trivial trivial rfl (by omega) A c L hL key w hl)
end Go.Proofs.YtiafjbhekfpkbaaGreatDoor
