/- What the laws of layer 6 call: do, same, lives. -/
import Derived.Test.YtdgafadbajcllaaRef6Put
import Derived.Test.YtdgafadbajcllaaCellsNew
namespace Go.Proofs.Ytdgafadbajcllaa
set_option linter.unusedSimpArgs false
open Go.ChangeShapes Go.WideShapes Go.ChangeAt Go.RowKit

theorem okM_do {s : Mem} (hs : OkM s) (h : s.acc < 4611686018427387903) (o : Opn) (ho : OkO o) : OkM (doM s o) := by
  have hin : OkM (inS s o.a) := ok_in hs _ h
  have hout : OkM (outS s) := ⟨hs.pos, hs.top, hs.word, by have := hs.acc0; show 0 ≤ s.acc + 1; omega, by show s.acc + 1 < _; omega, hs.wr0, by have := hs.wr1; show s.wr ≤ s.acc + 1; omega⟩
  have hput : OkM (putS (inS s o.a) o.a o.v) := ⟨hs.pos, hs.top, fun i => by show (if (i : Int) = o.a then o.v else s.f i) < _; split; exact ho.2.2.2; exact hs.word i, hin.acc0, hin.acc1, by have := hs.wr0; show 0 ≤ s.wr + 1; omega, by have := hs.wr1; show s.wr + 1 ≤ s.acc + 1; omega⟩
  unfold doM storeM casM touch
  cases decide (o.k = 0) <;> cases decide (o.k = 1) <;> cases casB s o.a o.old <;> cases inB s o.a <;> assumption
theorem doM_acc (s : Mem) (o : Opn) : (doM s o).acc = s.acc + 1 := by
  unfold doM storeM casM touch
  cases decide (o.k = 0) <;> cases decide (o.k = 1) <;> cases casB s o.a o.old <;> cases inB s o.a <;> rfl
theorem doM_n (s : Mem) (o : Opn) : (doM s o).n = s.n := by
  unfold doM storeM casM touch
  cases decide (o.k = 0) <;> cases decide (o.k = 1) <;> cases casB s o.a o.old <;> cases inB s o.a <;> rfl

theorem cOp_nil (o : Opn) (w : World) : Calls Try.prog 9 #[.pointer none, .agg (rowOf 4 (opR o))] w fun e w' => e = .returned (.tuple #[.int .u64 0, .bool false]) ∧ Below w.heap.size w w' := by
  have CL := Lib.hid fun W => cLoad_nil o.a W
  have CS := Lib.hid fun W => cStore_nil o.a o.v W
  have CC := Lib.hid fun W => cCas_nil o.a o.old o.v W
  go_enter Try.func9, Try.ntmps9
  go_upto_region 1 with fail
  generalize hW : World.alloc _ _ = W
  have ho : Row W w.heap.size 26 4 (opR o) := by rw [← hW]; exact Row.new _ _ _ _ _ rfl
  have hB : Below w.heap.size w W := by rw [← hW]; exact (Below.refl _ _).alloc (Nat.le_refl _) _
  clear hW
  generalize hz : w.heap.size = a1 at *
  have HZ := Lib.hid hz; clear hz
  obtain ⟨o0, o1, o2, o3⟩ := op_cells ho
  have HB := Lib.hid hB
  clear ho hB
  go_wp2_with (first | (go_at_call 19; refine (CL.out _).mono ?_; rintro e w' ⟨rfl, rfl⟩) | (go_at_call 18; refine (CS.out _).mono ?_; rintro e w' ⟨rfl, rfl⟩) | (go_at_call 20; refine (CC.out _).mono ?_; rintro e w' ⟨rfl, rfl⟩))
  all_goals
    go_ret2
    exact ⟨rfl, by rw [HZ.out]; exact HB.out⟩

/-- An access as the laws make it. -/
theorem cOp_any (s : Mem) (hs : OkM s) (hk : s.acc < 4611686018427387903) (o : Opn) (g h : Nat) (w : World) (hm : MemIs w g h s) : Calls Try.prog 9 #[.pointer (some ⟨g, 0, none⟩), .agg (rowOf 4 (opR o))] w
    fun e w' => e = .returned (.tuple #[.int .u64 (doV s o : Nat), .bool (doB s o)]) ∧ MemIs w' g h (doM s o) ∧ Only (Two g h) w w' := by
  have CL := Lib.hid fun W hm => cLoad_any s hs g h o.a W hm
  have CS := Lib.hid fun W hm => cStore_any s hs hk g h o.a W hm o.v
  have CC := Lib.hid fun W hm => cCas_any s hs hk g h o.a W hm o.old o.v
  clear hs hk
  go_enter Try.func9, Try.ntmps9
  go_upto_region 1 with fail
  generalize hW : World.alloc _ _ = W
  have ho : Row W w.heap.size 26 4 (opR o) := by rw [← hW]; exact Row.new _ _ _ _ _ rfl
  have hB : Below w.heap.size w W := by rw [← hW]; exact (Below.refl _ _).alloc (Nat.le_refl _) _
  have hmW := hm.keep hB
  clear hW hm
  have hO := Lib.hid (only_below hB (Two g h))
  clear hB
  generalize hz : w.heap.size = a1 at *
  clear hz
  obtain ⟨o0, o1, o2, o3⟩ := op_cells ho
  clear ho
  have HM := Lib.hid hmW; clear hmW
  by_cases h0 : o.k = 0
  · have d1 : doM s o = touch s o.a := by unfold doM; rw [decide_eq_true h0]; rfl
    have d2 : doV s o = loadV s o.a := by unfold doV; rw [decide_eq_true h0]; rfl
    have d3 : doB s o = false := by unfold doB; rw [decide_eq_true h0]; rfl
    have D := Lib.hid (And.intro d1 (And.intro d2 d3))
    rw [h0] at o0
    clear d1 d2 d3 h0
    go_wp2_with (go_at_call 19; refine (CL.out _ HM.out).mono ?_; rintro e w1 ⟨rfl, hm1, ho1⟩)
    go_ret2
    rw [D.out.1, D.out.2.1, D.out.2.2]
    exact ⟨rfl, hm1, hO.out.trans ho1⟩
  have d2 : doV s o = 0 := by unfold doV; rw [decide_eq_false h0]; rfl
  by_cases h1 : o.k = 1
  · have d1 : doM s o = storeM s o.a o.v := by unfold doM; rw [decide_eq_false h0, decide_eq_true h1]; rfl
    have d3 : doB s o = false := by unfold doB; rw [decide_eq_false h0, decide_eq_true h1]; rfl
    have D := Lib.hid (And.intro d1 (And.intro d2 d3))
    rw [h1] at o0
    clear d1 d2 d3 h0 h1
    go_wp2_with (go_at_call 18; refine (CS.out _ HM.out).mono ?_; rintro e w1 ⟨rfl, hm1, ho1⟩)
    go_ret2
    rw [D.out.1, D.out.2.1, D.out.2.2]
    exact ⟨rfl, hm1, hO.out.trans ho1⟩
  · have d1 : doM s o = casM s o.a o.old o.v := by unfold doM; rw [decide_eq_false h0, decide_eq_false h1]; rfl
    have d3 : doB s o = casB s o.a o.old := by unfold doB; rw [decide_eq_false h0, decide_eq_false h1]; rfl
    have D := Lib.hid (And.intro d1 (And.intro d2 d3))
    clear d1 d2 d3
    go_wp2_with (go_at_call 20; refine (CC.out _ HM.out).mono ?_; rintro e w1 ⟨rfl, hm1, ho1⟩)
    go_ret2
    rw [D.out.1, D.out.2.1, D.out.2.2]
    exact ⟨rfl, hm1, hO.out.trans ho1⟩

set_option maxHeartbeats 2000000 in
/-- A memory and the document's one: the same. -/
theorem cSameL (s : Mem) (hs : OkM s) (g h : Nat) (A : Option Addr) (c : Nat) (w : World) (hm : MemIs w g h s) (hA : RowIs w A s.n (us s.f)) :
    Calls Try.prog 8 #[.pointer (some ⟨g, 0, none⟩), .agg (rowOf 6 (memV (.slice A s.n c) s))] w fun e w' => e = .returned (.bool true) ∧ Below w.heap.size w w' := by
  have C1 := Lib.hid fun W hm => cLast_any s g h W hm
  have C2 := Lib.hid fun W hm => cWords_any s g h W hm hs.pos hs.top
  have C3 := Lib.hid fun A B c d W ha hb => (cSame_yes A B s.n c d hs.top s.f W ha hb).mono fun _ _ ⟨h, k⟩ => And.intro h (k.below W.heap.size)
  have C4 := Lib.hid fun W hm => cAccesses_any s g h W hm
  have C5 := Lib.hid fun W hm => cWrites_any s g h W hm
  have C6 := Lib.hid fun W hm => cFault_any s g h W hm
  clear hs
  go_enter Try.func8, Try.ntmps8
  go_upto_region 1 with fail
  generalize hW : World.alloc _ _ = W
  have hr : Row W w.heap.size 31 6 (memV (.slice A s.n c) s) := by rw [← hW]; exact Row.new _ _ _ _ _ rfl
  have hB : Below w.heap.size w W := by rw [← hW]; exact (Below.refl _ _).alloc (Nat.le_refl _) _
  have hmW := hm.keep hB
  have hAW := hA.below hB
  clear hW hm hA
  generalize hz : w.heap.size = a1 at *
  have HZ := Lib.hid hz; clear hz
  have HM := Lib.hid hmW; clear hmW
  have HP := Lib.hid (And.intro hr (And.intro hB hAW)); clear hr hB hAW
  go_upto_region 2 with (go_at_call 12; refine (C1.out _ HM.out).mono ?_; rintro e w1 ⟨rfl, hd1⟩)
  have hb1 := hd1.below W.heap.size
  have hm1 := HM.out.keep hb1
  have hr1 := HP.out.1.keep hb1
  have hA1 := HP.out.2.2.below hb1
  have hB1 := below_on HP.out.2.1 (Nat.le_of_eq HZ.out.symm) hb1
  clear hb1 hd1 HP HM C1
  have hst : (fun w' : World => Below a1 w w' ∧ MemIs w' g h s ∧ RowIs w' A s.n (us s.f) ∧ w'.cell? ⟨a1, 0, none⟩ = some (.slice A s.n c) ∧ w'.cell? ⟨a1, 1, none⟩ = some (.int .i64 s.acc) ∧ w'.cell? ⟨a1, 2, none⟩ = some (.int .i64 s.wr) ∧ w'.cell? ⟨a1, 3, none⟩ = some (.int .i64 s.la) ∧ w'.cell? ⟨a1, 4, none⟩ = some (.bool s.named) ∧ w'.cell? ⟨a1, 5, none⟩ = some (.bool s.fault)) w1.drew := ⟨hB1.drew, ⟨hm1.row, hm1.words, hm1.ne⟩, hA1, row_cells hr1⟩
  have Hst := Lib.hid hst; clear hst
  have hkeep : ∀ w1 w2 : World, Below w1.heap.size w1 w2 → (fun w' : World => Below a1 w w' ∧ MemIs w' g h s ∧ RowIs w' A s.n (us s.f) ∧ w'.cell? ⟨a1, 0, none⟩ = some (.slice A s.n c) ∧ w'.cell? ⟨a1, 1, none⟩ = some (.int .i64 s.acc) ∧ w'.cell? ⟨a1, 2, none⟩ = some (.int .i64 s.wr) ∧ w'.cell? ⟨a1, 3, none⟩ = some (.int .i64 s.la) ∧ w'.cell? ⟨a1, 4, none⟩ = some (.bool s.named) ∧ w'.cell? ⟨a1, 5, none⟩ = some (.bool s.fault)) w1 → (fun w' : World => Below a1 w w' ∧ MemIs w' g h s ∧ RowIs w' A s.n (us s.f) ∧ w'.cell? ⟨a1, 0, none⟩ = some (.slice A s.n c) ∧ w'.cell? ⟨a1, 1, none⟩ = some (.int .i64 s.acc) ∧ w'.cell? ⟨a1, 2, none⟩ = some (.int .i64 s.wr) ∧ w'.cell? ⟨a1, 3, none⟩ = some (.int .i64 s.la) ∧ w'.cell? ⟨a1, 4, none⟩ = some (.bool s.named) ∧ w'.cell? ⟨a1, 5, none⟩ = some (.bool s.fault)) w2 := by
    rintro w1 w2 hb ⟨h0, h1, h2, h3, h4, h5, h6, h7, h8⟩
    exact ⟨below_on h0 (Nat.le_of_eq HZ.out.symm) hb, h1.keep hb, h2.below hb, cell_keep hb h3, cell_keep hb h4, cell_keep hb h5, cell_keep hb h6, cell_keep hb h7, cell_keep hb h8⟩
  clear hm1 hr1 hA1 hB1
  refine wp_region_noPanic ?_
  refine wp_region_held_drew (S := fun w' => Below a1 w w' ∧ MemIs w' g h s ∧ RowIs w' A s.n (us s.f) ∧ w'.cell? ⟨a1, 0, none⟩ = some (.slice A s.n c) ∧ w'.cell? ⟨a1, 1, none⟩ = some (.int .i64 s.acc) ∧ w'.cell? ⟨a1, 2, none⟩ = some (.int .i64 s.wr) ∧ w'.cell? ⟨a1, 3, none⟩ = some (.int .i64 s.la) ∧ w'.cell? ⟨a1, 4, none⟩ = some (.bool s.named) ∧ w'.cell? ⟨a1, 5, none⟩ = some (.bool s.fault)) (by kernel_rfl) (Hst.out) (fun hHeld => ?_)
  (refine wpAnyH_take (i := 0) (v := ?_) rfl (by kernel_rfl) (by kernel_rfl) (by kernel_rfl) (fun _ _ _ h => h) (Or.inl ⟨by rfl, ?_⟩) hHeld ?_; rotate_left; focus (intro w hSw; (try dsimp only at hSw); go_simp; (try with_reducible rfl)))
  try simp only [Act.put, List.getElem_toArray, List.getElem_cons_succ, List.getElem_cons_zero, List.setIfInBounds_toArray, List.set_cons_zero, List.set_cons_succ]
  (refine wpAnyH_take (i := 2) (v := ?_) rfl (by kernel_rfl) (by kernel_rfl) (by kernel_rfl) (fun _ _ _ h => h) (Or.inl ⟨by rfl, ?_⟩) hHeld ?_; rotate_left; focus (intro w hSw; (try dsimp only at hSw); go_simp; (try with_reducible rfl)))
  try simp only [Act.put, List.getElem_toArray, List.getElem_cons_succ, List.getElem_cons_zero, List.setIfInBounds_toArray, List.set_cons_zero, List.set_cons_succ]
  (refine wpAnyH_take (i := 3) (v := ?_) rfl (by kernel_rfl) (by kernel_rfl) (by kernel_rfl) (fun _ _ _ h => h) (Or.inl ⟨by rfl, ?_⟩) hHeld ?_; rotate_left; focus (intro w hSw; (try dsimp only at hSw); go_simp; (try with_reducible rfl)))
  try simp only [Act.put, List.getElem_toArray, List.getElem_cons_succ, List.getElem_cons_zero, List.setIfInBounds_toArray, List.set_cons_zero, List.set_cons_succ]
  (refine wpAnyH_ready (rs := [1]) (by kernel_rfl) (by simp) ?_; refine AllReadyH.cons rfl (fun K hK => ?_) AllReadyH.nil; go_simp; (first | (go_at_call 16; refine (C2.out _ (And.left (And.right hHeld))).mono ?_; rintro e w' ⟨A2, c2, rfl, hA2, hb⟩) | (go_at_call 23; refine (C3.out _ _ _ _ _ hA2 (And.left (And.right (And.right hHeld)))).mono ?_; rintro e w' ⟨rfl, hb⟩) | (go_at_call 13; refine (C4.out _ (And.left (And.right hHeld))).mono ?_; rintro e w' ⟨rfl, rfl⟩) | (go_at_call 14; refine (C5.out _ (And.left (And.right hHeld))).mono ?_; rintro e w' ⟨rfl, rfl⟩) | (go_at_call 15; refine (C6.out _ (And.left (And.right hHeld))).mono ?_; rintro e w' ⟨rfl, rfl⟩)); (try go_wp2_with fail); refine hK.out _ _ ?_ (fun hHeld' => ?_); (focus (first | exact hkeep _ _ hb hHeld | exact hHeld)); clear hK K; replace hHeld := hHeld'; clear hHeld')
  try simp only [Act.put, List.getElem_toArray, List.getElem_cons_succ, List.getElem_cons_zero, List.setIfInBounds_toArray, List.set_cons_zero, List.set_cons_succ]
  (refine wpAnyH_ready (rs := [4]) (by kernel_rfl) (by simp) ?_; refine AllReadyH.cons rfl (fun K hK => ?_) AllReadyH.nil; go_simp; (first | (go_at_call 16; refine (C2.out _ (And.left (And.right hHeld))).mono ?_; rintro e w' ⟨A2, c2, rfl, hA2, hb⟩) | (go_at_call 23; refine (C3.out _ _ _ _ _ hA2 (And.left (And.right (And.right hHeld)))).mono ?_; rintro e w' ⟨rfl, hb⟩) | (go_at_call 13; refine (C4.out _ (And.left (And.right hHeld))).mono ?_; rintro e w' ⟨rfl, rfl⟩) | (go_at_call 14; refine (C5.out _ (And.left (And.right hHeld))).mono ?_; rintro e w' ⟨rfl, rfl⟩) | (go_at_call 15; refine (C6.out _ (And.left (And.right hHeld))).mono ?_; rintro e w' ⟨rfl, rfl⟩)); (try go_wp2_with fail); refine hK.out _ _ ?_ (fun hHeld' => ?_); (focus (first | exact hkeep _ _ hb hHeld | exact hHeld)); clear hK K; replace hHeld := hHeld'; clear hHeld')
  try simp only [Act.put, List.getElem_toArray, List.getElem_cons_succ, List.getElem_cons_zero, List.setIfInBounds_toArray, List.set_cons_zero, List.set_cons_succ]
  (refine wpAnyH_take (i := 5) (v := ?_) rfl (by kernel_rfl) (by kernel_rfl) (by kernel_rfl) (fun _ _ _ h => h) (Or.inl ⟨by rfl, ?_⟩) hHeld ?_; rotate_left; focus (intro w hSw; (try dsimp only at hSw); go_simp; (try with_reducible rfl)))
  try simp only [Act.put, List.getElem_toArray, List.getElem_cons_succ, List.getElem_cons_zero, List.setIfInBounds_toArray, List.set_cons_zero, List.set_cons_succ]
  first | (refine wpAnyH_take (i := 6) rfl (by kernel_rfl) (by kernel_rfl) (by kernel_rfl) (fun _ _ _ h => h) (Or.inr ⟨by rfl, rfl⟩) hHeld ?_) | (refine wpAnyH_take (i := 6) (v := ?_) rfl (by kernel_rfl) (by kernel_rfl) (by kernel_rfl) (fun _ _ _ h => h) (Or.inl ⟨by rfl, ?_⟩) hHeld ?_; rotate_left; focus (intro w hSw; (try dsimp only at hSw); go_simp; (try with_reducible rfl)))
  try simp only [Act.put, List.getElem_toArray, List.getElem_cons_succ, List.getElem_cons_zero, List.setIfInBounds_toArray, List.set_cons_zero, List.set_cons_succ]
  first | (refine wpAnyH_take (i := 8) rfl (by kernel_rfl) (by kernel_rfl) (by kernel_rfl) (fun _ _ _ h => h) (Or.inr ⟨by rfl, rfl⟩) hHeld ?_) | (refine wpAnyH_take (i := 8) (v := ?_) rfl (by kernel_rfl) (by kernel_rfl) (by kernel_rfl) (fun _ _ _ h => h) (Or.inl ⟨by rfl, ?_⟩) hHeld ?_; rotate_left; focus (intro w hSw; (try dsimp only at hSw); go_simp; (try with_reducible rfl)))
  try simp only [Act.put, List.getElem_toArray, List.getElem_cons_succ, List.getElem_cons_zero, List.setIfInBounds_toArray, List.set_cons_zero, List.set_cons_succ]
  first | (refine wpAnyH_take (i := 9) rfl (by kernel_rfl) (by kernel_rfl) (by kernel_rfl) (fun _ _ _ h => h) (Or.inr ⟨by rfl, rfl⟩) hHeld ?_) | (refine wpAnyH_take (i := 9) (v := ?_) rfl (by kernel_rfl) (by kernel_rfl) (by kernel_rfl) (fun _ _ _ h => h) (Or.inl ⟨by rfl, ?_⟩) hHeld ?_; rotate_left; focus (intro w hSw; (try dsimp only at hSw); go_simp; (try with_reducible rfl)))
  try simp only [Act.put, List.getElem_toArray, List.getElem_cons_succ, List.getElem_cons_zero, List.setIfInBounds_toArray, List.set_cons_zero, List.set_cons_succ]
  first | (refine wpAnyH_take (i := 7) rfl (by kernel_rfl) (by kernel_rfl) (by kernel_rfl) (fun _ _ _ h => h) (Or.inr ⟨by rfl, rfl⟩) hHeld ?_) | (refine wpAnyH_ready (rs := [7]) (by kernel_rfl) (by simp) ?_; refine AllReadyH.cons rfl (fun K hK => ?_) AllReadyH.nil; go_simp; (first | (go_at_call 16; refine (C2.out _ (And.left (And.right hHeld))).mono ?_; rintro e w' ⟨A2, c2, rfl, hA2, hb⟩) | (go_at_call 23; refine (C3.out _ _ _ _ _ hA2 (And.left (And.right (And.right hHeld)))).mono ?_; rintro e w' ⟨rfl, hb⟩) | (go_at_call 13; refine (C4.out _ (And.left (And.right hHeld))).mono ?_; rintro e w' ⟨rfl, rfl⟩) | (go_at_call 14; refine (C5.out _ (And.left (And.right hHeld))).mono ?_; rintro e w' ⟨rfl, rfl⟩) | (go_at_call 15; refine (C6.out _ (And.left (And.right hHeld))).mono ?_; rintro e w' ⟨rfl, rfl⟩)); (try go_wp2_with fail); refine hK.out _ _ ?_ (fun hHeld' => ?_); (focus (first | exact hkeep _ _ hb hHeld | exact hHeld)); clear hK K; replace hHeld := hHeld'; clear hHeld')
  try simp only [Act.put, List.getElem_toArray, List.getElem_cons_succ, List.getElem_cons_zero, List.setIfInBounds_toArray, List.set_cons_zero, List.set_cons_succ]
  first | (refine wpAnyH_take (i := 10) rfl (by kernel_rfl) (by kernel_rfl) (by kernel_rfl) (fun _ _ _ h => h) (Or.inr ⟨by rfl, rfl⟩) hHeld ?_) | (refine wpAnyH_take (i := 10) (v := ?_) rfl (by kernel_rfl) (by kernel_rfl) (by kernel_rfl) (fun _ _ _ h => h) (Or.inl ⟨by rfl, ?_⟩) hHeld ?_; rotate_left; focus (intro w hSw; (try dsimp only at hSw); go_simp; (try with_reducible rfl)))
  try simp only [Act.put, List.getElem_toArray, List.getElem_cons_succ, List.getElem_cons_zero, List.setIfInBounds_toArray, List.set_cons_zero, List.set_cons_succ]
  (refine wpAnyH_take (i := 11) (v := ?_) rfl (by kernel_rfl) (by kernel_rfl) (by kernel_rfl) (fun _ _ _ h => h) (Or.inl ⟨by rfl, ?_⟩) hHeld ?_; rotate_left; focus (intro w hSw; (try dsimp only at hSw); go_simp; (try with_reducible rfl)))
  try simp only [Act.put, List.getElem_toArray, List.getElem_cons_succ, List.getElem_cons_zero, List.setIfInBounds_toArray, List.set_cons_zero, List.set_cons_succ]
  (refine wpAnyH_take (i := 12) (v := ?_) rfl (by kernel_rfl) (by kernel_rfl) (by kernel_rfl) (fun _ _ _ h => h) (Or.inl ⟨by rfl, ?_⟩) hHeld ?_; rotate_left; focus (intro w hSw; (try dsimp only at hSw); go_simp; (try with_reducible rfl)))
  try simp only [Act.put, List.getElem_toArray, List.getElem_cons_succ, List.getElem_cons_zero, List.setIfInBounds_toArray, List.set_cons_zero, List.set_cons_succ]
  first | (refine wpAnyH_take (i := 13) rfl (by kernel_rfl) (by kernel_rfl) (by kernel_rfl) (fun _ _ _ h => h) (Or.inr ⟨by rfl, rfl⟩) hHeld ?_) | (refine wpAnyH_take (i := 13) (v := ?_) rfl (by kernel_rfl) (by kernel_rfl) (by kernel_rfl) (fun _ _ _ h => h) (Or.inl ⟨by rfl, ?_⟩) hHeld ?_; rotate_left; focus (intro w hSw; (try dsimp only at hSw); go_simp; (try with_reducible rfl)))
  try simp only [Act.put, List.getElem_toArray, List.getElem_cons_succ, List.getElem_cons_zero, List.setIfInBounds_toArray, List.set_cons_zero, List.set_cons_succ]
  first | (refine wpAnyH_take (i := 15) rfl (by kernel_rfl) (by kernel_rfl) (by kernel_rfl) (fun _ _ _ h => h) (Or.inr ⟨by rfl, rfl⟩) hHeld ?_) | (refine wpAnyH_take (i := 15) (v := ?_) rfl (by kernel_rfl) (by kernel_rfl) (by kernel_rfl) (fun _ _ _ h => h) (Or.inl ⟨by rfl, ?_⟩) hHeld ?_; rotate_left; focus (intro w hSw; (try dsimp only at hSw); go_simp; (try with_reducible rfl)))
  try simp only [Act.put, List.getElem_toArray, List.getElem_cons_succ, List.getElem_cons_zero, List.setIfInBounds_toArray, List.set_cons_zero, List.set_cons_succ]
  first | (refine wpAnyH_take (i := 16) rfl (by kernel_rfl) (by kernel_rfl) (by kernel_rfl) (fun _ _ _ h => h) (Or.inr ⟨by rfl, rfl⟩) hHeld ?_) | (refine wpAnyH_take (i := 16) (v := ?_) rfl (by kernel_rfl) (by kernel_rfl) (by kernel_rfl) (fun _ _ _ h => h) (Or.inl ⟨by rfl, ?_⟩) hHeld ?_; rotate_left; focus (intro w hSw; (try dsimp only at hSw); go_simp; (try with_reducible rfl)))
  try simp only [Act.put, List.getElem_toArray, List.getElem_cons_succ, List.getElem_cons_zero, List.setIfInBounds_toArray, List.set_cons_zero, List.set_cons_succ]
  first | (refine wpAnyH_take (i := 14) rfl (by kernel_rfl) (by kernel_rfl) (by kernel_rfl) (fun _ _ _ h => h) (Or.inr ⟨by rfl, rfl⟩) hHeld ?_) | (refine wpAnyH_ready (rs := [14]) (by kernel_rfl) (by simp) ?_; refine AllReadyH.cons rfl (fun K hK => ?_) AllReadyH.nil; go_simp; (first | (go_at_call 16; refine (C2.out _ (And.left (And.right hHeld))).mono ?_; rintro e w' ⟨A2, c2, rfl, hA2, hb⟩) | (go_at_call 23; refine (C3.out _ _ _ _ _ hA2 (And.left (And.right (And.right hHeld)))).mono ?_; rintro e w' ⟨rfl, hb⟩) | (go_at_call 13; refine (C4.out _ (And.left (And.right hHeld))).mono ?_; rintro e w' ⟨rfl, rfl⟩) | (go_at_call 14; refine (C5.out _ (And.left (And.right hHeld))).mono ?_; rintro e w' ⟨rfl, rfl⟩) | (go_at_call 15; refine (C6.out _ (And.left (And.right hHeld))).mono ?_; rintro e w' ⟨rfl, rfl⟩)); (try go_wp2_with fail); refine hK.out _ _ ?_ (fun hHeld' => ?_); (focus (first | exact hkeep _ _ hb hHeld | exact hHeld)); clear hK K; replace hHeld := hHeld'; clear hHeld')
  try simp only [Act.put, List.getElem_toArray, List.getElem_cons_succ, List.getElem_cons_zero, List.setIfInBounds_toArray, List.set_cons_zero, List.set_cons_succ]
  first | (refine wpAnyH_take (i := 17) rfl (by kernel_rfl) (by kernel_rfl) (by kernel_rfl) (fun _ _ _ h => h) (Or.inr ⟨by rfl, rfl⟩) hHeld ?_) | (refine wpAnyH_take (i := 17) (v := ?_) rfl (by kernel_rfl) (by kernel_rfl) (by kernel_rfl) (fun _ _ _ h => h) (Or.inl ⟨by rfl, ?_⟩) hHeld ?_; rotate_left; focus (intro w hSw; (try dsimp only at hSw); go_simp; (try with_reducible rfl)))
  try simp only [Act.put, List.getElem_toArray, List.getElem_cons_succ, List.getElem_cons_zero, List.setIfInBounds_toArray, List.set_cons_zero, List.set_cons_succ]
  (refine wpAnyH_take (i := 18) (v := ?_) rfl (by kernel_rfl) (by kernel_rfl) (by kernel_rfl) (fun _ _ _ h => h) (Or.inl ⟨by rfl, ?_⟩) hHeld ?_; rotate_left; focus (intro w hSw; (try dsimp only at hSw); go_simp; (try with_reducible rfl)))
  try simp only [Act.put, List.getElem_toArray, List.getElem_cons_succ, List.getElem_cons_zero, List.setIfInBounds_toArray, List.set_cons_zero, List.set_cons_succ]
  (refine wpAnyH_take (i := 19) (v := ?_) rfl (by kernel_rfl) (by kernel_rfl) (by kernel_rfl) (fun _ _ _ h => h) (Or.inl ⟨by rfl, ?_⟩) hHeld ?_; rotate_left; focus (intro w hSw; (try dsimp only at hSw); go_simp; (try with_reducible rfl)))
  try simp only [Act.put, List.getElem_toArray, List.getElem_cons_succ, List.getElem_cons_zero, List.setIfInBounds_toArray, List.set_cons_zero, List.set_cons_succ]
  first | (refine wpAnyH_take (i := 20) rfl (by kernel_rfl) (by kernel_rfl) (by kernel_rfl) (fun _ _ _ h => h) (Or.inr ⟨by rfl, rfl⟩) hHeld ?_) | (refine wpAnyH_take (i := 20) (v := ?_) rfl (by kernel_rfl) (by kernel_rfl) (by kernel_rfl) (fun _ _ _ h => h) (Or.inl ⟨by rfl, ?_⟩) hHeld ?_; rotate_left; focus (intro w hSw; (try dsimp only at hSw); go_simp; (try with_reducible rfl)))
  try simp only [Act.put, List.getElem_toArray, List.getElem_cons_succ, List.getElem_cons_zero, List.setIfInBounds_toArray, List.set_cons_zero, List.set_cons_succ]
  first | (refine wpAnyH_take (i := 21) rfl (by kernel_rfl) (by kernel_rfl) (by kernel_rfl) (fun _ _ _ h => h) (Or.inr ⟨by rfl, rfl⟩) hHeld ?_) | (refine wpAnyH_take (i := 21) (v := ?_) rfl (by kernel_rfl) (by kernel_rfl) (by kernel_rfl) (fun _ _ _ h => h) (Or.inl ⟨by rfl, ?_⟩) hHeld ?_; rotate_left; focus (intro w hSw; (try dsimp only at hSw); go_simp; (try with_reducible rfl)))
  try simp only [Act.put, List.getElem_toArray, List.getElem_cons_succ, List.getElem_cons_zero, List.setIfInBounds_toArray, List.set_cons_zero, List.set_cons_succ]
  first | (refine wpAnyH_take (i := 22) rfl (by kernel_rfl) (by kernel_rfl) (by kernel_rfl) (fun _ _ _ h => h) (Or.inr ⟨by rfl, rfl⟩) hHeld ?_) | (refine wpAnyH_take (i := 22) (v := ?_) rfl (by kernel_rfl) (by kernel_rfl) (by kernel_rfl) (fun _ _ _ h => h) (Or.inl ⟨by rfl, ?_⟩) hHeld ?_; rotate_left; focus (intro w hSw; (try dsimp only at hSw); go_simp; (try with_reducible rfl)))
  try simp only [Act.put, List.getElem_toArray, List.getElem_cons_succ, List.getElem_cons_zero, List.setIfInBounds_toArray, List.set_cons_zero, List.set_cons_succ]
  first | (refine wpAnyH_take (i := 23) rfl (by kernel_rfl) (by kernel_rfl) (by kernel_rfl) (fun _ _ _ h => h) (Or.inr ⟨by rfl, rfl⟩) hHeld ?_) | (refine wpAnyH_take (i := 23) (v := ?_) rfl (by kernel_rfl) (by kernel_rfl) (by kernel_rfl) (fun _ _ _ h => h) (Or.inl ⟨by rfl, ?_⟩) hHeld ?_; rotate_left; focus (intro w hSw; (try dsimp only at hSw); go_simp; (try with_reducible rfl)))
  try simp only [Act.put, List.getElem_toArray, List.getElem_cons_succ, List.getElem_cons_zero, List.setIfInBounds_toArray, List.set_cons_zero, List.set_cons_succ]
  (refine wpAnyH_take (i := 24) (v := ?_) rfl (by kernel_rfl) (by kernel_rfl) (by kernel_rfl) (fun _ _ _ h => h) (Or.inl ⟨by rfl, ?_⟩) hHeld ?_; rotate_left; focus (intro w hSw; (try dsimp only at hSw); go_simp; (try with_reducible rfl)))
  try simp only [Act.put, List.getElem_toArray, List.getElem_cons_succ, List.getElem_cons_zero, List.setIfInBounds_toArray, List.set_cons_zero, List.set_cons_succ]
  (refine wpAnyH_take (i := 25) (v := ?_) rfl (by kernel_rfl) (by kernel_rfl) (by kernel_rfl) (fun _ _ _ h => h) (Or.inl ⟨by rfl, ?_⟩) hHeld ?_; rotate_left; focus (intro w hSw; (try dsimp only at hSw); go_simp; (try with_reducible rfl)))
  try simp only [Act.put, List.getElem_toArray, List.getElem_cons_succ, List.getElem_cons_zero, List.setIfInBounds_toArray, List.set_cons_zero, List.set_cons_succ]
  first | (refine wpAnyH_take (i := 26) rfl (by kernel_rfl) (by kernel_rfl) (by kernel_rfl) (fun _ _ _ h => h) (Or.inr ⟨by rfl, rfl⟩) hHeld ?_) | (refine wpAnyH_take (i := 26) (v := ?_) rfl (by kernel_rfl) (by kernel_rfl) (by kernel_rfl) (fun _ _ _ h => h) (Or.inl ⟨by rfl, ?_⟩) hHeld ?_; rotate_left; focus (intro w hSw; (try dsimp only at hSw); go_simp; (try with_reducible rfl)))
  try simp only [Act.put, List.getElem_toArray, List.getElem_cons_succ, List.getElem_cons_zero, List.setIfInBounds_toArray, List.set_cons_zero, List.set_cons_succ]
  first | (refine wpAnyH_take (i := 27) rfl (by kernel_rfl) (by kernel_rfl) (by kernel_rfl) (fun _ _ _ h => h) (Or.inr ⟨by rfl, rfl⟩) hHeld ?_) | (refine wpAnyH_take (i := 27) (v := ?_) rfl (by kernel_rfl) (by kernel_rfl) (by kernel_rfl) (fun _ _ _ h => h) (Or.inl ⟨by rfl, ?_⟩) hHeld ?_; rotate_left; focus (intro w hSw; (try dsimp only at hSw); go_simp; (try with_reducible rfl)))
  try simp only [Act.put, List.getElem_toArray, List.getElem_cons_succ, List.getElem_cons_zero, List.setIfInBounds_toArray, List.set_cons_zero, List.set_cons_succ]
  first | (refine wpAnyH_take (i := 28) rfl (by kernel_rfl) (by kernel_rfl) (by kernel_rfl) (fun _ _ _ h => h) (Or.inr ⟨by rfl, rfl⟩) hHeld ?_) | (refine wpAnyH_take (i := 28) (v := ?_) rfl (by kernel_rfl) (by kernel_rfl) (by kernel_rfl) (fun _ _ _ h => h) (Or.inl ⟨by rfl, ?_⟩) hHeld ?_; rotate_left; focus (intro w hSw; (try dsimp only at hSw); go_simp; (try with_reducible rfl)))
  try simp only [Act.put, List.getElem_toArray, List.getElem_cons_succ, List.getElem_cons_zero, List.setIfInBounds_toArray, List.set_cons_zero, List.set_cons_succ]
  first | (refine wpAnyH_take (i := 29) rfl (by kernel_rfl) (by kernel_rfl) (by kernel_rfl) (fun _ _ _ h => h) (Or.inr ⟨by rfl, rfl⟩) hHeld ?_) | (refine wpAnyH_take (i := 29) (v := ?_) rfl (by kernel_rfl) (by kernel_rfl) (by kernel_rfl) (fun _ _ _ h => h) (Or.inl ⟨by rfl, ?_⟩) hHeld ?_; rotate_left; focus (intro w hSw; (try dsimp only at hSw); go_simp; (try with_reducible rfl)))
  try simp only [Act.put, List.getElem_toArray, List.getElem_cons_succ, List.getElem_cons_zero, List.setIfInBounds_toArray, List.set_cons_zero, List.set_cons_succ]
  (refine wpAnyH_take (i := 30) (v := ?_) rfl (by kernel_rfl) (by kernel_rfl) (by kernel_rfl) (fun _ _ _ h => h) (Or.inl ⟨by rfl, ?_⟩) hHeld ?_; rotate_left; focus (intro w hSw; (try dsimp only at hSw); go_simp; (try with_reducible rfl)))
  try simp only [Act.put, List.getElem_toArray, List.getElem_cons_succ, List.getElem_cons_zero, List.setIfInBounds_toArray, List.set_cons_zero, List.set_cons_succ]
  (refine wpAnyH_take (i := 31) (v := ?_) rfl (by kernel_rfl) (by kernel_rfl) (by kernel_rfl) (fun _ _ _ h => h) (Or.inl ⟨by rfl, ?_⟩) hHeld ?_; rotate_left; focus (intro w hSw; (try dsimp only at hSw); go_simp; (try with_reducible rfl)))
  try simp only [Act.put, List.getElem_toArray, List.getElem_cons_succ, List.getElem_cons_zero, List.setIfInBounds_toArray, List.set_cons_zero, List.set_cons_succ]
  first | (refine wpAnyH_take (i := 32) rfl (by kernel_rfl) (by kernel_rfl) (by kernel_rfl) (fun _ _ _ h => h) (Or.inr ⟨by rfl, rfl⟩) hHeld ?_) | (refine wpAnyH_take (i := 32) (v := ?_) rfl (by kernel_rfl) (by kernel_rfl) (by kernel_rfl) (fun _ _ _ h => h) (Or.inl ⟨by rfl, ?_⟩) hHeld ?_; rotate_left; focus (intro w hSw; (try dsimp only at hSw); go_simp; (try with_reducible rfl)))
  try simp only [Act.put, List.getElem_toArray, List.getElem_cons_succ, List.getElem_cons_zero, List.setIfInBounds_toArray, List.set_cons_zero, List.set_cons_succ]
  first | (refine wpAnyH_take (i := 34) rfl (by kernel_rfl) (by kernel_rfl) (by kernel_rfl) (fun _ _ _ h => h) (Or.inr ⟨by rfl, rfl⟩) hHeld ?_) | (refine wpAnyH_take (i := 34) (v := ?_) rfl (by kernel_rfl) (by kernel_rfl) (by kernel_rfl) (fun _ _ _ h => h) (Or.inl ⟨by rfl, ?_⟩) hHeld ?_; rotate_left; focus (intro w hSw; (try dsimp only at hSw); go_simp; (try with_reducible rfl)))
  try simp only [Act.put, List.getElem_toArray, List.getElem_cons_succ, List.getElem_cons_zero, List.setIfInBounds_toArray, List.set_cons_zero, List.set_cons_succ]
  first | (refine wpAnyH_take (i := 35) rfl (by kernel_rfl) (by kernel_rfl) (by kernel_rfl) (fun _ _ _ h => h) (Or.inr ⟨by rfl, rfl⟩) hHeld ?_) | (refine wpAnyH_take (i := 35) (v := ?_) rfl (by kernel_rfl) (by kernel_rfl) (by kernel_rfl) (fun _ _ _ h => h) (Or.inl ⟨by rfl, ?_⟩) hHeld ?_; rotate_left; focus (intro w hSw; (try dsimp only at hSw); go_simp; (try with_reducible rfl)))
  try simp only [Act.put, List.getElem_toArray, List.getElem_cons_succ, List.getElem_cons_zero, List.setIfInBounds_toArray, List.set_cons_zero, List.set_cons_succ]
  first | (refine wpAnyH_take (i := 33) rfl (by kernel_rfl) (by kernel_rfl) (by kernel_rfl) (fun _ _ _ h => h) (Or.inr ⟨by rfl, rfl⟩) hHeld ?_) | (refine wpAnyH_ready (rs := [33]) (by kernel_rfl) (by simp) ?_; refine AllReadyH.cons rfl (fun K hK => ?_) AllReadyH.nil; go_simp; (first | (go_at_call 16; refine (C2.out _ (And.left (And.right hHeld))).mono ?_; rintro e w' ⟨A2, c2, rfl, hA2, hb⟩) | (go_at_call 23; refine (C3.out _ _ _ _ _ hA2 (And.left (And.right (And.right hHeld)))).mono ?_; rintro e w' ⟨rfl, hb⟩) | (go_at_call 13; refine (C4.out _ (And.left (And.right hHeld))).mono ?_; rintro e w' ⟨rfl, rfl⟩) | (go_at_call 14; refine (C5.out _ (And.left (And.right hHeld))).mono ?_; rintro e w' ⟨rfl, rfl⟩) | (go_at_call 15; refine (C6.out _ (And.left (And.right hHeld))).mono ?_; rintro e w' ⟨rfl, rfl⟩)); (try go_wp2_with fail); refine hK.out _ _ ?_ (fun hHeld' => ?_); (focus (first | exact hkeep _ _ hb hHeld | exact hHeld)); clear hK K; replace hHeld := hHeld'; clear hHeld')
  try simp only [Act.put, List.getElem_toArray, List.getElem_cons_succ, List.getElem_cons_zero, List.setIfInBounds_toArray, List.set_cons_zero, List.set_cons_succ]
  first | (refine wpAnyH_take (i := 36) rfl (by kernel_rfl) (by kernel_rfl) (by kernel_rfl) (fun _ _ _ h => h) (Or.inr ⟨by rfl, rfl⟩) hHeld ?_) | (refine wpAnyH_take (i := 36) (v := ?_) rfl (by kernel_rfl) (by kernel_rfl) (by kernel_rfl) (fun _ _ _ h => h) (Or.inl ⟨by rfl, ?_⟩) hHeld ?_; rotate_left; focus (intro w hSw; (try dsimp only at hSw); go_simp; (try with_reducible rfl)))
  try simp only [Act.put, List.getElem_toArray, List.getElem_cons_succ, List.getElem_cons_zero, List.setIfInBounds_toArray, List.set_cons_zero, List.set_cons_succ]
  (refine wpAnyH_take (i := 37) (v := ?_) rfl (by kernel_rfl) (by kernel_rfl) (by kernel_rfl) (fun _ _ _ h => h) (Or.inl ⟨by rfl, ?_⟩) hHeld ?_; rotate_left; focus (intro w hSw; (try dsimp only at hSw); go_simp; (try with_reducible rfl)))
  try simp only [Act.put, List.getElem_toArray, List.getElem_cons_succ, List.getElem_cons_zero, List.setIfInBounds_toArray, List.set_cons_zero, List.set_cons_succ]
  (refine wpAnyH_take (i := 38) (v := ?_) rfl (by kernel_rfl) (by kernel_rfl) (by kernel_rfl) (fun _ _ _ h => h) (Or.inl ⟨by rfl, ?_⟩) hHeld ?_; rotate_left; focus (intro w hSw; (try dsimp only at hSw); go_simp; (try with_reducible rfl)))
  try simp only [Act.put, List.getElem_toArray, List.getElem_cons_succ, List.getElem_cons_zero, List.setIfInBounds_toArray, List.set_cons_zero, List.set_cons_succ]
  refine wpAnyH_done (by kernel_rfl) ?_ _
  refine NoPanic.normal ?_
  have hB9 := And.left hHeld
  clear hHeld
  go_wp2_with fail
  go_ret
  exact ⟨rfl, by rw [HZ.out]; exact hB9⟩
end Go.Proofs.Ytdgafadbajcllaa
