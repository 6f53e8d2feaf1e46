/- Package means: onSession of Del. · Package means: onSession. · Package means: onQueue. · Package means: onQueue of Peek and Pop. · Package means: onQueue of Pop. · Package means: onQueue. -/
import Derived.Test.YtiafjbhekfpkbaaGreatDoorJ19
namespace Go.Proofs.YtiafjbhekfpkbaaGreatDoor
set_option linter.unusedSimpArgs false
set_option linter.unusedVariables false
open Go.ChangeShapes Go.WideShapes Go.ChangeAt Go.RowKit
set_option linter.unusedSimpArgs false
set_option linter.unusedVariables false

theorem cells_only {F : Nat → Prop} {w w' : World} {b : Nat} {t : TypeId} {l : List Value} (h : Cells w b t l) (ho : Only F w w') (hn : ¬ F b) : Cells w' b t l := h.only ho hn

set_option maxRecDepth 100000 in
set_option maxHeartbeats 2000000 in
theorem mSess_del (A : Option Addr) (c : Nat) (L : List Rw) (hL : L.length ≤ 100000) (l key : Int) (pa pb hd : Nat) (r : Int) (w : World) (hl : Lies w A L) :
    Calls Tryz.prog 74 #[.agg #[.slice A L.length c], .agg #[.int .i64 2, .int .i64 l, .int .i64 key, .int .u64 (pa : Nat), .int .u64 (pb : Nat), .int .u64 (hd : Nat), .int .i64 r]] w fun e w' => ∃ v, e = .returned (.tuple #[.agg #[v], bif isAt L key then ansV 0 (dropX L key).a (dropX L key).b 0 0 0 else ansV 6 0 0 0 0 0]) ∧ Told w' v (dropL L key) ∧ Below w.heap.size w w' := by
  have C2 := Lib.hid (fun W (hb : Below w.heap.size w W) => mFind_any A c L (by omega) key W (hl.keep hb))
  have CD := Lib.hid (fun W (hb : Below w.heap.size w W) => rDropO_any A c L (by omega) key W (hl.keep hb))
  clear hl
  generalize hn : L.length = n at *
  clear hn
  generalize (dropX L key).a = xa at *
  generalize (dropX L key).b = xb at *
  generalize isAt L key = th at *
  have CF := Lib.hid (fun W => mFound_any xa xb th 6 W)
  obtain ⟨fe, fa, fb, hf⟩ : ∃ (fe : Int) (fa fb : Nat), (bif th then ansV 0 xa xb 0 0 0 else ansV 6 0 0 0 0 0) = .agg #[.int .i64 fe, .int .u64 (fa : Nat), .int .u64 (fb : Nat), .int .u64 0, .int .i64 0, .int .i64 0] := by
    cases th
    · exact ⟨6, 0, 0, rfl⟩
    · exact ⟨0, xa, xb, rfl⟩
  rw [hf] at CF
  have HFV := Lib.hid hf; clear hf
  go_enter Tryz.func74, Tryz.ntmps74
  go_upto_region 10 with fail
  generalize hW : World.alloc _ _ = W
  obtain ⟨hB, x0, x1, x2, x3, x4⟩ := five_cells _ _ _ _ _ _ _ _ _ _ _ W hW
  clear hW
  generalize hg : w.heap.size = g at *
  have HG := Lib.hid hg; clear hg
  have HGW : Hid (g + 5 ≤ W.heap.size) := Lib.hid (by have := x4.lt; omega)
  have y0 := x0.cell 0
  have y2 := x1.cell 2
  have HXW := Lib.hid (And.intro hB (And.intro x0 (And.intro x1 (And.intro x2 (And.intro x3 x4)))))
  clear x0 x1 x2 x3 x4 hB
  go_upto_region 11 with (go_at_call 90; refine (CD.out _ HXW.out.1).mono ?_; rintro e w' ⟨v, rfl, hT, hb⟩; have HT := Lib.hid (toldO_up hT HGW.out); obtain ⟨A5, c5, rfl⟩ := told_parts (told_of_own hT); clear hT; have s0 := (HXW.out.2.2.2.2.2.keep hb).cell 0; have s1 := (HXW.out.2.2.2.2.2.keep hb).frozen 0; have HS8 := Lib.hid hb; clear hb)
  generalize (dropL L key).length = n5 at *
  clear s0 s1 y0 y2
  generalize hX : World.setCell _ _ _ = X
  have HOX : Hid (Only (fun i => g ≤ i ∧ i < g + 5) w' X) := Lib.hid (by subst hX; exact Only.setCell (Only.refl _ _) (p := ⟨g + 1 + 1 + 1 + 1, 0, none⟩) (show g ≤ g + 1 + 1 + 1 + 1 ∧ g + 1 + 1 + 1 + 1 < g + 5 by omega) _)
  have hne0 : g ≠ g + 1 + 1 + 1 + 1 := by omega
  have hne1 : g + 1 ≠ g + 1 + 1 + 1 + 1 := by omega
  have hne2 : g + 1 + 1 ≠ g + 1 + 1 + 1 + 1 := by omega
  have hne3 : g + 1 + 1 + 1 ≠ g + 1 + 1 + 1 + 1 := by omega
  have HXS : Hid (Below g w X ∧ Cells X g 51 [.slice A n c] ∧ Cells X (g + 1 + 1) 51 [.slice none 0 0] ∧ Cells X (g + 1 + 1 + 1) 36 [.int .i64 0, .int .u64 0, .int .u64 0, .int .u64 0, .int .i64 0, .int .i64 0] ∧ Cells X (g + 1 + 1 + 1 + 1) 51 [.slice A5 n5 c5]) := by
    refine Lib.hid ⟨Below.only (HXW.out.1.trans (HS8.out.mono (by have := HGW.out; omega))) HOX.out (by have := HGW.out; have := HS8.out.size; omega) (fun i hi => hi.1), ?_⟩
    subst hX
    exact ⟨(HXW.out.2.1.keep HS8.out).far (p := ⟨g + 1 + 1 + 1 + 1, 0, none⟩) hne0 _, (HXW.out.2.2.2.1.keep HS8.out).far (p := ⟨g + 1 + 1 + 1 + 1, 0, none⟩) hne2 _, (HXW.out.2.2.2.2.1.keep HS8.out).far (p := ⟨g + 1 + 1 + 1 + 1, 0, none⟩) hne3 _, (HXW.out.2.2.2.2.2.keep HS8.out).set_ 0 _⟩
  have y0 := HXS.out.2.1.cell 0
  have y2 : X.cell? ⟨g + 1, 2, none⟩ = some (.int .i64 key) := by
    subst hX
    exact ((HXW.out.2.2.1.keep HS8.out).far (p := ⟨g + 1 + 1 + 1 + 1, 0, none⟩) hne1 _).cell 2
  have HGX : Hid (g + 5 ≤ X.heap.size) := Lib.hid (by have := HGW.out; have := HS8.out.size; have := HOX.out.size; omega)
  have HTX := Lib.hid (toldO_only HT.out HOX.out (fun i hi => hi.2))
  clear hX hne0 hne1 hne2 hne3 HT HXW HS8 HGW HOX
  clear w'
  clear W
  clear CD
  generalize (dropX L key).k = xk
  generalize hXW : X = W at *
  clear hXW
  have HGW := HGX
  clear HGX
  go_upto_region 12 with (go_at_call 91; refine (C2.out _ HXS.out.1).mono ?_; rintro e w6 ⟨rfl, hb6⟩; have HB6 := Lib.hid hb6; clear hb6)
  generalize hW6 : w6.alloc _ = V
  obtain ⟨v0, v1, vs⟩ : V.cell? ⟨w6.heap.size, 0, none⟩ = some (.int .u64 (xa : Nat)) ∧ V.cell? ⟨w6.heap.size, 1, none⟩ = some (.int .u64 (xb : Nat)) ∧ Below w6.heap.size w6 V := by
    subst hW6
    exact ⟨(Cells.new _ _ _).cell 0, (Cells.new _ _ _).cell 1, (Below.refl _ w6).alloc (Nat.le_refl _) _⟩
  have hVS : w6.heap.size < V.heap.size := by subst hW6; simp
  have hpW : W.heap.size ≤ w6.heap.size := HB6.out.size
  clear hW6
  have HBV := Lib.hid (HB6.out.trans (vs.mono HB6.out.size))
  generalize hq : w6.heap.size = p at *
  clear hq
  have HK0 : Hid (g + 5 ≤ V.heap.size ∧ p < V.heap.size ∧ W.heap.size ≤ p) := Lib.hid ⟨by have := HGW.out; have := HBV.out.size; omega, hVS, hpW⟩
  have HKS : Hid (Slot2 g 51 36 V V) := Lib.hid ⟨Only.refl _ _, ⟨_, HXS.out.2.2.1.keep HBV.out⟩, ⟨_, _, _, _, _, _, HXS.out.2.2.2.1.keep HBV.out⟩⟩
  have u4 := (HXS.out.2.2.2.2.keep HBV.out).cell 0
  have HK : Hid (∀ w', Slot2 g 51 36 V w' → (Slot2 g 51 36 V w' ∧ w'.cell? ⟨g + 1 + 1 + 1 + 1, 0, none⟩ = some (.slice A5 n5 c5) ∧ w'.cell? ⟨p, 0, none⟩ = some (.int .u64 (xa : Nat)) ∧ w'.cell? ⟨p, 1, none⟩ = some (.int .u64 (xb : Nat)))) := Lib.hid fun w' h => ⟨h, by rw [h.cell (show g + 1 + 1 + 1 + 1 < _ by have := HK0.out; omega) (show ¬ (g ≤ g + 1 + 1 + 1 + 1 ∧ g + 1 + 1 + 1 + 1 < g + 4) by omega)]; exact u4, by rw [h.cell (show p < _ from HK0.out.2.1) (show ¬ (g ≤ p ∧ p < g + 4) by have := HK0.out; have := HGW.out; omega)]; exact v0, by rw [h.cell (show p < _ from HK0.out.2.1) (show ¬ (g ≤ p ∧ p < g + 4) by have := HK0.out; have := HGW.out; omega)]; exact v1⟩
  clear v0 v1 vs u4 hVS hpW
  refine wp_region_noPanic ?_
  refine wp_region_held_drew (S := fun w' => (Slot2 g 51 36 V w' ∧ w'.cell? ⟨g + 1 + 1 + 1 + 1, 0, none⟩ = some (.slice A5 n5 c5) ∧ w'.cell? ⟨p, 0, none⟩ = some (.int .u64 (xa : Nat)) ∧ w'.cell? ⟨p, 1, none⟩ = some (.int .u64 (xb : Nat)))) (by kernel_rfl) (HK.out _ (HKS.out.step (Below.refl _ _).drew)) (fun hHeld => ?_)
  try simp only [List.size_toArray, List.length_cons, List.length_nil, Nat.reduceAdd, Nat.reduceSub, Array.replicate_succ, Array.replicate_zero, List.push_toArray, List.append_toArray, List.nil_append, List.cons_append]   -- the listed as a literal: else each operation taken costs more than the last
  (refine wpAnyH_take (i := 0) (v := ?_) rfl (by kernel_rfl) (by kernel_rfl) (by kernel_rfl) (fun _ _ _ h => h) (Or.inl ⟨by rfl, ?_⟩) hHeld ?_; rotate_left; focus (intro w hSw; (try dsimp only at hSw); go_simp; (try with_reducible rfl)))
  try simp only [Act.put, List.getElem_toArray, List.getElem_cons_succ, List.getElem_cons_zero, List.setIfInBounds_toArray, List.set_cons_zero, List.set_cons_succ]
  (refine wpAnyH_take (i := 1) (v := ?_) rfl (by kernel_rfl) (by kernel_rfl) (by kernel_rfl) (fun _ _ _ h => h) (Or.inl ⟨by rfl, ?_⟩) hHeld ?_; rotate_left; focus (intro w hSw; (try dsimp only at hSw); go_simp; (try with_reducible rfl)))
  try simp only [Act.put, List.getElem_toArray, List.getElem_cons_succ, List.getElem_cons_zero, List.setIfInBounds_toArray, List.set_cons_zero, List.set_cons_succ]
  (refine wpAnyH_take (i := 2) (v := ?_) rfl (by kernel_rfl) (by kernel_rfl) (by kernel_rfl) (fun _ _ _ h => h) (Or.inl ⟨by rfl, ?_⟩) hHeld ?_; rotate_left; focus (intro w hSw; (try dsimp only at hSw); go_simp; (try with_reducible rfl)))
  try simp only [Act.put, List.getElem_toArray, List.getElem_cons_succ, List.getElem_cons_zero, List.setIfInBounds_toArray, List.set_cons_zero, List.set_cons_succ]
  (refine wpAnyH_ready (rs := [3]) (by kernel_rfl) (by simp) ?_; refine AllReadyH.cons rfl (fun K hK => ?_) AllReadyH.nil; go_simp; (go_at_call 92; refine (CF.out _).mono ?_; rintro e w' ⟨rfl, hb⟩; have HS8 := Lib.hid (hHeld.1.step hb)); (try go_wp2_with fail); refine hK.out _ _ ?_ (fun hHeld' => ?_); (focus (first | with_reducible exact HK.out _ (hHeld.1.step hb) | with_reducible exact HK.out _ (hHeld.1.set2 _) | with_reducible exact HK.out _ (hHeld.1.set3 _ _ _ _ _ _))); clear hK K; replace hHeld := hHeld'; clear hHeld')
  try simp only [Act.put, List.getElem_toArray, List.getElem_cons_succ, List.getElem_cons_zero, List.setIfInBounds_toArray, List.set_cons_zero, List.set_cons_succ]
  (refine wpAnyH_ready (rs := [4]) (by kernel_rfl) (by simp) ?_; refine AllReadyH.cons rfl (fun K hK => ?_) AllReadyH.nil; (obtain ⟨q0, X2⟩ := hHeld.1.c2; obtain ⟨q1, q2, q3, q4, q5, q6, X3⟩ := hHeld.1.c3; have s0 := X2.cell 0; have s1 := X2.frozen 0; have e0 := X3.cell 0; have e1 := X3.cell 1; have e2 := X3.cell 2; have e3 := X3.cell 3; have e4 := X3.cell 4; have e5 := X3.cell 5; have ef := fun i => X3.frozen i); go_simp; (try go_wp2_with fail); refine hK.out _ _ ?_ (fun hHeld' => ?_); (focus (first | with_reducible exact HK.out _ (hHeld.1.step hb) | with_reducible exact HK.out _ (hHeld.1.set2 _) | with_reducible exact HK.out _ (hHeld.1.set3 _ _ _ _ _ _))); clear hK K; replace hHeld := hHeld'; clear hHeld')
  try simp only [Act.put, List.getElem_toArray, List.getElem_cons_succ, List.getElem_cons_zero, List.setIfInBounds_toArray, List.set_cons_zero, List.set_cons_succ]
  (refine wpAnyH_ready (rs := [5]) (by kernel_rfl) (by simp) ?_; refine AllReadyH.cons rfl (fun K hK => ?_) AllReadyH.nil; (obtain ⟨q0, X2⟩ := hHeld.1.c2; obtain ⟨q1, q2, q3, q4, q5, q6, X3⟩ := hHeld.1.c3; have s0 := X2.cell 0; have s1 := X2.frozen 0; have e0 := X3.cell 0; have e1 := X3.cell 1; have e2 := X3.cell 2; have e3 := X3.cell 3; have e4 := X3.cell 4; have e5 := X3.cell 5; have ef := fun i => X3.frozen i); go_simp; (try go_wp2_with fail); refine hK.out _ _ ?_ (fun hHeld' => ?_); (focus (first | with_reducible exact HK.out _ (hHeld.1.step hb) | with_reducible exact HK.out _ (hHeld.1.set2 _) | with_reducible exact HK.out _ (hHeld.1.set3 _ _ _ _ _ _))); clear hK K; replace hHeld := hHeld'; clear hHeld')
  try simp only [Act.put, List.getElem_toArray, List.getElem_cons_succ, List.getElem_cons_zero, List.setIfInBounds_toArray, List.set_cons_zero, List.set_cons_succ]
  refine wpAnyH_done (by kernel_rfl) ?_ _
  refine NoPanic.normal ?_
  clear hHeld
  generalize hX : World.setCell _ _ _ = X
  obtain ⟨q0, h2⟩ := HS8.out.c2
  obtain ⟨q1, q2, q3, q4, q5, q6, h3⟩ := HS8.out.c3
  obtain ⟨r2, r3, ro⟩ := res_two h2 h3 _ _ _ _ _ _ _ X hX
  go_wp2_with fail
  have s0 := r2.cell 0
  have t0 := r3.cell 0
  have t1 := r3.cell 1
  have t2 := r3.cell 2
  have t3 := r3.cell 3
  have t4 := r3.cell 4
  have t5 := r3.cell 5
  have hbb : Below g w X := Below.only ((HXS.out.1.trans (HBV.out.mono (by have := HGW.out; omega)))) (HS8.out.only.trans ro) (by have := HK0.out; omega) (fun i hi => hi.1)
  refine bodyPost_ret (v := .tuple #[.agg #[.slice A5 n5 c5], .agg #[.int .i64 fe, .int .u64 (fa : Nat), .int .u64 (fb : Nat), .int .u64 0, .int .i64 0, .int .i64 0]]) (by simp [results, Tryz.results74, go_sem, s0, t0, t1, t2, t3, t4, t5]) rfl ⟨_, by rw [HFV.out], told_of_own (toldO_only (toldO_only HTX.out ((only_below HBV.out (fun i => g ≤ i ∧ i < g + 5))) (fun i hi => hi.2)) (HS8.out.only.trans ro) (fun i hi => by omega)), by rw [HG.out]; exact hbb⟩
end Go.Proofs.YtiafjbhekfpkbaaGreatDoor
namespace Go.Proofs.YtiafjbhekfpkbaaGreatDoor
set_option linter.unusedSimpArgs false
set_option linter.unusedVariables false
open Go.ChangeShapes Go.WideShapes Go.ChangeAt Go.RowKit
set_option linter.unusedSimpArgs false
set_option linter.unusedVariables false

set_option maxRecDepth 100000 in
set_option maxHeartbeats 2000000 in
theorem mSess_other (A : Option Addr) (c : Nat) (L : List Rw) (op l key : Int) (h0 : ¬ op = 0) (h1 : ¬ op = 1) (h2 : ¬ op = 2) (pa pb hd : Nat) (r : Int) (w : World) (hl : Lies w A L) :
    Calls Tryz.prog 74 #[.agg #[.slice A L.length c], .agg #[.int .i64 op, .int .i64 l, .int .i64 key, .int .u64 (pa : Nat), .int .u64 (pb : Nat), .int .u64 (hd : Nat), .int .i64 r]] w fun e w' => ∃ v, e = .returned (.tuple #[.agg #[v], ansV 0 0 0 0 0 0]) ∧ Told w' v L ∧ Below w.heap.size w w' := by
  have HA := Lib.hid hl
  clear hl
  generalize hn : L.length = n at *
  have HN := Lib.hid hn; clear hn
  go_enter Tryz.func74, Tryz.ntmps74
  go_upto_region 13 with fail
  generalize hW : World.alloc _ _ = W
  obtain ⟨hB, x0, x1, x2, x3, x4⟩ := five_cells _ _ _ _ _ _ _ _ _ _ _ W hW
  clear hW
  generalize hg : w.heap.size = g at *
  have HG := Lib.hid hg; clear hg
  have HGW : Hid (g + 5 ≤ W.heap.size) := Lib.hid (by have := x4.lt; omega)
  have y0 := x0.cell 0
  have v0 := x2.cell 0
  have v1 := x2.frozen 0
  have e0 := x3.cell 0
  have e1 := x3.cell 1
  have e2 := x3.cell 2
  have e3 := x3.cell 3
  have e4 := x3.cell 4
  have e5 := x3.cell 5
  have ef := fun i => x3.frozen i
  have HX := Lib.hid (And.intro hB (And.intro x2 x3))
  clear x0 x1 x2 x3 x4 hB
  obtain ⟨X, hX⟩ : ∃ X, ((((((W.setCell ⟨g + 1 + 1, 0, none⟩ (.slice A n c)).setCell ⟨g + 1 + 1 + 1, 0, none⟩ (.int .i64 0)).setCell ⟨g + 1 + 1 + 1, 1, none⟩ (.int .u64 0)).setCell ⟨g + 1 + 1 + 1, 2, none⟩ (.int .u64 0)).setCell ⟨g + 1 + 1 + 1, 3, none⟩ (.int .u64 0)).setCell ⟨g + 1 + 1 + 1, 4, none⟩ (.int .i64 0)).setCell ⟨g + 1 + 1 + 1, 5, none⟩ (.int .i64 0) = X := ⟨_, rfl⟩
  obtain ⟨r2, r3, ro⟩ := res_two HX.out.2.1 HX.out.2.2 _ _ _ _ _ _ _ X hX
  have HR := Lib.hid (And.intro r2 (And.intro r3 ro))
  clear r2 r3 ro
  have HXX := Lib.hid hX
  clear hX
  go_wp2_with fail
  rw [HXX.out]
  obtain ⟨r2, r3, ro⟩ := HR.out
  have s0 := r2.cell 0
  have t0 := r3.cell 0
  have t1 := r3.cell 1
  have t2 := r3.cell 2
  have t3 := r3.cell 3
  have t4 := r3.cell 4
  have t5 := r3.cell 5
  have hbb : Below g w X := Below.only HX.out.1 ro (by have := HGW.out; omega) (fun i hi => hi.1)
  exact bodyPost_ret (v := .tuple #[.agg #[.slice A n c], .agg #[.int .i64 0, .int .u64 0, .int .u64 0, .int .u64 0, .int .i64 0, .int .i64 0]]) (by simp [results, Tryz.results74, go_sem, s0, t0, t1, t2, t3, t4, t5]) rfl ⟨_, rfl, ⟨A, c, by rw [HN.out], HA.out.keep (by rw [HG.out]; exact hbb)⟩, by rw [HG.out]; exact hbb⟩

/-- What onSession does. -/
theorem mSess_any (A : Option Addr) (c : Nat) (L : List Rw) (hL : L.length ≤ 100000) (op l key : Int) (pa pb hd : Nat) (r : Int) (w : World) (hl : Lies w A L) :
    Calls Tryz.prog 74 #[.agg #[.slice A L.length c], .agg #[.int .i64 op, .int .i64 l, .int .i64 key, .int .u64 (pa : Nat), .int .u64 (pb : Nat), .int .u64 (hd : Nat), .int .i64 r]] w fun e w' => ∃ v, e = .returned (.tuple #[.agg #[v], sessA L op key]) ∧ Told w' v (sessL L op key pa pb) ∧ Below w.heap.size w w' := by
  unfold sessA sessL
  rcases Classical.em (op = 0) with rfl | h0
  · simpa using mSess_put A c L hL l key pa pb hd r w hl
  rcases Classical.em (op = 1) with rfl | h1
  · simpa using mSess_get A c L hL l key pa pb hd r w hl
  rcases Classical.em (op = 2) with rfl | h2
  · simpa using mSess_del A c L hL l key pa pb hd r w hl
  simpa [h0, h1, h2] using mSess_other A c L op l key h0 h1 h2 pa pb hd r w hl
end Go.Proofs.YtiafjbhekfpkbaaGreatDoor
namespace Go.Proofs.YtiafjbhekfpkbaaGreatDoor
set_option linter.unusedSimpArgs false
set_option linter.unusedVariables false
open Go.ChangeShapes Go.WideShapes Go.ChangeAt Go.RowKit
set_option linter.unusedSimpArgs false
set_option linter.unusedVariables false

/-- The first of a line, and whether it is there. -/
def hdP (L : List Pr) : Pr := L.headD ⟨0, 0⟩
def thP (L : List Pr) : Bool := !L.isEmpty
theorem hdP_nth (L : List Pr) : hdP L = nthP L 0 := by cases L <;> rfl
/-- What a call of a queue does: the line behind; what it is answered. -/
def queL (L : List Pr) (op : Int) (pa pb : Nat) : List Pr := bif decide (op = 6) then L ++ [(⟨pa, pb⟩ : Pr)] else bif decide (op = 7) then L.tail else L
def queA (L : List Pr) (op : Int) : Value :=
  bif decide (op = 7) || decide (op = 8) then (bif thP L then ansV 0 (hdP L).a (hdP L).b 0 0 0 else ansV 6 0 0 0 0 0) else ansV 0 0 0 0 0 0
theorem lnIs_parts {w : World} {v : Value} {n : Nat} {cs : List Value} (h : LnIs w v n cs) : ∃ A c, v = .slice A n c := by
  obtain ⟨A, c, e, _⟩ := h
  exact ⟨A, c, e⟩

theorem lnPPeek_any (A : Option Addr) (c : Nat) (L : List Pr) (hL : L.length ≤ 1000000) (w : World) (hA : LiesC w A (flatP L)) :
    Calls Tryz.prog 98 #[.agg #[.slice A L.length c]] w fun e w' => e = .returned (.tuple #[.agg #[.int .u64 ((hdP L).a : Nat), .int .u64 ((hdP L).b : Nat)], .bool (thP L)]) ∧ Below w.heap.size w w' := by
  cases L with
  | nil => exact lnPPeek_nil A c w
  | cons x M => exact lnPPeek_some A c (x :: M) hL (by simp) x rfl w hA
theorem lnPPop_any (A : Option Addr) (c : Nat) (L : List Pr) (hL : L.length ≤ 100000) (hc : L.length ≤ c) (hcm : c ≤ maxLen) (hnA : A = none → c = 0) (w : World) (hA : LiesC w A (flatP L)) (hbk : ∀ a, A = some a → a.block < w.heap.size) :
    Calls Tryz.prog 97 #[.agg #[.slice A L.length c]] w fun e w' => ∃ v, e = .returned (.tuple #[.agg #[v], .agg #[.int .u64 ((hdP L).a : Nat), .int .u64 ((hdP L).b : Nat)], .bool (thP L)]) ∧ LnIs w' v L.tail.length (flatP L.tail) ∧ (∀ k, v.ownBlock = some k → (Value.slice A 0 0).ownBlock = some k) ∧ Below w.heap.size w w' := by
  cases L with
  | nil => exact (lnPPop_nil A c w).mono fun e w' ⟨h1, h2⟩ => ⟨_, h1, (show LnIs w (.slice A 0 c) 0 (flatP []) from ⟨A, c, rfl, hc, hcm, hnA, hA, hbk⟩).keep h2, (fun k hk => by cases A <;> exact hk), h2⟩
  | cons x M => exact (lnPPop_some A c x M (by simp at hL; omega) hc hcm w hA).mono fun e w' ⟨v, h1, h2, h3, h4⟩ => ⟨v, h1, h2, (fun k hk => by rw [← h3]; exact hk), h4⟩

set_option maxRecDepth 100000 in
set_option maxHeartbeats 2000000 in
theorem mQue_push (A : Option Addr) (c : Nat) (L : List Pr) (hL : L.length ≤ 100000) (l key : Int) (pa pb hd : Nat) (r : Int) (w : World) (hc : L.length ≤ c) (hcm : c ≤ maxLen) (hnA : A = none → c = 0) (hA : LiesC w A (flatP L)) (hbk : ∀ a, A = some a → a.block < w.heap.size) :
    Calls Tryz.prog 76 #[.agg #[.slice A L.length c], .agg #[.int .i64 6, .int .i64 l, .int .i64 key, .int .u64 (pa : Nat), .int .u64 (pb : Nat), .int .u64 (hd : Nat), .int .i64 r]] w fun e w' => ∃ v, e = .returned (.tuple #[.agg #[v], ansV 0 0 0 0 0 0]) ∧ LnIs w' v (L ++ [(⟨pa, pb⟩ : Pr)]).length (flatP (L ++ [(⟨pa, pb⟩ : Pr)])) ∧ Stem (.slice A L.length c) w.heap.size v ∧ Below w.heap.size w w' := by
  have C2 := Lib.hid (fun W (hb : Below w.heap.size w W) => lnPPush_any A c L (by omega) hc hcm hnA ⟨pa, pb⟩ W (hA.keep hb))
  rw [show (L ++ [(⟨pa, pb⟩ : Pr)]).length = L.length + 1 by simp]
  clear hA
  generalize L.length = n at *
  go_enter Tryz.func76, Tryz.ntmps76
  go_upto_region 6 with fail
  generalize hW : World.alloc _ _ = W
  obtain ⟨hB, x0, x1, x2, x3, x4⟩ := five_cells _ _ _ _ _ _ _ _ _ _ _ W hW
  clear hW
  generalize hg : w.heap.size = g at *
  have HG := Lib.hid hg; clear hg
  have HGW : Hid (g + 5 ≤ W.heap.size) := Lib.hid (by have := x4.lt; omega)
  have y0 := x0.cell 0
  have y3 := x1.cell 3
  have y4 := x1.cell 4
  have HX := Lib.hid (And.intro hB (And.intro x2 x3))
  clear x0 x1 x2 x3 x4 hB
  go_wp2_with (go_at_call 96; refine (C2.out _ HX.out.1).mono ?_; rintro e w' ⟨v, rfl, hv, hf, hb⟩; have HF := Lib.hid (And.intro hv hf); obtain ⟨A4, c4, rfl⟩ := lnIs_parts hv; have HB8 := Lib.hid hb; have z2 := HX.out.2.1.keep hb; have z3 := HX.out.2.2.keep hb; have v0 := z2.cell 0; have v1 := z2.frozen 0; have e0 := z3.cell 0; have e1 := z3.cell 1; have e2 := z3.cell 2; have e3 := z3.cell 3; have e4 := z3.cell 4; have e5 := z3.cell 5; have ef := fun i => z3.frozen i; clear hv hf hb z2 z3)
  generalize hX : World.setCell _ _ _ = X
  obtain ⟨r2, r3, ro⟩ := res_two (HX.out.2.1.keep HB8.out) (HX.out.2.2.keep HB8.out) _ _ _ _ _ _ _ X hX
  have s0 := r2.cell 0
  have t0 := r3.cell 0
  have t1 := r3.cell 1
  have t2 := r3.cell 2
  have t3 := r3.cell 3
  have t4 := r3.cell 4
  have t5 := r3.cell 5
  have hbb : Below g w X := Below.only (HX.out.1.trans (HB8.out.mono (by have := HGW.out; omega))) ro (by have := HGW.out; have := HB8.out.size; omega) (fun i hi => hi.1)
  refine bodyPost_ret (v := .tuple #[.agg #[.slice A4 (n + 1) c4], .agg #[.int .i64 0, .int .u64 0, .int .u64 0, .int .u64 0, .int .i64 0, .int .i64 0]]) (by simp [results, Tryz.results76, go_sem, s0, t0, t1, t2, t3, t4, t5]) rfl ⟨_, rfl, HF.out.1.only ro (fun k hk hi => by have := HF.out.2 k hk; have := HGW.out; omega), (fun k hk => .inr (by have := HF.out.2 k hk; have := HGW.out; have := HG.out; omega)), by rw [HG.out]; exact hbb⟩
end Go.Proofs.YtiafjbhekfpkbaaGreatDoor
namespace Go.Proofs.YtiafjbhekfpkbaaGreatDoor
set_option linter.unusedSimpArgs false
set_option linter.unusedVariables false
open Go.ChangeShapes Go.WideShapes Go.ChangeAt Go.RowKit
set_option linter.unusedSimpArgs false
set_option linter.unusedVariables false

set_option maxRecDepth 100000 in
set_option maxHeartbeats 2000000 in
theorem mQue_peek (A : Option Addr) (c : Nat) (L : List Pr) (hL : L.length ≤ 100000) (l key : Int) (pa pb hd : Nat) (r : Int) (w : World) (hc : L.length ≤ c) (hcm : c ≤ maxLen) (hnA : A = none → c = 0) (hA : LiesC w A (flatP L)) (hbk : ∀ a, A = some a → a.block < w.heap.size) :
    Calls Tryz.prog 76 #[.agg #[.slice A L.length c], .agg #[.int .i64 8, .int .i64 l, .int .i64 key, .int .u64 (pa : Nat), .int .u64 (pb : Nat), .int .u64 (hd : Nat), .int .i64 r]] w fun e w' => ∃ v, e = .returned (.tuple #[.agg #[v], bif thP L then ansV 0 (hdP L).a (hdP L).b 0 0 0 else ansV 6 0 0 0 0 0]) ∧ LnIs w' v L.length (flatP L) ∧ Stem (.slice A L.length c) w.heap.size v ∧ Below w.heap.size w w' := by
  have C2 := Lib.hid (fun W (hb : Below w.heap.size w W) => lnPPeek_any A c L (by omega) W (hA.keep hb))
  have HV := Lib.hid (show LnIs w (.slice A L.length c) L.length (flatP L) from ⟨A, c, rfl, hc, hcm, hnA, hA, hbk⟩)
  clear hA hbk
  generalize L.length = n at *
  generalize (hdP L).a = xa at *
  generalize (hdP L).b = xb at *
  generalize thP L = th at *
  have CF := Lib.hid (fun W => mFound_any xa xb th 6 W)
  obtain ⟨fe, fa, fb, hf⟩ : ∃ (fe : Int) (fa fb : Nat), (bif th then ansV 0 xa xb 0 0 0 else ansV 6 0 0 0 0 0) = .agg #[.int .i64 fe, .int .u64 (fa : Nat), .int .u64 (fb : Nat), .int .u64 0, .int .i64 0, .int .i64 0] := by
    cases th
    · exact ⟨6, 0, 0, rfl⟩
    · exact ⟨0, xa, xb, rfl⟩
  rw [hf] at CF
  have HFV := Lib.hid hf; clear hf
  go_enter Tryz.func76, Tryz.ntmps76
  go_upto_region 8 with fail
  generalize hW : World.alloc _ _ = W
  obtain ⟨hB, x0, x1, x2, x3, x4⟩ := five_cells _ _ _ _ _ _ _ _ _ _ _ W hW
  clear hW
  generalize hg : w.heap.size = g at *
  have HG := Lib.hid hg; clear hg
  have HGW : Hid (g + 5 ≤ W.heap.size) := Lib.hid (by have := x4.lt; omega)
  have y0 := x0.cell 0
  have HXS := Lib.hid (And.intro hB (And.intro x0 (And.intro x2 (And.intro x3 x4))))
  clear x0 x1 x2 x3 x4 hB
  obtain ⟨A5, n5, c5, h5⟩ : ∃ A5 n5 c5, (A5 = A ∧ n5 = n) ∧ c5 = c := ⟨_, _, _, ⟨rfl, rfl⟩, rfl⟩
  obtain ⟨⟨rfl, rfl⟩, rfl⟩ := h5
  go_upto_region 9 with (go_at_call 98; refine (C2.out _ HXS.out.1).mono ?_; rintro e w6 ⟨rfl, hb6⟩; have HB6 := Lib.hid hb6; clear hb6)
  generalize hW6 : w6.alloc _ = V
  obtain ⟨v0, v1, vs⟩ : V.cell? ⟨w6.heap.size, 0, none⟩ = some (.int .u64 (xa : Nat)) ∧ V.cell? ⟨w6.heap.size, 1, none⟩ = some (.int .u64 (xb : Nat)) ∧ Below w6.heap.size w6 V := by
    subst hW6
    exact ⟨(Cells.new _ _ _).cell 0, (Cells.new _ _ _).cell 1, (Below.refl _ w6).alloc (Nat.le_refl _) _⟩
  have hVS : w6.heap.size < V.heap.size := by subst hW6; simp
  have hpW : W.heap.size ≤ w6.heap.size := HB6.out.size
  clear hW6
  have HBV := Lib.hid (HB6.out.trans (vs.mono HB6.out.size))
  generalize hq : w6.heap.size = p at *
  clear hq
  have HK0 : Hid (g + 5 ≤ V.heap.size ∧ p < V.heap.size ∧ W.heap.size ≤ p) := Lib.hid ⟨by have := HGW.out; have := HBV.out.size; omega, hVS, hpW⟩
  have HKS : Hid (Slot2 g 69 36 V V) := Lib.hid ⟨Only.refl _ _, ⟨_, HXS.out.2.2.1.keep HBV.out⟩, ⟨_, _, _, _, _, _, HXS.out.2.2.2.1.keep HBV.out⟩⟩
  have u4 := (HXS.out.2.2.2.2.keep HBV.out).cell 0
  have HK : Hid (∀ w', Slot2 g 69 36 V w' → (Slot2 g 69 36 V w' ∧ w'.cell? ⟨g + 1 + 1 + 1 + 1, 0, none⟩ = some (.slice A5 n5 c5) ∧ w'.cell? ⟨p, 0, none⟩ = some (.int .u64 (xa : Nat)) ∧ w'.cell? ⟨p, 1, none⟩ = some (.int .u64 (xb : Nat)))) := Lib.hid fun w' h => ⟨h, by rw [h.cell (show g + 1 + 1 + 1 + 1 < _ by have := HK0.out; omega) (show ¬ (g ≤ g + 1 + 1 + 1 + 1 ∧ g + 1 + 1 + 1 + 1 < g + 4) by omega)]; exact u4, by rw [h.cell (show p < _ from HK0.out.2.1) (show ¬ (g ≤ p ∧ p < g + 4) by have := HK0.out; have := HGW.out; omega)]; exact v0, by rw [h.cell (show p < _ from HK0.out.2.1) (show ¬ (g ≤ p ∧ p < g + 4) by have := HK0.out; have := HGW.out; omega)]; exact v1⟩
  clear v0 v1 vs u4 hVS hpW
  refine wp_region_noPanic ?_
  refine wp_region_held_drew (S := fun w' => (Slot2 g 69 36 V w' ∧ w'.cell? ⟨g + 1 + 1 + 1 + 1, 0, none⟩ = some (.slice A5 n5 c5) ∧ w'.cell? ⟨p, 0, none⟩ = some (.int .u64 (xa : Nat)) ∧ w'.cell? ⟨p, 1, none⟩ = some (.int .u64 (xb : Nat)))) (by kernel_rfl) (HK.out _ (HKS.out.step (Below.refl _ _).drew)) (fun hHeld => ?_)
  try simp only [List.size_toArray, List.length_cons, List.length_nil, Nat.reduceAdd, Nat.reduceSub, Array.replicate_succ, Array.replicate_zero, List.push_toArray, List.append_toArray, List.nil_append, List.cons_append]   -- the listed as a literal: else each operation taken costs more than the last
  (refine wpAnyH_take (i := 0) (v := ?_) rfl (by kernel_rfl) (by kernel_rfl) (by kernel_rfl) (fun _ _ _ h => h) (Or.inl ⟨by rfl, ?_⟩) hHeld ?_; rotate_left; focus (intro w hSw; (try dsimp only at hSw); go_simp; (try with_reducible rfl)))
  try simp only [Act.put, List.getElem_toArray, List.getElem_cons_succ, List.getElem_cons_zero, List.setIfInBounds_toArray, List.set_cons_zero, List.set_cons_succ]
  (refine wpAnyH_take (i := 1) (v := ?_) rfl (by kernel_rfl) (by kernel_rfl) (by kernel_rfl) (fun _ _ _ h => h) (Or.inl ⟨by rfl, ?_⟩) hHeld ?_; rotate_left; focus (intro w hSw; (try dsimp only at hSw); go_simp; (try with_reducible rfl)))
  try simp only [Act.put, List.getElem_toArray, List.getElem_cons_succ, List.getElem_cons_zero, List.setIfInBounds_toArray, List.set_cons_zero, List.set_cons_succ]
  (refine wpAnyH_take (i := 2) (v := ?_) rfl (by kernel_rfl) (by kernel_rfl) (by kernel_rfl) (fun _ _ _ h => h) (Or.inl ⟨by rfl, ?_⟩) hHeld ?_; rotate_left; focus (intro w hSw; (try dsimp only at hSw); go_simp; (try with_reducible rfl)))
  try simp only [Act.put, List.getElem_toArray, List.getElem_cons_succ, List.getElem_cons_zero, List.setIfInBounds_toArray, List.set_cons_zero, List.set_cons_succ]
  (refine wpAnyH_ready (rs := [3]) (by kernel_rfl) (by simp) ?_; refine AllReadyH.cons rfl (fun K hK => ?_) AllReadyH.nil; go_simp; (go_at_call 92; refine (CF.out _).mono ?_; rintro e w' ⟨rfl, hb⟩; have HS8 := Lib.hid (hHeld.1.step hb)); (try go_wp2_with fail); refine hK.out _ _ ?_ (fun hHeld' => ?_); (focus (first | with_reducible exact HK.out _ (hHeld.1.step hb) | with_reducible exact HK.out _ (hHeld.1.set2 _) | with_reducible exact HK.out _ (hHeld.1.set3 _ _ _ _ _ _))); clear hK K; replace hHeld := hHeld'; clear hHeld')
  try simp only [Act.put, List.getElem_toArray, List.getElem_cons_succ, List.getElem_cons_zero, List.setIfInBounds_toArray, List.set_cons_zero, List.set_cons_succ]
  (refine wpAnyH_ready (rs := [4]) (by kernel_rfl) (by simp) ?_; refine AllReadyH.cons rfl (fun K hK => ?_) AllReadyH.nil; (obtain ⟨q0, X2⟩ := hHeld.1.c2; obtain ⟨q1, q2, q3, q4, q5, q6, X3⟩ := hHeld.1.c3; have s0 := X2.cell 0; have s1 := X2.frozen 0; have e0 := X3.cell 0; have e1 := X3.cell 1; have e2 := X3.cell 2; have e3 := X3.cell 3; have e4 := X3.cell 4; have e5 := X3.cell 5; have ef := fun i => X3.frozen i); go_simp; (try go_wp2_with fail); refine hK.out _ _ ?_ (fun hHeld' => ?_); (focus (first | with_reducible exact HK.out _ (hHeld.1.step hb) | with_reducible exact HK.out _ (hHeld.1.set2 _) | with_reducible exact HK.out _ (hHeld.1.set3 _ _ _ _ _ _))); clear hK K; replace hHeld := hHeld'; clear hHeld')
  try simp only [Act.put, List.getElem_toArray, List.getElem_cons_succ, List.getElem_cons_zero, List.setIfInBounds_toArray, List.set_cons_zero, List.set_cons_succ]
  (refine wpAnyH_ready (rs := [5]) (by kernel_rfl) (by simp) ?_; refine AllReadyH.cons rfl (fun K hK => ?_) AllReadyH.nil; (obtain ⟨q0, X2⟩ := hHeld.1.c2; obtain ⟨q1, q2, q3, q4, q5, q6, X3⟩ := hHeld.1.c3; have s0 := X2.cell 0; have s1 := X2.frozen 0; have e0 := X3.cell 0; have e1 := X3.cell 1; have e2 := X3.cell 2; have e3 := X3.cell 3; have e4 := X3.cell 4; have e5 := X3.cell 5; have ef := fun i => X3.frozen i); go_simp; (try go_wp2_with fail); refine hK.out _ _ ?_ (fun hHeld' => ?_); (focus (first | with_reducible exact HK.out _ (hHeld.1.step hb) | with_reducible exact HK.out _ (hHeld.1.set2 _) | with_reducible exact HK.out _ (hHeld.1.set3 _ _ _ _ _ _))); clear hK K; replace hHeld := hHeld'; clear hHeld')
  try simp only [Act.put, List.getElem_toArray, List.getElem_cons_succ, List.getElem_cons_zero, List.setIfInBounds_toArray, List.set_cons_zero, List.set_cons_succ]
  refine wpAnyH_done (by kernel_rfl) ?_ _
  refine NoPanic.normal ?_
  clear hHeld
  generalize hX : World.setCell _ _ _ = X
  obtain ⟨q0, h2⟩ := HS8.out.c2
  obtain ⟨q1, q2, q3, q4, q5, q6, h3⟩ := HS8.out.c3
  obtain ⟨r2, r3, ro⟩ := res_two h2 h3 _ _ _ _ _ _ _ X hX
  go_wp2_with fail
  have s0 := r2.cell 0
  have t0 := r3.cell 0
  have t1 := r3.cell 1
  have t2 := r3.cell 2
  have t3 := r3.cell 3
  have t4 := r3.cell 4
  have t5 := r3.cell 5
  have hbb : Below g w X := Below.only ((HXS.out.1.trans (HBV.out.mono (by have := HGW.out; omega)))) (HS8.out.only.trans ro) (by have := HK0.out; omega) (fun i hi => hi.1)
  refine bodyPost_ret (v := .tuple #[.agg #[.slice A5 n5 c5], .agg #[.int .i64 fe, .int .u64 (fa : Nat), .int .u64 (fb : Nat), .int .u64 0, .int .i64 0, .int .i64 0]]) (by simp [results, Tryz.results76, go_sem, s0, t0, t1, t2, t3, t4, t5]) rfl ⟨_, by rw [HFV.out], HV.out.keep (by rw [HG.out]; exact hbb), (fun k hk => .inl hk), by rw [HG.out]; exact hbb⟩
end Go.Proofs.YtiafjbhekfpkbaaGreatDoor
namespace Go.Proofs.YtiafjbhekfpkbaaGreatDoor
set_option linter.unusedSimpArgs false
set_option linter.unusedVariables false
open Go.ChangeShapes Go.WideShapes Go.ChangeAt Go.RowKit
set_option linter.unusedSimpArgs false
set_option linter.unusedVariables false

set_option maxRecDepth 100000 in
set_option maxHeartbeats 2000000 in
theorem mQue_pop (A : Option Addr) (c : Nat) (L : List Pr) (hL : L.length ≤ 100000) (l key : Int) (pa pb hd : Nat) (r : Int) (w : World) (hc : L.length ≤ c) (hcm : c ≤ maxLen) (hnA : A = none → c = 0) (hA : LiesC w A (flatP L)) (hbk : ∀ a, A = some a → a.block < w.heap.size) :
    Calls Tryz.prog 76 #[.agg #[.slice A L.length c], .agg #[.int .i64 7, .int .i64 l, .int .i64 key, .int .u64 (pa : Nat), .int .u64 (pb : Nat), .int .u64 (hd : Nat), .int .i64 r]] w fun e w' => ∃ v, e = .returned (.tuple #[.agg #[v], bif thP L then ansV 0 (hdP L).a (hdP L).b 0 0 0 else ansV 6 0 0 0 0 0]) ∧ LnIs w' v L.tail.length (flatP L.tail) ∧ Stem (.slice A L.length c) w.heap.size v ∧ Below w.heap.size w w' := by
  have C2 := Lib.hid (fun W (hb : Below w.heap.size w W) => lnPPeek_any A c L (by omega) W (hA.keep hb))
  have CD := Lib.hid (fun W (hb : Below w.heap.size w W) => lnPPop_any A c L hL hc hcm hnA W (hA.keep hb) (fun a e => Nat.lt_of_lt_of_le (hbk a e) hb.size))
  have HOld := Lib.hid (show ∀ k, (Value.slice A 0 0).ownBlock = some k → k < w.heap.size from fun k hk => by
    cases A with
    | none => cases hk
    | some a => cases hk; exact hbk a rfl)
  clear hA hbk
  generalize L.length = n at *
  generalize L.tail.length = n5 at *
  generalize (hdP L).a = xa at *
  generalize (hdP L).b = xb at *
  generalize thP L = th at *
  have CF := Lib.hid (fun W => mFound_any xa xb th 6 W)
  obtain ⟨fe, fa, fb, hf⟩ : ∃ (fe : Int) (fa fb : Nat), (bif th then ansV 0 xa xb 0 0 0 else ansV 6 0 0 0 0 0) = .agg #[.int .i64 fe, .int .u64 (fa : Nat), .int .u64 (fb : Nat), .int .u64 0, .int .i64 0, .int .i64 0] := by
    cases th
    · exact ⟨6, 0, 0, rfl⟩
    · exact ⟨0, xa, xb, rfl⟩
  rw [hf] at CF
  have HFV := Lib.hid hf; clear hf
  go_enter Tryz.func76, Tryz.ntmps76
  go_upto_region 7 with fail
  generalize hW : World.alloc _ _ = W
  obtain ⟨hB, x0, x1, x2, x3, x4⟩ := five_cells _ _ _ _ _ _ _ _ _ _ _ W hW
  clear hW
  generalize hg : w.heap.size = g at *
  have HG := Lib.hid hg; clear hg
  have HGW : Hid (g + 5 ≤ W.heap.size) := Lib.hid (by have := x4.lt; omega)
  have y0 := x0.cell 0
  have HXW := Lib.hid (And.intro hB (And.intro x0 (And.intro x1 (And.intro x2 (And.intro x3 x4)))))
  clear x0 x1 x2 x3 x4 hB
  go_upto_region 8 with (go_at_call 97; refine (CD.out _ HXW.out.1).mono ?_; rintro e w' ⟨v, rfl, hT, hk, hb⟩; have HT := Lib.hid (And.intro hT hk); obtain ⟨A5, c5, rfl⟩ := lnIs_parts hT; clear hT hk; have s0 := (HXW.out.2.2.2.2.2.keep hb).cell 0; have s1 := (HXW.out.2.2.2.2.2.keep hb).frozen 0; have HS8 := Lib.hid hb; clear hb)
  clear s0 s1 y0
  generalize hX : World.setCell _ _ _ = X
  have HOX : Hid (Only (fun i => g ≤ i ∧ i < g + 5) w' X) := Lib.hid (by subst hX; exact Only.setCell (Only.refl _ _) (p := ⟨g + 1 + 1 + 1 + 1, 0, none⟩) (show g ≤ g + 1 + 1 + 1 + 1 ∧ g + 1 + 1 + 1 + 1 < g + 5 by omega) _)
  have hne0 : g ≠ g + 1 + 1 + 1 + 1 := by omega
  have hne1 : g + 1 ≠ g + 1 + 1 + 1 + 1 := by omega
  have hne2 : g + 1 + 1 ≠ g + 1 + 1 + 1 + 1 := by omega
  have hne3 : g + 1 + 1 + 1 ≠ g + 1 + 1 + 1 + 1 := by omega
  have HXS : Hid (Below g w X ∧ Cells X g 69 [.slice A n c] ∧ Cells X (g + 1 + 1) 69 [.slice none 0 0] ∧ Cells X (g + 1 + 1 + 1) 36 [.int .i64 0, .int .u64 0, .int .u64 0, .int .u64 0, .int .i64 0, .int .i64 0] ∧ Cells X (g + 1 + 1 + 1 + 1) 69 [.slice A5 n5 c5]) := by
    refine Lib.hid ⟨Below.only (HXW.out.1.trans (HS8.out.mono (by have := HGW.out; omega))) HOX.out (by have := HGW.out; have := HS8.out.size; omega) (fun i hi => hi.1), ?_⟩
    subst hX
    exact ⟨(HXW.out.2.1.keep HS8.out).far (p := ⟨g + 1 + 1 + 1 + 1, 0, none⟩) hne0 _, (HXW.out.2.2.2.1.keep HS8.out).far (p := ⟨g + 1 + 1 + 1 + 1, 0, none⟩) hne2 _, (HXW.out.2.2.2.2.1.keep HS8.out).far (p := ⟨g + 1 + 1 + 1 + 1, 0, none⟩) hne3 _, (HXW.out.2.2.2.2.2.keep HS8.out).set_ 0 _⟩
  have y0 := HXS.out.2.1.cell 0
  have HGX : Hid (g + 5 ≤ X.heap.size) := Lib.hid (by have := HGW.out; have := HS8.out.size; have := HOX.out.size; omega)
  have HTX := Lib.hid (And.intro (HT.out.1.only HOX.out (fun k hk hi => by have := HOld.out k (HT.out.2 k hk); omega)) (fun k hk => And.intro (HOld.out k (HT.out.2 k hk)) (HT.out.2 k hk)))
  clear hX hne0 hne1 hne2 hne3 HT HXW HS8 HGW HOX
  clear w'
  clear W
  clear CD
  generalize hXW : X = W at *
  clear hXW
  have HGW := HGX
  clear HGX
  go_upto_region 9 with (go_at_call 98; refine (C2.out _ HXS.out.1).mono ?_; rintro e w6 ⟨rfl, hb6⟩; have HB6 := Lib.hid hb6; clear hb6)
  generalize hW6 : w6.alloc _ = V
  obtain ⟨v0, v1, vs⟩ : V.cell? ⟨w6.heap.size, 0, none⟩ = some (.int .u64 (xa : Nat)) ∧ V.cell? ⟨w6.heap.size, 1, none⟩ = some (.int .u64 (xb : Nat)) ∧ Below w6.heap.size w6 V := by
    subst hW6
    exact ⟨(Cells.new _ _ _).cell 0, (Cells.new _ _ _).cell 1, (Below.refl _ w6).alloc (Nat.le_refl _) _⟩
  have hVS : w6.heap.size < V.heap.size := by subst hW6; simp
  have hpW : W.heap.size ≤ w6.heap.size := HB6.out.size
  clear hW6
  have HBV := Lib.hid (HB6.out.trans (vs.mono HB6.out.size))
  generalize hq : w6.heap.size = p at *
  clear hq
  have HK0 : Hid (g + 5 ≤ V.heap.size ∧ p < V.heap.size ∧ W.heap.size ≤ p) := Lib.hid ⟨by have := HGW.out; have := HBV.out.size; omega, hVS, hpW⟩
  have HKS : Hid (Slot2 g 69 36 V V) := Lib.hid ⟨Only.refl _ _, ⟨_, HXS.out.2.2.1.keep HBV.out⟩, ⟨_, _, _, _, _, _, HXS.out.2.2.2.1.keep HBV.out⟩⟩
  have u4 := (HXS.out.2.2.2.2.keep HBV.out).cell 0
  have HK : Hid (∀ w', Slot2 g 69 36 V w' → (Slot2 g 69 36 V w' ∧ w'.cell? ⟨g + 1 + 1 + 1 + 1, 0, none⟩ = some (.slice A5 n5 c5) ∧ w'.cell? ⟨p, 0, none⟩ = some (.int .u64 (xa : Nat)) ∧ w'.cell? ⟨p, 1, none⟩ = some (.int .u64 (xb : Nat)))) := Lib.hid fun w' h => ⟨h, by rw [h.cell (show g + 1 + 1 + 1 + 1 < _ by have := HK0.out; omega) (show ¬ (g ≤ g + 1 + 1 + 1 + 1 ∧ g + 1 + 1 + 1 + 1 < g + 4) by omega)]; exact u4, by rw [h.cell (show p < _ from HK0.out.2.1) (show ¬ (g ≤ p ∧ p < g + 4) by have := HK0.out; have := HGW.out; omega)]; exact v0, by rw [h.cell (show p < _ from HK0.out.2.1) (show ¬ (g ≤ p ∧ p < g + 4) by have := HK0.out; have := HGW.out; omega)]; exact v1⟩
  clear v0 v1 vs u4 hVS hpW
  refine wp_region_noPanic ?_
  refine wp_region_held_drew (S := fun w' => (Slot2 g 69 36 V w' ∧ w'.cell? ⟨g + 1 + 1 + 1 + 1, 0, none⟩ = some (.slice A5 n5 c5) ∧ w'.cell? ⟨p, 0, none⟩ = some (.int .u64 (xa : Nat)) ∧ w'.cell? ⟨p, 1, none⟩ = some (.int .u64 (xb : Nat)))) (by kernel_rfl) (HK.out _ (HKS.out.step (Below.refl _ _).drew)) (fun hHeld => ?_)
  try simp only [List.size_toArray, List.length_cons, List.length_nil, Nat.reduceAdd, Nat.reduceSub, Array.replicate_succ, Array.replicate_zero, List.push_toArray, List.append_toArray, List.nil_append, List.cons_append]   -- the listed as a literal: else each operation taken costs more than the last
  (refine wpAnyH_take (i := 0) (v := ?_) rfl (by kernel_rfl) (by kernel_rfl) (by kernel_rfl) (fun _ _ _ h => h) (Or.inl ⟨by rfl, ?_⟩) hHeld ?_; rotate_left; focus (intro w hSw; (try dsimp only at hSw); go_simp; (try with_reducible rfl)))
  try simp only [Act.put, List.getElem_toArray, List.getElem_cons_succ, List.getElem_cons_zero, List.setIfInBounds_toArray, List.set_cons_zero, List.set_cons_succ]
  (refine wpAnyH_take (i := 1) (v := ?_) rfl (by kernel_rfl) (by kernel_rfl) (by kernel_rfl) (fun _ _ _ h => h) (Or.inl ⟨by rfl, ?_⟩) hHeld ?_; rotate_left; focus (intro w hSw; (try dsimp only at hSw); go_simp; (try with_reducible rfl)))
  try simp only [Act.put, List.getElem_toArray, List.getElem_cons_succ, List.getElem_cons_zero, List.setIfInBounds_toArray, List.set_cons_zero, List.set_cons_succ]
  (refine wpAnyH_take (i := 2) (v := ?_) rfl (by kernel_rfl) (by kernel_rfl) (by kernel_rfl) (fun _ _ _ h => h) (Or.inl ⟨by rfl, ?_⟩) hHeld ?_; rotate_left; focus (intro w hSw; (try dsimp only at hSw); go_simp; (try with_reducible rfl)))
  try simp only [Act.put, List.getElem_toArray, List.getElem_cons_succ, List.getElem_cons_zero, List.setIfInBounds_toArray, List.set_cons_zero, List.set_cons_succ]
  (refine wpAnyH_ready (rs := [3]) (by kernel_rfl) (by simp) ?_; refine AllReadyH.cons rfl (fun K hK => ?_) AllReadyH.nil; go_simp; (go_at_call 92; refine (CF.out _).mono ?_; rintro e w' ⟨rfl, hb⟩; have HS8 := Lib.hid (hHeld.1.step hb)); (try go_wp2_with fail); refine hK.out _ _ ?_ (fun hHeld' => ?_); (focus (first | with_reducible exact HK.out _ (hHeld.1.step hb) | with_reducible exact HK.out _ (hHeld.1.set2 _) | with_reducible exact HK.out _ (hHeld.1.set3 _ _ _ _ _ _))); clear hK K; replace hHeld := hHeld'; clear hHeld')
  try simp only [Act.put, List.getElem_toArray, List.getElem_cons_succ, List.getElem_cons_zero, List.setIfInBounds_toArray, List.set_cons_zero, List.set_cons_succ]
  (refine wpAnyH_ready (rs := [4]) (by kernel_rfl) (by simp) ?_; refine AllReadyH.cons rfl (fun K hK => ?_) AllReadyH.nil; (obtain ⟨q0, X2⟩ := hHeld.1.c2; obtain ⟨q1, q2, q3, q4, q5, q6, X3⟩ := hHeld.1.c3; have s0 := X2.cell 0; have s1 := X2.frozen 0; have e0 := X3.cell 0; have e1 := X3.cell 1; have e2 := X3.cell 2; have e3 := X3.cell 3; have e4 := X3.cell 4; have e5 := X3.cell 5; have ef := fun i => X3.frozen i); go_simp; (try go_wp2_with fail); refine hK.out _ _ ?_ (fun hHeld' => ?_); (focus (first | with_reducible exact HK.out _ (hHeld.1.step hb) | with_reducible exact HK.out _ (hHeld.1.set2 _) | with_reducible exact HK.out _ (hHeld.1.set3 _ _ _ _ _ _))); clear hK K; replace hHeld := hHeld'; clear hHeld')
  try simp only [Act.put, List.getElem_toArray, List.getElem_cons_succ, List.getElem_cons_zero, List.setIfInBounds_toArray, List.set_cons_zero, List.set_cons_succ]
  (refine wpAnyH_ready (rs := [5]) (by kernel_rfl) (by simp) ?_; refine AllReadyH.cons rfl (fun K hK => ?_) AllReadyH.nil; (obtain ⟨q0, X2⟩ := hHeld.1.c2; obtain ⟨q1, q2, q3, q4, q5, q6, X3⟩ := hHeld.1.c3; have s0 := X2.cell 0; have s1 := X2.frozen 0; have e0 := X3.cell 0; have e1 := X3.cell 1; have e2 := X3.cell 2; have e3 := X3.cell 3; have e4 := X3.cell 4; have e5 := X3.cell 5; have ef := fun i => X3.frozen i); go_simp; (try go_wp2_with fail); refine hK.out _ _ ?_ (fun hHeld' => ?_); (focus (first | with_reducible exact HK.out _ (hHeld.1.step hb) | with_reducible exact HK.out _ (hHeld.1.set2 _) | with_reducible exact HK.out _ (hHeld.1.set3 _ _ _ _ _ _))); clear hK K; replace hHeld := hHeld'; clear hHeld')
  try simp only [Act.put, List.getElem_toArray, List.getElem_cons_succ, List.getElem_cons_zero, List.setIfInBounds_toArray, List.set_cons_zero, List.set_cons_succ]
  refine wpAnyH_done (by kernel_rfl) ?_ _
  refine NoPanic.normal ?_
  clear hHeld
  generalize hX : World.setCell _ _ _ = X
  obtain ⟨q0, h2⟩ := HS8.out.c2
  obtain ⟨q1, q2, q3, q4, q5, q6, h3⟩ := HS8.out.c3
  obtain ⟨r2, r3, ro⟩ := res_two h2 h3 _ _ _ _ _ _ _ X hX
  go_wp2_with fail
  have s0 := r2.cell 0
  have t0 := r3.cell 0
  have t1 := r3.cell 1
  have t2 := r3.cell 2
  have t3 := r3.cell 3
  have t4 := r3.cell 4
  have t5 := r3.cell 5
  have hbb : Below g w X := Below.only ((HXS.out.1.trans (HBV.out.mono (by have := HGW.out; omega)))) (HS8.out.only.trans ro) (by have := HK0.out; omega) (fun i hi => hi.1)
  refine bodyPost_ret (v := .tuple #[.agg #[.slice A5 n5 c5], .agg #[.int .i64 fe, .int .u64 (fa : Nat), .int .u64 (fb : Nat), .int .u64 0, .int .i64 0, .int .i64 0]]) (by simp [results, Tryz.results76, go_sem, s0, t0, t1, t2, t3, t4, t5]) rfl ⟨_, by rw [HFV.out], (HTX.out.1.keep HBV.out).only (HS8.out.only.trans ro) (fun k hk hi => by have := (HTX.out.2 k hk).1; omega), (fun k hk => .inl (by have := (HTX.out.2 k hk).2; cases A <;> exact this)), by rw [HG.out]; exact hbb⟩
end Go.Proofs.YtiafjbhekfpkbaaGreatDoor
namespace Go.Proofs.YtiafjbhekfpkbaaGreatDoor
set_option linter.unusedSimpArgs false
set_option linter.unusedVariables false
open Go.ChangeShapes Go.WideShapes Go.ChangeAt Go.RowKit
set_option linter.unusedSimpArgs false
set_option linter.unusedVariables false

set_option maxRecDepth 100000 in
set_option maxHeartbeats 2000000 in
theorem mQue_other (A : Option Addr) (c : Nat) (L : List Pr) (op l key : Int) (h0 : ¬ op = 6) (h1 : ¬ op = 7) (h2 : ¬ op = 8) (pa pb hd : Nat) (r : Int) (w : World) (hl : LnIs w (.slice A L.length c) L.length (flatP L)) :
    Calls Tryz.prog 76 #[.agg #[.slice A L.length c], .agg #[.int .i64 op, .int .i64 l, .int .i64 key, .int .u64 (pa : Nat), .int .u64 (pb : Nat), .int .u64 (hd : Nat), .int .i64 r]] w fun e w' => ∃ v, e = .returned (.tuple #[.agg #[v], ansV 0 0 0 0 0 0]) ∧ LnIs w' v L.length (flatP L) ∧ Stem (.slice A L.length c) w.heap.size v ∧ Below w.heap.size w w' := by
  have HA := Lib.hid hl
  clear hl
  generalize hn : L.length = n at *
  clear hn
  go_enter Tryz.func76, Tryz.ntmps76
  go_upto_region 10 with fail
  generalize hW : World.alloc _ _ = W
  obtain ⟨hB, x0, x1, x2, x3, x4⟩ := five_cells _ _ _ _ _ _ _ _ _ _ _ W hW
  clear hW
  generalize hg : w.heap.size = g at *
  have HG := Lib.hid hg; clear hg
  have HGW : Hid (g + 5 ≤ W.heap.size) := Lib.hid (by have := x4.lt; omega)
  have y0 := x0.cell 0
  have v0 := x2.cell 0
  have v1 := x2.frozen 0
  have e0 := x3.cell 0
  have e1 := x3.cell 1
  have e2 := x3.cell 2
  have e3 := x3.cell 3
  have e4 := x3.cell 4
  have e5 := x3.cell 5
  have ef := fun i => x3.frozen i
  have HX := Lib.hid (And.intro hB (And.intro x2 x3))
  clear x0 x1 x2 x3 x4 hB
  obtain ⟨X, hX⟩ : ∃ X, ((((((W.setCell ⟨g + 1 + 1, 0, none⟩ (.slice A n c)).setCell ⟨g + 1 + 1 + 1, 0, none⟩ (.int .i64 0)).setCell ⟨g + 1 + 1 + 1, 1, none⟩ (.int .u64 0)).setCell ⟨g + 1 + 1 + 1, 2, none⟩ (.int .u64 0)).setCell ⟨g + 1 + 1 + 1, 3, none⟩ (.int .u64 0)).setCell ⟨g + 1 + 1 + 1, 4, none⟩ (.int .i64 0)).setCell ⟨g + 1 + 1 + 1, 5, none⟩ (.int .i64 0) = X := ⟨_, rfl⟩
  obtain ⟨r2, r3, ro⟩ := res_two HX.out.2.1 HX.out.2.2 _ _ _ _ _ _ _ X hX
  have HR := Lib.hid (And.intro r2 (And.intro r3 ro))
  clear r2 r3 ro
  have HXX := Lib.hid hX
  clear hX
  go_wp2_with fail
  rw [HXX.out]
  obtain ⟨r2, r3, ro⟩ := HR.out
  have s0 := r2.cell 0
  have t0 := r3.cell 0
  have t1 := r3.cell 1
  have t2 := r3.cell 2
  have t3 := r3.cell 3
  have t4 := r3.cell 4
  have t5 := r3.cell 5
  have hbb : Below g w X := Below.only HX.out.1 ro (by have := HGW.out; omega) (fun i hi => hi.1)
  exact bodyPost_ret (v := .tuple #[.agg #[.slice A n c], .agg #[.int .i64 0, .int .u64 0, .int .u64 0, .int .u64 0, .int .i64 0, .int .i64 0]]) (by simp [results, Tryz.results76, go_sem, s0, t0, t1, t2, t3, t4, t5]) rfl ⟨_, rfl, HA.out.keep (by rw [HG.out]; exact hbb), (fun k hk => .inl hk), by rw [HG.out]; exact hbb⟩

/-- What onQueue does. -/
theorem mQue_any (u : Value) (L : List Pr) (hL : L.length ≤ 100000) (op l key : Int) (pa pb hd : Nat) (r : Int) (w : World) (hl : LnIs w u L.length (flatP L)) :
    Calls Tryz.prog 76 #[.agg #[u], .agg #[.int .i64 op, .int .i64 l, .int .i64 key, .int .u64 (pa : Nat), .int .u64 (pb : Nat), .int .u64 (hd : Nat), .int .i64 r]] w fun e w' => ∃ v, e = .returned (.tuple #[.agg #[v], queA L op]) ∧ LnIs w' v (queL L op pa pb).length (flatP (queL L op pa pb)) ∧ Stem u w.heap.size v ∧ Below w.heap.size w w' := by
  have hl2 := hl
  obtain ⟨A, c, rfl, hc, hcm, hnA, hA, hbk⟩ := hl2
  unfold queA queL
  rcases Classical.em (op = 6) with rfl | h0
  · simpa using mQue_push A c L hL l key pa pb hd r w hc hcm hnA hA hbk
  rcases Classical.em (op = 7) with rfl | h1
  · simpa using mQue_pop A c L hL l key pa pb hd r w hc hcm hnA hA hbk
  rcases Classical.em (op = 8) with rfl | h2
  · simpa using mQue_peek A c L hL l key pa pb hd r w hc hcm hnA hA hbk
  simpa [h0, h1, h2] using mQue_other A c L op l key h0 h1 h2 pa pb hd r w hl
end Go.Proofs.YtiafjbhekfpkbaaGreatDoor
