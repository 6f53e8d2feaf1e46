/- Package means: done, of a call of the queue. · What ops are called: package call's and the document's answers, and which op a word is. -/
import Derived.Test.YtiafjbhekfpkbaaGreatDoorJ13
import Derived.Test.YtiafjbhekfpkbaaGreatDoorJ20
import Derived.Test.YtiafjbhekfpkbaaGreatDoorJ11
import Derived.Deep.DeepCutAuto
namespace Go.Proofs.YtiafjbhekfpkbaaGreatDoor
set_option linter.unusedSimpArgs false
set_option linter.unusedVariables false
set_option linter.unusedSimpArgs false
set_option linter.unusedVariables false
open Go.ChangeShapes Go.WideShapes Go.ChangeAt Go.RowKit

/-- done's six blocks. -/
structure DR (g : Nat) (f q a z : Nat → Value) (w W : World) : Prop where
  st : Row W g 74 63 f
  cl : Row W (g + 1) 33 7 q
  an : Row W (g + 1 + 1) 36 6 a
  rs : ∃ Z, Row W (g + 1 + 1 + 1) 74 63 Z
  ra : ∃ Z, Row W (g + 1 + 1 + 1 + 1) 36 6 Z
  ax : Row W (g + 1 + 1 + 1 + 1 + 1) 36 6 z
  bel : Below g w W
theorem DR.keep {g : Nat} {f q a z : Nat → Value} {w W W' : World} (h : DR g f q a z w W) (hb : Below W.heap.size W W') : DR g f q a z w W' :=
  ⟨h.st.keep hb, h.cl.keep hb, h.an.keep hb, h.rs.elim fun Z hz => ⟨Z, hz.keep hb⟩, h.ra.elim fun Z hz => ⟨Z, hz.keep hb⟩, h.ax.keep hb, h.bel.trans (hb.mono (by have := h.st.lt; omega))⟩
theorem DR.put {g : Nat} {f q a z : Nat → Value} {w W : World} (h : DR g f q a z w W) {o m : Nat} (G : Nat → Value) (ho : o + m ≤ 63) : DR g (putF f o m G) q a z w (W.setCells g o (rowOf m G).toList) :=
  ⟨h.st.put G ho, h.cl.cells_far _ (by omega), h.an.cells_far _ (by omega), h.rs.elim fun Z hz => ⟨Z, hz.cells_far _ (by omega)⟩, h.ra.elim fun Z hz => ⟨Z, hz.cells_far _ (by omega)⟩, h.ax.cells_far _ (by omega), below_cells _ h.bel (Nat.le_refl _)⟩
theorem DR.tell {g : Nat} {f q a z : Nat → Value} {w W : World} (h : DR g f q a z w W) (y : Nat → Value) : DR g f q a y w (W.setRow (g + 1 + 1 + 1 + 1 + 1) (rowOf 6 y)) :=
  ⟨h.st.setRow_far (by omega) _, h.cl.setRow_far (by omega) _, h.an.setRow_far (by omega) _, h.rs.elim fun Z hz => ⟨Z, hz.setRow_far (by omega) _⟩, h.ra.elim fun Z hz => ⟨Z, hz.setRow_far (by omega) _⟩, h.ax.setRow_ _, below_setRow_ h.bel (by omega) _⟩
theorem DR.out1 {g : Nat} {f q a z : Nat → Value} {w W : World} (h : DR g f q a z w W) (y : Nat → Value) : DR g f q a z w (W.setRow (g + 1 + 1 + 1) (rowOf 63 y)) :=
  ⟨h.st.setRow_far (by omega) _, h.cl.setRow_far (by omega) _, h.an.setRow_far (by omega) _, h.rs.elim fun Z hz => ⟨y, hz.setRow_ _⟩, h.ra.elim fun Z hz => ⟨Z, hz.setRow_far (by omega) _⟩, h.ax.setRow_far (by omega) _, below_setRow_ h.bel (by omega) _⟩
theorem DR.out2 {g : Nat} {f q a z : Nat → Value} {w W : World} (h : DR g f q a z w W) (y : Nat → Value) : DR g f q a z w (W.setRow (g + 1 + 1 + 1 + 1) (rowOf 6 y)) :=
  ⟨h.st.setRow_far (by omega) _, h.cl.setRow_far (by omega) _, h.an.setRow_far (by omega) _, h.rs.elim fun Z hz => ⟨Z, hz.setRow_far (by omega) _⟩, h.ra.elim fun Z hz => ⟨y, hz.setRow_ _⟩, h.ax.setRow_far (by omega) _, below_setRow_ h.bel (by omega) _⟩
theorem dr_new (f q a : Nat → Value) (c8 c9 c10 : Array Value) (h8 : c8.size = 63) (h9 : c9.size = 6) (h10 : c10.size = 6) (w : World) : ∀ W, ((((((w.alloc (.cells (rowOf 63 f) 74)).alloc (.cells (rowOf 7 q) 33)).alloc (.cells (rowOf 6 a) 36)).alloc (.cells c8 74)).alloc (.cells c9 36)).alloc (.cells c10 36)) = W →
    DR w.heap.size f q a (fun i => c10.getD i undef) w W := by
  rintro W rfl
  have h2 := Row.new (w.alloc (.cells (rowOf 63 f) 74)) (rowOf 7 q) 33 q 7 rfl
  have h3 := Row.new ((w.alloc (.cells (rowOf 63 f) 74)).alloc (.cells (rowOf 7 q) 33)) (rowOf 6 a) 36 a 6 rfl
  have k10 := Row.new (((((w.alloc (.cells (rowOf 63 f) 74)).alloc (.cells (rowOf 7 q) 33)).alloc (.cells (rowOf 6 a) 36)).alloc (.cells c8 74)).alloc (.cells c9 36)) c10 36 _ 6 (row_some h10)
  simp only [World.size_alloc] at h2 h3 k10
  refine ⟨(((((Row.new w _ _ _ _ rfl).alloc _).alloc _).alloc _).alloc _).alloc _, (((h2.alloc _).alloc _).alloc _).alloc _, ((h3.alloc _).alloc _).alloc _, ?_, ?_, k10, ?_⟩
  · obtain ⟨Z, hz⟩ := row_zero (((w.alloc (.cells (rowOf 63 f) 74)).alloc (.cells (rowOf 7 q) 33)).alloc (.cells (rowOf 6 a) 36)) c8 74 63 h8 (g := w.heap.size + 1 + 1 + 1) (by simp)
    exact ⟨Z, (hz.alloc _).alloc _⟩
  · obtain ⟨Z, hz⟩ := row_zero ((((w.alloc (.cells (rowOf 63 f) 74)).alloc (.cells (rowOf 7 q) 33)).alloc (.cells (rowOf 6 a) 36)).alloc (.cells c8 74)) c9 36 6 h9 (g := w.heap.size + 1 + 1 + 1 + 1) (by simp)
    exact ⟨Z, hz.alloc _⟩
  · exact ((((((Below.refl _ w).alloc (Nat.le_refl _) _).alloc (by simp) _).alloc (by simp; omega) _).alloc (by simp; omega) _).alloc (by simp; omega) _).alloc (by simp; omega) _

set_option maxRecDepth 100000 in
set_option maxHeartbeats 2000000 in
theorem done_queue (f a : Nat → Value) (op l key r t : Int) (pa pb hd : Nat) (u : Value) (m : Ans) (L L' : List Pr) (w : World) (hp : partN op = 2) (h60 : f 60 = u) (hub : ∀ k, u.ownBlock = some k → k < w.heap.size) (hf1 : ∀ i, i < 63 → (f i).oneCell' = true)
    (hq : ∀ W, Below w.heap.size w W → Calls Tryz.prog 76 #[.agg #[u], .agg #[.int .i64 op, .int .i64 l, .int .i64 key, .int .u64 (pa : Nat), .int .u64 (pb : Nat), .int .u64 (hd : Nat), .int .i64 r]] W fun e w' => ∃ v, e = .returned (.tuple #[.agg #[v], .agg (rowOf 6 (ansF m))]) ∧ LnIs w' v L'.length (flatP L') ∧ Stem u W.heap.size v ∧ Below W.heap.size W w') :
    Calls Tryz.prog 58 #[.agg (rowOf 63 f), .int .i64 t, .agg (rowOf 7 (callF op l key pa pb hd r)), .agg (rowOf 6 a)] w fun e w' => ∃ v, e = .returned (.tuple #[.agg (rowOf 63 (putF f 60 1 (fun _ => v))), .agg (rowOf 6 (ansF m))]) ∧ LnIs w' v L'.length (flatP L') ∧ Stem u w.heap.size v ∧ Below w.heap.size w w' := by
  have HQ := Lib.hid hq
  have CP := Lib.hid (fun W => kPart_any op W)
  rw [hp] at CP
  have HF1 := Lib.hid hf1; have HU := Lib.hid hub
  clear hq hp hf1 hub
  go_enter Tryz.func58, Tryz.ntmps58
  go_upto_region 2 with fail
  generalize hW : World.alloc (World.alloc (World.alloc (World.alloc (World.alloc (World.alloc _ _) _) _) _) _) _ = W
  have hD := dr_new f (callF op l key pa pb hd r) a _ _ _ (by rfl) (by rfl) (by rfl) w W hW
  clear hW
  generalize (fun i => Array.getD _ i undef) = z at hD
  generalize hg : w.heap.size = g at *
  have HG := Lib.hid hg; clear hg
  have HD := Lib.hid hD
  have c0 : W.cell? ⟨g + 1, 0, none⟩ = some (.int .i64 op) := hD.cl.cell (i := 0) (by omega)
  clear hD
  go_upto_region 9 with (go_at_call 73; refine (CP.out _).mono ?_; rintro e w' ⟨rfl, rfl⟩)
  have HQW := Lib.hid (HQ.out W HD.out.bel)
  have HGW : Hid (g + 6 ≤ W.heap.size) := Lib.hid (by have := HD.out.ax.lt; omega)
  clear HQ c0
  have h2 := HD.out.cl
  have c60 : W.cell? ⟨g, 60, none⟩ = some u := by rw [← h60]; exact HD.out.st.cell (i := 60) (by omega)
  go_upto_region 12 with (first
    | (refine wpList_load_row rfl 33 _ rfl (g + 1) rfl 33 (rowOf 7 (callF op l key pa pb hd r)) (0, 0) _ h2 Tryz.underlying33 rfl (by kernel_rfl) ?_)
    | (go_at_call 76; refine HQW.out.mono ?_; rintro e w1 ⟨v, rfl, hv1, hv2, hb⟩; have HD1 := Lib.hid (HD.out.keep hb); have HV := Lib.hid (And.intro hv1 hv2); obtain ⟨A5, c5, rfl⟩ := lnIs_parts hv1; have d60 : w1.cell? ⟨g, 60, none⟩ = some u := (by rw [← h60]; exact HD1.out.st.cell (i := 60) (by omega)); have e60 : w1.frozen? ⟨g, 60, none⟩ = false := HD1.out.st.frozen 60; have HD2 := Lib.hid (show DR g (putF f 60 1 (fun _ => .slice A5 L'.length c5)) (callF op l key pa pb hd r) a z w (w1.setCell ⟨g, 60, none⟩ (.slice A5 L'.length c5)) from HD1.out.put (o := 60) (m := 1) (fun _ => .slice A5 L'.length c5) (by omega)); have hax := HD2.out.ax; clear hb hv1 hv2)
    | (refine wpList_store_row rfl 36 _ _ rfl (g + 1 + 1 + 1 + 1 + 1) (rowOf 6 (ansF m)) rfl rfl 36 (rowOf 6 z) hax (by kernel_rfl) rfl (ansF_one m) ?_; have HD3 := Lib.hid (HD2.out.tell (ansF m))))
  generalize hX : World.setRow _ _ _ = X
  rw [hX] at HD3
  have hoX : Only (fun i => g ≤ i ∧ i < g + 6) w1 X := by
    rw [← hX]
    exact only_setRow ((Only.refl _ w1).setCell (p := ⟨g, 60, none⟩) (show g ≤ g ∧ g < g + 6 by omega) _) (show g ≤ g + 1 + 1 + 1 + 1 + 1 ∧ g + 1 + 1 + 1 + 1 + 1 < g + 6 by omega) _
  have hap : ∀ k, (Value.slice A5 L'.length c5).ownBlock = some k → ¬ (g ≤ k ∧ k < g + 6) := fun k hk => by
    rcases HV.out.2 k hk with h | h
    · have := HU.out k h; omega
    · have := HGW.out; omega
  have HVX := Lib.hid (And.intro (HV.out.1.only hoX hap) hap)
  have HST := Lib.hid HV.out.2
  clear hoX hap hX HV HD2 HD1 hax d60 e60 c60 h2
  have HFO := Lib.hid (show ∀ i, i < 63 → (putF f 60 1 (fun _ => .slice A5 L'.length c5) i).oneCell' = true from fun i hi => by unfold putF; split; rfl; exact HF1.out i hi)
  have HYO := Lib.hid (ansF_one m)
  obtain ⟨F, hF⟩ : ∃ F, putF f 60 1 (fun _ => .slice A5 L'.length c5) = F := ⟨_, rfl⟩
  obtain ⟨Q, hQ⟩ : ∃ Q, callF op l key pa pb hd r = Q := ⟨_, rfl⟩
  obtain ⟨y, hy⟩ : ∃ y, ansF m = y := ⟨_, rfl⟩
  rw [hF, hQ, hy] at HD3
  rw [hF] at HFO
  rw [hy] at HYO
  go_upto_region 12 with fail
  refine wp_region_noPanic ?_
  refine wp_region_held_drew (S := fun w' => DR g F Q a y w w') (by kernel_rfl) (HD3.out.keep (Below.refl _ _).drew) (fun hHeld => ?_)
  try simp only [List.append_eq, List.cons_append, List.nil_append]
  try simp only [List.size_toArray, List.length_cons, List.length_nil, Nat.reduceAdd, Nat.reduceSub, Array.replicate_succ, Array.replicate_zero, List.push_toArray, List.append_toArray, List.nil_append, List.cons_append]   -- the listed as a literal: else each operation taken costs more than the last
  first | (refine wpAnyH_take (i := 0) (v := _) rfl (by kernel_rfl) (by kernel_rfl) (by kernel_rfl) (fun _ _ _ h => h) (yieldsIf_load_mid (by rfl) 74 _ rfl g 0 rfl ((List.range 63).map F) _ (fun w' hw' => hw'.st.range0) Tryz.underlying74 rfl (by kernel_rfl)) hHeld ?_)
  try simp only [Act.put, List.getElem_toArray, List.getElem_cons_succ, List.getElem_cons_zero, List.setIfInBounds_toArray, List.set_cons_zero, List.set_cons_succ]
  first | (refine wpAnyH_take (i := 1) (v := _) rfl (by kernel_rfl) (by kernel_rfl) (by kernel_rfl) (fun _ _ _ h => h) (yieldsIf_load_mid (by rfl) 36 _ rfl (g + 1 + 1 + 1 + 1 + 1) 0 rfl ((List.range 6).map y) _ (fun w' hw' => hw'.ax.range0) Tryz.underlying36 rfl (by kernel_rfl)) hHeld ?_)
  try simp only [Act.put, List.getElem_toArray, List.getElem_cons_succ, List.getElem_cons_zero, List.setIfInBounds_toArray, List.set_cons_zero, List.set_cons_succ]
  (refine wpAnyH_ready (rs := [2]) (by kernel_rfl) (by simp) ?_; refine AllReadyH.cons rfl (fun K hK => ?_) AllReadyH.nil; (obtain ⟨Z1, hz1⟩ := hHeld.rs; obtain ⟨Z2, hz2⟩ := hHeld.ra; first | (refine wp_store_row 74 _ _ rfl (g + 1 + 1 + 1) (rowOf 63 F) rfl rfl 74 (rowOf 63 Z1) hz1 (by kernel_rfl) rfl (rowOf_all HFO.out) ?_) | (refine wp_store_row 36 _ _ rfl (g + 1 + 1 + 1 + 1) (rowOf 6 y) rfl rfl 36 (rowOf 6 Z2) hz2 (by kernel_rfl) rfl HYO.out ?_)); go_simp; (try go_wp2_with fail); refine hK.out _ _ ?_ (fun hHeld' => ?_); (focus (first | with_reducible exact hHeld.out1 _ | with_reducible exact hHeld.out2 _)); clear hK K; replace hHeld := hHeld'; clear hHeld')
  try simp only [Act.put, List.getElem_toArray, List.getElem_cons_succ, List.getElem_cons_zero, List.setIfInBounds_toArray, List.set_cons_zero, List.set_cons_succ]
  (refine wpAnyH_ready (rs := [3]) (by kernel_rfl) (by simp) ?_; refine AllReadyH.cons rfl (fun K hK => ?_) AllReadyH.nil; (obtain ⟨Z1, hz1⟩ := hHeld.rs; obtain ⟨Z2, hz2⟩ := hHeld.ra; first | (refine wp_store_row 74 _ _ rfl (g + 1 + 1 + 1) (rowOf 63 F) rfl rfl 74 (rowOf 63 Z1) hz1 (by kernel_rfl) rfl (rowOf_all HFO.out) ?_) | (refine wp_store_row 36 _ _ rfl (g + 1 + 1 + 1 + 1) (rowOf 6 y) rfl rfl 36 (rowOf 6 Z2) hz2 (by kernel_rfl) rfl HYO.out ?_)); go_simp; (try go_wp2_with fail); refine hK.out _ _ ?_ (fun hHeld' => ?_); (focus (first | with_reducible exact hHeld.out1 _ | with_reducible exact hHeld.out2 _)); clear hK K; replace hHeld := hHeld'; clear hHeld')
  try simp only [Act.put, List.getElem_toArray, List.getElem_cons_succ, List.getElem_cons_zero, List.setIfInBounds_toArray, List.set_cons_zero, List.set_cons_succ]
  refine wpAnyH_done (by kernel_rfl) ?_ _
  refine NoPanic.normal ?_
  clear hHeld
  generalize hY : World.setRow _ _ _ = Y
  obtain ⟨Z1, hz1⟩ := HD3.out.rs
  obtain ⟨Z2, hz2⟩ := HD3.out.ra
  have r1 : Row Y (g + 1 + 1 + 1) 74 63 F := by rw [← hY]; exact (hz1.drew.setRow_ F).setRow_far (by omega) _
  have r2 : Row Y (g + 1 + 1 + 1 + 1) 36 6 y := by rw [← hY]; exact (hz2.drew.setRow_far (by omega) _).setRow_ y
  have hoY : Only (fun i => g ≤ i ∧ i < g + 6) X Y := by
    rw [← hY]
    exact only_setRow (only_setRow (Only.refl _ X).drew (show g ≤ g + 1 + 1 + 1 ∧ g + 1 + 1 + 1 < g + 6 by omega) _) (show g ≤ g + 1 + 1 + 1 + 1 ∧ g + 1 + 1 + 1 + 1 < g + 6 by omega) _
  have hbY : Below g w Y := Below.only HD3.out.bel hoY (by have := HD3.out.st.lt; omega) (fun i hi => hi.1)
  have HR := Lib.hid (And.intro r1 (And.intro r2 (And.intro hoY hbY)))
  clear r1 r2 hoY hbY hY hz1 hz2
  go_wp2_with fail
  refine bodyPost_ret (results_two_cells (p := 8) (q := 9) (ty := 74) (tz := 36) (by kernel_rfl) _ _ (g + 1 + 1 + 1) (g + 1 + 1 + 1 + 1) 74 36 (rowOf 63 F) (rowOf 6 y) (0, 0) (0, 0) _ _ rfl rfl HR.out.1 HR.out.2.1 Tryz.underlying74 rfl (by kernel_rfl) Tryz.underlying36 rfl (by kernel_rfl)) rfl ?_
  refine ⟨.slice A5 L'.length c5, by rw [hF, hy], HVX.out.1.only HR.out.2.2.1 HVX.out.2, HST.out.mono (by have := HGW.out; have := HG.out; omega), by rw [HG.out]; exact HR.out.2.2.2⟩
end Go.Proofs.YtiafjbhekfpkbaaGreatDoor
namespace Go.Proofs.YtiafjbhekfpkbaaGreatDoor
set_option linter.unusedSimpArgs false
set_option linter.unusedVariables false
open Go.ChangeShapes Go.WideShapes Go.ChangeAt Go.RowKit

def wordsL : List (List UInt8) := [[112, 117, 116], [103, 101, 116], [100, 101, 108], [115, 116, 111, 114, 101], [102, 101, 116, 99, 104], [100, 114, 111, 112], [112, 117, 115, 104], [112, 111, 112], [112, 101, 101, 107], [110, 101, 119], [114, 101, 97, 100], [102, 114, 101, 101], [116, 101, 110, 100]]
def wordL (op : Int) : List UInt8 := bif decide (0 ≤ op ∧ op < 13) then wordsL.getD op.toNat [] else []
def wordsF : Nat → Value := fun i => .string (sB (wordsL.getD i []))
theorem wordL_nat {k : Nat} (hk : k < 13) : wordL k = wordsL.getD k [] := by unfold wordL; rw [decide_eq_true (by omega)]; rfl
theorem wordL_no {op : Int} (h : ¬ (0 ≤ op ∧ op < 13)) : wordL op = [] := by unfold wordL; rw [decide_eq_false h]; rfl
theorem word_len (op : Int) : (wordL op).length ≤ 5 := by
  unfold wordL
  cases hd : decide (0 ≤ op ∧ op < 13)
  · exact Nat.zero_le _
  · have h := of_decide_eq_true hd
    have h2 : op.toNat < 13 := by omega
    have : ∀ k, k < 13 → (wordsL.getD k []).length ≤ 5 := by decide
    exact this _ h2
theorem wordsF_one (n : Nat) : (rowOf n wordsF).all (·.oneCell') = true := rowOf_one fun _ => rfl

set_option maxHeartbeats 1000000 in
theorem kWords_any (w : World) : Calls Tryz.prog 106 #[] w fun e w' => e = .returned (.agg (rowOf 13 wordsF)) ∧ Below w.heap.size w w' := by
  go_enter Tryz.func106, Tryz.ntmps106
  go_wp2_with fail
  have hr : Row (w.alloc (.cells (rowOf 13 wordsF) 184)) w.heap.size 184 13 wordsF := Row.new _ _ _ _ _ rfl
  exact bodyPost_ret (results_cell_row (p := 0) (ty := 184) (by kernel_rfl) _ _ w.heap.size 184 (rowOf 13 wordsF) (0, 0) _ rfl hr Tryz.underlying184 rfl (by kernel_rfl)) rfl ⟨rfl, (Below.refl _ _).alloc (Nat.le_refl _) _⟩
/- An element of what words tells. -/
section
variable (w : World)
theorem words_0 : (Instr.index 184 (.agg (rowOf 13 wordsF)) (.int .i64 0)).run Tryz.prog w = .ok (.string (sB (wordsL.getD 0 []))) w := by kernel_rfl
theorem words_1 : (Instr.index 184 (.agg (rowOf 13 wordsF)) (.int .i64 1)).run Tryz.prog w = .ok (.string (sB (wordsL.getD 1 []))) w := by kernel_rfl
theorem words_2 : (Instr.index 184 (.agg (rowOf 13 wordsF)) (.int .i64 2)).run Tryz.prog w = .ok (.string (sB (wordsL.getD 2 []))) w := by kernel_rfl
theorem words_3 : (Instr.index 184 (.agg (rowOf 13 wordsF)) (.int .i64 3)).run Tryz.prog w = .ok (.string (sB (wordsL.getD 3 []))) w := by kernel_rfl
theorem words_4 : (Instr.index 184 (.agg (rowOf 13 wordsF)) (.int .i64 4)).run Tryz.prog w = .ok (.string (sB (wordsL.getD 4 []))) w := by kernel_rfl
theorem words_5 : (Instr.index 184 (.agg (rowOf 13 wordsF)) (.int .i64 5)).run Tryz.prog w = .ok (.string (sB (wordsL.getD 5 []))) w := by kernel_rfl
theorem words_6 : (Instr.index 184 (.agg (rowOf 13 wordsF)) (.int .i64 6)).run Tryz.prog w = .ok (.string (sB (wordsL.getD 6 []))) w := by kernel_rfl
theorem words_7 : (Instr.index 184 (.agg (rowOf 13 wordsF)) (.int .i64 7)).run Tryz.prog w = .ok (.string (sB (wordsL.getD 7 []))) w := by kernel_rfl
theorem words_8 : (Instr.index 184 (.agg (rowOf 13 wordsF)) (.int .i64 8)).run Tryz.prog w = .ok (.string (sB (wordsL.getD 8 []))) w := by kernel_rfl
theorem words_9 : (Instr.index 184 (.agg (rowOf 13 wordsF)) (.int .i64 9)).run Tryz.prog w = .ok (.string (sB (wordsL.getD 9 []))) w := by kernel_rfl
theorem words_10 : (Instr.index 184 (.agg (rowOf 13 wordsF)) (.int .i64 10)).run Tryz.prog w = .ok (.string (sB (wordsL.getD 10 []))) w := by kernel_rfl
theorem words_11 : (Instr.index 184 (.agg (rowOf 13 wordsF)) (.int .i64 11)).run Tryz.prog w = .ok (.string (sB (wordsL.getD 11 []))) w := by kernel_rfl
theorem words_12 : (Instr.index 184 (.agg (rowOf 13 wordsF)) (.int .i64 12)).run Tryz.prog w = .ok (.string (sB (wordsL.getD 12 []))) w := by kernel_rfl
end
theorem words_at (k : Nat) (hk : k < 13) (w : World) : (Instr.index 184 (.agg (rowOf 13 wordsF)) (.int .i64 k)).run Tryz.prog w = .ok (.string (sB (wordsL.getD k []))) w :=
  match k, hk with
  | 0, _ => words_0 w
  | 1, _ => words_1 w
  | 2, _ => words_2 w
  | 3, _ => words_3 w
  | 4, _ => words_4 w
  | 5, _ => words_5 w
  | 6, _ => words_6 w
  | 7, _ => words_7 w
  | 8, _ => words_8 w
  | 9, _ => words_9 w
  | 10, _ => words_10 w
  | 11, _ => words_11 w
  | 12, _ => words_12 w
set_option maxHeartbeats 1000000 in
theorem kWord_any (c : Int) (w : World) : Calls Tryz.prog 82 #[.int .i64 c] w fun e w' => e = .returned (.string (sB (wordL c))) ∧ Below w.heap.size w w' := by
  have C1 := Lib.hid (fun W => kWords_any W)
  by_cases hin : 0 ≤ c ∧ c < 13
  · obtain ⟨k, rfl⟩ : ∃ k : Nat, c = k := ⟨c.toNat, by omega⟩
    have hk : k < 13 := by omega
    rw [wordL_nat hk]
    have x1 := words_at k hk
    have C2 := Lib.hid (fun W => kBelow_yes (n := k) (s := 13) hin.1 hin.2 W)
    generalize sB (wordsL.getD k []) = q at *
    clear hin hk
    go_enter Tryz.func82, Tryz.ntmps82
    go_wp2_with (first | (with_reducible refine (C2.out _).mono ?_; rintro e w' ⟨rfl, rfl⟩) | (refine (C1.out _).mono ?_; rintro e w1 ⟨rfl, hb1⟩))
    go_ret
    exact ⟨rfl, hb1⟩
  · rw [wordL_no hin]
    have C2 := Lib.hid (fun W => kBelow_no (n := c) (s := 13) hin W)
    clear hin
    go_enter Tryz.func82, Tryz.ntmps82
    go_wp2_with (with_reducible refine (C2.out _).mono ?_; rintro e w' ⟨rfl, rfl⟩)
    go_ret
    exact ⟨rfl, Below.refl _ _⟩
/-- Which op a word is, of the first k. -/
def opN (l : List UInt8) : Nat → Int
  | 0 => 0
  | k + 1 => bif wordsL.getD k [] == l then k else opN l k
def isW (l : List UInt8) : Nat → Bool
  | 0 => false
  | k + 1 => bif wordsL.getD k [] == l then true else isW l k
theorem hit {l : List UInt8} {k : Nat} (hk : k < 13) (h : (wordsL.getD k [] == l) = true) : opN l 13 = k ∧ isW l 13 = true := by
  obtain rfl := eq_of_beq h
  have : ∀ k, k < 13 → opN (wordsL.getD k []) 13 = k ∧ isW (wordsL.getD k []) 13 = true := by decide
  exact this k hk
theorem miss {l : List UInt8} : ∀ n, (∀ k, k < n → (wordsL.getD k [] == l) = false) → opN l n = 0 ∧ isW l n = false
  | 0, _ => ⟨rfl, rfl⟩
  | n + 1, h => by
    obtain ⟨h1, h2⟩ := miss n (fun k hk => h k (by omega))
    have h3 := h n (by omega)
    unfold opN isW
    rw [h3, h1, h2]
    exact ⟨rfl, rfl⟩
theorem sB_list (l : List UInt8) : (sB l).toList = l := ByteArray.toList_mk l
end Go.Proofs.YtiafjbhekfpkbaaGreatDoor
