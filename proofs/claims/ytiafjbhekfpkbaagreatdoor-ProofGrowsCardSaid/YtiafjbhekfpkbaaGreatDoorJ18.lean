/- Package proof: Behind, over what goOn tells. -/
import Derived.Test.YtiafjbhekfpkbaaGreatDoorJ17
import Derived.Test.YtiafjbhekfpkbaaGreatDoorJ6
namespace Go.Proofs.YtiafjbhekfpkbaaGreatDoor
set_option linter.unusedSimpArgs false
set_option linter.unusedVariables false
open Go.ChangeShapes Go.WideShapes Go.ChangeAt Go.RowKit Go.Maps
set_option linter.unusedSimpArgs false
set_option linter.unusedVariables false

def placeB (m : Nat) (x : Int) : Bool := decide (0 ≤ x) && decide (x < m)
/-- Is an order legal, if these of its steps are? -/
def legK (ok : Nat → Bool) (m : Nat) (O : List Int) (k : Nat) : Bool := placeB m (O.getD k 0) && ok k
def legB (ok : Nat → Bool) (m : Nat) (O : List Int) : Bool := (List.range O.length).all (legK ok m O)
/-- Behind's blocks: the state at first, the result, the state now. -/
structure BR (g : Nat) (f0 F : Nat → Value) (w W : World) : Prop where
  t3 : Row W g 74 63 f0
  t6 : ∃ Z, Row W (g + 1) 74 63 Z
  t8 : Row W (g + 1 + 1) 74 63 F
  bel : Below g w W
theorem BR.keep {g : Nat} {f0 F : Nat → Value} {w W W' : World} (h : BR g f0 F w W) (hb : Below W.heap.size W W') : BR g f0 F w W' :=
  ⟨h.t3.keep hb, h.t6.elim fun Z hz => ⟨Z, hz.keep hb⟩, h.t8.keep hb, h.bel.trans (hb.mono (by have := h.t3.lt; omega))⟩
theorem BR.new {g : Nat} {f0 F : Nat → Value} {w W : World} (h : BR g f0 F w W) {n : Nat} (hn : g + 3 ≤ n) (cs : Array Value) : BR g f0 F w (W.setRow n cs) :=
  ⟨h.t3.setRow_far (by omega) _, h.t6.elim fun Z hz => ⟨Z, hz.setRow_far (by omega) _⟩, h.t8.setRow_far (by omega) _, below_setRow_ h.bel (by omega) _⟩
theorem BR.go {g : Nat} {f0 F : Nat → Value} {w W : World} (h : BR g f0 F w W) (F' : Nat → Value) : BR g f0 F' w (W.setRow (g + 1 + 1) (rowOf 63 F')) :=
  ⟨h.t3.setRow_far (by omega) _, h.t6.elim fun Z hz => ⟨Z, hz.setRow_far (by omega) _⟩, h.t8.setRow_ _, below_setRow_ h.bel (by omega) _⟩
theorem BR.sz {g : Nat} {f0 F : Nat → Value} {w W : World} (h : BR g f0 F w W) : g + 3 ≤ W.heap.size := by have := h.t8.lt; omega
theorem br_old (f0 : Nat → Value) (c : Array Value) (hc : c.size = 63) (w : World) : ∀ W, ((w.alloc (.cells (rowOf 63 f0) 74)).alloc (.cells c 74)) = W → Row W w.heap.size 74 63 f0 ∧ (∃ Z, Row W (w.heap.size + 1) 74 63 Z) ∧ Below w.heap.size w W ∧ W.heap.size = w.heap.size + 1 + 1 := by
  rintro W rfl
  exact ⟨(Row.new w _ _ _ _ rfl).alloc _, row_zero _ _ _ _ hc (by simp), ((Below.refl _ w).alloc (Nat.le_refl _) _).alloc (by simp) _, by simp⟩
theorem br_new {f0 : Nat → Value} {g : Nat} {w W : World} (h1 : Row W g 74 63 f0) (h2 : ∃ Z, Row W (g + 1) 74 63 Z) (h3 : Below g w W) (h4 : W.heap.size = g + 1 + 1) (c : Array Value) : BR g f0 f0 w ((W.alloc (.cells c 74)).setRow (g + 1 + 1) (rowOf 63 f0)) := by
  refine ⟨(h1.alloc _).setRow_far (by omega) _, h2.elim fun Z hz => ⟨Z, (hz.alloc _).setRow_far (by omega) _⟩, ?_, below_setRow_ (h3.alloc (by omega) _) (by omega) _⟩
  rw [← h4, World.setRow_alloc_new]
  exact heap_alloc_new W _
theorem br_there {g : Nat} {W : World} (h4 : W.heap.size = g + 1 + 1) (c : Array Value) (t : TypeId) : (W.alloc (.cells c t)).heap[g + 1 + 1]? = some (.cells c t (0, 0)) := by rw [← h4]; exact heap_alloc_new W _
theorem BR.alloc {g : Nat} {f0 F : Nat → Value} {w W : World} (h : BR g f0 F w W) (o : Obj) : BR g f0 F w (W.alloc o) := h.keep ((Below.refl _ _).alloc (Nat.le_refl _) _)
theorem BR.drew {g : Nat} {f0 F : Nat → Value} {w W : World} (h : BR g f0 F w W) : BR g f0 F w W.drew := h.keep (Below.refl _ _).drew
theorem sz_le (w : World) (o : Obj) : w.heap.size ≤ (w.alloc o).drew.heap.size := by show w.heap.size ≤ (w.alloc o).heap.size; simp
theorem sz_lt (w : World) (o : Obj) : w.heap.size < (w.alloc o).drew.heap.size := by show w.heap.size < (w.alloc o).heap.size; simp
theorem fold63 (F : Nat → Value) : (#[F 0, F 1, F 2, F 3, F 4, F 5, F 6, F 7, F 8, F 9, F 10, F 11, F 12, F 13, F 14, F 15, F 16, F 17, F 18, F 19, F 20, F 21, F 22, F 23, F 24, F 25, F 26, F 27, F 28, F 29, F 30, F 31, F 32, F 33, F 34, F 35, F 36, F 37, F 38, F 39, F 40, F 41, F 42, F 43, F 44, F 45, F 46, F 47, F 48, F 49, F 50, F 51, F 52, F 53, F 54, F 55, F 56, F 57, F 58, F 59, F 60, F 61, F 62] : Array Value) = rowOf 63 F := rfl
theorem StemF.trans {f F F' : Nat → Value} {B B' : Nat} (h : StemF f B F) (h' : StemF F B' F') (hb : B ≤ B') : StemF f B F' := fun i k hi hk => by
  rcases h' i k hi hk with ⟨j, hj, h1⟩ | h1
  · exact h j k hj h1
  · exact .inr (Nat.le_trans hb h1)
abbrev After (R : Nat → (Nat → Value) → World → Prop) (k g n : Nat) (f0 F F' : Nat → Value) (bb : Bool) (w W : World) : Prop := Row W n 74 63 F' ∧ BR g f0 F w W ∧ (bb = true → R (k + 1) F' W)
theorem tailA {R : Nat → (Nat → Value) → World → Prop} {k g n : Nat} {f0 F F' : Nat → Value} {bb : Bool} {w w2 : World} {c : Array Value} (hB : BR g f0 F w w2) (hn : g + 3 ≤ n) (hrow : w2.heap[n]? = some (.cells c 74 (0, 0))) (hR : bb = true → R (k + 1) F' w2)
    (H2 : ∀ k F W n cs, R k F W → AwayF F n → R k F (W.setRow n cs)) (haw : bb = true → AwayF F' n) : After R k g n f0 F F' bb w (w2.setRow n (rowOf 63 F')) :=
  ⟨setRow_heap _ _ _ _ _ _ hrow, hB.new hn _, fun h => H2 _ _ _ _ _ (hR h) (haw h)⟩
theorem tailB {R : Nat → (Nat → Value) → World → Prop} {k g : Nat} {f0 F F' : Nat → Value} {bb : Bool} {w w2 : World} (hB : BR g f0 F w w2) (hn : g + 3 ≤ w2.heap.size) (hR : bb = true → R (k + 1) F' w2) (H1 : ∀ k F W W', R k F W → Below W.heap.size W W' → R k F W')
    (H2 : ∀ k F W n cs, R k F W → AwayF F n → R k F (W.setRow n cs)) (H3 : ∀ k F W i b, R k F W → i < 63 → (F i).ownBlock = some b → b < W.heap.size) (c : Array Value) : After R k g w2.heap.size f0 F F' bb w ((w2.alloc (.cells c 74)).setRow w2.heap.size (rowOf 63 F')) :=
  tailA (hB.alloc _) hn (heap_alloc_new w2 _) (fun h => H1 _ _ _ _ (hR h) ((Below.refl _ _).alloc (Nat.le_refl _) _)) H2 (fun h i b hi hb e => by have := H3 _ _ _ i b (hR h) hi hb; omega)
def Apart3 (g : Nat) (F : Nat → Value) : Prop := ∀ i b, i < 63 → (F i).ownBlock = some b → b < g ∨ g + 3 ≤ b
theorem Apart3.stem {g : Nat} {F F' : Nat → Value} (h : Apart3 g F) (hs : StemF F (g + 3) F') : Apart3 g F' := fun i b hi hb => by
  rcases hs i b hi hb with ⟨j, hj, h1⟩ | h1
  · exact h j b hj h1
  · exact .inr h1
set_option maxRecDepth 100000 in
set_option maxHeartbeats 8000000 in
theorem behind_any (f0 : Nat → Value) (L : List Opr) (O : List Int) (hL : L.length ≤ 1000000) (hO : O.length ≤ 1000000) (A D : Option Addr) (c d : Nat) (ok : Nat → Bool) (R : Nat → (Nat → Value) → World → Prop) (w : World)
    (ha : LiesC w A (flatF opF L)) (hd : LiesC w D (flatI O)) (hf0 : ∀ i, i < 63 → (f0 i).oneCell' = true) (hR0 : R 0 f0 w)
    (hR1 : ∀ k F W W', R k F W → Below W.heap.size W W' → R k F W') (hR2 : ∀ k F W n cs, R k F W → AwayF F n → R k F (W.setRow n cs)) (hR3 : ∀ k F W i b, R k F W → i < 63 → (F i).ownBlock = some b → b < W.heap.size)
    (HG : ∀ k F W, k < O.length → 0 ≤ O.getD k 0 → O.getD k 0 < L.length → R k F W → (∀ i, i < 63 → (F i).oneCell' = true) → Below w.heap.size w W → Calls Tryz.prog 35 #[.agg (rowOf 63 F), .agg (opF (oprN L (O.getD k 0).toNat)).toArray] W fun e w' => ∃ F' b, e = .returned (.tuple #[.agg (rowOf 63 F'), .bool b]) ∧ (b = ok k ∧ (b = true → R (k + 1) F' w')) ∧ (∀ i, i < 63 → (F' i).oneCell' = true) ∧ StemF F W.heap.size F' ∧ Below W.heap.size W w') :
    Calls Tryz.prog 21 #[.agg (rowOf 63 f0), .slice A L.length c, .slice D O.length d] w fun e w' => ∃ F b, e = .returned (.tuple #[.agg (rowOf 63 F), .bool b]) ∧ b = legB ok L.length O ∧ (b = true → R O.length F w') ∧ (∀ i, i < 63 → (F i).oneCell' = true) ∧ StemF f0 w.heap.size F ∧ Below w.heap.size w w' := by
  have HA := Lib.hid ha; have HD := Lib.hid hd; have HF0 := Lib.hid hf0; have H0 := Lib.hid hR0; have H1 := Lib.hid hR1; have H2 := Lib.hid hR2; have H3 := Lib.hid hR3; have HGG := Lib.hid HG
  have HY : Hid ((∀ k, k < O.length → legK ok L.length O k = true) → legB ok L.length O = true) := Lib.hid fun h => by unfold legB; rw [List.all_eq_true]; exact fun k hk => h k (List.mem_range.1 hk)
  have HN : Hid (∀ k, k < O.length → legK ok L.length O k = false → legB ok L.length O = false) := Lib.hid fun k hk h => by
    cases hx : legB ok L.length O with
    | false => rfl
    | true => unfold legB at hx; rw [List.all_eq_true] at hx; rw [hx k (List.mem_range.2 hk)] at h; cases h
  have HK : Hid (∀ k, legK ok L.length O k = (placeB L.length (O.getD k 0) && ok k)) := Lib.hid fun _ => rfl
  have CP := Lib.hid (fun x W => pIsPlace_any A L.length c hL x W)
  have HRG0 : Hid (∀ (W : World) (b off n : Nat), LiesC W (some ⟨b, off, none⟩) (flatF opF L) → n < L.length → W.rangeAt b (off + n * 16) (opF (oprN L n))) := Lib.hid fun W b off n h hn => LiesC.range6 h hn
  clear ha hd hf0 hR0 hR1 hR2 hR3 HG
  generalize hml : L.length = m at *
  generalize hol : O.length = l at *
  go_enter Tryz.func21, Tryz.ntmps21
  go_upto_region 1 with fail
  generalize hW : World.alloc (World.alloc _ _) _ = W
  obtain ⟨h1, h2, h3, h4⟩ := br_old f0 _ (by rfl) w W hW
  clear hW
  generalize hg : w.heap.size = g at *
  have HG := Lib.hid hg; clear hg
  have HB0 := Lib.hid (fun c => br_new h1 h2 h3 h4 c)
  have hth := fun c => br_there h4 c 74
  have HR0 := Lib.hid (H1.out 0 f0 w W H0.out (by rw [HG.out]; exact h3))
  clear h2 h3
  go_upto_region 2 with (first
    | (refine wpList_load_row rfl 74 _ rfl g rfl 74 (rowOf 63 f0) (0, 0) _ h1 Tryz.underlying74 rfl (by kernel_rfl) ?_)
    | (refine wpList_store_row rfl 74 _ _ rfl (g + 1 + 1) (rowOf 63 f0) rfl rfl 74 _ (hth _) (by kernel_rfl) rfl (rowOf_all HF0.out) ?_))
  clear hth h1
  have hh : ∀ c : Array Value, BR g f0 f0 w ((W.alloc (.cells c 74)).setRow (g + 1 + 1) (rowOf 63 f0)) ∧ R 0 f0 ((W.alloc (.cells c 74)).setRow (g + 1 + 1) (rowOf 63 f0)) := fun c =>
    ⟨HB0.out c, H2.out 0 f0 _ (g + 1 + 1) (rowOf 63 f0) (H1.out 0 f0 W _ HR0.out ((Below.refl _ _).alloc (Nat.le_refl _) (.cells c 74))) (fun i b hi hb e => by have := H3.out 0 f0 W i b HR0.out hi hb; omega)⟩
  generalize hW2 : World.setRow (World.alloc W _) _ _ = W2
  have hx : BR g f0 f0 w W2 ∧ R 0 f0 W2 := by rw [← hW2]; exact hh _
  have HX := Lib.hid hx
  have HAP : Hid (Apart3 g f0) := Lib.hid fun i b hi hb => .inl (by rw [← HG.out]; exact H3.out 0 f0 w i b H0.out hi hb)
  clear hh hx hW2 HB0 HR0 h4
  clear W
  go_wp2_with fail
  go_loopw [16] (fun s wr => ∃ (k : Nat) (F : Nat → Value), s = .int .i64 k ∧ k ≤ l ∧ BR g f0 F w wr ∧ R k F wr ∧ (∀ i, i < 63 → (F i).oneCell' = true) ∧ StemF f0 g F ∧ Apart3 g F ∧ ∀ i, i < k → legK ok m O i = true) (fun s _ => l - (intOf s).toNat)
  case atStart => exact ⟨0, f0, rfl, Nat.zero_le _, HX.out.1, HX.out.2, HF0.out, StemF.refl _ _, HAP.out, fun i hi => by omega⟩
  case round =>
    clear HX HAP
    obtain ⟨k, F, rfl, hk, hB, hR, hF, hS, hAp, he⟩ := hrel
    have HB := Lib.hid hB; have HR := Lib.hid hR; have HF := Lib.hid hF; have HS := Lib.hid hS; have HAP := Lib.hid hAp; have HE := Lib.hid he
    clear hR hF hS hAp he
    by_cases hlt : k < l
    · have hba : Below w.heap.size w wr := by rw [HG.out]; exact hB.bel
      obtain ⟨b, off, rfl, _, hy⟩ := (HD.out.keep hba).atI (by omega)
      have p0 := hy k (by omega)
      have hKk := HK.out k
      have hNk := HN.out k hlt
      have HGK := Lib.hid (fun W h1 h2 h3 h4 => HGG.out k F W hlt h1 h2 h3 HF.out h4)
      have HA1 := Lib.hid (HA.out.keep hba)
      clear hy hba hB
      generalize O.getD k 0 = y at *
      have CP1 : Hid (∀ W, Calls Tryz.prog 24 #[.slice A m c, .int .i64 y] W fun e w' => e = .returned (.bool (placeB m y)) ∧ W = w') := Lib.hid (fun W => CP.out y W)
      have HKk := Lib.hid hKk; have HNk := Lib.hid hNk
      clear hKk hNk
      cases hpb : placeB m y
      · rw [hpb] at CP1 HKk
        have HL := Lib.hid (HNk.out HKk.out)
        have h1 := HB.out.t3
        obtain ⟨Z, hz⟩ := HB.out.t6
        clear hpb
        go_wp2_with (first
          | (go_at_call 24; refine (CP1.out _).mono ?_; rintro e w2 ⟨rfl, rfl⟩)
          | (refine wpList_load_row rfl 74 _ rfl g rfl 74 (rowOf 63 f0) (0, 0) _ h1 Tryz.underlying74 rfl (by kernel_rfl) ?_)
          | (refine wpList_store_row rfl 74 _ _ rfl (g + 1) (rowOf 63 f0) rfl rfl 74 (rowOf 63 Z) hz (by kernel_rfl) rfl (rowOf_all HF0.out) ?_))
        refine bodyPost_ret (results_cell_tmp (p := 6) (u := 7) (ty := 74) (by kernel_rfl) _ _ (g + 1) 74 (rowOf 63 f0) (0, 0) _ rfl (hz.setRow_ _) Tryz.underlying74 rfl (by kernel_rfl)) rfl ?_
        exact ⟨f0, false, rfl, HL.out.symm, fun h => (by cases h), HF0.out, StemF.refl _ _, by rw [HG.out]; exact below_setRow_ HB.out.bel (by omega) _⟩
      · rw [hpb] at CP1 HKk
        have hpr : 0 ≤ y ∧ y < m := by
          unfold placeB at hpb
          simpa using hpb
        obtain ⟨n, rfl⟩ : ∃ n : Nat, y = n := ⟨y.toNat, by omega⟩
        have HGn := Lib.hid (fun W h1 h2 => HGK.out W hpr.1 hpr.2 h1 h2)
        rw [Int.toNat_natCast] at HGn
        have hnm : n < m := by omega
        obtain ⟨b2, off2, rfl, _, -⟩ := HA1.out.atO (by omega)
        clear hpb HGK
        go_upto_region 7 with (go_at_call 24; refine (CP1.out _).mono ?_; rintro e w2 ⟨rfl, rfl⟩)
        have HSZ := Lib.hid HB.out.sz
        have hbg : Below g w wr := HB.out.bel
        have HC1 := Lib.hid (HGn.out wr.drew (H1.out _ _ _ _ HR.out (Below.refl _ _).drew) (hbg.trans ((Below.refl g wr).drew)))
        have HC2 := Lib.hid (fun o => HGn.out (wr.alloc o).drew (H1.out _ _ _ _ HR.out ((Below.refl _ _).alloc (Nat.le_refl _) _).drew) (hbg.trans (((Below.refl g wr).alloc (by have := HSZ.out; omega) _).drew)))
        have HFB := Lib.hid (fun i b (hi : i < 63) hb => H3.out k F wr i b HR.out hi hb)
        clear HGn hbg
        have hfold := fold63 F
        refine wp_region_noPanic ?_
        refine wp_region_held_drew (S := fun w' => BR g f0 F w w') (by kernel_rfl) (HB.out.drew) (fun hHeld => ?_)
        try simp only [List.size_toArray, List.length_cons, List.length_nil, Nat.reduceAdd, Nat.reduceSub, Array.replicate_succ, Array.replicate_zero, List.push_toArray, List.append_toArray, List.nil_append, List.cons_append]   -- the listed as a literal: else each operation taken costs more than the last
        first | (refine wpAnyH_take (i := 0) (v := _) rfl (by kernel_rfl) (by kernel_rfl) (by kernel_rfl) (fun _ _ _ h => h) (yieldsIf_load_mid (by rfl) 74 _ rfl (g + 1 + 1) 0 rfl ((List.range 63).map F) _ (fun w' hw' => hw'.t8.range0) Tryz.underlying74 rfl (by kernel_rfl)) hHeld ?_)
        try simp only [Act.put, List.getElem_toArray, List.getElem_cons_succ, List.getElem_cons_zero, List.setIfInBounds_toArray, List.set_cons_zero, List.set_cons_succ]
        (refine wpAnyH_take (i := 1) (v := ?_) rfl (by kernel_rfl) (by kernel_rfl) (by kernel_rfl) (fun _ _ _ h => h) (Or.inl ⟨by rfl, ?_⟩) hHeld ?_; rotate_left; focus (intro w hSw; (try dsimp only at hSw); go_simp; (try with_reducible rfl)))
        try simp only [Act.put, List.getElem_toArray, List.getElem_cons_succ, List.getElem_cons_zero, List.setIfInBounds_toArray, List.set_cons_zero, List.set_cons_succ]
        (refine wpAnyH_take (i := 2) (v := ?_) rfl (by kernel_rfl) (by kernel_rfl) (by kernel_rfl) (fun _ _ _ h => h) (Or.inl ⟨by rfl, ?_⟩) hHeld ?_; rotate_left; focus (intro w hSw; (try dsimp only at hSw); go_simp; (try with_reducible rfl)))
        try simp only [Act.put, List.getElem_toArray, List.getElem_cons_succ, List.getElem_cons_zero, List.setIfInBounds_toArray, List.set_cons_zero, List.set_cons_succ]
        (refine wpAnyH_take (i := 3) (v := ?_) rfl (by kernel_rfl) (by kernel_rfl) (by kernel_rfl) (fun _ _ _ h => h) (Or.inl ⟨by rfl, ?_⟩) hHeld ?_; rotate_left; focus (intro w hSw; (try dsimp only at hSw); go_simp; (try with_reducible rfl)))
        try simp only [Act.put, List.getElem_toArray, List.getElem_cons_succ, List.getElem_cons_zero, List.setIfInBounds_toArray, List.set_cons_zero, List.set_cons_succ]
        first | (refine wpAnyH_take (i := 4) (v := _) rfl (by kernel_rfl) (by kernel_rfl) (by kernel_rfl) (fun _ _ _ h => h) (yieldsIf_load_mid (by rfl) 38 _ rfl b2 (off2 + n * 16) rfl (opF (oprN L n)) _ (fun w' hw' => HRG0.out w' b2 off2 n (HA.out.keep (by rw [HG.out]; exact hw'.bel)) hnm) Tryz.underlying38 rfl (by kernel_rfl)) hHeld ?_)
        try simp only [Act.put, List.getElem_toArray, List.getElem_cons_succ, List.getElem_cons_zero, List.setIfInBounds_toArray, List.set_cons_zero, List.set_cons_succ]
        refine wpAnyH_ready (rs := [5, 9]) (by kernel_rfl) (by simp) ?_
        refine (AllReadyH.cons rfl (fun K hK => ?_) (AllReadyH.cons rfl (fun K hK => ?_) AllReadyH.nil))
        · go_simp; (go_at_call 35; first | ((with_reducible refine HC1.out.mono ?_); rintro e w2 ⟨F', bb, rfl, hq, hF', hS', hb⟩; have HF' := Lib.hid hF'; have HS3 : Hid (StemF F (g + 3) F') := Lib.hid (hS'.mono HSZ.out); have HTB := Lib.hid (fun c => tailB (HB.out.drew.keep hb) (Nat.le_trans HSZ.out hb.size) hq.2 H1.out H2.out H3.out c); have HBQ := Lib.hid hq.1; clear hq hF' hS') | ((with_reducible refine (HC2.out _).mono ?_); rintro e w2 ⟨F', bb, rfl, hq, hF', hS', hb⟩; have HF' := Lib.hid hF'; have HS3 : Hid (StemF F (g + 3) F') := Lib.hid (hS'.mono (Nat.le_trans HSZ.out (sz_le _ _))); have hrow := (hb.block wr.heap.size (sz_lt _ _)).trans (heap_alloc_new wr _); have HTA := Lib.hid (tailA (HB.out.alloc _ |>.drew |>.keep hb) HSZ.out hrow hq.2 H2.out (fun _ => hS'.away (fun i b hi hb e => by have := HFB.out i b hi hb; omega) (sz_lt _ _))); have HROW := Lib.hid hrow; have HBQ := Lib.hid hq.1; clear hq hF' hS' hrow)); (try go_wp2_with fail); refine hK.out _ _ ?_ (fun hHeld' => ?_); (focus (first | with_reducible exact hHeld.keep hb | with_reducible exact hHeld.alloc _ | with_reducible exact (HB.out.alloc _).drew | with_reducible exact HT.out.2.1)); clear hK K; replace hHeld := hHeld'; clear hHeld'
          try simp only [Act.put, List.getElem_toArray, List.getElem_cons_succ, List.getElem_cons_zero, List.setIfInBounds_toArray, List.set_cons_zero, List.set_cons_succ]
          (refine wpAnyH_take (i := 6) (v := ?_) rfl (by kernel_rfl) (by kernel_rfl) (by kernel_rfl) (fun _ _ _ h => h) (Or.inl ⟨by rfl, ?_⟩) hHeld ?_; rotate_left; focus (intro w hSw; (try dsimp only at hSw); go_simp; (try with_reducible rfl)))
          try simp only [Act.put, List.getElem_toArray, List.getElem_cons_succ, List.getElem_cons_zero, List.setIfInBounds_toArray, List.set_cons_zero, List.set_cons_succ]
          (refine wpAnyH_take (i := 7) (v := ?_) rfl (by kernel_rfl) (by kernel_rfl) (by kernel_rfl) (fun _ _ _ h => h) (Or.inl ⟨by rfl, ?_⟩) hHeld ?_; rotate_left; focus (intro w hSw; (try dsimp only at hSw); go_simp; (try with_reducible rfl)))
          try simp only [Act.put, List.getElem_toArray, List.getElem_cons_succ, List.getElem_cons_zero, List.setIfInBounds_toArray, List.set_cons_zero, List.set_cons_succ]
          (refine wpAnyH_take (i := 8) (v := ?_) rfl (by kernel_rfl) (by kernel_rfl) (by kernel_rfl) (fun _ _ _ h => h) (Or.inl ⟨by rfl, ?_⟩) hHeld ?_; rotate_left; focus (intro w hSw; (try dsimp only at hSw); go_simp; (try with_reducible rfl)))
          try simp only [Act.put, List.getElem_toArray, List.getElem_cons_succ, List.getElem_cons_zero, List.setIfInBounds_toArray, List.set_cons_zero, List.set_cons_succ]
          (refine wpAnyH_ready (rs := [9]) (by kernel_rfl) (by simp) ?_; refine AllReadyH.cons rfl (fun K hK => ?_) AllReadyH.nil; skip; go_simp; (try go_wp2_with fail); refine hK.out _ _ ?_ (fun hHeld' => ?_); (focus (first | with_reducible exact hHeld.keep hb | with_reducible exact hHeld.alloc _ | with_reducible exact (HB.out.alloc _).drew | with_reducible exact HT.out.2.1)); clear hK K; replace hHeld := hHeld'; clear hHeld')
          try simp only [Act.put, List.getElem_toArray, List.getElem_cons_succ, List.getElem_cons_zero, List.setIfInBounds_toArray, List.set_cons_zero, List.set_cons_succ]
          (refine wpAnyH_ready (rs := [10]) (by kernel_rfl) (by simp) ?_; refine AllReadyH.cons rfl (fun K hK => ?_) AllReadyH.nil; (first | (refine wp_store_row 74 _ _ rfl w2.heap.size (rowOf 63 F') rfl rfl 74 _ (heap_alloc_new w2 _) (by kernel_rfl) rfl (rowOf_all HF'.out) ?_; generalize hq : World.setRow (World.alloc w2 _) _ _ = w4; have hT : After R k g w2.heap.size f0 F F' bb w w4 := (by rw [← hq]; exact HTB.out _); clear hq; have HT := Lib.hid hT; clear hT) | (refine wp_store_row 74 _ _ rfl wr.heap.size (rowOf 63 F') rfl rfl 74 _ HROW.out (by kernel_rfl) rfl (rowOf_all HF'.out) ?_; generalize hq : World.setRow w2 _ _ = w4; have hT : After R k g wr.heap.size f0 F F' bb w w4 := (by rw [← hq]; exact HTA.out); clear hq; have HT := Lib.hid hT; clear hT)); go_simp; (try go_wp2_with fail); refine hK.out _ _ ?_ (fun hHeld' => ?_); (focus (first | with_reducible exact hHeld.keep hb | with_reducible exact hHeld.alloc _ | with_reducible exact (HB.out.alloc _).drew | with_reducible exact HT.out.2.1)); clear hK K; replace hHeld := hHeld'; clear hHeld')
          try simp only [Act.put, List.getElem_toArray, List.getElem_cons_succ, List.getElem_cons_zero, List.setIfInBounds_toArray, List.set_cons_zero, List.set_cons_succ]
          (refine wpAnyH_take (i := 11) (v := ?_) rfl (by kernel_rfl) (by kernel_rfl) (by kernel_rfl) (fun _ _ _ h => h) (Or.inl ⟨by rfl, ?_⟩) hHeld ?_; rotate_left; focus (intro w hSw; (try dsimp only at hSw); go_simp; (try with_reducible rfl)))
          try simp only [Act.put, List.getElem_toArray, List.getElem_cons_succ, List.getElem_cons_zero, List.setIfInBounds_toArray, List.set_cons_zero, List.set_cons_succ]
          refine wpAnyH_done (by kernel_rfl) ?_ _
          refine NoPanic.normal ?_
          clear hHeld hfold
          have h1 := HT.out.1
          have h8 := HT.out.2.1.t8
          have h3 := HT.out.2.1.t3
          obtain ⟨Z6, h6⟩ := HT.out.2.1.t6
          cases bb
          · have HLK := Lib.hid (HNk.out (by rw [HKk.out, ← HBQ.out]; rfl))
            go_wp2_with (first | (refine wpList_load_row rfl 74 _ rfl g rfl 74 (rowOf 63 f0) (0, 0) _ h3 Tryz.underlying74 rfl (by kernel_rfl) ?_) | (refine wpList_store_row rfl 74 _ _ rfl (g + 1) (rowOf 63 f0) rfl rfl 74 (rowOf 63 Z6) h6 (by kernel_rfl) rfl (rowOf_all HF0.out) ?_))
            refine bodyPost_ret (results_cell_tmp (p := 6) (u := 7) (ty := 74) (by kernel_rfl) _ _ (g + 1) 74 (rowOf 63 f0) (0, 0) _ rfl (h6.setRow_ _) Tryz.underlying74 rfl (by kernel_rfl)) rfl ?_
            exact ⟨f0, false, rfl, HLK.out.symm, fun h => (by cases h), HF0.out, StemF.refl _ _, by rw [HG.out]; exact below_setRow_ HT.out.2.1.bel (by omega) _⟩
          · have hle : ∀ i, i < k + 1 → legK ok m O i = true := fun i hi => (Nat.lt_or_ge i k).elim (fun h => HE.out i h) (fun h => by have e : i = k := (by omega); rw [e, HKk.out, ← HBQ.out]; rfl)
            have HLE := Lib.hid hle
            clear hle h3 h6
            go_wp2_with (first | (refine wpList_load_row rfl 74 _ rfl _ rfl 74 (rowOf 63 F') (0, 0) _ h1 Tryz.underlying74 rfl (by kernel_rfl) ?_) | (refine wpList_store_row rfl 74 _ _ rfl (g + 1 + 1) (rowOf 63 F') rfl rfl 74 (rowOf 63 F) h8 (by kernel_rfl) rfl (rowOf_all HF'.out) ?_))
            go_roundw
            case rel => exact ⟨k + 1, F', by go_num, by omega, HT.out.2.1.go F', H2.out (k + 1) F' w4 _ _ (HT.out.2.2 rfl) (fun i b hi hb e => by have := HAP.out.stem HS3.out i b hi hb; omega), HF'.out, HS.out.trans HS3.out (by omega), HAP.out.stem HS3.out, HLE.out⟩
            case measure => simp [intOf]; omega
        · skip; go_simp; (try go_wp2_with fail); refine hK.out _ _ ?_ (fun hHeld' => ?_); (focus (first | with_reducible exact hHeld.keep hb | with_reducible exact hHeld.alloc _ | with_reducible exact (HB.out.alloc _).drew | with_reducible exact HT.out.2.1)); clear hK K; replace hHeld := hHeld'; clear hHeld'
          try simp only [Act.put, List.getElem_toArray, List.getElem_cons_succ, List.getElem_cons_zero, List.setIfInBounds_toArray, List.set_cons_zero, List.set_cons_succ]
          (refine wpAnyH_ready (rs := [5]) (by kernel_rfl) (by simp) ?_; refine AllReadyH.cons rfl (fun K hK => ?_) AllReadyH.nil; go_simp; (go_at_call 35; first | ((with_reducible refine HC1.out.mono ?_); rintro e w2 ⟨F', bb, rfl, hq, hF', hS', hb⟩; have HF' := Lib.hid hF'; have HS3 : Hid (StemF F (g + 3) F') := Lib.hid (hS'.mono HSZ.out); have HTB := Lib.hid (fun c => tailB (HB.out.drew.keep hb) (Nat.le_trans HSZ.out hb.size) hq.2 H1.out H2.out H3.out c); have HBQ := Lib.hid hq.1; clear hq hF' hS') | ((with_reducible refine (HC2.out _).mono ?_); rintro e w2 ⟨F', bb, rfl, hq, hF', hS', hb⟩; have HF' := Lib.hid hF'; have HS3 : Hid (StemF F (g + 3) F') := Lib.hid (hS'.mono (Nat.le_trans HSZ.out (sz_le _ _))); have hrow := (hb.block wr.heap.size (sz_lt _ _)).trans (heap_alloc_new wr _); have HTA := Lib.hid (tailA (HB.out.alloc _ |>.drew |>.keep hb) HSZ.out hrow hq.2 H2.out (fun _ => hS'.away (fun i b hi hb e => by have := HFB.out i b hi hb; omega) (sz_lt _ _))); have HROW := Lib.hid hrow; have HBQ := Lib.hid hq.1; clear hq hF' hS' hrow)); (try go_wp2_with fail); refine hK.out _ _ ?_ (fun hHeld' => ?_); (focus (first | with_reducible exact hHeld.keep hb | with_reducible exact hHeld.alloc _ | with_reducible exact (HB.out.alloc _).drew | with_reducible exact HT.out.2.1)); clear hK K; replace hHeld := hHeld'; clear hHeld')
          try simp only [Act.put, List.getElem_toArray, List.getElem_cons_succ, List.getElem_cons_zero, List.setIfInBounds_toArray, List.set_cons_zero, List.set_cons_succ]
          (refine wpAnyH_take (i := 6) (v := ?_) rfl (by kernel_rfl) (by kernel_rfl) (by kernel_rfl) (fun _ _ _ h => h) (Or.inl ⟨by rfl, ?_⟩) hHeld ?_; rotate_left; focus (intro w hSw; (try dsimp only at hSw); go_simp; (try with_reducible rfl)))
          try simp only [Act.put, List.getElem_toArray, List.getElem_cons_succ, List.getElem_cons_zero, List.setIfInBounds_toArray, List.set_cons_zero, List.set_cons_succ]
          (refine wpAnyH_take (i := 7) (v := ?_) rfl (by kernel_rfl) (by kernel_rfl) (by kernel_rfl) (fun _ _ _ h => h) (Or.inl ⟨by rfl, ?_⟩) hHeld ?_; rotate_left; focus (intro w hSw; (try dsimp only at hSw); go_simp; (try with_reducible rfl)))
          try simp only [Act.put, List.getElem_toArray, List.getElem_cons_succ, List.getElem_cons_zero, List.setIfInBounds_toArray, List.set_cons_zero, List.set_cons_succ]
          (refine wpAnyH_take (i := 8) (v := ?_) rfl (by kernel_rfl) (by kernel_rfl) (by kernel_rfl) (fun _ _ _ h => h) (Or.inl ⟨by rfl, ?_⟩) hHeld ?_; rotate_left; focus (intro w hSw; (try dsimp only at hSw); go_simp; (try with_reducible rfl)))
          try simp only [Act.put, List.getElem_toArray, List.getElem_cons_succ, List.getElem_cons_zero, List.setIfInBounds_toArray, List.set_cons_zero, List.set_cons_succ]
          (refine wpAnyH_ready (rs := [10]) (by kernel_rfl) (by simp) ?_; refine AllReadyH.cons rfl (fun K hK => ?_) AllReadyH.nil; (first | (refine wp_store_row 74 _ _ rfl w2.heap.size (rowOf 63 F') rfl rfl 74 _ (heap_alloc_new w2 _) (by kernel_rfl) rfl (rowOf_all HF'.out) ?_; generalize hq : World.setRow (World.alloc w2 _) _ _ = w4; have hT : After R k g w2.heap.size f0 F F' bb w w4 := (by rw [← hq]; exact HTB.out _); clear hq; have HT := Lib.hid hT; clear hT) | (refine wp_store_row 74 _ _ rfl wr.heap.size (rowOf 63 F') rfl rfl 74 _ HROW.out (by kernel_rfl) rfl (rowOf_all HF'.out) ?_; generalize hq : World.setRow w2 _ _ = w4; have hT : After R k g wr.heap.size f0 F F' bb w w4 := (by rw [← hq]; exact HTA.out); clear hq; have HT := Lib.hid hT; clear hT)); go_simp; (try go_wp2_with fail); refine hK.out _ _ ?_ (fun hHeld' => ?_); (focus (first | with_reducible exact hHeld.keep hb | with_reducible exact hHeld.alloc _ | with_reducible exact (HB.out.alloc _).drew | with_reducible exact HT.out.2.1)); clear hK K; replace hHeld := hHeld'; clear hHeld')
          try simp only [Act.put, List.getElem_toArray, List.getElem_cons_succ, List.getElem_cons_zero, List.setIfInBounds_toArray, List.set_cons_zero, List.set_cons_succ]
          (refine wpAnyH_take (i := 11) (v := ?_) rfl (by kernel_rfl) (by kernel_rfl) (by kernel_rfl) (fun _ _ _ h => h) (Or.inl ⟨by rfl, ?_⟩) hHeld ?_; rotate_left; focus (intro w hSw; (try dsimp only at hSw); go_simp; (try with_reducible rfl)))
          try simp only [Act.put, List.getElem_toArray, List.getElem_cons_succ, List.getElem_cons_zero, List.setIfInBounds_toArray, List.set_cons_zero, List.set_cons_succ]
          refine wpAnyH_done (by kernel_rfl) ?_ _
          refine NoPanic.normal ?_
          clear hHeld hfold
          have h1 := HT.out.1
          have h8 := HT.out.2.1.t8
          have h3 := HT.out.2.1.t3
          obtain ⟨Z6, h6⟩ := HT.out.2.1.t6
          cases bb
          · have HLK := Lib.hid (HNk.out (by rw [HKk.out, ← HBQ.out]; rfl))
            go_wp2_with (first | (refine wpList_load_row rfl 74 _ rfl g rfl 74 (rowOf 63 f0) (0, 0) _ h3 Tryz.underlying74 rfl (by kernel_rfl) ?_) | (refine wpList_store_row rfl 74 _ _ rfl (g + 1) (rowOf 63 f0) rfl rfl 74 (rowOf 63 Z6) h6 (by kernel_rfl) rfl (rowOf_all HF0.out) ?_))
            refine bodyPost_ret (results_cell_tmp (p := 6) (u := 7) (ty := 74) (by kernel_rfl) _ _ (g + 1) 74 (rowOf 63 f0) (0, 0) _ rfl (h6.setRow_ _) Tryz.underlying74 rfl (by kernel_rfl)) rfl ?_
            exact ⟨f0, false, rfl, HLK.out.symm, fun h => (by cases h), HF0.out, StemF.refl _ _, by rw [HG.out]; exact below_setRow_ HT.out.2.1.bel (by omega) _⟩
          · have hle : ∀ i, i < k + 1 → legK ok m O i = true := fun i hi => (Nat.lt_or_ge i k).elim (fun h => HE.out i h) (fun h => by have e : i = k := (by omega); rw [e, HKk.out, ← HBQ.out]; rfl)
            have HLE := Lib.hid hle
            clear hle h3 h6
            go_wp2_with (first | (refine wpList_load_row rfl 74 _ rfl _ rfl 74 (rowOf 63 F') (0, 0) _ h1 Tryz.underlying74 rfl (by kernel_rfl) ?_) | (refine wpList_store_row rfl 74 _ _ rfl (g + 1 + 1) (rowOf 63 F') rfl rfl 74 (rowOf 63 F) h8 (by kernel_rfl) rfl (rowOf_all HF'.out) ?_))
            go_roundw
            case rel => exact ⟨k + 1, F', by go_num, by omega, HT.out.2.1.go F', H2.out (k + 1) F' w4 _ _ (HT.out.2.2 rfl) (fun i b hi hb e => by have := HAP.out.stem HS3.out i b hi hb; omega), HF'.out, HS.out.trans HS3.out (by omega), HAP.out.stem HS3.out, HLE.out⟩
            case measure => simp [intOf]; omega
    · obtain rfl : k = l := by omega
      have HL := Lib.hid (HY.out HE.out)
      have h1 := hB.t8
      obtain ⟨Z, hz⟩ := hB.t6
      clear hB
      go_wp2_with (first
        | (refine wpList_load_row rfl 74 _ rfl (g + 1 + 1) rfl 74 (rowOf 63 F) (0, 0) _ h1 Tryz.underlying74 rfl (by kernel_rfl) ?_)
        | (refine wpList_store_row rfl 74 _ _ rfl (g + 1) (rowOf 63 F) rfl rfl 74 (rowOf 63 Z) hz (by kernel_rfl) rfl (rowOf_all HF.out) ?_))
      refine bodyPost_ret (results_cell_tmp (p := 6) (u := 7) (ty := 74) (by kernel_rfl) _ _ (g + 1) 74 (rowOf 63 F) (0, 0) _ rfl (hz.setRow_ _) Tryz.underlying74 rfl (by kernel_rfl)) rfl ?_
      exact ⟨F, true, rfl, HL.out.symm, fun _ => H2.out _ F wr _ _ HR.out (fun i b hi hb e => by rcases HAP.out i b hi hb with h | h <;> omega), HF.out, by rw [HG.out]; exact HS.out, by rw [HG.out]; exact below_setRow_ HB.out.bel (by omega) _⟩
end Go.Proofs.YtiafjbhekfpkbaaGreatDoor
