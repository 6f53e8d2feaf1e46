/- burnbagref18.Take. -/
import Derived.Test.YtdbankogamolcaaDoorJ21
import Derived.Test.YtdbankogamolcaaDoorJ8
import Derived.Test.YtdbankogamolcaaDoorJ7
import Derived.Deep.RegionLaw
namespace Go.Proofs.YtdbankogamolcaaDoor
set_option linter.unusedSimpArgs false
set_option linter.unusedVariables false
open Go.ChangeShapes Go.WideShapes Go.ChangeAt Go.RowKit
set_option linter.unusedSimpArgs false

/-- The configuration's numbers, those of the first k threads' levels among them. -/
def takeK (L : List Int) (k : Nat) : Nat → Int := fun i => if 2 + k ≤ i ∧ i < 10 then 0 else takeC L i
theorem takeK_all (L : List Int) : takeK L 8 = takeC L := funext fun i => by unfold takeK; rw [if_neg (by omega)]
theorem takeK_next (L : List Int) {k : Nat} (hk : k < 8) : (fun j => if j = 2 + k then byN L (2 + k) else takeK L k j) = takeK L (k + 1) := funext fun j => by
  unfold takeK
  by_cases h : j = 2 + k
  · subst h
    rw [if_pos rfl, if_neg (by omega)]
    unfold takeC
    rw [if_pos (by omega)]
  · rw [if_neg h]
    by_cases h2 : 2 + k ≤ j ∧ j < 10
    · rw [if_pos h2, if_pos (by omega)]
    · rw [if_neg h2, if_neg (by omega)]
/-- What the literal has. -/
def litF (a b c d e f : Int) : Nat → Value := fun i => [.int .i64 a, .int .i64 b, .int .i64 0, .int .i64 0, .int .i64 0, .int .i64 0, .int .i64 0, .int .i64 0, .int .i64 0, .int .i64 0, .int .i64 c, .int .i64 d, .int .i64 e, .int .i64 f, .slice none 0 0, .slice none 0 0, .slice none 0 0, .slice none 0 0, .slice none 0 0, .slice none 0 0, .slice none 0 0, .slice none 0 0, .slice none 0 0].getD i undef
def litA (a b c d e f : Int) : Array Value := #[.int .i64 a, .int .i64 b, .int .i64 0, .int .i64 0, .int .i64 0, .int .i64 0, .int .i64 0, .int .i64 0, .int .i64 0, .int .i64 0, .int .i64 c, .int .i64 d, .int .i64 e, .int .i64 f, .slice none 0 0, .slice none 0 0, .slice none 0 0, .slice none 0 0, .slice none 0 0, .slice none 0 0, .slice none 0 0, .slice none 0 0, .slice none 0 0]
theorem litA_row (a b c d e f : Int) : litA a b c d e f = rowOf 23 (litF a b c d e f) := rfl
theorem litA_one (a b c d e f : Int) : ((litA a b c d e f).all fun x => x.oneCell') = true := by simp [litA, Value.oneCell']
theorem lit_conf (L : List Int) : ∀ i, i < 14 → litF (byN L 0) (byN L 1) (byN L 10) (byN L 11) (atN L 12 3 3) (byN L 15) i = .int .i64 (takeK L 0 i) := fun i hi => by
  match i, hi with
  | 0, _ | 1, _ | 2, _ | 3, _ | 4, _ | 5, _ | 6, _ | 7, _ | 8, _ | 9, _ | 10, _ | 11, _ | 12, _ | 13, _ => rfl
theorem lit_nil (a b c d e f : Int) : ∀ k, k < 9 → litF a b c d e f (14 + k) = .slice none 0 0 := fun k hk => by
  match k, hk with
  | 0, _ | 1, _ | 2, _ | 3, _ | 4, _ | 5, _ | 6, _ | 7, _ | 8, _ => rfl
/-- The result's block. -/
structure Res0 (w : World) (q : Nat) (W : World) : Prop where
  sz : w.heap.size = q
  bel : Below q w W
  row : Row W q 29 23 zeroF
  size : W.heap.size = q + 1
theorem res0 (w : World) : ∀ W, w.alloc (.cells zeroAr 29) = W → Res0 w w.heap.size W := by
  rintro W rfl
  exact ⟨rfl, (Below.refl _ _).alloc (Nat.le_refl _) _, Row.new _ _ _ _ _ zeroAr_row, by simp⟩
/-- Where the literal is stored. -/
theorem take_lit {w W0 W : World} {q : Nat} (L : List Int) (h : Res0 w q W0) (hW : W = (W0.alloc (.cells (litA (byN L 0) (byN L 1) (byN L 10) (byN L 11) (atN L 12 3 3) (byN L 15)) 29)).drew) :
    TkR w q (q + 1) (q + 2) ⟨takeK L 0, fun _ => [], []⟩ (litF (byN L 0) (byN L 1) (byN L 10) (byN L 11) (atN L 12 3 3) (byN L 15)) W := by
  have hs := h.size
  have h3 : Below q w W := by rw [hW]; exact (h.bel.alloc (by omega) _).drew
  have ho : Row W (q + 1) 29 23 (litF (byN L 0) (byN L 1) (byN L 10) (byN L 11) (atN L 12 3 3) (byN L 15)) := by
    rw [hW, ← hs]; exact (Row.new _ _ _ _ _ (litA_row ..)).drew
  exact tk_new h.sz h3 (by omega) (by omega) (by rw [hW]; simp; omega) (by rw [hW]; exact (h.row.alloc _).drew) ho (lit_conf L) (lit_nil _ _ _ _ _ _)
theorem res_row1 {P : Program} {fn : Func} {p u : Tmp} {ty : TypeId} (h : fn.results = #[.cell p ty, .tmp u]) (tmps : Array Value) (w : World) (g : Nat) (t : TypeId) (cs : Array Value) (fr : Nat × Nat) (d : TypeDesc)
    (hp : tmps.getD p undef = .pointer (some ⟨g, 0, none⟩)) (hg : w.heap[g]? = some (.cells cs t fr))
    (hu : P.underlying ty = some d) (hd : (match d with | .struct _ | .array _ _ => true | _ => false) = true) (hi : (P.info? ty).map (·.size) = some cs.size) :
    (results fn tmps).run P w = .ok (.tuple #[.agg cs, tmps.getD u undef]) w := by
  have hp' : tmps[p]?.getD undef = .pointer (some ⟨g, 0, none⟩) := by simpa using hp
  simp [results, h, hp', asAddr, run_loadVar_row w g t ty cs fr d hg hu hd hi]
theorem takePs_round (L : List Int) {T t : Nat} (h : t < T) (i : Nat) (p : Nat → List Cl) : takePs L (T - t) t i p = if L.length ≤ i then (4, i, p) else if 40 < byN L i then (5, i, p) else
    if (takeCls L (byN L i).toNat (i + 1) []).1 = 0 then takePs L (T - (t + 1)) (t + 1) (takeCls L (byN L i).toNat (i + 1) []).2.1 (setP p t (takeCls L (byN L i).toNat (i + 1) []).2.2) else ((takeCls L (byN L i).toNat (i + 1) []).1, i, p) := by
  rw [show T - t = (T - (t + 1)) + 1 by omega, takePs]
theorem takeCls_round (L : List Int) {N k : Nat} (h : k < N) (j : Nat) (P : List Cl) : takeCls L (N - k) j P = if (L.length : Int) - j < 35 then (4, j, P) else if mayC (byN L j) (byN L (j + 1)) (byN L (j + 2)) = false then (14, j, P) else takeCls L (N - (k + 1)) (j + 35) (P ++ [takeCl L j]) := by
  rw [show N - k = (N - (k + 1)) + 1 by omega, takeCls]
theorem takeEs_round (L : List Int) {j : Nat} (T : Int) (h : j < L.length) (E : List Ent) : takeEs L T (L.length - j) j E = if E.length = 60000 then (5, E) else if 31 < byN L j ∨ T ≤ byN L j % 8 then (3, E) else takeEs L T (L.length - (j + 1)) (j + 1) (E ++ [⟨byN L j % 8, byN L j / 8⟩]) := by
  rw [show L.length - j = (L.length - (j + 1)) + 1 by omega, takeEs]
theorem setP_nil {p : Nat → List Cl} {t : Nat} (h : p t = []) : setP p t [] = p := funext fun k => by
  unfold setP
  split
  · next e => rw [e, h]
  · rfl
theorem setP_set (p : Nat → List Cl) (t : Nat) (P Q : List Cl) : setP (setP p t P) t Q = setP p t Q := funext fun k => by
  unfold setP
  split <;> rfl
theorem setP_at (p : Nat → List Cl) (t : Nat) (P : List Cl) : setP p t P t = P := by unfold setP; rw [if_pos rfl]
theorem setP_ne (p : Nat → List Cl) {t k : Nat} (P : List Cl) (h : k ≠ t) : setP p t P k = p k := by unfold setP; rw [if_neg h]
structure ELim (E : List Ent) : Prop where
  le : E.length ≤ 60000
theorem msr_lt {j n : Nat} (h : j < n) : n - (j + 1) < n - j := by omega
theorem sgn64 {y : Int} (h : 0 ≤ y ∧ y < 18446744073709551616) : wrap64 y = sgnN y := by unfold wrap64 sgnN; split <;> omega
@[reducible] def zeroCA : Array Value := #[.int .i64 0, .int .i64 0, .int .i64 0, .int .u64 0, .int .u64 0, .int .u64 0, .int .i64 0]
set_option maxRecDepth 100000 in
set_option maxHeartbeats 8000000 in
theorem r18Take_any (A : Option Addr) (c : Nat) (L : List Int) (hL : L.length ≤ 61000) (hB : Byt L) (w : World) (h : LiesC w A (flatB L)) :
    Calls Tryd.prog 19 #[.slice A L.length c] w fun e w' => ∃ F, e = .returned (.tuple #[.agg (rowOf 23 F), .int .i64 (takeN L).1]) ∧ ScrIs w' F (takeN L).2 ∧ Below w.heap.size w w' := by
  have HA := Lib.hid h
  have HBY := Lib.hid hB
  have HT16 : Hid (L.length < 16 → takeN L = (4, noScr)) := Lib.hid fun h => by unfold takeN; rw [if_pos h]
  have HT2 : Hid (¬ L.length < 16 → mayB (takeC L) = false → takeN L = (2, noScr)) := Lib.hid fun h h2 => by unfold takeN; rw [if_neg h, if_pos h2]
  have HT3 : Hid (¬ L.length < 16 → mayB (takeC L) = true → ∀ T : Nat, byN L 1 = T → ∀ x, takePs L T 0 16 (fun _ => []) = x → x.1 ≠ 0 → takeN L = (x.1, noScr)) := Lib.hid fun h h2 T hT x hx h0 => by
    unfold takeN; rw [if_neg h, if_neg (by rw [h2]; exact Bool.noConfusion), hT, Int.toNat_natCast, hx]; dsimp only; rw [if_neg h0]
  have HT4 : Hid (¬ L.length < 16 → mayB (takeC L) = true → ∀ T : Nat, byN L 1 = T → ∀ i p, takePs L T 0 16 (fun _ => []) = (0, i, p) → ∀ y, takeEs L (T : Int) (L.length - i) i [] = y → takeN L = if y.1 = 0 then (0, ⟨takeC L, p, y.2⟩) else (y.1, noScr)) := Lib.hid fun h h2 T hT i p hx y hy => by
    unfold takeN; rw [if_neg h, if_neg (by rw [h2]; exact Bool.noConfusion), hT, Int.toNat_natCast, hx]; dsimp only; rw [if_pos rfl, hy]
  clear h hB
  have HRS := Lib.hid (res0 w)
  generalize hn : L.length = n at *
  have HN := Lib.hid hn; clear hn
  go_enter Tryd.func19, Tryd.ntmps19
  go_upto_region 1 with fail
  generalize hW : World.alloc _ _ = W0
  have hr0 := HRS.out W0 hW
  have hba := HA.out.keep (Below.alloc (Below.refl w.heap.size w) (Nat.le_refl _) (Obj.cells zeroAr 29))
  rw [show w.alloc (.cells zeroAr 29) = W0 from hW] at hba
  have HA0 := Lib.hid hba
  clear hW HRS hba
  generalize hq : w.heap.size = q at *
  have HQ := Lib.hid hq; clear hq
  have HF : Hid (Below q w W0 ∧ Row W0 q 29 23 zeroF) := Lib.hid ⟨hr0.bel, hr0.row⟩
  have HR0 := Lib.hid hr0; clear hr0
  by_cases h16 : n < 16
  · have HE := Lib.hid (HT16.out h16)
    clear HA HBY HA0
    go_wp2_with (refine wpList_store_row rfl 29 _ _ rfl q zeroAr rfl rfl 29 zeroAr HF.out.2 (by kernel_rfl) rfl zero_one ?_)
    refine bodyPost_ret (res_row1 (p := 2) (u := 3) (ty := 29) (by kernel_rfl) _ _ q 29 zeroAr (0, 0) _ rfl (HF.out.2.setRow_ zeroF) Tryd.underlying29 rfl (by kernel_rfl)) rfl ?_
    exact ⟨zeroF, by rw [HE.out]; rfl, by rw [HE.out]; exact zeroF_is _, by rw [HQ.out]; exact below_setRow_ HF.out.1 (Nat.le_refl _) _⟩
  · obtain ⟨b, off, rfl, hb0, hx⟩ := HA.out.atB (by rw [HN.out]; omega)
    rw [HN.out] at hx
    rw [HQ.out] at hb0
    have HLB : Hid (∀ W, Below q w W → LiesC W (some ⟨b, off, none⟩) (flatB L)) := Lib.hid fun W hW => HA.out.keep (by rw [HQ.out]; exact hW)
    have HCB : Hid (∀ i, i < n → ∀ W, Below q w W → W.cell? ⟨b, off + i, none⟩ = some (.int .u8 (byN L i))) := Lib.hid fun i hi W hW => by
      have h0 := hx i hi
      unfold World.cell? at h0 ⊢
      rw [hW.block b hb0]
      exact h0
    have HT := Lib.hid (fun W => take_lit (w := w) (W0 := W0) (W := W) L HR0.out)
    have hb1 := byN_bound HBY.out 0
    have hb2 := byN_bound HBY.out 1
    have hb3 := byN_bound HBY.out 10
    have hb4 := byN_bound HBY.out 11
    have hb5 := byN_bound HBY.out 15
    have hb6 := atN_bound HBY.out 12 3 3
    rw [show (256 : Int) ^ 3 = 16777216 from rfl] at hb6
    have CA : Hid (∀ W, Below q w W → Calls Tryd.prog 40 #[.slice (some ⟨b, off, none⟩) n c, .int .i64 12, .int .i64 3] W fun e w' => e = .returned (.int .u64 (atN L 12 3 3)) ∧ W = w') := Lib.hid fun W hW => by
      have h := r18At_any (some ⟨b, off, none⟩) c L HBY.out (by rw [HN.out]; omega) 12 3 (by omega) (by rw [HN.out]; omega) W (HLB.out W hW)
      rw [HN.out] at h
      exact h
    have HS : Hid (∀ W, Below q w W → (Below q w W ∧ W.cell? ⟨b, off, none⟩ = some (.int .u8 (byN L 0)) ∧ W.cell? ⟨b, off + 1, none⟩ = some (.int .u8 (byN L 1)) ∧ W.cell? ⟨b, off + 10, none⟩ = some (.int .u8 (byN L 10)) ∧ W.cell? ⟨b, off + 11, none⟩ = some (.int .u8 (byN L 11)) ∧ W.cell? ⟨b, off + 15, none⟩ = some (.int .u8 (byN L 15)))) := Lib.hid fun W hW => ⟨hW, HCB.out 0 (by omega) W hW, HCB.out 1 (by omega) W hW, HCB.out 10 (by omega) W hW, HCB.out 11 (by omega) W hW, HCB.out 15 (by omega) W hW⟩
    have hw1 : IntKind.i64.wrap (byN L 0) = byN L 0 := by rw [IntKind.wrap_i64]; omega
    have hw2 : IntKind.i64.wrap (byN L 1) = byN L 1 := by rw [IntKind.wrap_i64]; omega
    have hw3 : IntKind.i64.wrap (byN L 10) = byN L 10 := by rw [IntKind.wrap_i64]; omega
    have hw4 : IntKind.i64.wrap (byN L 11) = byN L 11 := by rw [IntKind.wrap_i64]; omega
    have hw5 : IntKind.i64.wrap (byN L 15) = byN L 15 := by rw [IntKind.wrap_i64]; omega
    have hw6 : IntKind.i64.wrap (atN L 12 3 3) = atN L 12 3 3 := by rw [IntKind.wrap_i64]; omega
    have t0 : 0 < n := by omega
    have t1 : (1 : Int) < n := by omega
    have t2 : (10 : Int) < n := by omega
    have t3 : (11 : Int) < n := by omega
    have t4 : (15 : Int) < n := by omega
    have HSQ := Lib.hid HR0.out.size
    have HSZ : Hid (q ≤ W0.heap.size) := Lib.hid (by have := HSQ.out; omega)
    have HTA := Lib.hid (HT.out _ rfl)
    have HSR : Hid (World.setRow (W0.alloc (.cells zeroAr 29)).drew W0.heap.size (litA (byN L 0) (byN L 1) (byN L 10) (byN L 11) (atN L 12 3 3) (byN L 15)) = (W0.alloc (.cells (litA (byN L 0) (byN L 1) (byN L 10) (byN L 11) (atN L 12 3 3) (byN L 15)) 29)).drew) := Lib.hid (World.setRow_alloc_new W0.drew _ _ _)
    have HT2' := Lib.hid (HT2.out h16)
    have HT3' := Lib.hid (HT3.out h16)
    have HT4' := Lib.hid (HT4.out h16)
    clear hx hb0 HT16 HT HT2 HT3 HT4
    go_upto_region 3 with fail
    go_cut [4] (fun s wx => s = .pointer (some ⟨q + 1, 0, none⟩) ∧ ∃ F, TkR w q (q + 1) (q + 2) ⟨takeK L 0, fun _ => [], []⟩ F wx)
    case first =>
      refine wp_region_noPanic ?_
      refine wp_region_held_drew (S := fun w' => (Below q w w' ∧ w'.cell? ⟨b, off, none⟩ = some (.int .u8 (byN L 0)) ∧ w'.cell? ⟨b, off + 1, none⟩ = some (.int .u8 (byN L 1)) ∧ w'.cell? ⟨b, off + 10, none⟩ = some (.int .u8 (byN L 10)) ∧ w'.cell? ⟨b, off + 11, none⟩ = some (.int .u8 (byN L 11)) ∧ w'.cell? ⟨b, off + 15, none⟩ = some (.int .u8 (byN L 15)))) (by kernel_rfl) (HS.out _ HF.out.1.drew) (fun hHeld => ?_)
      try simp only [List.size_toArray, List.length_cons, List.length_nil, Nat.reduceAdd, Nat.reduceSub, Array.replicate_succ, Array.replicate_zero, List.push_toArray, List.append_toArray, List.nil_append, List.cons_append]   -- the listed as a literal: else each operation taken costs more than the last
      (refine wpAnyH_take (i := 0) (v := ?_) rfl (by kernel_rfl) (by kernel_rfl) (by kernel_rfl) (fun _ _ _ h => h) (Or.inl ⟨by rfl, ?_⟩) hHeld ?_; rotate_left; focus (intro w hSw; (try dsimp only at hSw); go_simp; (try with_reducible rfl)))
      try simp only [Act.put, List.getElem_toArray, List.getElem_cons_succ, List.getElem_cons_zero, List.setIfInBounds_toArray, List.set_cons_zero, List.set_cons_succ]
      (refine wpAnyH_take (i := 1) (v := ?_) rfl (by kernel_rfl) (by kernel_rfl) (by kernel_rfl) (fun _ _ _ h => h) (Or.inl ⟨by rfl, ?_⟩) hHeld ?_; rotate_left; focus (intro w hSw; (try dsimp only at hSw); go_simp; (try with_reducible rfl)))
      try simp only [Act.put, List.getElem_toArray, List.getElem_cons_succ, List.getElem_cons_zero, List.setIfInBounds_toArray, List.set_cons_zero, List.set_cons_succ]
      (refine wpAnyH_take (i := 2) (v := ?_) rfl (by kernel_rfl) (by kernel_rfl) (by kernel_rfl) (fun _ _ _ h => h) (Or.inl ⟨by rfl, ?_⟩) hHeld ?_; rotate_left; focus (intro w hSw; (try dsimp only at hSw); go_simp; (try with_reducible rfl)))
      try simp only [Act.put, List.getElem_toArray, List.getElem_cons_succ, List.getElem_cons_zero, List.setIfInBounds_toArray, List.set_cons_zero, List.set_cons_succ]
      (refine wpAnyH_take (i := 3) (v := ?_) rfl (by kernel_rfl) (by kernel_rfl) (by kernel_rfl) (fun _ _ _ h => h) (Or.inl ⟨by rfl, ?_⟩) hHeld ?_; rotate_left; focus (intro w hSw; (try dsimp only at hSw); go_simp; (try with_reducible rfl)))
      try simp only [Act.put, List.getElem_toArray, List.getElem_cons_succ, List.getElem_cons_zero, List.setIfInBounds_toArray, List.set_cons_zero, List.set_cons_succ]
      (refine wpAnyH_take (i := 4) (v := ?_) rfl (by kernel_rfl) (by kernel_rfl) (by kernel_rfl) (fun _ _ _ h => h) (Or.inl ⟨by rfl, ?_⟩) hHeld ?_; rotate_left; focus (intro w hSw; (try dsimp only at hSw); go_simp; (try with_reducible rfl)))
      try simp only [Act.put, List.getElem_toArray, List.getElem_cons_succ, List.getElem_cons_zero, List.setIfInBounds_toArray, List.set_cons_zero, List.set_cons_succ]
      (refine wpAnyH_take (i := 5) (v := ?_) rfl (by kernel_rfl) (by kernel_rfl) (by kernel_rfl) (fun _ _ _ h => h) (Or.inl ⟨by rfl, ?_⟩) hHeld ?_; rotate_left; focus (intro w hSw; (try dsimp only at hSw); go_simp; (try with_reducible rfl)))
      try simp only [Act.put, List.getElem_toArray, List.getElem_cons_succ, List.getElem_cons_zero, List.setIfInBounds_toArray, List.set_cons_zero, List.set_cons_succ]
      (refine wpAnyH_take (i := 6) (v := ?_) rfl (by kernel_rfl) (by kernel_rfl) (by kernel_rfl) (fun _ _ _ h => h) (Or.inl ⟨by rfl, ?_⟩) hHeld ?_; rotate_left; focus (intro w hSw; (try dsimp only at hSw); go_simp; (try with_reducible rfl)))
      try simp only [Act.put, List.getElem_toArray, List.getElem_cons_succ, List.getElem_cons_zero, List.setIfInBounds_toArray, List.set_cons_zero, List.set_cons_succ]
      (refine wpAnyH_take (i := 7) (v := ?_) rfl (by kernel_rfl) (by kernel_rfl) (by kernel_rfl) (fun _ _ _ h => h) (Or.inl ⟨by rfl, ?_⟩) hHeld ?_; rotate_left; focus (intro w hSw; (try dsimp only at hSw); go_simp; (try with_reducible rfl)))
      try simp only [Act.put, List.getElem_toArray, List.getElem_cons_succ, List.getElem_cons_zero, List.setIfInBounds_toArray, List.set_cons_zero, List.set_cons_succ]
      (refine wpAnyH_take (i := 8) (v := ?_) rfl (by kernel_rfl) (by kernel_rfl) (by kernel_rfl) (fun _ _ _ h => h) (Or.inl ⟨by rfl, ?_⟩) hHeld ?_; rotate_left; focus (intro w hSw; (try dsimp only at hSw); go_simp; (try with_reducible rfl)))
      try simp only [Act.put, List.getElem_toArray, List.getElem_cons_succ, List.getElem_cons_zero, List.setIfInBounds_toArray, List.set_cons_zero, List.set_cons_succ]
      (refine wpAnyH_take (i := 9) (v := ?_) rfl (by kernel_rfl) (by kernel_rfl) (by kernel_rfl) (fun _ _ _ h => h) (Or.inl ⟨by rfl, ?_⟩) hHeld ?_; rotate_left; focus (intro w hSw; (try dsimp only at hSw); go_simp; (try with_reducible rfl)))
      try simp only [Act.put, List.getElem_toArray, List.getElem_cons_succ, List.getElem_cons_zero, List.setIfInBounds_toArray, List.set_cons_zero, List.set_cons_succ]
      (refine wpAnyH_take (i := 10) (v := ?_) rfl (by kernel_rfl) (by kernel_rfl) (by kernel_rfl) (fun _ _ _ h => h) (Or.inl ⟨by rfl, ?_⟩) hHeld ?_; rotate_left; focus (intro w hSw; (try dsimp only at hSw); go_simp; (try with_reducible rfl)))
      try simp only [Act.put, List.getElem_toArray, List.getElem_cons_succ, List.getElem_cons_zero, List.setIfInBounds_toArray, List.set_cons_zero, List.set_cons_succ]
      (refine wpAnyH_take (i := 11) (v := ?_) rfl (by kernel_rfl) (by kernel_rfl) (by kernel_rfl) (fun _ _ _ h => h) (Or.inl ⟨by rfl, ?_⟩) hHeld ?_; rotate_left; focus (intro w hSw; (try dsimp only at hSw); go_simp; (try with_reducible rfl)))
      try simp only [Act.put, List.getElem_toArray, List.getElem_cons_succ, List.getElem_cons_zero, List.setIfInBounds_toArray, List.set_cons_zero, List.set_cons_succ]
      (refine wpAnyH_take (i := 12) (v := ?_) rfl (by kernel_rfl) (by kernel_rfl) (by kernel_rfl) (fun _ _ _ h => h) (Or.inl ⟨by rfl, ?_⟩) hHeld ?_; rotate_left; focus (intro w hSw; (try dsimp only at hSw); go_simp; (try with_reducible rfl)))
      try simp only [Act.put, List.getElem_toArray, List.getElem_cons_succ, List.getElem_cons_zero, List.setIfInBounds_toArray, List.set_cons_zero, List.set_cons_succ]
      (refine wpAnyH_take (i := 13) (v := ?_) rfl (by kernel_rfl) (by kernel_rfl) (by kernel_rfl) (fun _ _ _ h => h) (Or.inl ⟨by rfl, ?_⟩) hHeld ?_; rotate_left; focus (intro w hSw; (try dsimp only at hSw); go_simp; (try with_reducible rfl)))
      try simp only [Act.put, List.getElem_toArray, List.getElem_cons_succ, List.getElem_cons_zero, List.setIfInBounds_toArray, List.set_cons_zero, List.set_cons_succ]
      (refine wpAnyH_take (i := 14) (v := ?_) rfl (by kernel_rfl) (by kernel_rfl) (by kernel_rfl) (fun _ _ _ h => h) (Or.inl ⟨by rfl, ?_⟩) hHeld ?_; rotate_left; focus (intro w hSw; (try dsimp only at hSw); go_simp; (try with_reducible rfl)))
      try simp only [Act.put, List.getElem_toArray, List.getElem_cons_succ, List.getElem_cons_zero, List.setIfInBounds_toArray, List.set_cons_zero, List.set_cons_succ]
      (refine wpAnyH_take (i := 15) (v := ?_) rfl (by kernel_rfl) (by kernel_rfl) (by kernel_rfl) (fun _ _ _ h => h) (Or.inl ⟨by rfl, ?_⟩) hHeld ?_; rotate_left; focus (intro w hSw; (try dsimp only at hSw); go_simp; (try with_reducible rfl)))
      try simp only [Act.put, List.getElem_toArray, List.getElem_cons_succ, List.getElem_cons_zero, List.setIfInBounds_toArray, List.set_cons_zero, List.set_cons_succ]
      (refine wpAnyH_take (i := 16) (v := ?_) rfl (by kernel_rfl) (by kernel_rfl) (by kernel_rfl) (fun _ _ _ h => h) (Or.inl ⟨by rfl, ?_⟩) hHeld ?_; rotate_left; focus (intro w hSw; (try dsimp only at hSw); go_simp; (try with_reducible rfl)))
      try simp only [Act.put, List.getElem_toArray, List.getElem_cons_succ, List.getElem_cons_zero, List.setIfInBounds_toArray, List.set_cons_zero, List.set_cons_succ]
      (refine wpAnyH_take (i := 19) (v := ?_) rfl (by kernel_rfl) (by kernel_rfl) (by kernel_rfl) (fun _ _ _ h => h) (Or.inl ⟨by rfl, ?_⟩) hHeld ?_; rotate_left; focus (intro w hSw; (try dsimp only at hSw); go_simp; (try with_reducible rfl)))
      try simp only [Act.put, List.getElem_toArray, List.getElem_cons_succ, List.getElem_cons_zero, List.setIfInBounds_toArray, List.set_cons_zero, List.set_cons_succ]
      (refine wpAnyH_take (i := 20) (v := ?_) rfl (by kernel_rfl) (by kernel_rfl) (by kernel_rfl) (fun _ _ _ h => h) (Or.inl ⟨by rfl, ?_⟩) hHeld ?_; rotate_left; focus (intro w hSw; (try dsimp only at hSw); go_simp; (try with_reducible rfl)))
      try simp only [Act.put, List.getElem_toArray, List.getElem_cons_succ, List.getElem_cons_zero, List.setIfInBounds_toArray, List.set_cons_zero, List.set_cons_succ]
      (refine wpAnyH_take (i := 21) (v := ?_) rfl (by kernel_rfl) (by kernel_rfl) (by kernel_rfl) (fun _ _ _ h => h) (Or.inl ⟨by rfl, ?_⟩) hHeld ?_; rotate_left; focus (intro w hSw; (try dsimp only at hSw); go_simp; (try with_reducible rfl)))
      try simp only [Act.put, List.getElem_toArray, List.getElem_cons_succ, List.getElem_cons_zero, List.setIfInBounds_toArray, List.set_cons_zero, List.set_cons_succ]
      (refine wpAnyH_take (i := 22) (v := ?_) rfl (by kernel_rfl) (by kernel_rfl) (by kernel_rfl) (fun _ _ _ h => h) (Or.inl ⟨by rfl, ?_⟩) hHeld ?_; rotate_left; focus (intro w hSw; (try dsimp only at hSw); go_simp; (try with_reducible rfl)))
      try simp only [Act.put, List.getElem_toArray, List.getElem_cons_succ, List.getElem_cons_zero, List.setIfInBounds_toArray, List.set_cons_zero, List.set_cons_succ]
      refine wpAnyH_ready (rs := [17, 25]) (by kernel_rfl) (by simp) ?_
      refine (AllReadyH.cons rfl (fun K hK => ?_) (AllReadyH.cons rfl (fun K hK => ?_) AllReadyH.nil))
      · go_simp; (go_at_call 40; refine (CA.out _ hHeld.1).mono ?_; rintro e w' ⟨rfl, rfl⟩); (try go_wp2_with fail); refine hK.out _ _ ?_ (fun hHeld' => ?_); (focus (first | with_reducible exact HS.out _ ((HF.out.1.alloc HSZ.out _).drew) | with_reducible exact hHeld | with_reducible exact HS.out _ HTA.out.bel)); clear hK K; replace hHeld := hHeld'; clear hHeld'
        try simp only [Act.put, List.getElem_toArray, List.getElem_cons_succ, List.getElem_cons_zero, List.setIfInBounds_toArray, List.set_cons_zero, List.set_cons_succ]
        (refine wpAnyH_take (i := 18) (v := ?_) rfl (by kernel_rfl) (by kernel_rfl) (by kernel_rfl) (fun _ _ _ h => h) (Or.inl ⟨by rfl, ?_⟩) hHeld ?_; rotate_left; focus (intro w hSw; (try dsimp only at hSw); go_simp; (try with_reducible rfl)))
        try simp only [Act.put, List.getElem_toArray, List.getElem_cons_succ, List.getElem_cons_zero, List.setIfInBounds_toArray, List.set_cons_zero, List.set_cons_succ]
        (refine wpAnyH_take (i := 23) (v := ?_) rfl (by kernel_rfl) (by kernel_rfl) (by kernel_rfl) (fun _ _ _ h => h) (Or.inl ⟨by rfl, ?_⟩) hHeld ?_; rotate_left; focus (intro w hSw; (try dsimp only at hSw); go_simp; (try with_reducible rfl)))
        try simp only [Act.put, List.getElem_toArray, List.getElem_cons_succ, List.getElem_cons_zero, List.setIfInBounds_toArray, List.set_cons_zero, List.set_cons_succ]
        (refine wpAnyH_take (i := 24) (v := ?_) rfl (by kernel_rfl) (by kernel_rfl) (by kernel_rfl) (fun _ _ _ h => h) (Or.inl ⟨by rfl, ?_⟩) hHeld ?_; rotate_left; focus (intro w hSw; (try dsimp only at hSw); go_simp; (try with_reducible rfl)))
        try simp only [Act.put, List.getElem_toArray, List.getElem_cons_succ, List.getElem_cons_zero, List.setIfInBounds_toArray, List.set_cons_zero, List.set_cons_succ]
        (refine wpAnyH_ready (rs := [25]) (by kernel_rfl) (by simp) ?_; refine AllReadyH.cons rfl (fun K hK => ?_) AllReadyH.nil; skip; go_simp; (try go_wp2_with fail); refine hK.out _ _ ?_ (fun hHeld' => ?_); (focus (first | with_reducible exact HS.out _ ((HF.out.1.alloc HSZ.out _).drew) | with_reducible exact hHeld | with_reducible exact HS.out _ HTA.out.bel)); clear hK K; replace hHeld := hHeld'; clear hHeld')
        try simp only [Act.put, List.getElem_toArray, List.getElem_cons_succ, List.getElem_cons_zero, List.setIfInBounds_toArray, List.set_cons_zero, List.set_cons_succ]
        (refine wpAnyH_ready (rs := [26]) (by kernel_rfl) (by simp) ?_; refine AllReadyH.cons rfl (fun K hK => ?_) AllReadyH.nil; (refine if_wanted (by rfl) ?_; refine wp_store_row 29 _ _ rfl W0.heap.size (litA (byN L 0) (byN L 1) (byN L 10) (byN L 11) (atN L 12 3 3) (byN L 15)) rfl rfl 29 zeroAr (heap_alloc_new W0 _) (by kernel_rfl) rfl (litA_one _ _ _ _ _ _) ?_; rw [HSR.out]); go_simp; (try go_wp2_with fail); refine hK.out _ _ ?_ (fun hHeld' => ?_); (focus (first | with_reducible exact HS.out _ ((HF.out.1.alloc HSZ.out _).drew) | with_reducible exact hHeld | with_reducible exact HS.out _ HTA.out.bel)); clear hK K; replace hHeld := hHeld'; clear hHeld')
        try simp only [Act.put, List.getElem_toArray, List.getElem_cons_succ, List.getElem_cons_zero, List.setIfInBounds_toArray, List.set_cons_zero, List.set_cons_succ]
        refine wpAnyH_done (by kernel_rfl) ?_ _
        refine NoPanic.normal ?_
        go_wp2_with fail
        go_meet
        exact ⟨by rw [HSQ.out], _, HTA.out⟩
      · skip; go_simp; (try go_wp2_with fail); refine hK.out _ _ ?_ (fun hHeld' => ?_); (focus (first | with_reducible exact HS.out _ ((HF.out.1.alloc HSZ.out _).drew) | with_reducible exact hHeld | with_reducible exact HS.out _ HTA.out.bel)); clear hK K; replace hHeld := hHeld'; clear hHeld'
        try simp only [Act.put, List.getElem_toArray, List.getElem_cons_succ, List.getElem_cons_zero, List.setIfInBounds_toArray, List.set_cons_zero, List.set_cons_succ]
        (refine wpAnyH_ready (rs := [17]) (by kernel_rfl) (by simp) ?_; refine AllReadyH.cons rfl (fun K hK => ?_) AllReadyH.nil; go_simp; (go_at_call 40; refine (CA.out _ hHeld.1).mono ?_; rintro e w' ⟨rfl, rfl⟩); (try go_wp2_with fail); refine hK.out _ _ ?_ (fun hHeld' => ?_); (focus (first | with_reducible exact HS.out _ ((HF.out.1.alloc HSZ.out _).drew) | with_reducible exact hHeld | with_reducible exact HS.out _ HTA.out.bel)); clear hK K; replace hHeld := hHeld'; clear hHeld')
        try simp only [Act.put, List.getElem_toArray, List.getElem_cons_succ, List.getElem_cons_zero, List.setIfInBounds_toArray, List.set_cons_zero, List.set_cons_succ]
        (refine wpAnyH_take (i := 18) (v := ?_) rfl (by kernel_rfl) (by kernel_rfl) (by kernel_rfl) (fun _ _ _ h => h) (Or.inl ⟨by rfl, ?_⟩) hHeld ?_; rotate_left; focus (intro w hSw; (try dsimp only at hSw); go_simp; (try with_reducible rfl)))
        try simp only [Act.put, List.getElem_toArray, List.getElem_cons_succ, List.getElem_cons_zero, List.setIfInBounds_toArray, List.set_cons_zero, List.set_cons_succ]
        (refine wpAnyH_take (i := 23) (v := ?_) rfl (by kernel_rfl) (by kernel_rfl) (by kernel_rfl) (fun _ _ _ h => h) (Or.inl ⟨by rfl, ?_⟩) hHeld ?_; rotate_left; focus (intro w hSw; (try dsimp only at hSw); go_simp; (try with_reducible rfl)))
        try simp only [Act.put, List.getElem_toArray, List.getElem_cons_succ, List.getElem_cons_zero, List.setIfInBounds_toArray, List.set_cons_zero, List.set_cons_succ]
        (refine wpAnyH_take (i := 24) (v := ?_) rfl (by kernel_rfl) (by kernel_rfl) (by kernel_rfl) (fun _ _ _ h => h) (Or.inl ⟨by rfl, ?_⟩) hHeld ?_; rotate_left; focus (intro w hSw; (try dsimp only at hSw); go_simp; (try with_reducible rfl)))
        try simp only [Act.put, List.getElem_toArray, List.getElem_cons_succ, List.getElem_cons_zero, List.setIfInBounds_toArray, List.set_cons_zero, List.set_cons_succ]
        (refine wpAnyH_ready (rs := [26]) (by kernel_rfl) (by simp) ?_; refine AllReadyH.cons rfl (fun K hK => ?_) AllReadyH.nil; (refine if_wanted (by rfl) ?_; refine wp_store_row 29 _ _ rfl W0.heap.size (litA (byN L 0) (byN L 1) (byN L 10) (byN L 11) (atN L 12 3 3) (byN L 15)) rfl rfl 29 zeroAr (heap_alloc_new W0 _) (by kernel_rfl) rfl (litA_one _ _ _ _ _ _) ?_; rw [HSR.out]); go_simp; (try go_wp2_with fail); refine hK.out _ _ ?_ (fun hHeld' => ?_); (focus (first | with_reducible exact HS.out _ ((HF.out.1.alloc HSZ.out _).drew) | with_reducible exact hHeld | with_reducible exact HS.out _ HTA.out.bel)); clear hK K; replace hHeld := hHeld'; clear hHeld')
        try simp only [Act.put, List.getElem_toArray, List.getElem_cons_succ, List.getElem_cons_zero, List.setIfInBounds_toArray, List.set_cons_zero, List.set_cons_succ]
        refine wpAnyH_done (by kernel_rfl) ?_ _
        refine NoPanic.normal ?_
        go_wp2_with fail
        go_meet
        exact ⟨by rw [HSQ.out], _, HTA.out⟩
    case rest =>
      obtain ⟨rfl, F0, hr0⟩ := hcut
      have HT0 := Lib.hid hr0
      clear hr0 HS CA HR0 HA0 HSQ HSZ HTA HSR HF hb1 hb2 hb3 hb4 hb5 hb6 hw1 hw2 hw3 hw4 hw5 hw6 t0 t1 t2 t3 t4
      have HKN := Lib.hid (fun k (hk : k < 8) => takeK_next L hk)
      go_wp2_with fail
      go_loopw [5] (fun i wr => ∃ k F, i = .int .i64 (k : Nat) ∧ k ≤ 8 ∧ TkR w q (q + 1) (q + 2) ⟨takeK L k, fun _ => [], []⟩ F wr) (fun i _ => 8 - (intOf i).toNat)
      case atStart => exact ⟨0, _, rfl, Nat.zero_le _, HT0.out⟩
      case round =>
        clear HT0
        obtain ⟨k, F, rfl, hk, hr⟩ := hrel
        by_cases hlt : k < 8
        · have p0 := HCB.out (2 + k) (by omega) wr hr.bel
          have c0 := hr.row.cell (i := 2 + k) (by omega)
          have f0 := hr.row.frozen (2 + k)
          have hbk := byN_bound HBY.out (2 + k)
          have hk1 : wrap64 (2 + (k : Int)) = ((2 + k : Nat) : Int) := by unfold wrap64; omega
          have hw : IntKind.i64.wrap (byN L (2 + k)) = byN L (2 + k) := by rw [IntKind.wrap_i64]; omega
          have h8 : (k : Int) < 8 := by omega
          have HZ : Hid (TkR w q (q + 1) (q + 2) ⟨takeK L (k + 1), fun _ => [], []⟩ _ _) := Lib.hid (by have h1 := hr.setC (i := 2 + k) (by omega) (byN L (2 + k)); rw [show (⟨takeK L k, fun _ => [], []⟩ : Scr).c = takeK L k from rfl, HKN.out k hlt] at h1; exact h1)
          clear hr hbk
          generalize byN L (2 + k) = x at *
          generalize F (2 + k) = fv at *
          go_wp2_with fail
          go_roundw
          case rel => exact ⟨k + 1, _, by go_num, by omega, HZ.out⟩
          case measure => simp [intOf]; omega
        · obtain rfl : k = 8 := by omega
          rw [takeK_all] at hr
          have HR1 := Lib.hid hr; clear hr HKN
          rw [show ((8 : Nat) : Int) = 8 from rfl]
          have CM := Lib.hid (fun W => rMay_any (takeC L) (takeC_ok HBY.out) W)
          cases hm : mayB (takeC L)
          · have HE := Lib.hid (HT2'.out hm)
            rw [hm] at CM
            clear hm
            go_upto_region 9 with (first | (refine wpList_load_mid rfl 24 _ rfl (q + 1) 0 rfl ((List.range 14).map (ints (takeC L))) _ HR1.out.at_.confR Tryd.underlying24 rfl (by kernel_rfl) ?_) | (go_at_call 25; refine (CM.out _).mono ?_; rintro e w1 ⟨rfl, hb⟩; have HR2 := Lib.hid (HR1.out.keep hb); clear hb))
            have HF := Lib.hid (And.intro HR2.out.bel HR2.out.res)
            go_wp2_with (refine wpList_store_row rfl 29 _ _ rfl q zeroAr rfl rfl 29 zeroAr HF.out.2 (by kernel_rfl) rfl zero_one ?_)
            refine bodyPost_ret (res_row1 (p := 2) (u := 3) (ty := 29) (by kernel_rfl) _ _ q 29 zeroAr (0, 0) _ rfl (HF.out.2.setRow_ zeroF) Tryd.underlying29 rfl (by kernel_rfl)) rfl ?_
            exact ⟨zeroF, by rw [HE.out]; rfl, by rw [HE.out]; exact zeroF_is _, by rw [HQ.out]; exact below_setRow_ HF.out.1 (Nat.le_refl _) _⟩
          · have hbd := may_bounds hm
            have HT3 := Lib.hid (HT3'.out hm)
            have HT4 := Lib.hid (HT4'.out hm)
            rw [hm] at CM
            obtain ⟨T, hT⟩ : ∃ T : Nat, byN L 1 = (T : Int) := ⟨(byN L 1).toNat, by have := byN_bound HBY.out 1; omega⟩
            have hT8 : T ≤ 8 := by have h1 := hbd.2.1; rw [show takeC L 1 = byN L 1 from rfl, hT] at h1; omega
            have HTT := Lib.hid hT
            clear hm hbd hT HT2' HT3' HT4'
            go_upto_region 10 with (first | (refine wpList_load_mid rfl 24 _ rfl (q + 1) 0 rfl ((List.range 14).map (ints (takeC L))) _ HR1.out.at_.confR Tryd.underlying24 rfl (by kernel_rfl) ?_) | (go_at_call 25; refine (CM.out _).mono ?_; rintro e w1 ⟨rfl, hb⟩; have HR2 := Lib.hid (HR1.out.keep hb); clear hb))
            clear HR1 CM
            have HX := Lib.hid (HT3.out T HTT.out)
            have HX4 := Lib.hid (HT4.out T HTT.out)
            clear HT3 HT4
            generalize hX : takePs L T 0 16 (fun _ => []) = X at *
            have HXE := Lib.hid hX; clear hX
            have HTC : Hid (takeC L 1 = (T : Int)) := Lib.hid HTT.out
            go_wp2_with fail
            go_loopw [6, 7] (fun iv tv wr => ∃ (i t : Nat) (p : Nat → List Cl) (F : Nat → Value), iv = .int .i64 i ∧ tv = .int .i64 t ∧ t ≤ T ∧ i ≤ n ∧ TkR w q (q + 1) (q + 2) ⟨takeC L, p, []⟩ F wr ∧ takePs L (T - t) t i p = X ∧ (∀ k, t ≤ k → p k = []) ∧ ∀ k, (p k).length ≤ 40) (fun _ tv _ => T - (intOf tv).toNat)
            case atStart => exact ⟨16, 0, _, _, rfl, rfl, Nat.zero_le _, by omega, HR2.out, HXE.out, fun _ _ => rfl, fun _ => Nat.zero_le _⟩
            case round =>
              clear HR2 HXE
              obtain ⟨i, t, p, F, rfl, rfl, ht, hi, hr, hx, hp0, hp40⟩ := hrel
              have c1 : wr.cell? ⟨q + 1, 1, none⟩ = some (.int .i64 (T : Int)) := by rw [hr.row.cell (i := 1) (by omega), hr.conf 1 (by omega)]; show some (Value.int .i64 (takeC L 1)) = _; rw [HTC.out]
              have HR := Lib.hid hr
              have HP0 := Lib.hid hp0
              have HP40 := Lib.hid hp40
              clear hr hp0 hp40
              by_cases hlt : t < T
              · rw [takePs_round L hlt, HN.out] at hx
                by_cases hni : n ≤ i
                · rw [if_pos hni] at hx
                  have HXC : Hid (X.1 = 4) := Lib.hid (by rw [← hx])
                  have HE := Lib.hid (HX.out X rfl (by rw [HXC.out]; decide))
                  rw [HXC.out] at HE
                  have HF := Lib.hid (And.intro HR.out.bel HR.out.res)
                  clear hx
                  go_upto_region 15 with fail
                  go_wp2_with (refine wpList_store_row rfl 29 _ _ rfl q zeroAr rfl rfl 29 zeroAr HF.out.2 (by kernel_rfl) rfl zero_one ?_)
                  refine bodyPost_ret (res_row1 (p := 2) (u := 3) (ty := 29) (by kernel_rfl) _ _ q 29 zeroAr (0, 0) _ rfl (HF.out.2.setRow_ zeroF) Tryd.underlying29 rfl (by kernel_rfl)) rfl ?_
                  exact ⟨zeroF, by rw [HE.out]; rfl, by rw [HE.out]; exact zeroF_is _, by rw [HQ.out]; exact below_setRow_ HF.out.1 (Nat.le_refl _) _⟩
                · rw [if_neg hni] at hx
                  have hin : i < n := by omega
                  have p0 := HCB.out i hin wr HR.out.bel
                  have hbi := byN_bound HBY.out i
                  obtain ⟨N0, hN0⟩ : ∃ N0 : Nat, byN L i = (N0 : Int) := ⟨(byN L i).toNat, by omega⟩
                  rw [hN0] at p0 hbi hx
                  rw [Int.toNat_natCast] at hx
                  clear hN0
                  by_cases h40 : (40 : Int) < N0
                  · rw [if_pos h40] at hx
                    have HXC : Hid (X.1 = 5) := Lib.hid (by rw [← hx])
                    have HE := Lib.hid (HX.out X rfl (by rw [HXC.out]; decide))
                    rw [HXC.out] at HE
                    have HF := Lib.hid (And.intro HR.out.bel HR.out.res)
                    clear hx
                    go_upto_region 19 with fail
                    go_wp2_with (refine wpList_store_row rfl 29 _ _ rfl q zeroAr rfl rfl 29 zeroAr HF.out.2 (by kernel_rfl) rfl zero_one ?_)
                    refine bodyPost_ret (res_row1 (p := 2) (u := 3) (ty := 29) (by kernel_rfl) _ _ q 29 zeroAr (0, 0) _ rfl (HF.out.2.setRow_ zeroF) Tryd.underlying29 rfl (by kernel_rfl)) rfl ?_
                    exact ⟨zeroF, by rw [HE.out]; rfl, by rw [HE.out]; exact zeroF_is _, by rw [HQ.out]; exact below_setRow_ HF.out.1 (Nat.le_refl _) _⟩
                  · rw [if_neg h40] at hx
                    generalize hY : takeCls L N0 (i + 1) [] = Y at *
                    have HYE := Lib.hid hY; have HXY := Lib.hid hx
                    clear hY hx
                    go_wp2_with fail
                    have HR3 : Hid (TkR w q (q + 1) (q + 2) ⟨takeC L, setP p t [], []⟩ F wr) := Lib.hid (by rw [setP_nil (HP0.out t (Nat.le_refl _))]; exact HR.out)
                    go_loopw [6, 9] (fun jv kv wr => ∃ (j k : Nat) (P : List Cl) (F : Nat → Value), jv = .int .i64 j ∧ kv = .int .i64 k ∧ k ≤ N0 ∧ j ≤ n ∧ P.length = k ∧ TkR w q (q + 1) (q + 2) ⟨takeC L, setP p t P, []⟩ F wr ∧ takeCls L (N0 - k) j P = Y) (fun _ kv _ => N0 - (intOf kv).toNat)
                    case atStart => exact ⟨i + 1, 0, [], _, by go_num, rfl, Nat.zero_le _, by omega, rfl, HR3.out, HYE.out⟩
                    case round =>
                      clear HR3 HR HYE p0 c1
                      obtain ⟨j, k, P, F3, rfl, rfl, hk, hj, hP, hr3, hy⟩ := hrel
                      have HPL := Lib.hid hP; clear hP
                      by_cases hlt2 : k < N0
                      · -- DEV
                        rw [takeCls_round L hlt2, HN.out] at hy
                        by_cases h35 : (n : Int) - j < 35
                        · rw [if_pos h35] at hy
                          have HXC : Hid (X.1 = 4) := Lib.hid (by rw [← HXY.out, ← hy]; rfl)
                          have HE := Lib.hid (HX.out X rfl (by rw [HXC.out]; decide))
                          rw [HXC.out] at HE
                          have HF := Lib.hid (And.intro hr3.bel hr3.res)
                          have hw35 : wrap64 ((n : Int) - j) = (n : Int) - j := by unfold wrap64; omega
                          clear hy hr3
                          go_upto_region 24 with fail
                          go_wp2_with (refine wpList_store_row rfl 29 _ _ rfl q zeroAr rfl rfl 29 zeroAr HF.out.2 (by kernel_rfl) rfl zero_one ?_)
                          refine bodyPost_ret (res_row1 (p := 2) (u := 3) (ty := 29) (by kernel_rfl) _ _ q 29 zeroAr (0, 0) _ rfl (HF.out.2.setRow_ zeroF) Tryd.underlying29 rfl (by kernel_rfl)) rfl ?_
                          exact ⟨zeroF, by rw [HE.out]; rfl, by rw [HE.out]; exact zeroF_is _, by rw [HQ.out]; exact below_setRow_ HF.out.1 (Nat.le_refl _) _⟩
                        · rw [if_neg h35] at hy
                          have HY := Lib.hid hy
                          have HR := Lib.hid hr3
                          clear hy hr3
                          have hw35 : wrap64 ((n : Int) - j) = (n : Int) - j := by unfold wrap64; omega
                          have hj35 : j + 35 ≤ n := by omega
                          have hw1 : IntKind.i64.wrap ((j : Int) + 1) = (j : Int) + 1 := by rw [IntKind.wrap_i64]; omega
                          have hw2 : IntKind.i64.wrap ((j : Int) + 2) = (j : Int) + 2 := by rw [IntKind.wrap_i64]; omega
                          have hw3 : IntKind.i64.wrap ((j : Int) + 3) = (j : Int) + 3 := by rw [IntKind.wrap_i64]; omega
                          have hw11 : IntKind.i64.wrap ((j : Int) + 11) = (j : Int) + 11 := by rw [IntKind.wrap_i64]; omega
                          have hw19 : IntKind.i64.wrap ((j : Int) + 19) = (j : Int) + 19 := by rw [IntKind.wrap_i64]; omega
                          have hw27 : IntKind.i64.wrap ((j : Int) + 27) = (j : Int) + 27 := by rw [IntKind.wrap_i64]; omega
                          have hv0 : IntKind.i64.wrap (byN L j) = byN L j := by have := byN_bound HBY.out j; rw [IntKind.wrap_i64]; omega
                          have hv1 : IntKind.i64.wrap (byN L (j + 1)) = byN L (j + 1) := by have := byN_bound HBY.out (j + 1); rw [IntKind.wrap_i64]; omega
                          have hv2 : IntKind.i64.wrap (byN L (j + 2)) = byN L (j + 2) := by have := byN_bound HBY.out (j + 2); rw [IntKind.wrap_i64]; omega
                          have t0 : j < n := by omega
                          have t1 : (j : Int) + 1 < n := by omega
                          have t2 : (j : Int) + 2 < n := by omega
                          have t3 : (0 : Int) ≤ (j : Int) + 1 := by omega
                          have t4 : (0 : Int) ≤ (j : Int) + 2 := by omega
                          have t5 : ((j : Int) + 2).toNat = j + 2 := by omega
                          have CA : Hid (∀ m : Nat, j + m + 8 ≤ n → ∀ W, Below q w W → Calls Tryd.prog 40 #[.slice (some ⟨b, off, none⟩) n c, .int .i64 ((j : Int) + (m : Int)), .int .i64 8] W fun e w' => e = .returned (.int .u64 (atN L (j + m) 8 8)) ∧ W = w') := Lib.hid fun m hm W hW => by
                            have h := r18At_any (some ⟨b, off, none⟩) c L HBY.out (by rw [HN.out]; omega) (j + m) 8 (by omega) (by rw [HN.out]; omega) W (HLB.out W hW)
                            rw [HN.out, Int.natCast_add] at h
                            exact h
                          have C3 : Hid (∀ W, Below q w W → Calls Tryd.prog 40 #[.slice (some ⟨b, off, none⟩) n c, .int .i64 ((j : Int) + 3), .int .i64 8] W fun e w' => e = .returned (.int .u64 (atN L (j + 3) 8 8)) ∧ W = w') := Lib.hid (CA.out 3 (by omega))
                          have C11 : Hid (∀ W, Below q w W → Calls Tryd.prog 40 #[.slice (some ⟨b, off, none⟩) n c, .int .i64 ((j : Int) + 11), .int .i64 8] W fun e w' => e = .returned (.int .u64 (atN L (j + 11) 8 8)) ∧ W = w') := Lib.hid (CA.out 11 (by omega))
                          have C19 : Hid (∀ W, Below q w W → Calls Tryd.prog 40 #[.slice (some ⟨b, off, none⟩) n c, .int .i64 ((j : Int) + 19), .int .i64 8] W fun e w' => e = .returned (.int .u64 (atN L (j + 19) 8 8)) ∧ W = w') := Lib.hid (CA.out 19 (by omega))
                          have C27 : Hid (∀ W, Below q w W → Calls Tryd.prog 40 #[.slice (some ⟨b, off, none⟩) n c, .int .i64 ((j : Int) + 27), .int .i64 8] W fun e w' => e = .returned (.int .u64 (atN L (j + 27) 8 8)) ∧ W = w') := Lib.hid (CA.out 27 (by omega))
                          have CN : Hid (∀ W, Calls Tryd.prog 41 #[.int .u64 (atN L (j + 3) 8 8)] W fun e w' => e = .returned (.int .i64 (sgnN (atN L (j + 3) 8 8))) ∧ W = w') := Lib.hid fun W => by
                            have hb8 := atN_bound HBY.out (j + 3) 8 8
                            rw [show (256 : Int) ^ 8 = 18446744073709551616 from rfl] at hb8
                            have h := refNumber_any (atN L (j + 3) 8 8) (by omega) W
                            rw [sgn64 hb8] at h
                            exact h
                          have HS : Hid (∀ w', Below q w w' → (Below q w w' ∧ w'.cell? ⟨b, off + j, none⟩ = some (.int .u8 (byN L j)) ∧ w'.cell? ⟨b, off + (j + 1), none⟩ = some (.int .u8 (byN L (j + 1))) ∧ w'.cell? ⟨b, off + (j + 2), none⟩ = some (.int .u8 (byN L (j + 2))))) := Lib.hid fun W hW => ⟨hW, HCB.out j (by omega) W hW, HCB.out (j + 1) (by omega) W hW, HCB.out (j + 2) (by omega) W hW⟩
                          have HSZ : Hid (q ≤ wr.heap.size) := Lib.hid HR.out.qle
                          have HSR : Hid (World.setRow (wr.alloc (.cells zeroCA 61)).drew wr.heap.size (clF (takeCl L j)).toArray = (wr.alloc (.cells (clF (takeCl L j)).toArray 61)).drew) := Lib.hid (World.setRow_alloc_new wr.drew _ _ _)
                          have HTA : Hid (TkR w q (q + 1) (q + 2) ⟨takeC L, setP p t P, []⟩ F3 (wr.alloc (.cells (clF (takeCl L j)).toArray 61)).drew ∧ Cells (wr.alloc (.cells (clF (takeCl L j)).toArray 61)).drew wr.heap.size 61 (clF (takeCl L j))) := Lib.hid ⟨(HR.out.alloc _).drew, (Cells.new wr (clF (takeCl L j)).toArray 61).drew⟩
                          clear CA
                          go_upto_region 25 with fail
                          go_cut [10] from 82 to 144 (fun s wx => ∃ hc, s = .pointer (some ⟨hc, 0, none⟩) ∧ TkR w q (q + 1) (q + 2) ⟨takeC L, setP p t P, []⟩ F3 wx ∧ Cells wx hc 61 (clF (takeCl L j)))
                          case first =>
                            refine wp_region_noPanic ?_
                            refine wp_region_held_drew (S := fun w' => (Below q w w' ∧ w'.cell? ⟨b, off + j, none⟩ = some (.int .u8 (byN L j)) ∧ w'.cell? ⟨b, off + (j + 1), none⟩ = some (.int .u8 (byN L (j + 1))) ∧ w'.cell? ⟨b, off + (j + 2), none⟩ = some (.int .u8 (byN L (j + 2))))) (by kernel_rfl) (HS.out _ HR.out.bel.drew) (fun hHeld => ?_)
                            try simp only [List.size_toArray, List.length_cons, List.length_nil, Nat.reduceAdd, Nat.reduceSub, Array.replicate_succ, Array.replicate_zero, List.push_toArray, List.append_toArray, List.nil_append, List.cons_append]   -- the listed as a literal: else each operation taken costs more than the last
                            (refine wpAnyH_take (i := 0) (v := ?_) rfl (by kernel_rfl) (by kernel_rfl) (by kernel_rfl) (fun _ _ _ h => h) (Or.inl ⟨by rfl, ?_⟩) hHeld ?_; rotate_left; focus (intro w hSw; (try dsimp only at hSw); go_simp; (try with_reducible rfl)))
                            try simp only [Act.put, List.getElem_toArray, List.getElem_cons_succ, List.getElem_cons_zero, List.setIfInBounds_toArray, List.set_cons_zero, List.set_cons_succ]
                            (refine wpAnyH_take (i := 1) (v := ?_) rfl (by kernel_rfl) (by kernel_rfl) (by kernel_rfl) (fun _ _ _ h => h) (Or.inl ⟨by rfl, ?_⟩) hHeld ?_; rotate_left; focus (intro w hSw; (try dsimp only at hSw); go_simp; (try with_reducible rfl)))
                            try simp only [Act.put, List.getElem_toArray, List.getElem_cons_succ, List.getElem_cons_zero, List.setIfInBounds_toArray, List.set_cons_zero, List.set_cons_succ]
                            (refine wpAnyH_take (i := 2) (v := ?_) rfl (by kernel_rfl) (by kernel_rfl) (by kernel_rfl) (fun _ _ _ h => h) (Or.inl ⟨by rfl, ?_⟩) hHeld ?_; rotate_left; focus (intro w hSw; (try dsimp only at hSw); go_simp; (try with_reducible rfl)))
                            try simp only [Act.put, List.getElem_toArray, List.getElem_cons_succ, List.getElem_cons_zero, List.setIfInBounds_toArray, List.set_cons_zero, List.set_cons_succ]
                            (refine wpAnyH_take (i := 3) (v := ?_) rfl (by kernel_rfl) (by kernel_rfl) (by kernel_rfl) (fun _ _ _ h => h) (Or.inl ⟨by rfl, ?_⟩) hHeld ?_; rotate_left; focus (intro w hSw; (try dsimp only at hSw); go_simp; (try with_reducible rfl)))
                            try simp only [Act.put, List.getElem_toArray, List.getElem_cons_succ, List.getElem_cons_zero, List.setIfInBounds_toArray, List.set_cons_zero, List.set_cons_succ]
                            (refine wpAnyH_take (i := 4) (v := ?_) rfl (by kernel_rfl) (by kernel_rfl) (by kernel_rfl) (fun _ _ _ h => h) (Or.inl ⟨by rfl, ?_⟩) hHeld ?_; rotate_left; focus (intro w hSw; (try dsimp only at hSw); go_simp; (try with_reducible rfl)))
                            try simp only [Act.put, List.getElem_toArray, List.getElem_cons_succ, List.getElem_cons_zero, List.setIfInBounds_toArray, List.set_cons_zero, List.set_cons_succ]
                            (refine wpAnyH_take (i := 5) (v := ?_) rfl (by kernel_rfl) (by kernel_rfl) (by kernel_rfl) (fun _ _ _ h => h) (Or.inl ⟨by rfl, ?_⟩) hHeld ?_; rotate_left; focus (intro w hSw; (try dsimp only at hSw); go_simp; (try with_reducible rfl)))
                            try simp only [Act.put, List.getElem_toArray, List.getElem_cons_succ, List.getElem_cons_zero, List.setIfInBounds_toArray, List.set_cons_zero, List.set_cons_succ]
                            (refine wpAnyH_take (i := 6) (v := ?_) rfl (by kernel_rfl) (by kernel_rfl) (by kernel_rfl) (fun _ _ _ h => h) (Or.inl ⟨by rfl, ?_⟩) hHeld ?_; rotate_left; focus (intro w hSw; (try dsimp only at hSw); go_simp; (try with_reducible rfl)))
                            try simp only [Act.put, List.getElem_toArray, List.getElem_cons_succ, List.getElem_cons_zero, List.setIfInBounds_toArray, List.set_cons_zero, List.set_cons_succ]
                            (refine wpAnyH_take (i := 7) (v := ?_) rfl (by kernel_rfl) (by kernel_rfl) (by kernel_rfl) (fun _ _ _ h => h) (Or.inl ⟨by rfl, ?_⟩) hHeld ?_; rotate_left; focus (intro w hSw; (try dsimp only at hSw); go_simp; (try with_reducible rfl)))
                            try simp only [Act.put, List.getElem_toArray, List.getElem_cons_succ, List.getElem_cons_zero, List.setIfInBounds_toArray, List.set_cons_zero, List.set_cons_succ]
                            (refine wpAnyH_take (i := 8) (v := ?_) rfl (by kernel_rfl) (by kernel_rfl) (by kernel_rfl) (fun _ _ _ h => h) (Or.inl ⟨by rfl, ?_⟩) hHeld ?_; rotate_left; focus (intro w hSw; (try dsimp only at hSw); go_simp; (try with_reducible rfl)))
                            try simp only [Act.put, List.getElem_toArray, List.getElem_cons_succ, List.getElem_cons_zero, List.setIfInBounds_toArray, List.set_cons_zero, List.set_cons_succ]
                            (refine wpAnyH_take (i := 9) (v := ?_) rfl (by kernel_rfl) (by kernel_rfl) (by kernel_rfl) (fun _ _ _ h => h) (Or.inl ⟨by rfl, ?_⟩) hHeld ?_; rotate_left; focus (intro w hSw; (try dsimp only at hSw); go_simp; (try with_reducible rfl)))
                            try simp only [Act.put, List.getElem_toArray, List.getElem_cons_succ, List.getElem_cons_zero, List.setIfInBounds_toArray, List.set_cons_zero, List.set_cons_succ]
                            (refine wpAnyH_take (i := 10) (v := ?_) rfl (by kernel_rfl) (by kernel_rfl) (by kernel_rfl) (fun _ _ _ h => h) (Or.inl ⟨by rfl, ?_⟩) hHeld ?_; rotate_left; focus (intro w hSw; (try dsimp only at hSw); go_simp; (try with_reducible rfl)))
                            try simp only [Act.put, List.getElem_toArray, List.getElem_cons_succ, List.getElem_cons_zero, List.setIfInBounds_toArray, List.set_cons_zero, List.set_cons_succ]
                            (refine wpAnyH_take (i := 11) (v := ?_) rfl (by kernel_rfl) (by kernel_rfl) (by kernel_rfl) (fun _ _ _ h => h) (Or.inl ⟨by rfl, ?_⟩) hHeld ?_; rotate_left; focus (intro w hSw; (try dsimp only at hSw); go_simp; (try with_reducible rfl)))
                            try simp only [Act.put, List.getElem_toArray, List.getElem_cons_succ, List.getElem_cons_zero, List.setIfInBounds_toArray, List.set_cons_zero, List.set_cons_succ]
                            (refine wpAnyH_take (i := 12) (v := ?_) rfl (by kernel_rfl) (by kernel_rfl) (by kernel_rfl) (fun _ _ _ h => h) (Or.inl ⟨by rfl, ?_⟩) hHeld ?_; rotate_left; focus (intro w hSw; (try dsimp only at hSw); go_simp; (try with_reducible rfl)))
                            try simp only [Act.put, List.getElem_toArray, List.getElem_cons_succ, List.getElem_cons_zero, List.setIfInBounds_toArray, List.set_cons_zero, List.set_cons_succ]
                            (refine wpAnyH_take (i := 13) (v := ?_) rfl (by kernel_rfl) (by kernel_rfl) (by kernel_rfl) (fun _ _ _ h => h) (Or.inl ⟨by rfl, ?_⟩) hHeld ?_; rotate_left; focus (intro w hSw; (try dsimp only at hSw); go_simp; (try with_reducible rfl)))
                            try simp only [Act.put, List.getElem_toArray, List.getElem_cons_succ, List.getElem_cons_zero, List.setIfInBounds_toArray, List.set_cons_zero, List.set_cons_succ]
                            (refine wpAnyH_take (i := 14) (v := ?_) rfl (by kernel_rfl) (by kernel_rfl) (by kernel_rfl) (fun _ _ _ h => h) (Or.inl ⟨by rfl, ?_⟩) hHeld ?_; rotate_left; focus (intro w hSw; (try dsimp only at hSw); go_simp; (try with_reducible rfl)))
                            try simp only [Act.put, List.getElem_toArray, List.getElem_cons_succ, List.getElem_cons_zero, List.setIfInBounds_toArray, List.set_cons_zero, List.set_cons_succ]
                            (refine wpAnyH_take (i := 15) (v := ?_) rfl (by kernel_rfl) (by kernel_rfl) (by kernel_rfl) (fun _ _ _ h => h) (Or.inl ⟨by rfl, ?_⟩) hHeld ?_; rotate_left; focus (intro w hSw; (try dsimp only at hSw); go_simp; (try with_reducible rfl)))
                            try simp only [Act.put, List.getElem_toArray, List.getElem_cons_succ, List.getElem_cons_zero, List.setIfInBounds_toArray, List.set_cons_zero, List.set_cons_succ]
                            (refine wpAnyH_take (i := 16) (v := ?_) rfl (by kernel_rfl) (by kernel_rfl) (by kernel_rfl) (fun _ _ _ h => h) (Or.inl ⟨by rfl, ?_⟩) hHeld ?_; rotate_left; focus (intro w hSw; (try dsimp only at hSw); go_simp; (try with_reducible rfl)))
                            try simp only [Act.put, List.getElem_toArray, List.getElem_cons_succ, List.getElem_cons_zero, List.setIfInBounds_toArray, List.set_cons_zero, List.set_cons_succ]
                            (refine wpAnyH_take (i := 17) (v := ?_) rfl (by kernel_rfl) (by kernel_rfl) (by kernel_rfl) (fun _ _ _ h => h) (Or.inl ⟨by rfl, ?_⟩) hHeld ?_; rotate_left; focus (intro w hSw; (try dsimp only at hSw); go_simp; (try with_reducible rfl)))
                            try simp only [Act.put, List.getElem_toArray, List.getElem_cons_succ, List.getElem_cons_zero, List.setIfInBounds_toArray, List.set_cons_zero, List.set_cons_succ]
                            (refine wpAnyH_take (i := 18) (v := ?_) rfl (by kernel_rfl) (by kernel_rfl) (by kernel_rfl) (fun _ _ _ h => h) (Or.inl ⟨by rfl, ?_⟩) hHeld ?_; rotate_left; focus (intro w hSw; (try dsimp only at hSw); go_simp; (try with_reducible rfl)))
                            try simp only [Act.put, List.getElem_toArray, List.getElem_cons_succ, List.getElem_cons_zero, List.setIfInBounds_toArray, List.set_cons_zero, List.set_cons_succ]
                            (refine wpAnyH_take (i := 19) (v := ?_) rfl (by kernel_rfl) (by kernel_rfl) (by kernel_rfl) (fun _ _ _ h => h) (Or.inl ⟨by rfl, ?_⟩) hHeld ?_; rotate_left; focus (intro w hSw; (try dsimp only at hSw); go_simp; (try with_reducible rfl)))
                            try simp only [Act.put, List.getElem_toArray, List.getElem_cons_succ, List.getElem_cons_zero, List.setIfInBounds_toArray, List.set_cons_zero, List.set_cons_succ]
                            (refine wpAnyH_take (i := 22) (v := ?_) rfl (by kernel_rfl) (by kernel_rfl) (by kernel_rfl) (fun _ _ _ h => h) (Or.inl ⟨by rfl, ?_⟩) hHeld ?_; rotate_left; focus (intro w hSw; (try dsimp only at hSw); go_simp; (try with_reducible rfl)))
                            try simp only [Act.put, List.getElem_toArray, List.getElem_cons_succ, List.getElem_cons_zero, List.setIfInBounds_toArray, List.set_cons_zero, List.set_cons_succ]
                            (refine wpAnyH_take (i := 23) (v := ?_) rfl (by kernel_rfl) (by kernel_rfl) (by kernel_rfl) (fun _ _ _ h => h) (Or.inl ⟨by rfl, ?_⟩) hHeld ?_; rotate_left; focus (intro w hSw; (try dsimp only at hSw); go_simp; (try with_reducible rfl)))
                            try simp only [Act.put, List.getElem_toArray, List.getElem_cons_succ, List.getElem_cons_zero, List.setIfInBounds_toArray, List.set_cons_zero, List.set_cons_succ]
                            (refine wpAnyH_take (i := 24) (v := ?_) rfl (by kernel_rfl) (by kernel_rfl) (by kernel_rfl) (fun _ _ _ h => h) (Or.inl ⟨by rfl, ?_⟩) hHeld ?_; rotate_left; focus (intro w hSw; (try dsimp only at hSw); go_simp; (try with_reducible rfl)))
                            try simp only [Act.put, List.getElem_toArray, List.getElem_cons_succ, List.getElem_cons_zero, List.setIfInBounds_toArray, List.set_cons_zero, List.set_cons_succ]
                            (refine wpAnyH_take (i := 26) (v := ?_) rfl (by kernel_rfl) (by kernel_rfl) (by kernel_rfl) (fun _ _ _ h => h) (Or.inl ⟨by rfl, ?_⟩) hHeld ?_; rotate_left; focus (intro w hSw; (try dsimp only at hSw); go_simp; (try with_reducible rfl)))
                            try simp only [Act.put, List.getElem_toArray, List.getElem_cons_succ, List.getElem_cons_zero, List.setIfInBounds_toArray, List.set_cons_zero, List.set_cons_succ]
                            (refine wpAnyH_take (i := 27) (v := ?_) rfl (by kernel_rfl) (by kernel_rfl) (by kernel_rfl) (fun _ _ _ h => h) (Or.inl ⟨by rfl, ?_⟩) hHeld ?_; rotate_left; focus (intro w hSw; (try dsimp only at hSw); go_simp; (try with_reducible rfl)))
                            try simp only [Act.put, List.getElem_toArray, List.getElem_cons_succ, List.getElem_cons_zero, List.setIfInBounds_toArray, List.set_cons_zero, List.set_cons_succ]
                            (refine wpAnyH_take (i := 28) (v := ?_) rfl (by kernel_rfl) (by kernel_rfl) (by kernel_rfl) (fun _ _ _ h => h) (Or.inl ⟨by rfl, ?_⟩) hHeld ?_; rotate_left; focus (intro w hSw; (try dsimp only at hSw); go_simp; (try with_reducible rfl)))
                            try simp only [Act.put, List.getElem_toArray, List.getElem_cons_succ, List.getElem_cons_zero, List.setIfInBounds_toArray, List.set_cons_zero, List.set_cons_succ]
                            (refine wpAnyH_take (i := 31) (v := ?_) rfl (by kernel_rfl) (by kernel_rfl) (by kernel_rfl) (fun _ _ _ h => h) (Or.inl ⟨by rfl, ?_⟩) hHeld ?_; rotate_left; focus (intro w hSw; (try dsimp only at hSw); go_simp; (try with_reducible rfl)))
                            try simp only [Act.put, List.getElem_toArray, List.getElem_cons_succ, List.getElem_cons_zero, List.setIfInBounds_toArray, List.set_cons_zero, List.set_cons_succ]
                            (refine wpAnyH_take (i := 32) (v := ?_) rfl (by kernel_rfl) (by kernel_rfl) (by kernel_rfl) (fun _ _ _ h => h) (Or.inl ⟨by rfl, ?_⟩) hHeld ?_; rotate_left; focus (intro w hSw; (try dsimp only at hSw); go_simp; (try with_reducible rfl)))
                            try simp only [Act.put, List.getElem_toArray, List.getElem_cons_succ, List.getElem_cons_zero, List.setIfInBounds_toArray, List.set_cons_zero, List.set_cons_succ]
                            (refine wpAnyH_take (i := 33) (v := ?_) rfl (by kernel_rfl) (by kernel_rfl) (by kernel_rfl) (fun _ _ _ h => h) (Or.inl ⟨by rfl, ?_⟩) hHeld ?_; rotate_left; focus (intro w hSw; (try dsimp only at hSw); go_simp; (try with_reducible rfl)))
                            try simp only [Act.put, List.getElem_toArray, List.getElem_cons_succ, List.getElem_cons_zero, List.setIfInBounds_toArray, List.set_cons_zero, List.set_cons_succ]
                            refine wpAnyH_ready (rs := [20, 36]) (by kernel_rfl) (by simp) ?_
                            refine (AllReadyH.cons rfl (fun K hK => ?_) (AllReadyH.cons rfl (fun K hK => ?_) AllReadyH.nil))
                            · go_simp; (first | (go_at_call 40; (first | with_reducible refine (C3.out _ hHeld.1).mono ?_ | with_reducible refine (C11.out _ hHeld.1).mono ?_ | with_reducible refine (C19.out _ hHeld.1).mono ?_ | with_reducible refine (C27.out _ hHeld.1).mono ?_); rintro e w' ⟨rfl, rfl⟩) | (go_at_call 41; refine (CN.out _).mono ?_; rintro e w' ⟨rfl, rfl⟩)); (try go_wp2_with fail); refine hK.out _ _ ?_ (fun hHeld' => ?_); (focus (first | with_reducible exact hHeld | with_reducible exact HS.out _ ((HR.out.bel.alloc HSZ.out _).drew) | with_reducible exact HS.out _ HTA.out.1.bel)); clear hK K; replace hHeld := hHeld'; clear hHeld'
                              try simp only [Act.put, List.getElem_toArray, List.getElem_cons_succ, List.getElem_cons_zero, List.setIfInBounds_toArray, List.set_cons_zero, List.set_cons_succ]
                              refine wpAnyH_ready (rs := [21, 36]) (by kernel_rfl) (by simp) ?_
                              refine (AllReadyH.cons rfl (fun K hK => ?_) (AllReadyH.cons rfl (fun K hK => ?_) AllReadyH.nil))
                              · go_simp; (first | (go_at_call 40; (first | with_reducible refine (C3.out _ hHeld.1).mono ?_ | with_reducible refine (C11.out _ hHeld.1).mono ?_ | with_reducible refine (C19.out _ hHeld.1).mono ?_ | with_reducible refine (C27.out _ hHeld.1).mono ?_); rintro e w' ⟨rfl, rfl⟩) | (go_at_call 41; refine (CN.out _).mono ?_; rintro e w' ⟨rfl, rfl⟩)); (try go_wp2_with fail); refine hK.out _ _ ?_ (fun hHeld' => ?_); (focus (first | with_reducible exact hHeld | with_reducible exact HS.out _ ((HR.out.bel.alloc HSZ.out _).drew) | with_reducible exact HS.out _ HTA.out.1.bel)); clear hK K; replace hHeld := hHeld'; clear hHeld'
                                try simp only [Act.put, List.getElem_toArray, List.getElem_cons_succ, List.getElem_cons_zero, List.setIfInBounds_toArray, List.set_cons_zero, List.set_cons_succ]
                                refine wpAnyH_ready (rs := [25, 36]) (by kernel_rfl) (by simp) ?_
                                refine (AllReadyH.cons rfl (fun K hK => ?_) (AllReadyH.cons rfl (fun K hK => ?_) AllReadyH.nil))
                                · go_simp; (first | (go_at_call 40; (first | with_reducible refine (C3.out _ hHeld.1).mono ?_ | with_reducible refine (C11.out _ hHeld.1).mono ?_ | with_reducible refine (C19.out _ hHeld.1).mono ?_ | with_reducible refine (C27.out _ hHeld.1).mono ?_); rintro e w' ⟨rfl, rfl⟩) | (go_at_call 41; refine (CN.out _).mono ?_; rintro e w' ⟨rfl, rfl⟩)); (try go_wp2_with fail); refine hK.out _ _ ?_ (fun hHeld' => ?_); (focus (first | with_reducible exact hHeld | with_reducible exact HS.out _ ((HR.out.bel.alloc HSZ.out _).drew) | with_reducible exact HS.out _ HTA.out.1.bel)); clear hK K; replace hHeld := hHeld'; clear hHeld'
                                  try simp only [Act.put, List.getElem_toArray, List.getElem_cons_succ, List.getElem_cons_zero, List.setIfInBounds_toArray, List.set_cons_zero, List.set_cons_succ]
                                  refine wpAnyH_ready (rs := [29, 36]) (by kernel_rfl) (by simp) ?_
                                  refine (AllReadyH.cons rfl (fun K hK => ?_) (AllReadyH.cons rfl (fun K hK => ?_) AllReadyH.nil))
                                  · go_simp; (first | (go_at_call 40; (first | with_reducible refine (C3.out _ hHeld.1).mono ?_ | with_reducible refine (C11.out _ hHeld.1).mono ?_ | with_reducible refine (C19.out _ hHeld.1).mono ?_ | with_reducible refine (C27.out _ hHeld.1).mono ?_); rintro e w' ⟨rfl, rfl⟩) | (go_at_call 41; refine (CN.out _).mono ?_; rintro e w' ⟨rfl, rfl⟩)); (try go_wp2_with fail); refine hK.out _ _ ?_ (fun hHeld' => ?_); (focus (first | with_reducible exact hHeld | with_reducible exact HS.out _ ((HR.out.bel.alloc HSZ.out _).drew) | with_reducible exact HS.out _ HTA.out.1.bel)); clear hK K; replace hHeld := hHeld'; clear hHeld'
                                    try simp only [Act.put, List.getElem_toArray, List.getElem_cons_succ, List.getElem_cons_zero, List.setIfInBounds_toArray, List.set_cons_zero, List.set_cons_succ]
                                    (refine wpAnyH_take (i := 30) (v := ?_) rfl (by kernel_rfl) (by kernel_rfl) (by kernel_rfl) (fun _ _ _ h => h) (Or.inl ⟨by rfl, ?_⟩) hHeld ?_; rotate_left; focus (intro w hSw; (try dsimp only at hSw); go_simp; (try with_reducible rfl)))
                                    try simp only [Act.put, List.getElem_toArray, List.getElem_cons_succ, List.getElem_cons_zero, List.setIfInBounds_toArray, List.set_cons_zero, List.set_cons_succ]
                                    refine wpAnyH_ready (rs := [34, 36]) (by kernel_rfl) (by simp) ?_
                                    refine (AllReadyH.cons rfl (fun K hK => ?_) (AllReadyH.cons rfl (fun K hK => ?_) AllReadyH.nil))
                                    · go_simp; (first | (go_at_call 40; (first | with_reducible refine (C3.out _ hHeld.1).mono ?_ | with_reducible refine (C11.out _ hHeld.1).mono ?_ | with_reducible refine (C19.out _ hHeld.1).mono ?_ | with_reducible refine (C27.out _ hHeld.1).mono ?_); rintro e w' ⟨rfl, rfl⟩) | (go_at_call 41; refine (CN.out _).mono ?_; rintro e w' ⟨rfl, rfl⟩)); (try go_wp2_with fail); refine hK.out _ _ ?_ (fun hHeld' => ?_); (focus (first | with_reducible exact hHeld | with_reducible exact HS.out _ ((HR.out.bel.alloc HSZ.out _).drew) | with_reducible exact HS.out _ HTA.out.1.bel)); clear hK K; replace hHeld := hHeld'; clear hHeld'
                                      try simp only [Act.put, List.getElem_toArray, List.getElem_cons_succ, List.getElem_cons_zero, List.setIfInBounds_toArray, List.set_cons_zero, List.set_cons_succ]
                                      (refine wpAnyH_take (i := 35) (v := ?_) rfl (by kernel_rfl) (by kernel_rfl) (by kernel_rfl) (fun _ _ _ h => h) (Or.inl ⟨by rfl, ?_⟩) hHeld ?_; rotate_left; focus (intro w hSw; (try dsimp only at hSw); go_simp; (try with_reducible rfl)))
                                      try simp only [Act.put, List.getElem_toArray, List.getElem_cons_succ, List.getElem_cons_zero, List.setIfInBounds_toArray, List.set_cons_zero, List.set_cons_succ]
                                      (refine wpAnyH_ready (rs := [36]) (by kernel_rfl) (by simp) ?_; refine AllReadyH.cons rfl (fun K hK => ?_) AllReadyH.nil; skip; go_simp; (try go_wp2_with fail); refine hK.out _ _ ?_ (fun hHeld' => ?_); (focus (first | with_reducible exact hHeld | with_reducible exact HS.out _ ((HR.out.bel.alloc HSZ.out _).drew) | with_reducible exact HS.out _ HTA.out.1.bel)); clear hK K; replace hHeld := hHeld'; clear hHeld')
                                      try simp only [Act.put, List.getElem_toArray, List.getElem_cons_succ, List.getElem_cons_zero, List.setIfInBounds_toArray, List.set_cons_zero, List.set_cons_succ]
                                      (refine wpAnyH_ready (rs := [37]) (by kernel_rfl) (by simp) ?_; refine AllReadyH.cons rfl (fun K hK => ?_) AllReadyH.nil; (refine if_wanted (by rfl) ?_; refine wp_store_row 61 _ _ rfl wr.heap.size (clF (takeCl L j)).toArray rfl rfl 61 zeroCA (heap_alloc_new wr _) (by kernel_rfl) rfl (clF_all _) ?_; rw [HSR.out]); go_simp; (try go_wp2_with fail); refine hK.out _ _ ?_ (fun hHeld' => ?_); (focus (first | with_reducible exact hHeld | with_reducible exact HS.out _ ((HR.out.bel.alloc HSZ.out _).drew) | with_reducible exact HS.out _ HTA.out.1.bel)); clear hK K; replace hHeld := hHeld'; clear hHeld')
                                      try simp only [Act.put, List.getElem_toArray, List.getElem_cons_succ, List.getElem_cons_zero, List.setIfInBounds_toArray, List.set_cons_zero, List.set_cons_succ]
                                      refine wpAnyH_done (by kernel_rfl) ?_ _
                                      refine NoPanic.normal ?_
                                      go_wp2_with fail
                                      go_meet
                                      exact ⟨_, rfl, HTA.out.1, HTA.out.2⟩
                                    · skip; go_simp; (try go_wp2_with fail); refine hK.out _ _ ?_ (fun hHeld' => ?_); (focus (first | with_reducible exact hHeld | with_reducible exact HS.out _ ((HR.out.bel.alloc HSZ.out _).drew) | with_reducible exact HS.out _ HTA.out.1.bel)); clear hK K; replace hHeld := hHeld'; clear hHeld'
                                      try simp only [Act.put, List.getElem_toArray, List.getElem_cons_succ, List.getElem_cons_zero, List.setIfInBounds_toArray, List.set_cons_zero, List.set_cons_succ]
                                      (refine wpAnyH_ready (rs := [34]) (by kernel_rfl) (by simp) ?_; refine AllReadyH.cons rfl (fun K hK => ?_) AllReadyH.nil; go_simp; (first | (go_at_call 40; (first | with_reducible refine (C3.out _ hHeld.1).mono ?_ | with_reducible refine (C11.out _ hHeld.1).mono ?_ | with_reducible refine (C19.out _ hHeld.1).mono ?_ | with_reducible refine (C27.out _ hHeld.1).mono ?_); rintro e w' ⟨rfl, rfl⟩) | (go_at_call 41; refine (CN.out _).mono ?_; rintro e w' ⟨rfl, rfl⟩)); (try go_wp2_with fail); refine hK.out _ _ ?_ (fun hHeld' => ?_); (focus (first | with_reducible exact hHeld | with_reducible exact HS.out _ ((HR.out.bel.alloc HSZ.out _).drew) | with_reducible exact HS.out _ HTA.out.1.bel)); clear hK K; replace hHeld := hHeld'; clear hHeld')
                                      try simp only [Act.put, List.getElem_toArray, List.getElem_cons_succ, List.getElem_cons_zero, List.setIfInBounds_toArray, List.set_cons_zero, List.set_cons_succ]
                                      (refine wpAnyH_take (i := 35) (v := ?_) rfl (by kernel_rfl) (by kernel_rfl) (by kernel_rfl) (fun _ _ _ h => h) (Or.inl ⟨by rfl, ?_⟩) hHeld ?_; rotate_left; focus (intro w hSw; (try dsimp only at hSw); go_simp; (try with_reducible rfl)))
                                      try simp only [Act.put, List.getElem_toArray, List.getElem_cons_succ, List.getElem_cons_zero, List.setIfInBounds_toArray, List.set_cons_zero, List.set_cons_succ]
                                      (refine wpAnyH_ready (rs := [37]) (by kernel_rfl) (by simp) ?_; refine AllReadyH.cons rfl (fun K hK => ?_) AllReadyH.nil; (refine if_wanted (by rfl) ?_; refine wp_store_row 61 _ _ rfl wr.heap.size (clF (takeCl L j)).toArray rfl rfl 61 zeroCA (heap_alloc_new wr _) (by kernel_rfl) rfl (clF_all _) ?_; rw [HSR.out]); go_simp; (try go_wp2_with fail); refine hK.out _ _ ?_ (fun hHeld' => ?_); (focus (first | with_reducible exact hHeld | with_reducible exact HS.out _ ((HR.out.bel.alloc HSZ.out _).drew) | with_reducible exact HS.out _ HTA.out.1.bel)); clear hK K; replace hHeld := hHeld'; clear hHeld')
                                      try simp only [Act.put, List.getElem_toArray, List.getElem_cons_succ, List.getElem_cons_zero, List.setIfInBounds_toArray, List.set_cons_zero, List.set_cons_succ]
                                      refine wpAnyH_done (by kernel_rfl) ?_ _
                                      refine NoPanic.normal ?_
                                      go_wp2_with fail
                                      go_meet
                                      exact ⟨_, rfl, HTA.out.1, HTA.out.2⟩
                                  · skip; go_simp; (try go_wp2_with fail); refine hK.out _ _ ?_ (fun hHeld' => ?_); (focus (first | with_reducible exact hHeld | with_reducible exact HS.out _ ((HR.out.bel.alloc HSZ.out _).drew) | with_reducible exact HS.out _ HTA.out.1.bel)); clear hK K; replace hHeld := hHeld'; clear hHeld'
                                    try simp only [Act.put, List.getElem_toArray, List.getElem_cons_succ, List.getElem_cons_zero, List.setIfInBounds_toArray, List.set_cons_zero, List.set_cons_succ]
                                    (refine wpAnyH_ready (rs := [29]) (by kernel_rfl) (by simp) ?_; refine AllReadyH.cons rfl (fun K hK => ?_) AllReadyH.nil; go_simp; (first | (go_at_call 40; (first | with_reducible refine (C3.out _ hHeld.1).mono ?_ | with_reducible refine (C11.out _ hHeld.1).mono ?_ | with_reducible refine (C19.out _ hHeld.1).mono ?_ | with_reducible refine (C27.out _ hHeld.1).mono ?_); rintro e w' ⟨rfl, rfl⟩) | (go_at_call 41; refine (CN.out _).mono ?_; rintro e w' ⟨rfl, rfl⟩)); (try go_wp2_with fail); refine hK.out _ _ ?_ (fun hHeld' => ?_); (focus (first | with_reducible exact hHeld | with_reducible exact HS.out _ ((HR.out.bel.alloc HSZ.out _).drew) | with_reducible exact HS.out _ HTA.out.1.bel)); clear hK K; replace hHeld := hHeld'; clear hHeld')
                                    try simp only [Act.put, List.getElem_toArray, List.getElem_cons_succ, List.getElem_cons_zero, List.setIfInBounds_toArray, List.set_cons_zero, List.set_cons_succ]
                                    (refine wpAnyH_take (i := 30) (v := ?_) rfl (by kernel_rfl) (by kernel_rfl) (by kernel_rfl) (fun _ _ _ h => h) (Or.inl ⟨by rfl, ?_⟩) hHeld ?_; rotate_left; focus (intro w hSw; (try dsimp only at hSw); go_simp; (try with_reducible rfl)))
                                    try simp only [Act.put, List.getElem_toArray, List.getElem_cons_succ, List.getElem_cons_zero, List.setIfInBounds_toArray, List.set_cons_zero, List.set_cons_succ]
                                    (refine wpAnyH_ready (rs := [34]) (by kernel_rfl) (by simp) ?_; refine AllReadyH.cons rfl (fun K hK => ?_) AllReadyH.nil; go_simp; (first | (go_at_call 40; (first | with_reducible refine (C3.out _ hHeld.1).mono ?_ | with_reducible refine (C11.out _ hHeld.1).mono ?_ | with_reducible refine (C19.out _ hHeld.1).mono ?_ | with_reducible refine (C27.out _ hHeld.1).mono ?_); rintro e w' ⟨rfl, rfl⟩) | (go_at_call 41; refine (CN.out _).mono ?_; rintro e w' ⟨rfl, rfl⟩)); (try go_wp2_with fail); refine hK.out _ _ ?_ (fun hHeld' => ?_); (focus (first | with_reducible exact hHeld | with_reducible exact HS.out _ ((HR.out.bel.alloc HSZ.out _).drew) | with_reducible exact HS.out _ HTA.out.1.bel)); clear hK K; replace hHeld := hHeld'; clear hHeld')
                                    try simp only [Act.put, List.getElem_toArray, List.getElem_cons_succ, List.getElem_cons_zero, List.setIfInBounds_toArray, List.set_cons_zero, List.set_cons_succ]
                                    (refine wpAnyH_take (i := 35) (v := ?_) rfl (by kernel_rfl) (by kernel_rfl) (by kernel_rfl) (fun _ _ _ h => h) (Or.inl ⟨by rfl, ?_⟩) hHeld ?_; rotate_left; focus (intro w hSw; (try dsimp only at hSw); go_simp; (try with_reducible rfl)))
                                    try simp only [Act.put, List.getElem_toArray, List.getElem_cons_succ, List.getElem_cons_zero, List.setIfInBounds_toArray, List.set_cons_zero, List.set_cons_succ]
                                    (refine wpAnyH_ready (rs := [37]) (by kernel_rfl) (by simp) ?_; refine AllReadyH.cons rfl (fun K hK => ?_) AllReadyH.nil; (refine if_wanted (by rfl) ?_; refine wp_store_row 61 _ _ rfl wr.heap.size (clF (takeCl L j)).toArray rfl rfl 61 zeroCA (heap_alloc_new wr _) (by kernel_rfl) rfl (clF_all _) ?_; rw [HSR.out]); go_simp; (try go_wp2_with fail); refine hK.out _ _ ?_ (fun hHeld' => ?_); (focus (first | with_reducible exact hHeld | with_reducible exact HS.out _ ((HR.out.bel.alloc HSZ.out _).drew) | with_reducible exact HS.out _ HTA.out.1.bel)); clear hK K; replace hHeld := hHeld'; clear hHeld')
                                    try simp only [Act.put, List.getElem_toArray, List.getElem_cons_succ, List.getElem_cons_zero, List.setIfInBounds_toArray, List.set_cons_zero, List.set_cons_succ]
                                    refine wpAnyH_done (by kernel_rfl) ?_ _
                                    refine NoPanic.normal ?_
                                    go_wp2_with fail
                                    go_meet
                                    exact ⟨_, rfl, HTA.out.1, HTA.out.2⟩
                                · skip; go_simp; (try go_wp2_with fail); refine hK.out _ _ ?_ (fun hHeld' => ?_); (focus (first | with_reducible exact hHeld | with_reducible exact HS.out _ ((HR.out.bel.alloc HSZ.out _).drew) | with_reducible exact HS.out _ HTA.out.1.bel)); clear hK K; replace hHeld := hHeld'; clear hHeld'
                                  try simp only [Act.put, List.getElem_toArray, List.getElem_cons_succ, List.getElem_cons_zero, List.setIfInBounds_toArray, List.set_cons_zero, List.set_cons_succ]
                                  (refine wpAnyH_ready (rs := [25]) (by kernel_rfl) (by simp) ?_; refine AllReadyH.cons rfl (fun K hK => ?_) AllReadyH.nil; go_simp; (first | (go_at_call 40; (first | with_reducible refine (C3.out _ hHeld.1).mono ?_ | with_reducible refine (C11.out _ hHeld.1).mono ?_ | with_reducible refine (C19.out _ hHeld.1).mono ?_ | with_reducible refine (C27.out _ hHeld.1).mono ?_); rintro e w' ⟨rfl, rfl⟩) | (go_at_call 41; refine (CN.out _).mono ?_; rintro e w' ⟨rfl, rfl⟩)); (try go_wp2_with fail); refine hK.out _ _ ?_ (fun hHeld' => ?_); (focus (first | with_reducible exact hHeld | with_reducible exact HS.out _ ((HR.out.bel.alloc HSZ.out _).drew) | with_reducible exact HS.out _ HTA.out.1.bel)); clear hK K; replace hHeld := hHeld'; clear hHeld')
                                  try simp only [Act.put, List.getElem_toArray, List.getElem_cons_succ, List.getElem_cons_zero, List.setIfInBounds_toArray, List.set_cons_zero, List.set_cons_succ]
                                  (refine wpAnyH_ready (rs := [29]) (by kernel_rfl) (by simp) ?_; refine AllReadyH.cons rfl (fun K hK => ?_) AllReadyH.nil; go_simp; (first | (go_at_call 40; (first | with_reducible refine (C3.out _ hHeld.1).mono ?_ | with_reducible refine (C11.out _ hHeld.1).mono ?_ | with_reducible refine (C19.out _ hHeld.1).mono ?_ | with_reducible refine (C27.out _ hHeld.1).mono ?_); rintro e w' ⟨rfl, rfl⟩) | (go_at_call 41; refine (CN.out _).mono ?_; rintro e w' ⟨rfl, rfl⟩)); (try go_wp2_with fail); refine hK.out _ _ ?_ (fun hHeld' => ?_); (focus (first | with_reducible exact hHeld | with_reducible exact HS.out _ ((HR.out.bel.alloc HSZ.out _).drew) | with_reducible exact HS.out _ HTA.out.1.bel)); clear hK K; replace hHeld := hHeld'; clear hHeld')
                                  try simp only [Act.put, List.getElem_toArray, List.getElem_cons_succ, List.getElem_cons_zero, List.setIfInBounds_toArray, List.set_cons_zero, List.set_cons_succ]
                                  (refine wpAnyH_take (i := 30) (v := ?_) rfl (by kernel_rfl) (by kernel_rfl) (by kernel_rfl) (fun _ _ _ h => h) (Or.inl ⟨by rfl, ?_⟩) hHeld ?_; rotate_left; focus (intro w hSw; (try dsimp only at hSw); go_simp; (try with_reducible rfl)))
                                  try simp only [Act.put, List.getElem_toArray, List.getElem_cons_succ, List.getElem_cons_zero, List.setIfInBounds_toArray, List.set_cons_zero, List.set_cons_succ]
                                  (refine wpAnyH_ready (rs := [34]) (by kernel_rfl) (by simp) ?_; refine AllReadyH.cons rfl (fun K hK => ?_) AllReadyH.nil; go_simp; (first | (go_at_call 40; (first | with_reducible refine (C3.out _ hHeld.1).mono ?_ | with_reducible refine (C11.out _ hHeld.1).mono ?_ | with_reducible refine (C19.out _ hHeld.1).mono ?_ | with_reducible refine (C27.out _ hHeld.1).mono ?_); rintro e w' ⟨rfl, rfl⟩) | (go_at_call 41; refine (CN.out _).mono ?_; rintro e w' ⟨rfl, rfl⟩)); (try go_wp2_with fail); refine hK.out _ _ ?_ (fun hHeld' => ?_); (focus (first | with_reducible exact hHeld | with_reducible exact HS.out _ ((HR.out.bel.alloc HSZ.out _).drew) | with_reducible exact HS.out _ HTA.out.1.bel)); clear hK K; replace hHeld := hHeld'; clear hHeld')
                                  try simp only [Act.put, List.getElem_toArray, List.getElem_cons_succ, List.getElem_cons_zero, List.setIfInBounds_toArray, List.set_cons_zero, List.set_cons_succ]
                                  (refine wpAnyH_take (i := 35) (v := ?_) rfl (by kernel_rfl) (by kernel_rfl) (by kernel_rfl) (fun _ _ _ h => h) (Or.inl ⟨by rfl, ?_⟩) hHeld ?_; rotate_left; focus (intro w hSw; (try dsimp only at hSw); go_simp; (try with_reducible rfl)))
                                  try simp only [Act.put, List.getElem_toArray, List.getElem_cons_succ, List.getElem_cons_zero, List.setIfInBounds_toArray, List.set_cons_zero, List.set_cons_succ]
                                  (refine wpAnyH_ready (rs := [37]) (by kernel_rfl) (by simp) ?_; refine AllReadyH.cons rfl (fun K hK => ?_) AllReadyH.nil; (refine if_wanted (by rfl) ?_; refine wp_store_row 61 _ _ rfl wr.heap.size (clF (takeCl L j)).toArray rfl rfl 61 zeroCA (heap_alloc_new wr _) (by kernel_rfl) rfl (clF_all _) ?_; rw [HSR.out]); go_simp; (try go_wp2_with fail); refine hK.out _ _ ?_ (fun hHeld' => ?_); (focus (first | with_reducible exact hHeld | with_reducible exact HS.out _ ((HR.out.bel.alloc HSZ.out _).drew) | with_reducible exact HS.out _ HTA.out.1.bel)); clear hK K; replace hHeld := hHeld'; clear hHeld')
                                  try simp only [Act.put, List.getElem_toArray, List.getElem_cons_succ, List.getElem_cons_zero, List.setIfInBounds_toArray, List.set_cons_zero, List.set_cons_succ]
                                  refine wpAnyH_done (by kernel_rfl) ?_ _
                                  refine NoPanic.normal ?_
                                  go_wp2_with fail
                                  go_meet
                                  exact ⟨_, rfl, HTA.out.1, HTA.out.2⟩
                              · skip; go_simp; (try go_wp2_with fail); refine hK.out _ _ ?_ (fun hHeld' => ?_); (focus (first | with_reducible exact hHeld | with_reducible exact HS.out _ ((HR.out.bel.alloc HSZ.out _).drew) | with_reducible exact HS.out _ HTA.out.1.bel)); clear hK K; replace hHeld := hHeld'; clear hHeld'
                                try simp only [Act.put, List.getElem_toArray, List.getElem_cons_succ, List.getElem_cons_zero, List.setIfInBounds_toArray, List.set_cons_zero, List.set_cons_succ]
                                (refine wpAnyH_ready (rs := [21]) (by kernel_rfl) (by simp) ?_; refine AllReadyH.cons rfl (fun K hK => ?_) AllReadyH.nil; go_simp; (first | (go_at_call 40; (first | with_reducible refine (C3.out _ hHeld.1).mono ?_ | with_reducible refine (C11.out _ hHeld.1).mono ?_ | with_reducible refine (C19.out _ hHeld.1).mono ?_ | with_reducible refine (C27.out _ hHeld.1).mono ?_); rintro e w' ⟨rfl, rfl⟩) | (go_at_call 41; refine (CN.out _).mono ?_; rintro e w' ⟨rfl, rfl⟩)); (try go_wp2_with fail); refine hK.out _ _ ?_ (fun hHeld' => ?_); (focus (first | with_reducible exact hHeld | with_reducible exact HS.out _ ((HR.out.bel.alloc HSZ.out _).drew) | with_reducible exact HS.out _ HTA.out.1.bel)); clear hK K; replace hHeld := hHeld'; clear hHeld')
                                try simp only [Act.put, List.getElem_toArray, List.getElem_cons_succ, List.getElem_cons_zero, List.setIfInBounds_toArray, List.set_cons_zero, List.set_cons_succ]
                                (refine wpAnyH_ready (rs := [25]) (by kernel_rfl) (by simp) ?_; refine AllReadyH.cons rfl (fun K hK => ?_) AllReadyH.nil; go_simp; (first | (go_at_call 40; (first | with_reducible refine (C3.out _ hHeld.1).mono ?_ | with_reducible refine (C11.out _ hHeld.1).mono ?_ | with_reducible refine (C19.out _ hHeld.1).mono ?_ | with_reducible refine (C27.out _ hHeld.1).mono ?_); rintro e w' ⟨rfl, rfl⟩) | (go_at_call 41; refine (CN.out _).mono ?_; rintro e w' ⟨rfl, rfl⟩)); (try go_wp2_with fail); refine hK.out _ _ ?_ (fun hHeld' => ?_); (focus (first | with_reducible exact hHeld | with_reducible exact HS.out _ ((HR.out.bel.alloc HSZ.out _).drew) | with_reducible exact HS.out _ HTA.out.1.bel)); clear hK K; replace hHeld := hHeld'; clear hHeld')
                                try simp only [Act.put, List.getElem_toArray, List.getElem_cons_succ, List.getElem_cons_zero, List.setIfInBounds_toArray, List.set_cons_zero, List.set_cons_succ]
                                (refine wpAnyH_ready (rs := [29]) (by kernel_rfl) (by simp) ?_; refine AllReadyH.cons rfl (fun K hK => ?_) AllReadyH.nil; go_simp; (first | (go_at_call 40; (first | with_reducible refine (C3.out _ hHeld.1).mono ?_ | with_reducible refine (C11.out _ hHeld.1).mono ?_ | with_reducible refine (C19.out _ hHeld.1).mono ?_ | with_reducible refine (C27.out _ hHeld.1).mono ?_); rintro e w' ⟨rfl, rfl⟩) | (go_at_call 41; refine (CN.out _).mono ?_; rintro e w' ⟨rfl, rfl⟩)); (try go_wp2_with fail); refine hK.out _ _ ?_ (fun hHeld' => ?_); (focus (first | with_reducible exact hHeld | with_reducible exact HS.out _ ((HR.out.bel.alloc HSZ.out _).drew) | with_reducible exact HS.out _ HTA.out.1.bel)); clear hK K; replace hHeld := hHeld'; clear hHeld')
                                try simp only [Act.put, List.getElem_toArray, List.getElem_cons_succ, List.getElem_cons_zero, List.setIfInBounds_toArray, List.set_cons_zero, List.set_cons_succ]
                                (refine wpAnyH_take (i := 30) (v := ?_) rfl (by kernel_rfl) (by kernel_rfl) (by kernel_rfl) (fun _ _ _ h => h) (Or.inl ⟨by rfl, ?_⟩) hHeld ?_; rotate_left; focus (intro w hSw; (try dsimp only at hSw); go_simp; (try with_reducible rfl)))
                                try simp only [Act.put, List.getElem_toArray, List.getElem_cons_succ, List.getElem_cons_zero, List.setIfInBounds_toArray, List.set_cons_zero, List.set_cons_succ]
                                (refine wpAnyH_ready (rs := [34]) (by kernel_rfl) (by simp) ?_; refine AllReadyH.cons rfl (fun K hK => ?_) AllReadyH.nil; go_simp; (first | (go_at_call 40; (first | with_reducible refine (C3.out _ hHeld.1).mono ?_ | with_reducible refine (C11.out _ hHeld.1).mono ?_ | with_reducible refine (C19.out _ hHeld.1).mono ?_ | with_reducible refine (C27.out _ hHeld.1).mono ?_); rintro e w' ⟨rfl, rfl⟩) | (go_at_call 41; refine (CN.out _).mono ?_; rintro e w' ⟨rfl, rfl⟩)); (try go_wp2_with fail); refine hK.out _ _ ?_ (fun hHeld' => ?_); (focus (first | with_reducible exact hHeld | with_reducible exact HS.out _ ((HR.out.bel.alloc HSZ.out _).drew) | with_reducible exact HS.out _ HTA.out.1.bel)); clear hK K; replace hHeld := hHeld'; clear hHeld')
                                try simp only [Act.put, List.getElem_toArray, List.getElem_cons_succ, List.getElem_cons_zero, List.setIfInBounds_toArray, List.set_cons_zero, List.set_cons_succ]
                                (refine wpAnyH_take (i := 35) (v := ?_) rfl (by kernel_rfl) (by kernel_rfl) (by kernel_rfl) (fun _ _ _ h => h) (Or.inl ⟨by rfl, ?_⟩) hHeld ?_; rotate_left; focus (intro w hSw; (try dsimp only at hSw); go_simp; (try with_reducible rfl)))
                                try simp only [Act.put, List.getElem_toArray, List.getElem_cons_succ, List.getElem_cons_zero, List.setIfInBounds_toArray, List.set_cons_zero, List.set_cons_succ]
                                (refine wpAnyH_ready (rs := [37]) (by kernel_rfl) (by simp) ?_; refine AllReadyH.cons rfl (fun K hK => ?_) AllReadyH.nil; (refine if_wanted (by rfl) ?_; refine wp_store_row 61 _ _ rfl wr.heap.size (clF (takeCl L j)).toArray rfl rfl 61 zeroCA (heap_alloc_new wr _) (by kernel_rfl) rfl (clF_all _) ?_; rw [HSR.out]); go_simp; (try go_wp2_with fail); refine hK.out _ _ ?_ (fun hHeld' => ?_); (focus (first | with_reducible exact hHeld | with_reducible exact HS.out _ ((HR.out.bel.alloc HSZ.out _).drew) | with_reducible exact HS.out _ HTA.out.1.bel)); clear hK K; replace hHeld := hHeld'; clear hHeld')
                                try simp only [Act.put, List.getElem_toArray, List.getElem_cons_succ, List.getElem_cons_zero, List.setIfInBounds_toArray, List.set_cons_zero, List.set_cons_succ]
                                refine wpAnyH_done (by kernel_rfl) ?_ _
                                refine NoPanic.normal ?_
                                go_wp2_with fail
                                go_meet
                                exact ⟨_, rfl, HTA.out.1, HTA.out.2⟩
                            · skip; go_simp; (try go_wp2_with fail); refine hK.out _ _ ?_ (fun hHeld' => ?_); (focus (first | with_reducible exact hHeld | with_reducible exact HS.out _ ((HR.out.bel.alloc HSZ.out _).drew) | with_reducible exact HS.out _ HTA.out.1.bel)); clear hK K; replace hHeld := hHeld'; clear hHeld'
                              try simp only [Act.put, List.getElem_toArray, List.getElem_cons_succ, List.getElem_cons_zero, List.setIfInBounds_toArray, List.set_cons_zero, List.set_cons_succ]
                              (refine wpAnyH_ready (rs := [20]) (by kernel_rfl) (by simp) ?_; refine AllReadyH.cons rfl (fun K hK => ?_) AllReadyH.nil; go_simp; (first | (go_at_call 40; (first | with_reducible refine (C3.out _ hHeld.1).mono ?_ | with_reducible refine (C11.out _ hHeld.1).mono ?_ | with_reducible refine (C19.out _ hHeld.1).mono ?_ | with_reducible refine (C27.out _ hHeld.1).mono ?_); rintro e w' ⟨rfl, rfl⟩) | (go_at_call 41; refine (CN.out _).mono ?_; rintro e w' ⟨rfl, rfl⟩)); (try go_wp2_with fail); refine hK.out _ _ ?_ (fun hHeld' => ?_); (focus (first | with_reducible exact hHeld | with_reducible exact HS.out _ ((HR.out.bel.alloc HSZ.out _).drew) | with_reducible exact HS.out _ HTA.out.1.bel)); clear hK K; replace hHeld := hHeld'; clear hHeld')
                              try simp only [Act.put, List.getElem_toArray, List.getElem_cons_succ, List.getElem_cons_zero, List.setIfInBounds_toArray, List.set_cons_zero, List.set_cons_succ]
                              (refine wpAnyH_ready (rs := [21]) (by kernel_rfl) (by simp) ?_; refine AllReadyH.cons rfl (fun K hK => ?_) AllReadyH.nil; go_simp; (first | (go_at_call 40; (first | with_reducible refine (C3.out _ hHeld.1).mono ?_ | with_reducible refine (C11.out _ hHeld.1).mono ?_ | with_reducible refine (C19.out _ hHeld.1).mono ?_ | with_reducible refine (C27.out _ hHeld.1).mono ?_); rintro e w' ⟨rfl, rfl⟩) | (go_at_call 41; refine (CN.out _).mono ?_; rintro e w' ⟨rfl, rfl⟩)); (try go_wp2_with fail); refine hK.out _ _ ?_ (fun hHeld' => ?_); (focus (first | with_reducible exact hHeld | with_reducible exact HS.out _ ((HR.out.bel.alloc HSZ.out _).drew) | with_reducible exact HS.out _ HTA.out.1.bel)); clear hK K; replace hHeld := hHeld'; clear hHeld')
                              try simp only [Act.put, List.getElem_toArray, List.getElem_cons_succ, List.getElem_cons_zero, List.setIfInBounds_toArray, List.set_cons_zero, List.set_cons_succ]
                              (refine wpAnyH_ready (rs := [25]) (by kernel_rfl) (by simp) ?_; refine AllReadyH.cons rfl (fun K hK => ?_) AllReadyH.nil; go_simp; (first | (go_at_call 40; (first | with_reducible refine (C3.out _ hHeld.1).mono ?_ | with_reducible refine (C11.out _ hHeld.1).mono ?_ | with_reducible refine (C19.out _ hHeld.1).mono ?_ | with_reducible refine (C27.out _ hHeld.1).mono ?_); rintro e w' ⟨rfl, rfl⟩) | (go_at_call 41; refine (CN.out _).mono ?_; rintro e w' ⟨rfl, rfl⟩)); (try go_wp2_with fail); refine hK.out _ _ ?_ (fun hHeld' => ?_); (focus (first | with_reducible exact hHeld | with_reducible exact HS.out _ ((HR.out.bel.alloc HSZ.out _).drew) | with_reducible exact HS.out _ HTA.out.1.bel)); clear hK K; replace hHeld := hHeld'; clear hHeld')
                              try simp only [Act.put, List.getElem_toArray, List.getElem_cons_succ, List.getElem_cons_zero, List.setIfInBounds_toArray, List.set_cons_zero, List.set_cons_succ]
                              (refine wpAnyH_ready (rs := [29]) (by kernel_rfl) (by simp) ?_; refine AllReadyH.cons rfl (fun K hK => ?_) AllReadyH.nil; go_simp; (first | (go_at_call 40; (first | with_reducible refine (C3.out _ hHeld.1).mono ?_ | with_reducible refine (C11.out _ hHeld.1).mono ?_ | with_reducible refine (C19.out _ hHeld.1).mono ?_ | with_reducible refine (C27.out _ hHeld.1).mono ?_); rintro e w' ⟨rfl, rfl⟩) | (go_at_call 41; refine (CN.out _).mono ?_; rintro e w' ⟨rfl, rfl⟩)); (try go_wp2_with fail); refine hK.out _ _ ?_ (fun hHeld' => ?_); (focus (first | with_reducible exact hHeld | with_reducible exact HS.out _ ((HR.out.bel.alloc HSZ.out _).drew) | with_reducible exact HS.out _ HTA.out.1.bel)); clear hK K; replace hHeld := hHeld'; clear hHeld')
                              try simp only [Act.put, List.getElem_toArray, List.getElem_cons_succ, List.getElem_cons_zero, List.setIfInBounds_toArray, List.set_cons_zero, List.set_cons_succ]
                              (refine wpAnyH_take (i := 30) (v := ?_) rfl (by kernel_rfl) (by kernel_rfl) (by kernel_rfl) (fun _ _ _ h => h) (Or.inl ⟨by rfl, ?_⟩) hHeld ?_; rotate_left; focus (intro w hSw; (try dsimp only at hSw); go_simp; (try with_reducible rfl)))
                              try simp only [Act.put, List.getElem_toArray, List.getElem_cons_succ, List.getElem_cons_zero, List.setIfInBounds_toArray, List.set_cons_zero, List.set_cons_succ]
                              (refine wpAnyH_ready (rs := [34]) (by kernel_rfl) (by simp) ?_; refine AllReadyH.cons rfl (fun K hK => ?_) AllReadyH.nil; go_simp; (first | (go_at_call 40; (first | with_reducible refine (C3.out _ hHeld.1).mono ?_ | with_reducible refine (C11.out _ hHeld.1).mono ?_ | with_reducible refine (C19.out _ hHeld.1).mono ?_ | with_reducible refine (C27.out _ hHeld.1).mono ?_); rintro e w' ⟨rfl, rfl⟩) | (go_at_call 41; refine (CN.out _).mono ?_; rintro e w' ⟨rfl, rfl⟩)); (try go_wp2_with fail); refine hK.out _ _ ?_ (fun hHeld' => ?_); (focus (first | with_reducible exact hHeld | with_reducible exact HS.out _ ((HR.out.bel.alloc HSZ.out _).drew) | with_reducible exact HS.out _ HTA.out.1.bel)); clear hK K; replace hHeld := hHeld'; clear hHeld')
                              try simp only [Act.put, List.getElem_toArray, List.getElem_cons_succ, List.getElem_cons_zero, List.setIfInBounds_toArray, List.set_cons_zero, List.set_cons_succ]
                              (refine wpAnyH_take (i := 35) (v := ?_) rfl (by kernel_rfl) (by kernel_rfl) (by kernel_rfl) (fun _ _ _ h => h) (Or.inl ⟨by rfl, ?_⟩) hHeld ?_; rotate_left; focus (intro w hSw; (try dsimp only at hSw); go_simp; (try with_reducible rfl)))
                              try simp only [Act.put, List.getElem_toArray, List.getElem_cons_succ, List.getElem_cons_zero, List.setIfInBounds_toArray, List.set_cons_zero, List.set_cons_succ]
                              (refine wpAnyH_ready (rs := [37]) (by kernel_rfl) (by simp) ?_; refine AllReadyH.cons rfl (fun K hK => ?_) AllReadyH.nil; (refine if_wanted (by rfl) ?_; refine wp_store_row 61 _ _ rfl wr.heap.size (clF (takeCl L j)).toArray rfl rfl 61 zeroCA (heap_alloc_new wr _) (by kernel_rfl) rfl (clF_all _) ?_; rw [HSR.out]); go_simp; (try go_wp2_with fail); refine hK.out _ _ ?_ (fun hHeld' => ?_); (focus (first | with_reducible exact hHeld | with_reducible exact HS.out _ ((HR.out.bel.alloc HSZ.out _).drew) | with_reducible exact HS.out _ HTA.out.1.bel)); clear hK K; replace hHeld := hHeld'; clear hHeld')
                              try simp only [Act.put, List.getElem_toArray, List.getElem_cons_succ, List.getElem_cons_zero, List.setIfInBounds_toArray, List.set_cons_zero, List.set_cons_succ]
                              refine wpAnyH_done (by kernel_rfl) ?_ _
                              refine NoPanic.normal ?_
                              go_wp2_with fail
                              go_meet
                              exact ⟨_, rfl, HTA.out.1, HTA.out.2⟩
                          case rest =>
                            obtain ⟨hc, rfl, hr4, hc4⟩ := hcut
                            have HR4 := Lib.hid hr4
                            have HC4 := Lib.hid hc4
                            clear hr4 hc4 C3 C11 C19 C27 CN HS HSZ HSR HTA HR hw1 hw2 hw3 hw11 hw19 hw27 hv0 hv1 hv2 t0 t1 t2 t3 t4 t5
                            have HRG : Hid (wc.rangeAt hc 0 (clF (takeCl L j))) := Lib.hid fun i v hi => by rw [Nat.zero_add, HC4.out.cell i, hi]
                            have CY : Hid (∀ W, Calls Tryd.prog 27 #[.agg (clF (takeCl L j)).toArray] W fun e w' => e = .returned (.bool (mayC (byN L j) (byN L (j + 1)) (byN L (j + 2)))) ∧ Below W.heap.size W w') := Lib.hid (fun W => r9May_any _ _ _ _ _ _ _ W)
                            have HY1 : Hid (mayC (byN L j) (byN L (j + 1)) (byN L (j + 2)) = false → Y = (14, j, P)) := Lib.hid fun h => by rw [← HY.out, if_pos h]
                            have HY2 : Hid (mayC (byN L j) (byN L (j + 1)) (byN L (j + 2)) = true → takeCls L (N0 - (k + 1)) (j + 35) (P ++ [takeCl L j]) = Y) := Lib.hid fun h => by rw [← HY.out, if_neg (by rw [h]; exact Bool.noConfusion)]
                            clear HY
                            generalize mayC (byN L j) (byN L (j + 1)) (byN L (j + 2)) = mj at *
                            generalize takeCl L j = x at *
                            cases mj
                            · have HXC : Hid (X.1 = 14) := Lib.hid (by rw [← HXY.out, HY1.out rfl]; rfl)
                              have HE := Lib.hid (HX.out X rfl (by rw [HXC.out]; decide))
                              rw [HXC.out] at HE
                              go_upto_region 27 with (first
                                | (refine wpList_load_midG (by rfl) 61 _ rfl hc 0 rfl (clF x) _ HRG.out Tryd.underlying61 rfl (by kernel_rfl) ?_)
                                | (go_at_call 27; refine (CY.out _).mono ?_; rintro e w5 ⟨rfl, hb⟩; have HR5 := Lib.hid (HR4.out.keep hb); clear hb))
                              have HF := Lib.hid (And.intro HR5.out.bel HR5.out.res)
                              go_wp2_with (refine wpList_store_row rfl 29 _ _ rfl q zeroAr rfl rfl 29 zeroAr HF.out.2 (by kernel_rfl) rfl zero_one ?_)
                              refine bodyPost_ret (res_row1 (p := 2) (u := 3) (ty := 29) (by kernel_rfl) _ _ q 29 zeroAr (0, 0) _ rfl (HF.out.2.setRow_ zeroF) Tryd.underlying29 rfl (by kernel_rfl)) rfl ?_
                              exact ⟨zeroF, by rw [HE.out]; rfl, by rw [HE.out]; exact zeroF_is _, by rw [HQ.out]; exact below_setRow_ HF.out.1 (Nat.le_refl _) _⟩
                            · have HY := Lib.hid (HY2.out rfl)
                              clear HY1 HY2
                              go_upto_region 28 with (first
                                | (refine wpList_load_midG (by rfl) 61 _ rfl hc 0 rfl (clF x) _ HRG.out Tryd.underlying61 rfl (by kernel_rfl) ?_)
                                | (go_at_call 27; refine (CY.out _).mono ?_; rintro e w5 ⟨rfl, hb⟩; have HR5 := Lib.hid (HR4.out.keep hb); have HC5 := Lib.hid (HC4.out.keep hb); clear hb))
                              clear HR4 HC4 HRG CY
                              have ht8 : t < 8 := by omega
                              have HO : Hid ((w5.drew.alloc (.cells (clF x).toArray 61)).ownsRow (q + 2) 61 7 (F3 (14 + t)) P.length (flatF clF P)) := Lib.hid (by
                                have h1 := ((HR5.out.drew).alloc (.cells (clF x).toArray 61)).ownC ht8
                                rwa [show (⟨takeC L, setP p t P, []⟩ : Scr).p t = P from setP_at p t P] at h1)
                              have HNX : Hid (∀ w4 v', (w5.drew.alloc (.cells (clF x).toArray 61)).grownBy w4 (F3 (14 + t)).ownBlock → w4.ownsRow (q + 2) 61 7 v' (P.length + 1) (flatF clF P ++ clF x) → (v'.ownBlock = (F3 (14 + t)).ownBlock ∨ v'.ownBlock = some (w5.drew.alloc (.cells (clF x).toArray 61)).heap.size) →
                                  TkR w q (q + 1) (q + 2) ⟨takeC L, setP p t (P ++ [x]), []⟩ (fun i => if i = 14 + t then v' else F3 i) (w4.setCell ⟨q + 1, 14 + t, none⟩ v')) := Lib.hid fun w4 v' h1 h2 h3 => by
                                have h := ((HR5.out.drew).alloc (.cells (clF x).toArray 61)).nextC (x := x) ht8 h1 (by rw [show (⟨takeC L, setP p t P, []⟩ : Scr).p t = P from setP_at p t P]; exact h2) h3
                                rwa [show (⟨takeC L, setP p t P, []⟩ : Scr).p = setP p t P from rfl, setP_at, setP_set] at h
                              have HGR : Hid (∀ w4, (w5.drew.alloc (.cells (clF x).toArray 61)).grownBy w4 (F3 (14 + t)).ownBlock → Row w4 (q + 1) 29 23 F3) := Lib.hid fun w4 h1 => ((HR5.out.drew).alloc (.cells (clF x).toArray 61)).grownRow (k := t) (by omega) h1
                              have hcd := HR5.out.row.drew.cell (i := 14 + t) (by omega)
                              have hcA : (w5.alloc (.cells #[.int .i64 x.op, .int .i64 x.l, .int .i64 x.key, .int .u64 x.pa, .int .u64 x.pb, .int .u64 x.hd, .int .i64 x.r] 61)).cell? ⟨q + 1, 14 + t, none⟩ = some (F3 (14 + t)) := (HR5.out.row.alloc (.cells (clF x).toArray 61)).cell (i := 14 + t) (by omega)
                              have HN1 := Lib.hid (Cells.new w5.drew (clF x).toArray 61).news
                              have HLE : Hid (q + 2 ≤ (w5.drew.alloc (.cells (clF x).toArray 61)).heap.size) := Lib.hid ((HR5.out.drew).alloc _).le
                              obtain ⟨q0, q1, q2, q3, q4, q5, q6⟩ := cl_cells (w := w5.drew) (b := hc) (o := 0) (x := x) (fun i v hi => by rw [Nat.zero_add, HC5.out.drew.cell i, hi])
                              simp only [Nat.zero_add] at q1 q2 q3 q4 q5 q6
                              have t1 : (0 : Int) ≤ (t : Int) := by omega
                              have t2 : (t : Int) < 8 := by omega
                              have hpl : P.length ≤ 40 := by rw [HPL.out]; omega
                              have hj35n : j + 35 ≤ n := by omega
                              obtain ⟨i0, hi0, hz0, hz1, hz3⟩ := infoCl
                              have hw35' : wrap64 ((j : Int) + 35) = ((j + 35 : Nat) : Int) := by unfold wrap64; omega
                              go_region_law (refine step_append_at18 rfl _ _ 25 rfl (q + 2) 61 i0 (.agg (clF zeroCl).toArray) 7 56 Tryd.underlying25 hi0 hz0 hz1 hz3 rfl (by decide) (F3 (14 + t)) P.length (flatF clF P) (by simp [Act.eval, Act.put]) HO.out ⟨w5.heap.size, 0, none⟩ 1 1 (clF x) (by simp [Act.eval, Act.put]) rfl HN1.out (clF_one _) (by unfold maxLen; omega) (by omega) HLE.out ?_
                                             intro v2 w6 hown hgrow hat
                                             obtain ⟨A4, c4, rfl, -⟩ := lnIs_of_own hown
                                             have hG := HGR.out w6 hgrow
                                             have hf4 := hG.frozen (14 + t)
                                             have hc6 := hG.cell (i := 14 + t) (by omega)
                                             have HZ := Lib.hid (HNX.out w6 _ hgrow hown hat); clear hown hgrow hat hG)
                              all_goals
                                clear hcd hcA q0 q1 q2 q3 q4 q5 q6 hi0 hz0 hz1 hz3 HO HNX HGR HN1 HLE hf4 hc6 HR5 HC5 t1 t2
                                go_wp2_with fail
                                go_roundw
                                case rel => exact ⟨j + 35, k + 1, P ++ [x], _, by go_num, by go_num, by omega, hj35n, by rw [List.length_append, HPL.out]; rfl, HZ.out, HY.out⟩
                                case measure => simp [intOf]; omega
                      · obtain rfl : k = N0 := by omega
                        rw [Nat.sub_self, takeCls] at hy
                        have HY := Lib.hid hy
                        have HR := Lib.hid hr3
                        clear hy hr3
                        have HX2 : Hid (takePs L (T - (t + 1)) (t + 1) j (setP p t P) = X) := Lib.hid (by rw [← HXY.out, ← HY.out]; exact (if_pos rfl).symm)
                        go_wp2_with fail
                        go_roundw
                        case rel => exact ⟨j, t + 1, setP p t P, F3, rfl, by go_num, by omega, hj, HR.out, HX2.out, fun k hk => by rw [setP_ne _ _ (by omega)]; exact HP0.out k (by omega), fun k => by
                          unfold setP
                          split
                          · rw [HPL.out]; omega
                          · exact HP40.out k⟩
                        case measure => simp [intOf]; omega
              · obtain rfl : t = T := by omega
                rw [Nat.sub_self, takePs] at hx
                have HX5 := Lib.hid (HX4.out i p (by rw [← hx]))
                have HR3 : Hid (TkR w q (q + 1) (q + 2) ⟨takeC L, p, []⟩ F wr) := Lib.hid HR.out
                generalize hZ : takeEs L (t : Int) (n - i) i [] = Z at *
                have HZE := Lib.hid hZ
                have HX6 := Lib.hid (HX5.out Z rfl)
                clear hZ hx HX4 HX HR HX5 hlt
                obtain ⟨e0, he0, ez0, ez1, ez3⟩ := infoEnt
                go_wp2_with fail
                go_loopw [6] (fun jv wr => ∃ (j : Nat) (E : List Ent) (F : Nat → Value), jv = .int .i64 j ∧ j ≤ n ∧ ELim E ∧ TkR w q (q + 1) (q + 2) ⟨takeC L, p, E⟩ F wr ∧ takeEs L (t : Int) (n - j) j E = Z) (fun jv _ => n - (intOf jv).toNat)
                case atStart => exact ⟨i, [], _, rfl, hi, ⟨Nat.zero_le _⟩, HR3.out, HZE.out⟩
                case round =>
                  clear HR3 HZE c1
                  obtain ⟨j, E, F4, rfl, hj, hE, hr, hz⟩ := hrel
                  have HR := Lib.hid hr
                  by_cases hjn : j < n
                  · have hz2 := hz
                    rw [← HN.out, takeEs_round L (t : Int) (by rw [HN.out]; exact hjn)] at hz2
                    obtain ⟨A4, c4, e4, -⟩ := lnIs_of_own hr.ownE
                    have c22 : wr.cell? ⟨q + 1, 22, none⟩ = some (.slice A4 E.length c4) := by rw [hr.row.cell (i := 22) (by omega), e4]
                    have c1 : wr.cell? ⟨q + 1, 1, none⟩ = some (.int .i64 (t : Int)) := by rw [hr.row.cell (i := 1) (by omega), hr.conf 1 (by omega)]; show some (Value.int .i64 (takeC L 1)) = _; rw [HTC.out]
                    have p0 := HCB.out j hjn wr hr.bel
                    have hbj := byN_bound HBY.out j
                    have HE4 := Lib.hid e4
                    have hf4 := hr.row.frozen 22
                    clear hr hz e4
                    have HEL := Lib.hid hE.le
                    clear hE
                    obtain ⟨m, hm⟩ : ∃ m, E.length = m := ⟨_, rfl⟩
                    rw [hm] at c22
                    have HM := Lib.hid hm; clear hm
                    by_cases h6 : E.length = 60000
                    · rw [if_pos h6] at hz2
                      have HE : Hid (takeN L = (5, noScr)) := Lib.hid (by rw [HX6.out, ← hz2]; rfl)
                      have HF := Lib.hid (And.intro HR.out.bel HR.out.res)
                      have h6t : ((m : Int) = 60000) = True := eq_true (by rw [← HM.out, h6]; rfl)
                      have h6b : ((m : Int) == 60000) = true := by rw [beq_iff_eq]; exact of_eq_true h6t
                      clear hz2 h6
                      go_upto_region 32 with fail
                      go_wp2_with (refine wpList_store_row rfl 29 _ _ rfl q zeroAr rfl rfl 29 zeroAr HF.out.2 (by kernel_rfl) rfl zero_one ?_)
                      refine bodyPost_ret (res_row1 (p := 2) (u := 3) (ty := 29) (by kernel_rfl) _ _ q 29 zeroAr (0, 0) _ rfl (HF.out.2.setRow_ zeroF) Tryd.underlying29 rfl (by kernel_rfl)) rfl ?_
                      exact ⟨zeroF, by rw [HE.out]; rfl, by rw [HE.out]; exact zeroF_is _, by rw [HQ.out]; exact below_setRow_ HF.out.1 (Nat.le_refl _) _⟩
                    · rw [if_neg h6] at hz2
                      have h6t : ((m : Int) = 60000) = False := eq_false (by rw [← HM.out]; omega)
                      have h6b : ((m : Int) == 60000) = false := by rw [beq_eq_false_iff_ne]; exact of_eq_false h6t
                      have HE6 : Hid (E.length < 60000) := Lib.hid (by have := HEL.out; omega)
                      clear h6
                      have hdm : Int.tmod (byN L j) 8 = byN L j % 8 := Int.tmod_eq_emod_of_nonneg hbj.1
                      have hdd : Int.tdiv (byN L j) 8 = byN L j / 8 := Int.tdiv_eq_ediv_of_nonneg hbj.1
                      have hwv : IntKind.i64.wrap (byN L j) = byN L j := by rw [IntKind.wrap_i64]; omega
                      have HZ1 : Hid (31 < byN L j ∨ (t : Int) ≤ byN L j % 8 → takeN L = (3, noScr)) := Lib.hid fun h => by rw [if_pos h] at hz2; rw [HX6.out, ← hz2]; rfl
                      have HZ2 : Hid (¬ (31 < byN L j ∨ (t : Int) ≤ byN L j % 8) → takeEs L (t : Int) (n - (j + 1)) (j + 1) (E ++ [⟨byN L j % 8, byN L j / 8⟩]) = Z) := Lib.hid fun h => by rw [if_neg h, HN.out] at hz2; exact hz2
                      have HWQ : Hid (wrap64 (byN L j / 8) = byN L j / 8) := Lib.hid (by unfold wrap64; omega)
                      clear hz2
                      generalize byN L j = x at *
                      by_cases h31 : 31 < x
                      · have HE := Lib.hid (HZ1.out (.inl h31))
                        have HF := Lib.hid (And.intro HR.out.bel HR.out.res)
                        go_upto_region 35 with fail
                        go_wp2_with (refine wpList_store_row rfl 29 _ _ rfl q zeroAr rfl rfl 29 zeroAr HF.out.2 (by kernel_rfl) rfl zero_one ?_)
                        refine bodyPost_ret (res_row1 (p := 2) (u := 3) (ty := 29) (by kernel_rfl) _ _ q 29 zeroAr (0, 0) _ rfl (HF.out.2.setRow_ zeroF) Tryd.underlying29 rfl (by kernel_rfl)) rfl ?_
                        exact ⟨zeroF, by rw [HE.out]; rfl, by rw [HE.out]; exact zeroF_is _, by rw [HQ.out]; exact below_setRow_ HF.out.1 (Nat.le_refl _) _⟩
                      · by_cases htx : (t : Int) ≤ x % 8
                        · have HE := Lib.hid (HZ1.out (.inr htx))
                          have HF := Lib.hid (And.intro HR.out.bel HR.out.res)
                          go_upto_region 35 with fail
                          go_wp2_with (refine wpList_store_row rfl 29 _ _ rfl q zeroAr rfl rfl 29 zeroAr HF.out.2 (by kernel_rfl) rfl zero_one ?_)
                          refine bodyPost_ret (res_row1 (p := 2) (u := 3) (ty := 29) (by kernel_rfl) _ _ q 29 zeroAr (0, 0) _ rfl (HF.out.2.setRow_ zeroF) Tryd.underlying29 rfl (by kernel_rfl)) rfl ?_
                          exact ⟨zeroF, by rw [HE.out]; rfl, by rw [HE.out]; exact zeroF_is _, by rw [HQ.out]; exact below_setRow_ HF.out.1 (Nat.le_refl _) _⟩
                        · have HZ3 := Lib.hid (HZ2.out (by omega))
                          have HE5 : Hid (F4 22 = .slice A4 m c4) := Lib.hid (by rw [HE4.out, HM.out])
                          have HRA := Lib.hid (HR.out.alloc (.cells (entF ⟨x % 8, x / 8⟩).toArray 51))
                          have HO : Hid ((wr.alloc (.cells (entF ⟨x % 8, x / 8⟩).toArray 51)).ownsRow (q + 2) 51 2 (.slice A4 m c4) m (flatF entF E)) := Lib.hid (by have h1 := HRA.out.ownE; rw [HE5.out] at h1; rw [← HM.out] at h1 ⊢; exact h1)
                          have HNW := Lib.hid (Cells.new wr (entF ⟨x % 8, x / 8⟩).toArray 51).news
                          have HLE := Lib.hid HRA.out.le
                          have HML : Hid (m < 60000) := Lib.hid (by rw [← HM.out]; exact HE6.out)
                          have HZ : Hid (∀ w4 v', (wr.alloc (.cells (entF ⟨x % 8, x / 8⟩).toArray 51)).grownBy w4 (Value.slice A4 m c4).ownBlock → w4.ownsRow (q + 2) 51 2 v' (m + 1) (flatF entF E ++ entF ⟨x % 8, x / 8⟩) → (v'.ownBlock = (Value.slice A4 m c4).ownBlock ∨ v'.ownBlock = some (wr.alloc (.cells (entF ⟨x % 8, x / 8⟩).toArray 51)).heap.size) →
                              TkR w q (q + 1) (q + 2) ⟨takeC L, p, E ++ [⟨x % 8, x / 8⟩]⟩ (fun i => if i = 22 then v' else F4 i) (w4.setCell ⟨q + 1, 22, none⟩ v') ∧ Row w4 (q + 1) 29 23 F4) := Lib.hid fun w4 v' h1 h2 h3 => by
                            rw [← HE5.out] at h1 h3
                            rw [← HM.out] at h2
                            exact ⟨HRA.out.nextE h1 h2 h3, HRA.out.grownRow (k := 8) (by omega) h1⟩
                          have hwq : wrap64 (x / 8) = x / 8 := HWQ.out
                          have hwj : wrap64 ((j : Int) + 1) = ((j + 1 : Nat) : Int) := by unfold wrap64; omega
                          clear HZ1 HZ2
                          go_upto_region 37 with (at_builtin; refine wpList_append_own_at rfl _ _ 27 rfl (q + 2) 51 e0 (.agg (entF ⟨0, 0⟩).toArray) 2 16 Tryd.underlying27 he0 ez0 ez1 ez3 rfl (by decide) (.slice A4 m c4) m (flatF entF E) rfl HO.out ⟨wr.heap.size, 0, none⟩ 1 1 (entF ⟨x % 8, x / 8⟩) rfl rfl HNW.out (entF_one _) (by have := HML.out; unfold maxLen; omega) (by have := HML.out; omega) HLE.out ?_; intro v2 w4 hown hgrow hat; obtain ⟨A5, c5, rfl, -⟩ := lnIs_of_own hown; have hG := HZ.out w4 _ hgrow hown hat; have hf5 := hG.2.frozen 22; have hc5 := hG.2.cell (i := 22) (by omega); have HZZ := Lib.hid hG.1; clear hown hgrow hat hG)
                          clear c22 c1 p0 hf4 HR HRA HO HNW HLE h6t h6b
                          have hEL : (E ++ [(⟨x % 8, x / 8⟩ : Ent)]).length ≤ 60000 := by rw [List.length_append]; exact HE6.out
                          have HEN := Lib.hid hEL; clear hEL
                          clear hdm hdd hwv hwq hbj h31 htx HWQ HML HZ HE5 HM HEL HX6
                          go_wp2_with fail
                          go_roundw
                          case rel => exact ⟨j + 1, _, _, by go_num, hjn, ⟨HEN.out⟩, HZZ.out, HZ3.out⟩
                          case measure => simp only [intOf, hwj, Int.toNat_natCast]; exact msr_lt hjn
                  · obtain rfl : j = n := by omega
                    rw [Nat.sub_self, takeEs] at hz
                    have HFIN : Hid (takeN L = (0, ⟨takeC L, p, E⟩)) := Lib.hid (by rw [HX6.out, ← hz]; rfl)
                    have HONE := Lib.hid (scr_one hr.is)
                    have hres := Lib.hid hr.res
                    clear hr hz
                    go_wp2_with (first
                      | (refine wpList_load_row rfl 29 _ rfl (q + 1) rfl 29 (rowOf 23 F4) (0, 0) _ HR.out.row Tryd.underlying29 rfl (by kernel_rfl) ?_)
                      | (refine wpList_store_row rfl 29 _ _ rfl q (rowOf 23 F4) rfl rfl 29 zeroAr hres.out (by kernel_rfl) rfl HONE.out ?_))
                    refine bodyPost_ret (res_row1 (p := 2) (u := 3) (ty := 29) (by kernel_rfl) _ _ q 29 (rowOf 23 F4) (0, 0) _ rfl (hres.out.setRow_ F4) Tryd.underlying29 rfl (by kernel_rfl)) rfl ?_
                    refine ⟨F4, by rw [HFIN.out]; rfl, ?_, by rw [HQ.out]; exact below_setRow_ HR.out.bel (Nat.le_refl _) _⟩
                    rw [HFIN.out]
                    exact HR.out.is_set _
end Go.Proofs.YtdbankogamolcaaDoor
