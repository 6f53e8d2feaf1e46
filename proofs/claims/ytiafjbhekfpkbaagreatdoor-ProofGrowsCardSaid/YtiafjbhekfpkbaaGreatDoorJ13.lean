/- Whether a call may be answered so: package call's answer. · Package means: the walk of Told, over what its callees answer. · Lists of rows: how they lie in memory, and what is done with them. · slices.Clone of rows. -/
import Derived.Test.YtiafjbhekfpkbaaGreatDoorJ12
import Derived.Test.YtiafjbhekfpkbaaGreatDoorJ6
import Derived.Deep.RegionHeld3
import Derived.Deep.WholeRow
import Derived.Test.YtiafjbhekfpkbaaGreatDoorJ0
import Derived.Deep.AppendLies
import Derived.Laws.StructEq
import Derived.Lib.SliceRun
namespace Go.Proofs.YtiafjbhekfpkbaaGreatDoor
set_option linter.unusedSimpArgs false
set_option linter.unusedVariables false
open Go.ChangeShapes Go.WideShapes Go.ChangeAt Go.RowKit

/-- A call, an answer in a block. -/
structure CallIs (w : World) (g : Nat) (op l key pa pb hd r : Int) : Prop where
  lt : g < w.heap.size
  c0 : w.cell? ⟨g, 0, none⟩ = some (.int .i64 op)
  c1 : w.cell? ⟨g, 1, none⟩ = some (.int .i64 l)
  c2 : w.cell? ⟨g, 2, none⟩ = some (.int .i64 key)
  c3 : w.cell? ⟨g, 3, none⟩ = some (.int .u64 pa)
  c4 : w.cell? ⟨g, 4, none⟩ = some (.int .u64 pb)
  c5 : w.cell? ⟨g, 5, none⟩ = some (.int .u64 hd)
  c6 : w.cell? ⟨g, 6, none⟩ = some (.int .i64 r)
structure AnsIs (w : World) (g : Nat) (x : Ans) : Prop where
  lt : g < w.heap.size
  c0 : w.cell? ⟨g, 0, none⟩ = some (.int .i64 x.e)
  c1 : w.cell? ⟨g, 1, none⟩ = some (.int .u64 x.a)
  c2 : w.cell? ⟨g, 2, none⟩ = some (.int .u64 x.b)
  c3 : w.cell? ⟨g, 3, none⟩ = some (.int .u64 x.h)
  c4 : w.cell? ⟨g, 4, none⟩ = some (.int .i64 x.n)
  c5 : w.cell? ⟨g, 5, none⟩ = some (.int .i64 x.k)
theorem CallIs.keep {w w' : World} {g : Nat} {op l key pa pb hd r : Int} (h : CallIs w g op l key pa pb hd r) (hb : Below w.heap.size w w') : CallIs w' g op l key pa pb hd r :=
  have c := fun i => hb.cell (p := ⟨g, i, none⟩) h.lt
  ⟨Nat.lt_of_lt_of_le h.lt hb.size, (c 0).trans h.c0, (c 1).trans h.c1, (c 2).trans h.c2, (c 3).trans h.c3, (c 4).trans h.c4, (c 5).trans h.c5, (c 6).trans h.c6⟩
theorem AnsIs.keep {w w' : World} {g : Nat} {x : Ans} (h : AnsIs w g x) (hb : Below w.heap.size w w') : AnsIs w' g x :=
  have c := fun i => hb.cell (p := ⟨g, i, none⟩) h.lt
  ⟨Nat.lt_of_lt_of_le h.lt hb.size, (c 0).trans h.c0, (c 1).trans h.c1, (c 2).trans h.c2, (c 3).trans h.c3, (c 4).trans h.c4, (c 5).trans h.c5⟩
def callC (op l key pa pb hd r : Int) : Array Value := #[.int .i64 op, .int .i64 l, .int .i64 key, .int .u64 pa, .int .u64 pb, .int .u64 hd, .int .i64 r]
theorem callIs_new (op l key pa pb hd r : Int) (t : TypeId) (w : World) : CallIs (w.alloc (.cells (callC op l key pa pb hd r) t)) w.heap.size op l key pa pb hd r := by
  constructor <;> simp [callC]
theorem ansIs_new (x : Ans) (t : TypeId) (w : World) : AnsIs (w.alloc (.cells x.cells t)) w.heap.size x := by
  constructor <;> simp [Ans.cells]
theorem two_new (op l key pa pb hd r : Int) (x : Ans) (t u : TypeId) (w : World) : ∀ W, (w.alloc (.cells (callC op l key pa pb hd r) t)).alloc (.cells x.cells u) = W → Below w.heap.size w W ∧ CallIs W w.heap.size op l key pa pb hd r ∧ AnsIs W (w.heap.size + 1) x := by
  rintro W rfl
  refine ⟨((Below.refl _ _).alloc (Nat.le_refl _) _).alloc (by simp) _, (callIs_new op l key pa pb hd r t w).keep ((Below.refl _ _).alloc (Nat.le_refl _) _), ?_⟩
  have h := ansIs_new x u (w.alloc (.cells (callC op l key pa pb hd r) t))
  simpa using h
set_option maxHeartbeats 1000000 in
theorem kFits_any (op l key pa pb hd r e a b h n k : Int) (w : World) : Calls Tryz.prog 55 #[(.agg #[.int .i64 op, .int .i64 l, .int .i64 key, .int .u64 pa, .int .u64 pb, .int .u64 hd, .int .i64 r]), (.agg #[.int .i64 e, .int .u64 a, .int .u64 b, .int .u64 h, .int .i64 n, .int .i64 k])] w fun t w' => t = .returned (.bool (fitsC op l r ⟨e, a, b, h, n, k⟩)) ∧ Below w.heap.size w w' := by
  have C1 := Lib.hid (fun W => kMay_any op l key pa pb hd r W)
  have C2 : Hid (mayC op l r = true → ∀ W, Calls Tryz.prog 68 #[.int .i64 op, .agg #[.int .i64 0, .int .u64 a, .int .u64 b, .int .u64 h, .int .i64 n, .int .i64 k]] W fun t w' => t = .returned (.bool (toldT op a b h n k)) ∧ Below W.heap.size W w') :=
    Lib.hid (fun hm W => tells_any op a b h n k (mayC_ops hm).1 (mayC_ops hm).2 W)
  have C3 : Hid (mayC op l r = true → ∀ W, Calls Tryz.prog 69 #[.int .i64 op, .int .i64 e] W fun t w' => t = .returned (.bool (badT op e)) ∧ W = w') :=
    Lib.hid (fun hm W => fails_any op e (mayC_ops hm).1 (mayC_ops hm).2 W)
  have C4 := Lib.hid (fun W => kSame_cells e a b h n k e 0 0 0 0 0 W)
  have H := Lib.hid (show fitsC op l r ⟨e, a, b, h, n, k⟩ = bif mayC op l r then (bif e == 0 then toldT op a b h n k else badT op e && sameA ⟨e, a, b, h, n, k⟩ ⟨e, 0, 0, 0, 0, 0⟩) else false from rfl)
  generalize fitsC op l r ⟨e, a, b, h, n, k⟩ = F at *
  generalize mayC op l r = M at *
  go_enter Tryz.func55, Tryz.ntmps55
  go_upto_region 1 with fail
  generalize hW : World.alloc (World.alloc _ _) _ = W
  obtain ⟨hB, hcl, han⟩ := two_new op l key pa pb hd r ⟨e, a, b, h, n, k⟩ _ _ w W hW
  clear hW
  generalize hz : w.heap.size = a1 at *
  have HZ := Lib.hid hz; clear hz
  have HB := Lib.hid hB; have HC := Lib.hid hcl; have HA := Lib.hid han; clear hB
  obtain ⟨-, u0, u1, u2, u3, u4, u5, u6⟩ := hcl
  obtain ⟨-, v0, v1, v2, v3, v4, v5⟩ := han
  simp only at v0 v1 v2 v3 v4 v5
  go_wp2_with fail
  refine (C1.out _).mono ?_
  rintro t w1 ⟨rfl, hb1⟩
  have hB1 := below_on HB.out (Nat.le_of_eq HZ.out.symm) hb1
  have hcl := HC.out.keep hb1
  have han := HA.out.keep hb1
  clear hb1 HB HC HA u0 u1 u2 u3 u4 u5 u6 v0 v1 v2 v3 v4 v5 C1 W
  have HB := Lib.hid hB1; clear hB1
  obtain ⟨-, u0, u1, u2, u3, u4, u5, u6⟩ := hcl
  obtain ⟨-, v0, v1, v2, v3, v4, v5⟩ := han
  simp only at v0 v1 v2 v3 v4 v5
  cases M
  · go_wp2_with fail
    go_ret
    exact ⟨by rw [H.out]; rfl, by rw [HZ.out]; exact HB.out⟩
  have D2 := Lib.hid (C2.out rfl)
  have D3 := Lib.hid (C3.out rfl)
  clear C2 C3
  by_cases h0 : e = 0
  · subst h0
    go_wp2_with (with_reducible refine (D2.out _).mono ?_; rintro t w2 ⟨rfl, hb2⟩)
    go_ret
    exact ⟨by rw [H.out]; rfl, by rw [HZ.out]; exact below_on HB.out (Nat.le_of_eq HZ.out.symm) hb2⟩
  · have hq : (e == 0) = false := by simp [h0]
    rw [hq] at H
    cases hbad : badT op e
    · rw [hbad] at H D3
      clear hbad
      go_wp2_with (with_reducible refine (D3.out _).mono ?_; rintro t w2 ⟨rfl, rfl⟩)
      go_ret
      exact ⟨by rw [H.out]; rfl, by rw [HZ.out]; exact HB.out⟩
    · rw [hbad] at H D3
      clear hbad
      go_wp2_with (first | (with_reducible refine (D3.out _).mono ?_; rintro t w2 ⟨rfl, rfl⟩) | (with_reducible refine (C4.out _).mono ?_; rintro t w2 ⟨rfl, hb2⟩))
      go_ret
      exact ⟨by rw [H.out]; rfl, by rw [HZ.out]; exact below_on HB.out (Nat.le_of_eq HZ.out.symm) hb2⟩
end Go.Proofs.YtiafjbhekfpkbaaGreatDoor
namespace Go.Proofs.YtiafjbhekfpkbaaGreatDoor
set_option linter.unusedSimpArgs false
set_option linter.unusedVariables false
set_option linter.unusedSimpArgs false
set_option linter.unusedVariables false
open Go.ChangeShapes Go.WideShapes Go.ChangeAt Go.RowKit

theorem row_some {cs : Array Value} {n : Nat} (h : cs.size = n) : cs = rowOf n (fun i => cs.getD i undef) := by
  apply Array.ext
  · rw [h, rowOf_size]
  · intro i h1 h2
    have h3 := rowOf_get (n := n) (i := i) (fun i => cs.getD i undef) (by omega)
    rw [Array.getElem?_eq_getElem (by rw [rowOf_size]; omega)] at h3
    injection h3 with h3
    rw [h3]
    simp [h1]
theorem row_zero (w : World) (cs : Array Value) (t : TypeId) (n : Nat) {g : Nat} (h : cs.size = n) (hg : w.heap.size = g) : ∃ Z, Row (w.alloc (.cells cs t)) g t n Z := ⟨_, by subst hg; exact Row.new w cs t _ n (row_some h)⟩
/-- A call's seven cells. -/
def callF (op l key pa pb hd r : Int) : Nat → Value
  | 0 => .int .i64 op
  | 1 => .int .i64 l
  | 2 => .int .i64 key
  | 3 => .int .u64 pa
  | 4 => .int .u64 pb
  | 5 => .int .u64 hd
  | _ => .int .i64 r
/-- An answer's six. -/
def ansF (a : Ans) : Nat → Value
  | 0 => .int .i64 a.e
  | 1 => .int .u64 a.a
  | 2 => .int .u64 a.b
  | 3 => .int .u64 a.h
  | 4 => .int .i64 a.n
  | _ => .int .i64 a.k
theorem callF_row (op l key pa pb hd r : Int) : rowOf 7 (callF op l key pa pb hd r) = #[.int .i64 op, .int .i64 l, .int .i64 key, .int .u64 pa, .int .u64 pb, .int .u64 hd, .int .i64 r] := rfl
theorem ansF_row (a : Ans) : rowOf 6 (ansF a) = a.cells := rfl
theorem ansF_one (a : Ans) : (rowOf 6 (ansF a)).all (·.oneCell') = true := rowOf_one fun i => by unfold ansF; split <;> rfl
theorem callF_one (op l key pa pb hd r : Int) : (rowOf 7 (callF op l key pa pb hd r)).all (·.oneCell') = true := rowOf_one fun i => by unfold callF; split <;> rfl

/-- Told's four blocks: the state, the call, the answer, the result. -/
structure TR (g : Nat) (f q : Nat → Value) (a : Ans) (w W : World) : Prop where
  st : Row W g 74 63 f
  cl : Row W (g + 1) 33 7 q
  an : Row W (g + 1 + 1) 36 6 (ansF a)
  rs : ∃ Z, Row W (g + 1 + 1 + 1) 74 63 Z
  bel : Below g w W
theorem TR.keep {g : Nat} {f q : Nat → Value} {a : Ans} {w W W' : World} (h : TR g f q a w W) (hb : Below W.heap.size W W') : TR g f q a w W' :=
  ⟨h.st.keep hb, h.cl.keep hb, h.an.keep hb, h.rs.elim fun Z hz => ⟨Z, hz.keep hb⟩, h.bel.trans (hb.mono (by have := h.st.lt; omega))⟩
theorem TR.call {g : Nat} {f q : Nat → Value} {a : Ans} {w W : World} (h : TR g f q a w W) (q' : Nat → Value) : TR g f q' a w (W.setRow (g + 1) (rowOf 7 q')) :=
  ⟨h.st.setRow_far (by omega) _, h.cl.setRow_ _, h.an.setRow_far (by omega) _, h.rs.elim fun Z hz => ⟨Z, hz.setRow_far (by omega) _⟩, below_setRow_ h.bel (by omega) _⟩

set_option maxRecDepth 100000 in
set_option maxHeartbeats 2000000 in
theorem told_unfit (f q q' : Nat → Value) (t : Int) (a : Ans) (w : World)
    (hf1 : ∀ i, i < 63 → (f i).oneCell' = true) (hq1 : (rowOf 7 q').all (·.oneCell') = true)
    (hba : ∀ W, Calls Tryz.prog 52 #[.agg (rowOf 7 q)] W fun e w' => e = .returned (.agg (rowOf 7 q')) ∧ Below W.heap.size W w')
    (href : ∀ W, Below w.heap.size w W → Calls Tryz.prog 53 #[.agg (rowOf 15 (cutF f 0)), .int .i64 t, .agg (rowOf 7 q')] W fun e w' => e = .returned (.int .i64 0) ∧ Below W.heap.size W w')
    (hfit : ∀ W, Calls Tryz.prog 55 #[.agg (rowOf 7 q'), .agg (rowOf 6 (ansF a))] W fun e w' => e = .returned (.bool false) ∧ Below W.heap.size W w') :
    Calls Tryz.prog 40 #[.agg (rowOf 63 f), .int .i64 t, .agg (rowOf 7 q), .agg (rowOf 6 (ansF a))] w fun e w' => e = .returned (.tuple #[.agg (rowOf 63 f), .bool false]) ∧ Below w.heap.size w w' := by
  have HBA := Lib.hid hba; have HRF := Lib.hid href; have HFT := Lib.hid hfit; have HF1 := Lib.hid hf1; have HQ1 := Lib.hid hq1
  clear hba href hfit hf1 hq1
  go_enter Tryz.func40, Tryz.ntmps40
  go_upto_region 1 with fail
  generalize hW : World.alloc (World.alloc (World.alloc (World.alloc _ _) _) _) _ = W
  have hT : TR w.heap.size f q a w W := by
    subst hW
    have h2 := Row.new (w.alloc (.cells (rowOf 63 f) 74)) (rowOf 7 q) 33 q 7 rfl
    have h3 := Row.new ((w.alloc (.cells (rowOf 63 f) 74)).alloc (.cells (rowOf 7 q) 33)) (rowOf 6 (ansF a)) 36 (ansF a) 6 rfl
    simp only [World.size_alloc] at h2 h3
    refine ⟨(((Row.new w _ _ _ _ rfl).alloc _).alloc _).alloc _, (h2.alloc _).alloc _, h3.alloc _, ?_, ?_⟩
    · exact row_zero _ _ _ _ (by rfl) (by simp)
    · exact (((((Below.refl _ w).alloc (Nat.le_refl _) _).alloc (by simp) _).alloc (by simp; omega) _).alloc (by simp; omega) _)
  clear hW
  generalize hg : w.heap.size = g at *
  have HG := Lib.hid hg; clear hg
  have HT := Lib.hid hT
  obtain ⟨h1, h2, h3, ⟨Z0, h4⟩, h5⟩ := hT
  clear h1 h3 h4 h5
  go_upto_region 2 with (first
    | (refine wpList_load_row rfl 33 _ rfl (g + 1) rfl 33 (rowOf 7 q) (0, 0) _ h2 Tryz.underlying33 rfl (by kernel_rfl) ?_)
    | (go_at_call 52; refine (HBA.out _).mono ?_; rintro e w1 ⟨rfl, hb⟩; have HT1 := Lib.hid (HT.out.keep hb); have h2 := HT1.out.cl; clear hb)
    | (refine wpList_store_row rfl 33 _ _ rfl (g + 1) (rowOf 7 q') rfl rfl 33 (rowOf 7 q) h2 (by kernel_rfl) rfl HQ1.out ?_))
  have HT2 := Lib.hid (HT1.out.call q')
  clear h2 HT1 HT
  have h1 := HT2.out.st
  have h2 := HT2.out.cl
  generalize World.setRow _ _ _ = W2 at *
  have HRW := Lib.hid (HRF.out W2 HT2.out.bel)
  clear HRF
  go_upto_region 3 with (first
    | (refine wpList_load_mid rfl 48 _ rfl g 0 rfl ((List.range 15).map (cutF f 0)) _ (h1.range (by omega)) Tryz.underlying48 rfl (by kernel_rfl) ?_)
    | (refine wpList_load_row rfl 33 _ rfl (g + 1) rfl 33 (rowOf 7 q') (0, 0) _ h2 Tryz.underlying33 rfl (by kernel_rfl) ?_)
    | (go_at_call 53; refine HRW.out.mono ?_; rintro e w3 ⟨rfl, hb⟩; have HT3 := Lib.hid (HT2.out.keep hb); clear hb))
  clear h1 h2 HRW HT2
  have h2 := HT3.out.cl
  have h3 := HT3.out.an
  go_upto_region 6 with (first
    | (refine wpList_load_row rfl 33 _ rfl (g + 1) rfl 33 (rowOf 7 q') (0, 0) _ h2 Tryz.underlying33 rfl (by kernel_rfl) ?_)
    | (refine wpList_load_row rfl 36 _ rfl (g + 1 + 1) rfl 36 (rowOf 6 (ansF a)) (0, 0) _ h3 Tryz.underlying36 rfl (by kernel_rfl) ?_)
    | (go_at_call 55; refine (HFT.out _).mono ?_; rintro e w4 ⟨rfl, hb⟩; have HT4 := Lib.hid (HT3.out.keep hb); clear hb))
  clear h2 h3 HT3
  have HTE := HT4
  clear HT4
  have h1 := HTE.out.st
  obtain ⟨ZE, h4⟩ := HTE.out.rs
  go_wp2_with (first
    | (refine wpList_load_row rfl 74 _ rfl g rfl 74 (rowOf 63 f) (0, 0) _ h1 Tryz.underlying74 rfl (by kernel_rfl) ?_)
    | (refine wpList_store_row rfl 74 _ _ rfl (g + 1 + 1 + 1) (rowOf 63 f) rfl rfl 74 (rowOf 63 ZE) h4 (by kernel_rfl) rfl (rowOf_all HF1.out) ?_))
  refine bodyPost_ret (results_cell_tmp (p := 8) (u := 9) (ty := 74) (by kernel_rfl) _ _ (g + 1 + 1 + 1) 74 (rowOf 63 f) (0, 0) _ rfl (h4.setRow_ _) Tryz.underlying74 rfl (by kernel_rfl)) rfl ?_
  exact ⟨rfl, by rw [HG.out]; exact below_setRow_ HTE.out.bel (by omega) _⟩
set_option maxRecDepth 100000 in
set_option maxHeartbeats 2000000 in
theorem told_leave (f q q' : Nat → Value) (t : Int) (a : Ans) (w : World)
    (hf1 : ∀ i, i < 63 → (f i).oneCell' = true) (hq1 : (rowOf 7 q').all (·.oneCell') = true)
    (hba : ∀ W, Calls Tryz.prog 52 #[.agg (rowOf 7 q)] W fun e w' => e = .returned (.agg (rowOf 7 q')) ∧ Below W.heap.size W w')
    (href : ∀ W, Below w.heap.size w W → Calls Tryz.prog 53 #[.agg (rowOf 15 (cutF f 0)), .int .i64 t, .agg (rowOf 7 q')] W fun e w' => e = .returned (.int .i64 0) ∧ Below W.heap.size W w')
    (hfit : ∀ W, Calls Tryz.prog 55 #[.agg (rowOf 7 q'), .agg (rowOf 6 (ansF a))] W fun e w' => e = .returned (.bool true) ∧ Below W.heap.size W w')
    (hlv : ∀ W, Calls Tryz.prog 56 #[.agg (rowOf 15 (cutF f 0)), .int .i64 t, .int .i64 a.e] W fun e w' => e = .returned (.bool true) ∧ Below W.heap.size W w') :
    Calls Tryz.prog 40 #[.agg (rowOf 63 f), .int .i64 t, .agg (rowOf 7 q), .agg (rowOf 6 (ansF a))] w fun e w' => e = .returned (.tuple #[.agg (rowOf 63 f), .bool true]) ∧ Below w.heap.size w w' := by
  have HBA := Lib.hid hba; have HRF := Lib.hid href; have HFT := Lib.hid hfit; have HF1 := Lib.hid hf1; have HQ1 := Lib.hid hq1
  have HLV := Lib.hid hlv
  clear hba href hfit hf1 hq1 hlv
  go_enter Tryz.func40, Tryz.ntmps40
  go_upto_region 1 with fail
  generalize hW : World.alloc (World.alloc (World.alloc (World.alloc _ _) _) _) _ = W
  have hT : TR w.heap.size f q a w W := by
    subst hW
    have h2 := Row.new (w.alloc (.cells (rowOf 63 f) 74)) (rowOf 7 q) 33 q 7 rfl
    have h3 := Row.new ((w.alloc (.cells (rowOf 63 f) 74)).alloc (.cells (rowOf 7 q) 33)) (rowOf 6 (ansF a)) 36 (ansF a) 6 rfl
    simp only [World.size_alloc] at h2 h3
    refine ⟨(((Row.new w _ _ _ _ rfl).alloc _).alloc _).alloc _, (h2.alloc _).alloc _, h3.alloc _, ?_, ?_⟩
    · exact row_zero _ _ _ _ (by rfl) (by simp)
    · exact (((((Below.refl _ w).alloc (Nat.le_refl _) _).alloc (by simp) _).alloc (by simp; omega) _).alloc (by simp; omega) _)
  clear hW
  generalize hg : w.heap.size = g at *
  have HG := Lib.hid hg; clear hg
  have HT := Lib.hid hT
  obtain ⟨h1, h2, h3, ⟨Z0, h4⟩, h5⟩ := hT
  clear h1 h3 h4 h5
  go_upto_region 2 with (first
    | (refine wpList_load_row rfl 33 _ rfl (g + 1) rfl 33 (rowOf 7 q) (0, 0) _ h2 Tryz.underlying33 rfl (by kernel_rfl) ?_)
    | (go_at_call 52; refine (HBA.out _).mono ?_; rintro e w1 ⟨rfl, hb⟩; have HT1 := Lib.hid (HT.out.keep hb); have h2 := HT1.out.cl; clear hb)
    | (refine wpList_store_row rfl 33 _ _ rfl (g + 1) (rowOf 7 q') rfl rfl 33 (rowOf 7 q) h2 (by kernel_rfl) rfl HQ1.out ?_))
  have HT2 := Lib.hid (HT1.out.call q')
  clear h2 HT1 HT
  have h1 := HT2.out.st
  have h2 := HT2.out.cl
  generalize World.setRow _ _ _ = W2 at *
  have HRW := Lib.hid (HRF.out W2 HT2.out.bel)
  clear HRF
  go_upto_region 3 with (first
    | (refine wpList_load_mid rfl 48 _ rfl g 0 rfl ((List.range 15).map (cutF f 0)) _ (h1.range (by omega)) Tryz.underlying48 rfl (by kernel_rfl) ?_)
    | (refine wpList_load_row rfl 33 _ rfl (g + 1) rfl 33 (rowOf 7 q') (0, 0) _ h2 Tryz.underlying33 rfl (by kernel_rfl) ?_)
    | (go_at_call 53; refine HRW.out.mono ?_; rintro e w3 ⟨rfl, hb⟩; have HT3 := Lib.hid (HT2.out.keep hb); clear hb))
  clear h1 h2 HRW HT2
  have h2 := HT3.out.cl
  have h3 := HT3.out.an
  go_upto_region 7 with (first
    | (refine wpList_load_row rfl 33 _ rfl (g + 1) rfl 33 (rowOf 7 q') (0, 0) _ h2 Tryz.underlying33 rfl (by kernel_rfl) ?_)
    | (refine wpList_load_row rfl 36 _ rfl (g + 1 + 1) rfl 36 (rowOf 6 (ansF a)) (0, 0) _ h3 Tryz.underlying36 rfl (by kernel_rfl) ?_)
    | (go_at_call 55; refine (HFT.out _).mono ?_; rintro e w4 ⟨rfl, hb⟩; have HT4 := Lib.hid (HT3.out.keep hb); clear hb))
  clear h2 h3 HT3
  have h1 := HT4.out.st
  have e0 : w4.cell? ⟨g + 1 + 1, 0, none⟩ = some (.int .i64 a.e) := HT4.out.an.cell (i := 0) (by omega)
  go_upto_region 8 with (first
    | (refine wpList_load_mid rfl 48 _ rfl g 0 rfl ((List.range 15).map (cutF f 0)) _ (h1.range (by omega)) Tryz.underlying48 rfl (by kernel_rfl) ?_)
    | (go_at_call 56; refine (HLV.out _).mono ?_; rintro e w5 ⟨rfl, hb⟩; have HT5 := Lib.hid (HT4.out.keep hb); clear hb))
  clear h1 e0 HT4
  have HTE := HT5
  clear HT5
  have h1 := HTE.out.st
  obtain ⟨ZE, h4⟩ := HTE.out.rs
  go_wp2_with (first
    | (refine wpList_load_row rfl 74 _ rfl g rfl 74 (rowOf 63 f) (0, 0) _ h1 Tryz.underlying74 rfl (by kernel_rfl) ?_)
    | (refine wpList_store_row rfl 74 _ _ rfl (g + 1 + 1 + 1) (rowOf 63 f) rfl rfl 74 (rowOf 63 ZE) h4 (by kernel_rfl) rfl (rowOf_all HF1.out) ?_))
  refine bodyPost_ret (results_cell_tmp (p := 8) (u := 9) (ty := 74) (by kernel_rfl) _ _ (g + 1 + 1 + 1) 74 (rowOf 63 f) (0, 0) _ rfl (h4.setRow_ _) Tryz.underlying74 rfl (by kernel_rfl)) rfl ?_
  exact ⟨rfl, by rw [HG.out]; exact below_setRow_ HTE.out.bel (by omega) _⟩
set_option maxRecDepth 100000 in
set_option maxHeartbeats 2000000 in
theorem told_done0 (f q q' : Nat → Value) (t : Int) (a m : Ans) (w : World) (P : (Nat → Value) → World → Prop) (hP : ∀ F w1 w2, Below w1.heap.size w1 w2 → P F w1 → P F w2) (hPQ : ∀ F w1 n cs, w.heap.size ≤ n → n < w.heap.size + 4 → P F w1 → P F (w1.setRow n cs))
    (hf1 : ∀ i, i < 63 → (f i).oneCell' = true) (hq1 : (rowOf 7 q').all (·.oneCell') = true)
    (hba : ∀ W, Calls Tryz.prog 52 #[.agg (rowOf 7 q)] W fun e w' => e = .returned (.agg (rowOf 7 q')) ∧ Below W.heap.size W w')
    (href : ∀ W, Below w.heap.size w W → Calls Tryz.prog 53 #[.agg (rowOf 15 (cutF f 0)), .int .i64 t, .agg (rowOf 7 q')] W fun e w' => e = .returned (.int .i64 0) ∧ Below W.heap.size W w')
    (hfit : ∀ W, Calls Tryz.prog 55 #[.agg (rowOf 7 q'), .agg (rowOf 6 (ansF a))] W fun e w' => e = .returned (.bool true) ∧ Below W.heap.size W w')
    (hlv : ∀ W, Calls Tryz.prog 56 #[.agg (rowOf 15 (cutF f 0)), .int .i64 t, .int .i64 a.e] W fun e w' => e = .returned (.bool false) ∧ Below W.heap.size W w')
    (ha : a.h = 0)
    (hdn : ∀ W, Below w.heap.size w W → w.heap.size + 4 ≤ W.heap.size → Calls Tryz.prog 58 #[.agg (rowOf 63 f), .int .i64 t, .agg (rowOf 7 q'), .agg (rowOf 6 (ansF a))] W fun e w' => ∃ F, e = .returned (.tuple #[.agg (rowOf 63 F), .agg (rowOf 6 (ansF m))]) ∧ (∀ i, i < 63 → (F i).oneCell' = true) ∧ P F w' ∧ Below W.heap.size W w') :
    Calls Tryz.prog 40 #[.agg (rowOf 63 f), .int .i64 t, .agg (rowOf 7 q), .agg (rowOf 6 (ansF a))] w fun e w' => ∃ F, e = .returned (.tuple #[.agg (rowOf 63 (bif sameA a m then F else f)), .bool (sameA a m)]) ∧ P F w' ∧ Below w.heap.size w w' := by
  have HBA := Lib.hid hba; have HRF := Lib.hid href; have HFT := Lib.hid hfit; have HF1 := Lib.hid hf1; have HQ1 := Lib.hid hq1
  have HLV := Lib.hid hlv; have HDN := Lib.hid hdn; have HNA := Lib.hid ha; have HPP := Lib.hid hP; have HPQ := Lib.hid hPQ
  clear hba href hfit hf1 hq1 hlv hdn ha hP hPQ
  go_enter Tryz.func40, Tryz.ntmps40
  go_upto_region 1 with fail
  generalize hW : World.alloc (World.alloc (World.alloc (World.alloc _ _) _) _) _ = W
  have hT : TR w.heap.size f q a w W := by
    subst hW
    have h2 := Row.new (w.alloc (.cells (rowOf 63 f) 74)) (rowOf 7 q) 33 q 7 rfl
    have h3 := Row.new ((w.alloc (.cells (rowOf 63 f) 74)).alloc (.cells (rowOf 7 q) 33)) (rowOf 6 (ansF a)) 36 (ansF a) 6 rfl
    simp only [World.size_alloc] at h2 h3
    refine ⟨(((Row.new w _ _ _ _ rfl).alloc _).alloc _).alloc _, (h2.alloc _).alloc _, h3.alloc _, ?_, ?_⟩
    · exact row_zero _ _ _ _ (by rfl) (by simp)
    · exact (((((Below.refl _ w).alloc (Nat.le_refl _) _).alloc (by simp) _).alloc (by simp; omega) _).alloc (by simp; omega) _)
  clear hW
  generalize hg : w.heap.size = g at *
  have HG := Lib.hid hg; clear hg
  have HT := Lib.hid hT
  obtain ⟨h1, h2, h3, ⟨Z0, h4⟩, h5⟩ := hT
  clear h1 h3 h4 h5
  go_upto_region 2 with (first
    | (refine wpList_load_row rfl 33 _ rfl (g + 1) rfl 33 (rowOf 7 q) (0, 0) _ h2 Tryz.underlying33 rfl (by kernel_rfl) ?_)
    | (go_at_call 52; refine (HBA.out _).mono ?_; rintro e w1 ⟨rfl, hb⟩; have HT1 := Lib.hid (HT.out.keep hb); have h2 := HT1.out.cl; clear hb)
    | (refine wpList_store_row rfl 33 _ _ rfl (g + 1) (rowOf 7 q') rfl rfl 33 (rowOf 7 q) h2 (by kernel_rfl) rfl HQ1.out ?_))
  have HT2 := Lib.hid (HT1.out.call q')
  clear h2 HT1 HT
  have h1 := HT2.out.st
  have h2 := HT2.out.cl
  generalize World.setRow _ _ _ = W2 at *
  have HRW := Lib.hid (HRF.out W2 HT2.out.bel)
  clear HRF
  go_upto_region 3 with (first
    | (refine wpList_load_mid rfl 48 _ rfl g 0 rfl ((List.range 15).map (cutF f 0)) _ (h1.range (by omega)) Tryz.underlying48 rfl (by kernel_rfl) ?_)
    | (refine wpList_load_row rfl 33 _ rfl (g + 1) rfl 33 (rowOf 7 q') (0, 0) _ h2 Tryz.underlying33 rfl (by kernel_rfl) ?_)
    | (go_at_call 53; refine HRW.out.mono ?_; rintro e w3 ⟨rfl, hb⟩; have HT3 := Lib.hid (HT2.out.keep hb); clear hb))
  clear h1 h2 HRW HT2
  have h2 := HT3.out.cl
  have h3 := HT3.out.an
  go_upto_region 7 with (first
    | (refine wpList_load_row rfl 33 _ rfl (g + 1) rfl 33 (rowOf 7 q') (0, 0) _ h2 Tryz.underlying33 rfl (by kernel_rfl) ?_)
    | (refine wpList_load_row rfl 36 _ rfl (g + 1 + 1) rfl 36 (rowOf 6 (ansF a)) (0, 0) _ h3 Tryz.underlying36 rfl (by kernel_rfl) ?_)
    | (go_at_call 55; refine (HFT.out _).mono ?_; rintro e w4 ⟨rfl, hb⟩; have HT4 := Lib.hid (HT3.out.keep hb); clear hb))
  clear h2 h3 HT3
  have h1 := HT4.out.st
  have e0 : w4.cell? ⟨g + 1 + 1, 0, none⟩ = some (.int .i64 a.e) := HT4.out.an.cell (i := 0) (by omega)
  go_upto_region 9 with (first
    | (refine wpList_load_mid rfl 48 _ rfl g 0 rfl ((List.range 15).map (cutF f 0)) _ (h1.range (by omega)) Tryz.underlying48 rfl (by kernel_rfl) ?_)
    | (go_at_call 56; refine (HLV.out _).mono ?_; rintro e w5 ⟨rfl, hb⟩; have HT5 := Lib.hid (HT4.out.keep hb); clear hb))
  clear h1 e0 HT4
  have e0 : w5.cell? ⟨g + 1 + 1, 3, none⟩ = some (.int .u64 a.h) := HT5.out.an.cell (i := 3) (by omega)
  have hh := HNA.out
  rw [hh] at e0
  go_upto_region 11 with fail
  clear e0 hh
  have h1 := HT5.out.st
  have h2 := HT5.out.cl
  have h3 := HT5.out.an
  have HDW := Lib.hid (HDN.out w5 HT5.out.bel (HT5.out.rs.elim fun Z hz => by have := hz.lt; omega))
  clear HDN
  go_upto_region 12 with (first
    | (refine wpList_load_row rfl 74 _ rfl g rfl 74 (rowOf 63 f) (0, 0) _ h1 Tryz.underlying74 rfl (by kernel_rfl) ?_)
    | (refine wpList_load_row rfl 33 _ rfl (g + 1) rfl 33 (rowOf 7 q') (0, 0) _ h2 Tryz.underlying33 rfl (by kernel_rfl) ?_)
    | (refine wpList_load_row rfl 36 _ rfl (g + 1 + 1) rfl 36 (rowOf 6 (ansF a)) (0, 0) _ h3 Tryz.underlying36 rfl (by kernel_rfl) ?_)
    | (go_at_call 58; refine HDW.out.mono ?_; rintro e w6 ⟨F, rfl, hF1, hFP, hb⟩; have HT6 := Lib.hid (HT5.out.keep hb); have HFF := Lib.hid (And.intro hF1 hFP); clear hb hF1 hFP)
    | (refine wpList_store_row rfl 74 _ _ rfl w6.heap.size (rowOf 63 F) rfl rfl 74 _ (heap_alloc_fst w6 _ _) (by kernel_rfl) rfl (rowOf_all HFF.out.1) ?_; generalize hX : World.setRow _ _ _ = X; obtain ⟨x1, x2, x3⟩ := two_then X hX; clear hX)
    | (refine wpList_store_row rfl 36 _ _ rfl (w6.heap.size + 1) (rowOf 6 (ansF m)) rfl rfl 36 _ x3 (by kernel_rfl) rfl (ansF_one m) ?_; generalize hY : World.setRow _ _ _ = Y))
  have hFr : Row Y w6.heap.size 74 63 F := by rw [← hY]; exact x2.setRow_far (by omega) _
  have hMr : Row Y (w6.heap.size + 1) 36 6 (ansF m) := by rw [← hY]; exact setRow_heap _ _ _ _ _ _ x3
  have hbY : Below w6.heap.size w6 Y := by rw [← hY]; exact below_setRow_ x1 (by omega) _
  have HTY := Lib.hid (HT6.out.keep hbY)
  have HFY := Lib.hid (And.intro hFr hMr)
  have HPY := Lib.hid (HPP.out F w6 Y hbY HFF.out.2)
  clear hFr hMr hbY hY x1 x2 x3 h1 h2 h3 HT5 HT6
  have h3 := HTY.out.an
  have h4 := HFY.out.2
  have HSM := Lib.hid (fun W => kSame_any a m W)
  generalize hsm : sameA a m = sm at *
  have HF1F := Lib.hid HFF.out.1
  clear HFF
  cases sm
  · go_upto_region 13 with (first
      | (refine wpList_load_row rfl 36 _ rfl (g + 1 + 1) rfl 36 (rowOf 6 (ansF a)) (0, 0) _ h3 Tryz.underlying36 rfl (by kernel_rfl) ?_)
      | (refine wpList_load_row rfl 36 _ rfl (w6.heap.size + 1) rfl 36 (rowOf 6 (ansF m)) (0, 0) _ h4 Tryz.underlying36 rfl (by kernel_rfl) ?_)
      | (go_at_call 54; refine (HSM.out _).mono ?_; rintro e w7 ⟨rfl, hb⟩; have HT7 := Lib.hid (HTY.out.keep hb); have HF7 := Lib.hid (HFY.out.1.keep hb); have HP7 := Lib.hid (HPP.out F _ _ hb HPY.out); clear hb))
    clear h3 h4 HTY HFY HPY HSM HDW HF7 HLV HFT HBA
    have h1 := HT7.out.st
    obtain ⟨ZE, h4⟩ := HT7.out.rs
    go_wp2_with (first
      | (refine wpList_load_row rfl 74 _ rfl g rfl 74 (rowOf 63 f) (0, 0) _ h1 Tryz.underlying74 rfl (by kernel_rfl) ?_)
      | (refine wpList_store_row rfl 74 _ _ rfl (g + 1 + 1 + 1) (rowOf 63 f) rfl rfl 74 (rowOf 63 ZE) h4 (by kernel_rfl) rfl (rowOf_all HF1.out) ?_))
    refine bodyPost_ret (results_cell_tmp (p := 8) (u := 9) (ty := 74) (by kernel_rfl) _ _ (g + 1 + 1 + 1) 74 (rowOf 63 f) (0, 0) _ rfl (h4.setRow_ _) Tryz.underlying74 rfl (by kernel_rfl)) rfl ?_
    exact ⟨F, by rw [hsm]; rfl, HPQ.out F _ (g + 1 + 1 + 1) _ (by omega) (by omega) HP7.out, by rw [HG.out]; exact below_setRow_ HT7.out.bel (by omega) _⟩
  · go_upto_region 14 with (first
      | (refine wpList_load_row rfl 36 _ rfl (g + 1 + 1) rfl 36 (rowOf 6 (ansF a)) (0, 0) _ h3 Tryz.underlying36 rfl (by kernel_rfl) ?_)
      | (refine wpList_load_row rfl 36 _ rfl (w6.heap.size + 1) rfl 36 (rowOf 6 (ansF m)) (0, 0) _ h4 Tryz.underlying36 rfl (by kernel_rfl) ?_)
      | (go_at_call 54; refine (HSM.out _).mono ?_; rintro e w7 ⟨rfl, hb⟩; have HT7 := Lib.hid (HTY.out.keep hb); have HF7 := Lib.hid (HFY.out.1.keep hb); have HP7 := Lib.hid (HPP.out F _ _ hb HPY.out); clear hb))
    clear h3 h4 HTY HFY HPY HSM HDW HLV HFT HBA
    have h1 := HF7.out
    obtain ⟨ZE, h4⟩ := HT7.out.rs
    go_wp2_with (first
      | (refine wpList_load_row rfl 74 _ rfl w6.heap.size rfl 74 (rowOf 63 F) (0, 0) _ h1 Tryz.underlying74 rfl (by kernel_rfl) ?_)
      | (refine wpList_store_row rfl 74 _ _ rfl (g + 1 + 1 + 1) (rowOf 63 F) rfl rfl 74 (rowOf 63 ZE) h4 (by kernel_rfl) rfl (rowOf_all HF1F.out) ?_))
    refine bodyPost_ret (results_cell_tmp (p := 8) (u := 9) (ty := 74) (by kernel_rfl) _ _ (g + 1 + 1 + 1) 74 (rowOf 63 F) (0, 0) _ rfl (h4.setRow_ _) Tryz.underlying74 rfl (by kernel_rfl)) rfl ?_
    exact ⟨F, by rw [hsm]; rfl, HPQ.out F _ (g + 1 + 1 + 1) _ (by omega) (by omega) HP7.out, by rw [HG.out]; exact below_setRow_ HT7.out.bel (by omega) _⟩
end Go.Proofs.YtiafjbhekfpkbaaGreatDoor
namespace Go.Proofs.YtiafjbhekfpkbaaGreatDoor
set_option linter.unusedSimpArgs false
set_option linter.unusedVariables false
open Go.ChangeShapes Go.WideShapes Go.ChangeAt Go.RowKit

/-- A row: a key, two words. -/
structure Rw where
  k : Int
  a : Nat
  b : Nat
deriving DecidableEq, Inhabited
def rwC (x : Rw) : List Value := [.int .i64 x.k, .int .u64 (x.a : Nat), .int .u64 (x.b : Nat)]
/-- The cells of a list, row by row. -/
def flat : List Rw → List Value
  | [] => []
  | x :: l => .int .i64 x.k :: .int .u64 (x.a : Nat) :: .int .u64 (x.b : Nat) :: flat l
/-- The i-th row. -/
def nth (L : List Rw) (i : Nat) : Rw := L.getD i ⟨0, 0, 0⟩

theorem nth_get {L : List Rw} {i : Nat} (h : i < L.length) : L[i]? = some (nth L i) := by simp [nth, List.getD, h]
theorem nth_cons_zero (x : Rw) (l : List Rw) : nth (x :: l) 0 = x := rfl
theorem nth_cons_succ (x : Rw) (l : List Rw) (i : Nat) : nth (x :: l) (i + 1) = nth l i := rfl
theorem nth_ext {L M : List Rw} (hl : L.length = M.length) (h : ∀ i, i < L.length → nth L i = nth M i) : L = M := by
  apply List.ext_getElem? ; intro i
  by_cases hi : i < L.length
  · rw [nth_get hi, nth_get (by omega), h i hi]
  · rw [List.getElem?_eq_none (by omega), List.getElem?_eq_none (by omega)]
theorem nth_append_left {L M : List Rw} {i : Nat} (h : i < L.length) : nth (L ++ M) i = nth L i := by simp [nth, List.getD, List.getElem?_append_left h]
theorem nth_append_right {L M : List Rw} {i : Nat} (h : L.length ≤ i) : nth (L ++ M) i = nth M (i - L.length) := by simp [nth, List.getD, List.getElem?_append_right h]
theorem nth_take {L : List Rw} {n i : Nat} (h : i < n) : nth (L.take n) i = nth L i := by simp [nth, List.getD, h]
theorem nth_drop (L : List Rw) (n i : Nat) : nth (L.drop n) i = nth L (n + i) := by simp [nth, List.getD]

theorem flat_length : ∀ L : List Rw, (flat L).length = L.length * 3
  | [] => rfl
  | x :: l => by simp only [flat, List.length_cons, flat_length l]; omega
theorem flat_append : ∀ L M : List Rw, flat (L ++ M) = flat L ++ flat M
  | [], _ => rfl
  | x :: l, M => by simp only [List.cons_append, flat, flat_append l M]
theorem flat_take : ∀ (L : List Rw) (i : Nat), flat (L.take i) = (flat L).take (i * 3)
  | [], i => by simp [flat]
  | x :: l, 0 => by simp [flat]
  | x :: l, i + 1 => by rw [show (i + 1) * 3 = i * 3 + 1 + 1 + 1 by omega]; simp only [List.take_succ_cons, flat, flat_take l i]
theorem flat_drop : ∀ (L : List Rw) (i : Nat), flat (L.drop i) = (flat L).drop (i * 3)
  | [], i => by simp [flat]
  | x :: l, 0 => by simp [flat]
  | x :: l, i + 1 => by rw [show (i + 1) * 3 = i * 3 + 1 + 1 + 1 by omega]; simp only [List.drop_succ_cons, flat, flat_drop l i]
theorem flat_one : ∀ L : List Rw, ∀ u ∈ flat L, u.oneCell' = true
  | [], _, h => by simp [flat] at h
  | x :: l, u, h => by
    simp only [flat, List.mem_cons] at h
    rcases h with rfl | rfl | rfl | h
    · rfl
    · rfl
    · rfl
    · exact flat_one l u h
theorem flat_get : ∀ (L : List Rw) (i : Nat), i < L.length → (flat L)[i * 3]? = some (.int .i64 (nth L i).k) ∧ (flat L)[i * 3 + 1]? = some (.int .u64 ((nth L i).a : Nat)) ∧ (flat L)[i * 3 + 2]? = some (.int .u64 ((nth L i).b : Nat))
  | x :: l, 0, _ => ⟨rfl, rfl, rfl⟩
  | x :: l, i + 1, h => by
    have ih := flat_get l i (by simpa using h)
    rw [nth_cons_succ, show (i + 1) * 3 = i * 3 + 1 + 1 + 1 by omega]
    exact ih

/-- A list lies in memory, at a slice's address. -/
def Lies (w : World) (A : Option Addr) (L : List Rw) : Prop :=
  L = [] ∨ ∃ b off, A = some ⟨b, off, none⟩ ∧ b < w.heap.size ∧ ∀ j v, (flat L)[j]? = some v → w.cell? ⟨b, off + j, none⟩ = some v
section
variable {w w' : World} {A : Option Addr} {L : List Rw}
theorem Lies.nil_ (w : World) (A : Option Addr) : Lies w A [] := .inl rfl
theorem Lies.keep (h : Lies w A L) (hb : Below w.heap.size w w') : Lies w' A L := by
  rcases h with h | ⟨b, off, rfl, hlt, hc⟩
  · exact .inl h
  · exact .inr ⟨b, off, rfl, Nat.lt_of_lt_of_le hlt hb.size, fun j v hj => by rw [hb.cell (p := ⟨b, off + j, none⟩) hlt]; exact hc j v hj⟩
theorem Lies.drew (h : Lies w A L) : Lies w.drew A L := h.keep (Below.refl _ _).drew
theorem Lies.alloc (h : Lies w A L) (o : Obj) : Lies (w.alloc o) A L := h.keep ((Below.refl _ _).alloc (Nat.le_refl _) _)
/-- Where it lies, if it holds a row. -/
theorem Lies.some_ (h : Lies w A L) (hn : 0 < L.length) : ∃ b off, A = some ⟨b, off, none⟩ ∧ b < w.heap.size ∧ ∀ j v, (flat L)[j]? = some v → w.cell? ⟨b, off + j, none⟩ = some v := by
  rcases h with rfl | h
  · simp at hn
  · exact h
theorem Lies.at_ (h : Lies w A L) (hn : 0 < L.length) : ∃ b off, A = some ⟨b, off, none⟩ ∧ b < w.heap.size ∧ ∀ i, i < L.length → w.cell? ⟨b, off + i * 3, none⟩ = some (.int .i64 (nth L i).k) ∧ w.cell? ⟨b, off + i * 3 + 1, none⟩ = some (.int .u64 ((nth L i).a : Nat)) ∧ w.cell? ⟨b, off + i * 3 + 2, none⟩ = some (.int .u64 ((nth L i).b : Nat)) := by
  obtain ⟨b, off, rfl, hlt, hc⟩ := h.some_ hn
  refine ⟨b, off, rfl, hlt, fun i hi => ?_⟩
  obtain ⟨h0, h1, h2⟩ := flat_get L i hi
  exact ⟨hc _ _ h0, by rw [Nat.add_assoc]; exact hc _ _ h1, by rw [Nat.add_assoc]; exact hc _ _ h2⟩
theorem Lies.src (h : Lies w A L) (i m : Nat) (hi : i + m ≤ L.length) (hm : 0 < m) : ∃ b off, A = some ⟨b, off, none⟩ ∧ b < w.heap.size ∧ ∀ j v, (flat ((L.drop i).take m))[j]? = some v → w.cell? ⟨b, off + i * 3 + j, none⟩ = some v := by
  obtain ⟨b, off, rfl, hlt, hc⟩ := h.some_ (by omega)
  refine ⟨b, off, rfl, hlt, fun j v hj => ?_⟩
  rw [flat_take, flat_drop] at hj
  have hj' : ((flat L).drop (i * 3))[j]? = some v := by
    rw [List.getElem?_take] at hj
    split at hj
    · exact hj
    · cases hj
  rw [List.getElem?_drop] at hj'
  rw [Nat.add_assoc]
  exact hc _ _ hj'
theorem lies_of_own {base n : Nat} {v : Value} {e : TypeId} (h : w.ownsRow base e 3 v n (flat L)) : ∃ A c, v = .slice A n c ∧ n ≤ c ∧ c ≤ maxLen ∧ Lies w A L := by
  have hn : n = L.length := by have := h.1; rw [flat_length] at this; omega
  subst hn
  rcases h.2 with ⟨rfl, h0⟩ | ⟨g, cap, cur, rfl, hb, hg, hle, hm, hs, ht⟩
  · refine ⟨none, 0, by rw [h0], by omega, by simp [maxLen], .inl (List.length_eq_zero_iff.1 h0)⟩
  · refine ⟨some ⟨g, 0, none⟩, cap, rfl, hle, hm, .inr ⟨g, 0, rfl, ?_, fun j u hj => ?_⟩⟩
    · rcases Nat.lt_or_ge g w.heap.size with hlt | hge
      · exact hlt
      · rw [Array.getElem?_eq_none hge] at hg; cases hg
    · rw [Nat.zero_add, cell_of_row w g j cur e (0, 0) hg]
      rw [← ht, List.getElem?_take] at hj
      split at hj
      · simpa using hj
      · cases hj
end

/-! ### What is done with lists -/
/-- The place of the first row whose key is not less. -/
def findN : List Rw → Int → Nat
  | [], _ => 0
  | x :: l, key => if key ≤ x.k then 0 else findN l key + 1
def isAt (L : List Rw) (key : Int) : Bool := decide (findN L key < L.length) && decide ((nth L (findN L key)).k = key)
def putL (L : List Rw) (x : Rw) : List Rw := bif isAt L x.k then L else L.take (findN L x.k) ++ x :: L.drop (findN L x.k)
def dropL (L : List Rw) (key : Int) : List Rw := bif isAt L key then L.take (findN L key) ++ L.drop (findN L key + 1) else L
def dropX (L : List Rw) (key : Int) : Rw := bif isAt L key then nth L (findN L key) else ⟨0, 0, 0⟩
def risesB : List Rw → Bool
  | [] => true
  | [_] => true
  | x :: y :: l => decide (x.k < y.k) && risesB (y :: l)

theorem findN_le : ∀ (L : List Rw) (key : Int), findN L key ≤ L.length
  | [], _ => Nat.le_refl _
  | x :: l, key => by
    unfold findN
    split
    · omega
    · have := findN_le l key; simp only [List.length_cons]; omega
theorem findN_lt : ∀ (L : List Rw) (key : Int) (i : Nat), i < findN L key → (nth L i).k < key
  | [], _, i, h => by simp [findN] at h
  | x :: l, key, i, h => by
    unfold findN at h
    split at h
    · omega
    · match i with
      | 0 => rw [nth_cons_zero]; omega
      | i + 1 => rw [nth_cons_succ]; exact findN_lt l key i (by omega)
theorem findN_at : ∀ (L : List Rw) (key : Int), findN L key < L.length → key ≤ (nth L (findN L key)).k
  | [], _, h => by simp [findN] at h
  | x :: l, key, h => by
    unfold findN at h ⊢
    split at h
    · rename_i hk; rw [if_pos hk]; exact hk
    · rename_i hk; rw [if_neg hk, nth_cons_succ]; exact findN_at l key (by simp only [List.length_cons] at h; omega)
theorem findN_eq {L : List Rw} {key : Int} {k : Nat} (hk : k ≤ L.length) (h1 : ∀ i, i < k → (nth L i).k < key) (h2 : k < L.length → key ≤ (nth L k).k) : findN L key = k := by
  rcases Nat.lt_trichotomy (findN L key) k with h | h | h
  · have := findN_at L key (by omega); have := h1 _ h; omega
  · exact h
  · have := findN_lt L key k h; have := h2 (by have := findN_le L key; omega); omega

theorem isAt_lt {L : List Rw} {key : Int} (h : isAt L key = true) : findN L key < L.length ∧ (nth L (findN L key)).k = key := by
  unfold isAt at h
  simpa using h

/-! ### The rows that are told -/
/-- Of the first k rows those whose key is not less, with their places. -/
def hits (L : List Rw) (key : Int) : Nat → List (Nat × Rw)
  | 0 => []
  | k + 1 => bif decide (key ≤ (nth L k).k) then hits L key k ++ [(k, nth L k)] else hits L key k
theorem hits_yes {L : List Rw} {key : Int} {k : Nat} (h : key ≤ (nth L k).k) : hits L key (k + 1) = hits L key k ++ [(k, nth L k)] := by simp [hits, h]
theorem hits_no {L : List Rw} {key : Int} {k : Nat} (h : ¬ key ≤ (nth L k).k) : hits L key (k + 1) = hits L key k := by simp [hits, h]
theorem hits_length (L : List Rw) (key : Int) : ∀ k, (hits L key k).length ≤ k
  | 0 => Nat.le_refl _
  | k + 1 => by
    have := hits_length L key k
    by_cases h : key ≤ (nth L k).k
    · rw [hits_yes h]; simp only [List.length_append, List.length_cons, List.length_nil]; omega
    · rw [hits_no h]; omega
theorem hits_nil {L : List Rw} {key : Int} : ∀ {k : Nat}, hits L key k = [] → ∀ i, i < k → (nth L i).k < key
  | 0, _, i, hi => by omega
  | k + 1, h, i, hi => by
    by_cases hk : key ≤ (nth L k).k
    · rw [hits_yes hk] at h; simp at h
    · rw [hits_no hk] at h
      rcases Nat.lt_or_ge i k with h' | h'
      · exact hits_nil h i h'
      · obtain rfl : i = k := by omega
        omega
theorem hits_one {L : List Rw} {key : Int} {x : Nat × Rw} : ∀ {k : Nat}, k ≤ L.length → hits L key k = [x] → findN L key < k ∧ x = (findN L key, nth L (findN L key))
  | 0, _, h => by simp [hits] at h
  | k + 1, hl, h => by
    by_cases hk : key ≤ (nth L k).k
    · rw [hits_yes hk] at h
      have h0 : hits L key k = [] := by
        match hh : hits L key k with
        | [] => rfl
        | y :: t => rw [hh] at h; simp at h
      rw [h0] at h
      have hf : findN L key = k := findN_eq (by omega) (hits_nil h0) (fun _ => hk)
      rw [hf]
      exact ⟨by omega, by simpa using h.symm⟩
    · rw [hits_no hk] at h
      have := hits_one (by omega) h
      exact ⟨by omega, this.2⟩
/-- The rows alone. -/
def fromL (L : List Rw) (key : Int) : List Rw := L.filter fun x => decide (key ≤ x.k)
theorem hits_rows {L : List Rw} {key : Int} : ∀ {k : Nat}, k ≤ L.length → (hits L key k).map (·.2) = fromL (L.take k) key
  | 0, _ => by simp [hits, fromL]
  | k + 1, h => by
    have ih := hits_rows (L := L) (key := key) (k := k) (by omega)
    have ht : L.take (k + 1) = L.take k ++ [nth L k] := by rw [List.take_add_one, nth_get (by omega)]; rfl
    by_cases hk : key ≤ (nth L k).k
    · rw [hits_yes hk, ht]
      simp only [List.map_append, ih, fromL, List.filter_append]
      simp [hk]
    · rw [hits_no hk, ht]
      simp only [ih, fromL, List.filter_append]
      simp [hk]

/-! ### '==' on rows -/
section
variable (w : World)
theorem eqFields_rw (k₁ k₂ : Int) (a₁ a₂ b₁ b₂ : Int) : (Op.equalIn 10000 58 (.agg #[.int .i64 k₁, .int .u64 a₁, .int .u64 b₁]) (.agg #[.int .i64 k₂, .int .u64 a₂, .int .u64 b₂])).run Tryz.prog w = .ok (k₁ == k₂ && (a₁ == a₂ && b₁ == b₂)) w := by
  have hL : ∀ d (y z : Int), (Op.equalIn (d + 1) 2 (.int .i64 y) (.int .i64 z)).run Tryz.prog w = .ok (y == z) w := fun d y z => run_equalIn_int w d _ .i64 .i64 y z Tryz.underlying2
  have hU : ∀ d (y z : Int), (Op.equalIn (d + 1) 29 (.int .u64 y) (.int .u64 z)).run Tryz.prog w = .ok (y == z) w := fun d y z => run_equalIn_int w d _ .u64 .u64 y z Tryz.underlying29
  have hht : Tryz.prog.underlying 58 = some (.struct (Tryz.prog.fieldsOf 58)) := by simp only [Program.fieldsOf, Tryz.underlying58]
  have hhp : Tryz.prog.underlying 31 = some (.struct (Tryz.prog.fieldsOf 31)) := by simp only [Program.fieldsOf, Tryz.underlying31]
  have hP : ∀ (p q r s : Int), (Op.equalIn 9999 31 (.agg #[.int .u64 p, .int .u64 q]) (.agg #[.int .u64 r, .int .u64 s])).run Tryz.prog w = .ok (p == r && q == s) w := by
    intro p q r s
    have p0 : ∀ (p q : Int), (part 29 #[.int .u64 p, .int .u64 q] 0).run Tryz.prog w = .ok (.int .u64 p) w := fun p q => by simp [part, isAgg, run_underlying Tryz.underlying29]
    have p1 : ∀ (p q : Int), (part 29 #[.int .u64 p, .int .u64 q] 1).run Tryz.prog w = .ok (.int .u64 q) w := fun p q => by simp [part, isAgg, run_underlying Tryz.underlying29]
    rw [run_equalIn_agg w 9998 _ _ _ hhp (by kernel_rfl)]
    simp only [Program.fieldsOf, Tryz.underlying31, Op.eqFields, Sem.run_ite, Sem.run_bind, p0, p1, Result.andThen_ok, hU]
    cases (p == r) <;> cases (q == s) <;> simp
  have p0 : ∀ k a b : Int, (part 2 #[.int .i64 k, .int .u64 a, .int .u64 b] 0).run Tryz.prog w = .ok (.int .i64 k) w := fun k a b => by simp [part, isAgg, run_underlying Tryz.underlying2]
  have p1 : ∀ k a b : Int, (part 31 #[.int .i64 k, .int .u64 a, .int .u64 b] 1).run Tryz.prog w = .ok (.agg #[.int .u64 a, .int .u64 b]) w := fun k a b => by kernel_rfl
  rw [run_equalIn_agg w 9999 _ _ _ hht (by kernel_rfl)]
  simp only [Program.fieldsOf, Tryz.underlying58, Op.eqFields, Sem.run_ite, Sem.run_bind, p0, p1, Result.andThen_ok, hL, hP]
  cases (k₁ == k₂) <;> cases (a₁ == a₂) <;> cases (b₁ == b₂) <;> simp
theorem eqB_rw (x y : Rw) : ((x.k == y.k) && (((x.a : Int) == (y.a : Int)) && ((x.b : Int) == (y.b : Int)))) = decide (x = y) := by
  rcases x with ⟨k, a, b⟩
  rcases y with ⟨k', a', b'⟩
  simp only [Rw.mk.injEq, Bool.decide_and]
  congr 1
  congr 1
  · show decide ((a : Int) = (a' : Int)) = decide (a = a')
    exact decide_eq_decide.2 (by omega)
  · show decide ((b : Int) = (b' : Int)) = decide (b = b')
    exact decide_eq_decide.2 (by omega)
theorem eql_rw (x y : Rw) : (binOp .eql 58 (.agg #[.int .i64 x.k, .int .u64 (x.a : Nat), .int .u64 (x.b : Nat)]) (.agg #[.int .i64 y.k, .int .u64 (y.a : Nat), .int .u64 (y.b : Nat)])).run Tryz.prog w = .ok (.bool (decide (x = y))) w := by
  rw [run_eql_struct, eqFields_rw, eqB_rw]; rfl
theorem neq_rw (x y : Rw) : (binOp .neq 58 (.agg #[.int .i64 x.k, .int .u64 (x.a : Nat), .int .u64 (x.b : Nat)]) (.agg #[.int .i64 y.k, .int .u64 (y.a : Nat), .int .u64 (y.b : Nat)])).run Tryz.prog w = .ok (.bool (!decide (x = y))) w := by
  rw [run_neq_struct, eqFields_rw, eqB_rw]; rfl
theorem infoR : ∃ i0, Tryz.prog.info? 58 = some i0 ∧ i0.zero = some (.agg #[.int .i64 0, .int .u64 0, .int .u64 0]) ∧ i0.size = 3 ∧ i0.bytes = 24 := by
  have h : (Tryz.prog.info? 58).map (fun i => (i.zero, i.size, i.bytes)) = some (some (.agg #[.int .i64 0, .int .u64 0, .int .u64 0]), 3, 24) := by kernel_rfl
  exact info_parts h
end
end Go.Proofs.YtiafjbhekfpkbaaGreatDoor
namespace Go.Proofs.YtiafjbhekfpkbaaGreatDoor
set_option linter.unusedSimpArgs false
set_option linter.unusedVariables false
open Go.ChangeShapes Go.WideShapes Go.ChangeAt Go.RowKit

theorem rClone_nil (n c : Nat) (w : World) : Calls Tryz.prog 114 #[.slice none n c] w fun e w' => e = .returned (.slice none 0 0) ∧ w = w' := by
  have q : ∀ (w : World) (a : Option Addr) (n c n' c' : Nat), (binOp .eql 49 (.slice a n c) (.slice none n' c')).run Tryz.prog w = .ok (.bool a.isNone) w := fun w a n c n' c' => Lib.run_eql_slice_nil w _ _ a n c n' c' Tryz.underlying49
  go_enter Tryz.func114, Tryz.ntmps114
  go_wp2_with fail
  go_ret
  exact ⟨rfl, rfl⟩

theorem lies_news {w : World} {a : Addr} {L : List Rw} (h : Lies w (some a) L) : ∀ j u, (flat L)[j]? = some u → w.cell? (a.add j) = some u := by
  intro j u hj
  rcases h with rfl | ⟨b, off, e, _, hc⟩
  · simp [flat] at hj
  · cases e
    rw [add_row]
    exact hc j u hj

theorem rClone_some (a : Addr) (c : Nat) (L : List Rw) (hL : L.length ≤ 1000000) (w : World) (hA : Lies w (some a) L) :
    Calls Tryz.prog 114 #[.slice (some a) L.length c] w fun e w' => ∃ v, e = .returned v ∧ w'.ownsRow w.heap.size 58 3 v L.length (flat L) ∧ Below w.heap.size w w' := by
  have q : ∀ (w : World) (a : Option Addr) (n c n' c' : Nat), (binOp .eql 49 (.slice a n c) (.slice none n' c')).run Tryz.prog w = .ok (.bool a.isNone) w := fun w a n c n' c' => Lib.run_eql_slice_nil w _ _ a n c n' c' Tryz.underlying49
  obtain ⟨i0, hi0, hz0, hz1, hz3⟩ := infoR
  have HX := Lib.hid (And.intro (World.ownsRow_lit (base := w.heap.size) (e := 58) (size := 3) w #[] 0 (Nat.le_refl _) (by decide) rfl) (lies_news (hA.alloc (.cells #[] 58))))
  generalize hn : L.length = n at *
  have HN := Lib.hid hn; clear hn hA
  go_enter Tryz.func114, Tryz.ntmps114
  go_wp2_with (at_builtin; refine wpList_append_own _ rfl _ _ 49 rfl w.heap.size 58 i0 (.agg #[.int .i64 0, .int .u64 0, .int .u64 0]) 3 24 Tryz.underlying49 hi0 hz0 hz1 hz3 rfl (by decide) (.slice (some ⟨w.heap.size, 0, none⟩) 0 0) 0 [] rfl HX.out.1 a n c (flat L) rfl (by rw [flat_length, HN.out]) HX.out.2 (flat_one L) (by unfold maxLen; omega) (by omega) (by simp) ?_; intro v' w1 hown hgrow hnil)
  go_ret
  refine ⟨v', rfl, by simpa using hown, ?_⟩
  exact below_grown ((Below.refl _ w).alloc (Nat.le_refl _) _) hgrow (by intro k hk; simp [Value.ownBlock] at hk; omega) (by simp)

/-- A copy of any list, in memory of the call's own. -/
theorem rClone_any (A : Option Addr) (c : Nat) (L : List Rw) (hL : L.length ≤ 1000000) (w : World) (hA : Lies w A L) :
    Calls Tryz.prog 114 #[.slice A L.length c] w fun e w' => ∃ v, e = .returned v ∧ w'.ownsRow w.heap.size 58 3 v L.length (flat L) ∧ Below w.heap.size w w' := by
  cases A with
  | none =>
    have h0 : L = [] := by
      rcases hA with h | ⟨b, off, e, _⟩
      · exact h
      · cases e
    subst h0
    refine (rClone_nil _ _ w).mono ?_
    rintro e w' ⟨rfl, rfl⟩
    exact ⟨_, rfl, World.ownsRow_nil _ _ _ _, Below.refl _ _⟩
  | some a => exact rClone_some a c L hL w hA
end Go.Proofs.YtiafjbhekfpkbaaGreatDoor
