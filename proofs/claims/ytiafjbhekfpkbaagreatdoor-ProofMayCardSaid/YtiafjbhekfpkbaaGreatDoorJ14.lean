/- slices.Insert of one row into a slice of the call's own. · slices.Delete of one row of a slice of the call's own. · rows.Rises; burnbagref10.At. -/
import Derived.Test.YtiafjbhekfpkbaaGreatDoorJ13
import Derived.Shelf.Spec.SlicesInsert
import Derived.Lib.AppendZerosOnto
import Derived.Laws.CopyOwn
import Derived.BigQuiet
import Derived.Deep.DeepCutAuto
import Derived.Deep.QuietTactic
namespace Go.Proofs.YtiafjbhekfpkbaaGreatDoor
set_option linter.unusedSimpArgs false
set_option linter.unusedVariables false
open Go.ChangeShapes Go.WideShapes Go.ChangeAt Go.RowKit Go.Shelf

/-- copy of elements of more than one cell onto a row that is known whole. -/
theorem run_copy_rows {P : Program} (w : World) (dT sT ty elem : TypeId) (g o dLen dCap : Nat) (a : Addr) (sLen sCap k size : Nat) (cur : Array Value) (t : TypeId) (cs : List Value)
    (hu : P.underlying dT = some (.slice elem)) (hs : (P.info? elem).map (·.size) = some size)
    (hg : w.heap[g]? = some (.cells cur t (0, 0))) (hk : Nat.min sLen dLen = k) (hn : cs.length = k * size)
    (hsrc : ∀ j v, cs[j]? = some v → w.cell? (a.add j) = some v) (hfit : o + cs.length ≤ cur.size) (h1 : ∀ v ∈ cs, v.oneCell' = true) :
    (Builtin.copy_ #[dT, sT] ty #[.slice (some ⟨g, o, none⟩) dLen dCap, .slice (some a) sLen sCap]).run P w =
      .ok (goInt k) (w.setRow g (cur.toList.take o ++ cs ++ cur.toList.drop (o + cs.length)).toArray) := by
  have hl := run_loadCells_list (P := P) w a cs hsrc
  rw [hn] at hl
  have hst := run_storeCells_at P g o t cs 0 cur w hg (by simpa using hfit) h1
  cases hq : P.info? elem with
  | none => simp [hq] at hs
  | some i =>
    have hi : i.size = size := by simpa [hq] using hs
    simp [Builtin.copy_, run_underlying hu, Builtin.lenOf, Builtin.firstCells, sizeOf, typeInfo, hq, hi, hk, hl, hst]

/-- A row alone in its block. -/
def OneRow (w : World) (vb : Nat) (x : Rw) : Prop := ∃ tv, w.heap[vb]? = some (.cells #[.int .i64 x.k, .int .u64 (x.a : Nat), .int .u64 (x.b : Nat)] tv (0, 0))
theorem OneRow.cell {w : World} {vb : Nat} {x : Rw} (h : OneRow w vb x) : ∀ j v, (flat [x])[j]? = some v → w.cell? ((⟨vb, 0, none⟩ : Addr).add j) = some v := by
  obtain ⟨tv, h⟩ := h
  intro j v hj
  rw [add_row, Nat.zero_add, cell_of_row w vb j _ tv (0, 0) h]
  rw [← hj]
  simp [flat]
theorem OneRow.lt {w : World} {vb : Nat} {x : Rw} (h : OneRow w vb x) : vb < w.heap.size := by
  obtain ⟨tv, h⟩ := h
  exact (Array.getElem?_eq_some_iff.1 h).1
theorem OneRow.block {w w' : World} {vb : Nat} {x : Rw} (h : OneRow w vb x) (e : w'.heap[vb]? = w.heap[vb]?) : OneRow w' vb x := by
  obtain ⟨tv, h⟩ := h
  exact ⟨tv, e.trans h⟩
theorem flat1 (x : Rw) : (flat [x]).length = 1 * 3 := rfl
theorem sizeRow : (Tryz.prog.info? 58).map (·.size) = some 3 := by kernel_rfl
theorem take_len_eq {α : Type} {n : Nat} {xs ys : List α} (h : xs.take n = ys) {k : Nat} (hk : k ≤ n) : xs.take k = ys.take k := by
  rw [← h, List.take_take]; congr 1; omega

set_option maxHeartbeats 4000000 in
set_option maxRecDepth 100000 in
/-- At the end. -/
theorem rInsert_end (base : Nat) (v : Value) (L : List Rw) (n : Nat) (hL : n ≤ 1000000) (x : Rw) (vb : Nat) (w : World) (hown : w.ownsRow base 58 3 v n (flat L)) (hb0 : base ≤ w.heap.size) (hx : OneRow w vb x) :
    Calls Tryz.prog 116 #[v, .int .i64 n, .slice (some ⟨vb, 0, none⟩) 1 1] w fun e w' => ∃ v', e = .returned v' ∧ w'.ownsRow base 58 3 v' (n + 1) (flat (L ++ [x])) ∧ Below base w w' := by
  obtain ⟨i0, hi0, hz0, hz1, hz3⟩ := infoR
  have HX := Lib.hid (And.intro hown (And.intro hx.cell hb0))
  have hn : n = L.length := by have := hown.1; rw [flat_length] at this; omega
  have hF := hown.form
  obtain ⟨A, c, rfl, hle, hmx, _⟩ := lies_of_own hown
  have hmx' : c ≤ 9223372036854775807 := by unfold maxLen at hmx; omega
  clear hx hown hF hmx
  have HN := Lib.hid hn; clear hn
  go_enter Tryz.func116, Tryz.ntmps116
  cases A
  all_goals
    go_wp2_with (at_builtin; refine wpList_append_own _ rfl _ _ 49 rfl base 58 i0 (.agg #[.int .i64 0, .int .u64 0, .int .u64 0]) 3 24 Tryz.underlying49 hi0 hz0 hz1 hz3 rfl (by decide) _ n (flat L) rfl HX.out.1 ⟨vb, 0, none⟩ 1 1 (flat [x]) rfl (flat1 x) HX.out.2.1 (flat_one _) (by unfold maxLen; omega) (by omega) HX.out.2.2 ?_; intro v' w1 hown hgrow hnil)
    all_goals
      go_ret
      refine ⟨v', rfl, by rw [flat_append]; exact hown, ?_⟩
      exact below_grown (Below.refl _ w) hgrow (fun k hk => (HX.out.1.lt k hk).1) HX.out.2.2

/-- What a call of overlaps says of two blocks. -/
theorem overlaps_no (w : World) (vb b o la cb : Nat) (x : Rw) (hne : vb ≠ b) (hx : OneRow w vb x) (cur : Array Value) (t : TypeId) (hg : w.heap[b]? = some (.cells cur t (0, 0))) (h0 : cur.size ≠ 0) :
    (callFunc 132 #[.slice (some ⟨vb, 0, none⟩) 1 1, .slice (some ⟨b, o, none⟩) la cb]).run Tryz.prog w = .ok (.value (.bool false)) w := by
  obtain ⟨tv, hx⟩ := hx
  have hz : ∀ w, (Go.sizeOf 58).run Tryz.prog w = .ok 3 w := Tryz.sizeOf58
  rw [run_callFunc_extern Tryz.func132 (by kernel_rfl) (by kernel_rfl) (by kernel_rfl) (e := Extern.SlicesOverlaps.overlaps #[49, 49] #[4]) (by kernel_rfl),
    Lib.run_overlaps_apart w 49 4 58 Tryz.underlying49 3 hz ⟨vb, 0, none⟩ ⟨b, o, none⟩ 1 1 la cb hne tv t 3 cur.size (by simp [World.shape?, hx]) (by simp [World.shape?, hg]) h0 (by simp [World.frozen?, hx]) (by simp [World.frozen?, hx])]
  rfl

set_option maxHeartbeats 4000000 in
set_option maxRecDepth 100000 in
/-- Within, where there is room. -/
theorem rInsert_room (base g c : Nat) (L : List Rw) (n p : Nat) (hL : n ≤ 1000000) (hp : p < n) (x : Rw) (vb : Nat) (w : World) (hown : w.ownsRow base 58 3 (.slice (some ⟨g, 0, none⟩) n c) n (flat L)) (hroom : n + 1 ≤ c) (hb0 : base ≤ w.heap.size) (hx : OneRow w vb x) (hne : vb ≠ g) :
    Calls Tryz.prog 116 #[.slice (some ⟨g, 0, none⟩) n c, .int .i64 p, .slice (some ⟨vb, 0, none⟩) 1 1] w fun e w' => ∃ v', e = .returned v' ∧ w'.ownsRow base 58 3 v' (n + 1) (flat (L.take p ++ x :: L.drop p)) ∧ Below base w w' := by
  have hn : n = L.length := by have := hown.1; rw [flat_length] at this; omega
  obtain ⟨cur, hgb, hg, hmx, hcs, htk⟩ : ∃ cur, base ≤ g ∧ w.heap[g]? = some (.cells cur 58 (0, 0)) ∧ c ≤ maxLen ∧ cur.size = c * 3 ∧ cur.toList.take (n * 3) = flat L := by
    rcases hown.2 with ⟨h, _⟩ | ⟨g', cap, cur, h, h1, h2, _, h3, h4, h5⟩
    · cases h
    · cases h; exact ⟨cur, h1, h2, h3, h4, h5⟩
  have hmx' : c ≤ 9223372036854775807 := by unfold maxLen at hmx; omega
  have hov : ∀ o la cb, _ := fun o la cb => overlaps_no w vb g o la cb x hne hx cur _ hg (by omega)
  have hdl : (flat (L.drop p)).length = (n - p) * 3 := by rw [flat_length, List.length_drop, ← hn]
  have hcell : ∀ j v, (flat L)[j]? = some v → w.cell? ⟨g, j, none⟩ = some v := fun j v hj => by
    rw [cell_of_row w g j cur _ (0, 0) hg, ← hj, ← htk]
    rw [← htk, List.getElem?_take] at hj
    rw [List.getElem?_take]
    split at hj
    · rename_i hlt; rw [if_pos hlt]; simp
    · cases hj
  obtain ⟨C1, hC1⟩ : ∃ C1 : Array Value, C1 = (cur.toList.take ((p + 1) * 3) ++ flat (L.drop p) ++ cur.toList.drop ((p + 1) * 3 + (flat (L.drop p)).length)).toArray := ⟨_, rfl⟩
  have hC1s : C1.size = c * 3 := by rw [hC1]; simp [hcs, hdl]; omega
  obtain ⟨C2, hC2⟩ : ∃ C2 : Array Value, C2 = (C1.toList.take (p * 3) ++ flat [x] ++ C1.toList.drop (p * 3 + (flat [x]).length)).toArray := ⟨_, rfl⟩
  have hcp1 : ∀ ty dc sc, (Builtin.copy_ #[49, 49] ty #[.slice (some ⟨g, (p + 1) * 3, none⟩) (n - p) dc, .slice (some ⟨g, p * 3, none⟩) (n + 1 - p) sc]).run Tryz.prog w.drew = .ok (goInt (n - p : Nat)) (w.drew.setRow g C1) := fun ty dc sc => by
    have h := run_copy_rows w.drew 49 49 ty 58 g ((p + 1) * 3) (n - p) dc ⟨g, p * 3, none⟩ (n + 1 - p) sc (n - p) 3 cur 58 (flat (L.drop p)) Tryz.underlying49 sizeRow hg (by simp only [Nat.min_def]; split <;> omega) hdl
      (fun j v hj => by rw [add_row]; exact hcell _ v (by rw [flat_drop, List.getElem?_drop] at hj; exact hj)) (by rw [hdl]; omega) (flat_one _)
    rw [h, hC1]
  obtain ⟨W1, hW1⟩ : ∃ W1, W1 = w.drew.setRow g C1 := ⟨_, rfl⟩
  have hG1 : W1.heap[g]? = some (.cells C1 58 (0, 0)) := by rw [hW1]; exact setRow_heap w.drew g cur C1 _ _ hg
  have hX1 : OneRow W1 vb x := by rw [hW1]; exact hx.block (setRow_other w.drew g vb C1 hne)
  have hB1 : Below base w W1 := by rw [hW1]; exact below_setRow (Below.refl _ w).drew hgb C1
  have hcp2 : ∀ ty dc, (Builtin.copy_ #[49, 49] ty #[.slice (some ⟨g, p * 3, none⟩) (n + 1 - p) dc, .slice (some ⟨vb, 0, none⟩) 1 1]).run Tryz.prog W1 = .ok (goInt (1 : Nat)) (W1.setRow g C2) := fun ty dc => by
    have h := run_copy_rows W1 49 49 ty 58 g (p * 3) (n + 1 - p) dc ⟨vb, 0, none⟩ 1 1 1 3 C1 58 (flat [x]) Tryz.underlying49 sizeRow hG1 (by simp only [Nat.min_def]; split <;> omega) (flat1 x) hX1.cell (by rw [flat1]; omega) (flat_one _)
    rw [h, hC2]
  obtain ⟨W2, hW2⟩ : ∃ W2, W2 = W1.setRow g C2 := ⟨_, rfl⟩
  have hG2 : W2.heap[g]? = some (.cells C2 58 (0, 0)) := by rw [hW2]; exact setRow_heap W1 g C1 C2 _ _ hG1
  have hB2 : Below base w W2 := by rw [hW2]; exact below_setRow hB1 hgb C2
  have hC2s : C2.size = c * 3 := by rw [hC2]; simp [hC1s, flat1]; omega
  have hT2 : C2.toList.take ((n + 1) * 3) = flat (L.take p ++ x :: L.drop p) := by
    have e1 : C1.toList.take (p * 3) = flat (L.take p) := by
      rw [hC1, flat_take, ← htk, List.take_take]
      simp only [List.toList_toArray, List.append_assoc]
      rw [List.take_append_of_le_length (by simp [hcs]; omega), List.take_take]
      congr 1; omega
    have e2 : C1.toList.drop (p * 3 + 3) = flat (L.drop p) ++ cur.toList.drop ((p + 1) * 3 + (n - p) * 3) := by
      rw [hC1, hdl]
      simp only [List.toList_toArray, List.append_assoc]
      rw [List.drop_append_of_le_length (by simp [hcs]; omega), List.drop_eq_nil_of_le (by simp [hcs]; omega), List.nil_append]
    rw [hC2, flat_append]
    simp only [List.toList_toArray, flat1, Nat.one_mul, e1, e2]
    have e3 : flat (x :: L.drop p) = flat [x] ++ flat (L.drop p) := flat_append [x] _
    rw [e3, ← List.append_assoc, ← List.append_assoc]
    exact List.take_left' (by simp only [List.length_append, flat_length, List.length_take, List.length_drop, List.length_cons, List.length_nil]; omega)
  have HR := Lib.hid (And.intro hG2 (And.intro hB2 (And.intro hC2s (And.intro hT2 (And.intro hgb hmx)))))
  rw [← hW1] at hcp1
  rw [← hW2] at hcp2
  clear hG2 hB2 hC2s hT2 hC2 hC1s hC1 hW2 hG1 hX1 hB1 hx hg htk hcell hown hcs hdl hgb hmx
  have HW := Lib.hid hW1; clear hW1
  have HN := Lib.hid hn; clear hn
  have h2 : ¬ ((p : Int) = (n : Int)) := by omega
  have h3 : ¬ (c < n + 1) := by omega
  have hw1 : IntKind.i64.wrap ((p : Int) + 1) = (p : Int) + 1 := by rw [IntKind.wrap_i64]; omega
  have hw2 : IntKind.i64.wrap ((n : Int) + 1) = (n : Int) + 1 := by rw [IntKind.wrap_i64]; omega
  have ht1 : ((p : Int) + 1).toNat = p + 1 := by omega
  have ht2 : ((n : Int) + 1).toNat = n + 1 := by omega
  have hb1 : (0 : Int) ≤ (p : Int) + 1 := by omega
  have hin : p ≤ n := by omega
  have hb2 : ¬ (c = p + 1) := by omega
  have hb3 : (p : Int) ≤ (n : Int) + 1 := by omega
  have hb4 : ¬ (c = p) := by omega
  have mixed : Tryz.prog.follows .mixedOrders = true := by kernel_rfl
  go_enter Tryz.func116, Tryz.ntmps116
  go_wp2_with (simp only [hov])
  go_region_law_o (refine step_copy_runI rfl _ _ 49 49 rfl _ _ (by simp [Act.eval, Act.put]) (by simp [Act.eval, Act.put]) (hcp1 _ _ _) ?_)
  go_wp2_with (at_builtin; refine wpList_copy_runI _ rfl _ _ 49 49 rfl _ _ rfl rfl (hcp2 _ _) ?_)
  go_ret
  obtain ⟨hG2, hB2, hs2, hT2, hgb, hm⟩ := HR.out
  have hn := HN.out
  exact ⟨_, rfl, ⟨by rw [flat_length]; simp only [List.length_append, List.length_take, List.length_drop, List.length_cons]; omega, .inr ⟨g, c, C2, rfl, hgb, hG2, hroom, hm, hs2, hT2⟩⟩, hB2⟩

set_option maxHeartbeats 4000000 in
set_option maxRecDepth 100000 in
/-- Within, where there is none. -/
theorem rInsert_grow (base g c : Nat) (L : List Rw) (n p : Nat) (hL : n ≤ 1000000) (hp : p < n) (x : Rw) (vb : Nat) (w : World) (hown : w.ownsRow base 58 3 (.slice (some ⟨g, 0, none⟩) n c) n (flat L)) (hroom : c < n + 1) (hb0 : base ≤ w.heap.size) (hx : OneRow w vb x) :
    Calls Tryz.prog 116 #[.slice (some ⟨g, 0, none⟩) n c, .int .i64 p, .slice (some ⟨vb, 0, none⟩) 1 1] w fun e w' => ∃ v', e = .returned v' ∧ w'.ownsRow base 58 3 v' (n + 1) (flat (L.take p ++ x :: L.drop p)) ∧ Below base w w' := by
  obtain ⟨i0, hi0, hz0, hz1, hz3⟩ := infoR
  have hn : n = L.length := by have := hown.1; rw [flat_length] at this; omega
  obtain ⟨cur, hgb, hg, hmx, hcs, htk, hnc⟩ : ∃ cur, base ≤ g ∧ w.heap[g]? = some (.cells cur 58 (0, 0)) ∧ c ≤ maxLen ∧ cur.size = c * 3 ∧ cur.toList.take (n * 3) = flat L ∧ n ≤ c := by
    rcases hown.2 with ⟨h, _⟩ | ⟨g', cap, cur, h, h1, h2, h6, h3, h4, h5⟩
    · cases h
    · cases h; exact ⟨cur, h1, h2, h3, h4, h5, h6⟩
  obtain rfl : c = n := by omega
  have hmx' : c ≤ 9223372036854775807 := by omega
  have hdl : (flat (L.drop p)).length = (c - p) * 3 := by rw [flat_length, List.length_drop, ← hn]
  have hcell : ∀ j v, (flat L)[j]? = some v → w.cell? ⟨g, j, none⟩ = some v := fun j v hj => by
    rw [cell_of_row w g j cur _ (0, 0) hg, ← hj, ← htk]
    rw [← htk, List.getElem?_take] at hj
    rw [List.getElem?_take]
    split at hj
    · rename_i hlt; rw [if_pos hlt]; simp
    · cases hj
  have hgl : g < w.heap.size := (Array.getElem?_eq_some_iff.1 hg).1
  have hik : p + (c + 1 - p) = c + 1 := by omega
  have hold : (Builtin.firstCells i0.size p (.slice (some ⟨g, 0, none⟩) p c)).run Tryz.prog w.drew = .ok (flat (L.take p)).toArray w.drew := by
    rw [hz1]
    exact run_firstCells_some w.drew 3 p ⟨g, 0, none⟩ p c (flat (L.take p)) (by rw [flat_length, List.length_take]; congr 1; omega) (fun j v hj => by
      rw [add_row, Nat.zero_add]
      rw [flat_take, List.getElem?_take] at hj
      split at hj
      · exact hcell j v hj
      · cases hj)
  obtain ⟨G, hG⟩ : ∃ G, G = grownCap w (c + 1) c 58 := ⟨_, rfl⟩
  have hGn : c + 1 ≤ G := by rw [hG]; exact grownCap_ge w _ _ _
  have hGm : G ≤ maxLen := by rw [hG]; exact grownCap_le_maxLen w (c + 1) c _ (by unfold maxLen; omega)
  obtain ⟨C0, hC0⟩ : ∃ C0 : Array Value, C0 = (flat (L.take p)).toArray ++ Builtin.zeroCells (Value.agg #[.int .i64 0, .int .u64 0, .int .u64 0]).cells (c + 1 - p) ++ Builtin.zeroCells (Value.agg #[.int .i64 0, .int .u64 0, .int .u64 0]).cells (G - (c + 1)) := ⟨_, rfl⟩
  have hrz : ∀ ty, (Builtin.append_ #[49, 3] ty #[.slice (some ⟨g, 0, none⟩) p c, .int .i64 ((c : Int) + 1 - (p : Int))]).run Tryz.prog w =
      .ok (.slice (some ⟨w.heap.size, 0, none⟩) (c + 1) G) (w.drew.alloc (.cells C0 58)) := fun ty => by
    have h := Lib.run_append_grow_zeros w 49 3 ty 58 i0 _ .i64 .i64 Tryz.underlying49 Tryz.underlying3 hi0 hz0 (some ⟨g, 0, none⟩) p c (flat (L.take p)) hold (c + 1 - p) (by omega) (by omega) (by omega) (by omega) (by rw [hz3]; omega) (by rw [hz3, hik]; exact growslice_fits hroom (by omega))
    rw [hik, ← hG, ← hC0] at h
    rw [show (c : Int) + 1 - (p : Int) = ((c + 1 - p : Nat) : Int) by omega]
    exact h
  obtain ⟨W0, hW0⟩ : ∃ W0, W0 = w.drew.alloc (.cells C0 58) := ⟨_, rfl⟩
  have hg0 : W0.heap[w.heap.size]? = some (.cells C0 58 (0, 0)) := by rw [hW0]; exact heap_alloc_new w.drew _
  have hC0s : C0.size = G * 3 := by
    rw [hC0]
    have hfl : (flat (L.take p)).length = p * 3 := by rw [flat_length, List.length_take]; congr 1; omega
    simp only [Array.size_append, List.size_toArray, hfl, size_zeroCells]
    simp [Value.cells]
    omega
  have hC0t : C0.toList.take (p * 3) = flat (L.take p) := by
    rw [hC0]
    have hfl : (flat (L.take p)).length = p * 3 := by rw [flat_length, List.length_take]; congr 1; omega
    simp only [Array.toList_append, List.append_assoc]
    exact List.take_left' hfl
  have hB0 : Below w.heap.size w W0 := by rw [hW0]; exact (Below.refl _ w).drew.alloc (Nat.le_refl _) _
  have hX0 : OneRow W0 vb x := hx.block (hB0.block vb hx.lt)
  obtain ⟨C1, hC1⟩ : ∃ C1 : Array Value, C1 = (C0.toList.take (p * 3) ++ flat [x] ++ C0.toList.drop (p * 3 + (flat [x]).length)).toArray := ⟨_, rfl⟩
  have hcp1 : ∀ ty dc, (Builtin.copy_ #[49, 49] ty #[.slice (some ⟨w.heap.size, p * 3, none⟩) (c + 1 - p) dc, .slice (some ⟨vb, 0, none⟩) 1 1]).run Tryz.prog W0 = .ok (goInt (1 : Nat)) (W0.setRow w.heap.size C1) := fun ty dc => by
    have h := run_copy_rows W0 49 49 ty 58 w.heap.size (p * 3) (c + 1 - p) dc ⟨vb, 0, none⟩ 1 1 1 3 C0 58 (flat [x]) Tryz.underlying49 sizeRow hg0 (by simp only [Nat.min_def]; split <;> omega) (flat1 x) hX0.cell (by rw [flat1]; omega) (flat_one _)
    rw [h, hC1]
  have hC1s : C1.size = G * 3 := by rw [hC1]; simp [hC0s, flat1]; omega
  have hC1t : C1.toList.take ((p + 1) * 3) = flat (L.take p ++ [x]) := by
    rw [hC1, flat_append, hC0t]
    exact List.take_left' (by simp only [List.length_append, flat_length, List.length_take, List.length_cons, List.length_nil]; omega)
  obtain ⟨W1, hW1⟩ : ∃ W1, W1 = W0.setRow w.heap.size C1 := ⟨_, rfl⟩
  have hg1 : W1.heap[w.heap.size]? = some (.cells C1 58 (0, 0)) := by rw [hW1]; exact setRow_heap W0 _ C0 C1 _ _ hg0
  have hB1 : Below w.heap.size w W1 := by rw [hW1]; exact below_setRow hB0 (Nat.le_refl _) C1
  obtain ⟨C2, hC2⟩ : ∃ C2 : Array Value, C2 = (C1.toList.take ((p + 1) * 3) ++ flat (L.drop p) ++ C1.toList.drop ((p + 1) * 3 + (flat (L.drop p)).length)).toArray := ⟨_, rfl⟩
  have hcp2 : ∀ ty dc sc, (Builtin.copy_ #[49, 49] ty #[.slice (some ⟨w.heap.size, (p + 1) * 3, none⟩) (c - p) dc, .slice (some ⟨g, p * 3, none⟩) (c - p) sc]).run Tryz.prog W1.drew = .ok (goInt (c - p : Nat)) (W1.drew.setRow w.heap.size C2) := fun ty dc sc => by
    have h := run_copy_rows W1.drew 49 49 ty 58 w.heap.size ((p + 1) * 3) (c - p) dc ⟨g, p * 3, none⟩ (c - p) sc (c - p) 3 C1 58 (flat (L.drop p)) Tryz.underlying49 sizeRow hg1 (by simp [Nat.min_def]) hdl
      (fun j v hj => by rw [add_row]; show W1.cell? _ = _; rw [hB1.cell (p := ⟨g, _, none⟩) hgl]; exact hcell _ v (by rw [flat_drop, List.getElem?_drop] at hj; exact hj)) (by rw [hdl]; omega) (flat_one _)
    rw [h, hC2]
  obtain ⟨W2, hW2⟩ : ∃ W2, W2 = W1.drew.setRow w.heap.size C2 := ⟨_, rfl⟩
  have hG2 : W2.heap[w.heap.size]? = some (.cells C2 58 (0, 0)) := by rw [hW2]; exact setRow_heap W1.drew _ C1 C2 _ _ hg1
  have hB2 : Below base w W2 := by rw [hW2]; exact (below_setRow hB1.drew (Nat.le_refl _) C2).mono hb0
  have hC2s : C2.size = G * 3 := by rw [hC2]; simp [hC1s, hdl]; omega
  have hT2 : C2.toList.take ((c + 1) * 3) = flat (L.take p ++ x :: L.drop p) := by
    rw [hC2, hC1t]
    have e3 : L.take p ++ x :: L.drop p = (L.take p ++ [x]) ++ L.drop p := by simp
    rw [e3, flat_append (L.take p ++ [x])]
    exact List.take_left' (by simp only [List.length_append, flat_length, List.length_take, List.length_drop, List.length_cons, List.length_nil]; omega)
  have HR := Lib.hid (And.intro hG2 (And.intro hB2 (And.intro hC2s (And.intro hT2 (And.intro hGm hb0)))))
  rw [← hW0] at hrz
  rw [← hW1] at hcp1
  rw [← hW2] at hcp2
  have hG63 : G ≤ 9223372036854775807 := by unfold maxLen at hGm; omega
  have HW := Lib.hid (And.intro hW0 hn)
  clear hG2 hB2 hC2s hT2 hC2 hC1s hC1 hW2 hg1 hB1 hx hg htk hcell hown hcs hdl hmx hX0 hB0 hC0t hC0s hg0 hC0 hG hGm hold hik hgl hC1t hW1 hW0 hn hi0 hz0 hz1 hz3
  generalize hh : w.heap.size = H at *
  have HH := Lib.hid hh; clear hh
  have h2 : ¬ ((p : Int) = (c : Int)) := by omega
  have hw1 : IntKind.i64.wrap ((p : Int) + 1) = (p : Int) + 1 := by rw [IntKind.wrap_i64]; omega
  have hw2 : IntKind.i64.wrap ((c : Int) + 1) = (c : Int) + 1 := by rw [IntKind.wrap_i64]; omega
  have ht1 : ((p : Int) + 1).toNat = p + 1 := by omega
  have ht2 : ((c : Int) + 1).toNat = c + 1 := by omega
  have hb1 : (0 : Int) ≤ (p : Int) + 1 := by omega
  have hin : p ≤ c := by omega
  have hb2 : ¬ (c = p + 1) ∨ c = p + 1 := by omega
  have hb3 : (p : Int) ≤ (c : Int) + 1 := by omega
  have hb4 : ¬ (c = p) := by omega
  have hb5 : ¬ (G = p) := by omega
  have hb6 : ¬ (G = p + 1) := by omega
  have mixed : Tryz.prog.follows .mixedOrders = true := by kernel_rfl
  go_enter Tryz.func116, Tryz.ntmps116
  go_wp2_with (first
    | (at_builtin; refine Lib.wpList_append_run _ rfl _ _ _ _ rfl _ _ rfl rfl _ _ (hrz _) ?_)
    | (at_builtin; refine wpList_copy_runI _ rfl _ _ 49 49 rfl _ _ rfl rfl (hcp1 _ _) ?_))
  go_region_law_o (refine step_copy_runI rfl _ _ 49 49 rfl _ _ (by simp [Act.eval, Act.put]) (by simp [Act.eval, Act.put]) (hcp2 _ _ _) ?_)
  go_wp2
  go_ret
  obtain ⟨hG2, hB2, hs2, hT2, hGm, hb⟩ := HR.out
  have hn := HW.out.2
  exact ⟨_, rfl, ⟨by rw [flat_length]; simp only [List.length_append, List.length_take, List.length_drop, List.length_cons]; omega, .inr ⟨H, G, C2, rfl, hb, hG2, hGn, hGm, hs2, hT2⟩⟩, hB2⟩

/-- One row, put in at a place of a slice of the call's own. -/
theorem rInsert_any (base : Nat) (v : Value) (L : List Rw) (n p : Nat) (hL : n ≤ 1000000) (hp : p ≤ n) (x : Rw) (vb : Nat) (w : World) (hown : w.ownsRow base 58 3 v n (flat L)) (hb0 : base ≤ w.heap.size) (hx : OneRow w vb x) (hne : v.ownBlock ≠ some vb) :
    Calls Tryz.prog 116 #[v, .int .i64 p, .slice (some ⟨vb, 0, none⟩) 1 1] w fun e w' => ∃ v', e = .returned v' ∧ w'.ownsRow base 58 3 v' (n + 1) (flat (L.take p ++ x :: L.drop p)) ∧ Below base w w' := by
  have hn : n = L.length := by have := hown.1; rw [flat_length] at this; omega
  rcases Nat.lt_or_ge p n with h | h
  · obtain ⟨g, c, rfl, _, _⟩ := hown.form (by omega)
    by_cases hr : n + 1 ≤ c
    · exact rInsert_room base g c L n p hL h x vb w hown hr hb0 hx (fun e => hne (by rw [e]; rfl))
    · exact rInsert_grow base g c L n p hL h x vb w hown (by omega) hb0 hx
  · obtain rfl : p = n := by omega
    rw [hn, List.take_length, List.drop_length, ← hn]
    exact rInsert_end base v L p hL x vb w hown hb0 hx
end Go.Proofs.YtiafjbhekfpkbaaGreatDoor
namespace Go.Proofs.YtiafjbhekfpkbaaGreatDoor
set_option linter.unusedSimpArgs false
set_option linter.unusedVariables false
open Go.ChangeShapes Go.WideShapes Go.ChangeAt Go.RowKit Go.Shelf

/-- append onto a row that is known whole, with room. -/
theorem run_append_rows {P : Program} (w : World) (t ty e : TypeId) (i : TypeInfo) (ht : P.underlying t = some (.slice e)) (hi : P.info? e = some i) (g sLen sCap : Nat) (cur : Array Value) (tr : TypeId) (hg : w.heap[g]? = some (.cells cur tr (0, 0)))
    (a : Addr) (m c N : Nat) (news : List Value) (hl : news.length = m * i.size) (hnews : ∀ j u, news[j]? = some u → w.cell? (a.add j) = some u) (h1 : ∀ u ∈ news, u.oneCell' = true) (hN : sLen + m = N) (hroom : N ≤ sCap) (hfit : sLen * i.size + news.length ≤ cur.size) :
    (Builtin.append_ #[t, t] ty #[.slice (some ⟨g, 0, none⟩) sLen sCap, .slice (some a) m c]).run P w = .ok (.slice (some ⟨g, 0, none⟩) N sCap) (w.setRow g (cur.toList.take (sLen * i.size) ++ news ++ cur.toList.drop (sLen * i.size + news.length)).toArray) := by
  subst hN
  have hfc := run_firstCells_some (P := P) w i.size m a m c news hl hnews
  have hst := run_storeCells_at P g (sLen * i.size) tr news 0 cur w hg (by simpa using hfit) h1
  simp only [Nat.add_zero] at hst
  simp [Builtin.append_, run_underlying ht, sizeOf, typeInfo, hi, Builtin.lenOf, hroom, hfc, Addr.add_lit, hst]

/-- clear of some rows. -/
theorem run_clear_rows {P : Program} (w : World) (t e ty : TypeId) (z : Value) (zs : List Value) (ht : P.underlying t = some (.slice e)) (hv : ∀ w, (zeroValue e).run P w = .ok z w) (g o n c : Nat) (cur : Array Value) (tr : TypeId) (hg : w.heap[g]? = some (.cells cur tr (0, 0)))
    (hzs : (Builtin.zeroCells z.cells (n + 1)).toList = zs) (h1 : ∀ u ∈ zs, u.oneCell' = true) (hfit : o + zs.length ≤ cur.size) :
    (Builtin.clear_ #[t] ty #[.slice (some ⟨g, o, none⟩) (n + 1) c]).run P w = .ok (.tuple #[]) (w.setRow g (cur.toList.take o ++ zs ++ cur.toList.drop (o + zs.length)).toArray) := by
  have hst := run_storeCells_at P g o tr zs 0 cur w hg (by simpa using hfit) h1
  simp only [Nat.add_zero] at hst
  simp [Builtin.clear_, run_underlying ht, hv, hzs, hst]

theorem wpList_clear_run {P : Program} (w : World) {ops : Array Oper} {rest : List Oper} {o : Oper} {a : Act} {Q : Exit → Act → World → Prop} (hgd : o.guard = none) (x : Operand) (t : TypeId)
    (ho : o.op = .call { callee := .builtin .clear, args := #[x], argTypes := #[t] }) (vx : Value) (hx : a.eval x = vx)
    (v' : Value) (w' : World) (hr : (Builtin.clear_ #[t] o.type #[vx]).run P w = .ok v' w') (h : wpList P ops Q rest (a.put o.dst v') w') : wpList P ops Q (o :: rest) a w :=
  wpList_plain hgd fun K hK => by
    unfold Oper.wp execOp
    simp only [ho, resolve, invoke, builtin, Sem.run_bind, Sem.run_pure, Result.andThen_ok, List.map_toArray, List.map_cons, List.map_nil, hx, hr]
    exact hK _ _ h
theorem step_append_runI {P : Program} {ops : Array Oper} {o : Oper} {a : Act} {w : World} {K : Act → World → Prop} {Q : Exit → Act → World → Prop} {E : Prop}
    (hg : o.guard = none) (d x : Operand) (dT sT : TypeId) (hop : o.op = Op.call { callee := Callee.builtin Builtin.append, args := #[d, x], argTypes := #[dT, sT] })
    (v u : Value) (hd : a.eval d = v) (hx : a.eval x = u) {v' : Value} {w' : World} (hr : (Builtin.append_ #[dT, sT] o.type #[v, u]).run P w = .ok v' w') (hK : K (a.put o.dst v') w') :
    if Region.wanted o (yielded ops a.tmps) = true then Oper.wp P o a w K Q else E := by
  have hw : Region.wanted o (yielded ops a.tmps) = true := by simp [Region.wanted, hg]
  rw [if_pos hw]
  unfold Oper.wp
  simp [execOp, hop, resolve, invoke, builtin, hd, hx, hr, Result.andThen]
  exact hK

theorem only_setRowD {F : Nat → Prop} {w0 w : World} {g : Nat} (h : Only F w0 w) (hg : F g) (cs : Array Value) : Only F w0 (w.setRow g cs) :=
  ⟨h.1.trans ⟨rfl, rfl, rfl, by simp [World.setRow], fun k hk => absurd hk (Nat.not_lt_zero _)⟩, fun i hi hn => (setRow_other w g i cs (by rintro rfl; exact hn hg)).trans (h.2 i hi hn)⟩

set_option maxHeartbeats 4000000 in
set_option maxRecDepth 100000 in
theorem rDelete_any (base : Nat) (v : Value) (L : List Rw) (m p : Nat) (hL : m + 1 ≤ 1000000) (hp : p ≤ m) (w : World) (hown : w.ownsRow base 58 3 v (m + 1) (flat L)) (hb0 : base ≤ w.heap.size) :
    Calls Tryz.prog 117 #[v, .int .i64 p, .int .i64 ((p : Int) + 1)] w fun e w' => ∃ v', e = .returned v' ∧ w'.ownsRow base 58 3 v' m (flat (L.take p ++ L.drop (p + 1))) ∧ Only (fun i => v.ownBlock = some i) w w' := by
  obtain ⟨i0, hi0, hz0, hz1, hz3⟩ := infoR
  have hn : m + 1 = L.length := by have := hown.1; rw [flat_length] at this; omega
  obtain ⟨g, c, rfl, _, _⟩ := hown.form (by omega)
  obtain ⟨cur, hgb, hg, hmx, hcs, htk, hnc⟩ : ∃ cur, base ≤ g ∧ w.heap[g]? = some (.cells cur 58 (0, 0)) ∧ c ≤ maxLen ∧ cur.size = c * 3 ∧ cur.toList.take ((m + 1) * 3) = flat L ∧ m + 1 ≤ c := by
    rcases hown.2 with ⟨h, _⟩ | ⟨g', cap, cur, h, h1, h2, h6, h3, h4, h5⟩
    · cases h
    · cases h; exact ⟨cur, h1, h2, h3, h4, h5, h6⟩
  have hmx' : c ≤ 9223372036854775807 := by unfold maxLen at hmx; omega
  have hdl : (flat (L.drop (p + 1))).length = (m - p) * 3 := by rw [flat_length, List.length_drop, ← hn]; omega
  have hcell : ∀ j v, (flat L)[j]? = some v → w.cell? ⟨g, j, none⟩ = some v := fun j v hj => by
    rw [cell_of_row w g j cur _ (0, 0) hg, ← hj, ← htk]
    rw [← htk, List.getElem?_take] at hj
    rw [List.getElem?_take]
    split at hj
    · rename_i hlt; rw [if_pos hlt]; simp
    · cases hj
  obtain ⟨C1, hC1⟩ : ∃ C1 : Array Value, C1 = (cur.toList.take (p * 3) ++ flat (L.drop (p + 1)) ++ cur.toList.drop (p * 3 + (flat (L.drop (p + 1))).length)).toArray := ⟨_, rfl⟩
  have hC1s : C1.size = c * 3 := by rw [hC1]; simp [hcs, hdl]; omega
  have hC1t : C1.toList.take (m * 3) = flat (L.take p ++ L.drop (p + 1)) := by
    have e1 : cur.toList.take (p * 3) = flat (L.take p) := by
      rw [flat_take, ← htk, List.take_take]; congr 1; omega
    rw [hC1, e1, ← flat_append]
    exact List.take_left' (by simp only [flat_length, List.length_append, List.length_take, List.length_drop]; omega)
  obtain ⟨W1, hW1⟩ : ∃ W1, W1 = w.drew.setRow g C1 := ⟨_, rfl⟩
  have hap : ∀ ty (ad : Addr) (sc : Nat), (m = p ∨ ad = ⟨g, (p + 1) * 3, none⟩) → (Builtin.append_ #[49, 49] ty #[.slice (some ⟨g, 0, none⟩) p c, .slice (some ad) (m - p) sc]).run Tryz.prog w.drew = .ok (.slice (some ⟨g, 0, none⟩) m c) W1 := fun ty ad sc had => by
    have h := run_append_rows w.drew 49 ty 58 i0 Tryz.underlying49 hi0 g p c cur 58 hg ad (m - p) sc m (flat (L.drop (p + 1))) (by rw [hz1, hdl])
      (fun j v hj => by
        rcases had with h0 | rfl
        · subst h0
          have : (flat (L.drop (m + 1))).length ≤ j := by rw [hdl]; omega
          rw [List.getElem?_eq_none this] at hj; cases hj
        · rw [add_row]; exact hcell _ v (by rw [flat_drop, List.getElem?_drop] at hj; exact hj)) (flat_one _) (by omega) (by omega) (by rw [hz1, hdl]; omega)
    rw [h, hz1, hW1, hC1]
  have hG1 : W1.heap[g]? = some (.cells C1 58 (0, 0)) := by rw [hW1]; exact setRow_heap w.drew g cur C1 _ _ hg
  have hB1 : Only (fun i => i = g) w W1 := by rw [hW1]; exact only_setRowD (F := fun i => i = g) (Only.refl _ w).drew rfl C1
  obtain ⟨C2, hC2⟩ : ∃ C2 : Array Value, C2 = (C1.toList.take (m * 3) ++ [Value.int .i64 0, .int .u64 0, .int .u64 0] ++ C1.toList.drop (m * 3 + 3)).toArray := ⟨_, rfl⟩
  obtain ⟨W2, hW2⟩ : ∃ W2, W2 = W1.setRow g C2 := ⟨_, rfl⟩
  have hcl : ∀ ty sc, (Builtin.clear_ #[49] ty #[.slice (some ⟨g, m * 3, none⟩) 1 sc]).run Tryz.prog W1 = .ok (.tuple #[]) W2 := fun ty sc => by
    have h := run_clear_rows W1 49 58 ty (.agg #[.int .i64 0, .int .u64 0, .int .u64 0]) [.int .i64 0, .int .u64 0, .int .u64 0] Tryz.underlying49 Tryz.zeroValue58 g (m * 3) 0 sc C1 58 hG1 (by simp [Builtin.zeroCells, Value.cells, Array.range, List.range, List.range.loop]) (by intro u hu; simp at hu; rcases hu with rfl | rfl | rfl <;> rfl) (by simp; omega)
    rw [h, hW2, hC2]; rfl
  have hG2 : W2.heap[g]? = some (.cells C2 58 (0, 0)) := by rw [hW2]; exact setRow_heap W1 g C1 C2 _ _ hG1
  have hB2 : Only (fun i => i = g) w W2 := by rw [hW2]; exact only_setRowD (F := fun i => i = g) hB1 rfl C2
  have hC2s : C2.size = c * 3 := by rw [hC2]; simp [hC1s]; omega
  have hC2t : C2.toList.take (m * 3) = flat (L.take p ++ L.drop (p + 1)) := by
    rw [← hC1t, hC2]
    simp only [List.append_assoc]
    exact List.take_left' (by simp [hC1s]; omega)
  have HR := Lib.hid (And.intro hG2 (And.intro hB2 (And.intro hC2s (And.intro hC2t (And.intro hgb (And.intro hmx hn))))))
  clear hG2 hB2 hC2s hC2t hC2 hC1s hC1 hC1t hW2 hG1 hB1 hg htk hcell hown hcs hdl hgb hmx hn hi0 hz0 hz1 hz3
  have HW := Lib.hid hW1; clear hW1
  have h2 : ¬ ((p : Int) = (p : Int) + 1) := by omega
  have h2' : ((p : Int) == (p : Int) + 1) = false := by simpa using h2
  have ht1 : ((p : Int) + 1).toNat = p + 1 := by omega
  have hb1 : (0 : Int) ≤ (p : Int) + 1 := by omega
  have hin : (p : Int) ≤ (p : Int) + 1 := by omega
  have hb3 : (p : Int) + 1 ≤ (m : Int) + 1 := by omega
  have hb4 : ¬ (c = p) := by omega
  have hb5 : ¬ (c = m) := by omega
  have hb6 : (m : Int) ≤ (m : Int) + 1 := by omega
  have hb7 : (m : Int) + 1 ≤ (c : Int) := by omega
  have hb8 : p ≤ c := by omega
  have hb9 : (p : Int) ≤ (c : Int) := by omega
  have hb10 : p ≤ m := hp
  have ht2 : ((m : Int) + 1).toNat = m + 1 := by omega
  have mixed : Tryz.prog.follows .mixedOrders = true := by kernel_rfl
  by_cases hc : c = p + 1
  · obtain rfl : p = m := by omega
    subst hc
    have hap' : ∀ ty, (Builtin.append_ #[49, 49] ty #[.slice (some ⟨g, 0, none⟩) p (p + 1), .slice (some ⟨g, 0, none⟩) 0 0]).run Tryz.prog w.drew = .ok (.slice (some ⟨g, 0, none⟩) p (p + 1)) W1 := fun ty => by
      have h := hap ty ⟨g, 0, none⟩ 0 (.inl rfl)
      rw [Nat.sub_self] at h
      exact h
    clear hap
    go_enter Tryz.func117, Tryz.ntmps117
    go_wp2
    go_region_law_o (refine step_append_runI rfl _ _ 49 49 rfl (.slice (some ⟨g, 0, none⟩) p (p + 1)) (.slice (some ⟨g, 0, none⟩) 0 0) (by simp [Act.eval, Act.put]) (by simp [Act.eval, Act.put]) (hap' _) ?_)
    go_wp2_with (at_builtin; refine wpList_clear_run _ rfl _ 49 rfl _ rfl _ _ (hcl _ _) ?_)
    go_ret
    obtain ⟨hG2, hB2, hs2, hT2, hgb, hm, hn⟩ := HR.out
    exact ⟨_, rfl, ⟨by rw [flat_length]; simp only [List.length_append, List.length_take, List.length_drop]; omega, .inr ⟨g, p + 1, C2, rfl, hgb, hG2, by omega, hm, hs2, hT2⟩⟩, hB2.mono fun i _ e => by rw [e]; rfl⟩
  · have hap' := fun ty sc => hap ty _ sc (.inr rfl)
    clear hap
    go_enter Tryz.func117, Tryz.ntmps117
    go_wp2
    go_region_law_o (refine step_append_runI rfl _ _ 49 49 rfl (.slice (some ⟨g, 0, none⟩) p c) (.slice (some ⟨g, (p + 1) * 3, none⟩) (m - p) (c - (p + 1))) (by simp [Act.eval, Act.put]) (by simp [Act.eval, Act.put]) (hap' _ _) ?_)
    go_wp2_with (at_builtin; refine wpList_clear_run _ rfl _ 49 rfl _ rfl _ _ (hcl _ _) ?_)
    go_ret
    obtain ⟨hG2, hB2, hs2, hT2, hgb, hm, hn⟩ := HR.out
    exact ⟨_, rfl, ⟨by rw [flat_length]; simp only [List.length_append, List.length_take, List.length_drop]; omega, .inr ⟨g, c, C2, rfl, hgb, hG2, by omega, hm, hs2, hT2⟩⟩, hB2.mono fun i _ e => by rw [e]; rfl⟩
end Go.Proofs.YtiafjbhekfpkbaaGreatDoor
namespace Go.Proofs.YtiafjbhekfpkbaaGreatDoor
set_option linter.unusedSimpArgs false
set_option linter.unusedVariables false
open Go.ChangeShapes Go.WideShapes Go.ChangeAt Go.RowKit

/-- Of the first k rows each one's key is greater than the one's ahead. -/
def risesTo (L : List Rw) : Nat → Bool
  | 0 => true
  | k + 1 => risesTo L k && decide ((nth L k).k < (nth L (k + 1)).k)
def rises (L : List Rw) : Bool := risesTo L (L.length - 1)
theorem risesTo_false {L : List Rw} {k : Nat} (h : (nth L k).k ≥ (nth L (k + 1)).k) : ∀ {n : Nat}, k < n → risesTo L n = false
  | 0, hn => by omega
  | n + 1, hn => by
    unfold risesTo
    rcases Nat.lt_or_ge k n with hk | hk
    · rw [risesTo_false h hk]; rfl
    · obtain rfl : k = n := by omega
      rw [decide_eq_false (by omega), Bool.and_false]
theorem risesTo_step {L : List Rw} {k : Nat} (h : risesTo L k = true) (hk : (nth L k).k < (nth L (k + 1)).k) : risesTo L (k + 1) = true := by
  unfold risesTo; rw [h, decide_eq_true hk]; rfl

theorem isAt_no {L : List Rw} {key : Int} (h : ∀ i, i < L.length → (nth L i).k < key) : findN L key = L.length ∧ isAt L key = false := by
  have hf : findN L key = L.length := findN_eq (Nat.le_refl _) h (fun hh => by omega)
  refine ⟨hf, ?_⟩
  unfold isAt
  rw [hf, decide_eq_false (by omega)]; rfl
theorem isAt_yes {L : List Rw} {key : Int} {k : Nat} (hk : k < L.length) (h : ∀ i, i < k → (nth L i).k < key) (hh : key ≤ (nth L k).k) : findN L key = k ∧ isAt L key = decide ((nth L k).k = key) := by
  have hf : findN L key = k := findN_eq (by omega) h (fun _ => hh)
  refine ⟨hf, ?_⟩
  unfold isAt
  rw [hf, decide_eq_true hk, Bool.true_and]

end Go.Proofs.YtiafjbhekfpkbaaGreatDoor
