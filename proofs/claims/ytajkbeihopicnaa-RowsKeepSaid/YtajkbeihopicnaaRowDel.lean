/- slices.Delete of one row of a slice of the call's own. -/
import Derived.Test.YtajkbeihopicnaaRowIns
namespace Go.Proofs.Ytajkbeihopicnaa
open Go.ChangeShapes Go.WideShapes Go.ChangeAt Go.RowKit Go.Shelf

/-- append onto a row that is known whole, with room. -/
theorem run_append_rows {P : Program} (w : World) (t ty e : TypeId) (i : TypeInfo) (ht : P.underlying t = some (.slice e)) (hi : P.info? e = some i) (g sLen sCap : Nat) (cur : Array Value) (tr : TypeId) (hg : w.heap[g]? = some (.cells cur tr (0, 0)))
    (a : Addr) (m c N : Nat) (news : List Value) (hl : news.length = m * i.size) (hnews : ∀ j u, news[j]? = some u → w.cell? (a.add j) = some u) (h1 : ∀ u ∈ news, u.oneCell' = true) (hN : sLen + m = N) (hroom : N ≤ sCap) (hfit : sLen * i.size + news.length ≤ cur.size) :
    (Builtin.append_ #[t, t] ty #[.slice (some ⟨g, 0, none⟩) sLen sCap, .slice (some a) m c]).run P w = .ok (.slice (some ⟨g, 0, none⟩) N sCap) (w.setRow g (cur.toList.take (sLen * i.size) ++ news ++ cur.toList.drop (sLen * i.size + news.length)).toArray) := by
  subst hN
  have hfc := run_firstCells_some (P := P) w i.size m a m c news hl hnews
  have hst := run_storeCells_at P g (sLen * i.size) tr news 0 cur w hg (by simpa using hfit) h1
  simp only [Nat.add_zero] at hst
  simp [Builtin.append_, run_underlying ht, sizeOf, typeInfo, hi, Builtin.lenOf, hroom, hfc, Addr.add_lit, hst]

/-- clear of some rows. -/
theorem run_clear_rows {P : Program} (w : World) (t e ty : TypeId) (z : Value) (zs : List Value) (ht : P.underlying t = some (.slice e)) (hv : ∀ w, (zeroValue e).run P w = .ok z w) (g o n c : Nat) (cur : Array Value) (tr : TypeId) (hg : w.heap[g]? = some (.cells cur tr (0, 0)))
    (hzs : (Builtin.zeroCells z.cells (n + 1)).toList = zs) (h1 : ∀ u ∈ zs, u.oneCell' = true) (hfit : o + zs.length ≤ cur.size) :
    (Builtin.clear_ #[t] ty #[.slice (some ⟨g, o, none⟩) (n + 1) c]).run P w = .ok (.tuple #[]) (w.setRow g (cur.toList.take o ++ zs ++ cur.toList.drop (o + zs.length)).toArray) := by
  have hst := run_storeCells_at P g o tr zs 0 cur w hg (by simpa using hfit) h1
  simp only [Nat.add_zero] at hst
  simp [Builtin.clear_, run_underlying ht, hv, hzs, hst]

theorem wpList_clear_run {P : Program} (w : World) {ops : Array Oper} {rest : List Oper} {o : Oper} {a : Act} {Q : Exit → Act → World → Prop} (hgd : o.guard = none) (x : Operand) (t : TypeId)
    (ho : o.op = .call { callee := .builtin .clear, args := #[x], argTypes := #[t] }) (vx : Value) (hx : a.eval x = vx)
    (v' : Value) (w' : World) (hr : (Builtin.clear_ #[t] o.type #[vx]).run P w = .ok v' w') (h : wpList P ops Q rest (a.put o.dst v') w') : wpList P ops Q (o :: rest) a w :=
  wpList_plain hgd fun K hK => by
    unfold Oper.wp execOp
    simp only [ho, resolve, invoke, builtin, Sem.run_bind, Sem.run_pure, Result.andThen_ok, List.map_toArray, List.map_cons, List.map_nil, hx, hr]
    exact hK _ _ h
theorem step_append_runI {P : Program} {ops : Array Oper} {o : Oper} {a : Act} {w : World} {K : Act → World → Prop} {Q : Exit → Act → World → Prop} {E : Prop}
    (hg : o.guard = none) (d x : Operand) (dT sT : TypeId) (hop : o.op = Op.call { callee := Callee.builtin Builtin.append, args := #[d, x], argTypes := #[dT, sT] })
    (v u : Value) (hd : a.eval d = v) (hx : a.eval x = u) {v' : Value} {w' : World} (hr : (Builtin.append_ #[dT, sT] o.type #[v, u]).run P w = .ok v' w') (hK : K (a.put o.dst v') w') :
    if Region.wanted o (yielded ops a.tmps) = true then Oper.wp P o a w K Q else E := by
  have hw : Region.wanted o (yielded ops a.tmps) = true := by simp [Region.wanted, hg]
  rw [if_pos hw]
  unfold Oper.wp
  simp [execOp, hop, resolve, invoke, builtin, hd, hx, hr, Result.andThen]
  exact hK

theorem only_setRow {F : Nat → Prop} {w0 w : World} {g : Nat} (h : Only F w0 w) (hg : F g) (cs : Array Value) : Only F w0 (w.setRow g cs) :=
  ⟨h.1.trans ⟨rfl, rfl, rfl, by simp [World.setRow], fun k hk => absurd hk (Nat.not_lt_zero _)⟩, fun i hi hn => (setRow_other w g i cs (by rintro rfl; exact hn hg)).trans (h.2 i hi hn)⟩

set_option maxHeartbeats 4000000 in
set_option maxRecDepth 100000 in
theorem rDelete_any (base : Nat) (v : Value) (L : List Rw) (m p : Nat) (hL : m + 1 ≤ 1000000) (hp : p ≤ m) (w : World) (hown : w.ownsRow base 27 3 v (m + 1) (flat L)) (hb0 : base ≤ w.heap.size) :
    Calls Try.prog 20 #[v, .int .i64 p, .int .i64 ((p : Int) + 1)] w fun e w' => ∃ v', e = .returned v' ∧ w'.ownsRow base 27 3 v' m (flat (L.take p ++ L.drop (p + 1))) ∧ Only (fun i => v.ownBlock = some i) w w' := by
  obtain ⟨i0, hi0, hz0, hz1, hz3⟩ := infoR
  have hn : m + 1 = L.length := by have := hown.1; rw [flat_length] at this; omega
  obtain ⟨g, c, rfl, _, _⟩ := hown.form (by omega)
  obtain ⟨cur, hgb, hg, hmx, hcs, htk, hnc⟩ : ∃ cur, base ≤ g ∧ w.heap[g]? = some (.cells cur 27 (0, 0)) ∧ c ≤ maxLen ∧ cur.size = c * 3 ∧ cur.toList.take ((m + 1) * 3) = flat L ∧ m + 1 ≤ c := by
    rcases hown.2 with ⟨h, _⟩ | ⟨g', cap, cur, h, h1, h2, h6, h3, h4, h5⟩
    · cases h
    · cases h; exact ⟨cur, h1, h2, h3, h4, h5, h6⟩
  have hmx' : c ≤ 9223372036854775807 := by unfold maxLen at hmx; omega
  have hdl : (flat (L.drop (p + 1))).length = (m - p) * 3 := by rw [flat_length, List.length_drop, ← hn]; omega
  have hcell : ∀ j v, (flat L)[j]? = some v → w.cell? ⟨g, j, none⟩ = some v := fun j v hj => by
    rw [cell_of_row w g j cur _ (0, 0) hg, ← hj, ← htk]
    rw [← htk, List.getElem?_take] at hj
    rw [List.getElem?_take]
    split at hj
    · rename_i hlt; rw [if_pos hlt]; simp
    · cases hj
  obtain ⟨C1, hC1⟩ : ∃ C1 : Array Value, C1 = (cur.toList.take (p * 3) ++ flat (L.drop (p + 1)) ++ cur.toList.drop (p * 3 + (flat (L.drop (p + 1))).length)).toArray := ⟨_, rfl⟩
  have hC1s : C1.size = c * 3 := by rw [hC1]; simp [hcs, hdl]; omega
  have hC1t : C1.toList.take (m * 3) = flat (L.take p ++ L.drop (p + 1)) := by
    have e1 : cur.toList.take (p * 3) = flat (L.take p) := by
      rw [flat_take, ← htk, List.take_take]; congr 1; omega
    rw [hC1, e1, ← flat_append]
    exact List.take_left' (by simp only [flat_length, List.length_append, List.length_take, List.length_drop]; omega)
  obtain ⟨W1, hW1⟩ : ∃ W1, W1 = w.drew.setRow g C1 := ⟨_, rfl⟩
  have hap : ∀ ty (ad : Addr) (sc : Nat), (m = p ∨ ad = ⟨g, (p + 1) * 3, none⟩) → (Builtin.append_ #[22, 22] ty #[.slice (some ⟨g, 0, none⟩) p c, .slice (some ad) (m - p) sc]).run Try.prog w.drew = .ok (.slice (some ⟨g, 0, none⟩) m c) W1 := fun ty ad sc had => by
    have h := run_append_rows w.drew 22 ty 27 i0 Try.underlying22 hi0 g p c cur 27 hg ad (m - p) sc m (flat (L.drop (p + 1))) (by rw [hz1, hdl])
      (fun j v hj => by
        rcases had with h0 | rfl
        · subst h0
          have : (flat (L.drop (m + 1))).length ≤ j := by rw [hdl]; omega
          rw [List.getElem?_eq_none this] at hj; cases hj
        · rw [add_row]; exact hcell _ v (by rw [flat_drop, List.getElem?_drop] at hj; exact hj)) (flat_one _) (by omega) (by omega) (by rw [hz1, hdl]; omega)
    rw [h, hz1, hW1, hC1]
  have hG1 : W1.heap[g]? = some (.cells C1 27 (0, 0)) := by rw [hW1]; exact setRow_heap w.drew g cur C1 _ _ hg
  have hB1 : Only (fun i => i = g) w W1 := by rw [hW1]; exact only_setRow (F := fun i => i = g) (Only.refl _ w).drew rfl C1
  obtain ⟨C2, hC2⟩ : ∃ C2 : Array Value, C2 = (C1.toList.take (m * 3) ++ [Value.int .i64 0, .int .u64 0, .int .u64 0] ++ C1.toList.drop (m * 3 + 3)).toArray := ⟨_, rfl⟩
  obtain ⟨W2, hW2⟩ : ∃ W2, W2 = W1.setRow g C2 := ⟨_, rfl⟩
  have hcl : ∀ ty sc, (Builtin.clear_ #[22] ty #[.slice (some ⟨g, m * 3, none⟩) 1 sc]).run Try.prog W1 = .ok (.tuple #[]) W2 := fun ty sc => by
    have h := run_clear_rows W1 22 27 ty (.agg #[.int .i64 0, .int .u64 0, .int .u64 0]) [.int .i64 0, .int .u64 0, .int .u64 0] Try.underlying22 Try.zeroValue27 g (m * 3) 0 sc C1 27 hG1 (by simp [Builtin.zeroCells, Value.cells, Array.range, List.range, List.range.loop]) (by intro u hu; simp at hu; rcases hu with rfl | rfl | rfl <;> rfl) (by simp; omega)
    rw [h, hW2, hC2]; rfl
  have hG2 : W2.heap[g]? = some (.cells C2 27 (0, 0)) := by rw [hW2]; exact setRow_heap W1 g C1 C2 _ _ hG1
  have hB2 : Only (fun i => i = g) w W2 := by rw [hW2]; exact only_setRow (F := fun i => i = g) hB1 rfl C2
  have hC2s : C2.size = c * 3 := by rw [hC2]; simp [hC1s]; omega
  have hC2t : C2.toList.take (m * 3) = flat (L.take p ++ L.drop (p + 1)) := by
    rw [← hC1t, hC2]
    simp only [List.append_assoc]
    exact List.take_left' (by simp [hC1s]; omega)
  have HR := Lib.hid (And.intro hG2 (And.intro hB2 (And.intro hC2s (And.intro hC2t (And.intro hgb (And.intro hmx hn))))))
  clear hG2 hB2 hC2s hC2t hC2 hC1s hC1 hC1t hW2 hG1 hB1 hg htk hcell hown hcs hdl hgb hmx hn hi0 hz0 hz1 hz3
  have HW := Lib.hid hW1; clear hW1
  have h2 : ¬ ((p : Int) = (p : Int) + 1) := by omega
  have h2' : ((p : Int) == (p : Int) + 1) = false := by simpa using h2
  have ht1 : ((p : Int) + 1).toNat = p + 1 := by omega
  have hb1 : (0 : Int) ≤ (p : Int) + 1 := by omega
  have hin : (p : Int) ≤ (p : Int) + 1 := by omega
  have hb3 : (p : Int) + 1 ≤ (m : Int) + 1 := by omega
  have hb4 : ¬ (c = p) := by omega
  have hb5 : ¬ (c = m) := by omega
  have hb6 : (m : Int) ≤ (m : Int) + 1 := by omega
  have hb7 : (m : Int) + 1 ≤ (c : Int) := by omega
  have hb8 : p ≤ c := by omega
  have hb9 : (p : Int) ≤ (c : Int) := by omega
  have hb10 : p ≤ m := hp
  have ht2 : ((m : Int) + 1).toNat = m + 1 := by omega
  have mixed : Try.prog.follows .mixedOrders = true := by kernel_rfl
  by_cases hc : c = p + 1
  · obtain rfl : p = m := by omega
    subst hc
    have hap' : ∀ ty, (Builtin.append_ #[22, 22] ty #[.slice (some ⟨g, 0, none⟩) p (p + 1), .slice (some ⟨g, 0, none⟩) 0 0]).run Try.prog w.drew = .ok (.slice (some ⟨g, 0, none⟩) p (p + 1)) W1 := fun ty => by
      have h := hap ty ⟨g, 0, none⟩ 0 (.inl rfl)
      rw [Nat.sub_self] at h
      exact h
    clear hap
    go_enter Try.func20, Try.ntmps20
    go_wp2
    go_region_law_o (refine step_append_runI rfl _ _ 22 22 rfl (.slice (some ⟨g, 0, none⟩) p (p + 1)) (.slice (some ⟨g, 0, none⟩) 0 0) (by simp [Act.eval, Act.put]) (by simp [Act.eval, Act.put]) (hap' _) ?_)
    go_wp2_with (at_builtin; refine wpList_clear_run _ rfl _ 22 rfl _ rfl _ _ (hcl _ _) ?_)
    go_ret
    obtain ⟨hG2, hB2, hs2, hT2, hgb, hm, hn⟩ := HR.out
    exact ⟨_, rfl, ⟨by rw [flat_length]; simp only [List.length_append, List.length_take, List.length_drop]; omega, .inr ⟨g, p + 1, C2, rfl, hgb, hG2, by omega, hm, hs2, hT2⟩⟩, hB2.mono fun i _ e => by rw [e]; rfl⟩
  · have hap' := fun ty sc => hap ty _ sc (.inr rfl)
    clear hap
    go_enter Try.func20, Try.ntmps20
    go_wp2
    go_region_law_o (refine step_append_runI rfl _ _ 22 22 rfl (.slice (some ⟨g, 0, none⟩) p c) (.slice (some ⟨g, (p + 1) * 3, none⟩) (m - p) (c - (p + 1))) (by simp [Act.eval, Act.put]) (by simp [Act.eval, Act.put]) (hap' _ _) ?_)
    go_wp2_with (at_builtin; refine wpList_clear_run _ rfl _ 22 rfl _ rfl _ _ (hcl _ _) ?_)
    go_ret
    obtain ⟨hG2, hB2, hs2, hT2, hgb, hm, hn⟩ := HR.out
    exact ⟨_, rfl, ⟨by rw [flat_length]; simp only [List.length_append, List.length_take, List.length_drop]; omega, .inr ⟨g, c, C2, rfl, hgb, hG2, by omega, hm, hs2, hT2⟩⟩, hB2.mono fun i _ e => by rw [e]; rfl⟩
end Go.Proofs.Ytajkbeihopicnaa
