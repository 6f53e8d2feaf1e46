/- hist.Opers. -/
import Derived.Test.YtckcliimngeieaaInTurn
import Derived.Test.YtckcliimngeieaaHistTold
import Derived.Test.YtckcliimngeieaaRowSet
import Derived.Test.YtckcliimngeieaaRoundRegion
import Derived.Deep.RegionHeld3
import Derived.Shelf.AbstractIn
import Derived.Maps.AppendAt
namespace Go.Proofs.Ytckcliimngeieaa
open Go.ChangeShapes Go.WideShapes Go.ChangeAt Go.RowKit Go.Shelf
set_option linter.unusedVariables false
set_option linter.unusedSimpArgs false
attribute [local go_sem] Oper.semAt_some

theorem told_snoc {L : List Ev} {pre : List (Nat × Int)} {x : Nat × Int} {k : Nat} (h : pre ++ [x] = toldUp L k) (hk : k ≤ L.length) : pre = toldUp L pre.length ∧ x = (pre.length, turnN L pre.length) ∧ pre.length < L.length := by
  have hl := congrArg List.length h
  rw [toldUp_len, List.length_append, List.length_cons, List.length_nil] at hl
  subst hl
  rw [Nat.zero_add, toldUp_succ] at h
  have h2 := List.append_inj' h rfl
  exact ⟨h2.1, by simpa using h2.2, by omega⟩

/-- What the loop keeps: the four boxes, the list so far. -/
structure OpsR (w : World) (A : Option Addr) (m c G : Nat) (v : Value) (os : List Opr) (W : World) : Prop where
  box : Boxed W w.heap.size 22 (.slice A m c)
  res : Boxed W (w.heap.size + 1) 24 (.slice none 0 0)
  var : Boxed W (w.heap.size + 2) 24 v
  own : W.ownsRow G 39 16 v os.length (flatF opF os)
  bel : Below w.heap.size w W
theorem opsR_only {w : World} {A : Option Addr} {m c G B : Nat} {v : Value} (hB : w.heap.size + 4 ≤ B) : AbC B G (OpsR w A m c G v) := fun os W W' h ho =>
  ⟨(ho.2 _ h.box.lt (by omega)).trans h.box, (ho.2 _ h.res.lt (by omega)).trans h.res, (ho.2 _ h.var.lt (by omega)).trans h.var, own_onlyC h.own ho (by omega), Below.only h.bel ho h.bel.size (fun i hi => by omega)⟩

theorem OpsR.keep {w : World} {A : Option Addr} {m c G : Nat} {v : Value} {os : List Opr} {W W' : World} (h : OpsR w A m c G v os W) (hb : Below W.heap.size W W') : OpsR w A m c G v os W' :=
  ⟨(hb.block _ h.box.lt).trans h.box, (hb.block _ h.res.lt).trans h.res, (hb.block _ h.var.lt).trans h.var, own_keep h.own hb, h.bel.trans (hb.mono h.bel.size)⟩
theorem only_grow {F : Nat → Prop} {W W' : World} {row : Option Nat} (hg : W.grownBy W' row) (hr : ∀ r, row = some r → F r) : Only F W W' :=
  ⟨(Below.refl 0 W).grown hg (Nat.zero_le _) (fun _ _ => Nat.zero_le _), fun i hi hn => hg.block i hi (fun e => hn (hr i e.symm))⟩
/-- An oper put behind: of the row's blocks only the one that was its own, or a new one, has turned. -/
theorem OpsR.more {w : World} {A : Option Addr} {m c G d : Nat} {os : List Opr} {W w1 : World} {v v' : Value} {ob : Obj} {o : Opr} (h : OpsR w A m c G v os W) (hG : w.heap.size + 4 ≤ G) (hd : ∀ k, v.ownBlock = some k → k < d)
    (hown : w1.ownsRow G 39 16 v' (os.length + 1) (flatF opF os ++ opF o)) (hg : (W.alloc ob).grownBy w1 v.ownBlock) :
    Boxed w1 (w.heap.size + 2) 24 v ∧ OpsR w A m c G v' (os ++ [o]) (w1.setCell ⟨w.heap.size + 2, 0, none⟩ v') ∧ Only (fun i => (i = w.heap.size + 1 ∨ i = w.heap.size + 2) ∨ (G ≤ i ∧ i < d)) W (w1.setCell ⟨w.heap.size + 2, 0, none⟩ v') := by
  have ho : Only (fun i => G ≤ i ∧ i < d) W w1 := (only_below ((Below.refl _ W).alloc (Nat.le_refl _) ob) _).trans (only_grow hg fun r e => ⟨(h.own.lt r e).1, hd r e⟩)
  have hv1 : Boxed w1 (w.heap.size + 2) 24 v := (ho.2 _ h.var.lt (by omega)).trans h.var
  have ho2 : Only (fun i => (i = w.heap.size + 1 ∨ i = w.heap.size + 2) ∨ (G ≤ i ∧ i < d)) W (w1.setCell ⟨w.heap.size + 2, 0, none⟩ v') := (ho.mono fun i _ hi => .inr hi).setCell (p := ⟨w.heap.size + 2, 0, none⟩) (.inl (.inr rfl)) v'
  refine ⟨hv1, ⟨(ho2.2 _ h.box.lt (by omega)).trans h.box, ((Below.heap_setCell w1 ⟨w.heap.size + 2, 0, none⟩ v' _ (by show _ ≠ w.heap.size + 2; omega)).trans (ho.2 _ h.res.lt (by omega))).trans h.res, hv1.set v', ?_, Below.only h.bel ho2 h.bel.size (fun i hi => by omega)⟩, ho2⟩
  rw [List.length_append, flatF_append, flatF_single]
  exact own_setCell hown (fun e => by have := (hown.lt _ e).1; simp at this; omega) v'
/-- An oper in the list answered. -/
theorem OpsR.put {w : World} {A : Option Addr} {m c G g cap t : Nat} {os : List Opr} {o : Opr} {W W' : World} (h : OpsR w A m c G (.slice (some ⟨g, 0, none⟩) os.length cap) os W) (hG : w.heap.size + 4 ≤ G) (hr : W'.ownsRow G 39 16 (.slice (some ⟨g, 0, none⟩) os.length cap) os.length (flatF opF (os.set t o)))
    (hgG : G ≤ g) (ho : Only (fun i => i = g) W W') : OpsR w A m c G (.slice (some ⟨g, 0, none⟩) os.length cap) (os.set t o) W' :=
  ⟨(ho.2 _ h.box.lt (by omega)).trans h.box, (ho.2 _ h.res.lt (by omega)).trans h.res, (ho.2 _ h.var.lt (by omega)).trans h.var, by rw [List.length_set]; exact hr, Below.only h.bel ho h.bel.size (fun i hi => by omega)⟩

theorem set_opr {L : List Opr} {t : Nat} (ht : t < L.length) {a1 a2 a3 a4 a5 a6 k : Int} : (((((((flatF opF L).set (t * 16 + 8) (.int .i64 a1)).set (t * 16 + 8 + 1) (.int .u64 a2)).set (t * 16 + 8 + 2) (.int .u64 a3)).set (t * 16 + 8 + 3) (.int .u64 a4)).set (t * 16 + 8 + 4) (.int .i64 a5)).set (t * 16 + 8 + 5) (.int .i64 a6)).set (t * 16 + 15) (.int .i64 k) =
    flatF opF (L.set t ⟨(oprN L t).th, (oprN L t).c, ⟨a1, a2, a3, a4, a5, a6⟩, (oprN L t).fr, k⟩) := by
  have hl := take_len opF_len L ht
  rw [flatF_at L ht, flatF_set L ht]
  simp only [Nat.add_assoc]
  rw [set_behind hl, set_behind hl, set_behind hl, set_behind hl, set_behind hl, set_behind hl, set_behind hl]
  rfl

set_option maxRecDepth 100000 in
set_option maxHeartbeats 2000000 in
theorem hOpers_any (A : Option Addr) (c : Nat) (L : List Ev) (hL : L.length ≤ 1000000) (w : World) (ha : LiesC w A (flatF evF L)) :
    Calls Try.prog 7 #[.slice A L.length c] w fun e w' => ∃ v, e = .returned v ∧ LnIs w' v (opersL L).length (flatF opF (opersL L)) ∧ Far w.heap.size v ∧ Below w.heap.size w w' := by
  refine (callsIn_wide (n := 8)).1 ?_
  have HA := Lib.hid ha
  have HML := Lib.hid (may_told L)
  have HOP := Lib.hid (opers_told L)
  clear ha
  generalize hm : L.length = m at *
  have HM := Lib.hid hm; clear hm
  have hf1 : Fence.wide.fn 18 := trivial
  have hf2 : Fence.wide.fn 24 := trivial
  refine callsIn_of_wp_marks Try.func7 rfl trivial ?_ rfl
  simp only [Try.ntmps7, List.size_toArray, List.length_cons, List.length_nil, Nat.reduceAdd, Nat.reduceSub, Array.replicate_succ, Array.replicate_zero, List.push_toArray, List.append_toArray, List.nil_append, List.cons_append]
  gi_upto_region 2 with fail
  generalize hW : World.alloc _ _ = W
  have b0 : Boxed W w.heap.size 22 (.slice A m c) := by rw [← hW]; exact ((Boxed.new w _ _).alloc _).alloc _
  have b1 : Boxed W (w.heap.size + 1) 24 (.slice none 0 0) := by
    rw [← hW]
    have := (Boxed.new (w.alloc (.cells #[.slice A m c] 22)) 24 (.slice none 0 0)).alloc (.cells #[.slice none 0 0] 24)
    rwa [World.size_alloc] at this
  have b2 : Boxed W (w.heap.size + 2) 24 (.slice none 0 0) := by
    rw [← hW]
    have := Boxed.new ((w.alloc (.cells #[.slice A m c] 22)).alloc (.cells #[.slice none 0 0] 24)) 24 (.slice none 0 0)
    rwa [World.size_alloc, World.size_alloc] at this
  have hB : Below w.heap.size w W := by rw [← hW]; exact (((Below.refl _ w).alloc (Nat.le_refl _) _).alloc (by simp) _).alloc (by simp; omega) _
  have hs : W.heap.size = w.heap.size + 3 := by rw [← hW]; simp
  clear hW
  have k0 := b0.cell
  gi_wp2_with (gi_at_call 18; refine (callsIn_wide.2 (inTurn_any A m c _)).mono ?_; rintro e w' ⟨rfl, rfl⟩)
  have R0 : OpsR w A m c (w.heap.size + 9) (.slice none 0 0) [] (W.alloc (.cells #[.slice A m c] 22)) := ⟨b0.alloc _, b1.alloc _, b2.alloc _, World.ownsRow_nil _ _ _ _, hB.alloc hB.size _⟩
  have bL : Boxed (W.alloc (.cells #[.slice A m c] 22)) (w.heap.size + 3) 22 (.slice A m c) := by
    have := Boxed.new W 22 (.slice A m c)
    rwa [hs] at this
  have hsz : (W.alloc (.cells #[.slice A m c] 22)).heap.size = w.heap.size + 4 := by simp [hs]
  obtain ⟨W0, hW0⟩ : ∃ W0, W.alloc (.cells #[.slice A m c] 22) = W0 := ⟨_, rfl⟩
  rw [hW0] at R0 bL hsz ⊢
  clear hW0 b0 b1 b2 hB hs k0 W
  have hl0 := HA.out.keep R0.bel
  have hlt := ev_lt HA.out
  obtain ⟨i0, hi0, hz0, hz1, hz3⟩ := infoOpr
  refine wpIn_rangeC (M := fun i => i = w.heap.size + 1 ∨ i = w.heap.size + 2) rfl (by omega) (gf := 24) (lb := #[.pointer (some ⟨w.heap.size + 3, 0, none⟩)]) rfl trivial (enters_of Try.func24 (by kernel_rfl) rfl)
    (inTurn_stops (fun i => i = w.heap.size + 1 ∨ i = w.heap.size + 2) (w.heap.size + 3) c A L (by rw [HM.out]; exact hL) W0 (fun i hi => by omega) (by omega) (fun a e h0 => by have := hlt a e h0; omega) (by rw [HM.out]; exact bL.cell) hl0)
    (Below.refl _ _) (fun i hi => by omega) (fun _ => rfl)
    (fun (pre : List (Nat × Int)) W => (∃ v, OpsR w A m c (w.heap.size + 9) v (opsT L pre.length) W) ∧ ∀ p ∈ pre, p.2 ≠ -1)
    (fun c' (pre : List (Nat × Int)) W => (c' = .ret ∧ ∃ p ∈ pre, p.2 = -1) ∧ Boxed W (w.heap.size + 1) 24 (.slice none 0 0) ∧ Below w.heap.size w W)
    (AbC.and (fun s W W' ⟨v, hs⟩ ho => by rw [hsz] at ho; exact ⟨v, opsR_only (Nat.le_refl _) _ W W' hs ho⟩) (AbC.pure _ _ _))
    (fun c => AbC.and (AbC.pure _ _ _) (fun s W W' hs ho => ⟨(ho.2 _ hs.1.lt (by omega)).trans hs.1, Below.only hs.2 ho hs.2.size (fun i hi => by omega)⟩))
    ⟨⟨_, R0⟩, fun p hp => by cases hp⟩
    (fun x a' W => a' = { tmps := #[.slice A m c, .pointer (some ⟨w.heap.size, 0, none⟩), .pointer (some ⟨w.heap.size + 1, 0, none⟩), .pointer (some ⟨w.heap.size + 1 + 1, 0, none⟩), .int .i64 (x.1 : Int), .int .i64 x.2, undef, .slice A m c, .func (.func 24) #[] #[.pointer (some ⟨w.heap.size + 3, 0, none⟩)], .int .i64 (x.1 : Int), .int .i64 x.2, undef, undef, undef, undef, undef, undef, undef, undef, undef, undef, undef, undef, undef, undef, undef, undef, undef, undef, undef, undef, undef, undef, undef, undef, undef, undef, undef, undef, undef], defers := [] })
    (fun x a' => AbC.pure _ _ _)
    ?assign ?body ?done ?stop
  case assign =>
    rintro l pre ⟨i, v⟩ W K hz hi hK
    simp only [told2]
    gi_wp2
    exact hK _ _ (Below.refl _ _) rfl
  case body =>
    rintro l pre ⟨i, v⟩ a' V W n1 hz hn1 hn2 ⟨⟨vv, RV⟩, hp⟩ hoV rfl ⟨k, hk, hpk⟩
    obtain ⟨t1, t2, t3⟩ := told_snoc hpk hk
    obtain ⟨rfl, rfl⟩ := Prod.mk.inj t2
    rw [hsz] at hz hoV ⊢
    have R := opsR_only (Nat.le_refl _) _ V W RV hoV
    have hdv : ∀ k, vv.ownBlock = some k → k < V.heap.size := fun k e => (RV.own.lt k e).2
    clear RV hoV
    have HI := Lib.hid (turn_in t3 (by rw [← t1]; exact hp))
    have hlp : (pre ++ [(pre.length, turnN L pre.length)]).length = pre.length + 1 := by simp
    clear t2 hpk
    have k0 := R.box.cell
    have k1 := R.res.cell
    have k1f := R.res.frozen
    obtain ⟨b, off, rfl, hb, x1⟩ := (HA.out.keep R.bel).atE (by omega)
    obtain ⟨p0, p1, p2, p3, p4, p5, p6, p7, p8, p9, p10, p11, p12, p13, p14⟩ := ev_cells (x1 pre.length t3)
    have hq : (pre.length : Int) < m := by have := HM.out; omega
    clear x1
    have hT : Hid (opsT L (pre.length + 1) = bif (evN L pre.length).back then (opsT L pre.length).set (turnN L pre.length).toNat ⟨(oprN (opsT L pre.length) (turnN L pre.length).toNat).th, (oprN (opsT L pre.length) (turnN L pre.length).toNat).c, (evN L pre.length).a, (oprN (opsT L pre.length) (turnN L pre.length).toNat).fr, pre.length⟩ else opsT L pre.length ++ [⟨(evN L pre.length).th, (evN L pre.length).c, zeroA, pre.length, -1⟩]) := Lib.hid rfl
    have HP : Hid (turnN L pre.length ≠ -1 → ∀ p ∈ pre ++ [(pre.length, turnN L pre.length)], p.2 ≠ -1) := Lib.hid fun h1 p hp' => by
      rcases List.mem_append.1 hp' with h | h
      · exact hp p h
      · rw [List.mem_singleton.1 h]; exact h1
    have HQ : Hid (turnN L pre.length = -1 → ∃ p ∈ pre ++ [(pre.length, turnN L pre.length)], p.2 = -1) := Lib.hid fun h1 => ⟨_, List.mem_append_right _ (List.mem_singleton.2 rfl), h1⟩
    have hol := opsT_len L pre.length
    have HR := Lib.hid R
    clear hp R t1
    rw [← hlp] at hT
    clear hlp
    generalize hxs : pre ++ [(pre.length, turnN L pre.length)] = xs at *
    clear hxs
    generalize hos : opsT L pre.length = os at *
    clear hos
    generalize turnN L pre.length = v at *
    generalize hn : pre.length = q at *
    generalize evN L q = ev at *
    rcases ev with ⟨th, bk, cc, aa⟩
    dsimp only at *
    clear hn pre R0 bL hl0 hlt k hk
    by_cases h1 : v = -1
    · have HQ2 := Lib.hid (HQ.out h1)
      subst h1
      clear p0 p1 p2 p3 p4 p5 p6 p7 p8 p9 p10 p11 p12 p13 p14 HQ HP
      gi_wp2
      exact ⟨Only.setCell (Only.refl _ _) (p := ⟨w.heap.size + 1, 0, none⟩) (.inl (.inl rfl)) _, ⟨rfl, HQ2.out⟩, HR.out.res.set _, HR.out.bel.setCell (p := ⟨w.heap.size + 1, 0, none⟩) (Nat.le_succ _) _⟩
    · have HP2 := Lib.hid (HP.out h1)
      have HI2 := Lib.hid (HI.out h1)
      clear HI HP HQ
      gi_upto_region 8 with fail
      generalize hW2 : World.alloc _ _ = W2
      obtain ⟨hb2, hx⟩ := one_cells _ _ _ W2 hW2
      obtain ⟨q0, q1, q2, q3, q4, q5, q6, q7, q8, q9, q10, q11, q12, q13, q14⟩ := ev_cells (w := W2) (b := W.heap.size) (o := 0) (x := ⟨th, bk, cc, aa⟩) (fun j _ => by rw [Nat.zero_add]; exact hx.cell j)
      simp only [Nat.zero_add] at q1 q2 q3 q4 q5 q6 q7 q8 q9 q10 q11 q12 q13 q14
      dsimp only at q0 q1 q2 q3 q4 q5 q6 q7 q8 q9 q10 q11 q12 q13 q14
      have hz2 := hb2.size
      have HO2 := Lib.hid (only_below hb2 (Bdy (fun i => i = w.heap.size + 1 ∨ i = w.heap.size + 2) (w.heap.size + 4 + 2 + 3) V.heap.size n1))
      have R2 := HR.out.keep hb2
      have v1 := R2.var
      have v2 := R2.own
      have HX := Lib.hid hx
      have k0 := R2.box.cell
      clear hx hb2 hW2 HR p0 p1 p2 p3 p4 p5 p6 p7 p8 p9 p10 p11 p12 p13 p14 k1 k1f k0
      generalize hg2 : W.heap.size = g2 at *
      cases bk
      · obtain ⟨A2, c2, rfl, _⟩ := lnIs_of_own v2
        have k2 := v1.cell
        have HV := Lib.hid R2
        have HDV := Lib.hid hdv
        clear R2 v1 v2 hdv
        gi_wp2_with (gi_at_builtin; refine wpListIn_append_own _ rfl _ _ 24 rfl (w.heap.size + 9) 39 i0 (.agg (opF ⟨0, zeroC, zeroA, 0, 0⟩).toArray) 16 128 Try.underlying24 hi0 hz0 hz1 hz3 rfl (by decide) _ _ _ rfl (HV.out.own.alloc _) ⟨W2.heap.size, 0, none⟩ 1 1 (opF ⟨th, cc, zeroA, q, -1⟩) rfl rfl (Cells.new W2 (opF ⟨th, cc, zeroA, q, -1⟩).toArray 39).news (opF_one _) (by unfold maxLen; omega) (by omega) (by simp; omega) ?_; intro v' w1 hown' hgrow _; obtain ⟨g', cap', rfl⟩ := ownsRow_succ hown'; obtain ⟨m1, m2, m3⟩ := HV.out.more (by omega) HDV.out hown' hgrow; have hc1 := m1.cell; have hf1 := m1.frozen; have HM2 := Lib.hid (And.intro m2 m3); clear m1 m2 m3 hown' hgrow)
        refine ⟨HO2.out.trans (HM2.out.2.mono fun i _ h => h.elim .inl fun h => .inr (.inl ⟨by omega, by omega⟩)), ⟨.slice (some ⟨g', 0, none⟩) (os.length + 1) cap', ?_⟩, ?_⟩
        · rw [hT.out]
          exact HM2.out.1
        · simpa using HP2.out
      · obtain ⟨ht0, ht1⟩ := HI2.out rfl
        obtain ⟨t, rfl⟩ : ∃ t : Nat, v = t := ⟨v.toNat, by omega⟩
        obtain ⟨n', hn'⟩ : ∃ n', os.length = n' + 1 := ⟨os.length - 1, by omega⟩
        have v3 := v2
        rw [hn'] at v3
        obtain ⟨g, cap, rfl⟩ := ownsRow_succ v3
        clear v3
        have hgd := hdv g rfl
        rw [← hn'] at v1 v2
        rw [← hn'] at R2
        clear hdv
        clear hn' n'
        have k2 := v1.cell
        have hts : t < os.length := by omega
        have hgl := own_blockAt v2
        have hg2n : g2 ≠ g := fun e => by
          have h1 := HX.out
          rcases v2.2 with ⟨h, _⟩ | ⟨g', cap', cur, h2, h3, h4, _⟩
          · cases h
          · cases h2
            rw [← e] at h4
            rw [show W2.heap[g2]? = _ from h1] at h4
            simp at h4
        have hce : ∀ j, j < 16 → W2.cell? ⟨g, t * 16 + j, none⟩ = (opF (oprN os t))[j]? := fun j hj => by
          have h1 := flatF_get opF_len os t j hts hj
          have h2 : (opF (oprN os t))[j]? = some ((opF (oprN os t))[j]'(by rw [opF_len]; exact hj)) := List.getElem?_eq_getElem _
          rw [h2]
          exact own_cellAt v2 (h1.trans h2)
        have e8 := hce 8 (by omega)
        have e9 := hce 9 (by omega)
        have e10 := hce 10 (by omega)
        have e11 := hce 11 (by omega)
        have e12 := hce 12 (by omega)
        have e13 := hce 13 (by omega)
        have e15 := hce 15 (by omega)
        simp only [opF, List.getElem?_cons_succ, List.getElem?_cons_zero] at e8 e9 e10 e11 e12 e13 e15
        have hfz : ∀ j, W2.frozen? ⟨g, j, none⟩ = false := fun j => own_frozenAt v2 j
        have HV := Lib.hid R2
        have htn : (t : Int) < (os.length : Nat) := by omega
        have hrow := own_setAt (own_setAt (own_setAt (own_setAt (own_setAt (own_setAt (own_setAt v2 (t * 16 + 8) (.int .i64 aa.e)) (t * 16 + 8 + 1) (.int .u64 aa.a)) (t * 16 + 8 + 2) (.int .u64 aa.b)) (t * 16 + 8 + 3) (.int .u64 aa.h)) (t * 16 + 8 + 4) (.int .i64 aa.n)) (t * 16 + 8 + 5) (.int .i64 aa.k)) (t * 16 + 15) (.int .i64 (q : Nat))
        rw [set_opr (L := os) hts] at hrow
        have hon : Only (fun i => i = g) W2 (((((((W2.setCell ⟨g, t * 16 + 8, none⟩ (.int .i64 aa.e)).setCell ⟨g, t * 16 + 8 + 1, none⟩ (.int .u64 aa.a)).setCell ⟨g, t * 16 + 8 + 2, none⟩ (.int .u64 aa.b)).setCell ⟨g, t * 16 + 8 + 3, none⟩ (.int .u64 aa.h)).setCell ⟨g, t * 16 + 8 + 4, none⟩ (.int .i64 aa.n)).setCell ⟨g, t * 16 + 8 + 5, none⟩ (.int .i64 aa.k)).setCell ⟨g, t * 16 + 15, none⟩ (.int .i64 (q : Nat))).drew := by
          refine Only.drew ?_
          (repeat (with_reducible refine Only.setCell ?_ (by show g = g; rfl) _))
          with_reducible exact Only.refl _ _
        have HZ := Lib.hid (And.intro (own_keep hrow (Below.refl _ _).drew) hon)
        clear hrow hon
        clear R2 v1 v2 hce
        have HKS : Hid (∀ W', Only (fun i => i = g) W2 W' → W'.cell? ⟨w.heap.size + 1 + 1, 0, none⟩ = some (.slice (some ⟨g, 0, none⟩) os.length cap) ∧ W'.cell? ⟨g2, 9, none⟩ = some (.int .i64 aa.e) ∧ W'.cell? ⟨g2, 10, none⟩ = some (.int .u64 aa.a) ∧ W'.cell? ⟨g2, 11, none⟩ = some (.int .u64 aa.b) ∧ W'.cell? ⟨g2, 12, none⟩ = some (.int .u64 aa.h) ∧ W'.cell? ⟨g2, 13, none⟩ = some (.int .i64 aa.n) ∧ W'.cell? ⟨g2, 14, none⟩ = some (.int .i64 aa.k)) := Lib.hid fun W' ho => by
          have h1 := HV.out.var.lt
          have h2 : ∀ i v, W2.cell? ⟨g2, i, none⟩ = some v → W'.cell? ⟨g2, i, none⟩ = some v := fun i v h => (only_cell ho (a := ⟨g2, i, none⟩) (World.block_lt_of_cell? W2 _ h) (by show g2 ≠ g; omega)).trans h
          exact ⟨(only_cell ho (a := ⟨w.heap.size + 1 + 1, 0, none⟩) h1 (by show w.heap.size + 1 + 1 ≠ g; omega)).trans k2, h2 _ _ q9, h2 _ _ q10, h2 _ _ q11, h2 _ _ q12, h2 _ _ q13, h2 _ _ q14⟩
        have d8 : W2.drew.cell? ⟨g, t * 16 + 8, none⟩ = _ := e8
        have d9 : W2.drew.cell? ⟨g, t * 16 + 8 + 1, none⟩ = _ := e9
        have d10 : W2.drew.cell? ⟨g, t * 16 + 8 + 2, none⟩ = _ := e10
        have d11 : W2.drew.cell? ⟨g, t * 16 + 8 + 3, none⟩ = _ := e11
        have d12 : W2.drew.cell? ⟨g, t * 16 + 8 + 4, none⟩ = _ := e12
        have d13 : W2.drew.cell? ⟨g, t * 16 + 8 + 5, none⟩ = _ := e13
        have d15 : W2.drew.cell? ⟨g, t * 16 + 15, none⟩ = _ := e15
        have hfd : ∀ j, W2.drew.frozen? ⟨g, j, none⟩ = false := hfz
        have c9 : W2.cell? ⟨g, t * 16 + 8 + 1, none⟩ = _ := e9
        have c10 : W2.cell? ⟨g, t * 16 + 8 + 2, none⟩ = _ := e10
        have c11 : W2.cell? ⟨g, t * 16 + 8 + 3, none⟩ = _ := e11
        have c12 : W2.cell? ⟨g, t * 16 + 8 + 4, none⟩ = _ := e12
        have c13 : W2.cell? ⟨g, t * 16 + 8 + 5, none⟩ = _ := e13
        clear e9 e10 e11 e12 e13
        gi_upto_region 9 with fail
        refine wpIn_region_calm (fun w' => w'.cell? ⟨w.heap.size + 1 + 1, 0, none⟩ = some (.slice (some ⟨g, 0, none⟩) os.length cap) ∧ w'.cell? ⟨g2, 9, none⟩ = some (.int .i64 aa.e) ∧ w'.cell? ⟨g2, 10, none⟩ = some (.int .u64 aa.a) ∧ w'.cell? ⟨g2, 11, none⟩ = some (.int .u64 aa.b) ∧ w'.cell? ⟨g2, 12, none⟩ = some (.int .u64 aa.h) ∧ w'.cell? ⟨g2, 13, none⟩ = some (.int .i64 aa.n) ∧ w'.cell? ⟨g2, 14, none⟩ = some (.int .i64 aa.k)) (by kernel_rfl) (by kernel_rfl) (HKS.out _ (Only.refl _ _).drew) (fun hHeld => ?_)
        (refine wpAnyH_take (i := 0) (v := ?_) rfl (by kernel_rfl) (by kernel_rfl) (by kernel_rfl) (fun _ _ _ h => h) (Or.inl ⟨by rfl, ?_⟩) hHeld ?_; rotate_left; focus (intro w hSw; (try dsimp only at hSw); go_simp; (try with_reducible rfl)))
        try simp only [Act.put, List.getElem_toArray, List.getElem_cons_succ, List.getElem_cons_zero, List.setIfInBounds_toArray, List.set_cons_zero, List.set_cons_succ]
        (refine wpAnyH_take (i := 1) (v := ?_) rfl (by kernel_rfl) (by kernel_rfl) (by kernel_rfl) (fun _ _ _ h => h) (Or.inl ⟨by rfl, ?_⟩) hHeld ?_; rotate_left; focus (intro w hSw; (try dsimp only at hSw); go_simp; (try with_reducible rfl)))
        try simp only [Act.put, List.getElem_toArray, List.getElem_cons_succ, List.getElem_cons_zero, List.setIfInBounds_toArray, List.set_cons_zero, List.set_cons_succ]
        (refine wpAnyH_take (i := 2) (v := ?_) rfl (by kernel_rfl) (by kernel_rfl) (by kernel_rfl) (fun _ _ _ h => h) (Or.inl ⟨by rfl, ?_⟩) hHeld ?_; rotate_left; focus (intro w hSw; (try dsimp only at hSw); go_simp; (try with_reducible rfl)))
        try simp only [Act.put, List.getElem_toArray, List.getElem_cons_succ, List.getElem_cons_zero, List.setIfInBounds_toArray, List.set_cons_zero, List.set_cons_succ]
        (refine wpAnyH_take (i := 3) (v := ?_) rfl (by kernel_rfl) (by kernel_rfl) (by kernel_rfl) (fun _ _ _ h => h) (Or.inl ⟨by rfl, ?_⟩) hHeld ?_; rotate_left; focus (intro w hSw; (try dsimp only at hSw); go_simp; (try with_reducible rfl)))
        try simp only [Act.put, List.getElem_toArray, List.getElem_cons_succ, List.getElem_cons_zero, List.setIfInBounds_toArray, List.set_cons_zero, List.set_cons_succ]
        (refine wpAnyH_take (i := 4) (v := ?_) rfl (by kernel_rfl) (by kernel_rfl) (by kernel_rfl) (fun _ _ _ h => h) (Or.inl ⟨by rfl, ?_⟩) hHeld ?_; rotate_left; focus (intro w hSw; (try dsimp only at hSw); go_simp; (try with_reducible rfl)))
        try simp only [Act.put, List.getElem_toArray, List.getElem_cons_succ, List.getElem_cons_zero, List.setIfInBounds_toArray, List.set_cons_zero, List.set_cons_succ]
        (refine wpAnyH_take (i := 5) (v := ?_) rfl (by kernel_rfl) (by kernel_rfl) (by kernel_rfl) (fun _ _ _ h => h) (Or.inl ⟨by rfl, ?_⟩) hHeld ?_; rotate_left; focus (intro w hSw; (try dsimp only at hSw); go_simp; (try with_reducible rfl)))
        try simp only [Act.put, List.getElem_toArray, List.getElem_cons_succ, List.getElem_cons_zero, List.setIfInBounds_toArray, List.set_cons_zero, List.set_cons_succ]
        (refine wpAnyH_take (i := 6) (v := ?_) rfl (by kernel_rfl) (by kernel_rfl) (by kernel_rfl) (fun _ _ _ h => h) (Or.inl ⟨by rfl, ?_⟩) hHeld ?_; rotate_left; focus (intro w hSw; (try dsimp only at hSw); go_simp; (try with_reducible rfl)))
        try simp only [Act.put, List.getElem_toArray, List.getElem_cons_succ, List.getElem_cons_zero, List.setIfInBounds_toArray, List.set_cons_zero, List.set_cons_succ]
        (refine wpAnyH_take (i := 7) (v := ?_) rfl (by kernel_rfl) (by kernel_rfl) (by kernel_rfl) (fun _ _ _ h => h) (Or.inl ⟨by rfl, ?_⟩) hHeld ?_; rotate_left; focus (intro w hSw; (try dsimp only at hSw); go_simp; (try with_reducible rfl)))
        try simp only [Act.put, List.getElem_toArray, List.getElem_cons_succ, List.getElem_cons_zero, List.setIfInBounds_toArray, List.set_cons_zero, List.set_cons_succ]
        (refine wpAnyH_take (i := 8) (v := ?_) rfl (by kernel_rfl) (by kernel_rfl) (by kernel_rfl) (fun _ _ _ h => h) (Or.inl ⟨by rfl, ?_⟩) hHeld ?_; rotate_left; focus (intro w hSw; (try dsimp only at hSw); go_simp; (try with_reducible rfl)))
        try simp only [Act.put, List.getElem_toArray, List.getElem_cons_succ, List.getElem_cons_zero, List.setIfInBounds_toArray, List.set_cons_zero, List.set_cons_succ]
        (refine wpAnyH_ready (rs := [9]) (by kernel_rfl) (by simp) ?_; refine AllReadyH.cons rfl (fun K hK => ?_) AllReadyH.nil; go_simp; skip; (try go_wp2_with fail); refine hK.out _ _ ?_ (fun hHeld' => ?_); (focus ((refine HKS.out _ (Only.drew ?_); (repeat (with_reducible refine Only.setCell ?_ (by show g = g; rfl) _)); with_reducible exact Only.refl _ _))); clear hK K; replace hHeld := hHeld'; clear hHeld')
        try simp only [Act.put, List.getElem_toArray, List.getElem_cons_succ, List.getElem_cons_zero, List.setIfInBounds_toArray, List.set_cons_zero, List.set_cons_succ]
        (refine wpAnyH_take (i := 10) (v := ?_) rfl (by kernel_rfl) (by kernel_rfl) (by kernel_rfl) (fun _ _ _ h => h) (Or.inl ⟨by rfl, ?_⟩) hHeld ?_; rotate_left; focus (intro w hSw; (try dsimp only at hSw); go_simp; (try with_reducible rfl)))
        try simp only [Act.put, List.getElem_toArray, List.getElem_cons_succ, List.getElem_cons_zero, List.setIfInBounds_toArray, List.set_cons_zero, List.set_cons_succ]
        (refine wpAnyH_take (i := 11) (v := ?_) rfl (by kernel_rfl) (by kernel_rfl) (by kernel_rfl) (fun _ _ _ h => h) (Or.inl ⟨by rfl, ?_⟩) hHeld ?_; rotate_left; focus (intro w hSw; (try dsimp only at hSw); go_simp; (try with_reducible rfl)))
        try simp only [Act.put, List.getElem_toArray, List.getElem_cons_succ, List.getElem_cons_zero, List.setIfInBounds_toArray, List.set_cons_zero, List.set_cons_succ]
        (refine wpAnyH_ready (rs := [12]) (by kernel_rfl) (by simp) ?_; refine AllReadyH.cons rfl (fun K hK => ?_) AllReadyH.nil; go_simp; skip; (try go_wp2_with fail); refine hK.out _ _ ?_ (fun hHeld' => ?_); (focus ((refine HKS.out _ (Only.drew ?_); (repeat (with_reducible refine Only.setCell ?_ (by show g = g; rfl) _)); with_reducible exact Only.refl _ _))); clear hK K; replace hHeld := hHeld'; clear hHeld')
        try simp only [Act.put, List.getElem_toArray, List.getElem_cons_succ, List.getElem_cons_zero, List.setIfInBounds_toArray, List.set_cons_zero, List.set_cons_succ]
        refine wpAnyH_done (by kernel_rfl) ?_ _
        refine ⟨rfl, ?_⟩
        gi_wp2
        refine ⟨HO2.out.trans (HZ.out.2.mono fun i _ h => .inr (.inl ⟨by omega, by omega⟩)), ⟨.slice (some ⟨g, 0, none⟩) os.length cap, ?_⟩, ?_⟩
        · rw [hT.out, Int.toNat_natCast]
          exact HV.out.put (by omega) HZ.out.1 hgl.1 HZ.out.2
        · simpa using HP2.out
  case done =>
    rintro ys W rfl ⟨⟨v, R⟩, hp⟩ hK
    rw [toldUp_len] at R
    have k1 := R.res.cell
    have k1f := R.res.frozen
    have v1 := R.var
    have v2 := R.own
    obtain ⟨A2, c2, rfl, _⟩ := lnIs_of_own v2
    have k2 := v1.cell
    have HR := Lib.hid R
    clear R
    gi_wp2
    have hK' : (W.setCell ⟨w.heap.size + 1, 0, none⟩ (.slice A2 (opsT L L.length).length c2)).heap[W0.heap.size]? = some (.deferred (some [])) := (Below.heap_setCell W ⟨w.heap.size + 1, 0, none⟩ _ _ (by show _ ≠ w.heap.size + 1; omega)).trans hK
    refine ⟨by simp, .inl ⟨_, _, rfl, run_takeDeferred hK', ?_⟩⟩
    have hc5 := ((HR.out.res.set (.slice A2 (opsT L L.length).length c2)).kept (grownBy_putObj' _ W0.heap.size (.deferred none)) (fun e => by have := Option.some.inj e; omega)).cell
    have hbb : Below w.heap.size w ((W.setCell ⟨w.heap.size + 1, 0, none⟩ (.slice A2 (opsT L L.length).length c2)).putObj W0.heap.size (.deferred none)) := (HR.out.bel.setCell (p := ⟨w.heap.size + 1, 0, none⟩) (Nat.le_succ _) _).grown (grownBy_putObj' _ W0.heap.size (.deferred none)) (Nat.le_trans HR.out.bel.size (by simp)) (fun k e => by have := Option.some.inj e; omega)
    have hml : mayL L = true := by rw [HML.out, ← HM.out]; exact List.all_eq_true.2 fun p h => by simpa using hp p h
    have hop := HOP.out hml
    rw [← HM.out] at hop
    have ho : Only (fun i => i = w.heap.size + 1 ∨ i = W0.heap.size) W ((W.setCell ⟨w.heap.size + 1, 0, none⟩ (.slice A2 (opsT L L.length).length c2)).putObj W0.heap.size (.deferred none)) := (Only.setCell (Only.refl _ _) (p := ⟨w.heap.size + 1, 0, none⟩) (.inl rfl) _).trans (only_put _ _ _ (.inr rfl))
    have v3 := own_onlyC v2 ho (by omega)
    refine ⟨.slice A2 (opsT L L.length).length c2, ?_, _, rfl, ?_, (far_of_own v3).mono (by omega), hbb⟩
    · simp [results, Try.f7, go_sem, hc5]
    · rw [hop]
      exact lnIs_of_own v3
  case stop =>
    rintro c' pre W ⟨k, hk, rfl⟩ ⟨⟨rfl, p, hp, hv⟩, hx, hb⟩ hK
    have k1 := hx.cell
    gi_wp2
    refine ⟨by simp, .inl ⟨_, _, rfl, run_takeDeferred hK, ?_⟩⟩
    have hc5 := (hx.kept (grownBy_putObj' _ W0.heap.size (.deferred none)) (fun e => by have := Option.some.inj e; omega)).cell
    have hbb : Below w.heap.size w (W.putObj W0.heap.size (.deferred none)) := hb.grown (grownBy_putObj' _ W0.heap.size (.deferred none)) hb.size (fun k e => by have := Option.some.inj e; omega)
    have hml : mayL L = false := by rw [HML.out, ← HM.out]; exact List.all_eq_false.2 ⟨p, toldUp_mono hk hp, by rw [hv]; decide⟩
    have hop : opersL L = [] := by unfold opersL; rw [hml]; rfl
    refine ⟨.slice none 0 0, ?_, .slice none 0 0, rfl, ?_, (fun k hk => by cases hk), hbb⟩
    · simp [results, Try.f7, go_sem, hc5]
    · rw [hop]
      exact ⟨none, 0, rfl, Nat.le_refl _, by unfold maxLen; omega, fun _ => rfl, .inl rfl, fun a e => by cases e⟩
end Go.Proofs.Ytckcliimngeieaa
