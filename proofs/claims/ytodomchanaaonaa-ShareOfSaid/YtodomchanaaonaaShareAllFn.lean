/- share.All. -/
import Derived.Test.YtodomchanaaonaaShareOfFn
import Derived.Maps.AppendAt
import Derived.Deep.WholeRow
namespace Go.Proofs.Ytodomchanaaonaa
open Go.ChangeShapes Go.WideShapes Go.ChangeAt Go.RowKit

/-- An append onto a row of the call's own, as a step of a region that draws: what comes out is the old block, or the next new one. -/
theorem step_append_own_at {P : Program} {ops : Array Oper} {o : Oper} {a : Act} {w : World} {K : Act → World → Prop} {Q : Exit → Act → World → Prop} {E : Prop} (hgd : o.guard = none) (s x : Operand) (t : TypeId)
    (ho : o.op = .call { callee := .builtin .append, args := #[s, x], argTypes := #[t, t] })
    (base : Nat) (e : TypeId) (i : TypeInfo) (z : Value) (size bytes : Nat) (ht : P.underlying t = some (.slice e)) (hi : P.info? e = some i) (hz : i.zero = some z)
    (hsize : i.size = size) (hby : i.bytes = bytes) (hzs : z.cells.size = size) (hsz : 0 < size)
    (v : Value) (n : Nat) (xs : List Value) (hs : a.eval s = v) (hown : w.ownsRow base e size v n xs)
    (ad : Addr) (m c : Nat) (news : List Value) (hx : a.eval x = .slice (some ad) m c) (hl : news.length = m * size) (hnews : ∀ j u, news[j]? = some u → w.cell? (ad.add j) = some u) (h1 : ∀ u ∈ news, u.oneCell' = true)
    (h63 : n + m ≤ maxLen) (hbytes : (n + m) * bytes ≤ 140737488355328) (hbase : base ≤ w.heap.size)
    (h : ∀ v' w', w'.ownsRow base e size v' (n + m) (xs ++ news) → w.grownBy w' v.ownBlock → (v'.ownBlock = v.ownBlock ∨ v'.ownBlock = some w.heap.size) → K (a.put o.dst v') w') :
    if Region.wanted o (yielded ops a.tmps) = true then Oper.wp P o a w K Q else E := by
  have hw : Region.wanted o (yielded ops a.tmps) = true := by simp [Region.wanted, hgd]
  rw [if_pos hw]
  obtain ⟨v', w', hr, h2, h3, h4, h5⟩ := run_append_own_at (P := P) w base t o.type e i z size bytes ht hi hz hsize hby hzs hsz v n xs hown ad m c news hl hnews h1 h63 hbytes hbase
  unfold Oper.wp execOp
  simp only [ho, resolve, invoke, builtin, Sem.run_bind, Sem.run_pure, Result.andThen_ok, List.map_toArray, List.map_cons, List.map_nil, hs, hx, hr]
  exact h v' w' h2 h3 h5

/-- The n-th share of a list's first m opers. -/
def shareUp (L : List Opr) (n m : Nat) : List Opr := keepUp (shareB ((n / 4 : Nat) : Int) ((n % 4 : Nat) : Int)) L m
theorem shareB_at {o : Opr} {n : Nat} : shareB ((n / 4 : Nat) : Int) ((n % 4 : Nat) : Int) o = (whichB o && decide (whichN o = (n : Int))) := by
  have hw := which_bounds o
  unfold shareB
  congr 1
  rw [Bool.eq_iff_iff, Bool.and_eq_true, decide_eq_true_eq, decide_eq_true_eq, decide_eq_true_eq]
  omega
theorem shareUp_at (L : List Opr) (n i : Nat) : shareUp L n (i + 1) = bif whichB (oprN L i) && decide (whichN (oprN L i) = (n : Int)) then shareUp L n i ++ [oprN L i] else shareUp L n i := by
  rw [← shareB_at]; rfl
theorem shareUp_long (L : List Opr) (n i : Nat) : (shareUp L n i).length ≤ i := keepUp_len _ L i

def addrOf : Value → Option Addr
  | .slice a _ _ => a
  | _ => none
def capOf : Value → Nat
  | .slice _ _ c => c
  | _ => 0
/-- All shares of the first i opers, each in a row of its own. -/
structure AllR (w : World) (L : List Opr) (i : Nat) (V : Nat → Value) (W : World) : Prop where
  bel : Below w.heap.size w W
  res : Row W w.heap.size 44 16 (fun _ => .slice none 0 0)
  row : Row W (w.heap.size + 1) 44 16 V
  own : ∀ j, j < 16 → W.ownsRow (w.heap.size + 2) 35 16 (V j) (shareUp L j i).length (flatF opF (shareUp L j i))
  ne : ∀ j k, j < 16 → k < 16 → j ≠ k → ∀ b, (V j).ownBlock = some b → (V k).ownBlock ≠ some b
theorem AllR.keep {w W W' : World} {L : List Opr} {i : Nat} {V : Nat → Value} (h : AllR w L i V W) (hb : Below W.heap.size W W') : AllR w L i V W' :=
  ⟨h.bel.trans (hb.mono h.bel.size), h.res.keep hb, h.row.keep hb, fun j hj => own_keep (h.own j hj) hb, h.ne⟩
theorem AllR.skip {w W : World} {L : List Opr} {i : Nat} {V : Nat → Value} (h : AllR w L i V W) (hb : whichB (oprN L i) = false) : AllR w L (i + 1) V W :=
  ⟨h.bel, h.res, h.row, fun j hj => by rw [shareUp_at, hb]; exact h.own j hj, h.ne⟩
theorem AllR.grown {w W w4 : World} {L : List Opr} {i : Nat} {V : Nat → Value} (h : AllR w L i V W) {ob : Obj} {j : Nat} (hj : j < 16) (hg : (W.drew.alloc ob).grownBy w4 (V j).ownBlock) :
    Row w4 w.heap.size 44 16 (fun _ => .slice none 0 0) ∧ Row w4 (w.heap.size + 1) 44 16 V := by
  have h1 := (h.res.drew.alloc ob).grown hg (fun e => by have := ((h.own j hj).lt _ e).1; omega)
  have h2 := (h.row.drew.alloc ob).grown hg (fun e => by have := ((h.own j hj).lt _ e).1; omega)
  exact ⟨h1, h2⟩
theorem AllR.next {w W w4 : World} {L : List Opr} {i : Nat} {V : Nat → Value} {v' : Value} (h : AllR w L i V W) {ob : Obj} {j : Nat} (hj : j < 16) (hb : whichB (oprN L i) = true) (hn : whichN (oprN L i) = (j : Int)) (hg : (W.drew.alloc ob).grownBy w4 (V j).ownBlock)
    (hown : w4.ownsRow (w.heap.size + 2) 35 16 v' ((shareUp L j i).length + 1) (flatF opF (shareUp L j i) ++ opF (oprN L i))) (hat : v'.ownBlock = (V j).ownBlock ∨ v'.ownBlock = some (W.drew.alloc ob).heap.size) :
    AllR w L (i + 1) (fun k => if k = j then v' else V k) (w4.setCell ⟨w.heap.size + 1, j, none⟩ v') := by
  obtain ⟨hr, hro⟩ := h.grown hj hg
  have hbel : Below w.heap.size w w4 := by
    have h1 : Below w.heap.size w (W.drew.alloc ob) := h.bel.drew.alloc h.bel.size ob
    exact below_grown h1 hg (fun k hk => by have := ((h.own j hj).lt _ hk).1; omega) h1.size
  have hv' : v'.ownBlock ≠ some (w.heap.size + 1) := fun e => by have := (hown.lt _ e).1; omega
  refine ⟨hbel.setCell (p := ⟨w.heap.size + 1, j, none⟩) (by show w.heap.size ≤ w.heap.size + 1; omega) _, hr.far (p := ⟨w.heap.size + 1, j, none⟩) (by show w.heap.size ≠ w.heap.size + 1; omega) _, hro.set_ j v', fun k hk => ?_, fun k1 k2 h1 h2 hne b => ?_⟩
  · have hsh := shareUp_at L k i
    rw [hb, hn, Bool.true_and] at hsh
    by_cases e : k = j
    · subst e
      rw [decide_eq_true rfl] at hsh
      rw [hsh, if_pos rfl]
      simp only [cond, List.length_append, List.length_cons, List.length_nil, flatF_append, flatF_single]
      exact own_setCell hown hv' v'
    · rw [decide_eq_false (by omega)] at hsh
      rw [hsh, if_neg e]
      simp only [cond]
      have ho := own_keep (h.own k hk) (((Below.refl W.heap.size W).drew).alloc (Nat.le_refl _) ob)
      have hne2 : (V k).ownBlock = none ∨ (V k).ownBlock ≠ (V j).ownBlock := by
        rcases hx : (V k).ownBlock with _ | b
        · exact .inl rfl
        · exact .inr fun he => h.ne k j hk hj e b hx he.symm
      have ho2 := ho.kept hg hne2
      exact own_setCell ho2 (fun e => by have := (ho2.lt _ e).1; simp at this) v'
  · have hold : ∀ k, k < 16 → (V k).ownBlock ≠ some (W.drew.alloc ob).heap.size := fun k hk e => by
      have := (own_keep (h.own k hk) (Below.refl _ _).drew).lt _ e
      simp at this
      omega
    by_cases e1 : k1 = j
    · subst e1
      rw [if_pos rfl, if_neg (fun e => hne e.symm)]
      rcases hat with ha | ha
      · rw [ha]; exact h.ne k1 k2 h1 h2 hne b
      · rw [ha]; rintro ⟨⟩ e; exact hold k2 h2 e
    · rw [if_neg e1]
      by_cases e2 : k2 = j
      · subst e2
        rw [if_pos rfl]
        rcases hat with ha | ha
        · rw [ha]; exact h.ne k1 k2 h1 h2 hne b
        · rw [ha]; intro e3 e4; exact hold k1 h1 (e3.trans e4.symm)
      · rw [if_neg e2]; exact h.ne k1 k2 h1 h2 hne b

set_option maxRecDepth 100000 in
set_option maxHeartbeats 4000000 in
theorem sAllFn_any (A : Option Addr) (c : Nat) (L : List Opr) (hL : L.length ≤ 1000000) (w : World) (ha : LiesC w A (flatF opF L)) :
    Calls Try.prog 14 #[.slice A L.length c] w fun e w' => ∃ (B : Nat → Option Addr) (C : Nat → Nat), e = .returned (.agg (rowOf 16 fun i => .slice (B i) (shareUp L i L.length).length (C i))) ∧ (∀ i, i < 16 → LiesC w' (B i) (flatF opF (shareUp L i L.length))) ∧ Below w.heap.size w w' := by
  obtain ⟨i0, hi0, hz0, hz1, hz3⟩ := infoOpr
  have HA := Lib.hid ha
  have C1 := Lib.hid (fun o W => sWhich_any o W)
  have hsl := shareUp_long L
  clear ha
  generalize hn : L.length = n at *
  go_enter Try.func14, Try.ntmps14
  go_upto_region 2 with fail
  generalize hW : World.alloc _ _ = W0
  obtain ⟨hB0, hr0, hr1⟩ := two_blocks w 44 44 16 16 (fun _ => .slice none 0 0) (fun _ => .slice none 0 0) W0 hW
  clear hW
  have HR0 : Hid (AllR w L 0 (fun _ => .slice none 0 0) W0) := Lib.hid ⟨hB0, hr0, hr1, fun j _ => World.ownsRow_nil _ _ _ _, fun j k _ _ _ b hb => by simp [Value.ownBlock] at hb⟩
  clear hB0 hr0 hr1
  go_wp2_with fail
  go_loopw [10] (fun i wr => ∃ (k : Nat) (V : Nat → Value), i = .int .i64 k ∧ k ≤ n ∧ AllR w L k V wr) (fun i _ => n - (intOf i).toNat)
  case atStart => exact ⟨0, _, rfl, Nat.zero_le _, HR0.out⟩
  case round =>
    obtain ⟨k, V, rfl, hk, R⟩ := hrel
    clear HR0
    by_cases hlt : k < n
    · obtain ⟨b1, off1, rfl, hb1, x1⟩ := (HA.out.keep R.bel).atO (by omega)
      obtain ⟨p0, p1, p2, p3, p4, p5, p6, p7, p8, p9, p10, p11, p12, p13, p14, p15⟩ := opr_cells (x1 k (by omega))
      have HR := Lib.hid R
      have HSK := Lib.hid (fun W hb => AllR.skip (w := w) (L := L) (i := k) (V := V) (W := W) hb)
      have HNX := Lib.hid (fun j (hj : j < 16) W w4 v' ob h hb hn hg hown hat => AllR.next (w := w) (L := L) (i := k) (V := V) (W := W) (w4 := w4) (v' := v') (j := j) (ob := ob) h hj hb hn hg hown hat)
      have hwb := which_bounds (oprN L k)
      have hskl : ∀ j, (shareUp L j k).length ≤ k := fun j => hsl j k
      clear x1 R
      go_upto_region 5 with fail
      generalize hW : World.alloc _ _ = W
      obtain ⟨hB, hx⟩ := one_cells _ _ _ W hW
      obtain ⟨q0, q1, q2, q3, q4, q5, q6, q7, q8, q9, q10, q11, q12, q13, q14, q15⟩ := opr_cells (w := W) (b := wr.heap.size) (o := 0) (x := oprN L k) (fun j _ => by rw [Nat.zero_add]; exact hx.cell j)
      simp only [Nat.zero_add] at q1 q2 q3 q4 q5 q6 q7 q8 q9 q10 q11 q12 q13 q14 q15
      have HRW := Lib.hid (HR.out.keep hB)
      have HX := Lib.hid hx
      clear hW hB HR p0 p1 p2 p3 p4 p5 p6 p7 p8 p9 p10 p11 p12 p13 p14 p15 hb1 hx hsl
      generalize oprN L k = o at *
      have hfold : (#[.int .i64 o.th, .int .i64 o.c.op, .int .i64 o.c.l, .int .i64 o.c.key, .int .u64 o.c.pa, .int .u64 o.c.pb, .int .u64 o.c.hd, .int .i64 o.c.r, .int .i64 o.a.e, .int .u64 o.a.a, .int .u64 o.a.b, .int .u64 o.a.h, .int .i64 o.a.n, .int .i64 o.a.k, .int .i64 o.fr, .int .i64 o.to] : Array Value) = (opF o).toArray := rfl
      go_upto_region 6 with (go_at_call 7; refine (C1.out _ _).mono ?_; rintro e w1 ⟨rfl, hb⟩)
      have HR1 := Lib.hid (HRW.out.keep hb)
      have hx1 := HX.out.keep hb
      clear hb HX HRW q0 q1 q2 q3 q4 q5 q6 q7 q8 q9 q10 q11 q12 q13 q14 q15
      generalize hj : whichN o = x at *
      obtain ⟨j, rfl⟩ : ∃ j : Nat, x = (j : Int) := ⟨x.toNat, by omega⟩
      clear hj
      generalize whichB o = b at *
      cases b
      · go_wp2_with fail
        go_roundw
        case rel => exact ⟨k + 1, V, by go_num, by omega, HSK.out _ HR1.out rfl⟩
        case measure => simp [intOf]; omega
      · have hj16 : j < 16 := by omega
        have hjl := hskl j
        have HRG := Lib.hid (fun w4 hg => AllR.grown (w4 := w4) (ob := .cells (opF o).toArray 35) HR1.out hj16 hg)
        have hc := HR1.out.row.drew.cell hj16
        have hcA : (w1.alloc (.cells #[.int .i64 o.th, .int .i64 o.c.op, .int .i64 o.c.l, .int .i64 o.c.key, .int .u64 o.c.pa, .int .u64 o.c.pb, .int .u64 o.c.hd, .int .i64 o.c.r, .int .i64 o.a.e, .int .u64 o.a.a, .int .u64 o.a.b, .int .u64 o.a.h, .int .i64 o.a.n, .int .i64 o.a.k, .int .i64 o.fr, .int .i64 o.to] 35)).cell? ⟨w.heap.size + 1, j, none⟩ = some (V j) := (HR1.out.row.alloc (.cells (opF o).toArray 35)).cell hj16
        have HO := Lib.hid (own_keep (own_keep (HR1.out.own j hj16) (Below.refl _ _).drew) ((Below.refl _ _).alloc (Nat.le_refl _) (.cells (opF o).toArray 35)))
        have HN := Lib.hid (Cells.new w1.drew (opF o).toArray 35).news
        have HLE := Lib.hid (show w.heap.size + 2 ≤ (w1.drew.alloc (.cells (opF o).toArray 35)).heap.size by have := HR1.out.row.lt; simp; omega)
        have hxd := hx1.drew
        obtain ⟨q0, q1, q2, q3, q4, q5, q6, q7, q8, q9, q10, q11, q12, q13, q14, q15⟩ := opr_cells (w := w1.drew) (b := wr.heap.size) (o := 0) (x := o) (fun j _ => by rw [Nat.zero_add]; exact hxd.cell j)
        simp only [Nat.zero_add] at q1 q2 q3 q4 q5 q6 q7 q8 q9 q10 q11 q12 q13 q14 q15
        have t1 : (0 : Int) ≤ (j : Int) := by omega
        have t2 : (j : Int) < 16 := by omega
        clear hxd hx1 hwb hskl hfold
        go_upto_region 7 with fail
        go_region_law (refine step_append_own_at rfl _ _ 22 rfl (w.heap.size + 2) 35 i0 (.agg (opF ⟨0, zeroC, zeroA, 0, 0⟩).toArray) 16 128 Try.underlying22 hi0 hz0 hz1 hz3 rfl (by decide) (V j) (shareUp L j k).length (flatF opF (shareUp L j k)) (by simp [Act.eval, Act.put]) HO.out ⟨w1.heap.size, 0, none⟩ 1 1 (opF o) (by simp [Act.eval, Act.put]) rfl HN.out (opF_one _) (by unfold maxLen; omega) (by omega) HLE.out ?_
                       intro v2 w4 hown hgrow hat
                       obtain ⟨A4, c4, rfl, -⟩ := lnIs_of_own hown
                       have hG := HRG.out w4 hgrow
                       have hf4 := hG.2.frozen j
                       have hc4 := hG.2.cell hj16
                       have HZ := Lib.hid (HNX.out j hj16 w1 w4 _ _ HR1.out rfl rfl hgrow hown hat); clear hown hgrow hat hG)
        all_goals
          go_wp2_with fail
          go_roundw
          case rel => exact ⟨k + 1, _, by go_num, by omega, HZ.out⟩
          case measure => simp [intOf]; omega
    · obtain rfl : k = n := by omega
      have hLs : ∀ j, j < 16 → V j = .slice (addrOf (V j)) (shareUp L j k).length (capOf (V j)) ∧ LiesC wr (addrOf (V j)) (flatF opF (shareUp L j k)) := fun j hj => by
        obtain ⟨A4, c4, e, -, -, -, hl4, -⟩ := lnIs_of_own (R.own j hj)
        rw [e]
        exact ⟨rfl, hl4⟩
      have hr : Row wr (w.heap.size + 1) 44 16 (fun j => .slice (addrOf (V j)) (shareUp L j k).length (capOf (V j))) := R.row.congr fun j hj => (hLs j hj).1
      have hres := R.res
      have HF := Lib.hid (show ∀ j, j < 16 → LnIs wr (V j) (shareUp L j k).length (flatF opF (shareUp L j k)) ∧ Far (w.heap.size + 2) (V j) from fun j hj => ⟨lnIs_of_own (R.own j hj), far_of_own (R.own j hj)⟩)
      have HBL := Lib.hid R.bel
      clear R hLs
      go_wp2_with (first
        | (refine wpList_load_row rfl 44 _ rfl (w.heap.size + 1) rfl 44 (rowOf 16 fun j => .slice (addrOf (V j)) (shareUp L j k).length (capOf (V j))) (0, 0) _ hr Try.underlying44 rfl (by kernel_rfl) ?_)
        | (refine wpList_store_row rfl 44 _ _ rfl w.heap.size (rowOf 16 fun j => .slice (addrOf (V j)) (shareUp L j k).length (capOf (V j))) rfl rfl 44 (rowOf 16 fun _ => .slice none 0 0) hres (by kernel_rfl) rfl (rowOf_one fun _ => rfl) ?_))
      refine bodyPost_ret (results_cell_row (p := 2) (ty := 44) (by kernel_rfl) _ _ w.heap.size 44 (rowOf 16 fun j => .slice (addrOf (V j)) (shareUp L j k).length (capOf (V j))) (0, 0) _ rfl (hres.setRow_ _) Try.underlying44 rfl (by kernel_rfl)) rfl ?_
      refine ⟨fun j => addrOf (V j), fun j => capOf (V j), rfl, fun j hj => ?_, below_setRow_ HBL.out (Nat.le_refl _) _⟩
      obtain ⟨h1, h2⟩ := HF.out j hj
      have ho : Only (fun i => i = w.heap.size) wr (wr.setRow w.heap.size (rowOf 16 fun j => .slice (addrOf (V j)) (shareUp L j k).length (capOf (V j)))) := ⟨below_setRow_ (Below.refl 0 wr) (Nat.zero_le _) _, fun i _ hn => setRow_other _ _ _ _ hn⟩
      obtain ⟨A4, c4, e, -, -, -, hl4, -⟩ := h1.only ho fun b hb => by have := h2 b hb; omega
      have ea : addrOf (V j) = A4 := by rw [e]; rfl
      show LiesC _ (addrOf (V j)) _
      rw [ea]
      exact hl4
end Go.Proofs.Ytodomchanaaonaa
