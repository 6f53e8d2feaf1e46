/- Package script: the reader's program. · A call of a Go function, by its contract, as a step of a region that draws (whatever the callee does: it may panic). · Package script: the reader's script. · Package script: what Take's deferred function does. · Package script: Take. -/
import Derived.Test.YtdbankogamolcaaDoorJ14
import Derived.Test.YtdbankogamolcaaDoorJ4
import Derived.Test.YtdbankogamolcaaDoorJ21
import Derived.Test.YtdbankogamolcaaDoorJ0
import Derived.Deep.RegionLaw
import Derived.Shelf.Abstract
import Derived.Test.YtdbankogamolcaaDoorJ13
import Derived.Great.BuildSlice
import Derived.Stop.Asserts
import Derived.Tactics
import Derived.Tactics2
import Derived.Defers
import Derived.Recover
namespace Go.Proofs.YtdbankogamolcaaDoor
set_option linter.unusedSimpArgs false
set_option linter.unusedVariables false
set_option linter.unusedSimpArgs false
open Go.ChangeShapes Go.WideShapes Go.ChangeAt Go.RowKit

theorem own_only {F : Nat → Prop} {w w' : World} {base size n : Nat} {v : Value} {e : TypeId} {cs : List Value} (h : w.ownsRow base e size v n cs) (ho : Only F w w') (hn : ∀ b, v.ownBlock = some b → ¬ F b) : w'.ownsRow base e size v n cs := by
  refine ⟨h.1, ?_⟩
  rcases h.2 with h | ⟨g, cap, cur, h1, h2, h3, h4⟩
  · exact .inl h
  · exact .inr ⟨g, cap, cur, h1, h2, (ho.2 g (Array.getElem?_eq_some_iff.1 h3).1 (hn g (by rw [h1]; rfl))).trans h3, h4⟩
theorem takeCls_yes {L : List Int} {m i : Nat} {P : List Cl} (h : callK L i = 0) : takeCls L (m + 1) i P = takeCls L m (i + 35) (P ++ [takeCl L i]) := by
  unfold callK at h
  split at h
  · cases h
  · split at h
    · cases h
    · rename_i h1 h2
      show (if (L.length : Int) - i < 35 then ((4 : Int), i, P) else if mayC (byN L i) (byN L (i + 1)) (byN L (i + 2)) = false then (14, i, P) else takeCls L m (i + 35) (P ++ [takeCl L i])) = _
      rw [if_neg (by omega), if_neg h2]
theorem takeCls_no {L : List Int} {m i : Nat} {P : List Cl} (h : callK L i ≠ 0) : (takeCls L (m + 1) i P).1 = callK L i := by
  unfold callK at h ⊢
  show (if (L.length : Int) - i < 35 then ((4 : Int), i, P) else if mayC (byN L i) (byN L (i + 1)) (byN L (i + 2)) = false then (14, i, P) else takeCls L m (i + 35) (P ++ [takeCl L i])).1 = _
  by_cases h1 : L.length < i + 35
  · rw [if_pos h1, if_pos (by omega)]
  · rw [if_neg h1] at h ⊢
    rw [if_neg (by omega)]
    by_cases h2 : mayC (byN L i) (byN L (i + 1)) (byN L (i + 2)) = false
    · rw [if_pos h2, if_pos h2]
    · rw [if_neg h2] at h
      exact absurd rfl h
/-- What a program's bytes tell: the code, where they end, its calls. -/
def progT (L : List Int) (i : Nat) : Int × Nat × List Cl := if L.length ≤ i then (4, i, []) else if 40 < byN L i then (5, i, []) else takeCls L (byN L i).toNat (i + 1) []
def RdProg (p : Nat) (A : Option Addr) (c : Nat) (L : List Int) (i : Nat) (w : World) (e : Ending) (w' : World) : Prop :=
  ((progT L i).1 = 0 ∧ ∃ v, e = .returned v ∧ w'.ownsRow w.heap.size 61 7 v (progT L i).2.2.length (flatF clF (progT L i).2.2) ∧ RdIs w' p A c L (progT L i).2.1 ∧ (progT L i).2.1 ≤ L.length ∧ Only (onlyP p) w w') ∨ Ends p w e w' (progT L i).1
/-- Where it stands behind k calls. -/
structure PgR (w : World) (p : Nat) (A : Option Addr) (c : Nat) (L : List Int) (n k j : Nat) (X : Int × Nat × List Cl) (P : List Cl) (v : Value) (W : World) : Prop where
  len : P.length = k
  rest : X = takeCls L (n - k) j P
  jl : j ≤ L.length
  own : W.ownsRow w.heap.size 61 7 v k (flatF clF P)
  le : w.heap.size ≤ W.heap.size
  rd : RdIs W p A c L j
  on : Only (onlyP p) w W
set_option maxRecDepth 100000 in
set_option maxHeartbeats 4000000 in
theorem rProg_any {p : Nat} {A : Option Addr} {c : Nat} {L : List Int} {j : Nat} (hB : Byt L) (hl : L.length ≤ 2000000) (hj : j ≤ L.length) (w : World) (h : RdIs w p A c L j) :
    Calls Tryd.prog 57 #[.pointer (some ⟨p, 0, none⟩)] w (RdProg p A c L j w) := by
  obtain ⟨j0, hj0, hj1, hj2, hj3⟩ := infoCl
  have HBY := Lib.hid hB
  have HP := Lib.hid h.blk.lt
  have C1 := Lib.hid (rSmall_any hB hl hj w h)
  have hb := byN_bound hB j
  have HK4 : Hid (L.length ≤ j → (progT L j).1 = 4) := Lib.hid fun h => by unfold progT; rw [if_pos h]
  have HK5 : Hid (j + 1 ≤ L.length → 40 < byN L j → (progT L j).1 = 5) := Lib.hid fun h h2 => by unfold progT; rw [if_neg (by omega), if_pos h2]
  have HK0 : Hid (j + 1 ≤ L.length → ¬ 40 < byN L j → progT L j = takeCls L (byN L j).toNat (j + 1) []) := Lib.hid fun h h2 => by unfold progT; rw [if_neg (by omega), if_neg h2]
  clear h hB
  generalize byN L j = y at *
  go_enter Tryd.func57, Tryd.ntmps57
  go_upto_region 2 with (go_at_call 70; refine C1.out.mono ?_; rintro e w2 (⟨ha, rfl, hb, hc⟩ | ⟨ha, rfl, hc⟩); (case inr => refine And.intro rfl (Or.inr ?_); rw [HK4.out (by omega)]; exact ends_soon (Only.refl _ _) hc hl); have HRD := Lib.hid hb; have HON := Lib.hid hc; clear hb hc)
  by_cases h40 : 40 < y
  · have HK := Lib.hid (HK5.out ha h40)
    go_wp2_with (go_at_call 59; refine (rRefuse_any hl ha 5 (by decide) (by decide) _ HRD.out).mono ?_; rintro e w7 ⟨u, rfl, hu, hb⟩; have HU := Lib.hid hu; have HO := Lib.hid (HON.out.then hb); clear hu hb)
    exact ⟨rfl, .inr (by rw [HK.out]; exact ⟨by decide, u, rfl, HU.out, HO.out⟩)⟩
  · have HX := Lib.hid (HK0.out ha (by omega))
    obtain ⟨n, rfl⟩ : ∃ n : Nat, y = n := ⟨y.toNat, by omega⟩
    rw [Int.toNat_natCast] at HX
    generalize hxe : progT L j = X at *
    have HXE := Lib.hid hxe; clear hxe
    have HX1 := HX
    clear HK4 HK5 HK0
    go_wp2_with fail
    go_loopw [4, 12] (fun v i wr => ∃ (k j2 : Nat) (P : List Cl), i = .int .i64 k ∧ k ≤ n ∧ PgR w p A c L n k j2 X P v wr) (fun _ i _ => n - (intOf i).toNat)
    case atStart => exact ⟨0, j + 1, [], rfl, Nat.zero_le _, rfl, HX1.out, ha, World.ownsRow_nil _ _ _ _, HON.out.size, HRD.out, HON.out⟩
    case round =>
      obtain ⟨k, j2, P, rfl, hk, hR⟩ := hrel
      have HR := Lib.hid hR
      clear hR HX HX1
      by_cases hlt : k < n
      · obtain ⟨m, hm⟩ : ∃ m, n - k = m + 1 := ⟨n - k - 1, by omega⟩
        have CC : Hid (Calls Tryd.prog 72 #[.pointer (some ⟨p, 0, none⟩)] wr fun e w' => (callK L j2 = 0 ∧ e = .returned (.agg #[.int .i64 (takeCl L j2).op, .int .i64 (takeCl L j2).l, .int .i64 (takeCl L j2).key, .int .u64 (takeCl L j2).pa, .int .u64 (takeCl L j2).pb, .int .u64 (takeCl L j2).hd, .int .i64 (takeCl L j2).r]) ∧ RdIs w' p A c L (j2 + 35) ∧ j2 + 35 ≤ L.length ∧ Only (onlyP p) wr w') ∨ Ends p wr e w' (callK L j2)) := Lib.hid (rCall_any HBY.out hl HR.out.jl _ HR.out.rd)
        have HNO : Hid (callK L j2 ≠ 0 → X.1 = callK L j2) := Lib.hid fun h => by rw [HR.out.rest, hm]; exact takeCls_no h
        have HYES : Hid (callK L j2 = 0 → X = takeCls L (n - (k + 1)) (j2 + 35) (P ++ [takeCl L j2])) := Lib.hid fun h => by rw [HR.out.rest, hm, takeCls_yes h]; congr 1; omega
        generalize takeCl L j2 = x at *
        go_upto_region 8 with (first
          | (go_at_call 72; refine CC.out.mono ?_; rintro e w4 (⟨hk0, rfl, hb, hc, hd⟩ | ⟨hk0, u, rfl, hu, hd⟩); (case inr => refine And.intro rfl (Or.inr ?_); rw [HXE.out, HNO.out hk0]; exact ⟨hk0, u, rfl, hu, HR.out.on.trans hd⟩); have HRD2 := Lib.hid hb; have HON2 := Lib.hid hd; have HJ2 := Lib.hid hc; have HY2 := Lib.hid (HYES.out hk0); clear hb hd hc)
          | (at_builtin; refine wpList_append_own _ rfl _ _ 25 rfl w.heap.size 61 j0 (.agg (clF zeroCl).toArray) 7 56 Tryd.underlying25 hj0 hj1 hj2 hj3 rfl (by decide) _ _ _ rfl ((own_only HR.out.own HON2.out (fun b hb => by have := (HR.out.own.lt b hb).1; have := HP.out; unfold onlyP; omega)).alloc _) ⟨w4.heap.size, 0, none⟩ 1 1 (clF x) rfl rfl (Cells.new w4 (clF x).toArray 61).news (clF_one _) ?c3 ?c4 ?c5 ?_))
        case c3 => unfold maxLen; omega
        case c4 => omega
        case c5 => have := HR.out.le; have := HON2.out.size; simp; omega
        intro v' w5 hown hgrow _
        have hb5 : Below w.heap.size w4 w5 := below_grown ((Below.refl _ w4).alloc (by have := HR.out.le; have := HON2.out.size; omega) _) hgrow (fun b hb => (HR.out.own.lt b hb).1) (by have := HR.out.le; have := HON2.out.size; simp; omega)
        have HN5 : Hid (PgR w p A c L n (k + 1) (j2 + 35) X (P ++ [x]) v' w5) := Lib.hid ⟨by rw [List.length_append, HR.out.len]; rfl, HY2.out, HJ2.out, by rw [flatF_append, flatF_single]; exact hown, Nat.le_trans (by have := HR.out.le; have := HON2.out.size; omega) hb5.size, HRD2.out.past hb5 HP.out, (HR.out.on.trans HON2.out).past hb5⟩
        clear hown hgrow hb5
        go_wp2_with fail
        go_roundw
        case rel => exact ⟨k + 1, j2 + 35, P ++ [x], by go_num, by omega, HN5.out⟩
        case measure => simp [intOf]; omega
      · obtain rfl : k = n := by omega
        have HF : Hid (X = (0, j2, P)) := Lib.hid (by rw [HR.out.rest, Nat.sub_self]; rfl)
        go_wp2_with fail
        go_ret
        refine .inl ?_
        rw [HXE.out, HF.out]
        exact ⟨rfl, _, rfl, by rw [HR.out.len]; exact HR.out.own, HR.out.rd, HR.out.jl, HR.out.on⟩
end Go.Proofs.YtdbankogamolcaaDoor
namespace Go.Proofs.YtdbankogamolcaaDoor
set_option linter.unusedSimpArgs false
set_option linter.unusedVariables false
open Go.ChangeShapes Go.WideShapes Go.ChangeAt Go.RowKit

theorem step_callF {P : Program} {ops : Array Oper} {o : Oper} {a : Act} {w : World} {K : Act → World → Prop} {Q : Exit → Act → World → Prop} {E : Prop} {R : Ending → World → Prop} (hgd : o.guard = none) (f : FuncId) (args : Array Operand) (tys : Array TypeId)
    (ho : o.op = .call { callee := .value (.func f), args := args, argTypes := tys }) (eg : ∀ args w, (callFunc f args).run P w = .ok (.enter f args) w)
    (av : Array Value) (ha : args.map a.eval = av) (hc : Calls P f av w R)
    (h : ∀ e w', R e w' → (match e, w' with | .returned v, w'' => K (a.put o.dst v) w'' | .panicked chain, w'' => Q (.panic chain) a w'' | .outgrown, _ => LetsOut Q)) :
    if Region.wanted o (yielded ops a.tmps) = true then Oper.wp P o a w K Q else E := by
  subst ha
  have hw : Region.wanted o (yielded ops a.tmps) = true := by simp [Region.wanted, hgd]
  rw [if_pos hw]
  have hr : (execOp a.eval o).run P w = .ok (.enter f (args.map a.eval)) w := by
    unfold execOp
    simp only [ho]
    have h1 : Act.eval a (.func f) = .func (.func f) #[] #[] := rfl
    simp [resolve, invoke, h1, eg, Deferred.ofValue]
  unfold Oper.wp
  rw [hr, Oper.upon_enter]
  exact hc.mono h
end Go.Proofs.YtdbankogamolcaaDoor
namespace Go.Proofs.YtdbankogamolcaaDoor
set_option linter.unusedSimpArgs false
set_option linter.unusedVariables false
set_option linter.unusedSimpArgs false
open Go.ChangeShapes Go.WideShapes Go.ChangeAt Go.RowKit

/-- A world without the blocks from q on. -/
def cutW (q : Nat) (W : World) : World := { W with heap := W.heap.extract 0 q }
theorem cutW_size {q : Nat} {W : World} (h : q ≤ W.heap.size) : (cutW q W).heap.size = q := by
  show (W.heap.extract 0 q).size = q
  rw [Array.size_extract]
  omega
theorem cutW_below {q : Nat} {W : World} (h : q ≤ W.heap.size) : Below q (cutW q W) W := by
  refine ⟨rfl, rfl, rfl, by rw [cutW_size h]; exact h, fun i hi => ?_⟩
  show W.heap[i]? = (W.heap.extract 0 q)[i]?
  rw [Array.getElem?_extract]
  have : i < min q W.heap.size - 0 := by omega
  rw [if_pos this, Nat.zero_add]
theorem TkR.cut {w W : World} {q g B : Nat} {s : Scr} {F : Nat → Value} (h : TkR w q g B s F W) : TkR (cutW q W) q g B s F W :=
  ⟨cutW_size h.qle, cutW_below h.qle, h.low, h.lt, h.le, h.res, h.row, h.conf, h.own, h.ne⟩
theorem TkR.turn {w W W' : World} {p q g B : Nat} {s : Scr} {F : Nat → Value} (h : TkR w q g B s F W) (hp : p < q) (ho : Only (onlyP p) W W') : TkR (cutW q W') q g B s F W' := by
  have hq := Nat.le_trans h.qle ho.size
  have h1 := h.low; have h2 := h.lt
  refine ⟨cutW_size hq, cutW_below hq, h.low, h.lt, Nat.le_trans h.le ho.size, h.res.only ho (by unfold onlyP; omega), h.row.only ho (by unfold onlyP; omega), h.conf, fun k hk => own_only (h.own k hk) ho fun b hb => ?_, h.ne⟩
  have := ((h.own k hk).lt b hb).1
  unfold onlyP; omega
/-- What a script is stays where the result, or what was there before it, turns. -/
theorem TkR.is_far {w W W' : World} {q g B : Nat} {s : Scr} {F : Nat → Value} (h : TkR w q g B s F W) (ho : Only (fun b => b ≤ q) W W') : ScrIs W' F s := by
  have h1 := h.low
  have h2 := h.lt
  refine ⟨h.conf, fun t ht => SlC.of ((lnIs_of_own (h.ownC ht)).only ho fun b hb => ?_), SlC.of ((lnIs_of_own h.ownE).only ho fun b hb => ?_)⟩
  · have := far_of_own (h.ownC ht) b hb; omega
  · have := far_of_own h.ownE b hb; omega
/-- A program is stored. -/
theorem TkR.putP {w W : World} {q g B t : Nat} {s : Scr} {F : Nat → Value} {P : List Cl} {v' : Value} (h : TkR w q g B s F W) (ht : t < 8) (hown : W.ownsRow B 61 7 v' P.length (flatF clF P))
    (hne : ∀ k, k < 9 → k ≠ t → ∀ b, v'.ownBlock = some b → (F (14 + k)).ownBlock ≠ some b) :
    TkR w q g B ⟨s.c, setP s.p t P, s.e⟩ (fun i => if i = 14 + t then v' else F i) (W.setCell ⟨g, 14 + t, none⟩ v') := by
  have hlow := h.low
  have hlt := h.lt
  have hv' : v'.ownBlock ≠ some g := fun e => by have := (hown.lt _ e).1; omega
  have ho : ∀ k, k < 9 → k ≠ t → tkL ⟨s.c, setP s.p t P, s.e⟩ k = tkL s k ∧ tkC ⟨s.c, setP s.p t P, s.e⟩ k = tkC s k := fun k hk e => by
    unfold tkL tkC setP
    dsimp only
    split
    · first | exact ⟨rfl, rfl⟩ | (rw [if_neg e]; exact ⟨rfl, rfl⟩)
    · exact ⟨rfl, rfl⟩
  refine ⟨h.sz, h.bel.setCell (p := ⟨g, 14 + t, none⟩) (Nat.le_of_lt hlow) _, hlow, hlt, by rw [World.size_setCell]; exact h.le, h.res.far (p := ⟨g, 14 + t, none⟩) (by show q ≠ g; omega) _, h.row.set_ _ v', fun i hi => ?_, fun k hk => ?_, fun k1 k2 h1 h2 hnn b => ?_⟩
  · show (if i = 14 + t then v' else F i) = _
    rw [if_neg (by omega)]; exact h.conf i hi
  · show (W.setCell ⟨g, 14 + t, none⟩ v').ownsRow B (tkT k) (tkN k) (if 14 + k = 14 + t then v' else F (14 + k)) (tkL ⟨s.c, setP s.p t P, s.e⟩ k) (tkC ⟨s.c, setP s.p t P, s.e⟩ k)
    by_cases e : k = t
    · subst e
      rw [if_pos rfl, (tk_cl ht _).1, (tk_cl ht _).2, (tk_clT ht).1, (tk_clT ht).2]
      have : setP s.p k P k = P := if_pos rfl
      show (W.setCell ⟨g, 14 + k, none⟩ v').ownsRow B 61 7 v' (setP s.p k P k).length (flatF clF (setP s.p k P k))
      rw [this]
      exact own_setCell hown hv' v'
    · rw [if_neg (by omega), (ho k hk e).1, (ho k hk e).2]
      exact own_setCell (h.own k hk) (fun e => by have := ((h.own k hk).lt _ e).1; simp at this; omega) v'
  · show (if 14 + k1 = 14 + t then v' else F (14 + k1)).ownBlock = some b → (if 14 + k2 = 14 + t then v' else F (14 + k2)).ownBlock ≠ some b
    by_cases e1 : k1 = t
    · subst e1
      rw [if_pos rfl, if_neg (by omega)]
      exact hne k2 h2 (fun e => hnn e.symm) b
    · rw [if_neg (by omega)]
      by_cases e2 : k2 = t
      · subst e2
        rw [if_pos rfl]
        exact fun e3 e4 => hne k1 h1 e1 b e4 e3
      · rw [if_neg (by omega)]; exact h.ne k1 k2 h1 h2 hnn b
theorem own_low {w : World} {base base' size n : Nat} {v : Value} {e : TypeId} {cs : List Value} (h : w.ownsRow base e size v n cs) (hb : base' ≤ base) : w.ownsRow base' e size v n cs := by
  refine ⟨h.1, ?_⟩
  rcases h.2 with h | ⟨g, cap, cur, h1, h2, h3, h4⟩
  · exact .inl h
  · exact .inr ⟨g, cap, cur, h1, Nat.le_trans hb h2, h3, h4⟩
/-- Where the reading of a script stands. -/
structure SxR (w : World) (p : Nat) (A : Option Addr) (c : Nat) (L : List Int) (q g i : Nat) (s : Scr) (F : Nat → Value) (W : World) : Prop where
  rd : RdIs W p A c L i
  on : Only (onlyP p) w W
  il : i ≤ L.length
  tk : TkR (cutW q W) q g (g + 1) s F W
theorem takePs_yes {L : List Int} {n t i : Nat} {f : Nat → List Cl} (h : (progT L i).1 = 0) : takePs L (n + 1) t i f = takePs L n (t + 1) (progT L i).2.1 (setP f t (progT L i).2.2) := by
  unfold progT at h ⊢
  show (if L.length ≤ i then ((4 : Int), i, f) else if 40 < byN L i then (5, i, f) else if (takeCls L (byN L i).toNat (i + 1) []).1 = 0 then takePs L n (t + 1) (takeCls L (byN L i).toNat (i + 1) []).2.1 (setP f t (takeCls L (byN L i).toNat (i + 1) []).2.2) else ((takeCls L (byN L i).toNat (i + 1) []).1, i, f)) = _
  by_cases h1 : L.length ≤ i
  · rw [if_pos h1] at h; cases h
  · rw [if_neg h1] at h
    rw [if_neg h1, if_neg h1]
    by_cases h2 : 40 < byN L i
    · rw [if_pos h2] at h; cases h
    · rw [if_neg h2] at h
      rw [if_neg h2, if_neg h2, if_pos h]
theorem takePs_no {L : List Int} {n t i : Nat} {f : Nat → List Cl} (h : (progT L i).1 ≠ 0) : (takePs L (n + 1) t i f).1 = (progT L i).1 := by
  unfold progT at h ⊢
  show (if L.length ≤ i then ((4 : Int), i, f) else if 40 < byN L i then (5, i, f) else if (takeCls L (byN L i).toNat (i + 1) []).1 = 0 then takePs L n (t + 1) (takeCls L (byN L i).toNat (i + 1) []).2.1 (setP f t (takeCls L (byN L i).toNat (i + 1) []).2.2) else ((takeCls L (byN L i).toNat (i + 1) []).1, i, f)).1 = _
  by_cases h1 : L.length ≤ i
  · rw [if_pos h1, if_pos h1]
  · rw [if_neg h1] at h
    rw [if_neg h1, if_neg h1]
    by_cases h2 : 40 < byN L i
    · rw [if_pos h2, if_pos h2]
    · rw [if_neg h2] at h
      rw [if_neg h2, if_neg h2, if_neg h]
theorem takeEs_yes {L : List Int} {thr : Int} {n i : Nat} {E : List Ent} (h : E.length ≠ 60000) (h2 : entK L thr i = 0) : takeEs L thr (n + 1) i E = takeEs L thr n (i + 1) (E ++ [takeE L i]) := by
  unfold entK at h2
  show (if E.length = 60000 then ((5 : Int), E) else if 31 < byN L i ∨ thr ≤ byN L i % 8 then (3, E) else takeEs L thr n (i + 1) (E ++ [takeE L i])) = _
  rw [if_neg h]
  split at h2
  · exact absurd h2 (by decide)
  · rename_i h3; rw [if_neg h3]
theorem takeEs_no {L : List Int} {thr : Int} {n i : Nat} {E : List Ent} (h : E.length ≠ 60000) (h2 : entK L thr i ≠ 0) : (takeEs L thr (n + 1) i E).1 = entK L thr i := by
  unfold entK at h2 ⊢
  show (if E.length = 60000 then ((5 : Int), E) else if 31 < byN L i ∨ thr ≤ byN L i % 8 then (3, E) else takeEs L thr n (i + 1) (E ++ [takeE L i])).1 = _
  rw [if_neg h]
  split at h2
  · rename_i h3; rw [if_pos h3, if_pos h3]
  · exact absurd rfl h2
theorem takeEs_long {L : List Int} {thr : Int} {n i : Nat} {E : List Ent} (h : E.length = 60000) : (takeEs L thr (n + 1) i E).1 = 5 := by
  show (if E.length = 60000 then ((5 : Int), E) else if 31 < byN L i ∨ thr ≤ byN L i % 8 then (3, E) else takeEs L thr n (i + 1) (E ++ [takeE L i])).1 = _
  rw [if_pos h]
def RdScr (p : Nat) (L : List Int) (w : World) (e : Ending) (w' : World) : Prop :=
  ((takeN L).1 = 0 ∧ ∃ F, e = .returned (.agg (rowOf 23 F)) ∧ (∀ W, Only (fun b => b ≤ w.heap.size) w' W → ScrIs W F (takeN L).2) ∧ Only (onlyP p) w w') ∨ Ends p w e w' (takeN L).1
/-- How far the reader in block p is. -/
def rdAt (w : World) (p : Nat) : Nat := match w.cell? ⟨p, 1, none⟩ with | some (.int _ z) => z.toNat | _ => 0
theorem RdIs.at_ {w : World} {p : Nat} {A : Option Addr} {c : Nat} {L : List Int} {i : Nat} (h : RdIs w p A c L i) : rdAt w p = i := by
  unfold rdAt
  rw [h.blk.cell1]
  exact Int.toNat_natCast i
/-- What a script begins with. -/
def bgF (c : Nat → Int) : Nat → Value := fun i => if i < 14 then .int .i64 (c i) else .slice none 0 0
@[reducible] def bgA (c : Nat → Int) : Array Value := #[.int .i64 (c 0), .int .i64 (c 1), .int .i64 (c 2), .int .i64 (c 3), .int .i64 (c 4), .int .i64 (c 5), .int .i64 (c 6), .int .i64 (c 7), .int .i64 (c 8), .int .i64 (c 9), .int .i64 (c 10), .int .i64 (c 11), .int .i64 (c 12), .int .i64 (c 13), .slice none 0 0, .slice none 0 0, .slice none 0 0, .slice none 0 0, .slice none 0 0, .slice none 0 0, .slice none 0 0, .slice none 0 0, .slice none 0 0]
theorem bgA_row (c : Nat → Int) : bgA c = rowOf 23 (bgF c) := rfl
theorem bg_one (c : Nat → Int) : ((bgA c).all fun x => x.oneCell') = true := by simp [bgA, Value.oneCell']
set_option maxRecDepth 100000 in
set_option maxHeartbeats 4000000 in
theorem rScript_any {p : Nat} {A : Option Addr} {c : Nat} {L : List Int} (hB : Byt L) (hl : L.length ≤ 2000000) (w : World) (h : RdIs w p A c L 0) :
    Calls Tryd.prog 39 #[.pointer (some ⟨p, 0, none⟩)] w (RdScr p L w) := by
  have HBY := Lib.hid hB
  have H0 := Lib.hid fun cs hz => rd0_new (T := 29) (n := 23) (z := zeroF) h cs hz
  have HK1 : Hid (confK L ≠ 0 → (takeN L).1 = confK L) := Lib.hid fun h => by
    unfold confK takeN at *
    by_cases h1 : L.length < 16
    · rw [if_pos h1, if_pos h1]
    · rw [if_neg h1] at h
      rw [if_neg h1, if_neg h1]
      by_cases h2 : mayB (takeC L) = false
      · rw [if_pos h2, if_pos h2]
      · rw [if_neg h2] at h; exact absurd rfl h
  clear h hB
  go_enter Tryd.func39, Tryd.ntmps39
  go_upto_region 1 with fail
  generalize hW : World.alloc _ _ = W
  have HR := Lib.hid (show Rd0 w p A c L w.heap.size 0 29 23 zeroF W from hW ▸ H0.out _ rfl)
  clear hW H0
  generalize hg : w.heap.size = q at *
  have HG := Lib.hid hg; clear hg
  have CC := Lib.hid (rConf_any HBY.out hl W HR.out.rd)
  have hf := fold14I (takeC L)
  go_upto_region 2 with (first | (refine wpList_buildTo rfl 29 _ rfl (some 7) rfl (bgA (takeC L)) (by kernel_rfl) ?_) | (refine wpList_store_row rfl 29 _ _ rfl w2.heap.size (bgA (takeC L)) rfl rfl 29 zeroAr (heap_alloc_new w2 _) (by kernel_rfl) rfl (bg_one _) ?_) | (go_at_call 56; refine CC.out.mono ?_; rintro e w2 (⟨hk0, rfl, hb, hc, hd⟩ | ⟨hk0, u, rfl, hu, hd⟩); (case inr => refine And.intro rfl (Or.inr ?_); rw [HK1.out hk0]; exact ⟨hk0, u, rfl, hu, HR.out.on.trans hd⟩); have HR2 := Lib.hid (HR.out.call hb hd); have HJ2 := Lib.hid hc; have HC0 := Lib.hid hk0; clear hb hd hc hk0))
  rw [World.setRow_alloc_new, bgA_row]
  generalize hW3 : World.alloc _ _ = W3
  have HS : Hid (SxR w p A c L q w2.heap.size 16 ⟨takeC L, fun _ => [], []⟩ (bgF (takeC L)) W3) := Lib.hid (by
    have h := HR2.out
    have hb : Below w2.heap.size w2 W3 := by rw [← hW3]; exact (Below.refl _ _).alloc (Nat.le_refl _) _
    have hsz : W3.heap.size = w2.heap.size + 1 := by rw [← hW3]; simp
    have hlt := h.res.lt
    have hq3 : q ≤ W3.heap.size := by omega
    exact ⟨h.rd.keep hb, h.on.then hb, HJ2.out, tk_new (cutW_size hq3) (cutW_below hq3) hlt (Nat.lt_succ_self _) (by omega) (h.res.keep hb) (by rw [← hW3]; exact Row.new _ _ _ _ _ rfl) (fun i hi => if_pos hi) (fun k hk => if_neg (by omega))⟩)
  have HPQ : Hid (p < q) := Lib.hid HR.out.lt
  clear hW3 HR HR2 CC hf
  generalize w2.heap.size = g at *
  have hm : mayB (takeC L) = true := by
    have := HC0.out
    unfold confK at this
    rw [if_neg (by have := HJ2.out; omega)] at this
    cases hx : mayB (takeC L)
    · rw [hx, if_pos rfl] at this; exact absurd this (by decide)
    · rfl
  have hbd := (may_bounds hm).2.1
  obtain ⟨n, hn⟩ : ∃ n : Nat, takeC L 1 = n := ⟨(takeC L 1).toNat, by omega⟩
  have hn8 : n ≤ 8 := by omega
  have hby1 : byN L 1 = n := hn
  obtain ⟨X, hX⟩ : ∃ X, takePs L n 0 16 (fun _ => []) = X := ⟨_, rfl⟩
  have HT1 : Hid (X.1 ≠ 0 → (takeN L).1 = X.1) := Lib.hid fun h => by
    unfold takeN
    rw [if_neg (by have := HJ2.out; omega), hm, if_neg (by decide), hby1, Int.toNat_natCast, hX]
    dsimp only
    rw [if_neg h]
  have HT0 : Hid (X.1 = 0 → takeN L = if (takeEs L n (L.length - X.2.1) X.2.1 []).1 = 0 then (0, ⟨takeC L, X.2.2, (takeEs L n (L.length - X.2.1) X.2.1 []).2⟩) else ((takeEs L n (L.length - X.2.1) X.2.1 []).1, noScr)) := Lib.hid fun h => by
    unfold takeN
    rw [if_neg (by have := HJ2.out; omega), hm, if_neg (by decide), hby1, Int.toNat_natCast, hX]
    dsimp only
    rw [if_pos h]
  have HXX := Lib.hid hX
  have p1 := HS.out.tk.row.cell (i := 1) (by omega)
  rw [show bgF (takeC L) 1 = .int .i64 (n : Nat) from congrArg (Value.int .i64) hn] at p1
  clear hX hm hbd hby1 HK1 HC0
  go_wp2_with fail
  go_loopw [11] (fun v wr => ∃ (t i : Nat) (s : Scr) (F : Nat → Value), v = .int .i64 t ∧ t ≤ n ∧ X = takePs L (n - t) t i s.p ∧ s.c = takeC L ∧ s.e = [] ∧ SxR w p A c L q g i s F wr) (fun v _ => n - (intOf v).toNat)
  case atStart => exact ⟨0, 16, _, _, rfl, Nat.zero_le _, HXX.out.symm, rfl, rfl, HS.out⟩
  case round =>
    clear HS HXX
    obtain ⟨t, i, s, F, rfl, ht, hx, hsc, hse, hS⟩ := hrel
    have HS := Lib.hid hS; have HX := Lib.hid hx; have HE := Lib.hid (And.intro hsc hse)
    clear hS hx hsc hse
    by_cases hlt : t < n
    · obtain ⟨m, hm⟩ : ∃ m, n - t = m + 1 := ⟨n - t - 1, by omega⟩
      have h8 : (t : Int) < 8 := by omega
      have CP := Lib.hid (rProg_any HBY.out hl HS.out.il wr HS.out.rd)
      have HNO : Hid ((progT L i).1 ≠ 0 → (takeN L).1 = (progT L i).1) := Lib.hid fun h => by
        have := takePs_no (n := m) (t := t) (f := s.p) h
        rw [← hm, ← HX.out] at this
        rw [HT1.out (by rw [this]; exact h), this]
      have HYES : Hid ((progT L i).1 = 0 → X = takePs L (n - (t + 1)) (t + 1) (progT L i).2.1 (setP s.p t (progT L i).2.2)) := Lib.hid fun h => by
        rw [HX.out, hm, takePs_yes h]; congr 1; omega
      go_upto_region 6 with (go_at_call 57; refine CP.out.mono ?_; rintro e w4 (⟨hk0, v, rfl, ho, hb, hc, hd⟩ | ⟨hk0, u, rfl, hu, hd⟩); (case inr => refine And.intro rfl (Or.inr ?_); rw [HNO.out hk0]; exact ⟨hk0, u, rfl, hu, HS.out.on.trans hd⟩); have HOW := Lib.hid ho; have HRD := Lib.hid hb; have HJ4 := Lib.hid hc; have HON := Lib.hid hd; have HY := Lib.hid (HYES.out hk0); obtain ⟨A4, c4, rfl, -⟩ := lnIs_of_own ho; have HTK := Lib.hid (HS.out.tk.turn HPQ.out hd); clear ho hb hc hd hk0; have p0 := HTK.out.row.cell (i := 14 + t) (by omega); have f0 := HTK.out.row.frozen (14 + t))
      have HS4 : Hid (SxR w p A c L q g (progT L i).2.1 ⟨s.c, setP s.p t (progT L i).2.2, s.e⟩ (fun j => if j = 14 + t then .slice A4 (progT L i).2.2.length c4 else F j) (w4.setCell ⟨g, 14 + t, none⟩ (.slice A4 (progT L i).2.2.length c4))) := Lib.hid (by
        have hgq := HS.out.tk.low
        have hpq := HPQ.out
        have hb : Below g w4 (w4.setCell ⟨g, 14 + t, none⟩ (.slice A4 (progT L i).2.2.length c4)) := (Below.refl _ _).setCell (p := ⟨g, 14 + t, none⟩) (Nat.le_refl _) _
        exact ⟨HRD.out.past hb (by omega), (HS.out.on.trans HON.out).past (hb.mono (by have := HG.out; omega)), HJ4.out, (HTK.out.putP (by omega) (own_low HOW.out HS.out.tk.le) (fun k hk _ b hb1 hb2 => by
          have h1 := (HOW.out.lt b hb1).1
          have h2 := ((HS.out.tk.own k hk).lt b hb2).2
          omega)).cut⟩)
      clear HRD HON HOW HTK p0 f0 CP HNO HYES HS
      go_wp2_with fail
      go_roundw
      case rel => exact ⟨t + 1, _, ⟨s.c, setP s.p t (progT L i).2.2, s.e⟩, _, by go_num, by omega, HY.out, HE.out.1, HE.out.2, HS4.out⟩
      case measure => simp [intOf]; omega
    · obtain rfl : t = n := by omega
      have HX0 : Hid (X = (0, i, s.p)) := Lib.hid (by rw [HX.out, Nat.sub_self]; rfl)
      obtain ⟨Y, hY⟩ : ∃ Y, takeEs L t (L.length - i) i [] = Y := ⟨_, rfl⟩
      have HTN : Hid (takeN L = if Y.1 = 0 then (0, ⟨takeC L, s.p, Y.2⟩) else (Y.1, noScr)) := Lib.hid (by
        have := HT0.out (by rw [HX0.out])
        rw [HX0.out] at this
        rw [this, hY])
      have HYY := Lib.hid hY
      have HTH : Hid (takeC L 1 = t) := Lib.hid hn
      obtain ⟨P0, hP0⟩ : ∃ P0, s.p = P0 := ⟨_, rfl⟩
      rw [hP0] at HTN
      have HP0 := Lib.hid hP0
      clear hY hP0 HT0 HT1 HX HX0 p1 hn
      go_wp2_with fail
      go_loopw [] (fun wr => ∃ (i : Nat) (s : Scr) (F : Nat → Value), Y = takeEs L t (L.length - i) i s.e ∧ s.c = takeC L ∧ s.p = P0 ∧ s.e.length ≤ 60000 ∧ SxR w p A c L q g i s F wr) (fun wr => L.length - rdAt wr p)
      case atStart => exact ⟨i, s, F, by rw [HE.out.2]; exact HYY.out.symm, HE.out.1, HP0.out, by rw [HE.out.2]; exact Nat.zero_le _, HS.out⟩
      case round =>
        clear HS HE HYY HP0
        obtain ⟨i, s, F, hy, hsc, hsp, hle, hS⟩ := hrel
        have HS := Lib.hid hS; have HY := Lib.hid hy; have HE := Lib.hid (And.intro hsc hsp); have HLE := Lib.hid hle
        have hat := hS.rd.at_
        clear hS hy hsc hsp hle
        have CE := Lib.hid (rEnded_any wr HS.out.rd)
        by_cases hend : i = L.length
        · rw [decide_eq_true hend] at CE
          have HF : Hid (takeN L = (0, ⟨takeC L, P0, s.e⟩)) := Lib.hid (by
            have : Y = (0, s.e) := by rw [HY.out, hend, Nat.sub_self]; rfl
            rw [HTN.out, this]
            rfl)
          clear hend hat
          go_upto_region 11 with (go_at_call 58; refine CE.out.mono ?_; rintro e w5 ⟨rfl, hd⟩; have HD := Lib.hid hd; clear hd)
          have hTK := HS.out.tk.turn HPQ.out (only_below (HD.out.below _) (onlyP p))
          have hro := hTK.row
          have hre := hTK.res
          go_wp2_with (first
            | (refine wpList_load_row rfl 29 _ rfl g rfl 29 (rowOf 23 F) (0, 0) _ hro Tryd.underlying29 rfl (by kernel_rfl) ?_)
            | (refine wpList_store_row rfl 29 _ _ rfl q (rowOf 23 F) rfl rfl 29 (rowOf 23 zeroF) hre (by kernel_rfl) rfl (scr_one hTK.is) ?_))
          refine bodyPost_ret (results_cell_row (p := 2) (ty := 29) (by kernel_rfl) _ _ q 29 (rowOf 23 F) (0, 0) _ rfl (hre.setRow_ _) Tryd.underlying29 rfl (by kernel_rfl)) rfl (.inl ?_)
          rw [HF.out]
          refine ⟨rfl, F, rfl, fun W hW => ?_, (HS.out.on.then (HD.out.below _)).past (below_setRow_ (Below.refl _ _) (Nat.le_of_eq HG.out) _)⟩
          have := hTK.is_far ((only_setRow (F := fun b => b ≤ q) (Only.refl _ _) (Nat.le_refl _) _).trans (hW.mono fun i _ hi => by have := HG.out; show i ≤ q; omega))
          rwa [show s = ⟨takeC L, P0, s.e⟩ by rw [← HE.out.1, ← HE.out.2]] at this
        · rw [decide_eq_false hend] at CE
          have hil : i < L.length := by have := HS.out.il; omega
          obtain ⟨m, hm⟩ : ∃ m, L.length - i = m + 1 := ⟨L.length - i - 1, by omega⟩
          go_upto_region 8 with (go_at_call 58; refine CE.out.mono ?_; rintro e w5 ⟨rfl, hd⟩; have HD := Lib.hid hd; clear hd)
          obtain ⟨A6, c6, hv6, -⟩ := lnIs_of_own HS.out.tk.ownE
          have HS5 : Hid (SxR w p A c L q g i s F w5) := Lib.hid ⟨HS.out.rd.keep (HD.out.below _), HS.out.on.then (HD.out.below _), HS.out.il, HS.out.tk.turn HPQ.out (only_below (HD.out.below _) (onlyP p))⟩
          have p0 := HS5.out.tk.row.cell (i := 22) (by omega)
          rw [hv6] at p0
          have HV6 := Lib.hid hv6; clear hv6 HD CE
          by_cases hlong : s.e.length = 60000
          · have HK : Hid ((takeN L).1 = 5) := Lib.hid (by
              have h5 : Y.1 = 5 := by rw [HY.out, hm]; exact takeEs_long hlong
              rw [HTN.out, if_neg (by rw [h5]; decide), h5])
            go_wp2_with (go_at_call 59; refine (rRefuse_any hl (Nat.le_of_lt hil) 5 (by decide) (by decide) _ HS5.out.rd).mono ?_; rintro e w7 ⟨u, rfl, hu, hb⟩; have HU := Lib.hid hu; have HO := Lib.hid (HS5.out.on.then hb); clear hu hb)
            exact ⟨rfl, .inr (by rw [HK.out]; exact ⟨by decide, u, rfl, HU.out, HO.out⟩)⟩
          · go_upto_region 10 with fail
            have HEX : Hid (Calls Tryd.prog 60 #[.pointer (some ⟨p, 0, none⟩), .agg (rowOf 14 (ints (takeC L)))] w5.drew fun e w' => (entK L (takeC L 1) i = 0 ∧ e = .returned (.agg #[.int .i64 (takeE L i).th, .int .i64 (takeE L i).wh]) ∧ RdIs w' p A c L (i + 1) ∧ i + 1 ≤ L.length ∧ Only (onlyP p) w5.drew w') ∨ Ends p w5.drew e w' (entK L (takeC L 1) i)) := Lib.hid (rEntry_any (takeC L) HBY.out hl hil w5.drew (HS5.out.rd.keep (Below.refl _ _).drew))
            rw [HTH.out] at HEX
            have HNO : Hid (entK L t i ≠ 0 → (takeN L).1 = entK L t i) := Lib.hid fun h => by
              have h5 : Y.1 = entK L t i := by rw [HY.out, hm]; exact takeEs_no hlong h
              rw [HTN.out, if_neg (by rw [h5]; exact h), h5]
            have HYES : Hid (entK L t i = 0 → Y = takeEs L t (L.length - (i + 1)) (i + 1) (s.e ++ [takeE L i])) := Lib.hid fun h => by
              rw [HY.out, hm, takeEs_yes hlong h]; congr 1; omega
            have HML : Hid (s.e.length < 60000) := Lib.hid (by have := HLE.out; omega)
            have HTD := Lib.hid HS5.out.tk.drew
            have HOD := Lib.hid HS5.out.on.drew
            obtain ⟨e0, he0, ez0, ez1, ez3⟩ := infoEnt
            have HCF : Hid (∀ j, j < 14 → w5.cell? ⟨g, j, none⟩ = some (ints (takeC L) j)) := Lib.hid fun j hj => by
              rw [HS5.out.tk.row.cell (by omega), HS5.out.tk.conf j hj, HE.out.1]
              rfl
            have k0 := HCF.out 0 (by omega); have k1 := HCF.out 1 (by omega); have k2 := HCF.out 2 (by omega); have k3 := HCF.out 3 (by omega); have k4 := HCF.out 4 (by omega); have k5 := HCF.out 5 (by omega); have k6 := HCF.out 6 (by omega)
            have k7 := HCF.out 7 (by omega); have k8 := HCF.out 8 (by omega); have k9 := HCF.out 9 (by omega); have k10 := HCF.out 10 (by omega); have k11 := HCF.out 11 (by omega); have k12 := HCF.out 12 (by omega); have k13 := HCF.out 13 (by omega)
            have hf := fold14I (takeC L)
            have hlen := HML.out
            clear hm hlong
            generalize hxx : takeE L i = x at *
            have HXX := Lib.hid hxx; clear hxx
            go_region_law (first
              | (refine step_callF rfl 60 _ _ rfl (enters_of Tryd.func60 (by kernel_rfl) rfl) #[.pointer (some ⟨p, 0, none⟩), .agg (rowOf 14 (ints (takeC L)))] (by simp [Act.eval, Act.put, hf]) HEX.out ?_
                 rintro e w6 (⟨hk0, rfl, hb, hc, hd⟩ | ⟨hk0, u, rfl, hu, hd⟩)
                 (case inr => refine And.intro rfl (Or.inr ?_); rw [HNO.out hk0]; exact ⟨hk0, u, rfl, hu, HOD.out.trans hd⟩)
                 have HRD6 := Lib.hid hb; have HJ6 := Lib.hid hc; have HON6 := Lib.hid (HOD.out.trans hd); have HY6 := Lib.hid (HYES.out hk0)
                 have HTK6 := Lib.hid (HTD.out.turn HPQ.out hd)
                 clear hb hc hd hk0
                 have p6 := HTK6.out.row.cell (i := 22) (by omega)
                 rw [HV6.out] at p6
                 have pA := (HTK6.out.alloc (.cells #[.int .i64 x.th, .int .i64 x.wh] 51)).row.cell (i := 22) (by omega)
                 rw [HV6.out] at pA
                 have HO := Lib.hid ((HTK6.out.alloc (.cells (entF x).toArray 51)).ownE)
                 rw [HV6.out] at HO
                 have HN1 := Lib.hid (Cells.new w6 (entF x).toArray 51).news
                 have HLEb := Lib.hid (HTK6.out.alloc (.cells (entF x).toArray 51)).le
                 dsimp only)
              | (refine step_append_at18 rfl _ _ 27 rfl (g + 1) 51 e0 (.agg (entF ⟨0, 0⟩).toArray) 2 16 Tryd.underlying27 he0 ez0 ez1 ez3 rfl (by decide) (.slice A6 s.e.length c6) s.e.length (flatF entF s.e) (by simp [Act.eval, Act.put]) HO.out ⟨w6.heap.size, 0, none⟩ 1 1 (entF x) (by simp [Act.eval, Act.put]) rfl HN1.out (entF_one _) (by unfold maxLen; omega) (by omega) HLEb.out ?_
                 intro v2 w7 hown hgrow hat2
                 obtain ⟨A7, c7, rfl, -⟩ := lnIs_of_own hown
                 have hG := (HTK6.out.alloc (.cells (entF x).toArray 51)).grownRow (k := 8) (by omega) (by rw [show F (14 + 8) = F 22 from rfl, HV6.out]; exact hgrow)
                 have hf7 := hG.frozen 22
                 have hc7 := hG.cell (i := 22) (by omega)
                 have HZ := Lib.hid ((HTK6.out.alloc (.cells (entF x).toArray 51)).nextE (x := x) (by rw [HV6.out]; exact hgrow) hown (by rw [HV6.out]; exact hat2))
                 have HB7 : Hid (Below g w6 w7) := Lib.hid (below_grown ((Below.refl _ _).alloc (by have := HTK6.out.row.lt; omega) _) hgrow (fun b hb => by have := (HO.out.lt b hb).1; omega) (by have := HTK6.out.row.lt; simp; omega))
                 clear hown hgrow hat2 hG))
            all_goals
              clear k0 k1 k2 k3 k4 k5 k6 k7 k8 k9 k10 k11 k12 k13 hf hf7 hc7 p6 pA he0 ez0 ez1 ez3 HEX HNO HYES
              have HS7 : Hid (SxR w p A c L q g (i + 1) ⟨s.c, s.p, s.e ++ [x]⟩ (fun j => if j = 22 then .slice A7 (s.e.length + 1) c7 else F j) (w7.setCell ⟨g, 22, none⟩ (.slice A7 (s.e.length + 1) c7))) := Lib.hid (by
                have hb : Below g w6 (w7.setCell ⟨g, 22, none⟩ (.slice A7 (s.e.length + 1) c7)) := HB7.out.setCell (p := ⟨g, 22, none⟩) (Nat.le_refl _) _
                have h1 := HTD.out.low
                have h2 := HPQ.out
                exact ⟨HRD6.out.past hb (by omega), HON6.out.past (hb.mono (by have := HG.out; omega)), HJ6.out, HZ.out.cut⟩)
              have hat7 := HS7.out.rd.at_
              have HL7 : Hid ((s.e ++ [x]).length ≤ 60000) := Lib.hid (by rw [List.length_append]; exact hlen)
              clear HB7 HO HN1 HLEb
              go_wp2_with fail
              go_roundw
              case rel => exact ⟨i + 1, ⟨s.c, s.p, s.e ++ [x]⟩, _, HY6.out, HE.out.1, HE.out.2, HL7.out, HS7.out⟩
              case measure => rw [hat7, hat]; omega
end Go.Proofs.YtdbankogamolcaaDoor
namespace Go.Proofs.YtdbankogamolcaaDoor
set_option linter.unusedSimpArgs false
set_option linter.unusedVariables false
set_option linter.unusedSimpArgs false
open Go.ChangeShapes Go.WideShapes Go.ChangeAt Go.RowKit Go.Extern.Stop Go.Stop Go.Extern

theorem ts_nil (xT : TypeId) (w : World) : (Instr.typeAssert .nilIface xT 71 true).run Tryd.prog w = .ok (.tuple #[.int .i64 0, .bool false]) w := by kernel_rfl
theorem te_nil (xT : TypeId) (w : World) : (Instr.typeAssert .nilIface xT 33 true).run Tryd.prog w = .ok (.tuple #[.nilIface, .bool false]) w := by kernel_rfl
theorem ts_soon (n : Int) (xT : TypeId) (w : World) : (Instr.typeAssert (.iface 71 (.int .i64 n)) xT 71 true).run Tryd.prog w = .ok (.tuple #[.int .i64 n, .bool true]) w := by kernel_rfl
theorem ts_note (v : Value) (xT : TypeId) (w : World) : (Instr.typeAssert (.iface 80 v) xT 71 true).run Tryd.prog w = .ok (.tuple #[.int .i64 0, .bool false]) w := by kernel_rfl
theorem te_note (v : Value) (xT : TypeId) (w : World) : (Instr.typeAssert (.iface 80 v) xT 33 true).run Tryd.prog w = .ok (.tuple #[.iface 80 v, .bool true]) w := run_typeAssert_hasB Tryd.underlying33 (by kernel_rfl) v xT w
set_option maxRecDepth 100000 in
theorem tk1_idle (p : Addr) (w : World) : CallsD Tryd.prog 37 #[.pointer (some p)] .returning w fun e u' w' => e = .returned (.tuple #[]) ∧ u' = .returning ∧ w' = w := by
  have h1 := ts_nil
  have h2 := te_nil
  refine callsD_of_wpS Tryd.func37 rfl fun c₀ cs hu => ?_
  apply wpS_seq
  apply wpS_region
  simp [wpOpsS, go_sem, recoverD, hu, Tryd.ntmps37, Exit.thenS]
  refine wpS_of_wp ?_
  simp only [show (#[Value.pointer (some p)] ++ (Array.replicate 14 undef).setIfInBounds 2 Value.nilIface : Array Value) = #[.pointer (some p), undef, undef, .nilIface, undef, undef, undef, undef, undef, undef, undef, undef, undef, undef, undef] from rfl]
  go_wp2_with fail
  cases c₀
  simp_all [bodyPostS, results, Tryd.results37]
set_option maxRecDepth 100000 in
theorem tk1_note (p : Addr) (g : Nat) (old : Value) (older : List PanicEntry) (w : World) (hc : w.cell? p = some old) (hf : w.frozen? p = false) :
    CallsD Tryd.prog 37 #[.pointer (some p)] (.panicking ({ v := .iface 80 (.pointer (some ⟨g, 0, none⟩)), recovered := false } :: older)) w fun e u' w' =>
      e = .returned (.tuple #[]) ∧ u' = .panicking ({ v := .iface 80 (.pointer (some ⟨g, 0, none⟩)), recovered := true } :: older) ∧ w' = w.setCell p (.iface 80 (.pointer (some ⟨g, 0, none⟩))) := by
  have h1 := ts_note
  have h2 := te_note
  refine callsD_of_wpS Tryd.func37 rfl fun c₀ cs hu => ?_
  apply wpS_seq
  apply wpS_region
  simp [wpOpsS, go_sem, recoverD, hu, Tryd.ntmps37, Exit.thenS]
  refine wpS_of_wp ?_
  simp only [show ∀ x, (#[Value.pointer (some p)] ++ (Array.replicate 14 undef).setIfInBounds 2 x : Array Value) = #[.pointer (some p), undef, undef, x, undef, undef, undef, undef, undef, undef, undef, undef, undef, undef, undef] from fun _ => rfl]
  go_wp2_with fail
  cases c₀
  simp_all [bodyPostS, results, Tryd.results37]
set_option maxRecDepth 100000 in
theorem tk1_soon (p : Addr) (n : Nat) (hn : n ≤ 2000000) (old : Value) (older : List PanicEntry) (w : World) (ht : TabW w) (hp : p.block < w.heap.size) (hc : w.cell? p = some old) (hf : ∀ W, Below w.heap.size w W → W.frozen? p = false) :
    CallsD Tryd.prog 37 #[.pointer (some p)] (.panicking ({ v := .iface 71 (.int .i64 n), recovered := false } :: older)) w fun e u' w' =>
      e = .returned (.tuple #[]) ∧ u' = .panicking ({ v := .iface 71 (.int .i64 n), recovered := true } :: older) ∧ ∃ g s W, w' = W.setCell p (.iface 80 (.pointer (some ⟨g, 0, none⟩))) ∧ ErrsIs W (.note g s (.code 4)) ∧ Below w.heap.size w W := by
  have h1 := ts_soon
  have C1 := Lib.hid (behind_any n hn w ht)
  have C2 := Lib.hid (fun W => note_code (behL n) 4 (by decide) (by decide) (behL_len hn) W)
  have HC := Lib.hid (And.intro hc (And.intro hp hf))
  clear hc hf ht hp
  generalize sB (behL n) = q at *
  refine callsD_of_wpS Tryd.func37 rfl fun c₀ cs hu => ?_
  apply wpS_seq
  apply wpS_region
  simp [wpOpsS, go_sem, recoverD, hu, Tryd.ntmps37, Exit.thenS]
  refine wpS_of_wp ?_
  simp only [show ∀ x, (#[Value.pointer (some p)] ++ (Array.replicate 14 undef).setIfInBounds 2 x : Array Value) = #[.pointer (some p), undef, undef, x, undef, undef, undef, undef, undef, undef, undef, undef, undef, undef, undef] from fun _ => rfl]
  go_wp2_with (first | (go_at_call 38; refine C1.out.mono ?_; rintro e w1 ⟨rfl, hb⟩; have HB1 := Lib.hid hb; clear hb) | (go_at_call 21; refine (C2.out _).mono ?_; rintro e w2 ⟨g, rfl, he, hb2⟩; have HB2 := Lib.hid (HB1.out.trans (hb2.mono HB1.out.size)); have HE := Lib.hid he; clear hb2 he; have p0 := (HB2.out.cell HC.out.2.1).trans HC.out.1; have f0 := HC.out.2.2 _ HB2.out))
  cases c₀
  have h2 := HB2.out
  have h3 := HE.out
  simp_all [bodyPostS, results, Tryd.results37]
  exact ⟨g, _, _, rfl, h3, h2⟩
end Go.Proofs.YtdbankogamolcaaDoor
namespace Go.Proofs.YtdbankogamolcaaDoor
set_option linter.unusedSimpArgs false
set_option linter.unusedVariables false
set_option linter.unusedSimpArgs false
open Go.ChangeShapes Go.WideShapes Go.ChangeAt Go.RowKit

def TakePost (L : List Int) (w : World) (e : Ending) (w' : World) : Prop :=
  ∃ F u, e = .returned (.tuple #[.agg (rowOf 23 F), u]) ∧ ScrIs w' F (takeN L).2 ∧ ErrOf w' u (takeN L).1 ∧ Below w.heap.size w w'
/-- A note stays where another block is stored to. -/
theorem note_far {w : World} {g k : Nat} {s : List UInt8} {c : Int} (h : ErrsIs w (.note g s (.code c))) (hk : w.cell? ⟨k, 0, none⟩ = some .nilIface) (v : Value) : ErrsIs (w.setCell ⟨k, 0, none⟩ v) (.note g s (.code c)) := by
  obtain ⟨h1, h2, h3, h4, h5, h6⟩ := h
  have hne : g ≠ k := by
    rintro rfl
    rw [hk] at h2
    cases h2
  have hc : ∀ i, (w.setCell ⟨k, 0, none⟩ v).cell? ⟨g, i, none⟩ = w.cell? ⟨g, i, none⟩ := fun i => by
    unfold World.cell?
    rw [Below.heap_setCell w ⟨k, 0, none⟩ v g hne]
  exact ⟨by rw [World.size_setCell]; exact h1, by rw [hc]; exact h2, by rw [hc]; exact h3, h4, h5, h6⟩
theorem results_take {tmps : Array Value} {w : World} {g k : Nat} {F : Nat → Value} {v : Value} (hp : tmps.getD 2 undef = .pointer (some ⟨g, 0, none⟩)) (hq : tmps.getD 3 undef = .pointer (some ⟨k, 0, none⟩))
    (hg : Row w g 29 23 F) (hk : w.cell? ⟨k, 0, none⟩ = some v) : (results Tryd.f18 tmps).run Tryd.prog w = .ok (.tuple #[.agg (rowOf 23 F), v]) w := by
  have h : Tryd.f18.results = #[.cell 2 29, .cell 3 33] := by kernel_rfl
  have hp' : tmps[2]?.getD undef = .pointer (some ⟨g, 0, none⟩) := by simpa using hp
  have hq' : tmps[3]?.getD undef = .pointer (some ⟨k, 0, none⟩) := by simpa using hq
  have hr : (World.cell? w ⟨k, 0, none⟩) = some v := hk
  have hv : (loadVar 33 ⟨k, 0, none⟩).run Tryd.prog w = .ok v w := by simp [go_sem, hr]
  simp [results, h, hp', hq', asAddr, run_loadVar_row w g 29 29 (rowOf 23 F) (0, 0) _ hg Tryd.underlying29 rfl (by kernel_rfl), hv]
theorem takeN_no (L : List Int) : (takeN L).1 ≠ 0 → (takeN L).2 = noScr := by
  unfold takeN
  intro h
  by_cases h1 : L.length < 16
  · rw [if_pos h1]
  · rw [if_neg h1] at h ⊢
    by_cases h2 : mayB (takeC L) = false
    · rw [if_pos h2]
    · rw [if_neg h2] at h ⊢
      dsimp only at h ⊢
      split
      · rename_i h3
        rw [if_pos h3] at h
        split
        · rename_i h4
          rw [if_pos h4] at h
          exact absurd rfl h
        · rfl
      · rfl
theorem take_new (A : Option Addr) (c : Nat) (L : List Int) (w : World) (h : LiesC w A (flatB L)) (he : EnvS w) : ∀ W, ((w.alloc (.cells zeroAr 29)).alloc (.cells #[.nilIface] 33)).alloc (.cells #[.slice A L.length c, .int .i64 0] 74) = W →
    RdIs W (w.heap.size + 2) A c L 0 ∧ Row W w.heap.size 29 23 zeroF ∧ Cells W (w.heap.size + 1) 33 [.nilIface] ∧ Below w.heap.size w W := by
  rintro W rfl
  have hb : Below w.heap.size w (((w.alloc (.cells zeroAr 29)).alloc (.cells #[.nilIface] 33)).alloc (.cells #[.slice A L.length c, .int .i64 0] 74)) := (((Below.refl _ w).alloc (Nat.le_refl _) _).alloc (by simp) _).alloc (by simp only [World.size_alloc]; omega) _
  have h3 := Cells.new ((w.alloc (.cells zeroAr 29)).alloc (.cells #[.nilIface] 33)) #[.slice A L.length c, .int .i64 0] 74
  have h2 := (Cells.new (w.alloc (.cells zeroAr 29)) #[.nilIface] 33).alloc (.cells #[.slice A L.length c, .int .i64 0] 74)
  simp only [World.size_alloc] at h3 h2
  have hg := World.block_lt_of_cell? _ _ (Lib.TabIs.cell he.tab tabG 0 (by decide))
  simp only at hg
  refine ⟨⟨h3, h.keep hb, fun hn a ha => ?_, he.tab.below hb, by omega⟩, ((Row.new w zeroAr 29 zeroF 23 rfl).alloc _).alloc _, h2, hb⟩
  rcases h with h | ⟨b, off, rfl, hlt, _⟩
  · cases L with
    | nil => exact absurd rfl hn
    | cons x L => cases h
  · cases ha
    show b < w.heap.size + 2
    omega
set_option maxRecDepth 100000 in
set_option maxHeartbeats 4000000 in
theorem sTake_any (A : Option Addr) (c : Nat) (L : List Int) (hL : L.length ≤ 2000000) (hB : Byt L) (w : World) (h : LiesC w A (flatB L)) (he : EnvS w) :
    Calls Tryd.prog 18 #[.slice A L.length c] w fun e w' => ∃ F u, e = .returned (.tuple #[.agg (rowOf 23 F), u]) ∧ ScrIs w' F (takeN L).2 ∧ ErrOf w' u (takeN L).1 ∧ Below w.heap.size w w' := by
  have hmf : ∀ (fn : Fn) (first cap : Array Value) (w : World), (Instr.makeFunc fn first cap).run Tryd.prog w = .ok (.func fn first cap) w := fun _ _ _ _ => rfl
  show Calls Tryd.prog 18 #[.slice A L.length c] w (TakePost L w)
  have HT := Lib.hid (take_new A c L w h he)
  have HBY := Lib.hid hB
  have HTN := Lib.hid (takeN_no L)
  have HTB := Lib.hid he.tab
  clear h he hB
  obtain ⟨n, hn⟩ : ∃ n, L.length = n := ⟨_, rfl⟩
  rw [hn] at HT ⊢
  go_enter_defers Tryd.func18, Tryd.ntmps18
  go_upto_region 3 with fail
  generalize hW : World.alloc _ _ = W
  have HX := Lib.hid (HT.out W hW)
  clear hW HT
  have CS := Lib.hid (rScript_any HBY.out hL W HX.out.1)
  generalize hg : w.heap.size = g at *
  have HG := Lib.hid hg; clear hg
  go_wp2_with fail
  go_at_call 39
  refine CS.out.mono ?_
  rintro e w2 (⟨hk0, F, rfl, hs, ho⟩ | ⟨hk0, u, rfl, hu, ho⟩)
  · have HS := Lib.hid hs; have HO := Lib.hid ho; have HK := Lib.hid hk0
    have hre : Row w2 g 29 23 zeroF := HX.out.2.1.only ho (by unfold onlyP; omega)
    have hc2 : Cells w2 (g + 1) 33 [.nilIface] := HX.out.2.2.1.only ho (by unfold onlyP; omega)
    have hs1 := scr_one (hs w2 (Only.refl _ _))
    have hc3 : Cells (w2.setRow g (rowOf 23 F)) (g + 1) 33 [.nilIface] := (setRow_other _ _ _ _ (by omega)).trans hc2
    have e0 := hc3.cell0
    have e1 := hc3.frozen 0
    have HC := Lib.hid (And.intro hre hc3)
    clear hs ho hk0 hc2 hc3
    go_wp2_with (refine wpList_store_row rfl 29 _ _ rfl g (rowOf 23 F) rfl rfl 29 (rowOf 23 zeroF) hre (by kernel_rfl) rfl hs1 ?_)
    refine leaves_cons (f := 37) (args := #[.pointer (some ⟨g + 1, 0, none⟩)]) (by simp) (by simp [go_sem]) ?_
    refine (tk1_idle ⟨g + 1, 0, none⟩ _).mono ?_
    rintro e u' w'' ⟨rfl, rfl, rfl⟩
    simp only [Leaves, settle]
    have hb2 : Below g w w2 := Go.Proofs.YtdbankogamolcaaDoor.Below.only HX.out.2.2.2 HO.out (by have := HX.out.2.2.1.lt; omega) (fun i hi => by have : i = g + 2 := hi; omega)
    have hb3 : Below g w ((w2.setRow g (rowOf 23 F)).setCell ⟨g + 1, 0, none⟩ .nilIface) := (below_setRow_ hb2 (Nat.le_refl _) _).setCell (p := ⟨g + 1, 0, none⟩) (by show g ≤ g + 1; omega) _
    refine ⟨_, results_take rfl rfl ((HC.out.1.setRow_ F).far (p := ⟨g + 1, 0, none⟩) (by show g ≠ g + 1; omega) _) (HC.out.2.set_ 0 .nilIface).cell0, F, .nilIface, rfl, ?_, ⟨.no, rfl, trivial, by rw [HK.out]; rfl, by rw [HK.out]; simp⟩, by rw [HG.out]; exact hb3⟩
    have hx := HX.out.2.2.1.lt
    exact HS.out _ ((only_setRow (F := fun b => b ≤ W.heap.size) (Only.refl _ _) (by omega) _).setCell (p := ⟨g + 1, 0, none⟩) (by show g + 1 ≤ W.heap.size; omega) _)
  · obtain ⟨s, hs⟩ : ∃ s, (takeN L).2 = s := ⟨_, rfl⟩
    obtain rfl : s = noScr := by rw [← hs]; exact HTN.out hk0
    have HS := Lib.hid hs
    have HO := Lib.hid ho
    have hre : Row w2 g 29 23 zeroF := HX.out.2.1.only ho (by unfold onlyP; omega)
    have hc2 : Cells w2 (g + 1) 33 [.nilIface] := HX.out.2.2.1.only ho (by unfold onlyP; omega)
    have hb2 : Below g w w2 := Go.Proofs.YtdbankogamolcaaDoor.Below.only HX.out.2.2.2 HO.out (by have := HX.out.2.2.1.lt; omega) (fun i hi => by have : i = g + 2 := hi; omega)
    refine leaves_cons (f := 37) (args := #[.pointer (some ⟨g + 1, 0, none⟩)]) (by simp) (by simp [go_sem]) ?_
    rcases hu with ⟨h4, n2, hn2, rfl⟩ | ⟨h0, g2, s2, rfl, he2⟩
    · refine (tk1_soon ⟨g + 1, 0, none⟩ n2 hn2 .nilIface [] w2 ?_ hc2.lt hc2.cell0 (fun W hb => (hc2.keep hb).frozen 0)).mono ?_
      · exact HTB.out.below (by rw [HG.out]; exact hb2)
      rintro e u' w'' ⟨rfl, rfl, g3, s3, W3, rfl, he3, hb3⟩
      simp [Leaves, settle]
      have hc3 := hc2.keep hb3
      have hr3 := hre.keep hb3
      have hb4 : Below g w (W3.setCell ⟨g + 1, 0, none⟩ (.iface 80 (.pointer (some ⟨g3, 0, none⟩)))) := (hb2.trans (hb3.mono (by have := hc2.lt; omega))).setCell (p := ⟨g + 1, 0, none⟩) (by show g ≤ g + 1; omega) _
      refine ⟨_, results_take rfl rfl (hr3.far (p := ⟨g + 1, 0, none⟩) (by show g ≠ g + 1; omega) _) (hc3.set_ 0 _).cell0, zeroF, _, rfl, by rw [HS.out]; exact zeroF_is _, ⟨.note g3 s3 (.code 4), rfl, ?_, by rw [h4]; rfl, by rw [h4]; simp⟩, by rw [HG.out]; exact hb4⟩
      exact note_far he3 hc3.cell0 _
    · refine (tk1_note ⟨g + 1, 0, none⟩ g2 .nilIface [] w2 hc2.cell0 (hc2.frozen 0)).mono ?_
      rintro e u' w'' ⟨rfl, rfl, rfl⟩
      simp [Leaves, settle]
      have hb4 : Below g w (w2.setCell ⟨g + 1, 0, none⟩ (.iface 80 (.pointer (some ⟨g2, 0, none⟩)))) := hb2.setCell (p := ⟨g + 1, 0, none⟩) (by show g ≤ g + 1; omega) _
      refine ⟨_, results_take rfl rfl (hre.far (p := ⟨g + 1, 0, none⟩) (by show g ≠ g + 1; omega) _) (hc2.set_ 0 _).cell0, zeroF, _, rfl, by rw [HS.out]; exact zeroF_is _, ⟨.note g2 s2 (.code _), rfl, ?_, rfl, by simp [h0]⟩, by rw [HG.out]; exact hb4⟩
      exact note_far he2 hc2.cell0 _
end Go.Proofs.YtdbankogamolcaaDoor
