/- Package means: refuses, where nothing is against the call. · Package means: Told of a call of the queue that nothing is against; New. · Package means: New. · Package proof: Explains, over what goOn tells; and of the law's example. · Package proof: its contracts, in one place. · burnbaglaw16's example. · The document's lists of layer 4, lists compared, and configurations bared. · The law ProofMay. · What the condition on the one listed variable gives, a world that meets it, and the frame of a tied row. -/
import Derived.Test.YtiafjbhekfpkbaaGreatDoorJ24
import Derived.Test.YtiafjbhekfpkbaaGreatDoorJ21
import Derived.Great.BuildSlice
import Derived.Test.YtiafjbhekfpkbaaGreatDoorJ18
import Derived.Test.YtiafjbhekfpkbaaGreatDoorJ19
import Derived.Test.YtiafjbhekfpkbaaGreatDoorJ10
import Derived.Test.YtiafjbhekfpkbaaGreatDoorJ2
import Derived.Test.YtiafjbhekfpkbaaGreatDoorJ6
import Derived.Deep.WholeRow
import Derived.Test.YtiafjbhekfpkbaaGreatDoorJ0
import Derived.LaidLaws
import Derived.LaidHandle
import Derived.RowKitTokens
import Derived.ChangeVars
import Derived.JoinedOf
import Derived.Stop.Joined
namespace Go.Proofs.YtiafjbhekfpkbaaGreatDoor
set_option linter.unusedSimpArgs false
set_option linter.unusedVariables false
set_option linter.unusedSimpArgs false
set_option linter.unusedVariables false
open Go.ChangeShapes Go.WideShapes Go.ChangeAt Go.RowKit

set_option maxRecDepth 100000 in
theorem mRef_ok (c : Nat → Int) (hc : Ok64 c) (t op l key pa pb hd r : Int) (ht : -9223372036854775808 ≤ t ∧ t ≤ 9223372036854775807) (hl : -9223372036854775808 ≤ l ∧ l ≤ 9223372036854775807) (h0 : policyN c t op l r = 0) (w : World) :
    Calls Tryz.prog 53 #[.agg (rowOf 15 (plV c l)), .int .i64 t, (.agg #[.int .i64 op, .int .i64 l, .int .i64 key, .int .u64 pa, .int .u64 pb, .int .u64 hd, .int .i64 r])] w fun e w' => e = .returned (.int .i64 0) ∧ Below w.heap.size w w' := by
  have C1 := Lib.hid (fun W => kPolicy_ok c hc t op l key pa pb hd r ht hl h0 W)
  have C2 := Lib.hid (fun W => code_nil W)
  clear h0
  go_enter Tryz.func53, Tryz.ntmps53
  go_upto_region 1 with fail
  generalize hW : World.alloc (World.alloc _ _) _ = W
  obtain ⟨hB, hx⟩ : Below w.heap.size w W ∧ (Row W w.heap.size 48 15 (plV c l) ∧ CallIs W (w.heap.size + 1) op l key pa pb hd r) := by
    subst hW
    refine ⟨((Below.refl _ _).alloc (Nat.le_refl _) _).alloc (by simp) _, (Row.new w _ _ _ _ rfl).alloc _, ?_⟩
    have h := callIs_new op l key pa pb hd r 33 (w.alloc (.cells (rowOf 15 (plV c l)) 48))
    rw [World.size_alloc] at h
    exact h
  obtain ⟨hr, hcl⟩ := hx
  clear hW
  generalize hz : w.heap.size = g at *
  have HB := Lib.hid (And.intro hB hz)
  have p14 : W.cell? ⟨g, 14, none⟩ = some (.int .i64 l) := hr.cell (i := 14) (by omega)
  have hrg : W.rangeAt g 0 ((List.range 14).map (ints c)) := plV_conf hr (by omega) (fun i hi => by show Value.int .i64 (if 0 + i < 14 then c (0 + i) else l) = _; rw [Nat.zero_add, if_pos hi])
  obtain ⟨v0, v1, v2, v3, v4, v5, v6, v7⟩ := hcl
  clear hr hB hz
  go_upto_region 3 with fail
  have HR := Lib.hid hrg
  clear hrg
  go_wp2_with (first
    | (refine wpList_load_mid rfl 43 _ rfl g 0 rfl ((List.range 14).map (ints c)) _ HR.out Tryz.underlying43 rfl (by kernel_rfl) ?_)
    | (go_at_call 66; refine (C1.out _).mono ?_; rintro e w1 ⟨rfl, hb1⟩; have HB1 := Lib.hid hb1; clear hb1)
    | (go_at_call 65; refine (C2.out _).mono ?_; rintro e w2 ⟨rfl, hb2⟩; have HB2 := Lib.hid hb2; clear hb2))
  go_ret
  refine ⟨rfl, ?_⟩
  rw [HB.out.2]
  have hs1 := HB1.out.size
  have hs := HB.out.1.size
  have hz := HB.out.2
  exact (HB.out.1.trans (HB1.out.mono (by omega))).trans (HB2.out.mono (by omega))
end Go.Proofs.YtiafjbhekfpkbaaGreatDoor
namespace Go.Proofs.YtiafjbhekfpkbaaGreatDoor
set_option linter.unusedSimpArgs false
set_option linter.unusedVariables false
set_option linter.unusedSimpArgs false
set_option linter.unusedVariables false
open Go.ChangeShapes Go.WideShapes Go.ChangeAt Go.RowKit

/-- A state's cells of which configuration and level are these. -/
structure AtF (f : Nat → Value) (c : Nat → Int) (lv : Int) : Prop where
  conf : ∀ i, i < 14 → f i = .int .i64 (c i)
  lvl : f 14 = .int .i64 lv
  one : ∀ i, i < 63 → (f i).oneCell' = true
theorem AtF.place {f : Nat → Value} {c : Nat → Int} {lv : Int} (h : AtF f c lv) : rowOf 15 (cutF f 0) = rowOf 15 (plV c lv) := rowOf_congr fun i hi => by
  show f (0 + i) = ints (fun i => if i < 14 then c i else lv) i
  rw [Nat.zero_add]
  by_cases h14 : i < 14
  · rw [h.conf i h14]; show _ = Value.int .i64 (if i < 14 then c i else lv); rw [if_pos h14]
  · obtain rfl : i = 14 := by omega
    rw [h.lvl]; rfl
theorem AtF.put {f : Nat → Value} {c : Nat → Int} {lv : Int} (h : AtF f c lv) {o m : Nat} (ho : 15 ≤ o) (G : Nat → Value) (hG : ∀ i, i < m → (G i).oneCell' = true) : AtF (putF f o m G) c lv :=
  ⟨fun i hi => by rw [putF_out (by omega)]; exact h.conf i hi, by rw [putF_out (by omega)]; exact h.lvl, fun i hi => by
    unfold putF
    split
    · exact hG _ (by omega)
    · exact h.one i hi⟩
/-- What a call of the queue is answered. -/
def queM (L : List Pr) (op : Int) : Ans := bif decide (op = 7) || decide (op = 8) then (bif thP L then ⟨0, (hdP L).a, (hdP L).b, 0, 0, 0⟩ else ⟨6, 0, 0, 0, 0, 0⟩) else ⟨0, 0, 0, 0, 0, 0⟩
theorem queM_cells (L : List Pr) (op : Int) : queA L op = .agg (rowOf 6 (ansF (queM L op))) := by
  unfold queA queM
  cases decide (op = 7) || decide (op = 8)
  · rfl
  · cases thP L <;> rfl
theorem lnIs_setRow {w : World} {v : Value} {n : Nat} {cs : List Value} (h : LnIs w v n cs) {b : Nat} (hb : v.ownBlock ≠ some b) (ds : Array Value) : LnIs (w.setRow b ds) v n cs :=
  h.only (only_setRow (F := fun i => i = b) (Only.refl _ w) rfl ds) (fun k hk e => hb (by rw [hk, e]))
theorem mTold_queue (c : Nat → Int) (hc : Ok64 c) (lv : Int) (hlv : -9223372036854775808 ≤ lv ∧ lv ≤ 9223372036854775807) (f : Nat → Value) (hf : AtF f c lv) (u : Value) (L : List Pr) (hL : L.length ≤ 100000) (h60 : f 60 = u) (op key r t : Int) (pa pb hd : Nat) (ht : -9223372036854775808 ≤ t ∧ t ≤ 9223372036854775807)
    (hop : partN op = 2) (a : Ans) (hp : policyN c t op lv 0 = 0) (hfit : fitsC op lv 0 a = true) (hle : leaveB c lv t a.e = false) (hh : a.h = 0) (w : World) (hl : LnIs w u L.length (flatP L)) :
    Calls Tryz.prog 40 #[.agg (rowOf 63 f), .int .i64 t, .agg (rowOf 7 (callF op lv key pa pb hd r)), .agg (rowOf 6 (ansF a))] w fun e w' => ∃ v, e = .returned (.tuple #[.agg (rowOf 63 (bif sameA a (queM L op) then putF f 60 1 (fun _ => v) else f)), .bool (sameA a (queM L op))]) ∧
      LnIs w' v (queL L op pa pb).length (flatP (queL L op pa pb)) ∧ Stem u w.heap.size v ∧ Below w.heap.size w w' := by
  have hbk := hl.block
  refine (told_done0 f (callF op lv key pa pb hd r) (callF op lv key pa pb hd 0) t a (queM L op) w
    (fun F W => ∃ v, F = putF f 60 1 (fun _ => v) ∧ LnIs W v (queL L op pa pb).length (flatP (queL L op pa pb)) ∧ Stem u (w.heap.size + 4) v)
    (fun F w1 w2 hb ⟨v, h1, h2, h3⟩ => ⟨v, h1, h2.keep hb, h3⟩)
    (fun F w1 n cs hn1 hn2 ⟨v, h1, h2, h3⟩ => ⟨v, h1, lnIs_setRow h2 (fun e => by
      rcases h3 n e with h | h
      · have := hbk n h; omega
      · omega) cs, h3⟩)
    hf.one (callF_one _ _ _ _ _ _ _) (fun W => mBare_any op lv key pa pb hd r W) ?_ (fun W => ?_) (fun W => ?_) hh (fun W hb hs => ?_)).mono ?_
  · intro W _
    rw [hf.place]
    exact mRef_ok c hc t op lv key pa pb hd 0 ht hlv hp W
  · have h := kFits_any op lv key pa pb hd 0 a.e a.a a.b a.h a.n a.k W
    rw [hfit] at h
    exact h
  · rw [hf.place]
    have h := mLeave_any c hc lv t a.e ht W
    rw [hle] at h
    exact h
  · refine (done_queue f (ansF a) op lv key 0 t pa pb hd u (queM L op) L (queL L op pa pb) W hop h60 (fun k hk => Nat.lt_of_lt_of_le (hbk k hk) hb.size) hf.one (fun W2 hb2 => ?_)).mono ?_
    · have h := mQue_any u L hL op lv key pa pb hd 0 W2 ((hl.keep hb).keep (by exact hb2.mono (Nat.le_refl _)))
      rw [queM_cells] at h
      exact h
    · rintro e w' ⟨v, h1, h2, h3, h4⟩
      exact ⟨putF f 60 1 (fun _ => v), h1, (hf.put (by omega) _ (fun i _ => by obtain ⟨A5, c5, rfl⟩ := lnIs_parts h2; rfl)).one, ⟨v, rfl, h2, h3.mono hs⟩, h4⟩
  · rintro e w' ⟨F, h1, ⟨v, rfl, h2, h3⟩, h4⟩
    exact ⟨v, h1, h2, h3.mono (by omega), h4⟩
end Go.Proofs.YtiafjbhekfpkbaaGreatDoor
namespace Go.Proofs.YtiafjbhekfpkbaaGreatDoor
set_option linter.unusedSimpArgs false
set_option linter.unusedVariables false
set_option linter.unusedSimpArgs false
set_option linter.unusedVariables false
open Go.ChangeShapes Go.WideShapes Go.ChangeAt Go.RowKit
open Go.Great

/-- What a state in which nothing is has behind its place. -/
def zeroL : List Value := [.slice none 0 0, .int .i64 0, .bool false, .int .i64 0, .bool false, .int .i64 0, .bool false, .int .i64 0, .bool false, .int .i64 0, .int .u64 0, .int .i64 0, .int .u64 0, .int .u64 0, .int .i64 0, .int .u64 0, .int .u64 0, .int .i64 0, .int .u64 0, .int .u64 0, .int .i64 0, .int .u64 0, .int .u64 0, .int .i64 0, .bool false, .int .i64 0, .bool false, .int .i64 0, .bool false, .int .i64 0, .bool false, .int .i64 0, .int .u64 0, .int .i64 0, .int .u64 0, .int .u64 0, .int .i64 0, .int .u64 0, .int .u64 0, .int .i64 0, .int .u64 0, .int .u64 0, .int .i64 0, .int .u64 0, .int .u64 0, .slice none 0 0, .slice none 0 0, .slice none 0 0]
def newF (c : Nat → Int) (lv : Int) (i : Nat) : Value := if i < 15 then plV c lv i else zeroL.getD (i - 15) undef
theorem newF_at (c : Nat → Int) (lv : Int) : AtF (newF c lv) c lv :=
  ⟨fun i hi => by show (if i < 15 then _ else _) = _; rw [if_pos (by omega)]; show Value.int .i64 (if i < 14 then c i else lv) = _; rw [if_pos hi], rfl, fun i hi => by
    show (if i < 15 then _ else _ : Value).oneCell' = true
    by_cases h : i < 15
    · rw [if_pos h]; rfl
    · rw [if_neg h]
      have : ∀ j, j < 48 → (zeroL.getD j undef).oneCell' = true := by decide
      exact this _ (by omega)⟩
set_option maxRecDepth 100000 in
theorem mNew_any (c : Nat → Int) (lv : Int) (w : World) : Calls Tryz.prog 22 #[.agg (rowOf 14 (ints c)), .int .i64 lv] w fun e w' => e = .returned (.agg (rowOf 63 (newF c lv))) ∧ Below w.heap.size w w' := by
  have H1 : Hid ((rowOf 63 (newF c lv)).all (·.oneCell') = true) := Lib.hid (rowOf_all (newF_at c lv).one)
  go_enter Tryz.func22, Tryz.ntmps22
  go_upto_region 1 with fail
  generalize hW : World.alloc (World.alloc _ _) _ = W
  have hx : Row W w.heap.size 43 14 (ints c) ∧ (∃ Z, Row W (w.heap.size + 1) 74 63 Z) ∧ Below w.heap.size w W := by
    subst hW
    refine ⟨(Row.new w _ _ _ _ rfl).alloc _, row_zero _ _ _ _ (by rfl) (by simp), ((Below.refl _ w).alloc (Nat.le_refl _) _).alloc (by simp) _⟩
  clear hW
  generalize hg : w.heap.size = g at *
  obtain ⟨h1, ⟨Z, h2⟩, h3⟩ := hx
  have HG := Lib.hid (And.intro hg h3)
  clear hg h3
  go_wp2_with (first
    | (refine wpList_load_row rfl 43 _ rfl g rfl 43 (rowOf 14 (ints c)) (0, 0) _ h1 Tryz.underlying43 rfl (by kernel_rfl) ?_)
    | (refine wpList_buildTo rfl 48 _ rfl (some 7) rfl (rowOf 15 (plV c lv)) (by kernel_rfl) ?_)
    | (refine wpList_buildTo rfl 74 _ rfl (some 8) rfl (rowOf 63 (newF c lv)) (by kernel_rfl) ?_)
    | (refine wpList_store_row rfl 74 _ _ rfl (g + 1) (rowOf 63 (newF c lv)) rfl rfl 74 (rowOf 63 Z) h2 (by kernel_rfl) rfl H1.out ?_))
  exact bodyPost_ret (results_cell_row (p := 4) (ty := 74) (by kernel_rfl) _ _ (g + 1) 74 (rowOf 63 (newF c lv)) (0, 0) _ rfl (h2.setRow_ _) Tryz.underlying74 rfl (by kernel_rfl)) rfl ⟨rfl, by rw [HG.out.1]; exact below_setRow_ HG.out.2 (by omega) _⟩
end Go.Proofs.YtiafjbhekfpkbaaGreatDoor
namespace Go.Proofs.YtiafjbhekfpkbaaGreatDoor
set_option linter.unusedSimpArgs false
set_option linter.unusedVariables false
open Go.ChangeShapes Go.WideShapes Go.ChangeAt Go.RowKit Go.Maps
set_option linter.unusedSimpArgs false
set_option linter.unusedVariables false

set_option maxRecDepth 100000 in
set_option maxHeartbeats 4000000 in
theorem explains_no (cf : Nat → Int) (lv : Int) (L : List Opr) (O : List Int) (hL : L.length ≤ 1000) (hO : O.length ≤ 1000) (hI : AllI O) (A D : Option Addr) (c d : Nat) (w : World)
    (ha : LiesC w A (flatF opF L)) (hd : LiesC w D (flatI O)) (hm : mayO L O = false) :
    Calls Tryz.prog 11 #[.agg (rowOf 14 (ints cf)), .int .i64 lv, .slice A L.length c, .slice D O.length d] w fun e w' => e = .returned (.bool false) ∧ Below w.heap.size w w' := by
  have HA := Lib.hid ha; have HD := Lib.hid hd
  have CM := Lib.hid (fun W h1 h2 => pMay_any A D c d L O hL hO hI W h1 h2)
  rw [hm] at CM
  clear ha hd hI hm
  generalize hml : L.length = m at *
  generalize hol : O.length = l at *
  go_enter Tryz.func11, Tryz.ntmps11
  go_upto_region 1 with fail
  generalize hW : World.alloc _ _ = W
  have hx : Row W w.heap.size 43 14 (ints cf) ∧ Below w.heap.size w W := by
    subst hW
    exact ⟨Row.new w _ _ _ _ rfl, (Below.refl _ w).alloc (Nat.le_refl _) _⟩
  have HX := Lib.hid hx
  clear hW hx
  generalize hg : w.heap.size = g at *
  go_wp2_with (go_at_call 6; refine (CM.out _ (HA.out.keep (by rw [hg]; exact HX.out.2)) (HD.out.keep (by rw [hg]; exact HX.out.2))).mono ?_; rintro e w1 ⟨rfl, hb⟩)
  go_ret
  exact ⟨rfl, by rw [hg]; exact HX.out.2.trans (hb.mono (by have := HX.out.1.lt; omega))⟩
set_option maxRecDepth 100000 in
set_option maxHeartbeats 4000000 in
theorem explains_any (cf : Nat → Int) (lv : Int) (L : List Opr) (O : List Int) (hL : L.length ≤ 1000) (hO : O.length ≤ 1000) (hI : AllI O) (A D : Option Addr) (c d : Nat) (ok : Nat → Bool) (R : Nat → (Nat → Value) → World → Prop) (w : World)
    (ha : LiesC w A (flatF opF L)) (hd : LiesC w D (flatI O)) (hR0 : ∀ W, Below w.heap.size w W → R 0 (newF cf lv) W)
    (hR1 : ∀ k F W W', R k F W → Below W.heap.size W W' → R k F W') (hR2 : ∀ k F W n cs, R k F W → AwayF F n → R k F (W.setRow n cs)) (hR3 : ∀ k F W i b, R k F W → i < 63 → (F i).ownBlock = some b → b < W.heap.size)
    (HG : ∀ k F W, k < O.length → 0 ≤ O.getD k 0 → O.getD k 0 < L.length → R k F W → (∀ i, i < 63 → (F i).oneCell' = true) → Below w.heap.size w W → Calls Tryz.prog 35 #[.agg (rowOf 63 F), .agg (opF (oprN L (O.getD k 0).toNat)).toArray] W fun e w' => ∃ F' b, e = .returned (.tuple #[.agg (rowOf 63 F'), .bool b]) ∧ (b = ok k ∧ (b = true → R (k + 1) F' w')) ∧ (∀ i, i < 63 → (F' i).oneCell' = true) ∧ StemF F W.heap.size F' ∧ Below W.heap.size W w') :
    Calls Tryz.prog 11 #[.agg (rowOf 14 (ints cf)), .int .i64 lv, .slice A L.length c, .slice D O.length d] w fun e w' => e = .returned (.bool (mayO L O && legB ok L.length O)) ∧ Below w.heap.size w w' := by
  cases hmy : mayO L O
  · exact explains_no cf lv L O hL hO hI A D c d w ha hd hmy
  have HA := Lib.hid ha; have HD := Lib.hid hd
  have CM := Lib.hid (fun W h1 h2 => pMay_any A D c d L O hL hO hI W h1 h2)
  have CN := Lib.hid (fun W => mNew_any cf lv W)
  have CB := Lib.hid (fun (W : World) (hb : Below w.heap.size w W) h1 h2 => behind_any (newF cf lv) L O (by omega) (by omega) A D c d ok R W h1 h2 (newF_at cf lv).one (hR0 W hb) hR1 hR2 hR3 (fun k F W' a1 a2 a3 a4 a5 a6 => HG k F W' a1 a2 a3 a4 a5 (hb.trans (a6.mono hb.size))))
  clear ha hd hI HG hR0 hR1 hR2 hR3
  generalize hml : L.length = m at *
  generalize hol : O.length = l at *
  generalize hlg : legB ok m O = lg at *
  have HLG := Lib.hid hlg; clear hlg
  rw [hmy] at CM
  rw [Bool.true_and]
  have HMY := Lib.hid hmy; clear hmy
  go_enter Tryz.func11, Tryz.ntmps11
  go_upto_region 1 with fail
  generalize hW : World.alloc _ _ = W
  have hx : Row W w.heap.size 43 14 (ints cf) ∧ Below w.heap.size w W := by
    subst hW
    exact ⟨Row.new w _ _ _ _ rfl, (Below.refl _ w).alloc (Nat.le_refl _) _⟩
  have HX := Lib.hid hx
  clear hW hx
  generalize hg : w.heap.size = g at *
  · go_upto_region 3 with (go_at_call 6; refine (CM.out _ (HA.out.keep (by rw [hg]; exact HX.out.2)) (HD.out.keep (by rw [hg]; exact HX.out.2))).mono ?_; rintro e w1 ⟨rfl, hb⟩; have h1 := HX.out.1.keep hb; have HB1 := Lib.hid (HX.out.2.trans (hb.mono (by have := HX.out.1.lt; omega))); clear hb)
    have HG := Lib.hid hg
    clear hg
    go_wp2_with (first
      | (refine wpList_load_row rfl 43 _ rfl g rfl 43 (rowOf 14 (ints cf)) (0, 0) _ h1 Tryz.underlying43 rfl (by kernel_rfl) ?_)
      | (go_at_call 22; refine (CN.out _).mono ?_; rintro e w2 ⟨rfl, hb⟩; have HB2 := Lib.hid (HB1.out.trans (hb.mono (by have := h1.lt; omega))); clear hb)
      | (go_at_call 21; refine (CB.out _ HB2.out (HA.out.keep (by rw [HG.out]; exact HB2.out)) (HD.out.keep (by rw [HG.out]; exact HB2.out))).mono ?_; rintro e w3 ⟨F, b, rfl, hb1, -, hF, -, hb⟩; have HB3 := Lib.hid (HB2.out.trans (hb.mono (by have := HB2.out.size; have := HG.out; omega))); have HF := Lib.hid hF; have HBB := Lib.hid hb1; clear hb hF hb1)
      | (refine wpList_store_row rfl 74 _ _ rfl w3.heap.size (rowOf 63 F) rfl rfl 74 _ (heap_alloc_new w3 _) (by kernel_rfl) rfl (rowOf_all HF.out) ?_))
    go_ret
    refine ⟨by rw [HBB.out]; rfl, ?_⟩
    rw [HG.out]
    exact below_setRow_ (HB3.out.alloc (by have := HB3.out.size; have := HG.out; omega) _) (by have := HB3.out.size; have := HG.out; omega) _

/-- The configuration of one thread; the example's two opers. -/
def oneN (i : Nat) : Int := [1, 1, 0, 0, 0, 0, 0, 0, 0, 0, 2, 1, 1, 0].getD i 0
def L16 : List Opr := [⟨0, ⟨6, 0, 0, 1, 0, 0, 0⟩, zeroA, 0, 1⟩, ⟨0, ⟨7, 0, 0, 0, 0, 0, 0⟩, ⟨0, 1, 0, 0, 0, 0⟩, 2, 3⟩]
def exQ : Nat → List Pr
  | 1 => [⟨1, 0⟩]
  | _ => []
structure ExR (k : Nat) (F : Nat → Value) (W : World) : Prop where
  at_ : AtF F oneN 0
  none_ : ∀ i, i < 63 → i ≠ 60 → (F i).ownBlock = none
  line : LnIs W (F 60) (exQ k).length (flatP (exQ k))
theorem one64 : Ok64 oneN := by
  have : ∀ i, i < 14 → (0 ≤ oneN i ∧ oneN i ≤ 2) := by decide
  intro i
  by_cases hi : i < 14
  · have := this i hi
    omega
  · have : oneN i = 0 := by unfold oneN; simp [List.getD, List.getElem?_eq_none (show [1, 1, 0, 0, 0, 0, 0, 0, 0, 0, 2, 1, 1, (0 : Int)].length ≤ i by simpa using hi)]
    omega
theorem exR_new (W : World) : ExR 0 (newF oneN 0) W := by
  refine ⟨newF_at _ _, fun i hi hn => ?_, ?_⟩
  · have : ∀ i, i < 63 → i ≠ 60 → (newF oneN 0 i).ownBlock = none := by decide
    exact this i hi hn
  · exact ⟨none, 0, rfl, by decide, by decide, fun _ => rfl, .inl rfl, fun a h => by cases h⟩
theorem exR_keep (k : Nat) (F : Nat → Value) (W W' : World) (h : ExR k F W) (hb : Below W.heap.size W W') : ExR k F W' := ⟨h.at_, h.none_, h.line.keep hb⟩
theorem exR_set (k : Nat) (F : Nat → Value) (W : World) (n : Nat) (cs : Array Value) (h : ExR k F W) (ha : AwayF F n) : ExR k F (W.setRow n cs) := ⟨h.at_, h.none_, lnIs_setRow h.line (fun e => ha 60 n (by omega) e rfl) cs⟩
theorem exR_lt (k : Nat) (F : Nat → Value) (W : World) (i b : Nat) (h : ExR k F W) (hi : i < 63) (hb : (F i).ownBlock = some b) : b < W.heap.size := by
  by_cases e : i = 60
  · subst e; exact h.line.block b hb
  · rw [h.none_ i hi e] at hb; cases hb
/-- One of the example's steps. -/
theorem exStep (k : Nat) (F : Nat → Value) (W : World) (h : ExR k F W) (x : Opr) (op : Int) (pa pb : Nat) (hx : ansB x = true) (hc : (clL x.c).toArray = rowOf 7 (callF op 0 0 pa pb 0 0)) (a : Ans) (han : (anL x.a).toArray = rowOf 6 (ansF a)) (ht : x.th = 0)
    (hop : partN op = 2) (hp : policyN oneN 0 op 0 0 = 0) (hfit : fitsC op 0 0 a = true) (hle : leaveB oneN 0 0 a.e = false) (hh : a.h = 0) (hs : sameA a (queM (exQ k) op) = true) (hq : queL (exQ k) op pa pb = exQ (k + 1)) (hkl : (exQ k).length ≤ 100000) :
    Calls Tryz.prog 35 #[.agg (rowOf 63 F), .agg (opF x).toArray] W fun e w' => ∃ F' b, e = .returned (.tuple #[.agg (rowOf 63 F'), .bool b]) ∧ (b = true ∧ (b = true → ExR (k + 1) F' w')) ∧ (∀ i, i < 63 → (F' i).oneCell' = true) ∧ StemF F W.heap.size F' ∧ Below W.heap.size W w' := by
  refine goOn_told F x hx h.at_.one W (fun i b hi hb => exR_lt k F W i b h hi hb) (fun F' b w' => b = true ∧ (b = true → ExR (k + 1) F' w')) (fun W1 hb1 _ => ?_) (fun F' b W1 n cs hq1 ha => ⟨hq1.1, fun hb => exR_set _ _ _ _ _ (hq1.2 hb) ha⟩)
  rw [hc, han, ht]
  refine (mTold_queue oneN one64 0 (by omega) F h.at_ (F 60) (exQ k) hkl rfl op 0 0 0 pa pb 0 (by omega) hop a hp hfit hle hh W1 (h.line.keep hb1)).mono ?_
  rintro e w' ⟨v, rfl, h2, h3, h4⟩
  rw [hs]
  rw [hq] at h2
  have h60 : putF F 60 1 (fun _ => v) 60 = v := by simp [putF]
  have hne : ∀ i, i ≠ 60 → putF F 60 1 (fun _ => v) i = F i := fun i hi => putF_out (by omega)
  refine ⟨putF F 60 1 (fun _ => v), true, rfl, ⟨rfl, fun _ => ⟨h.at_.put (by omega) _ (fun i _ => ?_), fun i hi hn => by rw [hne i hn]; exact h.none_ i hi hn, by rw [h60]; exact h2⟩⟩, (h.at_.put (by omega) _ (fun i _ => ?_)).one, fun i b hi hb => ?_, h4⟩
  · obtain ⟨A5, c5, rfl⟩ := lnIs_parts h2; rfl
  · obtain ⟨A5, c5, rfl⟩ := lnIs_parts h2; rfl
  · by_cases e : i = 60
    · subst e
      rw [h60] at hb
      exact (h3 b hb).imp (fun h => ⟨60, by omega, h⟩) id
    · rw [hne i e] at hb
      exact .inl ⟨i, hi, hb⟩
theorem allI_of {O : List Int} (h : ∀ x, x ∈ O → I64r x) : AllI O := fun k hk => by
  have e : O.getD k 0 = O[k] := by simp [List.getD, hk]
  rw [e]; exact h _ (List.getElem_mem hk)
theorem pExplains_01 (A D : Option Addr) (c d : Nat) (w : World) (ha : LiesC w A (flatF opF L16)) (hd : LiesC w D (flatI [0, 1])) :
    Calls Tryz.prog 11 #[.agg (rowOf 14 (ints oneN)), .int .i64 0, .slice A 2 c, .slice D 2 d] w fun e w' => e = .returned (.bool true) ∧ Below w.heap.size w w' := by
  have h := explains_any oneN 0 L16 [0, 1] (by decide) (by decide) (allI_of (fun x hx => by simp at hx; unfold I64r; omega)) A D c d (fun _ => true) ExR w ha hd (fun W _ => exR_new W) exR_keep exR_set exR_lt (fun k F W hk h1 h2 hR hF hb => by
    match k, hk with
    | 0, _ => exact exStep 0 F W hR _ 6 1 0 rfl rfl ⟨0, 0, 0, 0, 0, 0⟩ rfl rfl (by decide) (by decide) (by decide) (by decide) rfl (by decide) (by decide) (by decide)
    | 1, _ => exact exStep 1 F W hR _ 7 0 0 rfl rfl ⟨0, 1, 0, 0, 0, 0⟩ rfl rfl (by decide) (by decide) (by decide) (by decide) rfl (by decide) (by decide) (by decide))
  rw [show (mayO L16 [0, 1] && legB (fun _ => true) L16.length [0, 1]) = true by decide] at h
  exact h
theorem pExplains_10 (A D : Option Addr) (c d : Nat) (w : World) (ha : LiesC w A (flatF opF L16)) (hd : LiesC w D (flatI [1, 0])) :
    Calls Tryz.prog 11 #[.agg (rowOf 14 (ints oneN)), .int .i64 0, .slice A 2 c, .slice D 2 d] w fun e w' => e = .returned (.bool false) ∧ Below w.heap.size w w' :=
  explains_no oneN 0 L16 [1, 0] (by decide) (by decide) (allI_of (fun x hx => by simp at hx; unfold I64r; omega)) A D c d w ha hd (by decide)
end Go.Proofs.YtiafjbhekfpkbaaGreatDoor
namespace Go.Proofs.YtiafjbhekfpkbaaGreatDoor
set_option linter.unusedSimpArgs false
set_option linter.unusedVariables false
open Go.ChangeShapes Go.WideShapes Go.ChangeAt Go.RowKit

/-- The numbers of an order that was made of what might come next fit. -/
theorem allI_grown {L : List Opr} {O : List Int} (h : Grown L O) (hL : L.length ≤ 1000) : AllI O := fun k hk => by
  obtain ⟨x, h1, h2⟩ := h.mem k hk
  rw [h1]; unfold I64r; omega
end Go.Proofs.YtiafjbhekfpkbaaGreatDoor
namespace Go.Proofs.YtiafjbhekfpkbaaGreatDoor
set_option linter.unusedSimpArgs false
set_option linter.unusedVariables false
open Go.ChangeShapes Go.WideShapes Go.ChangeAt Go.RowKit
set_option linter.unusedSimpArgs false

theorem one16_any (w : World) : Calls Tryz.prog 12 #[] w fun e w' => e = .returned (.agg (rowOf 14 (ints oneN))) ∧ Below w.heap.size w w' := by
  go_enter Tryz.func12, Tryz.ntmps12
  go_wp2_with (refine wpList_store_row rfl 43 _ _ rfl w.heap.size (rowOf 14 (ints oneN)) rfl rfl 43 (rowOf 14 (ints fun _ => 0)) (heap_alloc_new w _) (by kernel_rfl) rfl (ints_one _ _) ?_)
  rw [World.setRow_alloc_new]
  exact bodyPost_ret (results_cell_row (p := 0) (ty := 43) (by kernel_rfl) _ _ w.heap.size 43 (rowOf 14 (ints oneN)) (0, 0) _ rfl (heap_alloc_new w _) Tryz.underlying43 rfl (by kernel_rfl)) rfl ⟨rfl, (Below.refl _ _).alloc (Nat.le_refl _) _⟩
theorem lies_lit (w : World) {cs : Array Value} {ds : List Value} (t : TypeId) (h : cs = ds.toArray) : LiesC (w.alloc (.cells cs t)) (some ⟨w.heap.size, 0, none⟩) ds := .inr ⟨w.heap.size, 0, rfl, by simp, fun j v hj => by
  rw [Nat.zero_add, (Cells.new w cs t).cell j, h]
  exact hj⟩
set_option maxRecDepth 100000 in
set_option maxHeartbeats 2000000 in
theorem lives16_any (w : World) : Calls Tryz.prog 5 #[] w fun e w' => e = .returned (.bool true) ∧ Below w.heap.size w w' := by
  have C1 := Lib.hid (fun W => one16_any W)
  have CA := Lib.hid (fun A D c d W h1 h2 => pExplains_01 A D c d W h1 h2)
  have CB := Lib.hid (fun A D c d W h1 h2 => pExplains_10 A D c d W h1 h2)
  go_enter Tryz.func5, Tryz.ntmps5
  go_upto_region 3 with fail
  generalize hW : World.alloc _ _ = W
  have hl : LiesC W (some ⟨w.heap.size + 1, 0, none⟩) (flatF opF L16) ∧ Below w.heap.size w W := by
    subst hW
    refine ⟨?_, ((Below.refl _ w).alloc (Nat.le_refl _) _).alloc (by simp) _⟩
    have h := lies_lit (w.alloc (.cells #[.int .u64 1, .int .u64 0] 31)) 38 (cs := (flatF opF L16).toArray) rfl
    rw [World.size_alloc] at h
    exact h
  have HL := Lib.hid hl
  clear hl hW
  go_wp2_with fail
  refine (C1.out _).mono ?_
  rintro e w1 ⟨rfl, hb⟩
  have HB1 := Lib.hid hb; clear hb
  go_wp2_with fail
  refine (CA.out _ _ _ _ _ ((HL.out.1.keep HB1.out).alloc _) (lies_lit _ 3 rfl)).mono ?_
  rintro e w2 ⟨rfl, hb⟩
  have HB2 := Lib.hid ((HB1.out.alloc HB1.out.size _).trans (hb.mono (Nat.le_trans HB1.out.size (by simp)))); clear hb
  go_wp2_with fail
  refine (C1.out _).mono ?_
  rintro e w3 ⟨rfl, hb⟩
  have HB3 := Lib.hid (HB2.out.trans (hb.mono HB2.out.size)); clear hb
  go_wp2_with fail
  refine (CB.out _ _ _ _ _ ((HL.out.1.keep HB3.out).alloc _) (lies_lit _ 3 rfl)).mono ?_
  rintro e w4 ⟨rfl, hb⟩
  have HB4 := Lib.hid ((HB3.out.alloc HB3.out.size _).trans (hb.mono (Nat.le_trans HB3.out.size (by simp)))); clear hb
  go_wp2_with fail
  go_ret
  exact ⟨rfl, HL.out.2.trans (HB4.out.mono HL.out.2.size)⟩
end Go.Proofs.YtiafjbhekfpkbaaGreatDoor
namespace Go.Proofs.YtiafjbhekfpkbaaGreatDoor
set_option linter.unusedSimpArgs false
set_option linter.unusedVariables false
open Go.ChangeShapes Go.WideShapes Go.ChangeAt Go.RowKit

theorem getD_extI {l m : List Int} (h : l.length = m.length) (h2 : ∀ i, i < l.length → l.getD i 0 = m.getD i 0) : l = m := by
  apply List.ext_getElem h
  intro i h3 h4
  have := h2 i h3
  simpa [List.getD, h3, h4] using this
set_option maxRecDepth 100000 in
theorem rInts_any (A B : Option Addr) (ca cb : Nat) (l m : List Int) (hl : l.length ≤ 9223372036854775807) (hm : m.length ≤ 9223372036854775807) (w : World)
    (hr : RowIs w A l.length (fun i => .int .i64 (l.getD i 0))) (hq : RowIs w B m.length (fun i => .int .i64 (m.getD i 0))) :
    Calls Tryz.prog 8 #[.slice A l.length ca, .slice B m.length cb] w fun e w' => e = .returned (.bool (decide (l = m))) ∧ Drew w w' := by
  by_cases hlen : l.length = m.length
  · have hq' : RowIs w B l.length (fun i => .int .i64 (m.getD i 0)) := by rw [hlen]; exact hq
    have HX : Hid ((∀ i, i < l.length → l.getD i 0 = m.getD i 0) → l = m) := Lib.hid (getD_extI hlen)
    rw [← hlen]
    have hne : ((l.length : Int) != l.length) = false := by simp
    have HL := Lib.hid hlen
    clear hq hlen hm
    go_enter Tryz.func8, Tryz.ntmps8
    go_wp2
    go_loopw [5] (fun i wr => ∃ k : Nat, i = .int .i64 k ∧ k ≤ l.length ∧ Hid (∀ j, j < k → l.getD j 0 = m.getD j 0) ∧ Drew w wr) (fun i _ => l.length - (intOf i).toNat)
    case atStart => exact ⟨0, rfl, by omega, Lib.hid (fun j hj => by omega), Drew.refl _⟩
    case round =>
      obtain ⟨k, rfl, hk, hs, hd⟩ := hrel
      by_cases hlt : k < l.length
      · obtain ⟨b1, o1, rfl, _, hc1⟩ := hd.row hr (by omega)
        obtain ⟨b2, o2, rfl, _, hc2⟩ := hd.row hq' (by omega)
        have v1 : wr.cell? ⟨b1, o1 + k, none⟩ = some (.int .i64 (l.getD k 0)) := hc1 k hlt
        have v2 : wr.cell? ⟨b2, o2 + k, none⟩ = some (.int .i64 (m.getD k 0)) := hc2 k hlt
        have q0 : (0 : Int) ≤ (k : Int) := by omega
        have q1 : (k : Int) < (l.length : Int) := by omega
        have HX2 : Hid (l.getD k 0 = m.getD k 0 → ∀ j, j < k + 1 → l.getD j 0 = m.getD j 0) := Lib.hid (fun h j hj => by
          rcases Nat.lt_or_ge j k with h3 | h3
          · exact hs.out j h3
          · obtain rfl : j = k := by omega
            exact h)
        have HX3 : Hid (l.getD k 0 ≠ m.getD k 0 → decide (l = m) = false) := Lib.hid (fun h => decide_eq_false (fun e => h (by rw [e])))
        clear hc1 hc2 hr hq' hs
        generalize l.getD k 0 = x at *
        generalize m.getD k 0 = y at *
        by_cases hxy : x = y
        · have d : (x != y) = false := by simpa using hxy
          have HX4 := Lib.hid (HX2.out hxy)
          clear HX2 HX3 hxy
          go_wp2_with fail
          go_quiet (fail)
          go_wp2
          go_roundw
          case rel => exact ⟨k + 1, by go_num, by omega, HX4, hd.more _⟩
          case measure => simp [intOf]; omega
        · have d : (x != y) = true := by simpa using hxy
          have HX4 := Lib.hid (HX3.out hxy)
          clear HX2 HX3 hxy
          go_wp2_with fail
          go_quiet (fail)
          go_wp2
          go_ret
          exact ⟨by rw [HX4.out]; rfl, hd.more _⟩
      · obtain rfl : k = l.length := by omega
        have HX4 := Lib.hid (decide_eq_true (HX.out hs.out))
        clear hs HX
        go_wp2
        go_ret
        exact ⟨by rw [HX4.out]; rfl, hd⟩
  · have hne : ((l.length : Int) != m.length) = true := by rw [bne_iff_ne]; omega
    have HX := Lib.hid (decide_eq_false (p := l = m) (fun e => hlen (by rw [e])))
    clear hlen
    go_enter Tryz.func8, Tryz.ntmps8
    go_wp2
    go_ret
    exact ⟨by rw [HX.out]; rfl, Drew.refl _⟩

/-- The document's list: the first k threads whose level is from lo to hi. -/
def rthr (c : Nat → Int) (lo hi : Int) (k : Nat) : List Int := ((List.range k).filter fun t : Nat => decide (0 ≤ lvl c t) && withinB (lvl c t) lo hi).map Int.ofNat
theorem rthr_succ (c : Nat → Int) (lo hi : Int) (k : Nat) : rthr c lo hi (k + 1) = rthr c lo hi k ++ if (decide (0 ≤ lvl c k) && withinB (lvl c k) lo hi) = true then [(k : Int)] else [] := by
  unfold rthr
  rw [List.range_succ, List.filter_append, List.map_append]
  congr 1
  by_cases h : (decide (0 ≤ lvl c k) && withinB (lvl c k) lo hi) = true
  · rw [if_pos h]; simp [h]
  · rw [if_neg h]; simp [h]
theorem rthr_len (c : Nat → Int) (lo hi : Int) (k : Nat) : (rthr c lo hi k).length ≤ k := by
  unfold rthr
  rw [List.length_map]
  exact Nat.le_trans (List.length_filter_le ..) (by simp)
theorem rthr_all (c : Nat → Int) (lo hi : Int) : rthr c lo hi 8 = thrs c lo hi := by
  unfold thrs
  by_cases hm : mayB c = true
  · rw [if_pos hm]
    obtain ⟨_, ⟨h1, h2⟩, h3, _⟩ := may_bounds hm
    have key : ∀ k : Nat, k ≤ 8 → rthr c lo hi k = thr c lo hi (min k (c 1).toNat) := by
      intro k
      induction k with
      | zero => intro _; rfl
      | succ k ih =>
        intro hk
        rw [rthr_succ, ih (by omega)]
        by_cases hlt : (k : Int) < c 1
        · have e1 : lvl c k = c (2 + k) := lvl_yes hm (by omega) hlt
          have e2 : 0 ≤ c (2 + k) := by
            have := h3 k (by omega)
            unfold okT at this
            rw [if_neg (by omega)] at this
            simp only [Bool.and_eq_true, decide_eq_true_eq] at this
            exact this.1
          rw [show min k (c 1).toNat = k by omega, show min (k + 1) (c 1).toNat = k + 1 by omega, thr_succ, e1, decide_eq_true e2, Bool.true_and]
        · have e1 : lvl c k = -1 := lvl_no (fun h => hlt h.2.2)
          rw [show min (k + 1) (c 1).toNat = min k (c 1).toNat by omega, e1]
          simp
    rw [key 8 (by omega), show min 8 (c 1).toNat = (c 1).toNat by omega]
  · rw [if_neg hm]
    have : ∀ t : Nat, (decide (0 ≤ lvl c t) && withinB (lvl c t) lo hi) = false := fun t => by
      rw [lvl_no (c := c) (fun h => hm h.1)]; rfl
    unfold rthr
    simp [this]

end Go.Proofs.YtiafjbhekfpkbaaGreatDoor
namespace Go.Proofs.YtiafjbhekfpkbaaGreatDoor
set_option linter.unusedSimpArgs false
set_option linter.unusedVariables false
open Go.ChangeShapes Go.WideShapes Go.ChangeAt Go.RowKit

theorem row_of_lies {w : World} {A : Option Addr} {O : List Int} (h : LiesC w A (flatI O)) : RowIs w A O.length (fun i => .int .i64 (O.getD i 0)) := fun hn => by
  obtain ⟨b, off, rfl, hb, hx⟩ := h.atI hn
  exact ⟨b, off, rfl, hb, hx⟩
theorem proofMay_long (A D : Option Addr) (c d : Nat) (L : List Opr) (O : List Int) (h : 40 < L.length ∨ 60 < O.length) (hL : L.length ≤ 9223372036854775807) (hO : O.length ≤ 9223372036854775807) (w : World) :
    Calls Tryz.prog 3 #[.slice A L.length c, .slice D O.length d] w fun e w' => e = .returned (.bool true) ∧ Below w.heap.size w w' := by
  have C9 := Lib.hid fun W => lives16_any W
  generalize L.length = n at *
  generalize O.length = m at *
  by_cases h1 : 40 < n
  · clear h
    go_enter Tryz.func3, Tryz.ntmps3
    go_wp2_with (go_at_call 5; refine (C9.out _).mono ?_; rintro e w' ⟨rfl, hb⟩)
    go_ret
    exact ⟨rfl, hb⟩
  · have h2 : 60 < m := by omega
    clear h
    go_enter Tryz.func3, Tryz.ntmps3
    go_wp2_with (go_at_call 5; refine (C9.out _).mono ?_; rintro e w' ⟨rfl, hb⟩)
    go_ret
    exact ⟨rfl, hb⟩
theorem proofMay_walk (A D : Option Addr) (c d : Nat) (L : List Opr) (O : List Int) (hI : AllI O) (hL : L.length ≤ 9223372036854775807) (hO : O.length ≤ 9223372036854775807) (w : World) (ha : LiesC w A (flatF opF L)) (hd : LiesC w D (flatI O)) :
    Calls Tryz.prog 3 #[.slice A L.length c, .slice D O.length d] w fun e w' => e = .returned (.bool true) ∧ Below w.heap.size w w' := by
  by_cases h : 40 < L.length ∨ 60 < O.length
  · exact proofMay_long A D c d L O h hL hO w
  · have hL1 : L.length ≤ 40 := by omega
    have hO1 : O.length ≤ 60 := by omega
    clear h hL hO
    have C9 := Lib.hid fun W => lives16_any W
    have C1 := Lib.hid (fun W h1 h2 => pMay_any A D c d L O (by omega) (by omega) hI W h1 h2)
    have C2 := Lib.hid (fun W h1 h2 => r16May_any A D c d L O (by omega) (by omega) W h1 h2)
    have C3 := Lib.hid (fun W h1 h2 => pNext_any A D c d L O (by omega) (by omega) hI W h1 h2)
    have C4 := Lib.hid (fun W h1 h2 => r16Next_any A D c d L O (by omega) (by omega) W h1 h2)
    have hnl := nextsUp_len L O L.length
    have HA := Lib.hid (And.intro ha hd)
    clear ha hd hI
    generalize mayO L O = b at *
    generalize nextsUp L O L.length = ns at *
    have CI := Lib.hid (fun A B ca cb W h1 h2 => rInts_any A B ca cb ns ns (by omega) (by omega) W h1 h2)
    rw [decide_eq_true rfl] at CI
    generalize L.length = n at *
    generalize O.length = m at *
    go_enter Tryz.func3, Tryz.ntmps3
    go_wp2_with fail
    refine (C1.out _ HA.out.1 HA.out.2).mono ?_
    rintro e w1 ⟨rfl, hb⟩
    have HB1 := Lib.hid hb; clear hb
    go_wp2_with fail
    refine (C2.out _ (HA.out.1.keep HB1.out) (HA.out.2.keep HB1.out)).mono ?_
    rintro e w2 ⟨rfl, hb⟩
    have HB2 := Lib.hid (HB1.out.trans (hb.mono HB1.out.size)); clear hb
    go_wp2_with fail
    refine (C3.out _ (HA.out.1.keep HB2.out) (HA.out.2.keep HB2.out)).mono ?_
    rintro e w3 ⟨v, rfl, hv, hf, hb⟩
    have HB3 := Lib.hid (HB2.out.trans (hb.mono HB2.out.size)); clear hb hf
    obtain ⟨A5, c5, rfl, -, -, -, hv, -⟩ := hv
    have HV := Lib.hid hv; clear hv
    go_wp2_with fail
    refine (C4.out _ (HA.out.1.keep HB3.out) (HA.out.2.keep HB3.out)).mono ?_
    rintro e w4 ⟨v, rfl, hv, hf, hb⟩
    have HB4 := Lib.hid (HB3.out.trans (hb.mono HB3.out.size))
    have HV4 := Lib.hid (HV.out.keep hb)
    clear hb hf
    obtain ⟨A6, c6, rfl, -, -, -, hv, -⟩ := hv
    have HU := Lib.hid hv; clear hv
    go_wp2_with fail
    refine (CI.out _ _ _ _ _ (row_of_lies HV4.out) (row_of_lies HU.out)).mono ?_
    rintro e w5 ⟨rfl, hb⟩
    have HB5 := Lib.hid (HB4.out.trans ((hb.below _).mono HB4.out.size)); clear hb
    go_wp2_with fail
    refine (C9.out _).mono ?_
    rintro e w6 ⟨rfl, hb⟩
    have HB6 := Lib.hid (HB5.out.trans (hb.mono HB5.out.size)); clear hb
    go_wp2_with fail
    go_ret
    exact ⟨rfl, HB6.out⟩
end Go.Proofs.YtiafjbhekfpkbaaGreatDoor
namespace Go.Proofs.YtiafjbhekfpkbaaGreatDoor
set_option linter.unusedSimpArgs false
set_option linter.unusedVariables false
open Go.ChangeShapes Go.WideShapes Go.ChangeAt Go.RowKit

/-- The one listed variable. -/
def laid1 : List (String × DataW Unit) := [("errors.errorType", Rows.laid_errors_errorType)]
/-- What its cell holds. -/
def errT : Value := .iface 202 (.agg #[.pointer (some ⟨1, 122, none⟩)])
theorem tied_et : Tryz.prog.globalNamed "errors.errorType" = some 0 := by kernel_rfl
theorem tied_rt : (Tryz.prog.cutTypes.find? (·.1 == "internal/reflectlite.rtype")).map (·.2) = some 202 := by kernel_rfl
theorem tied_row : ((List.range Tryz.prog.types.size).filter fun t => Tryz.prog.rowNamed t [101, 114, 114, 111, 114]) = [122] := by kernel_rfl
theorem cell_of_laid {W : World} (h : laidMetH Tryz.prog laid1 W) : W.cell? ⟨0, 0, none⟩ = some errT := by
  have h' : laidMet Tryz.prog [] W ∧ handlesMet Tryz.prog laid1 W := h
  obtain ⟨name, u, ty, e1, e2, e3, e4, e5⟩ := h'.2 _ (List.mem_singleton.2 rfl)
  have en : name = [101, 114, 114, 111, 114] := (Option.some.inj e1).symm
  subst en
  obtain rfl := Option.some.inj (tied_rt.symm.trans e2)
  have hm : ty ∈ (List.range Tryz.prog.types.size).filter fun t => Tryz.prog.rowNamed t [101, 114, 114, 111, 114] := List.mem_filter.2 ⟨List.mem_range.2 e3, e4⟩
  rw [tied_row] at hm
  obtain rfl := List.mem_singleton.1 hm
  have hh : typeHandle Tryz.prog 122 = .pointer (some ⟨1, 122, none⟩) := by kernel_rfl
  rw [hh] at e5
  simpa [errT] using World.var?_cell tied_et e5 0
/-- A world that meets the condition. -/
noncomputable def laidWorld (os : Os) : World :=
  let w0 := World.holding Tryz.prog os ⟨#[], #[], []⟩
  { w0 with heap := w0.heap.modify 0 fun
      | .cells _ t frozen => .cells #[errT] t frozen
      | o => o }
theorem laidWorld_met (os : Os) (args : Array Value) : laidMetH Tryz.prog laid1 ((laidWorld os).forCall (fun _ _ => 0) ⟨#[], args, []⟩).memory :=
  laidMetH_of_parts (laidMet_nil _ _) (by kernel_rfl)
end Go.Proofs.YtiafjbhekfpkbaaGreatDoor
