/- The law ScriptPuts. -/
import Derived.Test.YtdbankogamolcaaDoorJ16
import Derived.Test.YtdbankogamolcaaDoorJ11
import Derived.Deep.RegionWith
namespace Go.Proofs.YtdbankogamolcaaDoor
set_option linter.unusedSimpArgs false
set_option linter.unusedVariables false
set_option linter.unusedSimpArgs false
open Go.ChangeShapes Go.WideShapes Go.ChangeAt Go.RowKit

/-- Two scripts in their blocks. -/
structure TwoR (g : Nat) (f h : Nat → Value) (a b : Scr) (w W : World) : Prop where
  l : ScrAt g f a W
  r : ScrAt (g + 1) h b W
  et : EnvS W
  bel : Below g w W
theorem TwoR.keep {g : Nat} {f h : Nat → Value} {a b : Scr} {w W W' : World} (x : TwoR g f h a b w W) (hb : Below W.heap.size W W') : TwoR g f h a b w W' := ⟨x.l.keep hb, x.r.keep hb, x.et.below hb, x.bel.trans (hb.mono (by have := x.l.row.lt; omega))⟩
theorem TwoR.below {g : Nat} {f h : Nat → Value} {a b : Scr} {w W W' : World} (x : TwoR g f h a b w W) (hb : Below W.heap.size W W') : Below g w W' := (x.keep hb).bel
set_option maxRecDepth 100000 in
set_option maxHeartbeats 4000000 in
theorem scriptPuts_walk (f h : Nat → Value) (a b : Scr) (oka : OkS18 a) (okb : OkS18 b) (w : World) (ha : ScrIs w f a) (hb : ScrIs w h b) (het : EnvS w) :
    Calls Tryd.prog 4 #[.agg (rowOf 23 f), .agg (rowOf 23 h)] w fun e w' => e = .returned (.bool true) ∧ Below w.heap.size w w' := by
  have C9 := Lib.hid fun W hE => lives18_any W hE
  have CGa := Lib.hid fun W h1 => great_any f a 2000 W h1
  have CGb := Lib.hid fun W h1 => great_any h b 2000 W h1
  have HT := Lib.hid (two_scr ha hb)
  have HE := Lib.hid het
  have HLA := Lib.hid fun h1 => lim_of (n := 2000) oka (by omega) h1
  have HLB := Lib.hid fun h1 => lim_of (n := 2000) okb (by omega) h1
  clear ha hb het oka okb
  go_enter Tryd.func4, Tryd.ntmps4
  go_upto_region 1 with fail
  generalize hW : World.alloc _ _ = W
  have hx : TwoR w.heap.size f h a b w W := by
    obtain ⟨h1, h2, h3⟩ := HT.out W hW
    exact ⟨h1, h2, HE.out.below h3, h3⟩
  clear hW HT HE
  generalize hg : w.heap.size = g at *
  have HG := Lib.hid hg; clear hg
  have HR := Lib.hid hx; clear hx
  have hl := HR.out.l.row
  go_wp2_with (refine wpList_load_row rfl 29 _ rfl g rfl 29 (rowOf 23 f) (0, 0) _ hl Tryd.underlying29 rfl (by kernel_rfl) ?_)
  refine (CGa.out _ HR.out.l.scr).mono ?_
  rintro e w1 ⟨rfl, hb⟩
  replace HR := Lib.hid (HR.out.keep hb)
  clear hl hb CGa
  cases hga : greatB a 2000 with
  | true =>
    go_wp2_with fail
    refine (C9.out _ HR.out.et).mono ?_
    rintro e w9 ⟨rfl, hb⟩
    go_wp2_with fail
    go_ret
    exact ⟨rfl, by rw [HG.out]; exact HR.out.below hb⟩
  | false =>
    have HLa := Lib.hid (HLA.out hga)
    clear hga HLA
    go_wp2_with (refine wpList_load_midG rfl 29 _ rfl (g + 1) 0 rfl ((List.range 23).map h) _ HR.out.r.range Tryd.underlying29 rfl (by kernel_rfl) ?_)
    refine (CGb.out _ HR.out.r.scr).mono ?_
    rintro e w2 ⟨rfl, hb⟩
    replace HR := Lib.hid (HR.out.keep hb)
    clear hb CGb
    cases hgb : greatB b 2000 with
    | true =>
      go_wp2_with fail
      refine (C9.out _ HR.out.et).mono ?_
      rintro e w9 ⟨rfl, hb⟩
      go_wp2_with fail
      go_ret
      exact ⟨rfl, by rw [HG.out]; exact HR.out.below hb⟩
    | false =>
      have HLb := Lib.hid (HLB.out hgb)
      clear hgb HLB
      have CP := Lib.hid fun W h1 hE => sPut_any f a HLa.out W h1 hE
      have CS := Lib.hid fun W h1 h2 => sSame_any f h a b HLa.out HLb.out W h1 h2
      have CS1 := Lib.hid fun W h1 => sSame_any f f a a HLa.out HLa.out W h1 h1
      rw [sameS_refl] at CS1
      have CS2 := Lib.hid fun W h1 h2 => r18Same_any f h a b W (by have := HLa.out.el; omega) (by have := HLb.out.el; omega) (fun t ht => Nat.le_trans (HLa.out.pl t ht) (by omega)) (fun t ht => Nat.le_trans (HLb.out.pl t ht) (by omega)) h1 h2
      have hc0 := HLa.out.conf 0
      have HW : Hid (IntKind.i64.wrap (a.c 0 - 1) = allL a) := Lib.hid rfl
      have CQ := Lib.hid fun W h1 => r18Right_any f a (allL a) (by unfold allL; rw [IntKind.wrap_i64]; omega) HLa.out.conf HLa.out.el (fun t ht => Nat.le_trans (HLa.out.pl t ht) (by omega)) (fun i hi => (HLa.out.en i hi).1) W h1
      have CR := Lib.hid fun h0 W h1 => r18Put_right f a HLa.out h0 W h1
      have hl := HR.out.l.row
      go_wp2_with (refine wpList_load_row rfl 29 _ rfl g rfl 29 (rowOf 23 f) (0, 0) _ hl Tryd.underlying29 rfl (by kernel_rfl) ?_)
      refine (CP.out _ HR.out.l.scr HR.out.et).mono ?_
      rintro e w3 ⟨v, u, rfl, hp, hb⟩
      replace HR := Lib.hid (HR.out.keep hb)
      have HP := Lib.hid hp
      clear hl hb CP hp
      have hl := HR.out.l.row
      have p0 : w3.cell? ⟨g, 0, none⟩ = some (.int .i64 (a.c 0)) := by rw [hl.cell (by omega), HR.out.l.scr.conf 0 (by omega)]
      have hw0 := HW.out
      go_wp2_with (refine wpList_load_row rfl 29 _ rfl g rfl 29 (rowOf 23 f) (0, 0) _ hl Tryd.underlying29 rfl (by kernel_rfl) ?_)
      refine (CQ.out _ HR.out.l.scr).mono ?_
      rintro e w4 ⟨rfl, hb⟩
      replace HR := Lib.hid (HR.out.keep hb)
      obtain ⟨⟨er, rfl, he1, he2, -⟩, hp1, hp2⟩ := HP.out.keep hb
      have HE := Lib.hid he1; have HP1 := Lib.hid hp1; have HP2 := Lib.hid hp2
      have CC := Lib.hid fun W h1 h2 => code_any er W h1 h2
      rw [he2] at CC
      clear hl hb hw0 p0 hc0 HP he1 he2 hp1 hp2 CQ HW HLa HLb
      generalize sameS a b = q at *
      generalize putS18 a = L at *
      generalize rightN a (allL a) = m at *
      generalize allL a = lv at *
      have hq : (q != q) = false := by simp
      have hm : (m != m) = false := by simp
      go_upto_region 5 with fail
      refine wp_region_noPanic ?_
      refine wp_region_held_drew (S := fun w' => (TwoR g f h a b w w' ∧ ErrsIs w' er ∧ Below w4.heap.size w4 w')) (by kernel_rfl) (⟨HR.out.keep (Below.refl _ _).drew, HE.out.drew, (Below.refl _ _).drew⟩) (fun hHeld => ?_)
      try simp only [List.size_toArray, List.length_cons, List.length_nil, Nat.reduceAdd, Nat.reduceSub, Array.replicate_succ, Array.replicate_zero, List.push_toArray, List.append_toArray, List.nil_append, List.cons_append]   -- the listed as a literal: else each operation taken costs more than the last
      first | (refine wpAnyH_take (i := 0) (v := _) rfl (by kernel_rfl) (by kernel_rfl) (by kernel_rfl) (fun _ _ _ h => h) (yieldsIf_load_mid (by rfl) 29 _ rfl g 0 rfl ((List.range 23).map f) _ (fun w' hw' => hw'.1.l.range) Tryd.underlying29 rfl (by kernel_rfl)) hHeld ?_) | (refine wpAnyH_take (i := 0) (v := _) rfl (by kernel_rfl) (by kernel_rfl) (by kernel_rfl) (fun _ _ _ h => h) (yieldsIf_load_mid (by rfl) 29 _ rfl (g + 1) 0 rfl ((List.range 23).map h) _ (fun w' hw' => hw'.1.r.range) Tryd.underlying29 rfl (by kernel_rfl)) hHeld ?_)
      try simp only [Act.put, List.getElem_toArray, List.getElem_cons_succ, List.getElem_cons_zero, List.setIfInBounds_toArray, List.set_cons_zero, List.set_cons_succ]
      first | (refine wpAnyH_take (i := 1) (v := _) rfl (by kernel_rfl) (by kernel_rfl) (by kernel_rfl) (fun _ _ _ h => h) (yieldsIf_load_mid (by rfl) 29 _ rfl g 0 rfl ((List.range 23).map f) _ (fun w' hw' => hw'.1.l.range) Tryd.underlying29 rfl (by kernel_rfl)) hHeld ?_) | (refine wpAnyH_take (i := 1) (v := _) rfl (by kernel_rfl) (by kernel_rfl) (by kernel_rfl) (fun _ _ _ h => h) (yieldsIf_load_mid (by rfl) 29 _ rfl (g + 1) 0 rfl ((List.range 23).map h) _ (fun w' hw' => hw'.1.r.range) Tryd.underlying29 rfl (by kernel_rfl)) hHeld ?_)
      try simp only [Act.put, List.getElem_toArray, List.getElem_cons_succ, List.getElem_cons_zero, List.setIfInBounds_toArray, List.set_cons_zero, List.set_cons_succ]
      first | (refine wpAnyH_take (i := 3) (v := _) rfl (by kernel_rfl) (by kernel_rfl) (by kernel_rfl) (fun _ _ _ h => h) (yieldsIf_load_mid (by rfl) 29 _ rfl g 0 rfl ((List.range 23).map f) _ (fun w' hw' => hw'.1.l.range) Tryd.underlying29 rfl (by kernel_rfl)) hHeld ?_) | (refine wpAnyH_take (i := 3) (v := _) rfl (by kernel_rfl) (by kernel_rfl) (by kernel_rfl) (fun _ _ _ h => h) (yieldsIf_load_mid (by rfl) 29 _ rfl (g + 1) 0 rfl ((List.range 23).map h) _ (fun w' hw' => hw'.1.r.range) Tryd.underlying29 rfl (by kernel_rfl)) hHeld ?_)
      try simp only [Act.put, List.getElem_toArray, List.getElem_cons_succ, List.getElem_cons_zero, List.setIfInBounds_toArray, List.set_cons_zero, List.set_cons_succ]
      first | (refine wpAnyH_take (i := 4) (v := _) rfl (by kernel_rfl) (by kernel_rfl) (by kernel_rfl) (fun _ _ _ h => h) (yieldsIf_load_mid (by rfl) 29 _ rfl g 0 rfl ((List.range 23).map f) _ (fun w' hw' => hw'.1.l.range) Tryd.underlying29 rfl (by kernel_rfl)) hHeld ?_) | (refine wpAnyH_take (i := 4) (v := _) rfl (by kernel_rfl) (by kernel_rfl) (by kernel_rfl) (fun _ _ _ h => h) (yieldsIf_load_mid (by rfl) 29 _ rfl (g + 1) 0 rfl ((List.range 23).map h) _ (fun w' hw' => hw'.1.r.range) Tryd.underlying29 rfl (by kernel_rfl)) hHeld ?_)
      try simp only [Act.put, List.getElem_toArray, List.getElem_cons_succ, List.getElem_cons_zero, List.setIfInBounds_toArray, List.set_cons_zero, List.set_cons_succ]
      (refine wpAnyH_ready (rs := [2]) (by kernel_rfl) (by simp) ?_; refine AllReadyH.cons rfl (fun K hK => ?_) AllReadyH.nil; go_simp; (first | (go_at_call_of 15 h; refine (CS.out _ hHeld.1.l.scr hHeld.1.r.scr).mono ?_; rintro e w' ⟨rfl, hb⟩) | (go_at_call 16; refine (CS2.out _ hHeld.1.l.scr hHeld.1.r.scr).mono ?_; rintro e w' ⟨rfl, hb⟩) | (go_at_call 15; refine (CS1.out _ hHeld.1.l.scr).mono ?_; rintro e w' ⟨rfl, hb⟩) | (go_at_call 11; refine (CC.out _ hHeld.2.1 hHeld.1.et.et).mono ?_; rintro e w' ⟨rfl, hb⟩)); (try go_wp2_with fail); refine hK.out _ _ ?_ (fun hHeld' => ?_); (focus (exact ⟨hHeld.1.keep hb, hHeld.2.1.below hb, hHeld.2.2.trans (hb.mono hHeld.2.2.size)⟩)); clear hK K; replace hHeld := hHeld'; clear hHeld')
      try simp only [Act.put, List.getElem_toArray, List.getElem_cons_succ, List.getElem_cons_zero, List.setIfInBounds_toArray, List.set_cons_zero, List.set_cons_succ]
      (refine wpAnyH_ready (rs := [5]) (by kernel_rfl) (by simp) ?_; refine AllReadyH.cons rfl (fun K hK => ?_) AllReadyH.nil; go_simp; (first | (go_at_call_of 15 h; refine (CS.out _ hHeld.1.l.scr hHeld.1.r.scr).mono ?_; rintro e w' ⟨rfl, hb⟩) | (go_at_call 16; refine (CS2.out _ hHeld.1.l.scr hHeld.1.r.scr).mono ?_; rintro e w' ⟨rfl, hb⟩) | (go_at_call 15; refine (CS1.out _ hHeld.1.l.scr).mono ?_; rintro e w' ⟨rfl, hb⟩) | (go_at_call 11; refine (CC.out _ hHeld.2.1 hHeld.1.et.et).mono ?_; rintro e w' ⟨rfl, hb⟩)); (try go_wp2_with fail); refine hK.out _ _ ?_ (fun hHeld' => ?_); (focus (exact ⟨hHeld.1.keep hb, hHeld.2.1.below hb, hHeld.2.2.trans (hb.mono hHeld.2.2.size)⟩)); clear hK K; replace hHeld := hHeld'; clear hHeld')
      try simp only [Act.put, List.getElem_toArray, List.getElem_cons_succ, List.getElem_cons_zero, List.setIfInBounds_toArray, List.set_cons_zero, List.set_cons_succ]
      (refine wpAnyH_take (i := 6) (v := ?_) rfl (by kernel_rfl) (by kernel_rfl) (by kernel_rfl) (fun _ _ _ h => h) (Or.inl ⟨by rfl, ?_⟩) hHeld ?_; rotate_left; focus (intro w hSw; (try dsimp only at hSw); go_simp; (try with_reducible rfl)))
      try simp only [Act.put, List.getElem_toArray, List.getElem_cons_succ, List.getElem_cons_zero, List.setIfInBounds_toArray, List.set_cons_zero, List.set_cons_succ]
      (refine wpAnyH_take (i := 7) (v := ?_) rfl (by kernel_rfl) (by kernel_rfl) (by kernel_rfl) (fun _ _ _ h => h) (Or.inl ⟨by rfl, ?_⟩) hHeld ?_; rotate_left; focus (intro w hSw; (try dsimp only at hSw); go_simp; (try with_reducible rfl)))
      try simp only [Act.put, List.getElem_toArray, List.getElem_cons_succ, List.getElem_cons_zero, List.setIfInBounds_toArray, List.set_cons_zero, List.set_cons_succ]
      first | (refine wpAnyH_take (i := 8) rfl (by kernel_rfl) (by kernel_rfl) (by kernel_rfl) (fun _ _ _ h => h) (Or.inr ⟨by rfl, rfl⟩) hHeld ?_) | first | (refine wpAnyH_take (i := 8) (v := _) rfl (by kernel_rfl) (by kernel_rfl) (by kernel_rfl) (fun _ _ _ h => h) (yieldsIf_load_mid (by rfl) 29 _ rfl g 0 rfl ((List.range 23).map f) _ (fun w' hw' => hw'.1.l.range) Tryd.underlying29 rfl (by kernel_rfl)) hHeld ?_) | (refine wpAnyH_take (i := 8) (v := _) rfl (by kernel_rfl) (by kernel_rfl) (by kernel_rfl) (fun _ _ _ h => h) (yieldsIf_load_mid (by rfl) 29 _ rfl (g + 1) 0 rfl ((List.range 23).map h) _ (fun w' hw' => hw'.1.r.range) Tryd.underlying29 rfl (by kernel_rfl)) hHeld ?_)
      try simp only [Act.put, List.getElem_toArray, List.getElem_cons_succ, List.getElem_cons_zero, List.setIfInBounds_toArray, List.set_cons_zero, List.set_cons_succ]
      first | (refine wpAnyH_take (i := 9) rfl (by kernel_rfl) (by kernel_rfl) (by kernel_rfl) (fun _ _ _ h => h) (Or.inr ⟨by rfl, rfl⟩) hHeld ?_) | first | (refine wpAnyH_take (i := 9) (v := _) rfl (by kernel_rfl) (by kernel_rfl) (by kernel_rfl) (fun _ _ _ h => h) (yieldsIf_load_mid (by rfl) 29 _ rfl g 0 rfl ((List.range 23).map f) _ (fun w' hw' => hw'.1.l.range) Tryd.underlying29 rfl (by kernel_rfl)) hHeld ?_) | (refine wpAnyH_take (i := 9) (v := _) rfl (by kernel_rfl) (by kernel_rfl) (by kernel_rfl) (fun _ _ _ h => h) (yieldsIf_load_mid (by rfl) 29 _ rfl (g + 1) 0 rfl ((List.range 23).map h) _ (fun w' hw' => hw'.1.r.range) Tryd.underlying29 rfl (by kernel_rfl)) hHeld ?_)
      try simp only [Act.put, List.getElem_toArray, List.getElem_cons_succ, List.getElem_cons_zero, List.setIfInBounds_toArray, List.set_cons_zero, List.set_cons_succ]
      first | (refine wpAnyH_take (i := 10) rfl (by kernel_rfl) (by kernel_rfl) (by kernel_rfl) (fun _ _ _ h => h) (Or.inr ⟨by rfl, rfl⟩) hHeld ?_) | (refine wpAnyH_ready (rs := [10]) (by kernel_rfl) (by simp) ?_; refine AllReadyH.cons rfl (fun K hK => ?_) AllReadyH.nil; go_simp; (first | (go_at_call_of 15 h; refine (CS.out _ hHeld.1.l.scr hHeld.1.r.scr).mono ?_; rintro e w' ⟨rfl, hb⟩) | (go_at_call 16; refine (CS2.out _ hHeld.1.l.scr hHeld.1.r.scr).mono ?_; rintro e w' ⟨rfl, hb⟩) | (go_at_call 15; refine (CS1.out _ hHeld.1.l.scr).mono ?_; rintro e w' ⟨rfl, hb⟩) | (go_at_call 11; refine (CC.out _ hHeld.2.1 hHeld.1.et.et).mono ?_; rintro e w' ⟨rfl, hb⟩)); (try go_wp2_with fail); refine hK.out _ _ ?_ (fun hHeld' => ?_); (focus (exact ⟨hHeld.1.keep hb, hHeld.2.1.below hb, hHeld.2.2.trans (hb.mono hHeld.2.2.size)⟩)); clear hK K; replace hHeld := hHeld'; clear hHeld')
      try simp only [Act.put, List.getElem_toArray, List.getElem_cons_succ, List.getElem_cons_zero, List.setIfInBounds_toArray, List.set_cons_zero, List.set_cons_succ]
      first | (refine wpAnyH_take (i := 11) rfl (by kernel_rfl) (by kernel_rfl) (by kernel_rfl) (fun _ _ _ h => h) (Or.inr ⟨by rfl, rfl⟩) hHeld ?_) | (refine wpAnyH_take (i := 11) (v := ?_) rfl (by kernel_rfl) (by kernel_rfl) (by kernel_rfl) (fun _ _ _ h => h) (Or.inl ⟨by rfl, ?_⟩) hHeld ?_; rotate_left; focus (intro w hSw; (try dsimp only at hSw); go_simp; (try with_reducible rfl)))
      try simp only [Act.put, List.getElem_toArray, List.getElem_cons_succ, List.getElem_cons_zero, List.setIfInBounds_toArray, List.set_cons_zero, List.set_cons_succ]
      (refine wpAnyH_take (i := 12) (v := ?_) rfl (by kernel_rfl) (by kernel_rfl) (by kernel_rfl) (fun _ _ _ h => h) (Or.inl ⟨by rfl, ?_⟩) hHeld ?_; rotate_left; focus (intro w hSw; (try dsimp only at hSw); go_simp; (try with_reducible rfl)))
      try simp only [Act.put, List.getElem_toArray, List.getElem_cons_succ, List.getElem_cons_zero, List.setIfInBounds_toArray, List.set_cons_zero, List.set_cons_succ]
      (refine wpAnyH_take (i := 13) (v := ?_) rfl (by kernel_rfl) (by kernel_rfl) (by kernel_rfl) (fun _ _ _ h => h) (Or.inl ⟨by rfl, ?_⟩) hHeld ?_; rotate_left; focus (intro w hSw; (try dsimp only at hSw); go_simp; (try with_reducible rfl)))
      try simp only [Act.put, List.getElem_toArray, List.getElem_cons_succ, List.getElem_cons_zero, List.setIfInBounds_toArray, List.set_cons_zero, List.set_cons_succ]
      first | (refine wpAnyH_take (i := 14) rfl (by kernel_rfl) (by kernel_rfl) (by kernel_rfl) (fun _ _ _ h => h) (Or.inr ⟨by rfl, rfl⟩) hHeld ?_) | (refine wpAnyH_take (i := 14) (v := ?_) rfl (by kernel_rfl) (by kernel_rfl) (by kernel_rfl) (fun _ _ _ h => h) (Or.inl ⟨by rfl, ?_⟩) hHeld ?_; rotate_left; focus (intro w hSw; (try dsimp only at hSw); go_simp; (try with_reducible rfl)))
      try simp only [Act.put, List.getElem_toArray, List.getElem_cons_succ, List.getElem_cons_zero, List.setIfInBounds_toArray, List.set_cons_zero, List.set_cons_succ]
      first | (refine wpAnyH_take (i := 16) rfl (by kernel_rfl) (by kernel_rfl) (by kernel_rfl) (fun _ _ _ h => h) (Or.inr ⟨by rfl, rfl⟩) hHeld ?_) | (refine wpAnyH_take (i := 16) (v := ?_) rfl (by kernel_rfl) (by kernel_rfl) (by kernel_rfl) (fun _ _ _ h => h) (Or.inl ⟨by rfl, ?_⟩) hHeld ?_; rotate_left; focus (intro w hSw; (try dsimp only at hSw); go_simp; (try with_reducible rfl)))
      try simp only [Act.put, List.getElem_toArray, List.getElem_cons_succ, List.getElem_cons_zero, List.setIfInBounds_toArray, List.set_cons_zero, List.set_cons_succ]
      first | (refine wpAnyH_take (i := 15) rfl (by kernel_rfl) (by kernel_rfl) (by kernel_rfl) (fun _ _ _ h => h) (Or.inr ⟨by rfl, rfl⟩) hHeld ?_) | (refine wpAnyH_ready (rs := [15]) (by kernel_rfl) (by simp) ?_; refine AllReadyH.cons rfl (fun K hK => ?_) AllReadyH.nil; go_simp; (first | (go_at_call_of 15 h; refine (CS.out _ hHeld.1.l.scr hHeld.1.r.scr).mono ?_; rintro e w' ⟨rfl, hb⟩) | (go_at_call 16; refine (CS2.out _ hHeld.1.l.scr hHeld.1.r.scr).mono ?_; rintro e w' ⟨rfl, hb⟩) | (go_at_call 15; refine (CS1.out _ hHeld.1.l.scr).mono ?_; rintro e w' ⟨rfl, hb⟩) | (go_at_call 11; refine (CC.out _ hHeld.2.1 hHeld.1.et.et).mono ?_; rintro e w' ⟨rfl, hb⟩)); (try go_wp2_with fail); refine hK.out _ _ ?_ (fun hHeld' => ?_); (focus (exact ⟨hHeld.1.keep hb, hHeld.2.1.below hb, hHeld.2.2.trans (hb.mono hHeld.2.2.size)⟩)); clear hK K; replace hHeld := hHeld'; clear hHeld')
      try simp only [Act.put, List.getElem_toArray, List.getElem_cons_succ, List.getElem_cons_zero, List.setIfInBounds_toArray, List.set_cons_zero, List.set_cons_succ]
      first | (refine wpAnyH_take (i := 17) rfl (by kernel_rfl) (by kernel_rfl) (by kernel_rfl) (fun _ _ _ h => h) (Or.inr ⟨by rfl, rfl⟩) hHeld ?_) | (refine wpAnyH_take (i := 17) (v := ?_) rfl (by kernel_rfl) (by kernel_rfl) (by kernel_rfl) (fun _ _ _ h => h) (Or.inl ⟨by rfl, ?_⟩) hHeld ?_; rotate_left; focus (intro w hSw; (try dsimp only at hSw); go_simp; (try with_reducible rfl)))
      try simp only [Act.put, List.getElem_toArray, List.getElem_cons_succ, List.getElem_cons_zero, List.setIfInBounds_toArray, List.set_cons_zero, List.set_cons_succ]
      (refine wpAnyH_take (i := 18) (v := ?_) rfl (by kernel_rfl) (by kernel_rfl) (by kernel_rfl) (fun _ _ _ h => h) (Or.inl ⟨by rfl, ?_⟩) hHeld ?_; rotate_left; focus (intro w hSw; (try dsimp only at hSw); go_simp; (try with_reducible rfl)))
      try simp only [Act.put, List.getElem_toArray, List.getElem_cons_succ, List.getElem_cons_zero, List.setIfInBounds_toArray, List.set_cons_zero, List.set_cons_succ]
      refine wpAnyH_done (by kernel_rfl) ?_ _
      refine NoPanic.normal ?_
      go_upto_region 7 with fail
      replace HR := Lib.hid hHeld.1
      have HB4 := Lib.hid hHeld.2.2
      clear hHeld hq hm CS CS1 CS2 CC HE
      clear hb
      by_cases hm0 : m = 0
      · subst hm0
        obtain ⟨A, cA, rfl, hA⟩ := HP1.out rfl
        have hA2 := hA.keep HB4.out
        have CR0 := Lib.hid (CR.out rfl)
        have hcA := conv_bytes _ _ cA _ hA2
        have HA := Lib.hid hA2
        have HC := Lib.hid hcA
        clear hA hA2 HP1 HP2 HB4 CR hcA
        go_upto_region 9 with fail
        refine wp_region_noPanic ?_
        refine wp_region_held_drew (S := fun w' => (TwoR g f h a b w w' ∧ LiesC w' A (flatB L) ∧ (convert 39 9 (.slice A L.length cA)).run Tryd.prog w' = .ok (.string (strOfNums L)) w')) (by kernel_rfl) (⟨HR.out.keep (Below.refl _ _).drew, HA.out.keep (Below.refl _ _).drew, conv_bytes _ _ _ _ (HA.out.keep (Below.refl _ _).drew)⟩) (fun hHeld => ?_)
        try simp only [List.size_toArray, List.length_cons, List.length_nil, Nat.reduceAdd, Nat.reduceSub, Array.replicate_succ, Array.replicate_zero, List.push_toArray, List.append_toArray, List.nil_append, List.cons_append]   -- the listed as a literal: else each operation taken costs more than the last
        (refine wpAnyH_take (i := 0) (v := ?_) rfl (by kernel_rfl) (by kernel_rfl) (by kernel_rfl) (fun _ _ _ h => h) (Or.inl ⟨by rfl, ?_⟩) hHeld ?_; rotate_left; focus (intro w hSw; (try dsimp only at hSw); go_simp; (try with_reducible rfl)))
        try simp only [Act.put, List.getElem_toArray, List.getElem_cons_succ, List.getElem_cons_zero, List.setIfInBounds_toArray, List.set_cons_zero, List.set_cons_succ]
        (refine wpAnyH_take (i := 1) (v := ?_) rfl (by kernel_rfl) (by kernel_rfl) (by kernel_rfl) (fun _ _ _ h => h) (Or.inl ⟨by rfl, ?_⟩) hHeld ?_; rotate_left; focus (intro w hSw; (try dsimp only at hSw); go_simp; (try with_reducible rfl)))
        try simp only [Act.put, List.getElem_toArray, List.getElem_cons_succ, List.getElem_cons_zero, List.setIfInBounds_toArray, List.set_cons_zero, List.set_cons_succ]
        first | (refine wpAnyH_take (i := 2) (v := _) rfl (by kernel_rfl) (by kernel_rfl) (by kernel_rfl) (fun _ _ _ h => h) (yieldsIf_load_mid (by rfl) 29 _ rfl g 0 rfl ((List.range 23).map f) _ (fun w' hw' => hw'.1.l.range) Tryd.underlying29 rfl (by kernel_rfl)) hHeld ?_) | (refine wpAnyH_take (i := 2) (v := _) rfl (by kernel_rfl) (by kernel_rfl) (by kernel_rfl) (fun _ _ _ h => h) (yieldsIf_load_mid (by rfl) 29 _ rfl (g + 1) 0 rfl ((List.range 23).map h) _ (fun w' hw' => hw'.1.r.range) Tryd.underlying29 rfl (by kernel_rfl)) hHeld ?_)
        try simp only [Act.put, List.getElem_toArray, List.getElem_cons_succ, List.getElem_cons_zero, List.setIfInBounds_toArray, List.set_cons_zero, List.set_cons_succ]
        (refine wpAnyH_ready (rs := [3]) (by kernel_rfl) (by simp) ?_; refine AllReadyH.cons rfl (fun K hK => ?_) AllReadyH.nil; go_simp; (first | (go_at_call 17; refine (CR0.out _ hHeld.1.l.scr).mono ?_; rintro e w' ⟨v2, rfl, ⟨B2, c2, rfl, -, -, -, d2, -⟩, -, hb⟩; have hcv := conv_bytes _ B2 c2 w' d2; clear d2) | (go_at_call 8; refine (C9.out _ hHeld.1.et).mono ?_; rintro e w' ⟨rfl, hb⟩)); (try go_wp2_with fail); refine hK.out _ _ ?_ (fun hHeld' => ?_); (focus (first | exact hHeld | exact ⟨hHeld.1.keep hb, hHeld.2.1.keep hb, conv_bytes _ _ _ _ (hHeld.2.1.keep hb)⟩)); clear hK K; replace hHeld := hHeld'; clear hHeld')
        try simp only [Act.put, List.getElem_toArray, List.getElem_cons_succ, List.getElem_cons_zero, List.setIfInBounds_toArray, List.set_cons_zero, List.set_cons_succ]
        (refine wpAnyH_ready (rs := [4]) (by kernel_rfl) (by simp) ?_; refine AllReadyH.cons rfl (fun K hK => ?_) AllReadyH.nil; (skip); go_simp; (try go_wp2_with fail); refine hK.out _ _ ?_ (fun hHeld' => ?_); (focus (first | exact hHeld | exact ⟨hHeld.1.keep hb, hHeld.2.1.keep hb, conv_bytes _ _ _ _ (hHeld.2.1.keep hb)⟩)); clear hK K; replace hHeld := hHeld'; clear hHeld')
        try simp only [Act.put, List.getElem_toArray, List.getElem_cons_succ, List.getElem_cons_zero, List.setIfInBounds_toArray, List.set_cons_zero, List.set_cons_succ]
        (refine wpAnyH_take (i := 5) (v := ?_) rfl (by kernel_rfl) (by kernel_rfl) (by kernel_rfl) (fun _ _ _ h => h) (Or.inl ⟨by rfl, ?_⟩) hHeld ?_; rotate_left; focus (intro w hSw; (try dsimp only at hSw); go_simp; (try with_reducible rfl)))
        try simp only [Act.put, List.getElem_toArray, List.getElem_cons_succ, List.getElem_cons_zero, List.setIfInBounds_toArray, List.set_cons_zero, List.set_cons_succ]
        (refine wpAnyH_take (i := 6) (v := ?_) rfl (by kernel_rfl) (by kernel_rfl) (by kernel_rfl) (fun _ _ _ h => h) (Or.inl ⟨by rfl, ?_⟩) hHeld ?_; rotate_left; focus (intro w hSw; (try dsimp only at hSw); go_simp; (try with_reducible rfl)))
        try simp only [Act.put, List.getElem_toArray, List.getElem_cons_succ, List.getElem_cons_zero, List.setIfInBounds_toArray, List.set_cons_zero, List.set_cons_succ]
        first | (refine wpAnyH_take (i := 7) rfl (by kernel_rfl) (by kernel_rfl) (by kernel_rfl) (fun _ _ _ h => h) (Or.inr ⟨by rfl, rfl⟩) hHeld ?_) | (refine wpAnyH_ready (rs := [7]) (by kernel_rfl) (by simp) ?_; refine AllReadyH.cons rfl (fun K hK => ?_) AllReadyH.nil; go_simp; (first | (go_at_call 17; refine (CR0.out _ hHeld.1.l.scr).mono ?_; rintro e w' ⟨v2, rfl, ⟨B2, c2, rfl, -, -, -, d2, -⟩, -, hb⟩; have hcv := conv_bytes _ B2 c2 w' d2; clear d2) | (go_at_call 8; refine (C9.out _ hHeld.1.et).mono ?_; rintro e w' ⟨rfl, hb⟩)); (try go_wp2_with fail); refine hK.out _ _ ?_ (fun hHeld' => ?_); (focus (first | exact hHeld | exact ⟨hHeld.1.keep hb, hHeld.2.1.keep hb, conv_bytes _ _ _ _ (hHeld.2.1.keep hb)⟩)); clear hK K; replace hHeld := hHeld'; clear hHeld')
        try simp only [Act.put, List.getElem_toArray, List.getElem_cons_succ, List.getElem_cons_zero, List.setIfInBounds_toArray, List.set_cons_zero, List.set_cons_succ]
        (refine wpAnyH_take (i := 8) (v := ?_) rfl (by kernel_rfl) (by kernel_rfl) (by kernel_rfl) (fun _ _ _ h => h) (Or.inl ⟨by rfl, ?_⟩) hHeld ?_; rotate_left; focus (intro w hSw; (try dsimp only at hSw); go_simp; (try with_reducible rfl)))
        try simp only [Act.put, List.getElem_toArray, List.getElem_cons_succ, List.getElem_cons_zero, List.setIfInBounds_toArray, List.set_cons_zero, List.set_cons_succ]
        (refine wpAnyH_take (i := 9) (v := ?_) rfl (by kernel_rfl) (by kernel_rfl) (by kernel_rfl) (fun _ _ _ h => h) (Or.inl ⟨by rfl, ?_⟩) hHeld ?_; rotate_left; focus (intro w hSw; (try dsimp only at hSw); go_simp; (try with_reducible rfl)))
        try simp only [Act.put, List.getElem_toArray, List.getElem_cons_succ, List.getElem_cons_zero, List.setIfInBounds_toArray, List.set_cons_zero, List.set_cons_succ]
        refine wpAnyH_done (by kernel_rfl) ?_ _
        refine NoPanic.normal ?_
        go_wp2_with fail
        go_ret
        exact ⟨rfl, by rw [HG.out]; exact hHeld.1.bel⟩
      · obtain ⟨A, cA, rfl⟩ := HP2.out hm0
        have hm1 : (m != 0) = true := by simp [hm0]
        clear HP1 HP2 CR HB4 hm0
        go_wp2_with fail
        refine (C9.out _ HR.out.et).mono ?_
        rintro e w9 ⟨rfl, hb⟩
        go_wp2_with fail
        go_ret
        exact ⟨rfl, by rw [HG.out]; exact HR.out.below hb⟩
end Go.Proofs.YtdbankogamolcaaDoor
