/- The law ScriptBack. -/
import Derived.Test.YtdbankogamolcaaDoorJ26
import Derived.Test.YtdbankogamolcaaDoorJ23
import Derived.Test.YtdbankogamolcaaDoorJ16
import Derived.Test.YtdbankogamolcaaDoorJ14
import Derived.Test.YtdbankogamolcaaDoorJ21
import Derived.Deep.RegionWith
namespace Go.Proofs.YtdbankogamolcaaDoor
set_option linter.unusedSimpArgs false
set_option linter.unusedVariables false
set_option linter.unusedSimpArgs false
open Go.ChangeShapes Go.WideShapes Go.ChangeAt Go.RowKit

/-- A script in its block, and bytes beside it. -/
structure BkR (g : Nat) (f : Nat → Value) (s : Scr) (A : Option Addr) (L : List Int) (w W : World) : Prop where
  sc : ScrAt g f s W
  bs : LiesC W A (flatB L)
  et : EnvS W
  bel : Below g w W
theorem BkR.keep {g : Nat} {f : Nat → Value} {s : Scr} {A : Option Addr} {L : List Int} {w W W' : World} (x : BkR g f s A L w W) (hb : Below W.heap.size W W') : BkR g f s A L w W' := ⟨x.sc.keep hb, x.bs.keep hb, x.et.below hb, x.bel.trans (hb.mono (by have := x.sc.row.lt; omega))⟩
theorem BkR.below {g : Nat} {f : Nat → Value} {s : Scr} {A : Option Addr} {L : List Int} {w W W' : World} (x : BkR g f s A L w W) (hb : Below W.heap.size W W') : Below g w W' := (x.keep hb).bel
/-- A program gone. -/
theorem scr_gone {w : World} {F : Nat → Value} {x : Scr} (h : ScrIs w F x) {k : Nat} (hk : k < 8) : ScrIs w (fun i => if i = 14 + k then .slice none 0 0 else F i) ⟨x.c, setP x.p k [], x.e⟩ where
  conf := fun i hi => by rw [if_neg (by omega)]; exact h.conf i hi
  prog := fun t ht => by
    show SlC w (if 14 + t = 14 + k then _ else _) (setP x.p k [] t).length (flatF clF (setP x.p k [] t))
    unfold setP
    by_cases e : t = k
    · subst e
      rw [if_pos rfl, if_pos rfl]
      exact ⟨none, 0, rfl, .inl rfl⟩
    · rw [if_neg (by omega), if_neg e]
      exact h.prog t ht
  ents := by
    show SlC w (if 22 = 14 + k then _ else _) _ _
    rw [if_neg (by omega)]
    exact h.ents
theorem like_gone {s x : Scr} {lv : Int} (h : AlikeS s x lv) {k : Nat} (h1 : (k : Int) < s.c 1) (h2 : lv < s.c (2 + k)) : AlikeS s ⟨x.c, setP x.p k [], x.e⟩ lv where
  c := h.c
  e := h.e
  p := fun t ht => by
    show setP x.p k [] t = _ ∨ _ ∧ _ ∧ setP x.p k [] t = []
    unfold setP
    by_cases e : t = k
    · subst e
      rw [if_pos rfl]
      exact .inr ⟨h1, h2, rfl⟩
    · rw [if_neg e]
      exact h.p t ht
theorem lim_gone {x : Scr} (h : LimS x) (k : Nat) : LimS ⟨x.c, setP x.p k [], x.e⟩ where
  conf := h.conf
  el := h.el
  pl := fun t ht => by
    show (setP x.p k [] t).length ≤ _
    unfold setP
    split
    · exact Nat.zero_le _
    · exact h.pl t ht
  cl := fun t ht j hj => by
    have hj' : j < (setP x.p k [] t).length := hj
    show OkCl (clN (setP x.p k [] t) j)
    revert hj'
    unfold setP
    split
    · intro h1; exact absurd h1 (Nat.not_lt_zero _)
    · intro h1; exact h.cl t ht j h1
  en := h.en
theorem like_self (s : Scr) (lv : Int) : AlikeS s s lv := ⟨rfl, rfl, fun _ _ => .inl rfl⟩
set_option maxRecDepth 100000 in
set_option maxHeartbeats 8000000 in
theorem scriptBack_walk (f : Nat → Value) (s : Scr) (oks : OkS18 s) (A : Option Addr) (c : Nat) (L : List Int) (hn : L.length ≤ 9223372036854775807) (hB : Byt L) (lv : Int) (hlv : -9223372036854775808 ≤ lv ∧ lv ≤ 9223372036854775807) (w : World) (hs : ScrIs w f s) (h : LiesC w A (flatB L)) (het : EnvS w) :
    Calls Tryd.prog 6 #[.agg (rowOf 23 f), .slice A L.length c, .int .i64 lv] w fun e w' => e = .returned (.bool true) ∧ Below w.heap.size w w' := by
  have C9 := Lib.hid fun W hE => lives18_any W hE
  have CG := Lib.hid fun W h1 => great_any f s 2000 W h1
  have HLA := Lib.hid fun h1 => lim_of (n := 2000) oks (by omega) h1
  have HT := Lib.hid (scr_new hs)
  have HA := Lib.hid (And.intro h het)
  have HBY := Lib.hid hB
  clear hs h het hB oks
  generalize hnn : L.length = n at *
  have HN := Lib.hid hnn; clear hnn
  go_enter Tryd.func6, Tryd.ntmps6
  go_upto_region 1 with fail
  generalize hW : World.alloc _ _ = W
  have hx : BkR w.heap.size f s A L w W := by
    obtain ⟨h1, h2⟩ := HT.out W hW
    exact ⟨h1, HA.out.1.keep h2, HA.out.2.below h2, h2⟩
  clear hW HT HA
  generalize hg : w.heap.size = g at *
  have HG := Lib.hid hg; clear hg
  have HR := Lib.hid hx; clear hx
  go_wp2_with (refine wpList_load_midG (by rfl) 29 _ rfl g 0 rfl ((List.range 23).map f) _ HR.out.sc.range Tryd.underlying29 rfl (by kernel_rfl) ?_)
  refine (CG.out _ HR.out.sc.scr).mono ?_
  rintro e w1 ⟨rfl, hb⟩
  replace HR := Lib.hid (HR.out.keep hb)
  clear hb CG
  cases hga : greatB s 2000 with
  | true =>
    go_wp2_with fail
    refine (C9.out _ HR.out.et).mono ?_
    rintro e w9 ⟨rfl, hb⟩
    go_wp2_with fail
    go_ret
    exact ⟨rfl, by rw [HG.out]; exact HR.out.below hb⟩
  | false =>
    have HL := Lib.hid (HLA.out hga)
    clear hga HLA
    by_cases h5 : (5000 : Int) < (n : Int)
    · have m1 : ((5000 : Int) < (n : Int)) = True := eq_true h5
      clear h5
      go_wp2_with fail
      refine (C9.out _ HR.out.et).mono ?_
      rintro e w9 ⟨rfl, hb⟩
      go_wp2_with fail
      go_ret
      exact ⟨rfl, by rw [HG.out]; exact HR.out.below hb⟩
    · have HN5 : Hid (L.length ≤ 2000000) := Lib.hid (by rw [HN.out]; omega)
      have m1 : ((5000 : Int) < (n : Int)) = False := eq_false h5
      clear h5 hn
      have CP := Lib.hid fun W h1 hE => sPut_any f s HL.out W h1 hE
      go_upto_region 4 with (first | (refine wpList_load_midG (by rfl) 29 _ rfl g 0 rfl ((List.range 23).map f) _ HR.out.sc.range Tryd.underlying29 rfl (by kernel_rfl) ?_) | (go_at_call 14; refine (CP.out _ HR.out.sc.scr HR.out.et).mono ?_; rintro e w2 ⟨v, u, rfl, hp, hb⟩; have HR2 := Lib.hid (HR.out.keep hb); have HP := Lib.hid hp; clear hb hp CP))
      clear HR
      have HR := HR2
      clear HR2
      go_cut [31] (fun t wx => t = .bool (decide (rightN s (allL s) = 0)) ∧ wx = w2)
      case first =>
        obtain ⟨⟨er, rfl, -, -, he3⟩, -, -⟩ := HP.out
        by_cases hr : rightN s (allL s) = 0
        · obtain rfl := he3.2 hr
          have HD := Lib.hid (decide_eq_true hr)
          clear hr he3 HP
          simp only [Errs.val]
          go_wp2_with fail
          go_meet
          exact ⟨by rw [HD.out], rfl⟩
        · have HD := Lib.hid (decide_eq_false hr)
          obtain ⟨U, v2, hv⟩ := val_iface er (fun h => hr (he3.1 h))
          clear HP he3 hr
          rw [hv]
          have HV := Lib.hid hv
          clear hv
          go_wp2_with fail
          rw [← HV.out]
          go_meet
          exact ⟨by rw [HD.out], rfl⟩
      case rest =>
      obtain ⟨rfl, rfl⟩ := hcut
      go_upto_if 31 with fail
      go_cut [] (fun wx => BkR g f s A L w wx)
      case first =>
        by_cases hr : rightN s (allL s) = 0
        · rw [decide_eq_true hr]
          obtain ⟨ht1, ht2⟩ := take_put HL.out hr
          have htp := topN_right hr
          have hc0 := HL.out.conf 0
          obtain ⟨hmb, -⟩ := rightN_zero.1 hr
          have hw0 : IntKind.i64.wrap (s.c 0 - 1) = topN s := by
            have := may_bounds hmb
            rw [htp, IntKind.wrap_i64]; omega
          obtain ⟨⟨er, rfl, -, -, he3⟩, hp1, -⟩ := HP.out
          obtain rfl := he3.2 hr
          obtain ⟨A1, c1, rfl, hl1⟩ := hp1 hr
          have HL1 := Lib.hid hl1
          have CT := Lib.hid fun W h1 hE => sTake_any A1 c1 (putS18 s) (put_long HL.out hr) (byt_put s) W h1 hE
          have CS := Lib.hid fun F W h1 h2 => sSame_any F f (takeN (putS18 s)).2 s (take_lim (byt_put s)) HL.out W h1 h2
          rw [ht1] at CT
          rw [ht2] at CS
          have CO := Lib.hid fun W h1 hE => sTop_any f s HL.out W h1 hE
          simp only [Errs.val]
          have HW0 := Lib.hid hw0
          clear hr ht1 ht2 htp hc0 hmb hw0 HP hp1 hl1 he3
          generalize topN s = tp at *
          generalize (takeN (putS18 s)).2 = y at *
          generalize putS18 s = Q at *
          go_wp2_with fail
          go_wp2_with fail
          refine (CT.out _ HL1.out HR.out.et).mono ?_
          rintro e w3 ⟨F, u2, rfl, hs3, ⟨er2, rfl, -, -, he3⟩, hb⟩
          obtain rfl := he3.2 rfl
          simp only [Errs.val]
          have HS3 := Lib.hid hs3
          replace HR := Lib.hid (HR.out.keep hb)
          clear hs3 he3 hb CT HL1
          have p0 : (Nat → True) := fun _ => trivial
          clear p0
          go_upto_region 6 with (refine wpList_store_row rfl 29 _ _ rfl w3.heap.size (rowOf 23 F) rfl rfl 29 zeroAr (heap_alloc_new w3 _) (by kernel_rfl) rfl (scr_one HS3.out) ?_; rw [World.setRow_alloc_new]; generalize hW : World.alloc _ _ = W4)
          obtain ⟨hy, hb⟩ := scr_new HS3.out W4 hW
          replace HR := Lib.hid (HR.out.keep hb)
          have HY := Lib.hid hy
          clear hb hW hy HS3
          generalize w3.heap.size = q at *
          have hw0 := HW0.out
          have htt : (tp != tp) = false := by simp
          have hcf : W4.cell? ⟨g, 0, none⟩ = some (.int .i64 (s.c 0)) := by rw [HR.out.sc.row.cell (i := 0) (by omega), HR.out.sc.scr.conf 0 (by omega)]
          have HCF := Lib.hid hcf; clear hcf
          refine wp_region_noPanic ?_
          refine wp_region_held_drew (S := fun w' => (BkR g f s A L w w' ∧ ScrAt q F y w' ∧ w'.cell? ⟨g, 0, none⟩ = some (.int .i64 (s.c 0)))) (by kernel_rfl) (⟨HR.out.keep (Below.refl _ _).drew, HY.out.keep (Below.refl _ _).drew, HCF.out⟩) (fun hHeld => ?_)
          try simp only [List.size_toArray, List.length_cons, List.length_nil, Nat.reduceAdd, Nat.reduceSub, Array.replicate_succ, Array.replicate_zero, List.push_toArray, List.append_toArray, List.nil_append, List.cons_append]   -- the listed as a literal: else each operation taken costs more than the last
          (refine wpAnyH_take (i := 0) (v := ?_) rfl (by kernel_rfl) (by kernel_rfl) (by kernel_rfl) (fun _ _ _ h => h) (Or.inl ⟨by rfl, ?_⟩) hHeld ?_; rotate_left; focus (intro w hSw; (try dsimp only at hSw); go_simp; (try with_reducible rfl)))
          try simp only [Act.put, List.getElem_toArray, List.getElem_cons_succ, List.getElem_cons_zero, List.setIfInBounds_toArray, List.set_cons_zero, List.set_cons_succ]
          (refine wpAnyH_take (i := 1) (v := ?_) rfl (by kernel_rfl) (by kernel_rfl) (by kernel_rfl) (fun _ _ _ h => h) (Or.inl ⟨by rfl, ?_⟩) hHeld ?_; rotate_left; focus (intro w hSw; (try dsimp only at hSw); go_simp; (try with_reducible rfl)))
          try simp only [Act.put, List.getElem_toArray, List.getElem_cons_succ, List.getElem_cons_zero, List.setIfInBounds_toArray, List.set_cons_zero, List.set_cons_succ]
          (refine wpAnyH_take (i := 2) (v := ?_) rfl (by kernel_rfl) (by kernel_rfl) (by kernel_rfl) (fun _ _ _ h => h) (Or.inl ⟨by rfl, ?_⟩) hHeld ?_; rotate_left; focus (intro w hSw; (try dsimp only at hSw); go_simp; (try with_reducible rfl)))
          try simp only [Act.put, List.getElem_toArray, List.getElem_cons_succ, List.getElem_cons_zero, List.setIfInBounds_toArray, List.set_cons_zero, List.set_cons_succ]
          first | (refine wpAnyH_take (i := 3) rfl (by kernel_rfl) (by kernel_rfl) (by kernel_rfl) (fun _ _ _ h => h) (Or.inr ⟨by rfl, rfl⟩) hHeld ?_) | first | (refine wpAnyH_take (i := 3) (v := _) rfl (by kernel_rfl) (by kernel_rfl) (by kernel_rfl) (fun _ _ _ h => h) (yieldsIf_load_mid (by rfl) 29 _ rfl g 0 rfl ((List.range 23).map f) _ (fun w' hw' => hw'.1.sc.range) Tryd.underlying29 rfl (by kernel_rfl)) hHeld ?_) | (refine wpAnyH_take (i := 3) (v := _) rfl (by kernel_rfl) (by kernel_rfl) (by kernel_rfl) (fun _ _ _ h => h) (yieldsIf_load_mid (by rfl) 29 _ rfl q 0 rfl ((List.range 23).map F) _ (fun w' hw' => hw'.2.1.range) Tryd.underlying29 rfl (by kernel_rfl)) hHeld ?_)
          try simp only [Act.put, List.getElem_toArray, List.getElem_cons_succ, List.getElem_cons_zero, List.setIfInBounds_toArray, List.set_cons_zero, List.set_cons_succ]
          first | (refine wpAnyH_take (i := 4) rfl (by kernel_rfl) (by kernel_rfl) (by kernel_rfl) (fun _ _ _ h => h) (Or.inr ⟨by rfl, rfl⟩) hHeld ?_) | first | (refine wpAnyH_take (i := 4) (v := _) rfl (by kernel_rfl) (by kernel_rfl) (by kernel_rfl) (fun _ _ _ h => h) (yieldsIf_load_mid (by rfl) 29 _ rfl g 0 rfl ((List.range 23).map f) _ (fun w' hw' => hw'.1.sc.range) Tryd.underlying29 rfl (by kernel_rfl)) hHeld ?_) | (refine wpAnyH_take (i := 4) (v := _) rfl (by kernel_rfl) (by kernel_rfl) (by kernel_rfl) (fun _ _ _ h => h) (yieldsIf_load_mid (by rfl) 29 _ rfl q 0 rfl ((List.range 23).map F) _ (fun w' hw' => hw'.2.1.range) Tryd.underlying29 rfl (by kernel_rfl)) hHeld ?_)
          try simp only [Act.put, List.getElem_toArray, List.getElem_cons_succ, List.getElem_cons_zero, List.setIfInBounds_toArray, List.set_cons_zero, List.set_cons_succ]
          first | (refine wpAnyH_take (i := 5) rfl (by kernel_rfl) (by kernel_rfl) (by kernel_rfl) (fun _ _ _ h => h) (Or.inr ⟨by rfl, rfl⟩) hHeld ?_) | (refine wpAnyH_ready (rs := [5]) (by kernel_rfl) (by simp) ?_; refine AllReadyH.cons rfl (fun K hK => ?_) AllReadyH.nil; go_simp; (first | (go_at_call 15; refine (CS.out F _ hHeld.2.1.scr hHeld.1.sc.scr).mono ?_; rintro e w' ⟨rfl, hb⟩) | (go_at_call 12; refine (CO.out _ hHeld.1.sc.scr hHeld.1.et).mono ?_; rintro e w' ⟨rfl, hb⟩)); (try go_wp2_with fail); refine hK.out _ _ ?_ (fun hHeld' => ?_); (focus (exact ⟨hHeld.1.keep hb, hHeld.2.1.keep hb, cell_keep hb hHeld.2.2⟩)); clear hK K; replace hHeld := hHeld'; clear hHeld')
          try simp only [Act.put, List.getElem_toArray, List.getElem_cons_succ, List.getElem_cons_zero, List.setIfInBounds_toArray, List.set_cons_zero, List.set_cons_succ]
          first | (refine wpAnyH_take (i := 6) rfl (by kernel_rfl) (by kernel_rfl) (by kernel_rfl) (fun _ _ _ h => h) (Or.inr ⟨by rfl, rfl⟩) hHeld ?_) | (refine wpAnyH_take (i := 6) (v := ?_) rfl (by kernel_rfl) (by kernel_rfl) (by kernel_rfl) (fun _ _ _ h => h) (Or.inl ⟨by rfl, ?_⟩) hHeld ?_; rotate_left; focus (intro w hSw; (try dsimp only at hSw); go_simp; (try with_reducible rfl)))
          try simp only [Act.put, List.getElem_toArray, List.getElem_cons_succ, List.getElem_cons_zero, List.setIfInBounds_toArray, List.set_cons_zero, List.set_cons_succ]
          (refine wpAnyH_take (i := 7) (v := ?_) rfl (by kernel_rfl) (by kernel_rfl) (by kernel_rfl) (fun _ _ _ h => h) (Or.inl ⟨by rfl, ?_⟩) hHeld ?_; rotate_left; focus (intro w hSw; (try dsimp only at hSw); go_simp; (try with_reducible rfl)))
          try simp only [Act.put, List.getElem_toArray, List.getElem_cons_succ, List.getElem_cons_zero, List.setIfInBounds_toArray, List.set_cons_zero, List.set_cons_succ]
          (refine wpAnyH_take (i := 8) (v := ?_) rfl (by kernel_rfl) (by kernel_rfl) (by kernel_rfl) (fun _ _ _ h => h) (Or.inl ⟨by rfl, ?_⟩) hHeld ?_; rotate_left; focus (intro w hSw; (try dsimp only at hSw); go_simp; (try with_reducible rfl)))
          try simp only [Act.put, List.getElem_toArray, List.getElem_cons_succ, List.getElem_cons_zero, List.setIfInBounds_toArray, List.set_cons_zero, List.set_cons_succ]
          first | (refine wpAnyH_take (i := 9) rfl (by kernel_rfl) (by kernel_rfl) (by kernel_rfl) (fun _ _ _ h => h) (Or.inr ⟨by rfl, rfl⟩) hHeld ?_) | first | (refine wpAnyH_take (i := 9) (v := _) rfl (by kernel_rfl) (by kernel_rfl) (by kernel_rfl) (fun _ _ _ h => h) (yieldsIf_load_mid (by rfl) 29 _ rfl g 0 rfl ((List.range 23).map f) _ (fun w' hw' => hw'.1.sc.range) Tryd.underlying29 rfl (by kernel_rfl)) hHeld ?_) | (refine wpAnyH_take (i := 9) (v := _) rfl (by kernel_rfl) (by kernel_rfl) (by kernel_rfl) (fun _ _ _ h => h) (yieldsIf_load_mid (by rfl) 29 _ rfl q 0 rfl ((List.range 23).map F) _ (fun w' hw' => hw'.2.1.range) Tryd.underlying29 rfl (by kernel_rfl)) hHeld ?_)
          try simp only [Act.put, List.getElem_toArray, List.getElem_cons_succ, List.getElem_cons_zero, List.setIfInBounds_toArray, List.set_cons_zero, List.set_cons_succ]
          first | (refine wpAnyH_take (i := 11) rfl (by kernel_rfl) (by kernel_rfl) (by kernel_rfl) (fun _ _ _ h => h) (Or.inr ⟨by rfl, rfl⟩) hHeld ?_) | (refine wpAnyH_take (i := 11) (v := ?_) rfl (by kernel_rfl) (by kernel_rfl) (by kernel_rfl) (fun _ _ _ h => h) (Or.inl ⟨by rfl, ?_⟩) hHeld ?_; rotate_left; focus (intro w hSw; (try dsimp only at hSw); go_simp; (try with_reducible rfl)))
          try simp only [Act.put, List.getElem_toArray, List.getElem_cons_succ, List.getElem_cons_zero, List.setIfInBounds_toArray, List.set_cons_zero, List.set_cons_succ]
          first | (refine wpAnyH_take (i := 12) rfl (by kernel_rfl) (by kernel_rfl) (by kernel_rfl) (fun _ _ _ h => h) (Or.inr ⟨by rfl, rfl⟩) hHeld ?_) | (refine wpAnyH_take (i := 12) (v := ?_) rfl (by kernel_rfl) (by kernel_rfl) (by kernel_rfl) (fun _ _ _ h => h) (Or.inl ⟨by rfl, ?_⟩) hHeld ?_; rotate_left; focus (intro w hSw; (try dsimp only at hSw); go_simp; (try with_reducible rfl)))
          try simp only [Act.put, List.getElem_toArray, List.getElem_cons_succ, List.getElem_cons_zero, List.setIfInBounds_toArray, List.set_cons_zero, List.set_cons_succ]
          first | (refine wpAnyH_take (i := 13) rfl (by kernel_rfl) (by kernel_rfl) (by kernel_rfl) (fun _ _ _ h => h) (Or.inr ⟨by rfl, rfl⟩) hHeld ?_) | (refine wpAnyH_take (i := 13) (v := ?_) rfl (by kernel_rfl) (by kernel_rfl) (by kernel_rfl) (fun _ _ _ h => h) (Or.inl ⟨by rfl, ?_⟩) hHeld ?_; rotate_left; focus (intro w hSw; (try dsimp only at hSw); go_simp; (try with_reducible rfl)))
          try simp only [Act.put, List.getElem_toArray, List.getElem_cons_succ, List.getElem_cons_zero, List.setIfInBounds_toArray, List.set_cons_zero, List.set_cons_succ]
          first | (refine wpAnyH_take (i := 14) rfl (by kernel_rfl) (by kernel_rfl) (by kernel_rfl) (fun _ _ _ h => h) (Or.inr ⟨by rfl, rfl⟩) hHeld ?_) | (refine wpAnyH_take (i := 14) (v := ?_) rfl (by kernel_rfl) (by kernel_rfl) (by kernel_rfl) (fun _ _ _ h => h) (Or.inl ⟨by rfl, ?_⟩) hHeld ?_; rotate_left; focus (intro w hSw; (try dsimp only at hSw); go_simp; (try with_reducible rfl)))
          try simp only [Act.put, List.getElem_toArray, List.getElem_cons_succ, List.getElem_cons_zero, List.setIfInBounds_toArray, List.set_cons_zero, List.set_cons_succ]
          first | (refine wpAnyH_take (i := 10) rfl (by kernel_rfl) (by kernel_rfl) (by kernel_rfl) (fun _ _ _ h => h) (Or.inr ⟨by rfl, rfl⟩) hHeld ?_) | (refine wpAnyH_ready (rs := [10]) (by kernel_rfl) (by simp) ?_; refine AllReadyH.cons rfl (fun K hK => ?_) AllReadyH.nil; go_simp; (first | (go_at_call 15; refine (CS.out F _ hHeld.2.1.scr hHeld.1.sc.scr).mono ?_; rintro e w' ⟨rfl, hb⟩) | (go_at_call 12; refine (CO.out _ hHeld.1.sc.scr hHeld.1.et).mono ?_; rintro e w' ⟨rfl, hb⟩)); (try go_wp2_with fail); refine hK.out _ _ ?_ (fun hHeld' => ?_); (focus (exact ⟨hHeld.1.keep hb, hHeld.2.1.keep hb, cell_keep hb hHeld.2.2⟩)); clear hK K; replace hHeld := hHeld'; clear hHeld')
          try simp only [Act.put, List.getElem_toArray, List.getElem_cons_succ, List.getElem_cons_zero, List.setIfInBounds_toArray, List.set_cons_zero, List.set_cons_succ]
          first | (refine wpAnyH_take (i := 15) rfl (by kernel_rfl) (by kernel_rfl) (by kernel_rfl) (fun _ _ _ h => h) (Or.inr ⟨by rfl, rfl⟩) hHeld ?_) | (refine wpAnyH_take (i := 15) (v := ?_) rfl (by kernel_rfl) (by kernel_rfl) (by kernel_rfl) (fun _ _ _ h => h) (Or.inl ⟨by rfl, ?_⟩) hHeld ?_; rotate_left; focus (intro w hSw; (try dsimp only at hSw); go_simp; (try with_reducible rfl)))
          try simp only [Act.put, List.getElem_toArray, List.getElem_cons_succ, List.getElem_cons_zero, List.setIfInBounds_toArray, List.set_cons_zero, List.set_cons_succ]
          (refine wpAnyH_take (i := 16) (v := ?_) rfl (by kernel_rfl) (by kernel_rfl) (by kernel_rfl) (fun _ _ _ h => h) (Or.inl ⟨by rfl, ?_⟩) hHeld ?_; rotate_left; focus (intro w hSw; (try dsimp only at hSw); go_simp; (try with_reducible rfl)))
          try simp only [Act.put, List.getElem_toArray, List.getElem_cons_succ, List.getElem_cons_zero, List.setIfInBounds_toArray, List.set_cons_zero, List.set_cons_succ]
          refine wpAnyH_done (by kernel_rfl) ?_ _
          refine NoPanic.normal ?_
          go_wp2_with fail
          go_meet
          exact hHeld.1
        · rw [decide_eq_false hr]
          clear HP hr
          go_wp2_with fail
          go_meet
          exact HR.out
      case rest =>
      clear HR HP
      have HR := Lib.hid hcut
      clear hcut
      have CT := Lib.hid fun W h1 hE => sTake_any A c L HN5.out HBY.out W h1 hE
      rw [HN.out] at CT
      have HLT := Lib.hid (take_lim HBY.out)
      have HTP := Lib.hid fun h => put_take HBY.out h
      have HTR := Lib.hid fun h x => take_right HBY.out h x
      generalize hm : (takeN L).1 = m at *
      generalize hy : (takeN L).2 = y at *
      have HMY := Lib.hid (And.intro hm hy)
      clear hm hy
      go_upto_region 9 with (first
        | (go_at_call 18; refine (CT.out _ HR.out.bs HR.out.et).mono ?_; rintro e w3 ⟨F, u, rfl, hs3, he3, hb⟩; have HR3 := Lib.hid (HR.out.keep hb); have HS3 := Lib.hid hs3; have HE3 := Lib.hid he3; clear hb hs3 he3)
        | (refine wpList_store_row rfl 29 _ _ rfl w3.heap.size (rowOf 23 F) rfl rfl 29 zeroAr (heap_alloc_new w3 _) (by kernel_rfl) rfl (scr_one HS3.out) ?_; rw [World.setRow_alloc_new]; generalize hW : World.alloc _ _ = W4))
      obtain ⟨hy, hb⟩ := scr_new HS3.out W4 hW
      have HR4 := Lib.hid (HR3.out.keep hb)
      have HY := Lib.hid hy
      have HE := Lib.hid (HE3.out.keep hb)
      clear hb hW hy HS3 HR HR3 HE3 CT
      have HR := HR4
      clear HR4
      generalize w3.heap.size = q at *
      go_cut [60] (fun t wx => t = .bool (decide (m = 0)) ∧ wx = W4)
      case first =>
        obtain ⟨er, rfl, -, -, he3⟩ := HE.out
        by_cases hr : m = 0
        · obtain rfl := he3.2 hr
          have HD := Lib.hid (decide_eq_true hr)
          clear hr he3 HE
          simp only [Errs.val]
          go_wp2_with fail
          go_meet
          exact ⟨by rw [HD.out], rfl⟩
        · have HD := Lib.hid (decide_eq_false hr)
          obtain ⟨U, v2, hv⟩ := val_iface er (fun h => hr (he3.1 h))
          clear HE he3 hr
          rw [hv]
          have HV := Lib.hid hv
          clear hv
          go_wp2_with fail
          rw [← HV.out]
          go_meet
          exact ⟨by rw [HD.out], rfl⟩
      case rest =>
      obtain ⟨rfl, rfl⟩ := hcut
      go_upto_if 60 with fail
      go_cut [] (fun wx => BkR g f s A L w wx)
      case first =>
        by_cases hr : m = 0
        · rw [decide_eq_true hr]
          have HP := Lib.hid (HTP.out hr)
          have HQ := Lib.hid (HTR.out hr)
          have CP2 := Lib.hid fun W h1 hE => sPut_any F y HLT.out W h1 hE
          clear HTP HTR hr HE
          go_wp2_with (refine wpList_load_midG (by rfl) 29 _ rfl q 0 rfl ((List.range 23).map F) _ HY.out.range Tryd.underlying29 rfl (by kernel_rfl) ?_)
          refine (CP2.out _ HY.out.scr HR.out.et).mono ?_
          rintro e w5 ⟨v5, u5, rfl, ⟨⟨er5, rfl, -, -, he5⟩, hp5, -⟩, hb⟩
          obtain rfl := he5.2 (HQ.out _)
          obtain ⟨A5, c5, rfl, hl5⟩ := hp5 (HQ.out _)
          rw [HP.out] at hl5 ⊢
          simp only [Errs.val]
          have HR5 := Lib.hid (HR.out.keep hb)
          have HY5 := Lib.hid (HY.out.keep hb)
          have HL5 := Lib.hid hl5
          clear hb hl5 he5 hp5 CP2 HP
          have k1 := conv_bytes L A5 c5 w5 HL5.out
          have k2 := conv_bytes L A c w5 HR5.out.bs
          rw [HN.out] at k1 k2 ⊢
          have p0 : w5.cell? ⟨q, 0, none⟩ = some (.int .i64 (y.c 0)) := by rw [HY5.out.row.cell (i := 0) (by omega), HY5.out.scr.conf 0 (by omega)]
          have CR := Lib.hid fun W h1 hE => sRight_any F y (wrap64 (y.c 0 - 1)) (by unfold wrap64; omega) HLT.out W h1 hE
          go_wp2_with (refine wpList_load_midG (by rfl) 29 _ rfl q 0 rfl ((List.range 23).map F) _ HY5.out.range Tryd.underlying29 rfl (by kernel_rfl) ?_)
          refine (CR.out _ HY5.out.scr HR5.out.et).mono ?_
          rintro e w6 ⟨v6, rfl, ⟨er6, rfl, -, -, he6⟩, hb⟩
          obtain rfl := he6.2 (HQ.out _)
          simp only [Errs.val]
          have HR6 := Lib.hid (HR5.out.keep hb)
          clear hb he6 CR HR5 HR HY HY5 k1 k2 p0
          go_wp2_with fail
          go_meet
          exact HR6.out
        · rw [decide_eq_false hr]
          clear hr HE HTP HTR
          go_wp2_with fail
          go_meet
          exact HR.out
      case rest =>
      clear HR HE HTP HTR HLT HMY HY HBY HN5
      have HR := Lib.hid hcut
      clear hcut
      by_cases hl0 : lv < 0
      · skip
        go_wp2_with fail
        refine (C9.out _ HR.out.et).mono ?_
        rintro e w9 ⟨rfl, hb⟩
        go_wp2_with fail
        go_ret
        exact ⟨rfl, by rw [HG.out]; exact HR.out.below hb⟩
      · by_cases hl3 : 3 < lv
        · skip
          go_wp2_with fail
          refine (C9.out _ HR.out.et).mono ?_
          rintro e w9 ⟨rfl, hb⟩
          go_wp2_with fail
          go_ret
          exact ⟨rfl, by rw [HG.out]; exact HR.out.below hb⟩
        · have HS1 := Lib.hid (scr_one HR.out.sc.scr)
          go_upto_region 16 with (first
            | (refine wpList_load_midG (by rfl) 29 _ rfl g 0 rfl ((List.range 23).map f) _ HR.out.sc.range Tryd.underlying29 rfl (by kernel_rfl) ?_)
            | (refine wpList_store_row rfl 29 _ _ rfl wc.heap.size (rowOf 23 f) rfl rfl 29 zeroAr (heap_alloc_new wc _) (by kernel_rfl) rfl HS1.out ?_; rw [World.setRow_alloc_new]; generalize hW : World.alloc _ _ = W5))
          obtain ⟨hy, hb⟩ := scr_new HR.out.sc.scr W5 hW
          have HY0 := Lib.hid (And.intro hy.row hb)
          have HKB : Hid (∀ wr, Below wc.heap.size wc wr → BkR g f s A L w wr) := Lib.hid fun wr h => HR.out.keep h
          have HSC := Lib.hid HR.out.sc.scr
          clear hy hb hW HR HS1
          have HKS : Hid (∀ F x wr, ScrIs wc F x → Below wc.heap.size wc wr → ScrIs wr F x) := Lib.hid fun F x wr h1 h2 => h1.keep h2
          generalize hq : wc.heap.size = q at *
          have HQ := Lib.hid hq; clear hq
          go_wp2_with fail
          go_loopw [16] (fun i wr => ∃ (k : Nat) (F : Nat → Value) (x : Scr), i = .int .i64 k ∧ k ≤ 8 ∧ Row wr q 29 23 F ∧ ScrIs wc F x ∧ AlikeS s x lv ∧ LimS x ∧ Below q wc wr) (fun i _ => 8 - (intOf i).toNat)
          case atStart => exact ⟨0, f, s, rfl, Nat.zero_le _, HY0.out.1, HSC.out, like_self s lv, HL.out, HY0.out.2⟩
          case round =>
            clear HY0 HSC
            obtain ⟨k, F, x, rfl, hk, hro, hsc, hal, hli, hbw⟩ := hrel
            have HB := HKB.out wr hbw
            by_cases hlt : k < 8
            · have d1 : wr.cell? ⟨g, 1, none⟩ = some (.int .i64 (s.c 1)) := by rw [HB.sc.row.cell (i := 1) (by omega), HB.sc.scr.conf 1 (by omega)]
              have d2 : wr.cell? ⟨g, 2 + k, none⟩ = some (.int .i64 (s.c (2 + k))) := by rw [HB.sc.row.cell (i := 2 + k) (by omega), HB.sc.scr.conf (2 + k) (by omega)]
              have h8 : (k : Int) < 8 := by omega
              by_cases hk1 : (k : Int) < s.c 1
              · by_cases hk2 : lv < s.c (2 + k)
                · have d3 := hro.cell (i := 14 + k) (by omega)
                  have d4 := hro.frozen (14 + k)
                  have HZ := Lib.hid (And.intro (hro.set_ (14 + k) (.slice none 0 0)) (And.intro (scr_gone hsc hlt) (And.intro (like_gone hal hk1 hk2) (And.intro (lim_gone hli k) (hbw.setCell (p := ⟨q, 14 + k, none⟩) (Nat.le_refl _) (.slice none 0 0))))))
                  clear hro hsc hal hli hbw HB
                  generalize s.c (2 + k) = o at *
                  generalize s.c 1 = th at *
                  generalize F (14 + k) = fv at *
                  go_wp2_with fail
                  go_roundw
                  case rel => exact ⟨k + 1, _, _, by go_num, by omega, HZ.out.1, HZ.out.2.1, HZ.out.2.2.1, HZ.out.2.2.2.1, HZ.out.2.2.2.2⟩
                  case measure => simp [intOf]; omega
                · have HZ := Lib.hid (And.intro hro (And.intro hsc (And.intro hal (And.intro hli hbw))))
                  clear hro hsc hal hli hbw HB
                  generalize s.c (2 + k) = o at *
                  generalize s.c 1 = th at *
                  go_wp2_with fail
                  go_roundw
                  case rel => exact ⟨k + 1, _, _, by go_num, by omega, HZ.out.1, HZ.out.2.1, HZ.out.2.2.1, HZ.out.2.2.2.1, HZ.out.2.2.2.2⟩
                  case measure => simp [intOf]; omega
              · have HZ := Lib.hid (And.intro hro (And.intro hsc (And.intro hal (And.intro hli hbw))))
                clear hro hsc hal hli hbw HB
                generalize s.c (2 + k) = o at *
                generalize s.c 1 = th at *
                go_wp2_with fail
                go_roundw
                case rel => exact ⟨k + 1, _, _, by go_num, by omega, HZ.out.1, HZ.out.2.1, HZ.out.2.2.1, HZ.out.2.2.2.1, HZ.out.2.2.2.2⟩
                case measure => simp [intOf]; omega
            · obtain rfl : k = 8 := by omega
              rw [show ((8 : Nat) : Int) = 8 from rfl]
              have CX := Lib.hid fun W h1 hE => sRight_any F x lv hlv hli W h1 hE
              rw [rightN_like hal] at CX
              have CR := Lib.hid fun W h1 hE => sRight_any f s lv hlv HL.out W h1 hE
              have hwl : wrap64 (lv - 1) = lv - 1 := by unfold wrap64; omega
              have CR1 := Lib.hid fun W h1 hE => sRight_any f s (lv - 1) (by omega) HL.out W h1 hE
              have HLE : Hid (rightN s lv = 0 → rightN s (lv - 1) = 0) := Lib.hid fun h => rightN_less (by omega) h
              have HXR := Lib.hid (show ScrAt q F x wr from ⟨hro, HKS.out F x wr hsc hbw⟩)
              have HR := Lib.hid HB
              clear hro hsc hal hli hbw HB HKB HKS hlv
              generalize rightN s (lv - 1) = mq at *
              generalize rightN s lv = mr at *
              have hmm : (mr != mr) = false := by simp
              go_upto_region 21 with fail
              refine wp_region_noPanic ?_
              refine wp_region_held_drew (S := fun w' => (BkR g f s A L w w' ∧ ScrAt q F x w')) (by kernel_rfl) (⟨HR.out.keep (Below.refl _ _).drew, HXR.out.keep (Below.refl _ _).drew⟩) (fun hHeld => ?_)
              try simp only [List.size_toArray, List.length_cons, List.length_nil, Nat.reduceAdd, Nat.reduceSub, Array.replicate_succ, Array.replicate_zero, List.push_toArray, List.append_toArray, List.nil_append, List.cons_append]   -- the listed as a literal: else each operation taken costs more than the last
              first | (refine wpAnyH_take (i := 0) (v := _) rfl (by kernel_rfl) (by kernel_rfl) (by kernel_rfl) (fun _ _ _ h => h) (yieldsIf_load_mid (by rfl) 29 _ rfl g 0 rfl ((List.range 23).map f) _ (fun w' hw' => hw'.1.sc.range) Tryd.underlying29 rfl (by kernel_rfl)) hHeld ?_) | (refine wpAnyH_take (i := 0) (v := _) rfl (by kernel_rfl) (by kernel_rfl) (by kernel_rfl) (fun _ _ _ h => h) (yieldsIf_load_mid (by rfl) 29 _ rfl q 0 rfl ((List.range 23).map F) _ (fun w' hw' => hw'.2.range) Tryd.underlying29 rfl (by kernel_rfl)) hHeld ?_)
              try simp only [Act.put, List.getElem_toArray, List.getElem_cons_succ, List.getElem_cons_zero, List.setIfInBounds_toArray, List.set_cons_zero, List.set_cons_succ]
              (refine wpAnyH_take (i := 1) (v := ?_) rfl (by kernel_rfl) (by kernel_rfl) (by kernel_rfl) (fun _ _ _ h => h) (Or.inl ⟨by rfl, ?_⟩) hHeld ?_; rotate_left; focus (intro w hSw; (try dsimp only at hSw); go_simp; (try with_reducible rfl)))
              try simp only [Act.put, List.getElem_toArray, List.getElem_cons_succ, List.getElem_cons_zero, List.setIfInBounds_toArray, List.set_cons_zero, List.set_cons_succ]
              first | (refine wpAnyH_take (i := 4) (v := _) rfl (by kernel_rfl) (by kernel_rfl) (by kernel_rfl) (fun _ _ _ h => h) (yieldsIf_load_mid (by rfl) 29 _ rfl g 0 rfl ((List.range 23).map f) _ (fun w' hw' => hw'.1.sc.range) Tryd.underlying29 rfl (by kernel_rfl)) hHeld ?_) | (refine wpAnyH_take (i := 4) (v := _) rfl (by kernel_rfl) (by kernel_rfl) (by kernel_rfl) (fun _ _ _ h => h) (yieldsIf_load_mid (by rfl) 29 _ rfl q 0 rfl ((List.range 23).map F) _ (fun w' hw' => hw'.2.range) Tryd.underlying29 rfl (by kernel_rfl)) hHeld ?_)
              try simp only [Act.put, List.getElem_toArray, List.getElem_cons_succ, List.getElem_cons_zero, List.setIfInBounds_toArray, List.set_cons_zero, List.set_cons_succ]
              (refine wpAnyH_take (i := 5) (v := ?_) rfl (by kernel_rfl) (by kernel_rfl) (by kernel_rfl) (fun _ _ _ h => h) (Or.inl ⟨by rfl, ?_⟩) hHeld ?_; rotate_left; focus (intro w hSw; (try dsimp only at hSw); go_simp; (try with_reducible rfl)))
              try simp only [Act.put, List.getElem_toArray, List.getElem_cons_succ, List.getElem_cons_zero, List.setIfInBounds_toArray, List.set_cons_zero, List.set_cons_succ]
              (refine wpAnyH_ready (rs := [2]) (by kernel_rfl) (by simp) ?_; refine AllReadyH.cons rfl (fun K hK => ?_) AllReadyH.nil; go_simp; (first | (go_at_call_of 9 F; refine (CX.out _ hHeld.2.scr hHeld.1.et).mono ?_; rintro e w' ⟨v1, rfl, ⟨er1, rfl, he1, he2, -⟩, hb⟩; have HE1 := Lib.hid (And.intro he1 he2); clear he1 he2) | (go_at_call 9; refine (CR.out _ hHeld.1.sc.scr hHeld.1.et).mono ?_; rintro e w' ⟨v2, rfl, ⟨er2, rfl, he1, he2, -⟩, hb⟩; have HE2 := Lib.hid (And.intro he1 he2); clear he1 he2) | (go_at_call 11; first | (go_at_call_of 11 er2; refine (code_any er2 _ HE2.out.1 hHeld.1.et.et).mono ?_; rintro e w' ⟨rfl, hb⟩; rw [HE2.out.2]) | (refine (code_any er1 _ HE1.out.1 hHeld.1.et.et).mono ?_; rintro e w' ⟨rfl, hb⟩; rw [HE1.out.2]))); (try go_wp2_with fail); refine hK.out _ _ ?_ (fun hHeld' => ?_); (focus (exact ⟨hHeld.1.keep hb, hHeld.2.keep hb⟩)); clear hK K; replace hHeld := hHeld'; clear hHeld')
              try simp only [Act.put, List.getElem_toArray, List.getElem_cons_succ, List.getElem_cons_zero, List.setIfInBounds_toArray, List.set_cons_zero, List.set_cons_succ]
              (refine wpAnyH_ready (rs := [3]) (by kernel_rfl) (by simp) ?_; refine AllReadyH.cons rfl (fun K hK => ?_) AllReadyH.nil; go_simp; (first | (go_at_call_of 9 F; refine (CX.out _ hHeld.2.scr hHeld.1.et).mono ?_; rintro e w' ⟨v1, rfl, ⟨er1, rfl, he1, he2, -⟩, hb⟩; have HE1 := Lib.hid (And.intro he1 he2); clear he1 he2) | (go_at_call 9; refine (CR.out _ hHeld.1.sc.scr hHeld.1.et).mono ?_; rintro e w' ⟨v2, rfl, ⟨er2, rfl, he1, he2, -⟩, hb⟩; have HE2 := Lib.hid (And.intro he1 he2); clear he1 he2) | (go_at_call 11; first | (go_at_call_of 11 er2; refine (code_any er2 _ HE2.out.1 hHeld.1.et.et).mono ?_; rintro e w' ⟨rfl, hb⟩; rw [HE2.out.2]) | (refine (code_any er1 _ HE1.out.1 hHeld.1.et.et).mono ?_; rintro e w' ⟨rfl, hb⟩; rw [HE1.out.2]))); (try go_wp2_with fail); refine hK.out _ _ ?_ (fun hHeld' => ?_); (focus (exact ⟨hHeld.1.keep hb, hHeld.2.keep hb⟩)); clear hK K; replace hHeld := hHeld'; clear hHeld')
              try simp only [Act.put, List.getElem_toArray, List.getElem_cons_succ, List.getElem_cons_zero, List.setIfInBounds_toArray, List.set_cons_zero, List.set_cons_succ]
              (refine wpAnyH_ready (rs := [6]) (by kernel_rfl) (by simp) ?_; refine AllReadyH.cons rfl (fun K hK => ?_) AllReadyH.nil; go_simp; (first | (go_at_call_of 9 F; refine (CX.out _ hHeld.2.scr hHeld.1.et).mono ?_; rintro e w' ⟨v1, rfl, ⟨er1, rfl, he1, he2, -⟩, hb⟩; have HE1 := Lib.hid (And.intro he1 he2); clear he1 he2) | (go_at_call 9; refine (CR.out _ hHeld.1.sc.scr hHeld.1.et).mono ?_; rintro e w' ⟨v2, rfl, ⟨er2, rfl, he1, he2, -⟩, hb⟩; have HE2 := Lib.hid (And.intro he1 he2); clear he1 he2) | (go_at_call 11; first | (go_at_call_of 11 er2; refine (code_any er2 _ HE2.out.1 hHeld.1.et.et).mono ?_; rintro e w' ⟨rfl, hb⟩; rw [HE2.out.2]) | (refine (code_any er1 _ HE1.out.1 hHeld.1.et.et).mono ?_; rintro e w' ⟨rfl, hb⟩; rw [HE1.out.2]))); (try go_wp2_with fail); refine hK.out _ _ ?_ (fun hHeld' => ?_); (focus (exact ⟨hHeld.1.keep hb, hHeld.2.keep hb⟩)); clear hK K; replace hHeld := hHeld'; clear hHeld')
              try simp only [Act.put, List.getElem_toArray, List.getElem_cons_succ, List.getElem_cons_zero, List.setIfInBounds_toArray, List.set_cons_zero, List.set_cons_succ]
              (refine wpAnyH_ready (rs := [7]) (by kernel_rfl) (by simp) ?_; refine AllReadyH.cons rfl (fun K hK => ?_) AllReadyH.nil; go_simp; (first | (go_at_call_of 9 F; refine (CX.out _ hHeld.2.scr hHeld.1.et).mono ?_; rintro e w' ⟨v1, rfl, ⟨er1, rfl, he1, he2, -⟩, hb⟩; have HE1 := Lib.hid (And.intro he1 he2); clear he1 he2) | (go_at_call 9; refine (CR.out _ hHeld.1.sc.scr hHeld.1.et).mono ?_; rintro e w' ⟨v2, rfl, ⟨er2, rfl, he1, he2, -⟩, hb⟩; have HE2 := Lib.hid (And.intro he1 he2); clear he1 he2) | (go_at_call 11; first | (go_at_call_of 11 er2; refine (code_any er2 _ HE2.out.1 hHeld.1.et.et).mono ?_; rintro e w' ⟨rfl, hb⟩; rw [HE2.out.2]) | (refine (code_any er1 _ HE1.out.1 hHeld.1.et.et).mono ?_; rintro e w' ⟨rfl, hb⟩; rw [HE1.out.2]))); (try go_wp2_with fail); refine hK.out _ _ ?_ (fun hHeld' => ?_); (focus (exact ⟨hHeld.1.keep hb, hHeld.2.keep hb⟩)); clear hK K; replace hHeld := hHeld'; clear hHeld')
              try simp only [Act.put, List.getElem_toArray, List.getElem_cons_succ, List.getElem_cons_zero, List.setIfInBounds_toArray, List.set_cons_zero, List.set_cons_succ]
              (refine wpAnyH_take (i := 8) (v := ?_) rfl (by kernel_rfl) (by kernel_rfl) (by kernel_rfl) (fun _ _ _ h => h) (Or.inl ⟨by rfl, ?_⟩) hHeld ?_; rotate_left; focus (intro w hSw; (try dsimp only at hSw); go_simp; (try with_reducible rfl)))
              try simp only [Act.put, List.getElem_toArray, List.getElem_cons_succ, List.getElem_cons_zero, List.setIfInBounds_toArray, List.set_cons_zero, List.set_cons_succ]
              refine wpAnyH_done (by kernel_rfl) ?_ _
              refine NoPanic.normal ?_
              go_upto_region 23 with fail
              have HR7 := Lib.hid hHeld.1
              clear hHeld hb HR HXR CX HE1 HE2 hmm
              have HR := HR7
              clear HR7
              by_cases h0 : mr = 0
              · have h1 := HLE.out h0
                subst h0
                subst h1
                clear HLE
                go_wp2_with (first
                  | (refine wpList_load_midG (by rfl) 29 _ rfl g 0 rfl ((List.range 23).map f) _ HR.out.sc.range Tryd.underlying29 rfl (by kernel_rfl) ?_)
                  | (go_at_call 9; refine (CR.out _ HR.out.sc.scr HR.out.et).mono ?_; rintro e w8 ⟨v8, rfl, ⟨er8, rfl, -, -, he8⟩, hb⟩; obtain rfl := he8.2 rfl; simp only [Errs.val]; replace HR := Lib.hid (HR.out.keep hb); clear hb he8 CR)
                  | (go_at_call 9; refine (CR1.out _ HR.out.sc.scr HR.out.et).mono ?_; rintro e w9 ⟨v9, rfl, ⟨er9, rfl, -, -, he9⟩, hb⟩; obtain rfl := he9.2 rfl; simp only [Errs.val]; replace HR := Lib.hid (HR.out.keep hb); clear hb he9 CR1)
                  | (go_at_call 8; refine (C9.out _ HR.out.et).mono ?_; rintro e w10 ⟨rfl, hb⟩; replace HR := Lib.hid (HR.out.keep hb); clear hb))
                all_goals
                  go_ret
                  exact ⟨rfl, by rw [HG.out]; exact HR.out.bel⟩
              · go_upto_region 23 with fail
                go_wp2_with (first
                  | (refine wpList_load_midG (by rfl) 29 _ rfl g 0 rfl ((List.range 23).map f) _ HR.out.sc.range Tryd.underlying29 rfl (by kernel_rfl) ?_)
                  | (go_at_call 9; refine (CR.out _ HR.out.sc.scr HR.out.et).mono ?_; rintro e w8 ⟨v8, rfl, ⟨er8, rfl, -, -, he8⟩, hb⟩; obtain ⟨U, v9, hv⟩ := val_iface er8 (fun h => h0 (he8.1 h)); rw [hv]; replace HR := Lib.hid (HR.out.keep hb); clear hb he8 CR hv)
                  | (go_at_call 8; refine (C9.out _ HR.out.et).mono ?_; rintro e w10 ⟨rfl, hb⟩; replace HR := Lib.hid (HR.out.keep hb); clear hb))
                all_goals
                  go_ret
                  exact ⟨rfl, by rw [HG.out]; exact HR.out.bel⟩
end Go.Proofs.YtdbankogamolcaaDoor
