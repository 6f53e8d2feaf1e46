/- The law ScriptTakes. -/
import Derived.Test.YtdbankogamolcaaDoorJ22
import Derived.Test.YtdbankogamolcaaDoorJ23
import Derived.Test.YtdbankogamolcaaDoorJ16
namespace Go.Proofs.YtdbankogamolcaaDoor
set_option linter.unusedSimpArgs false
set_option linter.unusedVariables false
set_option linter.unusedSimpArgs false
open Go.ChangeShapes Go.WideShapes Go.ChangeAt Go.RowKit

theorem scr_at_new {w : World} {f : Nat → Value} {s : Scr} (h : ScrIs w f s) : ScrAt w.heap.size f s (w.alloc (.cells (rowOf 23 f) 29)) ∧ Below w.heap.size w (w.alloc (.cells (rowOf 23 f) 29)) := scr_new h _ rfl
set_option maxRecDepth 100000 in
set_option maxHeartbeats 4000000 in
theorem scriptTakes_walk (A : Option Addr) (c : Nat) (L : List Int) (hn : L.length ≤ 9223372036854775807) (hB : Byt L) (w : World) (h : LiesC w A (flatB L)) (het : EnvS w) :
    Calls Tryd.prog 5 #[.slice A L.length c] w fun e w' => e = .returned (.bool true) ∧ Below w.heap.size w w' := by
  have C9 := Lib.hid fun W hE => lives18_any W hE
  have CA := Lib.hid fun h1 W h2 hE => sTake_any A c L h1 hB W h2 hE
  have CB := Lib.hid fun h1 W h2 => r18Take_any A c L h1 hB W h2
  obtain ⟨hle, hlp⟩ := takeN_lim L
  have CS := Lib.hid fun f g W h1 h2 => r18Same_any f g (takeN L).2 (takeN L).2 W (by omega) (by omega) (fun t _ => Nat.le_trans (hlp t) (by omega)) (fun t _ => Nat.le_trans (hlp t) (by omega)) h1 h2
  rw [sameS_refl] at CS
  have HL := Lib.hid h; have HT := Lib.hid het
  clear h het hB hle hlp
  generalize (takeN L).2 = s at *
  generalize (takeN L).1 = m at *
  by_cases h5 : (5000 : Int) < (L.length : Int)
  · by_cases h6 : (L.length : Int) < 60000
    · generalize L.length = n at *
      have m1 : ((5000 : Int) < (n : Int)) = True := eq_true h5
      have m2 : ((n : Int) < 60000) = True := eq_true h6
      clear h5 h6 hn
      go_enter Tryd.func5, Tryd.ntmps5
      go_wp2_with fail
      refine (C9.out _ HT.out).mono ?_
      rintro e w9 ⟨rfl, hb⟩
      go_wp2_with fail
      go_ret
      exact ⟨rfl, hb⟩
    · by_cases h7 : (61000 : Int) < (L.length : Int)
      · generalize L.length = n at *
        have m1 : ((5000 : Int) < (n : Int)) = True := eq_true h5
        have m2 : ((n : Int) < 60000) = False := eq_false h6
        have m3 : ((61000 : Int) < (n : Int)) = True := eq_true h7
        clear h5 h6 h7 hn
        go_enter Tryd.func5, Tryd.ntmps5
        go_wp2_with fail
        refine (C9.out _ HT.out).mono ?_
        rintro e w9 ⟨rfl, hb⟩
        go_wp2_with fail
        go_ret
        exact ⟨rfl, hb⟩
      · have CA1 := Lib.hid (CA.out (by omega))
        have CB1 := Lib.hid (CB.out (by omega))
        clear CA CB
        generalize L.length = n at *
        have m1 : ((5000 : Int) < (n : Int)) = True := eq_true h5
        have m2 : ((n : Int) < 60000) = False := eq_false h6
        have m3 : ((61000 : Int) < (n : Int)) = False := eq_false h7
        clear h5 h6 h7 hn
        go_enter Tryd.func5, Tryd.ntmps5
        go_wp2_with fail
        refine (CA1.out _ HL.out HT.out).mono ?_
        rintro e w1 ⟨F, u, rfl, hs, ⟨er, rfl, he1, he2, he3⟩, hb⟩
        have HB := Lib.hid hb; have HS := Lib.hid hs; have HE := Lib.hid he1; have HM := Lib.hid (And.intro he2 he3)
        clear hb hs he1 he2 he3 CA1
        go_wp2_with (refine wpList_store_row rfl 29 _ _ rfl w1.heap.size (rowOf 23 F) rfl rfl 29 zeroAr (heap_alloc_new w1 _) (by kernel_rfl) rfl (scr_one HS.out) ?_; rw [World.setRow_alloc_new]; generalize hW : World.alloc _ _ = W2)
        obtain ⟨hx, hb⟩ := scr_new HS.out W2 hW
        have HX := Lib.hid hx
        have HB1 := Lib.hid (HB.out.trans (hb.mono HB.out.size))
        replace HE := Lib.hid (HE.out.below hb)
        clear hx hb hW HB HS
        generalize w1.heap.size = g at *
        refine (CB1.out _ (HL.out.keep HB1.out)).mono ?_
        rintro e w3 ⟨G, rfl, hs, hb⟩
        have HS := Lib.hid hs
        replace HX := Lib.hid (HX.out.keep hb)
        replace HB1 := Lib.hid (HB1.out.trans (hb.mono HB1.out.size))
        replace HE := Lib.hid (HE.out.below hb)
        clear hs hb CB1
        go_wp2_with (refine wpList_store_row rfl 29 _ _ rfl w3.heap.size (rowOf 23 G) rfl rfl 29 zeroAr (heap_alloc_new w3 _) (by kernel_rfl) rfl (scr_one HS.out) ?_; rw [World.setRow_alloc_new]; generalize hW : World.alloc _ _ = W4)
        obtain ⟨hy, hb⟩ := scr_new HS.out W4 hW
        replace HX := Lib.hid (HX.out.keep hb)
        replace HB1 := Lib.hid (HB1.out.trans (hb.mono HB1.out.size))
        replace HE := Lib.hid (HE.out.below hb)
        have HY := Lib.hid hy
        clear hb hW hy HS
        generalize w3.heap.size = q at *
        have CC := code_any er _ HE.out (HT.out.below HB1.out).et
        rw [HM.out.1] at CC
        refine CC.mono ?_
        rintro e w5 ⟨rfl, hb⟩
        replace HX := Lib.hid (HX.out.keep hb)
        replace HY := Lib.hid (HY.out.keep hb)
        replace HB1 := Lib.hid (HB1.out.trans (hb.mono HB1.out.size))
        clear hb CC HE HL m1 m3
        by_cases hno : er = .no
        · obtain rfl := hno
          obtain rfl := HM.out.2.1 rfl
          simp only [Errs.val]
          clear HM
          go_wp2_with (first | (refine wpList_load_midG rfl 29 _ rfl g 0 rfl ((List.range 23).map F) _ HX.out.range Tryd.underlying29 rfl (by kernel_rfl) ?_) | (refine wpList_load_midG rfl 29 _ rfl q 0 rfl ((List.range 23).map G) _ HY.out.range Tryd.underlying29 rfl (by kernel_rfl) ?_))
          refine (CS.out F G _ HX.out.scr HY.out.scr).mono ?_
          rintro e w6 ⟨rfl, hb⟩
          replace HB1 := Lib.hid (HB1.out.trans (hb.mono HB1.out.size))
          clear hb
          go_wp2_with fail
          refine (C9.out _ (HT.out.below HB1.out)).mono ?_
          rintro e w9 ⟨rfl, hb⟩
          go_wp2_with fail
          go_ret
          exact ⟨rfl, HB1.out.trans (hb.mono HB1.out.size)⟩
        · obtain ⟨U, v, hv⟩ := val_iface er hno
          have hm0 : ¬ m = 0 := fun h => hno (HM.out.2.2 h)
          have hm1 : (m == 0) = false := by simp [hm0]
          clear hm0
          rw [hv]
          clear hv hno HM
          go_wp2_with (first | (refine wpList_load_midG rfl 29 _ rfl g 0 rfl ((List.range 23).map F) _ HX.out.range Tryd.underlying29 rfl (by kernel_rfl) ?_) | (refine wpList_load_midG rfl 29 _ rfl q 0 rfl ((List.range 23).map G) _ HY.out.range Tryd.underlying29 rfl (by kernel_rfl) ?_))
          refine (CS.out F G _ HX.out.scr HY.out.scr).mono ?_
          rintro e w6 ⟨rfl, hb⟩
          replace HB1 := Lib.hid (HB1.out.trans (hb.mono HB1.out.size))
          clear hb
          go_wp2_with fail
          refine (C9.out _ (HT.out.below HB1.out)).mono ?_
          rintro e w9 ⟨rfl, hb⟩
          go_wp2_with fail
          go_ret
          exact ⟨rfl, HB1.out.trans (hb.mono HB1.out.size)⟩
  · have CA1 := Lib.hid (CA.out (by omega))
    have CB1 := Lib.hid (CB.out (by omega))
    clear CA CB
    have h7 : ¬ (61000 : Int) < (L.length : Int) := by omega
    generalize L.length = n at *
    have m1 : ((5000 : Int) < (n : Int)) = False := eq_false h5
    have m3 : ((61000 : Int) < (n : Int)) = False := eq_false h7
    clear h5 h7 hn
    go_enter Tryd.func5, Tryd.ntmps5
    go_wp2_with fail
    refine (CA1.out _ HL.out HT.out).mono ?_
    rintro e w1 ⟨F, u, rfl, hs, ⟨er, rfl, he1, he2, he3⟩, hb⟩
    have HB := Lib.hid hb; have HS := Lib.hid hs; have HE := Lib.hid he1; have HM := Lib.hid (And.intro he2 he3)
    clear hb hs he1 he2 he3 CA1
    go_wp2_with (refine wpList_store_row rfl 29 _ _ rfl w1.heap.size (rowOf 23 F) rfl rfl 29 zeroAr (heap_alloc_new w1 _) (by kernel_rfl) rfl (scr_one HS.out) ?_; rw [World.setRow_alloc_new]; generalize hW : World.alloc _ _ = W2)
    obtain ⟨hx, hb⟩ := scr_new HS.out W2 hW
    have HX := Lib.hid hx
    have HB1 := Lib.hid (HB.out.trans (hb.mono HB.out.size))
    replace HE := Lib.hid (HE.out.below hb)
    clear hx hb hW HB HS
    generalize w1.heap.size = g at *
    refine (CB1.out _ (HL.out.keep HB1.out)).mono ?_
    rintro e w3 ⟨G, rfl, hs, hb⟩
    have HS := Lib.hid hs
    replace HX := Lib.hid (HX.out.keep hb)
    replace HB1 := Lib.hid (HB1.out.trans (hb.mono HB1.out.size))
    replace HE := Lib.hid (HE.out.below hb)
    clear hs hb CB1
    go_wp2_with (refine wpList_store_row rfl 29 _ _ rfl w3.heap.size (rowOf 23 G) rfl rfl 29 zeroAr (heap_alloc_new w3 _) (by kernel_rfl) rfl (scr_one HS.out) ?_; rw [World.setRow_alloc_new]; generalize hW : World.alloc _ _ = W4)
    obtain ⟨hy, hb⟩ := scr_new HS.out W4 hW
    replace HX := Lib.hid (HX.out.keep hb)
    replace HB1 := Lib.hid (HB1.out.trans (hb.mono HB1.out.size))
    replace HE := Lib.hid (HE.out.below hb)
    have HY := Lib.hid hy
    clear hb hW hy HS
    generalize w3.heap.size = q at *
    have CC := code_any er _ HE.out (HT.out.below HB1.out).et
    rw [HM.out.1] at CC
    refine CC.mono ?_
    rintro e w5 ⟨rfl, hb⟩
    replace HX := Lib.hid (HX.out.keep hb)
    replace HY := Lib.hid (HY.out.keep hb)
    replace HB1 := Lib.hid (HB1.out.trans (hb.mono HB1.out.size))
    clear hb CC HE HL m1 m3
    by_cases hno : er = .no
    · obtain rfl := hno
      obtain rfl := HM.out.2.1 rfl
      simp only [Errs.val]
      clear HM
      go_wp2_with (first | (refine wpList_load_midG rfl 29 _ rfl g 0 rfl ((List.range 23).map F) _ HX.out.range Tryd.underlying29 rfl (by kernel_rfl) ?_) | (refine wpList_load_midG rfl 29 _ rfl q 0 rfl ((List.range 23).map G) _ HY.out.range Tryd.underlying29 rfl (by kernel_rfl) ?_))
      refine (CS.out F G _ HX.out.scr HY.out.scr).mono ?_
      rintro e w6 ⟨rfl, hb⟩
      replace HB1 := Lib.hid (HB1.out.trans (hb.mono HB1.out.size))
      clear hb
      go_wp2_with fail
      refine (C9.out _ (HT.out.below HB1.out)).mono ?_
      rintro e w9 ⟨rfl, hb⟩
      go_wp2_with fail
      go_ret
      exact ⟨rfl, HB1.out.trans (hb.mono HB1.out.size)⟩
    · obtain ⟨U, v, hv⟩ := val_iface er hno
      have hm0 : ¬ m = 0 := fun h => hno (HM.out.2.2 h)
      have hm1 : (m == 0) = false := by simp [hm0]
      clear hm0
      rw [hv]
      clear hv hno HM
      go_wp2_with (first | (refine wpList_load_midG rfl 29 _ rfl g 0 rfl ((List.range 23).map F) _ HX.out.range Tryd.underlying29 rfl (by kernel_rfl) ?_) | (refine wpList_load_midG rfl 29 _ rfl q 0 rfl ((List.range 23).map G) _ HY.out.range Tryd.underlying29 rfl (by kernel_rfl) ?_))
      refine (CS.out F G _ HX.out.scr HY.out.scr).mono ?_
      rintro e w6 ⟨rfl, hb⟩
      replace HB1 := Lib.hid (HB1.out.trans (hb.mono HB1.out.size))
      clear hb
      go_wp2_with fail
      refine (C9.out _ (HT.out.below HB1.out)).mono ?_
      rintro e w9 ⟨rfl, hb⟩
      go_wp2_with fail
      go_ret
      exact ⟨rfl, HB1.out.trans (hb.mono HB1.out.size)⟩
end Go.Proofs.YtdbankogamolcaaDoor
