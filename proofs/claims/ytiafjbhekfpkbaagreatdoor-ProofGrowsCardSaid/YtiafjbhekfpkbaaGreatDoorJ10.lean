/- Package proof: Next. -/
import Derived.Test.YtiafjbhekfpkbaaGreatDoorJ9
import Derived.Deep.LoopGhost
import Derived.WalkMore
namespace Go.Proofs.YtiafjbhekfpkbaaGreatDoor
set_option linter.unusedSimpArgs false
set_option linter.unusedVariables false
open Go.ChangeShapes Go.WideShapes Go.ChangeAt Go.RowKit Go.Maps
set_option linter.unusedSimpArgs false

theorem leftN_lt (O : List Int) (m : Nat) : ∀ i, i < (leftN O m).length → (leftN O m).getD i 0 < m := fun i hi => (leftN_mem.1 (getD_memN hi)).1
theorem leftN_nodup (O : List Int) (m : Nat) : (leftN O m).Nodup := (leftN_pair O m).imp fun h => Nat.ne_of_lt h
set_option maxRecDepth 100000 in
set_option maxHeartbeats 8000000 in
theorem pNext_any (A D : Option Addr) (c d : Nat) (L : List Opr) (O : List Int) (hL : L.length ≤ 1000) (hO : O.length ≤ 1000) (hI : AllI O) (w : World) (ha : LiesC w A (flatF opF L)) (hd : LiesC w D (flatI O)) :
    Calls Tryz.prog 9 #[.slice A L.length c, .slice D O.length d] w fun e w' => ∃ v, e = .returned v ∧ LnIs w' v (nextsUp L O L.length).length (flatI (nextsUp L O L.length)) ∧ Far w.heap.size v ∧ Below w.heap.size w w' := by
  obtain ⟨j0, hj0, hj1, hj2, hj3⟩ := infoI
  have HA := Lib.hid ha
  have HO := Lib.hid hd
  have CL := Lib.hid (fun W h => pLeft_any A D c d L O (by omega) (by omega) hI W h)
  have hrl := leftN_len O L.length
  have CF := Lib.hid (fun (D : Option Addr) (d : Nat) (W : World) h1 h2 => pFirst_any A D c d L (leftN O L.length) (by omega) (by omega) (leftN_lt O L.length) (leftN_nodup O L.length) W h1 (lies_block h1) h2)
  have HN : Hid (∀ F, First2 L (leftN O L.length) F → nextK L F (leftN O L.length) (leftN O L.length).length = nextsUp L O L.length) := Lib.hid fun F h => next_is h
  have HRM := Lib.hid (leftN_lt O L.length)
  have HFM : Hid (∀ F, First2 L (leftN O L.length) F → ∀ i, i < F.length → F.getD i 0 < L.length) := Lib.hid fun F h i hi => (leftN_mem.1 (h.mem _ (getD_memN hi)).1).1
  have HXX : Hid (∀ F k, nextK L F (leftN O L.length) (k + 1) = bif freeK L F ((leftN O L.length).getD k 0) then nextK L F (leftN O L.length) k ++ [((leftN O L.length).getD k 0 : Int)] else nextK L F (leftN O L.length) k) := Lib.hid fun _ _ => rfl
  have HNL := Lib.hid (fun F k => nextK_len L F (leftN O L.length) k)
  clear ha hd hI
  generalize hrr : nextsUp L O L.length = out at *
  generalize hR : leftN O L.length = R at *
  have HLM : Hid (∀ k, k < R.length → (natI R).getD k 0 = (R.getD k 0 : Nat)) := Lib.hid fun k hk => natI_at R hk
  have HLK := Lib.hid (natI_len R)
  clear hR hrr
  generalize hml : L.length = m at *
  generalize hol : O.length = l at *
  generalize hrn : R.length = n at *
  go_enter Tryz.func9, Tryz.ntmps9
  go_wp2_with fail
  go_step3
  go_upto_region 2 with (go_at_call 15; refine (CL.out w HO.out).mono ?_; rintro e w1 ⟨v1, rfl, hl1, -, hb⟩; obtain ⟨A1, c1, rfl, -, -, -, hl2, -⟩ := hl1)
  have HB1 := Lib.hid hb
  have HL1 := Lib.hid hl2
  clear hb hl2 CL
  go_upto_region 3 with (go_at_call 19; refine (CF.out A1 c1 w1 (HA.out.keep HB1.out) HL1.out).mono ?_; rintro e w2 ⟨F, v2, rfl, hf2, hF, hl3, hb⟩; obtain ⟨A2, c2, rfl, -, -, -, hl4, -⟩ := hl3)
  have HB2 := Lib.hid (HB1.out.trans (hb.mono HB1.out.size))
  have HL2 := Lib.hid (HL1.out.keep hb)
  have HL3 := Lib.hid hl4
  have HE := Lib.hid (HN.out F hF)
  have HM2 := Lib.hid (HFM.out F hF)
  have HXF := Lib.hid (HXX.out F)
  have hnl := HNL.out F
  have HFK : Hid (∀ y, (∀ i, i < F.length → (decide (F.getD i 0 = y) || !aheadB (oprN L (F.getD i 0)) (oprN L y)) = true) → freeK L F y = true) := Lib.hid fun y h => by
    unfold freeK
    rw [List.all_eq_true]
    intro o ho
    obtain ⟨i, hi, rfl⟩ := List.mem_iff_getElem.1 ho
    have := h i hi
    simpa only [List.getD, List.getElem?_eq_getElem hi, Option.getD_some] using this
  have HFN : Hid (∀ y i, i < F.length → (decide (F.getD i 0 = y) || !aheadB (oprN L (F.getD i 0)) (oprN L y)) = false → freeK L F y = false) := Lib.hid fun y i hi h => by
    cases hx : freeK L F y with
    | false => rfl
    | true => unfold freeK at hx; rw [List.all_eq_true] at hx; rw [hx _ (getD_memN hi)] at h; cases h
  have HFI : Hid (∀ k, k < F.length → (natI F).getD k 0 = (F.getD k 0 : Nat)) := Lib.hid fun k hk => natI_at F hk
  have HFL := Lib.hid (natI_len F)
  clear hb hl4 hF CF HN HFM HXX HNL
  generalize hfn : F.length = f at *
  go_wp2_with fail
  go_step3
  go_wp2_with fail
  go_loopg [7, 20] n (fun gh v s wr => ∃ k : Nat, s = .int .i64 k ∧ k ≤ n ∧ n - k ≤ gh ∧ OwnR w2 w2.heap.size 3 1 v (nextK L F R k).length (flatI (nextK L F R k)) wr)
  case atStart => exact ⟨0, rfl, Nat.zero_le _, by omega, Below.refl _ _, World.ownsRow_nil _ _ _ _, Nat.le_refl _⟩
  case round =>
    obtain ⟨k, rfl, hk, hgk, R1⟩ := hrel
    have hkl := hnl k
    by_cases hlt : k < n
    · have HS := Lib.hid (HXF.out k)
      have HR := Lib.hid R1; clear R1
      obtain ⟨b1, o1, rfl, _, hx⟩ := (HL2.out.keep HR.out.bel).atI (by rw [HLK.out]; omega)
      have p0 := hx k (by rw [HLK.out]; omega)
      rw [HLM.out k hlt] at p0
      have hym := HRM.out k hlt
      clear hx
      generalize R.getD k 0 = y at *
      generalize nextK L F R k = xs at *
      have HFK1 := Lib.hid (HFK.out y)
      have HFN1 := Lib.hid (HFN.out y)
      go_wp2_with fail
      go_loopg [26] f (fun gh s wr => ∃ j : Nat, s = .int .i64 j ∧ j ≤ f ∧ f - j ≤ gh ∧ OwnR w2 w2.heap.size 3 1 u7 xs.length (flatI xs) wr ∧ ∀ i, i < j → (decide (F.getD i 0 = y) || !aheadB (oprN L (F.getD i 0)) (oprN L y)) = true)
      case atStart => exact ⟨0, rfl, Nat.zero_le _, by omega, HR.out, fun i hi => by omega⟩
      case round =>
        clear HR
        obtain ⟨j, rfl, hj, hgj, R1, he⟩ := hrel
        have HR := Lib.hid R1; clear R1
        have HEE := Lib.hid he; clear he
        by_cases hlt2 : j < f
        · obtain ⟨b2, o2, rfl, _, hx⟩ := (HL3.out.keep HR.out.bel).atI (by rw [HFL.out]; omega)
          have q0 := hx j (by rw [HFL.out]; omega)
          rw [HFI.out j hlt2] at q0
          have hxm := HM2.out j hlt2
          have HFJ := Lib.hid (HFN1.out j hlt2)
          have HEJ : Hid ((decide (F.getD j 0 = y) || !aheadB (oprN L (F.getD j 0)) (oprN L y)) = true → ∀ i, i < j + 1 → (decide (F.getD i 0 = y) || !aheadB (oprN L (F.getD i 0)) (oprN L y)) = true) := Lib.hid fun h i hi => by
            rcases Nat.lt_or_ge i j with h2 | h2
            · exact HEE.out i h2
            · obtain rfl : i = j := by omega
              exact h
          clear hx
          generalize F.getD j 0 = x at *
          have hbw : Below w.heap.size w wr := HB2.out.trans (HR.out.bel.mono HB2.out.size)
          obtain ⟨b, off, rfl, hbl, -⟩ := (HA.out.keep hbw).atO (by omega)
          have CA := Lib.hid (fun W => hAhead_any (oprN L x) (oprN L y) W)
          have HKP : Hid (∀ w1 w2 : World, Below w1.heap.size w1 w2 → (fun w' : World => (Below wr.heap.size wr w' ∧ LiesC w' (some ⟨b, off, none⟩) (flatF opF L))) w1 → (fun w' : World => (Below wr.heap.size wr w' ∧ LiesC w' (some ⟨b, off, none⟩) (flatF opF L))) w2) := Lib.hid fun w1 w2 hb h => ⟨below_on h.1 (Nat.le_refl _) hb, h.2.keep hb⟩
          have HST : Hid ((fun w' : World => (Below wr.heap.size wr w' ∧ LiesC w' (some ⟨b, off, none⟩) (flatF opF L))) wr.drew) := Lib.hid ⟨(Below.refl _ _).drew, (HA.out.keep hbw).drew⟩
          have HBB : Hid (∀ w', (fun w' : World => (Below wr.heap.size wr w' ∧ LiesC w' (some ⟨b, off, none⟩) (flatF opF L))) w' → Below wr.heap.size wr w') := Lib.hid (fun w' h => h.1)
          clear hbw hbl
          go_upto_region 10 with fail
          by_cases hxy : x = y
          · have d1 : ((x : Int) != (y : Int)) = false := by rw [hxy]; simp
            have HE2 := Lib.hid (HEJ.out (by rw [decide_eq_true hxy]; rfl))
            clear hxy
            refine wp_region_noPanic ?_
            refine wp_region_held_drew (S := fun w' => (Below wr.heap.size wr w' ∧ LiesC w' (some ⟨b, off, none⟩) (flatF opF L))) (by kernel_rfl) (HST.out) (fun hHeld => ?_)
            try simp only [List.size_toArray, List.length_cons, List.length_nil, Nat.reduceAdd, Nat.reduceSub, Array.replicate_succ, Array.replicate_zero, List.push_toArray, List.append_toArray, List.nil_append, List.cons_append]   -- the listed as a literal: else each operation taken costs more than the last
            (refine wpAnyH_take (i := 0) (v := ?_) rfl (by kernel_rfl) (by kernel_rfl) (by kernel_rfl) (fun _ _ _ h => h) (Or.inl ⟨by rfl, ?_⟩) hHeld ?_; rotate_left; focus (intro w hSw; (try dsimp only at hSw); go_simp; (try with_reducible rfl)))
            try simp only [Act.put, List.getElem_toArray, List.getElem_cons_succ, List.getElem_cons_zero, List.setIfInBounds_toArray, List.set_cons_zero, List.set_cons_succ]
            (refine wpAnyH_take (i := 1) (v := ?_) rfl (by kernel_rfl) (by kernel_rfl) (by kernel_rfl) (fun _ _ _ h => h) (Or.inl ⟨by rfl, ?_⟩) hHeld ?_; rotate_left; focus (intro w hSw; (try dsimp only at hSw); go_simp; (try with_reducible rfl)))
            try simp only [Act.put, List.getElem_toArray, List.getElem_cons_succ, List.getElem_cons_zero, List.setIfInBounds_toArray, List.set_cons_zero, List.set_cons_succ]
            (refine wpAnyH_take (i := 2) (v := ?_) rfl (by kernel_rfl) (by kernel_rfl) (by kernel_rfl) (fun _ _ _ h => h) (Or.inl ⟨by rfl, ?_⟩) hHeld ?_; rotate_left; focus (intro w hSw; (try dsimp only at hSw); go_simp; (try with_reducible rfl)))
            try simp only [Act.put, List.getElem_toArray, List.getElem_cons_succ, List.getElem_cons_zero, List.setIfInBounds_toArray, List.set_cons_zero, List.set_cons_succ]
            (refine wpAnyH_take (i := 3) (v := ?_) rfl (by kernel_rfl) (by kernel_rfl) (by kernel_rfl) (fun _ _ _ h => h) (Or.inl ⟨by rfl, ?_⟩) hHeld ?_; rotate_left; focus (intro w hSw; (try dsimp only at hSw); go_simp; (try with_reducible rfl)))
            try simp only [Act.put, List.getElem_toArray, List.getElem_cons_succ, List.getElem_cons_zero, List.setIfInBounds_toArray, List.set_cons_zero, List.set_cons_succ]
            first | (refine wpAnyH_take (i := 4) rfl (by kernel_rfl) (by kernel_rfl) (by kernel_rfl) (fun _ _ _ h => h) (Or.inr ⟨by rfl, rfl⟩) hHeld ?_) | (refine wpAnyH_take (i := 4) (v := ?_) rfl (by kernel_rfl) (by kernel_rfl) (by kernel_rfl) (fun _ _ _ h => h) (Or.inl ⟨by rfl, ?_⟩) hHeld ?_; rotate_left; focus (intro w hSw; (try dsimp only at hSw); go_simp; (try with_reducible rfl)))
            try simp only [Act.put, List.getElem_toArray, List.getElem_cons_succ, List.getElem_cons_zero, List.setIfInBounds_toArray, List.set_cons_zero, List.set_cons_succ]
            first | (refine wpAnyH_take (i := 5) rfl (by kernel_rfl) (by kernel_rfl) (by kernel_rfl) (fun _ _ _ h => h) (Or.inr ⟨by rfl, rfl⟩) hHeld ?_) | (refine wpAnyH_take (i := 5) (v := ?_) rfl (by kernel_rfl) (by kernel_rfl) (by kernel_rfl) (fun _ _ _ h => h) (Or.inl ⟨by rfl, ?_⟩) hHeld ?_; rotate_left; focus (intro w hSw; (try dsimp only at hSw); go_simp; (try with_reducible rfl)))
            try simp only [Act.put, List.getElem_toArray, List.getElem_cons_succ, List.getElem_cons_zero, List.setIfInBounds_toArray, List.set_cons_zero, List.set_cons_succ]
            first | (refine wpAnyH_take (i := 6) rfl (by kernel_rfl) (by kernel_rfl) (by kernel_rfl) (fun _ _ _ h => h) (Or.inr ⟨by rfl, rfl⟩) hHeld ?_) | (refine wpAnyH_take (i := 6) (v := ?_) rfl (by kernel_rfl) (by kernel_rfl) (by kernel_rfl) (fun _ _ _ h => h) (Or.inl ⟨by rfl, ?_⟩) hHeld ?_; rotate_left; focus (intro w hSw; (try dsimp only at hSw); go_simp; (try with_reducible rfl)))
            try simp only [Act.put, List.getElem_toArray, List.getElem_cons_succ, List.getElem_cons_zero, List.setIfInBounds_toArray, List.set_cons_zero, List.set_cons_succ]
            first | (refine wpAnyH_take (i := 7) rfl (by kernel_rfl) (by kernel_rfl) (by kernel_rfl) (fun _ _ _ h => h) (Or.inr ⟨by rfl, rfl⟩) hHeld ?_) | first | (refine wpAnyH_take (i := 7) (v := _) rfl (by kernel_rfl) (by kernel_rfl) (by kernel_rfl) (fun _ _ _ h => h) (yieldsIf_load_mid (by rfl) 38 _ rfl b (off + x * 16) rfl (opF (oprN L x)) _ (fun w' hw' => LiesC.range6 (show LiesC w' (some ⟨b, off, none⟩) (flatF opF L) from hw'.2) (by omega)) Tryz.underlying38 rfl (by kernel_rfl)) hHeld ?_) | (refine wpAnyH_take (i := 7) (v := _) rfl (by kernel_rfl) (by kernel_rfl) (by kernel_rfl) (fun _ _ _ h => h) (yieldsIf_load_mid (by rfl) 38 _ rfl b (off + y * 16) rfl (opF (oprN L y)) _ (fun w' hw' => LiesC.range6 (show LiesC w' (some ⟨b, off, none⟩) (flatF opF L) from hw'.2) (by omega)) Tryz.underlying38 rfl (by kernel_rfl)) hHeld ?_)
            try simp only [Act.put, List.getElem_toArray, List.getElem_cons_succ, List.getElem_cons_zero, List.setIfInBounds_toArray, List.set_cons_zero, List.set_cons_succ]
            first | (refine wpAnyH_take (i := 8) rfl (by kernel_rfl) (by kernel_rfl) (by kernel_rfl) (fun _ _ _ h => h) (Or.inr ⟨by rfl, rfl⟩) hHeld ?_) | (refine wpAnyH_take (i := 8) (v := ?_) rfl (by kernel_rfl) (by kernel_rfl) (by kernel_rfl) (fun _ _ _ h => h) (Or.inl ⟨by rfl, ?_⟩) hHeld ?_; rotate_left; focus (intro w hSw; (try dsimp only at hSw); go_simp; (try with_reducible rfl)))
            try simp only [Act.put, List.getElem_toArray, List.getElem_cons_succ, List.getElem_cons_zero, List.setIfInBounds_toArray, List.set_cons_zero, List.set_cons_succ]
            first | (refine wpAnyH_take (i := 9) rfl (by kernel_rfl) (by kernel_rfl) (by kernel_rfl) (fun _ _ _ h => h) (Or.inr ⟨by rfl, rfl⟩) hHeld ?_) | (refine wpAnyH_take (i := 9) (v := ?_) rfl (by kernel_rfl) (by kernel_rfl) (by kernel_rfl) (fun _ _ _ h => h) (Or.inl ⟨by rfl, ?_⟩) hHeld ?_; rotate_left; focus (intro w hSw; (try dsimp only at hSw); go_simp; (try with_reducible rfl)))
            try simp only [Act.put, List.getElem_toArray, List.getElem_cons_succ, List.getElem_cons_zero, List.setIfInBounds_toArray, List.set_cons_zero, List.set_cons_succ]
            first | (refine wpAnyH_take (i := 10) rfl (by kernel_rfl) (by kernel_rfl) (by kernel_rfl) (fun _ _ _ h => h) (Or.inr ⟨by rfl, rfl⟩) hHeld ?_) | (refine wpAnyH_take (i := 10) (v := ?_) rfl (by kernel_rfl) (by kernel_rfl) (by kernel_rfl) (fun _ _ _ h => h) (Or.inl ⟨by rfl, ?_⟩) hHeld ?_; rotate_left; focus (intro w hSw; (try dsimp only at hSw); go_simp; (try with_reducible rfl)))
            try simp only [Act.put, List.getElem_toArray, List.getElem_cons_succ, List.getElem_cons_zero, List.setIfInBounds_toArray, List.set_cons_zero, List.set_cons_succ]
            first | (refine wpAnyH_take (i := 11) rfl (by kernel_rfl) (by kernel_rfl) (by kernel_rfl) (fun _ _ _ h => h) (Or.inr ⟨by rfl, rfl⟩) hHeld ?_) | first | (refine wpAnyH_take (i := 11) (v := _) rfl (by kernel_rfl) (by kernel_rfl) (by kernel_rfl) (fun _ _ _ h => h) (yieldsIf_load_mid (by rfl) 38 _ rfl b (off + x * 16) rfl (opF (oprN L x)) _ (fun w' hw' => LiesC.range6 (show LiesC w' (some ⟨b, off, none⟩) (flatF opF L) from hw'.2) (by omega)) Tryz.underlying38 rfl (by kernel_rfl)) hHeld ?_) | (refine wpAnyH_take (i := 11) (v := _) rfl (by kernel_rfl) (by kernel_rfl) (by kernel_rfl) (fun _ _ _ h => h) (yieldsIf_load_mid (by rfl) 38 _ rfl b (off + y * 16) rfl (opF (oprN L y)) _ (fun w' hw' => LiesC.range6 (show LiesC w' (some ⟨b, off, none⟩) (flatF opF L) from hw'.2) (by omega)) Tryz.underlying38 rfl (by kernel_rfl)) hHeld ?_)
            try simp only [Act.put, List.getElem_toArray, List.getElem_cons_succ, List.getElem_cons_zero, List.setIfInBounds_toArray, List.set_cons_zero, List.set_cons_succ]
            first | (refine wpAnyH_take (i := 12) rfl (by kernel_rfl) (by kernel_rfl) (by kernel_rfl) (fun _ _ _ h => h) (Or.inr ⟨by rfl, rfl⟩) hHeld ?_) | (refine wpAnyH_ready (rs := [12]) (by kernel_rfl) (by simp) ?_; refine AllReadyH.cons rfl (fun K hK => ?_) AllReadyH.nil; go_simp; (go_at_call 20; refine (CA.out _).mono ?_; rintro t w' ⟨rfl, hb⟩); (try go_wp2_with fail); refine hK.out _ _ ?_ (fun hHeld' => ?_); (focus (first | exact HKP.out _ _ hb hHeld | exact hHeld)); clear hK K; replace hHeld := hHeld'; clear hHeld')
            try simp only [Act.put, List.getElem_toArray, List.getElem_cons_succ, List.getElem_cons_zero, List.setIfInBounds_toArray, List.set_cons_zero, List.set_cons_succ]
            (refine wpAnyH_take (i := 13) (v := ?_) rfl (by kernel_rfl) (by kernel_rfl) (by kernel_rfl) (fun _ _ _ h => h) (Or.inl ⟨by rfl, ?_⟩) hHeld ?_; rotate_left; focus (intro w hSw; (try dsimp only at hSw); go_simp; (try with_reducible rfl)))
            try simp only [Act.put, List.getElem_toArray, List.getElem_cons_succ, List.getElem_cons_zero, List.setIfInBounds_toArray, List.set_cons_zero, List.set_cons_succ]
            refine wpAnyH_done (by kernel_rfl) ?_ _
            refine NoPanic.normal ?_
            have hbf := HBB.out _ hHeld
            have HBF := Lib.hid (HR.out.keep hbf)
            clear hbf hHeld
            go_wp2_with fail
            go_roundg (f - (j + 1))
            case measure => omega
            case rel => exact ⟨j + 1, by go_num, by omega, Nat.le_refl _, HBF.out, HE2.out⟩
          · have d1 : ((x : Int) != (y : Int)) = true := by simp; omega
            rw [decide_eq_false hxy] at HFJ HEJ
            cases ea : aheadB (oprN L x) (oprN L y)
            · have HE2 := Lib.hid (HEJ.out (by rw [ea]; rfl))
              rw [ea] at CA
              clear hxy ea
              refine wp_region_noPanic ?_
              refine wp_region_held_drew (S := fun w' => (Below wr.heap.size wr w' ∧ LiesC w' (some ⟨b, off, none⟩) (flatF opF L))) (by kernel_rfl) (HST.out) (fun hHeld => ?_)
              try simp only [List.size_toArray, List.length_cons, List.length_nil, Nat.reduceAdd, Nat.reduceSub, Array.replicate_succ, Array.replicate_zero, List.push_toArray, List.append_toArray, List.nil_append, List.cons_append]   -- the listed as a literal: else each operation taken costs more than the last
              (refine wpAnyH_take (i := 0) (v := ?_) rfl (by kernel_rfl) (by kernel_rfl) (by kernel_rfl) (fun _ _ _ h => h) (Or.inl ⟨by rfl, ?_⟩) hHeld ?_; rotate_left; focus (intro w hSw; (try dsimp only at hSw); go_simp; (try with_reducible rfl)))
              try simp only [Act.put, List.getElem_toArray, List.getElem_cons_succ, List.getElem_cons_zero, List.setIfInBounds_toArray, List.set_cons_zero, List.set_cons_succ]
              (refine wpAnyH_take (i := 1) (v := ?_) rfl (by kernel_rfl) (by kernel_rfl) (by kernel_rfl) (fun _ _ _ h => h) (Or.inl ⟨by rfl, ?_⟩) hHeld ?_; rotate_left; focus (intro w hSw; (try dsimp only at hSw); go_simp; (try with_reducible rfl)))
              try simp only [Act.put, List.getElem_toArray, List.getElem_cons_succ, List.getElem_cons_zero, List.setIfInBounds_toArray, List.set_cons_zero, List.set_cons_succ]
              (refine wpAnyH_take (i := 2) (v := ?_) rfl (by kernel_rfl) (by kernel_rfl) (by kernel_rfl) (fun _ _ _ h => h) (Or.inl ⟨by rfl, ?_⟩) hHeld ?_; rotate_left; focus (intro w hSw; (try dsimp only at hSw); go_simp; (try with_reducible rfl)))
              try simp only [Act.put, List.getElem_toArray, List.getElem_cons_succ, List.getElem_cons_zero, List.setIfInBounds_toArray, List.set_cons_zero, List.set_cons_succ]
              (refine wpAnyH_take (i := 3) (v := ?_) rfl (by kernel_rfl) (by kernel_rfl) (by kernel_rfl) (fun _ _ _ h => h) (Or.inl ⟨by rfl, ?_⟩) hHeld ?_; rotate_left; focus (intro w hSw; (try dsimp only at hSw); go_simp; (try with_reducible rfl)))
              try simp only [Act.put, List.getElem_toArray, List.getElem_cons_succ, List.getElem_cons_zero, List.setIfInBounds_toArray, List.set_cons_zero, List.set_cons_succ]
              first | (refine wpAnyH_take (i := 4) rfl (by kernel_rfl) (by kernel_rfl) (by kernel_rfl) (fun _ _ _ h => h) (Or.inr ⟨by rfl, rfl⟩) hHeld ?_) | (refine wpAnyH_take (i := 4) (v := ?_) rfl (by kernel_rfl) (by kernel_rfl) (by kernel_rfl) (fun _ _ _ h => h) (Or.inl ⟨by rfl, ?_⟩) hHeld ?_; rotate_left; focus (intro w hSw; (try dsimp only at hSw); go_simp; (try with_reducible rfl)))
              try simp only [Act.put, List.getElem_toArray, List.getElem_cons_succ, List.getElem_cons_zero, List.setIfInBounds_toArray, List.set_cons_zero, List.set_cons_succ]
              first | (refine wpAnyH_take (i := 5) rfl (by kernel_rfl) (by kernel_rfl) (by kernel_rfl) (fun _ _ _ h => h) (Or.inr ⟨by rfl, rfl⟩) hHeld ?_) | (refine wpAnyH_take (i := 5) (v := ?_) rfl (by kernel_rfl) (by kernel_rfl) (by kernel_rfl) (fun _ _ _ h => h) (Or.inl ⟨by rfl, ?_⟩) hHeld ?_; rotate_left; focus (intro w hSw; (try dsimp only at hSw); go_simp; (try with_reducible rfl)))
              try simp only [Act.put, List.getElem_toArray, List.getElem_cons_succ, List.getElem_cons_zero, List.setIfInBounds_toArray, List.set_cons_zero, List.set_cons_succ]
              first | (refine wpAnyH_take (i := 6) rfl (by kernel_rfl) (by kernel_rfl) (by kernel_rfl) (fun _ _ _ h => h) (Or.inr ⟨by rfl, rfl⟩) hHeld ?_) | (refine wpAnyH_take (i := 6) (v := ?_) rfl (by kernel_rfl) (by kernel_rfl) (by kernel_rfl) (fun _ _ _ h => h) (Or.inl ⟨by rfl, ?_⟩) hHeld ?_; rotate_left; focus (intro w hSw; (try dsimp only at hSw); go_simp; (try with_reducible rfl)))
              try simp only [Act.put, List.getElem_toArray, List.getElem_cons_succ, List.getElem_cons_zero, List.setIfInBounds_toArray, List.set_cons_zero, List.set_cons_succ]
              first | (refine wpAnyH_take (i := 7) rfl (by kernel_rfl) (by kernel_rfl) (by kernel_rfl) (fun _ _ _ h => h) (Or.inr ⟨by rfl, rfl⟩) hHeld ?_) | first | (refine wpAnyH_take (i := 7) (v := _) rfl (by kernel_rfl) (by kernel_rfl) (by kernel_rfl) (fun _ _ _ h => h) (yieldsIf_load_mid (by rfl) 38 _ rfl b (off + x * 16) rfl (opF (oprN L x)) _ (fun w' hw' => LiesC.range6 (show LiesC w' (some ⟨b, off, none⟩) (flatF opF L) from hw'.2) (by omega)) Tryz.underlying38 rfl (by kernel_rfl)) hHeld ?_) | (refine wpAnyH_take (i := 7) (v := _) rfl (by kernel_rfl) (by kernel_rfl) (by kernel_rfl) (fun _ _ _ h => h) (yieldsIf_load_mid (by rfl) 38 _ rfl b (off + y * 16) rfl (opF (oprN L y)) _ (fun w' hw' => LiesC.range6 (show LiesC w' (some ⟨b, off, none⟩) (flatF opF L) from hw'.2) (by omega)) Tryz.underlying38 rfl (by kernel_rfl)) hHeld ?_)
              try simp only [Act.put, List.getElem_toArray, List.getElem_cons_succ, List.getElem_cons_zero, List.setIfInBounds_toArray, List.set_cons_zero, List.set_cons_succ]
              first | (refine wpAnyH_take (i := 8) rfl (by kernel_rfl) (by kernel_rfl) (by kernel_rfl) (fun _ _ _ h => h) (Or.inr ⟨by rfl, rfl⟩) hHeld ?_) | (refine wpAnyH_take (i := 8) (v := ?_) rfl (by kernel_rfl) (by kernel_rfl) (by kernel_rfl) (fun _ _ _ h => h) (Or.inl ⟨by rfl, ?_⟩) hHeld ?_; rotate_left; focus (intro w hSw; (try dsimp only at hSw); go_simp; (try with_reducible rfl)))
              try simp only [Act.put, List.getElem_toArray, List.getElem_cons_succ, List.getElem_cons_zero, List.setIfInBounds_toArray, List.set_cons_zero, List.set_cons_succ]
              first | (refine wpAnyH_take (i := 9) rfl (by kernel_rfl) (by kernel_rfl) (by kernel_rfl) (fun _ _ _ h => h) (Or.inr ⟨by rfl, rfl⟩) hHeld ?_) | (refine wpAnyH_take (i := 9) (v := ?_) rfl (by kernel_rfl) (by kernel_rfl) (by kernel_rfl) (fun _ _ _ h => h) (Or.inl ⟨by rfl, ?_⟩) hHeld ?_; rotate_left; focus (intro w hSw; (try dsimp only at hSw); go_simp; (try with_reducible rfl)))
              try simp only [Act.put, List.getElem_toArray, List.getElem_cons_succ, List.getElem_cons_zero, List.setIfInBounds_toArray, List.set_cons_zero, List.set_cons_succ]
              first | (refine wpAnyH_take (i := 10) rfl (by kernel_rfl) (by kernel_rfl) (by kernel_rfl) (fun _ _ _ h => h) (Or.inr ⟨by rfl, rfl⟩) hHeld ?_) | (refine wpAnyH_take (i := 10) (v := ?_) rfl (by kernel_rfl) (by kernel_rfl) (by kernel_rfl) (fun _ _ _ h => h) (Or.inl ⟨by rfl, ?_⟩) hHeld ?_; rotate_left; focus (intro w hSw; (try dsimp only at hSw); go_simp; (try with_reducible rfl)))
              try simp only [Act.put, List.getElem_toArray, List.getElem_cons_succ, List.getElem_cons_zero, List.setIfInBounds_toArray, List.set_cons_zero, List.set_cons_succ]
              first | (refine wpAnyH_take (i := 11) rfl (by kernel_rfl) (by kernel_rfl) (by kernel_rfl) (fun _ _ _ h => h) (Or.inr ⟨by rfl, rfl⟩) hHeld ?_) | first | (refine wpAnyH_take (i := 11) (v := _) rfl (by kernel_rfl) (by kernel_rfl) (by kernel_rfl) (fun _ _ _ h => h) (yieldsIf_load_mid (by rfl) 38 _ rfl b (off + x * 16) rfl (opF (oprN L x)) _ (fun w' hw' => LiesC.range6 (show LiesC w' (some ⟨b, off, none⟩) (flatF opF L) from hw'.2) (by omega)) Tryz.underlying38 rfl (by kernel_rfl)) hHeld ?_) | (refine wpAnyH_take (i := 11) (v := _) rfl (by kernel_rfl) (by kernel_rfl) (by kernel_rfl) (fun _ _ _ h => h) (yieldsIf_load_mid (by rfl) 38 _ rfl b (off + y * 16) rfl (opF (oprN L y)) _ (fun w' hw' => LiesC.range6 (show LiesC w' (some ⟨b, off, none⟩) (flatF opF L) from hw'.2) (by omega)) Tryz.underlying38 rfl (by kernel_rfl)) hHeld ?_)
              try simp only [Act.put, List.getElem_toArray, List.getElem_cons_succ, List.getElem_cons_zero, List.setIfInBounds_toArray, List.set_cons_zero, List.set_cons_succ]
              first | (refine wpAnyH_take (i := 12) rfl (by kernel_rfl) (by kernel_rfl) (by kernel_rfl) (fun _ _ _ h => h) (Or.inr ⟨by rfl, rfl⟩) hHeld ?_) | (refine wpAnyH_ready (rs := [12]) (by kernel_rfl) (by simp) ?_; refine AllReadyH.cons rfl (fun K hK => ?_) AllReadyH.nil; go_simp; (go_at_call 20; refine (CA.out _).mono ?_; rintro t w' ⟨rfl, hb⟩); (try go_wp2_with fail); refine hK.out _ _ ?_ (fun hHeld' => ?_); (focus (first | exact HKP.out _ _ hb hHeld | exact hHeld)); clear hK K; replace hHeld := hHeld'; clear hHeld')
              try simp only [Act.put, List.getElem_toArray, List.getElem_cons_succ, List.getElem_cons_zero, List.setIfInBounds_toArray, List.set_cons_zero, List.set_cons_succ]
              (refine wpAnyH_take (i := 13) (v := ?_) rfl (by kernel_rfl) (by kernel_rfl) (by kernel_rfl) (fun _ _ _ h => h) (Or.inl ⟨by rfl, ?_⟩) hHeld ?_; rotate_left; focus (intro w hSw; (try dsimp only at hSw); go_simp; (try with_reducible rfl)))
              try simp only [Act.put, List.getElem_toArray, List.getElem_cons_succ, List.getElem_cons_zero, List.setIfInBounds_toArray, List.set_cons_zero, List.set_cons_succ]
              refine wpAnyH_done (by kernel_rfl) ?_ _
              refine NoPanic.normal ?_
              have hbf := HBB.out _ hHeld
              have HBF := Lib.hid (HR.out.keep hbf)
              clear hbf hHeld
              go_wp2_with fail
              go_roundg (f - (j + 1))
              case measure => omega
              case rel => exact ⟨j + 1, by go_num, by omega, Nat.le_refl _, HBF.out, HE2.out⟩
            · have hf := HFJ.out (by rw [ea]; rfl)
              rw [hf] at HS
              rw [ea] at CA
              clear hxy ea hf
              refine wp_region_noPanic ?_
              refine wp_region_held_drew (S := fun w' => (Below wr.heap.size wr w' ∧ LiesC w' (some ⟨b, off, none⟩) (flatF opF L))) (by kernel_rfl) (HST.out) (fun hHeld => ?_)
              try simp only [List.size_toArray, List.length_cons, List.length_nil, Nat.reduceAdd, Nat.reduceSub, Array.replicate_succ, Array.replicate_zero, List.push_toArray, List.append_toArray, List.nil_append, List.cons_append]   -- the listed as a literal: else each operation taken costs more than the last
              (refine wpAnyH_take (i := 0) (v := ?_) rfl (by kernel_rfl) (by kernel_rfl) (by kernel_rfl) (fun _ _ _ h => h) (Or.inl ⟨by rfl, ?_⟩) hHeld ?_; rotate_left; focus (intro w hSw; (try dsimp only at hSw); go_simp; (try with_reducible rfl)))
              try simp only [Act.put, List.getElem_toArray, List.getElem_cons_succ, List.getElem_cons_zero, List.setIfInBounds_toArray, List.set_cons_zero, List.set_cons_succ]
              (refine wpAnyH_take (i := 1) (v := ?_) rfl (by kernel_rfl) (by kernel_rfl) (by kernel_rfl) (fun _ _ _ h => h) (Or.inl ⟨by rfl, ?_⟩) hHeld ?_; rotate_left; focus (intro w hSw; (try dsimp only at hSw); go_simp; (try with_reducible rfl)))
              try simp only [Act.put, List.getElem_toArray, List.getElem_cons_succ, List.getElem_cons_zero, List.setIfInBounds_toArray, List.set_cons_zero, List.set_cons_succ]
              (refine wpAnyH_take (i := 2) (v := ?_) rfl (by kernel_rfl) (by kernel_rfl) (by kernel_rfl) (fun _ _ _ h => h) (Or.inl ⟨by rfl, ?_⟩) hHeld ?_; rotate_left; focus (intro w hSw; (try dsimp only at hSw); go_simp; (try with_reducible rfl)))
              try simp only [Act.put, List.getElem_toArray, List.getElem_cons_succ, List.getElem_cons_zero, List.setIfInBounds_toArray, List.set_cons_zero, List.set_cons_succ]
              (refine wpAnyH_take (i := 3) (v := ?_) rfl (by kernel_rfl) (by kernel_rfl) (by kernel_rfl) (fun _ _ _ h => h) (Or.inl ⟨by rfl, ?_⟩) hHeld ?_; rotate_left; focus (intro w hSw; (try dsimp only at hSw); go_simp; (try with_reducible rfl)))
              try simp only [Act.put, List.getElem_toArray, List.getElem_cons_succ, List.getElem_cons_zero, List.setIfInBounds_toArray, List.set_cons_zero, List.set_cons_succ]
              first | (refine wpAnyH_take (i := 4) rfl (by kernel_rfl) (by kernel_rfl) (by kernel_rfl) (fun _ _ _ h => h) (Or.inr ⟨by rfl, rfl⟩) hHeld ?_) | (refine wpAnyH_take (i := 4) (v := ?_) rfl (by kernel_rfl) (by kernel_rfl) (by kernel_rfl) (fun _ _ _ h => h) (Or.inl ⟨by rfl, ?_⟩) hHeld ?_; rotate_left; focus (intro w hSw; (try dsimp only at hSw); go_simp; (try with_reducible rfl)))
              try simp only [Act.put, List.getElem_toArray, List.getElem_cons_succ, List.getElem_cons_zero, List.setIfInBounds_toArray, List.set_cons_zero, List.set_cons_succ]
              first | (refine wpAnyH_take (i := 5) rfl (by kernel_rfl) (by kernel_rfl) (by kernel_rfl) (fun _ _ _ h => h) (Or.inr ⟨by rfl, rfl⟩) hHeld ?_) | (refine wpAnyH_take (i := 5) (v := ?_) rfl (by kernel_rfl) (by kernel_rfl) (by kernel_rfl) (fun _ _ _ h => h) (Or.inl ⟨by rfl, ?_⟩) hHeld ?_; rotate_left; focus (intro w hSw; (try dsimp only at hSw); go_simp; (try with_reducible rfl)))
              try simp only [Act.put, List.getElem_toArray, List.getElem_cons_succ, List.getElem_cons_zero, List.setIfInBounds_toArray, List.set_cons_zero, List.set_cons_succ]
              first | (refine wpAnyH_take (i := 6) rfl (by kernel_rfl) (by kernel_rfl) (by kernel_rfl) (fun _ _ _ h => h) (Or.inr ⟨by rfl, rfl⟩) hHeld ?_) | (refine wpAnyH_take (i := 6) (v := ?_) rfl (by kernel_rfl) (by kernel_rfl) (by kernel_rfl) (fun _ _ _ h => h) (Or.inl ⟨by rfl, ?_⟩) hHeld ?_; rotate_left; focus (intro w hSw; (try dsimp only at hSw); go_simp; (try with_reducible rfl)))
              try simp only [Act.put, List.getElem_toArray, List.getElem_cons_succ, List.getElem_cons_zero, List.setIfInBounds_toArray, List.set_cons_zero, List.set_cons_succ]
              first | (refine wpAnyH_take (i := 7) rfl (by kernel_rfl) (by kernel_rfl) (by kernel_rfl) (fun _ _ _ h => h) (Or.inr ⟨by rfl, rfl⟩) hHeld ?_) | first | (refine wpAnyH_take (i := 7) (v := _) rfl (by kernel_rfl) (by kernel_rfl) (by kernel_rfl) (fun _ _ _ h => h) (yieldsIf_load_mid (by rfl) 38 _ rfl b (off + x * 16) rfl (opF (oprN L x)) _ (fun w' hw' => LiesC.range6 (show LiesC w' (some ⟨b, off, none⟩) (flatF opF L) from hw'.2) (by omega)) Tryz.underlying38 rfl (by kernel_rfl)) hHeld ?_) | (refine wpAnyH_take (i := 7) (v := _) rfl (by kernel_rfl) (by kernel_rfl) (by kernel_rfl) (fun _ _ _ h => h) (yieldsIf_load_mid (by rfl) 38 _ rfl b (off + y * 16) rfl (opF (oprN L y)) _ (fun w' hw' => LiesC.range6 (show LiesC w' (some ⟨b, off, none⟩) (flatF opF L) from hw'.2) (by omega)) Tryz.underlying38 rfl (by kernel_rfl)) hHeld ?_)
              try simp only [Act.put, List.getElem_toArray, List.getElem_cons_succ, List.getElem_cons_zero, List.setIfInBounds_toArray, List.set_cons_zero, List.set_cons_succ]
              first | (refine wpAnyH_take (i := 8) rfl (by kernel_rfl) (by kernel_rfl) (by kernel_rfl) (fun _ _ _ h => h) (Or.inr ⟨by rfl, rfl⟩) hHeld ?_) | (refine wpAnyH_take (i := 8) (v := ?_) rfl (by kernel_rfl) (by kernel_rfl) (by kernel_rfl) (fun _ _ _ h => h) (Or.inl ⟨by rfl, ?_⟩) hHeld ?_; rotate_left; focus (intro w hSw; (try dsimp only at hSw); go_simp; (try with_reducible rfl)))
              try simp only [Act.put, List.getElem_toArray, List.getElem_cons_succ, List.getElem_cons_zero, List.setIfInBounds_toArray, List.set_cons_zero, List.set_cons_succ]
              first | (refine wpAnyH_take (i := 9) rfl (by kernel_rfl) (by kernel_rfl) (by kernel_rfl) (fun _ _ _ h => h) (Or.inr ⟨by rfl, rfl⟩) hHeld ?_) | (refine wpAnyH_take (i := 9) (v := ?_) rfl (by kernel_rfl) (by kernel_rfl) (by kernel_rfl) (fun _ _ _ h => h) (Or.inl ⟨by rfl, ?_⟩) hHeld ?_; rotate_left; focus (intro w hSw; (try dsimp only at hSw); go_simp; (try with_reducible rfl)))
              try simp only [Act.put, List.getElem_toArray, List.getElem_cons_succ, List.getElem_cons_zero, List.setIfInBounds_toArray, List.set_cons_zero, List.set_cons_succ]
              first | (refine wpAnyH_take (i := 10) rfl (by kernel_rfl) (by kernel_rfl) (by kernel_rfl) (fun _ _ _ h => h) (Or.inr ⟨by rfl, rfl⟩) hHeld ?_) | (refine wpAnyH_take (i := 10) (v := ?_) rfl (by kernel_rfl) (by kernel_rfl) (by kernel_rfl) (fun _ _ _ h => h) (Or.inl ⟨by rfl, ?_⟩) hHeld ?_; rotate_left; focus (intro w hSw; (try dsimp only at hSw); go_simp; (try with_reducible rfl)))
              try simp only [Act.put, List.getElem_toArray, List.getElem_cons_succ, List.getElem_cons_zero, List.setIfInBounds_toArray, List.set_cons_zero, List.set_cons_succ]
              first | (refine wpAnyH_take (i := 11) rfl (by kernel_rfl) (by kernel_rfl) (by kernel_rfl) (fun _ _ _ h => h) (Or.inr ⟨by rfl, rfl⟩) hHeld ?_) | first | (refine wpAnyH_take (i := 11) (v := _) rfl (by kernel_rfl) (by kernel_rfl) (by kernel_rfl) (fun _ _ _ h => h) (yieldsIf_load_mid (by rfl) 38 _ rfl b (off + x * 16) rfl (opF (oprN L x)) _ (fun w' hw' => LiesC.range6 (show LiesC w' (some ⟨b, off, none⟩) (flatF opF L) from hw'.2) (by omega)) Tryz.underlying38 rfl (by kernel_rfl)) hHeld ?_) | (refine wpAnyH_take (i := 11) (v := _) rfl (by kernel_rfl) (by kernel_rfl) (by kernel_rfl) (fun _ _ _ h => h) (yieldsIf_load_mid (by rfl) 38 _ rfl b (off + y * 16) rfl (opF (oprN L y)) _ (fun w' hw' => LiesC.range6 (show LiesC w' (some ⟨b, off, none⟩) (flatF opF L) from hw'.2) (by omega)) Tryz.underlying38 rfl (by kernel_rfl)) hHeld ?_)
              try simp only [Act.put, List.getElem_toArray, List.getElem_cons_succ, List.getElem_cons_zero, List.setIfInBounds_toArray, List.set_cons_zero, List.set_cons_succ]
              first | (refine wpAnyH_take (i := 12) rfl (by kernel_rfl) (by kernel_rfl) (by kernel_rfl) (fun _ _ _ h => h) (Or.inr ⟨by rfl, rfl⟩) hHeld ?_) | (refine wpAnyH_ready (rs := [12]) (by kernel_rfl) (by simp) ?_; refine AllReadyH.cons rfl (fun K hK => ?_) AllReadyH.nil; go_simp; (go_at_call 20; refine (CA.out _).mono ?_; rintro t w' ⟨rfl, hb⟩); (try go_wp2_with fail); refine hK.out _ _ ?_ (fun hHeld' => ?_); (focus (first | exact HKP.out _ _ hb hHeld | exact hHeld)); clear hK K; replace hHeld := hHeld'; clear hHeld')
              try simp only [Act.put, List.getElem_toArray, List.getElem_cons_succ, List.getElem_cons_zero, List.setIfInBounds_toArray, List.set_cons_zero, List.set_cons_succ]
              (refine wpAnyH_take (i := 13) (v := ?_) rfl (by kernel_rfl) (by kernel_rfl) (by kernel_rfl) (fun _ _ _ h => h) (Or.inl ⟨by rfl, ?_⟩) hHeld ?_; rotate_left; focus (intro w hSw; (try dsimp only at hSw); go_simp; (try with_reducible rfl)))
              try simp only [Act.put, List.getElem_toArray, List.getElem_cons_succ, List.getElem_cons_zero, List.setIfInBounds_toArray, List.set_cons_zero, List.set_cons_succ]
              refine wpAnyH_done (by kernel_rfl) ?_ _
              refine NoPanic.normal ?_
              have hbf := HBB.out _ hHeld
              have HBF := Lib.hid (HR.out.keep hbf)
              clear hbf hHeld
              go_wp2_with fail
              go_roundg (n - (k + 1))
              case measure => omega
              case rel => exact ⟨k + 1, by go_num, by omega, Nat.le_refl _, by rw [HS.out]; exact HBF.out⟩
        · obtain rfl : j = f := by omega
          have hf := HFK1.out HEE.out
          rw [hf] at HS
          clear hf
          go_wp2_with (at_builtin; refine wpList_append_own _ rfl _ _ 23 rfl w2.heap.size 3 j0 (.int .i64 0) 1 8 Tryz.underlying23 hj0 hj1 hj2 hj3 rfl (by decide) _ _ _ rfl (HR.out.own.alloc _) ⟨wr.heap.size, 0, none⟩ 1 1 (flatI [(y : Int)]) rfl rfl (Cells.new wr #[.int .i64 (y : Int)] 3).news (flatI_one _) ?c3 ?c4 ?c5 ?_)
          case c3 => unfold maxLen; omega
          case c4 => omega
          case c5 => have := HR.out.le; simp; omega
          intro v' w4 hown' hgrow _
          have HZ := Lib.hid ((HR.out.alloc _).grow hown' hgrow)
          clear hown' hgrow
          go_wp2_with fail
          go_roundg (n - (k + 1))
          case measure => omega
          case rel => exact ⟨k + 1, by go_num, by omega, Nat.le_refl _, by rw [HS.out]; simp only [cond]; rw [List.length_append, flatI_append]; exact HZ.out⟩
    · obtain rfl : k = n := by omega
      rw [HE.out] at R1
      have HZ := Lib.hid R1; clear R1
      go_wp2_with fail
      try rw [Exit.noGoto_ret]
      go_ret
      exact ⟨_, rfl, lnIs_of_own HZ.out.own, (far_of_own HZ.out.own).mono HB2.out.size, HB2.out.trans (HZ.out.bel.mono HB2.out.size)⟩
end Go.Proofs.YtiafjbhekfpkbaaGreatDoor
