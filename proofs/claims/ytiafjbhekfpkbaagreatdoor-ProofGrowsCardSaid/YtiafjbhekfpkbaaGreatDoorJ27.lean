/- The law ProofGrows. -/
import Derived.Test.YtiafjbhekfpkbaaGreatDoorJ25
import Derived.Test.YtiafjbhekfpkbaaGreatDoorJ4
import Derived.BigQuiet
namespace Go.Proofs.YtiafjbhekfpkbaaGreatDoor
set_option linter.unusedSimpArgs false
set_option linter.unusedVariables false
open Go.ChangeShapes Go.WideShapes Go.ChangeAt Go.RowKit

theorem proofGrows_long (A D : Option Addr) (c d m : Nat) (L : List Opr) (h : 30 < L.length) (hL : L.length ≤ 9223372036854775807) (w : World) :
    Calls Tryz.prog 4 #[.slice A L.length c, .slice D m d] w fun e w' => e = .returned (.bool true) ∧ Below w.heap.size w w' := by
  have C9 := Lib.hid fun W => lives16_any W
  generalize L.length = n at *
  go_enter Tryz.func4, Tryz.ntmps4
  go_wp2_with (go_at_call 5; refine (C9.out _).mono ?_; rintro e w' ⟨rfl, hb⟩)
  go_ret
  exact ⟨rfl, hb⟩
/-- How many of the first numbers are in an order. -/
def cntA (O : List Int) : Nat → Nat
  | 0 => 0
  | i + 1 => cntA O i + bif decide (0 ≤ posN O i) then 1 else 0
theorem cntA_le (O : List Int) : ∀ m, cntA O m ≤ m
  | 0 => Nat.le_refl _
  | m + 1 => by
    have := cntA_le O m
    unfold cntA
    cases decide (0 ≤ posN O m) <;> simp only [cond] <;> omega
theorem cntA_nil : ∀ m, cntA [] m = 0
  | 0 => rfl
  | m + 1 => by unfold cntA; rw [cntA_nil m]; rfl
theorem cntA_all {O : List Int} : ∀ {m : Nat}, cntA O m = m ↔ ∀ i, i < m → 0 ≤ posN O i
  | 0 => ⟨fun _ i h => by omega, fun _ => rfl⟩
  | m + 1 => by
    have ih := cntA_all (O := O) (m := m)
    have hle := cntA_le O m
    unfold cntA
    by_cases h1 : 0 ≤ posN O m
    · rw [decide_eq_true h1]
      simp only [cond, Nat.add_right_cancel_iff, ih]
      constructor
      · intro h i hi
        rcases Nat.lt_or_ge i m with h2 | h2
        · exact h i h2
        · obtain rfl : i = m := by omega
          exact h1
      · exact fun h i hi => h i (by omega)
    · rw [decide_eq_false h1]
      simp only [cond]
      constructor
      · intro h; omega
      · intro h; exact absurd (h m (by omega)) h1
theorem cntA_app {O : List Int} {n : Nat} (hp : posN O n < 0) : ∀ m, cntA (O ++ [(n : Int)]) m = cntA O m + bif decide (n < m) then 1 else 0
  | 0 => by rw [decide_eq_false (by omega)]; rfl
  | m + 1 => by
    have ih := cntA_app (O := O) hp m
    unfold cntA
    rw [ih, posN_app]
    by_cases e : m = n
    · subst e
      rw [decide_eq_true hp, decide_eq_true rfl, decide_eq_false (Nat.lt_irrefl m), decide_eq_true (show m < m + 1 by omega), decide_eq_false (show ¬ 0 ≤ posN O m by omega)]
      simp only [Bool.and_self, cond]
      rw [decide_eq_true (show (0 : Int) ≤ (O.length : Int) by omega)]
    · rw [decide_eq_false (show ¬ (n : Int) = (m : Int) by omega), Bool.and_false]
      have e2 : decide (n < m + 1) = decide (n < m) := decide_eq_decide.2 (by omega)
      rw [e2]
      simp only [cond]
      omega
theorem cntIn_none (L : List Opr) : ∀ m, cntIn L [] m = 0
  | 0 => rfl
  | m + 1 => by
    unfold cntIn
    rw [cntIn_none L m, show posN [] (m : Int) = -1 from rfl]
    cases decide (0 ≤ (oprN L m).to) <;> rfl
/-- What holds between two rounds: the order so far. -/
structure GrowS (L : List Opr) (n k : Nat) (O : List Int) : Prop where
  grown : Grown L O
  len : O.length = k
  all : cntA O n = k
theorem GrowS.some_ {L : List Opr} {n k : Nat} {O : List Int} (h : GrowS L n k O) (hn : L.length = n) (hk : k < n) (hl : ∀ i, i < n → 0 ≤ (oprN L i).to → (oprN L i).fr < (oprN L i).to) : 0 < (nextsUp L O n).length := by
  have hx : ∃ i, i < L.length ∧ posN O i < 0 := Classical.byContradiction fun hne => by
    have : cntA O n = n := cntA_all.2 fun i hi => Classical.byContradiction fun h0 => hne ⟨i, by omega, by omega⟩
    have := h.all
    omega
  have := nexts_some (L := L) (O := O) (fun i hi => hl i (by omega)) hx
  rw [hn] at this
  exact List.length_pos_iff.2 this
theorem GrowS.none_ {L : List Opr} {n : Nat} {O : List Int} (h : GrowS L n n O) : (nextsUp L O n).length = 0 := by
  rcases hx : nextsUp L O n with _ | ⟨x, r⟩
  · rfl
  · exfalso
    have hm : x ∈ nextsUp L O n := by rw [hx]; simp
    obtain ⟨q, h1, h2, h3, h4⟩ := nextsUp_mem.1 hm
    have := cntA_all.1 h.all q h1
    omega
theorem GrowS.next {L : List Opr} {n k : Nat} {O : List Int} (h : GrowS L n k O) (hn : L.length = n) {j : Nat} (hj : j < (nextsUp L O n).length) :
    ∃ q : Nat, (nextsUp L O n).getD j 0 = q ∧ q < n ∧ GrowS L n (k + 1) (O ++ [(q : Int)]) ∧ cntIn L (O ++ [(q : Int)]) n = cntIn L O n + bif decide (0 ≤ (oprN L q).to) then 1 else 0 := by
  have hm : (nextsUp L O n).getD j 0 ∈ nextsUp L O n := by
    simp only [List.getD, List.getElem?_eq_getElem hj, Option.getD_some]
    exact List.getElem_mem hj
  obtain ⟨q, h1, h2, h3, h4⟩ := nextsUp_mem.1 hm
  refine ⟨q, h2, h1, ⟨h.grown.more (by omega) h3 h4, by simp [h.len], ?_⟩, ?_⟩
  · rw [cntA_app h3, h.all, decide_eq_true h1]; rfl
  · rw [cntIn_app h3, decide_eq_true h1, Bool.true_and]
/-- A slice's bytes: of the first n of them the i-th one is p i. -/
def BytesIs (W : World) (D : Option Addr) (m : Nat) (p : Nat → Nat) : Prop := RowIs W D m (fun i => .int .u8 (p i : Nat))
set_option maxRecDepth 100000 in
set_option maxHeartbeats 4000000 in
theorem proofGrows_short (A D : Option Addr) (c d m : Nat) (p : Nat → Nat) (L : List Opr) (hL : L.length ≤ 30) (hm : m ≤ 9223372036854775807) (hp : ∀ i, i < m → p i < 256) (w : World) (ha : LiesC w A (flatF opF L)) (hd : BytesIs w D m p) :
    Calls Tryz.prog 4 #[.slice A L.length c, .slice D m d] w fun e w' => e = .returned (.bool true) ∧ Below w.heap.size w w' := by
  obtain ⟨j0, hj0, hj1, hj2, hj3⟩ := infoI
  have C9 := Lib.hid fun W => lives16_any W
  have C1 := Lib.hid (fun D d O hO hI W h1 h2 => pMay_any A D c d L O (by omega) hO hI W h1 h2)
  have C3 := Lib.hid (fun D d O hO hI W h1 h2 => pNext_any A D c d L O (by omega) hO hI W h1 h2)
  have hdl := doneTo_le L
  have HDS : Hid (∀ k, doneTo L (k + 1) = doneTo L k + bif decide (0 ≤ (oprN L k).to) then 1 else 0) := Lib.hid fun _ => rfl
  have HA := Lib.hid ha
  have HP := Lib.hid (And.intro hd hp)
  clear ha hd hp
  generalize hn : L.length = n at *
  have HN := Lib.hid hn
  clear hn
  go_enter Tryz.func4, Tryz.ntmps4
  go_wp2_with fail
  go_loopw [5, 6] (fun dn i wr => ∃ k : Nat, i = .int .i64 k ∧ dn = .int .i64 (doneTo L k : Nat) ∧ k ≤ n ∧ (∀ j, j < k → 0 ≤ (oprN L j).to → 0 ≤ (oprN L j).fr ∧ (oprN L j).fr < (oprN L j).to) ∧ Drew w wr) (fun _ i _ => n - (intOf i).toNat)
  case atStart => exact ⟨0, rfl, rfl, Nat.zero_le _, fun j hj => by omega, Drew.refl _⟩
  case round =>
    obtain ⟨k, rfl, rfl, hk, hok, hdw⟩ := hrel
    have hdk := hdl k
    by_cases hlt : k < n
    · obtain ⟨b1, off1, rfl, hb1, x1⟩ := (HA.out.keep (hdw.below _)).atO (by rw [HN.out]; omega)
      have p14 : wr.cell? ⟨b1, off1 + k * 16 + 14, none⟩ = some (.int .i64 (oprN L k).fr) := x1 k (by rw [HN.out]; omega) 14 (by omega)
      have p15 : wr.cell? ⟨b1, off1 + k * 16 + 15, none⟩ = some (.int .i64 (oprN L k).to) := x1 k (by rw [HN.out]; omega) 15 (by omega)
      have HS := Lib.hid (HDS.out k)
      have HOK := Lib.hid hok
      have HDW := Lib.hid hdw
      clear x1 hok hb1 hdw
      obtain ⟨fr, hfr⟩ : ∃ fr, (oprN L k).fr = fr := ⟨_, rfl⟩
      obtain ⟨t2, ht2⟩ : ∃ t2, (oprN L k).to = t2 := ⟨_, rfl⟩
      rw [hfr] at p14
      rw [ht2] at p15 HS
      have HF := Lib.hid (And.intro hfr ht2)
      clear hfr ht2
      generalize doneTo L k = dn at *
      by_cases h0 : 0 ≤ t2
      · rw [decide_eq_true h0] at HS
        by_cases h1 : fr < 0
        · go_upto_region 9 with fail
          go_quiet (fail)
          go_wp2_with (go_at_call 5; refine (C9.out _).mono ?_; rintro e w' ⟨rfl, hb⟩)
          go_ret
          exact ⟨rfl, (below_drewN (HDW.out.below _) _).trans (hb.mono (HDW.out.below w.heap.size).size)⟩
        · by_cases h2 : t2 ≤ fr
          · go_upto_region 9 with fail
            go_quiet (fail)
            go_wp2_with (go_at_call 5; refine (C9.out _).mono ?_; rintro e w' ⟨rfl, hb⟩)
            go_ret
            exact ⟨rfl, (below_drewN (HDW.out.below _) _).trans (hb.mono (HDW.out.below w.heap.size).size)⟩
          · go_upto_region 9 with fail
            go_quiet (fail)
            go_wp2_with fail
            go_roundw
            case rel => exact ⟨k + 1, by go_num, by rw [HS.out]; rfl, by omega, fun j hj hto => (Nat.lt_succ_iff_lt_or_eq.1 hj).elim (fun h => HOK.out j h hto) (fun e => by subst e; rw [HF.out.1, HF.out.2]; omega), HDW.out.more _⟩
            case measure => simp [intOf]; omega
      · rw [decide_eq_false h0] at HS
        go_wp2_with fail
        go_roundw
        case rel => exact ⟨k + 1, by go_num, by rw [HS.out]; rfl, by omega, fun j hj hto => (Nat.lt_succ_iff_lt_or_eq.1 hj).elim (fun h => HOK.out j h hto) (fun e => by subst e; rw [HF.out.2] at hto; exact absurd hto h0), HDW.out⟩
        case measure => simp [intOf]; omega
    · obtain rfl : k = n := by omega
      have HOK := Lib.hid hok
      have hb0 : Below w.heap.size w wr := hdw.below _
      have HB0 := Lib.hid hb0
      clear hok hdw HDS hb0
      obtain ⟨W0, rfl⟩ : ∃ W0, W0 = wr := ⟨_, rfl⟩
      obtain ⟨dn, hdn⟩ : ∃ dn, doneTo L k = dn := ⟨_, rfl⟩
      have HCL : Hid (∀ O, cntIn L O k ≤ k) := Lib.hid (fun O => Nat.le_trans (cntIn_le L O k) hdk)
      rw [hdn] at hdk ⊢
      have HDN := Lib.hid hdn
      clear hdn
      go_wp2_with fail
      go_loopw [7, 8, 9] (fun v ci i w2 => ∃ (q : Nat) (O : List Int), i = .int .i64 q ∧ ci = .int .i64 (cntIn L O k : Nat) ∧ q ≤ k ∧ GrowS L k q O ∧ OwnR W0 W0.heap.size 3 1 v q (flatI O) w2) (fun _ _ i _ => k - (intOf i).toNat)
      case atStart => exact ⟨0, [], rfl, by rw [cntIn_none]; rfl, Nat.zero_le _, ⟨Grown.none_ L, rfl, cntA_nil _⟩, ⟨Below.refl _ _, World.ownsRow_nil _ _ _ _, Nat.le_refl _⟩⟩
      case round =>
        obtain ⟨q, O, rfl, rfl, hq, hg, hr⟩ := hrel
        by_cases hlt : q < k
        · obtain ⟨Av, cv, rfl, -, -, -, hlv, -⟩ := lnIs_of_own hr.own
          have hbr : Below w.heap.size w wr := HB0.out.trans (hr.bel.mono HB0.out.size)
          have CN := C3.out Av cv O (by rw [hg.len]; omega) (allI_grown hg.grown (by rw [HN.out]; omega)) wr (HA.out.keep hbr) hlv
          rw [hg.len] at CN
          have HCN := Lib.hid CN
          have HG := Lib.hid hg
          have hnp : 0 < (nextsUp L O k).length := hg.some_ HN.out hlt (fun i hi h0 => (HOK.out i hi h0).2)
          have hnl : (nextsUp L O k).length ≤ k := nextsUp_len L O k
          have HNX := Lib.hid (fun j hj => hg.next HN.out (j := j) hj)
          have HR := Lib.hid (And.intro hr hbr)
          have hci : cntIn L O k ≤ k := HCL.out O
          clear CN hg hr hbr hlv
          generalize cntIn L O k = ci at *
          generalize hnl2 : (nextsUp L O k).length = nl at *
          have HNL := Lib.hid hnl2; clear hnl2
          go_upto_region 17 with fail
          refine HCN.out.mono ?_
          rintro e w2 ⟨v2, rfl, hv2, hf2, hb2⟩
          obtain ⟨An, cn, rfl, -, -, -, hl2, -⟩ := hv2
          obtain ⟨bn, on, rfl, hbn, xn⟩ := hl2.atI (by rw [HNL.out]; exact hnp)
          have hbf : wr.heap.size ≤ bn := hf2 bn rfl
          have HXN := Lib.hid (And.intro xn (And.intro hbn hbf))
          have HR2 := Lib.hid (And.intro (HR.out.1.keep hb2) (And.intro (HR.out.2.trans (hb2.mono HR.out.2.size)) HR.out.1))
          clear hl2 xn hbn hbf hf2 hb2 HCN HR
          go_upto_region 19 with fail
          by_cases hqm : q < m
          · obtain ⟨bd, od, rfl, hbd, xd⟩ := HP.out.1 (by omega)
            have pd : w2.cell? ⟨bd, od + q, none⟩ = some (.int .u8 (p q : Nat)) := (HR2.out.2.1.cell (p := ⟨bd, od + q, none⟩) hbd).trans (xd q hqm)
            have hp8 := HP.out.2 q hqm
            clear xd hbd
            go_upto_region 22 with fail
            obtain ⟨j, hj⟩ : ∃ j : Nat, ((p q : Nat) : Int) % (nl : Int) = (j : Int) := ⟨p q % nl, (Int.natCast_emod _ _).symm⟩
            have hjl : j < nl := by
              have h := Int.emod_lt_of_pos ((p q : Nat) : Int) (show (0 : Int) < (nl : Int) by omega)
              omega
            rw [hj]
            clear hj pd hp8
            obtain ⟨x, hx, hxk, hG, hcnt⟩ := HNX.out j hjl
            have pj : w2.cell? ⟨bn, on + j, none⟩ = some (.int .i64 x) := by rw [HXN.out.1 j (by rw [HNL.out]; exact hjl), hx]
            have HGQ := Lib.hid (And.intro hG (And.intro hcnt HXN.out.2))
            have HXK := Lib.hid hxk
            have hjr : (j : Int) < nl := by omega
            clear hG hcnt hx HNX HXN
            go_upto_region 23 with (at_builtin; refine wpList_append_own _ rfl _ _ 23 rfl W0.heap.size 3 j0 (.int .i64 0) 1 8 Tryz.underlying23 hj0 hj1 hj2 hj3 rfl (by decide) _ _ _ rfl (HR2.out.1.own.alloc _) ⟨w2.heap.size, 0, none⟩ 1 1 (flatI [(x : Int)]) rfl rfl (Cells.new w2 #[.int .i64 x] 3).news (flatI_one _) (by unfold maxLen; omega) (by omega) (by have := HR2.out.1.le; simp; omega) ?_; intro v4 w4 hown' hgrow _; have hR4 := (HR2.out.1.alloc _).grow hown' hgrow; have pj4 : w4.cell? ⟨bn, on + j, none⟩ = some (.int .i64 x) := (World.cell?_of_block (hgrow.block bn (by simp; have := HGQ.out.2.2.1; omega) (fun e => by have := (HR2.out.2.2.own.lt bn e.symm).2; have := HGQ.out.2.2.2; omega))).trans ((World.cell?_alloc_lt _ _ _ HGQ.out.2.2.1).trans pj); have HR4 := Lib.hid hR4; clear hown' hgrow hR4)
            have hbw4 : Below w.heap.size w w4 := HB0.out.trans (HR4.out.bel.mono HB0.out.size)
            obtain ⟨b1, off1, rfl, -, x1⟩ := (HA.out.keep hbw4).atO (by rw [HN.out]; omega)
            have p15 : w4.cell? ⟨b1, off1 + x * 16 + 15, none⟩ = some (.int .i64 (oprN L x).to) := x1 x (by rw [HN.out]; exact hxk) 15 (by omega)
            obtain ⟨A6, c6, rfl, -, -, -, hl6, -⟩ := lnIs_of_own HR4.out.own
            rw [← flatI_append] at hl6
            have CM := C1.out A6 c6 (O ++ [(x : Int)]) (by rw [HGQ.out.1.len]; omega) (allI_grown HGQ.out.1.grown (by rw [HN.out]; omega)) w4 (HA.out.keep hbw4) hl6
            rw [HGQ.out.1.len, HGQ.out.1.grown.count, HN.out, HGQ.out.2.1] at CM
            have HCM := Lib.hid CM
            have HBW4 := Lib.hid hbw4
            have HGN := Lib.hid (And.intro HGQ.out.1 HGQ.out.2.1)
            have hci1 : ci ≤ 30 := by omega
            clear CM hl6 x1 hbw4 pj HGQ HR2
            rw [HDN.out] at HCM
            generalize (oprN L x).to = t2 at *
            by_cases h0 : 0 ≤ t2
            · rw [decide_eq_true h0] at HCM HGN
              go_upto_region 27 with fail
              by_cases hsm : ci + 1 = dn
              · have HCT := Lib.hid (HCM.out.mono (R' := fun e w' => e = .returned (.bool true) ∧ Below w4.heap.size w4 w') fun e w' ⟨h1, h2⟩ => ⟨h1.trans (by simp [hsm]), h2⟩)
                have hsi : (ci : Int) + 1 = dn := by omega
                clear HCM
                go_wp2_with fail
                refine HCT.out.mono ?_
                rintro e w5 ⟨rfl, hb5⟩
                have HR5 := Lib.hid (HR4.out.keep hb5)
                clear hb5
                go_wp2_with fail
                go_roundw
                case rel => exact ⟨q + 1, O ++ [(x : Int)], by go_num, by rw [HGN.out.2]; go_num, by omega, HGN.out.1, by rw [flatI_append]; exact HR5.out⟩
                case measure => simp [intOf]; omega
              · have HCT := Lib.hid (HCM.out.mono (R' := fun e w' => e = .returned (.bool false) ∧ Below w4.heap.size w4 w') fun e w' ⟨h1, h2⟩ => ⟨h1.trans (by simp [hsm]), h2⟩)
                have hsi : ¬ (ci : Int) + 1 = dn := by omega
                clear HCM
                go_wp2_with fail
                refine HCT.out.mono ?_
                rintro e w5 ⟨rfl, hb5⟩
                have HR5 := Lib.hid (HR4.out.keep hb5)
                clear hb5
                go_wp2_with fail
                go_roundw
                case rel => exact ⟨q + 1, O ++ [(x : Int)], by go_num, by rw [HGN.out.2]; go_num, by omega, HGN.out.1, by rw [flatI_append]; exact HR5.out⟩
                case measure => simp [intOf]; omega
            · rw [decide_eq_false h0] at HCM HGN
              go_upto_region 27 with fail
              by_cases hsm : ci = dn
              · have HCT := Lib.hid (HCM.out.mono (R' := fun e w' => e = .returned (.bool true) ∧ Below w4.heap.size w4 w') fun e w' ⟨h1, h2⟩ => ⟨h1.trans (by simp [hsm]), h2⟩)
                have hsi : (ci : Int) = dn := by omega
                clear HCM
                go_wp2_with fail
                refine HCT.out.mono ?_
                rintro e w5 ⟨rfl, hb5⟩
                have HR5 := Lib.hid (HR4.out.keep hb5)
                clear hb5
                go_wp2_with fail
                go_roundw
                case rel => exact ⟨q + 1, O ++ [(x : Int)], by go_num, by rw [HGN.out.2, hsm]; rfl, by omega, HGN.out.1, by rw [flatI_append]; exact HR5.out⟩
                case measure => simp [intOf]; omega
              · have HCT := Lib.hid (HCM.out.mono (R' := fun e w' => e = .returned (.bool false) ∧ Below w4.heap.size w4 w') fun e w' ⟨h1, h2⟩ => ⟨h1.trans (by simp [hsm]), h2⟩)
                have hsi : ¬ (ci : Int) = dn := by omega
                clear HCM
                go_wp2_with fail
                refine HCT.out.mono ?_
                rintro e w5 ⟨rfl, hb5⟩
                have HR5 := Lib.hid (HR4.out.keep hb5)
                clear hb5
                go_wp2_with fail
                go_roundw
                case rel => exact ⟨q + 1, O ++ [(x : Int)], by go_num, by rw [HGN.out.2]; rfl, by omega, HGN.out.1, by rw [flatI_append]; exact HR5.out⟩
                case measure => simp [intOf]; omega
          · go_upto_region 22 with fail
            obtain ⟨j, hj⟩ : ∃ j : Nat, (0 : Int) = (j : Int) := ⟨0, rfl⟩
            have hjl : j < nl := by omega
            rw [hj]
            clear hj
            obtain ⟨x, hx, hxk, hG, hcnt⟩ := HNX.out j hjl
            have pj : w2.cell? ⟨bn, on + j, none⟩ = some (.int .i64 x) := by rw [HXN.out.1 j (by rw [HNL.out]; exact hjl), hx]
            have HGQ := Lib.hid (And.intro hG (And.intro hcnt HXN.out.2))
            have HXK := Lib.hid hxk
            have hjr : (j : Int) < nl := by omega
            clear hG hcnt hx HNX HXN
            go_upto_region 23 with (at_builtin; refine wpList_append_own _ rfl _ _ 23 rfl W0.heap.size 3 j0 (.int .i64 0) 1 8 Tryz.underlying23 hj0 hj1 hj2 hj3 rfl (by decide) _ _ _ rfl (HR2.out.1.own.alloc _) ⟨w2.heap.size, 0, none⟩ 1 1 (flatI [(x : Int)]) rfl rfl (Cells.new w2 #[.int .i64 x] 3).news (flatI_one _) (by unfold maxLen; omega) (by omega) (by have := HR2.out.1.le; simp; omega) ?_; intro v4 w4 hown' hgrow _; have hR4 := (HR2.out.1.alloc _).grow hown' hgrow; have pj4 : w4.cell? ⟨bn, on + j, none⟩ = some (.int .i64 x) := (World.cell?_of_block (hgrow.block bn (by simp; have := HGQ.out.2.2.1; omega) (fun e => by have := (HR2.out.2.2.own.lt bn e.symm).2; have := HGQ.out.2.2.2; omega))).trans ((World.cell?_alloc_lt _ _ _ HGQ.out.2.2.1).trans pj); have HR4 := Lib.hid hR4; clear hown' hgrow hR4)
            have hbw4 : Below w.heap.size w w4 := HB0.out.trans (HR4.out.bel.mono HB0.out.size)
            obtain ⟨b1, off1, rfl, -, x1⟩ := (HA.out.keep hbw4).atO (by rw [HN.out]; omega)
            have p15 : w4.cell? ⟨b1, off1 + x * 16 + 15, none⟩ = some (.int .i64 (oprN L x).to) := x1 x (by rw [HN.out]; exact hxk) 15 (by omega)
            obtain ⟨A6, c6, rfl, -, -, -, hl6, -⟩ := lnIs_of_own HR4.out.own
            rw [← flatI_append] at hl6
            have CM := C1.out A6 c6 (O ++ [(x : Int)]) (by rw [HGQ.out.1.len]; omega) (allI_grown HGQ.out.1.grown (by rw [HN.out]; omega)) w4 (HA.out.keep hbw4) hl6
            rw [HGQ.out.1.len, HGQ.out.1.grown.count, HN.out, HGQ.out.2.1] at CM
            have HCM := Lib.hid CM
            have HBW4 := Lib.hid hbw4
            have HGN := Lib.hid (And.intro HGQ.out.1 HGQ.out.2.1)
            have hci1 : ci ≤ 30 := by omega
            clear CM hl6 x1 hbw4 pj HGQ HR2
            rw [HDN.out] at HCM
            generalize (oprN L x).to = t2 at *
            by_cases h0 : 0 ≤ t2
            · rw [decide_eq_true h0] at HCM HGN
              go_upto_region 27 with fail
              by_cases hsm : ci + 1 = dn
              · have HCT := Lib.hid (HCM.out.mono (R' := fun e w' => e = .returned (.bool true) ∧ Below w4.heap.size w4 w') fun e w' ⟨h1, h2⟩ => ⟨h1.trans (by simp [hsm]), h2⟩)
                have hsi : (ci : Int) + 1 = dn := by omega
                clear HCM
                go_wp2_with fail
                refine HCT.out.mono ?_
                rintro e w5 ⟨rfl, hb5⟩
                have HR5 := Lib.hid (HR4.out.keep hb5)
                clear hb5
                go_wp2_with fail
                go_roundw
                case rel => exact ⟨q + 1, O ++ [(x : Int)], by go_num, by rw [HGN.out.2]; go_num, by omega, HGN.out.1, by rw [flatI_append]; exact HR5.out⟩
                case measure => simp [intOf]; omega
              · have HCT := Lib.hid (HCM.out.mono (R' := fun e w' => e = .returned (.bool false) ∧ Below w4.heap.size w4 w') fun e w' ⟨h1, h2⟩ => ⟨h1.trans (by simp [hsm]), h2⟩)
                have hsi : ¬ (ci : Int) + 1 = dn := by omega
                clear HCM
                go_wp2_with fail
                refine HCT.out.mono ?_
                rintro e w5 ⟨rfl, hb5⟩
                have HR5 := Lib.hid (HR4.out.keep hb5)
                clear hb5
                go_wp2_with fail
                go_roundw
                case rel => exact ⟨q + 1, O ++ [(x : Int)], by go_num, by rw [HGN.out.2]; go_num, by omega, HGN.out.1, by rw [flatI_append]; exact HR5.out⟩
                case measure => simp [intOf]; omega
            · rw [decide_eq_false h0] at HCM HGN
              go_upto_region 27 with fail
              by_cases hsm : ci = dn
              · have HCT := Lib.hid (HCM.out.mono (R' := fun e w' => e = .returned (.bool true) ∧ Below w4.heap.size w4 w') fun e w' ⟨h1, h2⟩ => ⟨h1.trans (by simp [hsm]), h2⟩)
                have hsi : (ci : Int) = dn := by omega
                clear HCM
                go_wp2_with fail
                refine HCT.out.mono ?_
                rintro e w5 ⟨rfl, hb5⟩
                have HR5 := Lib.hid (HR4.out.keep hb5)
                clear hb5
                go_wp2_with fail
                go_roundw
                case rel => exact ⟨q + 1, O ++ [(x : Int)], by go_num, by rw [HGN.out.2, hsm]; rfl, by omega, HGN.out.1, by rw [flatI_append]; exact HR5.out⟩
                case measure => simp [intOf]; omega
              · have HCT := Lib.hid (HCM.out.mono (R' := fun e w' => e = .returned (.bool false) ∧ Below w4.heap.size w4 w') fun e w' ⟨h1, h2⟩ => ⟨h1.trans (by simp [hsm]), h2⟩)
                have hsi : ¬ (ci : Int) = dn := by omega
                clear HCM
                go_wp2_with fail
                refine HCT.out.mono ?_
                rintro e w5 ⟨rfl, hb5⟩
                have HR5 := Lib.hid (HR4.out.keep hb5)
                clear hb5
                go_wp2_with fail
                go_roundw
                case rel => exact ⟨q + 1, O ++ [(x : Int)], by go_num, by rw [HGN.out.2]; rfl, by omega, HGN.out.1, by rw [flatI_append]; exact HR5.out⟩
                case measure => simp [intOf]; omega
        · obtain rfl : q = k := by omega
          obtain ⟨Av, cv, rfl, -, -, -, hlv, -⟩ := lnIs_of_own hr.own
          have hbr : Below w.heap.size w wr := HB0.out.trans (hr.bel.mono HB0.out.size)
          have CN := C3.out Av cv O (by rw [hg.len]; omega) (allI_grown hg.grown (by rw [HN.out]; omega)) wr (HA.out.keep hbr) hlv
          rw [hg.len, hg.none_] at CN
          have HCN := Lib.hid CN
          have HBR := Lib.hid hbr
          clear CN hg hr hbr hlv
          go_upto_region 29 with fail
          go_wp2_with fail
          refine HCN.out.mono ?_
          rintro e w2 ⟨v2, rfl, hv2, hf2, hb2⟩
          obtain ⟨An, cn, rfl⟩ : ∃ A c, v2 = .slice A 0 c := by obtain ⟨A6, c6, e, -⟩ := hv2; exact ⟨A6, c6, e⟩
          have HB2 := Lib.hid (HBR.out.trans (hb2.mono HBR.out.size))
          clear hv2 hf2 hb2 HCN
          go_wp2_with fail
          refine (C9.out _).mono ?_
          rintro e w3 ⟨rfl, hb3⟩
          go_wp2_with fail
          go_ret
          exact ⟨rfl, HB2.out.trans (hb3.mono HB2.out.size)⟩
theorem proofGrows_walk (A D : Option Addr) (c d m : Nat) (p : Nat → Nat) (L : List Opr) (hL : L.length ≤ 9223372036854775807) (hm : m ≤ 9223372036854775807) (hp : ∀ i, i < m → p i < 256) (w : World) (ha : LiesC w A (flatF opF L)) (hd : BytesIs w D m p) :
    Calls Tryz.prog 4 #[.slice A L.length c, .slice D m d] w fun e w' => e = .returned (.bool true) ∧ Below w.heap.size w w' := by
  by_cases h : 30 < L.length
  · exact proofGrows_long A D c d m L h hL w
  · exact proofGrows_short A D c d m p L (by omega) hm hp w ha hd
end Go.Proofs.YtiafjbhekfpkbaaGreatDoor
