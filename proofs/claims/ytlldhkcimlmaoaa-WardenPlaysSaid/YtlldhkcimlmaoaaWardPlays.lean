/- WardenPlays: the law, walked. -/
import Derived.Test.YtlldhkcimlmaoaaWardPlay
import Derived.Test.YtlldhkcimlmaoaaOpenOps7
namespace Go.Proofs.Ytlldhkcimlmaoaa
set_option linter.unusedSimpArgs false
open Go.ChangeShapes Go.WideShapes Go.ChangeAt Go.RowKit Go.Maps

theorem linkV_lt (s : Ward) (x y : Int) : linkV s x y < 18446744073709551616 := by
  unfold linkV
  cases hasB s x y
  · show (0 : Nat) < _; omega
  · have := mkL_lt y (s.gen x.toNat y.toNat)
    show mkL _ _ < _
    omega

section
variable (p q : Int) (B : Option Addr) (n cB : Nat) (x : Nat) (w : World)
set_option maxRecDepth 100000 in
set_option maxHeartbeats 4000000 in
theorem wardenPlays_none (h : sizeB p q = false) : Calls Try.prog 3 #[.agg #[.int .i64 p, .int .i64 q], .slice B n cB, .int .u64 x] w fun e w' => e = .returned (.bool true) ∧ Below w.heap.size w w' := by
  have C1 := Lib.hid fun W => wNew_no p q h W
  have C8 := Lib.hid fun W => wLives W
  unfold sizeB at h
  have h' : p < 1 ∨ 4 < p ∨ q < 1 ∨ 60 < q := by
    by_cases h1 : 1 ≤ p ∧ p ≤ 4 ∧ 1 ≤ q ∧ q ≤ 60
    · obtain ⟨a1, a2, a3, a4⟩ := h1
      rw [decide_eq_true a1, decide_eq_true a2, decide_eq_true a3, decide_eq_true a4] at h
      cases h
    · omega
  clear h
  go_enter Try.func3, Try.ntmps3
  go_upto_region 1 with fail
  generalize hW : World.alloc _ _ = W
  have hat : Row W w.heap.size 22 2 (fun j => match j with | 0 => .int .i64 p | _ => .int .i64 q) := by rw [← hW]; exact Row.new _ _ _ _ _ rfl
  have hB : Below w.heap.size w W := by rw [← hW]; exact (Below.refl _ _).alloc (Nat.le_refl _) _
  clear hW
  generalize hz : w.heap.size = a1 at *
  have HZ := Lib.hid hz; clear hz
  have u0 : W.cell? ⟨a1, 0, none⟩ = some (.int .i64 p) := hat.cell (i := 0) (by omega)
  have u1 : W.cell? ⟨a1, 1, none⟩ = some (.int .i64 q) := hat.cell (i := 1) (by omega)
  have HB := Lib.hid hB
  clear hat hB
  go_upto_region 2 with (go_at_call 6; refine (C1.out _).mono ?_; rintro e w' ⟨rfl, rfl⟩)
  go_cut [37] (fun t wx => t = .bool true ∧ wx = W)
  case first =>
    by_cases h1 : p < 1
    · go_wp2_with fail
      go_meet
      exact ⟨rfl, rfl⟩
    · by_cases h2 : p > 4
      · go_wp2_with fail
        go_meet
        exact ⟨rfl, rfl⟩
      · by_cases h3 : q < 1
        · go_wp2_with fail
          go_meet
          exact ⟨rfl, rfl⟩
        · have h4 : q > 60 := by omega
          go_wp2_with fail
          go_meet
          exact ⟨rfl, rfl⟩
  case rest =>
    obtain ⟨rfl, rfl⟩ := hcut
    go_wp2_with (go_at_call 7; refine (C8.out _).mono ?_; rintro e w2 ⟨rfl, hb2⟩)
    go_ret
    exact ⟨rfl, by rw [HZ.out]; exact below_on HB.out (Nat.le_of_eq HZ.out.symm) hb2⟩
end

set_option maxRecDepth 100000 in
set_option maxHeartbeats 4000000 in
theorem wardenPlays_long (p q : Nat) (h : sizeB p q = true) (B : Option Addr) (n cB : Nat) (hl : 60 < n) (hn : n ≤ 9223372036854775807) (x : Nat) (w : World) : Calls Try.prog 3 #[.agg #[.int .i64 p, .int .i64 q], .slice B n cB, .int .u64 x] w fun e w' => e = .returned (.bool true) ∧ Below w.heap.size w w' := by
  have C1 := Lib.hid fun W => wNew_yes p q h W
  have C8 := Lib.hid fun W => wLives W
  unfold sizeB at h
  simp only [Bool.and_eq_true, decide_eq_true_eq] at h
  have h1 : 1 ≤ p ∧ p ≤ 4 ∧ 1 ≤ q ∧ q ≤ 60 := by omega
  clear h
  obtain ⟨b1, b2, b3, b4⟩ := h1
  have d1 : ¬ ((p : Nat) : Int) < 1 := by omega
  have d2 : ¬ ((p : Nat) : Int) > 4 := by omega
  have d3 : ¬ ((q : Nat) : Int) < 1 := by omega
  have d4 : ¬ ((q : Nat) : Int) > 60 := by omega
  have d5 : ((n : Nat) : Int) > 60 := by omega
  go_enter Try.func3, Try.ntmps3
  go_upto_region 1 with fail
  generalize hW : World.alloc _ _ = W
  have hat : Row W w.heap.size 22 2 (fun j => match j with | 0 => .int .i64 p | _ => .int .i64 q) := by rw [← hW]; exact Row.new _ _ _ _ _ rfl
  have hB : Below w.heap.size w W := by rw [← hW]; exact (Below.refl _ _).alloc (Nat.le_refl _) _
  clear hW
  generalize hz : w.heap.size = a1 at *
  have HZ := Lib.hid hz; clear hz
  have u0 : W.cell? ⟨a1, 0, none⟩ = some (.int .i64 p) := hat.cell (i := 0) (by omega)
  have u1 : W.cell? ⟨a1, 1, none⟩ = some (.int .i64 q) := hat.cell (i := 1) (by omega)
  have HB := Lib.hid hB
  have HA := Lib.hid hat
  clear hat hB
  go_wp2_with (first | (go_at_call 6; refine (C1.out _).mono ?_; rintro e w1 ⟨g, m, rfl, hm1, hb1, hg, hh⟩; have v0 : w1.cell? ⟨a1, 0, none⟩ = some (.int .i64 p) := (HA.out.keep hb1).cell (i := 0) (by omega); have v1 : w1.cell? ⟨a1, 1, none⟩ = some (.int .i64 q) := (HA.out.keep hb1).cell (i := 1) (by omega)) | (go_at_call 7; refine (C8.out _).mono ?_; rintro e w2 ⟨rfl, hb2⟩))
  go_ret
  exact ⟨rfl, by rw [HZ.out]; exact below_on (below_on HB.out (Nat.le_of_eq HZ.out.symm) hb1) (Nat.le_of_eq HZ.out.symm) hb2⟩

set_option maxRecDepth 100000 in
set_option maxHeartbeats 40000000 in
theorem wardenPlays_main (p q : Nat) (h : sizeB p q = true) (B : Option Addr) (n cB : Nat) (hl : n ≤ 60) (O : Nat → OpW) (hO : ∀ i, i < n → OkOp (O i)) (x : Nat) (hx : x < 18446744073709551616) (w : World) (hrB : RowIs w B (n * 3) (fun i => opV (O (i / 3)) (i % 3))) :
    Calls Try.prog 3 #[.agg #[.int .i64 p, .int .i64 q], .slice B n cB, .int .u64 x] w fun e w' => e = .returned (.bool true) ∧ Below w.heap.size w w' := by
  have C1 := Lib.hid fun W => wNew_yes p q h W
  have C2 := Lib.hid fun W => rNew_any p q h W
  have C8 := Lib.hid fun W => wLives W
  have OK0 := Lib.hid (ward0_ok h)
  unfold sizeB at h
  simp only [Bool.and_eq_true, decide_eq_true_eq] at h
  have h1 : 1 ≤ p ∧ p ≤ 4 ∧ 1 ≤ q ∧ q ≤ 60 := by omega
  clear h
  obtain ⟨b1, b2, b3, b4⟩ := h1
  have d1 : ¬ ((p : Nat) : Int) < 1 := by omega
  have d2 : ¬ ((p : Nat) : Int) > 4 := by omega
  have d3 : ¬ ((q : Nat) : Int) < 1 := by omega
  have d4 : ¬ ((q : Nat) : Int) > 60 := by omega
  have d5 : ¬ ((n : Nat) : Int) > 60 := by omega
  go_enter Try.func3, Try.ntmps3
  go_upto_region 1 with fail
  generalize hW : World.alloc _ _ = W
  have hat : Row W w.heap.size 22 2 (fun j => match j with | 0 => .int .i64 p | _ => .int .i64 q) := by rw [← hW]; exact Row.new _ _ _ _ _ rfl
  have hB : Below w.heap.size w W := by rw [← hW]; exact (Below.refl _ _).alloc (Nat.le_refl _) _
  clear hW
  generalize hz : w.heap.size = a1 at *
  have HZ := Lib.hid hz; clear hz
  have u0 : W.cell? ⟨a1, 0, none⟩ = some (.int .i64 p) := hat.cell (i := 0) (by omega)
  have u1 : W.cell? ⟨a1, 1, none⟩ = some (.int .i64 q) := hat.cell (i := 1) (by omega)
  have HB := Lib.hid hB
  have HA := Lib.hid hat
  clear hat hB
  go_upto_region 6 with (go_at_call 6; refine (C1.out _).mono ?_; rintro e w1 ⟨g, m, rfl, hm1, hb1, hg, hh⟩; have v0 : w1.cell? ⟨a1, 0, none⟩ = some (.int .i64 p) := (HA.out.keep hb1).cell (i := 0) (by omega); have v1 : w1.cell? ⟨a1, 1, none⟩ = some (.int .i64 q) := (HA.out.keep hb1).cell (i := 1) (by omega))
  have H1 := Lib.hid (And.intro hm1 (And.intro hb1 (And.intro hg hh)))
  have HA1 := Lib.hid (HA.out.keep hb1)
  clear hm1 hb1 hg hh u0 u1
  go_upto_region 7 with (go_at_call 8; refine (C2.out _).mono ?_; rintro e w2 ⟨b, c, Bk, Cp, rfl, hR2, hb2⟩)
  generalize hW3 : World.alloc _ _ = W3
  have R0 : PlayR w a1 g m w2.heap.size b c Bk Cp (ward0 p q) 0 W3 := by
    have hb3 : Below w2.heap.size w2 W3 := by rw [← hW3]; exact (Below.refl _ _).alloc (Nat.le_refl _) _
    have hX : Row W3 w2.heap.size 30 2 (refR b c (ward0 p q)) := by rw [← hW3]; exact Row.new _ _ _ _ _ rfl
    have e1 := H1.out.1.row.lt
    have e2 := H1.out.1.set.lt
    have e3 := hb2.size
    have e4 := HA1.out.lt
    have e5 := HA.out.lt
    have e6 := H1.out.2.2.1
    have e7 := H1.out.2.2.2
    have hR3 : RefIs (fun i => i < w1.heap.size ∨ i = w2.heap.size) w2 b Bk Cp (ward0 p q) := hR2.and (fun i hi e => by have e' : i = w2.heap.size := e; omega)
    refine ⟨((HB.out.trans (H1.out.2.1.mono (by omega))).trans (hb2.mono (by omega))).trans (hb3.mono (by omega)), OK0.out, (H1.out.1.keep hb2).keep hb3, (hR3.weak fun i e => ?_).keep hb3, hX, by omega, by omega, by omega, by omega, by omega⟩
    rcases e with (e | e) | e
    · left; omega
    · left; omega
    · right; exact e
  have RH := Lib.hid R0
  clear R0 hW3 hR2 hb2 v0 v1 H1 HA1 HA HB C1 C2 OK0
  generalize w2.heap.size = X at *
  go_wp2_with fail
  go_loopw [9] (fun i wr => ∃ (k : Nat) (b c : Nat) (Bk Cp : Nat → Nat) (s : Ward), i = .int .i64 k ∧ k ≤ n ∧ PlayR w a1 g m X b c Bk Cp s k wr) (fun i _ => n - (intOf i).toNat)
  case atStart => exact ⟨0, b, c, Bk, Cp, _, rfl, Nat.zero_le _, RH.out⟩
  case round =>
    clear RH
    obtain ⟨k, b, c, Bk, Cp, s, rfl, hk, R⟩ := hrel
    by_cases hlt : k < n
    · -- DEV
      obtain ⟨lb, off, rfl, hbb, hcell⟩ := hrB (by omega)
      have e0 : (k * 3 + 0) / 3 = k ∧ (k * 3 + 0) % 3 = 0 := by omega
      have e1 : (k * 3 + 1) / 3 = k ∧ (k * 3 + 1) % 3 = 1 := by omega
      have e2 : (k * 3 + 2) / 3 = k ∧ (k * 3 + 2) % 3 = 2 := by omega
      have z0 := hcell (k * 3 + 0) (by omega)
      have z1 := hcell (k * 3 + 1) (by omega)
      have z2 := hcell (k * 3 + 2) (by omega)
      simp only [e0.1, e0.2, e1.1, e1.2, e2.1, e2.2] at z0 z1 z2
      have hba : lb < a1 := by rw [← HZ.out]; exact hbb
      have HY : Hid (∀ W, Below a1 w W → W.cell? ⟨lb, off + k * 3, none⟩ = some (.bool (O k).t) ∧ W.cell? ⟨lb, off + k * 3 + 1, none⟩ = some (.int .i64 (O k).l) ∧ W.cell? ⟨lb, off + k * 3 + 2, none⟩ = some (.int .i64 (O k).s)) := Lib.hid fun W hb =>
        ⟨by rw [hb.cell (p := ⟨lb, off + k * 3, none⟩) hba]; exact z0, by rw [hb.cell (p := ⟨lb, off + k * 3 + 1, none⟩) hba]; exact z1, by rw [hb.cell (p := ⟨lb, off + k * 3 + 2, none⟩) hba]; exact z2⟩
      clear z0 z1 z2 e0 e1 e2 hcell hbb hba hrB
      have hoK := hO k hlt
      have hs2 := okW_do R.ok (O k)
      have D1 : ∀ (F : Nat → Prop) W, RefIs F W b Bk Cp s → WardIs W g m k s → (∀ i, F i → i < W.heap.size) → (∀ i, Two g m i → F i) → Calls Try.prog 9 #[.pointer (some ⟨g, 0, none⟩), .agg #[.slice (some ⟨b, 0, none⟩) s.levels c, .int .i64 s.slips], .agg #[.bool (O k).t, .int .i64 (O k).l, .int .i64 (O k).s]] W (DoDone F W g m (k + 1) (doW s (O k))) := fun F W hr hw hF hFg =>
        lDo_any F b c Bk Cp s k R.ok (by omega) g m W hr hw hF hFg (O k) hoK
      generalize doW s (O k) = s2 at *
      generalize O k = ok at *
      have HD := Lib.hid D1; have RH := Lib.hid R; have S2 := Lib.hid hs2; have HOK := Lib.hid hoK
      clear D1 R hs2 hoK hO
      obtain ⟨u0, u1⟩ := ref_cells RH.out.x
      obtain ⟨y0, y1, y2⟩ := HY.out wr RH.out.below
      have hXlt := RH.out.x.lt
      have hllt : lb < wr.heap.size := World.block_lt_of_cell? wr _ y0
      have hfar : ∀ pt : Addr, pt.block < wr.heap.size → (wr.alloc (.cells #[.slice none 0 0, .int .i64 0] 30)).cell? pt = wr.cell? pt := fun pt hp => ((Below.refl wr.heap.size wr).alloc (Nat.le_refl _) _).cell hp
      have U0 := (hfar ⟨X, 0, none⟩ hXlt).trans u0
      have U1 := (hfar ⟨X, 1, none⟩ hXlt).trans u1
      have Y0 := (hfar ⟨lb, off + k * 3, none⟩ hllt).trans y0
      have Y1 := (hfar ⟨lb, off + k * 3 + 1, none⟩ hllt).trans y1
      have Y2 := (hfar ⟨lb, off + k * 3 + 2, none⟩ hllt).trans y2
      clear hfar
      have hFP : ∀ i, PF g m X i → i < wr.heap.size := fun i e => by
        have := RH.out.ward.row.lt
        have := RH.out.ward.set.lt
        rcases e with (e | e) | e <;> omega
      have HFP := Lib.hid hFP
      clear hFP
      have HA1 : Hid (RefIs (fun i => PF g m X i ∨ i = wr.heap.size) (wr.alloc (.cells (rowOf 2 fun j => match j with | 0 => .slice none 0 0 | _ => .int .i64 0) 30)).drew b Bk Cp s ∧ WardIs (wr.alloc (.cells (rowOf 2 fun j => match j with | 0 => .slice none 0 0 | _ => .int .i64 0) 30)).drew g m k s ∧ Row (wr.alloc (.cells (rowOf 2 fun j => match j with | 0 => .slice none 0 0 | _ => .int .i64 0) 30)).drew wr.heap.size 30 2 (fun j => match j with | 0 => .slice none 0 0 | _ => .int .i64 0)) := by
        have hb : Below wr.heap.size wr (wr.alloc (.cells (rowOf 2 fun j => match j with | 0 => .slice none 0 0 | _ => .int .i64 0) 30)).drew := ((Below.refl _ _).alloc (Nat.le_refl _) _).drew
        exact Lib.hid ⟨(RH.out.ref.and (fun i hi e => by have e' : i = wr.heap.size := e; omega)).keep hb, RH.out.ward.keep hb, (Row.new wr _ _ _ 2 rfl).drew⟩
      go_upto_region 10 with fail
      go_cut [10, 11] (fun y t wx => ∃ Y b' c' Bk' Cp', y = .pointer (some ⟨Y, 0, none⟩) ∧ t = .bool true ∧ MidR w a1 g m X b' c' Bk' Cp' s2 (k + 1) Y wx)
      case first =>
        go_region_with (go_at_call 9; first | (refine (HD.out (PF g m X) _ (RH.out.ref.keep (Below.refl _ _).drew) (RH.out.ward.keep (Below.refl _ _).drew) HFP.out (fun i e => Or.inl e)).mono ?_; rintro e w3 ⟨b', c', Bk', Cp', rfl, hR3, hV3, hO3⟩) | (refine (HD.out (fun i => PF g m X i ∨ i = wr.heap.size) _ HA1.out.1 HA1.out.2.1 (fun i e => by rcases e with e | e; (have := HFP.out i e; show i < (wr.alloc _).heap.size; simp; omega); (show i < (wr.alloc _).heap.size; simp; omega)) (fun i e => Or.inl (Or.inl e))).mono ?_; rintro e w3 ⟨b', c', Bk', Cp', rfl, hR3, hV3, hO3⟩; have hY := HA1.out.2.2.only hO3 (by have := RH.out.ward.row.lt; have := RH.out.ward.set.lt; rintro (e | e) <;> omega); have q0 := hY.cell (i := 0) (by omega); have q1 := hY.cell (i := 1) (by omega); have q2 := hY.frozen 0; have q3 := hY.frozen 1; have HYh := Lib.hid hY; clear hY))
        all_goals
          go_wp2_with fail
          go_meet
          first
            | (have hyy := HYh.out; exact ⟨wr.heap.size, b', c', Bk', Cp', rfl, rfl, midR_b RH.out hR3 hV3 hO3 hyy⟩)
            | exact ⟨w3.heap.size, b', c', Bk', Cp', rfl, rfl, midR_a RH.out hR3 hV3 hO3⟩
      case rest =>
        obtain ⟨Y, b', c', Bk', Cp', rfl, rfl, hD⟩ := hcut
        clear u0 u1 y0 y1 y2 U0 U1 Y0 Y1 Y2 HA1 HD HFP
        obtain ⟨v0, v1⟩ := ref_cells hD.y
        obtain ⟨fx, hfx⟩ := hD.x
        have w0 := hfx.cell (i := 0) (by omega)
        have w1 := hfx.cell (i := 1) (by omega)
        have f0 := hfx.frozen 0
        have f1 := hfx.frozen 1
        have hne := hD.ne
        have hne' := hD.ne.symm
        have HDm := Lib.hid hD
        clear hD hfx
        go_upto_region 12 with fail
        have R4 := MidR.laid HDm.out S2.out RH.out.lt1 RH.out.lt2 RH.out.lt3 RH.out.ne1 RH.out.ne2
        generalize hW4 : World.setCell (World.setCell wc ⟨X, 0, none⟩ _) _ _ = W4 at *
        clear hW4 v0 v1 w0 w1 f0 f1 hne hne' HDm RH
        have hN1 : k + 1 < 1000000 := by omega
        have CS : ∀ y : Nat, y < 18446744073709551616 → ∀ W, PlayR w a1 g m X b' c' Bk' Cp' s2 (k + 1) W → Calls Try.prog 10 #[.pointer (some ⟨g, 0, none⟩), .agg #[.slice (some ⟨b', 0, none⟩) s2.levels c', .int .i64 s2.slips], .int .i64 ok.l, .int .i64 ok.s, .int .u64 (y : Nat)] W fun e w' => e = .returned (.bool true) ∧ Below W.heap.size W w' := fun y hy W hW =>
          lSame_any (PF g m X) b' c' Bk' Cp' s2 (k + 1) hW.ok hN1 g m W hW.ref hW.ward ok.l ok.s HOK.out.1 HOK.out.2 y hy
        have CL : ∀ W, PlayR w a1 g m X b' c' Bk' Cp' s2 (k + 1) W → Calls Try.prog 11 #[.agg #[.slice (some ⟨b', 0, none⟩) s2.levels c', .int .i64 s2.slips], .int .i64 ok.l, .int .i64 ok.s] W fun e w' => e = .returned (.int .u64 (linkV s2 ok.l ok.s : Nat)) ∧ Below W.heap.size W w' := fun W hW =>
          rLink_any (PF g m X) b' c' Bk' Cp' s2 (k + 1) hW.ok W hW.ref hN1 ok.l ok.s HOK.out.1 HOK.out.2
        have CX := Lib.hid (CS x hx)
        have CV := Lib.hid (CS (linkV s2 ok.l ok.s) (linkV_lt _ _ _))
        have CLh := Lib.hid CL
        clear CS CL
        generalize linkV s2 ok.l ok.s = v at *
        have R4h := Lib.hid R4
        have hst : (fun w' : World => PlayR w a1 g m X b' c' Bk' Cp' s2 (k + 1) w' ∧ w'.cell? ⟨X, 0, none⟩ = some (.slice (some ⟨b', 0, none⟩) s2.levels c') ∧ w'.cell? ⟨X, 1, none⟩ = some (.int .i64 s2.slips) ∧ w'.cell? ⟨lb, off + k * 3 + 1, none⟩ = some (.int .i64 ok.l) ∧ w'.cell? ⟨lb, off + k * 3 + 2, none⟩ = some (.int .i64 ok.s)) W4.drew := ⟨R4.keep (Below.refl _ _).drew, (ref_cells R4.x).1, (ref_cells R4.x).2, (HY.out W4 R4.below).2.1, (HY.out W4 R4.below).2.2⟩
        have hkeep : ∀ w1 w2 : World, Below w1.heap.size w1 w2 → (fun w' : World => PlayR w a1 g m X b' c' Bk' Cp' s2 (k + 1) w' ∧ w'.cell? ⟨X, 0, none⟩ = some (.slice (some ⟨b', 0, none⟩) s2.levels c') ∧ w'.cell? ⟨X, 1, none⟩ = some (.int .i64 s2.slips) ∧ w'.cell? ⟨lb, off + k * 3 + 1, none⟩ = some (.int .i64 ok.l) ∧ w'.cell? ⟨lb, off + k * 3 + 2, none⟩ = some (.int .i64 ok.s)) w1 → (fun w' : World => PlayR w a1 g m X b' c' Bk' Cp' s2 (k + 1) w' ∧ w'.cell? ⟨X, 0, none⟩ = some (.slice (some ⟨b', 0, none⟩) s2.levels c') ∧ w'.cell? ⟨X, 1, none⟩ = some (.int .i64 s2.slips) ∧ w'.cell? ⟨lb, off + k * 3 + 1, none⟩ = some (.int .i64 ok.l) ∧ w'.cell? ⟨lb, off + k * 3 + 2, none⟩ = some (.int .i64 ok.s)) w2 := fun w1 w2 hb h =>
          ⟨h.1.keep hb, (ref_cells (h.1.keep hb).x).1, (ref_cells (h.1.keep hb).x).2, (HY.out w2 (h.1.keep hb).below).2.1, (HY.out w2 (h.1.keep hb).below).2.2⟩
        have HST := Lib.hid hst
        have t1 : decide (k < n) = true := by simp [hlt]
        clear hst R4 R4h
        refine wp_region_noPanic ?_
        refine wp_region_held_drew (S := fun w' => PlayR w a1 g m X b' c' Bk' Cp' s2 (k + 1) w' ∧ w'.cell? ⟨X, 0, none⟩ = some (.slice (some ⟨b', 0, none⟩) s2.levels c') ∧ w'.cell? ⟨X, 1, none⟩ = some (.int .i64 s2.slips) ∧ w'.cell? ⟨lb, off + k * 3 + 1, none⟩ = some (.int .i64 ok.l) ∧ w'.cell? ⟨lb, off + k * 3 + 2, none⟩ = some (.int .i64 ok.s)) (by kernel_rfl) (HST.out) (fun hHeld => ?_)
        (refine wpAnyH_take (i := 0) (v := ?_) rfl (by kernel_rfl) (by kernel_rfl) (by kernel_rfl) (fun _ _ _ h => h) (Or.inl ⟨by rfl, ?_⟩) hHeld ?_; rotate_left; focus (intro w hSw; (try dsimp only at hSw); go_simp; (try with_reducible rfl)))
        try simp only [Act.put, List.getElem_toArray, List.getElem_cons_succ, List.getElem_cons_zero, List.setIfInBounds_toArray, List.set_cons_zero, List.set_cons_succ]
        (refine wpAnyH_take (i := 1) (v := ?_) rfl (by kernel_rfl) (by kernel_rfl) (by kernel_rfl) (fun _ _ _ h => h) (Or.inl ⟨by rfl, ?_⟩) hHeld ?_; rotate_left; focus (intro w hSw; (try dsimp only at hSw); go_simp; (try with_reducible rfl)))
        try simp only [Act.put, List.getElem_toArray, List.getElem_cons_succ, List.getElem_cons_zero, List.setIfInBounds_toArray, List.set_cons_zero, List.set_cons_succ]
        (refine wpAnyH_take (i := 2) (v := ?_) rfl (by kernel_rfl) (by kernel_rfl) (by kernel_rfl) (fun _ _ _ h => h) (Or.inl ⟨by rfl, ?_⟩) hHeld ?_; rotate_left; focus (intro w hSw; (try dsimp only at hSw); go_simp; (try with_reducible rfl)))
        try simp only [Act.put, List.getElem_toArray, List.getElem_cons_succ, List.getElem_cons_zero, List.setIfInBounds_toArray, List.set_cons_zero, List.set_cons_succ]
        first | (refine wpAnyH_take (i := 3) rfl (by kernel_rfl) (by kernel_rfl) (by kernel_rfl) (fun _ _ _ h => h) (Or.inr ⟨by rfl, rfl⟩) hHeld ?_) | (refine wpAnyH_take (i := 3) (v := ?_) rfl (by kernel_rfl) (by kernel_rfl) (by kernel_rfl) (fun _ _ _ h => h) (Or.inl ⟨by rfl, ?_⟩) hHeld ?_; rotate_left; focus (intro w hSw; (try dsimp only at hSw); go_simp; (try with_reducible rfl)))
        try simp only [Act.put, List.getElem_toArray, List.getElem_cons_succ, List.getElem_cons_zero, List.setIfInBounds_toArray, List.set_cons_zero, List.set_cons_succ]
        first | (refine wpAnyH_take (i := 4) rfl (by kernel_rfl) (by kernel_rfl) (by kernel_rfl) (fun _ _ _ h => h) (Or.inr ⟨by rfl, rfl⟩) hHeld ?_) | (refine wpAnyH_take (i := 4) (v := ?_) rfl (by kernel_rfl) (by kernel_rfl) (by kernel_rfl) (fun _ _ _ h => h) (Or.inl ⟨by rfl, ?_⟩) hHeld ?_; rotate_left; focus (intro w hSw; (try dsimp only at hSw); go_simp; (try with_reducible rfl)))
        try simp only [Act.put, List.getElem_toArray, List.getElem_cons_succ, List.getElem_cons_zero, List.setIfInBounds_toArray, List.set_cons_zero, List.set_cons_succ]
        first | (refine wpAnyH_take (i := 5) rfl (by kernel_rfl) (by kernel_rfl) (by kernel_rfl) (fun _ _ _ h => h) (Or.inr ⟨by rfl, rfl⟩) hHeld ?_) | (refine wpAnyH_take (i := 5) (v := ?_) rfl (by kernel_rfl) (by kernel_rfl) (by kernel_rfl) (fun _ _ _ h => h) (Or.inl ⟨by rfl, ?_⟩) hHeld ?_; rotate_left; focus (intro w hSw; (try dsimp only at hSw); go_simp; (try with_reducible rfl)))
        try simp only [Act.put, List.getElem_toArray, List.getElem_cons_succ, List.getElem_cons_zero, List.setIfInBounds_toArray, List.set_cons_zero, List.set_cons_succ]
        first | (refine wpAnyH_take (i := 6) rfl (by kernel_rfl) (by kernel_rfl) (by kernel_rfl) (fun _ _ _ h => h) (Or.inr ⟨by rfl, rfl⟩) hHeld ?_) | (refine wpAnyH_take (i := 6) (v := ?_) rfl (by kernel_rfl) (by kernel_rfl) (by kernel_rfl) (fun _ _ _ h => h) (Or.inl ⟨by rfl, ?_⟩) hHeld ?_; rotate_left; focus (intro w hSw; (try dsimp only at hSw); go_simp; (try with_reducible rfl)))
        try simp only [Act.put, List.getElem_toArray, List.getElem_cons_succ, List.getElem_cons_zero, List.setIfInBounds_toArray, List.set_cons_zero, List.set_cons_succ]
        first | (refine wpAnyH_take (i := 7) rfl (by kernel_rfl) (by kernel_rfl) (by kernel_rfl) (fun _ _ _ h => h) (Or.inr ⟨by rfl, rfl⟩) hHeld ?_) | (refine wpAnyH_take (i := 7) (v := ?_) rfl (by kernel_rfl) (by kernel_rfl) (by kernel_rfl) (fun _ _ _ h => h) (Or.inl ⟨by rfl, ?_⟩) hHeld ?_; rotate_left; focus (intro w hSw; (try dsimp only at hSw); go_simp; (try with_reducible rfl)))
        try simp only [Act.put, List.getElem_toArray, List.getElem_cons_succ, List.getElem_cons_zero, List.setIfInBounds_toArray, List.set_cons_zero, List.set_cons_succ]
        first | (refine wpAnyH_take (i := 8) rfl (by kernel_rfl) (by kernel_rfl) (by kernel_rfl) (fun _ _ _ h => h) (Or.inr ⟨by rfl, rfl⟩) hHeld ?_) | (refine wpAnyH_take (i := 8) (v := ?_) rfl (by kernel_rfl) (by kernel_rfl) (by kernel_rfl) (fun _ _ _ h => h) (Or.inl ⟨by rfl, ?_⟩) hHeld ?_; rotate_left; focus (intro w hSw; (try dsimp only at hSw); go_simp; (try with_reducible rfl)))
        try simp only [Act.put, List.getElem_toArray, List.getElem_cons_succ, List.getElem_cons_zero, List.setIfInBounds_toArray, List.set_cons_zero, List.set_cons_succ]
        first | (refine wpAnyH_take (i := 9) rfl (by kernel_rfl) (by kernel_rfl) (by kernel_rfl) (fun _ _ _ h => h) (Or.inr ⟨by rfl, rfl⟩) hHeld ?_) | (refine wpAnyH_take (i := 9) (v := ?_) rfl (by kernel_rfl) (by kernel_rfl) (by kernel_rfl) (fun _ _ _ h => h) (Or.inl ⟨by rfl, ?_⟩) hHeld ?_; rotate_left; focus (intro w hSw; (try dsimp only at hSw); go_simp; (try with_reducible rfl)))
        try simp only [Act.put, List.getElem_toArray, List.getElem_cons_succ, List.getElem_cons_zero, List.setIfInBounds_toArray, List.set_cons_zero, List.set_cons_succ]
        first | (refine wpAnyH_take (i := 10) rfl (by kernel_rfl) (by kernel_rfl) (by kernel_rfl) (fun _ _ _ h => h) (Or.inr ⟨by rfl, rfl⟩) hHeld ?_) | (refine wpAnyH_take (i := 10) (v := ?_) rfl (by kernel_rfl) (by kernel_rfl) (by kernel_rfl) (fun _ _ _ h => h) (Or.inl ⟨by rfl, ?_⟩) hHeld ?_; rotate_left; focus (intro w hSw; (try dsimp only at hSw); go_simp; (try with_reducible rfl)))
        try simp only [Act.put, List.getElem_toArray, List.getElem_cons_succ, List.getElem_cons_zero, List.setIfInBounds_toArray, List.set_cons_zero, List.set_cons_succ]
        first | (refine wpAnyH_take (i := 11) rfl (by kernel_rfl) (by kernel_rfl) (by kernel_rfl) (fun _ _ _ h => h) (Or.inr ⟨by rfl, rfl⟩) hHeld ?_) | (refine wpAnyH_take (i := 11) (v := ?_) rfl (by kernel_rfl) (by kernel_rfl) (by kernel_rfl) (fun _ _ _ h => h) (Or.inl ⟨by rfl, ?_⟩) hHeld ?_; rotate_left; focus (intro w hSw; (try dsimp only at hSw); go_simp; (try with_reducible rfl)))
        try simp only [Act.put, List.getElem_toArray, List.getElem_cons_succ, List.getElem_cons_zero, List.setIfInBounds_toArray, List.set_cons_zero, List.set_cons_succ]
        first | (refine wpAnyH_take (i := 12) rfl (by kernel_rfl) (by kernel_rfl) (by kernel_rfl) (fun _ _ _ h => h) (Or.inr ⟨by rfl, rfl⟩) hHeld ?_) | (refine wpAnyH_take (i := 12) (v := ?_) rfl (by kernel_rfl) (by kernel_rfl) (by kernel_rfl) (fun _ _ _ h => h) (Or.inl ⟨by rfl, ?_⟩) hHeld ?_; rotate_left; focus (intro w hSw; (try dsimp only at hSw); go_simp; (try with_reducible rfl)))
        try simp only [Act.put, List.getElem_toArray, List.getElem_cons_succ, List.getElem_cons_zero, List.setIfInBounds_toArray, List.set_cons_zero, List.set_cons_succ]
        first | (refine wpAnyH_take (i := 13) rfl (by kernel_rfl) (by kernel_rfl) (by kernel_rfl) (fun _ _ _ h => h) (Or.inr ⟨by rfl, rfl⟩) hHeld ?_) | (refine wpAnyH_take (i := 13) (v := ?_) rfl (by kernel_rfl) (by kernel_rfl) (by kernel_rfl) (fun _ _ _ h => h) (Or.inl ⟨by rfl, ?_⟩) hHeld ?_; rotate_left; focus (intro w hSw; (try dsimp only at hSw); go_simp; (try with_reducible rfl)))
        try simp only [Act.put, List.getElem_toArray, List.getElem_cons_succ, List.getElem_cons_zero, List.setIfInBounds_toArray, List.set_cons_zero, List.set_cons_succ]
        first | (refine wpAnyH_take (i := 14) rfl (by kernel_rfl) (by kernel_rfl) (by kernel_rfl) (fun _ _ _ h => h) (Or.inr ⟨by rfl, rfl⟩) hHeld ?_) | (refine wpAnyH_take (i := 14) (v := ?_) rfl (by kernel_rfl) (by kernel_rfl) (by kernel_rfl) (fun _ _ _ h => h) (Or.inl ⟨by rfl, ?_⟩) hHeld ?_; rotate_left; focus (intro w hSw; (try dsimp only at hSw); go_simp; (try with_reducible rfl)))
        try simp only [Act.put, List.getElem_toArray, List.getElem_cons_succ, List.getElem_cons_zero, List.setIfInBounds_toArray, List.set_cons_zero, List.set_cons_succ]
        first | (refine wpAnyH_take (i := 15) rfl (by kernel_rfl) (by kernel_rfl) (by kernel_rfl) (fun _ _ _ h => h) (Or.inr ⟨by rfl, rfl⟩) hHeld ?_) | (refine wpAnyH_take (i := 15) (v := ?_) rfl (by kernel_rfl) (by kernel_rfl) (by kernel_rfl) (fun _ _ _ h => h) (Or.inl ⟨by rfl, ?_⟩) hHeld ?_; rotate_left; focus (intro w hSw; (try dsimp only at hSw); go_simp; (try with_reducible rfl)))
        try simp only [Act.put, List.getElem_toArray, List.getElem_cons_succ, List.getElem_cons_zero, List.setIfInBounds_toArray, List.set_cons_zero, List.set_cons_succ]
        first | (refine wpAnyH_take (i := 16) rfl (by kernel_rfl) (by kernel_rfl) (by kernel_rfl) (fun _ _ _ h => h) (Or.inr ⟨by rfl, rfl⟩) hHeld ?_) | (refine wpAnyH_ready (rs := [16]) (by kernel_rfl) (by simp) ?_; refine AllReadyH.cons rfl (fun K hK => ?_) AllReadyH.nil; go_simp; (first | (go_at_call 10; with_reducible refine (CX.out _ hHeld.1).mono ?_; rintro e w' ⟨rfl, hb⟩) | (go_at_call 11; with_reducible refine (CLh.out _ hHeld.1).mono ?_; rintro e w' ⟨rfl, hb⟩) | (go_at_call 10; with_reducible refine (CV.out _ hHeld.1).mono ?_; rintro e w' ⟨rfl, hb⟩)); (try go_wp2_with fail); refine hK.out _ _ ?_ (fun hHeld' => ?_); (focus (first | exact hkeep _ _ hb hHeld | exact hHeld)); clear hK K; replace hHeld := hHeld'; clear hHeld')
        try simp only [Act.put, List.getElem_toArray, List.getElem_cons_succ, List.getElem_cons_zero, List.setIfInBounds_toArray, List.set_cons_zero, List.set_cons_succ]
        first | (refine wpAnyH_take (i := 17) rfl (by kernel_rfl) (by kernel_rfl) (by kernel_rfl) (fun _ _ _ h => h) (Or.inr ⟨by rfl, rfl⟩) hHeld ?_) | (refine wpAnyH_take (i := 17) (v := ?_) rfl (by kernel_rfl) (by kernel_rfl) (by kernel_rfl) (fun _ _ _ h => h) (Or.inl ⟨by rfl, ?_⟩) hHeld ?_; rotate_left; focus (intro w hSw; (try dsimp only at hSw); go_simp; (try with_reducible rfl)))
        try simp only [Act.put, List.getElem_toArray, List.getElem_cons_succ, List.getElem_cons_zero, List.setIfInBounds_toArray, List.set_cons_zero, List.set_cons_succ]
        (refine wpAnyH_take (i := 18) (v := ?_) rfl (by kernel_rfl) (by kernel_rfl) (by kernel_rfl) (fun _ _ _ h => h) (Or.inl ⟨by rfl, ?_⟩) hHeld ?_; rotate_left; focus (intro w hSw; (try dsimp only at hSw); go_simp; (try with_reducible rfl)))
        try simp only [Act.put, List.getElem_toArray, List.getElem_cons_succ, List.getElem_cons_zero, List.setIfInBounds_toArray, List.set_cons_zero, List.set_cons_succ]
        (refine wpAnyH_take (i := 19) (v := ?_) rfl (by kernel_rfl) (by kernel_rfl) (by kernel_rfl) (fun _ _ _ h => h) (Or.inl ⟨by rfl, ?_⟩) hHeld ?_; rotate_left; focus (intro w hSw; (try dsimp only at hSw); go_simp; (try with_reducible rfl)))
        try simp only [Act.put, List.getElem_toArray, List.getElem_cons_succ, List.getElem_cons_zero, List.setIfInBounds_toArray, List.set_cons_zero, List.set_cons_succ]
        first | (refine wpAnyH_take (i := 20) rfl (by kernel_rfl) (by kernel_rfl) (by kernel_rfl) (fun _ _ _ h => h) (Or.inr ⟨by rfl, rfl⟩) hHeld ?_) | (refine wpAnyH_take (i := 20) (v := ?_) rfl (by kernel_rfl) (by kernel_rfl) (by kernel_rfl) (fun _ _ _ h => h) (Or.inl ⟨by rfl, ?_⟩) hHeld ?_; rotate_left; focus (intro w hSw; (try dsimp only at hSw); go_simp; (try with_reducible rfl)))
        try simp only [Act.put, List.getElem_toArray, List.getElem_cons_succ, List.getElem_cons_zero, List.setIfInBounds_toArray, List.set_cons_zero, List.set_cons_succ]
        first | (refine wpAnyH_take (i := 21) rfl (by kernel_rfl) (by kernel_rfl) (by kernel_rfl) (fun _ _ _ h => h) (Or.inr ⟨by rfl, rfl⟩) hHeld ?_) | (refine wpAnyH_take (i := 21) (v := ?_) rfl (by kernel_rfl) (by kernel_rfl) (by kernel_rfl) (fun _ _ _ h => h) (Or.inl ⟨by rfl, ?_⟩) hHeld ?_; rotate_left; focus (intro w hSw; (try dsimp only at hSw); go_simp; (try with_reducible rfl)))
        try simp only [Act.put, List.getElem_toArray, List.getElem_cons_succ, List.getElem_cons_zero, List.setIfInBounds_toArray, List.set_cons_zero, List.set_cons_succ]
        first | (refine wpAnyH_take (i := 22) rfl (by kernel_rfl) (by kernel_rfl) (by kernel_rfl) (fun _ _ _ h => h) (Or.inr ⟨by rfl, rfl⟩) hHeld ?_) | (refine wpAnyH_take (i := 22) (v := ?_) rfl (by kernel_rfl) (by kernel_rfl) (by kernel_rfl) (fun _ _ _ h => h) (Or.inl ⟨by rfl, ?_⟩) hHeld ?_; rotate_left; focus (intro w hSw; (try dsimp only at hSw); go_simp; (try with_reducible rfl)))
        try simp only [Act.put, List.getElem_toArray, List.getElem_cons_succ, List.getElem_cons_zero, List.setIfInBounds_toArray, List.set_cons_zero, List.set_cons_succ]
        first | (refine wpAnyH_take (i := 23) rfl (by kernel_rfl) (by kernel_rfl) (by kernel_rfl) (fun _ _ _ h => h) (Or.inr ⟨by rfl, rfl⟩) hHeld ?_) | (refine wpAnyH_take (i := 23) (v := ?_) rfl (by kernel_rfl) (by kernel_rfl) (by kernel_rfl) (fun _ _ _ h => h) (Or.inl ⟨by rfl, ?_⟩) hHeld ?_; rotate_left; focus (intro w hSw; (try dsimp only at hSw); go_simp; (try with_reducible rfl)))
        try simp only [Act.put, List.getElem_toArray, List.getElem_cons_succ, List.getElem_cons_zero, List.setIfInBounds_toArray, List.set_cons_zero, List.set_cons_succ]
        first | (refine wpAnyH_take (i := 24) rfl (by kernel_rfl) (by kernel_rfl) (by kernel_rfl) (fun _ _ _ h => h) (Or.inr ⟨by rfl, rfl⟩) hHeld ?_) | (refine wpAnyH_take (i := 24) (v := ?_) rfl (by kernel_rfl) (by kernel_rfl) (by kernel_rfl) (fun _ _ _ h => h) (Or.inl ⟨by rfl, ?_⟩) hHeld ?_; rotate_left; focus (intro w hSw; (try dsimp only at hSw); go_simp; (try with_reducible rfl)))
        try simp only [Act.put, List.getElem_toArray, List.getElem_cons_succ, List.getElem_cons_zero, List.setIfInBounds_toArray, List.set_cons_zero, List.set_cons_succ]
        first | (refine wpAnyH_take (i := 25) rfl (by kernel_rfl) (by kernel_rfl) (by kernel_rfl) (fun _ _ _ h => h) (Or.inr ⟨by rfl, rfl⟩) hHeld ?_) | (refine wpAnyH_take (i := 25) (v := ?_) rfl (by kernel_rfl) (by kernel_rfl) (by kernel_rfl) (fun _ _ _ h => h) (Or.inl ⟨by rfl, ?_⟩) hHeld ?_; rotate_left; focus (intro w hSw; (try dsimp only at hSw); go_simp; (try with_reducible rfl)))
        try simp only [Act.put, List.getElem_toArray, List.getElem_cons_succ, List.getElem_cons_zero, List.setIfInBounds_toArray, List.set_cons_zero, List.set_cons_succ]
        first | (refine wpAnyH_take (i := 26) rfl (by kernel_rfl) (by kernel_rfl) (by kernel_rfl) (fun _ _ _ h => h) (Or.inr ⟨by rfl, rfl⟩) hHeld ?_) | (refine wpAnyH_take (i := 26) (v := ?_) rfl (by kernel_rfl) (by kernel_rfl) (by kernel_rfl) (fun _ _ _ h => h) (Or.inl ⟨by rfl, ?_⟩) hHeld ?_; rotate_left; focus (intro w hSw; (try dsimp only at hSw); go_simp; (try with_reducible rfl)))
        try simp only [Act.put, List.getElem_toArray, List.getElem_cons_succ, List.getElem_cons_zero, List.setIfInBounds_toArray, List.set_cons_zero, List.set_cons_succ]
        first | (refine wpAnyH_take (i := 27) rfl (by kernel_rfl) (by kernel_rfl) (by kernel_rfl) (fun _ _ _ h => h) (Or.inr ⟨by rfl, rfl⟩) hHeld ?_) | (refine wpAnyH_take (i := 27) (v := ?_) rfl (by kernel_rfl) (by kernel_rfl) (by kernel_rfl) (fun _ _ _ h => h) (Or.inl ⟨by rfl, ?_⟩) hHeld ?_; rotate_left; focus (intro w hSw; (try dsimp only at hSw); go_simp; (try with_reducible rfl)))
        try simp only [Act.put, List.getElem_toArray, List.getElem_cons_succ, List.getElem_cons_zero, List.setIfInBounds_toArray, List.set_cons_zero, List.set_cons_succ]
        first | (refine wpAnyH_take (i := 28) rfl (by kernel_rfl) (by kernel_rfl) (by kernel_rfl) (fun _ _ _ h => h) (Or.inr ⟨by rfl, rfl⟩) hHeld ?_) | (refine wpAnyH_take (i := 28) (v := ?_) rfl (by kernel_rfl) (by kernel_rfl) (by kernel_rfl) (fun _ _ _ h => h) (Or.inl ⟨by rfl, ?_⟩) hHeld ?_; rotate_left; focus (intro w hSw; (try dsimp only at hSw); go_simp; (try with_reducible rfl)))
        try simp only [Act.put, List.getElem_toArray, List.getElem_cons_succ, List.getElem_cons_zero, List.setIfInBounds_toArray, List.set_cons_zero, List.set_cons_succ]
        first | (refine wpAnyH_take (i := 29) rfl (by kernel_rfl) (by kernel_rfl) (by kernel_rfl) (fun _ _ _ h => h) (Or.inr ⟨by rfl, rfl⟩) hHeld ?_) | (refine wpAnyH_take (i := 29) (v := ?_) rfl (by kernel_rfl) (by kernel_rfl) (by kernel_rfl) (fun _ _ _ h => h) (Or.inl ⟨by rfl, ?_⟩) hHeld ?_; rotate_left; focus (intro w hSw; (try dsimp only at hSw); go_simp; (try with_reducible rfl)))
        try simp only [Act.put, List.getElem_toArray, List.getElem_cons_succ, List.getElem_cons_zero, List.setIfInBounds_toArray, List.set_cons_zero, List.set_cons_succ]
        first | (refine wpAnyH_take (i := 30) rfl (by kernel_rfl) (by kernel_rfl) (by kernel_rfl) (fun _ _ _ h => h) (Or.inr ⟨by rfl, rfl⟩) hHeld ?_) | (refine wpAnyH_take (i := 30) (v := ?_) rfl (by kernel_rfl) (by kernel_rfl) (by kernel_rfl) (fun _ _ _ h => h) (Or.inl ⟨by rfl, ?_⟩) hHeld ?_; rotate_left; focus (intro w hSw; (try dsimp only at hSw); go_simp; (try with_reducible rfl)))
        try simp only [Act.put, List.getElem_toArray, List.getElem_cons_succ, List.getElem_cons_zero, List.setIfInBounds_toArray, List.set_cons_zero, List.set_cons_succ]
        first | (refine wpAnyH_take (i := 31) rfl (by kernel_rfl) (by kernel_rfl) (by kernel_rfl) (fun _ _ _ h => h) (Or.inr ⟨by rfl, rfl⟩) hHeld ?_) | (refine wpAnyH_take (i := 31) (v := ?_) rfl (by kernel_rfl) (by kernel_rfl) (by kernel_rfl) (fun _ _ _ h => h) (Or.inl ⟨by rfl, ?_⟩) hHeld ?_; rotate_left; focus (intro w hSw; (try dsimp only at hSw); go_simp; (try with_reducible rfl)))
        try simp only [Act.put, List.getElem_toArray, List.getElem_cons_succ, List.getElem_cons_zero, List.setIfInBounds_toArray, List.set_cons_zero, List.set_cons_succ]
        first | (refine wpAnyH_take (i := 32) rfl (by kernel_rfl) (by kernel_rfl) (by kernel_rfl) (fun _ _ _ h => h) (Or.inr ⟨by rfl, rfl⟩) hHeld ?_) | (refine wpAnyH_take (i := 32) (v := ?_) rfl (by kernel_rfl) (by kernel_rfl) (by kernel_rfl) (fun _ _ _ h => h) (Or.inl ⟨by rfl, ?_⟩) hHeld ?_; rotate_left; focus (intro w hSw; (try dsimp only at hSw); go_simp; (try with_reducible rfl)))
        try simp only [Act.put, List.getElem_toArray, List.getElem_cons_succ, List.getElem_cons_zero, List.setIfInBounds_toArray, List.set_cons_zero, List.set_cons_succ]
        first | (refine wpAnyH_take (i := 33) rfl (by kernel_rfl) (by kernel_rfl) (by kernel_rfl) (fun _ _ _ h => h) (Or.inr ⟨by rfl, rfl⟩) hHeld ?_) | (refine wpAnyH_take (i := 33) (v := ?_) rfl (by kernel_rfl) (by kernel_rfl) (by kernel_rfl) (fun _ _ _ h => h) (Or.inl ⟨by rfl, ?_⟩) hHeld ?_; rotate_left; focus (intro w hSw; (try dsimp only at hSw); go_simp; (try with_reducible rfl)))
        try simp only [Act.put, List.getElem_toArray, List.getElem_cons_succ, List.getElem_cons_zero, List.setIfInBounds_toArray, List.set_cons_zero, List.set_cons_succ]
        first | (refine wpAnyH_take (i := 34) rfl (by kernel_rfl) (by kernel_rfl) (by kernel_rfl) (fun _ _ _ h => h) (Or.inr ⟨by rfl, rfl⟩) hHeld ?_) | (refine wpAnyH_take (i := 34) (v := ?_) rfl (by kernel_rfl) (by kernel_rfl) (by kernel_rfl) (fun _ _ _ h => h) (Or.inl ⟨by rfl, ?_⟩) hHeld ?_; rotate_left; focus (intro w hSw; (try dsimp only at hSw); go_simp; (try with_reducible rfl)))
        try simp only [Act.put, List.getElem_toArray, List.getElem_cons_succ, List.getElem_cons_zero, List.setIfInBounds_toArray, List.set_cons_zero, List.set_cons_succ]
        first | (refine wpAnyH_take (i := 35) rfl (by kernel_rfl) (by kernel_rfl) (by kernel_rfl) (fun _ _ _ h => h) (Or.inr ⟨by rfl, rfl⟩) hHeld ?_) | (refine wpAnyH_take (i := 35) (v := ?_) rfl (by kernel_rfl) (by kernel_rfl) (by kernel_rfl) (fun _ _ _ h => h) (Or.inl ⟨by rfl, ?_⟩) hHeld ?_; rotate_left; focus (intro w hSw; (try dsimp only at hSw); go_simp; (try with_reducible rfl)))
        try simp only [Act.put, List.getElem_toArray, List.getElem_cons_succ, List.getElem_cons_zero, List.setIfInBounds_toArray, List.set_cons_zero, List.set_cons_succ]
        first | (refine wpAnyH_take (i := 36) rfl (by kernel_rfl) (by kernel_rfl) (by kernel_rfl) (fun _ _ _ h => h) (Or.inr ⟨by rfl, rfl⟩) hHeld ?_) | (refine wpAnyH_take (i := 36) (v := ?_) rfl (by kernel_rfl) (by kernel_rfl) (by kernel_rfl) (fun _ _ _ h => h) (Or.inl ⟨by rfl, ?_⟩) hHeld ?_; rotate_left; focus (intro w hSw; (try dsimp only at hSw); go_simp; (try with_reducible rfl)))
        try simp only [Act.put, List.getElem_toArray, List.getElem_cons_succ, List.getElem_cons_zero, List.setIfInBounds_toArray, List.set_cons_zero, List.set_cons_succ]
        first | (refine wpAnyH_take (i := 37) rfl (by kernel_rfl) (by kernel_rfl) (by kernel_rfl) (fun _ _ _ h => h) (Or.inr ⟨by rfl, rfl⟩) hHeld ?_) | (refine wpAnyH_take (i := 37) (v := ?_) rfl (by kernel_rfl) (by kernel_rfl) (by kernel_rfl) (fun _ _ _ h => h) (Or.inl ⟨by rfl, ?_⟩) hHeld ?_; rotate_left; focus (intro w hSw; (try dsimp only at hSw); go_simp; (try with_reducible rfl)))
        try simp only [Act.put, List.getElem_toArray, List.getElem_cons_succ, List.getElem_cons_zero, List.setIfInBounds_toArray, List.set_cons_zero, List.set_cons_succ]
        first | (refine wpAnyH_take (i := 38) rfl (by kernel_rfl) (by kernel_rfl) (by kernel_rfl) (fun _ _ _ h => h) (Or.inr ⟨by rfl, rfl⟩) hHeld ?_) | (refine wpAnyH_take (i := 38) (v := ?_) rfl (by kernel_rfl) (by kernel_rfl) (by kernel_rfl) (fun _ _ _ h => h) (Or.inl ⟨by rfl, ?_⟩) hHeld ?_; rotate_left; focus (intro w hSw; (try dsimp only at hSw); go_simp; (try with_reducible rfl)))
        try simp only [Act.put, List.getElem_toArray, List.getElem_cons_succ, List.getElem_cons_zero, List.setIfInBounds_toArray, List.set_cons_zero, List.set_cons_succ]
        first | (refine wpAnyH_take (i := 39) rfl (by kernel_rfl) (by kernel_rfl) (by kernel_rfl) (fun _ _ _ h => h) (Or.inr ⟨by rfl, rfl⟩) hHeld ?_) | (refine wpAnyH_take (i := 39) (v := ?_) rfl (by kernel_rfl) (by kernel_rfl) (by kernel_rfl) (fun _ _ _ h => h) (Or.inl ⟨by rfl, ?_⟩) hHeld ?_; rotate_left; focus (intro w hSw; (try dsimp only at hSw); go_simp; (try with_reducible rfl)))
        try simp only [Act.put, List.getElem_toArray, List.getElem_cons_succ, List.getElem_cons_zero, List.setIfInBounds_toArray, List.set_cons_zero, List.set_cons_succ]
        first | (refine wpAnyH_take (i := 40) rfl (by kernel_rfl) (by kernel_rfl) (by kernel_rfl) (fun _ _ _ h => h) (Or.inr ⟨by rfl, rfl⟩) hHeld ?_) | (refine wpAnyH_take (i := 40) (v := ?_) rfl (by kernel_rfl) (by kernel_rfl) (by kernel_rfl) (fun _ _ _ h => h) (Or.inl ⟨by rfl, ?_⟩) hHeld ?_; rotate_left; focus (intro w hSw; (try dsimp only at hSw); go_simp; (try with_reducible rfl)))
        try simp only [Act.put, List.getElem_toArray, List.getElem_cons_succ, List.getElem_cons_zero, List.setIfInBounds_toArray, List.set_cons_zero, List.set_cons_succ]
        first | (refine wpAnyH_take (i := 41) rfl (by kernel_rfl) (by kernel_rfl) (by kernel_rfl) (fun _ _ _ h => h) (Or.inr ⟨by rfl, rfl⟩) hHeld ?_) | (refine wpAnyH_take (i := 41) (v := ?_) rfl (by kernel_rfl) (by kernel_rfl) (by kernel_rfl) (fun _ _ _ h => h) (Or.inl ⟨by rfl, ?_⟩) hHeld ?_; rotate_left; focus (intro w hSw; (try dsimp only at hSw); go_simp; (try with_reducible rfl)))
        try simp only [Act.put, List.getElem_toArray, List.getElem_cons_succ, List.getElem_cons_zero, List.setIfInBounds_toArray, List.set_cons_zero, List.set_cons_succ]
        first | (refine wpAnyH_take (i := 42) rfl (by kernel_rfl) (by kernel_rfl) (by kernel_rfl) (fun _ _ _ h => h) (Or.inr ⟨by rfl, rfl⟩) hHeld ?_) | (refine wpAnyH_take (i := 42) (v := ?_) rfl (by kernel_rfl) (by kernel_rfl) (by kernel_rfl) (fun _ _ _ h => h) (Or.inl ⟨by rfl, ?_⟩) hHeld ?_; rotate_left; focus (intro w hSw; (try dsimp only at hSw); go_simp; (try with_reducible rfl)))
        try simp only [Act.put, List.getElem_toArray, List.getElem_cons_succ, List.getElem_cons_zero, List.setIfInBounds_toArray, List.set_cons_zero, List.set_cons_succ]
        first | (refine wpAnyH_take (i := 43) rfl (by kernel_rfl) (by kernel_rfl) (by kernel_rfl) (fun _ _ _ h => h) (Or.inr ⟨by rfl, rfl⟩) hHeld ?_) | (refine wpAnyH_ready (rs := [43]) (by kernel_rfl) (by simp) ?_; refine AllReadyH.cons rfl (fun K hK => ?_) AllReadyH.nil; go_simp; (first | (go_at_call 10; with_reducible refine (CX.out _ hHeld.1).mono ?_; rintro e w' ⟨rfl, hb⟩) | (go_at_call 11; with_reducible refine (CLh.out _ hHeld.1).mono ?_; rintro e w' ⟨rfl, hb⟩) | (go_at_call 10; with_reducible refine (CV.out _ hHeld.1).mono ?_; rintro e w' ⟨rfl, hb⟩)); (try go_wp2_with fail); refine hK.out _ _ ?_ (fun hHeld' => ?_); (focus (first | exact hkeep _ _ hb hHeld | exact hHeld)); clear hK K; replace hHeld := hHeld'; clear hHeld')
        try simp only [Act.put, List.getElem_toArray, List.getElem_cons_succ, List.getElem_cons_zero, List.setIfInBounds_toArray, List.set_cons_zero, List.set_cons_succ]
        first | (refine wpAnyH_take (i := 44) rfl (by kernel_rfl) (by kernel_rfl) (by kernel_rfl) (fun _ _ _ h => h) (Or.inr ⟨by rfl, rfl⟩) hHeld ?_) | (refine wpAnyH_ready (rs := [44]) (by kernel_rfl) (by simp) ?_; refine AllReadyH.cons rfl (fun K hK => ?_) AllReadyH.nil; go_simp; (first | (go_at_call 10; with_reducible refine (CX.out _ hHeld.1).mono ?_; rintro e w' ⟨rfl, hb⟩) | (go_at_call 11; with_reducible refine (CLh.out _ hHeld.1).mono ?_; rintro e w' ⟨rfl, hb⟩) | (go_at_call 10; with_reducible refine (CV.out _ hHeld.1).mono ?_; rintro e w' ⟨rfl, hb⟩)); (try go_wp2_with fail); refine hK.out _ _ ?_ (fun hHeld' => ?_); (focus (first | exact hkeep _ _ hb hHeld | exact hHeld)); clear hK K; replace hHeld := hHeld'; clear hHeld')
        try simp only [Act.put, List.getElem_toArray, List.getElem_cons_succ, List.getElem_cons_zero, List.setIfInBounds_toArray, List.set_cons_zero, List.set_cons_succ]
        first | (refine wpAnyH_take (i := 45) rfl (by kernel_rfl) (by kernel_rfl) (by kernel_rfl) (fun _ _ _ h => h) (Or.inr ⟨by rfl, rfl⟩) hHeld ?_) | (refine wpAnyH_take (i := 45) (v := ?_) rfl (by kernel_rfl) (by kernel_rfl) (by kernel_rfl) (fun _ _ _ h => h) (Or.inl ⟨by rfl, ?_⟩) hHeld ?_; rotate_left; focus (intro w hSw; (try dsimp only at hSw); go_simp; (try with_reducible rfl)))
        try simp only [Act.put, List.getElem_toArray, List.getElem_cons_succ, List.getElem_cons_zero, List.setIfInBounds_toArray, List.set_cons_zero, List.set_cons_succ]
        (refine wpAnyH_take (i := 46) (v := ?_) rfl (by kernel_rfl) (by kernel_rfl) (by kernel_rfl) (fun _ _ _ h => h) (Or.inl ⟨by rfl, ?_⟩) hHeld ?_; rotate_left; focus (intro w hSw; (try dsimp only at hSw); go_simp; (try with_reducible rfl)))
        try simp only [Act.put, List.getElem_toArray, List.getElem_cons_succ, List.getElem_cons_zero, List.setIfInBounds_toArray, List.set_cons_zero, List.set_cons_succ]
        refine wpAnyH_done (by kernel_rfl) ?_ _
        refine NoPanic.normal ?_
        have R5 := And.left (by assumption : PlayR w a1 g m X b' c' Bk' Cp' s2 (k + 1) w' ∧ w'.cell? ⟨X, 0, none⟩ = some (.slice (some ⟨b', 0, none⟩) s2.levels c') ∧ w'.cell? ⟨X, 1, none⟩ = some (.int .i64 s2.slips) ∧ w'.cell? ⟨lb, off + k * 3 + 1, none⟩ = some (.int .i64 ok.l) ∧ w'.cell? ⟨lb, off + k * 3 + 2, none⟩ = some (.int .i64 ok.s))
        clear hkeep HST CX CV CLh
        go_wp2_with fail
        go_roundw
        case rel => exact ⟨k + 1, b', c', Bk', Cp', s2, by go_num, by omega, R5⟩
        case measure => simp [intOf]; omega
    · obtain rfl : k = n := by omega
      clear hrB hO hlt
      have hN1 : k < 1000000 := by omega
      have hN2 : k + 1 < 1000000 := by omega
      have i0 : inI 0 := by unfold inI; omega
      have i1 : inI 1 := by unfold inI; omega
      have CC := Lib.hid (wClone_any s k g m wr R.ward)
      have hok := R.ok
      have RH := Lib.hid R
      have D1 : ∀ (F : Nat → Prop) (g2 m2 : Nat) W, RefIs F W b Bk Cp s → WardIs W g2 m2 k s → (∀ i, F i → i < W.heap.size) → (∀ i, Two g2 m2 i → F i) → Calls Try.prog 9 #[.pointer (some ⟨g2, 0, none⟩), .agg #[.slice (some ⟨b, 0, none⟩) s.levels c, .int .i64 s.slips], .agg #[.bool true, .int .i64 0, .int .i64 1]] W (DoDone F W g2 m2 (k + 1) (doW s ⟨true, 0, 1⟩)) := fun F g2 m2 W hr hw hF hFg =>
        lDo_any F b c Bk Cp s k hok hN1 g2 m2 W hr hw hF hFg ⟨true, 0, 1⟩ ⟨i0, i1⟩
      have hs2 := okW_do hok ⟨true, 0, 1⟩
      have CS1 : ∀ W, PlayR w a1 g m X b c Bk Cp s k W → Calls Try.prog 10 #[.pointer (some ⟨g, 0, none⟩), .agg #[.slice (some ⟨b, 0, none⟩) s.levels c, .int .i64 s.slips], .int .i64 0, .int .i64 1, .int .u64 x] W fun e w' => e = .returned (.bool true) ∧ Below W.heap.size W w' := fun W hW =>
        lSame_any (PF g m X) b c Bk Cp s k hok hN1 g m W hW.ref hW.ward 0 1 i0 i1 x hx
      have CS2 : ∀ (s2 : Ward) (g2 m2 b' c' : Nat) (Bk' Cp' : Nat → Nat) W, OkW s2 (k + 1) → RefIs (Two g2 m2) W b' Bk' Cp' s2 → WardIs W g2 m2 (k + 1) s2 → Calls Try.prog 10 #[.pointer (some ⟨g2, 0, none⟩), .agg #[.slice (some ⟨b', 0, none⟩) s2.levels c', .int .i64 s2.slips], .int .i64 0, .int .i64 1, .int .u64 x] W fun e w' => e = .returned (.bool true) ∧ Below W.heap.size W w' := fun s2 g2 m2 b' c' Bk' Cp' W ho hr hw =>
        lSame_any (Two g2 m2) b' c' Bk' Cp' s2 (k + 1) ho hN2 g2 m2 W hr hw 0 1 i0 i1 x hx
      generalize doW s ⟨true, 0, 1⟩ = s2 at *
      have HD := Lib.hid D1; have S2 := Lib.hid hs2; have H1 := Lib.hid CS1; have H2 := Lib.hid CS2
      clear D1 hs2 CS1 CS2 R hok i0 i1
      go_upto_region 15 with (go_at_call 12; refine CC.out.mono ?_; rintro e wA ⟨g2, m2, rfl, hcA, hbA, hg2, hm2⟩)
      have RA := RH.out.keep hbA
      have rA : RefIs (Two g2 m2) wA b Bk Cp s := (RH.out.ref.free (G := Two g2 m2) (fun i hi e => by rcases e with e | e <;> omega)).keep hbA
      obtain ⟨u0, u1⟩ := ref_cells RA.x
      have hfar : ∀ i, Two g2 m2 i → a1 < i ∧ i ≠ g ∧ i ≠ m ∧ i ≠ X ∧ i ≠ b ∧ ∀ j, j < s.levels → i ≠ Bk j := fun i e => by
        have e0 : wr.heap.size ≤ i := by rcases e with e | e <;> omega
        have e1 := RH.out.ward.row.lt
        have e2 := RH.out.ward.set.lt
        have e3 := RH.out.x.lt
        have e4 := RH.out.ref.blk
        have e5 := RH.out.lt3
        exact ⟨by omega, by omega, by omega, by omega, by omega, fun j hj => by have := (RH.out.ref.blks j hj).1; omega⟩
      have HA := Lib.hid (And.intro RA (And.intro rA (And.intro hcA hfar)))
      clear RA rA hcA hfar hbA hg2 hm2 CC RH
      go_upto_region 16 with (go_at_call 9; refine (HD.out (Two g2 m2) g2 m2 _ HA.out.2.1 HA.out.2.2.1 (fun i e => by have := HA.out.2.2.1.row.lt; have := HA.out.2.2.1.set.lt; rcases e with e | e <;> omega) (fun i e => e)).mono ?_; rintro e wB ⟨b', c', Bk', Cp', rfl, hRB, hVB, hOB⟩)
      generalize hWC : World.alloc _ _ = WC
      have hbC : Below wB.heap.size wB WC := by rw [← hWC]; exact (Below.refl _ _).alloc (Nat.le_refl _) _
      have hYC : Row WC wB.heap.size 30 2 (refR b' c' s2) := by rw [← hWC]; exact Row.new _ _ _ _ _ rfl
      have RC := (HA.out.1.far hOB HA.out.2.2.2).keep hbC
      have rC := hRB.keep hbC
      have vC := hVB.keep hbC
      clear hWC hbC hRB hVB hOB u0 u1 HD HA
      generalize wB.heap.size = Y at *
      obtain ⟨v0, v1⟩ := ref_cells hYC
      have HC := Lib.hid (And.intro RC (And.intro rC (And.intro vC hYC)))
      clear RC rC vC hYC
      go_wp2_with (first | (go_at_call 10; with_reducible refine (H2.out s2 g2 m2 b' c' Bk' Cp' _ S2.out HC.out.2.1 HC.out.2.2.1).mono ?_; rintro e wD ⟨rfl, hbD⟩; have RD := HC.out.1.keep hbD; obtain ⟨u0, u1⟩ := ref_cells RD.x; have HDD := Lib.hid RD; clear RD) | (go_at_call 10; with_reducible refine (H1.out _ HDD.out).mono ?_; rintro e wE ⟨rfl, hbE⟩) | (go_at_call 7; refine (C8.out _).mono ?_; rintro e wF ⟨rfl, hbF⟩))
      go_ret
      exact ⟨rfl, by rw [HZ.out]; exact ((HDD.out.keep hbE).keep hbF).below⟩

theorem wardenPlays_walk (p q : Int) (B : Option Addr) (n cB : Nat) (hn : n ≤ 9223372036854775807) (O : Nat → OpW) (hO : ∀ i, i < n → OkOp (O i)) (x : Nat) (hx : x < 18446744073709551616) (w : World) (hrB : RowIs w B (n * 3) (fun i => opV (O (i / 3)) (i % 3))) :
    Calls Try.prog 3 #[.agg #[.int .i64 p, .int .i64 q], .slice B n cB, .int .u64 x] w fun e w' => e = .returned (.bool true) ∧ Below w.heap.size w w' := by
  cases h : sizeB p q
  · exact wardenPlays_none p q B n cB x w h
  · have h' := h
    unfold sizeB at h'
    simp only [Bool.and_eq_true, decide_eq_true_eq] at h'
    obtain ⟨p, rfl⟩ : ∃ a : Nat, p = a := ⟨p.toNat, by omega⟩
    obtain ⟨q, rfl⟩ : ∃ a : Nat, q = a := ⟨q.toNat, by omega⟩
    by_cases hl : 60 < n
    · exact wardenPlays_long p q h B n cB hl hn x w
    · exact wardenPlays_main p q h B n cB (by omega) O hO x hx w hrB
end Go.Proofs.Ytlldhkcimlmaoaa
