/- The law ShareAll. -/
import Derived.Test.YtodomchanaaonaaShareLives
import Derived.Deep.RegionHeld3
import Derived.BigQuiet
namespace Go.Proofs.Ytodomchanaaonaa
open Go.ChangeShapes Go.WideShapes Go.ChangeAt Go.RowKit

theorem shareAll_long (A : Option Addr) (c : Nat) (L : List Opr) (h : 100 < L.length) (hL : L.length ≤ 9223372036854775807) (w : World) :
    Calls Try.prog 5 #[.slice A L.length c] w fun e w' => e = .returned (.bool true) ∧ Below w.heap.size w w' := by
  have C9 := Lib.hid fun W => lives15_any W
  generalize L.length = n at *
  go_enter Try.func5, Try.ntmps5
  go_wp2_with (go_at_call 6; refine (C9.out _).mono ?_; rintro e w' ⟨rfl, hb⟩)
  go_ret
  exact ⟨rfl, hb⟩
/-- How far each share has come, behind the first i opers. -/
structure NextR (W : World) (g : Nat) (L : List Opr) (i : Nat) (wr : World) : Prop where
  bel : Below W.heap.size W wr
  own : Own wr g 16 (fun j => .int .i64 ((shareUp L j i).length : Nat))
theorem NextR.keep {W wr w1 : World} {g i : Nat} {L : List Opr} (h : NextR W g L i wr) (hb : Below wr.heap.size wr w1) : NextR W g L i w1 :=
  ⟨h.bel.trans (hb.mono h.bel.size), h.own.below hb h.own.lt⟩
theorem NextR.skip {W wr : World} {g i : Nat} {L : List Opr} (h : NextR W g L i wr) (hb : whichB (oprN L i) = false) : NextR W g L (i + 1) wr :=
  ⟨h.bel, h.own.congr fun j _ => by rw [shareUp_skip hb]⟩
theorem NextR.next {W wr : World} {g i n : Nat} {L : List Opr} (h : NextR W g L i wr) (hg : W.heap.size ≤ g) {k : Nat} (hk : (shareUp L n i).length = k) (hn : ∀ j, (shareUp L j (i + 1)).length = if j = n then (shareUp L j i).length + 1 else (shareUp L j i).length) :
    NextR W g L (i + 1) (wr.setCell ⟨g, n, none⟩ (.int .i64 ((k : Int) + 1))) := by
  refine ⟨h.bel.setCell hg _, (h.own.set_ n _).congr fun j _ => ?_⟩
  rw [hn j]
  by_cases e : j = n
  · subst e; rw [if_pos rfl, if_pos rfl, hk]; rfl
  · rw [if_neg e, if_neg e]
set_option maxRecDepth 100000 in
set_option maxHeartbeats 8000000 in
theorem shareAll_short (A : Option Addr) (c : Nat) (L : List Opr) (hL : L.length ≤ 100) (hk : OkL L) (w : World) (ha : LiesC w A (flatF opF L)) :
    Calls Try.prog 5 #[.slice A L.length c] w fun e w' => e = .returned (.bool true) ∧ Below w.heap.size w w' := by
  have C9 := Lib.hid fun W => lives15_any W
  have C1 := Lib.hid (sAll_any A c L (by omega) hk w ha)
  have C2 := Lib.hid (fun lv pt W h => sOf_any A c L (by omega) hk lv pt W h)
  have hml := manyTo_le L L.length
  have hin := many_in L L.length
  have hsl := shareUp_len L
  have HNX := Lib.hid (fun i x h hb hx => shareUp_next (L := L) (i := i) (m := L.length) (n := x) h hb hx)
  have HA := Lib.hid ha
  have HK := Lib.hid hk
  clear ha hk
  generalize hn : L.length = n at *
  go_enter Try.func5, Try.ntmps5
  go_upto_region 4 with (first
    | (go_at_call 14; refine C1.out.mono ?_; rintro e w1 ⟨B, C, rfl, hl, hb⟩; have HB := Lib.hid hb; have HL := Lib.hid hl; clear hb hl)
    | (refine wpList_store_row rfl 44 _ _ rfl w1.heap.size (rowOf 16 fun i => .slice (B i) (shareUp L i n).length (C i)) rfl rfl 44 (rowOf 16 fun _ => .slice none 0 0) (heap_alloc_new w1 _) (by kernel_rfl) rfl (rowOf_one fun _ => rfl) ?_; rw [World.setRow_alloc_new]))
  have hr := Row.new w1 _ 44 (fun i => .slice (B i) (shareUp L i n).length (C i)) 16 rfl
  obtain ⟨W, hW⟩ : ∃ W, w1.alloc (.cells (rowOf 16 fun i => .slice (B i) (shareUp L i n).length (C i)) 44) = W := ⟨_, rfl⟩
  have hbW : Below w1.heap.size w1 W := by rw [← hW]; exact (Below.refl _ _).alloc (Nat.le_refl _) _
  rw [hW] at hr ⊢
  clear hW
  have HRW := Lib.hid hr
  have HLW : Hid (∀ i, i < 16 → LiesC W (B i) (flatF opF (shareUp L i n))) := Lib.hid (fun i hi => (HL.out i hi).keep hbW)
  have HBW : Hid (Below w.heap.size w W) := Lib.hid (HB.out.trans (hbW.mono HB.out.size))
  clear hr hbW HL HB
  generalize w1.heap.size = g at *
  go_wp2_with fail
  go_loopw [4, 5] (fun m s wr => ∃ i : Nat, s = .int .i64 i ∧ i ≤ 16 ∧ m = .int .i64 (manyTo L n i : Nat) ∧ Below W.heap.size W wr) (fun _ s _ => 16 - (intOf s).toNat)
  case atStart => exact ⟨0, rfl, Nat.zero_le _, rfl, Below.refl _ _⟩
  case round =>
    obtain ⟨i, rfl, hi, rfl, R⟩ := hrel
    by_cases hlt : i < 16
    · have h0 : (0 : Int) ≤ (i : Int) := by omega
      have h16 : (i : Int) < 16 := by omega
      have hmi : manyTo L n i ≤ 1600 := Nat.le_trans (hml i) (Nat.le_trans (Nat.mul_le_mul (show i ≤ 16 by omega) hL) (by decide))
      have hci := hsl i n
      have q0 : wr.cell? ⟨g, i, none⟩ = some (.slice (B i) (shareUp L i n).length (C i)) := (HRW.out.keep R).cell hlt
      have HM : Hid (manyTo L n (i + 1) = manyTo L n i + (shareUp L i n).length) := Lib.hid rfl
      have CI : Hid (∀ W, LiesC W A (flatF opF L) → Calls Try.prog 10 #[.slice A n c, .int .i64 ((i / 4 : Nat) : Int), .int .i64 ((i % 4 : Nat) : Int)] W fun e w' => ∃ v, e = .returned v ∧ LnIs w' v (shareUp L i n).length (flatF opF (shareUp L i n)) ∧ Far W.heap.size v ∧ Below W.heap.size W w') := Lib.hid (fun W h => C2.out _ _ W h)
      have t1 : IntKind.i64.wrap ((i / 4 : Nat) : Int) = ((i / 4 : Nat) : Int) := by rw [IntKind.wrap_i64]; omega
      have t3 : Int.tdiv (i : Int) 4 = ((i / 4 : Nat) : Int) := by rw [Int.tdiv_eq_ediv_of_nonneg h0]; omega
      have t4 : Int.tmod (i : Int) 4 = ((i % 4 : Nat) : Int) := by rw [Int.tmod_eq_emod_of_nonneg h0]; omega
      have HLI := Lib.hid (HLW.out i hlt)
      have C5 := Lib.hid (fun A B c d W h1 h2 => (r14Opersame_any A B c d (shareUp L i n) (shareUp L i n) (by omega) (by omega) W h1 h2).mono fun _ _ ⟨h, k⟩ => (⟨h, k.below W.heap.size⟩ : _ ∧ Below W.heap.size W _))
      simp only [decide_true] at C5
      have HQ : Hid (∀ w', Below W.heap.size W w' → w'.cell? ⟨g, i, none⟩ = some (.slice (B i) (shareUp L i n).length (C i))) := Lib.hid (fun w' hb => (HRW.out.keep hb).cell hlt)
      have HR := Lib.hid R; clear R
      generalize shareUp L i n = X at *
      generalize X.length = ci at *
      generalize manyTo L n i = mi at *
      generalize ((i / 4 : Nat) : Int) = q at *
      generalize ((i % 4 : Nat) : Int) = r at *
      have hkeep : ∀ w1 w2 : World, Below w1.heap.size w1 w2 → (fun w' : World => (Below W.heap.size W w' ∧ w'.cell? ⟨g, i, none⟩ = some (.slice (B i) ci (C i)))) w1 → (fun w' : World => (Below W.heap.size W w' ∧ w'.cell? ⟨g, i, none⟩ = some (.slice (B i) ci (C i)))) w2 := fun w1 w2 hb h => ⟨below_on h.1 (Nat.le_refl _) hb, HQ.out _ (below_on h.1 (Nat.le_refl _) hb)⟩
      have HST : Hid ((fun w' : World => (Below W.heap.size W w' ∧ w'.cell? ⟨g, i, none⟩ = some (.slice (B i) ci (C i)))) wr.drew) := Lib.hid ⟨HR.out.drew, HQ.out _ HR.out.drew⟩
      have HBB : Hid (∀ w', (fun w' : World => (Below W.heap.size W w' ∧ w'.cell? ⟨g, i, none⟩ = some (.slice (B i) ci (C i)))) w' → Below W.heap.size W w') := Lib.hid (fun w' h => h.1)
      go_upto_region 9 with fail
      refine wp_region_noPanic ?_
      refine wp_region_held_drew (S := fun w' => (Below W.heap.size W w' ∧ w'.cell? ⟨g, i, none⟩ = some (.slice (B i) ci (C i)))) (by kernel_rfl) (HST.out) (fun hHeld => ?_)
      (refine wpAnyH_take (i := 0) (v := ?_) rfl (by kernel_rfl) (by kernel_rfl) (by kernel_rfl) (fun _ _ _ h => h) (Or.inl ⟨by rfl, ?_⟩) hHeld ?_; rotate_left; focus (intro w hSw; (try dsimp only at hSw); go_simp; (try with_reducible rfl)))
      try simp only [Act.put, List.getElem_toArray, List.getElem_cons_succ, List.getElem_cons_zero, List.setIfInBounds_toArray, List.set_cons_zero, List.set_cons_succ]
      (refine wpAnyH_take (i := 1) (v := ?_) rfl (by kernel_rfl) (by kernel_rfl) (by kernel_rfl) (fun _ _ _ h => h) (Or.inl ⟨by rfl, ?_⟩) hHeld ?_; rotate_left; focus (intro w hSw; (try dsimp only at hSw); go_simp; (try with_reducible rfl)))
      try simp only [Act.put, List.getElem_toArray, List.getElem_cons_succ, List.getElem_cons_zero, List.setIfInBounds_toArray, List.set_cons_zero, List.set_cons_succ]
      (refine wpAnyH_take (i := 2) (v := ?_) rfl (by kernel_rfl) (by kernel_rfl) (by kernel_rfl) (fun _ _ _ h => h) (Or.inl ⟨by rfl, ?_⟩) hHeld ?_; rotate_left; focus (intro w hSw; (try dsimp only at hSw); go_simp; (try with_reducible rfl)))
      try simp only [Act.put, List.getElem_toArray, List.getElem_cons_succ, List.getElem_cons_zero, List.setIfInBounds_toArray, List.set_cons_zero, List.set_cons_succ]
      (refine wpAnyH_take (i := 3) (v := ?_) rfl (by kernel_rfl) (by kernel_rfl) (by kernel_rfl) (fun _ _ _ h => h) (Or.inl ⟨by rfl, ?_⟩) hHeld ?_; rotate_left; focus (intro w hSw; (try dsimp only at hSw); go_simp; (try with_reducible rfl)))
      try simp only [Act.put, List.getElem_toArray, List.getElem_cons_succ, List.getElem_cons_zero, List.setIfInBounds_toArray, List.set_cons_zero, List.set_cons_succ]
      (refine wpAnyH_take (i := 4) (v := ?_) rfl (by kernel_rfl) (by kernel_rfl) (by kernel_rfl) (fun _ _ _ h => h) (Or.inl ⟨by rfl, ?_⟩) hHeld ?_; rotate_left; focus (intro w hSw; (try dsimp only at hSw); go_simp; (try with_reducible rfl)))
      try simp only [Act.put, List.getElem_toArray, List.getElem_cons_succ, List.getElem_cons_zero, List.setIfInBounds_toArray, List.set_cons_zero, List.set_cons_succ]
      (refine wpAnyH_take (i := 5) (v := ?_) rfl (by kernel_rfl) (by kernel_rfl) (by kernel_rfl) (fun _ _ _ h => h) (Or.inl ⟨by rfl, ?_⟩) hHeld ?_; rotate_left; focus (intro w hSw; (try dsimp only at hSw); go_simp; (try with_reducible rfl)))
      try simp only [Act.put, List.getElem_toArray, List.getElem_cons_succ, List.getElem_cons_zero, List.setIfInBounds_toArray, List.set_cons_zero, List.set_cons_succ]
      (refine wpAnyH_take (i := 6) (v := ?_) rfl (by kernel_rfl) (by kernel_rfl) (by kernel_rfl) (fun _ _ _ h => h) (Or.inl ⟨by rfl, ?_⟩) hHeld ?_; rotate_left; focus (intro w hSw; (try dsimp only at hSw); go_simp; (try with_reducible rfl)))
      try simp only [Act.put, List.getElem_toArray, List.getElem_cons_succ, List.getElem_cons_zero, List.setIfInBounds_toArray, List.set_cons_zero, List.set_cons_succ]
      (refine wpAnyH_take (i := 7) (v := ?_) rfl (by kernel_rfl) (by kernel_rfl) (by kernel_rfl) (fun _ _ _ h => h) (Or.inl ⟨by rfl, ?_⟩) hHeld ?_; rotate_left; focus (intro w hSw; (try dsimp only at hSw); go_simp; (try with_reducible rfl)))
      try simp only [Act.put, List.getElem_toArray, List.getElem_cons_succ, List.getElem_cons_zero, List.setIfInBounds_toArray, List.set_cons_zero, List.set_cons_succ]
      (refine wpAnyH_ready (rs := [8]) (by kernel_rfl) (by simp) ?_; refine AllReadyH.cons rfl (fun K hK => ?_) AllReadyH.nil; go_simp; (first | (go_at_call 10; refine (CI.out _ (HA.out.keep (HBW.out.trans ((And.left hHeld).mono HBW.out.size)))).mono ?_; rintro t w' ⟨v1, rfl, ⟨A1, c1, rfl, -, -, -, d1, -⟩, -, hb⟩; have HD1 := Lib.hid d1; clear d1) | (go_at_call 9; refine (C5.out _ _ _ _ _ (HLI.out.keep (And.left hHeld)) HD1.out).mono ?_; rintro t w' ⟨rfl, hb⟩; clear HD1)); (try go_wp2_with fail); refine hK.out _ _ ?_ (fun hHeld' => ?_); (focus (exact hkeep _ _ hb hHeld)); clear hK K; replace hHeld := hHeld'; clear hHeld')
      try simp only [Act.put, List.getElem_toArray, List.getElem_cons_succ, List.getElem_cons_zero, List.setIfInBounds_toArray, List.set_cons_zero, List.set_cons_succ]
      (refine wpAnyH_ready (rs := [9]) (by kernel_rfl) (by simp) ?_; refine AllReadyH.cons rfl (fun K hK => ?_) AllReadyH.nil; go_simp; (first | (go_at_call 10; refine (CI.out _ (HA.out.keep (HBW.out.trans ((And.left hHeld).mono HBW.out.size)))).mono ?_; rintro t w' ⟨v1, rfl, ⟨A1, c1, rfl, -, -, -, d1, -⟩, -, hb⟩; have HD1 := Lib.hid d1; clear d1) | (go_at_call 9; refine (C5.out _ _ _ _ _ (HLI.out.keep (And.left hHeld)) HD1.out).mono ?_; rintro t w' ⟨rfl, hb⟩; clear HD1)); (try go_wp2_with fail); refine hK.out _ _ ?_ (fun hHeld' => ?_); (focus (exact hkeep _ _ hb hHeld)); clear hK K; replace hHeld := hHeld'; clear hHeld')
      try simp only [Act.put, List.getElem_toArray, List.getElem_cons_succ, List.getElem_cons_zero, List.setIfInBounds_toArray, List.set_cons_zero, List.set_cons_succ]
      (refine wpAnyH_take (i := 10) (v := ?_) rfl (by kernel_rfl) (by kernel_rfl) (by kernel_rfl) (fun _ _ _ h => h) (Or.inl ⟨by rfl, ?_⟩) hHeld ?_; rotate_left; focus (intro w hSw; (try dsimp only at hSw); go_simp; (try with_reducible rfl)))
      try simp only [Act.put, List.getElem_toArray, List.getElem_cons_succ, List.getElem_cons_zero, List.setIfInBounds_toArray, List.set_cons_zero, List.set_cons_succ]
      refine wpAnyH_done (by kernel_rfl) ?_ _
      refine NoPanic.normal ?_
      have hbf := HBB.out _ hHeld
      have HRF := Lib.hid hbf
      clear hHeld hbf hkeep
      go_wp2_with fail
      go_roundw
      case rel => exact ⟨i + 1, by go_num, by omega, by rw [HM.out]; go_num, HRF.out⟩
      case measure => simp [intOf]; omega
    · obtain rfl : i = 16 := by omega
      rw [show ((16 : Nat) : Int) = 16 from rfl, hin]
      have HR := Lib.hid R; clear R C2
      go_upto_region 12 with fail
      generalize hW2 : World.alloc _ _ = W2
      have hN : NextR W wr.heap.size L 0 W2 := by
        rw [← hW2]
        exact ⟨HR.out.alloc HR.out.size _, Own.new wr _ _ _ 16 rfl (fun i hi => rowOf_get (fun _ => .int .i64 0) hi)⟩
      have HN0 := Lib.hid hN
      have hg2 : W.heap.size ≤ wr.heap.size := HR.out.size
      clear hW2 hN HR
      generalize wr.heap.size = g2 at *
      have hmb : inUp L n ≤ n := inUp_le L n
      go_wp2_with fail
      go_loopw [7, 8] (fun m s wr => ∃ i : Nat, s = .int .i64 i ∧ i ≤ n ∧ m = .int .i64 (inUp L i : Nat) ∧ NextR W g2 L i wr) (fun _ s _ => n - (intOf s).toNat)
      case atStart => exact ⟨0, rfl, Nat.zero_le _, rfl, HN0.out⟩
      case round =>
        clear HN0
        obtain ⟨i, rfl, hi, rfl, R⟩ := hrel
        by_cases hlt : i < n
        · obtain ⟨b1, off1, rfl, hb1, x1⟩ := (HA.out.keep (HBW.out.trans (R.bel.mono HBW.out.size))).atO (by omega)
          obtain ⟨p0, p1, p2, p3, p4, p5, p6, p7, p8, p9, p10, p11, p12, p13, p14, p15⟩ := opr_cells (x1 i (by omega))
          have D1 := Lib.hid (fun W => sWhich_any (oprN L i) W)
          have HI : Hid (inUp L (i + 1) = bif whichB (oprN L i) then inUp L i + 1 else inUp L i) := Lib.hid rfl
          have hib := inUp_le L i
          have hwb := which_bounds (oprN L i)
          have HR := Lib.hid R
          have HX := Lib.hid x1
          clear x1 R
          cases hb : whichB (oprN L i)
          · have HS := Lib.hid (fun w h => NextR.skip (W := W) (wr := w) (g := g2) h hb)
            rw [hb] at D1 HI
            clear hb
            generalize inUp L i = ni at *
            go_wp2_with (go_at_call 7; refine (D1.out _).mono ?_; rintro e w2 ⟨rfl, hb⟩; have HR2 := Lib.hid (HS.out _ (HR.out.keep hb)); clear hb)
            go_roundw
            case rel => exact ⟨i + 1, by go_num, by omega, by rw [HI.out]; rfl, HR2.out⟩
            case measure => simp [intOf]; omega
          · obtain ⟨x, hx⟩ : ∃ x : Nat, whichN (oprN L i) = x := ⟨(whichN (oprN L i)).toNat, by omega⟩
            obtain ⟨hlt2, hoe, hnx⟩ := HNX.out i x (by omega) hb hx
            rw [hb, hx] at D1
            rw [hb] at HI
            have hx16 : x < 16 := by omega
            clear hb
            have hkx := hsl x n
            have HNN := Lib.hid hnx
            have HOE := Lib.hid hoe
            clear hnx hoe
            generalize ho : oprN L i = o at *
            have HO := Lib.hid ho; clear ho
            have HXX := Lib.hid hx; clear hx
            generalize inUp L i = ni at *
            go_upto_region 17 with (go_at_call 7; refine (D1.out _).mono ?_; rintro e w2 ⟨rfl, hb⟩)
            have HR2 := Lib.hid (HR.out.keep hb)
            obtain ⟨q0, q1, q2, q3, q4, q5, q6, q7, q8, q9, q10, q11, q12, q13, q14, q15⟩ := opr_cells (w := w2) (b := b1) (o := off1 + i * 16) (x := o) (fun j hj => (hb.cell (p := ⟨b1, off1 + i * 16 + j, none⟩) hb1).trans (by rw [← HO.out]; exact HX.out i (by omega) j hj))
            clear p0 p1 p2 p3 p4 p5 p6 p7 p8 p9 p10 p11 p12 p13 p14 p15 hb HR HX D1 hb1
            obtain ⟨bx, offx, hBx, hbx, y2⟩ := ((HLW.out x hx16).keep HR2.out.bel).atO (by omega)
            obtain ⟨r0, r1, r2, r3, r4, r5, r6, r7, r8, r9, r10, r11, r12, r13, r14, r15⟩ := opr_cells (y2 (shareUp L x i).length hlt2)
            have s0 : w2.cell? ⟨g, x, none⟩ = some (.slice (B x) (shareUp L x n).length (C x)) := (HRW.out.keep HR2.out.bel).cell hx16
            have s1 : w2.cell? ⟨g2, x, none⟩ = some (.int .i64 ((shareUp L x i).length : Nat)) := HR2.out.own.cell hx16
            have s2 := HR2.out.own.frozen x
            rw [hBx] at s0
            rw [HOE.out] at r0 r1 r2 r3 r4 r5 r6 r7 r8 r9 r10 r11 r12 r13 r14 r15
            have HQ : ∀ W, (binOp .neq 35 (.agg #[.int .i64 o.th, .int .i64 o.c.op, .int .i64 o.c.l, .int .i64 o.c.key, .int .u64 o.c.pa, .int .u64 o.c.pb, .int .u64 o.c.hd, .int .i64 o.c.r, .int .i64 o.a.e, .int .u64 o.a.a, .int .u64 o.a.b, .int .u64 o.a.h, .int .i64 o.a.n, .int .i64 o.a.k, .int .i64 o.fr, .int .i64 o.to]) (.agg #[.int .i64 o.th, .int .i64 o.c.op, .int .i64 o.c.l, .int .i64 o.c.key, .int .u64 o.c.pa, .int .u64 o.c.pb, .int .u64 o.c.hd, .int .i64 o.c.r, .int .i64 o.a.e, .int .u64 o.a.a, .int .u64 o.a.b, .int .u64 o.a.h, .int .i64 o.a.n, .int .i64 o.a.k, .int .i64 o.fr, .int .i64 o.to])).run Try.prog W = .ok (.bool false) W := fun W => by
              have := neq_opr W o o
              simp only [decide_true, Bool.not_true] at this
              exact this
            have HNR := Lib.hid (fun nq => (HR2.out.keep (below_drewN (Below.refl _ _) nq)).next hg2 rfl HNN.out)
            clear y2 HNN HOE hbx
            generalize (shareUp L x i).length = k0 at *
            generalize (shareUp L x n).length = cx at *
            have d1 : decide ((x : Int) < 0) = false := decide_eq_false (by omega)
            have d2 : decide ((x : Int) > 15) = false := decide_eq_false (by omega)
            have d3 : decide ((k0 : Int) ≥ (cx : Int)) = false := decide_eq_false (by omega)
            have d4 : decide (cx ≤ k0) = false := decide_eq_false (by omega)
            have h0 : (0 : Int) ≤ (x : Int) := by omega
            have h16 : (x : Int) < 16 := by omega
            go_upto_region 19 with fail
            go_quiet (fail)
            go_wp2_with fail
            go_roundw
            case rel => exact ⟨i + 1, by go_num, by omega, by rw [HI.out]; go_num, HNR.out _⟩
            case measure => simp [intOf]; omega
        · obtain rfl : i = n := by omega
          have HR := Lib.hid R; clear R
          generalize inUp L i = ni at *
          go_wp2_with (go_at_call 6; refine (C9.out _).mono ?_; rintro e w3 ⟨rfl, hb⟩; have HB3 := Lib.hid (HR.out.bel.trans (hb.mono HR.out.bel.size)); clear hb)
          go_ret
          exact ⟨rfl, HBW.out.trans (HB3.out.mono HBW.out.size)⟩
theorem shareAll_walk (A : Option Addr) (c : Nat) (L : List Opr) (hL : L.length ≤ 9223372036854775807) (hk : OkL L) (w : World) (ha : LiesC w A (flatF opF L)) :
    Calls Try.prog 5 #[.slice A L.length c] w fun e w' => e = .returned (.bool true) ∧ Below w.heap.size w w' := by
  by_cases h : 100 < L.length
  · exact shareAll_long A c L h hL w
  · exact shareAll_short A c L (by omega) hk w ha
end Go.Proofs.Ytodomchanaaonaa
