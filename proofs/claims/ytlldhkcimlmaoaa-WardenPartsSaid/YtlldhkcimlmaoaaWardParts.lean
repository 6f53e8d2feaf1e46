/- The theorem of stage 7: what the law does, walked. -/
import Derived.Test.YtlldhkcimlmaoaaWardFacts
import Derived.Test.YtlldhkcimlmaoaaOpenOps7
import Derived.IntWalk
namespace Go.Proofs.Ytlldhkcimlmaoaa
set_option linter.unusedSimpArgs false
open Go.ChangeShapes Go.WideShapes Go.ChangeAt Go.RowKit Go.Maps

def atI (x y : Int) : Nat → Int
  | 0 => x
  | _ => y
/-- What holds all through the law: what is done besides and where it is looked lie at a1 and behind it, the warden at g and m. -/
structure PartsR (w : World) (a1 g m : Nat) (o : OpW) (x y : Int) (s : Ward) (N : Nat) (w' : World) : Prop where
  below : Below a1 w w'
  op : Row w' a1 35 3 (opV o)
  at_ : Row w' (a1 + 1) 22 2 (ints (atI x y))
  ward : WardIs w' g m N s
  lt1 : a1 + 1 < g
  lt2 : a1 + 1 < m
section
variable {w w1 w2 : World} {a1 g m N N' : Nat} {o : OpW} {x y : Int} {s s' : Ward}
theorem PartsR.keep (h : PartsR w a1 g m o x y s N w1) (hb : Below w1.heap.size w1 w2) : PartsR w a1 g m o x y s N w2 :=
  ⟨h.below.trans (hb.mono (Nat.le_of_lt h.op.lt)), h.op.keep hb, h.at_.keep hb, h.ward.keep hb, h.lt1, h.lt2⟩
theorem PartsR.turn (h : PartsR w a1 g m o x y s N w1) (ho : Only (Two g m) w1 w2) (hw : WardIs w2 g m N' s') : PartsR w a1 g m o x y s' N' w2 := by
  have l1 := h.lt1
  have l2 := h.lt2
  refine ⟨Below.only h.below ho (Nat.le_of_lt h.op.lt) (fun i hi => by rcases hi with rfl | rfl <;> omega), h.op.only ho ?_, h.at_.only ho ?_, hw, l1, l2⟩
  · rintro (e | e) <;> omega
  · rintro (e | e) <;> omega
theorem PartsR.cells (h : PartsR w a1 g m o x y s N w1) : w1.cell? ⟨a1 + 1, 0, none⟩ = some (.int .i64 x) ∧ w1.cell? ⟨a1 + 1, 1, none⟩ = some (.int .i64 y) := ⟨h.at_.cell (i := 0) (by omega), h.at_.cell (i := 1) (by omega)⟩
theorem PartsR.drew (h : PartsR w a1 g m o x y s N w1) : PartsR w a1 g m o x y s N w1.drew := h.keep (Below.refl _ _).drew
end

theorem wardenParts_long (B : Option Addr) (n cB : Nat) (o : OpW) (x y : Int) (w : World) (hl : 60 < n) (hn : n ≤ 9223372036854775807) :
    Calls Try.prog 5 #[.slice B n cB, .agg (rowOf 3 (opV o)), .agg #[.int .i64 x, .int .i64 y]] w fun e w' => e = .returned (.bool true) ∧ Below w.heap.size w w' := by
  have C8 := Lib.hid fun W => wLives W
  have hl' : ((n : Nat) : Int) > 60 := by omega
  set_option maxRecDepth 100000 in
  go_enter Try.func5, Try.ntmps5
  set_option maxRecDepth 100000 in
  go_wp2_with (go_at_call 7; refine (C8.out _).mono ?_; rintro e w2 ⟨rfl, hb2⟩)
  go_ret
  exact ⟨rfl, below_on (((Below.refl _ _).alloc (Nat.le_refl _) _).alloc (by simp) _) (Nat.le_refl _) hb2⟩

set_option maxRecDepth 100000 in
set_option maxHeartbeats 40000000 in
theorem wardenParts_main (B : Option Addr) (n cB : Nat) (O : Nat → OpW) (o : OpW) (x y : Int) (w : World) (hl : n ≤ 60) (hO : ∀ i, i < n → OkOp (O i)) (ho : OkOp o) (hx : inI x) (hy : inI y) (hrB : RowIs w B (n * 3) (fun i => opV (O (i / 3)) (i % 3))) :
    Calls Try.prog 5 #[.slice B n cB, .agg (rowOf 3 (opV o)), .agg #[.int .i64 x, .int .i64 y]] w fun e w' => e = .returned (.bool true) ∧ Below w.heap.size w w' := by
  have hl' : ¬ ((n : Nat) : Int) > 60 := by omega
  have C1 : Hid (∀ W, Calls Try.prog 6 #[.int .i64 3, .int .i64 20] W fun e w' => NewWard W w' e 0 (ward0 3 20)) := Lib.hid fun W => wNew_yes 3 20 rfl W
  have C8 := Lib.hid fun W => wLives W
  have hok0 : OkW (ward0 3 20) 0 := ward0_ok rfl
  have OK0 := Lib.hid hok0
  clear hok0
  go_enter Try.func5, Try.ntmps5
  go_upto_region 3 with fail
  generalize hW : World.alloc (World.alloc _ _) _ = W
  obtain ⟨hB, hop, hat⟩ := two_blocks w 35 22 3 2 (opV o) (ints (atI x y)) W hW
  clear hW
  generalize hz : w.heap.size = a1 at *
  have HZ := Lib.hid hz; clear hz
  have H0 := Lib.hid (And.intro hB (And.intro hop hat))
  clear hB hop hat
  go_upto_region 4 with (go_at_call 6; refine (C1.out _).mono ?_; rintro e w1 ⟨g, m, rfl, hm1, hb1, hg, hh⟩)
  have R0 : PartsR w a1 g m o x y (ward0 3 20) 0 w1 := ⟨H0.out.1.trans (hb1.mono (Nat.le_of_lt H0.out.2.1.lt)), H0.out.2.1.keep hb1, H0.out.2.2.keep hb1, hm1, Nat.lt_of_lt_of_le H0.out.2.2.lt hg, Nat.lt_of_lt_of_le H0.out.2.2.lt hh⟩
  have RH := Lib.hid R0
  clear R0 hm1 hb1 hg hh H0 C1
  go_wp2_with fail
  go_loopw [8] (fun i wr => ∃ (k : Nat) (s : Ward), i = .int .i64 k ∧ k ≤ n ∧ OkW s k ∧ PartsR w a1 g m o x y s k wr) (fun i _ => n - (intOf i).toNat)
  case atStart => exact ⟨0, _, rfl, Nat.zero_le _, OK0.out, RH.out⟩
  case round =>
    clear RH OK0
    obtain ⟨k, s, rfl, hk, hs, R⟩ := hrel
    by_cases hlt : k < n
    · -- DEV
      obtain ⟨b, off, rfl, hbb, hcell⟩ := hrB (by omega)
      have e0 : (k * 3 + 0) / 3 = k ∧ (k * 3 + 0) % 3 = 0 := by omega
      have e1 : (k * 3 + 1) / 3 = k ∧ (k * 3 + 1) % 3 = 1 := by omega
      have e2 : (k * 3 + 2) / 3 = k ∧ (k * 3 + 2) % 3 = 2 := by omega
      have z0 := hcell (k * 3 + 0) (by omega)
      have z1 := hcell (k * 3 + 1) (by omega)
      have z2 := hcell (k * 3 + 2) (by omega)
      simp only [e0.1, e0.2, e1.1, e1.2, e2.1, e2.2] at z0 z1 z2
      have hba : b < a1 := by rw [← HZ.out]; exact hbb
      have y0 : wr.cell? ⟨b, off + k * 3, none⟩ = some (.bool (O k).t) := by rw [R.below.cell (p := ⟨b, off + k * 3, none⟩) hba]; exact z0
      have y1 : wr.cell? ⟨b, off + k * 3 + 1, none⟩ = some (.int .i64 (O k).l) := by rw [R.below.cell (p := ⟨b, off + k * 3 + 1, none⟩) hba]; exact z1
      have y2 : wr.cell? ⟨b, off + k * 3 + 2, none⟩ = some (.int .i64 (O k).s) := by rw [R.below.cell (p := ⟨b, off + k * 3 + 2, none⟩) hba]; exact z2
      have hoK := hO k hlt
      have hT := wTake_any s k hs (by omega) g m wr.drew (R.drew).ward (O k).l (O k).s hoK.1 hoK.2
      have hD := wDrop_any s k hs (by omega) g m wr.drew (R.drew).ward (O k).l (O k).s hoK.1 hoK.2
      have hs2 := okW_do hs (O k)
      have hW2 : (O k).t = true → doW s (O k) = takeW s (O k).l (O k).s := fun e => by unfold doW; rw [e]; rfl
      have hW3 : (O k).t = false → doW s (O k) = dropW s (O k).l (O k).s := fun e => by unfold doW; rw [e]; rfl
      generalize doW s (O k) = s2 at *
      generalize O k = ok at *
      have HT := Lib.hid hT; have HD := Lib.hid hD; have HR := Lib.hid R; have HS2 := Lib.hid hs2
      clear hT hD R hs hs2 hoK z0 z1 z2 e0 e1 e2 hcell hbb hba
      cases hb : ok.t
      · rw [← hW3 hb] at HD
        rw [hb] at y0
        clear hW2 hW3 hb HT
        go_upto_region 9 with fail
        go_region_with (go_at_call 14; refine HD.out.mono ?_; rintro e w2 ⟨rfl, hm2, ho2⟩)
        all_goals
          go_wp2_with fail
          go_roundw
          case rel => exact ⟨k + 1, s2, by go_num, by omega, HS2.out, HR.out.drew.turn ho2 hm2⟩
          case measure => simp [intOf]; omega
      · rw [← hW2 hb] at HT
        rw [hb] at y0
        clear hW2 hW3 hb HD
        go_upto_region 8 with fail
        go_region_with (go_at_call 13; refine HT.out.mono ?_; rintro e w2 ⟨rfl, hm2, ho2⟩)
        all_goals
          go_wp2_with fail
          go_roundw
          case rel => exact ⟨k + 1, s2, by go_num, by omega, HS2.out, HR.out.drew.turn ho2 hm2⟩
          case measure => simp [intOf]; omega
    · obtain rfl : k = n := by omega
      have hvlt : linkV s x y < 18446744073709551616 := by
        unfold linkV
        cases hasB s x y
        · show (0 : Nat) < _; omega
        · have := mkL_lt y (s.gen x.toNat y.toNat)
          show mkL _ _ < _
          omega
      have hN : k < 1000000 := by omega
      have CL : ∀ W, PartsR w a1 g m o x y s k W → Calls Try.prog 16 #[.pointer (some ⟨g, 0, none⟩), .int .i64 x, .int .i64 y] W fun e w' => e = .returned (.int .u64 (linkV s x y : Nat)) ∧ W = w' := fun W hW => wLink_any s k hs g m W hW.ward hN x y hx hy
      have CH : ∀ W, PartsR w a1 g m o x y s k W → Calls Try.prog 17 #[.pointer (some ⟨g, 0, none⟩), .int .i64 x] W fun e w' => e = .returned (.int .i64 (heldN s x : Nat)) ∧ Below W.heap.size W w' := fun W hW => wHeld_any s k hs g m W hW.ward x hx
      have CE : ∀ W, PartsR w a1 g m o x y s k W → Calls Try.prog 15 #[.pointer (some ⟨g, 0, none⟩), .int .i64 x, .int .u64 (linkV s x y : Nat)] W fun e w' => e = .returned (.bool (s.held x y)) ∧ Below W.heap.size W w' := fun W hW => by
        have h := wLeads_any s k hs g m W hW.ward hN x hx (linkV s x y) hvlt
        rw [leads_link hs hN x y] at h
        exact h
      have CT : o.t = true → ∀ W, PartsR w a1 g m o x y s k W → Calls Try.prog 13 #[.pointer (some ⟨g, 0, none⟩), .int .i64 o.l, .int .i64 o.s] W (DoneW W g m (k + 1) (doW s o) (takeB s o.l o.s)) := fun e W hW => by
        have h := wTake_any s k hs hN g m W hW.ward o.l o.s ho.1 ho.2
        rw [show doW s o = takeW s o.l o.s by unfold doW; rw [e]; rfl]
        exact h
      have CD : o.t = false → ∀ W, PartsR w a1 g m o x y s k W → Calls Try.prog 14 #[.pointer (some ⟨g, 0, none⟩), .int .i64 o.l, .int .i64 o.s] W (DoneW W g m (k + 1) (doW s o) (s.held o.l o.s)) := fun e W hW => by
        have h := wDrop_any s k hs hN g m W hW.ward o.l o.s ho.1 ho.2
        rw [show doW s o = dropW s o.l o.s by unfold doW; rw [e]; rfl]
        exact h
      have HR := Lib.hid R; have HL := Lib.hid CL; have HH := Lib.hid CH; have HE := Lib.hid CE; have HT := Lib.hid CT; have HD := Lib.hid CD; have HS := Lib.hid hs
      have HV := Lib.hid hvlt
      clear R CL CH CE CT CD hs hvlt hrB hO
      generalize hv : linkV s x y = v at *
      have Hv := Lib.hid hv; clear hv
      generalize hh : heldN s x = hn at *
      have Hh := Lib.hid hh; clear hh
      generalize hd : s.held x y = q at *
      have Hd := Lib.hid hd; clear hd
      have hst : (fun w' : World => PartsR w a1 g m o x y s k w' ∧ w'.cell? ⟨a1 + 1, 0, none⟩ = some (.int .i64 x) ∧ w'.cell? ⟨a1 + 1, 1, none⟩ = some (.int .i64 y)) wr.drew := ⟨HR.out.drew, HR.out.drew.cells.1, HR.out.drew.cells.2⟩
      have hkeep : ∀ w1 w2 : World, Below w1.heap.size w1 w2 → (fun w' : World => PartsR w a1 g m o x y s k w' ∧ w'.cell? ⟨a1 + 1, 0, none⟩ = some (.int .i64 x) ∧ w'.cell? ⟨a1 + 1, 1, none⟩ = some (.int .i64 y)) w1 → (fun w' : World => PartsR w a1 g m o x y s k w' ∧ w'.cell? ⟨a1 + 1, 0, none⟩ = some (.int .i64 x) ∧ w'.cell? ⟨a1 + 1, 1, none⟩ = some (.int .i64 y)) w2 := fun w1 w2 hb h => ⟨h.1.keep hb, (h.1.keep hb).cells.1, (h.1.keep hb).cells.2⟩
      have HST := Lib.hid hst
      clear hst
      go_upto_region 10 with fail
      refine wp_region_noPanic ?_
      refine wp_region_held_drew (S := fun w' => PartsR w a1 g m o x y s k w' ∧ w'.cell? ⟨a1 + 1, 0, none⟩ = some (.int .i64 x) ∧ w'.cell? ⟨a1 + 1, 1, none⟩ = some (.int .i64 y)) (by kernel_rfl) (HST.out) (fun hHeld => ?_)
      (refine wpAnyH_take (i := 0) (v := ?_) rfl (by kernel_rfl) (by kernel_rfl) (by kernel_rfl) (fun _ _ _ h => h) (Or.inl ⟨by rfl, ?_⟩) hHeld ?_; rotate_left; focus (intro w hSw; (try dsimp only at hSw); go_simp; (try with_reducible rfl)))
      try simp only [Act.put, List.getElem_toArray, List.getElem_cons_succ, List.getElem_cons_zero, List.setIfInBounds_toArray, List.set_cons_zero, List.set_cons_succ]
      (refine wpAnyH_take (i := 1) (v := ?_) rfl (by kernel_rfl) (by kernel_rfl) (by kernel_rfl) (fun _ _ _ h => h) (Or.inl ⟨by rfl, ?_⟩) hHeld ?_; rotate_left; focus (intro w hSw; (try dsimp only at hSw); go_simp; (try with_reducible rfl)))
      try simp only [Act.put, List.getElem_toArray, List.getElem_cons_succ, List.getElem_cons_zero, List.setIfInBounds_toArray, List.set_cons_zero, List.set_cons_succ]
      (refine wpAnyH_take (i := 2) (v := ?_) rfl (by kernel_rfl) (by kernel_rfl) (by kernel_rfl) (fun _ _ _ h => h) (Or.inl ⟨by rfl, ?_⟩) hHeld ?_; rotate_left; focus (intro w hSw; (try dsimp only at hSw); go_simp; (try with_reducible rfl)))
      try simp only [Act.put, List.getElem_toArray, List.getElem_cons_succ, List.getElem_cons_zero, List.setIfInBounds_toArray, List.set_cons_zero, List.set_cons_succ]
      (refine wpAnyH_take (i := 3) (v := ?_) rfl (by kernel_rfl) (by kernel_rfl) (by kernel_rfl) (fun _ _ _ h => h) (Or.inl ⟨by rfl, ?_⟩) hHeld ?_; rotate_left; focus (intro w hSw; (try dsimp only at hSw); go_simp; (try with_reducible rfl)))
      try simp only [Act.put, List.getElem_toArray, List.getElem_cons_succ, List.getElem_cons_zero, List.setIfInBounds_toArray, List.set_cons_zero, List.set_cons_succ]
      (refine wpAnyH_take (i := 4) (v := ?_) rfl (by kernel_rfl) (by kernel_rfl) (by kernel_rfl) (fun _ _ _ h => h) (Or.inl ⟨by rfl, ?_⟩) hHeld ?_; rotate_left; focus (intro w hSw; (try dsimp only at hSw); go_simp; (try with_reducible rfl)))
      try simp only [Act.put, List.getElem_toArray, List.getElem_cons_succ, List.getElem_cons_zero, List.setIfInBounds_toArray, List.set_cons_zero, List.set_cons_succ]
      (refine wpAnyH_take (i := 6) (v := ?_) rfl (by kernel_rfl) (by kernel_rfl) (by kernel_rfl) (fun _ _ _ h => h) (Or.inl ⟨by rfl, ?_⟩) hHeld ?_; rotate_left; focus (intro w hSw; (try dsimp only at hSw); go_simp; (try with_reducible rfl)))
      try simp only [Act.put, List.getElem_toArray, List.getElem_cons_succ, List.getElem_cons_zero, List.setIfInBounds_toArray, List.set_cons_zero, List.set_cons_succ]
      (refine wpAnyH_take (i := 7) (v := ?_) rfl (by kernel_rfl) (by kernel_rfl) (by kernel_rfl) (fun _ _ _ h => h) (Or.inl ⟨by rfl, ?_⟩) hHeld ?_; rotate_left; focus (intro w hSw; (try dsimp only at hSw); go_simp; (try with_reducible rfl)))
      try simp only [Act.put, List.getElem_toArray, List.getElem_cons_succ, List.getElem_cons_zero, List.setIfInBounds_toArray, List.set_cons_zero, List.set_cons_succ]
      (refine wpAnyH_take (i := 8) (v := ?_) rfl (by kernel_rfl) (by kernel_rfl) (by kernel_rfl) (fun _ _ _ h => h) (Or.inl ⟨by rfl, ?_⟩) hHeld ?_; rotate_left; focus (intro w hSw; (try dsimp only at hSw); go_simp; (try with_reducible rfl)))
      try simp only [Act.put, List.getElem_toArray, List.getElem_cons_succ, List.getElem_cons_zero, List.setIfInBounds_toArray, List.set_cons_zero, List.set_cons_succ]
      (refine wpAnyH_ready (rs := [5]) (by kernel_rfl) (by simp) ?_; refine AllReadyH.cons rfl (fun K hK => ?_) AllReadyH.nil; go_simp; (first | (go_at_call 16; refine (HL.out _ hHeld.1).mono ?_; rintro e w' ⟨rfl, rfl⟩) | (go_at_call 17; refine (HH.out _ hHeld.1).mono ?_; rintro e w' ⟨rfl, hb⟩)); (try go_wp2_with fail); refine hK.out _ _ ?_ (fun hHeld' => ?_); (focus (first | exact hkeep _ _ hb hHeld | exact hHeld)); clear hK K; replace hHeld := hHeld'; clear hHeld')
      try simp only [Act.put, List.getElem_toArray, List.getElem_cons_succ, List.getElem_cons_zero, List.setIfInBounds_toArray, List.set_cons_zero, List.set_cons_succ]
      (refine wpAnyH_ready (rs := [9]) (by kernel_rfl) (by simp) ?_; refine AllReadyH.cons rfl (fun K hK => ?_) AllReadyH.nil; go_simp; (first | (go_at_call 16; refine (HL.out _ hHeld.1).mono ?_; rintro e w' ⟨rfl, rfl⟩) | (go_at_call 17; refine (HH.out _ hHeld.1).mono ?_; rintro e w' ⟨rfl, hb⟩)); (try go_wp2_with fail); refine hK.out _ _ ?_ (fun hHeld' => ?_); (focus (first | exact hkeep _ _ hb hHeld | exact hHeld)); clear hK K; replace hHeld := hHeld'; clear hHeld')
      try simp only [Act.put, List.getElem_toArray, List.getElem_cons_succ, List.getElem_cons_zero, List.setIfInBounds_toArray, List.set_cons_zero, List.set_cons_succ]
      (refine wpAnyH_take (i := 10) (v := ?_) rfl (by kernel_rfl) (by kernel_rfl) (by kernel_rfl) (fun _ _ _ h => h) (Or.inl ⟨by rfl, ?_⟩) hHeld ?_; rotate_left; focus (intro w hSw; (try dsimp only at hSw); go_simp; (try with_reducible rfl)))
      try simp only [Act.put, List.getElem_toArray, List.getElem_cons_succ, List.getElem_cons_zero, List.setIfInBounds_toArray, List.set_cons_zero, List.set_cons_succ]
      (refine wpAnyH_take (i := 11) (v := ?_) rfl (by kernel_rfl) (by kernel_rfl) (by kernel_rfl) (fun _ _ _ h => h) (Or.inl ⟨by rfl, ?_⟩) hHeld ?_; rotate_left; focus (intro w hSw; (try dsimp only at hSw); go_simp; (try with_reducible rfl)))
      try simp only [Act.put, List.getElem_toArray, List.getElem_cons_succ, List.getElem_cons_zero, List.setIfInBounds_toArray, List.set_cons_zero, List.set_cons_succ]
      refine wpAnyH_done (by kernel_rfl) ?_ _
      refine NoPanic.normal ?_
      have R2 := Lib.hid (And.left (by assumption : PartsR w a1 g m o x y s k w' ∧ w'.cell? ⟨a1 + 1, 0, none⟩ = some (.int .i64 x) ∧ w'.cell? ⟨a1 + 1, 1, none⟩ = some (.int .i64 y)))
      clear hHeld hkeep HST HL HH
      have hK := And.intro (okW_do HS.out o) (And.intro (do_link s o x y) (And.intro (do_heldN s o x) (And.intro (fun v => do_leads HS.out o x v) (do_kept s o x y))))
      have hK2 : o.l = x ∧ o.s = y ∧ o.t = false → s.held x y = true → doW s o = delW s x y := by
        rintro ⟨e1, e2, e3⟩ e4
        unfold doW dropW
        rw [e3, e1, e2, e4]
        rfl
      generalize doW s o = s2 at *
      have HK := Lib.hid (And.intro hK hK2)
      clear hK hK2 hb
      obtain ⟨x0, x1⟩ := R2.out.cells
      obtain ⟨o0, o1, o2⟩ := opV_cells R2.out.op
      go_upto_if 69 with (go_at_call 15; refine (HE.out _ R2.out).mono ?_; rintro e w3 ⟨rfl, hb3⟩; obtain ⟨p0, p1, p2⟩ := opV_cells (R2.out.keep hb3).op)
      have R3 := Lib.hid (R2.out.keep hb3)
      clear hb3 R2 HE x0 x1 o0 o1 o2
      go_cut [] (fun wx => PartsR w a1 g m o x y s2 (k + 1) wx)
      case first =>
        cases ht : o.t
        · rw [ht] at p0
          have HB := Lib.hid ht
          clear ht HT
          go_wp2_with (go_at_call 14; refine (HD.out HB.out _ R3.out).mono ?_; rintro e w4 ⟨rfl, hm4, ho4⟩)
          go_meet
          exact R3.out.turn ho4 hm4
        · rw [ht] at p0
          have HB := Lib.hid ht
          clear ht HD
          go_wp2_with (go_at_call 13; refine (HT.out HB.out _ R3.out).mono ?_; rintro e w4 ⟨rfl, hm4, ho4⟩)
          go_meet
          exact R3.out.turn ho4 hm4
      case rest =>
        clear p0 p1 p2 R3 HT HD
        have hs2 := HK.out.1.1
        have hN2 : k + 1 < 1000000 := by omega
        have CL : ∀ W, PartsR w a1 g m o x y s2 (k + 1) W → Calls Try.prog 16 #[.pointer (some ⟨g, 0, none⟩), .int .i64 x, .int .i64 y] W fun e w' => e = .returned (.int .u64 (linkV s2 x y : Nat)) ∧ W = w' := fun W hW => wLink_any s2 (k + 1) hs2 g m W hW.ward hN2 x y hx hy
        have CH : ∀ W, PartsR w a1 g m o x y s2 (k + 1) W → Calls Try.prog 17 #[.pointer (some ⟨g, 0, none⟩), .int .i64 x] W fun e w' => e = .returned (.int .i64 (heldN s2 x : Nat)) ∧ Below W.heap.size W w' := fun W hW => wHeld_any s2 (k + 1) hs2 g m W hW.ward x hx
        have CE : ∀ W, PartsR w a1 g m o x y s2 (k + 1) W → Calls Try.prog 15 #[.pointer (some ⟨g, 0, none⟩), .int .i64 x, .int .u64 (v : Nat)] W fun e w' => e = .returned (.bool (leadsB s2 x v)) ∧ Below W.heap.size W w' := fun W hW => wLeads_any s2 (k + 1) hs2 g m W hW.ward hN2 x hx v HV.out
        have HL := Lib.hid CL; have HH := Lib.hid CH; have HE := Lib.hid CE; have HC := Lib.hid hcut
        clear CL CH CE hs2 hcut
        obtain ⟨x0, x1⟩ := HC.out.cells
        obtain ⟨o0, o1, o2⟩ := opV_cells HC.out.op
        go_upto_region 15 with fail
        go_cut [113] (fun t wx => t = .bool false ∧ PartsR w a1 g m o x y s2 (k + 1) wx)
        case first =>
          by_cases hlx : o.l = x
          · have d1 : (o.l != x) = false := by simp [hlx]
            clear hlx
            go_wp2_with fail
            go_meet
            exact ⟨rfl, HC.out⟩
          · have d1 : (o.l != x) = true := by simp [hlx]
            have e1 : linkV s2 x y = v := (HK.out.1.2.1 hlx).trans Hv.out
            have e2 : heldN s2 x = hn := (HK.out.1.2.2.1 hlx).trans Hh.out
            have e3 : leadsB s2 x v = q := by rw [HK.out.1.2.2.2.1 v hlx, ← Hv.out, leads_link HS.out hN x y]; exact Hd.out
            rw [e1] at HL
            rw [e2] at HH
            rw [e3] at HE
            clear e1 e2 e3 hlx
            go_wp2_with (first | (go_at_call 16; refine (HL.out _ HC.out).mono ?_; rintro e w' ⟨rfl, rfl⟩) | (go_at_call 17; refine (HH.out _ HC.out).mono ?_; rintro e w4 ⟨rfl, hb4⟩; have R4 := HC.out.keep hb4; obtain ⟨z0, z1⟩ := R4.cells) | (go_at_call 15; refine (HE.out _ R4).mono ?_; rintro e w5 ⟨rfl, hb5⟩))
            go_meet
            exact ⟨rfl, R4.keep hb5⟩
        case rest =>
          obtain ⟨rfl, hR⟩ := hcut
          clear x0 x1 o0 o1 o2 HC
          have RB := Lib.hid hR
          clear hR
          cases hq : q
          · clear hq
            go_wp2_with (go_at_call 7; refine (C8.out _).mono ?_; rintro e w6 ⟨rfl, hb6⟩)
            go_ret
            exact ⟨rfl, by rw [HZ.out]; exact (RB.out.keep hb6).below⟩
          · rw [hq] at Hd
            clear hq
            have hin := hasB_iff.1 (HS.out.in_ x y Hd.out)
            have hlk := link_slot HS.out hN Hd.out
            rw [Hv.out] at hlk
            obtain ⟨k1, k2, k3, k4, k5⟩ := hlk
            obtain ⟨x0, x1⟩ := RB.out.cells
            go_upto_region 20 with (go_at_call 17; refine (HH.out _ RB.out).mono ?_; rintro e w4 ⟨rfl, hb4⟩)
            have hR4 := RB.out.keep hb4
            clear x0 x1
            obtain ⟨x0, x1⟩ := hR4.cells
            obtain ⟨o0, o1, o2⟩ := opV_cells hR4.op
            have R4 := Lib.hid hR4
            clear hR4 hb4 RB HH
            have KF := Lib.hid (And.intro hin (And.intro k1 (And.intro k2 (And.intro k3 (And.intro k4 k5)))))
            clear hin k1 k2 k3 k4 k5
            go_cut [137] (fun t wx => t = .bool (decide (o.l = x ∧ o.s = y ∧ o.t = false)) ∧ PartsR w a1 g m o x y s2 (k + 1) wx)
            case first =>
              by_cases h1 : o.l = x
              · have d1 : (o.l == x) = true := by simp [h1]
                by_cases h2 : o.s = y
                · have d2 : (o.s == y) = true := by simp [h2]
                  have d3 : decide (o.l = x ∧ o.s = y ∧ o.t = false) = !o.t := by rw [h1, h2]; cases o.t <;> simp
                  have D3 := Lib.hid d3
                  clear h1 h2 d3
                  go_wp2_with fail
                  go_meet
                  exact ⟨by rw [D3.out], R4.out⟩
                · have d2 : (o.s == y) = false := by simp [h2]
                  have d3 : decide (o.l = x ∧ o.s = y ∧ o.t = false) = false := decide_eq_false fun e => h2 e.2.1
                  have D3 := Lib.hid d3
                  clear h1 h2 d3
                  go_wp2_with fail
                  go_meet
                  exact ⟨by rw [D3.out], R4.out⟩
              · have d1 : (o.l == x) = false := by simp [h1]
                have d3 : decide (o.l = x ∧ o.s = y ∧ o.t = false) = false := decide_eq_false fun e => h1 e.1
                have D3 := Lib.hid d3
                clear h1 d3
                go_wp2_with fail
                go_meet
                exact ⟨by rw [D3.out], R4.out⟩
            case rest =>
              obtain ⟨rfl, hR⟩ := hcut
              clear x0 x1 o0 o1 o2 R4
              have RC := Lib.hid hR
              clear hR
              by_cases hthis : o.l = x ∧ o.s = y ∧ o.t = false
              · -- DEV
                as_aux_lemma =>
                  have es2 := HK.out.2 hthis Hd.out
                  rw [decide_eq_true hthis]
                  have F := del_facts s HS.out x y Hd.out
                  rw [← es2, Hh.out] at F
                  have e1 : leadsB s2 x v = false := by
                    unfold leadsB
                    rw [KF.out.2.1, KF.out.2.2.2.1, F.1, Bool.false_and]
                  rw [e1] at HE
                  have hv2 : linkV s2 x y < 18446744073709551616 := by
                    unfold linkV
                    cases hasB s2 x y
                    · show (0 : Nat) < _; omega
                    · have := mkL_lt y (s2.gen x.toNat y.toNat)
                      show mkL _ _ < _
                      omega
                  have CE2 : ∀ W, PartsR w a1 g m o x y s2 (k + 1) W → Calls Try.prog 15 #[.pointer (some ⟨g, 0, none⟩), .int .i64 x, .int .u64 (linkV s2 x y : Nat)] W fun e w' => e = .returned (.bool false) ∧ Below W.heap.size W w' := fun W hW => by
                    have h := wLeads_any s2 (k + 1) HK.out.1.1 g m W hW.ward hN2 x hx (linkV s2 x y) hv2
                    rw [leads_link HK.out.1.1 hN2 x y, F.1] at h
                    exact h
                  have HE2 := Lib.hid CE2
                  have hb0 : hn ≤ 61 := by rw [← Hh.out]; exact cnt_le 61 _
                  have d5 : IntKind.i64.wrap ((hn : Int) - 1) = ((heldN s2 x : Nat) : Int) := by
                    have := F.2.1
                    rw [IntWalk.i64_in _ (by omega)]
                    omega
                  clear CE2 es2 F e1 hthis hv2 hb0
                  generalize linkV s2 x y = v2 at *
                  generalize heldN s2 x = n2 at *
                  have D5 := Lib.hid d5
                  clear d5 HK
                  have hst : (fun w' : World => PartsR w a1 g m o x y s2 (k + 1) w' ∧ w'.cell? ⟨a1 + 1, 0, none⟩ = some (.int .i64 x) ∧ w'.cell? ⟨a1 + 1, 1, none⟩ = some (.int .i64 y)) wc.drew := ⟨RC.out.drew, RC.out.drew.cells.1, RC.out.drew.cells.2⟩
                  have hkeep : ∀ w1 w2 : World, Below w1.heap.size w1 w2 → (fun w' : World => PartsR w a1 g m o x y s2 (k + 1) w' ∧ w'.cell? ⟨a1 + 1, 0, none⟩ = some (.int .i64 x) ∧ w'.cell? ⟨a1 + 1, 1, none⟩ = some (.int .i64 y)) w1 → (fun w' : World => PartsR w a1 g m o x y s2 (k + 1) w' ∧ w'.cell? ⟨a1 + 1, 0, none⟩ = some (.int .i64 x) ∧ w'.cell? ⟨a1 + 1, 1, none⟩ = some (.int .i64 y)) w2 := fun w1 w2 hb h => ⟨h.1.keep hb, (h.1.keep hb).cells.1, (h.1.keep hb).cells.2⟩
                  have HST := Lib.hid hst
                  clear hst
                  have d5 := D5.out
                  go_upto_region 21 with fail
                  refine wp_region_noPanic ?_
                  refine wp_region_held_drew (S := fun w' => PartsR w a1 g m o x y s2 (k + 1) w' ∧ w'.cell? ⟨a1 + 1, 0, none⟩ = some (.int .i64 x) ∧ w'.cell? ⟨a1 + 1, 1, none⟩ = some (.int .i64 y)) (by kernel_rfl) (HST.out) (fun hHeld => ?_)
                  (refine wpAnyH_take (i := 0) (v := ?_) rfl (by kernel_rfl) (by kernel_rfl) (by kernel_rfl) (fun _ _ _ h => h) (Or.inl ⟨by rfl, ?_⟩) hHeld ?_; rotate_left; focus (intro w hSw; (try dsimp only at hSw); go_simp; (try with_reducible rfl)))
                  try simp only [Act.put, List.getElem_toArray, List.getElem_cons_succ, List.getElem_cons_zero, List.setIfInBounds_toArray, List.set_cons_zero, List.set_cons_succ]
                  (refine wpAnyH_take (i := 1) (v := ?_) rfl (by kernel_rfl) (by kernel_rfl) (by kernel_rfl) (fun _ _ _ h => h) (Or.inl ⟨by rfl, ?_⟩) hHeld ?_; rotate_left; focus (intro w hSw; (try dsimp only at hSw); go_simp; (try with_reducible rfl)))
                  try simp only [Act.put, List.getElem_toArray, List.getElem_cons_succ, List.getElem_cons_zero, List.setIfInBounds_toArray, List.set_cons_zero, List.set_cons_succ]
                  (refine wpAnyH_take (i := 2) (v := ?_) rfl (by kernel_rfl) (by kernel_rfl) (by kernel_rfl) (fun _ _ _ h => h) (Or.inl ⟨by rfl, ?_⟩) hHeld ?_; rotate_left; focus (intro w hSw; (try dsimp only at hSw); go_simp; (try with_reducible rfl)))
                  try simp only [Act.put, List.getElem_toArray, List.getElem_cons_succ, List.getElem_cons_zero, List.setIfInBounds_toArray, List.set_cons_zero, List.set_cons_succ]
                  (refine wpAnyH_take (i := 3) (v := ?_) rfl (by kernel_rfl) (by kernel_rfl) (by kernel_rfl) (fun _ _ _ h => h) (Or.inl ⟨by rfl, ?_⟩) hHeld ?_; rotate_left; focus (intro w hSw; (try dsimp only at hSw); go_simp; (try with_reducible rfl)))
                  try simp only [Act.put, List.getElem_toArray, List.getElem_cons_succ, List.getElem_cons_zero, List.setIfInBounds_toArray, List.set_cons_zero, List.set_cons_succ]
                  (refine wpAnyH_ready (rs := [4]) (by kernel_rfl) (by simp) ?_; refine AllReadyH.cons rfl (fun K hK => ?_) AllReadyH.nil; go_simp; (first | (go_at_call 16; refine (HL.out _ hHeld.1).mono ?_; rintro e w' ⟨rfl, rfl⟩) | (go_at_call 15; with_reducible refine (HE.out _ hHeld.1).mono ?_; rintro e w' ⟨rfl, hb⟩) | (go_at_call 15; with_reducible refine (HE2.out _ hHeld.1).mono ?_; rintro e w' ⟨rfl, hb⟩) | (go_at_call 7; refine (C8.out _).mono ?_; rintro e w' ⟨rfl, hb⟩)); (try go_wp2_with fail); refine hK.out _ _ ?_ (fun hHeld' => ?_); (focus (first | exact hkeep _ _ hb hHeld | exact hHeld)); clear hK K; replace hHeld := hHeld'; clear hHeld')
                  try simp only [Act.put, List.getElem_toArray, List.getElem_cons_succ, List.getElem_cons_zero, List.setIfInBounds_toArray, List.set_cons_zero, List.set_cons_succ]
                  (refine wpAnyH_take (i := 5) (v := ?_) rfl (by kernel_rfl) (by kernel_rfl) (by kernel_rfl) (fun _ _ _ h => h) (Or.inl ⟨by rfl, ?_⟩) hHeld ?_; rotate_left; focus (intro w hSw; (try dsimp only at hSw); go_simp; (try with_reducible rfl)))
                  try simp only [Act.put, List.getElem_toArray, List.getElem_cons_succ, List.getElem_cons_zero, List.setIfInBounds_toArray, List.set_cons_zero, List.set_cons_succ]
                  (refine wpAnyH_take (i := 6) (v := ?_) rfl (by kernel_rfl) (by kernel_rfl) (by kernel_rfl) (fun _ _ _ h => h) (Or.inl ⟨by rfl, ?_⟩) hHeld ?_; rotate_left; focus (intro w hSw; (try dsimp only at hSw); go_simp; (try with_reducible rfl)))
                  try simp only [Act.put, List.getElem_toArray, List.getElem_cons_succ, List.getElem_cons_zero, List.setIfInBounds_toArray, List.set_cons_zero, List.set_cons_succ]
                  first | (refine wpAnyH_take (i := 7) rfl (by kernel_rfl) (by kernel_rfl) (by kernel_rfl) (fun _ _ _ h => h) (Or.inr ⟨by rfl, rfl⟩) hHeld ?_) | (refine wpAnyH_take (i := 7) (v := ?_) rfl (by kernel_rfl) (by kernel_rfl) (by kernel_rfl) (fun _ _ _ h => h) (Or.inl ⟨by rfl, ?_⟩) hHeld ?_; rotate_left; focus (intro w hSw; (try dsimp only at hSw); go_simp; (try with_reducible rfl)))
                  try simp only [Act.put, List.getElem_toArray, List.getElem_cons_succ, List.getElem_cons_zero, List.setIfInBounds_toArray, List.set_cons_zero, List.set_cons_succ]
                  first | (refine wpAnyH_take (i := 8) rfl (by kernel_rfl) (by kernel_rfl) (by kernel_rfl) (fun _ _ _ h => h) (Or.inr ⟨by rfl, rfl⟩) hHeld ?_) | (refine wpAnyH_take (i := 8) (v := ?_) rfl (by kernel_rfl) (by kernel_rfl) (by kernel_rfl) (fun _ _ _ h => h) (Or.inl ⟨by rfl, ?_⟩) hHeld ?_; rotate_left; focus (intro w hSw; (try dsimp only at hSw); go_simp; (try with_reducible rfl)))
                  try simp only [Act.put, List.getElem_toArray, List.getElem_cons_succ, List.getElem_cons_zero, List.setIfInBounds_toArray, List.set_cons_zero, List.set_cons_succ]
                  first | (refine wpAnyH_take (i := 9) rfl (by kernel_rfl) (by kernel_rfl) (by kernel_rfl) (fun _ _ _ h => h) (Or.inr ⟨by rfl, rfl⟩) hHeld ?_) | (refine wpAnyH_take (i := 9) (v := ?_) rfl (by kernel_rfl) (by kernel_rfl) (by kernel_rfl) (fun _ _ _ h => h) (Or.inl ⟨by rfl, ?_⟩) hHeld ?_; rotate_left; focus (intro w hSw; (try dsimp only at hSw); go_simp; (try with_reducible rfl)))
                  try simp only [Act.put, List.getElem_toArray, List.getElem_cons_succ, List.getElem_cons_zero, List.setIfInBounds_toArray, List.set_cons_zero, List.set_cons_succ]
                  first | (refine wpAnyH_take (i := 10) rfl (by kernel_rfl) (by kernel_rfl) (by kernel_rfl) (fun _ _ _ h => h) (Or.inr ⟨by rfl, rfl⟩) hHeld ?_) | (refine wpAnyH_take (i := 10) (v := ?_) rfl (by kernel_rfl) (by kernel_rfl) (by kernel_rfl) (fun _ _ _ h => h) (Or.inl ⟨by rfl, ?_⟩) hHeld ?_; rotate_left; focus (intro w hSw; (try dsimp only at hSw); go_simp; (try with_reducible rfl)))
                  try simp only [Act.put, List.getElem_toArray, List.getElem_cons_succ, List.getElem_cons_zero, List.setIfInBounds_toArray, List.set_cons_zero, List.set_cons_succ]
                  first | (refine wpAnyH_take (i := 11) rfl (by kernel_rfl) (by kernel_rfl) (by kernel_rfl) (fun _ _ _ h => h) (Or.inr ⟨by rfl, rfl⟩) hHeld ?_) | (refine wpAnyH_take (i := 11) (v := ?_) rfl (by kernel_rfl) (by kernel_rfl) (by kernel_rfl) (fun _ _ _ h => h) (Or.inl ⟨by rfl, ?_⟩) hHeld ?_; rotate_left; focus (intro w hSw; (try dsimp only at hSw); go_simp; (try with_reducible rfl)))
                  try simp only [Act.put, List.getElem_toArray, List.getElem_cons_succ, List.getElem_cons_zero, List.setIfInBounds_toArray, List.set_cons_zero, List.set_cons_succ]
                  first | (refine wpAnyH_take (i := 12) rfl (by kernel_rfl) (by kernel_rfl) (by kernel_rfl) (fun _ _ _ h => h) (Or.inr ⟨by rfl, rfl⟩) hHeld ?_) | (refine wpAnyH_take (i := 12) (v := ?_) rfl (by kernel_rfl) (by kernel_rfl) (by kernel_rfl) (fun _ _ _ h => h) (Or.inl ⟨by rfl, ?_⟩) hHeld ?_; rotate_left; focus (intro w hSw; (try dsimp only at hSw); go_simp; (try with_reducible rfl)))
                  try simp only [Act.put, List.getElem_toArray, List.getElem_cons_succ, List.getElem_cons_zero, List.setIfInBounds_toArray, List.set_cons_zero, List.set_cons_succ]
                  first | (refine wpAnyH_take (i := 13) rfl (by kernel_rfl) (by kernel_rfl) (by kernel_rfl) (fun _ _ _ h => h) (Or.inr ⟨by rfl, rfl⟩) hHeld ?_) | (refine wpAnyH_take (i := 13) (v := ?_) rfl (by kernel_rfl) (by kernel_rfl) (by kernel_rfl) (fun _ _ _ h => h) (Or.inl ⟨by rfl, ?_⟩) hHeld ?_; rotate_left; focus (intro w hSw; (try dsimp only at hSw); go_simp; (try with_reducible rfl)))
                  try simp only [Act.put, List.getElem_toArray, List.getElem_cons_succ, List.getElem_cons_zero, List.setIfInBounds_toArray, List.set_cons_zero, List.set_cons_succ]
                  first | (refine wpAnyH_take (i := 14) rfl (by kernel_rfl) (by kernel_rfl) (by kernel_rfl) (fun _ _ _ h => h) (Or.inr ⟨by rfl, rfl⟩) hHeld ?_) | (refine wpAnyH_take (i := 14) (v := ?_) rfl (by kernel_rfl) (by kernel_rfl) (by kernel_rfl) (fun _ _ _ h => h) (Or.inl ⟨by rfl, ?_⟩) hHeld ?_; rotate_left; focus (intro w hSw; (try dsimp only at hSw); go_simp; (try with_reducible rfl)))
                  try simp only [Act.put, List.getElem_toArray, List.getElem_cons_succ, List.getElem_cons_zero, List.setIfInBounds_toArray, List.set_cons_zero, List.set_cons_succ]
                  first | (refine wpAnyH_take (i := 15) rfl (by kernel_rfl) (by kernel_rfl) (by kernel_rfl) (fun _ _ _ h => h) (Or.inr ⟨by rfl, rfl⟩) hHeld ?_) | (refine wpAnyH_ready (rs := [15]) (by kernel_rfl) (by simp) ?_; refine AllReadyH.cons rfl (fun K hK => ?_) AllReadyH.nil; go_simp; (first | (go_at_call 16; refine (HL.out _ hHeld.1).mono ?_; rintro e w' ⟨rfl, rfl⟩) | (go_at_call 15; with_reducible refine (HE.out _ hHeld.1).mono ?_; rintro e w' ⟨rfl, hb⟩) | (go_at_call 15; with_reducible refine (HE2.out _ hHeld.1).mono ?_; rintro e w' ⟨rfl, hb⟩) | (go_at_call 7; refine (C8.out _).mono ?_; rintro e w' ⟨rfl, hb⟩)); (try go_wp2_with fail); refine hK.out _ _ ?_ (fun hHeld' => ?_); (focus (first | exact hkeep _ _ hb hHeld | exact hHeld)); clear hK K; replace hHeld := hHeld'; clear hHeld')
                  try simp only [Act.put, List.getElem_toArray, List.getElem_cons_succ, List.getElem_cons_zero, List.setIfInBounds_toArray, List.set_cons_zero, List.set_cons_succ]
                  first | (refine wpAnyH_take (i := 16) rfl (by kernel_rfl) (by kernel_rfl) (by kernel_rfl) (fun _ _ _ h => h) (Or.inr ⟨by rfl, rfl⟩) hHeld ?_) | (refine wpAnyH_ready (rs := [16]) (by kernel_rfl) (by simp) ?_; refine AllReadyH.cons rfl (fun K hK => ?_) AllReadyH.nil; go_simp; (first | (go_at_call 16; refine (HL.out _ hHeld.1).mono ?_; rintro e w' ⟨rfl, rfl⟩) | (go_at_call 15; with_reducible refine (HE.out _ hHeld.1).mono ?_; rintro e w' ⟨rfl, hb⟩) | (go_at_call 15; with_reducible refine (HE2.out _ hHeld.1).mono ?_; rintro e w' ⟨rfl, hb⟩) | (go_at_call 7; refine (C8.out _).mono ?_; rintro e w' ⟨rfl, hb⟩)); (try go_wp2_with fail); refine hK.out _ _ ?_ (fun hHeld' => ?_); (focus (first | exact hkeep _ _ hb hHeld | exact hHeld)); clear hK K; replace hHeld := hHeld'; clear hHeld')
                  try simp only [Act.put, List.getElem_toArray, List.getElem_cons_succ, List.getElem_cons_zero, List.setIfInBounds_toArray, List.set_cons_zero, List.set_cons_succ]
                  first | (refine wpAnyH_take (i := 17) rfl (by kernel_rfl) (by kernel_rfl) (by kernel_rfl) (fun _ _ _ h => h) (Or.inr ⟨by rfl, rfl⟩) hHeld ?_) | (refine wpAnyH_take (i := 17) (v := ?_) rfl (by kernel_rfl) (by kernel_rfl) (by kernel_rfl) (fun _ _ _ h => h) (Or.inl ⟨by rfl, ?_⟩) hHeld ?_; rotate_left; focus (intro w hSw; (try dsimp only at hSw); go_simp; (try with_reducible rfl)))
                  try simp only [Act.put, List.getElem_toArray, List.getElem_cons_succ, List.getElem_cons_zero, List.setIfInBounds_toArray, List.set_cons_zero, List.set_cons_succ]
                  (refine wpAnyH_take (i := 18) (v := ?_) rfl (by kernel_rfl) (by kernel_rfl) (by kernel_rfl) (fun _ _ _ h => h) (Or.inl ⟨by rfl, ?_⟩) hHeld ?_; rotate_left; focus (intro w hSw; (try dsimp only at hSw); go_simp; (try with_reducible rfl)))
                  try simp only [Act.put, List.getElem_toArray, List.getElem_cons_succ, List.getElem_cons_zero, List.setIfInBounds_toArray, List.set_cons_zero, List.set_cons_succ]
                  (refine wpAnyH_take (i := 19) (v := ?_) rfl (by kernel_rfl) (by kernel_rfl) (by kernel_rfl) (fun _ _ _ h => h) (Or.inl ⟨by rfl, ?_⟩) hHeld ?_; rotate_left; focus (intro w hSw; (try dsimp only at hSw); go_simp; (try with_reducible rfl)))
                  try simp only [Act.put, List.getElem_toArray, List.getElem_cons_succ, List.getElem_cons_zero, List.setIfInBounds_toArray, List.set_cons_zero, List.set_cons_succ]
                  first | (refine wpAnyH_take (i := 20) rfl (by kernel_rfl) (by kernel_rfl) (by kernel_rfl) (fun _ _ _ h => h) (Or.inr ⟨by rfl, rfl⟩) hHeld ?_) | (refine wpAnyH_take (i := 20) (v := ?_) rfl (by kernel_rfl) (by kernel_rfl) (by kernel_rfl) (fun _ _ _ h => h) (Or.inl ⟨by rfl, ?_⟩) hHeld ?_; rotate_left; focus (intro w hSw; (try dsimp only at hSw); go_simp; (try with_reducible rfl)))
                  try simp only [Act.put, List.getElem_toArray, List.getElem_cons_succ, List.getElem_cons_zero, List.setIfInBounds_toArray, List.set_cons_zero, List.set_cons_succ]
                  first | (refine wpAnyH_take (i := 21) rfl (by kernel_rfl) (by kernel_rfl) (by kernel_rfl) (fun _ _ _ h => h) (Or.inr ⟨by rfl, rfl⟩) hHeld ?_) | (refine wpAnyH_take (i := 21) (v := ?_) rfl (by kernel_rfl) (by kernel_rfl) (by kernel_rfl) (fun _ _ _ h => h) (Or.inl ⟨by rfl, ?_⟩) hHeld ?_; rotate_left; focus (intro w hSw; (try dsimp only at hSw); go_simp; (try with_reducible rfl)))
                  try simp only [Act.put, List.getElem_toArray, List.getElem_cons_succ, List.getElem_cons_zero, List.setIfInBounds_toArray, List.set_cons_zero, List.set_cons_succ]
                  first | (refine wpAnyH_take (i := 22) rfl (by kernel_rfl) (by kernel_rfl) (by kernel_rfl) (fun _ _ _ h => h) (Or.inr ⟨by rfl, rfl⟩) hHeld ?_) | (refine wpAnyH_take (i := 22) (v := ?_) rfl (by kernel_rfl) (by kernel_rfl) (by kernel_rfl) (fun _ _ _ h => h) (Or.inl ⟨by rfl, ?_⟩) hHeld ?_; rotate_left; focus (intro w hSw; (try dsimp only at hSw); go_simp; (try with_reducible rfl)))
                  try simp only [Act.put, List.getElem_toArray, List.getElem_cons_succ, List.getElem_cons_zero, List.setIfInBounds_toArray, List.set_cons_zero, List.set_cons_succ]
                  first | (refine wpAnyH_take (i := 23) rfl (by kernel_rfl) (by kernel_rfl) (by kernel_rfl) (fun _ _ _ h => h) (Or.inr ⟨by rfl, rfl⟩) hHeld ?_) | (refine wpAnyH_take (i := 23) (v := ?_) rfl (by kernel_rfl) (by kernel_rfl) (by kernel_rfl) (fun _ _ _ h => h) (Or.inl ⟨by rfl, ?_⟩) hHeld ?_; rotate_left; focus (intro w hSw; (try dsimp only at hSw); go_simp; (try with_reducible rfl)))
                  try simp only [Act.put, List.getElem_toArray, List.getElem_cons_succ, List.getElem_cons_zero, List.setIfInBounds_toArray, List.set_cons_zero, List.set_cons_succ]
                  (refine wpAnyH_take (i := 24) (v := ?_) rfl (by kernel_rfl) (by kernel_rfl) (by kernel_rfl) (fun _ _ _ h => h) (Or.inl ⟨by rfl, ?_⟩) hHeld ?_; rotate_left; focus (intro w hSw; (try dsimp only at hSw); go_simp; (try with_reducible rfl)))
                  try simp only [Act.put, List.getElem_toArray, List.getElem_cons_succ, List.getElem_cons_zero, List.setIfInBounds_toArray, List.set_cons_zero, List.set_cons_succ]
                  (refine wpAnyH_take (i := 25) (v := ?_) rfl (by kernel_rfl) (by kernel_rfl) (by kernel_rfl) (fun _ _ _ h => h) (Or.inl ⟨by rfl, ?_⟩) hHeld ?_; rotate_left; focus (intro w hSw; (try dsimp only at hSw); go_simp; (try with_reducible rfl)))
                  try simp only [Act.put, List.getElem_toArray, List.getElem_cons_succ, List.getElem_cons_zero, List.setIfInBounds_toArray, List.set_cons_zero, List.set_cons_succ]
                  first | (refine wpAnyH_take (i := 26) rfl (by kernel_rfl) (by kernel_rfl) (by kernel_rfl) (fun _ _ _ h => h) (Or.inr ⟨by rfl, rfl⟩) hHeld ?_) | (refine wpAnyH_ready (rs := [26]) (by kernel_rfl) (by simp) ?_; refine AllReadyH.cons rfl (fun K hK => ?_) AllReadyH.nil; go_simp; (first | (go_at_call 16; refine (HL.out _ hHeld.1).mono ?_; rintro e w' ⟨rfl, rfl⟩) | (go_at_call 15; with_reducible refine (HE.out _ hHeld.1).mono ?_; rintro e w' ⟨rfl, hb⟩) | (go_at_call 15; with_reducible refine (HE2.out _ hHeld.1).mono ?_; rintro e w' ⟨rfl, hb⟩) | (go_at_call 7; refine (C8.out _).mono ?_; rintro e w' ⟨rfl, hb⟩)); (try go_wp2_with fail); refine hK.out _ _ ?_ (fun hHeld' => ?_); (focus (first | exact hkeep _ _ hb hHeld | exact hHeld)); clear hK K; replace hHeld := hHeld'; clear hHeld')
                  try simp only [Act.put, List.getElem_toArray, List.getElem_cons_succ, List.getElem_cons_zero, List.setIfInBounds_toArray, List.set_cons_zero, List.set_cons_succ]
                  (refine wpAnyH_take (i := 27) (v := ?_) rfl (by kernel_rfl) (by kernel_rfl) (by kernel_rfl) (fun _ _ _ h => h) (Or.inl ⟨by rfl, ?_⟩) hHeld ?_; rotate_left; focus (intro w hSw; (try dsimp only at hSw); go_simp; (try with_reducible rfl)))
                  try simp only [Act.put, List.getElem_toArray, List.getElem_cons_succ, List.getElem_cons_zero, List.setIfInBounds_toArray, List.set_cons_zero, List.set_cons_succ]
                  (refine wpAnyH_take (i := 28) (v := ?_) rfl (by kernel_rfl) (by kernel_rfl) (by kernel_rfl) (fun _ _ _ h => h) (Or.inl ⟨by rfl, ?_⟩) hHeld ?_; rotate_left; focus (intro w hSw; (try dsimp only at hSw); go_simp; (try with_reducible rfl)))
                  try simp only [Act.put, List.getElem_toArray, List.getElem_cons_succ, List.getElem_cons_zero, List.setIfInBounds_toArray, List.set_cons_zero, List.set_cons_succ]
                  refine wpAnyH_done (by kernel_rfl) ?_ _
                  refine NoPanic.normal ?_
                  go_wp2_with fail
                  go_ret
                  exact ⟨rfl, by rw [HZ.out]; exact (And.left (by assumption : PartsR w a1 g m o x y s2 (k + 1) w' ∧ w'.cell? ⟨a1 + 1, 0, none⟩ = some (.int .i64 x) ∧ w'.cell? ⟨a1 + 1, 1, none⟩ = some (.int .i64 y))).below⟩
              · skip
                as_aux_lemma =>
                  rw [decide_eq_false hthis]
                  obtain ⟨P1, P2⟩ := HK.out.1.2.2.2.2 Hd.out KF.out.1.1.1 (by have := KF.out.1.2.1; omega) hthis
                  have hok2 := HK.out.1.1
                  have F := del_facts s2 hok2 x y P1
                  have hd3 : dropW s2 x y = delW s2 x y := by unfold dropW; rw [P1]; rfl
                  have hok3 : OkW (delW s2 x y) (k + 1 + 1) := by have h := okW_drop hok2 x y; rw [hd3] at h; exact h
                  have CD2 : ∀ W, PartsR w a1 g m o x y s2 (k + 1) W → Calls Try.prog 14 #[.pointer (some ⟨g, 0, none⟩), .int .i64 x, .int .i64 y] W (DoneW W g m (k + 1 + 1) (delW s2 x y) true) := fun W hW => by
                    have h := wDrop_any s2 (k + 1) hok2 hN2 g m W hW.ward x y hx hy
                    rw [hd3, P1] at h
                    exact h
                  have d5 : IntKind.i64.wrap (((heldN s2 x : Nat) : Int) - 1) = ((heldN (delW s2 x y) x : Nat) : Int) := by
                    have hb0 : heldN s2 x ≤ 61 := cnt_le 61 _
                    have := F.2.1
                    rw [IntWalk.i64_in _ (by omega)]
                    omega
                  have F1 := F.1
                  have F3 := F.2.2.1
                  have F4 : (delW s2 x y).gen x.toNat y.toNat = s.gen x.toNat y.toNat + 1 := by rw [F.2.2.2, P2]
                  clear F hd3 P2 P1 hok2 hthis
                  generalize delW s2 x y = s3 at *
                  have hN3 : k + 1 + 1 < 1000000 := by omega
                  have e3 : leadsB s3 x v = false := by
                    unfold leadsB
                    rw [KF.out.2.1, KF.out.2.2.2.1, F1, Bool.false_and]
                  have CE3 : ∀ W, PartsR w a1 g m o x y s3 (k + 1 + 1) W → Calls Try.prog 15 #[.pointer (some ⟨g, 0, none⟩), .int .i64 x, .int .u64 (v : Nat)] W fun e w' => e = .returned (.bool false) ∧ Below W.heap.size W w' := fun W hW => by
                    have h := wLeads_any s3 (k + 1 + 1) hok3 g m W hW.ward hN3 x hx v HV.out
                    rw [e3] at h
                    exact h
                  have CH3 : ∀ W, PartsR w a1 g m o x y s3 (k + 1 + 1) W → Calls Try.prog 17 #[.pointer (some ⟨g, 0, none⟩), .int .i64 x] W fun e w' => e = .returned (.int .i64 (heldN s3 x : Nat)) ∧ Below W.heap.size W w' := fun W hW => wHeld_any s3 (k + 1 + 1) hok3 g m W hW.ward x hx
                  have ht3 : takeB s3 x y = true := by unfold takeB; rw [F3, F1]; rfl
                  have hw3 : takeW s3 x y = putW s3 x y := by unfold takeW; rw [ht3]; rfl
                  have hok4 : OkW (putW s3 x y) (k + 1 + 1 + 1) := by have h := okW_take hok3 x y; rw [hw3] at h; exact h
                  have CT3 : ∀ W, PartsR w a1 g m o x y s3 (k + 1 + 1) W → Calls Try.prog 13 #[.pointer (some ⟨g, 0, none⟩), .int .i64 x, .int .i64 y] W (DoneW W g m (k + 1 + 1 + 1) (putW s3 x y) true) := fun W hW => by
                    have h := wTake_any s3 (k + 1 + 1) hok3 hN3 g m W hW.ward x y hx hy
                    rw [hw3, ht3] at h
                    exact h
                  have G1 : (putW s3 x y).held x y = true := by show (decide (x = x ∧ y = y) || s3.held x y) = true; rw [decide_eq_true ⟨rfl, rfl⟩, Bool.true_or]
                  have G4 : (putW s3 x y).gen x.toNat y.toNat = s.gen x.toNat y.toNat + 1 := F4
                  clear F1 F3 F4 e3 ht3 hw3 hok3
                  generalize putW s3 x y = s4 at *
                  have hN4 : k + 1 + 1 + 1 < 1000000 := by omega
                  have e4 : leadsB s4 x v = false := by
                    unfold leadsB
                    rw [KF.out.2.1, KF.out.2.2.1, KF.out.2.2.2.1, G4, decide_eq_false (by omega), Bool.and_false]
                  have CE4 : ∀ W, PartsR w a1 g m o x y s4 (k + 1 + 1 + 1) W → Calls Try.prog 15 #[.pointer (some ⟨g, 0, none⟩), .int .i64 x, .int .u64 (v : Nat)] W fun e w' => e = .returned (.bool false) ∧ Below W.heap.size W w' := fun W hW => by
                    have h := wLeads_any s4 (k + 1 + 1 + 1) hok4 g m W hW.ward hN4 x hx v HV.out
                    rw [e4] at h
                    exact h
                  have CL4 : ∀ W, PartsR w a1 g m o x y s4 (k + 1 + 1 + 1) W → Calls Try.prog 16 #[.pointer (some ⟨g, 0, none⟩), .int .i64 x, .int .i64 y] W fun e w' => e = .returned (.int .u64 (linkV s4 x y : Nat)) ∧ W = w' := fun W hW => wLink_any s4 (k + 1 + 1 + 1) hok4 g m W hW.ward hN4 x y hx hy
                  have hv4 : linkV s4 x y < 18446744073709551616 := by
                    unfold linkV
                    cases hasB s4 x y
                    · show (0 : Nat) < _; omega
                    · have := mkL_lt y (s4.gen x.toNat y.toNat)
                      show mkL _ _ < _
                      omega
                  have CE5 : ∀ W, PartsR w a1 g m o x y s4 (k + 1 + 1 + 1) W → Calls Try.prog 15 #[.pointer (some ⟨g, 0, none⟩), .int .i64 x, .int .u64 (linkV s4 x y : Nat)] W fun e w' => e = .returned (.bool true) ∧ Below W.heap.size W w' := fun W hW => by
                    have h := wLeads_any s4 (k + 1 + 1 + 1) hok4 g m W hW.ward hN4 x hx (linkV s4 x y) hv4
                    rw [leads_link hok4 hN4 x y, G1] at h
                    exact h
                  clear G1 G4 e4 hok4 hv4
                  generalize linkV s4 x y = v4 at *
                  generalize heldN s3 x = n3 at *
                  generalize heldN s2 x = n2 at *
                  have HD2 := Lib.hid CD2; have HE3 := Lib.hid CE3; have HH3 := Lib.hid CH3; have HT3 := Lib.hid CT3; have HE4 := Lib.hid CE4; have HL4 := Lib.hid CL4; have HE5 := Lib.hid CE5
                  have RD := Lib.hid RC.out.drew
                  clear CD2 CE3 CH3 CT3 CE4 CL4 CE5 HK HL HE Hh Hv KF HS Hd RC HV hx hy
                  go_upto_region 22 with fail
                  have hS : ∀ (s : Ward) (N : Nat) (W : World), PartsR w a1 g m o x y s N W → (fun w' : World => w'.cell? ⟨a1 + 1, 0, none⟩ = some (.int .i64 x) ∧ w'.cell? ⟨a1 + 1, 1, none⟩ = some (.int .i64 y)) W := fun _ _ _ h => h.cells
                  refine wp_region_noPanic ?_
                  refine wp_region_held_drew (S := fun w' => w'.cell? ⟨a1 + 1, 0, none⟩ = some (.int .i64 x) ∧ w'.cell? ⟨a1 + 1, 1, none⟩ = some (.int .i64 y)) (by kernel_rfl) (hS _ _ _ RD.out) (fun hHeld => ?_)
                  (refine wpAnyH_take (i := 0) (v := ?_) rfl (by kernel_rfl) (by kernel_rfl) (by kernel_rfl) (fun _ _ _ h => h) (Or.inl ⟨by rfl, ?_⟩) hHeld ?_; rotate_left; focus (intro w hSw; (try dsimp only at hSw); go_simp; (try with_reducible rfl)))
                  try simp only [Act.put, List.getElem_toArray, List.getElem_cons_succ, List.getElem_cons_zero, List.setIfInBounds_toArray, List.set_cons_zero, List.set_cons_succ]
                  (refine wpAnyH_take (i := 1) (v := ?_) rfl (by kernel_rfl) (by kernel_rfl) (by kernel_rfl) (fun _ _ _ h => h) (Or.inl ⟨by rfl, ?_⟩) hHeld ?_; rotate_left; focus (intro w hSw; (try dsimp only at hSw); go_simp; (try with_reducible rfl)))
                  try simp only [Act.put, List.getElem_toArray, List.getElem_cons_succ, List.getElem_cons_zero, List.setIfInBounds_toArray, List.set_cons_zero, List.set_cons_succ]
                  (refine wpAnyH_take (i := 2) (v := ?_) rfl (by kernel_rfl) (by kernel_rfl) (by kernel_rfl) (fun _ _ _ h => h) (Or.inl ⟨by rfl, ?_⟩) hHeld ?_; rotate_left; focus (intro w hSw; (try dsimp only at hSw); go_simp; (try with_reducible rfl)))
                  try simp only [Act.put, List.getElem_toArray, List.getElem_cons_succ, List.getElem_cons_zero, List.setIfInBounds_toArray, List.set_cons_zero, List.set_cons_succ]
                  (refine wpAnyH_take (i := 3) (v := ?_) rfl (by kernel_rfl) (by kernel_rfl) (by kernel_rfl) (fun _ _ _ h => h) (Or.inl ⟨by rfl, ?_⟩) hHeld ?_; rotate_left; focus (intro w hSw; (try dsimp only at hSw); go_simp; (try with_reducible rfl)))
                  try simp only [Act.put, List.getElem_toArray, List.getElem_cons_succ, List.getElem_cons_zero, List.setIfInBounds_toArray, List.set_cons_zero, List.set_cons_succ]
                  (refine wpAnyH_take (i := 4) (v := ?_) rfl (by kernel_rfl) (by kernel_rfl) (by kernel_rfl) (fun _ _ _ h => h) (Or.inl ⟨by rfl, ?_⟩) hHeld ?_; rotate_left; focus (intro w hSw; (try dsimp only at hSw); go_simp; (try with_reducible rfl)))
                  try simp only [Act.put, List.getElem_toArray, List.getElem_cons_succ, List.getElem_cons_zero, List.setIfInBounds_toArray, List.set_cons_zero, List.set_cons_succ]
                  (refine wpAnyH_ready (rs := [5]) (by kernel_rfl) (by simp) ?_; refine AllReadyH.cons rfl (fun K hK => ?_) AllReadyH.nil; go_simp; (first | (go_at_call 14; refine (HD2.out _ RD.out).mono ?_; rintro e w5 ⟨rfl, hm5, ho5⟩; have R5 := Lib.hid (RD.out.turn ho5 hm5)) | (go_at_call 15; with_reducible refine (HE3.out _ R5.out).mono ?_; rintro e w6 ⟨rfl, hb6⟩; have R6 := Lib.hid (R5.out.keep hb6)) | (go_at_call 17; with_reducible refine (HH3.out _ R6.out).mono ?_; rintro e w7 ⟨rfl, hb7⟩; have R7 := Lib.hid (R6.out.keep hb7)) | (go_at_call 13; refine (HT3.out _ R7.out).mono ?_; rintro e w8 ⟨rfl, hm8, ho8⟩; have R8 := Lib.hid (R7.out.turn ho8 hm8)) | (go_at_call 15; with_reducible refine (HE4.out _ R8.out).mono ?_; rintro e w9 ⟨rfl, hb9⟩; have R9 := Lib.hid (R8.out.keep hb9)) | (go_at_call 16; refine (HL4.out _ R9.out).mono ?_; rintro e w' ⟨rfl, rfl⟩) | (go_at_call 15; with_reducible refine (HE5.out _ R9.out).mono ?_; rintro e w10 ⟨rfl, hb10⟩; have R10 := Lib.hid (R9.out.keep hb10)) | (go_at_call 7; refine (C8.out _).mono ?_; rintro e w11 ⟨rfl, hb11⟩)); (try go_wp2_with fail); refine hK.out _ _ ?_ (fun hHeld' => ?_); (focus (first | exact hS _ _ _ R10.out | exact hS _ _ _ R9.out | exact hS _ _ _ R8.out | exact hS _ _ _ R7.out | exact hS _ _ _ R6.out | exact hS _ _ _ R5.out | exact hS _ _ _ (R10.out.keep hb11))); clear hK K; replace hHeld := hHeld'; clear hHeld')
                  try simp only [Act.put, List.getElem_toArray, List.getElem_cons_succ, List.getElem_cons_zero, List.setIfInBounds_toArray, List.set_cons_zero, List.set_cons_succ]
                  (refine wpAnyH_take (i := 6) (v := ?_) rfl (by kernel_rfl) (by kernel_rfl) (by kernel_rfl) (fun _ _ _ h => h) (Or.inl ⟨by rfl, ?_⟩) hHeld ?_; rotate_left; focus (intro w hSw; (try dsimp only at hSw); go_simp; (try with_reducible rfl)))
                  try simp only [Act.put, List.getElem_toArray, List.getElem_cons_succ, List.getElem_cons_zero, List.setIfInBounds_toArray, List.set_cons_zero, List.set_cons_succ]
                  first | (refine wpAnyH_take (i := 7) rfl (by kernel_rfl) (by kernel_rfl) (by kernel_rfl) (fun _ _ _ h => h) (Or.inr ⟨by rfl, rfl⟩) hHeld ?_) | (refine wpAnyH_take (i := 7) (v := ?_) rfl (by kernel_rfl) (by kernel_rfl) (by kernel_rfl) (fun _ _ _ h => h) (Or.inl ⟨by rfl, ?_⟩) hHeld ?_; rotate_left; focus (intro w hSw; (try dsimp only at hSw); go_simp; (try with_reducible rfl)))
                  try simp only [Act.put, List.getElem_toArray, List.getElem_cons_succ, List.getElem_cons_zero, List.setIfInBounds_toArray, List.set_cons_zero, List.set_cons_succ]
                  first | (refine wpAnyH_take (i := 8) rfl (by kernel_rfl) (by kernel_rfl) (by kernel_rfl) (fun _ _ _ h => h) (Or.inr ⟨by rfl, rfl⟩) hHeld ?_) | (refine wpAnyH_take (i := 8) (v := ?_) rfl (by kernel_rfl) (by kernel_rfl) (by kernel_rfl) (fun _ _ _ h => h) (Or.inl ⟨by rfl, ?_⟩) hHeld ?_; rotate_left; focus (intro w hSw; (try dsimp only at hSw); go_simp; (try with_reducible rfl)))
                  try simp only [Act.put, List.getElem_toArray, List.getElem_cons_succ, List.getElem_cons_zero, List.setIfInBounds_toArray, List.set_cons_zero, List.set_cons_succ]
                  first | (refine wpAnyH_take (i := 9) rfl (by kernel_rfl) (by kernel_rfl) (by kernel_rfl) (fun _ _ _ h => h) (Or.inr ⟨by rfl, rfl⟩) hHeld ?_) | (refine wpAnyH_take (i := 9) (v := ?_) rfl (by kernel_rfl) (by kernel_rfl) (by kernel_rfl) (fun _ _ _ h => h) (Or.inl ⟨by rfl, ?_⟩) hHeld ?_; rotate_left; focus (intro w hSw; (try dsimp only at hSw); go_simp; (try with_reducible rfl)))
                  try simp only [Act.put, List.getElem_toArray, List.getElem_cons_succ, List.getElem_cons_zero, List.setIfInBounds_toArray, List.set_cons_zero, List.set_cons_succ]
                  first | (refine wpAnyH_take (i := 10) rfl (by kernel_rfl) (by kernel_rfl) (by kernel_rfl) (fun _ _ _ h => h) (Or.inr ⟨by rfl, rfl⟩) hHeld ?_) | (refine wpAnyH_take (i := 10) (v := ?_) rfl (by kernel_rfl) (by kernel_rfl) (by kernel_rfl) (fun _ _ _ h => h) (Or.inl ⟨by rfl, ?_⟩) hHeld ?_; rotate_left; focus (intro w hSw; (try dsimp only at hSw); go_simp; (try with_reducible rfl)))
                  try simp only [Act.put, List.getElem_toArray, List.getElem_cons_succ, List.getElem_cons_zero, List.setIfInBounds_toArray, List.set_cons_zero, List.set_cons_succ]
                  first | (refine wpAnyH_take (i := 11) rfl (by kernel_rfl) (by kernel_rfl) (by kernel_rfl) (fun _ _ _ h => h) (Or.inr ⟨by rfl, rfl⟩) hHeld ?_) | (refine wpAnyH_ready (rs := [11]) (by kernel_rfl) (by simp) ?_; refine AllReadyH.cons rfl (fun K hK => ?_) AllReadyH.nil; go_simp; (first | (go_at_call 14; refine (HD2.out _ RD.out).mono ?_; rintro e w5 ⟨rfl, hm5, ho5⟩; have R5 := Lib.hid (RD.out.turn ho5 hm5)) | (go_at_call 15; with_reducible refine (HE3.out _ R5.out).mono ?_; rintro e w6 ⟨rfl, hb6⟩; have R6 := Lib.hid (R5.out.keep hb6)) | (go_at_call 17; with_reducible refine (HH3.out _ R6.out).mono ?_; rintro e w7 ⟨rfl, hb7⟩; have R7 := Lib.hid (R6.out.keep hb7)) | (go_at_call 13; refine (HT3.out _ R7.out).mono ?_; rintro e w8 ⟨rfl, hm8, ho8⟩; have R8 := Lib.hid (R7.out.turn ho8 hm8)) | (go_at_call 15; with_reducible refine (HE4.out _ R8.out).mono ?_; rintro e w9 ⟨rfl, hb9⟩; have R9 := Lib.hid (R8.out.keep hb9)) | (go_at_call 16; refine (HL4.out _ R9.out).mono ?_; rintro e w' ⟨rfl, rfl⟩) | (go_at_call 15; with_reducible refine (HE5.out _ R9.out).mono ?_; rintro e w10 ⟨rfl, hb10⟩; have R10 := Lib.hid (R9.out.keep hb10)) | (go_at_call 7; refine (C8.out _).mono ?_; rintro e w11 ⟨rfl, hb11⟩)); (try go_wp2_with fail); refine hK.out _ _ ?_ (fun hHeld' => ?_); (focus (first | exact hS _ _ _ R10.out | exact hS _ _ _ R9.out | exact hS _ _ _ R8.out | exact hS _ _ _ R7.out | exact hS _ _ _ R6.out | exact hS _ _ _ R5.out | exact hS _ _ _ (R10.out.keep hb11))); clear hK K; replace hHeld := hHeld'; clear hHeld')
                  try simp only [Act.put, List.getElem_toArray, List.getElem_cons_succ, List.getElem_cons_zero, List.setIfInBounds_toArray, List.set_cons_zero, List.set_cons_succ]
                  first | (refine wpAnyH_take (i := 12) rfl (by kernel_rfl) (by kernel_rfl) (by kernel_rfl) (fun _ _ _ h => h) (Or.inr ⟨by rfl, rfl⟩) hHeld ?_) | (refine wpAnyH_take (i := 12) (v := ?_) rfl (by kernel_rfl) (by kernel_rfl) (by kernel_rfl) (fun _ _ _ h => h) (Or.inl ⟨by rfl, ?_⟩) hHeld ?_; rotate_left; focus (intro w hSw; (try dsimp only at hSw); go_simp; (try with_reducible rfl)))
                  try simp only [Act.put, List.getElem_toArray, List.getElem_cons_succ, List.getElem_cons_zero, List.setIfInBounds_toArray, List.set_cons_zero, List.set_cons_succ]
                  (refine wpAnyH_take (i := 13) (v := ?_) rfl (by kernel_rfl) (by kernel_rfl) (by kernel_rfl) (fun _ _ _ h => h) (Or.inl ⟨by rfl, ?_⟩) hHeld ?_; rotate_left; focus (intro w hSw; (try dsimp only at hSw); go_simp; (try with_reducible rfl)))
                  try simp only [Act.put, List.getElem_toArray, List.getElem_cons_succ, List.getElem_cons_zero, List.setIfInBounds_toArray, List.set_cons_zero, List.set_cons_succ]
                  (refine wpAnyH_take (i := 14) (v := ?_) rfl (by kernel_rfl) (by kernel_rfl) (by kernel_rfl) (fun _ _ _ h => h) (Or.inl ⟨by rfl, ?_⟩) hHeld ?_; rotate_left; focus (intro w hSw; (try dsimp only at hSw); go_simp; (try with_reducible rfl)))
                  try simp only [Act.put, List.getElem_toArray, List.getElem_cons_succ, List.getElem_cons_zero, List.setIfInBounds_toArray, List.set_cons_zero, List.set_cons_succ]
                  first | (refine wpAnyH_take (i := 15) rfl (by kernel_rfl) (by kernel_rfl) (by kernel_rfl) (fun _ _ _ h => h) (Or.inr ⟨by rfl, rfl⟩) hHeld ?_) | (refine wpAnyH_take (i := 15) (v := ?_) rfl (by kernel_rfl) (by kernel_rfl) (by kernel_rfl) (fun _ _ _ h => h) (Or.inl ⟨by rfl, ?_⟩) hHeld ?_; rotate_left; focus (intro w hSw; (try dsimp only at hSw); go_simp; (try with_reducible rfl)))
                  try simp only [Act.put, List.getElem_toArray, List.getElem_cons_succ, List.getElem_cons_zero, List.setIfInBounds_toArray, List.set_cons_zero, List.set_cons_succ]
                  first | (refine wpAnyH_take (i := 16) rfl (by kernel_rfl) (by kernel_rfl) (by kernel_rfl) (fun _ _ _ h => h) (Or.inr ⟨by rfl, rfl⟩) hHeld ?_) | (refine wpAnyH_take (i := 16) (v := ?_) rfl (by kernel_rfl) (by kernel_rfl) (by kernel_rfl) (fun _ _ _ h => h) (Or.inl ⟨by rfl, ?_⟩) hHeld ?_; rotate_left; focus (intro w hSw; (try dsimp only at hSw); go_simp; (try with_reducible rfl)))
                  try simp only [Act.put, List.getElem_toArray, List.getElem_cons_succ, List.getElem_cons_zero, List.setIfInBounds_toArray, List.set_cons_zero, List.set_cons_succ]
                  first | (refine wpAnyH_take (i := 17) rfl (by kernel_rfl) (by kernel_rfl) (by kernel_rfl) (fun _ _ _ h => h) (Or.inr ⟨by rfl, rfl⟩) hHeld ?_) | (refine wpAnyH_take (i := 17) (v := ?_) rfl (by kernel_rfl) (by kernel_rfl) (by kernel_rfl) (fun _ _ _ h => h) (Or.inl ⟨by rfl, ?_⟩) hHeld ?_; rotate_left; focus (intro w hSw; (try dsimp only at hSw); go_simp; (try with_reducible rfl)))
                  try simp only [Act.put, List.getElem_toArray, List.getElem_cons_succ, List.getElem_cons_zero, List.setIfInBounds_toArray, List.set_cons_zero, List.set_cons_succ]
                  first | (refine wpAnyH_take (i := 19) rfl (by kernel_rfl) (by kernel_rfl) (by kernel_rfl) (fun _ _ _ h => h) (Or.inr ⟨by rfl, rfl⟩) hHeld ?_) | (refine wpAnyH_take (i := 19) (v := ?_) rfl (by kernel_rfl) (by kernel_rfl) (by kernel_rfl) (fun _ _ _ h => h) (Or.inl ⟨by rfl, ?_⟩) hHeld ?_; rotate_left; focus (intro w hSw; (try dsimp only at hSw); go_simp; (try with_reducible rfl)))
                  try simp only [Act.put, List.getElem_toArray, List.getElem_cons_succ, List.getElem_cons_zero, List.setIfInBounds_toArray, List.set_cons_zero, List.set_cons_succ]
                  first | (refine wpAnyH_take (i := 20) rfl (by kernel_rfl) (by kernel_rfl) (by kernel_rfl) (fun _ _ _ h => h) (Or.inr ⟨by rfl, rfl⟩) hHeld ?_) | (refine wpAnyH_take (i := 20) (v := ?_) rfl (by kernel_rfl) (by kernel_rfl) (by kernel_rfl) (fun _ _ _ h => h) (Or.inl ⟨by rfl, ?_⟩) hHeld ?_; rotate_left; focus (intro w hSw; (try dsimp only at hSw); go_simp; (try with_reducible rfl)))
                  try simp only [Act.put, List.getElem_toArray, List.getElem_cons_succ, List.getElem_cons_zero, List.setIfInBounds_toArray, List.set_cons_zero, List.set_cons_succ]
                  first | (refine wpAnyH_take (i := 18) rfl (by kernel_rfl) (by kernel_rfl) (by kernel_rfl) (fun _ _ _ h => h) (Or.inr ⟨by rfl, rfl⟩) hHeld ?_) | (refine wpAnyH_ready (rs := [18]) (by kernel_rfl) (by simp) ?_; refine AllReadyH.cons rfl (fun K hK => ?_) AllReadyH.nil; go_simp; (first | (go_at_call 14; refine (HD2.out _ RD.out).mono ?_; rintro e w5 ⟨rfl, hm5, ho5⟩; have R5 := Lib.hid (RD.out.turn ho5 hm5)) | (go_at_call 15; with_reducible refine (HE3.out _ R5.out).mono ?_; rintro e w6 ⟨rfl, hb6⟩; have R6 := Lib.hid (R5.out.keep hb6)) | (go_at_call 17; with_reducible refine (HH3.out _ R6.out).mono ?_; rintro e w7 ⟨rfl, hb7⟩; have R7 := Lib.hid (R6.out.keep hb7)) | (go_at_call 13; refine (HT3.out _ R7.out).mono ?_; rintro e w8 ⟨rfl, hm8, ho8⟩; have R8 := Lib.hid (R7.out.turn ho8 hm8)) | (go_at_call 15; with_reducible refine (HE4.out _ R8.out).mono ?_; rintro e w9 ⟨rfl, hb9⟩; have R9 := Lib.hid (R8.out.keep hb9)) | (go_at_call 16; refine (HL4.out _ R9.out).mono ?_; rintro e w' ⟨rfl, rfl⟩) | (go_at_call 15; with_reducible refine (HE5.out _ R9.out).mono ?_; rintro e w10 ⟨rfl, hb10⟩; have R10 := Lib.hid (R9.out.keep hb10)) | (go_at_call 7; refine (C8.out _).mono ?_; rintro e w11 ⟨rfl, hb11⟩)); (try go_wp2_with fail); refine hK.out _ _ ?_ (fun hHeld' => ?_); (focus (first | exact hS _ _ _ R10.out | exact hS _ _ _ R9.out | exact hS _ _ _ R8.out | exact hS _ _ _ R7.out | exact hS _ _ _ R6.out | exact hS _ _ _ R5.out | exact hS _ _ _ (R10.out.keep hb11))); clear hK K; replace hHeld := hHeld'; clear hHeld')
                  try simp only [Act.put, List.getElem_toArray, List.getElem_cons_succ, List.getElem_cons_zero, List.setIfInBounds_toArray, List.set_cons_zero, List.set_cons_succ]
                  first | (refine wpAnyH_take (i := 21) rfl (by kernel_rfl) (by kernel_rfl) (by kernel_rfl) (fun _ _ _ h => h) (Or.inr ⟨by rfl, rfl⟩) hHeld ?_) | (refine wpAnyH_take (i := 21) (v := ?_) rfl (by kernel_rfl) (by kernel_rfl) (by kernel_rfl) (fun _ _ _ h => h) (Or.inl ⟨by rfl, ?_⟩) hHeld ?_; rotate_left; focus (intro w hSw; (try dsimp only at hSw); go_simp; (try with_reducible rfl)))
                  try simp only [Act.put, List.getElem_toArray, List.getElem_cons_succ, List.getElem_cons_zero, List.setIfInBounds_toArray, List.set_cons_zero, List.set_cons_succ]
                  (refine wpAnyH_take (i := 22) (v := ?_) rfl (by kernel_rfl) (by kernel_rfl) (by kernel_rfl) (fun _ _ _ h => h) (Or.inl ⟨by rfl, ?_⟩) hHeld ?_; rotate_left; focus (intro w hSw; (try dsimp only at hSw); go_simp; (try with_reducible rfl)))
                  try simp only [Act.put, List.getElem_toArray, List.getElem_cons_succ, List.getElem_cons_zero, List.setIfInBounds_toArray, List.set_cons_zero, List.set_cons_succ]
                  (refine wpAnyH_take (i := 23) (v := ?_) rfl (by kernel_rfl) (by kernel_rfl) (by kernel_rfl) (fun _ _ _ h => h) (Or.inl ⟨by rfl, ?_⟩) hHeld ?_; rotate_left; focus (intro w hSw; (try dsimp only at hSw); go_simp; (try with_reducible rfl)))
                  try simp only [Act.put, List.getElem_toArray, List.getElem_cons_succ, List.getElem_cons_zero, List.setIfInBounds_toArray, List.set_cons_zero, List.set_cons_succ]
                  first | (refine wpAnyH_take (i := 24) rfl (by kernel_rfl) (by kernel_rfl) (by kernel_rfl) (fun _ _ _ h => h) (Or.inr ⟨by rfl, rfl⟩) hHeld ?_) | (refine wpAnyH_take (i := 24) (v := ?_) rfl (by kernel_rfl) (by kernel_rfl) (by kernel_rfl) (fun _ _ _ h => h) (Or.inl ⟨by rfl, ?_⟩) hHeld ?_; rotate_left; focus (intro w hSw; (try dsimp only at hSw); go_simp; (try with_reducible rfl)))
                  try simp only [Act.put, List.getElem_toArray, List.getElem_cons_succ, List.getElem_cons_zero, List.setIfInBounds_toArray, List.set_cons_zero, List.set_cons_succ]
                  first | (refine wpAnyH_take (i := 25) rfl (by kernel_rfl) (by kernel_rfl) (by kernel_rfl) (fun _ _ _ h => h) (Or.inr ⟨by rfl, rfl⟩) hHeld ?_) | (refine wpAnyH_take (i := 25) (v := ?_) rfl (by kernel_rfl) (by kernel_rfl) (by kernel_rfl) (fun _ _ _ h => h) (Or.inl ⟨by rfl, ?_⟩) hHeld ?_; rotate_left; focus (intro w hSw; (try dsimp only at hSw); go_simp; (try with_reducible rfl)))
                  try simp only [Act.put, List.getElem_toArray, List.getElem_cons_succ, List.getElem_cons_zero, List.setIfInBounds_toArray, List.set_cons_zero, List.set_cons_succ]
                  first | (refine wpAnyH_take (i := 26) rfl (by kernel_rfl) (by kernel_rfl) (by kernel_rfl) (fun _ _ _ h => h) (Or.inr ⟨by rfl, rfl⟩) hHeld ?_) | (refine wpAnyH_take (i := 26) (v := ?_) rfl (by kernel_rfl) (by kernel_rfl) (by kernel_rfl) (fun _ _ _ h => h) (Or.inl ⟨by rfl, ?_⟩) hHeld ?_; rotate_left; focus (intro w hSw; (try dsimp only at hSw); go_simp; (try with_reducible rfl)))
                  try simp only [Act.put, List.getElem_toArray, List.getElem_cons_succ, List.getElem_cons_zero, List.setIfInBounds_toArray, List.set_cons_zero, List.set_cons_succ]
                  first | (refine wpAnyH_take (i := 27) rfl (by kernel_rfl) (by kernel_rfl) (by kernel_rfl) (fun _ _ _ h => h) (Or.inr ⟨by rfl, rfl⟩) hHeld ?_) | (refine wpAnyH_take (i := 27) (v := ?_) rfl (by kernel_rfl) (by kernel_rfl) (by kernel_rfl) (fun _ _ _ h => h) (Or.inl ⟨by rfl, ?_⟩) hHeld ?_; rotate_left; focus (intro w hSw; (try dsimp only at hSw); go_simp; (try with_reducible rfl)))
                  try simp only [Act.put, List.getElem_toArray, List.getElem_cons_succ, List.getElem_cons_zero, List.setIfInBounds_toArray, List.set_cons_zero, List.set_cons_succ]
                  first | (refine wpAnyH_take (i := 28) rfl (by kernel_rfl) (by kernel_rfl) (by kernel_rfl) (fun _ _ _ h => h) (Or.inr ⟨by rfl, rfl⟩) hHeld ?_) | (refine wpAnyH_take (i := 28) (v := ?_) rfl (by kernel_rfl) (by kernel_rfl) (by kernel_rfl) (fun _ _ _ h => h) (Or.inl ⟨by rfl, ?_⟩) hHeld ?_; rotate_left; focus (intro w hSw; (try dsimp only at hSw); go_simp; (try with_reducible rfl)))
                  try simp only [Act.put, List.getElem_toArray, List.getElem_cons_succ, List.getElem_cons_zero, List.setIfInBounds_toArray, List.set_cons_zero, List.set_cons_succ]
                  first | (refine wpAnyH_take (i := 29) rfl (by kernel_rfl) (by kernel_rfl) (by kernel_rfl) (fun _ _ _ h => h) (Or.inr ⟨by rfl, rfl⟩) hHeld ?_) | (refine wpAnyH_ready (rs := [29]) (by kernel_rfl) (by simp) ?_; refine AllReadyH.cons rfl (fun K hK => ?_) AllReadyH.nil; go_simp; (first | (go_at_call 14; refine (HD2.out _ RD.out).mono ?_; rintro e w5 ⟨rfl, hm5, ho5⟩; have R5 := Lib.hid (RD.out.turn ho5 hm5)) | (go_at_call 15; with_reducible refine (HE3.out _ R5.out).mono ?_; rintro e w6 ⟨rfl, hb6⟩; have R6 := Lib.hid (R5.out.keep hb6)) | (go_at_call 17; with_reducible refine (HH3.out _ R6.out).mono ?_; rintro e w7 ⟨rfl, hb7⟩; have R7 := Lib.hid (R6.out.keep hb7)) | (go_at_call 13; refine (HT3.out _ R7.out).mono ?_; rintro e w8 ⟨rfl, hm8, ho8⟩; have R8 := Lib.hid (R7.out.turn ho8 hm8)) | (go_at_call 15; with_reducible refine (HE4.out _ R8.out).mono ?_; rintro e w9 ⟨rfl, hb9⟩; have R9 := Lib.hid (R8.out.keep hb9)) | (go_at_call 16; refine (HL4.out _ R9.out).mono ?_; rintro e w' ⟨rfl, rfl⟩) | (go_at_call 15; with_reducible refine (HE5.out _ R9.out).mono ?_; rintro e w10 ⟨rfl, hb10⟩; have R10 := Lib.hid (R9.out.keep hb10)) | (go_at_call 7; refine (C8.out _).mono ?_; rintro e w11 ⟨rfl, hb11⟩)); (try go_wp2_with fail); refine hK.out _ _ ?_ (fun hHeld' => ?_); (focus (first | exact hS _ _ _ R10.out | exact hS _ _ _ R9.out | exact hS _ _ _ R8.out | exact hS _ _ _ R7.out | exact hS _ _ _ R6.out | exact hS _ _ _ R5.out | exact hS _ _ _ (R10.out.keep hb11))); clear hK K; replace hHeld := hHeld'; clear hHeld')
                  try simp only [Act.put, List.getElem_toArray, List.getElem_cons_succ, List.getElem_cons_zero, List.setIfInBounds_toArray, List.set_cons_zero, List.set_cons_succ]
                  (refine wpAnyH_take (i := 30) (v := ?_) rfl (by kernel_rfl) (by kernel_rfl) (by kernel_rfl) (fun _ _ _ h => h) (Or.inl ⟨by rfl, ?_⟩) hHeld ?_; rotate_left; focus (intro w hSw; (try dsimp only at hSw); go_simp; (try with_reducible rfl)))
                  try simp only [Act.put, List.getElem_toArray, List.getElem_cons_succ, List.getElem_cons_zero, List.setIfInBounds_toArray, List.set_cons_zero, List.set_cons_succ]
                  (refine wpAnyH_take (i := 31) (v := ?_) rfl (by kernel_rfl) (by kernel_rfl) (by kernel_rfl) (fun _ _ _ h => h) (Or.inl ⟨by rfl, ?_⟩) hHeld ?_; rotate_left; focus (intro w hSw; (try dsimp only at hSw); go_simp; (try with_reducible rfl)))
                  try simp only [Act.put, List.getElem_toArray, List.getElem_cons_succ, List.getElem_cons_zero, List.setIfInBounds_toArray, List.set_cons_zero, List.set_cons_succ]
                  first | (refine wpAnyH_take (i := 32) rfl (by kernel_rfl) (by kernel_rfl) (by kernel_rfl) (fun _ _ _ h => h) (Or.inr ⟨by rfl, rfl⟩) hHeld ?_) | (refine wpAnyH_take (i := 32) (v := ?_) rfl (by kernel_rfl) (by kernel_rfl) (by kernel_rfl) (fun _ _ _ h => h) (Or.inl ⟨by rfl, ?_⟩) hHeld ?_; rotate_left; focus (intro w hSw; (try dsimp only at hSw); go_simp; (try with_reducible rfl)))
                  try simp only [Act.put, List.getElem_toArray, List.getElem_cons_succ, List.getElem_cons_zero, List.setIfInBounds_toArray, List.set_cons_zero, List.set_cons_succ]
                  first | (refine wpAnyH_take (i := 33) rfl (by kernel_rfl) (by kernel_rfl) (by kernel_rfl) (fun _ _ _ h => h) (Or.inr ⟨by rfl, rfl⟩) hHeld ?_) | (refine wpAnyH_take (i := 33) (v := ?_) rfl (by kernel_rfl) (by kernel_rfl) (by kernel_rfl) (fun _ _ _ h => h) (Or.inl ⟨by rfl, ?_⟩) hHeld ?_; rotate_left; focus (intro w hSw; (try dsimp only at hSw); go_simp; (try with_reducible rfl)))
                  try simp only [Act.put, List.getElem_toArray, List.getElem_cons_succ, List.getElem_cons_zero, List.setIfInBounds_toArray, List.set_cons_zero, List.set_cons_succ]
                  first | (refine wpAnyH_take (i := 34) rfl (by kernel_rfl) (by kernel_rfl) (by kernel_rfl) (fun _ _ _ h => h) (Or.inr ⟨by rfl, rfl⟩) hHeld ?_) | (refine wpAnyH_take (i := 34) (v := ?_) rfl (by kernel_rfl) (by kernel_rfl) (by kernel_rfl) (fun _ _ _ h => h) (Or.inl ⟨by rfl, ?_⟩) hHeld ?_; rotate_left; focus (intro w hSw; (try dsimp only at hSw); go_simp; (try with_reducible rfl)))
                  try simp only [Act.put, List.getElem_toArray, List.getElem_cons_succ, List.getElem_cons_zero, List.setIfInBounds_toArray, List.set_cons_zero, List.set_cons_succ]
                  first | (refine wpAnyH_take (i := 35) rfl (by kernel_rfl) (by kernel_rfl) (by kernel_rfl) (fun _ _ _ h => h) (Or.inr ⟨by rfl, rfl⟩) hHeld ?_) | (refine wpAnyH_take (i := 35) (v := ?_) rfl (by kernel_rfl) (by kernel_rfl) (by kernel_rfl) (fun _ _ _ h => h) (Or.inl ⟨by rfl, ?_⟩) hHeld ?_; rotate_left; focus (intro w hSw; (try dsimp only at hSw); go_simp; (try with_reducible rfl)))
                  try simp only [Act.put, List.getElem_toArray, List.getElem_cons_succ, List.getElem_cons_zero, List.setIfInBounds_toArray, List.set_cons_zero, List.set_cons_succ]
                  first | (refine wpAnyH_take (i := 36) rfl (by kernel_rfl) (by kernel_rfl) (by kernel_rfl) (fun _ _ _ h => h) (Or.inr ⟨by rfl, rfl⟩) hHeld ?_) | (refine wpAnyH_ready (rs := [36]) (by kernel_rfl) (by simp) ?_; refine AllReadyH.cons rfl (fun K hK => ?_) AllReadyH.nil; go_simp; (first | (go_at_call 14; refine (HD2.out _ RD.out).mono ?_; rintro e w5 ⟨rfl, hm5, ho5⟩; have R5 := Lib.hid (RD.out.turn ho5 hm5)) | (go_at_call 15; with_reducible refine (HE3.out _ R5.out).mono ?_; rintro e w6 ⟨rfl, hb6⟩; have R6 := Lib.hid (R5.out.keep hb6)) | (go_at_call 17; with_reducible refine (HH3.out _ R6.out).mono ?_; rintro e w7 ⟨rfl, hb7⟩; have R7 := Lib.hid (R6.out.keep hb7)) | (go_at_call 13; refine (HT3.out _ R7.out).mono ?_; rintro e w8 ⟨rfl, hm8, ho8⟩; have R8 := Lib.hid (R7.out.turn ho8 hm8)) | (go_at_call 15; with_reducible refine (HE4.out _ R8.out).mono ?_; rintro e w9 ⟨rfl, hb9⟩; have R9 := Lib.hid (R8.out.keep hb9)) | (go_at_call 16; refine (HL4.out _ R9.out).mono ?_; rintro e w' ⟨rfl, rfl⟩) | (go_at_call 15; with_reducible refine (HE5.out _ R9.out).mono ?_; rintro e w10 ⟨rfl, hb10⟩; have R10 := Lib.hid (R9.out.keep hb10)) | (go_at_call 7; refine (C8.out _).mono ?_; rintro e w11 ⟨rfl, hb11⟩)); (try go_wp2_with fail); refine hK.out _ _ ?_ (fun hHeld' => ?_); (focus (first | exact hS _ _ _ R10.out | exact hS _ _ _ R9.out | exact hS _ _ _ R8.out | exact hS _ _ _ R7.out | exact hS _ _ _ R6.out | exact hS _ _ _ R5.out | exact hS _ _ _ (R10.out.keep hb11))); clear hK K; replace hHeld := hHeld'; clear hHeld')
                  try simp only [Act.put, List.getElem_toArray, List.getElem_cons_succ, List.getElem_cons_zero, List.setIfInBounds_toArray, List.set_cons_zero, List.set_cons_succ]
                  first | (refine wpAnyH_take (i := 37) rfl (by kernel_rfl) (by kernel_rfl) (by kernel_rfl) (fun _ _ _ h => h) (Or.inr ⟨by rfl, rfl⟩) hHeld ?_) | (refine wpAnyH_take (i := 37) (v := ?_) rfl (by kernel_rfl) (by kernel_rfl) (by kernel_rfl) (fun _ _ _ h => h) (Or.inl ⟨by rfl, ?_⟩) hHeld ?_; rotate_left; focus (intro w hSw; (try dsimp only at hSw); go_simp; (try with_reducible rfl)))
                  try simp only [Act.put, List.getElem_toArray, List.getElem_cons_succ, List.getElem_cons_zero, List.setIfInBounds_toArray, List.set_cons_zero, List.set_cons_succ]
                  (refine wpAnyH_take (i := 38) (v := ?_) rfl (by kernel_rfl) (by kernel_rfl) (by kernel_rfl) (fun _ _ _ h => h) (Or.inl ⟨by rfl, ?_⟩) hHeld ?_; rotate_left; focus (intro w hSw; (try dsimp only at hSw); go_simp; (try with_reducible rfl)))
                  try simp only [Act.put, List.getElem_toArray, List.getElem_cons_succ, List.getElem_cons_zero, List.setIfInBounds_toArray, List.set_cons_zero, List.set_cons_succ]
                  (refine wpAnyH_take (i := 39) (v := ?_) rfl (by kernel_rfl) (by kernel_rfl) (by kernel_rfl) (fun _ _ _ h => h) (Or.inl ⟨by rfl, ?_⟩) hHeld ?_; rotate_left; focus (intro w hSw; (try dsimp only at hSw); go_simp; (try with_reducible rfl)))
                  try simp only [Act.put, List.getElem_toArray, List.getElem_cons_succ, List.getElem_cons_zero, List.setIfInBounds_toArray, List.set_cons_zero, List.set_cons_succ]
                  first | (refine wpAnyH_take (i := 40) rfl (by kernel_rfl) (by kernel_rfl) (by kernel_rfl) (fun _ _ _ h => h) (Or.inr ⟨by rfl, rfl⟩) hHeld ?_) | (refine wpAnyH_take (i := 40) (v := ?_) rfl (by kernel_rfl) (by kernel_rfl) (by kernel_rfl) (fun _ _ _ h => h) (Or.inl ⟨by rfl, ?_⟩) hHeld ?_; rotate_left; focus (intro w hSw; (try dsimp only at hSw); go_simp; (try with_reducible rfl)))
                  try simp only [Act.put, List.getElem_toArray, List.getElem_cons_succ, List.getElem_cons_zero, List.setIfInBounds_toArray, List.set_cons_zero, List.set_cons_succ]
                  first | (refine wpAnyH_take (i := 41) rfl (by kernel_rfl) (by kernel_rfl) (by kernel_rfl) (fun _ _ _ h => h) (Or.inr ⟨by rfl, rfl⟩) hHeld ?_) | (refine wpAnyH_take (i := 41) (v := ?_) rfl (by kernel_rfl) (by kernel_rfl) (by kernel_rfl) (fun _ _ _ h => h) (Or.inl ⟨by rfl, ?_⟩) hHeld ?_; rotate_left; focus (intro w hSw; (try dsimp only at hSw); go_simp; (try with_reducible rfl)))
                  try simp only [Act.put, List.getElem_toArray, List.getElem_cons_succ, List.getElem_cons_zero, List.setIfInBounds_toArray, List.set_cons_zero, List.set_cons_succ]
                  first | (refine wpAnyH_take (i := 42) rfl (by kernel_rfl) (by kernel_rfl) (by kernel_rfl) (fun _ _ _ h => h) (Or.inr ⟨by rfl, rfl⟩) hHeld ?_) | (refine wpAnyH_take (i := 42) (v := ?_) rfl (by kernel_rfl) (by kernel_rfl) (by kernel_rfl) (fun _ _ _ h => h) (Or.inl ⟨by rfl, ?_⟩) hHeld ?_; rotate_left; focus (intro w hSw; (try dsimp only at hSw); go_simp; (try with_reducible rfl)))
                  try simp only [Act.put, List.getElem_toArray, List.getElem_cons_succ, List.getElem_cons_zero, List.setIfInBounds_toArray, List.set_cons_zero, List.set_cons_succ]
                  first | (refine wpAnyH_take (i := 43) rfl (by kernel_rfl) (by kernel_rfl) (by kernel_rfl) (fun _ _ _ h => h) (Or.inr ⟨by rfl, rfl⟩) hHeld ?_) | (refine wpAnyH_take (i := 43) (v := ?_) rfl (by kernel_rfl) (by kernel_rfl) (by kernel_rfl) (fun _ _ _ h => h) (Or.inl ⟨by rfl, ?_⟩) hHeld ?_; rotate_left; focus (intro w hSw; (try dsimp only at hSw); go_simp; (try with_reducible rfl)))
                  try simp only [Act.put, List.getElem_toArray, List.getElem_cons_succ, List.getElem_cons_zero, List.setIfInBounds_toArray, List.set_cons_zero, List.set_cons_succ]
                  first | (refine wpAnyH_take (i := 44) rfl (by kernel_rfl) (by kernel_rfl) (by kernel_rfl) (fun _ _ _ h => h) (Or.inr ⟨by rfl, rfl⟩) hHeld ?_) | (refine wpAnyH_take (i := 44) (v := ?_) rfl (by kernel_rfl) (by kernel_rfl) (by kernel_rfl) (fun _ _ _ h => h) (Or.inl ⟨by rfl, ?_⟩) hHeld ?_; rotate_left; focus (intro w hSw; (try dsimp only at hSw); go_simp; (try with_reducible rfl)))
                  try simp only [Act.put, List.getElem_toArray, List.getElem_cons_succ, List.getElem_cons_zero, List.setIfInBounds_toArray, List.set_cons_zero, List.set_cons_succ]
                  first | (refine wpAnyH_take (i := 45) rfl (by kernel_rfl) (by kernel_rfl) (by kernel_rfl) (fun _ _ _ h => h) (Or.inr ⟨by rfl, rfl⟩) hHeld ?_) | (refine wpAnyH_take (i := 45) (v := ?_) rfl (by kernel_rfl) (by kernel_rfl) (by kernel_rfl) (fun _ _ _ h => h) (Or.inl ⟨by rfl, ?_⟩) hHeld ?_; rotate_left; focus (intro w hSw; (try dsimp only at hSw); go_simp; (try with_reducible rfl)))
                  try simp only [Act.put, List.getElem_toArray, List.getElem_cons_succ, List.getElem_cons_zero, List.setIfInBounds_toArray, List.set_cons_zero, List.set_cons_succ]
                  first | (refine wpAnyH_take (i := 46) rfl (by kernel_rfl) (by kernel_rfl) (by kernel_rfl) (fun _ _ _ h => h) (Or.inr ⟨by rfl, rfl⟩) hHeld ?_) | (refine wpAnyH_take (i := 46) (v := ?_) rfl (by kernel_rfl) (by kernel_rfl) (by kernel_rfl) (fun _ _ _ h => h) (Or.inl ⟨by rfl, ?_⟩) hHeld ?_; rotate_left; focus (intro w hSw; (try dsimp only at hSw); go_simp; (try with_reducible rfl)))
                  try simp only [Act.put, List.getElem_toArray, List.getElem_cons_succ, List.getElem_cons_zero, List.setIfInBounds_toArray, List.set_cons_zero, List.set_cons_succ]
                  first | (refine wpAnyH_take (i := 47) rfl (by kernel_rfl) (by kernel_rfl) (by kernel_rfl) (fun _ _ _ h => h) (Or.inr ⟨by rfl, rfl⟩) hHeld ?_) | (refine wpAnyH_take (i := 47) (v := ?_) rfl (by kernel_rfl) (by kernel_rfl) (by kernel_rfl) (fun _ _ _ h => h) (Or.inl ⟨by rfl, ?_⟩) hHeld ?_; rotate_left; focus (intro w hSw; (try dsimp only at hSw); go_simp; (try with_reducible rfl)))
                  try simp only [Act.put, List.getElem_toArray, List.getElem_cons_succ, List.getElem_cons_zero, List.setIfInBounds_toArray, List.set_cons_zero, List.set_cons_succ]
                  first | (refine wpAnyH_take (i := 48) rfl (by kernel_rfl) (by kernel_rfl) (by kernel_rfl) (fun _ _ _ h => h) (Or.inr ⟨by rfl, rfl⟩) hHeld ?_) | (refine wpAnyH_ready (rs := [48]) (by kernel_rfl) (by simp) ?_; refine AllReadyH.cons rfl (fun K hK => ?_) AllReadyH.nil; go_simp; (first | (go_at_call 14; refine (HD2.out _ RD.out).mono ?_; rintro e w5 ⟨rfl, hm5, ho5⟩; have R5 := Lib.hid (RD.out.turn ho5 hm5)) | (go_at_call 15; with_reducible refine (HE3.out _ R5.out).mono ?_; rintro e w6 ⟨rfl, hb6⟩; have R6 := Lib.hid (R5.out.keep hb6)) | (go_at_call 17; with_reducible refine (HH3.out _ R6.out).mono ?_; rintro e w7 ⟨rfl, hb7⟩; have R7 := Lib.hid (R6.out.keep hb7)) | (go_at_call 13; refine (HT3.out _ R7.out).mono ?_; rintro e w8 ⟨rfl, hm8, ho8⟩; have R8 := Lib.hid (R7.out.turn ho8 hm8)) | (go_at_call 15; with_reducible refine (HE4.out _ R8.out).mono ?_; rintro e w9 ⟨rfl, hb9⟩; have R9 := Lib.hid (R8.out.keep hb9)) | (go_at_call 16; refine (HL4.out _ R9.out).mono ?_; rintro e w' ⟨rfl, rfl⟩) | (go_at_call 15; with_reducible refine (HE5.out _ R9.out).mono ?_; rintro e w10 ⟨rfl, hb10⟩; have R10 := Lib.hid (R9.out.keep hb10)) | (go_at_call 7; refine (C8.out _).mono ?_; rintro e w11 ⟨rfl, hb11⟩)); (try go_wp2_with fail); refine hK.out _ _ ?_ (fun hHeld' => ?_); (focus (first | exact hS _ _ _ R10.out | exact hS _ _ _ R9.out | exact hS _ _ _ R8.out | exact hS _ _ _ R7.out | exact hS _ _ _ R6.out | exact hS _ _ _ R5.out | exact hS _ _ _ (R10.out.keep hb11))); clear hK K; replace hHeld := hHeld'; clear hHeld')
                  try simp only [Act.put, List.getElem_toArray, List.getElem_cons_succ, List.getElem_cons_zero, List.setIfInBounds_toArray, List.set_cons_zero, List.set_cons_succ]
                  first | (refine wpAnyH_take (i := 49) rfl (by kernel_rfl) (by kernel_rfl) (by kernel_rfl) (fun _ _ _ h => h) (Or.inr ⟨by rfl, rfl⟩) hHeld ?_) | (refine wpAnyH_ready (rs := [49]) (by kernel_rfl) (by simp) ?_; refine AllReadyH.cons rfl (fun K hK => ?_) AllReadyH.nil; go_simp; (first | (go_at_call 14; refine (HD2.out _ RD.out).mono ?_; rintro e w5 ⟨rfl, hm5, ho5⟩; have R5 := Lib.hid (RD.out.turn ho5 hm5)) | (go_at_call 15; with_reducible refine (HE3.out _ R5.out).mono ?_; rintro e w6 ⟨rfl, hb6⟩; have R6 := Lib.hid (R5.out.keep hb6)) | (go_at_call 17; with_reducible refine (HH3.out _ R6.out).mono ?_; rintro e w7 ⟨rfl, hb7⟩; have R7 := Lib.hid (R6.out.keep hb7)) | (go_at_call 13; refine (HT3.out _ R7.out).mono ?_; rintro e w8 ⟨rfl, hm8, ho8⟩; have R8 := Lib.hid (R7.out.turn ho8 hm8)) | (go_at_call 15; with_reducible refine (HE4.out _ R8.out).mono ?_; rintro e w9 ⟨rfl, hb9⟩; have R9 := Lib.hid (R8.out.keep hb9)) | (go_at_call 16; refine (HL4.out _ R9.out).mono ?_; rintro e w' ⟨rfl, rfl⟩) | (go_at_call 15; with_reducible refine (HE5.out _ R9.out).mono ?_; rintro e w10 ⟨rfl, hb10⟩; have R10 := Lib.hid (R9.out.keep hb10)) | (go_at_call 7; refine (C8.out _).mono ?_; rintro e w11 ⟨rfl, hb11⟩)); (try go_wp2_with fail); refine hK.out _ _ ?_ (fun hHeld' => ?_); (focus (first | exact hS _ _ _ R10.out | exact hS _ _ _ R9.out | exact hS _ _ _ R8.out | exact hS _ _ _ R7.out | exact hS _ _ _ R6.out | exact hS _ _ _ R5.out | exact hS _ _ _ (R10.out.keep hb11))); clear hK K; replace hHeld := hHeld'; clear hHeld')
                  try simp only [Act.put, List.getElem_toArray, List.getElem_cons_succ, List.getElem_cons_zero, List.setIfInBounds_toArray, List.set_cons_zero, List.set_cons_succ]
                  (refine wpAnyH_take (i := 50) (v := ?_) rfl (by kernel_rfl) (by kernel_rfl) (by kernel_rfl) (fun _ _ _ h => h) (Or.inl ⟨by rfl, ?_⟩) hHeld ?_; rotate_left; focus (intro w hSw; (try dsimp only at hSw); go_simp; (try with_reducible rfl)))
                  try simp only [Act.put, List.getElem_toArray, List.getElem_cons_succ, List.getElem_cons_zero, List.setIfInBounds_toArray, List.set_cons_zero, List.set_cons_succ]
                  (refine wpAnyH_take (i := 51) (v := ?_) rfl (by kernel_rfl) (by kernel_rfl) (by kernel_rfl) (fun _ _ _ h => h) (Or.inl ⟨by rfl, ?_⟩) hHeld ?_; rotate_left; focus (intro w hSw; (try dsimp only at hSw); go_simp; (try with_reducible rfl)))
                  try simp only [Act.put, List.getElem_toArray, List.getElem_cons_succ, List.getElem_cons_zero, List.setIfInBounds_toArray, List.set_cons_zero, List.set_cons_succ]
                  first | (refine wpAnyH_take (i := 52) rfl (by kernel_rfl) (by kernel_rfl) (by kernel_rfl) (fun _ _ _ h => h) (Or.inr ⟨by rfl, rfl⟩) hHeld ?_) | (refine wpAnyH_ready (rs := [52]) (by kernel_rfl) (by simp) ?_; refine AllReadyH.cons rfl (fun K hK => ?_) AllReadyH.nil; go_simp; (first | (go_at_call 14; refine (HD2.out _ RD.out).mono ?_; rintro e w5 ⟨rfl, hm5, ho5⟩; have R5 := Lib.hid (RD.out.turn ho5 hm5)) | (go_at_call 15; with_reducible refine (HE3.out _ R5.out).mono ?_; rintro e w6 ⟨rfl, hb6⟩; have R6 := Lib.hid (R5.out.keep hb6)) | (go_at_call 17; with_reducible refine (HH3.out _ R6.out).mono ?_; rintro e w7 ⟨rfl, hb7⟩; have R7 := Lib.hid (R6.out.keep hb7)) | (go_at_call 13; refine (HT3.out _ R7.out).mono ?_; rintro e w8 ⟨rfl, hm8, ho8⟩; have R8 := Lib.hid (R7.out.turn ho8 hm8)) | (go_at_call 15; with_reducible refine (HE4.out _ R8.out).mono ?_; rintro e w9 ⟨rfl, hb9⟩; have R9 := Lib.hid (R8.out.keep hb9)) | (go_at_call 16; refine (HL4.out _ R9.out).mono ?_; rintro e w' ⟨rfl, rfl⟩) | (go_at_call 15; with_reducible refine (HE5.out _ R9.out).mono ?_; rintro e w10 ⟨rfl, hb10⟩; have R10 := Lib.hid (R9.out.keep hb10)) | (go_at_call 7; refine (C8.out _).mono ?_; rintro e w11 ⟨rfl, hb11⟩)); (try go_wp2_with fail); refine hK.out _ _ ?_ (fun hHeld' => ?_); (focus (first | exact hS _ _ _ R10.out | exact hS _ _ _ R9.out | exact hS _ _ _ R8.out | exact hS _ _ _ R7.out | exact hS _ _ _ R6.out | exact hS _ _ _ R5.out | exact hS _ _ _ (R10.out.keep hb11))); clear hK K; replace hHeld := hHeld'; clear hHeld')
                  try simp only [Act.put, List.getElem_toArray, List.getElem_cons_succ, List.getElem_cons_zero, List.setIfInBounds_toArray, List.set_cons_zero, List.set_cons_succ]
                  (refine wpAnyH_take (i := 53) (v := ?_) rfl (by kernel_rfl) (by kernel_rfl) (by kernel_rfl) (fun _ _ _ h => h) (Or.inl ⟨by rfl, ?_⟩) hHeld ?_; rotate_left; focus (intro w hSw; (try dsimp only at hSw); go_simp; (try with_reducible rfl)))
                  try simp only [Act.put, List.getElem_toArray, List.getElem_cons_succ, List.getElem_cons_zero, List.setIfInBounds_toArray, List.set_cons_zero, List.set_cons_succ]
                  (refine wpAnyH_take (i := 54) (v := ?_) rfl (by kernel_rfl) (by kernel_rfl) (by kernel_rfl) (fun _ _ _ h => h) (Or.inl ⟨by rfl, ?_⟩) hHeld ?_; rotate_left; focus (intro w hSw; (try dsimp only at hSw); go_simp; (try with_reducible rfl)))
                  try simp only [Act.put, List.getElem_toArray, List.getElem_cons_succ, List.getElem_cons_zero, List.setIfInBounds_toArray, List.set_cons_zero, List.set_cons_succ]
                  refine wpAnyH_done (by kernel_rfl) ?_ _
                  refine NoPanic.normal ?_
                  go_wp2_with fail
                  go_ret
                  exact ⟨rfl, by rw [HZ.out]; exact (R10.out.keep hb11).below⟩

theorem wardenParts_walk (B : Option Addr) (n cB : Nat) (hn : n ≤ 9223372036854775807) (O : Nat → OpW) (hO : ∀ i, i < n → OkOp (O i)) (o : OpW) (ho : OkOp o) (x y : Int) (hx : inI x) (hy : inI y) (w : World) (hrB : RowIs w B (n * 3) (fun i => opV (O (i / 3)) (i % 3))) :
    Calls Try.prog 5 #[.slice B n cB, .agg (rowOf 3 (opV o)), .agg #[.int .i64 x, .int .i64 y]] w fun e w' => e = .returned (.bool true) ∧ Below w.heap.size w w' := by
  by_cases hl : 60 < n
  · exact wardenParts_long B n cB o x y w hl hn
  · exact wardenParts_main B n cB O o x y w (by omega) hO ho hx hy hrB
end Go.Proofs.Ytlldhkcimlmaoaa
