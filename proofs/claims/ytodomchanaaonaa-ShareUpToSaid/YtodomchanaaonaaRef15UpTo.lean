/- burnbagref15.UpTo. -/
import Derived.Test.YtodomchanaaonaaRef15
import Derived.Test.YtodomchanaaonaaConfCalls
import Derived.Deep.RegionHeld3
namespace Go.Proofs.Ytodomchanaaonaa
open Go.ChangeShapes Go.WideShapes Go.ChangeAt Go.RowKit

def uptoB (c : Nat → Int) (l : Int) (o : Opr) : Bool := decide (0 ≤ lvl c o.th) && decide (lvl c o.th ≤ l)
set_option maxRecDepth 100000 in
set_option maxHeartbeats 4000000 in
theorem r15UpTo_any (A : Option Addr) (d : Nat) (L : List Opr) (hL : L.length ≤ 1000000) (hk : ∀ i, i < L.length → OkOpr (oprN L i)) (c : Nat → Int) (hc : Ok64 c) (l : Int) (w : World) (ha : LiesC w A (flatF opF L)) :
    Calls Try.prog 13 #[.slice A L.length d, .agg (rowOf 14 (ints c)), .int .i64 l] w fun e w' => ∃ v, e = .returned v ∧ LnIs w' v (keepUp (uptoB c l) L L.length).length (flatF opF (keepUp (uptoB c l) L L.length)) ∧ Far w.heap.size v ∧ Below w.heap.size w w' := by
  obtain ⟨i0, hi0, hz0, hz1, hz3⟩ := infoOpr
  have HA := Lib.hid ha
  have hkl := keepUp_len (uptoB c l) L
  have HK := Lib.hid hk
  have f14 := fold14 c
  have CL := Lib.hid (fun t ht W => rLevel_any c hc t ht W)
  clear ha hk
  generalize hn : L.length = n at *
  go_enter Try.func13, Try.ntmps13
  go_upto_region 1 with fail
  generalize hW : World.alloc _ _ = W
  have hr : Row W w.heap.size 41 14 (ints c) := by rw [← hW]; exact Row.new _ _ _ _ _ rfl
  have hB : Below w.heap.size w W := by rw [← hW]; exact (Below.refl _ _).alloc (Nat.le_refl _) _
  clear hW
  generalize hz : w.heap.size = a1 at *
  have HZ := Lib.hid hz; clear hz
  have HR0 := Lib.hid hr
  have HB0 := Lib.hid hB
  clear hr hB
  go_wp2_with fail
  go_loopw [7, 8] (fun v i wr => ∃ k : Nat, i = .int .i64 k ∧ k ≤ n ∧ OwnR W W.heap.size 35 16 v (keepUp (uptoB c l) L k).length (flatF opF (keepUp (uptoB c l) L k)) wr) (fun _ i _ => n - (intOf i).toNat)
  case atStart => exact ⟨0, rfl, Nat.zero_le _, Below.refl _ _, World.ownsRow_nil _ _ _ _, Nat.le_refl _⟩
  case round =>
    obtain ⟨k, rfl, hk, R⟩ := hrel
    have hkk := hkl k
    by_cases hlt : k < n
    · have hlw : LiesC W A (flatF opF L) := HA.out.keep (by rw [HZ.out]; exact HB0.out)
      obtain ⟨b1, off1, rfl, hb1, x1⟩ := (hlw.keep R.bel).atO (by omega)
      have hth : I64 (oprN L k).th := (HK.out k (by omega)).th
      have p0 : wr.cell? ⟨b1, off1 + k * 16, none⟩ = some (.int .i64 (oprN L k).th) := x1 k (by omega) 0 (by omega)
      have HC := Lib.hid (fun W => CL.out (oprN L k).th hth W)
      have HS : Hid (keepUp (uptoB c l) L (k + 1) = bif uptoB c l (oprN L k) then keepUp (uptoB c l) L k ++ [oprN L k] else keepUp (uptoB c l) L k) := Lib.hid rfl
      have HE : Hid (uptoB c l (oprN L k) = (decide (0 ≤ lvl c (oprN L k).th) && decide (lvl c (oprN L k).th ≤ l))) := Lib.hid rfl
      have hr := HR0.out.keep R.bel
      have hbw : Below a1 w wr := HB0.out.trans (R.bel.mono (by have := HB0.out.size; rw [HZ.out] at this; exact this))
      have hsz := R.le
      have HR := Lib.hid R
      have HX := Lib.hid x1
      clear x1 R hth hlw
      generalize ho : oprN L k = o at *
      have HO := Lib.hid ho; clear ho
      have hkeep : ∀ w1 w2 : World, Below w1.heap.size w1 w2 → (fun w' : World => (Below a1 w w' ∧ Row w' a1 41 14 (ints c) ∧ w'.cell? ⟨a1, 0, none⟩ = some (.int .i64 (c 0)) ∧ w'.cell? ⟨a1, 1, none⟩ = some (.int .i64 (c 1)) ∧ w'.cell? ⟨a1, 2, none⟩ = some (.int .i64 (c 2)) ∧ w'.cell? ⟨a1, 3, none⟩ = some (.int .i64 (c 3)) ∧ w'.cell? ⟨a1, 4, none⟩ = some (.int .i64 (c 4)) ∧ w'.cell? ⟨a1, 5, none⟩ = some (.int .i64 (c 5)) ∧ w'.cell? ⟨a1, 6, none⟩ = some (.int .i64 (c 6)) ∧ w'.cell? ⟨a1, 7, none⟩ = some (.int .i64 (c 7)) ∧ w'.cell? ⟨a1, 8, none⟩ = some (.int .i64 (c 8)) ∧ w'.cell? ⟨a1, 9, none⟩ = some (.int .i64 (c 9)) ∧ w'.cell? ⟨a1, 10, none⟩ = some (.int .i64 (c 10)) ∧ w'.cell? ⟨a1, 11, none⟩ = some (.int .i64 (c 11)) ∧ w'.cell? ⟨a1, 12, none⟩ = some (.int .i64 (c 12)) ∧ w'.cell? ⟨a1, 13, none⟩ = some (.int .i64 (c 13)) ∧ Below wr.heap.size wr w' ∧ w'.cell? ⟨b1, off1 + k * 16, none⟩ = some (.int .i64 o.th))) w1 → (fun w' : World => (Below a1 w w' ∧ Row w' a1 41 14 (ints c) ∧ w'.cell? ⟨a1, 0, none⟩ = some (.int .i64 (c 0)) ∧ w'.cell? ⟨a1, 1, none⟩ = some (.int .i64 (c 1)) ∧ w'.cell? ⟨a1, 2, none⟩ = some (.int .i64 (c 2)) ∧ w'.cell? ⟨a1, 3, none⟩ = some (.int .i64 (c 3)) ∧ w'.cell? ⟨a1, 4, none⟩ = some (.int .i64 (c 4)) ∧ w'.cell? ⟨a1, 5, none⟩ = some (.int .i64 (c 5)) ∧ w'.cell? ⟨a1, 6, none⟩ = some (.int .i64 (c 6)) ∧ w'.cell? ⟨a1, 7, none⟩ = some (.int .i64 (c 7)) ∧ w'.cell? ⟨a1, 8, none⟩ = some (.int .i64 (c 8)) ∧ w'.cell? ⟨a1, 9, none⟩ = some (.int .i64 (c 9)) ∧ w'.cell? ⟨a1, 10, none⟩ = some (.int .i64 (c 10)) ∧ w'.cell? ⟨a1, 11, none⟩ = some (.int .i64 (c 11)) ∧ w'.cell? ⟨a1, 12, none⟩ = some (.int .i64 (c 12)) ∧ w'.cell? ⟨a1, 13, none⟩ = some (.int .i64 (c 13)) ∧ Below wr.heap.size wr w' ∧ w'.cell? ⟨b1, off1 + k * 16, none⟩ = some (.int .i64 o.th))) w2 := fun w1 w2 hb h => by
        obtain ⟨h1, h2, -, -, -, -, -, -, -, -, -, -, -, -, -, -, h3, h4⟩ := h
        have g2 := h2.keep hb
        obtain ⟨v0, v1, v2, v3, v4, v5, v6, v7, v8, v9, v10, v11, v12, v13⟩ := conf_cells g2
        exact ⟨below_on h1 (Nat.le_of_eq HZ.out.symm) hb, g2, v0, v1, v2, v3, v4, v5, v6, v7, v8, v9, v10, v11, v12, v13, h3.trans (hb.mono h3.size), cell_keep hb h4⟩
      have HST : Hid ((fun w' : World => (Below a1 w w' ∧ Row w' a1 41 14 (ints c) ∧ w'.cell? ⟨a1, 0, none⟩ = some (.int .i64 (c 0)) ∧ w'.cell? ⟨a1, 1, none⟩ = some (.int .i64 (c 1)) ∧ w'.cell? ⟨a1, 2, none⟩ = some (.int .i64 (c 2)) ∧ w'.cell? ⟨a1, 3, none⟩ = some (.int .i64 (c 3)) ∧ w'.cell? ⟨a1, 4, none⟩ = some (.int .i64 (c 4)) ∧ w'.cell? ⟨a1, 5, none⟩ = some (.int .i64 (c 5)) ∧ w'.cell? ⟨a1, 6, none⟩ = some (.int .i64 (c 6)) ∧ w'.cell? ⟨a1, 7, none⟩ = some (.int .i64 (c 7)) ∧ w'.cell? ⟨a1, 8, none⟩ = some (.int .i64 (c 8)) ∧ w'.cell? ⟨a1, 9, none⟩ = some (.int .i64 (c 9)) ∧ w'.cell? ⟨a1, 10, none⟩ = some (.int .i64 (c 10)) ∧ w'.cell? ⟨a1, 11, none⟩ = some (.int .i64 (c 11)) ∧ w'.cell? ⟨a1, 12, none⟩ = some (.int .i64 (c 12)) ∧ w'.cell? ⟨a1, 13, none⟩ = some (.int .i64 (c 13)) ∧ Below wr.heap.size wr w' ∧ w'.cell? ⟨b1, off1 + k * 16, none⟩ = some (.int .i64 o.th))) wr.drew) := Lib.hid (by
        obtain ⟨v0, v1, v2, v3, v4, v5, v6, v7, v8, v9, v10, v11, v12, v13⟩ := conf_cells hr.drew
        exact ⟨hbw.drew, hr.drew, v0, v1, v2, v3, v4, v5, v6, v7, v8, v9, v10, v11, v12, v13, (Below.refl _ _).drew, p0⟩)
      have HBB : Hid (∀ w', (fun w' : World => (Below a1 w w' ∧ Row w' a1 41 14 (ints c) ∧ w'.cell? ⟨a1, 0, none⟩ = some (.int .i64 (c 0)) ∧ w'.cell? ⟨a1, 1, none⟩ = some (.int .i64 (c 1)) ∧ w'.cell? ⟨a1, 2, none⟩ = some (.int .i64 (c 2)) ∧ w'.cell? ⟨a1, 3, none⟩ = some (.int .i64 (c 3)) ∧ w'.cell? ⟨a1, 4, none⟩ = some (.int .i64 (c 4)) ∧ w'.cell? ⟨a1, 5, none⟩ = some (.int .i64 (c 5)) ∧ w'.cell? ⟨a1, 6, none⟩ = some (.int .i64 (c 6)) ∧ w'.cell? ⟨a1, 7, none⟩ = some (.int .i64 (c 7)) ∧ w'.cell? ⟨a1, 8, none⟩ = some (.int .i64 (c 8)) ∧ w'.cell? ⟨a1, 9, none⟩ = some (.int .i64 (c 9)) ∧ w'.cell? ⟨a1, 10, none⟩ = some (.int .i64 (c 10)) ∧ w'.cell? ⟨a1, 11, none⟩ = some (.int .i64 (c 11)) ∧ w'.cell? ⟨a1, 12, none⟩ = some (.int .i64 (c 12)) ∧ w'.cell? ⟨a1, 13, none⟩ = some (.int .i64 (c 13)) ∧ Below wr.heap.size wr w' ∧ w'.cell? ⟨b1, off1 + k * 16, none⟩ = some (.int .i64 o.th))) w' → Below wr.heap.size wr w') := Lib.hid (fun w' h => by
        obtain ⟨-, -, -, -, -, -, -, -, -, -, -, -, -, -, -, -, h3, -⟩ := h
        exact h3)
      clear hr hbw
      generalize keepUp (uptoB c l) L k = xs at *
      go_upto_region 5 with fail
      refine wp_region_noPanic ?_
      refine wp_region_held_drew (S := fun w' => (Below a1 w w' ∧ Row w' a1 41 14 (ints c) ∧ w'.cell? ⟨a1, 0, none⟩ = some (.int .i64 (c 0)) ∧ w'.cell? ⟨a1, 1, none⟩ = some (.int .i64 (c 1)) ∧ w'.cell? ⟨a1, 2, none⟩ = some (.int .i64 (c 2)) ∧ w'.cell? ⟨a1, 3, none⟩ = some (.int .i64 (c 3)) ∧ w'.cell? ⟨a1, 4, none⟩ = some (.int .i64 (c 4)) ∧ w'.cell? ⟨a1, 5, none⟩ = some (.int .i64 (c 5)) ∧ w'.cell? ⟨a1, 6, none⟩ = some (.int .i64 (c 6)) ∧ w'.cell? ⟨a1, 7, none⟩ = some (.int .i64 (c 7)) ∧ w'.cell? ⟨a1, 8, none⟩ = some (.int .i64 (c 8)) ∧ w'.cell? ⟨a1, 9, none⟩ = some (.int .i64 (c 9)) ∧ w'.cell? ⟨a1, 10, none⟩ = some (.int .i64 (c 10)) ∧ w'.cell? ⟨a1, 11, none⟩ = some (.int .i64 (c 11)) ∧ w'.cell? ⟨a1, 12, none⟩ = some (.int .i64 (c 12)) ∧ w'.cell? ⟨a1, 13, none⟩ = some (.int .i64 (c 13)) ∧ Below wr.heap.size wr w' ∧ w'.cell? ⟨b1, off1 + k * 16, none⟩ = some (.int .i64 o.th))) (by kernel_rfl) (HST.out) (fun hHeld => ?_)
      (refine wpAnyH_take (i := 0) (v := ?_) rfl (by kernel_rfl) (by kernel_rfl) (by kernel_rfl) (fun _ _ _ h => h) (Or.inl ⟨by rfl, ?_⟩) hHeld ?_; rotate_left; focus (intro w hSw; (try dsimp only at hSw); go_simp; (try with_reducible rfl)))
      try simp only [Act.put, List.getElem_toArray, List.getElem_cons_succ, List.getElem_cons_zero, List.setIfInBounds_toArray, List.set_cons_zero, List.set_cons_succ]
      (refine wpAnyH_take (i := 1) (v := ?_) rfl (by kernel_rfl) (by kernel_rfl) (by kernel_rfl) (fun _ _ _ h => h) (Or.inl ⟨by rfl, ?_⟩) hHeld ?_; rotate_left; focus (intro w hSw; (try dsimp only at hSw); go_simp; (try with_reducible rfl)))
      try simp only [Act.put, List.getElem_toArray, List.getElem_cons_succ, List.getElem_cons_zero, List.setIfInBounds_toArray, List.set_cons_zero, List.set_cons_succ]
      (refine wpAnyH_take (i := 2) (v := ?_) rfl (by kernel_rfl) (by kernel_rfl) (by kernel_rfl) (fun _ _ _ h => h) (Or.inl ⟨by rfl, ?_⟩) hHeld ?_; rotate_left; focus (intro w hSw; (try dsimp only at hSw); go_simp; (try with_reducible rfl)))
      try simp only [Act.put, List.getElem_toArray, List.getElem_cons_succ, List.getElem_cons_zero, List.setIfInBounds_toArray, List.set_cons_zero, List.set_cons_succ]
      (refine wpAnyH_take (i := 3) (v := ?_) rfl (by kernel_rfl) (by kernel_rfl) (by kernel_rfl) (fun _ _ _ h => h) (Or.inl ⟨by rfl, ?_⟩) hHeld ?_; rotate_left; focus (intro w hSw; (try dsimp only at hSw); go_simp; (try with_reducible rfl)))
      try simp only [Act.put, List.getElem_toArray, List.getElem_cons_succ, List.getElem_cons_zero, List.setIfInBounds_toArray, List.set_cons_zero, List.set_cons_succ]
      (refine wpAnyH_take (i := 4) (v := ?_) rfl (by kernel_rfl) (by kernel_rfl) (by kernel_rfl) (fun _ _ _ h => h) (Or.inl ⟨by rfl, ?_⟩) hHeld ?_; rotate_left; focus (intro w hSw; (try dsimp only at hSw); go_simp; (try with_reducible rfl)))
      try simp only [Act.put, List.getElem_toArray, List.getElem_cons_succ, List.getElem_cons_zero, List.setIfInBounds_toArray, List.set_cons_zero, List.set_cons_succ]
      (refine wpAnyH_take (i := 5) (v := ?_) rfl (by kernel_rfl) (by kernel_rfl) (by kernel_rfl) (fun _ _ _ h => h) (Or.inl ⟨by rfl, ?_⟩) hHeld ?_; rotate_left; focus (intro w hSw; (try dsimp only at hSw); go_simp; (try with_reducible rfl)))
      try simp only [Act.put, List.getElem_toArray, List.getElem_cons_succ, List.getElem_cons_zero, List.setIfInBounds_toArray, List.set_cons_zero, List.set_cons_succ]
      (refine wpAnyH_ready (rs := [6]) (by kernel_rfl) (by simp) ?_; refine AllReadyH.cons rfl (fun K hK => ?_) AllReadyH.nil; go_simp; (go_at_call 23; refine (HC.out _).mono ?_; rintro t w' ⟨rfl, hb⟩); (try go_wp2_with fail); refine hK.out _ _ ?_ (fun hHeld' => ?_); (focus (exact hkeep _ _ hb hHeld)); clear hK K; replace hHeld := hHeld'; clear hHeld')
      try simp only [Act.put, List.getElem_toArray, List.getElem_cons_succ, List.getElem_cons_zero, List.setIfInBounds_toArray, List.set_cons_zero, List.set_cons_succ]
      (refine wpAnyH_take (i := 7) (v := ?_) rfl (by kernel_rfl) (by kernel_rfl) (by kernel_rfl) (fun _ _ _ h => h) (Or.inl ⟨by rfl, ?_⟩) hHeld ?_; rotate_left; focus (intro w hSw; (try dsimp only at hSw); go_simp; (try with_reducible rfl)))
      try simp only [Act.put, List.getElem_toArray, List.getElem_cons_succ, List.getElem_cons_zero, List.setIfInBounds_toArray, List.set_cons_zero, List.set_cons_succ]
      refine wpAnyH_done (by kernel_rfl) ?_ _
      refine NoPanic.normal ?_
      have hbf := HBB.out _ hHeld
      have HR1 := Lib.hid (HR.out.keep hbf)
      obtain ⟨q0, q1, q2, q3, q4, q5, q6, q7, q8, q9, q10, q11, q12, q13, q14, q15⟩ := opr_cells (w := w') (b := b1) (o := off1 + k * 16) (x := o) (fun j hj => (hbf.cell (p := ⟨b1, off1 + k * 16 + j, none⟩) hb1).trans (by rw [← HO.out]; exact HX.out k (by omega) j hj))
      clear hHeld hb hbf HBB HST hkeep HX hb1 p0 f14 HC HR
      generalize lvl c o.th = q at *
      by_cases h1 : 0 ≤ q
      · by_cases h2 : q ≤ l
        · have HF : Hid (uptoB c l o = true) := Lib.hid (by rw [HE.out, decide_eq_true h1, decide_eq_true h2]; rfl)
          rw [HF.out] at HS
          go_wp2_with (at_builtin; refine wpList_append_own _ rfl _ _ 22 rfl W.heap.size 35 i0 (.agg (opF ⟨0, zeroC, zeroA, 0, 0⟩).toArray) 16 128 Try.underlying22 hi0 hz0 hz1 hz3 rfl (by decide) _ _ _ rfl (HR1.out.own.alloc _) ⟨w'.heap.size, 0, none⟩ 1 1 (opF o) rfl rfl (Cells.new w' (opF o).toArray 35).news (opF_one o) ?c3 ?c4 ?c5 ?_)
          case c3 => unfold maxLen; omega
          case c4 => omega
          case c5 => have := HR1.out.le; simp; omega
          intro v' w2 hown' hgrow _
          have HZZ := Lib.hid ((HR1.out.alloc _).grow hown' hgrow)
          clear hown' hgrow
          go_wp2_with fail
          go_roundw
          case rel => exact ⟨k + 1, by go_num, by omega, by rw [HS.out]; simp only [cond]; rw [List.length_append, flatF_append, flatF_single]; exact HZZ.out⟩
          case measure => simp [intOf]; omega
        · have HF : Hid (uptoB c l o = false) := Lib.hid (by rw [HE.out, decide_eq_false h2, Bool.and_false])
          rw [HF.out] at HS
          go_wp2_with fail
          go_roundw
          case rel => exact ⟨k + 1, by go_num, by omega, by rw [HS.out]; exact HR1.out⟩
          case measure => simp [intOf]; omega
      · have HF : Hid (uptoB c l o = false) := Lib.hid (by rw [HE.out, decide_eq_false h1, Bool.false_and])
        rw [HF.out] at HS
        go_wp2_with fail
        go_roundw
        case rel => exact ⟨k + 1, by go_num, by omega, by rw [HS.out]; exact HR1.out⟩
        case measure => simp [intOf]; omega
    · obtain rfl : k = n := by omega
      go_wp2_with fail
      go_ret
      have hs : a1 ≤ W.heap.size := by have := HB0.out.size; rw [HZ.out] at this; exact this
      exact ⟨_, rfl, lnIs_of_own R.own, (far_of_own R.own).mono (by rw [HZ.out]; exact hs), by rw [HZ.out]; exact HB0.out.trans (R.bel.mono hs)⟩
end Go.Proofs.Ytodomchanaaonaa
