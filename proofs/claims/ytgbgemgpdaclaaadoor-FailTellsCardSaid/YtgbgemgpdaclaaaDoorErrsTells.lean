/- The walk of law FailTells. -/
import Derived.Test.YtgbgemgpdaclaaaDoorErrsOf
import Derived.Test.YtgbgemgpdaclaaaDoorErrGreat
import Derived.Deep.RegionHeld3
namespace Go.Proofs.YtgbgemgpdaclaaaDoor
set_option linter.unusedSimpArgs false
open Go.ChangeShapes Go.WideShapes Go.RowKit

theorem fold5 (v : Value) (e : ErrS) : (#[.int .i64 e.t, .int .i64 e.l, .string (sB e.what), .int .i64 e.c, v] : Array Value) = rowOf 5 (errV v e) := rfl
/-- What the chain of a made error says. -/
theorem MadeR.text {e : ErrS} {k : Nat} {x : Errs} (h : MadeR e k x) : x.textE = textL e k := by
  rcases h with ⟨hc, rfl⟩ | ⟨hc, _, h1, _⟩
  · unfold textL; rw [decide_eq_true hc]; rfl
  · unfold textL; rw [decide_eq_false hc, h1]; rfl
theorem MadeR.code {e : ErrS} {k : Nat} {x : Errs} (h : MadeR e k x) : x.codeOf = e.c := by
  rcases h with ⟨hc, rfl⟩ | ⟨hc, hx, _, h2, _⟩
  · exact hc.symm
  · have : x.codeOf = x.codeIn.getD 14 := by cases x <;> first | rfl | exact absurd rfl hx
    rw [this, h2]; rfl
theorem MadeR.isOf {e : ErrS} {k : Nat} {x : Errs} (h : MadeR e k x) (c : Int) : x.isOf c = decide (c = e.c) := by
  rcases h with ⟨hc, rfl⟩ | ⟨hc, hx, _, h2, _⟩
  · show decide (c = 0) = _
    rw [hc]
  · have : x.isOf c = x.isC c := by cases x <;> first | rfl | exact absurd rfl hx
    rw [this]
    unfold Errs.isC
    rw [h2]
    simp [eq_comm]
theorem textL_len {e : ErrS} {n : Nat} (he : OkE e n) : (textL e n).length ≤ 20000 := by
  unfold textL
  have h := text_len he n (Nat.le_refl _)
  rw [sB_size] at h
  have := he.n40
  cases decide (e.c = 0)
  · show (textK e n).length ≤ 20000
    omega
  · show List.length [111, 107] ≤ 20000
    decide

set_option maxHeartbeats 8000000 in
theorem failTells_walk (A : Option Addr) (n cA : Nat) (e : ErrS) (k : Int) (hs : OkS e n) (bk : -9223372036854775808 ≤ k ∧ k ≤ 9223372036854775807) (W : World) (hr : RowIs W A n (fun i => .string (sB (e.notes i)))) (hg : ErrT W) (ht : TabW W) :
    Calls Tryd.prog 3 #[.agg (rowOf 5 (errV (.slice A n cA) e)), .int .i64 k] W fun r W' => r = .returned (.bool true) ∧ Below W.heap.size W W' := by
  have HG := Lib.hid hg; have HT := Lib.hid ht; have HS := Lib.hid hs; have HR := Lib.hid hr
  clear hg ht hs hr
  go_enter Tryd.func3, Tryd.ntmps3
  go_upto_region 1 with fail
  generalize hW1 : World.alloc _ _ = W1
  have hx : Row W1 W.heap.size 25 5 (errV (.slice A n cA) e) := by rw [← hW1]; exact Row.new _ _ _ _ _ rfl
  have hB : Below W.heap.size W W1 := by rw [← hW1]; exact (Below.refl _ _).alloc (Nat.le_refl _) _
  have hlt : W.heap.size < W1.heap.size := by rw [← hW1]; simp
  clear hW1
  have HB := Lib.hid hB; have HLT := Lib.hid hlt; have HX := Lib.hid hx
  obtain ⟨u0, u1, u2, u3, u4⟩ := err_cells hx
  have f5 := fold5 (.slice A n cA) e
  clear hx hB hlt
  go_wp2_with (go_at_call 6; refine (great_any A n cA e HS.out _ (HR.out.below HB.out)).mono ?_; rintro r w1 ⟨⟨rfl, hok⟩ | rfl, hb1⟩ <;> have HX1 := Lib.hid (HX.out.below hb1 HLT.out) <;> obtain ⟨v0, v1, v2, v3, v4⟩ := err_cells HX1.out <;> clear u0 u1 u2 u3 u4)
  · have d1 := HB.out.trans (hb1.mono (Nat.le_of_lt HLT.out))
    refine (of_any A n cA e hok _ (HR.out.below d1)).mono ?_
    rintro r w2 ⟨x, rfl, hm, hx, hb2⟩
    have d2 := d1.trans (hb2.mono d1.size)
    have HM := Lib.hid hm; have HO := Lib.hid hok
    by_cases hc : e.c = 0
    · have HC := Lib.hid hc
      obtain rfl := hm.no hc
      clear hc
      have HXV : Hid (Errs.no.val = .nilIface) := Lib.hid rfl
      have HW1 : Hid (Errs.no.wT = 0) := Lib.hid rfl
      have HW2 : Hid (Errs.no.wL = 0) := Lib.hid rfl
      have HW3 : Hid (Errs.no.placeIn.isSome = false) := Lib.hid rfl
      rw [HXV.out]
      generalize hno : Errs.no = x at *
      have HNO := Lib.hid hno; clear hno
      by_cases hk : k = e.c
      · have HK := Lib.hid hk; clear hk
        have CW := Lib.hid (where_any x w2 hx (HG.out.below d2))
        have CW' : Hid (Calls Tryd.prog 9 #[.nilIface] w2 fun r w' => r = .returned (.tuple #[.int .i64 0, .int .i64 0, .bool false]) ∧ Below w2.heap.size w2 w') := Lib.hid (by
          have h := CW.out
          rw [HXV.out, HW1.out, HW2.out, HW3.out] at h
          exact h)
        go_upto_region 5 with (go_at_call 9; with_reducible refine CW'.out.mono ?_; rintro r w3 ⟨rfl, hb3⟩)
        have d3 := d2.trans (hb3.mono d2.size)
        have HX3 := Lib.hid (hx.below hb3)
        have HR3 := Lib.hid (HR.out.below d3)
        have hrow := ((HX1.out.keep hb2).keep hb3)
        obtain ⟨g0, g1, g2, g3, g4⟩ := err_cells hrow
        have HD3 := Lib.hid d3
        have C1 : Hid (∀ w', Below w3.heap.size w3 w' → Calls Tryd.prog 10 #[.nilIface] w' fun r w'' => r = .returned (.string (sB (textL e n))) ∧ Below w'.heap.size w' w'') := Lib.hid (fun w' hb => by
          have h := text_any x w' (HX3.out.below hb) (HT.out.below (HD3.out.trans (hb.mono HD3.out.size))) (by rw [HM.out.text]; exact textL_len HO.out)
          rw [HM.out.text, HXV.out] at h
          exact h)
        have C2 : Hid (∀ w', Below w3.heap.size w3 w' → Calls Tryd.prog 11 #[.agg (rowOf 5 (errV (.slice A n cA) e))] w' fun r w'' => r = .returned (.string (sB (textL e n))) ∧ Below w'.heap.size w' w'') := Lib.hid (fun w' hb => rText_any A n cA e HO.out w' (HR3.out.below hb))
        have C3 : Hid (∀ w', Below w3.heap.size w3 w' → Calls Tryd.prog 12 #[.nilIface] w' fun r w'' => r = .returned (.int .i64 0) ∧ Below w'.heap.size w' w'') := Lib.hid (fun w' hb => by
          have h := code_any x w' (HX3.out.below hb) (HG.out.below (HD3.out.trans (hb.mono HD3.out.size)))
          rw [HM.out.code, HXV.out, HC.out] at h
          exact h)
        have C4 : Hid (∀ w', Below w3.heap.size w3 w' → Calls Tryd.prog 13 #[.nilIface, .int .i64 k] w' fun r w'' => r = .returned (.bool true) ∧ w' = w'') := Lib.hid (fun w' hb => by
          have h := fIs_any x k w' (HX3.out.below hb)
          rw [HM.out.isOf, HXV.out] at h
          rw [show decide (k = e.c) = true from decide_eq_true HK.out] at h
          exact h)
        rw [HC.out] at g3 f5
        have f5' := f5
        generalize hq3 : sB e.what = q3 at *
        generalize hQ : sB (textL e n) = Q at *
        obtain rfl : k = 0 := HK.out.trans HC.out
        generalize hz3 : w3.heap.size = a0 at *
        generalize hz1 : W.heap.size = a1 at *
        have HZ3 := Lib.hid hz3; have HZ1 := Lib.hid hz1
        have HLE : Hid (a1 ≤ a0) := Lib.hid (by have := HD3.out.size; omega)
        clear hz3 hz1 hq3 hQ
        have hst : (fun w' : World => Below a0 w3 w' ∧ w'.cell? ⟨a1, 0, none⟩ = some (.int .i64 e.t) ∧ w'.cell? ⟨a1, 1, none⟩ = some (.int .i64 e.l) ∧ w'.cell? ⟨a1, 2, none⟩ = some (.string q3) ∧ w'.cell? ⟨a1, 3, none⟩ = some (.int .i64 0) ∧ w'.cell? ⟨a1, 4, none⟩ = some (.slice A n cA)) w3.drew := ⟨(Below.refl _ _).drew, g0, g1, g2, g3, g4⟩
        have hkeep : ∀ w1 w2 : World, Below w1.heap.size w1 w2 → (fun w' : World => Below a0 w3 w' ∧ w'.cell? ⟨a1, 0, none⟩ = some (.int .i64 e.t) ∧ w'.cell? ⟨a1, 1, none⟩ = some (.int .i64 e.l) ∧ w'.cell? ⟨a1, 2, none⟩ = some (.string q3) ∧ w'.cell? ⟨a1, 3, none⟩ = some (.int .i64 0) ∧ w'.cell? ⟨a1, 4, none⟩ = some (.slice A n cA)) w1 → (fun w' : World => Below a0 w3 w' ∧ w'.cell? ⟨a1, 0, none⟩ = some (.int .i64 e.t) ∧ w'.cell? ⟨a1, 1, none⟩ = some (.int .i64 e.l) ∧ w'.cell? ⟨a1, 2, none⟩ = some (.string q3) ∧ w'.cell? ⟨a1, 3, none⟩ = some (.int .i64 0) ∧ w'.cell? ⟨a1, 4, none⟩ = some (.slice A n cA)) w2 := fun w1 w2 hb h =>
          ⟨below_on h.1 (Nat.le_of_eq HZ3.out.symm) hb, cell_keep hb h.2.1, cell_keep hb h.2.2.1, cell_keep hb h.2.2.2.1, cell_keep hb h.2.2.2.2.1, cell_keep hb h.2.2.2.2.2⟩
        have HST := Lib.hid hst
        clear hst g0 g1 g2 g3 g4 hrow hb1 hb2 hb3 d1 d2 d3 hm hx hok CW CW' v0 v1 v2 v3 v4
        refine wp_region_noPanic ?_
        refine wp_region_held_drew (S := fun w' => Below a0 w3 w' ∧ w'.cell? ⟨a1, 0, none⟩ = some (.int .i64 e.t) ∧ w'.cell? ⟨a1, 1, none⟩ = some (.int .i64 e.l) ∧ w'.cell? ⟨a1, 2, none⟩ = some (.string q3) ∧ w'.cell? ⟨a1, 3, none⟩ = some (.int .i64 0) ∧ w'.cell? ⟨a1, 4, none⟩ = some (.slice A n cA)) (by kernel_rfl) (HST.out) (fun hHeld => ?_)
        (refine wpAnyH_take (i := 0) (v := ?_) rfl (by kernel_rfl) (by kernel_rfl) (by kernel_rfl) (fun _ _ _ h => h) (Or.inl ⟨by rfl, ?_⟩) hHeld ?_; rotate_left; focus (intro w hSw; (try dsimp only at hSw); go_simp; (try with_reducible rfl)))
        try simp only [Act.put, List.getElem_toArray, List.getElem_cons_succ, List.getElem_cons_zero, List.setIfInBounds_toArray, List.set_cons_zero, List.set_cons_succ]
        (refine wpAnyH_take (i := 2) (v := ?_) rfl (by kernel_rfl) (by kernel_rfl) (by kernel_rfl) (fun _ _ _ h => h) (Or.inl ⟨by rfl, ?_⟩) hHeld ?_; rotate_left; focus (intro w hSw; (try dsimp only at hSw); go_simp; (try with_reducible rfl)))
        try simp only [Act.put, List.getElem_toArray, List.getElem_cons_succ, List.getElem_cons_zero, List.setIfInBounds_toArray, List.set_cons_zero, List.set_cons_succ]
        (refine wpAnyH_ready (rs := [1]) (by kernel_rfl) (by simp) ?_; refine AllReadyH.cons rfl (fun K hK => ?_) AllReadyH.nil; go_simp; (first | (go_at_call 10; with_reducible refine (C1.out _ hHeld.1).mono ?_; rintro r w' ⟨rfl, hb⟩) | (go_at_call 11; with_reducible refine (C2.out _ hHeld.1).mono ?_; rintro r w' ⟨rfl, hb⟩) | (go_at_call 12; with_reducible refine (C3.out _ hHeld.1).mono ?_; rintro r w' ⟨rfl, hb⟩) | (go_at_call 13; with_reducible refine (C4.out _ hHeld.1).mono ?_; rintro r w' ⟨rfl, rfl⟩)); (try go_wp2_with fail); refine hK.out _ _ ?_ (fun hHeld' => ?_); (focus (first | exact hkeep _ _ hb hHeld | exact hHeld)); clear hK K; replace hHeld := hHeld'; clear hHeld')
        try simp only [Act.put, List.getElem_toArray, List.getElem_cons_succ, List.getElem_cons_zero, List.setIfInBounds_toArray, List.set_cons_zero, List.set_cons_succ]
        (refine wpAnyH_ready (rs := [3]) (by kernel_rfl) (by simp) ?_; refine AllReadyH.cons rfl (fun K hK => ?_) AllReadyH.nil; go_simp; (first | (go_at_call 10; with_reducible refine (C1.out _ hHeld.1).mono ?_; rintro r w' ⟨rfl, hb⟩) | (go_at_call 11; with_reducible refine (C2.out _ hHeld.1).mono ?_; rintro r w' ⟨rfl, hb⟩) | (go_at_call 12; with_reducible refine (C3.out _ hHeld.1).mono ?_; rintro r w' ⟨rfl, hb⟩) | (go_at_call 13; with_reducible refine (C4.out _ hHeld.1).mono ?_; rintro r w' ⟨rfl, rfl⟩)); (try go_wp2_with fail); refine hK.out _ _ ?_ (fun hHeld' => ?_); (focus (first | exact hkeep _ _ hb hHeld | exact hHeld)); clear hK K; replace hHeld := hHeld'; clear hHeld')
        try simp only [Act.put, List.getElem_toArray, List.getElem_cons_succ, List.getElem_cons_zero, List.setIfInBounds_toArray, List.set_cons_zero, List.set_cons_succ]
        (refine wpAnyH_take (i := 4) (v := ?_) rfl (by kernel_rfl) (by kernel_rfl) (by kernel_rfl) (fun _ _ _ h => h) (Or.inl ⟨by rfl, ?_⟩) hHeld ?_; rotate_left; focus (intro w hSw; (try dsimp only at hSw); go_simp; (try with_reducible rfl)))
        try simp only [Act.put, List.getElem_toArray, List.getElem_cons_succ, List.getElem_cons_zero, List.setIfInBounds_toArray, List.set_cons_zero, List.set_cons_succ]
        (refine wpAnyH_take (i := 5) (v := ?_) rfl (by kernel_rfl) (by kernel_rfl) (by kernel_rfl) (fun _ _ _ h => h) (Or.inl ⟨by rfl, ?_⟩) hHeld ?_; rotate_left; focus (intro w hSw; (try dsimp only at hSw); go_simp; (try with_reducible rfl)))
        try simp only [Act.put, List.getElem_toArray, List.getElem_cons_succ, List.getElem_cons_zero, List.setIfInBounds_toArray, List.set_cons_zero, List.set_cons_succ]
        first | (refine wpAnyH_take (i := 6) rfl (by kernel_rfl) (by kernel_rfl) (by kernel_rfl) (fun _ _ _ h => h) (Or.inr ⟨by rfl, rfl⟩) hHeld ?_) | (refine wpAnyH_take (i := 6) (v := ?_) rfl (by kernel_rfl) (by kernel_rfl) (by kernel_rfl) (fun _ _ _ h => h) (Or.inl ⟨by rfl, ?_⟩) hHeld ?_; rotate_left; focus (intro w hSw; (try dsimp only at hSw); go_simp; (try with_reducible rfl)))
        try simp only [Act.put, List.getElem_toArray, List.getElem_cons_succ, List.getElem_cons_zero, List.setIfInBounds_toArray, List.set_cons_zero, List.set_cons_succ]
        first | (refine wpAnyH_take (i := 8) rfl (by kernel_rfl) (by kernel_rfl) (by kernel_rfl) (fun _ _ _ h => h) (Or.inr ⟨by rfl, rfl⟩) hHeld ?_) | (refine wpAnyH_take (i := 8) (v := ?_) rfl (by kernel_rfl) (by kernel_rfl) (by kernel_rfl) (fun _ _ _ h => h) (Or.inl ⟨by rfl, ?_⟩) hHeld ?_; rotate_left; focus (intro w hSw; (try dsimp only at hSw); go_simp; (try with_reducible rfl)))
        try simp only [Act.put, List.getElem_toArray, List.getElem_cons_succ, List.getElem_cons_zero, List.setIfInBounds_toArray, List.set_cons_zero, List.set_cons_succ]
        first | (refine wpAnyH_take (i := 9) rfl (by kernel_rfl) (by kernel_rfl) (by kernel_rfl) (fun _ _ _ h => h) (Or.inr ⟨by rfl, rfl⟩) hHeld ?_) | (refine wpAnyH_take (i := 9) (v := ?_) rfl (by kernel_rfl) (by kernel_rfl) (by kernel_rfl) (fun _ _ _ h => h) (Or.inl ⟨by rfl, ?_⟩) hHeld ?_; rotate_left; focus (intro w hSw; (try dsimp only at hSw); go_simp; (try with_reducible rfl)))
        try simp only [Act.put, List.getElem_toArray, List.getElem_cons_succ, List.getElem_cons_zero, List.setIfInBounds_toArray, List.set_cons_zero, List.set_cons_succ]
        first | (refine wpAnyH_take (i := 7) rfl (by kernel_rfl) (by kernel_rfl) (by kernel_rfl) (fun _ _ _ h => h) (Or.inr ⟨by rfl, rfl⟩) hHeld ?_) | (refine wpAnyH_ready (rs := [7]) (by kernel_rfl) (by simp) ?_; refine AllReadyH.cons rfl (fun K hK => ?_) AllReadyH.nil; go_simp; (first | (go_at_call 10; with_reducible refine (C1.out _ hHeld.1).mono ?_; rintro r w' ⟨rfl, hb⟩) | (go_at_call 11; with_reducible refine (C2.out _ hHeld.1).mono ?_; rintro r w' ⟨rfl, hb⟩) | (go_at_call 12; with_reducible refine (C3.out _ hHeld.1).mono ?_; rintro r w' ⟨rfl, hb⟩) | (go_at_call 13; with_reducible refine (C4.out _ hHeld.1).mono ?_; rintro r w' ⟨rfl, rfl⟩)); (try go_wp2_with fail); refine hK.out _ _ ?_ (fun hHeld' => ?_); (focus (first | exact hkeep _ _ hb hHeld | exact hHeld)); clear hK K; replace hHeld := hHeld'; clear hHeld')
        try simp only [Act.put, List.getElem_toArray, List.getElem_cons_succ, List.getElem_cons_zero, List.setIfInBounds_toArray, List.set_cons_zero, List.set_cons_succ]
        first | (refine wpAnyH_take (i := 10) rfl (by kernel_rfl) (by kernel_rfl) (by kernel_rfl) (fun _ _ _ h => h) (Or.inr ⟨by rfl, rfl⟩) hHeld ?_) | (refine wpAnyH_take (i := 10) (v := ?_) rfl (by kernel_rfl) (by kernel_rfl) (by kernel_rfl) (fun _ _ _ h => h) (Or.inl ⟨by rfl, ?_⟩) hHeld ?_; rotate_left; focus (intro w hSw; (try dsimp only at hSw); go_simp; (try with_reducible rfl)))
        try simp only [Act.put, List.getElem_toArray, List.getElem_cons_succ, List.getElem_cons_zero, List.setIfInBounds_toArray, List.set_cons_zero, List.set_cons_succ]
        (refine wpAnyH_take (i := 11) (v := ?_) rfl (by kernel_rfl) (by kernel_rfl) (by kernel_rfl) (fun _ _ _ h => h) (Or.inl ⟨by rfl, ?_⟩) hHeld ?_; rotate_left; focus (intro w hSw; (try dsimp only at hSw); go_simp; (try with_reducible rfl)))
        try simp only [Act.put, List.getElem_toArray, List.getElem_cons_succ, List.getElem_cons_zero, List.setIfInBounds_toArray, List.set_cons_zero, List.set_cons_succ]
        (refine wpAnyH_take (i := 12) (v := ?_) rfl (by kernel_rfl) (by kernel_rfl) (by kernel_rfl) (fun _ _ _ h => h) (Or.inl ⟨by rfl, ?_⟩) hHeld ?_; rotate_left; focus (intro w hSw; (try dsimp only at hSw); go_simp; (try with_reducible rfl)))
        try simp only [Act.put, List.getElem_toArray, List.getElem_cons_succ, List.getElem_cons_zero, List.setIfInBounds_toArray, List.set_cons_zero, List.set_cons_succ]
        first | (refine wpAnyH_take (i := 13) rfl (by kernel_rfl) (by kernel_rfl) (by kernel_rfl) (fun _ _ _ h => h) (Or.inr ⟨by rfl, rfl⟩) hHeld ?_) | (refine wpAnyH_take (i := 13) (v := ?_) rfl (by kernel_rfl) (by kernel_rfl) (by kernel_rfl) (fun _ _ _ h => h) (Or.inl ⟨by rfl, ?_⟩) hHeld ?_; rotate_left; focus (intro w hSw; (try dsimp only at hSw); go_simp; (try with_reducible rfl)))
        try simp only [Act.put, List.getElem_toArray, List.getElem_cons_succ, List.getElem_cons_zero, List.setIfInBounds_toArray, List.set_cons_zero, List.set_cons_succ]
        first | (refine wpAnyH_take (i := 14) rfl (by kernel_rfl) (by kernel_rfl) (by kernel_rfl) (fun _ _ _ h => h) (Or.inr ⟨by rfl, rfl⟩) hHeld ?_) | (refine wpAnyH_take (i := 14) (v := ?_) rfl (by kernel_rfl) (by kernel_rfl) (by kernel_rfl) (fun _ _ _ h => h) (Or.inl ⟨by rfl, ?_⟩) hHeld ?_; rotate_left; focus (intro w hSw; (try dsimp only at hSw); go_simp; (try with_reducible rfl)))
        try simp only [Act.put, List.getElem_toArray, List.getElem_cons_succ, List.getElem_cons_zero, List.setIfInBounds_toArray, List.set_cons_zero, List.set_cons_succ]
        first | (refine wpAnyH_take (i := 16) rfl (by kernel_rfl) (by kernel_rfl) (by kernel_rfl) (fun _ _ _ h => h) (Or.inr ⟨by rfl, rfl⟩) hHeld ?_) | (refine wpAnyH_take (i := 16) (v := ?_) rfl (by kernel_rfl) (by kernel_rfl) (by kernel_rfl) (fun _ _ _ h => h) (Or.inl ⟨by rfl, ?_⟩) hHeld ?_; rotate_left; focus (intro w hSw; (try dsimp only at hSw); go_simp; (try with_reducible rfl)))
        try simp only [Act.put, List.getElem_toArray, List.getElem_cons_succ, List.getElem_cons_zero, List.setIfInBounds_toArray, List.set_cons_zero, List.set_cons_succ]
        first | (refine wpAnyH_take (i := 17) rfl (by kernel_rfl) (by kernel_rfl) (by kernel_rfl) (fun _ _ _ h => h) (Or.inr ⟨by rfl, rfl⟩) hHeld ?_) | (refine wpAnyH_take (i := 17) (v := ?_) rfl (by kernel_rfl) (by kernel_rfl) (by kernel_rfl) (fun _ _ _ h => h) (Or.inl ⟨by rfl, ?_⟩) hHeld ?_; rotate_left; focus (intro w hSw; (try dsimp only at hSw); go_simp; (try with_reducible rfl)))
        try simp only [Act.put, List.getElem_toArray, List.getElem_cons_succ, List.getElem_cons_zero, List.setIfInBounds_toArray, List.set_cons_zero, List.set_cons_succ]
        first | (refine wpAnyH_take (i := 18) rfl (by kernel_rfl) (by kernel_rfl) (by kernel_rfl) (fun _ _ _ h => h) (Or.inr ⟨by rfl, rfl⟩) hHeld ?_) | (refine wpAnyH_take (i := 18) (v := ?_) rfl (by kernel_rfl) (by kernel_rfl) (by kernel_rfl) (fun _ _ _ h => h) (Or.inl ⟨by rfl, ?_⟩) hHeld ?_; rotate_left; focus (intro w hSw; (try dsimp only at hSw); go_simp; (try with_reducible rfl)))
        try simp only [Act.put, List.getElem_toArray, List.getElem_cons_succ, List.getElem_cons_zero, List.setIfInBounds_toArray, List.set_cons_zero, List.set_cons_succ]
        first | (refine wpAnyH_take (i := 19) rfl (by kernel_rfl) (by kernel_rfl) (by kernel_rfl) (fun _ _ _ h => h) (Or.inr ⟨by rfl, rfl⟩) hHeld ?_) | (refine wpAnyH_take (i := 19) (v := ?_) rfl (by kernel_rfl) (by kernel_rfl) (by kernel_rfl) (fun _ _ _ h => h) (Or.inl ⟨by rfl, ?_⟩) hHeld ?_; rotate_left; focus (intro w hSw; (try dsimp only at hSw); go_simp; (try with_reducible rfl)))
        try simp only [Act.put, List.getElem_toArray, List.getElem_cons_succ, List.getElem_cons_zero, List.setIfInBounds_toArray, List.set_cons_zero, List.set_cons_succ]
        first | (refine wpAnyH_take (i := 15) rfl (by kernel_rfl) (by kernel_rfl) (by kernel_rfl) (fun _ _ _ h => h) (Or.inr ⟨by rfl, rfl⟩) hHeld ?_) | (refine wpAnyH_ready (rs := [15]) (by kernel_rfl) (by simp) ?_; refine AllReadyH.cons rfl (fun K hK => ?_) AllReadyH.nil; go_simp; (first | (go_at_call 10; with_reducible refine (C1.out _ hHeld.1).mono ?_; rintro r w' ⟨rfl, hb⟩) | (go_at_call 11; with_reducible refine (C2.out _ hHeld.1).mono ?_; rintro r w' ⟨rfl, hb⟩) | (go_at_call 12; with_reducible refine (C3.out _ hHeld.1).mono ?_; rintro r w' ⟨rfl, hb⟩) | (go_at_call 13; with_reducible refine (C4.out _ hHeld.1).mono ?_; rintro r w' ⟨rfl, rfl⟩)); (try go_wp2_with fail); refine hK.out _ _ ?_ (fun hHeld' => ?_); (focus (first | exact hkeep _ _ hb hHeld | exact hHeld)); clear hK K; replace hHeld := hHeld'; clear hHeld')
        try simp only [Act.put, List.getElem_toArray, List.getElem_cons_succ, List.getElem_cons_zero, List.setIfInBounds_toArray, List.set_cons_zero, List.set_cons_succ]
        first | (refine wpAnyH_take (i := 20) rfl (by kernel_rfl) (by kernel_rfl) (by kernel_rfl) (fun _ _ _ h => h) (Or.inr ⟨by rfl, rfl⟩) hHeld ?_) | (refine wpAnyH_take (i := 20) (v := ?_) rfl (by kernel_rfl) (by kernel_rfl) (by kernel_rfl) (fun _ _ _ h => h) (Or.inl ⟨by rfl, ?_⟩) hHeld ?_; rotate_left; focus (intro w hSw; (try dsimp only at hSw); go_simp; (try with_reducible rfl)))
        try simp only [Act.put, List.getElem_toArray, List.getElem_cons_succ, List.getElem_cons_zero, List.setIfInBounds_toArray, List.set_cons_zero, List.set_cons_succ]
        (refine wpAnyH_take (i := 21) (v := ?_) rfl (by kernel_rfl) (by kernel_rfl) (by kernel_rfl) (fun _ _ _ h => h) (Or.inl ⟨by rfl, ?_⟩) hHeld ?_; rotate_left; focus (intro w hSw; (try dsimp only at hSw); go_simp; (try with_reducible rfl)))
        try simp only [Act.put, List.getElem_toArray, List.getElem_cons_succ, List.getElem_cons_zero, List.setIfInBounds_toArray, List.set_cons_zero, List.set_cons_succ]
        refine wpAnyH_done (by kernel_rfl) ?_ _
        refine NoPanic.normal ?_
        have HB0 := Lib.hid hHeld.1
        have dd : Below a1 W w' := HD3.out.trans (HB0.out.mono HLE.out)
        obtain ⟨_, g0, g1, g2, g3, g4⟩ := hHeld
        have DD := Lib.hid dd
        clear dd g0 g1 g2 g4 hkeep HST C1 C2 C3 C4 f5 f5'
        go_wp2_with (go_at_call 14; with_reducible refine (deep_nil _).mono ?_; rintro r w' ⟨rfl, rfl⟩)
        go_wp2_with (go_at_call 7; refine (lives_any _ (HT.out.below (by rw [HZ1.out]; exact DD.out))).mono ?_; rintro r w5 ⟨rfl, hb5⟩)
        go_ret
        exact ⟨rfl, by rw [HZ1.out]; exact DD.out.trans (hb5.mono (by have := DD.out.size; rw [HZ1.out] at this; exact this))⟩
      · have HK := Lib.hid hk; clear hk
        have CW := Lib.hid (where_any x w2 hx (HG.out.below d2))
        have CW' : Hid (Calls Tryd.prog 9 #[.nilIface] w2 fun r w' => r = .returned (.tuple #[.int .i64 0, .int .i64 0, .bool false]) ∧ Below w2.heap.size w2 w') := Lib.hid (by
          have h := CW.out
          rw [HXV.out, HW1.out, HW2.out, HW3.out] at h
          exact h)
        go_upto_region 5 with (go_at_call 9; with_reducible refine CW'.out.mono ?_; rintro r w3 ⟨rfl, hb3⟩)
        have d3 := d2.trans (hb3.mono d2.size)
        have HX3 := Lib.hid (hx.below hb3)
        have HR3 := Lib.hid (HR.out.below d3)
        have hrow := ((HX1.out.keep hb2).keep hb3)
        obtain ⟨g0, g1, g2, g3, g4⟩ := err_cells hrow
        have HD3 := Lib.hid d3
        have C1 : Hid (∀ w', Below w3.heap.size w3 w' → Calls Tryd.prog 10 #[.nilIface] w' fun r w'' => r = .returned (.string (sB (textL e n))) ∧ Below w'.heap.size w' w'') := Lib.hid (fun w' hb => by
          have h := text_any x w' (HX3.out.below hb) (HT.out.below (HD3.out.trans (hb.mono HD3.out.size))) (by rw [HM.out.text]; exact textL_len HO.out)
          rw [HM.out.text, HXV.out] at h
          exact h)
        have C2 : Hid (∀ w', Below w3.heap.size w3 w' → Calls Tryd.prog 11 #[.agg (rowOf 5 (errV (.slice A n cA) e))] w' fun r w'' => r = .returned (.string (sB (textL e n))) ∧ Below w'.heap.size w' w'') := Lib.hid (fun w' hb => rText_any A n cA e HO.out w' (HR3.out.below hb))
        have C3 : Hid (∀ w', Below w3.heap.size w3 w' → Calls Tryd.prog 12 #[.nilIface] w' fun r w'' => r = .returned (.int .i64 0) ∧ Below w'.heap.size w' w'') := Lib.hid (fun w' hb => by
          have h := code_any x w' (HX3.out.below hb) (HG.out.below (HD3.out.trans (hb.mono HD3.out.size)))
          rw [HM.out.code, HXV.out, HC.out] at h
          exact h)
        have C4 : Hid (∀ w', Below w3.heap.size w3 w' → Calls Tryd.prog 13 #[.nilIface, .int .i64 k] w' fun r w'' => r = .returned (.bool false) ∧ w' = w'') := Lib.hid (fun w' hb => by
          have h := fIs_any x k w' (HX3.out.below hb)
          rw [HM.out.isOf, HXV.out] at h
          rw [show decide (k = e.c) = false from decide_eq_false HK.out] at h
          exact h)
        rw [HC.out] at g3 f5
        have f5' := f5
        generalize hq3 : sB e.what = q3 at *
        generalize hQ : sB (textL e n) = Q at *
        have hk : ¬ k = 0 := fun h => HK.out (h.trans HC.out.symm)
        generalize hz3 : w3.heap.size = a0 at *
        generalize hz1 : W.heap.size = a1 at *
        have HZ3 := Lib.hid hz3; have HZ1 := Lib.hid hz1
        have HLE : Hid (a1 ≤ a0) := Lib.hid (by have := HD3.out.size; omega)
        clear hz3 hz1 hq3 hQ
        have hst : (fun w' : World => Below a0 w3 w' ∧ w'.cell? ⟨a1, 0, none⟩ = some (.int .i64 e.t) ∧ w'.cell? ⟨a1, 1, none⟩ = some (.int .i64 e.l) ∧ w'.cell? ⟨a1, 2, none⟩ = some (.string q3) ∧ w'.cell? ⟨a1, 3, none⟩ = some (.int .i64 0) ∧ w'.cell? ⟨a1, 4, none⟩ = some (.slice A n cA)) w3.drew := ⟨(Below.refl _ _).drew, g0, g1, g2, g3, g4⟩
        have hkeep : ∀ w1 w2 : World, Below w1.heap.size w1 w2 → (fun w' : World => Below a0 w3 w' ∧ w'.cell? ⟨a1, 0, none⟩ = some (.int .i64 e.t) ∧ w'.cell? ⟨a1, 1, none⟩ = some (.int .i64 e.l) ∧ w'.cell? ⟨a1, 2, none⟩ = some (.string q3) ∧ w'.cell? ⟨a1, 3, none⟩ = some (.int .i64 0) ∧ w'.cell? ⟨a1, 4, none⟩ = some (.slice A n cA)) w1 → (fun w' : World => Below a0 w3 w' ∧ w'.cell? ⟨a1, 0, none⟩ = some (.int .i64 e.t) ∧ w'.cell? ⟨a1, 1, none⟩ = some (.int .i64 e.l) ∧ w'.cell? ⟨a1, 2, none⟩ = some (.string q3) ∧ w'.cell? ⟨a1, 3, none⟩ = some (.int .i64 0) ∧ w'.cell? ⟨a1, 4, none⟩ = some (.slice A n cA)) w2 := fun w1 w2 hb h =>
          ⟨below_on h.1 (Nat.le_of_eq HZ3.out.symm) hb, cell_keep hb h.2.1, cell_keep hb h.2.2.1, cell_keep hb h.2.2.2.1, cell_keep hb h.2.2.2.2.1, cell_keep hb h.2.2.2.2.2⟩
        have HST := Lib.hid hst
        clear hst g0 g1 g2 g3 g4 hrow hb1 hb2 hb3 d1 d2 d3 hm hx hok CW CW' v0 v1 v2 v3 v4
        refine wp_region_noPanic ?_
        refine wp_region_held_drew (S := fun w' => Below a0 w3 w' ∧ w'.cell? ⟨a1, 0, none⟩ = some (.int .i64 e.t) ∧ w'.cell? ⟨a1, 1, none⟩ = some (.int .i64 e.l) ∧ w'.cell? ⟨a1, 2, none⟩ = some (.string q3) ∧ w'.cell? ⟨a1, 3, none⟩ = some (.int .i64 0) ∧ w'.cell? ⟨a1, 4, none⟩ = some (.slice A n cA)) (by kernel_rfl) (HST.out) (fun hHeld => ?_)
        (refine wpAnyH_take (i := 0) (v := ?_) rfl (by kernel_rfl) (by kernel_rfl) (by kernel_rfl) (fun _ _ _ h => h) (Or.inl ⟨by rfl, ?_⟩) hHeld ?_; rotate_left; focus (intro w hSw; (try dsimp only at hSw); go_simp; (try with_reducible rfl)))
        try simp only [Act.put, List.getElem_toArray, List.getElem_cons_succ, List.getElem_cons_zero, List.setIfInBounds_toArray, List.set_cons_zero, List.set_cons_succ]
        (refine wpAnyH_take (i := 2) (v := ?_) rfl (by kernel_rfl) (by kernel_rfl) (by kernel_rfl) (fun _ _ _ h => h) (Or.inl ⟨by rfl, ?_⟩) hHeld ?_; rotate_left; focus (intro w hSw; (try dsimp only at hSw); go_simp; (try with_reducible rfl)))
        try simp only [Act.put, List.getElem_toArray, List.getElem_cons_succ, List.getElem_cons_zero, List.setIfInBounds_toArray, List.set_cons_zero, List.set_cons_succ]
        (refine wpAnyH_ready (rs := [1]) (by kernel_rfl) (by simp) ?_; refine AllReadyH.cons rfl (fun K hK => ?_) AllReadyH.nil; go_simp; (first | (go_at_call 10; with_reducible refine (C1.out _ hHeld.1).mono ?_; rintro r w' ⟨rfl, hb⟩) | (go_at_call 11; with_reducible refine (C2.out _ hHeld.1).mono ?_; rintro r w' ⟨rfl, hb⟩) | (go_at_call 12; with_reducible refine (C3.out _ hHeld.1).mono ?_; rintro r w' ⟨rfl, hb⟩) | (go_at_call 13; with_reducible refine (C4.out _ hHeld.1).mono ?_; rintro r w' ⟨rfl, rfl⟩)); (try go_wp2_with fail); refine hK.out _ _ ?_ (fun hHeld' => ?_); (focus (first | exact hkeep _ _ hb hHeld | exact hHeld)); clear hK K; replace hHeld := hHeld'; clear hHeld')
        try simp only [Act.put, List.getElem_toArray, List.getElem_cons_succ, List.getElem_cons_zero, List.setIfInBounds_toArray, List.set_cons_zero, List.set_cons_succ]
        (refine wpAnyH_ready (rs := [3]) (by kernel_rfl) (by simp) ?_; refine AllReadyH.cons rfl (fun K hK => ?_) AllReadyH.nil; go_simp; (first | (go_at_call 10; with_reducible refine (C1.out _ hHeld.1).mono ?_; rintro r w' ⟨rfl, hb⟩) | (go_at_call 11; with_reducible refine (C2.out _ hHeld.1).mono ?_; rintro r w' ⟨rfl, hb⟩) | (go_at_call 12; with_reducible refine (C3.out _ hHeld.1).mono ?_; rintro r w' ⟨rfl, hb⟩) | (go_at_call 13; with_reducible refine (C4.out _ hHeld.1).mono ?_; rintro r w' ⟨rfl, rfl⟩)); (try go_wp2_with fail); refine hK.out _ _ ?_ (fun hHeld' => ?_); (focus (first | exact hkeep _ _ hb hHeld | exact hHeld)); clear hK K; replace hHeld := hHeld'; clear hHeld')
        try simp only [Act.put, List.getElem_toArray, List.getElem_cons_succ, List.getElem_cons_zero, List.setIfInBounds_toArray, List.set_cons_zero, List.set_cons_succ]
        (refine wpAnyH_take (i := 4) (v := ?_) rfl (by kernel_rfl) (by kernel_rfl) (by kernel_rfl) (fun _ _ _ h => h) (Or.inl ⟨by rfl, ?_⟩) hHeld ?_; rotate_left; focus (intro w hSw; (try dsimp only at hSw); go_simp; (try with_reducible rfl)))
        try simp only [Act.put, List.getElem_toArray, List.getElem_cons_succ, List.getElem_cons_zero, List.setIfInBounds_toArray, List.set_cons_zero, List.set_cons_succ]
        (refine wpAnyH_take (i := 5) (v := ?_) rfl (by kernel_rfl) (by kernel_rfl) (by kernel_rfl) (fun _ _ _ h => h) (Or.inl ⟨by rfl, ?_⟩) hHeld ?_; rotate_left; focus (intro w hSw; (try dsimp only at hSw); go_simp; (try with_reducible rfl)))
        try simp only [Act.put, List.getElem_toArray, List.getElem_cons_succ, List.getElem_cons_zero, List.setIfInBounds_toArray, List.set_cons_zero, List.set_cons_succ]
        first | (refine wpAnyH_take (i := 6) rfl (by kernel_rfl) (by kernel_rfl) (by kernel_rfl) (fun _ _ _ h => h) (Or.inr ⟨by rfl, rfl⟩) hHeld ?_) | (refine wpAnyH_take (i := 6) (v := ?_) rfl (by kernel_rfl) (by kernel_rfl) (by kernel_rfl) (fun _ _ _ h => h) (Or.inl ⟨by rfl, ?_⟩) hHeld ?_; rotate_left; focus (intro w hSw; (try dsimp only at hSw); go_simp; (try with_reducible rfl)))
        try simp only [Act.put, List.getElem_toArray, List.getElem_cons_succ, List.getElem_cons_zero, List.setIfInBounds_toArray, List.set_cons_zero, List.set_cons_succ]
        first | (refine wpAnyH_take (i := 8) rfl (by kernel_rfl) (by kernel_rfl) (by kernel_rfl) (fun _ _ _ h => h) (Or.inr ⟨by rfl, rfl⟩) hHeld ?_) | (refine wpAnyH_take (i := 8) (v := ?_) rfl (by kernel_rfl) (by kernel_rfl) (by kernel_rfl) (fun _ _ _ h => h) (Or.inl ⟨by rfl, ?_⟩) hHeld ?_; rotate_left; focus (intro w hSw; (try dsimp only at hSw); go_simp; (try with_reducible rfl)))
        try simp only [Act.put, List.getElem_toArray, List.getElem_cons_succ, List.getElem_cons_zero, List.setIfInBounds_toArray, List.set_cons_zero, List.set_cons_succ]
        first | (refine wpAnyH_take (i := 9) rfl (by kernel_rfl) (by kernel_rfl) (by kernel_rfl) (fun _ _ _ h => h) (Or.inr ⟨by rfl, rfl⟩) hHeld ?_) | (refine wpAnyH_take (i := 9) (v := ?_) rfl (by kernel_rfl) (by kernel_rfl) (by kernel_rfl) (fun _ _ _ h => h) (Or.inl ⟨by rfl, ?_⟩) hHeld ?_; rotate_left; focus (intro w hSw; (try dsimp only at hSw); go_simp; (try with_reducible rfl)))
        try simp only [Act.put, List.getElem_toArray, List.getElem_cons_succ, List.getElem_cons_zero, List.setIfInBounds_toArray, List.set_cons_zero, List.set_cons_succ]
        first | (refine wpAnyH_take (i := 7) rfl (by kernel_rfl) (by kernel_rfl) (by kernel_rfl) (fun _ _ _ h => h) (Or.inr ⟨by rfl, rfl⟩) hHeld ?_) | (refine wpAnyH_ready (rs := [7]) (by kernel_rfl) (by simp) ?_; refine AllReadyH.cons rfl (fun K hK => ?_) AllReadyH.nil; go_simp; (first | (go_at_call 10; with_reducible refine (C1.out _ hHeld.1).mono ?_; rintro r w' ⟨rfl, hb⟩) | (go_at_call 11; with_reducible refine (C2.out _ hHeld.1).mono ?_; rintro r w' ⟨rfl, hb⟩) | (go_at_call 12; with_reducible refine (C3.out _ hHeld.1).mono ?_; rintro r w' ⟨rfl, hb⟩) | (go_at_call 13; with_reducible refine (C4.out _ hHeld.1).mono ?_; rintro r w' ⟨rfl, rfl⟩)); (try go_wp2_with fail); refine hK.out _ _ ?_ (fun hHeld' => ?_); (focus (first | exact hkeep _ _ hb hHeld | exact hHeld)); clear hK K; replace hHeld := hHeld'; clear hHeld')
        try simp only [Act.put, List.getElem_toArray, List.getElem_cons_succ, List.getElem_cons_zero, List.setIfInBounds_toArray, List.set_cons_zero, List.set_cons_succ]
        first | (refine wpAnyH_take (i := 10) rfl (by kernel_rfl) (by kernel_rfl) (by kernel_rfl) (fun _ _ _ h => h) (Or.inr ⟨by rfl, rfl⟩) hHeld ?_) | (refine wpAnyH_take (i := 10) (v := ?_) rfl (by kernel_rfl) (by kernel_rfl) (by kernel_rfl) (fun _ _ _ h => h) (Or.inl ⟨by rfl, ?_⟩) hHeld ?_; rotate_left; focus (intro w hSw; (try dsimp only at hSw); go_simp; (try with_reducible rfl)))
        try simp only [Act.put, List.getElem_toArray, List.getElem_cons_succ, List.getElem_cons_zero, List.setIfInBounds_toArray, List.set_cons_zero, List.set_cons_succ]
        (refine wpAnyH_take (i := 11) (v := ?_) rfl (by kernel_rfl) (by kernel_rfl) (by kernel_rfl) (fun _ _ _ h => h) (Or.inl ⟨by rfl, ?_⟩) hHeld ?_; rotate_left; focus (intro w hSw; (try dsimp only at hSw); go_simp; (try with_reducible rfl)))
        try simp only [Act.put, List.getElem_toArray, List.getElem_cons_succ, List.getElem_cons_zero, List.setIfInBounds_toArray, List.set_cons_zero, List.set_cons_succ]
        (refine wpAnyH_take (i := 12) (v := ?_) rfl (by kernel_rfl) (by kernel_rfl) (by kernel_rfl) (fun _ _ _ h => h) (Or.inl ⟨by rfl, ?_⟩) hHeld ?_; rotate_left; focus (intro w hSw; (try dsimp only at hSw); go_simp; (try with_reducible rfl)))
        try simp only [Act.put, List.getElem_toArray, List.getElem_cons_succ, List.getElem_cons_zero, List.setIfInBounds_toArray, List.set_cons_zero, List.set_cons_succ]
        first | (refine wpAnyH_take (i := 13) rfl (by kernel_rfl) (by kernel_rfl) (by kernel_rfl) (fun _ _ _ h => h) (Or.inr ⟨by rfl, rfl⟩) hHeld ?_) | (refine wpAnyH_take (i := 13) (v := ?_) rfl (by kernel_rfl) (by kernel_rfl) (by kernel_rfl) (fun _ _ _ h => h) (Or.inl ⟨by rfl, ?_⟩) hHeld ?_; rotate_left; focus (intro w hSw; (try dsimp only at hSw); go_simp; (try with_reducible rfl)))
        try simp only [Act.put, List.getElem_toArray, List.getElem_cons_succ, List.getElem_cons_zero, List.setIfInBounds_toArray, List.set_cons_zero, List.set_cons_succ]
        first | (refine wpAnyH_take (i := 14) rfl (by kernel_rfl) (by kernel_rfl) (by kernel_rfl) (fun _ _ _ h => h) (Or.inr ⟨by rfl, rfl⟩) hHeld ?_) | (refine wpAnyH_take (i := 14) (v := ?_) rfl (by kernel_rfl) (by kernel_rfl) (by kernel_rfl) (fun _ _ _ h => h) (Or.inl ⟨by rfl, ?_⟩) hHeld ?_; rotate_left; focus (intro w hSw; (try dsimp only at hSw); go_simp; (try with_reducible rfl)))
        try simp only [Act.put, List.getElem_toArray, List.getElem_cons_succ, List.getElem_cons_zero, List.setIfInBounds_toArray, List.set_cons_zero, List.set_cons_succ]
        first | (refine wpAnyH_take (i := 16) rfl (by kernel_rfl) (by kernel_rfl) (by kernel_rfl) (fun _ _ _ h => h) (Or.inr ⟨by rfl, rfl⟩) hHeld ?_) | (refine wpAnyH_take (i := 16) (v := ?_) rfl (by kernel_rfl) (by kernel_rfl) (by kernel_rfl) (fun _ _ _ h => h) (Or.inl ⟨by rfl, ?_⟩) hHeld ?_; rotate_left; focus (intro w hSw; (try dsimp only at hSw); go_simp; (try with_reducible rfl)))
        try simp only [Act.put, List.getElem_toArray, List.getElem_cons_succ, List.getElem_cons_zero, List.setIfInBounds_toArray, List.set_cons_zero, List.set_cons_succ]
        first | (refine wpAnyH_take (i := 17) rfl (by kernel_rfl) (by kernel_rfl) (by kernel_rfl) (fun _ _ _ h => h) (Or.inr ⟨by rfl, rfl⟩) hHeld ?_) | (refine wpAnyH_take (i := 17) (v := ?_) rfl (by kernel_rfl) (by kernel_rfl) (by kernel_rfl) (fun _ _ _ h => h) (Or.inl ⟨by rfl, ?_⟩) hHeld ?_; rotate_left; focus (intro w hSw; (try dsimp only at hSw); go_simp; (try with_reducible rfl)))
        try simp only [Act.put, List.getElem_toArray, List.getElem_cons_succ, List.getElem_cons_zero, List.setIfInBounds_toArray, List.set_cons_zero, List.set_cons_succ]
        first | (refine wpAnyH_take (i := 18) rfl (by kernel_rfl) (by kernel_rfl) (by kernel_rfl) (fun _ _ _ h => h) (Or.inr ⟨by rfl, rfl⟩) hHeld ?_) | (refine wpAnyH_take (i := 18) (v := ?_) rfl (by kernel_rfl) (by kernel_rfl) (by kernel_rfl) (fun _ _ _ h => h) (Or.inl ⟨by rfl, ?_⟩) hHeld ?_; rotate_left; focus (intro w hSw; (try dsimp only at hSw); go_simp; (try with_reducible rfl)))
        try simp only [Act.put, List.getElem_toArray, List.getElem_cons_succ, List.getElem_cons_zero, List.setIfInBounds_toArray, List.set_cons_zero, List.set_cons_succ]
        first | (refine wpAnyH_take (i := 19) rfl (by kernel_rfl) (by kernel_rfl) (by kernel_rfl) (fun _ _ _ h => h) (Or.inr ⟨by rfl, rfl⟩) hHeld ?_) | (refine wpAnyH_take (i := 19) (v := ?_) rfl (by kernel_rfl) (by kernel_rfl) (by kernel_rfl) (fun _ _ _ h => h) (Or.inl ⟨by rfl, ?_⟩) hHeld ?_; rotate_left; focus (intro w hSw; (try dsimp only at hSw); go_simp; (try with_reducible rfl)))
        try simp only [Act.put, List.getElem_toArray, List.getElem_cons_succ, List.getElem_cons_zero, List.setIfInBounds_toArray, List.set_cons_zero, List.set_cons_succ]
        first | (refine wpAnyH_take (i := 15) rfl (by kernel_rfl) (by kernel_rfl) (by kernel_rfl) (fun _ _ _ h => h) (Or.inr ⟨by rfl, rfl⟩) hHeld ?_) | (refine wpAnyH_ready (rs := [15]) (by kernel_rfl) (by simp) ?_; refine AllReadyH.cons rfl (fun K hK => ?_) AllReadyH.nil; go_simp; (first | (go_at_call 10; with_reducible refine (C1.out _ hHeld.1).mono ?_; rintro r w' ⟨rfl, hb⟩) | (go_at_call 11; with_reducible refine (C2.out _ hHeld.1).mono ?_; rintro r w' ⟨rfl, hb⟩) | (go_at_call 12; with_reducible refine (C3.out _ hHeld.1).mono ?_; rintro r w' ⟨rfl, hb⟩) | (go_at_call 13; with_reducible refine (C4.out _ hHeld.1).mono ?_; rintro r w' ⟨rfl, rfl⟩)); (try go_wp2_with fail); refine hK.out _ _ ?_ (fun hHeld' => ?_); (focus (first | exact hkeep _ _ hb hHeld | exact hHeld)); clear hK K; replace hHeld := hHeld'; clear hHeld')
        try simp only [Act.put, List.getElem_toArray, List.getElem_cons_succ, List.getElem_cons_zero, List.setIfInBounds_toArray, List.set_cons_zero, List.set_cons_succ]
        first | (refine wpAnyH_take (i := 20) rfl (by kernel_rfl) (by kernel_rfl) (by kernel_rfl) (fun _ _ _ h => h) (Or.inr ⟨by rfl, rfl⟩) hHeld ?_) | (refine wpAnyH_take (i := 20) (v := ?_) rfl (by kernel_rfl) (by kernel_rfl) (by kernel_rfl) (fun _ _ _ h => h) (Or.inl ⟨by rfl, ?_⟩) hHeld ?_; rotate_left; focus (intro w hSw; (try dsimp only at hSw); go_simp; (try with_reducible rfl)))
        try simp only [Act.put, List.getElem_toArray, List.getElem_cons_succ, List.getElem_cons_zero, List.setIfInBounds_toArray, List.set_cons_zero, List.set_cons_succ]
        (refine wpAnyH_take (i := 21) (v := ?_) rfl (by kernel_rfl) (by kernel_rfl) (by kernel_rfl) (fun _ _ _ h => h) (Or.inl ⟨by rfl, ?_⟩) hHeld ?_; rotate_left; focus (intro w hSw; (try dsimp only at hSw); go_simp; (try with_reducible rfl)))
        try simp only [Act.put, List.getElem_toArray, List.getElem_cons_succ, List.getElem_cons_zero, List.setIfInBounds_toArray, List.set_cons_zero, List.set_cons_succ]
        refine wpAnyH_done (by kernel_rfl) ?_ _
        refine NoPanic.normal ?_
        have HB0 := Lib.hid hHeld.1
        have dd : Below a1 W w' := HD3.out.trans (HB0.out.mono HLE.out)
        obtain ⟨_, g0, g1, g2, g3, g4⟩ := hHeld
        have DD := Lib.hid dd
        clear dd g0 g1 g2 g4 hkeep HST C1 C2 C3 C4 f5 f5'
        go_wp2_with (go_at_call 14; with_reducible refine (deep_nil _).mono ?_; rintro r w' ⟨rfl, rfl⟩)
        go_wp2_with (go_at_call 7; refine (lives_any _ (HT.out.below (by rw [HZ1.out]; exact DD.out))).mono ?_; rintro r w5 ⟨rfl, hb5⟩)
        go_ret
        exact ⟨rfl, by rw [HZ1.out]; exact DD.out.trans (hb5.mono (by have := DD.out.size; rw [HZ1.out] at this; exact this))⟩
    · have HC := Lib.hid hc
      obtain ⟨U, v, hv⟩ := val_iface x (hm.ne hc)
      have HXV := Lib.hid hv
      have hp : x.placeIn = some (e.t, e.l) := by
        rcases hm with ⟨h, _⟩ | ⟨_, _, _, _, h, _⟩
        · exact absurd h hc
        · exact h
      have hd : x.deep = n + 1 := by
        rcases hm with ⟨h, _⟩ | ⟨_, _, _, _, _, h⟩
        · exact absurd h hc
        · exact h
      have HD := Lib.hid hd
      have HW1 : Hid (x.wT = e.t) := Lib.hid (by unfold Errs.wT; rw [hp]; rfl)
      have HW2 : Hid (x.wL = e.l) := Lib.hid (by unfold Errs.wL; rw [hp]; rfl)
      have HW3 : Hid (x.placeIn.isSome = true) := Lib.hid (by rw [hp]; rfl)
      rw [hv]
      clear hc hv hp hd
      by_cases hk : k = e.c
      · have HK := Lib.hid hk; clear hk
        have CW := Lib.hid (where_any x w2 hx (HG.out.below d2))
        have CW' : Hid (Calls Tryd.prog 9 #[(.iface U v)] w2 fun r w' => r = .returned (.tuple #[.int .i64 e.t, .int .i64 e.l, .bool true]) ∧ Below w2.heap.size w2 w') := Lib.hid (by
          have h := CW.out
          rw [HXV.out, HW1.out, HW2.out, HW3.out] at h
          exact h)
        go_upto_region 5 with (go_at_call 9; with_reducible refine CW'.out.mono ?_; rintro r w3 ⟨rfl, hb3⟩)
        have d3 := d2.trans (hb3.mono d2.size)
        have HX3 := Lib.hid (hx.below hb3)
        have HR3 := Lib.hid (HR.out.below d3)
        have hrow := ((HX1.out.keep hb2).keep hb3)
        obtain ⟨g0, g1, g2, g3, g4⟩ := err_cells hrow
        have HD3 := Lib.hid d3
        have C1 : Hid (∀ w', Below w3.heap.size w3 w' → Calls Tryd.prog 10 #[(.iface U v)] w' fun r w'' => r = .returned (.string (sB (textL e n))) ∧ Below w'.heap.size w' w'') := Lib.hid (fun w' hb => by
          have h := text_any x w' (HX3.out.below hb) (HT.out.below (HD3.out.trans (hb.mono HD3.out.size))) (by rw [HM.out.text]; exact textL_len HO.out)
          rw [HM.out.text, HXV.out] at h
          exact h)
        have C2 : Hid (∀ w', Below w3.heap.size w3 w' → Calls Tryd.prog 11 #[.agg (rowOf 5 (errV (.slice A n cA) e))] w' fun r w'' => r = .returned (.string (sB (textL e n))) ∧ Below w'.heap.size w' w'') := Lib.hid (fun w' hb => rText_any A n cA e HO.out w' (HR3.out.below hb))
        have C3 : Hid (∀ w', Below w3.heap.size w3 w' → Calls Tryd.prog 12 #[(.iface U v)] w' fun r w'' => r = .returned (.int .i64 e.c) ∧ Below w'.heap.size w' w'') := Lib.hid (fun w' hb => by
          have h := code_any x w' (HX3.out.below hb) (HG.out.below (HD3.out.trans (hb.mono HD3.out.size)))
          rw [HM.out.code, HXV.out] at h
          exact h)
        have C4 : Hid (∀ w', Below w3.heap.size w3 w' → Calls Tryd.prog 13 #[(.iface U v), .int .i64 k] w' fun r w'' => r = .returned (.bool true) ∧ w' = w'') := Lib.hid (fun w' hb => by
          have h := fIs_any x k w' (HX3.out.below hb)
          rw [HM.out.isOf, HXV.out] at h
          rw [show decide (k = e.c) = true from decide_eq_true HK.out] at h
          exact h)
        have f5' := f5
        generalize hq3 : sB e.what = q3 at *
        generalize hQ : sB (textL e n) = Q at *
        obtain rfl : k = e.c := HK.out
        generalize hz3 : w3.heap.size = a0 at *
        generalize hz1 : W.heap.size = a1 at *
        have HZ3 := Lib.hid hz3; have HZ1 := Lib.hid hz1
        have HLE : Hid (a1 ≤ a0) := Lib.hid (by have := HD3.out.size; omega)
        clear hz3 hz1 hq3 hQ
        have hst : (fun w' : World => Below a0 w3 w' ∧ w'.cell? ⟨a1, 0, none⟩ = some (.int .i64 e.t) ∧ w'.cell? ⟨a1, 1, none⟩ = some (.int .i64 e.l) ∧ w'.cell? ⟨a1, 2, none⟩ = some (.string q3) ∧ w'.cell? ⟨a1, 3, none⟩ = some (.int .i64 e.c) ∧ w'.cell? ⟨a1, 4, none⟩ = some (.slice A n cA)) w3.drew := ⟨(Below.refl _ _).drew, g0, g1, g2, g3, g4⟩
        have hkeep : ∀ w1 w2 : World, Below w1.heap.size w1 w2 → (fun w' : World => Below a0 w3 w' ∧ w'.cell? ⟨a1, 0, none⟩ = some (.int .i64 e.t) ∧ w'.cell? ⟨a1, 1, none⟩ = some (.int .i64 e.l) ∧ w'.cell? ⟨a1, 2, none⟩ = some (.string q3) ∧ w'.cell? ⟨a1, 3, none⟩ = some (.int .i64 e.c) ∧ w'.cell? ⟨a1, 4, none⟩ = some (.slice A n cA)) w1 → (fun w' : World => Below a0 w3 w' ∧ w'.cell? ⟨a1, 0, none⟩ = some (.int .i64 e.t) ∧ w'.cell? ⟨a1, 1, none⟩ = some (.int .i64 e.l) ∧ w'.cell? ⟨a1, 2, none⟩ = some (.string q3) ∧ w'.cell? ⟨a1, 3, none⟩ = some (.int .i64 e.c) ∧ w'.cell? ⟨a1, 4, none⟩ = some (.slice A n cA)) w2 := fun w1 w2 hb h =>
          ⟨below_on h.1 (Nat.le_of_eq HZ3.out.symm) hb, cell_keep hb h.2.1, cell_keep hb h.2.2.1, cell_keep hb h.2.2.2.1, cell_keep hb h.2.2.2.2.1, cell_keep hb h.2.2.2.2.2⟩
        have HST := Lib.hid hst
        clear hst g0 g1 g2 g3 g4 hrow hb1 hb2 hb3 d1 d2 d3 hm hx hok CW CW' v0 v1 v2 v3 v4
        refine wp_region_noPanic ?_
        refine wp_region_held_drew (S := fun w' => Below a0 w3 w' ∧ w'.cell? ⟨a1, 0, none⟩ = some (.int .i64 e.t) ∧ w'.cell? ⟨a1, 1, none⟩ = some (.int .i64 e.l) ∧ w'.cell? ⟨a1, 2, none⟩ = some (.string q3) ∧ w'.cell? ⟨a1, 3, none⟩ = some (.int .i64 e.c) ∧ w'.cell? ⟨a1, 4, none⟩ = some (.slice A n cA)) (by kernel_rfl) (HST.out) (fun hHeld => ?_)
        (refine wpAnyH_take (i := 0) (v := ?_) rfl (by kernel_rfl) (by kernel_rfl) (by kernel_rfl) (fun _ _ _ h => h) (Or.inl ⟨by rfl, ?_⟩) hHeld ?_; rotate_left; focus (intro w hSw; (try dsimp only at hSw); go_simp; (try with_reducible rfl)))
        try simp only [Act.put, List.getElem_toArray, List.getElem_cons_succ, List.getElem_cons_zero, List.setIfInBounds_toArray, List.set_cons_zero, List.set_cons_succ]
        (refine wpAnyH_take (i := 2) (v := ?_) rfl (by kernel_rfl) (by kernel_rfl) (by kernel_rfl) (fun _ _ _ h => h) (Or.inl ⟨by rfl, ?_⟩) hHeld ?_; rotate_left; focus (intro w hSw; (try dsimp only at hSw); go_simp; (try with_reducible rfl)))
        try simp only [Act.put, List.getElem_toArray, List.getElem_cons_succ, List.getElem_cons_zero, List.setIfInBounds_toArray, List.set_cons_zero, List.set_cons_succ]
        (refine wpAnyH_ready (rs := [1]) (by kernel_rfl) (by simp) ?_; refine AllReadyH.cons rfl (fun K hK => ?_) AllReadyH.nil; go_simp; (first | (go_at_call 10; with_reducible refine (C1.out _ hHeld.1).mono ?_; rintro r w' ⟨rfl, hb⟩) | (go_at_call 11; with_reducible refine (C2.out _ hHeld.1).mono ?_; rintro r w' ⟨rfl, hb⟩) | (go_at_call 12; with_reducible refine (C3.out _ hHeld.1).mono ?_; rintro r w' ⟨rfl, hb⟩) | (go_at_call 13; with_reducible refine (C4.out _ hHeld.1).mono ?_; rintro r w' ⟨rfl, rfl⟩)); (try go_wp2_with fail); refine hK.out _ _ ?_ (fun hHeld' => ?_); (focus (first | exact hkeep _ _ hb hHeld | exact hHeld)); clear hK K; replace hHeld := hHeld'; clear hHeld')
        try simp only [Act.put, List.getElem_toArray, List.getElem_cons_succ, List.getElem_cons_zero, List.setIfInBounds_toArray, List.set_cons_zero, List.set_cons_succ]
        (refine wpAnyH_ready (rs := [3]) (by kernel_rfl) (by simp) ?_; refine AllReadyH.cons rfl (fun K hK => ?_) AllReadyH.nil; go_simp; (first | (go_at_call 10; with_reducible refine (C1.out _ hHeld.1).mono ?_; rintro r w' ⟨rfl, hb⟩) | (go_at_call 11; with_reducible refine (C2.out _ hHeld.1).mono ?_; rintro r w' ⟨rfl, hb⟩) | (go_at_call 12; with_reducible refine (C3.out _ hHeld.1).mono ?_; rintro r w' ⟨rfl, hb⟩) | (go_at_call 13; with_reducible refine (C4.out _ hHeld.1).mono ?_; rintro r w' ⟨rfl, rfl⟩)); (try go_wp2_with fail); refine hK.out _ _ ?_ (fun hHeld' => ?_); (focus (first | exact hkeep _ _ hb hHeld | exact hHeld)); clear hK K; replace hHeld := hHeld'; clear hHeld')
        try simp only [Act.put, List.getElem_toArray, List.getElem_cons_succ, List.getElem_cons_zero, List.setIfInBounds_toArray, List.set_cons_zero, List.set_cons_succ]
        (refine wpAnyH_take (i := 4) (v := ?_) rfl (by kernel_rfl) (by kernel_rfl) (by kernel_rfl) (fun _ _ _ h => h) (Or.inl ⟨by rfl, ?_⟩) hHeld ?_; rotate_left; focus (intro w hSw; (try dsimp only at hSw); go_simp; (try with_reducible rfl)))
        try simp only [Act.put, List.getElem_toArray, List.getElem_cons_succ, List.getElem_cons_zero, List.setIfInBounds_toArray, List.set_cons_zero, List.set_cons_succ]
        (refine wpAnyH_take (i := 5) (v := ?_) rfl (by kernel_rfl) (by kernel_rfl) (by kernel_rfl) (fun _ _ _ h => h) (Or.inl ⟨by rfl, ?_⟩) hHeld ?_; rotate_left; focus (intro w hSw; (try dsimp only at hSw); go_simp; (try with_reducible rfl)))
        try simp only [Act.put, List.getElem_toArray, List.getElem_cons_succ, List.getElem_cons_zero, List.setIfInBounds_toArray, List.set_cons_zero, List.set_cons_succ]
        first | (refine wpAnyH_take (i := 6) rfl (by kernel_rfl) (by kernel_rfl) (by kernel_rfl) (fun _ _ _ h => h) (Or.inr ⟨by rfl, rfl⟩) hHeld ?_) | (refine wpAnyH_take (i := 6) (v := ?_) rfl (by kernel_rfl) (by kernel_rfl) (by kernel_rfl) (fun _ _ _ h => h) (Or.inl ⟨by rfl, ?_⟩) hHeld ?_; rotate_left; focus (intro w hSw; (try dsimp only at hSw); go_simp; (try with_reducible rfl)))
        try simp only [Act.put, List.getElem_toArray, List.getElem_cons_succ, List.getElem_cons_zero, List.setIfInBounds_toArray, List.set_cons_zero, List.set_cons_succ]
        first | (refine wpAnyH_take (i := 8) rfl (by kernel_rfl) (by kernel_rfl) (by kernel_rfl) (fun _ _ _ h => h) (Or.inr ⟨by rfl, rfl⟩) hHeld ?_) | (refine wpAnyH_take (i := 8) (v := ?_) rfl (by kernel_rfl) (by kernel_rfl) (by kernel_rfl) (fun _ _ _ h => h) (Or.inl ⟨by rfl, ?_⟩) hHeld ?_; rotate_left; focus (intro w hSw; (try dsimp only at hSw); go_simp; (try with_reducible rfl)))
        try simp only [Act.put, List.getElem_toArray, List.getElem_cons_succ, List.getElem_cons_zero, List.setIfInBounds_toArray, List.set_cons_zero, List.set_cons_succ]
        first | (refine wpAnyH_take (i := 9) rfl (by kernel_rfl) (by kernel_rfl) (by kernel_rfl) (fun _ _ _ h => h) (Or.inr ⟨by rfl, rfl⟩) hHeld ?_) | (refine wpAnyH_take (i := 9) (v := ?_) rfl (by kernel_rfl) (by kernel_rfl) (by kernel_rfl) (fun _ _ _ h => h) (Or.inl ⟨by rfl, ?_⟩) hHeld ?_; rotate_left; focus (intro w hSw; (try dsimp only at hSw); go_simp; (try with_reducible rfl)))
        try simp only [Act.put, List.getElem_toArray, List.getElem_cons_succ, List.getElem_cons_zero, List.setIfInBounds_toArray, List.set_cons_zero, List.set_cons_succ]
        first | (refine wpAnyH_take (i := 7) rfl (by kernel_rfl) (by kernel_rfl) (by kernel_rfl) (fun _ _ _ h => h) (Or.inr ⟨by rfl, rfl⟩) hHeld ?_) | (refine wpAnyH_ready (rs := [7]) (by kernel_rfl) (by simp) ?_; refine AllReadyH.cons rfl (fun K hK => ?_) AllReadyH.nil; go_simp; (first | (go_at_call 10; with_reducible refine (C1.out _ hHeld.1).mono ?_; rintro r w' ⟨rfl, hb⟩) | (go_at_call 11; with_reducible refine (C2.out _ hHeld.1).mono ?_; rintro r w' ⟨rfl, hb⟩) | (go_at_call 12; with_reducible refine (C3.out _ hHeld.1).mono ?_; rintro r w' ⟨rfl, hb⟩) | (go_at_call 13; with_reducible refine (C4.out _ hHeld.1).mono ?_; rintro r w' ⟨rfl, rfl⟩)); (try go_wp2_with fail); refine hK.out _ _ ?_ (fun hHeld' => ?_); (focus (first | exact hkeep _ _ hb hHeld | exact hHeld)); clear hK K; replace hHeld := hHeld'; clear hHeld')
        try simp only [Act.put, List.getElem_toArray, List.getElem_cons_succ, List.getElem_cons_zero, List.setIfInBounds_toArray, List.set_cons_zero, List.set_cons_succ]
        first | (refine wpAnyH_take (i := 10) rfl (by kernel_rfl) (by kernel_rfl) (by kernel_rfl) (fun _ _ _ h => h) (Or.inr ⟨by rfl, rfl⟩) hHeld ?_) | (refine wpAnyH_take (i := 10) (v := ?_) rfl (by kernel_rfl) (by kernel_rfl) (by kernel_rfl) (fun _ _ _ h => h) (Or.inl ⟨by rfl, ?_⟩) hHeld ?_; rotate_left; focus (intro w hSw; (try dsimp only at hSw); go_simp; (try with_reducible rfl)))
        try simp only [Act.put, List.getElem_toArray, List.getElem_cons_succ, List.getElem_cons_zero, List.setIfInBounds_toArray, List.set_cons_zero, List.set_cons_succ]
        (refine wpAnyH_take (i := 11) (v := ?_) rfl (by kernel_rfl) (by kernel_rfl) (by kernel_rfl) (fun _ _ _ h => h) (Or.inl ⟨by rfl, ?_⟩) hHeld ?_; rotate_left; focus (intro w hSw; (try dsimp only at hSw); go_simp; (try with_reducible rfl)))
        try simp only [Act.put, List.getElem_toArray, List.getElem_cons_succ, List.getElem_cons_zero, List.setIfInBounds_toArray, List.set_cons_zero, List.set_cons_succ]
        (refine wpAnyH_take (i := 12) (v := ?_) rfl (by kernel_rfl) (by kernel_rfl) (by kernel_rfl) (fun _ _ _ h => h) (Or.inl ⟨by rfl, ?_⟩) hHeld ?_; rotate_left; focus (intro w hSw; (try dsimp only at hSw); go_simp; (try with_reducible rfl)))
        try simp only [Act.put, List.getElem_toArray, List.getElem_cons_succ, List.getElem_cons_zero, List.setIfInBounds_toArray, List.set_cons_zero, List.set_cons_succ]
        first | (refine wpAnyH_take (i := 13) rfl (by kernel_rfl) (by kernel_rfl) (by kernel_rfl) (fun _ _ _ h => h) (Or.inr ⟨by rfl, rfl⟩) hHeld ?_) | (refine wpAnyH_take (i := 13) (v := ?_) rfl (by kernel_rfl) (by kernel_rfl) (by kernel_rfl) (fun _ _ _ h => h) (Or.inl ⟨by rfl, ?_⟩) hHeld ?_; rotate_left; focus (intro w hSw; (try dsimp only at hSw); go_simp; (try with_reducible rfl)))
        try simp only [Act.put, List.getElem_toArray, List.getElem_cons_succ, List.getElem_cons_zero, List.setIfInBounds_toArray, List.set_cons_zero, List.set_cons_succ]
        first | (refine wpAnyH_take (i := 14) rfl (by kernel_rfl) (by kernel_rfl) (by kernel_rfl) (fun _ _ _ h => h) (Or.inr ⟨by rfl, rfl⟩) hHeld ?_) | (refine wpAnyH_take (i := 14) (v := ?_) rfl (by kernel_rfl) (by kernel_rfl) (by kernel_rfl) (fun _ _ _ h => h) (Or.inl ⟨by rfl, ?_⟩) hHeld ?_; rotate_left; focus (intro w hSw; (try dsimp only at hSw); go_simp; (try with_reducible rfl)))
        try simp only [Act.put, List.getElem_toArray, List.getElem_cons_succ, List.getElem_cons_zero, List.setIfInBounds_toArray, List.set_cons_zero, List.set_cons_succ]
        first | (refine wpAnyH_take (i := 16) rfl (by kernel_rfl) (by kernel_rfl) (by kernel_rfl) (fun _ _ _ h => h) (Or.inr ⟨by rfl, rfl⟩) hHeld ?_) | (refine wpAnyH_take (i := 16) (v := ?_) rfl (by kernel_rfl) (by kernel_rfl) (by kernel_rfl) (fun _ _ _ h => h) (Or.inl ⟨by rfl, ?_⟩) hHeld ?_; rotate_left; focus (intro w hSw; (try dsimp only at hSw); go_simp; (try with_reducible rfl)))
        try simp only [Act.put, List.getElem_toArray, List.getElem_cons_succ, List.getElem_cons_zero, List.setIfInBounds_toArray, List.set_cons_zero, List.set_cons_succ]
        first | (refine wpAnyH_take (i := 17) rfl (by kernel_rfl) (by kernel_rfl) (by kernel_rfl) (fun _ _ _ h => h) (Or.inr ⟨by rfl, rfl⟩) hHeld ?_) | (refine wpAnyH_take (i := 17) (v := ?_) rfl (by kernel_rfl) (by kernel_rfl) (by kernel_rfl) (fun _ _ _ h => h) (Or.inl ⟨by rfl, ?_⟩) hHeld ?_; rotate_left; focus (intro w hSw; (try dsimp only at hSw); go_simp; (try with_reducible rfl)))
        try simp only [Act.put, List.getElem_toArray, List.getElem_cons_succ, List.getElem_cons_zero, List.setIfInBounds_toArray, List.set_cons_zero, List.set_cons_succ]
        first | (refine wpAnyH_take (i := 18) rfl (by kernel_rfl) (by kernel_rfl) (by kernel_rfl) (fun _ _ _ h => h) (Or.inr ⟨by rfl, rfl⟩) hHeld ?_) | (refine wpAnyH_take (i := 18) (v := ?_) rfl (by kernel_rfl) (by kernel_rfl) (by kernel_rfl) (fun _ _ _ h => h) (Or.inl ⟨by rfl, ?_⟩) hHeld ?_; rotate_left; focus (intro w hSw; (try dsimp only at hSw); go_simp; (try with_reducible rfl)))
        try simp only [Act.put, List.getElem_toArray, List.getElem_cons_succ, List.getElem_cons_zero, List.setIfInBounds_toArray, List.set_cons_zero, List.set_cons_succ]
        first | (refine wpAnyH_take (i := 19) rfl (by kernel_rfl) (by kernel_rfl) (by kernel_rfl) (fun _ _ _ h => h) (Or.inr ⟨by rfl, rfl⟩) hHeld ?_) | (refine wpAnyH_take (i := 19) (v := ?_) rfl (by kernel_rfl) (by kernel_rfl) (by kernel_rfl) (fun _ _ _ h => h) (Or.inl ⟨by rfl, ?_⟩) hHeld ?_; rotate_left; focus (intro w hSw; (try dsimp only at hSw); go_simp; (try with_reducible rfl)))
        try simp only [Act.put, List.getElem_toArray, List.getElem_cons_succ, List.getElem_cons_zero, List.setIfInBounds_toArray, List.set_cons_zero, List.set_cons_succ]
        first | (refine wpAnyH_take (i := 15) rfl (by kernel_rfl) (by kernel_rfl) (by kernel_rfl) (fun _ _ _ h => h) (Or.inr ⟨by rfl, rfl⟩) hHeld ?_) | (refine wpAnyH_ready (rs := [15]) (by kernel_rfl) (by simp) ?_; refine AllReadyH.cons rfl (fun K hK => ?_) AllReadyH.nil; go_simp; (first | (go_at_call 10; with_reducible refine (C1.out _ hHeld.1).mono ?_; rintro r w' ⟨rfl, hb⟩) | (go_at_call 11; with_reducible refine (C2.out _ hHeld.1).mono ?_; rintro r w' ⟨rfl, hb⟩) | (go_at_call 12; with_reducible refine (C3.out _ hHeld.1).mono ?_; rintro r w' ⟨rfl, hb⟩) | (go_at_call 13; with_reducible refine (C4.out _ hHeld.1).mono ?_; rintro r w' ⟨rfl, rfl⟩)); (try go_wp2_with fail); refine hK.out _ _ ?_ (fun hHeld' => ?_); (focus (first | exact hkeep _ _ hb hHeld | exact hHeld)); clear hK K; replace hHeld := hHeld'; clear hHeld')
        try simp only [Act.put, List.getElem_toArray, List.getElem_cons_succ, List.getElem_cons_zero, List.setIfInBounds_toArray, List.set_cons_zero, List.set_cons_succ]
        first | (refine wpAnyH_take (i := 20) rfl (by kernel_rfl) (by kernel_rfl) (by kernel_rfl) (fun _ _ _ h => h) (Or.inr ⟨by rfl, rfl⟩) hHeld ?_) | (refine wpAnyH_take (i := 20) (v := ?_) rfl (by kernel_rfl) (by kernel_rfl) (by kernel_rfl) (fun _ _ _ h => h) (Or.inl ⟨by rfl, ?_⟩) hHeld ?_; rotate_left; focus (intro w hSw; (try dsimp only at hSw); go_simp; (try with_reducible rfl)))
        try simp only [Act.put, List.getElem_toArray, List.getElem_cons_succ, List.getElem_cons_zero, List.setIfInBounds_toArray, List.set_cons_zero, List.set_cons_succ]
        (refine wpAnyH_take (i := 21) (v := ?_) rfl (by kernel_rfl) (by kernel_rfl) (by kernel_rfl) (fun _ _ _ h => h) (Or.inl ⟨by rfl, ?_⟩) hHeld ?_; rotate_left; focus (intro w hSw; (try dsimp only at hSw); go_simp; (try with_reducible rfl)))
        try simp only [Act.put, List.getElem_toArray, List.getElem_cons_succ, List.getElem_cons_zero, List.setIfInBounds_toArray, List.set_cons_zero, List.set_cons_succ]
        refine wpAnyH_done (by kernel_rfl) ?_ _
        refine NoPanic.normal ?_
        have HB0 := Lib.hid hHeld.1
        have dd : Below a1 W w' := HD3.out.trans (HB0.out.mono HLE.out)
        have hcc := HC.out
        obtain ⟨_, g0, g1, g2, g3, g4⟩ := hHeld
        have C5 : Hid (∀ w', Below a0 w3 w' → Calls Tryd.prog 14 #[(.iface U v)] w' fun r w'' => r = .returned (.int .i64 ((n : Int) + 1)) ∧ w' = w'') := Lib.hid (fun w' hb => by
          have h := deep_any x w' (HX3.out.below (by rw [HZ3.out]; exact hb)) (by rw [HD.out]; have := HO.out.n40; omega)
          rw [HXV.out, HD.out] at h
          exact h)
        have C6 : Hid (∀ w', Below a0 w3 w' → Calls Tryd.prog 7 #[] w' fun r w'' => r = .returned (.bool true) ∧ Below w'.heap.size w' w'') := Lib.hid (fun w' hb => lives_any _ (HT.out.below (by rw [HZ1.out]; exact HD3.out.trans (hb.mono HLE.out))))
        have hnb := HO.out.n40
        have hw2 : wrap64 ((n : Int) + 1) = (n : Int) + 1 := by unfold wrap64; omega
        have hw : IntKind.i64.wrap ((n : Int) + 1) = (n : Int) + 1 := IntWalk.i64_in _ (by omega)
        have HNB := Lib.hid hnb; clear hnb
        clear C1 C2 C3 C4 f5 f5' HST dd hb
        go_upto_region 9 with fail
        have HST : Hid ((fun w' : World => Below a0 w3 w' ∧ w'.cell? ⟨a1, 0, none⟩ = some (.int .i64 e.t) ∧ w'.cell? ⟨a1, 1, none⟩ = some (.int .i64 e.l) ∧ w'.cell? ⟨a1, 2, none⟩ = some (.string q3) ∧ w'.cell? ⟨a1, 3, none⟩ = some (.int .i64 e.c) ∧ w'.cell? ⟨a1, 4, none⟩ = some (.slice A n cA)) _) := Lib.hid (show (fun w' : World => Below a0 w3 w' ∧ w'.cell? ⟨a1, 0, none⟩ = some (.int .i64 e.t) ∧ w'.cell? ⟨a1, 1, none⟩ = some (.int .i64 e.l) ∧ w'.cell? ⟨a1, 2, none⟩ = some (.string q3) ∧ w'.cell? ⟨a1, 3, none⟩ = some (.int .i64 e.c) ∧ w'.cell? ⟨a1, 4, none⟩ = some (.slice A n cA)) w'.drew from ⟨HB0.out.drew, g0, g1, g2, g3, g4⟩)
        clear g0 g1 g2 g3 g4
        refine wp_region_noPanic ?_
        refine wp_region_held_drew (S := fun w' => Below a0 w3 w' ∧ w'.cell? ⟨a1, 0, none⟩ = some (.int .i64 e.t) ∧ w'.cell? ⟨a1, 1, none⟩ = some (.int .i64 e.l) ∧ w'.cell? ⟨a1, 2, none⟩ = some (.string q3) ∧ w'.cell? ⟨a1, 3, none⟩ = some (.int .i64 e.c) ∧ w'.cell? ⟨a1, 4, none⟩ = some (.slice A n cA)) (by kernel_rfl) (HST.out) (fun hHeld => ?_)
        (refine wpAnyH_take (i := 0) (v := ?_) rfl (by kernel_rfl) (by kernel_rfl) (by kernel_rfl) (fun _ _ _ h => h) (Or.inl ⟨by rfl, ?_⟩) hHeld ?_; rotate_left; focus (intro w hSw; (try dsimp only at hSw); go_simp; (try with_reducible rfl)))
        try simp only [Act.put, List.getElem_toArray, List.getElem_cons_succ, List.getElem_cons_zero, List.setIfInBounds_toArray, List.set_cons_zero, List.set_cons_succ]
        (refine wpAnyH_take (i := 1) (v := ?_) rfl (by kernel_rfl) (by kernel_rfl) (by kernel_rfl) (fun _ _ _ h => h) (Or.inl ⟨by rfl, ?_⟩) hHeld ?_; rotate_left; focus (intro w hSw; (try dsimp only at hSw); go_simp; (try with_reducible rfl)))
        try simp only [Act.put, List.getElem_toArray, List.getElem_cons_succ, List.getElem_cons_zero, List.setIfInBounds_toArray, List.set_cons_zero, List.set_cons_succ]
        (refine wpAnyH_take (i := 2) (v := ?_) rfl (by kernel_rfl) (by kernel_rfl) (by kernel_rfl) (fun _ _ _ h => h) (Or.inl ⟨by rfl, ?_⟩) hHeld ?_; rotate_left; focus (intro w hSw; (try dsimp only at hSw); go_simp; (try with_reducible rfl)))
        try simp only [Act.put, List.getElem_toArray, List.getElem_cons_succ, List.getElem_cons_zero, List.setIfInBounds_toArray, List.set_cons_zero, List.set_cons_succ]
        first | (refine wpAnyH_take (i := 3) rfl (by kernel_rfl) (by kernel_rfl) (by kernel_rfl) (fun _ _ _ h => h) (Or.inr ⟨by rfl, rfl⟩) hHeld ?_) | (refine wpAnyH_take (i := 3) (v := ?_) rfl (by kernel_rfl) (by kernel_rfl) (by kernel_rfl) (fun _ _ _ h => h) (Or.inl ⟨by rfl, ?_⟩) hHeld ?_; rotate_left; focus (intro w hSw; (try dsimp only at hSw); go_simp; (try with_reducible rfl)))
        try simp only [Act.put, List.getElem_toArray, List.getElem_cons_succ, List.getElem_cons_zero, List.setIfInBounds_toArray, List.set_cons_zero, List.set_cons_succ]
        first | (refine wpAnyH_take (i := 4) rfl (by kernel_rfl) (by kernel_rfl) (by kernel_rfl) (fun _ _ _ h => h) (Or.inr ⟨by rfl, rfl⟩) hHeld ?_) | (refine wpAnyH_take (i := 4) (v := ?_) rfl (by kernel_rfl) (by kernel_rfl) (by kernel_rfl) (fun _ _ _ h => h) (Or.inl ⟨by rfl, ?_⟩) hHeld ?_; rotate_left; focus (intro w hSw; (try dsimp only at hSw); go_simp; (try with_reducible rfl)))
        try simp only [Act.put, List.getElem_toArray, List.getElem_cons_succ, List.getElem_cons_zero, List.setIfInBounds_toArray, List.set_cons_zero, List.set_cons_succ]
        first | (refine wpAnyH_take (i := 5) rfl (by kernel_rfl) (by kernel_rfl) (by kernel_rfl) (fun _ _ _ h => h) (Or.inr ⟨by rfl, rfl⟩) hHeld ?_) | (refine wpAnyH_take (i := 5) (v := ?_) rfl (by kernel_rfl) (by kernel_rfl) (by kernel_rfl) (fun _ _ _ h => h) (Or.inl ⟨by rfl, ?_⟩) hHeld ?_; rotate_left; focus (intro w hSw; (try dsimp only at hSw); go_simp; (try with_reducible rfl)))
        try simp only [Act.put, List.getElem_toArray, List.getElem_cons_succ, List.getElem_cons_zero, List.setIfInBounds_toArray, List.set_cons_zero, List.set_cons_succ]
        first | (refine wpAnyH_take (i := 6) rfl (by kernel_rfl) (by kernel_rfl) (by kernel_rfl) (fun _ _ _ h => h) (Or.inr ⟨by rfl, rfl⟩) hHeld ?_) | (refine wpAnyH_take (i := 6) (v := ?_) rfl (by kernel_rfl) (by kernel_rfl) (by kernel_rfl) (fun _ _ _ h => h) (Or.inl ⟨by rfl, ?_⟩) hHeld ?_; rotate_left; focus (intro w hSw; (try dsimp only at hSw); go_simp; (try with_reducible rfl)))
        try simp only [Act.put, List.getElem_toArray, List.getElem_cons_succ, List.getElem_cons_zero, List.setIfInBounds_toArray, List.set_cons_zero, List.set_cons_succ]
        (refine wpAnyH_take (i := 7) (v := ?_) rfl (by kernel_rfl) (by kernel_rfl) (by kernel_rfl) (fun _ _ _ h => h) (Or.inl ⟨by rfl, ?_⟩) hHeld ?_; rotate_left; focus (intro w hSw; (try dsimp only at hSw); go_simp; (try with_reducible rfl)))
        try simp only [Act.put, List.getElem_toArray, List.getElem_cons_succ, List.getElem_cons_zero, List.setIfInBounds_toArray, List.set_cons_zero, List.set_cons_succ]
        (refine wpAnyH_take (i := 8) (v := ?_) rfl (by kernel_rfl) (by kernel_rfl) (by kernel_rfl) (fun _ _ _ h => h) (Or.inl ⟨by rfl, ?_⟩) hHeld ?_; rotate_left; focus (intro w hSw; (try dsimp only at hSw); go_simp; (try with_reducible rfl)))
        try simp only [Act.put, List.getElem_toArray, List.getElem_cons_succ, List.getElem_cons_zero, List.setIfInBounds_toArray, List.set_cons_zero, List.set_cons_succ]
        first | (refine wpAnyH_take (i := 9) rfl (by kernel_rfl) (by kernel_rfl) (by kernel_rfl) (fun _ _ _ h => h) (Or.inr ⟨by rfl, rfl⟩) hHeld ?_) | (refine wpAnyH_take (i := 9) (v := ?_) rfl (by kernel_rfl) (by kernel_rfl) (by kernel_rfl) (fun _ _ _ h => h) (Or.inl ⟨by rfl, ?_⟩) hHeld ?_; rotate_left; focus (intro w hSw; (try dsimp only at hSw); go_simp; (try with_reducible rfl)))
        try simp only [Act.put, List.getElem_toArray, List.getElem_cons_succ, List.getElem_cons_zero, List.setIfInBounds_toArray, List.set_cons_zero, List.set_cons_succ]
        first | (refine wpAnyH_take (i := 10) rfl (by kernel_rfl) (by kernel_rfl) (by kernel_rfl) (fun _ _ _ h => h) (Or.inr ⟨by rfl, rfl⟩) hHeld ?_) | (refine wpAnyH_take (i := 10) (v := ?_) rfl (by kernel_rfl) (by kernel_rfl) (by kernel_rfl) (fun _ _ _ h => h) (Or.inl ⟨by rfl, ?_⟩) hHeld ?_; rotate_left; focus (intro w hSw; (try dsimp only at hSw); go_simp; (try with_reducible rfl)))
        try simp only [Act.put, List.getElem_toArray, List.getElem_cons_succ, List.getElem_cons_zero, List.setIfInBounds_toArray, List.set_cons_zero, List.set_cons_succ]
        first | (refine wpAnyH_take (i := 11) rfl (by kernel_rfl) (by kernel_rfl) (by kernel_rfl) (fun _ _ _ h => h) (Or.inr ⟨by rfl, rfl⟩) hHeld ?_) | (refine wpAnyH_take (i := 11) (v := ?_) rfl (by kernel_rfl) (by kernel_rfl) (by kernel_rfl) (fun _ _ _ h => h) (Or.inl ⟨by rfl, ?_⟩) hHeld ?_; rotate_left; focus (intro w hSw; (try dsimp only at hSw); go_simp; (try with_reducible rfl)))
        try simp only [Act.put, List.getElem_toArray, List.getElem_cons_succ, List.getElem_cons_zero, List.setIfInBounds_toArray, List.set_cons_zero, List.set_cons_succ]
        first | (refine wpAnyH_take (i := 12) rfl (by kernel_rfl) (by kernel_rfl) (by kernel_rfl) (fun _ _ _ h => h) (Or.inr ⟨by rfl, rfl⟩) hHeld ?_) | (refine wpAnyH_take (i := 12) (v := ?_) rfl (by kernel_rfl) (by kernel_rfl) (by kernel_rfl) (fun _ _ _ h => h) (Or.inl ⟨by rfl, ?_⟩) hHeld ?_; rotate_left; focus (intro w hSw; (try dsimp only at hSw); go_simp; (try with_reducible rfl)))
        try simp only [Act.put, List.getElem_toArray, List.getElem_cons_succ, List.getElem_cons_zero, List.setIfInBounds_toArray, List.set_cons_zero, List.set_cons_succ]
        (refine wpAnyH_take (i := 13) (v := ?_) rfl (by kernel_rfl) (by kernel_rfl) (by kernel_rfl) (fun _ _ _ h => h) (Or.inl ⟨by rfl, ?_⟩) hHeld ?_; rotate_left; focus (intro w hSw; (try dsimp only at hSw); go_simp; (try with_reducible rfl)))
        try simp only [Act.put, List.getElem_toArray, List.getElem_cons_succ, List.getElem_cons_zero, List.setIfInBounds_toArray, List.set_cons_zero, List.set_cons_succ]
        (refine wpAnyH_take (i := 14) (v := ?_) rfl (by kernel_rfl) (by kernel_rfl) (by kernel_rfl) (fun _ _ _ h => h) (Or.inl ⟨by rfl, ?_⟩) hHeld ?_; rotate_left; focus (intro w hSw; (try dsimp only at hSw); go_simp; (try with_reducible rfl)))
        try simp only [Act.put, List.getElem_toArray, List.getElem_cons_succ, List.getElem_cons_zero, List.setIfInBounds_toArray, List.set_cons_zero, List.set_cons_succ]
        first | (refine wpAnyH_take (i := 15) rfl (by kernel_rfl) (by kernel_rfl) (by kernel_rfl) (fun _ _ _ h => h) (Or.inr ⟨by rfl, rfl⟩) hHeld ?_) | (refine wpAnyH_take (i := 15) (v := ?_) rfl (by kernel_rfl) (by kernel_rfl) (by kernel_rfl) (fun _ _ _ h => h) (Or.inl ⟨by rfl, ?_⟩) hHeld ?_; rotate_left; focus (intro w hSw; (try dsimp only at hSw); go_simp; (try with_reducible rfl)))
        try simp only [Act.put, List.getElem_toArray, List.getElem_cons_succ, List.getElem_cons_zero, List.setIfInBounds_toArray, List.set_cons_zero, List.set_cons_succ]
        (refine wpAnyH_take (i := 16) (v := ?_) rfl (by kernel_rfl) (by kernel_rfl) (by kernel_rfl) (fun _ _ _ h => h) (Or.inl ⟨by rfl, ?_⟩) hHeld ?_; rotate_left; focus (intro w hSw; (try dsimp only at hSw); go_simp; (try with_reducible rfl)))
        try simp only [Act.put, List.getElem_toArray, List.getElem_cons_succ, List.getElem_cons_zero, List.setIfInBounds_toArray, List.set_cons_zero, List.set_cons_succ]
        (refine wpAnyH_take (i := 17) (v := ?_) rfl (by kernel_rfl) (by kernel_rfl) (by kernel_rfl) (fun _ _ _ h => h) (Or.inl ⟨by rfl, ?_⟩) hHeld ?_; rotate_left; focus (intro w hSw; (try dsimp only at hSw); go_simp; (try with_reducible rfl)))
        try simp only [Act.put, List.getElem_toArray, List.getElem_cons_succ, List.getElem_cons_zero, List.setIfInBounds_toArray, List.set_cons_zero, List.set_cons_succ]
        first | (refine wpAnyH_take (i := 18) rfl (by kernel_rfl) (by kernel_rfl) (by kernel_rfl) (fun _ _ _ h => h) (Or.inr ⟨by rfl, rfl⟩) hHeld ?_) | (refine wpAnyH_take (i := 18) (v := ?_) rfl (by kernel_rfl) (by kernel_rfl) (by kernel_rfl) (fun _ _ _ h => h) (Or.inl ⟨by rfl, ?_⟩) hHeld ?_; rotate_left; focus (intro w hSw; (try dsimp only at hSw); go_simp; (try with_reducible rfl)))
        try simp only [Act.put, List.getElem_toArray, List.getElem_cons_succ, List.getElem_cons_zero, List.setIfInBounds_toArray, List.set_cons_zero, List.set_cons_succ]
        first | (refine wpAnyH_take (i := 20) rfl (by kernel_rfl) (by kernel_rfl) (by kernel_rfl) (fun _ _ _ h => h) (Or.inr ⟨by rfl, rfl⟩) hHeld ?_) | (refine wpAnyH_take (i := 20) (v := ?_) rfl (by kernel_rfl) (by kernel_rfl) (by kernel_rfl) (fun _ _ _ h => h) (Or.inl ⟨by rfl, ?_⟩) hHeld ?_; rotate_left; focus (intro w hSw; (try dsimp only at hSw); go_simp; (try with_reducible rfl)))
        try simp only [Act.put, List.getElem_toArray, List.getElem_cons_succ, List.getElem_cons_zero, List.setIfInBounds_toArray, List.set_cons_zero, List.set_cons_succ]
        first | (refine wpAnyH_take (i := 21) rfl (by kernel_rfl) (by kernel_rfl) (by kernel_rfl) (fun _ _ _ h => h) (Or.inr ⟨by rfl, rfl⟩) hHeld ?_) | (refine wpAnyH_take (i := 21) (v := ?_) rfl (by kernel_rfl) (by kernel_rfl) (by kernel_rfl) (fun _ _ _ h => h) (Or.inl ⟨by rfl, ?_⟩) hHeld ?_; rotate_left; focus (intro w hSw; (try dsimp only at hSw); go_simp; (try with_reducible rfl)))
        try simp only [Act.put, List.getElem_toArray, List.getElem_cons_succ, List.getElem_cons_zero, List.setIfInBounds_toArray, List.set_cons_zero, List.set_cons_succ]
        first | (refine wpAnyH_take (i := 22) rfl (by kernel_rfl) (by kernel_rfl) (by kernel_rfl) (fun _ _ _ h => h) (Or.inr ⟨by rfl, rfl⟩) hHeld ?_) | (refine wpAnyH_take (i := 22) (v := ?_) rfl (by kernel_rfl) (by kernel_rfl) (by kernel_rfl) (fun _ _ _ h => h) (Or.inl ⟨by rfl, ?_⟩) hHeld ?_; rotate_left; focus (intro w hSw; (try dsimp only at hSw); go_simp; (try with_reducible rfl)))
        try simp only [Act.put, List.getElem_toArray, List.getElem_cons_succ, List.getElem_cons_zero, List.setIfInBounds_toArray, List.set_cons_zero, List.set_cons_succ]
        first | (refine wpAnyH_take (i := 23) rfl (by kernel_rfl) (by kernel_rfl) (by kernel_rfl) (fun _ _ _ h => h) (Or.inr ⟨by rfl, rfl⟩) hHeld ?_) | (refine wpAnyH_take (i := 23) (v := ?_) rfl (by kernel_rfl) (by kernel_rfl) (by kernel_rfl) (fun _ _ _ h => h) (Or.inl ⟨by rfl, ?_⟩) hHeld ?_; rotate_left; focus (intro w hSw; (try dsimp only at hSw); go_simp; (try with_reducible rfl)))
        try simp only [Act.put, List.getElem_toArray, List.getElem_cons_succ, List.getElem_cons_zero, List.setIfInBounds_toArray, List.set_cons_zero, List.set_cons_succ]
        first | (refine wpAnyH_take (i := 19) rfl (by kernel_rfl) (by kernel_rfl) (by kernel_rfl) (fun _ _ _ h => h) (Or.inr ⟨by rfl, rfl⟩) hHeld ?_) | (refine wpAnyH_ready (rs := [19]) (by kernel_rfl) (by simp) ?_; refine AllReadyH.cons rfl (fun K hK => ?_) AllReadyH.nil; go_simp; (first | (go_at_call 14; with_reducible refine (C5.out _ hHeld.1).mono ?_; rintro r w' ⟨rfl, rfl⟩) | (go_at_call 7; with_reducible refine (C6.out _ hHeld.1).mono ?_; rintro r w' ⟨rfl, hb⟩)); (try go_wp2_with fail); refine hK.out _ _ ?_ (fun hHeld' => ?_); (focus (first | exact hkeep _ _ hb hHeld | exact hHeld)); clear hK K; replace hHeld := hHeld'; clear hHeld')
        try simp only [Act.put, List.getElem_toArray, List.getElem_cons_succ, List.getElem_cons_zero, List.setIfInBounds_toArray, List.set_cons_zero, List.set_cons_succ]
        first | (refine wpAnyH_take (i := 24) rfl (by kernel_rfl) (by kernel_rfl) (by kernel_rfl) (fun _ _ _ h => h) (Or.inr ⟨by rfl, rfl⟩) hHeld ?_) | (refine wpAnyH_take (i := 24) (v := ?_) rfl (by kernel_rfl) (by kernel_rfl) (by kernel_rfl) (fun _ _ _ h => h) (Or.inl ⟨by rfl, ?_⟩) hHeld ?_; rotate_left; focus (intro w hSw; (try dsimp only at hSw); go_simp; (try with_reducible rfl)))
        try simp only [Act.put, List.getElem_toArray, List.getElem_cons_succ, List.getElem_cons_zero, List.setIfInBounds_toArray, List.set_cons_zero, List.set_cons_succ]
        (refine wpAnyH_take (i := 25) (v := ?_) rfl (by kernel_rfl) (by kernel_rfl) (by kernel_rfl) (fun _ _ _ h => h) (Or.inl ⟨by rfl, ?_⟩) hHeld ?_; rotate_left; focus (intro w hSw; (try dsimp only at hSw); go_simp; (try with_reducible rfl)))
        try simp only [Act.put, List.getElem_toArray, List.getElem_cons_succ, List.getElem_cons_zero, List.setIfInBounds_toArray, List.set_cons_zero, List.set_cons_succ]
        (refine wpAnyH_take (i := 26) (v := ?_) rfl (by kernel_rfl) (by kernel_rfl) (by kernel_rfl) (fun _ _ _ h => h) (Or.inl ⟨by rfl, ?_⟩) hHeld ?_; rotate_left; focus (intro w hSw; (try dsimp only at hSw); go_simp; (try with_reducible rfl)))
        try simp only [Act.put, List.getElem_toArray, List.getElem_cons_succ, List.getElem_cons_zero, List.setIfInBounds_toArray, List.set_cons_zero, List.set_cons_succ]
        first | (refine wpAnyH_take (i := 27) rfl (by kernel_rfl) (by kernel_rfl) (by kernel_rfl) (fun _ _ _ h => h) (Or.inr ⟨by rfl, rfl⟩) hHeld ?_) | (refine wpAnyH_ready (rs := [27]) (by kernel_rfl) (by simp) ?_; refine AllReadyH.cons rfl (fun K hK => ?_) AllReadyH.nil; go_simp; (first | (go_at_call 14; with_reducible refine (C5.out _ hHeld.1).mono ?_; rintro r w' ⟨rfl, rfl⟩) | (go_at_call 7; with_reducible refine (C6.out _ hHeld.1).mono ?_; rintro r w' ⟨rfl, hb⟩)); (try go_wp2_with fail); refine hK.out _ _ ?_ (fun hHeld' => ?_); (focus (first | exact hkeep _ _ hb hHeld | exact hHeld)); clear hK K; replace hHeld := hHeld'; clear hHeld')
        try simp only [Act.put, List.getElem_toArray, List.getElem_cons_succ, List.getElem_cons_zero, List.setIfInBounds_toArray, List.set_cons_zero, List.set_cons_succ]
        (refine wpAnyH_take (i := 28) (v := ?_) rfl (by kernel_rfl) (by kernel_rfl) (by kernel_rfl) (fun _ _ _ h => h) (Or.inl ⟨by rfl, ?_⟩) hHeld ?_; rotate_left; focus (intro w hSw; (try dsimp only at hSw); go_simp; (try with_reducible rfl)))
        try simp only [Act.put, List.getElem_toArray, List.getElem_cons_succ, List.getElem_cons_zero, List.setIfInBounds_toArray, List.set_cons_zero, List.set_cons_succ]
        (refine wpAnyH_take (i := 29) (v := ?_) rfl (by kernel_rfl) (by kernel_rfl) (by kernel_rfl) (fun _ _ _ h => h) (Or.inl ⟨by rfl, ?_⟩) hHeld ?_; rotate_left; focus (intro w hSw; (try dsimp only at hSw); go_simp; (try with_reducible rfl)))
        try simp only [Act.put, List.getElem_toArray, List.getElem_cons_succ, List.getElem_cons_zero, List.setIfInBounds_toArray, List.set_cons_zero, List.set_cons_succ]
        refine wpAnyH_done (by kernel_rfl) ?_ _
        refine NoPanic.normal ?_
        have HB1 := Lib.hid hHeld.1
        clear hHeld hkeep
        go_wp2_with fail
        go_ret
        exact ⟨rfl, by rw [HZ1.out]; exact HD3.out.trans (HB1.out.mono HLE.out)⟩
      · have HK := Lib.hid hk; clear hk
        have CW := Lib.hid (where_any x w2 hx (HG.out.below d2))
        have CW' : Hid (Calls Tryd.prog 9 #[(.iface U v)] w2 fun r w' => r = .returned (.tuple #[.int .i64 e.t, .int .i64 e.l, .bool true]) ∧ Below w2.heap.size w2 w') := Lib.hid (by
          have h := CW.out
          rw [HXV.out, HW1.out, HW2.out, HW3.out] at h
          exact h)
        go_upto_region 5 with (go_at_call 9; with_reducible refine CW'.out.mono ?_; rintro r w3 ⟨rfl, hb3⟩)
        have d3 := d2.trans (hb3.mono d2.size)
        have HX3 := Lib.hid (hx.below hb3)
        have HR3 := Lib.hid (HR.out.below d3)
        have hrow := ((HX1.out.keep hb2).keep hb3)
        obtain ⟨g0, g1, g2, g3, g4⟩ := err_cells hrow
        have HD3 := Lib.hid d3
        have C1 : Hid (∀ w', Below w3.heap.size w3 w' → Calls Tryd.prog 10 #[(.iface U v)] w' fun r w'' => r = .returned (.string (sB (textL e n))) ∧ Below w'.heap.size w' w'') := Lib.hid (fun w' hb => by
          have h := text_any x w' (HX3.out.below hb) (HT.out.below (HD3.out.trans (hb.mono HD3.out.size))) (by rw [HM.out.text]; exact textL_len HO.out)
          rw [HM.out.text, HXV.out] at h
          exact h)
        have C2 : Hid (∀ w', Below w3.heap.size w3 w' → Calls Tryd.prog 11 #[.agg (rowOf 5 (errV (.slice A n cA) e))] w' fun r w'' => r = .returned (.string (sB (textL e n))) ∧ Below w'.heap.size w' w'') := Lib.hid (fun w' hb => rText_any A n cA e HO.out w' (HR3.out.below hb))
        have C3 : Hid (∀ w', Below w3.heap.size w3 w' → Calls Tryd.prog 12 #[(.iface U v)] w' fun r w'' => r = .returned (.int .i64 e.c) ∧ Below w'.heap.size w' w'') := Lib.hid (fun w' hb => by
          have h := code_any x w' (HX3.out.below hb) (HG.out.below (HD3.out.trans (hb.mono HD3.out.size)))
          rw [HM.out.code, HXV.out] at h
          exact h)
        have C4 : Hid (∀ w', Below w3.heap.size w3 w' → Calls Tryd.prog 13 #[(.iface U v), .int .i64 k] w' fun r w'' => r = .returned (.bool false) ∧ w' = w'') := Lib.hid (fun w' hb => by
          have h := fIs_any x k w' (HX3.out.below hb)
          rw [HM.out.isOf, HXV.out] at h
          rw [show decide (k = e.c) = false from decide_eq_false HK.out] at h
          exact h)
        have f5' := f5
        generalize hq3 : sB e.what = q3 at *
        generalize hQ : sB (textL e n) = Q at *
        have hk : ¬ k = e.c := fun h => HK.out (h)
        generalize hz3 : w3.heap.size = a0 at *
        generalize hz1 : W.heap.size = a1 at *
        have HZ3 := Lib.hid hz3; have HZ1 := Lib.hid hz1
        have HLE : Hid (a1 ≤ a0) := Lib.hid (by have := HD3.out.size; omega)
        clear hz3 hz1 hq3 hQ
        have hst : (fun w' : World => Below a0 w3 w' ∧ w'.cell? ⟨a1, 0, none⟩ = some (.int .i64 e.t) ∧ w'.cell? ⟨a1, 1, none⟩ = some (.int .i64 e.l) ∧ w'.cell? ⟨a1, 2, none⟩ = some (.string q3) ∧ w'.cell? ⟨a1, 3, none⟩ = some (.int .i64 e.c) ∧ w'.cell? ⟨a1, 4, none⟩ = some (.slice A n cA)) w3.drew := ⟨(Below.refl _ _).drew, g0, g1, g2, g3, g4⟩
        have hkeep : ∀ w1 w2 : World, Below w1.heap.size w1 w2 → (fun w' : World => Below a0 w3 w' ∧ w'.cell? ⟨a1, 0, none⟩ = some (.int .i64 e.t) ∧ w'.cell? ⟨a1, 1, none⟩ = some (.int .i64 e.l) ∧ w'.cell? ⟨a1, 2, none⟩ = some (.string q3) ∧ w'.cell? ⟨a1, 3, none⟩ = some (.int .i64 e.c) ∧ w'.cell? ⟨a1, 4, none⟩ = some (.slice A n cA)) w1 → (fun w' : World => Below a0 w3 w' ∧ w'.cell? ⟨a1, 0, none⟩ = some (.int .i64 e.t) ∧ w'.cell? ⟨a1, 1, none⟩ = some (.int .i64 e.l) ∧ w'.cell? ⟨a1, 2, none⟩ = some (.string q3) ∧ w'.cell? ⟨a1, 3, none⟩ = some (.int .i64 e.c) ∧ w'.cell? ⟨a1, 4, none⟩ = some (.slice A n cA)) w2 := fun w1 w2 hb h =>
          ⟨below_on h.1 (Nat.le_of_eq HZ3.out.symm) hb, cell_keep hb h.2.1, cell_keep hb h.2.2.1, cell_keep hb h.2.2.2.1, cell_keep hb h.2.2.2.2.1, cell_keep hb h.2.2.2.2.2⟩
        have HST := Lib.hid hst
        clear hst g0 g1 g2 g3 g4 hrow hb1 hb2 hb3 d1 d2 d3 hm hx hok CW CW' v0 v1 v2 v3 v4
        refine wp_region_noPanic ?_
        refine wp_region_held_drew (S := fun w' => Below a0 w3 w' ∧ w'.cell? ⟨a1, 0, none⟩ = some (.int .i64 e.t) ∧ w'.cell? ⟨a1, 1, none⟩ = some (.int .i64 e.l) ∧ w'.cell? ⟨a1, 2, none⟩ = some (.string q3) ∧ w'.cell? ⟨a1, 3, none⟩ = some (.int .i64 e.c) ∧ w'.cell? ⟨a1, 4, none⟩ = some (.slice A n cA)) (by kernel_rfl) (HST.out) (fun hHeld => ?_)
        (refine wpAnyH_take (i := 0) (v := ?_) rfl (by kernel_rfl) (by kernel_rfl) (by kernel_rfl) (fun _ _ _ h => h) (Or.inl ⟨by rfl, ?_⟩) hHeld ?_; rotate_left; focus (intro w hSw; (try dsimp only at hSw); go_simp; (try with_reducible rfl)))
        try simp only [Act.put, List.getElem_toArray, List.getElem_cons_succ, List.getElem_cons_zero, List.setIfInBounds_toArray, List.set_cons_zero, List.set_cons_succ]
        (refine wpAnyH_take (i := 2) (v := ?_) rfl (by kernel_rfl) (by kernel_rfl) (by kernel_rfl) (fun _ _ _ h => h) (Or.inl ⟨by rfl, ?_⟩) hHeld ?_; rotate_left; focus (intro w hSw; (try dsimp only at hSw); go_simp; (try with_reducible rfl)))
        try simp only [Act.put, List.getElem_toArray, List.getElem_cons_succ, List.getElem_cons_zero, List.setIfInBounds_toArray, List.set_cons_zero, List.set_cons_succ]
        (refine wpAnyH_ready (rs := [1]) (by kernel_rfl) (by simp) ?_; refine AllReadyH.cons rfl (fun K hK => ?_) AllReadyH.nil; go_simp; (first | (go_at_call 10; with_reducible refine (C1.out _ hHeld.1).mono ?_; rintro r w' ⟨rfl, hb⟩) | (go_at_call 11; with_reducible refine (C2.out _ hHeld.1).mono ?_; rintro r w' ⟨rfl, hb⟩) | (go_at_call 12; with_reducible refine (C3.out _ hHeld.1).mono ?_; rintro r w' ⟨rfl, hb⟩) | (go_at_call 13; with_reducible refine (C4.out _ hHeld.1).mono ?_; rintro r w' ⟨rfl, rfl⟩)); (try go_wp2_with fail); refine hK.out _ _ ?_ (fun hHeld' => ?_); (focus (first | exact hkeep _ _ hb hHeld | exact hHeld)); clear hK K; replace hHeld := hHeld'; clear hHeld')
        try simp only [Act.put, List.getElem_toArray, List.getElem_cons_succ, List.getElem_cons_zero, List.setIfInBounds_toArray, List.set_cons_zero, List.set_cons_succ]
        (refine wpAnyH_ready (rs := [3]) (by kernel_rfl) (by simp) ?_; refine AllReadyH.cons rfl (fun K hK => ?_) AllReadyH.nil; go_simp; (first | (go_at_call 10; with_reducible refine (C1.out _ hHeld.1).mono ?_; rintro r w' ⟨rfl, hb⟩) | (go_at_call 11; with_reducible refine (C2.out _ hHeld.1).mono ?_; rintro r w' ⟨rfl, hb⟩) | (go_at_call 12; with_reducible refine (C3.out _ hHeld.1).mono ?_; rintro r w' ⟨rfl, hb⟩) | (go_at_call 13; with_reducible refine (C4.out _ hHeld.1).mono ?_; rintro r w' ⟨rfl, rfl⟩)); (try go_wp2_with fail); refine hK.out _ _ ?_ (fun hHeld' => ?_); (focus (first | exact hkeep _ _ hb hHeld | exact hHeld)); clear hK K; replace hHeld := hHeld'; clear hHeld')
        try simp only [Act.put, List.getElem_toArray, List.getElem_cons_succ, List.getElem_cons_zero, List.setIfInBounds_toArray, List.set_cons_zero, List.set_cons_succ]
        (refine wpAnyH_take (i := 4) (v := ?_) rfl (by kernel_rfl) (by kernel_rfl) (by kernel_rfl) (fun _ _ _ h => h) (Or.inl ⟨by rfl, ?_⟩) hHeld ?_; rotate_left; focus (intro w hSw; (try dsimp only at hSw); go_simp; (try with_reducible rfl)))
        try simp only [Act.put, List.getElem_toArray, List.getElem_cons_succ, List.getElem_cons_zero, List.setIfInBounds_toArray, List.set_cons_zero, List.set_cons_succ]
        (refine wpAnyH_take (i := 5) (v := ?_) rfl (by kernel_rfl) (by kernel_rfl) (by kernel_rfl) (fun _ _ _ h => h) (Or.inl ⟨by rfl, ?_⟩) hHeld ?_; rotate_left; focus (intro w hSw; (try dsimp only at hSw); go_simp; (try with_reducible rfl)))
        try simp only [Act.put, List.getElem_toArray, List.getElem_cons_succ, List.getElem_cons_zero, List.setIfInBounds_toArray, List.set_cons_zero, List.set_cons_succ]
        first | (refine wpAnyH_take (i := 6) rfl (by kernel_rfl) (by kernel_rfl) (by kernel_rfl) (fun _ _ _ h => h) (Or.inr ⟨by rfl, rfl⟩) hHeld ?_) | (refine wpAnyH_take (i := 6) (v := ?_) rfl (by kernel_rfl) (by kernel_rfl) (by kernel_rfl) (fun _ _ _ h => h) (Or.inl ⟨by rfl, ?_⟩) hHeld ?_; rotate_left; focus (intro w hSw; (try dsimp only at hSw); go_simp; (try with_reducible rfl)))
        try simp only [Act.put, List.getElem_toArray, List.getElem_cons_succ, List.getElem_cons_zero, List.setIfInBounds_toArray, List.set_cons_zero, List.set_cons_succ]
        first | (refine wpAnyH_take (i := 8) rfl (by kernel_rfl) (by kernel_rfl) (by kernel_rfl) (fun _ _ _ h => h) (Or.inr ⟨by rfl, rfl⟩) hHeld ?_) | (refine wpAnyH_take (i := 8) (v := ?_) rfl (by kernel_rfl) (by kernel_rfl) (by kernel_rfl) (fun _ _ _ h => h) (Or.inl ⟨by rfl, ?_⟩) hHeld ?_; rotate_left; focus (intro w hSw; (try dsimp only at hSw); go_simp; (try with_reducible rfl)))
        try simp only [Act.put, List.getElem_toArray, List.getElem_cons_succ, List.getElem_cons_zero, List.setIfInBounds_toArray, List.set_cons_zero, List.set_cons_succ]
        first | (refine wpAnyH_take (i := 9) rfl (by kernel_rfl) (by kernel_rfl) (by kernel_rfl) (fun _ _ _ h => h) (Or.inr ⟨by rfl, rfl⟩) hHeld ?_) | (refine wpAnyH_take (i := 9) (v := ?_) rfl (by kernel_rfl) (by kernel_rfl) (by kernel_rfl) (fun _ _ _ h => h) (Or.inl ⟨by rfl, ?_⟩) hHeld ?_; rotate_left; focus (intro w hSw; (try dsimp only at hSw); go_simp; (try with_reducible rfl)))
        try simp only [Act.put, List.getElem_toArray, List.getElem_cons_succ, List.getElem_cons_zero, List.setIfInBounds_toArray, List.set_cons_zero, List.set_cons_succ]
        first | (refine wpAnyH_take (i := 7) rfl (by kernel_rfl) (by kernel_rfl) (by kernel_rfl) (fun _ _ _ h => h) (Or.inr ⟨by rfl, rfl⟩) hHeld ?_) | (refine wpAnyH_ready (rs := [7]) (by kernel_rfl) (by simp) ?_; refine AllReadyH.cons rfl (fun K hK => ?_) AllReadyH.nil; go_simp; (first | (go_at_call 10; with_reducible refine (C1.out _ hHeld.1).mono ?_; rintro r w' ⟨rfl, hb⟩) | (go_at_call 11; with_reducible refine (C2.out _ hHeld.1).mono ?_; rintro r w' ⟨rfl, hb⟩) | (go_at_call 12; with_reducible refine (C3.out _ hHeld.1).mono ?_; rintro r w' ⟨rfl, hb⟩) | (go_at_call 13; with_reducible refine (C4.out _ hHeld.1).mono ?_; rintro r w' ⟨rfl, rfl⟩)); (try go_wp2_with fail); refine hK.out _ _ ?_ (fun hHeld' => ?_); (focus (first | exact hkeep _ _ hb hHeld | exact hHeld)); clear hK K; replace hHeld := hHeld'; clear hHeld')
        try simp only [Act.put, List.getElem_toArray, List.getElem_cons_succ, List.getElem_cons_zero, List.setIfInBounds_toArray, List.set_cons_zero, List.set_cons_succ]
        first | (refine wpAnyH_take (i := 10) rfl (by kernel_rfl) (by kernel_rfl) (by kernel_rfl) (fun _ _ _ h => h) (Or.inr ⟨by rfl, rfl⟩) hHeld ?_) | (refine wpAnyH_take (i := 10) (v := ?_) rfl (by kernel_rfl) (by kernel_rfl) (by kernel_rfl) (fun _ _ _ h => h) (Or.inl ⟨by rfl, ?_⟩) hHeld ?_; rotate_left; focus (intro w hSw; (try dsimp only at hSw); go_simp; (try with_reducible rfl)))
        try simp only [Act.put, List.getElem_toArray, List.getElem_cons_succ, List.getElem_cons_zero, List.setIfInBounds_toArray, List.set_cons_zero, List.set_cons_succ]
        (refine wpAnyH_take (i := 11) (v := ?_) rfl (by kernel_rfl) (by kernel_rfl) (by kernel_rfl) (fun _ _ _ h => h) (Or.inl ⟨by rfl, ?_⟩) hHeld ?_; rotate_left; focus (intro w hSw; (try dsimp only at hSw); go_simp; (try with_reducible rfl)))
        try simp only [Act.put, List.getElem_toArray, List.getElem_cons_succ, List.getElem_cons_zero, List.setIfInBounds_toArray, List.set_cons_zero, List.set_cons_succ]
        (refine wpAnyH_take (i := 12) (v := ?_) rfl (by kernel_rfl) (by kernel_rfl) (by kernel_rfl) (fun _ _ _ h => h) (Or.inl ⟨by rfl, ?_⟩) hHeld ?_; rotate_left; focus (intro w hSw; (try dsimp only at hSw); go_simp; (try with_reducible rfl)))
        try simp only [Act.put, List.getElem_toArray, List.getElem_cons_succ, List.getElem_cons_zero, List.setIfInBounds_toArray, List.set_cons_zero, List.set_cons_succ]
        first | (refine wpAnyH_take (i := 13) rfl (by kernel_rfl) (by kernel_rfl) (by kernel_rfl) (fun _ _ _ h => h) (Or.inr ⟨by rfl, rfl⟩) hHeld ?_) | (refine wpAnyH_take (i := 13) (v := ?_) rfl (by kernel_rfl) (by kernel_rfl) (by kernel_rfl) (fun _ _ _ h => h) (Or.inl ⟨by rfl, ?_⟩) hHeld ?_; rotate_left; focus (intro w hSw; (try dsimp only at hSw); go_simp; (try with_reducible rfl)))
        try simp only [Act.put, List.getElem_toArray, List.getElem_cons_succ, List.getElem_cons_zero, List.setIfInBounds_toArray, List.set_cons_zero, List.set_cons_succ]
        first | (refine wpAnyH_take (i := 14) rfl (by kernel_rfl) (by kernel_rfl) (by kernel_rfl) (fun _ _ _ h => h) (Or.inr ⟨by rfl, rfl⟩) hHeld ?_) | (refine wpAnyH_take (i := 14) (v := ?_) rfl (by kernel_rfl) (by kernel_rfl) (by kernel_rfl) (fun _ _ _ h => h) (Or.inl ⟨by rfl, ?_⟩) hHeld ?_; rotate_left; focus (intro w hSw; (try dsimp only at hSw); go_simp; (try with_reducible rfl)))
        try simp only [Act.put, List.getElem_toArray, List.getElem_cons_succ, List.getElem_cons_zero, List.setIfInBounds_toArray, List.set_cons_zero, List.set_cons_succ]
        first | (refine wpAnyH_take (i := 16) rfl (by kernel_rfl) (by kernel_rfl) (by kernel_rfl) (fun _ _ _ h => h) (Or.inr ⟨by rfl, rfl⟩) hHeld ?_) | (refine wpAnyH_take (i := 16) (v := ?_) rfl (by kernel_rfl) (by kernel_rfl) (by kernel_rfl) (fun _ _ _ h => h) (Or.inl ⟨by rfl, ?_⟩) hHeld ?_; rotate_left; focus (intro w hSw; (try dsimp only at hSw); go_simp; (try with_reducible rfl)))
        try simp only [Act.put, List.getElem_toArray, List.getElem_cons_succ, List.getElem_cons_zero, List.setIfInBounds_toArray, List.set_cons_zero, List.set_cons_succ]
        first | (refine wpAnyH_take (i := 17) rfl (by kernel_rfl) (by kernel_rfl) (by kernel_rfl) (fun _ _ _ h => h) (Or.inr ⟨by rfl, rfl⟩) hHeld ?_) | (refine wpAnyH_take (i := 17) (v := ?_) rfl (by kernel_rfl) (by kernel_rfl) (by kernel_rfl) (fun _ _ _ h => h) (Or.inl ⟨by rfl, ?_⟩) hHeld ?_; rotate_left; focus (intro w hSw; (try dsimp only at hSw); go_simp; (try with_reducible rfl)))
        try simp only [Act.put, List.getElem_toArray, List.getElem_cons_succ, List.getElem_cons_zero, List.setIfInBounds_toArray, List.set_cons_zero, List.set_cons_succ]
        first | (refine wpAnyH_take (i := 18) rfl (by kernel_rfl) (by kernel_rfl) (by kernel_rfl) (fun _ _ _ h => h) (Or.inr ⟨by rfl, rfl⟩) hHeld ?_) | (refine wpAnyH_take (i := 18) (v := ?_) rfl (by kernel_rfl) (by kernel_rfl) (by kernel_rfl) (fun _ _ _ h => h) (Or.inl ⟨by rfl, ?_⟩) hHeld ?_; rotate_left; focus (intro w hSw; (try dsimp only at hSw); go_simp; (try with_reducible rfl)))
        try simp only [Act.put, List.getElem_toArray, List.getElem_cons_succ, List.getElem_cons_zero, List.setIfInBounds_toArray, List.set_cons_zero, List.set_cons_succ]
        first | (refine wpAnyH_take (i := 19) rfl (by kernel_rfl) (by kernel_rfl) (by kernel_rfl) (fun _ _ _ h => h) (Or.inr ⟨by rfl, rfl⟩) hHeld ?_) | (refine wpAnyH_take (i := 19) (v := ?_) rfl (by kernel_rfl) (by kernel_rfl) (by kernel_rfl) (fun _ _ _ h => h) (Or.inl ⟨by rfl, ?_⟩) hHeld ?_; rotate_left; focus (intro w hSw; (try dsimp only at hSw); go_simp; (try with_reducible rfl)))
        try simp only [Act.put, List.getElem_toArray, List.getElem_cons_succ, List.getElem_cons_zero, List.setIfInBounds_toArray, List.set_cons_zero, List.set_cons_succ]
        first | (refine wpAnyH_take (i := 15) rfl (by kernel_rfl) (by kernel_rfl) (by kernel_rfl) (fun _ _ _ h => h) (Or.inr ⟨by rfl, rfl⟩) hHeld ?_) | (refine wpAnyH_ready (rs := [15]) (by kernel_rfl) (by simp) ?_; refine AllReadyH.cons rfl (fun K hK => ?_) AllReadyH.nil; go_simp; (first | (go_at_call 10; with_reducible refine (C1.out _ hHeld.1).mono ?_; rintro r w' ⟨rfl, hb⟩) | (go_at_call 11; with_reducible refine (C2.out _ hHeld.1).mono ?_; rintro r w' ⟨rfl, hb⟩) | (go_at_call 12; with_reducible refine (C3.out _ hHeld.1).mono ?_; rintro r w' ⟨rfl, hb⟩) | (go_at_call 13; with_reducible refine (C4.out _ hHeld.1).mono ?_; rintro r w' ⟨rfl, rfl⟩)); (try go_wp2_with fail); refine hK.out _ _ ?_ (fun hHeld' => ?_); (focus (first | exact hkeep _ _ hb hHeld | exact hHeld)); clear hK K; replace hHeld := hHeld'; clear hHeld')
        try simp only [Act.put, List.getElem_toArray, List.getElem_cons_succ, List.getElem_cons_zero, List.setIfInBounds_toArray, List.set_cons_zero, List.set_cons_succ]
        first | (refine wpAnyH_take (i := 20) rfl (by kernel_rfl) (by kernel_rfl) (by kernel_rfl) (fun _ _ _ h => h) (Or.inr ⟨by rfl, rfl⟩) hHeld ?_) | (refine wpAnyH_take (i := 20) (v := ?_) rfl (by kernel_rfl) (by kernel_rfl) (by kernel_rfl) (fun _ _ _ h => h) (Or.inl ⟨by rfl, ?_⟩) hHeld ?_; rotate_left; focus (intro w hSw; (try dsimp only at hSw); go_simp; (try with_reducible rfl)))
        try simp only [Act.put, List.getElem_toArray, List.getElem_cons_succ, List.getElem_cons_zero, List.setIfInBounds_toArray, List.set_cons_zero, List.set_cons_succ]
        (refine wpAnyH_take (i := 21) (v := ?_) rfl (by kernel_rfl) (by kernel_rfl) (by kernel_rfl) (fun _ _ _ h => h) (Or.inl ⟨by rfl, ?_⟩) hHeld ?_; rotate_left; focus (intro w hSw; (try dsimp only at hSw); go_simp; (try with_reducible rfl)))
        try simp only [Act.put, List.getElem_toArray, List.getElem_cons_succ, List.getElem_cons_zero, List.setIfInBounds_toArray, List.set_cons_zero, List.set_cons_succ]
        refine wpAnyH_done (by kernel_rfl) ?_ _
        refine NoPanic.normal ?_
        have HB0 := Lib.hid hHeld.1
        have dd : Below a1 W w' := HD3.out.trans (HB0.out.mono HLE.out)
        have hcc := HC.out
        obtain ⟨_, g0, g1, g2, g3, g4⟩ := hHeld
        have C5 : Hid (∀ w', Below a0 w3 w' → Calls Tryd.prog 14 #[(.iface U v)] w' fun r w'' => r = .returned (.int .i64 ((n : Int) + 1)) ∧ w' = w'') := Lib.hid (fun w' hb => by
          have h := deep_any x w' (HX3.out.below (by rw [HZ3.out]; exact hb)) (by rw [HD.out]; have := HO.out.n40; omega)
          rw [HXV.out, HD.out] at h
          exact h)
        have C6 : Hid (∀ w', Below a0 w3 w' → Calls Tryd.prog 7 #[] w' fun r w'' => r = .returned (.bool true) ∧ Below w'.heap.size w' w'') := Lib.hid (fun w' hb => lives_any _ (HT.out.below (by rw [HZ1.out]; exact HD3.out.trans (hb.mono HLE.out))))
        have hnb := HO.out.n40
        have hw2 : wrap64 ((n : Int) + 1) = (n : Int) + 1 := by unfold wrap64; omega
        have hw : IntKind.i64.wrap ((n : Int) + 1) = (n : Int) + 1 := IntWalk.i64_in _ (by omega)
        have HNB := Lib.hid hnb; clear hnb
        clear C1 C2 C3 C4 f5 f5' HST dd hb
        go_upto_region 9 with fail
        have HST : Hid ((fun w' : World => Below a0 w3 w' ∧ w'.cell? ⟨a1, 0, none⟩ = some (.int .i64 e.t) ∧ w'.cell? ⟨a1, 1, none⟩ = some (.int .i64 e.l) ∧ w'.cell? ⟨a1, 2, none⟩ = some (.string q3) ∧ w'.cell? ⟨a1, 3, none⟩ = some (.int .i64 e.c) ∧ w'.cell? ⟨a1, 4, none⟩ = some (.slice A n cA)) _) := Lib.hid (show (fun w' : World => Below a0 w3 w' ∧ w'.cell? ⟨a1, 0, none⟩ = some (.int .i64 e.t) ∧ w'.cell? ⟨a1, 1, none⟩ = some (.int .i64 e.l) ∧ w'.cell? ⟨a1, 2, none⟩ = some (.string q3) ∧ w'.cell? ⟨a1, 3, none⟩ = some (.int .i64 e.c) ∧ w'.cell? ⟨a1, 4, none⟩ = some (.slice A n cA)) w'.drew from ⟨HB0.out.drew, g0, g1, g2, g3, g4⟩)
        clear g0 g1 g2 g3 g4
        refine wp_region_noPanic ?_
        refine wp_region_held_drew (S := fun w' => Below a0 w3 w' ∧ w'.cell? ⟨a1, 0, none⟩ = some (.int .i64 e.t) ∧ w'.cell? ⟨a1, 1, none⟩ = some (.int .i64 e.l) ∧ w'.cell? ⟨a1, 2, none⟩ = some (.string q3) ∧ w'.cell? ⟨a1, 3, none⟩ = some (.int .i64 e.c) ∧ w'.cell? ⟨a1, 4, none⟩ = some (.slice A n cA)) (by kernel_rfl) (HST.out) (fun hHeld => ?_)
        (refine wpAnyH_take (i := 0) (v := ?_) rfl (by kernel_rfl) (by kernel_rfl) (by kernel_rfl) (fun _ _ _ h => h) (Or.inl ⟨by rfl, ?_⟩) hHeld ?_; rotate_left; focus (intro w hSw; (try dsimp only at hSw); go_simp; (try with_reducible rfl)))
        try simp only [Act.put, List.getElem_toArray, List.getElem_cons_succ, List.getElem_cons_zero, List.setIfInBounds_toArray, List.set_cons_zero, List.set_cons_succ]
        (refine wpAnyH_take (i := 1) (v := ?_) rfl (by kernel_rfl) (by kernel_rfl) (by kernel_rfl) (fun _ _ _ h => h) (Or.inl ⟨by rfl, ?_⟩) hHeld ?_; rotate_left; focus (intro w hSw; (try dsimp only at hSw); go_simp; (try with_reducible rfl)))
        try simp only [Act.put, List.getElem_toArray, List.getElem_cons_succ, List.getElem_cons_zero, List.setIfInBounds_toArray, List.set_cons_zero, List.set_cons_succ]
        (refine wpAnyH_take (i := 2) (v := ?_) rfl (by kernel_rfl) (by kernel_rfl) (by kernel_rfl) (fun _ _ _ h => h) (Or.inl ⟨by rfl, ?_⟩) hHeld ?_; rotate_left; focus (intro w hSw; (try dsimp only at hSw); go_simp; (try with_reducible rfl)))
        try simp only [Act.put, List.getElem_toArray, List.getElem_cons_succ, List.getElem_cons_zero, List.setIfInBounds_toArray, List.set_cons_zero, List.set_cons_succ]
        first | (refine wpAnyH_take (i := 3) rfl (by kernel_rfl) (by kernel_rfl) (by kernel_rfl) (fun _ _ _ h => h) (Or.inr ⟨by rfl, rfl⟩) hHeld ?_) | (refine wpAnyH_take (i := 3) (v := ?_) rfl (by kernel_rfl) (by kernel_rfl) (by kernel_rfl) (fun _ _ _ h => h) (Or.inl ⟨by rfl, ?_⟩) hHeld ?_; rotate_left; focus (intro w hSw; (try dsimp only at hSw); go_simp; (try with_reducible rfl)))
        try simp only [Act.put, List.getElem_toArray, List.getElem_cons_succ, List.getElem_cons_zero, List.setIfInBounds_toArray, List.set_cons_zero, List.set_cons_succ]
        first | (refine wpAnyH_take (i := 4) rfl (by kernel_rfl) (by kernel_rfl) (by kernel_rfl) (fun _ _ _ h => h) (Or.inr ⟨by rfl, rfl⟩) hHeld ?_) | (refine wpAnyH_take (i := 4) (v := ?_) rfl (by kernel_rfl) (by kernel_rfl) (by kernel_rfl) (fun _ _ _ h => h) (Or.inl ⟨by rfl, ?_⟩) hHeld ?_; rotate_left; focus (intro w hSw; (try dsimp only at hSw); go_simp; (try with_reducible rfl)))
        try simp only [Act.put, List.getElem_toArray, List.getElem_cons_succ, List.getElem_cons_zero, List.setIfInBounds_toArray, List.set_cons_zero, List.set_cons_succ]
        first | (refine wpAnyH_take (i := 5) rfl (by kernel_rfl) (by kernel_rfl) (by kernel_rfl) (fun _ _ _ h => h) (Or.inr ⟨by rfl, rfl⟩) hHeld ?_) | (refine wpAnyH_take (i := 5) (v := ?_) rfl (by kernel_rfl) (by kernel_rfl) (by kernel_rfl) (fun _ _ _ h => h) (Or.inl ⟨by rfl, ?_⟩) hHeld ?_; rotate_left; focus (intro w hSw; (try dsimp only at hSw); go_simp; (try with_reducible rfl)))
        try simp only [Act.put, List.getElem_toArray, List.getElem_cons_succ, List.getElem_cons_zero, List.setIfInBounds_toArray, List.set_cons_zero, List.set_cons_succ]
        first | (refine wpAnyH_take (i := 6) rfl (by kernel_rfl) (by kernel_rfl) (by kernel_rfl) (fun _ _ _ h => h) (Or.inr ⟨by rfl, rfl⟩) hHeld ?_) | (refine wpAnyH_take (i := 6) (v := ?_) rfl (by kernel_rfl) (by kernel_rfl) (by kernel_rfl) (fun _ _ _ h => h) (Or.inl ⟨by rfl, ?_⟩) hHeld ?_; rotate_left; focus (intro w hSw; (try dsimp only at hSw); go_simp; (try with_reducible rfl)))
        try simp only [Act.put, List.getElem_toArray, List.getElem_cons_succ, List.getElem_cons_zero, List.setIfInBounds_toArray, List.set_cons_zero, List.set_cons_succ]
        (refine wpAnyH_take (i := 7) (v := ?_) rfl (by kernel_rfl) (by kernel_rfl) (by kernel_rfl) (fun _ _ _ h => h) (Or.inl ⟨by rfl, ?_⟩) hHeld ?_; rotate_left; focus (intro w hSw; (try dsimp only at hSw); go_simp; (try with_reducible rfl)))
        try simp only [Act.put, List.getElem_toArray, List.getElem_cons_succ, List.getElem_cons_zero, List.setIfInBounds_toArray, List.set_cons_zero, List.set_cons_succ]
        (refine wpAnyH_take (i := 8) (v := ?_) rfl (by kernel_rfl) (by kernel_rfl) (by kernel_rfl) (fun _ _ _ h => h) (Or.inl ⟨by rfl, ?_⟩) hHeld ?_; rotate_left; focus (intro w hSw; (try dsimp only at hSw); go_simp; (try with_reducible rfl)))
        try simp only [Act.put, List.getElem_toArray, List.getElem_cons_succ, List.getElem_cons_zero, List.setIfInBounds_toArray, List.set_cons_zero, List.set_cons_succ]
        first | (refine wpAnyH_take (i := 9) rfl (by kernel_rfl) (by kernel_rfl) (by kernel_rfl) (fun _ _ _ h => h) (Or.inr ⟨by rfl, rfl⟩) hHeld ?_) | (refine wpAnyH_take (i := 9) (v := ?_) rfl (by kernel_rfl) (by kernel_rfl) (by kernel_rfl) (fun _ _ _ h => h) (Or.inl ⟨by rfl, ?_⟩) hHeld ?_; rotate_left; focus (intro w hSw; (try dsimp only at hSw); go_simp; (try with_reducible rfl)))
        try simp only [Act.put, List.getElem_toArray, List.getElem_cons_succ, List.getElem_cons_zero, List.setIfInBounds_toArray, List.set_cons_zero, List.set_cons_succ]
        first | (refine wpAnyH_take (i := 10) rfl (by kernel_rfl) (by kernel_rfl) (by kernel_rfl) (fun _ _ _ h => h) (Or.inr ⟨by rfl, rfl⟩) hHeld ?_) | (refine wpAnyH_take (i := 10) (v := ?_) rfl (by kernel_rfl) (by kernel_rfl) (by kernel_rfl) (fun _ _ _ h => h) (Or.inl ⟨by rfl, ?_⟩) hHeld ?_; rotate_left; focus (intro w hSw; (try dsimp only at hSw); go_simp; (try with_reducible rfl)))
        try simp only [Act.put, List.getElem_toArray, List.getElem_cons_succ, List.getElem_cons_zero, List.setIfInBounds_toArray, List.set_cons_zero, List.set_cons_succ]
        first | (refine wpAnyH_take (i := 11) rfl (by kernel_rfl) (by kernel_rfl) (by kernel_rfl) (fun _ _ _ h => h) (Or.inr ⟨by rfl, rfl⟩) hHeld ?_) | (refine wpAnyH_take (i := 11) (v := ?_) rfl (by kernel_rfl) (by kernel_rfl) (by kernel_rfl) (fun _ _ _ h => h) (Or.inl ⟨by rfl, ?_⟩) hHeld ?_; rotate_left; focus (intro w hSw; (try dsimp only at hSw); go_simp; (try with_reducible rfl)))
        try simp only [Act.put, List.getElem_toArray, List.getElem_cons_succ, List.getElem_cons_zero, List.setIfInBounds_toArray, List.set_cons_zero, List.set_cons_succ]
        first | (refine wpAnyH_take (i := 12) rfl (by kernel_rfl) (by kernel_rfl) (by kernel_rfl) (fun _ _ _ h => h) (Or.inr ⟨by rfl, rfl⟩) hHeld ?_) | (refine wpAnyH_take (i := 12) (v := ?_) rfl (by kernel_rfl) (by kernel_rfl) (by kernel_rfl) (fun _ _ _ h => h) (Or.inl ⟨by rfl, ?_⟩) hHeld ?_; rotate_left; focus (intro w hSw; (try dsimp only at hSw); go_simp; (try with_reducible rfl)))
        try simp only [Act.put, List.getElem_toArray, List.getElem_cons_succ, List.getElem_cons_zero, List.setIfInBounds_toArray, List.set_cons_zero, List.set_cons_succ]
        (refine wpAnyH_take (i := 13) (v := ?_) rfl (by kernel_rfl) (by kernel_rfl) (by kernel_rfl) (fun _ _ _ h => h) (Or.inl ⟨by rfl, ?_⟩) hHeld ?_; rotate_left; focus (intro w hSw; (try dsimp only at hSw); go_simp; (try with_reducible rfl)))
        try simp only [Act.put, List.getElem_toArray, List.getElem_cons_succ, List.getElem_cons_zero, List.setIfInBounds_toArray, List.set_cons_zero, List.set_cons_succ]
        (refine wpAnyH_take (i := 14) (v := ?_) rfl (by kernel_rfl) (by kernel_rfl) (by kernel_rfl) (fun _ _ _ h => h) (Or.inl ⟨by rfl, ?_⟩) hHeld ?_; rotate_left; focus (intro w hSw; (try dsimp only at hSw); go_simp; (try with_reducible rfl)))
        try simp only [Act.put, List.getElem_toArray, List.getElem_cons_succ, List.getElem_cons_zero, List.setIfInBounds_toArray, List.set_cons_zero, List.set_cons_succ]
        first | (refine wpAnyH_take (i := 15) rfl (by kernel_rfl) (by kernel_rfl) (by kernel_rfl) (fun _ _ _ h => h) (Or.inr ⟨by rfl, rfl⟩) hHeld ?_) | (refine wpAnyH_take (i := 15) (v := ?_) rfl (by kernel_rfl) (by kernel_rfl) (by kernel_rfl) (fun _ _ _ h => h) (Or.inl ⟨by rfl, ?_⟩) hHeld ?_; rotate_left; focus (intro w hSw; (try dsimp only at hSw); go_simp; (try with_reducible rfl)))
        try simp only [Act.put, List.getElem_toArray, List.getElem_cons_succ, List.getElem_cons_zero, List.setIfInBounds_toArray, List.set_cons_zero, List.set_cons_succ]
        (refine wpAnyH_take (i := 16) (v := ?_) rfl (by kernel_rfl) (by kernel_rfl) (by kernel_rfl) (fun _ _ _ h => h) (Or.inl ⟨by rfl, ?_⟩) hHeld ?_; rotate_left; focus (intro w hSw; (try dsimp only at hSw); go_simp; (try with_reducible rfl)))
        try simp only [Act.put, List.getElem_toArray, List.getElem_cons_succ, List.getElem_cons_zero, List.setIfInBounds_toArray, List.set_cons_zero, List.set_cons_succ]
        (refine wpAnyH_take (i := 17) (v := ?_) rfl (by kernel_rfl) (by kernel_rfl) (by kernel_rfl) (fun _ _ _ h => h) (Or.inl ⟨by rfl, ?_⟩) hHeld ?_; rotate_left; focus (intro w hSw; (try dsimp only at hSw); go_simp; (try with_reducible rfl)))
        try simp only [Act.put, List.getElem_toArray, List.getElem_cons_succ, List.getElem_cons_zero, List.setIfInBounds_toArray, List.set_cons_zero, List.set_cons_succ]
        first | (refine wpAnyH_take (i := 18) rfl (by kernel_rfl) (by kernel_rfl) (by kernel_rfl) (fun _ _ _ h => h) (Or.inr ⟨by rfl, rfl⟩) hHeld ?_) | (refine wpAnyH_take (i := 18) (v := ?_) rfl (by kernel_rfl) (by kernel_rfl) (by kernel_rfl) (fun _ _ _ h => h) (Or.inl ⟨by rfl, ?_⟩) hHeld ?_; rotate_left; focus (intro w hSw; (try dsimp only at hSw); go_simp; (try with_reducible rfl)))
        try simp only [Act.put, List.getElem_toArray, List.getElem_cons_succ, List.getElem_cons_zero, List.setIfInBounds_toArray, List.set_cons_zero, List.set_cons_succ]
        first | (refine wpAnyH_take (i := 20) rfl (by kernel_rfl) (by kernel_rfl) (by kernel_rfl) (fun _ _ _ h => h) (Or.inr ⟨by rfl, rfl⟩) hHeld ?_) | (refine wpAnyH_take (i := 20) (v := ?_) rfl (by kernel_rfl) (by kernel_rfl) (by kernel_rfl) (fun _ _ _ h => h) (Or.inl ⟨by rfl, ?_⟩) hHeld ?_; rotate_left; focus (intro w hSw; (try dsimp only at hSw); go_simp; (try with_reducible rfl)))
        try simp only [Act.put, List.getElem_toArray, List.getElem_cons_succ, List.getElem_cons_zero, List.setIfInBounds_toArray, List.set_cons_zero, List.set_cons_succ]
        first | (refine wpAnyH_take (i := 21) rfl (by kernel_rfl) (by kernel_rfl) (by kernel_rfl) (fun _ _ _ h => h) (Or.inr ⟨by rfl, rfl⟩) hHeld ?_) | (refine wpAnyH_take (i := 21) (v := ?_) rfl (by kernel_rfl) (by kernel_rfl) (by kernel_rfl) (fun _ _ _ h => h) (Or.inl ⟨by rfl, ?_⟩) hHeld ?_; rotate_left; focus (intro w hSw; (try dsimp only at hSw); go_simp; (try with_reducible rfl)))
        try simp only [Act.put, List.getElem_toArray, List.getElem_cons_succ, List.getElem_cons_zero, List.setIfInBounds_toArray, List.set_cons_zero, List.set_cons_succ]
        first | (refine wpAnyH_take (i := 22) rfl (by kernel_rfl) (by kernel_rfl) (by kernel_rfl) (fun _ _ _ h => h) (Or.inr ⟨by rfl, rfl⟩) hHeld ?_) | (refine wpAnyH_take (i := 22) (v := ?_) rfl (by kernel_rfl) (by kernel_rfl) (by kernel_rfl) (fun _ _ _ h => h) (Or.inl ⟨by rfl, ?_⟩) hHeld ?_; rotate_left; focus (intro w hSw; (try dsimp only at hSw); go_simp; (try with_reducible rfl)))
        try simp only [Act.put, List.getElem_toArray, List.getElem_cons_succ, List.getElem_cons_zero, List.setIfInBounds_toArray, List.set_cons_zero, List.set_cons_succ]
        first | (refine wpAnyH_take (i := 23) rfl (by kernel_rfl) (by kernel_rfl) (by kernel_rfl) (fun _ _ _ h => h) (Or.inr ⟨by rfl, rfl⟩) hHeld ?_) | (refine wpAnyH_take (i := 23) (v := ?_) rfl (by kernel_rfl) (by kernel_rfl) (by kernel_rfl) (fun _ _ _ h => h) (Or.inl ⟨by rfl, ?_⟩) hHeld ?_; rotate_left; focus (intro w hSw; (try dsimp only at hSw); go_simp; (try with_reducible rfl)))
        try simp only [Act.put, List.getElem_toArray, List.getElem_cons_succ, List.getElem_cons_zero, List.setIfInBounds_toArray, List.set_cons_zero, List.set_cons_succ]
        first | (refine wpAnyH_take (i := 19) rfl (by kernel_rfl) (by kernel_rfl) (by kernel_rfl) (fun _ _ _ h => h) (Or.inr ⟨by rfl, rfl⟩) hHeld ?_) | (refine wpAnyH_ready (rs := [19]) (by kernel_rfl) (by simp) ?_; refine AllReadyH.cons rfl (fun K hK => ?_) AllReadyH.nil; go_simp; (first | (go_at_call 14; with_reducible refine (C5.out _ hHeld.1).mono ?_; rintro r w' ⟨rfl, rfl⟩) | (go_at_call 7; with_reducible refine (C6.out _ hHeld.1).mono ?_; rintro r w' ⟨rfl, hb⟩)); (try go_wp2_with fail); refine hK.out _ _ ?_ (fun hHeld' => ?_); (focus (first | exact hkeep _ _ hb hHeld | exact hHeld)); clear hK K; replace hHeld := hHeld'; clear hHeld')
        try simp only [Act.put, List.getElem_toArray, List.getElem_cons_succ, List.getElem_cons_zero, List.setIfInBounds_toArray, List.set_cons_zero, List.set_cons_succ]
        first | (refine wpAnyH_take (i := 24) rfl (by kernel_rfl) (by kernel_rfl) (by kernel_rfl) (fun _ _ _ h => h) (Or.inr ⟨by rfl, rfl⟩) hHeld ?_) | (refine wpAnyH_take (i := 24) (v := ?_) rfl (by kernel_rfl) (by kernel_rfl) (by kernel_rfl) (fun _ _ _ h => h) (Or.inl ⟨by rfl, ?_⟩) hHeld ?_; rotate_left; focus (intro w hSw; (try dsimp only at hSw); go_simp; (try with_reducible rfl)))
        try simp only [Act.put, List.getElem_toArray, List.getElem_cons_succ, List.getElem_cons_zero, List.setIfInBounds_toArray, List.set_cons_zero, List.set_cons_succ]
        (refine wpAnyH_take (i := 25) (v := ?_) rfl (by kernel_rfl) (by kernel_rfl) (by kernel_rfl) (fun _ _ _ h => h) (Or.inl ⟨by rfl, ?_⟩) hHeld ?_; rotate_left; focus (intro w hSw; (try dsimp only at hSw); go_simp; (try with_reducible rfl)))
        try simp only [Act.put, List.getElem_toArray, List.getElem_cons_succ, List.getElem_cons_zero, List.setIfInBounds_toArray, List.set_cons_zero, List.set_cons_succ]
        (refine wpAnyH_take (i := 26) (v := ?_) rfl (by kernel_rfl) (by kernel_rfl) (by kernel_rfl) (fun _ _ _ h => h) (Or.inl ⟨by rfl, ?_⟩) hHeld ?_; rotate_left; focus (intro w hSw; (try dsimp only at hSw); go_simp; (try with_reducible rfl)))
        try simp only [Act.put, List.getElem_toArray, List.getElem_cons_succ, List.getElem_cons_zero, List.setIfInBounds_toArray, List.set_cons_zero, List.set_cons_succ]
        first | (refine wpAnyH_take (i := 27) rfl (by kernel_rfl) (by kernel_rfl) (by kernel_rfl) (fun _ _ _ h => h) (Or.inr ⟨by rfl, rfl⟩) hHeld ?_) | (refine wpAnyH_ready (rs := [27]) (by kernel_rfl) (by simp) ?_; refine AllReadyH.cons rfl (fun K hK => ?_) AllReadyH.nil; go_simp; (first | (go_at_call 14; with_reducible refine (C5.out _ hHeld.1).mono ?_; rintro r w' ⟨rfl, rfl⟩) | (go_at_call 7; with_reducible refine (C6.out _ hHeld.1).mono ?_; rintro r w' ⟨rfl, hb⟩)); (try go_wp2_with fail); refine hK.out _ _ ?_ (fun hHeld' => ?_); (focus (first | exact hkeep _ _ hb hHeld | exact hHeld)); clear hK K; replace hHeld := hHeld'; clear hHeld')
        try simp only [Act.put, List.getElem_toArray, List.getElem_cons_succ, List.getElem_cons_zero, List.setIfInBounds_toArray, List.set_cons_zero, List.set_cons_succ]
        (refine wpAnyH_take (i := 28) (v := ?_) rfl (by kernel_rfl) (by kernel_rfl) (by kernel_rfl) (fun _ _ _ h => h) (Or.inl ⟨by rfl, ?_⟩) hHeld ?_; rotate_left; focus (intro w hSw; (try dsimp only at hSw); go_simp; (try with_reducible rfl)))
        try simp only [Act.put, List.getElem_toArray, List.getElem_cons_succ, List.getElem_cons_zero, List.setIfInBounds_toArray, List.set_cons_zero, List.set_cons_succ]
        (refine wpAnyH_take (i := 29) (v := ?_) rfl (by kernel_rfl) (by kernel_rfl) (by kernel_rfl) (fun _ _ _ h => h) (Or.inl ⟨by rfl, ?_⟩) hHeld ?_; rotate_left; focus (intro w hSw; (try dsimp only at hSw); go_simp; (try with_reducible rfl)))
        try simp only [Act.put, List.getElem_toArray, List.getElem_cons_succ, List.getElem_cons_zero, List.setIfInBounds_toArray, List.set_cons_zero, List.set_cons_succ]
        refine wpAnyH_done (by kernel_rfl) ?_ _
        refine NoPanic.normal ?_
        have HB1 := Lib.hid hHeld.1
        clear hHeld hkeep
        go_wp2_with fail
        go_ret
        exact ⟨rfl, by rw [HZ1.out]; exact HD3.out.trans (HB1.out.mono HLE.out)⟩
  · have d1 := HB.out.trans (hb1.mono (Nat.le_of_lt HLT.out))
    refine (lives_any _ (HT.out.below d1)).mono ?_
    rintro r w2 ⟨rfl, hb2⟩
    go_wp2_with fail
    go_ret
    exact ⟨rfl, d1.trans (hb2.mono d1.size)⟩
end Go.Proofs.YtgbgemgpdaclaaaDoor
