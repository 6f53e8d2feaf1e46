/- burnbagref15.Of. -/
import Derived.Test.YtodomchanaaonaaRef15
namespace Go.Proofs.Ytodomchanaaonaa
open Go.ChangeShapes Go.WideShapes Go.ChangeAt Go.RowKit

set_option maxRecDepth 100000 in
set_option maxHeartbeats 4000000 in
theorem r15Of_any (A : Option Addr) (c : Nat) (L : List Opr) (hL : L.length ≤ 1000000) (hk : ∀ i, i < L.length → OkOpr (oprN L i)) (lv pt : Int) (w : World) (ha : LiesC w A (flatF opF L)) :
    Calls Try.prog 11 #[.slice A L.length c, .int .i64 lv, .int .i64 pt] w fun e w' => ∃ v, e = .returned v ∧ LnIs w' v (keepUp (shareB lv pt) L L.length).length (flatF opF (keepUp (shareB lv pt) L L.length)) ∧ Far w.heap.size v ∧ Below w.heap.size w w' := by
  obtain ⟨i0, hi0, hz0, hz1, hz3⟩ := infoOpr
  have HA := Lib.hid ha
  have hkl := keepUp_len (shareB lv pt) L
  have HK := Lib.hid hk
  clear ha hk
  generalize hn : L.length = n at *
  go_enter Try.func11, Try.ntmps11
  go_wp2_with fail
  go_loopw [7, 8] (fun v i wr => ∃ k : Nat, i = .int .i64 k ∧ k ≤ n ∧ OwnR w w.heap.size 35 16 v (keepUp (shareB lv pt) L k).length (flatF opF (keepUp (shareB lv pt) L k)) wr) (fun _ i _ => n - (intOf i).toNat)
  case atStart => exact ⟨0, rfl, Nat.zero_le _, Below.refl _ _, World.ownsRow_nil _ _ _ _, Nat.le_refl _⟩
  case round =>
    obtain ⟨k, rfl, hk, R⟩ := hrel
    have hkk := hkl k
    by_cases hlt : k < n
    · obtain ⟨b1, off1, rfl, hb1, x1⟩ := (HA.out.keep R.bel).atO (by omega)
      obtain ⟨p0, p1, p2, p3, p4, p5, p6, p7, p8, p9, p10, p11, p12, p13, p14, p15⟩ := opr_cells (x1 k (by omega))
      have HC := Lib.hid (fun W => r15Which_any (oprN L k) (HK.out k (by omega)) W)
      have HS : Hid (keepUp (shareB lv pt) L (k + 1) = bif shareB lv pt (oprN L k) then keepUp (shareB lv pt) L k ++ [oprN L k] else keepUp (shareB lv pt) L k) := Lib.hid rfl
      have HE : Hid (shareB lv pt (oprN L k) = (whichB (oprN L k) && (decide (whichN (oprN L k) / 4 = lv) && decide (whichN (oprN L k) % 4 = pt)))) := Lib.hid rfl
      have hwb := which_bounds (oprN L k)
      have HR := Lib.hid R
      have HX := Lib.hid x1
      clear x1 R
      generalize keepUp (shareB lv pt) L k = xs at *
      go_upto_region 6 with (go_at_call 8; refine (HC.out _).mono ?_; rintro e w1 ⟨rfl, hb⟩)
      have HR1 := Lib.hid (HR.out.keep hb)
      obtain ⟨q0, q1, q2, q3, q4, q5, q6, q7, q8, q9, q10, q11, q12, q13, q14, q15⟩ := opr_cells (w := w1) (b := b1) (o := off1 + k * 16) (x := oprN L k) (fun j hj => (hb.cell (p := ⟨b1, off1 + k * 16 + j, none⟩) hb1).trans (HX.out k (by omega) j hj))
      clear HR hb HX p0 p1 p2 p3 p4 p5 p6 p7 p8 p9 p10 p11 p12 p13 p14 p15 hb1 HC
      generalize oprN L k = o at *
      generalize whichN o = x at *
      generalize whichB o = b at *
      have t1 : IntKind.i64.wrap (Int.tdiv x 4) = x / 4 := by rw [Int.tdiv_eq_ediv_of_nonneg hwb.1, IntKind.wrap_i64]; omega
      have t2 : IntKind.i64.wrap (Int.tmod x 4) = x % 4 := by rw [Int.tmod_eq_emod_of_nonneg hwb.1, IntKind.wrap_i64]; omega
      have t3 : Int.tdiv x 4 = x / 4 := by rw [Int.tdiv_eq_ediv_of_nonneg hwb.1]
      have t4 : Int.tmod x 4 = x % 4 := by rw [Int.tmod_eq_emod_of_nonneg hwb.1]
      generalize hq : x / 4 = q at *
      generalize hr : x % 4 = r at *
      cases b
      · have HF : Hid (shareB lv pt o = false) := Lib.hid (by rw [HE.out]; rfl)
        rw [HF.out] at HS
        go_wp2_with fail
        go_roundw
        case rel => exact ⟨k + 1, by go_num, by omega, by rw [HS.out]; exact HR1.out⟩
        case measure => simp [intOf]; omega
      · by_cases h1 : q = lv
        · by_cases h2 : r = pt
          · have HF : Hid (shareB lv pt o = true) := Lib.hid (by rw [HE.out, decide_eq_true h1, decide_eq_true h2]; rfl)
            rw [HF.out] at HS
            subst h1 h2
            go_wp2_with (at_builtin; refine wpList_append_own _ rfl _ _ 22 rfl w.heap.size 35 i0 (.agg (opF ⟨0, zeroC, zeroA, 0, 0⟩).toArray) 16 128 Try.underlying22 hi0 hz0 hz1 hz3 rfl (by decide) _ _ _ rfl (HR1.out.own.alloc _) ⟨w1.heap.size, 0, none⟩ 1 1 (opF o) rfl rfl (Cells.new w1 (opF o).toArray 35).news (opF_one o) ?c3 ?c4 ?c5 ?_)
            case c3 => unfold maxLen; omega
            case c4 => omega
            case c5 => have := HR1.out.le; simp; omega
            intro v' w2 hown' hgrow _
            have HZ := Lib.hid ((HR1.out.alloc _).grow hown' hgrow)
            clear hown' hgrow
            go_wp2_with fail
            go_roundw
            case rel => exact ⟨k + 1, by go_num, by omega, by rw [HS.out]; simp only [cond]; rw [List.length_append, flatF_append, flatF_single]; exact HZ.out⟩
            case measure => simp [intOf]; omega
          · have HF : Hid (shareB lv pt o = false) := Lib.hid (by rw [HE.out, decide_eq_false h2, Bool.and_false, Bool.and_false])
            rw [HF.out] at HS
            go_wp2_with fail
            go_roundw
            case rel => exact ⟨k + 1, by go_num, by omega, by rw [HS.out]; exact HR1.out⟩
            case measure => simp [intOf]; omega
        · have HF : Hid (shareB lv pt o = false) := Lib.hid (by rw [HE.out, decide_eq_false h1, Bool.false_and, Bool.and_false])
          rw [HF.out] at HS
          go_wp2_with fail
          go_roundw
          case rel => exact ⟨k + 1, by go_num, by omega, by rw [HS.out]; exact HR1.out⟩
          case measure => simp [intOf]; omega
    · obtain rfl : k = n := by omega
      go_wp2_with fail
      go_ret
      exact ⟨_, rfl, lnIs_of_own R.own, far_of_own R.own, R.bel⟩
end Go.Proofs.Ytodomchanaaonaa
