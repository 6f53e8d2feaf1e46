/- burnbagref14.Of. -/
import Derived.Test.YtckcliimngeieaaOfL
import Derived.Test.YtckcliimngeieaaRef14Opers
import Derived.Deep.RegionLaw
import Derived.Deep.RegionLawGrows
namespace Go.Proofs.Ytckcliimngeieaa
open Go.ChangeShapes Go.WideShapes Go.ChangeAt Go.RowKit

theorem flatI_two (a b : Int) : (flatI [a, b]).length = 2 * 1 := rfl

set_option maxHeartbeats 4000000 in
set_option maxRecDepth 100000 in
theorem r14Of_any (A : Option Addr) (c : Nat) (L : List Opr) (hL : L.length ≤ 1000) (w : World) (ha : LiesC w A (flatF opF L)) :
    Calls Try.prog 15 #[.slice A L.length c] w fun e w' => ∃ v, e = .returned v ∧ LnIs w' v (ofL L).length (flatF evF (ofL L)) ∧ Far w.heap.size v ∧ Below w.heap.size w w' := by
  obtain ⟨i0, hi0, hz0, hz1, hz3⟩ := infoEv
  obtain ⟨j0, hj0, hj1, hj2, hj3⟩ := infoI
  have HA := Lib.hid ha
  have HO : Hid (ofL L = ofRest L (placesUp L L.length) (-1)) := Lib.hid rfl
  have hpl := placesUp_len L
  clear ha
  generalize hn : L.length = n at *
  have mixed : Try.prog.follows .mixedOrders = true := by kernel_rfl
  go_enter Try.func15, Try.ntmps15
  go_wp2_with fail
  go_loopw [4, 5] (fun v i wr => ∃ k : Nat, i = .int .i64 k ∧ k ≤ n ∧ OwnR w w.heap.size 3 1 v (placesUp L k).length (flatI (placesUp L k)) wr) (fun _ i _ => n - (intOf i).toNat)
  case atStart => exact ⟨0, rfl, Nat.zero_le _, Below.refl _ _, World.ownsRow_nil _ _ _ _, Nat.le_refl _⟩
  case round =>
    obtain ⟨k, rfl, hk, R⟩ := hrel
    have HR := Lib.hid R
    have hpk := hpl k
    by_cases hlt : k < n
    · obtain ⟨b1, off1, rfl, hb1, x1⟩ := (HA.out.keep R.bel).atO (by omega)
      have p14 : wr.cell? ⟨b1, off1 + k * 16 + 14, none⟩ = some (.int .i64 (oprN L k).fr) := x1 k (by omega) 14 (by omega)
      have p15 : wr.cell? ⟨b1, off1 + k * 16 + 15, none⟩ = some (.int .i64 (oprN L k).to) := x1 k (by omega) 15 (by omega)
      have HS : Hid (placesUp L (k + 1) = bif decide (0 ≤ (oprN L k).fr) then placesUp L k ++ [(oprN L k).fr, (oprN L k).to] else placesUp L k) := Lib.hid rfl
      clear x1 R
      generalize (oprN L k).fr = fr at *
      generalize (oprN L k).to = t2 at *
      generalize placesUp L k = ps at *
      by_cases hfr : 0 ≤ fr
      · rw [decide_eq_true hfr] at HS
        have HR3 := Lib.hid (HR.out.drew.alloc (.cells #[.int .i64 fr, .int .i64 t2] 3))
        have HN := Lib.hid (Cells.new wr.drew #[.int .i64 fr, .int .i64 t2] 3).news
        go_upto_region 7 with fail
        have d14 : wr.drew.cell? ⟨b1, off1 + k * 16 + 14, none⟩ = some (.int .i64 fr) := p14
        have d15 : wr.drew.cell? ⟨b1, off1 + k * 16 + 15, none⟩ = some (.int .i64 t2) := p15
        go_region_law (refine step_append_own rfl _ _ 28 rfl w.heap.size 3 j0 (.int .i64 0) 1 8 Try.underlying28 hj0 hj1 hj2 hj3 rfl (by decide) u4 ps.length (flatI ps) (by simp [Act.eval, Act.put]) HR3.out.own ⟨wr.heap.size, 0, none⟩ 2 2 (flatI [fr, t2]) (by simp [Act.eval, Act.put]) rfl HN.out (flatI_one _) (by unfold maxLen; omega) (by omega) HR3.out.le ?_
                       intro v2 w4 hown hgrow
                       have HR4 := Lib.hid (HR3.out.grow hown hgrow); clear hown hgrow)
        all_goals
          go_wp2_with fail
          go_roundw
          case rel => exact ⟨k + 1, by go_num, by omega, by rw [HS.out]; simp only [cond, List.length_append, flatI_append]; exact HR4.out⟩
          case measure => simp [intOf]; omega
      · rw [decide_eq_false hfr] at HS
        go_wp2_with fail
        go_roundw
        case rel => exact ⟨k + 1, by go_num, by omega, by rw [HS.out]; exact HR.out⟩
        case measure => simp [intOf]; omega
    · obtain rfl : k = n := by omega
      obtain ⟨A4, c4, rfl, -, -, -, hl4, -⟩ := lnIs_of_own R.own
      have HL4 := Lib.hid hl4
      have HB1 := Lib.hid R.bel
      have HW1 := Lib.hid R.le
      have hol := ofL_len L
      have hol2 : (ofL L).length ≤ 4002000 := Nat.le_trans hol (by rw [hn]; exact Nat.le_trans (Nat.mul_le_mul (show 2 * k + 1 ≤ 2001 by omega) (show 2 * k ≤ 2000 by omega)) (by decide))
      clear R HR hl4 hol hpl
      generalize hps : placesUp L k = ps at *
      generalize hpl2 : ps.length = pn at *
      have HPN := Lib.hid hpl2; clear hpl2 hps
      obtain ⟨W1, hwo⟩ : ∃ wo : World, wo = wr := ⟨_, rfl⟩
      subst hwo
      go_wp2_with fail
      go_loopw [3, 6] (fun v s wr => ∃ last : Int, s = .int .i64 last ∧ -1 ≤ last ∧ ∃ es : List Ev, OwnR W1 W1.heap.size 45 15 v es.length (flatF evF es) wr ∧ es ++ ofRest L ps last = ofL L) (fun _ s _ => above ps (intOf s))
      case atStart => exact ⟨-1, rfl, by omega, [], ⟨Below.refl _ _, World.ownsRow_nil _ _ _ _, Nat.le_refl _⟩, HO.out.symm⟩
      case round =>
        obtain ⟨last, rfl, hlast, es, R, hes⟩ := hrel
        have hel : es.length ≤ 4002000 := by rw [← hes, List.length_append] at hol2; omega
        have HR := Lib.hid R; clear R
        have HES := Lib.hid hes; clear hes
        go_wp2_with fail
        obtain ⟨W2, hwo⟩ : ∃ wo : World, wo = wr := ⟨_, rfl⟩
        subst hwo
        go_loopw [7, 8] (fun x s wr => ∃ j : Nat, s = .int .i64 j ∧ j ≤ pn ∧ x = .int .i64 (nextUp ps last j) ∧ Drew W2 wr) (fun _ s _ => pn - (intOf s).toNat)
        case atStart => exact ⟨0, rfl, Nat.zero_le _, rfl, Drew.refl _⟩
        case round =>
          obtain ⟨j, rfl, hj, rfl, hd⟩ := hrel
          by_cases hlt : j < pn
          · obtain ⟨b4, off4, rfl, _, x4⟩ := ((HL4.out.keep HR.out.bel).keep (hd.below _)).atI (by rw [HPN.out]; omega)
            have p0 := x4 j (by rw [HPN.out]; omega)
            have HS : Hid (nextUp ps last (j + 1) = bif decide (last < ps.getD j 0) && (decide (nextUp ps last j < 0) || decide (ps.getD j 0 < nextUp ps last j)) then ps.getD j 0 else nextUp ps last j) := Lib.hid rfl
            have HD := Lib.hid hd
            clear x4 hd
            generalize ps.getD j 0 = x at *
            generalize nextUp ps last j = nx at *
            by_cases h1 : last < x
            · by_cases h2 : nx < 0
              · rw [decide_eq_true h1, decide_eq_true h2] at HS
                go_wp2_with fail
                go_roundw
                case rel => exact ⟨j + 1, by go_num, by omega, by rw [HS.out]; rfl, HD.out⟩
                case measure => simp [intOf]; omega
              · by_cases h3 : x < nx
                · rw [decide_eq_true h1, decide_eq_false h2, decide_eq_true h3] at HS
                  go_wp2_with fail
                  go_roundw
                  case rel => exact ⟨j + 1, by go_num, by omega, by rw [HS.out]; rfl, HD.out⟩
                  case measure => simp [intOf]; omega
                · rw [decide_eq_true h1, decide_eq_false h2, decide_eq_false h3] at HS
                  go_wp2_with fail
                  go_roundw
                  case rel => exact ⟨j + 1, by go_num, by omega, by rw [HS.out]; rfl, HD.out⟩
                  case measure => simp [intOf]; omega
            · rw [decide_eq_false h1] at HS
              go_wp2_with fail
              go_roundw
              case rel => exact ⟨j + 1, by go_num, by omega, by rw [HS.out]; rfl, HD.out⟩
              case measure => simp [intOf]; omega
          · obtain rfl : j = pn := by omega
            have hst := ofRest_step (L := L) (ps := ps) (last := last)
            have hdn := ofRest_done (L := L) (ps := ps) (last := last)
            rw [HPN.out] at hst hdn
            have HD := Lib.hid hd
            clear hd
            generalize nextUp ps last j = nx at *
            have hR2 := HR.out.keep (HD.out.below _)
            by_cases hnx : nx < 0
            · have hd0 := hdn hnx
              have HE : Hid (es = ofL L) := Lib.hid (by rw [← HES.out, hd0, List.append_nil])
              have HZ := Lib.hid hR2
              clear hst hdn hd0 hR2
              go_wp2_with fail
              go_ret
              refine ⟨_, rfl, ?_, ?_, ?_⟩
              · rw [← HE.out]
                exact lnIs_of_own HZ.out.own
              · exact (far_of_own HZ.out.own).mono HW1.out
              · exact HB1.out.trans (HZ.out.bel.mono HW1.out)
            · obtain ⟨hst1, hst2, hst3⟩ := hst hnx
              have HST : Hid (es ++ begsUp L nx k ++ backsUp L nx k ++ ofRest L ps nx = ofL L) := Lib.hid (by rw [← HES.out, hst1, evsAt, hn]; simp only [List.append_assoc])
              have hbk := begsUp_len L nx k
              have HZ := Lib.hid hR2
              clear hst hdn hR2 hst1
              go_wp2_with fail
              go_loopw [3, 9] (fun v s wr => ∃ i : Nat, s = .int .i64 i ∧ i ≤ k ∧ OwnR W1 W1.heap.size 45 15 v (es ++ begsUp L nx i).length (flatF evF (es ++ begsUp L nx i)) wr) (fun _ s _ => k - (intOf s).toNat)
              case atStart => exact ⟨0, rfl, Nat.zero_le _, by rw [show begsUp L nx 0 = [] from rfl, List.append_nil]; exact HZ.out⟩
              case round =>
                clear HZ
                obtain ⟨i, rfl, hi, R4⟩ := hrel
                have HR4' := Lib.hid R4
                have hbl := begsUp_len L nx i
                by_cases hlt : i < k
                · obtain ⟨b1, off1, rfl, hb1, x1⟩ := ((HA.out.keep HB1.out).keep R4.bel).atO (by omega)
                  have p14 : wr.cell? ⟨b1, off1 + i * 16 + 14, none⟩ = some (.int .i64 (oprN L i).fr) := x1 i (by omega) 14 (by omega)
                  have p15 : wr.cell? ⟨b1, off1 + i * 16 + 15, none⟩ = some (.int .i64 (oprN L i).to) := x1 i (by omega) 15 (by omega)
                  obtain ⟨q0, q1, q2, q3, q4, q5, q6, q7, q8, q9, q10, q11, q12, q13, -⟩ := opr_cells (x1 i (by omega))
                  have HS : Hid (begsUp L nx (i + 1) = bif decide ((oprN L i).fr = nx) then begsUp L nx i ++ [begE (oprN L i)] else begsUp L nx i) := Lib.hid rfl
                  clear x1 R4
                  have hxl : (es ++ begsUp L nx i).length ≤ 5000000 := by simp only [List.length_append]; omega
                  generalize hxs : es ++ begsUp L nx i = xs at *
                  have HXS := Lib.hid hxs; clear hxs
                  generalize oprN L i = o at *
                  by_cases h1 : o.fr = nx
                  · rw [decide_eq_true h1] at HS
                    have HR3 := Lib.hid (HR4'.out.drew.alloc (.cells (evF (begE o)).toArray 45))
                    have HN := Lib.hid (Cells.new wr.drew (evF (begE o)).toArray 45).news
                    go_upto_region 21 with fail
                    go_region_law (refine step_append_own rfl _ _ 22 rfl W1.heap.size 45 i0 (.agg (evF ⟨0, false, zeroC, zeroA⟩).toArray) 15 120 Try.underlying22 hi0 hz0 hz1 hz3 rfl (by decide) u3 xs.length (flatF evF xs) (by simp [Act.eval, Act.put]) HR3.out.own ⟨wr.heap.size, 0, none⟩ 1 1 (evF (begE o)) (by simp [Act.eval, Act.put]) rfl HN.out (evF_one _) (by unfold maxLen; omega) (by omega) HR3.out.le ?_
                                   intro v2 w4 hown hgrow
                                   have HR4 := Lib.hid (HR3.out.grow hown hgrow); clear hown hgrow)
                    all_goals
                      go_wp2_with fail
                      go_roundw
                      case rel => exact ⟨i + 1, by go_num, by omega, by rw [HS.out]; simp only [cond]; rw [← List.append_assoc, HXS.out, List.length_append, flatF_append, flatF_single]; exact HR4.out⟩
                      case measure => simp [intOf]; omega
                  · rw [decide_eq_false h1] at HS
                    go_wp2_with fail
                    go_roundw
                    case rel => exact ⟨i + 1, by go_num, by omega, by rw [HS.out]; simp only [cond]; rw [HXS.out]; exact HR4'.out⟩
                    case measure => simp [intOf]; omega
                · obtain rfl : i = k := by omega
                  clear R4
                  go_wp2_with fail
                  go_loopw [3, 10] (fun v s wr => ∃ i' : Nat, s = .int .i64 i' ∧ i' ≤ i ∧ OwnR W1 W1.heap.size 45 15 v (es ++ begsUp L nx i ++ backsUp L nx i').length (flatF evF (es ++ begsUp L nx i ++ backsUp L nx i')) wr) (fun _ s _ => i - (intOf s).toNat)
                  case atStart => exact ⟨0, rfl, Nat.zero_le _, by rw [show backsUp L nx 0 = [] from rfl, List.append_nil]; exact HR4'.out⟩
                  case round =>
                    clear HR4'
                    obtain ⟨m, rfl, hi, R4⟩ := hrel
                    have HR4' := Lib.hid R4
                    have hbl := backsUp_len L nx m
                    by_cases hlt : m < i
                    · obtain ⟨b1, off1, rfl, hb1, x1⟩ := ((HA.out.keep HB1.out).keep R4.bel).atO (by omega)
                      have p14 : wr.cell? ⟨b1, off1 + m * 16 + 14, none⟩ = some (.int .i64 (oprN L m).fr) := x1 m (by omega) 14 (by omega)
                      have p15 : wr.cell? ⟨b1, off1 + m * 16 + 15, none⟩ = some (.int .i64 (oprN L m).to) := x1 m (by omega) 15 (by omega)
                      obtain ⟨q0, q1, q2, q3, q4, q5, q6, q7, q8, q9, q10, q11, q12, q13, -⟩ := opr_cells (x1 m (by omega))
                      have HS : Hid (backsUp L nx (m + 1) = bif decide (0 ≤ (oprN L m).fr) && decide ((oprN L m).to = nx) then backsUp L nx m ++ [backE (oprN L m)] else backsUp L nx m) := Lib.hid rfl
                      clear x1 R4
                      have hxl : (es ++ begsUp L nx i ++ backsUp L nx m).length ≤ 5000000 := by simp only [List.length_append]; omega
                      generalize hxs : es ++ begsUp L nx i ++ backsUp L nx m = xs at *
                      have HXS := Lib.hid hxs; clear hxs
                      generalize oprN L m = o at *
                      by_cases h0 : 0 ≤ o.fr
                      · by_cases h1 : o.to = nx
                        · rw [decide_eq_true h0, decide_eq_true h1] at HS
                          have HR3 := Lib.hid (HR4'.out.drew.alloc (.cells (evF (backE o)).toArray 45))
                          have HN := Lib.hid (Cells.new wr.drew (evF (backE o)).toArray 45).news
                          go_upto_region 26 with fail
                          go_region_law (refine step_append_own rfl _ _ 22 rfl W1.heap.size 45 i0 (.agg (evF ⟨0, false, zeroC, zeroA⟩).toArray) 15 120 Try.underlying22 hi0 hz0 hz1 hz3 rfl (by decide) u3 xs.length (flatF evF xs) (by simp [Act.eval, Act.put]) HR3.out.own ⟨wr.heap.size, 0, none⟩ 1 1 (evF (backE o)) (by simp [Act.eval, Act.put]) rfl HN.out (evF_one _) (by unfold maxLen; omega) (by omega) HR3.out.le ?_
                                         intro v2 w4 hown hgrow
                                         have HR4 := Lib.hid (HR3.out.grow hown hgrow); clear hown hgrow)
                          all_goals
                            go_wp2_with fail
                            go_roundw
                            case rel => exact ⟨m + 1, by go_num, by omega, by rw [HS.out]; simp only [cond, Bool.and_self]; rw [← List.append_assoc, HXS.out, List.length_append, flatF_append, flatF_single]; exact HR4.out⟩
                            case measure => simp [intOf]; omega
                        · rw [decide_eq_true h0, decide_eq_false h1] at HS
                          go_wp2_with fail
                          go_roundw
                          case rel => exact ⟨m + 1, by go_num, by omega, by rw [HS.out]; simp only [cond, Bool.true_and, Bool.false_and]; rw [HXS.out]; exact HR4'.out⟩
                          case measure => simp [intOf]; omega
                      · rw [decide_eq_false h0] at HS
                        go_wp2_with fail
                        go_roundw
                        case rel => exact ⟨m + 1, by go_num, by omega, by rw [HS.out]; simp only [cond, Bool.true_and, Bool.false_and]; rw [HXS.out]; exact HR4'.out⟩
                        case measure => simp [intOf]; omega
                    · obtain rfl : m = i := by omega
                      clear R4
                      go_wp2_with fail
                      go_roundw
                      case rel => exact ⟨nx, rfl, by omega, _, HR4'.out, HST.out⟩
                      case measure => simp [intOf]; omega
end Go.Proofs.Ytckcliimngeieaa
