/- hist.Open. -/
import Derived.Test.YtckcliimngeieaaHistSmall
namespace Go.Proofs.Ytckcliimngeieaa
open Go.ChangeShapes Go.WideShapes Go.ChangeAt Go.RowKit
set_option linter.unusedVariables false
set_option linter.unusedSimpArgs false

/-- The places of those that aren't answered, of the first i opers. -/
def openUp (L : List Opr) : Nat → List Int
  | 0 => []
  | i + 1 => bif decide ((oprN L i).to < 0) then openUp L i ++ [(i : Int)] else openUp L i
theorem openUp_at (L : List Opr) : ∀ i, (openUp L i).length ≤ i
  | 0 => Nat.le_refl _
  | i + 1 => by
    have := openUp_at L i
    unfold openUp
    cases decide ((oprN L i).to < 0)
    · simp only [cond]; omega
    · simp only [cond, List.length_append, List.length_cons, List.length_nil]; omega
set_option maxRecDepth 100000 in
set_option maxHeartbeats 4000000 in
theorem hOpen_any (A : Option Addr) (c : Nat) (L : List Opr) (hL : L.length ≤ 1000000) (w : World) (ha : LiesC w A (flatF opF L)) :
    Calls Try.prog 12 #[.slice A L.length c] w fun e w' => ∃ v, e = .returned v ∧ LnIs w' v (openUp L L.length).length (flatI (openUp L L.length)) ∧ Far w.heap.size v ∧ Below w.heap.size w w' := by
  obtain ⟨j0, hj0, hj1, hj2, hj3⟩ := infoI
  have HA := Lib.hid ha
  have hpl := openUp_at L
  clear ha
  generalize hn : L.length = n at *
  go_enter Try.func12, Try.ntmps12
  go_wp2_with fail
  go_loopw [3, 8] (fun v i wr => ∃ k : Nat, i = .int .i64 k ∧ k ≤ n ∧ OwnR w w.heap.size 3 1 v (openUp L k).length (flatI (openUp L k)) wr) (fun _ i _ => n - (intOf i).toNat)
  case atStart => exact ⟨0, rfl, Nat.zero_le _, Below.refl _ _, World.ownsRow_nil _ _ _ _, Nat.le_refl _⟩
  case round =>
    obtain ⟨k, rfl, hk, R⟩ := hrel
    have HR := Lib.hid R
    have hpk := hpl k
    by_cases hlt : k < n
    · obtain ⟨b1, off1, rfl, hb1, x1⟩ := (HA.out.keep R.bel).atO (by omega)
      obtain ⟨p0, p1, p2, p3, p4, p5, p6, p7, p8, p9, p10, p11, p12, p13, p14, p15⟩ := opr_cells (x1 k (by omega))
      have HS : Hid (openUp L (k + 1) = bif decide ((oprN L k).to < 0) then openUp L k ++ [(k : Int)] else openUp L k) := Lib.hid rfl
      have HB : Hid (decide ((oprN L k).to < 0) = !decide (0 ≤ (oprN L k).to)) := Lib.hid (by
        by_cases h : 0 ≤ (oprN L k).to
        · rw [decide_eq_true h, decide_eq_false (by omega)]; rfl
        · rw [decide_eq_false h, decide_eq_true (by omega)]; rfl)
      have hC := fun W => hAnswered_any (oprN L k) W
      clear x1 R
      generalize hx : oprN L k = x at *
      generalize openUp L k = ps at *
      have C := Lib.hid hC
      clear hC hpl hx
      go_upto_region 5 with fail
      generalize hW2 : World.alloc _ _ = W2
      obtain ⟨hb2, hx⟩ := one_cells _ _ _ W2 hW2
      obtain ⟨q0, q1, q2, q3, q4, q5, q6, q7, q8, q9, q10, q11, q12, q13, q14, q15⟩ := opr_cells (w := W2) (b := wr.heap.size) (o := 0) (x := x) (fun j _ => by rw [Nat.zero_add]; exact hx.cell j)
      simp only [Nat.zero_add] at q1 q2 q3 q4 q5 q6 q7 q8 q9 q10 q11 q12 q13 q14 q15
      have HR2 := Lib.hid (HR.out.keep hb2)
      clear hb2 hx hW2 HR p0 p1 p2 p3 p4 p5 p6 p7 p8 p9 p10 p11 p12 p13 p14 p15
      generalize wr.heap.size = g2 at *
      clear wr
      cases hd : decide (0 ≤ x.to)
      · rw [hd] at HB C
        rw [HB.out] at HS
        go_wp2_with (first
          | (go_at_call 19; refine (C.out _).mono ?_; rintro e w3 ⟨rfl, hb⟩; have HR3 := Lib.hid (HR2.out.keep hb); clear hb)
          | (at_builtin; refine wpList_append_own _ rfl _ _ 28 rfl w.heap.size 3 j0 (.int .i64 0) 1 8 Try.underlying28 hj0 hj1 hj2 hj3 rfl (by decide) _ _ _ rfl (HR3.out.own.alloc _) ⟨w3.heap.size, 0, none⟩ 1 1 (flatI [(k : Int)]) rfl rfl (Cells.new w3 #[.int .i64 (k : Int)] 3).news (flatI_one _) (by unfold maxLen; omega) (by omega) (by have := HR3.out.le; simp; omega) ?_; intro v2 w4 hown hgrow _; have HR4 := Lib.hid ((HR3.out.alloc _).grow hown hgrow); clear hown hgrow))
        go_roundw
        case rel => exact ⟨k + 1, by go_num, by omega, by rw [HS.out]; simp only [Bool.not_false, cond, List.length_append, flatI_append]; exact HR4.out⟩
        case measure => simp [intOf]; omega
      · rw [hd] at HB C
        rw [HB.out] at HS
        go_wp2_with (go_at_call 19; refine (C.out _).mono ?_; rintro e w3 ⟨rfl, hb⟩; have HR3 := Lib.hid (HR2.out.keep hb); clear hb)
        go_roundw
        case rel => exact ⟨k + 1, by go_num, by omega, by rw [HS.out]; exact HR3.out⟩
        case measure => simp [intOf]; omega
    · obtain rfl : k = n := by omega
      clear R
      go_wp2_with fail
      go_ret
      exact ⟨_, rfl, lnIs_of_own HR.out.own, far_of_own HR.out.own, HR.out.bel⟩
end Go.Proofs.Ytckcliimngeieaa
