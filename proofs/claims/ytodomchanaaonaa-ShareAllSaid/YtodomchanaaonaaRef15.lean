/- burnbagref15: Which, Of. -/
import Derived.Test.YtodomchanaaonaaCall
import Derived.Test.YtodomchanaaonaaOpenHist
import Derived.Test.YtodomchanaaonaaRef14Of
namespace Go.Proofs.Ytodomchanaaonaa
open Go.ChangeShapes Go.WideShapes Go.ChangeAt Go.RowKit

/-- An oper's share. -/
def whichB (o : Opr) : Bool := !(decide (partN o.c.op < 0) || (decide (o.c.l < 0) || decide (3 < o.c.l)))
def whichN (o : Opr) : Int := bif whichB o then 4 * o.c.l + partN o.c.op else 0
theorem partN_bounds (op : Int) : -1 ≤ partN op ∧ partN op ≤ 3 := by
  unfold partN
  by_cases h : op < 0
  · rw [decide_eq_true h]; exact ⟨by show (-1 : Int) ≤ -1; omega, by show (-1 : Int) ≤ 3; omega⟩
  · by_cases h2 : 11 < op
    · rw [decide_eq_true h2, Bool.or_true]; exact ⟨by show (-1 : Int) ≤ -1; omega, by show (-1 : Int) ≤ 3; omega⟩
    · rw [decide_eq_false h, decide_eq_false h2]
      simp only [Bool.or_self, cond]
      rw [Int.tdiv_eq_ediv_of_nonneg (by omega)]
      omega
theorem which_bounds (o : Opr) : 0 ≤ whichN o ∧ whichN o ≤ 15 := by
  have hp := partN_bounds o.c.op
  unfold whichN
  cases h : whichB o
  · exact ⟨by show (0 : Int) ≤ 0; omega, by show (0 : Int) ≤ 15; omega⟩
  · unfold whichB at h
    simp only [Bool.not_eq_true', Bool.or_eq_false_iff, decide_eq_false_iff_not] at h
    simp only [cond]
    omega
theorem r15Which_any (o : Opr) (hk : OkOpr o) (w : World) : Calls Try.prog 8 #[.agg (opF o).toArray] w fun e w' => e = .returned (.tuple #[.int .i64 (whichN o), .bool (whichB o)]) ∧ Below w.heap.size w w' := by
  have hop := hk.c.op
  have C1 := Lib.hid (fun W => r9Part_any o.c.op hop W)
  have hp := partN_bounds o.c.op
  have HN : Hid (whichN o = bif whichB o then 4 * o.c.l + partN o.c.op else 0) := Lib.hid rfl
  have HB : Hid (whichB o = !(decide (partN o.c.op < 0) || (decide (o.c.l < 0) || decide (3 < o.c.l)))) := Lib.hid rfl
  go_enter Try.func8, Try.ntmps8
  go_upto_region 1 with fail
  generalize hW : World.alloc _ _ = W
  obtain ⟨hB, hx⟩ := one_cells _ _ _ W hW
  have p1 : W.cell? ⟨w.heap.size, 1, none⟩ = some (.int .i64 o.c.op) := hx.cell 1
  have p2 : W.cell? ⟨w.heap.size, 2, none⟩ = some (.int .i64 o.c.l) := hx.cell 2
  have HBW := Lib.hid hB
  clear hW hx hB hop
  generalize o.c.op = op at *
  generalize o.c.l = l at *
  generalize partN op = pt at *
  by_cases h1 : pt < 0
  · have hb : whichB o = false := by rw [HB.out, decide_eq_true h1]; rfl
    have HV : Hid (whichN o = 0 ∧ whichB o = false) := Lib.hid ⟨by rw [HN.out, hb]; rfl, hb⟩
    clear HN HB hb
    go_wp2_with (go_at_call 17; refine (C1.out _).mono ?_; rintro e w' ⟨rfl, rfl⟩)
    go_ret2
    exact ⟨by rw [HV.out.1, HV.out.2]; rfl, HBW.out⟩
  · by_cases h2 : l < 0
    · have hb : whichB o = false := by rw [HB.out, decide_eq_true h2, Bool.true_or, Bool.or_true]; rfl
      have HV : Hid (whichN o = 0 ∧ whichB o = false) := Lib.hid ⟨by rw [HN.out, hb]; rfl, hb⟩
      clear HN HB hb
      go_wp2_with (go_at_call 17; refine (C1.out _).mono ?_; rintro e w' ⟨rfl, rfl⟩)
      go_ret2
      exact ⟨by rw [HV.out.1, HV.out.2]; rfl, HBW.out⟩
    · by_cases h3 : 3 < l
      · have hb : whichB o = false := by rw [HB.out, decide_eq_true h3, Bool.or_true, Bool.or_true]; rfl
        have HV : Hid (whichN o = 0 ∧ whichB o = false) := Lib.hid ⟨by rw [HN.out, hb]; rfl, hb⟩
        clear HN HB hb
        go_wp2_with (go_at_call 17; refine (C1.out _).mono ?_; rintro e w' ⟨rfl, rfl⟩)
        go_ret2
        exact ⟨by rw [HV.out.1, HV.out.2]; rfl, HBW.out⟩
      · have hb : whichB o = true := by rw [HB.out, decide_eq_false h1, decide_eq_false h2, decide_eq_false h3]; rfl
        have HV : Hid (whichN o = 4 * l + pt ∧ whichB o = true) := Lib.hid ⟨by rw [HN.out, hb]; rfl, hb⟩
        have w1 : IntKind.i64.wrap (4 * l) = 4 * l := by rw [IntKind.wrap_i64]; omega
        have w2 : IntKind.i64.wrap (4 * l + pt) = 4 * l + pt := by rw [IntKind.wrap_i64]; omega
        clear HN HB hb
        go_wp2_with (go_at_call 17; refine (C1.out _).mono ?_; rintro e w' ⟨rfl, rfl⟩)
        go_ret2
        exact ⟨by rw [HV.out.1, HV.out.2]; rfl, HBW.out⟩
/-- Of the first i opers those that are wanted. -/
def keepUp (p : Opr → Bool) (L : List Opr) : Nat → List Opr
  | 0 => []
  | i + 1 => bif p (oprN L i) then keepUp p L i ++ [oprN L i] else keepUp p L i
theorem keepUp_len (p : Opr → Bool) (L : List Opr) : ∀ i, (keepUp p L i).length ≤ i
  | 0 => Nat.le_refl _
  | i + 1 => by
    have := keepUp_len p L i
    unfold keepUp
    cases p (oprN L i)
    · simp only [cond]; omega
    · simp only [cond, List.length_append, List.length_cons, List.length_nil]; omega
def shareB (lv pt : Int) (o : Opr) : Bool := whichB o && (decide (whichN o / 4 = lv) && decide (whichN o % 4 = pt))
end Go.Proofs.Ytodomchanaaonaa
