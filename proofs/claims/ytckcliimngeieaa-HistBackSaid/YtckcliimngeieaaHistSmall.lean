/- Package hist: answered, Ahead, event. -/
import Derived.Test.YtckcliimngeieaaRef14
import Derived.Test.YtckcliimngeieaaRowOwn
import Derived.Test.YtckcliimngeieaaOfL
namespace Go.Proofs.Ytckcliimngeieaa
open Go.ChangeShapes Go.WideShapes Go.ChangeAt Go.RowKit

theorem hAnswered_any (x : Opr) (w : World) : Calls Try.prog 19 #[.agg (opF x).toArray] w fun e w' => e = .returned (.bool (decide (0 ≤ x.to))) ∧ Below w.heap.size w w' := by
  go_enter Try.func19, Try.ntmps19
  go_upto_region 1 with fail
  generalize hW : World.alloc _ _ = W
  obtain ⟨hB, hx⟩ := one_cells _ _ _ W hW
  have p0 : W.cell? ⟨w.heap.size, 15, none⟩ = some (.int .i64 x.to) := hx.cell 15
  have HB := Lib.hid hB
  clear hW hx hB
  go_wp2_with fail
  go_ret
  exact ⟨by simp, HB.out⟩

theorem hAhead_any (x y : Opr) (w : World) : Calls Try.prog 16 #[.agg (opF x).toArray, .agg (opF y).toArray] w fun e w' => e = .returned (.bool (aheadB x y)) ∧ Below w.heap.size w w' := by
  have C := Lib.hid (fun W => hAnswered_any x W)
  have H := Lib.hid (show aheadB x y = (decide (0 ≤ x.to) && decide (x.to < y.fr)) from rfl)
  go_enter Try.func16, Try.ntmps16
  go_upto_region 1 with fail
  generalize hW : World.alloc _ _ = W
  obtain ⟨hB, hx, hy⟩ := two_cells _ _ _ _ _ W hW
  obtain ⟨p0, p1, p2, p3, p4, p5, p6, p7, p8, p9, p10, p11, p12, p13, p14, p15⟩ := opr_cells (w := W) (b := w.heap.size) (o := 0) (x := x) (fun j _ => by rw [Nat.zero_add]; exact hx.cell j)
  simp only [Nat.zero_add] at p1 p2 p3 p4 p5 p6 p7 p8 p9 p10 p11 p12 p13 p14 p15
  have HX := Lib.hid hx; have HY := Lib.hid hy
  have HB := Lib.hid hB
  clear hW hx hy hB
  by_cases h1 : 0 ≤ x.to
  · have HD := Lib.hid (decide_eq_true h1)
    rw [decide_eq_true h1] at C
    go_upto_region 2 with (go_at_call 19; refine (C.out _).mono ?_; rintro e w1 ⟨rfl, hb⟩; have q15 : w1.cell? ⟨w.heap.size, 15, none⟩ = some (.int .i64 x.to) := (HX.out.keep hb).cell 15; have q14 : w1.cell? ⟨w.heap.size + 1, 14, none⟩ = some (.int .i64 y.fr) := (HY.out.keep hb).cell 14; have HB1 := Lib.hid (HB.out.trans (hb.mono HB.out.size)); clear hb)
    go_ret
    exact ⟨by rw [H.out, HD.out]; rfl, HB1.out⟩
  · have HD := Lib.hid (decide_eq_false h1)
    rw [decide_eq_false h1] at C
    go_wp2_with (go_at_call 19; refine (C.out _).mono ?_; rintro e w1 ⟨rfl, hb⟩; have HB1 := Lib.hid (HB.out.trans (hb.mono HB.out.size)); clear hb)
    go_ret
    exact ⟨by rw [H.out, HD.out]; rfl, HB1.out⟩

theorem evF_all (x : Ev) : (evF x).toArray.all (·.oneCell') = true := by simp [evF, Value.oneCell']
/-- What happens to an oper. -/
def eventE (o : Opr) (what : Int) : Ev := bif decide (what = 1) then backE o else begE o
set_option maxRecDepth 100000 in
theorem hEvent_any (x : Opr) (k : Int) (w : World) : Calls Try.prog 23 #[.agg (opF x).toArray, .int .i64 k] w fun e w' => e = .returned (.agg (evF (eventE x k)).toArray) ∧ Below w.heap.size w w' := by
  have H := Lib.hid (show eventE x k = bif decide (k = 1) then backE x else begE x from rfl)
  go_enter Try.func23, Try.ntmps23
  go_upto_region 1 with fail
  generalize hW : World.alloc _ _ = W
  obtain ⟨hB, hx, hy⟩ := two_cells _ _ _ _ _ W hW
  obtain ⟨p0, p1, p2, p3, p4, p5, p6, p7, p8, p9, p10, p11, p12, p13, p14, p15⟩ := opr_cells (w := W) (b := w.heap.size) (o := 0) (x := x) (fun j _ => by rw [Nat.zero_add]; exact hx.cell j)
  simp only [Nat.zero_add] at p1 p2 p3 p4 p5 p6 p7 p8 p9 p10 p11 p12 p13 p14 p15
  have hz : W.heap[w.heap.size + 1]? = some (.cells (evF ⟨0, false, zeroC, zeroA⟩).toArray 45 (0, 0)) := hy
  have HB := Lib.hid hB
  clear hW hx hB
  generalize hza : w.heap.size = a1 at *
  have HZ := Lib.hid hza; clear hza
  by_cases h1 : k = 1
  · rw [decide_eq_true h1] at H
    subst h1
    go_wp2_with (refine wpList_store_row rfl 45 _ _ rfl (a1 + 1) (evF (backE x)).toArray rfl rfl 45 (evF ⟨0, false, zeroC, zeroA⟩).toArray hz (by kernel_rfl) rfl (evF_all _) ?_)
    exact bodyPost_ret (results_cell_row (p := 4) (ty := 45) (by kernel_rfl) _ _ (a1 + 1) 45 (evF (backE x)).toArray (0, 0) _ rfl (setRow_heap W (a1 + 1) _ _ 45 _ hz) Try.underlying45 rfl (by kernel_rfl)) rfl ⟨by rw [H.out]; rfl, by rw [HZ.out]; exact below_setRow_ HB.out (by omega) _⟩
  · rw [decide_eq_false h1] at H
    go_wp2_with (refine wpList_store_row rfl 45 _ _ rfl (a1 + 1) (evF (begE x)).toArray rfl rfl 45 (evF ⟨0, false, zeroC, zeroA⟩).toArray hz (by kernel_rfl) rfl (evF_all _) ?_)
    exact bodyPost_ret (results_cell_row (p := 4) (ty := 45) (by kernel_rfl) _ _ (a1 + 1) 45 (evF (begE x)).toArray (0, 0) _ rfl (setRow_heap W (a1 + 1) _ _ 45 _ hz) Try.underlying45 rfl (by kernel_rfl)) rfl ⟨by rw [H.out]; rfl, by rw [HZ.out]; exact below_setRow_ HB.out (by omega) _⟩
end Go.Proofs.Ytckcliimngeieaa
