/- Package share: below, number, Which, the two tests, those. -/
import Derived.Test.YtodomchanaaonaaRef15
namespace Go.Proofs.Ytodomchanaaonaa
open Go.ChangeShapes Go.WideShapes Go.ChangeAt Go.RowKit

theorem sBelow_any (n s : Int) (w : World) : Calls Try.prog 24 #[.int .i64 n, .int .i64 s] w fun e w' => e = .returned (.bool (belowV n s)) ∧ w = w' := by
  have H : Hid (belowV n s = (decide (0 ≤ n) && decide (n < s))) := Lib.hid rfl
  by_cases h1 : 0 ≤ n
  · by_cases h2 : n < s
    · go_enter Try.func24, Try.ntmps24
      go_wp2
      go_ret
      exact ⟨by rw [H.out]; simp [h1, h2], rfl⟩
    · go_enter Try.func24, Try.ntmps24
      go_wp2
      go_ret
      exact ⟨by rw [H.out]; simp [h2], rfl⟩
  · have H2 := Lib.hid (show belowV n s = false by unfold belowV; rw [decide_eq_false h1]; rfl)
    go_enter Try.func24, Try.ntmps24
    go_wp2
    go_ret
    exact ⟨by rw [H2.out]; rfl, rfl⟩
/-- The share of a level's part. -/
def numB (lv pt : Int) : Bool := belowV lv 4 && belowV pt 4
def numN (lv pt : Int) : Int := bif numB lv pt then 4 * lv + pt else 0
theorem sNumber_any (lv pt : Int) (w : World) : Calls Try.prog 15 #[.int .i64 lv, .int .i64 pt] w fun e w' => e = .returned (.tuple #[.int .i64 (numN lv pt), .bool (numB lv pt)]) ∧ w = w' := by
  have c1 := Lib.hid (fun W => sBelow_any lv 4 W)
  have c2 := Lib.hid (fun W => sBelow_any pt 4 W)
  have HN : Hid (numN lv pt = bif numB lv pt then 4 * lv + pt else 0) := Lib.hid rfl
  have HB : Hid (numB lv pt = (belowV lv 4 && belowV pt 4)) := Lib.hid rfl
  have hb1 : belowV lv 4 = true → 0 ≤ lv ∧ lv < 4 := by unfold belowV; simp
  have hb2 : belowV pt 4 = true → 0 ≤ pt ∧ pt < 4 := by unfold belowV; simp
  generalize belowV lv 4 = b1 at *
  generalize belowV pt 4 = b2 at *
  have HB1 := Lib.hid hb1
  have HB2 := Lib.hid hb2
  clear hb1 hb2
  cases b1
  · have HV : Hid (numN lv pt = 0 ∧ numB lv pt = false) := Lib.hid ⟨by rw [HN.out, HB.out]; rfl, by rw [HB.out]; rfl⟩
    clear HN HB HB1 HB2
    go_enter Try.func15, Try.ntmps15
    go_wp2_with (go_at_call 24; first | (with_reducible refine (c1.out _).mono ?_; rintro e w' ⟨rfl, rfl⟩) | (with_reducible refine (c2.out _).mono ?_; rintro e w' ⟨rfl, rfl⟩))
    go_ret2
    exact ⟨by rw [HV.out.1, HV.out.2]; rfl, rfl⟩
  · cases b2
    · have HV : Hid (numN lv pt = 0 ∧ numB lv pt = false) := Lib.hid ⟨by rw [HN.out, HB.out]; rfl, by rw [HB.out]; rfl⟩
      clear HN HB HB1 HB2
      go_enter Try.func15, Try.ntmps15
      go_wp2_with (go_at_call 24; first | (with_reducible refine (c1.out _).mono ?_; rintro e w' ⟨rfl, rfl⟩) | (with_reducible refine (c2.out _).mono ?_; rintro e w' ⟨rfl, rfl⟩))
      go_ret2
      exact ⟨by rw [HV.out.1, HV.out.2]; rfl, rfl⟩
    · have HV : Hid (numN lv pt = 4 * lv + pt ∧ numB lv pt = true) := Lib.hid ⟨by rw [HN.out, HB.out]; rfl, by rw [HB.out]; rfl⟩
      obtain ⟨k1, k2⟩ := HB1.out rfl
      obtain ⟨k3, k4⟩ := HB2.out rfl
      have w1 : IntKind.i64.wrap (4 * lv) = 4 * lv := by rw [IntKind.wrap_i64]; omega
      have w2 : IntKind.i64.wrap (4 * lv + pt) = 4 * lv + pt := by rw [IntKind.wrap_i64]; omega
      clear HN HB HB1 HB2
      go_enter Try.func15, Try.ntmps15
      go_wp2_with (go_at_call 24; first | (with_reducible refine (c1.out _).mono ?_; rintro e w' ⟨rfl, rfl⟩) | (with_reducible refine (c2.out _).mono ?_; rintro e w' ⟨rfl, rfl⟩))
      go_ret2
      exact ⟨by rw [HV.out.1, HV.out.2]; rfl, rfl⟩
theorem num_which (o : Opr) : numB o.c.l (partN o.c.op) = whichB o := by
  have hp := partN_bounds o.c.op
  unfold numB whichB belowV
  rw [Bool.eq_iff_iff]
  simp only [Bool.and_eq_true, decide_eq_true_eq, Bool.not_eq_true', Bool.or_eq_false_iff, decide_eq_false_iff_not]
  omega
theorem sWhich_any (o : Opr) (w : World) : Calls Try.prog 7 #[.agg (opF o).toArray] w fun e w' => e = .returned (.tuple #[.int .i64 (whichN o), .bool (whichB o)]) ∧ Below w.heap.size w w' := by
  have C1 := Lib.hid (fun W => kPart_any o.c.op W)
  have C2 := Lib.hid (fun W => sNumber_any o.c.l (partN o.c.op) W)
  have HV : Hid (numN o.c.l (partN o.c.op) = whichN o ∧ numB o.c.l (partN o.c.op) = whichB o) := Lib.hid ⟨by unfold numN whichN; rw [num_which], num_which o⟩
  rw [HV.out.1, HV.out.2] at C2
  clear HV
  generalize whichN o = x at *
  generalize whichB o = b at *
  go_enter Try.func7, Try.ntmps7
  go_upto_region 1 with fail
  generalize hW : World.alloc _ _ = W
  obtain ⟨hB, hx⟩ := one_cells _ _ _ W hW
  have p1 : W.cell? ⟨w.heap.size, 1, none⟩ = some (.int .i64 o.c.op) := hx.cell 1
  have p2 : W.cell? ⟨w.heap.size, 2, none⟩ = some (.int .i64 o.c.l) := hx.cell 2
  have HBW := Lib.hid hB
  clear hW hx hB
  generalize o.c.op = op at *
  generalize o.c.l = l at *
  generalize partN op = pt at *
  go_quiet (first | (go_at_call 16; exact Calls.quiet_of_same (quiet_eq (C1.out _))) | (go_at_call 15; exact Calls.quiet_of_same (quiet_eq (C2.out _))))
  go_wp2_with fail
  go_ret2
  exact ⟨by rfl, below_drewN HBW.out _⟩

/-- Of's test. -/
theorem ofTest_any (o : Opr) (Bs : Nat) (s : Int) (w : World) (hs : w.cell? ⟨Bs, 0, none⟩ = some (.int .i64 s)) (hb : Bs < w.heap.size) :
    Calls Try.prog 19 #[.agg (opF o).toArray, .pointer (some ⟨Bs, 0, none⟩)] w fun e w' => e = .returned (.bool (whichB o && (whichN o == s))) ∧ Below w.heap.size w w' := by
  have C := Lib.hid (sWhich_any o)
  have HX := Lib.hid (And.intro hs hb)
  clear hs hb
  have hfold : (#[.int .i64 o.th, .int .i64 o.c.op, .int .i64 o.c.l, .int .i64 o.c.key, .int .u64 o.c.pa, .int .u64 o.c.pb, .int .u64 o.c.hd, .int .i64 o.c.r, .int .i64 o.a.e, .int .u64 o.a.a, .int .u64 o.a.b, .int .u64 o.a.h, .int .i64 o.a.n, .int .i64 o.a.k, .int .i64 o.fr, .int .i64 o.to] : Array Value) = (opF o).toArray := rfl
  generalize whichN o = x at *
  generalize whichB o = b at *
  go_enter Try.func19, Try.ntmps19
  go_upto_region 1 with fail
  generalize hW : World.alloc _ _ = W
  obtain ⟨hB, hx⟩ := one_cells _ _ _ W hW
  obtain ⟨q0, q1, q2, q3, q4, q5, q6, q7, q8, q9, q10, q11, q12, q13, q14, q15⟩ := opr_cells (w := W) (b := w.heap.size) (o := 0) (x := o) (fun j _ => by rw [Nat.zero_add]; exact hx.cell j)
  simp only [Nat.zero_add] at q1 q2 q3 q4 q5 q6 q7 q8 q9 q10 q11 q12 q13 q14 q15
  have HB := Lib.hid hB
  clear hW hx hB
  go_upto_region 2 with (go_at_call 7; refine (C.out _).mono ?_; rintro e w1 ⟨rfl, hb⟩)
  have HB1 : Hid (Below w.heap.size w w1) := Lib.hid (HB.out.trans (hb.mono HB.out.size))
  have k1 : w1.cell? ⟨Bs, 0, none⟩ = some (.int .i64 s) := (HB1.out.cell (p := ⟨Bs, 0, none⟩) HX.out.2).trans HX.out.1
  clear hb HB q0 q1 q2 q3 q4 q5 q6 q7 q8 q9 q10 q11 q12 q13 q14 q15
  cases b
  · go_wp2_with fail
    go_ret
    exact ⟨rfl, HB1.out⟩
  · go_wp2_with fail
    go_ret
    exact ⟨rfl, HB1.out⟩
end Go.Proofs.Ytodomchanaaonaa
