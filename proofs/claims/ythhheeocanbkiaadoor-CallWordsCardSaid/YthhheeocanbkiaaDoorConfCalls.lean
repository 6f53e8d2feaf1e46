/- What the other functions of package conf answer, and the document's answers of layer 4. -/
import Derived.Test.YthhheeocanbkiaaDoorConfList
namespace Go.Proofs.YthhheeocanbkiaaDoor
open Go.ChangeShapes Go.WideShapes Go.ChangeAt Go.RowKit

theorem GivesInts.more {w w1 w' : World} {l : List Int} {e : Ending} (h : GivesInts w1 l e w') {a1 : Nat} (ha : w.heap.size = a1) (hb : Below a1 w w1) : GivesInts w l e w' := by
  obtain ⟨A, cap, h1, h2, h3⟩ := h
  exact ⟨A, cap, h1, h2, by rw [ha]; exact below_on hb (Nat.le_of_eq ha.symm) h3⟩

set_option maxRecDepth 100000 in
theorem cLevel_any (c : Nat → Int) (hc : Ok64 c) (t : Int) (ht : -9223372036854775808 ≤ t ∧ t ≤ 9223372036854775807) (w : World) :
    Calls Tryd.prog 33 #[.agg (rowOf 14 (ints c)), .int .i64 t] w fun e w' => e = .returned (.int .i64 (lvl c t)) ∧ Below w.heap.size w w' := by
  have f14 := fold14 c
  have cM := Lib.hid (cMay_any c hc)
  go_enter Tryd.func33, Tryd.ntmps33
  go_upto_region 1 with fail
  generalize hW : World.alloc _ _ = W
  have hr : Row W w.heap.size 46 14 (ints c) := by rw [← hW]; exact Row.new _ _ _ _ _ rfl
  have hB : Below w.heap.size w W := by rw [← hW]; exact (Below.refl _ _).alloc (Nat.le_refl _) _
  clear hW
  generalize hz : w.heap.size = a1 at *
  have HZ := Lib.hid hz; clear hz
  obtain ⟨u0, u1, u2, u3, u4, u5, u6, u7, u8, u9, u10, u11, u12, u13⟩ := conf_cells hr
  go_wp2_with fail
  refine (cM.out _).mono ?_; rintro e W1 ⟨rfl, hb1⟩
  have hr1 := hr.keep hb1
  have hB1 := below_on hB (Nat.le_of_eq HZ.out.symm) hb1
  clear u0 u1 u2 u3 u4 u5 u6 u7 u8 u9 u10 u11 u12 u13
  clear f14 cM hb1 hr hB
  obtain ⟨-, u1, -⟩ := conf_cells hr1
  cases hm : mayB c
  · have H := Lib.hid (lvl_no (c := c) (t := t) (by rw [hm]; simp))
    go_wp2_with fail
    go_ret
    exact ⟨by rw [H.out]; rfl, by rw [HZ.out]; exact hB1⟩
  · obtain ⟨-, b1, -⟩ := may_bounds hm
    by_cases h2 : 0 ≤ t ∧ t < c 1
    · have H := Lib.hid (lvl_yes hm h2.1 h2.2)
      have H2 : Hid (withinB t 0 (c 1 - 1) = true) := Lib.hid (by simp [withinB]; omega)
      have uk : W1.cell? ⟨a1, 2 + t.toNat, none⟩ = some (.int .i64 (c (2 + t.toNat))) := hr1.cell (i := 2 + t.toNat) (by omega)
      go_wp2_with ((go_at_call 40; refine (cWithin_any _ _ _ _).mono ?_; rintro e w' ⟨rfl, rfl⟩); rw [H2.out])
      go_ret
      exact ⟨by rw [H.out]; rfl, by rw [HZ.out]; exact hB1⟩
    · have H := Lib.hid (lvl_no (c := c) (t := t) (fun h => h2 h.2))
      have H2 : Hid (withinB t 0 (c 1 - 1) = false) := Lib.hid (by simp [withinB]; omega)
      go_wp2_with ((go_at_call 40; refine (cWithin_any _ _ _ _).mono ?_; rintro e w' ⟨rfl, rfl⟩); rw [H2.out])
      go_ret
      exact ⟨by rw [H.out]; rfl, by rw [HZ.out]; exact hB1⟩

def writesB (c : Nat → Int) (t l : Int) : Bool := decide (0 ≤ l) && (l == lvl c t)
def readsB (c : Nat → Int) (t l : Int) : Bool := withinB l 0 (lvl c t)
theorem writesB_eq (c : Nat → Int) (t l : Int) : writesB c t l = (decide (0 ≤ lvl c t) && (lvl c t == l)) := by
  unfold writesB
  rw [Bool.eq_iff_iff]
  simp
  omega
theorem readsB_eq (c : Nat → Int) (t l : Int) : readsB c t l = (decide (0 ≤ l) && decide (l ≤ lvl c t)) := rfl

set_option maxRecDepth 100000 in
theorem cWrites_any (c : Nat → Int) (hc : Ok64 c) (t l : Int) (ht : -9223372036854775808 ≤ t ∧ t ≤ 9223372036854775807) (w : World) :
    Calls Tryd.prog 34 #[.agg (rowOf 14 (ints c)), .int .i64 t, .int .i64 l] w fun e w' => e = .returned (.bool (writesB c t l)) ∧ Below w.heap.size w w' := by
  have f14 := fold14 c
  have cL := Lib.hid (cLevel_any c hc t ht)
  have H : Hid (writesB c t l = (decide (0 ≤ l) && (l == lvl c t))) := Lib.hid rfl
  generalize lvl c t = n at *
  by_cases hl : 0 ≤ l
  · rw [decide_eq_true hl, Bool.true_and] at H
    go_enter Tryd.func34, Tryd.ntmps34
    go_upto_region 1 with fail
    generalize hW : World.alloc _ _ = W
    have hr : Row W w.heap.size 46 14 (ints c) := by rw [← hW]; exact Row.new _ _ _ _ _ rfl
    have hB : Below w.heap.size w W := by rw [← hW]; exact (Below.refl _ _).alloc (Nat.le_refl _) _
    clear hW
    generalize hz : w.heap.size = a1 at *
    have HZ := Lib.hid hz; clear hz
    obtain ⟨u0, u1, u2, u3, u4, u5, u6, u7, u8, u9, u10, u11, u12, u13⟩ := conf_cells hr
    go_wp2_with fail
    refine (cL.out _).mono ?_; rintro e W1 ⟨rfl, hb1⟩
    have hB1 := below_on hB (Nat.le_of_eq HZ.out.symm) hb1
    clear u0 u1 u2 u3 u4 u5 u6 u7 u8 u9 u10 u11 u12 u13
    clear f14 cL hb1 hr hB
    go_wp2_with fail
    go_ret
    exact ⟨by rw [H.out]; rfl, by rw [HZ.out]; exact hB1⟩
  · rw [decide_eq_false hl, Bool.false_and] at H
    go_enter Tryd.func34, Tryd.ntmps34
    go_upto_region 1 with fail
    generalize hW : World.alloc _ _ = W
    have hr : Row W w.heap.size 46 14 (ints c) := by rw [← hW]; exact Row.new _ _ _ _ _ rfl
    have hB : Below w.heap.size w W := by rw [← hW]; exact (Below.refl _ _).alloc (Nat.le_refl _) _
    clear hW
    generalize hz : w.heap.size = a1 at *
    have HZ := Lib.hid hz; clear hz
    obtain ⟨u0, u1, u2, u3, u4, u5, u6, u7, u8, u9, u10, u11, u12, u13⟩ := conf_cells hr
    go_wp2_with fail
    go_ret
    exact ⟨by rw [H.out]; rfl, by rw [HZ.out]; exact hB⟩
set_option maxRecDepth 100000 in
theorem cReads_any (c : Nat → Int) (hc : Ok64 c) (t l : Int) (ht : -9223372036854775808 ≤ t ∧ t ≤ 9223372036854775807) (w : World) :
    Calls Tryd.prog 35 #[.agg (rowOf 14 (ints c)), .int .i64 t, .int .i64 l] w fun e w' => e = .returned (.bool (readsB c t l)) ∧ Below w.heap.size w w' := by
  have f14 := fold14 c
  have cL := Lib.hid (cLevel_any c hc t ht)
  have H : Hid (readsB c t l = withinB l 0 (lvl c t)) := Lib.hid rfl
  generalize lvl c t = n at *
  go_enter Tryd.func35, Tryd.ntmps35
  go_upto_region 1 with fail
  generalize hW : World.alloc _ _ = W
  have hr : Row W w.heap.size 46 14 (ints c) := by rw [← hW]; exact Row.new _ _ _ _ _ rfl
  have hB : Below w.heap.size w W := by rw [← hW]; exact (Below.refl _ _).alloc (Nat.le_refl _) _
  clear hW
  generalize hz : w.heap.size = a1 at *
  have HZ := Lib.hid hz; clear hz
  obtain ⟨u0, u1, u2, u3, u4, u5, u6, u7, u8, u9, u10, u11, u12, u13⟩ := conf_cells hr
  go_wp2_with fail
  refine (cL.out _).mono ?_; rintro e W1 ⟨rfl, hb1⟩
  have hB1 := below_on hB (Nat.le_of_eq HZ.out.symm) hb1
  clear u0 u1 u2 u3 u4 u5 u6 u7 u8 u9 u10 u11 u12 u13
  clear f14 cL hb1 hr hB
  go_wp2_with (go_at_call 40; refine (cWithin_any _ _ _ _).mono ?_; rintro e w' ⟨rfl, rfl⟩)
  go_ret
  exact ⟨by rw [H.out]; rfl, by rw [HZ.out]; exact hB1⟩
end Go.Proofs.YthhheeocanbkiaaDoor
