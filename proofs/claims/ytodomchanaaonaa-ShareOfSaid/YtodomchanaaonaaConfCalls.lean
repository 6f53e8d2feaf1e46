/- What the other functions of package conf answer, and the document's answers of layer 4. -/
import Derived.Test.YtodomchanaaonaaConfList
namespace Go.Proofs.Ytodomchanaaonaa
open Go.ChangeShapes Go.WideShapes Go.ChangeAt Go.RowKit

theorem GivesInts.more {w w1 w' : World} {l : List Int} {e : Ending} (h : GivesInts w1 l e w') {a1 : Nat} (ha : w.heap.size = a1) (hb : Below a1 w w1) : GivesInts w l e w' := by
  obtain ⟨A, cap, h1, h2, h3⟩ := h
  exact ⟨A, cap, h1, h2, by rw [ha]; exact below_on hb (Nat.le_of_eq ha.symm) h3⟩

set_option maxRecDepth 100000 in
theorem cUpTo_any (c : Nat → Int) (hc : Ok64 c) (l : Int) (w : World) :
    Calls Try.prog 20 #[.agg (rowOf 14 (ints c)), .int .i64 l] w (GivesInts w (thrs c 0 l)) := by
  have f14 := fold14 c
  have cT := Lib.hid (cThreads_any c hc 0 l)
  go_enter Try.func20, Try.ntmps20
  go_upto_region 1 with fail
  generalize hW : World.alloc _ _ = W
  have hr : Row W w.heap.size 41 14 (ints c) := by rw [← hW]; exact Row.new _ _ _ _ _ rfl
  have hB : Below w.heap.size w W := by rw [← hW]; exact (Below.refl _ _).alloc (Nat.le_refl _) _
  clear hW
  generalize hz : w.heap.size = a1 at *
  have HZ := Lib.hid hz; clear hz
  obtain ⟨u0, u1, u2, u3, u4, u5, u6, u7, u8, u9, u10, u11, u12, u13⟩ := conf_cells hr
  go_wp2_with fail
  refine (cT.out _).mono ?_; intro e w' hg
  replace hg := hg.more HZ.out hB
  obtain ⟨A, cap, rfl, hg⟩ := hg
  have HG := Lib.hid hg
  clear hg
  clear u0 u1 u2 u3 u4 u5 u6 u7 u8 u9 u10 u11 u12 u13
  go_wp2_with fail
  go_ret
  exact ⟨A, cap, rfl, HG.out⟩

set_option maxRecDepth 100000 in
theorem rLevel_any (c : Nat → Int) (hc : Ok64 c) (t : Int) (ht : -9223372036854775808 ≤ t ∧ t ≤ 9223372036854775807) (w : World) :
    Calls Try.prog 23 #[.agg (rowOf 14 (ints c)), .int .i64 t] w fun e w' => e = .returned (.int .i64 (lvl c t)) ∧ Below w.heap.size w w' := by
  have f14 := fold14 c
  have cM := Lib.hid (rMay_any c hc)
  go_enter Try.func23, Try.ntmps23
  go_upto_region 1 with fail
  generalize hW : World.alloc _ _ = W
  have hr : Row W w.heap.size 41 14 (ints c) := by rw [← hW]; exact Row.new _ _ _ _ _ rfl
  have hB : Below w.heap.size w W := by rw [← hW]; exact (Below.refl _ _).alloc (Nat.le_refl _) _
  clear hW
  generalize hz : w.heap.size = a1 at *
  have HZ := Lib.hid hz; clear hz
  obtain ⟨u0, u1, u2, u3, u4, u5, u6, u7, u8, u9, u10, u11, u12, u13⟩ := conf_cells hr
  go_wp2_with fail
  refine (cM.out _).mono ?_; rintro e W1 ⟨rfl, hb1⟩
  have hr1 := hr.keep hb1
  have hB1 := below_on hB (Nat.le_of_eq HZ.out.symm) hb1
  clear u0 u1 u2 u3 u4 u5 u6 u7 u8 u9 u10 u11 u12 u13
  clear f14 cM hb1 hr hB
  obtain ⟨-, u1, -⟩ := conf_cells hr1
  cases hm : mayB c
  · have H := Lib.hid (lvl_no (c := c) (t := t) (by rw [hm]; simp))
    go_wp2_with fail
    go_ret
    exact ⟨by rw [H.out]; rfl, by rw [HZ.out]; exact hB1⟩
  · obtain ⟨-, b1, -⟩ := may_bounds hm
    by_cases h2 : 0 ≤ t
    · by_cases h3 : t < c 1
      · have H := Lib.hid (lvl_yes hm h2 h3)
        have uk : W1.cell? ⟨a1, 2 + t.toNat, none⟩ = some (.int .i64 (c (2 + t.toNat))) := hr1.cell (i := 2 + t.toNat) (by omega)
        go_wp2_with fail
        go_ret
        exact ⟨by rw [H.out]; rfl, by rw [HZ.out]; exact hB1⟩
      · have H := Lib.hid (lvl_no (c := c) (t := t) (fun h => h3 h.2.2))
        go_wp2_with fail
        go_ret
        exact ⟨by rw [H.out]; rfl, by rw [HZ.out]; exact hB1⟩
    · have H := Lib.hid (lvl_no (c := c) (t := t) (fun h => h2 h.2.1))
      go_wp2_with fail
      go_ret
      exact ⟨by rw [H.out]; rfl, by rw [HZ.out]; exact hB1⟩

def writesB (c : Nat → Int) (t l : Int) : Bool := decide (0 ≤ l) && (l == lvl c t)
def readsB (c : Nat → Int) (t l : Int) : Bool := withinB l 0 (lvl c t)
theorem writesB_eq (c : Nat → Int) (t l : Int) : writesB c t l = (decide (0 ≤ lvl c t) && (lvl c t == l)) := by
  unfold writesB
  rw [Bool.eq_iff_iff]
  simp
  omega
theorem readsB_eq (c : Nat → Int) (t l : Int) : readsB c t l = (decide (0 ≤ l) && decide (l ≤ lvl c t)) := rfl

end Go.Proofs.Ytodomchanaaonaa
