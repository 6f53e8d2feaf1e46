/- What may be called, what an op is called, whether it looks, its part: package call's and the document's answers. -/
import Derived.Test.YthhheeocanbkiaaDoorRow
import Derived.Test.YthhheeocanbkiaaDoorRef8
import Derived.IntWalk
namespace Go.Proofs.YthhheeocanbkiaaDoor
open Go.ChangeShapes Go.WideShapes Go.ChangeAt Go.RowKit

/-- May a call be? -/
def mayC (op l r : Int) : Bool := decide (0 ≤ op) && (decide (op ≤ 12) && (decide (0 ≤ l) && (decide (l ≤ 3) && (decide (0 ≤ r) && decide (r ≤ 40)))))
theorem mayC_yes {op l r : Int} (h0 : 0 ≤ op) (h1 : op ≤ 12) (h2 : 0 ≤ l) (h3 : l ≤ 3) (h4 : 0 ≤ r) (h5 : r ≤ 40) : mayC op l r = true := by
  unfold mayC
  rw [decide_eq_true h0, decide_eq_true h1, decide_eq_true h2, decide_eq_true h3, decide_eq_true h4, decide_eq_true h5]
  rfl
theorem mayC_no {op l r : Int} (h : ¬ (0 ≤ op ∧ op ≤ 12 ∧ 0 ≤ l ∧ l ≤ 3 ∧ 0 ≤ r ∧ r ≤ 40)) : mayC op l r = false := by
  cases hm : mayC op l r
  · rfl
  · exfalso
    apply h
    unfold mayC at hm
    simp only [Bool.and_eq_true, decide_eq_true_eq] at hm
    exact ⟨hm.1, hm.2.1, hm.2.2.1, hm.2.2.2.1, hm.2.2.2.2.1, hm.2.2.2.2.2⟩
theorem mayC_ops {op l r : Int} (h : mayC op l r = true) : 0 ≤ op ∧ op ≤ 12 := by
  unfold mayC at h
  simp only [Bool.and_eq_true, decide_eq_true_eq] at h
  exact ⟨h.1, h.2.1⟩
def belowV (n s : Int) : Bool := decide (0 ≤ n) && decide (n < s)
theorem kBelow_any (n s : Int) (w : World) : Calls Tryd.prog 22 #[.int .i64 n, .int .i64 s] w fun e w' => e = .returned (.bool (belowV n s)) ∧ w = w' := by
  have H : Hid (belowV n s = (decide (0 ≤ n) && decide (n < s))) := Lib.hid rfl
  by_cases h1 : 0 ≤ n
  · by_cases h2 : n < s
    · go_enter Tryd.func22, Tryd.ntmps22
      go_wp2
      go_ret
      exact ⟨by rw [H.out]; simp [h1, h2], rfl⟩
    · go_enter Tryd.func22, Tryd.ntmps22
      go_wp2
      go_ret
      exact ⟨by rw [H.out]; simp [h2], rfl⟩
  · have H2 := Lib.hid (show belowV n s = false by unfold belowV; rw [decide_eq_false h1]; rfl)
    go_enter Tryd.func22, Tryd.ntmps22
    go_wp2
    go_ret
    exact ⟨by rw [H2.out]; rfl, rfl⟩
theorem kBelow_yes {n s : Int} (h0 : 0 ≤ n) (h1 : n < s) (w : World) : Calls Tryd.prog 22 #[.int .i64 n, .int .i64 s] w fun e w' => e = .returned (.bool true) ∧ w = w' := by
  have h := kBelow_any n s w
  unfold belowV at h
  rw [decide_eq_true h0, decide_eq_true h1] at h
  exact h
theorem kBelow_no {n s : Int} (h : ¬ (0 ≤ n ∧ n < s)) (w : World) : Calls Tryd.prog 22 #[.int .i64 n, .int .i64 s] w fun e w' => e = .returned (.bool false) ∧ w = w' := by
  have h2 := kBelow_any n s w
  have h3 : belowV n s = false := by
    unfold belowV
    cases hd : decide (0 ≤ n) <;> cases he : decide (n < s) <;> first | rfl | exact absurd ⟨of_decide_eq_true hd, of_decide_eq_true he⟩ h
  rw [h3] at h2
  exact h2
theorem kMay_any (op l key pa pb hd r : Int) (w : World) : Calls Tryd.prog 8 #[(.agg #[.int .i64 op, .int .i64 l, .int .i64 key, .int .u64 pa, .int .u64 pb, .int .u64 hd, .int .i64 r])] w fun e w' => e = .returned (.bool (mayC op l r)) ∧ Below w.heap.size w w' := by
  by_cases h1 : 0 ≤ op ∧ op ≤ 12
  · have C1 := Lib.hid (fun W => kBelow_yes (n := op) (s := 13) h1.1 (by omega) W)
    by_cases h2 : 0 ≤ l ∧ l ≤ 3
    · have C2 := Lib.hid (fun W => kBelow_yes (n := l) (s := 4) h2.1 (by omega) W)
      by_cases h3 : 0 ≤ r ∧ r ≤ 40
      · have C3 := Lib.hid (fun W => kBelow_yes (n := r) (s := 41) h3.1 (by omega) W)
        have H := Lib.hid (mayC_yes h1.1 h1.2 h2.1 h2.2 h3.1 h3.2)
        clear h1 h2 h3
        go_enter Tryd.func8, Tryd.ntmps8
        go_upto_region 1 with fail
        generalize hW : World.alloc _ _ = W
        have u0 : W.cell? ⟨w.heap.size, 0, none⟩ = some (.int .i64 op) := by rw [← hW]; simp
        have u1 : W.cell? ⟨w.heap.size, 1, none⟩ = some (.int .i64 l) := by rw [← hW]; simp
        have u5 : W.cell? ⟨w.heap.size, 6, none⟩ = some (.int .i64 r) := by rw [← hW]; simp
        have hB : Below w.heap.size w W := by rw [← hW]; exact (Below.refl _ _).alloc (Nat.le_refl _) _
        clear hW
        generalize hz : w.heap.size = a1 at *
        have HZ := Lib.hid hz; clear hz
        have HB := Lib.hid hB; clear hB
        go_wp2_with (first | (with_reducible refine (C1.out _).mono ?_; rintro e w' ⟨rfl, rfl⟩) | (with_reducible refine (C2.out _).mono ?_; rintro e w' ⟨rfl, rfl⟩) | (with_reducible refine (C3.out _).mono ?_; rintro e w' ⟨rfl, rfl⟩))
        go_ret
        exact ⟨by rw [H.out]; rfl, by rw [HZ.out]; exact HB.out⟩
      · have C3 := Lib.hid (fun W => kBelow_no (n := r) (s := 41) (by omega) W)
        have H := Lib.hid (mayC_no (op := op) (l := l) (r := r) (fun h => h3 h.2.2.2.2))
        clear h1 h2 h3
        go_enter Tryd.func8, Tryd.ntmps8
        go_upto_region 1 with fail
        generalize hW : World.alloc _ _ = W
        have u0 : W.cell? ⟨w.heap.size, 0, none⟩ = some (.int .i64 op) := by rw [← hW]; simp
        have u1 : W.cell? ⟨w.heap.size, 1, none⟩ = some (.int .i64 l) := by rw [← hW]; simp
        have u5 : W.cell? ⟨w.heap.size, 6, none⟩ = some (.int .i64 r) := by rw [← hW]; simp
        have hB : Below w.heap.size w W := by rw [← hW]; exact (Below.refl _ _).alloc (Nat.le_refl _) _
        clear hW
        generalize hz : w.heap.size = a1 at *
        have HZ := Lib.hid hz; clear hz
        have HB := Lib.hid hB; clear hB
        go_wp2_with (first | (with_reducible refine (C1.out _).mono ?_; rintro e w' ⟨rfl, rfl⟩) | (with_reducible refine (C2.out _).mono ?_; rintro e w' ⟨rfl, rfl⟩) | (with_reducible refine (C3.out _).mono ?_; rintro e w' ⟨rfl, rfl⟩))
        go_ret
        exact ⟨by rw [H.out]; rfl, by rw [HZ.out]; exact HB.out⟩
    · have C2 := Lib.hid (fun W => kBelow_no (n := l) (s := 4) (by omega) W)
      have H := Lib.hid (mayC_no (op := op) (l := l) (r := r) (fun h => h2 ⟨h.2.2.1, h.2.2.2.1⟩))
      clear h1 h2
      go_enter Tryd.func8, Tryd.ntmps8
      go_upto_region 1 with fail
      generalize hW : World.alloc _ _ = W
      have u0 : W.cell? ⟨w.heap.size, 0, none⟩ = some (.int .i64 op) := by rw [← hW]; simp
      have u1 : W.cell? ⟨w.heap.size, 1, none⟩ = some (.int .i64 l) := by rw [← hW]; simp
      have u5 : W.cell? ⟨w.heap.size, 6, none⟩ = some (.int .i64 r) := by rw [← hW]; simp
      have hB : Below w.heap.size w W := by rw [← hW]; exact (Below.refl _ _).alloc (Nat.le_refl _) _
      clear hW
      generalize hz : w.heap.size = a1 at *
      have HZ := Lib.hid hz; clear hz
      have HB := Lib.hid hB; clear hB
      go_wp2_with (first | (with_reducible refine (C1.out _).mono ?_; rintro e w' ⟨rfl, rfl⟩) | (with_reducible refine (C2.out _).mono ?_; rintro e w' ⟨rfl, rfl⟩))
      go_ret
      exact ⟨by rw [H.out]; rfl, by rw [HZ.out]; exact HB.out⟩
  · have C1 := Lib.hid (fun W => kBelow_no (n := op) (s := 13) (by omega) W)
    have H := Lib.hid (mayC_no (op := op) (l := l) (r := r) (fun h => h1 ⟨h.1, h.2.1⟩))
    clear h1
    go_enter Tryd.func8, Tryd.ntmps8
    go_upto_region 1 with fail
    generalize hW : World.alloc _ _ = W
    have u0 : W.cell? ⟨w.heap.size, 0, none⟩ = some (.int .i64 op) := by rw [← hW]; simp
    have u1 : W.cell? ⟨w.heap.size, 1, none⟩ = some (.int .i64 l) := by rw [← hW]; simp
    have u5 : W.cell? ⟨w.heap.size, 6, none⟩ = some (.int .i64 r) := by rw [← hW]; simp
    have hB : Below w.heap.size w W := by rw [← hW]; exact (Below.refl _ _).alloc (Nat.le_refl _) _
    clear hW
    generalize hz : w.heap.size = a1 at *
    have HZ := Lib.hid hz; clear hz
    have HB := Lib.hid hB; clear hB
    go_wp2_with (with_reducible refine (C1.out _).mono ?_; rintro e w' ⟨rfl, rfl⟩)
    go_ret
    exact ⟨by rw [H.out]; rfl, by rw [HZ.out]; exact HB.out⟩
theorem r9May_any (op l key pa pb hd r : Int) (w : World) : Calls Tryd.prog 9 #[(.agg #[.int .i64 op, .int .i64 l, .int .i64 key, .int .u64 pa, .int .u64 pb, .int .u64 hd, .int .i64 r])] w fun e w' => e = .returned (.bool (mayC op l r)) ∧ Below w.heap.size w w' := by
  have HN := Lib.hid (mayC_no (op := op) (l := l) (r := r))
  have HY := Lib.hid (mayC_yes (op := op) (l := l) (r := r))
  go_enter Tryd.func9, Tryd.ntmps9
  go_upto_region 1 with fail
  generalize hW : World.alloc _ _ = W
  have u0 : W.cell? ⟨w.heap.size, 0, none⟩ = some (.int .i64 op) := by rw [← hW]; simp
  have u1 : W.cell? ⟨w.heap.size, 1, none⟩ = some (.int .i64 l) := by rw [← hW]; simp
  have u5 : W.cell? ⟨w.heap.size, 6, none⟩ = some (.int .i64 r) := by rw [← hW]; simp
  have hB : Below w.heap.size w W := by rw [← hW]; exact (Below.refl _ _).alloc (Nat.le_refl _) _
  clear hW
  generalize hz : w.heap.size = a1 at *
  have HZ := Lib.hid hz; clear hz
  have HB := Lib.hid hB; clear hB
  by_cases h1 : 0 ≤ op
  · by_cases h2 : op ≤ 12
    · by_cases h3 : 0 ≤ l
      · by_cases h4 : l ≤ 3
        · by_cases h5 : 0 ≤ r
          · by_cases h6 : r ≤ 40
            · have H := Lib.hid (HY.out h1 h2 h3 h4 h5 h6)
              go_wp2_with fail
              go_ret
              exact ⟨by rw [H.out]; rfl, by rw [HZ.out]; exact HB.out⟩
            · have H := Lib.hid (HN.out (fun h => h6 h.2.2.2.2.2))
              go_wp2_with fail
              go_ret
              exact ⟨by rw [H.out]; rfl, by rw [HZ.out]; exact HB.out⟩
          · have H := Lib.hid (HN.out (fun h => h5 h.2.2.2.2.1))
            go_wp2_with fail
            go_ret
            exact ⟨by rw [H.out]; rfl, by rw [HZ.out]; exact HB.out⟩
        · have H := Lib.hid (HN.out (fun h => h4 h.2.2.2.1))
          go_wp2_with fail
          go_ret
          exact ⟨by rw [H.out]; rfl, by rw [HZ.out]; exact HB.out⟩
      · have H := Lib.hid (HN.out (fun h => h3 h.2.2.1))
        go_wp2_with fail
        go_ret
        exact ⟨by rw [H.out]; rfl, by rw [HZ.out]; exact HB.out⟩
    · have H := Lib.hid (HN.out (fun h => h2 h.2.1))
      go_wp2_with fail
      go_ret
      exact ⟨by rw [H.out]; rfl, by rw [HZ.out]; exact HB.out⟩
  · have H := Lib.hid (HN.out (fun h => h1 h.1))
    go_wp2_with fail
    go_ret
    exact ⟨by rw [H.out]; rfl, by rw [HZ.out]; exact HB.out⟩

/-- The ops are thirteen. -/
theorem ops13 {op : Int} (h0 : 0 ≤ op) (h1 : op ≤ 12) : op = 0 ∨ op = 1 ∨ op = 2 ∨ op = 3 ∨ op = 4 ∨ op = 5 ∨ op = 6 ∨ op = 7 ∨ op = 8 ∨ op = 9 ∨ op = 10 ∨ op = 11 ∨ op = 12 := by omega
def looksB (op : Int) : Bool := op == 1 || (op == 4 || (op == 8 || op == 10))
def partN (op : Int) : Int := bif decide (op < 0) || decide (11 < op) then -1 else Int.tdiv op 3
theorem kLooks_any (op : Int) (w : World) : Calls Tryd.prog 11 #[.int .i64 op] w fun e w' => e = .returned (.bool (looksB op)) ∧ w = w' := by
  by_cases hop : op = 1 ∨ op = 4 ∨ op = 8 ∨ op = 10
  · rcases hop with rfl | rfl | rfl | rfl
    all_goals (go_enter Tryd.func11, Tryd.ntmps11; go_wp2; go_ret; exact ⟨rfl, rfl⟩)
  · have H : Hid (looksB op = false) := Lib.hid (by unfold looksB; simp; omega)
    have e1 : (op == 1) = false := by simp; omega
    have e2 : (op == 4) = false := by simp; omega
    have e3 : (op == 8) = false := by simp; omega
    have e4 : (op == 10) = false := by simp; omega
    clear hop
    go_enter Tryd.func11, Tryd.ntmps11
    go_wp2
    go_ret
    exact ⟨by rw [H.out]; rfl, rfl⟩
theorem r9Looks_any (op : Int) (w : World) : Calls Tryd.prog 12 #[.int .i64 op] w fun e w' => e = .returned (.bool (looksB op)) ∧ w = w' := by
  by_cases hop : op = 1 ∨ op = 4 ∨ op = 8 ∨ op = 10
  · rcases hop with rfl | rfl | rfl | rfl
    all_goals (go_enter Tryd.func12, Tryd.ntmps12; go_wp2; go_ret; exact ⟨rfl, rfl⟩)
  · have H : Hid (looksB op = false) := Lib.hid (by unfold looksB; simp; omega)
    have e1 : (op == 1) = false := by simp; omega
    have e2 : (op == 4) = false := by simp; omega
    have e3 : (op == 8) = false := by simp; omega
    have e4 : (op == 10) = false := by simp; omega
    clear hop
    go_enter Tryd.func12, Tryd.ntmps12
    go_wp2
    go_ret
    exact ⟨by rw [H.out]; rfl, rfl⟩
theorem kPart_any (op : Int) (w : World) : Calls Tryd.prog 13 #[.int .i64 op] w fun e w' => e = .returned (.int .i64 (partN op)) ∧ w = w' := by
  by_cases hop : 0 ≤ op ∧ op ≤ 12
  · rcases ops13 hop.1 hop.2 with rfl | rfl | rfl | rfl | rfl | rfl | rfl | rfl | rfl | rfl | rfl | rfl | rfl
    all_goals (clear hop; go_enter Tryd.func13, Tryd.ntmps13; go_wp2; go_ret; exact ⟨rfl, rfl⟩)
  · have H : Hid (partN op = -1) := Lib.hid (by
      unfold partN
      rcases Int.lt_or_le op 0 with h | h
      · rw [decide_eq_true h]; rfl
      · rw [decide_eq_true (show 11 < op by omega), Bool.or_true]; rfl)
    have e0 : (op == 0) = false := by simp; omega
    have e1 : (op == 1) = false := by simp; omega
    have e2 : (op == 2) = false := by simp; omega
    have e3 : (op == 3) = false := by simp; omega
    have e4 : (op == 4) = false := by simp; omega
    have e5 : (op == 5) = false := by simp; omega
    have e6 : (op == 6) = false := by simp; omega
    have e7 : (op == 7) = false := by simp; omega
    have e8 : (op == 8) = false := by simp; omega
    have e9 : (op == 9) = false := by simp; omega
    have e10 : (op == 10) = false := by simp; omega
    have e11 : (op == 11) = false := by simp; omega
    clear hop
    go_enter Tryd.func13, Tryd.ntmps13
    go_wp2
    go_ret
    exact ⟨by rw [H.out]; rfl, rfl⟩
theorem r9Part_any (op : Int) (b : -9223372036854775808 ≤ op ∧ op ≤ 9223372036854775807) (w : World) : Calls Tryd.prog 14 #[.int .i64 op] w fun e w' => e = .returned (.int .i64 (partN op)) ∧ w = w' := by
  by_cases hn : op < 0
  · have H : Hid (partN op = -1) := Lib.hid (by unfold partN; rw [decide_eq_true hn]; rfl)
    go_enter Tryd.func14, Tryd.ntmps14
    go_wp2
    go_ret
    exact ⟨by rw [H.out]; rfl, rfl⟩
  · by_cases hg : 11 < op
    · have H : Hid (partN op = -1) := Lib.hid (by unfold partN; rw [decide_eq_true hg, Bool.or_true]; rfl)
      go_enter Tryd.func14, Tryd.ntmps14
      go_wp2
      go_ret
      exact ⟨by rw [H.out]; rfl, rfl⟩
    · rcases ops13 (op := op) (by omega) (by omega) with rfl | rfl | rfl | rfl | rfl | rfl | rfl | rfl | rfl | rfl | rfl | rfl | rfl
      all_goals first | (exfalso; omega) | (clear hn hg; go_enter Tryd.func14, Tryd.ntmps14; go_wp2; go_ret; exact ⟨rfl, rfl⟩)
end Go.Proofs.YthhheeocanbkiaaDoor
