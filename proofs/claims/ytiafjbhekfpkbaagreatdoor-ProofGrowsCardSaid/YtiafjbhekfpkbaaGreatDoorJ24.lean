/- The document's answers of layer 4 (burnbagref04): whether a configuration may be, and each thread's level. · Lists of threads, as package conf and the document's answer give them. · What the other functions of package conf answer, and the document's answers of layer 4. · Why a thread may not call: the code (call.policy). · call.Policy where nothing is against the call; fail.Code of no error; (means.place).refuses then. · slices.BinarySearch at []uint64. · Package means: the handles that were ever told: wasTold. · Package means: a place: isBelow, mayLeave. · Package means: bare. -/
import Derived.Test.YtiafjbhekfpkbaaGreatDoorJ22
import Derived.Test.YtiafjbhekfpkbaaGreatDoorJ23
import Derived.OwnWalk
import Derived.Test.YtiafjbhekfpkbaaGreatDoorJ13
import Derived.Test.YtiafjbhekfpkbaaGreatDoorJ21
import Derived.Deep.RegionHeld3
import Derived.Test.YtiafjbhekfpkbaaGreatDoorJ6
import Derived.Test.YtiafjbhekfpkbaaGreatDoorJ17
import Derived.WalkKit
import Derived.Deep.LoopGhost
import Derived.Deep.Draws
import Derived.Lib.Walk
import Derived.Lib.SlicesSearch
import Derived.Test.YtiafjbhekfpkbaaGreatDoorJ20
import Derived.Deep.MidRow
namespace Go.Proofs.YtiafjbhekfpkbaaGreatDoor
set_option linter.unusedSimpArgs false
set_option linter.unusedVariables false
open Go.ChangeShapes Go.WideShapes Go.ChangeAt Go.RowKit

/-- Thread i's place in the array is as it may be. -/
def okT (c : Nat → Int) (i : Nat) : Bool := if c 1 ≤ (i : Int) then decide (c (2 + i) = 0) && decide (0 < c 0) else decide (0 ≤ c (2 + i)) && decide (c (2 + i) < c 0)
def okTo (c : Nat → Int) (k : Nat) : Bool := (List.range k).all (okT c)
theorem okTo_iff {c : Nat → Int} {k : Nat} : okTo c k = true ↔ ∀ i, i < k → okT c i = true := by simp [okTo]

/-- The document's test, and the code's, are one. -/
theorem may_same (c : Nat → Int) : mayB c = (decide (1 ≤ c 0 ∧ c 0 ≤ 4 ∧ 1 ≤ c 1 ∧ c 1 ≤ 8) && okTo c 8 && decide (2 ≤ c 10 ∧ c 10 ≤ 60 ∧ 1 ≤ c 11 ∧ c 11 ≤ 40) && decide (1 ≤ c 12 ∧ c 12 ≤ 1048576 ∧ 0 ≤ c 13 ∧ c 13 ≤ 60)) := by
  by_cases h : 1 ≤ c 0 ∧ c 0 ≤ 4 ∧ 1 ≤ c 1 ∧ c 1 ≤ 8
  · have e : fitsB c = okTo c 8 := by
      rw [Bool.eq_iff_iff, okTo_iff]
      unfold fitsB
      rw [eqI_iff]
      refine forall_congr' fun i => forall_congr' fun hi => ?_
      by_cases h2 : (i : Int) < c 1
      · have e1 : fitN c i = clamp (c (2 + i)) (c 0 - 1) := if_pos h2
        have e2 : okT c i = (decide (0 ≤ c (2 + i)) && decide (c (2 + i) < c 0)) := if_neg (by omega)
        rw [e1, e2]
        simp only [Bool.and_eq_true, decide_eq_true_eq]
        unfold clamp
        generalize c (2 + i) = x
        repeat' split
        all_goals omega
      · have e1 : fitN c i = 0 := if_neg h2
        have e2 : okT c i = (decide (c (2 + i) = 0) && decide (0 < c 0)) := if_pos (by omega)
        rw [e1, e2]
        simp only [Bool.and_eq_true, decide_eq_true_eq]
        omega
    unfold mayB withinB
    rw [e, Bool.eq_iff_iff]
    simp only [Bool.and_eq_true, decide_eq_true_eq]
    by_cases hp : okTo c 8 = true
    · simp only [hp, and_true]; omega
    · simp only [hp, and_false, false_and, Bool.false_eq_true]
  · unfold mayB withinB
    rw [Bool.eq_iff_iff]
    simp only [Bool.and_eq_true, decide_eq_true_eq]
    constructor
    · intro h2; exact absurd ⟨by omega, by omega, by omega, by omega⟩ h
    · intro h2; exact absurd h2.1.1.1 h
theorem may_bounds {c : Nat → Int} (h : mayB c = true) : (1 ≤ c 0 ∧ c 0 ≤ 4) ∧ (1 ≤ c 1 ∧ c 1 ≤ 8) ∧ (∀ i, i < 8 → okT c i = true) ∧ (2 ≤ c 10 ∧ c 10 ≤ 60) ∧ (1 ≤ c 11 ∧ c 11 ≤ 40) ∧ (1 ≤ c 12 ∧ c 12 ≤ 1048576) ∧ (0 ≤ c 13 ∧ c 13 ≤ 60) := by
  rw [may_same] at h
  simp only [Bool.and_eq_true, decide_eq_true_eq] at h
  obtain ⟨⟨⟨h1, h2⟩, h3⟩, h4⟩ := h
  exact ⟨⟨h1.1, h1.2.1⟩, h1.2.2, okTo_iff.1 h2, ⟨h3.1, h3.2.1⟩, h3.2.2, ⟨h4.1, h4.2.1⟩, h4.2.2⟩

/-- A thread's level; -1 where there is none. -/
def lvl (c : Nat → Int) (t : Int) : Int := if mayB c = true ∧ 0 ≤ t ∧ t < c 1 then c (2 + t.toNat) else -1
theorem lvl_yes {c : Nat → Int} {t : Int} (h : mayB c = true) (h0 : 0 ≤ t) (h1 : t < c 1) : lvl c t = c (2 + t.toNat) := if_pos ⟨h, h0, h1⟩
theorem lvl_no {c : Nat → Int} {t : Int} (h : ¬ (mayB c = true ∧ 0 ≤ t ∧ t < c 1)) : lvl c t = -1 := if_neg h
theorem lvl_bounds (c : Nat → Int) (t : Int) : (lvl c t = -1 ∧ ¬ (mayB c = true ∧ 0 ≤ t ∧ t < c 1)) ∨ (0 ≤ lvl c t ∧ lvl c t < c 0 ∧ lvl c t < 4 ∧ mayB c = true ∧ 0 ≤ t ∧ t < c 1 ∧ lvl c t = c (2 + t.toNat)) := by
  by_cases h : mayB c = true ∧ 0 ≤ t ∧ t < c 1
  · right
    obtain ⟨h, h0, h1⟩ := h
    obtain ⟨b0, b1, b2, _⟩ := may_bounds h
    have := b2 t.toNat (by omega)
    unfold okT at this
    rw [if_neg (by omega)] at this
    simp only [Bool.and_eq_true, decide_eq_true_eq] at this
    rw [lvl_yes h h0 h1]
    exact ⟨this.1, this.2, by omega, h, h0, h1, rfl⟩
  · exact .inl ⟨lvl_no h, h⟩

theorem okTo_no {c : Nat → Int} {k : Nat} (hk : k < 8) (h : okT c k = false) : okTo c 8 = false := by
  rw [Bool.eq_false_iff]
  intro h2
  rw [okTo_iff.1 h2 k hk] at h
  cases h
theorem okTo_succ {c : Nat → Int} {k : Nat} (h : okTo c k = true) (h2 : okT c k = true) : okTo c (k + 1) = true := by
  rw [okTo_iff] at h ⊢
  intro i hi
  rcases Nat.lt_or_ge i k with h3 | h3
  · exact h i h3
  · obtain rfl : i = k := by omega
    exact h2

end Go.Proofs.YtiafjbhekfpkbaaGreatDoor
namespace Go.Proofs.YtiafjbhekfpkbaaGreatDoor
set_option linter.unusedSimpArgs false
set_option linter.unusedVariables false
open Go.ChangeShapes Go.WideShapes Go.ChangeAt Go.RowKit

/-- What is told is a slice of these numbers; nothing that was there has turned. -/
def GivesInts (w : World) (l : List Int) (e : Ending) (w' : World) : Prop := ∃ A cap, e = .returned (.slice A l.length cap) ∧ RowIs w' A l.length (fun i => .int .i64 (l.getD i 0)) ∧ Below w.heap.size w w'
theorem own_row {w : World} {base : Nat} {e : TypeId} {v : Value} {l : List Int} (h : w.ownsRow base e 1 v l.length (l.map (Value.int .i64))) : ∃ A cap, v = .slice A l.length cap ∧ RowIs w A l.length (fun i => .int .i64 (l.getD i 0)) := by
  rcases h.2 with ⟨rfl, h0⟩ | ⟨g, cap, cur, rfl, hb, hh, _⟩
  · rw [h0]
    exact ⟨none, 0, rfl, RowIs.none_ _ _ _⟩
  · refine ⟨_, cap, rfl, fun hn => ⟨g, 0, rfl, ?_, fun i hi => ?_⟩⟩
    · rcases Nat.lt_or_ge g w.heap.size with hlt | hge
      · exact hlt
      · rw [Array.getElem?_eq_none hge] at hh; cases hh
    · rw [Nat.zero_add, h.cellAt i (by omega)]
      simp [List.getD, hi]

/-- The first k threads whose number in the array is from lo to hi. -/
def thr (c : Nat → Int) (lo hi : Int) (k : Nat) : List Int := ((List.range k).filter fun t => withinB (c (2 + t)) lo hi).map Int.ofNat
theorem thr_succ (c : Nat → Int) (lo hi : Int) (k : Nat) : thr c lo hi (k + 1) = thr c lo hi k ++ if withinB (c (2 + k)) lo hi = true then [(k : Int)] else [] := by
  unfold thr
  rw [List.range_succ, List.filter_append, List.map_append]
  congr 1
  by_cases h : withinB (c (2 + k)) lo hi = true
  · rw [if_pos h]; simp [h]
  · rw [if_neg h]; simp [h]
theorem thr_len (c : Nat → Int) (lo hi : Int) (k : Nat) : (thr c lo hi k).length ≤ k := by
  unfold thr
  rw [List.length_map]
  exact Nat.le_trans (List.length_filter_le ..) (by simp)
def thrs (c : Nat → Int) (lo hi : Int) : List Int := if mayB c = true then thr c lo hi (c 1).toNat else []

theorem int_info : (Tryz.prog.info? 3).map (fun i => (i.zero, i.size, i.bytes)) = some (some (.int .i64 0), 1, 8) := by kernel_rfl

end Go.Proofs.YtiafjbhekfpkbaaGreatDoor
namespace Go.Proofs.YtiafjbhekfpkbaaGreatDoor
set_option linter.unusedSimpArgs false
set_option linter.unusedVariables false
open Go.ChangeShapes Go.WideShapes Go.ChangeAt Go.RowKit

theorem GivesInts.more {w w1 w' : World} {l : List Int} {e : Ending} (h : GivesInts w1 l e w') {a1 : Nat} (ha : w.heap.size = a1) (hb : Below a1 w w1) : GivesInts w l e w' := by
  obtain ⟨A, cap, h1, h2, h3⟩ := h
  exact ⟨A, cap, h1, h2, by rw [ha]; exact below_on hb (Nat.le_of_eq ha.symm) h3⟩

set_option maxRecDepth 100000 in
theorem cLevel_any (c : Nat → Int) (hc : Ok64 c) (t : Int) (ht : -9223372036854775808 ≤ t ∧ t ≤ 9223372036854775807) (w : World) :
    Calls Tryz.prog 85 #[.agg (rowOf 14 (ints c)), .int .i64 t] w fun e w' => e = .returned (.int .i64 (lvl c t)) ∧ Below w.heap.size w w' := by
  have f14 := fold14 c
  have cM := Lib.hid (cMay_any c hc)
  go_enter Tryz.func85, Tryz.ntmps85
  go_upto_region 1 with fail
  generalize hW : World.alloc _ _ = W
  have hr : Row W w.heap.size 43 14 (ints c) := by rw [← hW]; exact Row.new _ _ _ _ _ rfl
  have hB : Below w.heap.size w W := by rw [← hW]; exact (Below.refl _ _).alloc (Nat.le_refl _) _
  clear hW
  generalize hz : w.heap.size = a1 at *
  have HZ := Lib.hid hz; clear hz
  obtain ⟨u0, u1, u2, u3, u4, u5, u6, u7, u8, u9, u10, u11, u12, u13⟩ := conf_cells hr
  go_wp2_with fail
  refine (cM.out _).mono ?_; rintro e W1 ⟨rfl, hb1⟩
  have hr1 := hr.keep hb1
  have hB1 := below_on hB (Nat.le_of_eq HZ.out.symm) hb1
  clear u0 u1 u2 u3 u4 u5 u6 u7 u8 u9 u10 u11 u12 u13
  clear f14 cM hb1 hr hB
  obtain ⟨-, u1, -⟩ := conf_cells hr1
  cases hm : mayB c
  · have H := Lib.hid (lvl_no (c := c) (t := t) (by rw [hm]; simp))
    go_wp2_with fail
    go_ret
    exact ⟨by rw [H.out]; rfl, by rw [HZ.out]; exact hB1⟩
  · obtain ⟨-, b1, -⟩ := may_bounds hm
    by_cases h2 : 0 ≤ t ∧ t < c 1
    · have H := Lib.hid (lvl_yes hm h2.1 h2.2)
      have H2 : Hid (withinB t 0 (c 1 - 1) = true) := Lib.hid (by simp [withinB]; omega)
      have uk : W1.cell? ⟨a1, 2 + t.toNat, none⟩ = some (.int .i64 (c (2 + t.toNat))) := hr1.cell (i := 2 + t.toNat) (by omega)
      go_wp2_with ((go_at_call 111; refine (cWithin_any _ _ _ _).mono ?_; rintro e w' ⟨rfl, rfl⟩); rw [H2.out])
      go_ret
      exact ⟨by rw [H.out]; rfl, by rw [HZ.out]; exact hB1⟩
    · have H := Lib.hid (lvl_no (c := c) (t := t) (fun h => h2 h.2))
      have H2 : Hid (withinB t 0 (c 1 - 1) = false) := Lib.hid (by simp [withinB]; omega)
      go_wp2_with ((go_at_call 111; refine (cWithin_any _ _ _ _).mono ?_; rintro e w' ⟨rfl, rfl⟩); rw [H2.out])
      go_ret
      exact ⟨by rw [H.out]; rfl, by rw [HZ.out]; exact hB1⟩

def writesB (c : Nat → Int) (t l : Int) : Bool := decide (0 ≤ l) && (l == lvl c t)
def readsB (c : Nat → Int) (t l : Int) : Bool := withinB l 0 (lvl c t)
theorem writesB_eq (c : Nat → Int) (t l : Int) : writesB c t l = (decide (0 ≤ lvl c t) && (lvl c t == l)) := by
  unfold writesB
  rw [Bool.eq_iff_iff]
  simp
  omega
theorem readsB_eq (c : Nat → Int) (t l : Int) : readsB c t l = (decide (0 ≤ l) && decide (l ≤ lvl c t)) := rfl

set_option maxRecDepth 100000 in
theorem cWrites_any (c : Nat → Int) (hc : Ok64 c) (t l : Int) (ht : -9223372036854775808 ≤ t ∧ t ≤ 9223372036854775807) (w : World) :
    Calls Tryz.prog 107 #[.agg (rowOf 14 (ints c)), .int .i64 t, .int .i64 l] w fun e w' => e = .returned (.bool (writesB c t l)) ∧ Below w.heap.size w w' := by
  have f14 := fold14 c
  have cL := Lib.hid (cLevel_any c hc t ht)
  have H : Hid (writesB c t l = (decide (0 ≤ l) && (l == lvl c t))) := Lib.hid rfl
  generalize lvl c t = n at *
  by_cases hl : 0 ≤ l
  · rw [decide_eq_true hl, Bool.true_and] at H
    go_enter Tryz.func107, Tryz.ntmps107
    go_upto_region 1 with fail
    generalize hW : World.alloc _ _ = W
    have hr : Row W w.heap.size 43 14 (ints c) := by rw [← hW]; exact Row.new _ _ _ _ _ rfl
    have hB : Below w.heap.size w W := by rw [← hW]; exact (Below.refl _ _).alloc (Nat.le_refl _) _
    clear hW
    generalize hz : w.heap.size = a1 at *
    have HZ := Lib.hid hz; clear hz
    obtain ⟨u0, u1, u2, u3, u4, u5, u6, u7, u8, u9, u10, u11, u12, u13⟩ := conf_cells hr
    go_wp2_with fail
    refine (cL.out _).mono ?_; rintro e W1 ⟨rfl, hb1⟩
    have hB1 := below_on hB (Nat.le_of_eq HZ.out.symm) hb1
    clear u0 u1 u2 u3 u4 u5 u6 u7 u8 u9 u10 u11 u12 u13
    clear f14 cL hb1 hr hB
    go_wp2_with fail
    go_ret
    exact ⟨by rw [H.out]; rfl, by rw [HZ.out]; exact hB1⟩
  · rw [decide_eq_false hl, Bool.false_and] at H
    go_enter Tryz.func107, Tryz.ntmps107
    go_upto_region 1 with fail
    generalize hW : World.alloc _ _ = W
    have hr : Row W w.heap.size 43 14 (ints c) := by rw [← hW]; exact Row.new _ _ _ _ _ rfl
    have hB : Below w.heap.size w W := by rw [← hW]; exact (Below.refl _ _).alloc (Nat.le_refl _) _
    clear hW
    generalize hz : w.heap.size = a1 at *
    have HZ := Lib.hid hz; clear hz
    obtain ⟨u0, u1, u2, u3, u4, u5, u6, u7, u8, u9, u10, u11, u12, u13⟩ := conf_cells hr
    go_wp2_with fail
    go_ret
    exact ⟨by rw [H.out]; rfl, by rw [HZ.out]; exact hB⟩
set_option maxRecDepth 100000 in
theorem cReads_any (c : Nat → Int) (hc : Ok64 c) (t l : Int) (ht : -9223372036854775808 ≤ t ∧ t ≤ 9223372036854775807) (w : World) :
    Calls Tryz.prog 109 #[.agg (rowOf 14 (ints c)), .int .i64 t, .int .i64 l] w fun e w' => e = .returned (.bool (readsB c t l)) ∧ Below w.heap.size w w' := by
  have f14 := fold14 c
  have cL := Lib.hid (cLevel_any c hc t ht)
  have H : Hid (readsB c t l = withinB l 0 (lvl c t)) := Lib.hid rfl
  generalize lvl c t = n at *
  go_enter Tryz.func109, Tryz.ntmps109
  go_upto_region 1 with fail
  generalize hW : World.alloc _ _ = W
  have hr : Row W w.heap.size 43 14 (ints c) := by rw [← hW]; exact Row.new _ _ _ _ _ rfl
  have hB : Below w.heap.size w W := by rw [← hW]; exact (Below.refl _ _).alloc (Nat.le_refl _) _
  clear hW
  generalize hz : w.heap.size = a1 at *
  have HZ := Lib.hid hz; clear hz
  obtain ⟨u0, u1, u2, u3, u4, u5, u6, u7, u8, u9, u10, u11, u12, u13⟩ := conf_cells hr
  go_wp2_with fail
  refine (cL.out _).mono ?_; rintro e W1 ⟨rfl, hb1⟩
  have hB1 := below_on hB (Nat.le_of_eq HZ.out.symm) hb1
  clear u0 u1 u2 u3 u4 u5 u6 u7 u8 u9 u10 u11 u12 u13
  clear f14 cL hb1 hr hB
  go_wp2_with (go_at_call 111; refine (cWithin_any _ _ _ _).mono ?_; rintro e w' ⟨rfl, rfl⟩)
  go_ret
  exact ⟨by rw [H.out]; rfl, by rw [HZ.out]; exact hB1⟩
end Go.Proofs.YtiafjbhekfpkbaaGreatDoor
namespace Go.Proofs.YtiafjbhekfpkbaaGreatDoor
set_option linter.unusedSimpArgs false
set_option linter.unusedVariables false
set_option linter.unusedSimpArgs false
open Go.ChangeShapes Go.WideShapes Go.ChangeAt Go.RowKit

/-- The code of why a thread may not call. -/
def policyN (c : Nat → Int) (t op l r : Int) : Int := bif !(mayC op l r) || decide (lvl c t < 0) then 14 else bif writesB c t l || (looksB op && readsB c t l) then 0 else 12
theorem policyN_ok (c : Nat → Int) (t op l r : Int) : -9223372036854775808 ≤ policyN c t op l r ∧ policyN c t op l r ≤ 9223372036854775807 := by
  unfold policyN
  cases (!(mayC op l r) || decide (lvl c t < 0)) <;> cases (writesB c t l || (looksB op && readsB c t l)) <;> exact ⟨by decide, by decide⟩
theorem conf_call_new (c : Nat → Int) (op l key pa pb hd r : Int) (t u : TypeId) (w : World) : ∀ W, (w.alloc (.cells (rowOf 14 (ints c)) t)).alloc (.cells (callC op l key pa pb hd r) u) = W → Below w.heap.size w W ∧ Row W w.heap.size t 14 (ints c) ∧ CallIs W (w.heap.size + 1) op l key pa pb hd r := by
  rintro W rfl
  refine ⟨((Below.refl _ _).alloc (Nat.le_refl _) _).alloc (by simp) _, (Row.new w _ _ _ _ rfl).alloc _, ?_⟩
  have h := callIs_new op l key pa pb hd r u (w.alloc (.cells (rowOf 14 (ints c)) t))
  simpa using h
set_option maxRecDepth 100000 in
set_option maxHeartbeats 4000000 in
theorem kpolicy_any (c : Nat → Int) (hc : Ok64 c) (t op l key pa pb hd r : Int) (ht : -9223372036854775808 ≤ t ∧ t ≤ 9223372036854775807) (w : World) : Calls Tryz.prog 83 #[.agg (rowOf 14 (ints c)), .int .i64 t, (.agg #[.int .i64 op, .int .i64 l, .int .i64 key, .int .u64 pa, .int .u64 pb, .int .u64 hd, .int .i64 r])] w fun e w' => e = .returned (.int .i64 (policyN c t op l r)) ∧ Below w.heap.size w w' := by
  have f14 := fold14 c
  have C1 := Lib.hid (fun W => kMay_any op l key pa pb hd r W)
  have C2 := Lib.hid (fun W => cLevel_any c hc t ht W)
  have C3 := Lib.hid (fun W => cWrites_any c hc t l ht W)
  have C4 := Lib.hid (fun W => kLooks_any op W)
  have C5 := Lib.hid (fun W => cReads_any c hc t l ht W)
  have H : Hid (policyN c t op l r = bif !(mayC op l r) || decide (lvl c t < 0) then 14 else bif writesB c t l || (looksB op && readsB c t l) then 0 else 12) := Lib.hid rfl
  generalize policyN c t op l r = F at *
  generalize mayC op l r = M at *
  generalize lvl c t = V at *
  generalize writesB c t l = Wr at *
  generalize looksB op = Lk at *
  generalize readsB c t l = Rd at *
  go_enter Tryz.func83, Tryz.ntmps83
  go_upto_region 1 with fail
  generalize hW : World.alloc (World.alloc _ _) _ = W
  obtain ⟨hB, hr, hcl⟩ := conf_call_new c op l key pa pb hd r _ _ w W hW
  clear hW
  generalize hz : w.heap.size = a1 at *
  have HZ := Lib.hid hz; clear hz
  have HB := Lib.hid hB; have HR := Lib.hid hr; have HC := Lib.hid hcl
  obtain ⟨u0, u1, u2, u3, u4, u5, u6, u7, u8, u9, u10, u11, u12, u13⟩ := conf_cells hr
  obtain ⟨v0, v1, v2, v3, v4, v5, v6, v7⟩ := hcl
  clear hB hr
  go_wp2_with fail
  refine (C1.out _).mono ?_; rintro e w1 ⟨rfl, hb⟩
  have hB := below_on HB.out (Nat.le_of_eq HZ.out.symm) hb
  have hr := HR.out.keep hb
  have hcl := HC.out.keep hb
  clear hb HB HR HC u0 u1 u2 u3 u4 u5 u6 u7 u8 u9 u10 u11 u12 u13 v0 v1 v2 v3 v4 v5 v6 v7
  have HB := Lib.hid hB; have HR := Lib.hid hr; have HC := Lib.hid hcl
  obtain ⟨u0, u1, u2, u3, u4, u5, u6, u7, u8, u9, u10, u11, u12, u13⟩ := conf_cells hr
  obtain ⟨v0, v1, v2, v3, v4, v5, v6, v7⟩ := hcl
  clear hB hr
  cases M
  · go_wp2_with fail
    go_ret
    exact ⟨by rw [H.out]; rfl, by rw [HZ.out]; exact HB.out⟩
  go_wp2_with fail
  refine (C2.out _).mono ?_; rintro e w2 ⟨rfl, hb⟩
  have hB := below_on HB.out (Nat.le_of_eq HZ.out.symm) hb
  have hr := HR.out.keep hb
  have hcl := HC.out.keep hb
  clear hb HB HR HC u0 u1 u2 u3 u4 u5 u6 u7 u8 u9 u10 u11 u12 u13 v0 v1 v2 v3 v4 v5 v6 v7
  have HB := Lib.hid hB; have HR := Lib.hid hr; have HC := Lib.hid hcl
  obtain ⟨u0, u1, u2, u3, u4, u5, u6, u7, u8, u9, u10, u11, u12, u13⟩ := conf_cells hr
  obtain ⟨v0, v1, v2, v3, v4, v5, v6, v7⟩ := hcl
  clear hB hr
  by_cases hV : V < 0
  · rw [decide_eq_true hV] at H
    go_wp2_with fail
    go_ret
    exact ⟨by rw [H.out]; rfl, by rw [HZ.out]; exact HB.out⟩
  rw [decide_eq_false hV] at H
  go_wp2_with fail
  refine (C3.out _).mono ?_; rintro e w3 ⟨rfl, hb⟩
  have hB := below_on HB.out (Nat.le_of_eq HZ.out.symm) hb
  have hr := HR.out.keep hb
  have hcl := HC.out.keep hb
  clear hb HB HR HC u0 u1 u2 u3 u4 u5 u6 u7 u8 u9 u10 u11 u12 u13 v0 v1 v2 v3 v4 v5 v6 v7
  have HB := Lib.hid hB; have HR := Lib.hid hr; have HC := Lib.hid hcl
  obtain ⟨u0, u1, u2, u3, u4, u5, u6, u7, u8, u9, u10, u11, u12, u13⟩ := conf_cells hr
  obtain ⟨v0, v1, v2, v3, v4, v5, v6, v7⟩ := hcl
  clear hB hr
  cases Wr
  rotate_left
  · go_wp2_with fail
    go_ret
    exact ⟨by rw [H.out]; rfl, by rw [HZ.out]; exact HB.out⟩
  go_wp2_with fail
  refine (C4.out _).mono ?_; rintro e w4 ⟨rfl, rfl⟩
  cases Lk
  · go_wp2_with fail
    go_ret
    exact ⟨by rw [H.out]; rfl, by rw [HZ.out]; exact HB.out⟩
  go_wp2_with fail
  refine (C5.out _).mono ?_; rintro e w5 ⟨rfl, hb⟩
  have hB := below_on HB.out (Nat.le_of_eq HZ.out.symm) hb
  have hr := HR.out.keep hb
  have hcl := HC.out.keep hb
  clear hb HB HR HC u0 u1 u2 u3 u4 u5 u6 u7 u8 u9 u10 u11 u12 u13 v0 v1 v2 v3 v4 v5 v6 v7
  have HB := Lib.hid hB; have HR := Lib.hid hr; have HC := Lib.hid hcl
  obtain ⟨u0, u1, u2, u3, u4, u5, u6, u7, u8, u9, u10, u11, u12, u13⟩ := conf_cells hr
  obtain ⟨v0, v1, v2, v3, v4, v5, v6, v7⟩ := hcl
  clear hB hr
  cases Rd
  · go_wp2_with fail
    go_ret
    exact ⟨by rw [H.out]; rfl, by rw [HZ.out]; exact HB.out⟩
  · go_wp2_with fail
    go_ret
    exact ⟨by rw [H.out]; rfl, by rw [HZ.out]; exact HB.out⟩
end Go.Proofs.YtiafjbhekfpkbaaGreatDoor
namespace Go.Proofs.YtiafjbhekfpkbaaGreatDoor
set_option linter.unusedSimpArgs false
set_option linter.unusedVariables false
set_option linter.unusedSimpArgs false
set_option linter.unusedVariables false
open Go.ChangeShapes Go.WideShapes Go.ChangeAt Go.RowKit

theorem new_zero0 (t l : Int) (s : ByteArray) (w : World) : Calls Tryz.prog 81 #[.int .i64 t, .int .i64 l, .string s, .int .i64 0] w fun r w' => r = .returned .nilIface ∧ Below w.heap.size w w' := by
  go_enter Tryz.func81, Tryz.ntmps81
  go_wp2
  go_ret
  exact ⟨rfl, Below.refl _ _⟩
theorem code_nil (w : World) : Calls Tryz.prog 65 #[.nilIface] w fun r w' => r = .returned (.int .i64 0) ∧ Below w.heap.size w w' := by
  go_enter Tryz.func65, Tryz.ntmps65
  go_wp2
  go_ret
  exact ⟨rfl, Below.refl _ _⟩
set_option maxRecDepth 100000 in
set_option maxHeartbeats 4000000 in
theorem kPolicy_ok (c : Nat → Int) (hc : Ok64 c) (t op l key pa pb hd r : Int) (ht : -9223372036854775808 ≤ t ∧ t ≤ 9223372036854775807) (hl : -9223372036854775808 ≤ l ∧ l ≤ 9223372036854775807) (h0 : policyN c t op l r = 0) (w : World) :
    Calls Tryz.prog 66 #[.agg (rowOf 14 (ints c)), .int .i64 t, (.agg #[.int .i64 op, .int .i64 l, .int .i64 key, .int .u64 pa, .int .u64 pb, .int .u64 hd, .int .i64 r])] w fun e w' => e = .returned .nilIface ∧ Below w.heap.size w w' := by
  have f14 := fold14 c
  have C1 := Lib.hid (fun W => kWord_any op W)
  have C2 := Lib.hid (fun W => kpolicy_any c hc t op l key pa pb hd r ht W)
  rw [h0] at C2
  have C3 := Lib.hid (fun W => new_zero0 t l (sB (wordL op)) W)
  clear h0
  generalize hwd : wordL op = wd at *
  generalize hsw : sB wd = sw at *
  clear hwd hsw
  go_enter Tryz.func66, Tryz.ntmps66
  go_upto_region 1 with fail
  generalize hW : World.alloc (World.alloc _ _) _ = W
  obtain ⟨hB, hr, hcl⟩ := conf_call_new c op l key pa pb hd r _ _ w W hW
  clear hW
  generalize hz : w.heap.size = a1 at *
  have HZ := Lib.hid hz; clear hz
  have hst : ∀ w' : World, Below a1 w w' → Row w' a1 43 14 (ints c) → CallIs w' (a1 + 1) op l key pa pb hd r → Below a1 w w' ∧ Row w' a1 43 14 (ints c) ∧ CallIs w' (a1 + 1) op l key pa pb hd r ∧ w'.cell? ⟨a1, 0, none⟩ = some (.int .i64 (c 0)) ∧ w'.cell? ⟨a1, 1, none⟩ = some (.int .i64 (c 1)) ∧ w'.cell? ⟨a1, 2, none⟩ = some (.int .i64 (c 2)) ∧ w'.cell? ⟨a1, 3, none⟩ = some (.int .i64 (c 3)) ∧ w'.cell? ⟨a1, 4, none⟩ = some (.int .i64 (c 4)) ∧ w'.cell? ⟨a1, 5, none⟩ = some (.int .i64 (c 5)) ∧ w'.cell? ⟨a1, 6, none⟩ = some (.int .i64 (c 6)) ∧ w'.cell? ⟨a1, 7, none⟩ = some (.int .i64 (c 7)) ∧ w'.cell? ⟨a1, 8, none⟩ = some (.int .i64 (c 8)) ∧ w'.cell? ⟨a1, 9, none⟩ = some (.int .i64 (c 9)) ∧ w'.cell? ⟨a1, 10, none⟩ = some (.int .i64 (c 10)) ∧ w'.cell? ⟨a1, 11, none⟩ = some (.int .i64 (c 11)) ∧ w'.cell? ⟨a1, 12, none⟩ = some (.int .i64 (c 12)) ∧ w'.cell? ⟨a1, 13, none⟩ = some (.int .i64 (c 13)) ∧ w'.cell? ⟨a1 + 1, 0, none⟩ = some (.int .i64 op) ∧ w'.cell? ⟨a1 + 1, 1, none⟩ = some (.int .i64 l) ∧ w'.cell? ⟨a1 + 1, 2, none⟩ = some (.int .i64 key) ∧ w'.cell? ⟨a1 + 1, 3, none⟩ = some (.int .u64 pa) ∧ w'.cell? ⟨a1 + 1, 4, none⟩ = some (.int .u64 pb) ∧ w'.cell? ⟨a1 + 1, 5, none⟩ = some (.int .u64 hd) ∧ w'.cell? ⟨a1 + 1, 6, none⟩ = some (.int .i64 r) := fun w' h1 h2 h3 => by
    obtain ⟨u0, u1, u2, u3, u4, u5, u6, u7, u8, u9, u10, u11, u12, u13⟩ := conf_cells h2
    exact ⟨h1, h2, h3, u0, u1, u2, u3, u4, u5, u6, u7, u8, u9, u10, u11, u12, u13, h3.c0, h3.c1, h3.c2, h3.c3, h3.c4, h3.c5, h3.c6⟩
  have hkeep : ∀ w1 w2 : World, Below w1.heap.size w1 w2 → (fun w' : World => Below a1 w w' ∧ Row w' a1 43 14 (ints c) ∧ CallIs w' (a1 + 1) op l key pa pb hd r ∧ w'.cell? ⟨a1, 0, none⟩ = some (.int .i64 (c 0)) ∧ w'.cell? ⟨a1, 1, none⟩ = some (.int .i64 (c 1)) ∧ w'.cell? ⟨a1, 2, none⟩ = some (.int .i64 (c 2)) ∧ w'.cell? ⟨a1, 3, none⟩ = some (.int .i64 (c 3)) ∧ w'.cell? ⟨a1, 4, none⟩ = some (.int .i64 (c 4)) ∧ w'.cell? ⟨a1, 5, none⟩ = some (.int .i64 (c 5)) ∧ w'.cell? ⟨a1, 6, none⟩ = some (.int .i64 (c 6)) ∧ w'.cell? ⟨a1, 7, none⟩ = some (.int .i64 (c 7)) ∧ w'.cell? ⟨a1, 8, none⟩ = some (.int .i64 (c 8)) ∧ w'.cell? ⟨a1, 9, none⟩ = some (.int .i64 (c 9)) ∧ w'.cell? ⟨a1, 10, none⟩ = some (.int .i64 (c 10)) ∧ w'.cell? ⟨a1, 11, none⟩ = some (.int .i64 (c 11)) ∧ w'.cell? ⟨a1, 12, none⟩ = some (.int .i64 (c 12)) ∧ w'.cell? ⟨a1, 13, none⟩ = some (.int .i64 (c 13)) ∧ w'.cell? ⟨a1 + 1, 0, none⟩ = some (.int .i64 op) ∧ w'.cell? ⟨a1 + 1, 1, none⟩ = some (.int .i64 l) ∧ w'.cell? ⟨a1 + 1, 2, none⟩ = some (.int .i64 key) ∧ w'.cell? ⟨a1 + 1, 3, none⟩ = some (.int .u64 pa) ∧ w'.cell? ⟨a1 + 1, 4, none⟩ = some (.int .u64 pb) ∧ w'.cell? ⟨a1 + 1, 5, none⟩ = some (.int .u64 hd) ∧ w'.cell? ⟨a1 + 1, 6, none⟩ = some (.int .i64 r)) w1 → (fun w' : World => Below a1 w w' ∧ Row w' a1 43 14 (ints c) ∧ CallIs w' (a1 + 1) op l key pa pb hd r ∧ w'.cell? ⟨a1, 0, none⟩ = some (.int .i64 (c 0)) ∧ w'.cell? ⟨a1, 1, none⟩ = some (.int .i64 (c 1)) ∧ w'.cell? ⟨a1, 2, none⟩ = some (.int .i64 (c 2)) ∧ w'.cell? ⟨a1, 3, none⟩ = some (.int .i64 (c 3)) ∧ w'.cell? ⟨a1, 4, none⟩ = some (.int .i64 (c 4)) ∧ w'.cell? ⟨a1, 5, none⟩ = some (.int .i64 (c 5)) ∧ w'.cell? ⟨a1, 6, none⟩ = some (.int .i64 (c 6)) ∧ w'.cell? ⟨a1, 7, none⟩ = some (.int .i64 (c 7)) ∧ w'.cell? ⟨a1, 8, none⟩ = some (.int .i64 (c 8)) ∧ w'.cell? ⟨a1, 9, none⟩ = some (.int .i64 (c 9)) ∧ w'.cell? ⟨a1, 10, none⟩ = some (.int .i64 (c 10)) ∧ w'.cell? ⟨a1, 11, none⟩ = some (.int .i64 (c 11)) ∧ w'.cell? ⟨a1, 12, none⟩ = some (.int .i64 (c 12)) ∧ w'.cell? ⟨a1, 13, none⟩ = some (.int .i64 (c 13)) ∧ w'.cell? ⟨a1 + 1, 0, none⟩ = some (.int .i64 op) ∧ w'.cell? ⟨a1 + 1, 1, none⟩ = some (.int .i64 l) ∧ w'.cell? ⟨a1 + 1, 2, none⟩ = some (.int .i64 key) ∧ w'.cell? ⟨a1 + 1, 3, none⟩ = some (.int .u64 pa) ∧ w'.cell? ⟨a1 + 1, 4, none⟩ = some (.int .u64 pb) ∧ w'.cell? ⟨a1 + 1, 5, none⟩ = some (.int .u64 hd) ∧ w'.cell? ⟨a1 + 1, 6, none⟩ = some (.int .i64 r)) w2 := fun w1 w2 hb h =>
    hst w2 (below_on h.1 (Nat.le_of_eq HZ.out.symm) hb) (h.2.1.keep hb) (h.2.2.1.keep hb)
  have HST := Lib.hid (hst W.drew hB.drew hr.drew ⟨hcl.lt, hcl.c0, hcl.c1, hcl.c2, hcl.c3, hcl.c4, hcl.c5, hcl.c6⟩)
  have HBB : Hid (∀ w', (fun w' : World => Below a1 w w' ∧ Row w' a1 43 14 (ints c) ∧ CallIs w' (a1 + 1) op l key pa pb hd r ∧ w'.cell? ⟨a1, 0, none⟩ = some (.int .i64 (c 0)) ∧ w'.cell? ⟨a1, 1, none⟩ = some (.int .i64 (c 1)) ∧ w'.cell? ⟨a1, 2, none⟩ = some (.int .i64 (c 2)) ∧ w'.cell? ⟨a1, 3, none⟩ = some (.int .i64 (c 3)) ∧ w'.cell? ⟨a1, 4, none⟩ = some (.int .i64 (c 4)) ∧ w'.cell? ⟨a1, 5, none⟩ = some (.int .i64 (c 5)) ∧ w'.cell? ⟨a1, 6, none⟩ = some (.int .i64 (c 6)) ∧ w'.cell? ⟨a1, 7, none⟩ = some (.int .i64 (c 7)) ∧ w'.cell? ⟨a1, 8, none⟩ = some (.int .i64 (c 8)) ∧ w'.cell? ⟨a1, 9, none⟩ = some (.int .i64 (c 9)) ∧ w'.cell? ⟨a1, 10, none⟩ = some (.int .i64 (c 10)) ∧ w'.cell? ⟨a1, 11, none⟩ = some (.int .i64 (c 11)) ∧ w'.cell? ⟨a1, 12, none⟩ = some (.int .i64 (c 12)) ∧ w'.cell? ⟨a1, 13, none⟩ = some (.int .i64 (c 13)) ∧ w'.cell? ⟨a1 + 1, 0, none⟩ = some (.int .i64 op) ∧ w'.cell? ⟨a1 + 1, 1, none⟩ = some (.int .i64 l) ∧ w'.cell? ⟨a1 + 1, 2, none⟩ = some (.int .i64 key) ∧ w'.cell? ⟨a1 + 1, 3, none⟩ = some (.int .u64 pa) ∧ w'.cell? ⟨a1 + 1, 4, none⟩ = some (.int .u64 pb) ∧ w'.cell? ⟨a1 + 1, 5, none⟩ = some (.int .u64 hd) ∧ w'.cell? ⟨a1 + 1, 6, none⟩ = some (.int .i64 r)) w' → Below a1 w w') := Lib.hid (fun w' h => h.1)
  clear hB hr hcl hst
  refine wp_region_noPanic ?_
  refine wp_region_held_drew (S := fun w' => Below a1 w w' ∧ Row w' a1 43 14 (ints c) ∧ CallIs w' (a1 + 1) op l key pa pb hd r ∧ w'.cell? ⟨a1, 0, none⟩ = some (.int .i64 (c 0)) ∧ w'.cell? ⟨a1, 1, none⟩ = some (.int .i64 (c 1)) ∧ w'.cell? ⟨a1, 2, none⟩ = some (.int .i64 (c 2)) ∧ w'.cell? ⟨a1, 3, none⟩ = some (.int .i64 (c 3)) ∧ w'.cell? ⟨a1, 4, none⟩ = some (.int .i64 (c 4)) ∧ w'.cell? ⟨a1, 5, none⟩ = some (.int .i64 (c 5)) ∧ w'.cell? ⟨a1, 6, none⟩ = some (.int .i64 (c 6)) ∧ w'.cell? ⟨a1, 7, none⟩ = some (.int .i64 (c 7)) ∧ w'.cell? ⟨a1, 8, none⟩ = some (.int .i64 (c 8)) ∧ w'.cell? ⟨a1, 9, none⟩ = some (.int .i64 (c 9)) ∧ w'.cell? ⟨a1, 10, none⟩ = some (.int .i64 (c 10)) ∧ w'.cell? ⟨a1, 11, none⟩ = some (.int .i64 (c 11)) ∧ w'.cell? ⟨a1, 12, none⟩ = some (.int .i64 (c 12)) ∧ w'.cell? ⟨a1, 13, none⟩ = some (.int .i64 (c 13)) ∧ w'.cell? ⟨a1 + 1, 0, none⟩ = some (.int .i64 op) ∧ w'.cell? ⟨a1 + 1, 1, none⟩ = some (.int .i64 l) ∧ w'.cell? ⟨a1 + 1, 2, none⟩ = some (.int .i64 key) ∧ w'.cell? ⟨a1 + 1, 3, none⟩ = some (.int .u64 pa) ∧ w'.cell? ⟨a1 + 1, 4, none⟩ = some (.int .u64 pb) ∧ w'.cell? ⟨a1 + 1, 5, none⟩ = some (.int .u64 hd) ∧ w'.cell? ⟨a1 + 1, 6, none⟩ = some (.int .i64 r)) (by kernel_rfl) (HST.out) (fun hHeld => ?_)
  try simp only [List.size_toArray, List.length_cons, List.length_nil, Nat.reduceAdd, Nat.reduceSub, Array.replicate_succ, Array.replicate_zero, List.push_toArray, List.append_toArray, List.nil_append, List.cons_append]   -- the listed as a literal: else each operation taken costs more than the last
  (refine wpAnyH_take (i := 0) (v := ?_) rfl (by kernel_rfl) (by kernel_rfl) (by kernel_rfl) (fun _ _ _ h => h) (Or.inl ⟨by rfl, ?_⟩) hHeld ?_; rotate_left; focus (intro w hSw; (try dsimp only at hSw); go_simp; (try with_reducible rfl)))
  try simp only [Act.put, List.getElem_toArray, List.getElem_cons_succ, List.getElem_cons_zero, List.setIfInBounds_toArray, List.set_cons_zero, List.set_cons_succ]
  (refine wpAnyH_take (i := 1) (v := ?_) rfl (by kernel_rfl) (by kernel_rfl) (by kernel_rfl) (fun _ _ _ h => h) (Or.inl ⟨by rfl, ?_⟩) hHeld ?_; rotate_left; focus (intro w hSw; (try dsimp only at hSw); go_simp; (try with_reducible rfl)))
  try simp only [Act.put, List.getElem_toArray, List.getElem_cons_succ, List.getElem_cons_zero, List.setIfInBounds_toArray, List.set_cons_zero, List.set_cons_succ]
  (refine wpAnyH_take (i := 2) (v := ?_) rfl (by kernel_rfl) (by kernel_rfl) (by kernel_rfl) (fun _ _ _ h => h) (Or.inl ⟨by rfl, ?_⟩) hHeld ?_; rotate_left; focus (intro w hSw; (try dsimp only at hSw); go_simp; (try with_reducible rfl)))
  try simp only [Act.put, List.getElem_toArray, List.getElem_cons_succ, List.getElem_cons_zero, List.setIfInBounds_toArray, List.set_cons_zero, List.set_cons_succ]
  (refine wpAnyH_take (i := 3) (v := ?_) rfl (by kernel_rfl) (by kernel_rfl) (by kernel_rfl) (fun _ _ _ h => h) (Or.inl ⟨by rfl, ?_⟩) hHeld ?_; rotate_left; focus (intro w hSw; (try dsimp only at hSw); go_simp; (try with_reducible rfl)))
  try simp only [Act.put, List.getElem_toArray, List.getElem_cons_succ, List.getElem_cons_zero, List.setIfInBounds_toArray, List.set_cons_zero, List.set_cons_succ]
  (refine wpAnyH_take (i := 4) (v := ?_) rfl (by kernel_rfl) (by kernel_rfl) (by kernel_rfl) (fun _ _ _ h => h) (Or.inl ⟨by rfl, ?_⟩) hHeld ?_; rotate_left; focus (intro w hSw; (try dsimp only at hSw); go_simp; (try with_reducible rfl)))
  try simp only [Act.put, List.getElem_toArray, List.getElem_cons_succ, List.getElem_cons_zero, List.setIfInBounds_toArray, List.set_cons_zero, List.set_cons_succ]
  (refine wpAnyH_take (i := 6) (v := ?_) rfl (by kernel_rfl) (by kernel_rfl) (by kernel_rfl) (fun _ _ _ h => h) (Or.inl ⟨by rfl, ?_⟩) hHeld ?_; rotate_left; focus (intro w hSw; (try dsimp only at hSw); go_simp; (try with_reducible rfl)))
  try simp only [Act.put, List.getElem_toArray, List.getElem_cons_succ, List.getElem_cons_zero, List.setIfInBounds_toArray, List.set_cons_zero, List.set_cons_succ]
  (refine wpAnyH_take (i := 7) (v := ?_) rfl (by kernel_rfl) (by kernel_rfl) (by kernel_rfl) (fun _ _ _ h => h) (Or.inl ⟨by rfl, ?_⟩) hHeld ?_; rotate_left; focus (intro w hSw; (try dsimp only at hSw); go_simp; (try with_reducible rfl)))
  try simp only [Act.put, List.getElem_toArray, List.getElem_cons_succ, List.getElem_cons_zero, List.setIfInBounds_toArray, List.set_cons_zero, List.set_cons_succ]
  (refine wpAnyH_take (i := 8) (v := ?_) rfl (by kernel_rfl) (by kernel_rfl) (by kernel_rfl) (fun _ _ _ h => h) (Or.inl ⟨by rfl, ?_⟩) hHeld ?_; rotate_left; focus (intro w hSw; (try dsimp only at hSw); go_simp; (try with_reducible rfl)))
  try simp only [Act.put, List.getElem_toArray, List.getElem_cons_succ, List.getElem_cons_zero, List.setIfInBounds_toArray, List.set_cons_zero, List.set_cons_succ]
  (refine wpAnyH_ready (rs := [5]) (by kernel_rfl) (by simp) ?_; refine AllReadyH.cons rfl (fun K hK => ?_) AllReadyH.nil; go_simp; (first | (go_at_call 82; refine (C1.out _).mono ?_; rintro e w' ⟨rfl, hb⟩) | (go_at_call 83; refine (C2.out _).mono ?_; rintro e w' ⟨rfl, hb⟩) | (go_at_call 81; refine (C3.out _).mono ?_; rintro e w' ⟨rfl, hb⟩)); (try go_wp2_with fail); refine hK.out _ _ ?_ (fun hHeld' => ?_); (focus (exact hkeep _ _ hb hHeld)); clear hK K; replace hHeld := hHeld'; clear hHeld')
  try simp only [Act.put, List.getElem_toArray, List.getElem_cons_succ, List.getElem_cons_zero, List.setIfInBounds_toArray, List.set_cons_zero, List.set_cons_succ]
  (refine wpAnyH_ready (rs := [9]) (by kernel_rfl) (by simp) ?_; refine AllReadyH.cons rfl (fun K hK => ?_) AllReadyH.nil; go_simp; (first | (go_at_call 82; refine (C1.out _).mono ?_; rintro e w' ⟨rfl, hb⟩) | (go_at_call 83; refine (C2.out _).mono ?_; rintro e w' ⟨rfl, hb⟩) | (go_at_call 81; refine (C3.out _).mono ?_; rintro e w' ⟨rfl, hb⟩)); (try go_wp2_with fail); refine hK.out _ _ ?_ (fun hHeld' => ?_); (focus (exact hkeep _ _ hb hHeld)); clear hK K; replace hHeld := hHeld'; clear hHeld')
  try simp only [Act.put, List.getElem_toArray, List.getElem_cons_succ, List.getElem_cons_zero, List.setIfInBounds_toArray, List.set_cons_zero, List.set_cons_succ]
  (refine wpAnyH_ready (rs := [10]) (by kernel_rfl) (by simp) ?_; refine AllReadyH.cons rfl (fun K hK => ?_) AllReadyH.nil; go_simp; (first | (go_at_call 82; refine (C1.out _).mono ?_; rintro e w' ⟨rfl, hb⟩) | (go_at_call 83; refine (C2.out _).mono ?_; rintro e w' ⟨rfl, hb⟩) | (go_at_call 81; refine (C3.out _).mono ?_; rintro e w' ⟨rfl, hb⟩)); (try go_wp2_with fail); refine hK.out _ _ ?_ (fun hHeld' => ?_); (focus (exact hkeep _ _ hb hHeld)); clear hK K; replace hHeld := hHeld'; clear hHeld')
  try simp only [Act.put, List.getElem_toArray, List.getElem_cons_succ, List.getElem_cons_zero, List.setIfInBounds_toArray, List.set_cons_zero, List.set_cons_succ]
  (refine wpAnyH_take (i := 11) (v := ?_) rfl (by kernel_rfl) (by kernel_rfl) (by kernel_rfl) (fun _ _ _ h => h) (Or.inl ⟨by rfl, ?_⟩) hHeld ?_; rotate_left; focus (intro w hSw; (try dsimp only at hSw); go_simp; (try with_reducible rfl)))
  try simp only [Act.put, List.getElem_toArray, List.getElem_cons_succ, List.getElem_cons_zero, List.setIfInBounds_toArray, List.set_cons_zero, List.set_cons_succ]
  refine wpAnyH_done (by kernel_rfl) ?_ _
  refine NoPanic.normal ?_
  have hb := HBB.out _ hHeld
  have HBF := Lib.hid hb
  clear hHeld hb
  go_wp2_with fail
  go_ret
  exact ⟨rfl, by rw [HZ.out]; exact HBF.out⟩
end Go.Proofs.YtiafjbhekfpkbaaGreatDoor
namespace Go.Proofs.YtiafjbhekfpkbaaGreatDoor
set_option linter.unusedSimpArgs false
set_option linter.unusedVariables false
open Go.ChangeShapes Go.WideShapes Go.ChangeAt Go.RowKit Go.Lib
set_option linter.unusedSimpArgs false
set_option linter.unusedVariables false

theorem isNaNcU_any (x : Int) (w : World) : Calls Tryz.prog 130 #[.int .u64 x] w fun e w' => e = .returned (.bool false) ∧ w' = w := by
  go_enter Tryz.func130, Tryz.ntmps130
  go_wp2
  go_ret
  exact ⟨by simp, rfl⟩
theorem isNaNsU_any (x : Int) (w : World) : Calls Tryz.prog 113 #[.int .u64 x] w fun e w' => e = .returned (.bool false) ∧ w' = w := by
  go_enter Tryz.func113, Tryz.ntmps113
  go_wp2
  go_ret
  exact ⟨by simp, rfl⟩
theorem lessU_any (x y : Int) (w : World) : Calls Tryz.prog 112 #[.int .u64 x, .int .u64 y] w fun e w' => e = .returned (.bool (decide (x < y))) ∧ w' = w := by
  go_enter Tryz.func112, Tryz.ntmps112
  go_wp2_with (go_at_call 130; refine (isNaNcU_any _ _).mono ?_; rintro e w' ⟨rfl, rfl⟩)
  go_ret
  exact ⟨rfl, rfl⟩

/-- Where a number is, or would be, in a list that rises; whether it is there. -/
def placeU (zs : List Int) (x : Int) : Nat := zs.countP (· < x)
set_option maxRecDepth 100000 in
set_option maxHeartbeats 4000000 in
theorem binSearchU_any (b off c : Nat) (zs : List Int) (x : Int) (w : World) (hbig : zs.length < 4611686018427387904) (hc : ∀ j, j < zs.length → w.cell? ⟨b, off + j, none⟩ = some (.int .u64 (zs.getD j 0))) (hs : zs.Pairwise (· ≤ ·)) :
    Calls Tryz.prog 87 #[.slice (some ⟨b, off, none⟩) zs.length c, .int .u64 x] w fun e w' => e = .returned (.tuple #[.int .i64 (placeU zs x : Nat), .bool (zs.contains x)]) ∧ Below w.heap.size w w' := by
  have hbl : ∀ q, Below w.heap.size w (w.drewN q) := fun q => (Below.refl _ w).trans ⟨rfl, rfl, rfl, Nat.le_refl _, fun _ _ => rfl⟩
  have HBL := Lib.hid hbl; clear hbl
  obtain ⟨n, hn⟩ : ∃ n, zs.length = n := ⟨_, rfl⟩
  have htk : zs.take n = zs := by rw [← hn]; simp
  have S := Lib.hid (Lib.sorted_at zs n (by omega) (by rw [htk]; exact hs))
  have HE := Lib.hid (fun i hi h1 h2 => Lib.search_end zs n i x (by omega) hi h1 h2 S.out)
  rw [htk] at HE
  unfold placeU
  rw [hn] at hbig hc ⊢
  clear hs htk
  have HN := Lib.hid hn; clear hn
  go_enter Tryz.func87, Tryz.ntmps87
  go_wp2
  go_loopg [7, 8] n (fun g s7 s8 wr => ∃ lo hi q : Nat, s7 = .int .i64 lo ∧ s8 = .int .i64 hi ∧ lo ≤ hi ∧ hi ≤ n ∧ hi - lo ≤ g ∧ wr = w.drewN q ∧ (∀ t, t < lo → zs.getD t 0 < x) ∧ (∀ t, hi ≤ t → t < n → x ≤ zs.getD t 0))
  case atStart => exact ⟨0, n, 0, rfl, rfl, Nat.zero_le _, Nat.le_refl _, by omega, rfl, fun t ht => absurd ht (Nat.not_lt_zero _), fun t h1 h2 => by omega⟩
  case round =>
    obtain ⟨lo, hi, q, rfl, rfl, hlh, hin, hg, rfl, h1, h2⟩ := hrel
    have I := Lib.hid (And.intro h1 h2)
    clear h1 h2
    by_cases hlt : lo < hi
    · have cm : w.cell? ⟨b, off + (lo + hi) / 2, none⟩ = some (.int .u64 (zs.getD ((lo + hi) / 2) 0)) := hc _ (by omega)
      clear hc
      generalize hy : zs.getD ((lo + hi) / 2) 0 = y at cm
      have Y := Lib.hid hy
      clear hy
      by_cases hyx : y < x
      · go_wp2_with (go_at_call 112; refine (lessU_any _ _ _).mono ?_; rintro e w' ⟨rfl, rfl⟩)
        go_roundg (hi - ((lo + hi) / 2 + 1))
        case measure => omega
        case rel =>
          refine ⟨(lo + hi) / 2 + 1, hi, _, by rw [show ((lo : Int) + (hi : Int)) / 2 + 1 = (((lo + hi) / 2 + 1 : Nat) : Int) by omega], rfl, by omega, hin, Nat.le_refl _, rfl, fun t ht => ?_, I.out.2⟩
          have := S.out t ((lo + hi) / 2) (by omega) (by omega)
          rw [Y.out] at this
          omega
      · go_wp2_with (go_at_call 112; refine (lessU_any _ _ _).mono ?_; rintro e w' ⟨rfl, rfl⟩)
        go_roundg ((lo + hi) / 2 - lo)
        case measure => omega
        case rel =>
          refine ⟨lo, (lo + hi) / 2, _, rfl, by rw [show ((lo : Int) + (hi : Int)) / 2 = (((lo + hi) / 2 : Nat) : Int) by omega], by omega, by omega, Nat.le_refl _, rfl, I.out.1, fun t ht htn => ?_⟩
          have := S.out ((lo + hi) / 2) t ht htn
          rw [Y.out] at this
          omega
    · have : hi = lo := by omega
      subst this
      have E := Lib.hid (HE.out hi hin I.out.1 I.out.2)
      clear HE
      by_cases hn : hi < n
      · have cl : w.cell? ⟨b, off + hi, none⟩ = some (.int .u64 (zs.getD hi 0)) := hc _ (by omega)
        clear hc
        generalize hy : zs.getD hi 0 = y at cl
        have Y := Lib.hid hy
        clear hy
        by_cases hyx : y = x
        · go_wp2_with (go_at_call 113; refine (isNaNsU_any _ _).mono ?_; rintro e w' ⟨rfl, rfl⟩)
          go_ret2
          refine ⟨?_, HBL.out _⟩
          rw [E.out.1, E.out.2, Y.out, decide_eq_true (show hi < n ∧ y = x from ⟨hn, hyx⟩)]
          first | rfl | simp [*]
        · go_wp2_with (go_at_call 113; refine (isNaNsU_any _ _).mono ?_; rintro e w' ⟨rfl, rfl⟩)
          go_ret2
          refine ⟨?_, HBL.out _⟩
          rw [E.out.1, E.out.2, Y.out, decide_eq_false (show ¬ (hi < n ∧ y = x) from fun h => hyx h.2)]
          first | rfl | simp [*]
      · clear hc
        go_wp2_with (go_at_call 113; refine (isNaNsU_any _ _).mono ?_; rintro e w' ⟨rfl, rfl⟩)
        go_ret2
        refine ⟨?_, HBL.out _⟩
        rw [E.out.1, E.out.2, decide_eq_false (show ¬ (hi < n ∧ zs.getD hi 0 = x) from fun h => hn h.1)]
        first | rfl | simp [*]
end Go.Proofs.YtiafjbhekfpkbaaGreatDoor
namespace Go.Proofs.YtiafjbhekfpkbaaGreatDoor
set_option linter.unusedSimpArgs false
set_option linter.unusedVariables false
open Go.ChangeShapes Go.WideShapes Go.ChangeAt Go.RowKit Go.Lib
set_option linter.unusedSimpArgs false
set_option linter.unusedVariables false

def intsU (T : List Nat) : List Int := T.map fun h : Nat => (h : Int)
def flatU (T : List Nat) : List Value := T.map fun h : Nat => .int .u64 (h : Nat)
theorem flatU_length (T : List Nat) : (flatU T).length = T.length := by simp [flatU]
theorem flatU_get (T : List Nat) (i : Nat) (h : i < T.length) : (flatU T)[i]? = some (.int .u64 ((intsU T).getD i 0)) := by simp [flatU, intsU, List.getD, h]
theorem intsU_contains (T : List Nat) (h : Nat) : (intsU T).contains (h : Int) = T.contains h := by
  rw [Bool.eq_iff_iff]
  simp only [intsU, List.contains_iff_mem, List.mem_map]
  constructor
  · rintro ⟨a, ha, e⟩
    obtain rfl : a = h := by omega
    exact ha
  · exact fun hm => ⟨h, hm, rfl⟩
theorem intsU_rise {T : List Nat} (h : T.Pairwise (· < ·)) : (intsU T).Pairwise (· ≤ ·) := by
  unfold intsU
  rw [List.pairwise_map]
  exact h.imp fun hab => by omega
theorem LiesC.atU {w : World} {A : Option Addr} {T : List Nat} (h : LiesC w A (flatU T)) (hn : 0 < T.length) : ∃ b off, A = some ⟨b, off, none⟩ ∧ b < w.heap.size ∧ ∀ i, i < T.length → w.cell? ⟨b, off + i, none⟩ = some (.int .u64 ((intsU T).getD i 0)) := by
  obtain ⟨b, off, e, hb, hc⟩ := h.some_ (by rw [flatU_length]; exact hn)
  exact ⟨b, off, e, hb, fun i hi => hc i _ (flatU_get T i hi)⟩

set_option maxRecDepth 100000 in
theorem binSearchU_nil (A : Option Addr) (c : Nat) (x : Int) (w : World) :
    Calls Tryz.prog 87 #[.slice A 0 c, .int .u64 x] w fun e w' => e = .returned (.tuple #[.int .i64 0, .bool false]) ∧ Below w.heap.size w w' := by
  have HBL := Lib.hid (fun q => show Below w.heap.size w (w.drewN q) from (Below.refl _ w).trans ⟨rfl, rfl, rfl, Nat.le_refl _, fun _ _ => rfl⟩)
  go_enter Tryz.func87, Tryz.ntmps87
  go_wp2
  go_loopg [7, 8] 0 (fun g s7 s8 wr => ∃ q : Nat, s7 = .int .i64 0 ∧ s8 = .int .i64 0 ∧ wr = w.drewN q)
  case atStart => exact ⟨0, rfl, rfl, rfl⟩
  case round =>
    obtain ⟨q, rfl, rfl, rfl⟩ := hrel
    go_wp2_with fail
    go_ret2
    exact ⟨rfl, HBL.out _⟩

/-- BinarySearch at a list of handles that rises. -/
theorem binSearchT_any (A : Option Addr) (c : Nat) (T : List Nat) (hL : T.length ≤ 1000000) (hs : T.Pairwise (· < ·)) (x : Nat) (w : World) (hl : LiesC w A (flatU T)) :
    Calls Tryz.prog 87 #[.slice A T.length c, .int .u64 (x : Nat)] w fun e w' => e = .returned (.tuple #[.int .i64 (T.countP (· < x) : Nat), .bool (T.contains x)]) ∧ Below w.heap.size w w' := by
  rcases Nat.eq_zero_or_pos T.length with h0 | h0
  · obtain rfl := List.eq_nil_of_length_eq_zero h0
    exact binSearchU_nil A c x w
  · obtain ⟨b, off, rfl, hb, hc⟩ := hl.atU h0
    have hlen : (intsU T).length = T.length := by simp [intsU]
    have := binSearchU_any b off c (intsU T) (x : Int) w (by omega) (by rw [hlen]; exact hc) (intsU_rise hs)
    rw [hlen, intsU_contains, show placeU (intsU T) (x : Int) = T.countP (· < x) by unfold placeU intsU; rw [List.countP_map]; exact List.countP_congr fun a _ => by simp] at this
    exact this

set_option maxRecDepth 100000 in
/-- wasTold: whether a handle was ever told. -/
theorem mWasTold_any (u : Value) (A : Option Addr) (c : Nat) (T : List Nat) (hu : ∃ A0 n0 c0, u = .slice A0 n0 c0) (hL : T.length ≤ 1000000) (hs : T.Pairwise (· < ·)) (x : Nat) (w : World) (hl : LiesC w A (flatU T)) :
    Calls Tryz.prog 72 #[.agg #[u, .slice A T.length c], .int .u64 (x : Nat)] w fun e w' => e = .returned (.bool (T.contains x)) ∧ Below w.heap.size w w' := by
  obtain ⟨A0, n0, c0, rfl⟩ := hu
  have C := Lib.hid (fun W (hb : Below w.heap.size w W) => binSearchT_any A c T hL hs x W (hl.keep hb))
  clear hl hs
  generalize T.length = n at *
  generalize T.contains x = th at *
  generalize T.countP (· < x) = at_ at *
  have hx := Cells.new w #[.slice A0 n0 c0, .slice A n c] 72
  have hB : Below w.heap.size w (w.alloc (.cells #[.slice A0 n0 c0, .slice A n c] 72)) := (Below.refl _ w).alloc (Nat.le_refl _) _
  have HB := Lib.hid hB; clear hB
  have y1 := hx.cell 1
  clear hx
  go_enter Tryz.func72, Tryz.ntmps72
  go_wp2_with (go_at_call 87; refine (C.out _ HB.out).mono ?_; rintro e w' ⟨rfl, hb⟩)
  go_ret
  exact ⟨rfl, HB.out.trans (hb.mono HB.out.size)⟩
end Go.Proofs.YtiafjbhekfpkbaaGreatDoor
namespace Go.Proofs.YtiafjbhekfpkbaaGreatDoor
set_option linter.unusedSimpArgs false
set_option linter.unusedVariables false
open Go.ChangeShapes Go.WideShapes Go.ChangeAt Go.RowKit
set_option linter.unusedSimpArgs false
set_option linter.unusedVariables false

/-- A place: a configuration's fourteen numbers, and the level. -/
def plV (c : Nat → Int) (lv : Int) : Nat → Value := ints fun i => if i < 14 then c i else lv
theorem plV_conf {w : World} {g o n : Nat} {t : TypeId} {f : Nat → Value} {c : Nat → Int} (h : Row w g t n f) (ho : o + 14 ≤ n) (hf : ∀ i, i < 14 → f (o + i) = .int .i64 (c i)) : w.rangeAt g o ((List.range 14).map (ints c)) := fun j v hj => by
  obtain ⟨hj14, e⟩ := List.getElem?_eq_some_iff.1 hj
  have hj' : j < 14 := by simpa using hj14
  rw [List.getElem_map, List.getElem_range] at e
  rw [h.cell (by omega), hf j hj']
  exact congrArg some e

set_option maxRecDepth 100000 in
theorem mBelow_any (c : Nat → Int) (hc : Ok64 c) (lv t : Int) (ht : -9223372036854775808 ≤ t ∧ t ≤ 9223372036854775807) (w : World) :
    Calls Tryz.prog 70 #[.agg (rowOf 15 (plV c lv)), .int .i64 t] w fun e w' => e = .returned (.bool (decide (lv < lvl c t))) ∧ Below w.heap.size w w' := by
  have CL := Lib.hid (fun W => cLevel_any c hc t ht W)
  generalize lvl c t = l at *
  go_enter Tryz.func70, Tryz.ntmps70
  go_upto_region 1 with fail
  generalize hW : World.alloc _ _ = W
  have hr : Row W w.heap.size 48 15 (plV c lv) := by subst hW; exact Row.new w _ _ _ _ rfl
  have hB : Below w.heap.size w W := by subst hW; exact (Below.refl _ w).alloc (Nat.le_refl _) _
  clear hW
  generalize hg : w.heap.size = g at *
  have HB := Lib.hid (And.intro hB hg)
  have HK : Hid (∀ w', Below W.heap.size W w' → (Below W.heap.size W w' ∧ Row w' g 48 15 (plV c lv) ∧ w'.cell? ⟨g, 14, none⟩ = some (.int .i64 lv))) := Lib.hid fun w' hb => ⟨hb, hr.keep hb, (hr.keep hb).cell (i := 14) (by omega)⟩
  clear hr hB hg
  refine wp_region_noPanic ?_
  refine wp_region_held_drew (S := fun w' => (Below W.heap.size W w' ∧ Row w' g 48 15 (plV c lv) ∧ w'.cell? ⟨g, 14, none⟩ = some (.int .i64 lv))) (by kernel_rfl) (HK.out _ (Below.refl _ _).drew) (fun hHeld => ?_)
  try simp only [List.size_toArray, List.length_cons, List.length_nil, Nat.reduceAdd, Nat.reduceSub, Array.replicate_succ, Array.replicate_zero, List.push_toArray, List.append_toArray, List.nil_append, List.cons_append]   -- the listed as a literal: else each operation taken costs more than the last
  (refine wpAnyH_take (i := 0) (v := ?_) rfl (by kernel_rfl) (by kernel_rfl) (by kernel_rfl) (fun _ _ _ h => h) (Or.inl ⟨by rfl, ?_⟩) hHeld ?_; rotate_left; focus (intro w hSw; (try dsimp only at hSw); go_simp; (try with_reducible rfl)))
  try simp only [Act.put, List.getElem_toArray, List.getElem_cons_succ, List.getElem_cons_zero, List.setIfInBounds_toArray, List.set_cons_zero, List.set_cons_succ]
  (refine wpAnyH_take (i := 1) (v := ?_) rfl (by kernel_rfl) (by kernel_rfl) (by kernel_rfl) (fun _ _ _ h => h) (Or.inl ⟨by rfl, ?_⟩) hHeld ?_; rotate_left; focus (intro w hSw; (try dsimp only at hSw); go_simp; (try with_reducible rfl)))
  try simp only [Act.put, List.getElem_toArray, List.getElem_cons_succ, List.getElem_cons_zero, List.setIfInBounds_toArray, List.set_cons_zero, List.set_cons_succ]
  (refine wpAnyH_take (i := 2) (v := ?_) rfl (by kernel_rfl) (by kernel_rfl) (by kernel_rfl) (fun _ _ _ h => h) (Or.inl ⟨by rfl, ?_⟩) hHeld ?_; rotate_left; focus (intro w hSw; (try dsimp only at hSw); go_simp; (try with_reducible rfl)))
  try simp only [Act.put, List.getElem_toArray, List.getElem_cons_succ, List.getElem_cons_zero, List.setIfInBounds_toArray, List.set_cons_zero, List.set_cons_succ]
  first | (refine wpAnyH_take (i := 3) (v := _) rfl (by kernel_rfl) (by kernel_rfl) (by kernel_rfl) (fun _ _ _ h => h) (yieldsIf_load_mid (by rfl) 43 _ rfl g 0 rfl ((List.range 14).map (ints c)) _ (fun w' hw' => plV_conf hw'.2.1 (by omega) (fun i hi => by show Value.int .i64 (if 0 + i < 14 then c (0 + i) else lv) = _; rw [Nat.zero_add, if_pos hi])) Tryz.underlying43 rfl (by kernel_rfl)) hHeld ?_)
  try simp only [Act.put, List.getElem_toArray, List.getElem_cons_succ, List.getElem_cons_zero, List.setIfInBounds_toArray, List.set_cons_zero, List.set_cons_succ]
  (refine wpAnyH_take (i := 4) (v := ?_) rfl (by kernel_rfl) (by kernel_rfl) (by kernel_rfl) (fun _ _ _ h => h) (Or.inl ⟨by rfl, ?_⟩) hHeld ?_; rotate_left; focus (intro w hSw; (try dsimp only at hSw); go_simp; (try with_reducible rfl)))
  try simp only [Act.put, List.getElem_toArray, List.getElem_cons_succ, List.getElem_cons_zero, List.setIfInBounds_toArray, List.set_cons_zero, List.set_cons_succ]
  (refine wpAnyH_ready (rs := [5]) (by kernel_rfl) (by simp) ?_; refine AllReadyH.cons rfl (fun K hK => ?_) AllReadyH.nil; go_simp; (go_at_call 85; refine (CL.out _).mono ?_; rintro e w' ⟨rfl, hb⟩); (try go_wp2_with fail); refine hK.out _ _ ?_ (fun hHeld' => ?_); (focus (exact HK.out _ (hHeld.1.trans (hb.mono hHeld.1.size)))); clear hK K; replace hHeld := hHeld'; clear hHeld')
  try simp only [Act.put, List.getElem_toArray, List.getElem_cons_succ, List.getElem_cons_zero, List.setIfInBounds_toArray, List.set_cons_zero, List.set_cons_succ]
  (refine wpAnyH_take (i := 6) (v := ?_) rfl (by kernel_rfl) (by kernel_rfl) (by kernel_rfl) (fun _ _ _ h => h) (Or.inl ⟨by rfl, ?_⟩) hHeld ?_; rotate_left; focus (intro w hSw; (try dsimp only at hSw); go_simp; (try with_reducible rfl)))
  try simp only [Act.put, List.getElem_toArray, List.getElem_cons_succ, List.getElem_cons_zero, List.setIfInBounds_toArray, List.set_cons_zero, List.set_cons_succ]
  (refine wpAnyH_take (i := 7) (v := ?_) rfl (by kernel_rfl) (by kernel_rfl) (by kernel_rfl) (fun _ _ _ h => h) (Or.inl ⟨by rfl, ?_⟩) hHeld ?_; rotate_left; focus (intro w hSw; (try dsimp only at hSw); go_simp; (try with_reducible rfl)))
  try simp only [Act.put, List.getElem_toArray, List.getElem_cons_succ, List.getElem_cons_zero, List.setIfInBounds_toArray, List.set_cons_zero, List.set_cons_succ]
  refine wpAnyH_done (by kernel_rfl) ?_ _
  refine NoPanic.normal ?_
  go_wp2_with fail
  go_ret
  refine ⟨rfl, ?_⟩
  rw [HB.out.2]
  exact HB.out.1.trans (((Below.refl _ W).drew.trans hb).mono (show g ≤ W.heap.size by have := HB.out.1.size; have := HB.out.2; omega))

/-- What mayLeave tells. -/
def leaveB (c : Nat → Int) (lv t code : Int) : Bool := (decide (code = 8) || decide (code = 9) || decide (code = 10)) || (decide (code = 13) && decide (lv < lvl c t))
set_option maxRecDepth 100000 in
theorem mLeave_any (c : Nat → Int) (hc : Ok64 c) (lv t code : Int) (ht : -9223372036854775808 ≤ t ∧ t ≤ 9223372036854775807) (w : World) :
    Calls Tryz.prog 56 #[.agg (rowOf 15 (plV c lv)), .int .i64 t, .int .i64 code] w fun e w' => e = .returned (.bool (leaveB c lv t code)) ∧ Below w.heap.size w w' := by
  have CB := Lib.hid (fun W => mBelow_any c hc lv t ht W)
  unfold leaveB
  generalize decide (lv < lvl c t) = bl at *
  generalize plV c lv = f at *
  have hr : Row (w.alloc (.cells (rowOf 15 f) 48)) w.heap.size 48 15 f := Row.new w _ _ _ _ rfl
  have hB := Lib.hid (show Below w.heap.size w (w.alloc (.cells (rowOf 15 f) 48)) from (Below.refl _ w).alloc (Nat.le_refl _) _)
  have r0 := hr.cell (i := 0) (by omega)
  have r1 := hr.cell (i := 1) (by omega)
  have r2 := hr.cell (i := 2) (by omega)
  have r3 := hr.cell (i := 3) (by omega)
  have r4 := hr.cell (i := 4) (by omega)
  have r5 := hr.cell (i := 5) (by omega)
  have r6 := hr.cell (i := 6) (by omega)
  have r7 := hr.cell (i := 7) (by omega)
  have r8 := hr.cell (i := 8) (by omega)
  have r9 := hr.cell (i := 9) (by omega)
  have r10 := hr.cell (i := 10) (by omega)
  have r11 := hr.cell (i := 11) (by omega)
  have r12 := hr.cell (i := 12) (by omega)
  have r13 := hr.cell (i := 13) (by omega)
  have r14 := hr.cell (i := 14) (by omega)
  have fold : (#[f 0, f 1, f 2, f 3, f 4, f 5, f 6, f 7, f 8, f 9, f 10, f 11, f 12, f 13, f 14] : Array Value) = rowOf 15 f := rfl
  clear hr
  go_enter Tryz.func56, Tryz.ntmps56
  rcases Classical.em (code = 8) with rfl | h8
  · go_wp2_with fail
    go_ret
    exact ⟨rfl, hB.out⟩
  rcases Classical.em (code = 9) with rfl | h9
  · go_wp2_with fail
    go_ret
    exact ⟨rfl, hB.out⟩
  rcases Classical.em (code = 10) with rfl | h10
  · go_wp2_with fail
    go_ret
    exact ⟨rfl, hB.out⟩
  rcases Classical.em (code = 13) with rfl | h13
  · go_wp2_with (go_at_call 70; refine (CB.out _).mono ?_; rintro e w' ⟨rfl, hb⟩)
    go_ret
    exact ⟨by simp, hB.out.trans (hb.mono hB.out.size)⟩
  go_wp2_with fail
  go_ret
  exact ⟨by simp [h8, h9, h10, h13], hB.out⟩
end Go.Proofs.YtiafjbhekfpkbaaGreatDoor
namespace Go.Proofs.YtiafjbhekfpkbaaGreatDoor
set_option linter.unusedSimpArgs false
set_option linter.unusedVariables false
open Go.ChangeShapes Go.WideShapes Go.ChangeAt Go.RowKit
set_option linter.unusedSimpArgs false
set_option linter.unusedVariables false

/-- Two blocks, one behind the other. -/
theorem two_cellsB (w : World) (c0 c1 : Array Value) (t0 t1 : TypeId) : ∀ W, ((w.alloc (.cells c0 t0)).alloc (.cells c1 t1)) = W →
    Below w.heap.size w W ∧ Cells W w.heap.size t0 c0.toList ∧ Cells W (w.heap.size + 1) t1 c1.toList := by
  rintro W rfl
  have h1 := Cells.new (w.alloc (.cells c0 t0)) c1 t1
  simp only [World.size_alloc] at h1
  exact ⟨((Below.refl _ w).alloc (Nat.le_refl _) _).alloc (by simp) _, (Cells.new w c0 t0).alloc _, h1⟩
set_option maxRecDepth 100000 in
theorem mBare_any (op l key : Int) (pa pb hd : Nat) (r : Int) (w : World) :
    Calls Tryz.prog 52 #[.agg #[.int .i64 op, .int .i64 l, .int .i64 key, .int .u64 (pa : Nat), .int .u64 (pb : Nat), .int .u64 (hd : Nat), .int .i64 r]] w fun e w' => e = .returned (.agg #[.int .i64 op, .int .i64 l, .int .i64 key, .int .u64 (pa : Nat), .int .u64 (pb : Nat), .int .u64 (hd : Nat), .int .i64 0]) ∧ Below w.heap.size w w' := by
  go_enter Tryz.func52, Tryz.ntmps52
  go_upto_region 1 with fail
  generalize hW : World.alloc _ _ = W
  obtain ⟨hB, x0, x1⟩ := two_cellsB _ _ _ _ _ W hW
  clear hW
  generalize hg : w.heap.size = g at *
  have HG := Lib.hid hg; clear hg
  have HX := Lib.hid (And.intro hB (And.intro x0 x1))
  have a0 := x0.cell 0
  have a1 := x0.cell 1
  have a2 := x0.cell 2
  have a3 := x0.cell 3
  have a4 := x0.cell 4
  have a5 := x0.cell 5
  have a6 := x0.cell 6
  have af := fun i => x0.frozen i
  have b0 := x1.cell 0
  have b1 := x1.cell 1
  have b2 := x1.cell 2
  have b3 := x1.cell 3
  have b4 := x1.cell 4
  have b5 := x1.cell 5
  have b6 := x1.cell 6
  have bf := fun i => x1.frozen i
  clear x0 x1 hB
  go_wp2_with fail
  generalize hX : World.setCell _ _ _ = X
  have hne : g + 1 ≠ g := by omega
  have r2 : Cells X (g + 1) 33 [.int .i64 op, .int .i64 l, .int .i64 key, .int .u64 (pa : Nat), .int .u64 (pb : Nat), .int .u64 (hd : Nat), .int .i64 0] := by
    subst hX
    exact (((((((HX.out.2.2.far (p := ⟨g, 6, none⟩) hne (.int .i64 0)).set_ 0 (.int .i64 op)).set_ 1 (.int .i64 l)).set_ 2 (.int .i64 key)).set_ 3 (.int .u64 (pa : Nat))).set_ 4 (.int .u64 (pb : Nat))).set_ 5 (.int .u64 (hd : Nat))).set_ 6 (.int .i64 0)
  have hbb : Below g w X := by
    subst hX
    have k : g ≤ g + 1 := by omega
    exact (((((((HX.out.1.setCell (p := ⟨g, 6, none⟩) (Nat.le_refl g) _).setCell (p := ⟨g + 1, 0, none⟩) k _).setCell (p := ⟨g + 1, 1, none⟩) k _).setCell (p := ⟨g + 1, 2, none⟩) k _).setCell (p := ⟨g + 1, 3, none⟩) k _).setCell (p := ⟨g + 1, 4, none⟩) k _).setCell (p := ⟨g + 1, 5, none⟩) k _).setCell (p := ⟨g + 1, 6, none⟩) k _
  have s0 := r2.cell 0
  have s1 := r2.cell 1
  have s2 := r2.cell 2
  have s3 := r2.cell 3
  have s4 := r2.cell 4
  have s5 := r2.cell 5
  have s6 := r2.cell 6
  exact bodyPost_ret (v := .agg #[.int .i64 op, .int .i64 l, .int .i64 key, .int .u64 (pa : Nat), .int .u64 (pb : Nat), .int .u64 (hd : Nat), .int .i64 0]) (by simp [results, Tryz.results52, go_sem, s0, s1, s2, s3, s4, s5, s6]) rfl ⟨rfl, by rw [HG.out]; exact hbb⟩
end Go.Proofs.YtiafjbhekfpkbaaGreatDoor
