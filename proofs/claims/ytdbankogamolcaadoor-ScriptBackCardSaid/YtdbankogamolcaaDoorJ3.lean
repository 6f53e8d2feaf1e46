/- What the functions of package conf answer. A configuration is its fourteen numbers: 0 levels, 1 threads, 2 to 9 the threads' levels, 10 slots, 11 limbo, 12 generations, 13 quota. -/
import Derived.Test.YtdbankogamolcaaDoorJ0
import Derived.Deep.RegionHeld3
import Derived.Deep.DeepCutAuto
import Derived.IntWalk
namespace Go.Proofs.YtdbankogamolcaaDoor
set_option linter.unusedSimpArgs false
set_option linter.unusedVariables false
open Go.ChangeShapes Go.WideShapes Go.ChangeAt Go.RowKit

/-- Each number is one of int's. -/
def Ok64 (c : Nat → Int) : Prop := ∀ i, -9223372036854775808 ≤ c i ∧ c i ≤ 9223372036854775807
def withinB (n lo hi : Int) : Bool := decide (lo ≤ n) && decide (n ≤ hi)

theorem cWithin_any (n lo hi : Int) (w : World) : Calls Tryd.prog 42 #[.int .i64 n, .int .i64 lo, .int .i64 hi] w fun e w' => e = .returned (.bool (withinB n lo hi)) ∧ w = w' := by
  have H : Hid (withinB n lo hi = (decide (lo ≤ n) && decide (n ≤ hi))) := Lib.hid rfl
  by_cases h1 : lo ≤ n
  · by_cases h2 : n ≤ hi
    · go_enter Tryd.func42, Tryd.ntmps42
      go_wp2
      go_ret
      exact ⟨by rw [H.out]; simp [h1, h2], rfl⟩
    · go_enter Tryd.func42, Tryd.ntmps42
      go_wp2
      go_ret
      exact ⟨by rw [H.out]; simp [h1, h2], rfl⟩
  · go_enter Tryd.func42, Tryd.ntmps42
    go_wp2
    go_ret
    exact ⟨by rw [H.out, decide_eq_false (by omega), Bool.false_and]; rfl, rfl⟩

def clamp (x hi : Int) : Int := if hi < (if x < 0 then 0 else x) then hi else if x < 0 then 0 else x
def fitN (c : Nat → Int) (i : Nat) : Int := if (i : Int) < c 1 then clamp (c (2 + i)) (c 0 - 1) else 0
def fitTo (c : Nat → Int) (k i : Nat) : Int := if i < k then fitN c i else 0
theorem fitTo_succ (c : Nat → Int) (k : Nat) (h : (k : Int) < c 1) (i : Nat) : (if i = k then Value.int .i64 (clamp (c (2 + k)) (c 0 - 1)) else ints (fitTo c k) i) = ints (fitTo c (k + 1)) i := by
  unfold ints fitTo
  by_cases e : i = k
  · subst e; rw [if_pos rfl, if_pos (by omega)]; unfold fitN; rw [if_pos h]
  · rw [if_neg e]
    by_cases h2 : i < k
    · rw [if_pos h2, if_pos (by omega)]
    · rw [if_neg h2, if_neg (by omega)]
theorem fitTo_all (c : Nat → Int) (k : Nat) (h : c 1 ≤ (k : Int)) (i : Nat) : ints (fitTo c k) i = ints (fitN c) i := by
  unfold ints fitTo fitN
  by_cases h2 : i < k
  · rw [if_pos h2]
  · rw [if_neg h2, if_neg (by omega)]

def FitW (w : World) (c : Nat → Int) (k : Nat) (wr : World) : Prop :=
  Below w.heap.size w wr ∧ Row wr w.heap.size 24 14 (ints c) ∧ Row wr (w.heap.size + 1) 22 8 (ints fun _ => 0) ∧ Row wr (w.heap.size + 1 + 1) 22 8 (ints (fitTo c k))
theorem FitW.start (w : World) (c : Nat → Int) : ∀ W, ((w.alloc (.cells (rowOf 14 (ints c)) 24)).alloc (.cells (rowOf 8 (ints fun _ => 0)) 22)).alloc (.cells (rowOf 8 (ints fun _ => 0)) 22) = W → FitW w c 0 W := by
  rintro W rfl
  refine ⟨(((Below.refl _ _).alloc (Nat.le_refl _) _).alloc (by simp) _).alloc (by simp; omega) _, ?_, ?_, ?_⟩
  · exact ((Row.new w _ _ _ _ rfl).alloc _).alloc _
  · have h := (Row.new (w.alloc (.cells (rowOf 14 (ints c)) 24)) _ 22 (ints fun _ => 0) 8 rfl).alloc (.cells (rowOf 8 (ints fun _ => 0)) 22)
    simpa using h
  · have h := Row.new ((w.alloc (.cells (rowOf 14 (ints c)) 24)).alloc (.cells (rowOf 8 (ints fun _ => 0)) 22)) _ 22 (ints fun _ => 0) 8 rfl
    simp only [World.size_alloc] at h
    exact h

set_option maxRecDepth 100000 in
theorem cFitting_any (c : Nat → Int) (hc : Ok64 c) (h0 : 1 ≤ c 0) (h0' : c 0 ≤ 4) (h1 : 1 ≤ c 1) (h1' : c 1 ≤ 8) (w : World) :
    Calls Tryd.prog 43 #[.agg (rowOf 14 (ints c))] w fun e w' => e = .returned (.agg (rowOf 8 (ints (fitN c)))) ∧ Below w.heap.size w w' := by
  go_enter Tryd.func43, Tryd.ntmps43
  go_upto_region 2 with fail
  generalize hW : World.alloc _ _ = W
  have hF := FitW.start w c W hW
  clear hW
  have u1 : W.cell? ⟨w.heap.size, 1, none⟩ = some (.int .i64 (c 1)) := hF.2.1.cell (i := 1) (by omega)
  generalize hz : w.heap.size = g at *
  go_wp2_with fail
  clear u1
  go_loopw [7] (fun i wr => ∃ k : Nat, i = .int .i64 k ∧ (k : Int) ≤ c 1 ∧ FitW w c k wr) (fun i _ => 8 - (intOf i).toNat)
  case atStart => exact ⟨0, rfl, by omega, hF⟩
  case round =>
    obtain ⟨k, rfl, hk, hR⟩ := hrel
    obtain ⟨r1, r2, r3, r4⟩ := hR
    by_cases hlt : (k : Int) < c 1
    · have u0 : wr.cell? ⟨g, 0, none⟩ = some (.int .i64 (c 0)) := by rw [← hz]; exact r2.cell (i := 0) (by omega)
      have u1 : wr.cell? ⟨g, 2 + k, none⟩ = some (.int .i64 (c (2 + k))) := by rw [← hz]; exact r2.cell (i := 2 + k) (by omega)
      have u2 : wr.cell? ⟨g + 1 + 1, k, none⟩ = some (.int .i64 (fitTo c k k)) := by rw [← hz]; exact r4.cell (i := k) (by omega)
      have u3 : wr.frozen? ⟨g + 1 + 1, k, none⟩ = false := by rw [← hz]; exact r4.frozen k
      have b2 := hc (2 + k)
      have R := Lib.hid (And.intro r1 (And.intro r2 (And.intro r3 r4)))
      have HZ := Lib.hid hz
      clear r1 r2 r3 r4 hz hF
      go_wp2_with fail
      go_region
      all_goals
        go_wp2_with fail
        go_roundw
        case rel =>
          obtain ⟨r1, r2, r3, r4⟩ := R.out
          refine ⟨k + 1, by go_num, by omega, (r1.setCell (by show _ ≤ _; rw [← HZ.out]; simp; omega) _).drew, (r2.far (by show _ ≠ _; rw [← HZ.out]; simp; omega) _).drew, (r3.far (by show _ ≠ _; rw [← HZ.out]; simp) _).drew, ?_⟩
          have h := r4.set_ k (.int .i64 (clamp (c (2 + k)) (c 0 - 1)))
          rw [HZ.out] at h ⊢
          exact (h.congr fun i _ => fitTo_succ c k hlt i).drew
        case measure => simp [intOf]; omega
    · rw [hz] at r2 r3 r4
      have r5 := r4.congr fun i _ => fitTo_all c k (by omega) i
      have HZ := Lib.hid hz
      have HB := Lib.hid r1
      clear r1 r2 r4 hz hF
      go_wp2_with (first
        | (refine wpList_load_row rfl 22 _ rfl (g + 1 + 1) rfl 22 (rowOf 8 (ints (fitN c))) (0, 0) _ r5 Tryd.underlying22 rfl (by kernel_rfl) ?_)
        | (refine wpList_store_row rfl 22 _ _ rfl (g + 1) (rowOf 8 (ints (fitN c))) rfl rfl 22 (rowOf 8 (ints fun _ => 0)) r3 (by kernel_rfl) rfl (ints_one _ _) ?_))
      exact bodyPost_ret (results_cell_row (p := 2) (ty := 22) (by kernel_rfl) _ _ (g + 1) 22 (rowOf 8 (ints (fitN c))) (0, 0) _ rfl (r3.setRow_ _) Tryd.underlying22 rfl (by kernel_rfl)) rfl ⟨rfl, by rw [← HZ.out]; exact below_setRow_ HB.out (by omega) _⟩

/-- The array of levels is what it would be, brought to where it may be. -/
def fitsB (c : Nat → Int) : Bool := eqI 8 (fun i => c (2 + i)) (fitN c)
def mayB (c : Nat → Int) : Bool :=
  withinB (c 0) 1 4 && withinB (c 1) 1 8 && fitsB c && withinB (c 10) 2 60 && withinB (c 11) 1 40 && withinB (c 12) 1 1048576 && withinB (c 13) 0 60
theorem withinB_true {n lo hi : Int} (h : withinB n lo hi = true) : lo ≤ n ∧ n ≤ hi := by simpa [withinB] using h

theorem eql_fits (c : Nat → Int) (w : World) : (binOp .eql 22 (.agg (rowOf 8 (fun i => ints c (2 + i)))) (.agg (rowOf 8 (ints (fitN c))))).run Tryd.prog w = .ok (.bool (fitsB c)) w :=
  run_eql_ints w _ _ 8 Tryd.underlying22 Tryd.underlying3 (fun _ => by kernel_rfl) (fun i => c (2 + i)) (fitN c)

/-- What a walk reads of a configuration that lies in a block of its own. -/
theorem conf_cells {w' : World} {a1 : Nat} {c : Nat → Int} {t : TypeId} (h : Row w' a1 t 14 (ints c)) :
    w'.cell? ⟨a1, 0, none⟩ = some (.int .i64 (c 0)) ∧ w'.cell? ⟨a1, 1, none⟩ = some (.int .i64 (c 1)) ∧ w'.cell? ⟨a1, 2, none⟩ = some (.int .i64 (c 2)) ∧ w'.cell? ⟨a1, 3, none⟩ = some (.int .i64 (c 3)) ∧ w'.cell? ⟨a1, 4, none⟩ = some (.int .i64 (c 4)) ∧ w'.cell? ⟨a1, 5, none⟩ = some (.int .i64 (c 5)) ∧ w'.cell? ⟨a1, 6, none⟩ = some (.int .i64 (c 6)) ∧ w'.cell? ⟨a1, 7, none⟩ = some (.int .i64 (c 7)) ∧ w'.cell? ⟨a1, 8, none⟩ = some (.int .i64 (c 8)) ∧ w'.cell? ⟨a1, 9, none⟩ = some (.int .i64 (c 9)) ∧ w'.cell? ⟨a1, 10, none⟩ = some (.int .i64 (c 10)) ∧ w'.cell? ⟨a1, 11, none⟩ = some (.int .i64 (c 11)) ∧ w'.cell? ⟨a1, 12, none⟩ = some (.int .i64 (c 12)) ∧ w'.cell? ⟨a1, 13, none⟩ = some (.int .i64 (c 13)) :=
  ⟨h.cell (i := 0) (by omega), h.cell (i := 1) (by omega), h.cell (i := 2) (by omega), h.cell (i := 3) (by omega), h.cell (i := 4) (by omega), h.cell (i := 5) (by omega), h.cell (i := 6) (by omega), h.cell (i := 7) (by omega), h.cell (i := 8) (by omega), h.cell (i := 9) (by omega), h.cell (i := 10) (by omega), h.cell (i := 11) (by omega), h.cell (i := 12) (by omega), h.cell (i := 13) (by omega)⟩
theorem conf_held {w w' : World} {a1 : Nat} {c : Nat → Int} (hb : Below a1 w w') (h : Row w' a1 24 14 (ints c)) : Below a1 w w' ∧ Row w' a1 24 14 (ints c) ∧ w'.cell? ⟨a1, 0, none⟩ = some (.int .i64 (c 0)) ∧ w'.cell? ⟨a1, 1, none⟩ = some (.int .i64 (c 1)) ∧ w'.cell? ⟨a1, 2, none⟩ = some (.int .i64 (c 2)) ∧ w'.cell? ⟨a1, 3, none⟩ = some (.int .i64 (c 3)) ∧ w'.cell? ⟨a1, 4, none⟩ = some (.int .i64 (c 4)) ∧ w'.cell? ⟨a1, 5, none⟩ = some (.int .i64 (c 5)) ∧ w'.cell? ⟨a1, 6, none⟩ = some (.int .i64 (c 6)) ∧ w'.cell? ⟨a1, 7, none⟩ = some (.int .i64 (c 7)) ∧ w'.cell? ⟨a1, 8, none⟩ = some (.int .i64 (c 8)) ∧ w'.cell? ⟨a1, 9, none⟩ = some (.int .i64 (c 9)) ∧ w'.cell? ⟨a1, 10, none⟩ = some (.int .i64 (c 10)) ∧ w'.cell? ⟨a1, 11, none⟩ = some (.int .i64 (c 11)) ∧ w'.cell? ⟨a1, 12, none⟩ = some (.int .i64 (c 12)) ∧ w'.cell? ⟨a1, 13, none⟩ = some (.int .i64 (c 13)) := ⟨hb, h, conf_cells h⟩
theorem fold14 (c : Nat → Int) : #[Value.int .i64 (c 0), Value.int .i64 (c 1), Value.int .i64 (c 2), Value.int .i64 (c 3), Value.int .i64 (c 4), Value.int .i64 (c 5), Value.int .i64 (c 6), Value.int .i64 (c 7), Value.int .i64 (c 8), Value.int .i64 (c 9), Value.int .i64 (c 10), Value.int .i64 (c 11), Value.int .i64 (c 12), Value.int .i64 (c 13)] = rowOf 14 (ints c) := rfl
theorem fold8 (c : Nat → Int) : #[Value.int .i64 (c 2), Value.int .i64 (c 3), Value.int .i64 (c 4), Value.int .i64 (c 5), Value.int .i64 (c 6), Value.int .i64 (c 7), Value.int .i64 (c 8), Value.int .i64 (c 9)] = rowOf 8 (fun i => ints c (2 + i)) := rfl

end Go.Proofs.YtdbankogamolcaaDoor
