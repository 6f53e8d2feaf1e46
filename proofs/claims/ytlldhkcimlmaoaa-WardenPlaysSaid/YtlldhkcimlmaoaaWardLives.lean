/- What each law of layer 7 asks besides: the chapter's example; and the law on a warden that isn't there. -/
import Derived.Test.YtlldhkcimlmaoaaWardNew
import Derived.Test.YtlldhkcimlmaoaaOpenRecs
namespace Go.Proofs.Ytlldhkcimlmaoaa
set_option linter.unusedVariables false
open Go.ChangeShapes Go.WideShapes Go.ChangeAt Go.RowKit Go.Maps

theorem ward0_ok {a b : Nat} (h : sizeB a b = true) : OkW (ward0 a b) 0 := by
  unfold sizeB at h
  simp only [Bool.and_eq_true, decide_eq_true_eq] at h
  exact ⟨by show 1 ≤ a; omega, by show a ≤ 4; omega, by show 1 ≤ b; omega, by show b ≤ 60; omega, (fun _ _ hx => by cases hx), fun _ _ => Nat.le_refl _, Nat.le_refl _⟩
theorem below_two {w w1 w2 : World} {g h B : Nat} (hb : Below B w w1) (hB : B ≤ w.heap.size) (ho : Only (Two g h) w1 w2) (hg : B ≤ g) (hh : B ≤ h) : Below B w w2 :=
  Below.only hb ho (Nat.le_trans hB hb.size) (fun i hi => by rcases hi with rfl | rfl <;> assumption)

set_option maxHeartbeats 1000000 in
theorem wLives (w : World) : Calls Try.prog 7 #[] w fun e w' => e = .returned (.bool true) ∧ Below w.heap.size w w' := by
  have i0 : inI 0 := by unfold inI; omega
  have i3 : inI 3 := by unfold inI; omega
  have C1 : Hid (∀ W, Calls Try.prog 6 #[.int .i64 1, .int .i64 5] W fun e w' => NewWard W w' e 0 (ward0 1 5)) := Lib.hid fun W => wNew_yes 1 5 rfl W
  have h0 : OkW (ward0 1 5) 0 := ward0_ok rfl
  obtain ⟨s0, e0⟩ : ∃ s, s = ward0 1 5 := ⟨_, rfl⟩
  obtain ⟨s1, e1⟩ : ∃ s, s = takeW s0 0 3 := ⟨_, rfl⟩
  obtain ⟨s2, e2⟩ : ∃ s, s = dropW s1 0 3 := ⟨_, rfl⟩
  obtain ⟨s3, e3⟩ : ∃ s, s = dropW s2 0 3 := ⟨_, rfl⟩
  rw [← e0] at h0 C1
  have h1 : OkW s1 1 := by rw [e1]; exact okW_take h0 0 3
  have h2 : OkW s2 2 := by rw [e2]; exact okW_drop h1 0 3
  have v0 : takeB s0 0 3 = true := by rw [e0]; rfl
  have v1 : s1.held 0 3 = true := by rw [e1, e0]; rfl
  have v2 : linkV s2 0 3 = 259 := by rw [e2, e1, e0]; rfl
  have v3 : s2.held 0 3 = false := by rw [e2, e1, e0]; rfl
  have v4 : s3.slips = 1 := by rw [e3, e2, e1, e0]; rfl
  have C2 := fun g m W hm => wTake_any s0 0 h0 (by omega) g m W hm 0 3 i0 i3
  rw [← e1, v0] at C2
  have C3 := fun g m W hm => wDrop_any s1 1 h1 (by omega) g m W hm 0 3 i0 i3
  rw [← e2, v1] at C3
  have C4 := fun g m W hm => wLink_any s2 2 h2 g m W hm (by omega) 0 3 i0 i3
  rw [v2] at C4
  have C5 := fun g m W hm => wDrop_any s2 2 h2 (by omega) g m W hm 0 3 i0 i3
  rw [← e3, v3] at C5
  have C6 := fun g m W hm => wSlips_any s3 3 g m W hm
  rw [v4] at C6
  have H2 := Lib.hid C2; have H3 := Lib.hid C3; have H4 := Lib.hid C4; have H5 := Lib.hid C5; have H6 := Lib.hid C6
  clear C2 C3 C4 C5 C6 v0 v1 v2 v3 v4 e0 e1 e2 e3 h0 h1 h2 i0 i3
  go_enter Try.func7, Try.ntmps7
  go_wp2_with (first | (go_at_call 6; refine (C1.out _).mono ?_; rintro e w1 ⟨g, m, rfl, hm1, hb1, hg, hh⟩) | (go_at_call 13; refine (H2.out _ _ _ hm1).mono ?_; rintro e w2 ⟨rfl, hm2, ho2⟩) | (go_at_call 14; refine (H3.out _ _ _ hm2).mono ?_; rintro e w3 ⟨rfl, hm3, ho3⟩) | (go_at_call 16; refine (H4.out _ _ _ hm3).mono ?_; rintro e w' ⟨rfl, rfl⟩) | (go_at_call 14; refine (H5.out _ _ _ hm3).mono ?_; rintro e w4 ⟨rfl, hm4, ho4⟩) | (go_at_call 18; refine (H6.out _ _ _ hm4).mono ?_; rintro e w' ⟨rfl, rfl⟩))
  go_ret
  exact ⟨rfl, below_two hb1 (Nat.le_refl _) ((ho2.trans ho3).trans ho4) hg hh⟩

/-- What is done: Take, or not; where. -/
structure OpW where
  t : Bool
  l : Int
  s : Int
def opV (o : OpW) : Nat → Value
  | 0 => .bool o.t
  | 1 => .int .i64 o.l
  | _ => .int .i64 o.s
def OkOp (o : OpW) : Prop := inI o.l ∧ inI o.s
theorem opV_cells {w : World} {g : Nat} {t : TypeId} {o : OpW} (hr : Row w g t 3 (opV o)) : w.cell? ⟨g, 0, none⟩ = some (.bool o.t) ∧ w.cell? ⟨g, 1, none⟩ = some (.int .i64 o.l) ∧ w.cell? ⟨g, 2, none⟩ = some (.int .i64 o.s) :=
  ⟨hr.cell (i := 0) (by omega), hr.cell (i := 1) (by omega), hr.cell (i := 2) (by omega)⟩

set_option maxHeartbeats 1000000 in
theorem wardenNone_walk (o : OpW) (ho : OkOp o) (x : Nat) (hx : x < 18446744073709551616) (w : World) : Calls Try.prog 4 #[.agg (rowOf 3 (opV o)), .int .u64 x] w fun e w' => e = .returned (.bool true) ∧ Below w.heap.size w w' := by
  have C1 := Lib.hid fun W => wTake_nil o.l o.s W
  have C2 := Lib.hid fun W => wDrop_nil o.l o.s W
  have C3 := Lib.hid fun W => wLeads_nil o.l x hx W
  have C4 := Lib.hid fun W => wLink_nil o.l o.s W
  have C5 := Lib.hid fun W => wHeld_nil o.l W
  have C6 := Lib.hid fun W => wSlips_nil W
  have C7 := Lib.hid fun W => wClone_nil W
  have C8 := Lib.hid fun W => wLives W
  go_enter Try.func4, Try.ntmps4
  go_upto_region 1 with fail
  generalize hW : World.alloc _ _ = W
  have hr : Row W w.heap.size 35 3 (opV o) := by rw [← hW]; exact Row.new _ _ _ _ _ rfl
  have hB : Below w.heap.size w W := by rw [← hW]; exact (Below.refl _ _).alloc (Nat.le_refl _) _
  clear hW
  generalize hz : w.heap.size = a1 at *
  have HZ := Lib.hid hz; clear hz
  obtain ⟨o0, o1, o2⟩ := opV_cells hr
  have HB := Lib.hid hB
  clear hr hB
  go_wp2_with (first | (go_at_call 13; refine (C1.out _).mono ?_; rintro e w' ⟨rfl, rfl⟩) | (go_at_call 14; refine (C2.out _).mono ?_; rintro e w' ⟨rfl, rfl⟩) | (go_at_call 15; refine (C3.out _).mono ?_; rintro e w' ⟨rfl, rfl⟩) | (go_at_call 16; refine (C4.out _).mono ?_; rintro e w' ⟨rfl, rfl⟩) | (go_at_call 17; refine (C5.out _).mono ?_; rintro e w' ⟨rfl, rfl⟩) | (go_at_call 18; refine (C6.out _).mono ?_; rintro e w' ⟨rfl, rfl⟩) | (go_at_call 12; refine (C7.out _).mono ?_; rintro e w' ⟨rfl, rfl⟩) | (go_at_call 7; refine (C8.out _).mono ?_; rintro e w2 ⟨rfl, hb2⟩))
  go_ret
  exact ⟨rfl, by rw [HZ.out]; exact below_on HB.out (Nat.le_of_eq HZ.out.symm) hb2⟩
end Go.Proofs.Ytlldhkcimlmaoaa
