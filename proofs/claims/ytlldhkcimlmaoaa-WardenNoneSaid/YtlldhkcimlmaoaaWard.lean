/- What a warden is: a block and a map; within, has, holds, slip. -/
import Derived.Test.YtlldhkcimlmaoaaSet
import Derived.Deep.DeepCutAuto
import Derived.Deep.RegionHeld3
import Derived.Deep.WholeRow
namespace Go.Proofs.Ytlldhkcimlmaoaa
open Go.ChangeShapes Go.WideShapes Go.ChangeAt Go.RowKit Go.Maps

/-- A warden: how many levels and slots; what is held; generations; slips. -/
structure Ward where
  levels : Nat
  slots : Nat
  held : Int → Int → Bool
  gen : Nat → Nat → Nat
  slips : Nat
/-- Its cells; what is held lies in the map of block m. -/
def wardV (m : Nat) (s : Ward) : Nat → Value
  | 0 => .int .i64 s.levels
  | 1 => .int .i64 s.slots
  | 2 => .map (some m)
  | i + 3 => bif decide (i < 244) then .int .i64 (s.gen (i / 61) (i % 61)) else .int .i64 s.slips
def ward0 (a b : Nat) : Ward := ⟨a, b, fun _ _ => false, fun _ _ => 0, 0⟩
/-- Is there such a slot? -/
def hasB (s : Ward) (a b : Int) : Bool := decide (0 ≤ a ∧ a < s.levels) && decide (1 ≤ b ∧ b ≤ s.slots)
/-- At most N calls were done. -/
structure OkW (s : Ward) (N : Nat) : Prop where
  l1 : 1 ≤ s.levels
  l4 : s.levels ≤ 4
  s1 : 1 ≤ s.slots
  s60 : s.slots ≤ 60
  in_ : ∀ a b, s.held a b = true → hasB s a b = true
  gens : ∀ l i, s.gen l i ≤ N
  slip : s.slips ≤ N
theorem hasB_iff {s : Ward} {a b : Int} : hasB s a b = true ↔ (0 ≤ a ∧ a < s.levels) ∧ 1 ≤ b ∧ b ≤ s.slots := by unfold hasB; simp
theorem hasB_no {s : Ward} {a b : Int} (h : hasB s a b = false) : ¬ ((0 ≤ a ∧ a < s.levels) ∧ 1 ≤ b ∧ b ≤ s.slots) := fun hc => by rw [hasB_iff.2 hc] at h; cases h
/-- A warden lies at g, what it holds in map m. -/
structure WardIs (w : World) (g m N : Nat) (s : Ward) : Prop where
  row : Row w g 53 248 (wardV m s)
  set : SetIs w m N s.held
theorem WardIs.ne {w : World} {g m N : Nat} {s : Ward} (h : WardIs w g m N s) : g ≠ m := h.set.ne h.row
def Two (g h : Nat) : Nat → Prop := fun i => i = g ∨ i = h
section
variable {w w' : World} {g m N : Nat} {s : Ward}
theorem WardIs.keep (h : WardIs w g m N s) (hb : Below w.heap.size w w') : WardIs w' g m N s := ⟨h.row.keep hb, h.set.keep hb⟩
theorem WardIs.only (h : WardIs w g m N s) {F : Nat → Prop} (ho : Only F w w') (hg : ¬ F g) (hm : ¬ F m) : WardIs w' g m N s := ⟨h.row.only ho hg, h.set.only ho hm⟩
theorem WardIs.cells (h : WardIs w g m N s) : w.cell? ⟨g, 0, none⟩ = some (.int .i64 s.levels) ∧ w.cell? ⟨g, 1, none⟩ = some (.int .i64 s.slots) ∧ w.cell? ⟨g, 2, none⟩ = some (.map (some m)) ∧ w.cell? ⟨g, 247, none⟩ = some (.int .i64 s.slips) :=
  ⟨h.row.cell (i := 0) (by omega), h.row.cell (i := 1) (by omega), h.row.cell (i := 2) (by omega), h.row.cell (i := 247) (by omega)⟩
theorem wardV_gen (m : Nat) (s : Ward) {l j : Nat} (hl : l < 4) (hj : j < 61) : wardV m s (3 + l * 61 + j) = .int .i64 (s.gen l j) := by
  have e : 3 + l * 61 + j = (l * 61 + j) + 3 := by omega
  rw [e]
  show (bif decide (l * 61 + j < 244) then Value.int .i64 (s.gen ((l * 61 + j) / 61) ((l * 61 + j) % 61)) else .int .i64 s.slips) = _
  rw [decide_eq_true (by omega : l * 61 + j < 244), show (l * 61 + j) / 61 = l by omega, show (l * 61 + j) % 61 = j by omega]
  rfl
theorem WardIs.gen (h : WardIs w g m N s) {l j : Nat} (hl : l < 4) (hj : j < 61) : w.cell? ⟨g, 3 + l * 61 + j, none⟩ = some (.int .i64 (s.gen l j)) := by
  rw [← wardV_gen m s hl hj]
  exact h.row.cell (by omega)
end

theorem zeroU (w : World) : (zeroValue 65).run Try.prog w = .ok (.agg #[]) w := by kernel_rfl
theorem wWithin_any (n a b : Int) (w : World) : Calls Try.prog 19 #[.int .i64 n, .int .i64 a, .int .i64 b] w fun e w' => e = .returned (.bool (decide (a ≤ n) && decide (n ≤ b))) ∧ w = w' := by
  by_cases h1 : a ≤ n
  · have d1 : (decide (a ≤ n) && decide (n ≤ b)) = decide (n ≤ b) := by rw [decide_eq_true h1]; rfl
    rw [d1]
    clear d1
    go_enter Try.func19, Try.ntmps19
    go_wp2_with fail
    go_ret
    exact ⟨rfl, rfl⟩
  · have d1 : (decide (a ≤ n) && decide (n ≤ b)) = false := by rw [decide_eq_false h1]; rfl
    rw [d1]
    clear d1
    go_enter Try.func19, Try.ntmps19
    go_wp2_with fail
    go_ret
    exact ⟨rfl, rfl⟩
theorem wHas_nil (a b : Int) (w : World) : Calls Try.prog 27 #[.pointer none, .int .i64 a, .int .i64 b] w fun e w' => e = .returned (.bool false) ∧ w = w' := by
  go_enter Try.func27, Try.ntmps27
  go_wp2_with fail
  go_ret
  exact ⟨rfl, rfl⟩
theorem wHolds_nil (a b : Int) (w : World) : Calls Try.prog 28 #[.pointer none, .int .i64 a, .int .i64 b] w fun e w' => e = .returned (.bool false) ∧ w = w' := by
  go_enter Try.func28, Try.ntmps28
  go_wp2_with fail
  go_ret
  exact ⟨rfl, rfl⟩
theorem wSlip_nil (w : World) : Calls Try.prog 29 #[.pointer none] w fun e w' => e = .returned (.bool false) ∧ w = w' := by
  go_enter Try.func29, Try.ntmps29
  go_wp2_with fail
  go_ret
  exact ⟨rfl, rfl⟩

theorem slip_row (m : Nat) (s : Ward) (i : Nat) (hi : i < 248) : (if i = 247 then Value.int .i64 ((s.slips : Nat) + 1) else wardV m s i) = wardV m ⟨s.levels, s.slots, s.held, s.gen, s.slips + 1⟩ i := by
  by_cases e : i = 247
  · subst e; rfl
  · rw [if_neg e]
    match i, hi, e with
    | 0, _, _ => rfl
    | 1, _, _ => rfl
    | 2, _, _ => rfl
    | j + 3, hi, e =>
      show (bif decide (j < 244) then _ else _) = (bif decide (j < 244) then _ else _)
      rw [decide_eq_true (by omega : j < 244)]
      rfl
section
variable (s : Ward) (N : Nat) (hs : OkW s N) (g m : Nat) (w : World) (hw : WardIs w g m N s)
include hs hw
theorem wHas_any (a b : Int) : Calls Try.prog 27 #[.pointer (some ⟨g, 0, none⟩), .int .i64 a, .int .i64 b] w fun e w' => e = .returned (.bool (hasB s a b)) ∧ w = w' := by
  obtain ⟨u0, u1, u2, u3⟩ := hw.cells
  have b0 := hs.l1
  have b1 := hs.l4
  have b2 := hs.s1
  have b3 := hs.s60
  by_cases h1 : 0 ≤ a ∧ a < s.levels
  · have e1 : hasB s a b = (decide (1 ≤ b) && decide (b ≤ s.slots)) := by unfold hasB; rw [decide_eq_true h1]; simp
    have e2 : (decide ((0 : Int) ≤ a) && decide (a ≤ (s.levels : Int) - 1)) = true := by simp; omega
    rw [e1]
    have E2 := Lib.hid e2
    clear e1 e2 h1 hs hw
    go_enter Try.func27, Try.ntmps27
    go_wp2_with (go_at_call 19; refine (wWithin_any _ _ _ _).mono ?_; rintro e w' ⟨rfl, rfl⟩; try rw [E2.out])
    go_ret
    exact ⟨rfl, rfl⟩
  · have e1 : hasB s a b = false := by unfold hasB; rw [decide_eq_false h1]; rfl
    have e2 : (decide ((0 : Int) ≤ a) && decide (a ≤ (s.levels : Int) - 1)) = false := by
      cases hq : decide ((0 : Int) ≤ a) && decide (a ≤ (s.levels : Int) - 1)
      · rfl
      · simp at hq; omega
    rw [e1]
    have E2 := Lib.hid e2
    clear e1 e2 h1 hs hw
    go_enter Try.func27, Try.ntmps27
    go_wp2_with (go_at_call 19; refine (wWithin_any _ _ _ _).mono ?_; rintro e w' ⟨rfl, rfl⟩; try rw [E2.out])
    go_ret
    exact ⟨rfl, rfl⟩
theorem wHolds_any (a b : Int) (ha : inI a) (hb : inI b) : Calls Try.prog 28 #[.pointer (some ⟨g, 0, none⟩), .int .i64 a, .int .i64 b] w fun e w' => e = .returned (.bool (s.held a b)) ∧ Below w.heap.size w w' := by
  obtain ⟨u0, u1, u2, u3⟩ := hw.cells
  obtain ⟨D, hown, hD⟩ := hw.set
  have h0 := hs.l1
  clear h0
  rw [← hD a b ha hb]
  have hkey := Lib.hid (keyOf_place a b ha hb)
  have ho := Lib.hid hown
  clear hs hw hD hown
  go_enter Try.func28, Try.ntmps28
  go_wp2_with (at_lookup; refine wpList_lookup_own_unit _ rfl _ _ 49 rfl 64 65 placeLaw Try.underlying49 (zeroU _) m N D rfl ho.out _ _ rfl hkey.out ?_)
  go_ret
  exact ⟨rfl, (Below.refl _ _).alloc (Nat.le_refl _) _⟩
theorem wSlip_any (hN : N < 1000000) : Calls Try.prog 29 #[.pointer (some ⟨g, 0, none⟩)] w fun e w' => e = .returned (.bool false) ∧ WardIs w' g m N ⟨s.levels, s.slots, s.held, s.gen, s.slips + 1⟩ ∧ Only (Two g m) w w' := by
  obtain ⟨u0, u1, u2, u3⟩ := hw.cells
  have v3 := hw.row.frozen 247
  have b3 := hs.slip
  have HW := Lib.hid hw
  clear hs hw
  go_enter Try.func29, Try.ntmps29
  go_wp2_with fail
  go_ret
  refine ⟨rfl, ⟨?_, HW.out.set.setCell HW.out.ne.symm _⟩, (Only.refl _ w).setCell (.inl rfl) _⟩
  exact (HW.out.row.set_ 247 _).congr fun i hi => slip_row m s i hi
end
end Go.Proofs.Ytlldhkcimlmaoaa
