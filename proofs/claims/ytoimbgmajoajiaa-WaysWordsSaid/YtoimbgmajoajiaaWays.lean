/- What a set of ways is in memory: ten cells; and what package ways' small functions answer. -/
import Derived.Test.YtoimbgmajoajiaaRow
import Derived.Test.YtoimbgmajoajiaaWord
import Derived.Test.YtoimbgmajoajiaaField
import Derived.Deep.WholeRow
import Derived.Deep.RegionHeld3
import Derived.Deep.DeepCutAuto
import Derived.IntWalk
namespace Go.Proofs.Ytoimbgmajoajiaa
open Go.ChangeShapes Go.WideShapes Go.ChangeAt Go.RowKit

/-- A set of ways. -/
structure WS where
  slot : Nat → Int
  tch : Nat → Bool
  hand : Int
  turns : Nat
def setV (s : WS) (i : Nat) : Value := if i < 8 then (if i % 2 = 0 then .int .i64 (s.slot (i / 2)) else .bool (s.tch (i / 2))) else if i = 8 then .int .i64 s.hand else .int .u64 (s.turns : Nat)
def zeroS : WS := ⟨fun _ => 0, fun _ => false, 0, 0⟩
structure OkS (s : WS) : Prop where
  slot : ∀ i, -9223372036854775808 ≤ s.slot i ∧ s.slot i ≤ 9223372036854775807
  hand : -9223372036854775808 ≤ s.hand ∧ s.hand ≤ 9223372036854775807
  turns : s.turns < 18446744073709551616
theorem okZero : OkS zeroS := ⟨fun _ => ⟨by show (-9223372036854775808 : Int) ≤ 0; omega, by show (0 : Int) ≤ _; omega⟩, ⟨by show (-9223372036854775808 : Int) ≤ 0; omega, by show (0 : Int) ≤ _; omega⟩, by show 0 < _; omega⟩
theorem setV_slot (s : WS) (k : Nat) (h : k < 4) : setV s (k * 2) = .int .i64 (s.slot k) := by
  unfold setV; rw [if_pos (by omega), if_pos (by omega), show k * 2 / 2 = k by omega]
theorem setV_tch (s : WS) (k : Nat) (h : k < 4) : setV s (k * 2 + 1) = .bool (s.tch k) := by
  unfold setV; rw [if_pos (by omega), if_neg (by omega), show (k * 2 + 1) / 2 = k by omega]
theorem setV_one (n : Nat) (s : WS) : (rowOf n (setV s)).all (·.oneCell') = true := rowOf_one fun i => by
  unfold setV; split
  · split <;> rfl
  · split <;> rfl
theorem fold10 (s : WS) : #[Value.int .i64 (s.slot 0), .bool (s.tch 0), .int .i64 (s.slot 1), .bool (s.tch 1), .int .i64 (s.slot 2), .bool (s.tch 2), .int .i64 (s.slot 3), .bool (s.tch 3), .int .i64 s.hand, .int .u64 (s.turns : Nat)] = rowOf 10 (setV s) := rfl
/-- What a walk reads of a set that lies in a block of its own. -/
theorem set_cells {w : World} {g : Nat} {t : TypeId} {s : WS} (h : Row w g t 10 (setV s)) :
    w.cell? ⟨g, 0, none⟩ = some (.int .i64 (s.slot 0)) ∧ w.cell? ⟨g, 1, none⟩ = some (.bool (s.tch 0)) ∧ w.cell? ⟨g, 2, none⟩ = some (.int .i64 (s.slot 1)) ∧ w.cell? ⟨g, 3, none⟩ = some (.bool (s.tch 1)) ∧ w.cell? ⟨g, 4, none⟩ = some (.int .i64 (s.slot 2)) ∧ w.cell? ⟨g, 5, none⟩ = some (.bool (s.tch 2)) ∧ w.cell? ⟨g, 6, none⟩ = some (.int .i64 (s.slot 3)) ∧ w.cell? ⟨g, 7, none⟩ = some (.bool (s.tch 3)) ∧ w.cell? ⟨g, 8, none⟩ = some (.int .i64 s.hand) ∧ w.cell? ⟨g, 9, none⟩ = some (.int .u64 (s.turns : Nat)) :=
  ⟨h.cell (i := 0) (by omega), h.cell (i := 1) (by omega), h.cell (i := 2) (by omega), h.cell (i := 3) (by omega), h.cell (i := 4) (by omega), h.cell (i := 5) (by omega), h.cell (i := 6) (by omega), h.cell (i := 7) (by omega), h.cell (i := 8) (by omega), h.cell (i := 9) (by omega)⟩
theorem set_slot_at {w : World} {g : Nat} {t : TypeId} {s : WS} (h : Row w g t 10 (setV s)) (k : Nat) (hk : k < 4) : w.cell? ⟨g, k * 2, none⟩ = some (.int .i64 (s.slot k)) := by rw [h.cell (i := k * 2) (by omega), setV_slot s k hk]
theorem set_tch_at {w : World} {g : Nat} {t : TypeId} {s : WS} (h : Row w g t 10 (setV s)) (k : Nat) (hk : k < 4) : w.cell? ⟨g, k * 2 + 1, none⟩ = some (.bool (s.tch k)) := by rw [h.cell (i := k * 2 + 1) (by omega), setV_tch s k hk]
theorem setV_congr {s t : WS} (h1 : ∀ k, k < 4 → s.slot k = t.slot k) (h2 : ∀ k, k < 4 → s.tch k = t.tch k) (h3 : s.hand = t.hand) (h4 : s.turns = t.turns) (i : Nat) : setV s i = setV t i := by
  unfold setV
  by_cases hi : i < 8
  · rw [if_pos hi, if_pos hi, h1 _ (by omega), h2 _ (by omega)]
  · rw [if_neg hi, if_neg hi, h3, h4]

def isB (i : Int) : Bool := decide (0 ≤ i) && decide (i < 4)
theorem isB_yes {i : Int} (h : 0 ≤ i ∧ i < 4) : isB i = true := by simp [isB, h.1, h.2]
theorem isB_no {i : Int} (h : ¬ (0 ≤ i ∧ i < 4)) : isB i = false := by
  cases hb : isB i
  · rfl
  · exact absurd (by simpa [isB] using hb) h
theorem yIs_any (i : Int) (w : World) : Calls Try.prog 25 #[.int .i64 i] w fun e w' => e = .returned (.bool (isB i)) ∧ w = w' := by
  have H : Hid (isB i = (decide (0 ≤ i) && decide (i < 4))) := Lib.hid rfl
  by_cases h1 : 0 ≤ i
  · by_cases h2 : i < 4
    · go_enter Try.func25, Try.ntmps25
      go_wp2
      go_ret
      exact ⟨by rw [H.out]; simp [h1, h2], rfl⟩
    · go_enter Try.func25, Try.ntmps25
      go_wp2
      go_ret
      exact ⟨by rw [H.out]; simp [h1, h2], rfl⟩
  · go_enter Try.func25, Try.ntmps25
    go_wp2
    go_ret
    exact ⟨by rw [H.out, decide_eq_false (by omega), Bool.false_and]; rfl, rfl⟩
theorem yBehind_any (k : Nat) (hk : k < 4) (w : World) : Calls Try.prog 29 #[.int .i64 (k : Nat)] w fun e w' => e = .returned (.int .i64 ((k + 1) % 4 : Nat)) ∧ w = w' := by
  go_enter Try.func29, Try.ntmps29
  go_wp2
  go_ret
  exact ⟨retI (by first | omega | rfl), rfl⟩
theorem yWith_any (x : Nat) (hx : x < 18446744073709551616) (a s : Int) (ha : -9223372036854775808 ≤ a ∧ a ≤ 9223372036854775807) (hs : -9223372036854775808 ≤ s ∧ s ≤ 9223372036854775807) (n : Int) (hn : -9223372036854775808 ≤ n ∧ n ≤ 9223372036854775807) (w : World) :
    Calls Try.prog 19 #[.int .u64 x, .int .i64 a, .int .i64 s, .int .i64 n] w fun e w' => e = .returned (.int .u64 (setN x a s (n % 18446744073709551616).toNat)) ∧ w = w' := by
  obtain ⟨m, h1, h2, h3⟩ := wrap_nat n
  have H1 := Lib.hid h1; clear h1
  rw [← h2]
  clear h2
  go_enter Try.func19, Try.ntmps19
  go_wp2_with fail
  refine (fBits_any _ hn _).mono ?_; rintro e w' ⟨rfl, rfl⟩; rw [H1.out]
  go_wp2_with fail
  refine (fSet_any x hx _ _ ha hs _ h3 _).mono ?_; rintro e w' ⟨rfl, rfl⟩
  go_wp2_with fail
  go_ret
  exact ⟨rfl, rfl⟩
theorem yPart_any (x : Nat) (hx : x < 18446744073709551616) (a s : Nat) (h : a + s ≤ 64) (h8 : s ≤ 8) (w : World) :
    Calls Try.prog 22 #[.int .u64 x, .int .i64 (a : Nat), .int .i64 (s : Nat)] w fun e w' => e = .returned (.int .i64 (x / pw a % pw s : Nat)) ∧ w = w' := by
  have H := Lib.hid (cutN_div hx (a := a) (z := s) (by omega) (by omega) (by omega))
  have hb : x / pw a % pw s < 256 := Nat.lt_of_lt_of_le (Nat.mod_lt _ (pw_pos _)) (pw_le (k := 8) h8)
  have ha := (show -9223372036854775808 ≤ (a : Int) ∧ (a : Int) ≤ 9223372036854775807 by omega)
  have hs := (show -9223372036854775808 ≤ (s : Int) ∧ (s : Int) ≤ 9223372036854775807 by omega)
  have c := Lib.hid (fun W => fCut_any x hx a s ha hs W)
  rw [H.out, Int.toNat_natCast, Int.toNat_natCast] at c
  clear H
  generalize x / pw a % pw s = m at *
  go_enter Try.func22, Try.ntmps22
  go_wp2_with fail
  refine (c.out _).mono ?_; rintro e w' ⟨rfl, rfl⟩
  go_wp2_with fail
  go_ret
  exact ⟨rfl, rfl⟩
end Go.Proofs.Ytoimbgmajoajiaa
