/- Statement FieldSets of layer 1, walked: it returns true, and turns nothing that was there. -/
import Derived.Test.YtlflhhdcakcioaaFieldLaws
namespace Go.Proofs.Ytlflhhdcakcioaa
open Go.ChangeShapes Go.WideShapes Go.ChangeAt Go.RowKit

theorem turn_is_set (x : Nat) (b : Int) (on : Bool) : setN x b 1 on.toNat = turnN x b on := by
  refine bitsOf_congr _ (fun i hi => ?_)
  unfold inPart
  by_cases e : (i : Int) = b
  · subst e
    rw [if_pos (by simp; omega), if_pos rfl]
    cases on <;> simp [bitAt]
  · rw [if_neg (by simp; omega), if_neg e]
theorem set_one (x : Nat) (hx : x < 18446744073709551616) (a : Int) (ha : -9000000000000000000 ≤ a ∧ a ≤ 9223372036854775807) (w : World) :
    Calls Try.prog 18 #[.int .u64 x, .int .i64 a, .int .i64 1, .int .u64 1] w fun e w' => e = .returned (.int .u64 (turnN x a true)) ∧ w = w' := by
  have h := refSet_any x hx a 1 ha (by omega) 1 (by omega) w
  rw [show setN x a 1 1 = turnN x a true from turn_is_set x a true] at h
  exact h
theorem set_zero (x : Nat) (hx : x < 18446744073709551616) (a : Int) (ha : -9000000000000000000 ≤ a ∧ a ≤ 9223372036854775807) (w : World) :
    Calls Try.prog 18 #[.int .u64 x, .int .i64 a, .int .i64 1, .int .u64 0] w fun e w' => e = .returned (.int .u64 (turnN x a false)) ∧ w = w' := by
  have h := refSet_any x hx a 1 ha (by omega) 0 (by omega) w
  rw [show setN x a 1 0 = turnN x a false from turn_is_set x a false] at h
  exact h

theorem set_far (x : Nat) (hx : x < 18446744073709551616) (a s : Int) (n : Nat) (h : 64 ≤ a) : setN x a s n = x := by
  unfold setN
  rw [eq_bitsOf (n := 64) hx]
  refine bitsOf_congr _ (fun i hi => ?_)
  rw [if_neg (by unfold inPart; simp; omega), ← eq_bitsOf (n := 64) hx]
theorem turn_far (x : Nat) (hx : x < 18446744073709551616) (a : Int) (h : 64 ≤ a) : turnN x a true = x := by
  unfold turnN
  rw [eq_bitsOf (n := 64) hx]
  refine bitsOf_congr _ (fun i hi => ?_)
  rw [if_neg (by omega), ← eq_bitsOf (n := 64) hx]

theorem fieldSets_walk (x : Nat) (hx : x < 18446744073709551616) (n : Nat) (hn : n < 18446744073709551616) (a s : Int) (ha : -9223372036854775808 ≤ a ∧ a ≤ 9223372036854775807) (hs : -9223372036854775808 ≤ s ∧ s ≤ 9223372036854775807) (w : World) :
    Calls Try.prog 4 #[.int .u64 x, .int .u64 n, .agg #[.int .i64 a, .int .i64 s]] w fun e w' => e = .returned (.bool true) ∧ Below w.heap.size w w' := by
  cases hf : farB a s
  · have Hf := Lib.hid hf
    have hr : -1000 ≤ a ∧ a ≤ 1000 ∧ -1000 ≤ s ∧ s ≤ 1000 := by unfold farB at hf; simp at hf; omega
    clear hf
    go_enter Try.func4, Try.ntmps4
    go_wp2_with fail
    (go_at_call 8; refine (far_any _ _ (by omega) (by omega) _).mono ?_; rintro e w' ⟨rfl, rfl⟩; rw [Hf.out])
    go_wp2_with fail
    refine (set_one x hx a (by omega) _).mono ?_; rintro e w' ⟨rfl, rfl⟩
    go_wp2_with fail
    refine (set_zero x hx a (by omega) _).mono ?_; rintro e w' ⟨rfl, rfl⟩
    go_wp2_with fail
    have hb0 : (w.alloc (.cells #[.int .i64 a, .int .i64 s] 30)).cell? ⟨w.heap.size, 0, none⟩ = some (.int .i64 a) := (Own.new w #[.int .i64 a, .int .i64 s] 30 (fun i => if i = 0 then .int .i64 a else .int .i64 s) 2 rfl (fun i hi => by
      match i, hi with
      | 0, _ => rfl
      | 1, _ => rfl)).cell (by omega)
    have hb1 : (w.alloc (.cells #[.int .i64 a, .int .i64 s] 30)).cell? ⟨w.heap.size, 1, none⟩ = some (.int .i64 s) := (Own.new w #[.int .i64 a, .int .i64 s] 30 (fun i => if i = 0 then .int .i64 a else .int .i64 s) 2 rfl (fun i hi => by
      match i, hi with
      | 0, _ => rfl
      | 1, _ => rfl)).cell (by omega)
    have hbw : Below w.heap.size w (w.alloc (.cells #[.int .i64 a, .int .i64 s] 30)) := (Below.refl _ _).alloc (Nat.le_refl _) _
    have hsz : w.heap.size < (w.alloc (.cells #[.int .i64 a, .int .i64 s] 30)).heap.size := by simp
    generalize w.alloc (.cells #[.int .i64 a, .int .i64 s] 30) = w2 at *
    generalize hg : w.heap.size = g at *
    have Hg := Lib.hid hg; clear hg
    go_region_held3 (fun w' => w'.cell? ⟨g, 0, none⟩ = some (.int .i64 a) ∧ w'.cell? ⟨g, 1, none⟩ = some (.int .i64 s)) (first | go_keep | exact ⟨by rw [hb.cell hsz]; exact hb0, by rw [hb.cell hsz]; exact hb1⟩)
      (first | (go_at_call 16; refine (fSet_any _ (by assumption) _ _ (by omega) (by omega) _ (by assumption) _).mono ?_; rintro e w' ⟨rfl, rfl⟩) | (go_at_call 18; refine (refSet_any _ (by assumption) _ _ (by omega) (by omega) _ (by assumption) _).mono ?_; rintro e w' ⟨rfl, rfl⟩) | (go_at_call 17; refine (fTurn_any _ (by assumption) _ (by omega) _ _).mono ?_; rintro e w' ⟨rfl, rfl⟩) | (go_at_call 11; refine (lives_any _).mono ?_; rintro e w' ⟨rfl, hb⟩))
    go_wp2
    go_ret
    exact ⟨rfl, by rw [Hg.out]; exact hbw.trans ((Below.refl _ _).drew.trans (hb.mono (by simp; omega)))⟩
  · have Hf := Lib.hid hf; clear hf
    by_cases h4 : a < 64
    all_goals
      first | have hd : decide (a < 64) = true := decide_eq_true h4 | have hd : decide (a < 64) = false := decide_eq_false h4
      have Hs : Hid (64 ≤ a → setN x a s n = x) := Lib.hid (fun h => set_far x hx a s n h)
      have Ht : Hid (64 ≤ a → turnN x a true = x) := Lib.hid (fun h => turn_far x hx a h)
      have hbw : ∀ t, Below w.heap.size w (w.alloc (.cells #[.int .i64 a, .int .i64 s] t)) := fun t => (Below.refl _ _).alloc (Nat.le_refl _) _
      have Hb := Lib.hid hbw; clear hbw
      go_enter Try.func4, Try.ntmps4
      go_wp2_with (first | (go_at_call 8; refine (far_any _ _ (by omega) (by omega) _).mono ?_; rintro e w' ⟨rfl, rfl⟩; rw [Hf.out]) | (go_at_call 16; refine (fSet_any _ (by assumption) _ _ (by omega) (by omega) _ (by assumption) _).mono ?_; rintro e w' ⟨rfl, rfl⟩; rw [Hs.out (by omega)]) | (go_at_call 17; refine (fTurn_any _ (by assumption) _ (by omega) _ _).mono ?_; rintro e w' ⟨rfl, rfl⟩; rw [Ht.out (by omega)]) | (go_at_call 11; refine (lives_any _).mono ?_; rintro e w' ⟨rfl, hb⟩))
      all_goals first | (exfalso; omega) | (go_ret; exact ⟨rfl, (Hb.out _).trans (hb.mono (by simp))⟩)
end Go.Proofs.Ytlflhhdcakcioaa
