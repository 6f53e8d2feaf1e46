/- Are texts more than are gone through? -/
import Derived.Test.YtgbgemgpdaclaaaDoorOpenErr
namespace Go.Proofs.YtgbgemgpdaclaaaDoor
open Go.ChangeShapes Go.WideShapes Go.RowKit
set_option maxHeartbeats 4000000 in
theorem great_any (A : Option Addr) (n cA : Nat) (e : ErrS) (hs : OkS e n) (w : World) (hr : RowIs w A n (fun i => .string (sB (e.notes i)))) : Calls Tryd.prog 6 #[.agg (rowOf 5 (errV (.slice A n cA) e))] w
    fun r w' => ((r = .returned (.bool false) ∧ OkE e n) ∨ r = .returned (.bool true)) ∧ Below w.heap.size w w' := by
  go_enter Tryd.func6, Tryd.ntmps6
  go_upto_region 1 with fail
  generalize hW : World.alloc _ _ = W
  have hx : Row W w.heap.size 25 5 (errV (.slice A n cA) e) := by rw [← hW]; exact Row.new _ _ _ _ _ rfl
  have hB : Below w.heap.size w W := by rw [← hW]; exact (Below.refl _ _).alloc (Nat.le_refl _) _
  clear hW
  have HR := Lib.hid (hr.below hB)
  have HB := Lib.hid hB; have HE := Lib.hid hs
  have n40 := hs.n40
  unfold maxLen at n40
  generalize hz : w.heap.size = a1 at *
  have HZ := Lib.hid hz
  clear hz
  obtain ⟨u0, u1, u2, u3, u4⟩ := err_cells hx
  clear hx hB hr hs
  go_wp2_with fail
  go_loop [3] (fun i => ∃ q : Nat, i = .int .i64 q ∧ q ≤ n ∧ q ≤ 50 ∧ ∀ k, k < q → (e.notes k).length ≤ 200) (fun i => n - (intOf i).toNat)
  case atStart => exact ⟨0, rfl, Nat.zero_le _, Nat.zero_le _, fun k hk => absurd hk (by omega)⟩
  case round =>
    obtain ⟨q, rfl, hq, hq5, hall⟩ := hrel
    have HALL := Lib.hid hall; clear hall
    by_cases hlt : q < n
    · have t2 : decide (q < n) = true := by simp [hlt]
      by_cases h5 : q < 50
      · have t5 : ((q : Nat) : Int) < 50 := by omega
        obtain ⟨b, off, rfl, hb', hx⟩ := HR.out (by omega)
        have v0 : W.cell? ⟨b, off + q, none⟩ = some (.string (sB (e.notes q))) := hx q hlt
        have E1 := Lib.hid (sB_size (e.notes q))
        clear hx
        generalize sB (e.notes q) = r1 at *
        by_cases hbig : 200 < r1.size
        · have t6 : (200 : Int) < ((r1.size : Nat) : Int) := by omega
          go_wp2_with fail
          go_ret
          exact ⟨Or.inr rfl, by rw [HZ.out]; exact HB.out⟩
        · have t6 : ¬ (200 : Int) < ((r1.size : Nat) : Int) := by omega
          have t7 : decide (200 < r1.size) = false := by simp; omega
          go_wp2_with fail
          go_round
          case rel =>
            refine ⟨q + 1, by go_num, by omega, by omega, fun k hk => ?_⟩
            by_cases hk' : k = q
            · rw [hk', ← E1.out]; omega
            · exact HALL.out k (by omega)
          case measure => simp [intOf]; omega
      · have t5 : ¬ ((q : Nat) : Int) < 50 := by omega
        have t6 : (40 : Int) < ((n : Nat) : Int) := by omega
        go_wp2_with fail
        go_ret
        exact ⟨Or.inr rfl, by rw [HZ.out]; exact HB.out⟩
    · have t2 : decide (q < n) = false := by simp; omega
      obtain rfl : q = n := by omega
      by_cases h40 : 40 < q
      · have t6 : (40 : Int) < ((q : Nat) : Int) := by omega
        go_wp2_with fail
        go_ret
        exact ⟨Or.inr rfl, by rw [HZ.out]; exact HB.out⟩
      · have t6 : ¬ (40 : Int) < ((q : Nat) : Int) := by omega
        have EW := Lib.hid (sB_size e.what)
        generalize sB e.what = r3 at *
        by_cases h200 : 200 < r3.size
        · have t7 : (200 : Int) < ((r3.size : Nat) : Int) := by omega
          go_wp2_with fail
          go_ret
          exact ⟨Or.inr rfl, by rw [HZ.out]; exact HB.out⟩
        · have t7 : ¬ (200 : Int) < ((r3.size : Nat) : Int) := by omega
          have t8 : decide (200 < r3.size) = false := by simp; omega
          go_wp2_with fail
          go_ret
          exact ⟨Or.inl ⟨rfl, HE.out.okE (by rw [← EW.out]; omega) (by omega) HALL.out⟩, by rw [HZ.out]; exact HB.out⟩
end Go.Proofs.YtgbgemgpdaclaaaDoor
