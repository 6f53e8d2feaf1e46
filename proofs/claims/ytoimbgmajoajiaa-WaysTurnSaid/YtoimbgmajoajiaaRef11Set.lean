/- A way of a set becomes another one, as the document has it. -/
import Derived.Test.YtoimbgmajoajiaaWaysTurn
namespace Go.Proofs.Ytoimbgmajoajiaa
open Go.ChangeShapes Go.WideShapes Go.ChangeAt Go.RowKit

set_option maxRecDepth 100000 in
set_option maxHeartbeats 1000000 in
theorem rSet11_any (s : WS) (hs : OkS s) (i : Int) (hi : -9223372036854775808 ≤ i ∧ i ≤ 9223372036854775807) (x : Int) (_hx : -9223372036854775808 ≤ x ∧ x ≤ 9223372036854775807) (b : Bool) (w : World) :
    Calls Try.prog 12 #[.agg (rowOf 10 (setV s)), .int .i64 i, .agg #[.int .i64 x, .bool b]] w fun e w' => e = .returned (.agg (rowOf 10 (setV (changeS s i x b)))) ∧ Below w.heap.size w w' := by
  have ht := hs.turns
  by_cases h : 0 ≤ i ∧ i < 4
  · obtain ⟨k, rfl⟩ := Int.eq_ofNat_of_zero_le h.1
    have hk : k < 4 := by omega
    rw [changeS_yes s k hk]
    have hn : Hid (IntKind.u64.wrap ((s.turns : Int) + 1) = (((s.turns + 1) % 18446744073709551616 : Nat) : Int)) := Lib.hid (by rw [IntKind.wrap_u64]; omega)
    have q0 : (0 : Int) ≤ (k : Int) := by omega
    have q1 : (k : Int) < 4 := by omega
    have q2 : (k : Int) ≤ 3 := by omega
    clear h hi
    go_enter Try.func12, Try.ntmps12
    go_upto_region 1 with fail
    generalize hW : World.alloc _ _ = W
    obtain ⟨hB, r1, r2, r3⟩ := three_blocks w 33 30 33 10 2 10 (setV s) (fun i => if i = 0 then .int .i64 x else .bool b) (setV zeroS) W hW
    clear hW
    generalize hz : w.heap.size = a1 at *
    have HZ := Lib.hid hz; clear hz
    have v0 : W.cell? ⟨a1 + 1, 0, none⟩ = some (.int .i64 x) := r2.cell (i := 0) (by omega)
    have v1 : W.cell? ⟨a1 + 1, 1, none⟩ = some (.bool b) := r2.cell (i := 1) (by omega)
    have v2 := set_slot_at r1 k hk
    have v3 := set_tch_at r1 k hk
    have f2 := r1.frozen (k * 2)
    have f3 := r1.frozen (k * 2 + 1)
    have R1 := Lib.hid (row_way r1 k hk x b)
    have R3 := Lib.hid ((r3.far (p := ⟨a1, k * 2, none⟩) (show a1 + 1 + 1 ≠ a1 by omega) (.int .i64 x)).far (p := ⟨a1, k * 2 + 1, none⟩) (show a1 + 1 + 1 ≠ a1 by omega) (.bool b))
    have HB := Lib.hid ((hB.setCell (p := ⟨a1, k * 2, none⟩) (show a1 ≤ a1 from Nat.le_refl _) (.int .i64 x)).setCell (p := ⟨a1, k * 2 + 1, none⟩) (show a1 ≤ a1 from Nat.le_refl _) (.bool b))
    clear r1 r2 r3 hB
    go_upto_region 4 with fail
    generalize World.setCell _ _ _ = W1 at *
    have r1 := R1.out
    have r3 := R3.out
    have u9 : W1.cell? ⟨a1, 9, none⟩ = some (.int .u64 (s.turns : Nat)) := r1.cell (i := 9) (by omega)
    have f9 := r1.frozen 9
    generalize hgn : (s.turns + 1) % 18446744073709551616 = n at *
    have R4 := row_more r1 (n := n) hgn.symm
    have R5 := r3.far (p := ⟨a1, 9, none⟩) (show a1 + 1 + 1 ≠ a1 by omega) (.int .u64 (n : Nat))
    have HB2 := Lib.hid (HB.out.setCell (p := ⟨a1, 9, none⟩) (show a1 ≤ a1 from Nat.le_refl _) (.int .u64 (n : Nat)))
    have hn1 := hn.out
    clear v0 v1 v2 v3 f2 f3 r1 r3 R1 R3 HB hn hgn
    go_wp2_with (first
      | (refine wpList_load_row rfl 33 _ rfl a1 rfl 33 (rowOf 10 (setV (s.put k x b).more)) (0, 0) _ R4 Try.underlying33 rfl (by kernel_rfl) ?_)
      | (refine wpList_store_row rfl 33 _ _ rfl (a1 + 1 + 1) (rowOf 10 (setV (s.put k x b).more)) rfl rfl 33 (rowOf 10 (setV zeroS)) R5 (by kernel_rfl) rfl (setV_one _ _) ?_))
    exact bodyPost_ret (results_cell_row (p := 6) (ty := 33) (by kernel_rfl) _ _ (a1 + 1 + 1) 33 (rowOf 10 (setV (s.put k x b).more)) (0, 0) _ rfl (R5.setRow_ _) Try.underlying33 rfl (by kernel_rfl)) rfl ⟨rfl, by rw [HZ.out]; exact below_setRow_ HB2.out (by omega) _⟩
  · rw [changeS_no s i h]
    by_cases h0 : i < 0
    · clear h
      go_enter Try.func12, Try.ntmps12
      go_upto_region 1 with fail
      generalize hW : World.alloc _ _ = W
      obtain ⟨hB, r1, r2, r3⟩ := three_blocks w 33 30 33 10 2 10 (setV s) (fun i => if i = 0 then .int .i64 x else .bool b) (setV zeroS) W hW
      clear hW
      generalize hz : w.heap.size = a1 at *
      have HZ := Lib.hid hz; clear hz
      go_wp2_with (first
        | (refine wpList_load_row rfl 33 _ rfl a1 rfl 33 (rowOf 10 (setV s)) (0, 0) _ r1 Try.underlying33 rfl (by kernel_rfl) ?_)
        | (refine wpList_store_row rfl 33 _ _ rfl (a1 + 1 + 1) (rowOf 10 (setV s)) rfl rfl 33 (rowOf 10 (setV zeroS)) r3 (by kernel_rfl) rfl (setV_one _ _) ?_))
      exact bodyPost_ret (results_cell_row (p := 6) (ty := 33) (by kernel_rfl) _ _ (a1 + 1 + 1) 33 (rowOf 10 (setV s)) (0, 0) _ rfl (r3.setRow_ _) Try.underlying33 rfl (by kernel_rfl)) rfl ⟨rfl, by rw [HZ.out]; exact below_setRow_ hB (by omega) _⟩
    · have h3 : 3 < i := by omega
      clear h
      go_enter Try.func12, Try.ntmps12
      go_upto_region 1 with fail
      generalize hW : World.alloc _ _ = W
      obtain ⟨hB, r1, r2, r3⟩ := three_blocks w 33 30 33 10 2 10 (setV s) (fun i => if i = 0 then .int .i64 x else .bool b) (setV zeroS) W hW
      clear hW
      generalize hz : w.heap.size = a1 at *
      have HZ := Lib.hid hz; clear hz
      go_wp2_with (first
        | (refine wpList_load_row rfl 33 _ rfl a1 rfl 33 (rowOf 10 (setV s)) (0, 0) _ r1 Try.underlying33 rfl (by kernel_rfl) ?_)
        | (refine wpList_store_row rfl 33 _ _ rfl (a1 + 1 + 1) (rowOf 10 (setV s)) rfl rfl 33 (rowOf 10 (setV zeroS)) r3 (by kernel_rfl) rfl (setV_one _ _) ?_))
      exact bodyPost_ret (results_cell_row (p := 6) (ty := 33) (by kernel_rfl) _ _ (a1 + 1 + 1) 33 (rowOf 10 (setV s)) (0, 0) _ rfl (r3.setRow_ _) Try.underlying33 rfl (by kernel_rfl)) rfl ⟨rfl, by rw [HZ.out]; exact below_setRow_ hB (by omega) _⟩
end Go.Proofs.Ytoimbgmajoajiaa
