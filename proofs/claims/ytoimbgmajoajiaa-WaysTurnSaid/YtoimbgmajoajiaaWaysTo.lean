/- The program's set, as the document's; sets compared. -/
import Derived.Test.YtoimbgmajoajiaaWaysRead
import Derived.Laws.StructEq
namespace Go.Proofs.Ytoimbgmajoajiaa
open Go.ChangeShapes Go.WideShapes Go.ChangeAt Go.RowKit

/-- A set of which k ways have been taken over. -/
def toTo (s : WS) (k : Nat) : WS := ⟨fun i => if i < k then s.slot i else 0, fun i => if i < k then s.tch i else false, s.hand, s.turns⟩
theorem toTo_succ (s : WS) (k i : Nat) : setV ((toTo s k).put k (s.slot k) (s.tch k)) i = setV (toTo s (k + 1)) i := by
  refine setV_congr (s := (toTo s k).put k _ _) (t := toTo s (k + 1)) (fun j hj => ?_) (fun j hj => ?_) rfl rfl i
  · show (if j = k then _ else if j < k then _ else (0 : Int)) = if j < k + 1 then _ else 0
    by_cases h : j = k
    · subst h; rw [if_pos rfl, if_pos (by omega)]
    · rw [if_neg h]
      by_cases h2 : j < k
      · rw [if_pos h2, if_pos (by omega)]
      · rw [if_neg h2, if_neg (by omega)]
  · show (if j = k then _ else if j < k then _ else false) = if j < k + 1 then _ else false
    by_cases h : j = k
    · subst h; rw [if_pos rfl, if_pos (by omega)]
    · rw [if_neg h]
      by_cases h2 : j < k
      · rw [if_pos h2, if_pos (by omega)]
      · rw [if_neg h2, if_neg (by omega)]
theorem toTo_all (s : WS) (i : Nat) : setV (toTo s 4) i = setV s i :=
  setV_congr (s := toTo s 4) (t := s) (fun j hj => by unfold toTo; show (if j < 4 then _ else (0 : Int)) = _; rw [if_pos hj]) (fun j hj => by unfold toTo; show (if j < 4 then _ else false) = _; rw [if_pos hj]) rfl rfl i

set_option maxRecDepth 100000 in
set_option maxHeartbeats 1000000 in
theorem to_any (s : WS) (w : World) : Calls Try.prog 8 #[.agg (rowOf 10 (setV s))] w fun e w' => e = .returned (.agg (rowOf 10 (setV s))) ∧ Below w.heap.size w w' := by
  have HA := Lib.hid (toTo_all s)
  have HS := Lib.hid (toTo_succ s)
  go_enter Try.func8, Try.ntmps8
  go_upto_region 1 with fail
  generalize hW : World.alloc _ _ = W
  obtain ⟨hB0, r1, r2⟩ := two_blocks w 27 33 10 10 (setV s) (setV zeroS) W hW
  have hsz : W.heap.size = w.heap.size + 1 + 1 := by rw [← hW]; simp
  clear hW
  generalize hz : w.heap.size = a1 at *
  have HZ := Lib.hid hz; clear hz
  have u8 : W.cell? ⟨a1, 8, none⟩ = some (.int .i64 s.hand) := r1.cell (i := 8) (by omega)
  have u9 : W.cell? ⟨a1, 9, none⟩ = some (.int .u64 (s.turns : Nat)) := r1.cell (i := 9) (by omega)
  go_upto_region 2 with fail
  clear u8 u9
  have r3 : Row (W.alloc (.cells #[.int .i64 0, .bool false, .int .i64 0, .bool false, .int .i64 0, .bool false, .int .i64 0, .bool false, .int .i64 s.hand, .int .u64 (s.turns : Nat)] 33)) W.heap.size 33 10 (setV (toTo s 0)) := Row.new W _ _ _ _ (fold10 (toTo s 0))
  rw [hsz] at r3
  replace r1 := r1.alloc (.cells #[.int .i64 0, .bool false, .int .i64 0, .bool false, .int .i64 0, .bool false, .int .i64 0, .bool false, .int .i64 s.hand, .int .u64 (s.turns : Nat)] 33)
  replace r2 := r2.alloc (.cells #[.int .i64 0, .bool false, .int .i64 0, .bool false, .int .i64 0, .bool false, .int .i64 0, .bool false, .int .i64 s.hand, .int .u64 (s.turns : Nat)] 33)
  have hB := hB0.alloc (show a1 ≤ W.heap.size by omega) (.cells #[.int .i64 0, .bool false, .int .i64 0, .bool false, .int .i64 0, .bool false, .int .i64 0, .bool false, .int .i64 s.hand, .int .u64 (s.turns : Nat)] 33)
  clear hsz hB0
  generalize World.alloc W _ = W1 at *
  go_wp2_with fail
  go_loopw [4] (fun i wr => ∃ k : Nat, i = .int .i64 k ∧ k ≤ 4 ∧ Below a1 w wr ∧ Row wr a1 27 10 (setV s) ∧ Row wr (a1 + 1) 33 10 (setV zeroS) ∧ Row wr (a1 + 1 + 1) 33 10 (setV (toTo s k))) (fun i _ => 4 - (intOf i).toNat)
  case atStart => exact ⟨0, rfl, by omega, hB, r1, r2, r3⟩
  case round =>
    obtain ⟨k, rfl, hk, hbr, q0, q1, q2⟩ := hrel
    by_cases hlt : k < 4
    · have w1 := set_slot_at q0 k hlt
      have w2 := set_tch_at q0 k hlt
      have v1 := set_slot_at q2 k hlt
      have v2 := set_tch_at q2 k hlt
      have f1 := q2.frozen (k * 2)
      have f2 := q2.frozen (k * 2 + 1)
      have Q := Lib.hid ((row_way q2 k hlt (s.slot k) (s.tch k)).congr fun i _ => HS.out k i)
      clear r1 r2 r3 hB HA HS
      have b0 : (0 : Int) ≤ (k : Int) := by omega
      have b1 : (k : Int) < 4 := by omega
      go_wp2_with fail
      go_roundw
      case rel => exact ⟨k + 1, by go_num, by omega, (hbr.setCell (by show _ ≤ _; simp; omega) _).setCell (by show _ ≤ _; simp; omega) _, (q0.far (by show _ ≠ _; simp; omega) _).far (by show _ ≠ _; simp; omega) _, (q1.far (by show _ ≠ _; simp) _).far (by show _ ≠ _; simp) _, Q.out⟩
      case measure => simp [intOf]; omega
    · obtain rfl : k = 4 := by omega
      rw [show ((4 : Nat) : Int) = 4 from rfl]
      have r5 := q2.congr fun i _ => HA.out i
      clear r1 r2 r3 HA HS q2 hB
      go_wp2_with (first
        | (refine wpList_load_row rfl 33 _ rfl (a1 + 1 + 1) rfl 33 (rowOf 10 (setV s)) (0, 0) _ r5 Try.underlying33 rfl (by kernel_rfl) ?_)
        | (refine wpList_store_row rfl 33 _ _ rfl (a1 + 1) (rowOf 10 (setV s)) rfl rfl 33 (rowOf 10 (setV zeroS)) q1 (by kernel_rfl) rfl (setV_one _ _) ?_))
      exact bodyPost_ret (results_cell_row (p := 2) (ty := 33) (by kernel_rfl) _ _ (a1 + 1) 33 (rowOf 10 (setV s)) (0, 0) _ rfl (q1.setRow_ _) Try.underlying33 rfl (by kernel_rfl)) rfl ⟨rfl, by rw [HZ.out]; exact below_setRow_ hbr (by omega) _⟩
end Go.Proofs.Ytoimbgmajoajiaa
