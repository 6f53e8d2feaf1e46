/- The document's set with a word. -/
import Derived.Test.YtoimbgmajoajiaaRef11
import Derived.Deep.RegionWith
namespace Go.Proofs.Ytoimbgmajoajiaa
open Go.ChangeShapes Go.WideShapes Go.ChangeAt Go.RowKit

theorem ref_way (x k : Nat) : x / pw (9 * k) % 512 % 256 = x / pw (9 * k) % 256 ∧ decide (256 ≤ x / pw (9 * k) % 512) = decide (x / pw (9 * k + 8) % 2 = 1) := by
  have h : x / pw (9 * k + 8) = x / pw (9 * k) / 256 := by unfold pw; rw [Nat.pow_add, Nat.div_div_eq_div_mul]
  rw [h, decide_eq_decide]
  omega
set_option maxRecDepth 100000 in
set_option maxHeartbeats 1000000 in
theorem rRead11_any (x : Nat) (hx : x < 18446744073709551616) (w : World) : Calls Try.prog 10 #[.int .u64 x] w fun e w' => e = .returned (.agg (rowOf 10 (setV (readS x)))) ∧ Below w.heap.size w w' := by
  have cP := Lib.hid (fun m h W => rPower11_any m h W)
  have P36 : Hid (∀ W, Calls Try.prog 21 #[.int .i64 36] W fun e w' => e = .returned (.int .u64 68719476736) ∧ W = w') := Lib.hid (fun W => rPower11_any 36 (by omega) W)
  have P38 : Hid (∀ W, Calls Try.prog 21 #[.int .i64 38] W fun e w' => e = .returned (.int .u64 274877906944) ∧ W = w') := Lib.hid (fun W => rPower11_any 38 (by omega) W)
  have e1 : IntKind.i64.wrap ((IntKind.u64.wrap ((x : Int) / 68719476736)).tmod 4) = ((x / pw 36 % 4 : Nat) : Int) := by
    rw [show pw 36 = 68719476736 from rfl, IntKind.wrap_u64, Int.tmod_eq_emod_of_nonneg (by omega)]
    rw [IntKind.wrap_i64]; omega
  have e2 : IntKind.u64.wrap ((x : Int) / 274877906944) = ((x / pw 38 : Nat) : Int) := by
    rw [show pw 38 = 274877906944 from rfl, IntKind.wrap_u64]; omega
  have HL : Hid (#[Value.int .i64 0, .bool false, .int .i64 0, .bool false, .int .i64 0, .bool false, .int .i64 0, .bool false, .int .i64 (IntKind.i64.wrap ((IntKind.u64.wrap ((x : Int) / 68719476736)).tmod 4)), .int .u64 (IntKind.u64.wrap ((x : Int) / 274877906944))] = rowOf 10 (setV (readTo x 0))) := Lib.hid (by
    rw [e1, e2]; exact fold10 (readTo x 0))
  clear e1 e2
  have HA := Lib.hid (readTo_all x)
  have HS := Lib.hid (readTo_succ x)
  go_enter Try.func10, Try.ntmps10
  go_upto_region 1 with fail
  go_cut [3] (fun s3 wx => s3 = .pointer (some ⟨w.heap.size + 1, 0, none⟩) ∧ Below w.heap.size w wx ∧ Row wx w.heap.size 33 10 (setV zeroS) ∧ Row wx (w.heap.size + 1) 33 10 (setV (readTo x 0)))
  case first =>
    go_region_with (first | (go_at_call 21; with_reducible refine (P36.out _).mono ?_; rintro e w' ⟨rfl, rfl⟩) | (go_at_call 21; with_reducible refine (P38.out _).mono ?_; rintro e w' ⟨rfl, rfl⟩))
    all_goals
      go_wp2_with fail
      go_meet
      rw [HL.out]
      have h := two_blocks w 33 33 10 10 (setV zeroS) (setV (readTo x 0)) _ rfl
      exact ⟨rfl, h.1.drew, h.2.1.drew, h.2.2.drew⟩
  case rest =>
    obtain ⟨rfl, hB, hr0, hr1⟩ := hcut
    clear P36 P38 HL
    generalize hz : w.heap.size = a1 at *
    have HZ := Lib.hid hz; clear hz
    go_wp2_with fail
    go_loopw [4] (fun i wr => ∃ k : Nat, i = .int .i64 k ∧ k ≤ 4 ∧ Below a1 w wr ∧ Row wr a1 33 10 (setV zeroS) ∧ Row wr (a1 + 1) 33 10 (setV (readTo x k))) (fun i _ => 4 - (intOf i).toNat)
    case atStart => exact ⟨0, rfl, by omega, hB, hr0, hr1⟩
    case round =>
      obtain ⟨k, rfl, hk, hbr, q0, q1⟩ := hrel
      by_cases hlt : k < 4
      · have d1 := fun W => cP.out (9 * k) (by omega) W
        rw [show ((9 * k : Nat) : Int) = 9 * (k : Int) by omega] at d1
        have hm : x / pw (9 * k) % 256 < 256 := Nat.mod_lt _ (by omega)
        have hs1 := HS.out k
        have q2 := fun m b => row_way q1 k hlt m b
        obtain ⟨g1, g2⟩ := ref_way x k
        have hp := pw_pos (9 * k)
        have hdiv : (x : Int) / (pw (9 * k) : Int) = ((x / pw (9 * k) : Nat) : Int) := by push_cast; rfl
        have hle : x / pw (9 * k) < 18446744073709551616 := Nat.lt_of_le_of_lt (Nat.div_le_self _ _) hx
        have hp2 := pw_63 (k := 9 * k) (by omega)
        generalize hgb : decide (x / pw (9 * k + 8) % 2 = 1) = b at *
        generalize x / pw (9 * k) = y at *
        generalize pw (9 * k) = p at *
        rw [← g1] at hs1 hm
        replace q2 := Lib.hid ((q2 ((y % 512 % 256 : Nat) : Int) b).congr fun i _ => hs1 i)
        have v1 : wr.cell? ⟨a1 + 1, k * 2, none⟩ = some (.int .i64 ((readTo x k).slot k)) := set_slot_at q1 k hlt
        have v2 : wr.cell? ⟨a1 + 1, k * 2 + 1, none⟩ = some (.bool ((readTo x k).tch k)) := set_tch_at q1 k hlt
        have f1 := q1.frozen (k * 2)
        have f2 := q1.frozen (k * 2 + 1)
        have G2 := Lib.hid g2
        have D1 := Lib.hid d1
        clear hs1 cP HS HA d1 hr0 hr1 hB g1 g2 hgb
        have b0 : (0 : Int) ≤ (k : Int) := by omega
        have b1 : (k : Int) < 4 := by omega
        go_upto_region 6 with (go_at_call 21; with_reducible refine (D1.out _).mono ?_; rintro e w' ⟨rfl, rfl⟩)
        have E1 : Value.int .i64 ((y : Int) % 512 % 256) = .int .i64 ((y % 512 % 256 : Nat) : Int) := rfl
        have G3 : Hid (∀ z : Nat, (z : Int) = (y : Int) % 512 → decide ((256 : Int) ≤ z) = b) := Lib.hid (fun z hz => by rw [← G2.out, decide_eq_decide]; omega)
        have G4 : Hid (∀ z : Nat, (z : Int) = (y : Int) % 512 → ((z : Int) % 256 = ((y % 512 % 256 : Nat) : Int))) := Lib.hid (fun z hz => by rw [hz]; omega)
        have G5 : Hid ((((y % 512 : Nat) : Int)) = (y : Int) % 512) := Lib.hid (by omega)
        clear E1
        have hz2 : y % 512 < 512 := Nat.mod_lt _ (by omega)
        rw [← G5.out]
        have G6 := Lib.hid (G3.out _ G5.out)
        have G7 := Lib.hid (G4.out _ G5.out)
        clear G2 G3 G4
        generalize y % 512 % 256 = m at *
        generalize y % 512 = z at *
        have g6 := G6.out
        have g7 := G7.out
        go_wp2_with fail
        go_roundw
        case rel => exact ⟨k + 1, by go_num, by omega, (hbr.setCell (by show _ ≤ _; simp) _).setCell (by show _ ≤ _; simp) _, (q0.far (by show _ ≠ _; simp) _).far (by show _ ≠ _; simp) _, q2.out⟩
        case measure => simp [intOf]; omega
      · obtain rfl : k = 4 := by omega
        rw [show ((4 : Nat) : Int) = 4 from rfl]
        have r5 := q1.congr fun i _ => HA.out i
        clear hr0 hr1 HA HS cP q1 hB
        go_wp2_with (first
          | (refine wpList_load_row rfl 33 _ rfl (a1 + 1) rfl 33 (rowOf 10 (setV (readS x))) (0, 0) _ r5 Try.underlying33 rfl (by kernel_rfl) ?_)
          | (refine wpList_store_row rfl 33 _ _ rfl a1 (rowOf 10 (setV (readS x))) rfl rfl 33 (rowOf 10 (setV zeroS)) q0 (by kernel_rfl) rfl (setV_one _ _) ?_))
        exact bodyPost_ret (results_cell_row (p := 2) (ty := 33) (by kernel_rfl) _ _ a1 33 (rowOf 10 (setV (readS x))) (0, 0) _ rfl (q0.setRow_ _) Try.underlying33 rfl (by kernel_rfl)) rfl ⟨rfl, by rw [HZ.out]; exact below_setRow_ hbr (by omega) _⟩
end Go.Proofs.Ytoimbgmajoajiaa
