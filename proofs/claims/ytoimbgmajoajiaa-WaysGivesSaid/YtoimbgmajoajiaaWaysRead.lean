/- The set with a word, as package ways reads it. -/
import Derived.Test.YtoimbgmajoajiaaWaysWord
namespace Go.Proofs.Ytoimbgmajoajiaa
open Go.ChangeShapes Go.WideShapes Go.ChangeAt Go.RowKit

/-- A way becomes another one. -/
def WS.put (s : WS) (k : Nat) (x : Int) (b : Bool) : WS := { s with slot := fun i => if i = k then x else s.slot i, tch := fun i => if i = k then b else s.tch i }
theorem setV_put (s : WS) (k : Nat) (hk : k < 4) (x : Int) (b : Bool) (i : Nat) : (if i = k * 2 + 1 then .bool b else if i = k * 2 then .int .i64 x else setV s i) = setV (s.put k x b) i := by
  by_cases h1 : i = k * 2 + 1
  · subst h1; rw [if_pos rfl, setV_tch _ k hk]; unfold WS.put; simp
  · rw [if_neg h1]
    by_cases h2 : i = k * 2
    · subst h2; rw [if_pos rfl, setV_slot _ k hk]; unfold WS.put; simp
    · rw [if_neg h2]
      unfold setV WS.put
      have h3 : ¬ (i < 8 ∧ i / 2 = k) := by omega
      by_cases h4 : i < 8
      · rw [if_pos h4, if_pos h4]
        simp only [show ¬ i / 2 = k by omega, if_false]
      · rw [if_neg h4, if_neg h4]
section
variable {w : World} {g : Nat} {t : TypeId} {s : WS}
theorem row_way (h : Row w g t 10 (setV s)) (k : Nat) (hk : k < 4) (x : Int) (b : Bool) : Row ((w.setCell ⟨g, k * 2, none⟩ (.int .i64 x)).setCell ⟨g, k * 2 + 1, none⟩ (.bool b)) g t 10 (setV (s.put k x b)) :=
  ((h.set_ (k * 2) _).set_ (k * 2 + 1) _).congr fun i _ => setV_put s k hk x b i
end
/-- The set with a word, of which k ways have been read. -/
def readTo (x k : Nat) : WS := ⟨fun i => if i < k then ((x / pw (9 * i) % 256 : Nat) : Int) else 0, fun i => if i < k then decide (x / pw (9 * i + 8) % 2 = 1) else false, ((x / pw 36 % 4 : Nat) : Int), x / pw 38⟩
def readS (x : Nat) : WS := ⟨fun i => ((x / pw (9 * i) % 256 : Nat) : Int), fun i => decide (x / pw (9 * i + 8) % 2 = 1), ((x / pw 36 % 4 : Nat) : Int), x / pw 38⟩
theorem okRead {x : Nat} (hx : x < 18446744073709551616) : OkS (readS x) :=
  ⟨fun i => by show (-9223372036854775808 : Int) ≤ ((x / pw (9 * i) % 256 : Nat) : Int) ∧ ((x / pw (9 * i) % 256 : Nat) : Int) ≤ _; omega, by show (-9223372036854775808 : Int) ≤ ((x / pw 36 % 4 : Nat) : Int) ∧ ((x / pw 36 % 4 : Nat) : Int) ≤ _; omega, Nat.lt_of_le_of_lt (Nat.div_le_self _ _) hx⟩
theorem readTo_succ (x k : Nat) (i : Nat) : setV ((readTo x k).put k ((x / pw (9 * k) % 256 : Nat) : Int) (decide (x / pw (9 * k + 8) % 2 = 1))) i = setV (readTo x (k + 1)) i := by
  refine setV_congr (s := (readTo x k).put k _ _) (t := readTo x (k + 1)) (fun j hj => ?_) (fun j hj => ?_) rfl rfl i
  · unfold WS.put readTo
    show (if j = k then _ else if j < k then _ else (0 : Int)) = if j < k + 1 then _ else 0
    by_cases h : j = k
    · subst h; rw [if_pos rfl, if_pos (by omega)]
    · rw [if_neg h]
      by_cases h2 : j < k
      · rw [if_pos h2, if_pos (by omega)]
      · rw [if_neg h2, if_neg (by omega)]
  · unfold WS.put readTo
    show (if j = k then _ else if j < k then _ else false) = if j < k + 1 then _ else false
    by_cases h : j = k
    · subst h; rw [if_pos rfl, if_pos (by omega)]
    · rw [if_neg h]
      by_cases h2 : j < k
      · rw [if_pos h2, if_pos (by omega)]
      · rw [if_neg h2, if_neg (by omega)]
theorem readTo_all (x i : Nat) : setV (readTo x 4) i = setV (readS x) i :=
  setV_congr (s := readTo x 4) (t := readS x) (fun j hj => by unfold readTo readS; show (if j < 4 then _ else (0 : Int)) = _; rw [if_pos hj]) (fun j hj => by unfold readTo readS; show (if j < 4 then _ else false) = _; rw [if_pos hj]) rfl rfl i
theorem cut_turns (x : Nat) (hx : x < 18446744073709551616) : cutN x 38 26 = x / pw 38 := by
  rw [cutN_div hx (by omega) (by omega) (by omega), show (38 : Int).toNat = 38 from rfl, show (26 : Int).toNat = 26 from rfl]
  have e1 : pw 38 = 274877906944 := rfl
  have e2 : pw 26 = 67108864 := rfl
  rw [e1, e2]
  omega

set_option maxRecDepth 100000 in
set_option maxHeartbeats 1000000 in
theorem yRead_any (x : Nat) (hx : x < 18446744073709551616) (w : World) : Calls Try.prog 9 #[.int .u64 x] w fun e w' => e = .returned (.agg (rowOf 10 (setV (readS x)))) ∧ Below w.heap.size w w' := by
  have c0 := Lib.hid (fun W => yPart_any x hx 36 2 (by omega) (by omega) W)
  have c1 := Lib.hid (fun W => fCut_any x hx 38 26 (by omega) (by omega) W)
  rw [cut_turns x hx] at c1
  have C1 := Lib.hid (fun k (hk : k < 4) W => yPart_any x hx (9 * k) 8 (by omega) (by omega) W)
  have C2 := Lib.hid (fun k (hk : k < 4) W => fHas_any x hx (9 * k + 8 : Nat) (by omega) W)
  have hb0 : x / pw 36 % pw 2 < 4 := Nat.mod_lt _ (pw_pos 2)
  have hb1 : x / pw 38 < 67108864 := by rw [show pw 38 = 274877906944 from rfl]; omega
  have HA := Lib.hid (readTo_all x)
  have HS := Lib.hid (readTo_succ x)
  have HX := Lib.hid hx; clear hx
  generalize hg1 : x / pw 36 % pw 2 = hd at *
  generalize hg2 : x / pw 38 = tn at *
  have G0 : Hid (∀ i, setV ⟨fun _ => 0, fun _ => false, (hd : Int), tn⟩ i = setV (readTo x 0) i) := Lib.hid fun i => by
    refine setV_congr (s := ⟨fun _ => 0, fun _ => false, (hd : Int), tn⟩) (t := readTo x 0) (fun j hj => rfl) (fun j hj => rfl) ?_ ?_ i
    · rw [← hg1]; rfl
    · rw [← hg2]; rfl
  clear hg1 hg2
  go_enter Try.func9, Try.ntmps9
  go_upto_region 2 with (first | (go_at_call 22; refine (c0.out _).mono ?_; rintro e w' ⟨rfl, rfl⟩) | (go_at_call 23; refine (c1.out _).mono ?_; rintro e w' ⟨rfl, rfl⟩))
  generalize hW : World.alloc _ _ = W
  obtain ⟨hB, hr0, hr1⟩ := two_blocks w 27 27 10 10 (setV zeroS) (setV ⟨fun _ => 0, fun _ => false, (hd : Int), tn⟩) W hW
  replace hr1 := hr1.congr fun i _ => G0.out i
  clear hW c0 c1 hb0 hb1 G0
  generalize hz : w.heap.size = a1 at *
  have HZ := Lib.hid hz; clear hz
  go_wp2_with fail
  go_loopw [11] (fun i wr => ∃ k : Nat, i = .int .i64 k ∧ k ≤ 4 ∧ Below a1 w wr ∧ Row wr a1 27 10 (setV zeroS) ∧ Row wr (a1 + 1) 27 10 (setV (readTo x k))) (fun i _ => 4 - (intOf i).toNat)
  case atStart => exact ⟨0, rfl, by omega, hB, hr0, hr1⟩
  case round =>
    obtain ⟨k, rfl, hk, hbr, q0, q1⟩ := hrel
    by_cases hlt : k < 4
    · have d1 := C1.out k hlt
      have d2 := C2.out k hlt
      rw [show ((9 * k : Nat) : Int) = (k : Int) * 9 by omega] at d1
      rw [bitAt_div (by omega), show ((9 * k + 8 : Nat) : Int) = (k : Int) * 9 + 8 by omega] at d2
      have e8 : pw 8 = 256 := rfl
      rw [e8] at d1
      have hm : x / pw (9 * k) % 256 < 256 := Nat.mod_lt _ (by omega)
      have hs1 := HS.out k
      have q2 := fun m b => row_way q1 k hlt m b
      generalize x / pw (9 * k) % 256 = m at *
      generalize decide (x / pw (9 * k + 8) % 2 = 1) = b at *
      replace q2 := Lib.hid ((q2 (m : Nat) b).congr fun i _ => hs1 i)
      have v1 : wr.cell? ⟨a1 + 1, k * 2, none⟩ = some (.int .i64 ((readTo x k).slot k)) := set_slot_at q1 k hlt
      have v2 : wr.cell? ⟨a1 + 1, k * 2 + 1, none⟩ = some (.bool ((readTo x k).tch k)) := set_tch_at q1 k hlt
      have f1 := q1.frozen (k * 2)
      have f2 := q1.frozen (k * 2 + 1)
      clear hs1 e8
      have D1 := Lib.hid d1; have D2 := Lib.hid d2
      clear C1 C2 HS HA d1 d2 hr0 hr1 hB
      have b0 : (0 : Int) ≤ (k : Int) := by omega
      have b1 : (k : Int) < 4 := by omega
      go_wp2_with (first | (go_at_call 22; refine (D1.out _).mono ?_; rintro e w' ⟨rfl, rfl⟩) | (go_at_call 24; refine (D2.out _).mono ?_; rintro e w' ⟨rfl, rfl⟩))
      go_roundw
      case rel => exact ⟨k + 1, by go_num, by omega, (hbr.setCell (by show _ ≤ _; simp) _).setCell (by show _ ≤ _; simp) _, (q0.far (by show _ ≠ _; simp) _).far (by show _ ≠ _; simp) _, q2.out⟩
      case measure => simp [intOf]; omega
    · obtain rfl : k = 4 := by omega
      rw [show ((4 : Nat) : Int) = 4 from rfl]
      have r5 := q1.congr fun i _ => HA.out i
      have hbs := hbr.size
      clear hr0 hr1 HA HS C1 C2 q1 hB
      go_wp2_with (first
        | (refine wpList_load_row rfl 27 _ rfl (a1 + 1) rfl 27 (rowOf 10 (setV (readS x))) (0, 0) _ r5 Try.underlying27 rfl (by kernel_rfl) ?_)
        | (refine wpList_store_row rfl 27 _ _ rfl a1 (rowOf 10 (setV (readS x))) rfl rfl 27 (rowOf 10 (setV zeroS)) q0 (by kernel_rfl) rfl (setV_one _ _) ?_))
      exact bodyPost_ret (results_cell_row (p := 2) (ty := 27) (by kernel_rfl) _ _ a1 27 (rowOf 10 (setV (readS x))) (0, 0) _ rfl (q0.setRow_ _) Try.underlying27 rfl (by kernel_rfl)) rfl ⟨rfl, by rw [HZ.out]; exact below_setRow_ hbr (by omega) _⟩
end Go.Proofs.Ytoimbgmajoajiaa
