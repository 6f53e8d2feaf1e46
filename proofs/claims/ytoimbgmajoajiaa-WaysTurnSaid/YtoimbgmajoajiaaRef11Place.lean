/- Where a new one goes, as the document has it. -/
import Derived.Test.YtoimbgmajoajiaaWaysIn
import Derived.Test.YtoimbgmajoajiaaRef11Set
namespace Go.Proofs.Ytoimbgmajoajiaa
open Go.ChangeShapes Go.WideShapes Go.ChangeAt Go.RowKit

theorem place_empty {s : WS} {k : Nat} (hk : k < 4) (h : emp s = k) : placeS s = s ∧ placeI s = k := by
  unfold placeS placeI; rw [if_pos (by omega), if_pos (by omega)]; exact ⟨rfl, h⟩
theorem place_round {s : WS} {k : Nat} (he : emp s = 4) (h : laps (handOf s) s.tch = k) : placeS s = (s.gone (handOf s) k).to (((handOf s + k) % 4 + 1) % 4) ∧ placeI s = (handOf s + k) % 4 := by
  unfold placeS placeI; rw [if_neg (by omega), if_neg (by omega)]
  unfold roundS roundI
  rw [h]
  exact ⟨rfl, rfl⟩
theorem hand_of {s : WS} (h : 0 ≤ s.hand ∧ s.hand < 4) : (handOf s : Int) = s.hand := by unfold handOf; rw [if_pos h]; omega
theorem hand_no {s : WS} (h : ¬ (0 ≤ s.hand ∧ s.hand < 4)) : handOf s = 0 := by unfold handOf; rw [if_neg h]

set_option maxRecDepth 100000 in
set_option maxHeartbeats 2000000 in
theorem rPlace11_any (s : WS) (hs : OkS s) (w : World) : Calls Try.prog 30 #[.agg (rowOf 10 (setV s))] w fun e w' => e = .returned (.tuple #[.agg (rowOf 10 (setV (placeS s))), .int .i64 (placeI s : Nat)]) ∧ Below w.heap.size w w' := by
  have HE := Lib.hid (fun k (hk : k < 4) h1 h2 => place_empty (s := s) hk (emp_is (k := k) hk h1 h2))
  have HR := Lib.hid (fun k he h => place_round (s := s) (k := k) he h)
  have HN := Lib.hid (fun h => emp_none (s := s) h)
  have HSL := Lib.hid hs.slot
  have HH1 := Lib.hid (@hand_of s)
  have HH0 := Lib.hid (@hand_no s)
  have hh := handOf_lt s
  have hx := hs.hand
  generalize placeS s = ps at *
  generalize placeI s = pi at *
  generalize handOf s = h at *
  go_enter Try.func30, Try.ntmps30
  go_upto_region 1 with fail
  generalize hW : World.alloc _ _ = W
  obtain ⟨hB, r1, r2⟩ := two_blocks w 33 33 10 10 (setV s) (setV zeroS) W hW
  clear hW
  generalize hz : w.heap.size = a1 at *
  have HZ := Lib.hid hz; clear hz
  have hsz : a1 + 1 < W.heap.size := r2.lt
  go_wp2_with fail
  go_loop [4] (fun i => ∃ k : Nat, i = .int .i64 k ∧ k ≤ 4 ∧ Hid (∀ j, j < k → s.slot j ≠ 0)) (fun i => 4 - (intOf i).toNat)
  case atStart => exact ⟨0, rfl, by omega, Lib.hid (fun j hj => by omega)⟩
  case round =>
    obtain ⟨k, rfl, hk, hn⟩ := hrel
    by_cases hlt : k < 4
    · have v1 := set_slot_at r1 k hlt
      have HE1 := Lib.hid (HE.out k hlt hn.out)
      have HN1 : Hid (s.slot k ≠ 0 → ∀ j, j < k + 1 → s.slot j ≠ 0) := Lib.hid (fun h j hj => by
        rcases Nat.lt_or_ge j k with h1 | h1
        · exact hn.out j h1
        · obtain rfl : j = k := by omega
          exact h)
      have b0 : (0 : Int) ≤ (k : Int) := by omega
      have b1 : (k : Int) < 4 := by omega
      have b := HSL.out k
      clear HE HR HN HH1 HH0 HSL hn
      by_cases h0 : s.slot k = 0
      · obtain ⟨e1, e2⟩ := HE1.out h0
        rw [h0] at v1
        clear HE1 HN1 b h0
        have E1 := Lib.hid e1; have E2 := Lib.hid e2
        clear e1 e2
        go_wp2_with (first
          | (refine wpList_load_row rfl 33 _ rfl a1 rfl 33 (rowOf 10 (setV s)) (0, 0) _ r1 Try.underlying33 rfl (by kernel_rfl) ?_)
          | (refine wpList_store_row rfl 33 _ _ rfl (a1 + 1) (rowOf 10 (setV s)) rfl rfl 33 (rowOf 10 (setV zeroS)) r2 (by kernel_rfl) rfl (setV_one _ _) ?_))
        exact bodyPost_ret (results_row1 (p := 2) (u := 3) (ty := 33) (by kernel_rfl) _ _ (a1 + 1) 33 (rowOf 10 (setV s)) (0, 0) _ rfl (r2.setRow_ _) Try.underlying33 rfl (by kernel_rfl)) rfl ⟨by rw [E1.out, E2.out]; rfl, by rw [HZ.out]; exact below_setRow_ hB (by omega) _⟩
      · have HX := Lib.hid (HN1.out h0)
        have d : (s.slot k == 0) = false := by simpa using h0
        clear HE1 HN1
        generalize s.slot k = v at *
        go_wp2_with fail
        go_round
        case rel => exact ⟨k + 1, by go_num, by omega, HX⟩
        case measure => simp [intOf]; omega
    · obtain rfl : k = 4 := by omega
      rw [show ((4 : Nat) : Int) = 4 from rfl]
      have he := HN.out hn.out
      have HR1 := Lib.hid (fun k hk => HR.out k he hk)
      clear HE HR HN HSL hn he
      by_cases hin : 0 ≤ s.hand ∧ s.hand < 4
      · have e8 := HH1.out hin
        have hin1 := hin.1
        have hin2 : s.hand ≤ 3 := by omega
        have u8 : W.cell? ⟨a1, 8, none⟩ = some (.int .i64 s.hand) := r1.cell (i := 8) (by omega)
        have t1 : decide (s.hand < 0) = false := decide_eq_false (by omega)
        have t2 : decide (3 < s.hand) = false := decide_eq_false (by omega)
        rw [← e8] at u8 t1 t2
        have r3 : Row W a1 33 10 (setV ((s.gone h 0).to ((h + 0) % 4))) := r1.congr fun i _ => setV_congr (s := s) (t := (s.gone h 0).to ((h + 0) % 4)) (fun _ _ => rfl) (fun _ _ => rfl) (by show s.hand = (((h + 0) % 4 : Nat) : Int); omega) rfl i
        clear HH1 HH0 hin hx r1 e8 hin1 hin2
        go_upto_region 9 with fail
        go_loopw [5] (fun n wr => ∃ k : Nat, n = .int .i64 k ∧ k ≤ 4 ∧ Hid (∀ e, e < k → s.tch ((h + e) % 4) = true) ∧ Below a1 w wr ∧ Row wr a1 33 10 (setV ((s.gone h k).to ((h + k) % 4))) ∧ Row wr (a1 + 1) 33 10 (setV zeroS)) (fun n _ => 8 - (intOf n).toNat)
        case atStart => exact ⟨0, rfl, by omega, Lib.hid (fun j hj => by omega), hB, r3, r2⟩
        case round =>
          obtain ⟨k, rfl, hk, ht, hbr, q1, q2⟩ := hrel
          have hi : (h + k) % 4 < 4 := Nat.mod_lt _ (by omega)
          have hj : ((h + k) % 4 + 1) % 4 = (h + (k + 1)) % 4 := by omega
          have HST := Lib.hid (fun h2 => laps_stop (t := s.tch) (h := h) hk ht.out h2)
          have HGO := Lib.hid (fun h2 => laps_go (t := s.tch) (h := h) hk ht.out h2)
          have v8 : wr.cell? ⟨a1, 8, none⟩ = some (.int .i64 ((h + k) % 4 : Nat)) := q1.cell (i := 8) (by omega)
          have f8 := q1.frozen 8
          have q3 : Row (wr.setCell ⟨a1, 8, none⟩ (.int .i64 (((h + k) % 4 + 1) % 4 : Nat))) a1 33 10 (setV ((s.gone h k).to (((h + k) % 4 + 1) % 4))) := row_to q1 (((h + k) % 4 + 1) % 4)
          have q4 := q2.far (p := ⟨a1, 8, none⟩) (show a1 + 1 ≠ a1 by omega) (.int .i64 (((h + k) % 4 + 1) % 4 : Nat))
          have hb4 := hbr.setCell (p := ⟨a1, 8, none⟩) (show a1 ≤ a1 from Nat.le_refl _) (.int .i64 (((h + k) % 4 + 1) % 4 : Nat))
          have hun := fun W' (hq : Row W' a1 33 10 (setV ((s.gone h k).to (((h + k) % 4 + 1) % 4)))) => (row_untouch (s := s.to (((h + k) % 4 + 1) % 4)) (h := h) (d := k) hq (k := (h + k) % 4) rfl : Row (W'.setCell ⟨a1, (h + k) % 4 * 2 + 1, none⟩ (.bool false)) a1 33 10 (setV ((s.gone h (k + 1)).to (((h + k) % 4 + 1) % 4))))
          have HU := Lib.hid hun
          have HRk := Lib.hid (fun e => HR1.out k e)
          have hgs : ∀ X : Nat, ((s.gone h k).to X).tch ((h + k) % 4) = gone h s.tch k ((h + k) % 4) := fun _ => rfl
          have hv := fun W' (hq : Row W' a1 33 10 (setV ((s.gone h k).to (((h + k) % 4 + 1) % 4)))) => set_tch_at hq ((h + k) % 4) hi
          rw [hgs] at hv
          have HV := Lib.hid hv
          have q0 : (0 : Int) ≤ ((h + k) % 4 : Nat) := by omega
          have q00 : (((h + k) % 4 : Nat) : Int) < 4 := by omega
          have hk8 : (k : Int) < 8 := by omega
          have hnn : (((h + k) % 4 : Nat) : Int) + 1 = (((h + k) % 4 + 1 : Nat) : Int) := by omega
          have hn4 : (((h + k) % 4 : Nat) + 1 : Int) % 4 = ((((h + k) % 4 + 1) % 4 : Nat) : Int) := by omega
          have HJ := Lib.hid hj
          clear hun hv hgs r2 r3 hB hnn hj ht
          have hfz : Hid (∀ W' X, Row W' a1 33 10 (setV X) → W'.frozen? ⟨a1, (h + k) % 4 * 2 + 1, none⟩ = false) := Lib.hid (fun W' X hq => hq.frozen _)
          generalize ((h + k) % 4 + 1) % 4 = n at *
          generalize (h + k) % 4 = i at *
          go_upto_region 13 with fail
          have hvv := HV.out _ q3
          have hff := hfz.out _ _ q3
          have hu := HU.out _ q3
          have hb5 := hb4.setCell (p := ⟨a1, i * 2 + 1, none⟩) (show a1 ≤ a1 from Nat.le_refl _) (.bool false)
          have q5 := q4.far (p := ⟨a1, i * 2 + 1, none⟩) (show a1 + 1 ≠ a1 by omega) (.bool false)
          clear v8 f8 q1 q2 hbr HV HU hfz hn4
          generalize World.setCell wr _ _ = W3 at *
          cases hbb : gone h s.tch k i
          · obtain ⟨e1, e2⟩ := HRk.out (HST.out hbb)
            rw [hbb] at hvv
            have E1 := Lib.hid e1; have E2 := Lib.hid e2
            clear e1 e2 hbb HST HGO HRk hu hff hb5 q5 HR1 HJ
            generalize (s.gone h k).to n = X at *
            go_wp2_with (first
              | (refine wpList_load_row rfl 33 _ rfl a1 rfl 33 (rowOf 10 (setV X)) (0, 0) _ q3 Try.underlying33 rfl (by kernel_rfl) ?_)
              | (refine wpList_store_row rfl 33 _ _ rfl (a1 + 1) (rowOf 10 (setV X)) rfl rfl 33 (rowOf 10 (setV zeroS)) q4 (by kernel_rfl) rfl (setV_one _ _) ?_))
            exact bodyPost_ret (results_row1 (p := 2) (u := 3) (ty := 33) (by kernel_rfl) _ _ (a1 + 1) 33 (rowOf 10 (setV X)) (0, 0) _ rfl (q4.setRow_ _) Try.underlying33 rfl (by kernel_rfl)) rfl ⟨by rw [E1.out, E2.out]; rfl, by rw [HZ.out]; exact below_setRow_ hb4 (by omega) _⟩
          · obtain ⟨hk4, ht4⟩ := HGO.out hbb
            rw [hbb] at hvv
            have HT := Lib.hid ht4
            have HQ := Lib.hid (And.intro hb5 (And.intro hu q5))
            clear hbb HST HGO HRk hu hb5 q5 HR1 ht4 hb4 q3 q4
            go_wp2_with fail
            go_roundw
            case rel => exact ⟨k + 1, by go_num, by omega, HT.out, HQ.out.1, by rw [← HJ.out]; exact HQ.out.2.1, HQ.out.2.2⟩
            case measure => simp [intOf]; omega
      · have e8 := HH0.out hin
        have u8 : W.cell? ⟨a1, 8, none⟩ = some (.int .i64 s.hand) := r1.cell (i := 8) (by omega)
        have f8 := r1.frozen 8
        have r5 : Row (W.setCell ⟨a1, 8, none⟩ (.int .i64 0)) a1 33 10 (setV ((s.gone h 0).to ((h + 0) % 4))) := by
          have := row_to r1 0
          subst e8
          exact this
        have r6 := r2.far (p := ⟨a1, 8, none⟩) (show a1 + 1 ≠ a1 by omega) (.int .i64 0)
        have hB6 := hB.setCell (p := ⟨a1, 8, none⟩) (show a1 ≤ a1 from Nat.le_refl _) (.int .i64 0)
        by_cases h0 : s.hand < 0
        · have t1 : decide (s.hand < 0) = true := decide_eq_true h0
          clear HH1 HH0 hin hx e8 h0
          have r3 := r5
          replace r2 := r6
          replace hB := hB6
          clear r5 r6 hB6 r1
          go_upto_region 8 with fail
          clear u8 f8
          generalize World.setCell _ _ _ = W2 at *
          go_upto_region 9 with fail
          go_loopw [5] (fun n wr => ∃ k : Nat, n = .int .i64 k ∧ k ≤ 4 ∧ Hid (∀ e, e < k → s.tch ((h + e) % 4) = true) ∧ Below a1 w wr ∧ Row wr a1 33 10 (setV ((s.gone h k).to ((h + k) % 4))) ∧ Row wr (a1 + 1) 33 10 (setV zeroS)) (fun n _ => 8 - (intOf n).toNat)
          case atStart => exact ⟨0, rfl, by omega, Lib.hid (fun j hj => by omega), hB, r3, r2⟩
          case round =>
            obtain ⟨k, rfl, hk, ht, hbr, q1, q2⟩ := hrel
            have hi : (h + k) % 4 < 4 := Nat.mod_lt _ (by omega)
            have hj : ((h + k) % 4 + 1) % 4 = (h + (k + 1)) % 4 := by omega
            have HST := Lib.hid (fun h2 => laps_stop (t := s.tch) (h := h) hk ht.out h2)
            have HGO := Lib.hid (fun h2 => laps_go (t := s.tch) (h := h) hk ht.out h2)
            have v8 : wr.cell? ⟨a1, 8, none⟩ = some (.int .i64 ((h + k) % 4 : Nat)) := q1.cell (i := 8) (by omega)
            have f8 := q1.frozen 8
            have q3 : Row (wr.setCell ⟨a1, 8, none⟩ (.int .i64 (((h + k) % 4 + 1) % 4 : Nat))) a1 33 10 (setV ((s.gone h k).to (((h + k) % 4 + 1) % 4))) := row_to q1 (((h + k) % 4 + 1) % 4)
            have q4 := q2.far (p := ⟨a1, 8, none⟩) (show a1 + 1 ≠ a1 by omega) (.int .i64 (((h + k) % 4 + 1) % 4 : Nat))
            have hb4 := hbr.setCell (p := ⟨a1, 8, none⟩) (show a1 ≤ a1 from Nat.le_refl _) (.int .i64 (((h + k) % 4 + 1) % 4 : Nat))
            have hun := fun W' (hq : Row W' a1 33 10 (setV ((s.gone h k).to (((h + k) % 4 + 1) % 4)))) => (row_untouch (s := s.to (((h + k) % 4 + 1) % 4)) (h := h) (d := k) hq (k := (h + k) % 4) rfl : Row (W'.setCell ⟨a1, (h + k) % 4 * 2 + 1, none⟩ (.bool false)) a1 33 10 (setV ((s.gone h (k + 1)).to (((h + k) % 4 + 1) % 4))))
            have HU := Lib.hid hun
            have HRk := Lib.hid (fun e => HR1.out k e)
            have hgs : ∀ X : Nat, ((s.gone h k).to X).tch ((h + k) % 4) = gone h s.tch k ((h + k) % 4) := fun _ => rfl
            have hv := fun W' (hq : Row W' a1 33 10 (setV ((s.gone h k).to (((h + k) % 4 + 1) % 4)))) => set_tch_at hq ((h + k) % 4) hi
            rw [hgs] at hv
            have HV := Lib.hid hv
            have q0 : (0 : Int) ≤ ((h + k) % 4 : Nat) := by omega
            have q00 : (((h + k) % 4 : Nat) : Int) < 4 := by omega
            have hk8 : (k : Int) < 8 := by omega
            have hnn : (((h + k) % 4 : Nat) : Int) + 1 = (((h + k) % 4 + 1 : Nat) : Int) := by omega
            have hn4 : (((h + k) % 4 : Nat) + 1 : Int) % 4 = ((((h + k) % 4 + 1) % 4 : Nat) : Int) := by omega
            have HJ := Lib.hid hj
            clear hun hv hgs r2 r3 hB hnn hj ht
            have hfz : Hid (∀ W' X, Row W' a1 33 10 (setV X) → W'.frozen? ⟨a1, (h + k) % 4 * 2 + 1, none⟩ = false) := Lib.hid (fun W' X hq => hq.frozen _)
            generalize ((h + k) % 4 + 1) % 4 = n at *
            generalize (h + k) % 4 = i at *
            go_upto_region 13 with fail
            have hvv := HV.out _ q3
            have hff := hfz.out _ _ q3
            have hu := HU.out _ q3
            have hb5 := hb4.setCell (p := ⟨a1, i * 2 + 1, none⟩) (show a1 ≤ a1 from Nat.le_refl _) (.bool false)
            have q5 := q4.far (p := ⟨a1, i * 2 + 1, none⟩) (show a1 + 1 ≠ a1 by omega) (.bool false)
            clear v8 f8 q1 q2 hbr HV HU hfz hn4
            generalize World.setCell wr _ _ = W3 at *
            cases hbb : gone h s.tch k i
            · obtain ⟨e1, e2⟩ := HRk.out (HST.out hbb)
              rw [hbb] at hvv
              have E1 := Lib.hid e1; have E2 := Lib.hid e2
              clear e1 e2 hbb HST HGO HRk hu hff hb5 q5 HR1 HJ
              generalize (s.gone h k).to n = X at *
              go_wp2_with (first
                | (refine wpList_load_row rfl 33 _ rfl a1 rfl 33 (rowOf 10 (setV X)) (0, 0) _ q3 Try.underlying33 rfl (by kernel_rfl) ?_)
                | (refine wpList_store_row rfl 33 _ _ rfl (a1 + 1) (rowOf 10 (setV X)) rfl rfl 33 (rowOf 10 (setV zeroS)) q4 (by kernel_rfl) rfl (setV_one _ _) ?_))
              exact bodyPost_ret (results_row1 (p := 2) (u := 3) (ty := 33) (by kernel_rfl) _ _ (a1 + 1) 33 (rowOf 10 (setV X)) (0, 0) _ rfl (q4.setRow_ _) Try.underlying33 rfl (by kernel_rfl)) rfl ⟨by rw [E1.out, E2.out]; rfl, by rw [HZ.out]; exact below_setRow_ hb4 (by omega) _⟩
            · obtain ⟨hk4, ht4⟩ := HGO.out hbb
              rw [hbb] at hvv
              have HT := Lib.hid ht4
              have HQ := Lib.hid (And.intro hb5 (And.intro hu q5))
              clear hbb HST HGO HRk hu hb5 q5 HR1 ht4 hb4 q3 q4
              go_wp2_with fail
              go_roundw
              case rel => exact ⟨k + 1, by go_num, by omega, HT.out, HQ.out.1, by rw [← HJ.out]; exact HQ.out.2.1, HQ.out.2.2⟩
              case measure => simp [intOf]; omega
        · have t1 : decide (s.hand < 0) = false := decide_eq_false h0
          have t2 : decide (3 < s.hand) = true := decide_eq_true (by omega)
          clear HH1 HH0 hin hx e8 h0
          have r3 := r5
          replace r2 := r6
          replace hB := hB6
          clear r5 r6 hB6 r1
          go_upto_region 8 with fail
          clear u8 f8
          generalize World.setCell _ _ _ = W2 at *
          go_upto_region 9 with fail
          go_loopw [5] (fun n wr => ∃ k : Nat, n = .int .i64 k ∧ k ≤ 4 ∧ Hid (∀ e, e < k → s.tch ((h + e) % 4) = true) ∧ Below a1 w wr ∧ Row wr a1 33 10 (setV ((s.gone h k).to ((h + k) % 4))) ∧ Row wr (a1 + 1) 33 10 (setV zeroS)) (fun n _ => 8 - (intOf n).toNat)
          case atStart => exact ⟨0, rfl, by omega, Lib.hid (fun j hj => by omega), hB, r3, r2⟩
          case round =>
            obtain ⟨k, rfl, hk, ht, hbr, q1, q2⟩ := hrel
            have hi : (h + k) % 4 < 4 := Nat.mod_lt _ (by omega)
            have hj : ((h + k) % 4 + 1) % 4 = (h + (k + 1)) % 4 := by omega
            have HST := Lib.hid (fun h2 => laps_stop (t := s.tch) (h := h) hk ht.out h2)
            have HGO := Lib.hid (fun h2 => laps_go (t := s.tch) (h := h) hk ht.out h2)
            have v8 : wr.cell? ⟨a1, 8, none⟩ = some (.int .i64 ((h + k) % 4 : Nat)) := q1.cell (i := 8) (by omega)
            have f8 := q1.frozen 8
            have q3 : Row (wr.setCell ⟨a1, 8, none⟩ (.int .i64 (((h + k) % 4 + 1) % 4 : Nat))) a1 33 10 (setV ((s.gone h k).to (((h + k) % 4 + 1) % 4))) := row_to q1 (((h + k) % 4 + 1) % 4)
            have q4 := q2.far (p := ⟨a1, 8, none⟩) (show a1 + 1 ≠ a1 by omega) (.int .i64 (((h + k) % 4 + 1) % 4 : Nat))
            have hb4 := hbr.setCell (p := ⟨a1, 8, none⟩) (show a1 ≤ a1 from Nat.le_refl _) (.int .i64 (((h + k) % 4 + 1) % 4 : Nat))
            have hun := fun W' (hq : Row W' a1 33 10 (setV ((s.gone h k).to (((h + k) % 4 + 1) % 4)))) => (row_untouch (s := s.to (((h + k) % 4 + 1) % 4)) (h := h) (d := k) hq (k := (h + k) % 4) rfl : Row (W'.setCell ⟨a1, (h + k) % 4 * 2 + 1, none⟩ (.bool false)) a1 33 10 (setV ((s.gone h (k + 1)).to (((h + k) % 4 + 1) % 4))))
            have HU := Lib.hid hun
            have HRk := Lib.hid (fun e => HR1.out k e)
            have hgs : ∀ X : Nat, ((s.gone h k).to X).tch ((h + k) % 4) = gone h s.tch k ((h + k) % 4) := fun _ => rfl
            have hv := fun W' (hq : Row W' a1 33 10 (setV ((s.gone h k).to (((h + k) % 4 + 1) % 4)))) => set_tch_at hq ((h + k) % 4) hi
            rw [hgs] at hv
            have HV := Lib.hid hv
            have q0 : (0 : Int) ≤ ((h + k) % 4 : Nat) := by omega
            have q00 : (((h + k) % 4 : Nat) : Int) < 4 := by omega
            have hk8 : (k : Int) < 8 := by omega
            have hnn : (((h + k) % 4 : Nat) : Int) + 1 = (((h + k) % 4 + 1 : Nat) : Int) := by omega
            have hn4 : (((h + k) % 4 : Nat) + 1 : Int) % 4 = ((((h + k) % 4 + 1) % 4 : Nat) : Int) := by omega
            have HJ := Lib.hid hj
            clear hun hv hgs r2 r3 hB hnn hj ht
            have hfz : Hid (∀ W' X, Row W' a1 33 10 (setV X) → W'.frozen? ⟨a1, (h + k) % 4 * 2 + 1, none⟩ = false) := Lib.hid (fun W' X hq => hq.frozen _)
            generalize ((h + k) % 4 + 1) % 4 = n at *
            generalize (h + k) % 4 = i at *
            go_upto_region 13 with fail
            have hvv := HV.out _ q3
            have hff := hfz.out _ _ q3
            have hu := HU.out _ q3
            have hb5 := hb4.setCell (p := ⟨a1, i * 2 + 1, none⟩) (show a1 ≤ a1 from Nat.le_refl _) (.bool false)
            have q5 := q4.far (p := ⟨a1, i * 2 + 1, none⟩) (show a1 + 1 ≠ a1 by omega) (.bool false)
            clear v8 f8 q1 q2 hbr HV HU hfz hn4
            generalize World.setCell wr _ _ = W3 at *
            cases hbb : gone h s.tch k i
            · obtain ⟨e1, e2⟩ := HRk.out (HST.out hbb)
              rw [hbb] at hvv
              have E1 := Lib.hid e1; have E2 := Lib.hid e2
              clear e1 e2 hbb HST HGO HRk hu hff hb5 q5 HR1 HJ
              generalize (s.gone h k).to n = X at *
              go_wp2_with (first
                | (refine wpList_load_row rfl 33 _ rfl a1 rfl 33 (rowOf 10 (setV X)) (0, 0) _ q3 Try.underlying33 rfl (by kernel_rfl) ?_)
                | (refine wpList_store_row rfl 33 _ _ rfl (a1 + 1) (rowOf 10 (setV X)) rfl rfl 33 (rowOf 10 (setV zeroS)) q4 (by kernel_rfl) rfl (setV_one _ _) ?_))
              exact bodyPost_ret (results_row1 (p := 2) (u := 3) (ty := 33) (by kernel_rfl) _ _ (a1 + 1) 33 (rowOf 10 (setV X)) (0, 0) _ rfl (q4.setRow_ _) Try.underlying33 rfl (by kernel_rfl)) rfl ⟨by rw [E1.out, E2.out]; rfl, by rw [HZ.out]; exact below_setRow_ hb4 (by omega) _⟩
            · obtain ⟨hk4, ht4⟩ := HGO.out hbb
              rw [hbb] at hvv
              have HT := Lib.hid ht4
              have HQ := Lib.hid (And.intro hb5 (And.intro hu q5))
              clear hbb HST HGO HRk hu hb5 q5 HR1 ht4 hb4 q3 q4
              go_wp2_with fail
              go_roundw
              case rel => exact ⟨k + 1, by go_num, by omega, HT.out, HQ.out.1, by rw [← HJ.out]; exact HQ.out.2.1, HQ.out.2.2⟩
              case measure => simp [intOf]; omega
end Go.Proofs.Ytoimbgmajoajiaa
