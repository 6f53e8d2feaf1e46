/- Statement FieldKeeps of layer 1, walked: it returns true, and turns nothing that was there. -/
import Derived.Test.YtlflhhdcakcioaaFieldLaws
namespace Go.Proofs.Ytlflhhdcakcioaa
open Go.ChangeShapes Go.WideShapes Go.ChangeAt Go.RowKit

/-- What was Set is Cut, as far as there are bits. -/
theorem cut_of_set (x n : Nat) (a s : Int) (h0 : 0 ≤ a) (h1 : a < 64) (hs : 1 ≤ s ∧ s ≤ 64) : cutN (setN x a s n) a s = cutN (cutN n 0 s) 0 (64 - a) := by
  refine bitsOf_congr _ (fun k hk => ?_)
  have e : (0 : Int) + k = (k : Nat) := by omega
  rw [e, bitAt_nat _ _ hk]
  have h2 : (cutN n 0 s).testBit k = (decide ((k : Int) < s) && bitAt n k) := by
    unfold cutN; rw [bitsOf_bit, e]; simp [hk]
  rw [h2]
  by_cases hks : (k : Int) < s
  · by_cases hk2 : a + k < 64
    · rw [bitAt_in _ _ (by omega) hk2]
      unfold setN
      rw [bitsOf_bit]
      have e1 : (a + (k : Int)).toNat < 64 := by omega
      have e2 : (((a + (k : Int)).toNat : Nat) : Int) = a + k := by omega
      have hin : inPart a s (a + (k : Int)).toNat = true := by unfold inPart; rw [e2]; simp; omega
      rw [hin, e2, show a + (k : Int) - a = k by omega]
      simp [e1, hks]
      intro _; omega
    · rw [bitAt_out _ _ (by omega)]
      simp; omega
  · simp [hks]
theorem other_bits (x n : Nat) (a s : Int) (k : Nat) (hk : k < 64) (h : (k : Int) < a ∨ a + s ≤ k) : bitAt (setN x a s n) k = bitAt x k := by
  rw [bitAt_nat _ _ hk, bitAt_nat _ _ hk]
  unfold setN
  rw [bitsOf_bit, if_neg (by unfold inPart; simp; omega)]
  simp [hk]
/-- What was unpacked is packed again. -/
theorem cutN_div {x : Nat} (hx : x < 18446744073709551616) {a z : Int} (h0 : 0 ≤ a) (h1 : 0 ≤ z) (h : a + z ≤ 64) : cutN x a z = x / pw a.toNat % pw z.toNat := by
  have hlt : x / pw a.toNat % pw z.toNat < 2 ^ 64 := Nat.lt_of_lt_of_le (Nat.mod_lt _ (pw_pos _)) (pw_le (show z.toNat ≤ 64 by omega))
  refine eq_of_bits (n := 64) (bits64 _) hlt (fun i hi => ?_)
  unfold cutN pw
  rw [bitsOf_bit, Nat.testBit_mod_two_pow, Nat.testBit_div_two_pow]
  by_cases hz : (i : Int) < z
  · rw [bitAt_in _ _ (by omega) (by omega)]
    simp only [hi, hz, decide_true, Bool.true_and, show i < z.toNat by omega]
    congr 1; omega
  · simp [hz]
    try (intro h; omega)
theorem unp_pack {l : List Int} {x : Nat} (hx : x < 18446744073709551616) (h : okU l x = true) (ns : List Nat) (hl : ns.length = l.length) (hns : ∀ i, i < l.length → ns.getD i 0 = cutN x (tot l i) (l.getD i 0)) :
    okP l ns = true ∧ packV l ns = x := by
  have ho : okS l = true := by unfold okU at h; simp only [Bool.and_eq_true] at h; exact h.1
  have hlt : x < pw (tot l l.length).toNat := by unfold okU at h; simp only [Bool.and_eq_true, decide_eq_true_eq] at h; exact h.2
  have step : ∀ k, k ≤ l.length → fitsTo l ns k = true ∧ packTo l ns k = x % pw (tot l k).toNat := by
    intro k
    induction k with
    | zero => intro _; exact ⟨rfl, by show 0 = x % pw 0; unfold pw; omega⟩
    | succ k ih =>
      intro hk
      obtain ⟨f, e⟩ := ih (by omega)
      have h1 := tot_nonneg (fun i hi => okS_pos ho hi) (show k ≤ l.length by omega)
      have h2 := okS_le ho (show k + 1 ≤ l.length by omega)
      rw [tot_succ] at h2
      have h3 := okS_pos ho (show k < l.length by omega)
      have hc := (hns k (by omega)).trans (cutN_div hx (by omega) (by omega) h2)
      refine ⟨fitsTo_succ f (by rw [hc]; exact Nat.mod_lt _ (pw_pos _)), ?_⟩
      show packTo l ns k + ns.getD k 0 * pw (tot l k).toNat = _
      rw [e, hc, tot_succ, show (tot l k + l.getD k 0).toNat = (tot l k).toNat + (l.getD k 0).toNat by omega]
      have h5 : pw ((tot l k).toNat + (l.getD k 0).toNat) = pw (tot l k).toNat * pw (l.getD k 0).toNat := by unfold pw; rw [Nat.pow_add]
      rw [h5, Nat.mod_mul, Nat.mul_comm]
  obtain ⟨f, e⟩ := step l.length (Nat.le_refl _)
  have hy := okP_yes ho hl.symm f
  exact ⟨hy, by rw [packV_yes hy, e, Nat.mod_eq_of_lt hlt]⟩
/-- The numbers that are unpacked, as a list. -/
def unpL (l : List Int) (x : Nat) : List Nat := (List.range l.length).map (fun i => cutN x (tot l i) (l.getD i 0))
theorem unpL_len (l : List Int) (x : Nat) : (unpL l x).length = l.length := by unfold unpL; simp
theorem unpL_at (l : List Int) (x : Nat) {i : Nat} (hi : i < l.length) : (unpL l x).getD i 0 = cutN x (tot l i) (l.getD i 0) := by
  unfold unpL; simp [List.getD, hi]
theorem unpL_lt (l : List Int) (x : Nat) (i : Nat) : (unpL l x).getD i 0 < 18446744073709551616 := by
  rcases Nat.lt_or_ge i l.length with h | h
  · rw [unpL_at l x h]; exact bits64 _
  · have : (unpL l x).getD i 0 = 0 := by unfold unpL; simp [List.getD, h]
    omega
theorem unpL_row {l : List Int} {x : Nat} {w : World} {A : Option Addr} (h : RowIs w A l.length (unp l x)) : RowIs w A l.length (fun i => .int .u64 ((unpL l x).getD i 0 : Nat)) := fun hn => by
  obtain ⟨b, off, e, hb, hc⟩ := h hn
  exact ⟨b, off, e, hb, fun i hi => (hc i hi).trans (by show some (unp l x i) = some (.int .u64 ((unpL l x).getD i 0 : Nat)); rw [unpL_at l x hi]; rfl)⟩
set_option maxRecDepth 100000 in
set_option maxHeartbeats 1000000 in
theorem fieldKeeps_walk (A : Option Addr) (c : Nat) (l : List Int) (hn : l.length ≤ 9223372036854775807) (hb : ∀ i, -9223372036854775808 ≤ l.getD i 0 ∧ l.getD i 0 ≤ 9223372036854775807)
    (x : Nat) (hxx : x < 18446744073709551616) (n : Nat) (hnn : n < 18446744073709551616)
    (w : World) (hr : RowIs w A l.length (fun i => .int .i64 (l.getD i 0))) :
    Calls Try.prog 7 #[.int .u64 x, .int .u64 n, .slice A l.length c] w fun e w' => e = .returned (.bool true) ∧ Below w.heap.size w w' := by
  by_cases hlen : 100 < l.length
  · have h1 : 100 < (l.length : Int) := by omega
    clear hlen
    go_enter Try.func7, Try.ntmps7
    go_wp2_with (go_at_call 11; refine (lives_any _).mono ?_; rintro e w' ⟨rfl, hb⟩)
    all_goals first | (exfalso; omega) | (go_ret; exact ⟨rfl, hb⟩)
  · have hl1 : (l.length : Int) ≤ 100 := by omega
    clear hlen
    have Hup := Lib.hid (fUnpack_any A c l hn hb x hxx w hr)
    go_enter Try.func7, Try.ntmps7
    go_wp2_with fail
    go_loop [7, 8, 9, 10, 11] (fun t i _ _ _ => ∃ (k : Nat) (a : Int), k ≤ l.length ∧ i = .int .i64 k ∧ t = .int .i64 a ∧ 0 ≤ a ∧ a ≤ 128) (fun _ i _ _ _ => l.length - (intOf i).toNat)
    case atStart => exact ⟨0, 0, Nat.zero_le _, rfl, rfl, by omega, by omega⟩
    case round =>
      obtain ⟨k, a, hk, rfl, rfl, ha0, ha1⟩ := hrel
      by_cases hlt : k < l.length
      · have Hr := Lib.hid hr
        obtain ⟨b, off, rfl, hbl, hcell⟩ := hr (by omega)
        have hck : w.cell? ⟨b, off + k, none⟩ = some (.int .i64 (l.getD k 0)) := hcell k hlt
        have hbk := hb k
        generalize hgz : l.getD k 0 = z at hck hbk
        clear hgz hcell hr
        by_cases hz1 : z < 1
        · go_wp2_with fail
          all_goals first | (exfalso; omega) | skip
          refine Hup.out.mono ?_
          intro e w2 hpost
          have hbw := hpost.1
          have Hpost := Lib.hid hpost.2
          clear hpost Hup
          cases hu : okU l x
          · obtain rfl := Hpost.out.2 hu
            clear Hpost hu
            go_wp2_with (go_at_call 11; refine (lives_any _).mono ?_; rintro e w' ⟨rfl, hb⟩)
            go_ret
            exact ⟨rfl, hbw.trans (hb.mono hbw.size)⟩
          · obtain ⟨A2, c2, rfl, hrow⟩ := Hpost.out.1 hu
            clear Hpost
            have hpk := fPack_any _ _ c c2 l (unpL l x) hn (by rw [unpL_len]; exact hn) hb (unpL_lt l x) w2 (Hr.out.below hbw) (by rw [unpL_len]; exact unpL_row hrow)
            rw [(unp_pack hxx hu (unpL l x) (unpL_len l x) (fun i hi => unpL_at l x hi)).1, (unp_pack hxx hu (unpL l x) (unpL_len l x) (fun i hi => unpL_at l x hi)).2, unpL_len] at hpk
            have Hpk := Lib.hid hpk
            clear hpk hrow hu
            go_wp2_with fail
            refine Hpk.out.mono ?_
            rintro e w3 ⟨rfl, hd⟩
            have hbw3 := hbw.trans (hd.below _)
            clear hd Hpk
            go_wp2_with (go_at_call 11; refine (lives_any _).mono ?_; rintro e w' ⟨rfl, hb⟩)
            go_ret
            exact ⟨rfl, hbw3.trans (hb.mono hbw3.size)⟩
        · by_cases hz2 : 64 < z
          · go_wp2_with fail
            all_goals first | (exfalso; omega) | skip
            refine Hup.out.mono ?_
            intro e w2 hpost
            have hbw := hpost.1
            have Hpost := Lib.hid hpost.2
            clear hpost Hup
            cases hu : okU l x
            · obtain rfl := Hpost.out.2 hu
              clear Hpost hu
              go_wp2_with (go_at_call 11; refine (lives_any _).mono ?_; rintro e w' ⟨rfl, hb⟩)
              go_ret
              exact ⟨rfl, hbw.trans (hb.mono hbw.size)⟩
            · obtain ⟨A2, c2, rfl, hrow⟩ := Hpost.out.1 hu
              clear Hpost
              have hpk := fPack_any _ _ c c2 l (unpL l x) hn (by rw [unpL_len]; exact hn) hb (unpL_lt l x) w2 (Hr.out.below hbw) (by rw [unpL_len]; exact unpL_row hrow)
              rw [(unp_pack hxx hu (unpL l x) (unpL_len l x) (fun i hi => unpL_at l x hi)).1, (unp_pack hxx hu (unpL l x) (unpL_len l x) (fun i hi => unpL_at l x hi)).2, unpL_len] at hpk
              have Hpk := Lib.hid hpk
              clear hpk hrow hu
              go_wp2_with fail
              refine Hpk.out.mono ?_
              rintro e w3 ⟨rfl, hd⟩
              have hbw3 := hbw.trans (hd.below _)
              clear hd Hpk
              go_wp2_with (go_at_call 11; refine (lives_any _).mono ?_; rintro e w' ⟨rfl, hb⟩)
              go_ret
              exact ⟨rfl, hbw3.trans (hb.mono hbw3.size)⟩
          · by_cases ha2 : 64 < a
            · go_wp2_with fail
              all_goals first | (exfalso; omega) | skip
              refine Hup.out.mono ?_
              intro e w2 hpost
              have hbw := hpost.1
              have Hpost := Lib.hid hpost.2
              clear hpost Hup
              cases hu : okU l x
              · obtain rfl := Hpost.out.2 hu
                clear Hpost hu
                go_wp2_with (go_at_call 11; refine (lives_any _).mono ?_; rintro e w' ⟨rfl, hb⟩)
                go_ret
                exact ⟨rfl, hbw.trans (hb.mono hbw.size)⟩
              · obtain ⟨A2, c2, rfl, hrow⟩ := Hpost.out.1 hu
                clear Hpost
                have hpk := fPack_any _ _ c c2 l (unpL l x) hn (by rw [unpL_len]; exact hn) hb (unpL_lt l x) w2 (Hr.out.below hbw) (by rw [unpL_len]; exact unpL_row hrow)
                rw [(unp_pack hxx hu (unpL l x) (unpL_len l x) (fun i hi => unpL_at l x hi)).1, (unp_pack hxx hu (unpL l x) (unpL_len l x) (fun i hi => unpL_at l x hi)).2, unpL_len] at hpk
                have Hpk := Lib.hid hpk
                clear hpk hrow hu
                go_wp2_with fail
                refine Hpk.out.mono ?_
                rintro e w3 ⟨rfl, hd⟩
                have hbw3 := hbw.trans (hd.below _)
                clear hd Hpk
                go_wp2_with (go_at_call 11; refine (lives_any _).mono ?_; rintro e w' ⟨rfl, hb⟩)
                go_ret
                exact ⟨rfl, hbw3.trans (hb.mono hbw3.size)⟩
            · clear Hup
              have Hcut : Hid (a < 64 → cutN (setN x a z n) a z = cutN (cutN n 0 z) 0 (64 - a)) := Lib.hid (fun h => cut_of_set x n a z ha0 h (by omega))
              have Hoth : Hid (∀ j : Nat, j < 64 → ((j : Int) < a ∨ a + z ≤ j) → bitAt (setN x a z n) j = bitAt x j) := Lib.hid (fun j hj h => other_bits x n a z j hj h)
              have hs64 : setN x a z n < 18446744073709551616 := bits64 _
              have hc64 : cutN n 0 z < 18446744073709551616 := bits64 _
              generalize hgy : setN x a z n = y at *
              have Hgy := Lib.hid hgy; clear hgy
              by_cases ha3 : a < 64
              · have Hcut' := Lib.hid (Hcut.out ha3); clear Hcut
                have hd : decide (a < 64) = true := decide_eq_true ha3
                go_wp2_with fail
                refine (fSet_any x hxx _ _ (by omega) (by omega) n hnn _).mono ?_; rintro e w' ⟨rfl, rfl⟩; rw [Hgy.out]
                go_wp2_with fail
                refine (fCut_any y hs64 _ _ (by omega) (by omega) _).mono ?_; rintro e w' ⟨rfl, rfl⟩; rw [Hcut'.out]
                go_wp2_with fail
                refine (fCut_any n hnn _ _ (by omega) (by omega) _).mono ?_; rintro e w' ⟨rfl, rfl⟩
                go_wp2_with fail
                refine (fCut_any _ hc64 _ _ (by omega) (by omega) _).mono ?_; rintro e w' ⟨rfl, rfl⟩
                go_wp2_with fail
                go_loop [11] (fun i => ∃ j : Nat, j ≤ 64 ∧ i = .int .i64 j) (fun i => 64 - (intOf i).toNat)
                case atStart => exact ⟨0, by omega, rfl⟩
                case round =>
                  obtain ⟨j, hj, rfl⟩ := hrel
                  by_cases hjl : j < 64
                  · by_cases hj1 : (j : Int) < a
                    · have Ho := Lib.hid (Hoth.out j hjl (.inl hj1))
                      go_wp2_with fail
                      refine (fHas_any y hs64 _ (by omega) _).mono ?_; rintro e w' ⟨rfl, rfl⟩; rw [Ho.out]
                      go_wp2_with fail
                      refine (fHas_any x hxx _ (by omega) _).mono ?_; rintro e w' ⟨rfl, rfl⟩
                      go_wp2_with fail
                      go_round
                      case rel => exact ⟨j + 1, by omega, by go_num⟩
                      case measure => simp [intOf]; omega
                    · by_cases hj2 : a + z ≤ j
                      · have Ho := Lib.hid (Hoth.out j hjl (.inr hj2))
                        go_wp2_with fail
                        all_goals first | (exfalso; omega) | skip
                        refine (fHas_any y hs64 _ (by omega) _).mono ?_; rintro e w' ⟨rfl, rfl⟩; rw [Ho.out]
                        go_wp2_with fail
                        refine (fHas_any x hxx _ (by omega) _).mono ?_; rintro e w' ⟨rfl, rfl⟩
                        go_wp2_with fail
                        go_round
                        case rel => exact ⟨j + 1, by omega, by go_num⟩
                        case measure => simp [intOf]; omega
                      · go_wp2_with fail
                        all_goals first | (exfalso; omega) | skip
                        go_round
                        case rel => exact ⟨j + 1, by omega, by go_num⟩
                        case measure => simp [intOf]; omega
                  · obtain rfl : j = 64 := by omega
                    go_wp2_with fail
                    go_round
                    case rel => exact ⟨k + 1, a + z, by omega, by go_num, rfl, by omega, by omega⟩
                    case measure => simp [intOf]; omega
              · clear Hcut
                have hd : decide (a < 64) = false := decide_eq_false ha3
                go_wp2_with fail
                refine (fSet_any x hxx _ _ (by omega) (by omega) n hnn _).mono ?_; rintro e w' ⟨rfl, rfl⟩; rw [Hgy.out]
                go_wp2_with fail
                go_loop [11] (fun i => ∃ j : Nat, j ≤ 64 ∧ i = .int .i64 j) (fun i => 64 - (intOf i).toNat)
                case atStart => exact ⟨0, by omega, rfl⟩
                case round =>
                  obtain ⟨j, hj, rfl⟩ := hrel
                  by_cases hjl : j < 64
                  · have Ho := Lib.hid (Hoth.out j hjl (.inl (by omega)))
                    go_wp2_with fail
                    refine (fHas_any y hs64 _ (by omega) _).mono ?_; rintro e w' ⟨rfl, rfl⟩; rw [Ho.out]
                    go_wp2_with fail
                    refine (fHas_any x hxx _ (by omega) _).mono ?_; rintro e w' ⟨rfl, rfl⟩
                    go_wp2_with fail
                    go_round
                    case rel => exact ⟨j + 1, by omega, by go_num⟩
                    case measure => simp [intOf]; omega
                  · obtain rfl : j = 64 := by omega
                    go_wp2_with fail
                    go_round
                    case rel => exact ⟨k + 1, a + z, by omega, by go_num, rfl, by omega, by omega⟩
                    case measure => simp [intOf]; omega
      · have Hr := Lib.hid hr
        go_wp2_with fail
        refine Hup.out.mono ?_
        intro e w2 hpost
        have hbw := hpost.1
        have Hpost := Lib.hid hpost.2
        clear hpost Hup
        cases hu : okU l x
        · obtain rfl := Hpost.out.2 hu
          clear Hpost hu
          go_wp2_with (go_at_call 11; refine (lives_any _).mono ?_; rintro e w' ⟨rfl, hb⟩)
          go_ret
          exact ⟨rfl, hbw.trans (hb.mono hbw.size)⟩
        · obtain ⟨A2, c2, rfl, hrow⟩ := Hpost.out.1 hu
          clear Hpost
          have hpk := fPack_any _ _ c c2 l (unpL l x) hn (by rw [unpL_len]; exact hn) hb (unpL_lt l x) w2 (Hr.out.below hbw) (by rw [unpL_len]; exact unpL_row hrow)
          rw [(unp_pack hxx hu (unpL l x) (unpL_len l x) (fun i hi => unpL_at l x hi)).1, (unp_pack hxx hu (unpL l x) (unpL_len l x) (fun i hi => unpL_at l x hi)).2, unpL_len] at hpk
          have Hpk := Lib.hid hpk
          clear hpk hrow hu
          go_wp2_with fail
          refine Hpk.out.mono ?_
          rintro e w3 ⟨rfl, hd⟩
          have hbw3 := hbw.trans (hd.below _)
          clear hd Hpk
          go_wp2_with (go_at_call 11; refine (lives_any _).mono ?_; rintro e w' ⟨rfl, hb⟩)
          go_ret
          exact ⟨rfl, hbw3.trans (hb.mono hbw3.size)⟩
end Go.Proofs.Ytlflhhdcakcioaa
