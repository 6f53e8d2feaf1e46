/- Statement FieldPacks of layer 1, walked: it returns true, and turns nothing that was there. -/
import Derived.Test.YtlflhhdcakcioaaFieldLaws
namespace Go.Proofs.Ytlflhhdcakcioaa
open Go.ChangeShapes Go.WideShapes Go.ChangeAt Go.RowKit

/-- No bit from a size on: the number is below. -/
theorem small_of_bits {l : List Int} {x : Nat} (ho : okS l = true) (hx : x < 18446744073709551616) (h : ∀ b : Nat, tot l l.length ≤ b → b < 64 → x.testBit b = false) : okU l x = true := by
  have h0 := tot_nonneg (fun i hi => okS_pos ho hi) (Nat.le_refl l.length)
  refine okU_yes ho (lt_of_bits hx (fun b hb h2 => ?_))
  rcases Nat.lt_or_ge b (tot l l.length).toNat with hc | hc
  · exact hc
  · rw [h b (by omega) hb] at h2; cases h2
theorem bits_of_small {l : List Int} {x : Nat} (h : okU l x = true) {b : Nat} (hb : tot l l.length ≤ b) : x.testBit b = false := by
  unfold okU at h
  simp only [Bool.and_eq_true, decide_eq_true_eq] at h
  exact Nat.testBit_lt_two_pow (Nat.lt_of_lt_of_le h.2 (pw_le (by omega)))

set_option maxHeartbeats 1000000 in
theorem fieldPacks_walk (A B : Option Addr) (c d : Nat) (l : List Int) (ns : List Nat) (hn : l.length ≤ 9223372036854775807) (hm : ns.length ≤ 9223372036854775807) (hb : ∀ i, -9223372036854775808 ≤ l.getD i 0 ∧ l.getD i 0 ≤ 9223372036854775807)
    (hx : ∀ i, ns.getD i 0 < 18446744073709551616) (x : Nat) (hxx : x < 18446744073709551616)
    (w : World) (hr : RowIs w A l.length (fun i => .int .i64 (l.getD i 0))) (hq : RowIs w B ns.length (fun i => .int .u64 (ns.getD i 0 : Nat))) :
    Calls Try.prog 5 #[.slice A l.length c, .slice B ns.length d, .int .u64 x] w fun e w' => e = .returned (.bool true) ∧ Below w.heap.size w w' := by
  by_cases hlen : 100 < l.length ∨ 100 < ns.length
  · have hlen' : 100 < (l.length : Int) ∨ 100 < (ns.length : Int) := by omega
    clear hlen
    by_cases h1 : 100 < (l.length : Int)
    all_goals
      go_enter Try.func5, Try.ntmps5
      go_wp2_with (go_at_call 11; refine (lives_any _).mono ?_; rintro e w' ⟨rfl, hb⟩)
      all_goals first | (exfalso; omega) | (go_ret; exact ⟨rfl, hb⟩)
  · have hl1 : (l.length : Int) ≤ 100 := by omega
    have hl2 : (ns.length : Int) ≤ 100 := by omega
    clear hlen
    have Hp := Lib.hid (fPack_any A B c d l ns hn hm hb hx w hr hq)
    have Hu := Lib.hid (fun W => refPack_any A B c d l ns hn hm hb hx W)
    go_enter Try.func5, Try.ntmps5
    go_wp2_with fail
    refine Hp.out.mono ?_
    rintro e w1 ⟨rfl, hd1⟩
    have hr1 := hd1.row hr
    have hq1 := hd1.row hq
    have hbw := hd1.below w.heap.size
    clear Hp hd1
    go_wp2_with fail
    refine (Hu.out w1 hr1 hq1).mono ?_
    rintro e w2 ⟨rfl, rfl⟩
    go_wp2_with fail
    refine (fUnpack_any A c l hn hb x hxx w1 hr1).mono ?_
    intro e w2 hpost
    have hr2 := hr1.below hpost.1
    have hbw2 := hbw.trans (hpost.1.mono hbw.size)
    have Hpost := Lib.hid hpost.2
    clear hpost hr1 hq1 hbw Hu hq
    have Hrt := Lib.hid (refRight_any A c l hn hb w2 hr2)
    cases hu : okU l x
    · obtain rfl := Hpost.out.2 hu
      clear Hpost
      cases ho : okS l
      · have Ho := Lib.hid ho; clear ho hu
        go_wp2_with (first | (go_at_call 22; refine Hrt.out.mono ?_; rintro e w' ⟨rfl, rfl⟩; rw [Ho.out]) | (go_at_call 11; refine (lives_any _).mono ?_; rintro e w' ⟨rfl, hb⟩))
        go_ret
        exact ⟨rfl, hbw2.trans (hb.mono hbw2.size)⟩
      · have Ho := Lib.hid ho; have Hu := Lib.hid hu
        have h0 := tot_nonneg (fun i hi => okS_pos ho hi) (Nat.le_refl l.length)
        have h64 := okS_tot ho
        have Hsum := Lib.hid (refSum_any A c l ho w2 hr2)
        clear ho hu
        go_wp2_with (first | (go_at_call 22; refine Hrt.out.mono ?_; rintro e w' ⟨rfl, rfl⟩; rw [Ho.out]) | (go_at_call 23; refine Hsum.out.mono ?_; rintro e w' ⟨rfl, rfl⟩))
        go_loop [14] (fun i => ∃ b : Nat, i = .int .i64 b ∧ tot l l.length ≤ b ∧ b ≤ 64 ∧ Hid (∀ j : Nat, tot l l.length ≤ j → j < b → x.testBit j = false)) (fun i => 64 - (intOf i).toNat)
        case atStart => exact ⟨(tot l l.length).toNat, by congr 1; omega, by omega, by omega, Lib.hid (fun j h1 h2 => by omega)⟩
        case round =>
          obtain ⟨b, rfl, hb1, hb2, Hb⟩ := hrel
          by_cases hlt : b < 64
          · cases hbit : x.testBit b
            · have Hbit := Lib.hid ((bitAt_nat x b hlt).trans hbit)
              have Hb' : Hid (∀ j : Nat, tot l l.length ≤ j → j < b + 1 → x.testBit j = false) := Lib.hid (fun j h1 h2 => by
                rcases Nat.lt_or_ge j b with h | h
                · exact Hb.out j h1 h
                · obtain rfl : j = b := by omega
                  exact hbit)
              clear hbit
              go_wp2_with (go_at_call 15; refine (bit_any x hxx _ (by omega) _).mono ?_; rintro e w' ⟨rfl, rfl⟩; simp only [Hbit.out, Bool.toNat_false])
              go_round
              case rel => exact ⟨b + 1, by go_num, by omega, by omega, Hb'⟩
              case measure => simp [intOf]; omega
            · have Hbit := Lib.hid ((bitAt_nat x b hlt).trans hbit); clear hbit
              go_wp2_with (first | (go_at_call 15; refine (bit_any x hxx _ (by omega) _).mono ?_; rintro e w' ⟨rfl, rfl⟩; simp only [Hbit.out, Bool.toNat_true]) | (go_at_call 11; refine (lives_any _).mono ?_; rintro e w' ⟨rfl, hb⟩))
              go_ret
              exact ⟨rfl, hbw2.trans (hb.mono hbw2.size)⟩
          · obtain rfl : b = 64 := by omega
            have h1 := small_of_bits Ho.out hxx Hb.out
            rw [Hu.out] at h1
            cases h1
    · obtain ⟨A2, c2, rfl, hrow⟩ := Hpost.out.1 hu
      clear Hpost
      have ho : okS l = true := by unfold okU at hu; simp only [Bool.and_eq_true] at hu; exact hu.1
      have Ho := Lib.hid ho
      have Hu : Hid (∀ b : Nat, b < 64 → tot l l.length ≤ b → bitAt x b = false) := Lib.hid (fun b h1 h2 => (bitAt_nat x b h1).trans (bits_of_small hu h2))
      have h0 := tot_nonneg (fun i hi => okS_pos ho hi) (Nat.le_refl l.length)
      have h64 := okS_tot ho
      have Hsum := Lib.hid (refSum_any A c l ho w2 hr2)
      clear ho hu
      go_wp2_with (first | (go_at_call 22; refine Hrt.out.mono ?_; rintro e w' ⟨rfl, rfl⟩; rw [Ho.out]) | (go_at_call 23; refine Hsum.out.mono ?_; rintro e w' ⟨rfl, rfl⟩))
      go_loop [14] (fun i => ∃ b : Nat, i = .int .i64 b ∧ tot l l.length ≤ b ∧ b ≤ 64) (fun i => 64 - (intOf i).toNat)
      case atStart => exact ⟨(tot l l.length).toNat, by congr 1; omega, by omega, by omega⟩
      case round =>
        obtain ⟨b, rfl, hb1, hb2⟩ := hrel
        by_cases hlt : b < 64
        · have Hbit := Lib.hid (Hu.out b hlt hb1)
          go_wp2_with (go_at_call 15; refine (bit_any x hxx _ (by omega) _).mono ?_; rintro e w' ⟨rfl, rfl⟩; simp only [Hbit.out, Bool.toNat_false])
          go_round
          case rel => exact ⟨b + 1, by go_num, by omega, by omega⟩
          case measure => simp [intOf]; omega
        · obtain rfl : b = 64 := by omega
          clear Hrt Hsum Hu
          have hne : ((l.length : Int) != l.length) = false := by simp
          go_wp2
          clear hr h0 h64 hb1 hb2 hlt
          go_loopw [15, 16] (fun t i wr => ∃ k : Nat, k ≤ l.length ∧ i = .int .i64 k ∧ t = .int .i64 (tot l k) ∧ Drew w2 wr) (fun _ i _ => l.length - (intOf i).toNat)
          case atStart => exact ⟨0, Nat.zero_le _, rfl, rfl, Drew.refl _⟩
          case round =>
            obtain ⟨k, hk, rfl, rfl, hd⟩ := hrel
            by_cases hlt : k < l.length
            · obtain ⟨b1, off, rfl, hbl, hcell⟩ := hr2 (by omega)
              obtain ⟨b2, off2, rfl, hbl2, hcell2⟩ := hrow (by omega)
              have hck : w2.cell? ⟨b1, off + k, none⟩ = some (.int .i64 (l.getD k 0)) := hcell k hlt
              have hck2 : w2.cell? ⟨b2, off2 + k, none⟩ = some (unp l x k) := hcell2 k hlt
              unfold unp at hck2
              rw [← hd.cell] at hck hck2
              clear hcell hcell2 hr2 hrow
              have hzz := okS_size Ho.out hlt
              have ht1 := tot_nonneg (fun i hi => okS_pos Ho.out hi) hk
              have ht2 := okS_le Ho.out (show k ≤ l.length by omega)
              have Ht := Lib.hid (tot_succ l k)
              generalize hgz : l.getD k 0 = z at *
              have Hz := Lib.hid hgz; clear hgz
              go_wp2_with fail
              go_quiet ((go_at_call 13; exact Calls.quiet_of_same (quiet_eq (refCut_any x hxx _ _ (by omega) (by omega) _))))
              go_wp2
              go_roundw
              case rel => exact ⟨k + 1, by omega, by go_num, by rw [Ht.out], hd.more _⟩
              case measure => simp [intOf]; omega
            · obtain rfl : k = l.length := by omega
              have hbwr := hbw2.trans (hd.below _)
              clear hd
              go_wp2_with (go_at_call 11; refine (lives_any _).mono ?_; rintro e w' ⟨rfl, hb⟩)
              go_ret
              exact ⟨rfl, hbwr.trans (hb.mono hbwr.size)⟩
end Go.Proofs.Ytlflhhdcakcioaa
