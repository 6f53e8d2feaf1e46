/- What the functions of package burnbagref01 over slices answer. -/
import Derived.Test.YtlflhhdcakcioaaLaw
import Derived.Test.YtlflhhdcakcioaaSizes
import Derived.Test.YtlflhhdcakcioaaRef1
namespace Go.Proofs.Ytlflhhdcakcioaa
open Go.ChangeShapes Go.WideShapes Go.ChangeAt Go.RowKit

/-- More than 65 sizes may not be. -/
theorem okS_many {l : List Int} {k : Nat} (hk : k < l.length) (h : 64 < k) : okS l = false := by
  cases ho : okS l
  · rfl
  · have := okS_len ho; omega

theorem refRight_any (A : Option Addr) (c : Nat) (l : List Int) (hn : l.length ≤ 9223372036854775807) (hb : ∀ i, -9223372036854775808 ≤ l.getD i 0 ∧ l.getD i 0 ≤ 9223372036854775807)
    (w : World) (hr : RowIs w A l.length (fun i => .int .i64 (l.getD i 0))) :
    Calls Try.prog 22 #[.slice A l.length c] w fun e w' => e = .returned (.bool (okS l)) ∧ w = w' := by
  go_enter Try.func22, Try.ntmps22
  go_wp2
  go_loop [3, 4] (fun t i => ∃ k : Nat, k ≤ l.length ∧ i = .int .i64 k ∧ t = .int .i64 (tot l k) ∧ k ≤ 65 ∧ 0 ≤ tot l k ∧ tot l k ≤ 64 * k ∧ Hid (∀ j, j < k → 1 ≤ l.getD j 0)) (fun _ i => l.length - (intOf i).toNat)
  case atStart => exact ⟨0, Nat.zero_le _, rfl, rfl, by omega, by unfold tot; omega, by unfold tot; omega, Lib.hid (fun j hj => by omega)⟩
  case round =>
    obtain ⟨k, hk, rfl, rfl, hk65, ht0, ht, Hp⟩ := hrel
    by_cases hlt : k < l.length
    · obtain ⟨b, off, rfl, hbl, hcell⟩ := hr (by omega)
      have hck : w.cell? ⟨b, off + k, none⟩ = some (.int .i64 (l.getD k 0)) := hcell k hlt
      clear hcell hr
      have hbk := hb k
      have Ht := Lib.hid (tot_succ l k)
      have Hno : Hid (l.getD k 0 < 1 → okS l = false) := Lib.hid (fun h => okS_not hlt h)
      have Hov : Hid (64 < tot l (k + 1) → okS l = false) := Lib.hid (fun h => okS_over hlt h)
      have Hbig : Hid ((∀ j, j < k → 1 ≤ l.getD j 0) → 64 < l.getD k 0 → okS l = false) := Lib.hid (fun hp h => okS_over (k := k + 1) hlt (by
        rw [tot_succ]; omega))
      generalize hz : l.getD k 0 = z at *
      have Hz := Lib.hid hz; clear hz
      by_cases h1 : z < 1
      · have H := Lib.hid (Hno.out h1)
        go_wp2
        all_goals first | (exfalso; omega) | (go_ret; exact ⟨by rw [H.out]; rfl, rfl⟩)
      · by_cases h2 : 64 < z
        · have H := Lib.hid (Hbig.out Hp.out h2)
          go_wp2
          all_goals first | (exfalso; omega) | (go_ret; exact ⟨by rw [H.out]; rfl, rfl⟩)
        · by_cases h3 : 64 < k
          · have H := Lib.hid (okS_many hlt h3)
            go_wp2
            all_goals first | (exfalso; omega) | (go_ret; exact ⟨by rw [H.out]; rfl, rfl⟩)
          · go_wp2
            all_goals first | (exfalso; omega) | skip
            go_round
            case rel => exact ⟨k + 1, by omega, by go_num, by rw [Ht.out], by omega, by rw [Ht.out]; omega, by rw [Ht.out]; omega, Lib.hid (fun j hj => by
              rcases Nat.lt_or_ge j k with h | h
              · exact Hp.out j h
              · obtain rfl : j = k := by omega
                rw [Hz.out]; omega)⟩
            case measure => simp [intOf]; omega
    · obtain rfl : k = l.length := by omega
      by_cases h : tot l l.length ≤ 64
      · have H := Lib.hid (okS_yes Hp.out h)
        go_wp2
        go_ret
        exact ⟨by rw [H.out]; simp, rfl⟩
      · have H := Lib.hid (okS_over (Nat.le_refl _) (show 64 < tot l l.length by omega))
        go_wp2
        go_ret
        exact ⟨by rw [H.out]; simp, rfl⟩

theorem refSum_any (A : Option Addr) (c : Nat) (l : List Int) (ho : okS l = true)
    (w : World) (hr : RowIs w A l.length (fun i => .int .i64 (l.getD i 0))) :
    Calls Try.prog 23 #[.slice A l.length c] w fun e w' => e = .returned (.int .i64 (tot l l.length)) ∧ w = w' := by
  have Ho := Lib.hid ho; clear ho
  have hl64 := okS_len Ho.out
  go_enter Try.func23, Try.ntmps23
  go_wp2
  go_loop [3, 4] (fun t i => ∃ k : Nat, k ≤ l.length ∧ i = .int .i64 k ∧ t = .int .i64 (tot l k)) (fun _ i => l.length - (intOf i).toNat)
  case atStart => exact ⟨0, Nat.zero_le _, rfl, rfl⟩
  case round =>
    obtain ⟨k, hk, rfl, rfl⟩ := hrel
    by_cases hlt : k < l.length
    · obtain ⟨b, off, rfl, hbl, hcell⟩ := hr (by omega)
      have hck : w.cell? ⟨b, off + k, none⟩ = some (.int .i64 (l.getD k 0)) := hcell k hlt
      clear hcell hr
      have hzz := okS_size Ho.out hlt
      have ht1 := tot_nonneg (fun i hi => okS_pos Ho.out hi) hk
      have ht2 := okS_le Ho.out (show k ≤ l.length by omega)
      have Ht := Lib.hid (tot_succ l k)
      generalize hz : l.getD k 0 = z at *
      have Hz := Lib.hid hz; clear hz
      go_wp2
      go_round
      case rel => exact ⟨k + 1, by omega, by go_num, by rw [Ht.out]⟩
      case measure => simp [intOf]; omega
    · obtain rfl : k = l.length := by omega
      go_wp2
      go_ret
      exact ⟨rfl, rfl⟩

/-- What is packed while the k-th number's bits are gone through: the first j of them are in. -/
def inN (l : List Int) (ns : List Nat) (k j : Nat) : Nat := packTo l ns k + bitsOf (ns.getD k 0).testBit j * pw (tot l k).toNat
theorem inN_zero (l : List Int) (ns : List Nat) (k : Nat) : inN l ns k 0 = packTo l ns k := by unfold inN bitsOf; simp
theorem inN_no {l : List Int} {ns : List Nat} {k j : Nat} (h : (ns.getD k 0).testBit j = false) : inN l ns k (j + 1) = inN l ns k j := by unfold inN; rw [bits_succ_f _ _ h]
theorem inN_yes {l : List Int} {ns : List Nat} {k j : Nat} (h : (ns.getD k 0).testBit j = true) : inN l ns k (j + 1) = inN l ns k j + pw ((tot l k).toNat + j) := by
  unfold inN
  rw [bits_succ_t _ _ h, Nat.add_mul]
  have : pw ((tot l k).toNat + j) = pw j * pw (tot l k).toNat := by unfold pw; rw [Nat.pow_add, Nat.mul_comm]
  omega
theorem inN_lt {l : List Int} {ns : List Nat} {k j : Nat} (ho : okS l = true) (hk : k ≤ l.length) (hf : fitsTo l ns k = true) (h : (tot l k).toNat + j ≤ 64) : inN l ns k j < 18446744073709551616 := by
  have h1 := packTo_lt ho hk hf
  have h2 : bitsOf (ns.getD k 0).testBit j < pw j := bitsOf_lt _ j
  have h3 : pw ((tot l k).toNat + j) = pw j * pw (tot l k).toNat := by unfold pw; rw [Nat.pow_add, Nat.mul_comm]
  have h4 : pw ((tot l k).toNat + j) ≤ pw 64 := pw_le h
  rw [pw_64] at h4
  have h5 : (bitsOf (ns.getD k 0).testBit j + 1) * pw (tot l k).toNat ≤ pw j * pw (tot l k).toNat := Nat.mul_le_mul_right _ h2
  rw [Nat.add_mul] at h5
  unfold inN
  omega
theorem inN_all {l : List Int} {ns : List Nat} {k : Nat} (hx : ns.getD k 0 < 18446744073709551616) : inN l ns k 64 = packTo l ns (k + 1) := by
  have h : bitsOf (ns.getD k 0).testBit 64 = ns.getD k 0 := (eq_bitsOf (n := 64) hx).symm
  unfold inN
  rw [h]; rfl
theorem lt_of_bits {x n : Nat} (hx : x < 18446744073709551616) (h : ∀ b, b < 64 → x.testBit b = true → b < n) : x < pw n := by
  refine Nat.lt_pow_two_of_testBit _ (fun i hi => ?_)
  rcases Nat.lt_or_ge i 64 with h6 | h6
  · cases hb : x.testBit i
    · rfl
    · have := h i h6 hb; omega
  · exact Nat.testBit_lt_two_pow (Nat.lt_of_lt_of_le hx (show 2 ^ 64 ≤ 2 ^ i from Nat.pow_le_pow_right (by omega) h6))

set_option maxHeartbeats 1000000 in
theorem refPack_any (A B : Option Addr) (c d : Nat) (l : List Int) (ns : List Nat) (hn : l.length ≤ 9223372036854775807) (hm : ns.length ≤ 9223372036854775807) (hb : ∀ i, -9223372036854775808 ≤ l.getD i 0 ∧ l.getD i 0 ≤ 9223372036854775807)
    (hx : ∀ i, ns.getD i 0 < 18446744073709551616)
    (w : World) (hr : RowIs w A l.length (fun i => .int .i64 (l.getD i 0))) (hq : RowIs w B ns.length (fun i => .int .u64 (ns.getD i 0 : Nat))) :
    Calls Try.prog 20 #[.slice A l.length c, .slice B ns.length d] w fun e w' => e = .returned (.tuple #[.int .u64 (packV l ns : Nat), .bool (okP l ns)]) ∧ w = w' := by
  have Ht := Lib.hid (refRight_any A c l hn hb w hr)
  cases ho : okS l
  · have H1 := Lib.hid (okP_sizes (ns := ns) ho)
    have H2 := Lib.hid (packV_no H1.out)
    have H3 := Lib.hid ho; clear ho
    go_enter Try.func20, Try.ntmps20
    go_wp2_with (go_at_call 22; refine (Ht.out).mono ?_; rintro e w' ⟨rfl, rfl⟩; rw [H3.out])
    go_ret2
    exact ⟨by rw [H1.out, H2.out]; rfl, rfl⟩
  · by_cases hl : l.length = ns.length
    · have hl2 : ((l.length : Int) != l.length) = false := by simp
      have Hf : Hid (fitsTo l ns l.length = false → okP l ns = false ∧ packV l ns = 0) := Lib.hid (fun h => ⟨okP_fits h, packV_no (okP_fits h)⟩)
      have Hy : Hid (fitsTo l ns l.length = true → okP l ns = true ∧ packV l ns = packTo l ns l.length) := Lib.hid (fun h => ⟨okP_yes ho hl h, packV_yes (okP_yes ho hl h)⟩)
      rw [← hl] at hq hm ⊢
      have H3 := Lib.hid ho; clear ho hl
      go_enter Try.func20, Try.ntmps20
      go_wp2_with (go_at_call 22; refine (Ht.out).mono ?_; rintro e w' ⟨rfl, rfl⟩; rw [H3.out])
      go_loop [6, 7, 8, 9] (fun x t i _ => ∃ k : Nat, k ≤ l.length ∧ i = .int .i64 k ∧ t = .int .i64 (tot l k) ∧ x = .int .u64 (packTo l ns k : Nat) ∧ Hid (fitsTo l ns k = true)) (fun _ _ i _ => l.length - (intOf i).toNat)
      case atStart => exact ⟨0, Nat.zero_le _, rfl, rfl, rfl, Lib.hid rfl⟩
      case round =>
        obtain ⟨k, hk, rfl, rfl, rfl, Hk⟩ := hrel
        by_cases hlt : k < l.length
        · obtain ⟨b, off, rfl, hbl, hcell⟩ := hr (by omega)
          obtain ⟨b2, off2, rfl, hbl2, hcell2⟩ := hq (by omega)
          have hck : w.cell? ⟨b, off + k, none⟩ = some (.int .i64 (l.getD k 0)) := hcell k hlt
          have hck2 : w.cell? ⟨b2, off2 + k, none⟩ = some (.int .u64 (ns.getD k 0 : Nat)) := hcell2 k hlt
          clear hcell hcell2 hr hq
          have hzz := okS_size H3.out hlt
          have hxk := hx k
          have ht1 := tot_nonneg (fun i hi => okS_pos H3.out hi) hk
          have ht2 := okS_le H3.out (show k + 1 ≤ l.length by omega)
          rw [tot_succ] at ht2
          have Htk := Lib.hid (tot_succ l k)
          have Hno : Hid (¬ ns.getD k 0 < pw (l.getD k 0).toNat → fitsTo l ns l.length = false) := Lib.hid (fun h => fitsTo_not hlt h)
          have Hyes : Hid (ns.getD k 0 < pw (l.getD k 0).toNat → fitsTo l ns (k + 1) = true) := Lib.hid (fun h => fitsTo_succ Hk.out h)
          have Hin0 := Lib.hid (inN_zero l ns k)
          have Hin := Lib.hid (fun j => @inN_no l ns k j)
          have Hiy := Lib.hid (fun j => @inN_yes l ns k j)
          have Hil := Lib.hid (fun j => @inN_lt l ns k j H3.out hk Hk.out)
          have Hia := Lib.hid (@inN_all l ns k hxk)
          generalize hgx : ns.getD k 0 = x at *
          have Hgx := Lib.hid hgx; clear hgx
          generalize hgz : l.getD k 0 = z at *
          have Hgz := Lib.hid hgz; clear hgz
          go_wp2
          go_loop [6, 9] (fun v i => ∃ j : Nat, j ≤ 64 ∧ i = .int .i64 j ∧ v = .int .u64 (inN l ns k j : Nat) ∧ Hid (∀ b, b < j → x.testBit b = true → b < z.toNat)) (fun _ i => 64 - (intOf i).toNat)
          case atStart => exact ⟨0, Nat.zero_le _, rfl, by rw [Hin0.out], Lib.hid (fun b h => by omega)⟩
          case round =>
            obtain ⟨j, hj, rfl, rfl, Hj⟩ := hrel
            by_cases hjl : j < 64
            · cases hbit : x.testBit j
              · have Hin1 := Lib.hid (Hin.out j hbit)
                have Hj1 : Hid (∀ b, b < j + 1 → x.testBit b = true → b < z.toNat) := Lib.hid (fun b h1 h2 => by
                  rcases Nat.lt_or_ge b j with h | h
                  · exact Hj.out b h h2
                  · obtain rfl : b = j := by omega
                    rw [hbit] at h2; cases h2)
                have Hb := Lib.hid ((bitAt_nat x j hjl).trans hbit); clear hbit
                go_wp2_with (go_at_call 15; refine (bit_any x hxk _ (by omega) _).mono ?_; rintro e w' ⟨rfl, rfl⟩; simp only [Hb.out, Bool.toNat_false])
                go_round
                case rel => exact ⟨j + 1, by omega, by go_num, by rw [Hin1.out], Hj1⟩
                case measure => simp [intOf]; omega
              · have Hin1 := Lib.hid (Hiy.out j hbit)
                by_cases hz : (j : Int) < z
                · have Hj1 : Hid (∀ b, b < j + 1 → x.testBit b = true → b < z.toNat) := Lib.hid (fun b h1 h2 => by
                    rcases Nat.lt_or_ge b j with h | h
                    · exact Hj.out b h h2
                    · omega)
                  have hbd := Hil.out (j + 1) (by omega)
                  rw [Hin1.out] at hbd
                  have e1 : (tot l k + (j : Int)).toNat = (tot l k).toNat + j := by omega
                  rw [← e1] at hbd
                  have E1 := Lib.hid e1; clear e1
                  have Hb := Lib.hid ((bitAt_nat x j hjl).trans hbit); clear hbit
                  go_wp2_with (first | (go_at_call 15; refine (bit_any x hxk _ (by omega) _).mono ?_; rintro e w' ⟨rfl, rfl⟩; simp only [Hb.out, Bool.toNat_true]) | (go_at_call 31; refine (power_any _ (by omega) (by omega) _).mono ?_; rintro e w' ⟨rfl, rfl⟩))
                  go_round
                  case rel => exact ⟨j + 1, by omega, by go_num, by rw [Hin1.out, ← E1.out]; go_num, Hj1⟩
                  case measure => simp [intOf]; omega
                · have H := Lib.hid (Hf.out (Hno.out (fun h => by
                    have h1 : pw j ≤ x := Nat.ge_two_pow_of_testBit hbit
                    have h2 : pw z.toNat ≤ pw j := pw_le (by omega)
                    omega)))
                  have Hb := Lib.hid ((bitAt_nat x j hjl).trans hbit); clear hbit
                  go_wp2_with (first | (go_at_call 15; refine (bit_any x hxk _ (by omega) _).mono ?_; rintro e w' ⟨rfl, rfl⟩; simp only [Hb.out, Bool.toNat_true]))
                  go_ret2
                  exact ⟨by rw [H.out.1, H.out.2]; rfl, rfl⟩
            · obtain rfl : j = 64 := by omega
              have Hft := Lib.hid (Hyes.out (lt_of_bits hxk Hj.out))
              rw [Hia.out]
              go_wp2
              go_round
              case rel => exact ⟨k + 1, by omega, by go_num, by rw [Htk.out], rfl, Hft⟩
              case measure => simp [intOf]; omega
        · obtain rfl : k = l.length := by omega
          have H := Lib.hid (Hy.out Hk.out)
          go_wp2
          go_ret2
          exact ⟨by rw [H.out.1, H.out.2]; rfl, rfl⟩
    · have H1 := Lib.hid (okP_len hl)
      have H2 := Lib.hid (packV_no H1.out)
      have H3 := Lib.hid ho; clear ho
      have hl1 : (l.length : Int) ≠ ns.length := by omega
      have hl2 : ((l.length : Int) != ns.length) = true := by rw [bne_iff_ne]; exact hl1
      go_enter Try.func20, Try.ntmps20
      go_wp2_with (go_at_call 22; refine (Ht.out).mono ?_; rintro e w' ⟨rfl, rfl⟩; rw [H3.out])
      go_ret2
      exact ⟨by rw [H1.out, H2.out]; rfl, rfl⟩
end Go.Proofs.Ytlflhhdcakcioaa
