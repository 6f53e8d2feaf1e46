/- slices.Equal of rows; rows.Same, burnbagref10.Same. -/
import Derived.Test.YtajkbeihopicnaaRowL
import Derived.BigQuiet
import Derived.Deep.DeepCutAuto
import Derived.Deep.QuietTactic
namespace Go.Proofs.Ytajkbeihopicnaa
open Go.ChangeShapes Go.WideShapes Go.ChangeAt Go.RowKit

theorem eq_of_nth {L M : List Rw} (hl : L.length = M.length) (h : ∀ i, i < L.length → nth L i = nth M i) : decide (L = M) = true := decide_eq_true (nth_ext hl h)
theorem ne_of_nth {L M : List Rw} {k : Nat} (h : decide (nth L k = nth M k) = false) : decide (L = M) = false := decide_eq_false fun e => by rw [e] at h; simp at h
theorem ne_of_len {L M : List Rw} (h : L.length ≠ M.length) : decide (L = M) = false := decide_eq_false fun e => h (by rw [e])


theorem rEqual_any (A B : Option Addr) (c d : Nat) (L M : List Rw) (hL : L.length ≤ 1000000) (hM : M.length ≤ 1000000) (w : World) (ha : Lies w A L) (hb : Lies w B M) :
    Calls Try.prog 23 #[.slice A L.length c, .slice B M.length d] w fun e w' => e = .returned (.bool (decide (L = M))) ∧ Drew w w' := by
  have HA := Lib.hid ha; have HB := Lib.hid hb
  clear ha hb
  generalize hn : L.length = n at *
  generalize hm : M.length = m at *
  by_cases hnm : n = m
  · subst hnm
    go_enter Try.func23, Try.ntmps23
    go_wp2_with fail
    go_loopw [13] (fun i wr => ∃ k : Nat, i = .int .i64 k ∧ k ≤ n ∧ Drew w wr ∧ ∀ i, i < k → nth L i = nth M i) (fun i _ => n - (intOf i).toNat)
    case atStart => exact ⟨0, rfl, Nat.zero_le _, Drew.refl _, fun i hi => by omega⟩
    case round =>
      obtain ⟨k, rfl, hk, hd, he⟩ := hrel
      by_cases hlt : k < n
      · obtain ⟨b1, off1, rfl, _, x1⟩ := (HA.out.keep (hd.below _)).at_ (by omega)
        obtain ⟨b2, off2, rfl, _, x2⟩ := (HB.out.keep (hd.below _)).at_ (by omega)
        obtain ⟨p0, p1, p2⟩ := x1 k (by omega)
        obtain ⟨q0, q1, q2⟩ := x2 k (by omega)
        have hq := neq_rw
        have HQ : ∀ W, (binOp .neq 27 (.agg #[.int .i64 (nth L k).k, .int .u64 ((nth L k).a : Nat), .int .u64 ((nth L k).b : Nat)]) (.agg #[.int .i64 (nth M k).k, .int .u64 ((nth M k).a : Nat), .int .u64 ((nth M k).b : Nat)])).run Try.prog W = .ok (.bool (!decide (nth L k = nth M k))) W := fun W => neq_rw W _ _
        have HD := Lib.hid (hd.more 1)
        have HE := Lib.hid he
        clear x1 x2 hd he hq
        cases hs : decide (nth L k = nth M k)
        all_goals
          rw [hs] at HQ
          have HS := Lib.hid hs; clear hs
          generalize hx1 : (nth L k).k = y1 at *
          generalize hx2 : (nth L k).a = y2 at *
          generalize hx3 : (nth L k).b = y3 at *
          generalize hx4 : (nth M k).k = y4 at *
          generalize hx5 : (nth M k).a = y5 at *
          generalize hx6 : (nth M k).b = y6 at *
          clear hx1 hx2 hx3 hx4 hx5 hx6
        · go_upto_region 6 with fail
          go_region
          go_wp2_with fail
          go_ret
          exact ⟨by rw [ne_of_nth HS.out]; rfl, HD.out⟩
        · go_upto_region 6 with fail
          go_region
          go_wp2_with fail
          go_roundw
          case rel => exact ⟨k + 1, by go_num, by omega, HD.out, fun i hi => by
            rcases Nat.lt_or_ge i k with h | h
            · exact HE.out i h
            · obtain rfl : i = k := by omega
              exact of_decide_eq_true HS.out⟩
          case measure => simp [intOf]; omega
      · obtain rfl : k = n := by omega
        have HD := Lib.hid hd; clear hd
        have HE := Lib.hid he; clear he
        go_wp2_with fail
        go_ret
        exact ⟨by rw [eq_of_nth (by omega) (fun i hi => HE.out i (by omega))]; rfl, HD.out⟩
  · go_enter Try.func23, Try.ntmps23
    go_wp2_with fail
    all_goals first
      | (exfalso; omega)
      | (go_ret; exact ⟨by rw [ne_of_len (by omega)]; rfl, Drew.refl _⟩)
theorem rSameRef_any (A B : Option Addr) (c d : Nat) (L M : List Rw) (hL : L.length ≤ 1000000) (hM : M.length ≤ 1000000) (w : World) (ha : Lies w A L) (hb : Lies w B M) :
    Calls Try.prog 13 #[.slice A L.length c, .slice B M.length d] w fun e w' => e = .returned (.bool (decide (L = M))) ∧ Drew w w' := by
  have HA := Lib.hid ha; have HB := Lib.hid hb
  clear ha hb
  generalize hn : L.length = n at *
  generalize hm : M.length = m at *
  by_cases hnm : n = m
  · subst hnm
    go_enter Try.func13, Try.ntmps13
    go_wp2_with fail
    go_loopw [5] (fun i wr => ∃ k : Nat, i = .int .i64 k ∧ k ≤ n ∧ Drew w wr ∧ ∀ i, i < k → nth L i = nth M i) (fun i _ => n - (intOf i).toNat)
    case atStart => exact ⟨0, rfl, Nat.zero_le _, Drew.refl _, fun i hi => by omega⟩
    case round =>
      obtain ⟨k, rfl, hk, hd, he⟩ := hrel
      by_cases hlt : k < n
      · obtain ⟨b1, off1, rfl, _, x1⟩ := (HA.out.keep (hd.below _)).at_ (by omega)
        obtain ⟨b2, off2, rfl, _, x2⟩ := (HB.out.keep (hd.below _)).at_ (by omega)
        obtain ⟨p0, p1, p2⟩ := x1 k (by omega)
        obtain ⟨q0, q1, q2⟩ := x2 k (by omega)
        have hq := neq_rw
        have HQ : ∀ W, (binOp .neq 27 (.agg #[.int .i64 (nth L k).k, .int .u64 ((nth L k).a : Nat), .int .u64 ((nth L k).b : Nat)]) (.agg #[.int .i64 (nth M k).k, .int .u64 ((nth M k).a : Nat), .int .u64 ((nth M k).b : Nat)])).run Try.prog W = .ok (.bool (!decide (nth L k = nth M k))) W := fun W => neq_rw W _ _
        have HD := Lib.hid (hd.more 1)
        have HE := Lib.hid he
        clear x1 x2 hd he hq
        cases hs : decide (nth L k = nth M k)
        all_goals
          rw [hs] at HQ
          have HS := Lib.hid hs; clear hs
          generalize hx1 : (nth L k).k = y1 at *
          generalize hx2 : (nth L k).a = y2 at *
          generalize hx3 : (nth L k).b = y3 at *
          generalize hx4 : (nth M k).k = y4 at *
          generalize hx5 : (nth M k).a = y5 at *
          generalize hx6 : (nth M k).b = y6 at *
          clear hx1 hx2 hx3 hx4 hx5 hx6
        · go_upto_region 6 with fail
          go_region
          go_wp2_with fail
          go_ret
          exact ⟨by rw [ne_of_nth HS.out]; rfl, HD.out⟩
        · go_upto_region 6 with fail
          go_region
          go_wp2_with fail
          go_roundw
          case rel => exact ⟨k + 1, by go_num, by omega, HD.out, fun i hi => by
            rcases Nat.lt_or_ge i k with h | h
            · exact HE.out i h
            · obtain rfl : i = k := by omega
              exact of_decide_eq_true HS.out⟩
          case measure => simp [intOf]; omega
      · obtain rfl : k = n := by omega
        have HD := Lib.hid hd; clear hd
        have HE := Lib.hid he; clear he
        go_wp2_with fail
        go_ret
        exact ⟨by rw [eq_of_nth (by omega) (fun i hi => HE.out i (by omega))]; rfl, HD.out⟩
  · go_enter Try.func13, Try.ntmps13
    go_wp2_with fail
    all_goals first
      | (exfalso; omega)
      | (go_ret; exact ⟨by rw [ne_of_len (by omega)]; rfl, Drew.refl _⟩)
theorem rSame_any (A B : Option Addr) (c d : Nat) (L M : List Rw) (hL : L.length ≤ 1000000) (hM : M.length ≤ 1000000) (w : World) (ha : Lies w A L) (hb : Lies w B M) :
    Calls Try.prog 17 #[.slice A L.length c, .slice B M.length d] w fun e w' => e = .returned (.bool (decide (L = M))) ∧ Drew w w' := by
  have c1 := rEqual_any A B c d L M hL hM w ha hb
  have C := Lib.hid c1; clear c1 ha hb
  generalize hn : L.length = n at *
  generalize hm : M.length = m at *
  go_enter Try.func17, Try.ntmps17
  go_wp2_with (go_at_call 23; refine C.out.mono ?_; rintro e w1 ⟨rfl, hd⟩)
  go_ret
  exact ⟨rfl, hd⟩
end Go.Proofs.Ytajkbeihopicnaa
