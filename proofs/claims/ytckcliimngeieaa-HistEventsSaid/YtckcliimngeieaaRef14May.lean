/- burnbagref14.May. -/
import Derived.Test.YtckcliimngeieaaRef14
namespace Go.Proofs.Ytckcliimngeieaa
open Go.ChangeShapes Go.WideShapes Go.ChangeAt Go.RowKit

/-- Behind k events that may be: which threads are within a call. -/
structure MayR (w : World) (L : List Ev) (g k : Nat) (wr : World) : Prop where
  bel : Below w.heap.size w wr
  own : Own wr g 8 (fun t => .bool (wnAt L k t))
  ok : ∀ j, j < k → okAt L j = true
theorem MayR.next {w wr W : World} {L : List Ev} {g k t : Nat} {bk : Bool} (h : MayR w L g k wr) (hg : w.heap.size ≤ g) (hb : Below wr.heap.size wr W) (ho : okAt L k = true) (hw : ∀ j, wnAt L (k + 1) j = if j = t then bk else wnAt L k j) :
    MayR w L g (k + 1) (W.setCell ⟨g, t, none⟩ (.bool bk)) := by
  refine ⟨(h.bel.trans (hb.mono h.bel.size)).setCell hg _, ?_, fun j hj => ?_⟩
  · refine ((h.own.below hb h.own.lt).set_ t (.bool bk)).congr fun i _ => ?_
    rw [hw i]
    by_cases e : i = t
    · rw [if_pos e, if_pos e]
    · rw [if_neg e, if_neg e]
  · rcases Nat.lt_or_ge j k with h1 | h1
    · exact h.ok j h1
    · obtain rfl : j = k := by omega
      exact ho

set_option maxHeartbeats 4000000 in
theorem r14May_any (A : Option Addr) (c : Nat) (L : List Ev) (hL : L.length ≤ 1000000) (w : World) (ha : LiesC w A (flatF evF L)) :
    Calls Try.prog 10 #[.slice A L.length c] w fun e w' => e = .returned (.bool (mayL L)) ∧ Below w.heap.size w w' := by
  have HA := Lib.hid ha
  clear ha
  generalize hn : L.length = n at *
  go_enter Try.func10, Try.ntmps10
  go_upto_region 2 with fail
  generalize hW : World.alloc _ _ = W
  have hM : MayR w L w.heap.size 0 W := by
    rw [← hW]
    exact ⟨(Below.refl _ w).alloc (Nat.le_refl _) _, Own.new w _ _ _ 8 rfl (fun i hi => by
      match i, hi with
      | 0, _ => rfl
      | 1, _ => rfl
      | 2, _ => rfl
      | 3, _ => rfl
      | 4, _ => rfl
      | 5, _ => rfl
      | 6, _ => rfl
      | 7, _ => rfl), fun j hj => by omega⟩
  have HM := Lib.hid hM; clear hM hW
  generalize hg : w.heap.size = g at *
  have HG := Lib.hid (Nat.le_of_eq hg); clear hg
  go_wp2_with fail
  go_loopw [4, 5] (fun c i wr => ∃ k : Nat, i = .int .i64 k ∧ k ≤ n ∧ c = .int .i64 (begAt L k : Nat) ∧ MayR w L g k wr) (fun _ i _ => n - (intOf i).toNat)
  case atStart => exact ⟨0, rfl, Nat.zero_le _, rfl, HM.out⟩
  case round =>
    clear HM
    obtain ⟨k, rfl, hk, rfl, R⟩ := hrel
    have hbk := begAt_le L k
    by_cases hlt : k < n
    · obtain ⟨b1, off1, rfl, hb1, x1⟩ := (HA.out.keep R.bel).atE (by omega)
      obtain ⟨p0, p1, p2, p3, p4, p5, p6, p7, p8, p9, p10, p11, p12, p13, p14⟩ := ev_cells (x1 k (by omega))
      have HO : Hid (okAt L k = (decide (0 ≤ (evN L k).th) && (decide ((evN L k).th ≤ 7) && (((evN L k).back == wnAt L k (evN L k).th.toNat) && (bif (evN L k).back then decide ((evN L k).c = zeroC) else decide ((evN L k).a = zeroA)))))) := Lib.hid rfl
      have HW : Hid (∀ t, wnAt L (k + 1) t = if t = (evN L k).th.toNat then !(evN L k).back else wnAt L k t) := Lib.hid fun t => rfl
      have HB : Hid (begAt L (k + 1) = bif (evN L k).back then begAt L k else begAt L k + 1) := Lib.hid rfl
      clear x1
      generalize evN L k = e at *
      go_upto_region 7 with fail
      generalize hW2 : World.alloc _ _ = W2
      obtain ⟨hb2, hx⟩ := one_cells _ _ _ W2 hW2
      obtain ⟨q0, q1, q2, q3, q4, q5, q6, q7, q8, q9, q10, q11, q12, q13, q14⟩ := ev_cells (w := W2) (b := wr.heap.size) (o := 0) (x := e) (fun j _ => by rw [Nat.zero_add]; exact hx.cell j)
      simp only [Nat.zero_add] at q1 q2 q3 q4 q5 q6 q7 q8 q9 q10 q11 q12 q13 q14
      have hcell : ∀ t, t < 8 → W2.cell? ⟨g, t, none⟩ = some (.bool (wnAt L k t)) := fun t ht => (R.own.below hb2 R.own.lt).cell ht
      have hfro : ∀ t, W2.frozen? ⟨g, t, none⟩ = false := fun t => (R.own.below hb2 R.own.lt).frozen t
      have HB2 := Lib.hid (R.bel.trans (hb2.mono R.bel.size))
      have HN := Lib.hid (fun nq t bk ho hw => R.next (t := t) (bk := bk) HG.out (below_drewN hb2 nq) ho hw)
      have hgl := R.own.lt
      clear hb2 hx hW2 p0 p1 p2 p3 p4 p5 p6 p7 p8 p9 p10 p11 p12 p13 p14 R
      generalize wr.heap.size = g2 at *
      clear wr
      have HQC : ∀ W, (binOp .neq 34 (.agg #[.int .i64 e.c.op, .int .i64 e.c.l, .int .i64 e.c.key, .int .u64 e.c.pa, .int .u64 e.c.pb, .int .u64 e.c.hd, .int .i64 e.c.r]) (.agg #[.int .i64 0, .int .i64 0, .int .i64 0, .int .u64 0, .int .u64 0, .int .u64 0, .int .i64 0])).run Try.prog W = .ok (.bool (!decide (e.c = zeroC))) W := fun W => neq_cl W e.c zeroC
      have HQA : ∀ W, (binOp .neq 37 (.agg #[.int .i64 e.a.e, .int .u64 e.a.a, .int .u64 e.a.b, .int .u64 e.a.h, .int .i64 e.a.n, .int .i64 e.a.k]) (.agg #[.int .i64 0, .int .u64 0, .int .u64 0, .int .u64 0, .int .i64 0, .int .i64 0])).run Try.prog W = .ok (.bool (!decide (e.a = zeroA))) W := fun W => neq_an W e.a zeroA
      generalize e.th = th at *
      generalize e.back = bk at *
      generalize decide (e.c = zeroC) = dc at *
      generalize decide (e.a = zeroA) = da at *
      by_cases h0 : 0 ≤ th
      · by_cases h7 : th ≤ 7
        · obtain ⟨t, rfl⟩ : ∃ t : Nat, th = t := ⟨th.toNat, by omega⟩
          have f0 := hcell t (by omega)
          have f1 := hfro t
          have h8 : (t : Int) < 8 := by omega
          rw [decide_eq_true h0, decide_eq_true h7, Bool.true_and, Bool.true_and, Int.toNat_natCast] at HO
          simp only [Int.toNat_natCast] at HW
          clear hcell hfro
          generalize hwb : wnAt L k t = wb at *
          clear hwb
          cases bk <;> cases wb
          · cases da
            · have HF : Hid (okAt L k = false) := Lib.hid HO.out
              go_quiet (fail)
              go_wp2_with fail
              go_ret
              exact ⟨by rw [mayL_no (L := L) (i := k) (by omega) HF.out]; rfl, below_drewN HB2.out _⟩
            · have HF : Hid (okAt L k = true) := Lib.hid HO.out
              go_quiet (fail)
              go_wp2_with fail
              go_roundw
              case rel => exact ⟨k + 1, by go_num, by omega, by rw [HB.out]; rfl, HN.out _ t true HF.out HW.out⟩
              case measure => simp [intOf]; omega
          · have HF : Hid (okAt L k = false) := Lib.hid HO.out
            go_quiet (fail)
            go_wp2_with fail
            go_ret
            exact ⟨by rw [mayL_no (L := L) (i := k) (by omega) HF.out]; rfl, below_drewN HB2.out _⟩
          · have HF : Hid (okAt L k = false) := Lib.hid HO.out
            go_quiet (fail)
            go_wp2_with fail
            go_ret
            exact ⟨by rw [mayL_no (L := L) (i := k) (by omega) HF.out]; rfl, below_drewN HB2.out _⟩
          · cases dc
            · have HF : Hid (okAt L k = false) := Lib.hid HO.out
              go_quiet (fail)
              go_wp2_with fail
              go_ret
              exact ⟨by rw [mayL_no (L := L) (i := k) (by omega) HF.out]; rfl, below_drewN HB2.out _⟩
            · have HF : Hid (okAt L k = true) := Lib.hid HO.out
              go_quiet (fail)
              go_wp2_with fail
              go_roundw
              case rel => exact ⟨k + 1, by go_num, by omega, by rw [HB.out]; rfl, HN.out _ t false HF.out HW.out⟩
              case measure => simp [intOf]; omega
        · have HF : Hid (okAt L k = false) := Lib.hid (by rw [HO.out, decide_eq_false h7]; simp)
          go_quiet (fail)
          go_wp2_with fail
          go_ret
          exact ⟨by rw [mayL_no (L := L) (i := k) (by omega) HF.out]; rfl, below_drewN HB2.out _⟩
      · have HF : Hid (okAt L k = false) := Lib.hid (by rw [HO.out, decide_eq_false h0]; rfl)
        have d0 : decide (th < 0) = true := decide_eq_true (by omega)
        go_quiet (fail)
        go_wp2_with fail
        go_ret
        exact ⟨by rw [mayL_no (L := L) (i := k) (by omega) HF.out]; rfl, below_drewN HB2.out _⟩
    · obtain rfl : k = n := by omega
      have HF := Lib.hid (mayL_all (L := L) hn.symm R.ok)
      have HR := Lib.hid R; clear R
      generalize hbg : begAt L k = m at *
      by_cases h40 : (m : Int) ≤ 40
      all_goals
        go_wp2_with fail
        go_ret
        exact ⟨by rw [HF.out]; simp; omega, HR.out.bel⟩
end Go.Proofs.Ytckcliimngeieaa
