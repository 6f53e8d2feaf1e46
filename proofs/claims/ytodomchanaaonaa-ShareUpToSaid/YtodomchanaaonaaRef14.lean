/- burnbagref14: May, Ahead, Same, Opersame. -/
import Derived.Test.YtodomchanaaonaaEv
import Derived.BigQuiet
import Derived.IntWalk
import Derived.OwnWalk
import Derived.Deep.DeepCutAuto
import Derived.Deep.QuietTactic
namespace Go.Proofs.Ytodomchanaaonaa
open Go.ChangeShapes Go.WideShapes Go.ChangeAt Go.RowKit

def evN (L : List Ev) (i : Nat) : Ev := L.getD i default
def oprN (L : List Opr) (i : Nat) : Opr := L.getD i default
/-- Is a thread within a call, behind the first i events? -/
def wnAt (L : List Ev) : Nat → Nat → Bool
  | 0, _ => false
  | i + 1, t => if t = (evN L i).th.toNat then !(evN L i).back else wnAt L i t
/-- How many began, of the first i events. -/
def begAt (L : List Ev) : Nat → Nat
  | 0 => 0
  | i + 1 => bif (evN L i).back then begAt L i else begAt L i + 1
/-- May the i-th event be? -/
def okAt (L : List Ev) (i : Nat) : Bool :=
  decide (0 ≤ (evN L i).th) && (decide ((evN L i).th ≤ 7) && (((evN L i).back == wnAt L i (evN L i).th.toNat) && (bif (evN L i).back then decide ((evN L i).c = zeroC) else decide ((evN L i).a = zeroA))))
/-- May a history be? -/
def mayL (L : List Ev) : Bool := (List.range L.length).all (okAt L) && decide (begAt L L.length ≤ 40)
theorem mayL_no {L : List Ev} {i : Nat} (hi : i < L.length) (h : okAt L i = false) : mayL L = false := by
  have : (List.range L.length).all (okAt L) = false := by
    rw [List.all_eq_false]
    exact ⟨i, List.mem_range.2 hi, by rw [h]; simp⟩
  unfold mayL
  rw [this]; rfl
theorem mayL_all {L : List Ev} {n : Nat} (hn : n = L.length) (h : ∀ i, i < n → okAt L i = true) : mayL L = decide (begAt L n ≤ 40) := by
  subst hn
  have : (List.range L.length).all (okAt L) = true := by
    rw [List.all_eq_true]
    exact fun i hi => h i (List.mem_range.1 hi)
  unfold mayL
  rw [this]; rfl
theorem begAt_le (L : List Ev) : ∀ i, begAt L i ≤ i
  | 0 => Nat.le_refl _
  | i + 1 => by
    have := begAt_le L i
    unfold begAt
    cases (evN L i).back <;> simp only [cond] <;> omega
theorem LiesC.atE {w : World} {A : Option Addr} {L : List Ev} (h : LiesC w A (flatF evF L)) (hn : 0 < L.length) :
    ∃ b off, A = some ⟨b, off, none⟩ ∧ b < w.heap.size ∧ ∀ i, i < L.length → ∀ j, j < 15 → w.cell? ⟨b, off + i * 15 + j, none⟩ = (evF (evN L i))[j]? := by
  obtain ⟨b, off, h1, h2, h3⟩ := h.atF evF_len (by omega) hn
  exact ⟨b, off, h1, h2, fun i hi j hj => by rw [Nat.add_assoc]; exact h3 i hi j hj⟩
theorem LiesC.atO {w : World} {A : Option Addr} {L : List Opr} (h : LiesC w A (flatF opF L)) (hn : 0 < L.length) :
    ∃ b off, A = some ⟨b, off, none⟩ ∧ b < w.heap.size ∧ ∀ i, i < L.length → ∀ j, j < 16 → w.cell? ⟨b, off + i * 16 + j, none⟩ = (opF (oprN L i))[j]? := by
  obtain ⟨b, off, h1, h2, h3⟩ := h.atF opF_len (by omega) hn
  exact ⟨b, off, h1, h2, fun i hi j hj => by rw [Nat.add_assoc]; exact h3 i hi j hj⟩
theorem ev_cells {w : World} {b o : Nat} {x : Ev} (h : ∀ j, j < 15 → w.cell? ⟨b, o + j, none⟩ = (evF x)[j]?) : w.cell? ⟨b, o, none⟩ = some (.int .i64 x.th) ∧ w.cell? ⟨b, o + 1, none⟩ = some (.bool x.back) ∧ w.cell? ⟨b, o + 2, none⟩ = some (.int .i64 x.c.op) ∧ w.cell? ⟨b, o + 3, none⟩ = some (.int .i64 x.c.l) ∧ w.cell? ⟨b, o + 4, none⟩ = some (.int .i64 x.c.key) ∧ w.cell? ⟨b, o + 5, none⟩ = some (.int .u64 x.c.pa) ∧ w.cell? ⟨b, o + 6, none⟩ = some (.int .u64 x.c.pb) ∧ w.cell? ⟨b, o + 7, none⟩ = some (.int .u64 x.c.hd) ∧ w.cell? ⟨b, o + 8, none⟩ = some (.int .i64 x.c.r) ∧ w.cell? ⟨b, o + 9, none⟩ = some (.int .i64 x.a.e) ∧ w.cell? ⟨b, o + 10, none⟩ = some (.int .u64 x.a.a) ∧ w.cell? ⟨b, o + 11, none⟩ = some (.int .u64 x.a.b) ∧ w.cell? ⟨b, o + 12, none⟩ = some (.int .u64 x.a.h) ∧ w.cell? ⟨b, o + 13, none⟩ = some (.int .i64 x.a.n) ∧ w.cell? ⟨b, o + 14, none⟩ = some (.int .i64 x.a.k) :=
  ⟨h 0 (by omega), h 1 (by omega), h 2 (by omega), h 3 (by omega), h 4 (by omega), h 5 (by omega), h 6 (by omega), h 7 (by omega), h 8 (by omega), h 9 (by omega), h 10 (by omega), h 11 (by omega), h 12 (by omega), h 13 (by omega), h 14 (by omega)⟩
theorem opr_cells {w : World} {b o : Nat} {x : Opr} (h : ∀ j, j < 16 → w.cell? ⟨b, o + j, none⟩ = (opF x)[j]?) : w.cell? ⟨b, o, none⟩ = some (.int .i64 x.th) ∧ w.cell? ⟨b, o + 1, none⟩ = some (.int .i64 x.c.op) ∧ w.cell? ⟨b, o + 2, none⟩ = some (.int .i64 x.c.l) ∧ w.cell? ⟨b, o + 3, none⟩ = some (.int .i64 x.c.key) ∧ w.cell? ⟨b, o + 4, none⟩ = some (.int .u64 x.c.pa) ∧ w.cell? ⟨b, o + 5, none⟩ = some (.int .u64 x.c.pb) ∧ w.cell? ⟨b, o + 6, none⟩ = some (.int .u64 x.c.hd) ∧ w.cell? ⟨b, o + 7, none⟩ = some (.int .i64 x.c.r) ∧ w.cell? ⟨b, o + 8, none⟩ = some (.int .i64 x.a.e) ∧ w.cell? ⟨b, o + 9, none⟩ = some (.int .u64 x.a.a) ∧ w.cell? ⟨b, o + 10, none⟩ = some (.int .u64 x.a.b) ∧ w.cell? ⟨b, o + 11, none⟩ = some (.int .u64 x.a.h) ∧ w.cell? ⟨b, o + 12, none⟩ = some (.int .i64 x.a.n) ∧ w.cell? ⟨b, o + 13, none⟩ = some (.int .i64 x.a.k) ∧ w.cell? ⟨b, o + 14, none⟩ = some (.int .i64 x.fr) ∧ w.cell? ⟨b, o + 15, none⟩ = some (.int .i64 x.to) :=
  ⟨h 0 (by omega), h 1 (by omega), h 2 (by omega), h 3 (by omega), h 4 (by omega), h 5 (by omega), h 6 (by omega), h 7 (by omega), h 8 (by omega), h 9 (by omega), h 10 (by omega), h 11 (by omega), h 12 (by omega), h 13 (by omega), h 14 (by omega), h 15 (by omega)⟩
def aheadB (x y : Opr) : Bool := decide (0 ≤ x.to) && decide (x.to < y.fr)
set_option maxHeartbeats 4000000 in
theorem r14Opersame_any (A B : Option Addr) (c d : Nat) (L M : List Opr) (hL : L.length ≤ 1000000) (hM : M.length ≤ 1000000) (w : World) (ha : LiesC w A (flatF opF L)) (hb : LiesC w B (flatF opF M)) :
    Calls Try.prog 9 #[.slice A L.length c, .slice B M.length d] w fun e w' => e = .returned (.bool (decide (L = M))) ∧ Drew w w' := by
  have HA := Lib.hid ha; have HB := Lib.hid hb
  clear ha hb
  generalize hn : L.length = n at *
  generalize hm : M.length = m at *
  by_cases hnm : n = m
  · subst hnm
    go_enter Try.func9, Try.ntmps9
    go_wp2_with fail
    go_loopw [5] (fun i wr => ∃ k : Nat, i = .int .i64 k ∧ k ≤ n ∧ Drew w wr ∧ ∀ i, i < k → oprN L i = oprN M i) (fun i _ => n - (intOf i).toNat)
    case atStart => exact ⟨0, rfl, Nat.zero_le _, Drew.refl _, fun i hi => by omega⟩
    case round =>
      obtain ⟨k, rfl, hk, hd, he⟩ := hrel
      by_cases hlt : k < n
      · obtain ⟨b1, off1, rfl, _, x1⟩ := (HA.out.keep (hd.below _)).atO (by omega)
        obtain ⟨b2, off2, rfl, _, x2⟩ := (HB.out.keep (hd.below _)).atO (by omega)
        obtain ⟨p0, p1, p2, p3, p4, p5, p6, p7, p8, p9, p10, p11, p12, p13, p14, p15⟩ := opr_cells (x1 k (by omega))
        obtain ⟨q0, q1, q2, q3, q4, q5, q6, q7, q8, q9, q10, q11, q12, q13, q14, q15⟩ := opr_cells (x2 k (by omega))
        have HQ : ∀ W, (binOp .neq 35 (.agg #[.int .i64 (oprN L k).th, .int .i64 (oprN L k).c.op, .int .i64 (oprN L k).c.l, .int .i64 (oprN L k).c.key, .int .u64 (oprN L k).c.pa, .int .u64 (oprN L k).c.pb, .int .u64 (oprN L k).c.hd, .int .i64 (oprN L k).c.r, .int .i64 (oprN L k).a.e, .int .u64 (oprN L k).a.a, .int .u64 (oprN L k).a.b, .int .u64 (oprN L k).a.h, .int .i64 (oprN L k).a.n, .int .i64 (oprN L k).a.k, .int .i64 (oprN L k).fr, .int .i64 (oprN L k).to]) (.agg #[.int .i64 (oprN M k).th, .int .i64 (oprN M k).c.op, .int .i64 (oprN M k).c.l, .int .i64 (oprN M k).c.key, .int .u64 (oprN M k).c.pa, .int .u64 (oprN M k).c.pb, .int .u64 (oprN M k).c.hd, .int .i64 (oprN M k).c.r, .int .i64 (oprN M k).a.e, .int .u64 (oprN M k).a.a, .int .u64 (oprN M k).a.b, .int .u64 (oprN M k).a.h, .int .i64 (oprN M k).a.n, .int .i64 (oprN M k).a.k, .int .i64 (oprN M k).fr, .int .i64 (oprN M k).to])).run Try.prog W = .ok (.bool (!decide (oprN L k = oprN M k))) W := fun W => neq_opr W _ _
        have HD := Lib.hid (hd.more 1)
        have HE := Lib.hid he
        clear x1 x2 hd he
        cases hs : decide (oprN L k = oprN M k)
        · have HS := Lib.hid (show decide (L = M) = false from eqF_ne hs)
          rw [hs] at HQ; clear hs
          generalize oprN L k = y1 at *
          generalize oprN M k = y2 at *
          go_upto_region 6 with fail
          go_region
          go_wp2_with fail
          go_ret
          exact ⟨by rw [HS.out]; rfl, HD.out⟩
        · have HS : Hid (∀ i, i < k + 1 → oprN L i = oprN M i) := Lib.hid fun i hi => by
            rcases Nat.lt_or_ge i k with h | h
            · exact HE.out i h
            · obtain rfl : i = k := by omega
              exact of_decide_eq_true hs
          rw [hs] at HQ; clear hs
          generalize oprN L k = y1 at *
          generalize oprN M k = y2 at *
          go_upto_region 6 with fail
          go_region
          go_wp2_with fail
          go_roundw
          case rel => exact ⟨k + 1, by go_num, by omega, HD.out, HS.out⟩
          case measure => simp [intOf]; omega
      · obtain rfl : k = n := by omega
        have HD := Lib.hid hd; clear hd
        have HE := Lib.hid he; clear he
        go_wp2_with fail
        go_ret
        exact ⟨by rw [eqF_eq (by omega) (fun i hi => HE.out i (by omega))]; rfl, HD.out⟩
  · go_enter Try.func9, Try.ntmps9
    go_wp2_with fail
    all_goals first
      | (exfalso; omega)
      | (go_ret; exact ⟨by rw [eqF_len (by omega)]; rfl, Drew.refl _⟩)
end Go.Proofs.Ytodomchanaaonaa
