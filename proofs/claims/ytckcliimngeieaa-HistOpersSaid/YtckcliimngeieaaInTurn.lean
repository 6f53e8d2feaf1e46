/- Package hist: inTurn, and what it tells. -/
import Derived.Test.YtckcliimngeieaaSeqC
import Derived.Test.YtckcliimngeieaaTurns
import Derived.Sort.CutIn
namespace Go.Proofs.Ytckcliimngeieaa
open Go.ChangeShapes Go.WideShapes Go.ChangeAt Go.RowKit Go.Shelf
set_option linter.unusedVariables false
set_option linter.unusedSimpArgs false
attribute [local go_sem] Oper.semAt_some

/-- How far the first i events have come; which oper the i-th one is of. -/
def runF (L : List Ev) : Nat → Nat → Int
  | 0 => start9
  | i + 1 => nextF (runF L i) (evN L i)
def turnN (L : List Ev) (i : Nat) : Int := nextV (runF L i) (evN L i)
def toldUp (L : List Ev) (k : Nat) : List (Nat × Int) := (List.range k).map fun i => (i, turnN L i)
theorem toldUp_succ (L : List Ev) (k : Nat) : toldUp L (k + 1) = toldUp L k ++ [(k, turnN L k)] := by unfold toldUp; rw [List.range_succ, List.map_append]; rfl
theorem toldUp_len (L : List Ev) (k : Nat) : (toldUp L k).length = k := by simp [toldUp]
theorem putF_8 (f : Nat → Int) (k : Nat) (v : Int) (h : k ≠ 8) : putF f k v 8 = f 8 := by unfold putF; rw [if_neg (by omega)]
theorem nextF_8 (f : Nat → Int) (e : Ev) (h : 0 ≤ f 8 ∧ f 8 ≤ 40) : 0 ≤ nextF f e 8 ∧ nextF f e 8 ≤ 40 := by
  unfold nextF
  cases hd : decide (e.th < 0) || decide (8 ≤ e.th)
  · rw [Bool.or_eq_false_iff] at hd
    have h1 : ¬ e.th < 0 := of_decide_eq_false hd.1
    have h2 : ¬ 8 ≤ e.th := of_decide_eq_false hd.2
    simp only [cond]
    cases e.back
    · simp only
      unfold begF
      cases hc : decide (e.a = zeroA) && (decide (f e.th.toNat = -1) && !decide (f 8 = 40))
      · exact h
      · simp only [Bool.and_eq_true, Bool.not_eq_true', decide_eq_false_iff_not] at hc
        simp only [cond]
        rw [putF_8 _ _ _ (by omega)]
        unfold putF
        rw [if_pos rfl]
        omega
    · simp only
      unfold endF
      cases decide (e.c = zeroC)
      · exact h
      · simp only [cond]
        rw [putF_8 _ _ _ (by omega)]
        exact h
  · exact h
theorem runF_8 (L : List Ev) : ∀ i, 0 ≤ runF L i 8 ∧ runF L i 8 ≤ 40
  | 0 => ⟨Int.le_refl 0, show (0 : Int) ≤ 40 by omega⟩
  | i + 1 => nextF_8 _ _ (runF_8 L i)

/-- An event's place, and which oper it is of. -/
def told2 (x : Nat × Int) : Array Value := #[.int .i64 (x.1 : Int), .int .i64 x.2]
theorem start9_lit : rowOf 9 (ints start9) = #[.int .i64 (-1), .int .i64 (-1), .int .i64 (-1), .int .i64 (-1), .int .i64 (-1), .int .i64 (-1), .int .i64 (-1), .int .i64 (-1), .int .i64 0] := by rfl

theorem inTurn_any (A : Option Addr) (m c : Nat) (w : World) :
    Calls Try.prog 18 #[.slice A m c] w fun e w' => e = .returned (.func (.func 24) #[] #[.pointer (some ⟨w.heap.size, 0, none⟩)]) ∧ w' = w.alloc (.cells #[.slice A m c] 22) := by
  go_enter Try.func18, Try.ntmps18
  go_wp2_with fail
  go_ret
  exact ⟨rfl, rfl⟩

set_option maxRecDepth 100000 in
set_option maxHeartbeats 2000000 in
theorem inTurn1_in (M : Nat → Prop) (l Bl c a0 : Nat) (A : Option Addr) (L : List Ev) (hL : L.length ≤ 1000000) (hM : ∀ i, M i → i < a0) (hMl : ¬ M Bl) (hA : ∀ a, A = some a → 0 < L.length → ¬ M a.block) (hA0 : ∀ a, A = some a → 0 < L.length → a.block < a0) (hBl0 : Bl < a0) (J Jx : List (Nat × Int) → World → Prop) (W : World) (ha0 : a0 ≤ W.heap.size)
    (hY : ∀ pre x W0 W1, W.heap.size + 3 ≤ W1.heap.size → J pre W0 → Only (fun i => W.heap.size ≤ i ∧ i < W.heap.size + 3) W0 W1 → (∃ k, k ≤ L.length ∧ pre ++ [x] = toldUp L k) → YieldAt Fence.wide (7 - 1) Try.prog l (told2 x) W1 fun e W' =>
      (e = .returned (.bool true) ∧ J (pre ++ [x]) W' ∧ Only (Rnd M a0 W.heap.size (W.heap.size + 3) W0.heap.size) W1 W') ∨ (e = .returned (.bool false) ∧ Jx (pre ++ [x]) W'))
    (hJ : AbC W.heap.size (W.heap.size + 3) J) (hBl : W.cell? ⟨Bl, 0, none⟩ = some (.slice A L.length c)) (hl : LiesC W A (flatF evF L)) (h0 : J [] W) :
    CallsIn Fence.wide 7 Try.prog 24 #[.func (.yield l) #[] #[], .pointer (some ⟨Bl, 0, none⟩)] W fun e W' => (∃ v, e = .returned v) ∧
      ((∃ ys, ys = toldUp L L.length ∧ J ys W') ∨ (∃ pre, (∃ k, k ≤ L.length ∧ pre = toldUp L k) ∧ Jx pre W')) := by
  have C0 : Hid (∀ w, Calls Try.prog 25 #[] w fun e w' => e = .returned (.agg #[.int .i64 (-1), .int .i64 (-1), .int .i64 (-1), .int .i64 (-1), .int .i64 (-1), .int .i64 (-1), .int .i64 (-1), .int .i64 (-1), .int .i64 0]) ∧ Below w.heap.size w w' ∧ w'.heap.size = w.heap.size + 2) :=
    Lib.hid fun w => by have := hStart_any w; rw [start9_lit] at this; exact this
  have HY := Lib.hid hY; have HL := Lib.hid hl; have HJ := Lib.hid hJ; have HBL := Lib.hid hBl; have HA := Lib.hid (And.intro hA hA0)
  clear hY hl hJ hBl hA hA0
  have hfn : Fence.wide.fn 25 := trivial
  have hfn2 : Fence.wide.fn 26 := trivial
  generalize hm : L.length = m at *
  have HM := Lib.hid hm; clear hm
  refine callsIn_of_wp Try.func24 rfl trivial ?_ rfl
  simp only [Try.ntmps24, List.size_toArray, List.length_cons, List.length_nil, Nat.reduceAdd, Nat.reduceSub, Array.replicate_succ, Array.replicate_zero, List.push_toArray, List.append_toArray, List.nil_append, List.cons_append]
  gi_upto_region 1 with (gi_at_call 25; refine (callsIn_wide.2 (C0.out _)).mono ?_; rintro e w1 ⟨rfl, hb1, hs1⟩)
  obtain ⟨W0, hW0⟩ : ∃ X, w1.alloc (.cells #[.int .i64 (-1), .int .i64 (-1), .int .i64 (-1), .int .i64 (-1), .int .i64 (-1), .int .i64 (-1), .int .i64 (-1), .int .i64 (-1), .int .i64 0] 63) = X := ⟨_, rfl⟩
  rw [hW0]
  have hR : Row W0 (W.heap.size + 2) 63 9 (ints start9) := by
    rw [← hW0, ← hs1, ← start9_lit]
    exact Row.new w1 _ _ _ _ rfl
  have hb0 : Below W.heap.size W W0 := by rw [← hW0]; exact hb1.alloc hb1.size _
  clear hW0 hb1 hs1 C0
  have hBl1 := cell_keep hb0 HBL.out
  have HO := Lib.hid (only_below hb0 (fun i => M i ∨ a0 ≤ i))
  have HL0 := Lib.hid (HL.out.keep hb0)
  have HJ0 := Lib.hid (HJ.out.below h0 hb0)
  have HR := Lib.hid hR
  have HS := Lib.hid hb0.size
  clear hb0 hR h0
  gi_upto_region 2 with fail
  clear hBl1
  gi_loopw [9] (fun i wr => ∃ k : Nat, k ≤ m ∧ i = .int .i64 k ∧ J (toldUp L k) wr ∧ Row wr (W.heap.size + 2) 63 9 (ints (runF L k)) ∧ Only (fun i => M i ∨ a0 ≤ i) W wr) (fun i _ => m - (intOf i).toNat)
  case atStart => exact ⟨0, Nat.zero_le _, rfl, HJ0.out, HR.out, HO.out⟩
  case round =>
    clear HR HO HJ0 HL0 HS
    obtain ⟨k, hk, rfl, hJs, hrow, hO⟩ := hrel
    by_cases hlt : k < m
    · obtain ⟨b, off, rfl, hb, x1⟩ := (HL.out.only hO (fun a e hh => by have h1 := HA.out.1 a e (by omega); have h2 := HA.out.2 a e (by omega); rcases hh with hh | hh; exact h1 hh; omega)).atE (by rw [HM.out]; omega)
      obtain ⟨p0, p1, p2, p3, p4, p5, p6, p7, p8, p9, p10, p11, p12, p13, p14⟩ := ev_cells (x1 k (by rw [HM.out]; omega))
      have h8 := runF_8 L k
      have HN : Hid (runF L (k + 1) = nextF (runF L k) (evN L k)) := Lib.hid rfl
      have HT : Hid (toldUp L (k + 1) = toldUp L k ++ [(k, turnN L k)]) := Lib.hid (toldUp_succ L k)
      have HV : Hid (turnN L k = nextV (runF L k) (evN L k)) := Lib.hid rfl
      clear x1
      have HC := Lib.hid (fun w hr => hNext_any (W.heap.size + 2) (runF L k) (evN L k) h8.1 h8.2 w hr)
      have HK := Lib.hid (And.intro hJs (And.intro hrow hO))
      clear h8 hJs hrow hO
      gi_upto_region 4 with fail
      generalize hW2 : World.alloc _ _ = W2
      obtain ⟨hb2, hx⟩ := one_cells _ _ _ W2 hW2
      obtain ⟨q0, q1, q2, q3, q4, q5, q6, q7, q8, q9, q10, q11, q12, q13, q14⟩ := ev_cells (w := W2) (b := wr.heap.size) (o := 0) (x := evN L k) (fun j _ => by rw [Nat.zero_add]; exact hx.cell j)
      simp only [Nat.zero_add] at q1 q2 q3 q4 q5 q6 q7 q8 q9 q10 q11 q12 q13 q14
      have HK2 := Lib.hid (And.intro (HJ.out.below HK.out.1 hb2) (And.intro (HK.out.2.1.keep hb2) (HK.out.2.2.then hb2)))
      clear hx hb2 hW2 HK p0 p1 p2 p3 p4 p5 p6 p7 p8 p9 p10 p11 p12 p13 p14
      generalize wr.heap.size = g2 at *
      clear wr
      have hYT : ∀ w3, TurnR W2 (W.heap.size + 2) (nextF (runF L k) (evN L k)) w3 → YieldAt Fence.wide (7 - 1) Try.prog l #[.int .i64 (k : Int), .int .i64 (nextV (runF L k) (evN L k))] w3 fun e W' =>
          (e = .returned (.bool true) ∧ J (toldUp L (k + 1)) W' ∧ Only (Rnd M a0 W.heap.size (W.heap.size + 3) w3.heap.size) w3 W') ∨ (e = .returned (.bool false) ∧ Jx (toldUp L (k + 1)) W') := fun w3 hT => by
        have h := HY.out (toldUp L k) (k, turnN L k) w3 w3 (by have := hT.row.lt; omega) (HJ.out _ _ _ HK2.out.1 (hT.only.mono fun i _ e => by subst e; exact ⟨by omega, by omega⟩)) (Only.refl _ _) ⟨k + 1, by omega, HT.out.symm⟩
        rw [← HT.out] at h
        exact h
      have HYT := Lib.hid hYT
      have HN2 : Hid (∀ w3, TurnR W2 (W.heap.size + 2) (nextF (runF L k) (evN L k)) w3 → TurnR W2 (W.heap.size + 2) (runF L (k + 1)) w3) := Lib.hid fun w3 h => by rw [HN.out]; exact h
      clear hYT HN HV HY
      generalize nextV (runF L k) (evN L k) = v at *
      gi_wp2_with (gi_at_call 26; refine (callsIn_wide.2 (HC.out W2 HK2.out.2.1)).mono ?_; rintro e w3 ⟨rfl, hT⟩; obtain ⟨fn, tmps, assign, body, hy, hR⟩ := HYT.out w3 hT; have HT4 := Lib.hid (HN2.out w3 hT); clear hT)
      refine hR.mono ?_
      rintro e W3 (⟨rfl, hJ3, hk3⟩ | ⟨rfl, hJx3⟩)
      · have hrow3 : Row W3 (W.heap.size + 2) 63 9 (ints (runF L (k + 1))) := HT4.out.row.only hk3 (by
          rintro (h | ⟨h1, h2⟩ | ⟨h, _⟩)
          · have := hM _ h; omega
          · omega
          · omega)
        have hO3 : Only (fun i => M i ∨ a0 ≤ i) W W3 := (HK2.out.2.2.trans (HT4.out.only.mono fun i _ e => .inr (by omega))).trans (hk3.mono fun i _ h => h.elim .inl fun h => .inr (by rcases h with ⟨h1, _⟩ | ⟨h1, _⟩ <;> omega))
        have HZ := Lib.hid (And.intro hJ3 (And.intro hrow3 hO3))
        clear hJ3 hrow3 hO3 hk3 hR hy
        gi_wp2
        go_roundw
        case rel => exact ⟨k + 1, by omega, by go_num, HZ.out.1, HZ.out.2.1, HZ.out.2.2⟩
        case measure => simp [intOf]; omega
      · have HZ := Lib.hid hJx3
        clear hJx3 hR hy
        gi_wp2
        refine bodyPost_ret (results_none rfl _ _ _) rfl ?_
        exact ⟨⟨_, rfl⟩, .inr ⟨_, ⟨k + 1, by omega, rfl⟩, HZ.out⟩⟩
    · obtain rfl : k = m := by omega
      have HO := Lib.hid hJs; clear hJs hO hrow
      gi_wp2
      go_end0
      exact ⟨⟨_, rfl⟩, .inl ⟨_, rfl, HO.out⟩⟩

theorem ev_lt {w : World} {A : Option Addr} {L : List Ev} (h : LiesC w A (flatF evF L)) : ∀ a, A = some a → 0 < L.length → a.block < w.heap.size := fun a e h0 => by
  obtain ⟨b, off, rfl, hb, _⟩ := h.atE h0
  cases e
  exact hb
/-- What inTurn hands back tells each event's place, and which oper it is of, till nobody wants more. -/
theorem inTurn_stops (M : Nat → Prop) (Bl c : Nat) (A : Option Addr) (L : List Ev) (hL : L.length ≤ 1000000) (w : World) (hM : ∀ i, M i → i < w.heap.size) (hMl : ¬ M Bl) (hA : ∀ a, A = some a → 0 < L.length → ¬ M a.block)
    (hBl : w.cell? ⟨Bl, 0, none⟩ = some (.slice A L.length c)) (hl : LiesC w A (flatF evF L)) :
    SeqC Fence.wide 7 Try.prog 24 #[.pointer (some ⟨Bl, 0, none⟩)] told2 M 3 (fun ys => ys = toldUp L L.length) (fun pre => ∃ k, k ≤ L.length ∧ pre = toldUp L k) w := fun l J Jx W hW hJ _ hY h0 =>
  inTurn1_in M l Bl c w.heap.size A L hL hM hMl hA (ev_lt hl) (World.block_lt_of_cell? w _ hBl) J Jx W hW.size hY hJ ((hW.cell (p := ⟨Bl, 0, none⟩) (World.block_lt_of_cell? w _ hBl)).trans hBl) (hl.keep hW) h0
end Go.Proofs.Ytckcliimngeieaa
