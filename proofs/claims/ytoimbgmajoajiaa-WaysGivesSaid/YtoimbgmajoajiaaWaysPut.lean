/- firstEmpty and goRound of package ways. -/
import Derived.Test.YtoimbgmajoajiaaWaysTurn
namespace Go.Proofs.Ytoimbgmajoajiaa
open Go.ChangeShapes Go.WideShapes Go.ChangeAt Go.RowKit

/-- The first way that is empty; 4: none is. -/
def emp (s : WS) : Nat := if s.slot 0 = 0 then 0 else if s.slot 1 = 0 then 1 else if s.slot 2 = 0 then 2 else if s.slot 3 = 0 then 3 else 4
theorem emp_le (s : WS) : emp s ≤ 4 := by unfold emp; split; omega; split; omega; split; omega; split <;> omega
theorem emp_is {s : WS} {k : Nat} (hk : k < 4) (h1 : ∀ j, j < k → s.slot j ≠ 0) (h2 : s.slot k = 0) : emp s = k := by
  unfold emp
  match k, hk with
  | 0, _ => rw [if_pos h2]
  | 1, _ => rw [if_neg (h1 0 (by omega)), if_pos h2]
  | 2, _ => rw [if_neg (h1 0 (by omega)), if_neg (h1 1 (by omega)), if_pos h2]
  | 3, _ => rw [if_neg (h1 0 (by omega)), if_neg (h1 1 (by omega)), if_neg (h1 2 (by omega)), if_pos h2]
theorem emp_none {s : WS} (h : ∀ j, j < 4 → s.slot j ≠ 0) : emp s = 4 := by
  unfold emp
  rw [if_neg (h 0 (by omega)), if_neg (h 1 (by omega)), if_neg (h 2 (by omega)), if_neg (h 3 (by omega))]
theorem emp_slot {s : WS} (h : emp s < 4) : s.slot (emp s) = 0 := by
  by_cases h0 : s.slot 0 = 0
  · rw [emp_is (k := 0) (by omega) (fun j hj => by omega) h0]; exact h0
  by_cases h1 : s.slot 1 = 0
  · rw [emp_is (k := 1) (by omega) (fun j hj => by obtain rfl : j = 0 := by omega
                                                   exact h0) h1]; exact h1
  by_cases h2 : s.slot 2 = 0
  · rw [emp_is (k := 2) (by omega) (fun j hj => by rcases (show j = 0 ∨ j = 1 by omega) with rfl | rfl <;> assumption) h2]; exact h2
  by_cases h3 : s.slot 3 = 0
  · rw [emp_is (k := 3) (by omega) (fun j hj => by rcases (show j = 0 ∨ j = 1 ∨ j = 2 by omega) with rfl | rfl | rfl <;> assumption) h3]; exact h3
  · rw [emp_none (s := s) (fun j hj => by rcases (show j = 0 ∨ j = 1 ∨ j = 2 ∨ j = 3 by omega) with rfl | rfl | rfl | rfl <;> assumption)] at h; omega
theorem emp_not {s : WS} (h : emp s = 4) (j : Nat) (hj : j < 4) : s.slot j ≠ 0 := by
  intro e
  have key : ∀ n, n ≤ j → (∀ i, i < n → s.slot i ≠ 0) := by
    intro n
    induction n with
    | zero => intro _ i hi; omega
    | succ n ih =>
      intro hn i hi
      rcases Nat.lt_or_ge i n with h1 | h1
      · exact ih (by omega) i h1
      · obtain rfl : i = n := by omega
        intro e2
        have := emp_is (s := s) (k := i) (by omega) (ih (by omega)) e2
        omega
  have := emp_is (s := s) (k := j) hj (key j (Nat.le_refl _)) e
  omega
def firstV (s : WS) : Value := .tuple #[.int .i64 (if emp s < 4 then (emp s : Int) else 0), .bool (decide (emp s < 4))]
theorem firstV_yes {s : WS} {k : Nat} (h : emp s = k) (hk : k < 4) : firstV s = .tuple #[.int .i64 (k : Nat), .bool true] := by
  unfold firstV; rw [h, if_pos hk, decide_eq_true hk]
theorem firstV_no {s : WS} (h : emp s = 4) : firstV s = .tuple #[.int .i64 0, .bool false] := by
  unfold firstV; rw [h]; rfl

set_option maxRecDepth 100000 in
theorem yFirst_any (s : WS) (hs : OkS s) (w : World) : Calls Try.prog 27 #[.agg (rowOf 10 (setV s))] w fun e w' => e = .returned (firstV s) ∧ Below w.heap.size w w' := by
  have HY := Lib.hid (fun k hk h1 h2 => firstV_yes (s := s) (emp_is (k := k) hk h1 h2) hk)
  have HN := Lib.hid (fun h => firstV_no (s := s) (emp_none h))
  generalize firstV s = res at *
  go_enter Try.func27, Try.ntmps27
  go_upto_region 1 with fail
  generalize hW : World.alloc _ _ = W
  have hr : Row W w.heap.size 27 10 (setV s) := by rw [← hW]; exact Row.new _ _ _ _ _ rfl
  have hB : Below w.heap.size w W := by rw [← hW]; exact (Below.refl _ _).alloc (Nat.le_refl _) _
  clear hW
  generalize hz : w.heap.size = a1 at *
  have HZ := Lib.hid hz; clear hz
  obtain ⟨u0, u1, u2, u3, u4, u5, u6, u7, u8, u9⟩ := set_cells hr
  have hlt0 : a1 < W.heap.size := hr.lt
  clear hr
  go_wp2_with fail
  clear u0 u1 u2 u3 u4 u5 u6 u7 u8 u9
  go_loopw [8] (fun i wr => ∃ k : Nat, i = .int .i64 k ∧ k ≤ 4 ∧ Hid (∀ j, j < k → s.slot j ≠ 0) ∧ Below a1 w wr ∧ a1 < wr.heap.size) (fun i _ => 4 - (intOf i).toNat)
  case atStart => exact ⟨0, rfl, by omega, Lib.hid (fun j hj => by omega), hB, hlt0⟩
  case round =>
    obtain ⟨k, rfl, hk, hn, hbr, hsz⟩ := hrel
    by_cases hlt : k < 4
    · have x1 := way_at s k hlt
      have q0 : (0 : Int) ≤ (k : Int) := by omega
      have q1 : (k : Int) < 4 := by omega
      have HY1 := Lib.hid (HY.out k hlt hn.out)
      have HN1 : Hid (s.slot k ≠ 0 → ∀ j, j < k + 1 → s.slot j ≠ 0) := Lib.hid (fun h j hj => by
        rcases Nat.lt_or_ge j k with h1 | h1
        · exact hn.out j h1
        · obtain rfl : j = k := by omega
          exact h)
      clear HY HN hn
      have b := hs.slot k
      by_cases h0 : s.slot k = 0
      · have HR := Lib.hid (HY1.out h0)
        rw [h0] at x1
        clear HY1 HN1 b h0
        go_wp2_with fail
        go_ret2
        exact ⟨by rw [HR.out]; rfl, by rw [HZ.out]; exact hbr.alloc (Nat.le_of_lt hsz) _⟩
      · have HX := Lib.hid (HN1.out h0)
        have d : (s.slot k == 0) = false := by simpa using h0
        clear HY1 HN1
        generalize s.slot k = v at *
        go_wp2_with fail
        go_roundw
        case rel => exact ⟨k + 1, by go_num, by omega, HX, hbr.alloc (Nat.le_of_lt hsz) _, by simp; omega⟩
        case measure => simp [intOf]; omega
    · obtain rfl : k = 4 := by omega
      have HR := Lib.hid (HN.out hn.out)
      rw [show ((4 : Nat) : Int) = 4 from rfl]
      clear HY HN
      go_wp2_with fail
      go_ret2
      exact ⟨by rw [HR.out]; rfl, by rw [HZ.out]; exact hbr⟩

theorem results_row1 {P : Program} {fn : Func} {p u : Tmp} {ty : TypeId} (h : fn.results = #[.cell p ty, .tmp u]) (tmps : Array Value) (w : World) (g : Nat) (t : TypeId) (cs : Array Value) (fr : Nat × Nat) (d : TypeDesc)
    (hp : tmps.getD p undef = .pointer (some ⟨g, 0, none⟩)) (hg : w.heap[g]? = some (.cells cs t fr))
    (hu : P.underlying ty = some d) (hd : (match d with | .struct _ | .array _ _ => true | _ => false) = true) (hi : (P.info? ty).map (·.size) = some cs.size) :
    (results fn tmps).run P w = .ok (.tuple #[.agg cs, tmps.getD u undef]) w := by
  have hp' : tmps[p]?.getD undef = .pointer (some ⟨g, 0, none⟩) := by simpa using hp
  simp [results, h, hp', asAddr, run_loadVar_row w g t ty cs fr d hg hu hd hi]
theorem results_row2 {P : Program} {fn : Func} {p u v : Tmp} {ty : TypeId} (h : fn.results = #[.cell p ty, .tmp u, .tmp v]) (tmps : Array Value) (w : World) (g : Nat) (t : TypeId) (cs : Array Value) (fr : Nat × Nat) (d : TypeDesc)
    (hp : tmps.getD p undef = .pointer (some ⟨g, 0, none⟩)) (hg : w.heap[g]? = some (.cells cs t fr))
    (hu : P.underlying ty = some d) (hd : (match d with | .struct _ | .array _ _ => true | _ => false) = true) (hi : (P.info? ty).map (·.size) = some cs.size) :
    (results fn tmps).run P w = .ok (.tuple #[.agg cs, tmps.getD u undef, tmps.getD v undef]) w := by
  have hp' : tmps[p]?.getD undef = .pointer (some ⟨g, 0, none⟩) := by simpa using hp
  simp [results, h, hp', asAddr, run_loadVar_row w g t ty cs fr d hg hu hd hi]
/-- Who is touched behind d steps from way h on. -/
def gone (h : Nat) (t : Nat → Bool) : Nat → Nat → Bool
  | 0 => t
  | d + 1 => fun j => if j = (h + d) % 4 then false else gone h t d j
theorem gone_keep {h : Nat} {t : Nat → Bool} {d j : Nat} (hn : ∀ e, e < d → (h + e) % 4 ≠ j) : gone h t d j = t j := by
  induction d with
  | zero => rfl
  | succ d ih =>
    show (if j = (h + d) % 4 then false else gone h t d j) = t j
    rw [if_neg (fun e => hn d (by omega) e.symm), ih (fun e he => hn e (by omega))]
theorem gone_off {h : Nat} {t : Nat → Bool} {d j e : Nat} (he : e < d) (hj : (h + e) % 4 = j) : gone h t d j = false := by
  induction d with
  | zero => omega
  | succ d ih =>
    show (if j = (h + d) % 4 then false else gone h t d j) = false
    by_cases h1 : j = (h + d) % 4
    · rw [if_pos h1]
    · rw [if_neg h1]
      refine ih ?_
      rcases Nat.lt_or_ge e d with h2 | h2
      · exact h2
      · obtain rfl : e = d := by omega
        exact absurd hj.symm h1
theorem gone_at {h : Nat} {t : Nat → Bool} {d : Nat} (hd : d < 4) : gone h t d ((h + d) % 4) = t ((h + d) % 4) := gone_keep fun e he => by omega
theorem gone_all {h : Nat} {t : Nat → Bool} {j : Nat} (hj : j < 4) : gone h t 4 j = false :=
  gone_off (e := (j + 4 - h % 4) % 4) (by omega) (by omega)
theorem gone_imp {h : Nat} {t : Nat → Bool} {d j : Nat} (hg : gone h t d j = true) : t j = true := by
  induction d with
  | zero => exact hg
  | succ d ih =>
    refine ih ?_
    have h2 : (if j = (h + d) % 4 then false else gone h t d j) = true := hg
    by_cases h1 : j = (h + d) % 4
    · rw [if_pos h1] at h2; cases h2
    · rw [if_neg h1] at h2; exact h2
/-- How many steps it takes to a way that isn't touched. -/
def laps (h : Nat) (t : Nat → Bool) : Nat := if t ((h + 0) % 4) = false then 0 else if t ((h + 1) % 4) = false then 1 else if t ((h + 2) % 4) = false then 2 else if t ((h + 3) % 4) = false then 3 else 4
theorem laps_le (h : Nat) (t : Nat → Bool) : laps h t ≤ 4 := by unfold laps; split; omega; split; omega; split; omega; split <;> omega
theorem laps_is {h : Nat} {t : Nat → Bool} {k : Nat} (hk : k < 4) (h1 : ∀ e, e < k → t ((h + e) % 4) = true) (h2 : t ((h + k) % 4) = false) : laps h t = k := by
  unfold laps
  have ne : ∀ {b : Bool}, b = true → ¬ b = false := fun h => by rw [h]; decide
  match k, hk with
  | 0, _ => rw [if_pos h2]
  | 1, _ => rw [if_neg (ne (h1 0 (by omega))), if_pos h2]
  | 2, _ => rw [if_neg (ne (h1 0 (by omega))), if_neg (ne (h1 1 (by omega))), if_pos h2]
  | 3, _ => rw [if_neg (ne (h1 0 (by omega))), if_neg (ne (h1 1 (by omega))), if_neg (ne (h1 2 (by omega))), if_pos h2]
theorem laps_four {h : Nat} {t : Nat → Bool} (h1 : ∀ e, e < 4 → t ((h + e) % 4) = true) : laps h t = 4 := by
  unfold laps
  have ne : ∀ {b : Bool}, b = true → ¬ b = false := fun h => by rw [h]; decide
  rw [if_neg (ne (h1 0 (by omega))), if_neg (ne (h1 1 (by omega))), if_neg (ne (h1 2 (by omega))), if_neg (ne (h1 3 (by omega)))]
/-- What is known when a way that isn't touched is met. -/
theorem laps_stop {h : Nat} {t : Nat → Bool} {k : Nat} (hk : k ≤ 4) (h1 : ∀ e, e < k → t ((h + e) % 4) = true) (h2 : gone h t k ((h + k) % 4) = false) : laps h t = k := by
  rcases Nat.lt_or_ge k 4 with h3 | h3
  · exact laps_is h3 h1 (by rw [← h2, gone_at h3])
  · obtain rfl : k = 4 := by omega
    exact laps_four h1
theorem laps_go {h : Nat} {t : Nat → Bool} {k : Nat} (hk : k ≤ 4) (h1 : ∀ e, e < k → t ((h + e) % 4) = true) (h2 : gone h t k ((h + k) % 4) = true) : k < 4 ∧ ∀ e, e < k + 1 → t ((h + e) % 4) = true := by
  rcases Nat.lt_or_ge k 4 with h3 | h3
  · refine ⟨h3, fun e he => ?_⟩
    rcases Nat.lt_or_ge e k with h4 | h4
    · exact h1 e h4
    · obtain rfl : e = k := by omega
      rw [← gone_at (t := t) h3]; exact h2
  · obtain rfl : k = 4 := by omega
    rw [gone_all (Nat.mod_lt _ (by omega))] at h2; cases h2
def handOf (s : WS) : Nat := if 0 ≤ s.hand ∧ s.hand < 4 then s.hand.toNat else 0
theorem handOf_lt (s : WS) : handOf s < 4 := by unfold handOf; split <;> omega
def WS.gone (s : WS) (h d : Nat) : WS := { s with tch := Proofs.Ytoimbgmajoajiaa.gone h s.tch d }
def roundS (s : WS) : WS := s.gone (handOf s) (laps (handOf s) s.tch)
def roundI (s : WS) : Nat := (handOf s + laps (handOf s) s.tch) % 4
/-- How many ways are touched. -/
def meas (t : Nat → Bool) : Nat := (t 0).toNat + (t 1).toNat + (t 2).toNat + (t 3).toNat
def bitC (w : World) (a : Addr) : Nat := match w.cell? a with | some (.bool b) => b.toNat | _ => 0
def cntT (w : World) (g : Nat) : Nat := bitC w ⟨g, 1, none⟩ + bitC w ⟨g, 3, none⟩ + bitC w ⟨g, 5, none⟩ + bitC w ⟨g, 7, none⟩
theorem cntT_row {w : World} {g : Nat} {t : TypeId} {s : WS} (h : Row w g t 10 (setV s)) : cntT w g = meas s.tch := by
  obtain ⟨u0, u1, u2, u3, u4, u5, u6, u7, u8, u9⟩ := set_cells h
  unfold cntT bitC
  rw [u1, u3, u5, u7]; rfl
theorem meas_less {t t' : Nat → Bool} {i : Nat} (hi : i < 4) (ht : t i = true) (h' : t' i = false) (hk : ∀ j, j ≠ i → t' j = t j) : meas t' < meas t := by
  unfold meas
  match i, hi with
  | 0, _ => rw [ht, h', hk 1 (by omega), hk 2 (by omega), hk 3 (by omega)]; simp
  | 1, _ => rw [ht, h', hk 0 (by omega), hk 2 (by omega), hk 3 (by omega)]; simp
  | 2, _ => rw [ht, h', hk 0 (by omega), hk 1 (by omega), hk 3 (by omega)]; simp
  | 3, _ => rw [ht, h', hk 0 (by omega), hk 1 (by omega), hk 2 (by omega)]; simp
section
variable {w : World} {g : Nat} {t : TypeId} {s : WS}
/-- A way isn't touched any more. -/
theorem row_untouch {h d : Nat} (hr : Row w g t 10 (setV (s.gone h d))) {k : Nat} (hk : k = (h + d) % 4) : Row (w.setCell ⟨g, k * 2 + 1, none⟩ (.bool false)) g t 10 (setV (s.gone h (d + 1))) :=
  (hr.set_ (k * 2 + 1) _).congr fun i hi => by
    have hk4 : k < 4 := by omega
    by_cases h1 : i = k * 2 + 1
    · rw [if_pos h1, h1, setV_tch _ k hk4]
      show _ = Value.bool (if k = (h + d) % 4 then false else _)
      rw [if_pos hk]
    · rw [if_neg h1]
      unfold setV WS.gone
      by_cases h2 : i < 8
      · rw [if_pos h2, if_pos h2]
        by_cases h3 : i % 2 = 0
        · rw [if_pos h3, if_pos h3]
        · rw [if_neg h3, if_neg h3]
          show Value.bool _ = Value.bool (if i / 2 = (h + d) % 4 then false else _)
          rw [if_neg (by omega)]
      · rw [if_neg h2, if_neg h2]
end
set_option maxRecDepth 100000 in
set_option maxHeartbeats 1000000 in
theorem yRound_any (s : WS) (hs : OkS s) (w : World) : Calls Try.prog 28 #[.agg (rowOf 10 (setV s))] w fun e w' => e = .returned (.tuple #[.agg (rowOf 10 (setV (roundS s))), .int .i64 (roundI s : Nat)]) ∧ Below w.heap.size w w' := by
  have hh := handOf_lt s
  have hx := hs.hand
  have c := Lib.hid (fun W => yIs_any s.hand W)
  have HE : Hid (isB s.hand = true → (handOf s : Int) = s.hand) := Lib.hid fun h => by
    have : 0 ≤ s.hand ∧ s.hand < 4 := by simpa [isB] using h
    unfold handOf; rw [if_pos this]; omega
  have HE0 : Hid (isB s.hand = false → handOf s = 0) := Lib.hid fun h => by
    unfold handOf; rw [if_neg]; intro h2; rw [isB_yes h2] at h; cases h
  have HS : Hid (∀ k, laps (handOf s) s.tch = k → roundS s = s.gone (handOf s) k ∧ roundI s = (handOf s + k) % 4) := Lib.hid fun k hk => by
    unfold roundS roundI; rw [hk]; exact ⟨rfl, rfl⟩
  generalize roundS s = rs at *
  generalize roundI s = ri at *
  generalize handOf s = h at *
  go_enter Try.func28, Try.ntmps28
  go_upto_region 1 with fail
  generalize hW : World.alloc _ _ = W
  obtain ⟨hB, r1, r2⟩ := two_blocks w 27 27 10 10 (setV s) (setV zeroS) W hW
  clear hW
  generalize hz : w.heap.size = a1 at *
  have HZ := Lib.hid hz; clear hz
  have hsz : a1 + 1 < W.heap.size := r2.lt
  have u8 : W.cell? ⟨a1, 8, none⟩ = some (.int .i64 s.hand) := r1.cell (i := 8) (by omega)
  go_upto_region 2 with fail
  clear u8
  have hlt2 : a1 < W.heap.size := by omega
  cases hb : isB s.hand
  · rw [hb] at c
    have hst : Value.int .i64 0 = .int .i64 (((h + 0) % 4 : Nat) : Int) := by rw [HE0.out hb]; rfl
    clear HE HE0 hb
    replace hst := Lib.hid hst
    go_wp2_with (go_at_call 25; refine (c.out _).mono ?_; rintro e w' ⟨rfl, rfl⟩)
    go_loopw [4] (fun i wr => ∃ k : Nat, k ≤ 4 ∧ i = .int .i64 ((h + k) % 4 : Nat) ∧ Hid (∀ e, e < k → s.tch ((h + e) % 4) = true) ∧ Below a1 w wr ∧ Row wr a1 27 10 (setV (s.gone h k)) ∧ Row wr (a1 + 1) 27 10 (setV zeroS)) (fun _ wr => cntT wr a1)
    case atStart => exact ⟨0, by omega, hst.out, Lib.hid (fun j hj => by omega), hB, r1, r2⟩
    case round =>
      obtain ⟨k, hk, rfl, ht, hbr, q1, q2⟩ := hrel
      have hi : (h + k) % 4 < 4 := Nat.mod_lt _ (by omega)
      have v1 := set_tch_at q1 ((h + k) % 4) hi
      have f1 := q1.frozen ((h + k) % 4 * 2 + 1)
      have HST := Lib.hid (fun h2 => laps_stop (t := s.tch) (h := h) hk ht.out h2)
      have HGO := Lib.hid (fun h2 => laps_go (t := s.tch) (h := h) hk ht.out h2)
      have hm1 := cntT_row q1
      have q3 := row_untouch q1 (k := (h + k) % 4) rfl
      have hbr3 := hbr.setCell (p := ⟨a1, (h + k) % 4 * 2 + 1, none⟩) (show a1 ≤ a1 from Nat.le_refl _) (.bool false)
      have q4 := q2.far (p := ⟨a1, (h + k) % 4 * 2 + 1, none⟩) (show a1 + 1 ≠ a1 by omega) (.bool false)
      have hm3 := cntT_row q3
      have hless : (gone h s.tch k ((h + k) % 4) = true) → meas (s.gone h (k + 1)).tch < meas (s.gone h k).tch := fun hg => meas_less hi hg (gone_off (e := k) (by omega) rfl) (fun j hj => by
        show (if j = (h + k) % 4 then false else gone h s.tch k j) = _
        rw [if_neg hj]; rfl)
      have hib : (((h + k) % 4 + 1) % 4 : Nat) = (h + (k + 1)) % 4 := by omega
      have c2 := Lib.hid (fun W => yBehind_any ((h + k) % 4) hi W)
      rw [hib] at c2
      replace hst := Lib.hid (fun k' (e : laps h s.tch = k') => HS.out k' e)
      have hgs : (s.gone h k).tch ((h + k) % 4) = gone h s.tch k ((h + k) % 4) := rfl
      rw [hgs] at v1
      clear hib hgs
      have HI := Lib.hid (rfl : (h + k) % 4 = (h + k) % 4)
      cases hbb : gone h s.tch k ((h + k) % 4)
      · have hre := HS.out k (HST.out hbb)
        rw [hbb] at v1
        obtain ⟨e1, e2⟩ := hre
        clear HI hst c2 HST HGO hless hm3 q3 q4 hbr3 hm1 HS hbb ht c r1 r2 hB f1
        rw [← e1] at q1
        rw [← e2] at v1 hi ⊢
        clear e1 e2
        have b0 : (0 : Int) ≤ (ri : Int) := by omega
        have b1 : (ri : Int) < 4 := by omega
        go_wp2_with (first
          | (refine wpList_load_row rfl 27 _ rfl a1 rfl 27 (rowOf 10 (setV rs)) (0, 0) _ q1 Try.underlying27 rfl (by kernel_rfl) ?_)
          | (refine wpList_store_row rfl 27 _ _ rfl (a1 + 1) (rowOf 10 (setV rs)) rfl rfl 27 (rowOf 10 (setV zeroS)) q2 (by kernel_rfl) rfl (setV_one _ _) ?_))
        exact bodyPost_ret (results_row1 (p := 2) (u := 3) (ty := 27) (by kernel_rfl) _ _ (a1 + 1) 27 (rowOf 10 (setV rs)) (0, 0) _ rfl (q2.setRow_ _) Try.underlying27 rfl (by kernel_rfl)) rfl ⟨rfl, by rw [HZ.out]; exact below_setRow_ hbr (by omega) _⟩
      · obtain ⟨hk4, ht4⟩ := HGO.out hbb
        rw [hbb] at v1
        replace hless := hless hbb
        rw [← hm1, ← hm3] at hless
        have HL := Lib.hid hless
        have HT := Lib.hid ht4
        have HQ := Lib.hid (And.intro hbr3 (And.intro q3 q4))
        clear HI hst HST HGO hless hm3 q3 q4 hbr3 hm1 HS hbb ht c r1 r2 hB ht4 hbr q1 q2
        generalize (h + k) % 4 = i at *
        have b0 : (0 : Int) ≤ (i : Int) := by omega
        have b1 : (i : Int) < 4 := by omega
        go_wp2_with (go_at_call 29; refine (c2.out _).mono ?_; rintro e w' ⟨rfl, rfl⟩)
        go_roundw
        case rel => exact ⟨k + 1, by omega, rfl, HT.out, HQ.out.1, HQ.out.2.1, HQ.out.2.2⟩
        case measure => exact HL.out
  · rw [hb] at c
    have e := HE.out hb
    rw [← e] at c ⊢
    have hst : Value.int .i64 (h : Int) = .int .i64 (((h + 0) % 4 : Nat) : Int) := by rw [Nat.add_zero, Nat.mod_eq_of_lt hh]
    clear HE HE0 hb e hx
    replace hst := Lib.hid hst
    go_wp2_with (go_at_call 25; refine (c.out _).mono ?_; rintro e w' ⟨rfl, rfl⟩)
    go_loopw [4] (fun i wr => ∃ k : Nat, k ≤ 4 ∧ i = .int .i64 ((h + k) % 4 : Nat) ∧ Hid (∀ e, e < k → s.tch ((h + e) % 4) = true) ∧ Below a1 w wr ∧ Row wr a1 27 10 (setV (s.gone h k)) ∧ Row wr (a1 + 1) 27 10 (setV zeroS)) (fun _ wr => cntT wr a1)
    case atStart => exact ⟨0, by omega, hst.out, Lib.hid (fun j hj => by omega), hB, r1, r2⟩
    case round =>
      obtain ⟨k, hk, rfl, ht, hbr, q1, q2⟩ := hrel
      have hi : (h + k) % 4 < 4 := Nat.mod_lt _ (by omega)
      have v1 := set_tch_at q1 ((h + k) % 4) hi
      have f1 := q1.frozen ((h + k) % 4 * 2 + 1)
      have HST := Lib.hid (fun h2 => laps_stop (t := s.tch) (h := h) hk ht.out h2)
      have HGO := Lib.hid (fun h2 => laps_go (t := s.tch) (h := h) hk ht.out h2)
      have hm1 := cntT_row q1
      have q3 := row_untouch q1 (k := (h + k) % 4) rfl
      have hbr3 := hbr.setCell (p := ⟨a1, (h + k) % 4 * 2 + 1, none⟩) (show a1 ≤ a1 from Nat.le_refl _) (.bool false)
      have q4 := q2.far (p := ⟨a1, (h + k) % 4 * 2 + 1, none⟩) (show a1 + 1 ≠ a1 by omega) (.bool false)
      have hm3 := cntT_row q3
      have hless : (gone h s.tch k ((h + k) % 4) = true) → meas (s.gone h (k + 1)).tch < meas (s.gone h k).tch := fun hg => meas_less hi hg (gone_off (e := k) (by omega) rfl) (fun j hj => by
        show (if j = (h + k) % 4 then false else gone h s.tch k j) = _
        rw [if_neg hj]; rfl)
      have hib : (((h + k) % 4 + 1) % 4 : Nat) = (h + (k + 1)) % 4 := by omega
      have c2 := Lib.hid (fun W => yBehind_any ((h + k) % 4) hi W)
      rw [hib] at c2
      replace hst := Lib.hid (fun k' (e : laps h s.tch = k') => HS.out k' e)
      have hgs : (s.gone h k).tch ((h + k) % 4) = gone h s.tch k ((h + k) % 4) := rfl
      rw [hgs] at v1
      clear hib hgs
      have HI := Lib.hid (rfl : (h + k) % 4 = (h + k) % 4)
      cases hbb : gone h s.tch k ((h + k) % 4)
      · have hre := HS.out k (HST.out hbb)
        rw [hbb] at v1
        obtain ⟨e1, e2⟩ := hre
        clear HI hst c2 HST HGO hless hm3 q3 q4 hbr3 hm1 HS hbb ht c r1 r2 hB f1
        rw [← e1] at q1
        rw [← e2] at v1 hi ⊢
        clear e1 e2
        have b0 : (0 : Int) ≤ (ri : Int) := by omega
        have b1 : (ri : Int) < 4 := by omega
        go_wp2_with (first
          | (refine wpList_load_row rfl 27 _ rfl a1 rfl 27 (rowOf 10 (setV rs)) (0, 0) _ q1 Try.underlying27 rfl (by kernel_rfl) ?_)
          | (refine wpList_store_row rfl 27 _ _ rfl (a1 + 1) (rowOf 10 (setV rs)) rfl rfl 27 (rowOf 10 (setV zeroS)) q2 (by kernel_rfl) rfl (setV_one _ _) ?_))
        exact bodyPost_ret (results_row1 (p := 2) (u := 3) (ty := 27) (by kernel_rfl) _ _ (a1 + 1) 27 (rowOf 10 (setV rs)) (0, 0) _ rfl (q2.setRow_ _) Try.underlying27 rfl (by kernel_rfl)) rfl ⟨rfl, by rw [HZ.out]; exact below_setRow_ hbr (by omega) _⟩
      · obtain ⟨hk4, ht4⟩ := HGO.out hbb
        rw [hbb] at v1
        replace hless := hless hbb
        rw [← hm1, ← hm3] at hless
        have HL := Lib.hid hless
        have HT := Lib.hid ht4
        have HQ := Lib.hid (And.intro hbr3 (And.intro q3 q4))
        clear HI hst HST HGO hless hm3 q3 q4 hbr3 hm1 HS hbb ht c r1 r2 hB ht4 hbr q1 q2
        generalize (h + k) % 4 = i at *
        have b0 : (0 : Int) ≤ (i : Int) := by omega
        have b1 : (i : Int) < 4 := by omega
        go_wp2_with (go_at_call 29; refine (c2.out _).mono ?_; rintro e w' ⟨rfl, rfl⟩)
        go_roundw
        case rel => exact ⟨k + 1, by omega, rfl, HT.out, HQ.out.1, HQ.out.2.1, HQ.out.2.2⟩
        case measure => exact HL.out
end Go.Proofs.Ytoimbgmajoajiaa
