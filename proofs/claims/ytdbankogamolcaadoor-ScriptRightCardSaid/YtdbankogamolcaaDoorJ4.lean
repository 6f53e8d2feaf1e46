/- The document's answers of layer 4 (burnbagref04): whether a configuration may be, and each thread's level. · Scripts: a configuration, programs and entries: what 23 cells are, and what lies in memory. · Scripts: noughts, what an entry is, appends that tell which block they lie in. · burnbagref18: Calls, Same. · A configuration as an argument: fourteen numbers. · burnbagref14: May, Ahead, Same, Opersame. -/
import Derived.Test.YtdbankogamolcaaDoorJ3
import Derived.Test.YtdbankogamolcaaDoorJ1
import Derived.Test.YtdbankogamolcaaDoorJ2
import Derived.Deep.MidRow
import Derived.Maps.AppendAt
import Derived.Deep.WholeRow
import Derived.Deep.RegionHeld3
import Derived.BigQuiet
import Derived.Test.YtdbankogamolcaaDoorJ0
import Derived.IntWalk
import Derived.OwnWalk
import Derived.Deep.DeepCutAuto
import Derived.Deep.QuietTactic
namespace Go.Proofs.YtdbankogamolcaaDoor
set_option linter.unusedSimpArgs false
set_option linter.unusedVariables false
open Go.ChangeShapes Go.WideShapes Go.ChangeAt Go.RowKit

/-- Thread i's place in the array is as it may be. -/
def okT (c : Nat → Int) (i : Nat) : Bool := if c 1 ≤ (i : Int) then decide (c (2 + i) = 0) && decide (0 < c 0) else decide (0 ≤ c (2 + i)) && decide (c (2 + i) < c 0)
def okTo (c : Nat → Int) (k : Nat) : Bool := (List.range k).all (okT c)
theorem okTo_iff {c : Nat → Int} {k : Nat} : okTo c k = true ↔ ∀ i, i < k → okT c i = true := by simp [okTo]

/-- The document's test, and the code's, are one. -/
theorem may_same (c : Nat → Int) : mayB c = (decide (1 ≤ c 0 ∧ c 0 ≤ 4 ∧ 1 ≤ c 1 ∧ c 1 ≤ 8) && okTo c 8 && decide (2 ≤ c 10 ∧ c 10 ≤ 60 ∧ 1 ≤ c 11 ∧ c 11 ≤ 40) && decide (1 ≤ c 12 ∧ c 12 ≤ 1048576 ∧ 0 ≤ c 13 ∧ c 13 ≤ 60)) := by
  by_cases h : 1 ≤ c 0 ∧ c 0 ≤ 4 ∧ 1 ≤ c 1 ∧ c 1 ≤ 8
  · have e : fitsB c = okTo c 8 := by
      rw [Bool.eq_iff_iff, okTo_iff]
      unfold fitsB
      rw [eqI_iff]
      refine forall_congr' fun i => forall_congr' fun hi => ?_
      by_cases h2 : (i : Int) < c 1
      · have e1 : fitN c i = clamp (c (2 + i)) (c 0 - 1) := if_pos h2
        have e2 : okT c i = (decide (0 ≤ c (2 + i)) && decide (c (2 + i) < c 0)) := if_neg (by omega)
        rw [e1, e2]
        simp only [Bool.and_eq_true, decide_eq_true_eq]
        unfold clamp
        generalize c (2 + i) = x
        repeat' split
        all_goals omega
      · have e1 : fitN c i = 0 := if_neg h2
        have e2 : okT c i = (decide (c (2 + i) = 0) && decide (0 < c 0)) := if_pos (by omega)
        rw [e1, e2]
        simp only [Bool.and_eq_true, decide_eq_true_eq]
        omega
    unfold mayB withinB
    rw [e, Bool.eq_iff_iff]
    simp only [Bool.and_eq_true, decide_eq_true_eq]
    by_cases hp : okTo c 8 = true
    · simp only [hp, and_true]; omega
    · simp only [hp, and_false, false_and, Bool.false_eq_true]
  · unfold mayB withinB
    rw [Bool.eq_iff_iff]
    simp only [Bool.and_eq_true, decide_eq_true_eq]
    constructor
    · intro h2; exact absurd ⟨by omega, by omega, by omega, by omega⟩ h
    · intro h2; exact absurd h2.1.1.1 h
theorem may_bounds {c : Nat → Int} (h : mayB c = true) : (1 ≤ c 0 ∧ c 0 ≤ 4) ∧ (1 ≤ c 1 ∧ c 1 ≤ 8) ∧ (∀ i, i < 8 → okT c i = true) ∧ (2 ≤ c 10 ∧ c 10 ≤ 60) ∧ (1 ≤ c 11 ∧ c 11 ≤ 40) ∧ (1 ≤ c 12 ∧ c 12 ≤ 1048576) ∧ (0 ≤ c 13 ∧ c 13 ≤ 60) := by
  rw [may_same] at h
  simp only [Bool.and_eq_true, decide_eq_true_eq] at h
  obtain ⟨⟨⟨h1, h2⟩, h3⟩, h4⟩ := h
  exact ⟨⟨h1.1, h1.2.1⟩, h1.2.2, okTo_iff.1 h2, ⟨h3.1, h3.2.1⟩, h3.2.2, ⟨h4.1, h4.2.1⟩, h4.2.2⟩

/-- A thread's level; -1 where there is none. -/
def lvl (c : Nat → Int) (t : Int) : Int := if mayB c = true ∧ 0 ≤ t ∧ t < c 1 then c (2 + t.toNat) else -1
theorem lvl_yes {c : Nat → Int} {t : Int} (h : mayB c = true) (h0 : 0 ≤ t) (h1 : t < c 1) : lvl c t = c (2 + t.toNat) := if_pos ⟨h, h0, h1⟩
theorem lvl_no {c : Nat → Int} {t : Int} (h : ¬ (mayB c = true ∧ 0 ≤ t ∧ t < c 1)) : lvl c t = -1 := if_neg h
theorem lvl_bounds (c : Nat → Int) (t : Int) : (lvl c t = -1 ∧ ¬ (mayB c = true ∧ 0 ≤ t ∧ t < c 1)) ∨ (0 ≤ lvl c t ∧ lvl c t < c 0 ∧ lvl c t < 4 ∧ mayB c = true ∧ 0 ≤ t ∧ t < c 1 ∧ lvl c t = c (2 + t.toNat)) := by
  by_cases h : mayB c = true ∧ 0 ≤ t ∧ t < c 1
  · right
    obtain ⟨h, h0, h1⟩ := h
    obtain ⟨b0, b1, b2, _⟩ := may_bounds h
    have := b2 t.toNat (by omega)
    unfold okT at this
    rw [if_neg (by omega)] at this
    simp only [Bool.and_eq_true, decide_eq_true_eq] at this
    rw [lvl_yes h h0 h1]
    exact ⟨this.1, this.2, by omega, h, h0, h1, rfl⟩
  · exact .inl ⟨lvl_no h, h⟩

theorem okTo_no {c : Nat → Int} {k : Nat} (hk : k < 8) (h : okT c k = false) : okTo c 8 = false := by
  rw [Bool.eq_false_iff]
  intro h2
  rw [okTo_iff.1 h2 k hk] at h
  cases h
theorem okTo_succ {c : Nat → Int} {k : Nat} (h : okTo c k = true) (h2 : okT c k = true) : okTo c (k + 1) = true := by
  rw [okTo_iff] at h ⊢
  intro i hi
  rcases Nat.lt_or_ge i k with h3 | h3
  · exact h i h3
  · obtain rfl : i = k := by omega
    exact h2

set_option maxRecDepth 100000 in
set_option maxHeartbeats 1000000 in
theorem rMay_any (c : Nat → Int) (hc : Ok64 c) (w : World) :
    Calls Tryd.prog 25 #[.agg (rowOf 14 (ints c))] w fun e w' => e = .returned (.bool (mayB c)) ∧ Below w.heap.size w w' := by
  have hM := Lib.hid (may_same c)
  have b0 := hc 0
  have b1 := hc 1
  go_enter Tryd.func25, Tryd.ntmps25
  go_upto_region 1 with fail
  generalize hW : World.alloc _ _ = W
  have hr : Row W w.heap.size 24 14 (ints c) := by rw [← hW]; exact Row.new _ _ _ _ _ rfl
  have hB : Below w.heap.size w W := by rw [← hW]; exact (Below.refl _ _).alloc (Nat.le_refl _) _
  clear hW
  generalize hz : w.heap.size = a1 at *
  have HZ := Lib.hid hz; clear hz
  obtain ⟨u0, u1, -, -, -, -, -, -, -, -, u10, u11, u12, u13⟩ := conf_cells hr
  by_cases h1 : c 0 < 1
  · go_wp2
    go_ret
    exact ⟨by rw [hM.out, decide_eq_false (by omega)]; rfl, by rw [HZ.out]; exact hB⟩
  by_cases h2 : 4 < c 0
  · go_wp2
    go_ret
    exact ⟨by rw [hM.out, decide_eq_false (by omega)]; rfl, by rw [HZ.out]; exact hB⟩
  by_cases h3 : c 1 < 1
  · go_wp2
    go_ret
    exact ⟨by rw [hM.out, decide_eq_false (by omega)]; rfl, by rw [HZ.out]; exact hB⟩
  by_cases h4 : 8 < c 1
  · go_wp2
    go_ret
    exact ⟨by rw [hM.out, decide_eq_false (by omega)]; rfl, by rw [HZ.out]; exact hB⟩
  go_wp2
  go_loopw [3] (fun t wr => ∃ k : Nat, t = .int .i64 k ∧ k ≤ 8 ∧ Hid (okTo c k = true) ∧ Drew W wr) (fun t _ => 8 - (intOf t).toNat)
  case atStart => exact ⟨0, rfl, by omega, Lib.hid rfl, Drew.refl _⟩
  case round =>
    obtain ⟨k, rfl, hk, ho, hd⟩ := hrel
    have hBr := hB.trans (hd.below a1)
    have hrr : Row wr a1 24 14 (ints c) := by obtain ⟨m, rfl⟩ := hd; exact hr
    obtain ⟨v0, v1, -, -, -, -, -, -, -, -, v10, v11, v12, v13⟩ := conf_cells hrr
    clear u0 u1 u10 u11 u12 u13
    by_cases hlt : k < 8
    · have vk : wr.cell? ⟨a1, 2 + k, none⟩ = some (.int .i64 (c (2 + k))) := hrr.cell (i := 2 + k) (by omega)
      have bk := hc (2 + k)
      have q0 : (0 : Int) ≤ (k : Int) := by omega
      have q1 : (k : Int) < 8 := by omega
      have H1 : Hid (okT c k = if c 1 ≤ (k : Int) then decide (c (2 + k) = 0) && decide (0 < c 0) else decide (0 ≤ c (2 + k)) && decide (c (2 + k) < c 0)) := Lib.hid rfl
      generalize c (2 + k) = x at *
      by_cases g1 : c 1 ≤ (k : Int)
      · have d1 : decide (c 1 ≤ (k : Int)) = true := decide_eq_true g1
        by_cases g2 : x = 0
        · subst g2
          have d2 : ((0 : Int) != 0) = false := rfl
          have d3 : decide (c 0 ≤ 0) = false := decide_eq_false (by omega)
          have Ho := Lib.hid (okTo_succ ho.out (by rw [H1.out, if_pos g1, decide_eq_true rfl, decide_eq_true (by omega)]; rfl))
          clear ho
          go_wp2_with fail
          go_quiet (fail)
          go_wp2
          go_roundw
          case rel => exact ⟨k + 1, by go_num, by omega, Ho, hd.more _⟩
          case measure => simp [intOf]; omega
        · have d2 : (x != 0) = true := by simpa using g2
          have Ho := Lib.hid (okTo_no hlt (by rw [H1.out, if_pos g1, decide_eq_false g2]; rfl))
          clear ho g2
          go_wp2_with fail
          go_quiet (fail)
          go_wp2
          go_ret
          exact ⟨by rw [hM.out, Ho.out, Bool.and_false]; rfl, by rw [HZ.out]; exact below_drewN hBr _⟩
      · have d1 : decide (c 1 ≤ (k : Int)) = false := decide_eq_false g1
        by_cases g2 : x < 0
        · have Ho := Lib.hid (okTo_no hlt (by rw [H1.out, if_neg g1, decide_eq_false (show ¬ 0 ≤ x by omega)]; rfl))
          have d2 : decide (x < 0) = true := decide_eq_true g2
          clear ho
          go_wp2_with fail
          go_quiet (fail)
          go_wp2
          go_ret
          exact ⟨by rw [hM.out, Ho.out, Bool.and_false]; rfl, by rw [HZ.out]; exact below_drewN hBr _⟩
        · have d2 : decide (x < 0) = false := decide_eq_false g2
          by_cases g3 : c 0 ≤ x
          · have Ho := Lib.hid (okTo_no hlt (by rw [H1.out, if_neg g1, decide_eq_false (show ¬ x < c 0 by omega), Bool.and_false]))
            have d3 : decide (c 0 ≤ x) = true := decide_eq_true g3
            clear ho
            go_wp2_with fail
            go_quiet (fail)
            go_wp2
            go_ret
            exact ⟨by rw [hM.out, Ho.out, Bool.and_false]; rfl, by rw [HZ.out]; exact below_drewN hBr _⟩
          · have d3 : decide (c 0 ≤ x) = false := decide_eq_false g3
            have Ho := Lib.hid (okTo_succ ho.out (by rw [H1.out, if_neg g1, decide_eq_true (show 0 ≤ x by omega), decide_eq_true (show x < c 0 by omega)]; rfl))
            clear ho
            go_wp2_with fail
            go_quiet (fail)
            go_wp2
            go_roundw
            case rel => exact ⟨k + 1, by go_num, by omega, Ho, hd.more _⟩
            case measure => simp [intOf]; omega
    · obtain rfl : k = 8 := by omega
      have hs := hM.out
      rw [ho.out, decide_eq_true (show 1 ≤ c 0 ∧ c 0 ≤ 4 ∧ 1 ≤ c 1 ∧ c 1 ≤ 8 by omega)] at hs
      have HS := Lib.hid hs
      clear hs hM ho
      go_wp2
      all_goals
        go_ret
        exact ⟨by rw [HS.out]; refine retB ?_; rw [Bool.eq_iff_iff]; simp; omega, by rw [HZ.out]; exact hBr⟩
theorem mayB_congr {c d : Nat → Int} (h : ∀ i, i < 14 → c i = d i) : mayB c = mayB d := by
  rw [may_same, may_same]
  have ho : okTo c 8 = okTo d 8 := by
    rw [Bool.eq_iff_iff, okTo_iff, okTo_iff]
    have e : ∀ i, i < 8 → okT c i = okT d i := fun i hi => by
      unfold okT
      rw [h 0 (by omega), h 1 (by omega), h (2 + i) (by omega)]
    exact ⟨fun h1 i hi => by rw [← e i hi]; exact h1 i hi, fun h1 i hi => by rw [e i hi]; exact h1 i hi⟩
  rw [ho, h 0 (by omega), h 1 (by omega), h 10 (by omega), h 11 (by omega), h 12 (by omega), h 13 (by omega)]
theorem lvl_congr {c d : Nat → Int} (h : ∀ i, i < 14 → c i = d i) (t : Int) : lvl c t = lvl d t := by
  rcases lvl_bounds c t with ⟨h1, h2⟩ | ⟨-, -, -, h2, h3, h4, h5⟩
  · rw [h1, lvl_no (by rw [← mayB_congr h, ← h 1 (by omega)]; exact h2)]
  · have hb := may_bounds h2
    rw [h5, lvl_yes (by rw [← mayB_congr h]; exact h2) h3 (by rw [← h 1 (by omega)]; exact h4), h (2 + t.toNat) (by omega)]
end Go.Proofs.YtdbankogamolcaaDoor
namespace Go.Proofs.YtdbankogamolcaaDoor
set_option linter.unusedSimpArgs false
set_option linter.unusedVariables false
open Go.ChangeShapes Go.WideShapes Go.ChangeAt Go.RowKit
set_option linter.unusedSimpArgs false

/-- What happens to a thread. -/
structure Ent where
  th : Int
  wh : Int
deriving DecidableEq, Inhabited
def clF (x : Cl) : List Value := [.int .i64 x.op, .int .i64 x.l, .int .i64 x.key, .int .u64 x.pa, .int .u64 x.pb, .int .u64 x.hd, .int .i64 x.r]
def entF (x : Ent) : List Value := [.int .i64 x.th, .int .i64 x.wh]
theorem clF_len (x : Cl) : (clF x).length = 7 := rfl
theorem entF_len (x : Ent) : (entF x).length = 2 := rfl
theorem clF_one (x : Cl) : ∀ u ∈ clF x, u.oneCell' = true := by simp [clF, Value.oneCell']
theorem entF_one (x : Ent) : ∀ u ∈ entF x, u.oneCell' = true := by simp [entF, Value.oneCell']
structure Scr where
  c : Nat → Int
  p : Nat → List Cl
  e : List Ent
/-- A slice of n elements with these cells. -/
def SlC (w : World) (v : Value) (n : Nat) (cs : List Value) : Prop := ∃ A c, v = .slice A n c ∧ LiesC w A cs
theorem SlC.keep {w w' : World} {v : Value} {n : Nat} {cs : List Value} (h : SlC w v n cs) (hb : Below w.heap.size w w') : SlC w' v n cs := by
  obtain ⟨A, c, h1, h2⟩ := h
  exact ⟨A, c, h1, h2.keep hb⟩
theorem SlC.of {w : World} {v : Value} {n : Nat} {cs : List Value} (h : LnIs w v n cs) : SlC w v n cs := by
  obtain ⟨A, c, h1, -, -, -, h5, -⟩ := h
  exact ⟨A, c, h1, h5⟩
/-- What a script's cells are. -/
structure ScrIs (w : World) (f : Nat → Value) (s : Scr) : Prop where
  conf : ∀ i, i < 14 → f i = .int .i64 (s.c i)
  prog : ∀ t, t < 8 → SlC w (f (14 + t)) (s.p t).length (flatF clF (s.p t))
  ents : SlC w (f 22) s.e.length (flatF entF s.e)
theorem ScrIs.keep {w w' : World} {f : Nat → Value} {s : Scr} (h : ScrIs w f s) (hb : Below w.heap.size w w') : ScrIs w' f s := ⟨h.conf, fun t ht => (h.prog t ht).keep hb, h.ents.keep hb⟩
theorem ScrIs.one {w : World} {f : Nat → Value} {s : Scr} (h : ScrIs w f s) : ∀ i, i < 23 → (f i).oneCell' = true := fun i hi => by
  by_cases h1 : i < 14
  · rw [h.conf i h1]; rfl
  · by_cases h2 : i = 22
    · subst h2; obtain ⟨A, c, e, _⟩ := h.ents; rw [e]; rfl
    · obtain ⟨A, c, e, _⟩ := h.prog (i - 14) (by omega)
      rw [show 14 + (i - 14) = i by omega] at e
      rw [e]; rfl
/-- What bounds a script's numbers have: those of a machine, and lists that are no longer than a machine's. -/
structure OkScr (s : Scr) : Prop where
  conf : Ok64 s.c
  prog : ∀ t, t < 8 → (s.p t).length ≤ 9223372036854775807
  ents : s.e.length ≤ 9223372036854775807
  th : ∀ i, -9223372036854775808 ≤ (s.e.getD i default).th ∧ (s.e.getD i default).th ≤ 9223372036854775807
/-- A script in a block. -/
structure ScrAt (g : Nat) (f : Nat → Value) (s : Scr) (w : World) : Prop where
  row : Row w g 29 23 f
  scr : ScrIs w f s
theorem ScrAt.keep {g : Nat} {f : Nat → Value} {s : Scr} {w w' : World} (h : ScrAt g f s w) (hb : Below w.heap.size w w') : ScrAt g f s w' := ⟨h.row.keep hb, h.scr.keep hb⟩
theorem ScrAt.confR {g : Nat} {f : Nat → Value} {s : Scr} {w : World} (h : ScrAt g f s w) : w.rangeAt g 0 ((List.range 14).map (ints s.c)) := fun j v hj => by
  have hl : j < 14 := by
    have := (List.getElem?_eq_some_iff.1 hj).1
    simpa using this
  rw [Nat.zero_add, h.row.cell (by omega), h.scr.conf j hl, ← hj]
  simp [hl, ints]
theorem ScrAt.progV {g : Nat} {f : Nat → Value} {s : Scr} {w : World} (h : ScrAt g f s w) {t : Nat} (ht : t < 8) : ∃ A c, w.cell? ⟨g, 14 + t, none⟩ = some (.slice A (s.p t).length c) ∧ LiesC w A (flatF clF (s.p t)) := by
  obtain ⟨A, c, e, hl⟩ := h.scr.prog t ht
  exact ⟨A, c, by rw [h.row.cell (by omega), e], hl⟩
theorem ScrAt.entsV {g : Nat} {f : Nat → Value} {s : Scr} {w : World} (h : ScrAt g f s w) : ∃ A c, w.cell? ⟨g, 22, none⟩ = some (.slice A s.e.length c) ∧ LiesC w A (flatF entF s.e) := by
  obtain ⟨A, c, e, hl⟩ := h.scr.ents
  exact ⟨A, c, by rw [h.row.cell (by omega), e], hl⟩
theorem scr_new {w : World} {f : Nat → Value} {s : Scr} (h : ScrIs w f s) : ∀ W, w.alloc (.cells (rowOf 23 f) 29) = W → ScrAt w.heap.size f s W ∧ Below w.heap.size w W := by
  rintro W rfl
  have hb : Below w.heap.size w (w.alloc (.cells (rowOf 23 f) 29)) := (Below.refl _ w).alloc (Nat.le_refl _) _
  exact ⟨⟨Row.new w _ _ _ _ rfl, h.keep hb⟩, hb⟩
theorem LiesC.atEnt {w : World} {A : Option Addr} {L : List Ent} (h : LiesC w A (flatF entF L)) (hn : 0 < L.length) : ∃ b off, A = some ⟨b, off, none⟩ ∧ b < w.heap.size ∧ ∀ i, i < L.length → w.cell? ⟨b, off + i * 2, none⟩ = some (.int .i64 (L.getD i default).th) ∧ w.cell? ⟨b, off + i * 2 + 1, none⟩ = some (.int .i64 (L.getD i default).wh) := by
  obtain ⟨b, off, e, hb, hx⟩ := h.atF entF_len (by omega) hn
  exact ⟨b, off, e, hb, fun i hi => ⟨hx i hi 0 (by omega), hx i hi 1 (by omega)⟩⟩
theorem LiesC.atCl {w : World} {A : Option Addr} {L : List Cl} (h : LiesC w A (flatF clF L)) (hn : 0 < L.length) : ∃ b off, A = some ⟨b, off, none⟩ ∧ b < w.heap.size ∧ ∀ i, i < L.length → w.rangeAt b (off + i * 7) (clF (L.getD i default)) := by
  obtain ⟨b, off, e, hb, hx⟩ := h.atF clF_len (by omega) hn
  refine ⟨b, off, e, hb, fun i hi j v hj => ?_⟩
  have hl : j < 7 := (List.getElem?_eq_some_iff.1 hj).1
  rw [Nat.add_assoc, hx i hi j hl, hj]

/-- Is a script more than is gone through? -/
def greatTo (s : Scr) (k : Nat) : Bool := (List.range k).any fun t => decide (60 < (s.p t).length)
def greatB (s : Scr) (n : Int) : Bool := greatTo s 8 || decide (n < s.e.length)
set_option maxRecDepth 100000 in
theorem great_any (f : Nat → Value) (s : Scr) (n : Int) (w : World) (hs : ScrIs w f s) : Calls Tryd.prog 7 #[.agg (rowOf 23 f), .int .i64 n] w fun e w' => e = .returned (.bool (greatB s n)) ∧ Below w.heap.size w w' := by
  have HT := Lib.hid (scr_new hs)
  have HY : Hid (∀ t, t < 8 → 60 < (s.p t).length → greatB s n = true) := Lib.hid fun t ht h => by
    have : greatTo s 8 = true := by unfold greatTo; rw [List.any_eq_true]; exact ⟨t, List.mem_range.2 ht, decide_eq_true h⟩
    unfold greatB; rw [this]; rfl
  have HN : Hid ((∀ t, t < 8 → ¬ 60 < (s.p t).length) → greatB s n = decide (n < s.e.length)) := Lib.hid fun h => by
    have : greatTo s 8 = false := by
      unfold greatTo; rw [List.any_eq_false]
      intro t ht
      rw [decide_eq_false (h t (List.mem_range.1 ht))]; exact Bool.false_ne_true
    unfold greatB; rw [this]; rfl
  clear hs
  go_enter Tryd.func7, Tryd.ntmps7
  go_upto_region 1 with fail
  generalize hW : World.alloc _ _ = W
  obtain ⟨h1, hb⟩ := HT.out W hW
  have HX := Lib.hid h1; have HB := Lib.hid hb
  clear hW h1 hb HT
  generalize hg : w.heap.size = g at *
  have HG := Lib.hid hg; clear hg
  go_wp2_with fail
  go_loopw [5] (fun i wr => ∃ k : Nat, i = .int .i64 k ∧ k ≤ 8 ∧ wr = W ∧ ∀ t, t < k → ¬ 60 < (s.p t).length) (fun i _ => 8 - (intOf i).toNat)
  case atStart => exact ⟨0, rfl, Nat.zero_le _, rfl, fun t ht => by omega⟩
  case round =>
    obtain ⟨k, rfl, hk, rfl, he⟩ := hrel
    have HE := Lib.hid he; clear he
    by_cases hlt : k < 8
    · obtain ⟨A, c, p0, -⟩ := HX.out.progV hlt
      have HS : Hid (¬ 60 < (s.p k).length → ∀ t, t < k + 1 → ¬ 60 < (s.p t).length) := Lib.hid fun h t ht => by
        rcases Nat.lt_or_ge t k with h1 | h1
        · exact HE.out t h1
        · obtain rfl : t = k := by omega
          exact h
      have HYk := Lib.hid (HY.out k hlt)
      have h8 : (k : Int) < 8 := by omega
      clear HE
      generalize (s.p k).length = m at *
      by_cases hm : 60 < m
      · have HF := Lib.hid (HYk.out hm)
        go_wp2_with fail
        go_ret
        exact ⟨by rw [HF.out]; rfl, by rw [HG.out]; exact HB.out⟩
      · have HS2 := Lib.hid (HS.out hm)
        go_wp2_with fail
        go_roundw
        case rel => exact ⟨k + 1, by go_num, by omega, trivial, HS2.out⟩
        case measure => simp [intOf]; omega
    · obtain rfl : k = 8 := by omega
      obtain ⟨A, c, p0, -⟩ := HX.out.entsV
      have HF := Lib.hid (HN.out HE.out)
      clear HE
      generalize s.e.length = m at *
      rw [show ((8 : Nat) : Int) = 8 from rfl]
      go_wp2_with fail
      go_ret
      exact ⟨by rw [HF.out]; simp, by rw [HG.out]; exact HB.out⟩
end Go.Proofs.YtdbankogamolcaaDoor
namespace Go.Proofs.YtdbankogamolcaaDoor
set_option linter.unusedSimpArgs false
set_option linter.unusedVariables false
open Go.ChangeShapes Go.WideShapes Go.ChangeAt Go.RowKit

/-- A script of noughts. -/
def zeroF : Nat → Value := fun i => [.int .i64 0, .int .i64 0, .int .i64 0, .int .i64 0, .int .i64 0, .int .i64 0, .int .i64 0, .int .i64 0, .int .i64 0, .int .i64 0, .int .i64 0, .int .i64 0, .int .i64 0, .int .i64 0, .slice none 0 0, .slice none 0 0, .slice none 0 0, .slice none 0 0, .slice none 0 0, .slice none 0 0, .slice none 0 0, .slice none 0 0, .slice none 0 0].getD i undef
@[reducible] def zeroAr : Array Value := #[.int .i64 0, .int .i64 0, .int .i64 0, .int .i64 0, .int .i64 0, .int .i64 0, .int .i64 0, .int .i64 0, .int .i64 0, .int .i64 0, .int .i64 0, .int .i64 0, .int .i64 0, .int .i64 0, .slice none 0 0, .slice none 0 0, .slice none 0 0, .slice none 0 0, .slice none 0 0, .slice none 0 0, .slice none 0 0, .slice none 0 0, .slice none 0 0]
theorem zeroAr_row : zeroAr = rowOf 23 zeroF := rfl
theorem zero_one : (zeroAr.all fun x => x.oneCell') = true := by simp [zeroAr, Value.oneCell']
theorem scr_one {w : World} {f : Nat → Value} {s : Scr} (h : ScrIs w f s) : ((rowOf 23 f).all fun x => x.oneCell') = true := by
  rw [Array.all_eq_true_iff_forall_mem]
  intro v hv
  simp only [rowOf, List.mem_toArray, List.mem_map, List.mem_range] at hv
  obtain ⟨i, hi, rfl⟩ := hv
  exact h.one i hi
theorem infoEnt : ∃ i0, Tryd.prog.info? 51 = some i0 ∧ i0.zero = some (.agg (entF ⟨0, 0⟩).toArray) ∧ i0.size = 2 ∧ i0.bytes = 16 := by
  have h : (Tryd.prog.info? 51).map (fun i => (i.zero, i.size, i.bytes)) = some (some (.agg (entF ⟨0, 0⟩).toArray), 2, 16) := by kernel_rfl
  obtain ⟨i0, h1, h2⟩ := Option.map_eq_some_iff.1 h
  simp only [Prod.mk.injEq] at h2
  exact ⟨i0, h1, h2⟩
/-- An append onto a row of the call's own, as a step of a region that draws: what comes out is the old block, or the next new one. -/
theorem step_append_at18 {P : Program} {ops : Array Oper} {o : Oper} {a : Act} {w : World} {K : Act → World → Prop} {Q : Exit → Act → World → Prop} {E : Prop} (hgd : o.guard = none) (s x : Operand) (t : TypeId)
    (ho : o.op = .call { callee := .builtin .append, args := #[s, x], argTypes := #[t, t] })
    (base : Nat) (e : TypeId) (i : TypeInfo) (z : Value) (size bytes : Nat) (ht : P.underlying t = some (.slice e)) (hi : P.info? e = some i) (hz : i.zero = some z)
    (hsize : i.size = size) (hby : i.bytes = bytes) (hzs : z.cells.size = size) (hsz : 0 < size)
    (v : Value) (n : Nat) (xs : List Value) (hs : a.eval s = v) (hown : w.ownsRow base e size v n xs)
    (ad : Addr) (m c : Nat) (news : List Value) (hx : a.eval x = .slice (some ad) m c) (hl : news.length = m * size) (hnews : ∀ j u, news[j]? = some u → w.cell? (ad.add j) = some u) (h1 : ∀ u ∈ news, u.oneCell' = true)
    (h63 : n + m ≤ maxLen) (hbytes : (n + m) * bytes ≤ 140737488355328) (hbase : base ≤ w.heap.size)
    (h : ∀ v' w', w'.ownsRow base e size v' (n + m) (xs ++ news) → w.grownBy w' v.ownBlock → (v'.ownBlock = v.ownBlock ∨ v'.ownBlock = some w.heap.size) → K (a.put o.dst v') w') :
    if Region.wanted o (yielded ops a.tmps) = true then Oper.wp P o a w K Q else E := by
  have hw : Region.wanted o (yielded ops a.tmps) = true := by simp [Region.wanted, hgd]
  rw [if_pos hw]
  obtain ⟨v', w', hr, h2, h3, h4, h5⟩ := run_append_own_at (P := P) w base t o.type e i z size bytes ht hi hz hsize hby hzs hsz v n xs hown ad m c news hl hnews h1 h63 hbytes hbase
  unfold Oper.wp execOp
  simp only [ho, resolve, invoke, builtin, Sem.run_bind, Sem.run_pure, Result.andThen_ok, List.map_toArray, List.map_cons, List.map_nil, hs, hx, hr]
  exact h v' w' h2 h3 h5

/-- An append onto a row of the call's own, as an operation of a plain region: what comes out is the old block, or the next new one. -/
theorem wpList_append_own_at {ops : Array Oper} {rest : List Oper} {o : Oper} {a : Act} {w : World} {Q : Exit → Act → World → Prop} (hgd : o.guard = none) (s x : Operand) (t : TypeId)
    (ho : o.op = .call { callee := .builtin .append, args := #[s, x], argTypes := #[t, t] })
    (base : Nat) (e : TypeId) (i : TypeInfo) (z : Value) (size bytes : Nat) (ht : Tryd.prog.underlying t = some (.slice e)) (hi : Tryd.prog.info? e = some i) (hz : i.zero = some z)
    (hsize : i.size = size) (hby : i.bytes = bytes) (hzs : z.cells.size = size) (hsz : 0 < size)
    (v : Value) (n : Nat) (xs : List Value) (hs : a.eval s = v) (hown : w.ownsRow base e size v n xs)
    (ad : Addr) (m c : Nat) (news : List Value) (hx : a.eval x = .slice (some ad) m c) (hl : news.length = m * size) (hnews : ∀ j u, news[j]? = some u → w.cell? (ad.add j) = some u) (h1 : ∀ u ∈ news, u.oneCell' = true)
    (h63 : n + m ≤ maxLen) (hbytes : (n + m) * bytes ≤ 140737488355328) (hbase : base ≤ w.heap.size)
    (h : ∀ v' w', w'.ownsRow base e size v' (n + m) (xs ++ news) → w.grownBy w' v.ownBlock → (v'.ownBlock = v.ownBlock ∨ v'.ownBlock = some w.heap.size) → wpList Tryd.prog ops Q rest (a.put o.dst v') w') :
    wpList Tryd.prog ops Q (o :: rest) a w := by
  obtain ⟨v', w', hr, h2, h3, h4, h5⟩ := run_append_own_at (P := Tryd.prog) w base t o.type e i z size bytes ht hi hz hsize hby hzs hsz v n xs hown ad m c news hl hnews h1 h63 hbytes hbase
  refine wpList_plain hgd fun _ hK => ?_
  unfold Oper.wp execOp
  simp only [ho, resolve, invoke, builtin, Sem.run_bind, Sem.run_pure, Result.andThen_ok, List.map_toArray, List.map_cons, List.map_nil, hs, hx, hr]
  exact hK _ _ (h v' w' h2 h3 h5)
/-- A struct out of the middle of a block, where the operation's guard says yes. -/
theorem wpList_load_midG {P : Program} {ops : Array Oper} {rest : List Oper} {o : Oper} {a : Act} {w : World} {Q : Exit → Act → World → Prop} (hw : Region.wanted o (yielded ops a.tmps) = true) (ty : TypeId) (x : Operand) (ho : o.op = .load ty x)
    (b k : Nat) (hx : a.eval x = .pointer (some ⟨b, k, none⟩)) (cs : List Value) (d : TypeDesc) (hc : w.rangeAt b k cs)
    (hu : P.underlying ty = some d) (hd : d.isRow = true) (hi : (P.info? ty).map (·.size) = some cs.length)
    (h : wpList P ops Q rest (a.put o.dst (.agg cs.toArray)) w) : wpList P ops Q (o :: rest) a w :=
  wpList_step fun K hK => by simp only [hw, if_true]; exact wp_load_mid ty x ho b k hx cs d hc hu hd hi (hK _ _ h)
theorem ScrAt.range {g : Nat} {f : Nat → Value} {s : Scr} {w : World} (h : ScrAt g f s w) : w.rangeAt g 0 ((List.range 23).map f) := fun j v hj => by
  have hl : j < 23 := by
    have := (List.getElem?_eq_some_iff.1 hj).1
    simpa using this
  rw [Nat.zero_add, h.row.cell hl, ← hj]
  simp [hl]
theorem fold23 (F : Nat → Value) : (#[F 0, F 1, F 2, F 3, F 4, F 5, F 6, F 7, F 8, F 9, F 10, F 11, F 12, F 13, F 14, F 15, F 16, F 17, F 18, F 19, F 20, F 21, F 22] : Array Value) = rowOf 23 F := rfl
end Go.Proofs.YtdbankogamolcaaDoor
namespace Go.Proofs.YtdbankogamolcaaDoor
set_option linter.unusedSimpArgs false
set_option linter.unusedVariables false
open Go.ChangeShapes Go.WideShapes Go.ChangeAt Go.RowKit
set_option linter.unusedSimpArgs false

theorem cl_cells {w : World} {b o : Nat} {x : Cl} (h : w.rangeAt b o (clF x)) : w.cell? ⟨b, o, none⟩ = some (.int .i64 x.op) ∧ w.cell? ⟨b, o + 1, none⟩ = some (.int .i64 x.l) ∧ w.cell? ⟨b, o + 2, none⟩ = some (.int .i64 x.key) ∧ w.cell? ⟨b, o + 3, none⟩ = some (.int .u64 x.pa) ∧ w.cell? ⟨b, o + 4, none⟩ = some (.int .u64 x.pb) ∧ w.cell? ⟨b, o + 5, none⟩ = some (.int .u64 x.hd) ∧ w.cell? ⟨b, o + 6, none⟩ = some (.int .i64 x.r) :=
  ⟨h 0 _ rfl, h 1 _ rfl, h 2 _ rfl, h 3 _ rfl, h 4 _ rfl, h 5 _ rfl, h 6 _ rfl⟩
def clN (L : List Cl) (i : Nat) : Cl := L.getD i default
def enN (L : List Ent) (i : Nat) : Ent := L.getD i default
theorem decEnt (x y : Ent) : decide (x = y) = (x.th == y.th && x.wh == y.wh) := by
  obtain ⟨a, b⟩ := x; obtain ⟨c, d⟩ := y
  rw [Bool.eq_iff_iff]; simp
theorem neq_ent (x y : Ent) (w : World) : (binOp .neq 51 (.agg #[.int .i64 x.th, .int .i64 x.wh]) (.agg #[.int .i64 y.th, .int .i64 y.wh])).run Tryd.prog w = .ok (.bool (!decide (x = y))) w := by
  have hI : ∀ d (y z : Int), (Op.equalIn (d + 1) 3 (.int .i64 y) (.int .i64 z)).run Tryd.prog w = .ok (y == z) w := fun d y z => run_equalIn_int w d _ .i64 .i64 y z Tryd.underlying3
  have hht : Tryd.prog.underlying 51 = some (.struct (Tryd.prog.fieldsOf 51)) := by simp only [Program.fieldsOf, Tryd.underlying51]
  have p0 : ∀ x : Ent, (part 3 #[.int .i64 x.th, .int .i64 x.wh] 0).run Tryd.prog w = .ok (.int .i64 x.th) w := fun x => by kernel_rfl
  have p1 : ∀ x : Ent, (part 3 #[.int .i64 x.th, .int .i64 x.wh] 1).run Tryd.prog w = .ok (.int .i64 x.wh) w := fun x => by kernel_rfl
  rw [run_neq_struct, run_equalIn_agg w 9999 _ _ _ hht (by kernel_rfl), decEnt]
  simp only [Program.fieldsOf, Tryd.underlying51, Op.eqFields, Sem.run_ite, Sem.run_bind, p0, p1, Result.andThen_ok, hI]
  cases (x.th == y.th) <;> cases (x.wh == y.wh) <;> rfl
set_option maxHeartbeats 4000000 in
theorem r18Calls_any (A B : Option Addr) (c d : Nat) (L M : List Cl) (hL : L.length ≤ 9223372036854775807) (hM : M.length ≤ 9223372036854775807) (w : World) (ha : LiesC w A (flatF clF L)) (hb : LiesC w B (flatF clF M)) :
    Calls Tryd.prog 34 #[.slice A L.length c, .slice B M.length d] w fun e w' => e = .returned (.bool (decide (L = M))) ∧ Drew w w' := by
  have HA := Lib.hid ha; have HB := Lib.hid hb
  clear ha hb
  generalize hn : L.length = n at *
  generalize hm : M.length = m at *
  by_cases hnm : n = m
  · subst hnm
    go_enter Tryd.func34, Tryd.ntmps34
    go_wp2_with fail
    go_loopw [5] (fun i wr => ∃ k : Nat, i = .int .i64 k ∧ k ≤ n ∧ Drew w wr ∧ ∀ i, i < k → clN L i = clN M i) (fun i _ => n - (intOf i).toNat)
    case atStart => exact ⟨0, rfl, Nat.zero_le _, Drew.refl _, fun i hi => by omega⟩
    case round =>
      obtain ⟨k, rfl, hk, hd, he⟩ := hrel
      by_cases hlt : k < n
      · obtain ⟨b1, off1, rfl, _, x1⟩ := (HA.out.keep (hd.below _)).atCl (by omega)
        obtain ⟨b2, off2, rfl, _, x2⟩ := (HB.out.keep (hd.below _)).atCl (by omega)
        obtain ⟨p0, p1, p2, p3, p4, p5, p6⟩ := cl_cells (x1 k (by omega))
        obtain ⟨q0, q1, q2, q3, q4, q5, q6⟩ := cl_cells (x2 k (by omega))
        have HQ : ∀ W, (binOp .neq 61 (.agg #[.int .i64 (clN L k).op, .int .i64 (clN L k).l, .int .i64 (clN L k).key, .int .u64 (clN L k).pa, .int .u64 (clN L k).pb, .int .u64 (clN L k).hd, .int .i64 (clN L k).r]) (.agg #[.int .i64 (clN M k).op, .int .i64 (clN M k).l, .int .i64 (clN M k).key, .int .u64 (clN M k).pa, .int .u64 (clN M k).pb, .int .u64 (clN M k).hd, .int .i64 (clN M k).r])).run Tryd.prog W = .ok (.bool (!decide (clN L k = clN M k))) W := fun W => neq_cl W (clN L k) (clN M k)
        have HD := Lib.hid (hd.more 1)
        have HE := Lib.hid he
        clear x1 x2 hd he
        change wr.cell? ⟨b1, off1 + k * 7, none⟩ = some (.int .i64 (clN L k).op) at p0
        change wr.cell? ⟨b1, off1 + k * 7 + 1, none⟩ = some (.int .i64 (clN L k).l) at p1
        change wr.cell? ⟨b1, off1 + k * 7 + 2, none⟩ = some (.int .i64 (clN L k).key) at p2
        change wr.cell? ⟨b1, off1 + k * 7 + 3, none⟩ = some (.int .u64 (clN L k).pa) at p3
        change wr.cell? ⟨b1, off1 + k * 7 + 4, none⟩ = some (.int .u64 (clN L k).pb) at p4
        change wr.cell? ⟨b1, off1 + k * 7 + 5, none⟩ = some (.int .u64 (clN L k).hd) at p5
        change wr.cell? ⟨b1, off1 + k * 7 + 6, none⟩ = some (.int .i64 (clN L k).r) at p6
        change wr.cell? ⟨b2, off2 + k * 7, none⟩ = some (.int .i64 (clN M k).op) at q0
        change wr.cell? ⟨b2, off2 + k * 7 + 1, none⟩ = some (.int .i64 (clN M k).l) at q1
        change wr.cell? ⟨b2, off2 + k * 7 + 2, none⟩ = some (.int .i64 (clN M k).key) at q2
        change wr.cell? ⟨b2, off2 + k * 7 + 3, none⟩ = some (.int .u64 (clN M k).pa) at q3
        change wr.cell? ⟨b2, off2 + k * 7 + 4, none⟩ = some (.int .u64 (clN M k).pb) at q4
        change wr.cell? ⟨b2, off2 + k * 7 + 5, none⟩ = some (.int .u64 (clN M k).hd) at q5
        change wr.cell? ⟨b2, off2 + k * 7 + 6, none⟩ = some (.int .i64 (clN M k).r) at q6
        cases hs : decide (clN L k = clN M k)
        · have HS := Lib.hid (show decide (L = M) = false from eqF_ne hs)
          rw [hs] at HQ; clear hs
          generalize clN L k = y1 at *
          generalize clN M k = y2 at *
          go_upto_region 6 with fail
          go_region
          go_wp2_with fail
          go_ret
          exact ⟨by rw [HS.out]; rfl, HD.out⟩
        · have HS : Hid (∀ i, i < k + 1 → clN L i = clN M i) := Lib.hid fun i hi => by
            rcases Nat.lt_or_ge i k with h | h
            · exact HE.out i h
            · obtain rfl : i = k := by omega
              exact of_decide_eq_true hs
          rw [hs] at HQ; clear hs
          generalize clN L k = y1 at *
          generalize clN M k = y2 at *
          go_upto_region 6 with fail
          go_region
          go_wp2_with fail
          go_roundw
          case rel => exact ⟨k + 1, by go_num, by omega, HD.out, HS.out⟩
          case measure => simp [intOf]; omega
      · obtain rfl : k = n := by omega
        have HD := Lib.hid hd; clear hd
        have HE := Lib.hid he; clear he
        go_wp2_with fail
        go_ret
        exact ⟨by rw [eqF_eq (by omega) (fun i hi => HE.out i (by omega))]; rfl, HD.out⟩
  · go_enter Tryd.func34, Tryd.ntmps34
    go_wp2_with fail
    all_goals first
      | (exfalso; omega)
      | (go_ret; exact ⟨by rw [eqF_len (by omega)]; rfl, Drew.refl _⟩)
/-- Are configurations the same? -/
theorem neq_conf2 (c d : Nat → Int) (w : World) : (binOp .neq 24 (.agg (rowOf 14 (ints c))) (.agg (rowOf 14 (ints d)))).run Tryd.prog w = .ok (.bool (!eqI 14 c d)) w := by
  have hA : (Op.equalIn 9999 22 (.agg (rowOf 8 (ints fun i => c (2 + i)))) (.agg (rowOf 8 (ints fun i => d (2 + i))))).run Tryd.prog w = .ok (eqI 8 (fun i => c (2 + i)) (fun i => d (2 + i))) w := by
    rw [run_equalIn_ints w 9997 _ _ 8 Tryd.underlying22 Tryd.underlying3 (fun _ => by kernel_rfl)]
  have hI : ∀ z y : Int, (Op.equalIn 9999 3 (.int .i64 z) (.int .i64 y)).run Tryd.prog w = .ok (z == y) w := fun z y => by
    rw [run_equalIn_int w 9998 _ .i64 .i64 z y Tryd.underlying3]
  have e8 : ∀ c : Nat → Int, (rowOf 14 (ints c)).extract 2 10 = rowOf 8 (ints fun i => c (2 + i)) := fun _ => rfl
  have p1 : ∀ (c : Nat → Int) i, i < 14 → (part 3 (rowOf 14 (ints c)) i).run Tryd.prog w = .ok (.int .i64 (c i)) w := fun c i hi => by
    have := rowOf_get (ints c) hi
    simp [part, isAgg, run_underlying Tryd.underlying3, this, ints]
  have p8 : ∀ c : Nat → Int, (part 22 (rowOf 14 (ints c)) 2).run Tryd.prog w = .ok (.agg (rowOf 8 (ints fun i => c (2 + i)))) w := fun c => by
    have hs : (sizeOf 22).run Tryd.prog w = .ok 8 w := by kernel_rfl
    simp only [part, isAgg, Sem.run_bind, run_underlying Tryd.underlying22, Result.andThen_ok, Sem.run_pure, if_true, hs, e8]
  have hht : Tryd.prog.underlying 24 = some (.struct (Tryd.prog.fieldsOf 24)) := by simp only [Program.fieldsOf, Tryd.underlying24]
  have hE : eqI 14 c d = (c 0 == d 0 && (c 1 == d 1 && (eqI 8 (fun i => c (2 + i)) (fun i => d (2 + i)) && (c 10 == d 10 && (c 11 == d 11 && (c 12 == d 12 && c 13 == d 13)))))) := by
    rw [Bool.eq_iff_iff]
    simp only [Bool.and_eq_true, eqI_iff, beq_iff_eq]
    constructor
    · intro h
      exact ⟨h 0 (by omega), h 1 (by omega), fun i hi => h (2 + i) (by omega), h 10 (by omega), h 11 (by omega), h 12 (by omega), h 13 (by omega)⟩
    · rintro ⟨h0, h1, h2, h3, h4, h5, h6⟩ i hi
      rcases Nat.lt_or_ge i 2 with h | h
      · match i, h with
        | 0, _ => exact h0
        | 1, _ => exact h1
      · rcases Nat.lt_or_ge i 10 with h' | h'
        · have := h2 (i - 2) (by omega)
          rwa [show 2 + (i - 2) = i by omega] at this
        · match i, h', hi with
          | 10, _, _ => exact h3
          | 11, _, _ => exact h4
          | 12, _, _ => exact h5
          | 13, _, _ => exact h6
  rw [run_neq_struct, run_equalIn_agg w 9999 _ _ _ hht (by kernel_rfl), hE]
  simp only [Program.fieldsOf, Tryd.underlying24, Op.eqFields, Sem.run_ite, Sem.run_bind, p1 _ _ (show 0 < 14 by omega), p1 _ _ (show 1 < 14 by omega), p1 _ _ (show 10 < 14 by omega), p1 _ _ (show 11 < 14 by omega), p1 _ _ (show 12 < 14 by omega), p1 _ _ (show 13 < 14 by omega), p8, Result.andThen_ok, hI, hA]
  cases (c 0 == d 0) <;> cases (c 1 == d 1) <;> cases (eqI 8 (fun i => c (2 + i)) (fun i => d (2 + i))) <;> cases (c 10 == d 10) <;> cases (c 11 == d 11) <;> cases (c 12 == d 12) <;> cases (c 13 == d 13) <;> rfl

theorem fold14I (c : Nat → Int) : (#[ints c 0, ints c 1, ints c 2, ints c 3, ints c 4, ints c 5, ints c 6, ints c 7, ints c 8, ints c 9, ints c 10, ints c 11, ints c 12, ints c 13] : Array Value) = rowOf 14 (ints c) := rfl
/-- Are scripts the same in all? -/
def sameP (a b : Scr) (k : Nat) : Bool := (List.range k).all fun t => decide (a.p t = b.p t)
def sameS (a b : Scr) : Bool := eqI 14 a.c b.c && (decide (a.e = b.e) && sameP a b 8)
theorem two_scr {w : World} {f h : Nat → Value} {a b : Scr} (ha : ScrIs w f a) (hb : ScrIs w h b) : ∀ W, (w.alloc (.cells (rowOf 23 f) 29)).alloc (.cells (rowOf 23 h) 29) = W → ScrAt w.heap.size f a W ∧ ScrAt (w.heap.size + 1) h b W ∧ Below w.heap.size w W := by
  rintro W rfl
  have h1 : Below w.heap.size w ((w.alloc (.cells (rowOf 23 f) 29)).alloc (.cells (rowOf 23 h) 29)) := ((Below.refl _ w).alloc (Nat.le_refl _) _).alloc (by simp) _
  have h2 := Row.new (w.alloc (.cells (rowOf 23 f) 29)) (rowOf 23 h) 29 h 23 rfl
  rw [World.size_alloc] at h2
  exact ⟨⟨(Row.new w _ _ _ _ rfl).alloc _, ha.keep h1⟩, ⟨h2, hb.keep h1⟩, h1⟩
theorem LiesC.atEnt2 {w : World} {A : Option Addr} {L : List Ent} (h : LiesC w A (flatF entF L)) {k : Nat} (hk : k < L.length) : ∃ b off, A = some ⟨b, off, none⟩ ∧ w.cell? ⟨b, off + k * 2, none⟩ = some (.int .i64 (enN L k).th) ∧ w.cell? ⟨b, off + k * 2 + 1, none⟩ = some (.int .i64 (enN L k).wh) := by
  obtain ⟨b, off, e, _, hx⟩ := h.atEnt (by omega)
  exact ⟨b, off, e, (hx k hk).1, (hx k hk).2⟩
set_option maxRecDepth 100000 in
set_option maxHeartbeats 4000000 in
theorem r18Same_any (f h : Nat → Value) (a b : Scr) (w : World) (hla : a.e.length ≤ 9223372036854775807) (hlb : b.e.length ≤ 9223372036854775807) (hpa : ∀ t, t < 8 → (a.p t).length ≤ 9223372036854775807) (hpb : ∀ t, t < 8 → (b.p t).length ≤ 9223372036854775807) (ha : ScrIs w f a) (hb : ScrIs w h b) :
    Calls Tryd.prog 16 #[.agg (rowOf 23 f), .agg (rowOf 23 h)] w fun e w' => e = .returned (.bool (sameS a b)) ∧ Below w.heap.size w w' := by
  have HT := Lib.hid (two_scr ha hb)
  have HPA := Lib.hid hpa; have HPB := Lib.hid hpb
  have NQ := fun W => neq_conf2 a.c b.c W
  have hf1 := fold14I a.c
  have hf2 := fold14I b.c
  have HS : Hid (sameS a b = (eqI 14 a.c b.c && (decide (a.e = b.e) && sameP a b 8))) := Lib.hid rfl
  have HE1 : Hid (∀ k, decide (enN a.e k = enN b.e k) = false → decide (a.e = b.e) = false) := Lib.hid fun k hk => eqF_ne hk
  have HE2 : Hid (a.e.length = b.e.length → (∀ i, i < a.e.length → enN a.e i = enN b.e i) → decide (a.e = b.e) = true) := Lib.hid fun hl hi => eqF_eq hl hi
  have HE3 : Hid (a.e.length ≠ b.e.length → decide (a.e = b.e) = false) := Lib.hid fun hl => eqF_len hl
  clear ha hb hpa hpb
  generalize eqI 14 a.c b.c = ec at *
  generalize hnn : a.e.length = n at *
  generalize hmm : b.e.length = m at *
  go_enter Tryd.func16, Tryd.ntmps16
  go_upto_region 1 with fail
  generalize hW : World.alloc _ _ = W
  have HX := Lib.hid (HT.out W hW)
  clear hW HT
  generalize hg : w.heap.size = g at *
  have HG := Lib.hid hg; clear hg
  have HA := Lib.hid HX.out.1; have HB := Lib.hid HX.out.2.1
  obtain ⟨A1, c1, pa, la⟩ := HA.out.entsV
  obtain ⟨A2, c2, pb, lb⟩ := HB.out.entsV
  rw [hnn] at pa
  rw [hmm] at pb
  have HLA := Lib.hid la; have HLB := Lib.hid lb
  clear la lb
  cases ec
  · have HF : Hid (sameS a b = false) := Lib.hid (by rw [HS.out]; rfl)
    go_wp2_with (first | (refine wpList_load_mid rfl 24 _ rfl g 0 rfl ((List.range 14).map (ints a.c)) _ HA.out.confR Tryd.underlying24 rfl (by kernel_rfl) ?_) | (refine wpList_load_mid rfl 24 _ rfl (g + 1) 0 rfl ((List.range 14).map (ints b.c)) _ HB.out.confR Tryd.underlying24 rfl (by kernel_rfl) ?_))
    go_ret
    exact ⟨by rw [HF.out]; rfl, by rw [HG.out]; exact HX.out.2.2⟩
  · rw [Bool.true_and] at HS
    by_cases hnm : n = m
    · subst hnm
      have d1 : ((n : Int) != (n : Int)) = false := by simp
      go_upto_region 3 with (first | (refine wpList_load_mid rfl 24 _ rfl g 0 rfl ((List.range 14).map (ints a.c)) _ HA.out.confR Tryd.underlying24 rfl (by kernel_rfl) ?_) | (refine wpList_load_mid rfl 24 _ rfl (g + 1) 0 rfl ((List.range 14).map (ints b.c)) _ HB.out.confR Tryd.underlying24 rfl (by kernel_rfl) ?_))
      clear hf1 hf2 NQ
      go_wp2_with fail
      go_loopw [5] (fun i wr => ∃ k : Nat, i = .int .i64 k ∧ k ≤ n ∧ Drew W wr ∧ ∀ i, i < k → enN a.e i = enN b.e i) (fun i _ => n - (intOf i).toNat)
      case atStart => exact ⟨0, rfl, Nat.zero_le _, Drew.refl _, fun i hi => by omega⟩
      case round =>
        clear pa pb
        obtain ⟨k, rfl, hk, hd, he⟩ := hrel
        have HBW : Hid (Below g w wr) := Lib.hid (HX.out.2.2.trans (hd.below _))
        obtain ⟨A1, c1, pa, la⟩ := (HA.out.keep (hd.below _)).entsV
        obtain ⟨A2, c2, pb, lb⟩ := (HB.out.keep (hd.below _)).entsV
        rw [hnn] at pa
        rw [hmm] at pb
        by_cases hlt : k < n
        · obtain ⟨b1, off1, rfl, p0, p1⟩ := la.atEnt2 (k := k) (by omega)
          obtain ⟨b2, off2, rfl, q0, q1⟩ := lb.atEnt2 (k := k) (by omega)
          have HQ := fun W => neq_ent (enN a.e k) (enN b.e k) W
          have HD := Lib.hid (hd.more 1)
          have HE := Lib.hid he
          clear la lb hd he
          cases hs : decide (enN a.e k = enN b.e k)
          · have HF : Hid (sameS a b = false) := Lib.hid (by rw [HS.out, HE1.out k hs]; rfl)
            rw [hs] at HQ; clear hs
            generalize enN a.e k = y1 at *
            generalize enN b.e k = y2 at *
            go_upto_region 6 with fail
            go_region
            go_wp2_with fail
            go_ret
            exact ⟨by rw [HF.out]; rfl, by rw [HG.out]; exact HX.out.2.2.trans (HD.out.below _)⟩
          · have HS2 : Hid (∀ i, i < k + 1 → enN a.e i = enN b.e i) := Lib.hid fun i hi => by
              rcases Nat.lt_or_ge i k with h | h
              · exact HE.out i h
              · obtain rfl : i = k := by omega
                exact of_decide_eq_true hs
            rw [hs] at HQ; clear hs
            generalize enN a.e k = y1 at *
            generalize enN b.e k = y2 at *
            go_upto_region 6 with fail
            go_region
            go_wp2_with fail
            go_roundw
            case rel => exact ⟨k + 1, by go_num, by omega, HD.out, HS2.out⟩
            case measure => simp [intOf]; omega
        · obtain rfl : k = n := by omega
          have HEQ := Lib.hid (HE2.out trivial he)
          rw [HEQ.out, Bool.true_and] at HS
          have HD := Lib.hid hd
          clear la lb hd he HE1 HE2 HE3 HEQ
          have HSA := Lib.hid (HA.out.keep (HD.out.below _)); have HSB := Lib.hid (HB.out.keep (HD.out.below _))
          have HP0 : Hid ((∀ t, t < 8 → a.p t = b.p t) → sameS a b = true) := Lib.hid fun h => by
            rw [HS.out]; unfold sameP; rw [List.all_eq_true]; exact fun t ht => decide_eq_true (h t (List.mem_range.1 ht))
          have HP1 : Hid (∀ t, t < 8 → decide (a.p t = b.p t) = false → sameS a b = false) := Lib.hid fun t ht h => by
            rw [HS.out]
            cases hx : sameP a b 8 with
            | false => rfl
            | true => unfold sameP at hx; rw [List.all_eq_true] at hx; rw [hx t (List.mem_range.2 ht)] at h; cases h
          have CC := Lib.hid (fun (t : Nat) (ht : t < 8) A B c d W h1 h2 => r18Calls_any A B c d (a.p t) (b.p t) (HPA.out t ht) (HPB.out t ht) W h1 h2)
          clear HS d1
          obtain ⟨W2, rfl⟩ : ∃ W2, W2 = wr := ⟨_, rfl⟩
          go_wp2_with fail
          go_loopw [6] (fun i wr => ∃ t : Nat, i = .int .i64 t ∧ t ≤ 8 ∧ Drew W2 wr ∧ ∀ i, i < t → a.p i = b.p i) (fun i _ => 8 - (intOf i).toNat)
          case atStart => exact ⟨0, rfl, Nat.zero_le _, Drew.refl _, fun i hi => by omega⟩
          case round =>
            obtain ⟨t, rfl, ht, hd, he⟩ := hrel
            by_cases hlt : t < 8
            · have h8 : (t : Int) < 8 := by omega
              obtain ⟨A3, c3, p3, l3⟩ := (HSA.out.keep (hd.below _)).progV hlt
              obtain ⟨A4, c4, p4, l4⟩ := (HSB.out.keep (hd.below _)).progV hlt
              have HCt := CC.out t hlt A3 A4 c3 c4
              have HP1t := Lib.hid (HP1.out t hlt)
              have HEt : Hid (decide (a.p t = b.p t) = true → ∀ i, i < t + 1 → a.p i = b.p i) := Lib.hid fun h i hi => by
                rcases Nat.lt_or_ge i t with h2 | h2
                · exact he i h2
                · obtain rfl : i = t := by omega
                  exact of_decide_eq_true h
              have HL3 := Lib.hid l3; have HL4 := Lib.hid l4; have HD2 := Lib.hid hd
              have HC1 := Lib.hid (fun W h1 h2 => HCt W h1 h2)
              clear l3 l4 he hd HCt
              generalize decide (a.p t = b.p t) = bt at *
              generalize (a.p t).length = n3 at *
              generalize (b.p t).length = n4 at *
              have HC2 : Hid (∀ q, Calls Tryd.prog 34 #[.slice A3 n3 c3, .slice A4 n4 c4] (wr.drewN q) fun e w' => e = .returned (.bool bt) ∧ ∃ m, w' = (wr.drewN q).drewN m) := Lib.hid fun q => HC1.out _ (HL3.out.keep (Drew.below ⟨q, rfl⟩ _)) (HL4.out.keep (Drew.below ⟨q, rfl⟩ _))
              clear HC1
              cases bt
              · have HF := Lib.hid (HP1t.out rfl)
                go_upto_region 11 with fail
                go_quiet ((go_at_call 34; exact Calls.quiet_of (HC2.out _)))
                go_wp2_with fail
                go_ret
                exact ⟨by rw [HF.out]; rfl, by rw [HG.out]; exact HX.out.2.2.trans ((HD.out.below _).trans ((HD2.out.more _).below _))⟩
              · have HE5 := Lib.hid (HEt.out rfl)
                go_upto_region 11 with fail
                go_quiet ((go_at_call 34; exact Calls.quiet_of (HC2.out _)))
                go_wp2_with fail
                go_roundw
                case rel => exact ⟨t + 1, by go_num, by omega, HD2.out.more _, HE5.out⟩
                case measure => simp [intOf]; omega
            · obtain rfl : t = 8 := by omega
              have HF := Lib.hid (HP0.out he)
              have HD2 := Lib.hid hd
              clear hd he
              rw [show ((8 : Nat) : Int) = 8 from rfl]
              go_wp2_with fail
              go_ret
              exact ⟨by rw [HF.out]; rfl, by rw [HG.out]; exact HX.out.2.2.trans ((HD.out.below _).trans (HD2.out.below _))⟩
    · have d1 : ((n : Int) != (m : Int)) = true := by simp; omega
      have HF : Hid (sameS a b = false) := Lib.hid (by rw [HS.out, HE3.out hnm]; rfl)
      go_wp2_with (first | (refine wpList_load_mid rfl 24 _ rfl g 0 rfl ((List.range 14).map (ints a.c)) _ HA.out.confR Tryd.underlying24 rfl (by kernel_rfl) ?_) | (refine wpList_load_mid rfl 24 _ rfl (g + 1) 0 rfl ((List.range 14).map (ints b.c)) _ HB.out.confR Tryd.underlying24 rfl (by kernel_rfl) ?_))
      go_ret
      exact ⟨by rw [HF.out]; rfl, by rw [HG.out]; exact HX.out.2.2⟩
theorem eqI_refl (n : Nat) (a : Nat → Int) : eqI n a a = true := eqI_iff.2 fun _ _ => rfl
theorem sameS_refl (s : Scr) : sameS s s = true := by
  unfold sameS
  rw [eqI_refl, decide_eq_true rfl, Bool.true_and, Bool.true_and]
  unfold sameP
  rw [List.all_eq_true]
  intro t _
  exact decide_eq_true rfl
end Go.Proofs.YtdbankogamolcaaDoor
namespace Go.Proofs.YtdbankogamolcaaDoor
set_option linter.unusedSimpArgs false
set_option linter.unusedVariables false
open Go.ChangeShapes Go.WideShapes Go.ChangeAt Go.RowKit Go.Joins Go.Deep
set_option maxRecDepth 100000
section
variable {H : Type} {enc : TypeId × Value → H} {w : World} {base : Nat} {spare : Nat → Bool} {held : Bool}

/-- Cells that read as a configuration. -/
theorem trod_conf {fuel : Nat} {cs : List Value} {y : DataW H × List MemPlace} (h : DataW.trod enc Tryd.prog w base spare held fuel 24 cs = some y) : ∃ c : Nat → Int, cs.toArray = rowOf 14 (ints c) ∧ Ok64 c := by
  have k1 : Tryd.prog.cellsOf 3 = 1 := by kernel_rfl
  have k8 : Tryd.prog.cellsOf 22 = 8 := by kernel_rfl
  have k14 : Tryd.prog.cellsOf 24 = 14 := by kernel_rfl
  obtain ⟨xs, n, _, hx, hl, hlen, hg⟩ := DataW.trod_struct Tryd.underlying24 h
  rw [k14] at hl
  match cs, hl with
  | [v0, v1, v2, v3, v4, v5, v6, v7, v8, v9, v10, v11, v12, v13], _ =>
    match xs, hlen with
    | [y0, y1, y2, y3, y4, y5, y6], _ =>
      have g2 : DataW.trod enc Tryd.prog w base spare held n 22 [v2, v3, v4, v5, v6, v7, v8, v9] = some y2 := by have := hg 2 _ rfl; simpa [k8] using this
      obtain ⟨zs, m, _, _, _, hzl, hz⟩ := DataW.trod_array Tryd.underlying22 g2
      rw [k1] at hz
      have t0 : DataW.trod enc Tryd.prog w base spare held n 3 [v0] = some y0 := by have := hg 0 _ rfl; simpa [k1] using this
      obtain ⟨x0, e0, b0⟩ := cell_i Tryd.underlying3 (v := v0) t0
      have t1 : DataW.trod enc Tryd.prog w base spare held n 3 [v1] = some y1 := by have := hg 1 _ rfl; simpa [k1] using this
      obtain ⟨x1, e1, b1⟩ := cell_i Tryd.underlying3 (v := v1) t1
      have t2 : DataW.trod enc Tryd.prog w base spare held m 3 [v2] = some (zs[0]'(by omega)) := by have := hz 0 (by omega); rw [List.getElem?_eq_getElem (by omega)] at this; simpa using this
      obtain ⟨x2, e2, b2⟩ := cell_i Tryd.underlying3 (v := v2) t2
      have t3 : DataW.trod enc Tryd.prog w base spare held m 3 [v3] = some (zs[1]'(by omega)) := by have := hz 1 (by omega); rw [List.getElem?_eq_getElem (by omega)] at this; simpa using this
      obtain ⟨x3, e3, b3⟩ := cell_i Tryd.underlying3 (v := v3) t3
      have t4 : DataW.trod enc Tryd.prog w base spare held m 3 [v4] = some (zs[2]'(by omega)) := by have := hz 2 (by omega); rw [List.getElem?_eq_getElem (by omega)] at this; simpa using this
      obtain ⟨x4, e4, b4⟩ := cell_i Tryd.underlying3 (v := v4) t4
      have t5 : DataW.trod enc Tryd.prog w base spare held m 3 [v5] = some (zs[3]'(by omega)) := by have := hz 3 (by omega); rw [List.getElem?_eq_getElem (by omega)] at this; simpa using this
      obtain ⟨x5, e5, b5⟩ := cell_i Tryd.underlying3 (v := v5) t5
      have t6 : DataW.trod enc Tryd.prog w base spare held m 3 [v6] = some (zs[4]'(by omega)) := by have := hz 4 (by omega); rw [List.getElem?_eq_getElem (by omega)] at this; simpa using this
      obtain ⟨x6, e6, b6⟩ := cell_i Tryd.underlying3 (v := v6) t6
      have t7 : DataW.trod enc Tryd.prog w base spare held m 3 [v7] = some (zs[5]'(by omega)) := by have := hz 5 (by omega); rw [List.getElem?_eq_getElem (by omega)] at this; simpa using this
      obtain ⟨x7, e7, b7⟩ := cell_i Tryd.underlying3 (v := v7) t7
      have t8 : DataW.trod enc Tryd.prog w base spare held m 3 [v8] = some (zs[6]'(by omega)) := by have := hz 6 (by omega); rw [List.getElem?_eq_getElem (by omega)] at this; simpa using this
      obtain ⟨x8, e8, b8⟩ := cell_i Tryd.underlying3 (v := v8) t8
      have t9 : DataW.trod enc Tryd.prog w base spare held m 3 [v9] = some (zs[7]'(by omega)) := by have := hz 7 (by omega); rw [List.getElem?_eq_getElem (by omega)] at this; simpa using this
      obtain ⟨x9, e9, b9⟩ := cell_i Tryd.underlying3 (v := v9) t9
      have t10 : DataW.trod enc Tryd.prog w base spare held n 3 [v10] = some y3 := by have := hg 3 _ rfl; simpa [k1] using this
      obtain ⟨x10, e10, b10⟩ := cell_i Tryd.underlying3 (v := v10) t10
      have t11 : DataW.trod enc Tryd.prog w base spare held n 3 [v11] = some y4 := by have := hg 4 _ rfl; simpa [k1] using this
      obtain ⟨x11, e11, b11⟩ := cell_i Tryd.underlying3 (v := v11) t11
      have t12 : DataW.trod enc Tryd.prog w base spare held n 3 [v12] = some y5 := by have := hg 5 _ rfl; simpa [k1] using this
      obtain ⟨x12, e12, b12⟩ := cell_i Tryd.underlying3 (v := v12) t12
      have t13 : DataW.trod enc Tryd.prog w base spare held n 3 [v13] = some y6 := by have := hg 6 _ rfl; simpa [k1] using this
      obtain ⟨x13, e13, b13⟩ := cell_i Tryd.underlying3 (v := v13) t13
      subst e0 e1 e2 e3 e4 e5 e6 e7 e8 e9 e10 e11 e12 e13
      refine ⟨fun i => match i with | 0 => x0 | 1 => x1 | 2 => x2 | 3 => x3 | 4 => x4 | 5 => x5 | 6 => x6 | 7 => x7 | 8 => x8 | 9 => x9 | 10 => x10 | 11 => x11 | 12 => x12 | 13 => x13 | _ => 0, rfl, fun i => ?_⟩
      match i with
      | 0 => exact b0
      | 1 => exact b1
      | 2 => exact b2
      | 3 => exact b3
      | 4 => exact b4
      | 5 => exact b5
      | 6 => exact b6
      | 7 => exact b7
      | 8 => exact b8
      | 9 => exact b9
      | 10 => exact b10
      | 11 => exact b11
      | 12 => exact b12
      | 13 => exact b13
      | _ + 14 => exact (show (-9223372036854775808 : Int) ≤ 0 ∧ (0 : Int) ≤ 9223372036854775807 from ⟨by omega, by omega⟩)

theorem open_conf {r : Reach} {b0 : Nat} {v : Value} {d : DataW H} {ps : List MemPlace} (hval : Value.okWide Tryd.prog w r b0 24 v) (h : DataW.Trod enc Tryd.prog w base spare held 24 v d ps) :
    ∃ c : Nat → Int, v = .agg (rowOf 14 (ints c)) ∧ Ok64 c := by
  obtain ⟨cs, rfl, hsz⟩ := okWide_struct Tryd.underlying24 hval
  obtain ⟨fuel, hf⟩ := h
  obtain ⟨c, h1, h2⟩ := trod_conf (cs := cs.toList) hf
  exact ⟨c, by rw [← h1], h2⟩
end
end Go.Proofs.YtdbankogamolcaaDoor
namespace Go.Proofs.YtdbankogamolcaaDoor
set_option linter.unusedSimpArgs false
set_option linter.unusedVariables false
open Go.ChangeShapes Go.WideShapes Go.ChangeAt Go.RowKit

def evN (L : List Ev) (i : Nat) : Ev := L.getD i default
def oprN (L : List Opr) (i : Nat) : Opr := L.getD i default
/-- Is a thread within a call, behind the first i events? -/
def wnAt (L : List Ev) : Nat → Nat → Bool
  | 0, _ => false
  | i + 1, t => if t = (evN L i).th.toNat then !(evN L i).back else wnAt L i t
/-- How many began, of the first i events. -/
def begAt (L : List Ev) : Nat → Nat
  | 0 => 0
  | i + 1 => bif (evN L i).back then begAt L i else begAt L i + 1
/-- May the i-th event be? -/
def okAt (L : List Ev) (i : Nat) : Bool :=
  decide (0 ≤ (evN L i).th) && (decide ((evN L i).th ≤ 7) && (((evN L i).back == wnAt L i (evN L i).th.toNat) && (bif (evN L i).back then decide ((evN L i).c = zeroC) else decide ((evN L i).a = zeroA))))
/-- May a history be? -/
def mayL (L : List Ev) : Bool := (List.range L.length).all (okAt L) && decide (begAt L L.length ≤ 40)
theorem mayL_no {L : List Ev} {i : Nat} (hi : i < L.length) (h : okAt L i = false) : mayL L = false := by
  have : (List.range L.length).all (okAt L) = false := by
    rw [List.all_eq_false]
    exact ⟨i, List.mem_range.2 hi, by rw [h]; simp⟩
  unfold mayL
  rw [this]; rfl
theorem mayL_all {L : List Ev} {n : Nat} (hn : n = L.length) (h : ∀ i, i < n → okAt L i = true) : mayL L = decide (begAt L n ≤ 40) := by
  subst hn
  have : (List.range L.length).all (okAt L) = true := by
    rw [List.all_eq_true]
    exact fun i hi => h i (List.mem_range.1 hi)
  unfold mayL
  rw [this]; rfl
theorem begAt_le (L : List Ev) : ∀ i, begAt L i ≤ i
  | 0 => Nat.le_refl _
  | i + 1 => by
    have := begAt_le L i
    unfold begAt
    cases (evN L i).back <;> simp only [cond] <;> omega
theorem LiesC.atE {w : World} {A : Option Addr} {L : List Ev} (h : LiesC w A (flatF evF L)) (hn : 0 < L.length) :
    ∃ b off, A = some ⟨b, off, none⟩ ∧ b < w.heap.size ∧ ∀ i, i < L.length → ∀ j, j < 15 → w.cell? ⟨b, off + i * 15 + j, none⟩ = (evF (evN L i))[j]? := by
  obtain ⟨b, off, h1, h2, h3⟩ := h.atF evF_len (by omega) hn
  exact ⟨b, off, h1, h2, fun i hi j hj => by rw [Nat.add_assoc]; exact h3 i hi j hj⟩
theorem LiesC.atO {w : World} {A : Option Addr} {L : List Opr} (h : LiesC w A (flatF opF L)) (hn : 0 < L.length) :
    ∃ b off, A = some ⟨b, off, none⟩ ∧ b < w.heap.size ∧ ∀ i, i < L.length → ∀ j, j < 16 → w.cell? ⟨b, off + i * 16 + j, none⟩ = (opF (oprN L i))[j]? := by
  obtain ⟨b, off, h1, h2, h3⟩ := h.atF opF_len (by omega) hn
  exact ⟨b, off, h1, h2, fun i hi j hj => by rw [Nat.add_assoc]; exact h3 i hi j hj⟩
theorem ev_cells {w : World} {b o : Nat} {x : Ev} (h : ∀ j, j < 15 → w.cell? ⟨b, o + j, none⟩ = (evF x)[j]?) : w.cell? ⟨b, o, none⟩ = some (.int .i64 x.th) ∧ w.cell? ⟨b, o + 1, none⟩ = some (.bool x.back) ∧ w.cell? ⟨b, o + 2, none⟩ = some (.int .i64 x.c.op) ∧ w.cell? ⟨b, o + 3, none⟩ = some (.int .i64 x.c.l) ∧ w.cell? ⟨b, o + 4, none⟩ = some (.int .i64 x.c.key) ∧ w.cell? ⟨b, o + 5, none⟩ = some (.int .u64 x.c.pa) ∧ w.cell? ⟨b, o + 6, none⟩ = some (.int .u64 x.c.pb) ∧ w.cell? ⟨b, o + 7, none⟩ = some (.int .u64 x.c.hd) ∧ w.cell? ⟨b, o + 8, none⟩ = some (.int .i64 x.c.r) ∧ w.cell? ⟨b, o + 9, none⟩ = some (.int .i64 x.a.e) ∧ w.cell? ⟨b, o + 10, none⟩ = some (.int .u64 x.a.a) ∧ w.cell? ⟨b, o + 11, none⟩ = some (.int .u64 x.a.b) ∧ w.cell? ⟨b, o + 12, none⟩ = some (.int .u64 x.a.h) ∧ w.cell? ⟨b, o + 13, none⟩ = some (.int .i64 x.a.n) ∧ w.cell? ⟨b, o + 14, none⟩ = some (.int .i64 x.a.k) :=
  ⟨h 0 (by omega), h 1 (by omega), h 2 (by omega), h 3 (by omega), h 4 (by omega), h 5 (by omega), h 6 (by omega), h 7 (by omega), h 8 (by omega), h 9 (by omega), h 10 (by omega), h 11 (by omega), h 12 (by omega), h 13 (by omega), h 14 (by omega)⟩
theorem opr_cells {w : World} {b o : Nat} {x : Opr} (h : ∀ j, j < 16 → w.cell? ⟨b, o + j, none⟩ = (opF x)[j]?) : w.cell? ⟨b, o, none⟩ = some (.int .i64 x.th) ∧ w.cell? ⟨b, o + 1, none⟩ = some (.int .i64 x.c.op) ∧ w.cell? ⟨b, o + 2, none⟩ = some (.int .i64 x.c.l) ∧ w.cell? ⟨b, o + 3, none⟩ = some (.int .i64 x.c.key) ∧ w.cell? ⟨b, o + 4, none⟩ = some (.int .u64 x.c.pa) ∧ w.cell? ⟨b, o + 5, none⟩ = some (.int .u64 x.c.pb) ∧ w.cell? ⟨b, o + 6, none⟩ = some (.int .u64 x.c.hd) ∧ w.cell? ⟨b, o + 7, none⟩ = some (.int .i64 x.c.r) ∧ w.cell? ⟨b, o + 8, none⟩ = some (.int .i64 x.a.e) ∧ w.cell? ⟨b, o + 9, none⟩ = some (.int .u64 x.a.a) ∧ w.cell? ⟨b, o + 10, none⟩ = some (.int .u64 x.a.b) ∧ w.cell? ⟨b, o + 11, none⟩ = some (.int .u64 x.a.h) ∧ w.cell? ⟨b, o + 12, none⟩ = some (.int .i64 x.a.n) ∧ w.cell? ⟨b, o + 13, none⟩ = some (.int .i64 x.a.k) ∧ w.cell? ⟨b, o + 14, none⟩ = some (.int .i64 x.fr) ∧ w.cell? ⟨b, o + 15, none⟩ = some (.int .i64 x.to) :=
  ⟨h 0 (by omega), h 1 (by omega), h 2 (by omega), h 3 (by omega), h 4 (by omega), h 5 (by omega), h 6 (by omega), h 7 (by omega), h 8 (by omega), h 9 (by omega), h 10 (by omega), h 11 (by omega), h 12 (by omega), h 13 (by omega), h 14 (by omega), h 15 (by omega)⟩
def aheadB (x y : Opr) : Bool := decide (0 ≤ x.to) && decide (x.to < y.fr)
end Go.Proofs.YtdbankogamolcaaDoor
