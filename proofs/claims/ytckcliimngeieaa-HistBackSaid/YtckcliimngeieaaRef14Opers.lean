/- burnbagref14.Opers. -/
import Derived.Test.YtckcliimngeieaaRef14May
import Derived.Test.YtckcliimngeieaaRowOwn
import Derived.Deep.RegionHeld3
namespace Go.Proofs.Ytckcliimngeieaa
open Go.ChangeShapes Go.WideShapes Go.ChangeAt Go.RowKit

/-- The first of m events from a on that is of a thread; -1: none. -/
def found (L : List Ev) (th : Int) (a : Nat) : Nat → Int
  | 0 => -1
  | m + 1 => bif decide (found L th a m < 0) then (bif decide ((evN L (a + m)).th = th) then ((a + m : Nat) : Int) else -1) else found L th a m
theorem found_succ (L : List Ev) (th : Int) (a m : Nat) : found L th a (m + 1) = bif decide (found L th a m < 0) then (bif decide ((evN L (a + m)).th = th) then ((a + m : Nat) : Int) else -1) else found L th a m := rfl
theorem found_bounds (L : List Ev) (th : Int) (a : Nat) : ∀ m, -1 ≤ found L th a m ∧ found L th a m < a + m ∧ (0 ≤ found L th a m → a ≤ found L th a m)
  | 0 => by refine ⟨by simp [found], by simp [found]; omega, by simp [found]⟩
  | m + 1 => by
    obtain ⟨h1, h2, h3⟩ := found_bounds L th a m
    unfold found
    cases hd : decide (found L th a m < 0)
    · simp only [cond]; simp at hd; omega
    · cases hd2 : decide ((evN L (a + m)).th = th) <;> simp only [cond] <;> omega
theorem found_stable (L : List Ev) (th : Int) (a m : Nat) (h : 0 ≤ found L th a m) : ∀ j, found L th a (m + j) = found L th a m
  | 0 => rfl
  | j + 1 => by
    have ih := found_stable L th a m h j
    rw [show m + (j + 1) = m + j + 1 from rfl, found_succ, ih, decide_eq_false (by omega)]; rfl
def ansAt (L : List Ev) (f : Int) : An := bif decide (0 ≤ f) then (evN L f.toNat).a else zeroA
/-- The oper that begins at i, as far as m events behind it tell. -/
def scan (L : List Ev) (i m : Nat) : Opr := ⟨(evN L i).th, (evN L i).c, ansAt L (found L (evN L i).th (i + 1) m), i, found L (evN L i).th (i + 1) m⟩
/-- The opers that began among the first i events, as far as the first m events tell. -/
def opsUp (L : List Ev) (m : Nat) : Nat → List Opr
  | 0 => []
  | i + 1 => bif (evN L i).back then opsUp L m i else opsUp L m i ++ [scan L i (m - (i + 1))]
theorem opsUp_len (L : List Ev) (m : Nat) : ∀ i, (opsUp L m i).length = begAt L i
  | 0 => rfl
  | i + 1 => by
    have ih := opsUp_len L m i
    unfold opsUp begAt
    cases (evN L i).back
    · simp [ih]
    · exact ih
def opersL (L : List Ev) : List Opr := bif mayL L then opsUp L L.length L.length else []

/-- An oper in a block of its own, while a list is made. -/
structure ScanR (W : World) (B g : Nat) (v : Value) (os : List Opr) (o : Opr) (wr : World) : Prop where
  bel : Below B W wr
  own : wr.ownsRow B 39 16 v os.length (flatF opF os)
  cell : Cells wr g 39 (opF o)
  ne : v.ownBlock ≠ some g
  hg : B ≤ g
theorem ScanR.drew {W wr : World} {B g : Nat} {v : Value} {os : List Opr} {o : Opr} (h : ScanR W B g v os o wr) : ScanR W B g v os o wr.drew := ⟨h.bel.drew, own_keep h.own (Below.refl _ _).drew, h.cell, h.ne, h.hg⟩
/-- What an answer that was found makes of an oper. -/
theorem ScanR.hit {W wr : World} {B g : Nat} {v : Value} {os : List Opr} {o : Opr} (h : ScanR W B g v os o wr) (k : Int) (a : An) :
    ScanR W B g v os ⟨o.th, o.c, a, o.fr, k⟩ ((((((((wr.setCell ⟨g, 15, none⟩ (.int .i64 k)).setCell ⟨g, 8, none⟩ (.int .i64 a.e)).setCell ⟨g, 9, none⟩ (.int .u64 a.a)).setCell ⟨g, 10, none⟩ (.int .u64 a.b)).setCell ⟨g, 11, none⟩ (.int .u64 a.h)).setCell ⟨g, 12, none⟩ (.int .i64 a.n)).setCell ⟨g, 13, none⟩ (.int .i64 a.k)).drew) := by
  refine ScanR.drew ⟨?_, ?_, ?_, h.ne, h.hg⟩
  · exact ((((((h.bel.setCell (by exact h.hg) _).setCell (by exact h.hg) _).setCell (by exact h.hg) _).setCell (by exact h.hg) _).setCell (by exact h.hg) _).setCell (by exact h.hg) _).setCell (by exact h.hg) _
  · exact own_setCell (own_setCell (own_setCell (own_setCell (own_setCell (own_setCell (own_setCell h.own (by exact h.ne) _) (by exact h.ne) _) (by exact h.ne) _) (by exact h.ne) _) (by exact h.ne) _) (by exact h.ne) _) (by exact h.ne) _
  · exact ((((((h.cell.set_ 15 _).set_ 8 _).set_ 9 _).set_ 10 _).set_ 11 _).set_ 12 _).set_ 13 _

/-- The list so far. -/
structure OutR (W : World) (B : Nat) (v : Value) (os : List Opr) (wr : World) : Prop where
  bel : Below B W wr
  own : wr.ownsRow B 39 16 v os.length (flatF opF os)
theorem OutR.scan {W wr : World} {B g : Nat} {v : Value} {os : List Opr} {o : Opr} (h : OutR W B v os wr) (hB : B ≤ wr.heap.size) (hg : wr.heap.size = g) : ScanR W B g v os o ((wr.alloc (.cells (opF o).toArray 39)).drew) :=
  ⟨(h.bel.alloc hB _).drew, own_keep h.own ((Below.refl _ _).alloc (Nat.le_refl _) _).drew, by rw [← hg]; exact (Cells.new wr (opF o).toArray 39).drew, own_ne h.own (Nat.le_of_eq hg), by omega⟩

theorem scan_hit {L : List Ev} {k m : Nat} (h : found L (evN L k).th (k + 1) m < 0) (he : (evN L (k + 1 + m)).th = (evN L k).th) :
    scan L k (m + 1) = ⟨(scan L k m).th, (scan L k m).c, (evN L (k + 1 + m)).a, (scan L k m).fr, ((k + 1 + m : Nat) : Int)⟩ := by
  have hf : found L (evN L k).th (k + 1) (m + 1) = ((k + 1 + m : Nat) : Int) := by rw [found_succ, decide_eq_true h, decide_eq_true he]; rfl
  unfold scan
  rw [hf]
  unfold ansAt
  rw [decide_eq_true (by omega), Int.toNat_natCast]
  rfl
theorem scan_miss {L : List Ev} {k m : Nat} (h : found L (evN L k).th (k + 1) m < 0) (he : (evN L (k + 1 + m)).th ≠ (evN L k).th) : scan L k (m + 1) = scan L k m := by
  have h1 := found_bounds L (evN L k).th (k + 1) m
  have hf : found L (evN L k).th (k + 1) (m + 1) = found L (evN L k).th (k + 1) m := by
    rw [found_succ, decide_eq_true h, decide_eq_false he]
    show (-1 : Int) = _
    omega
  unfold scan
  rw [hf]
theorem scan_last {L : List Ev} {k m n : Nat} (hm : k + 1 + m ≤ n) (h : k + 1 + m = n ∨ ¬ found L (evN L k).th (k + 1) m < 0) : scan L k m = scan L k (n - (k + 1)) := by
  rcases h with h | h
  · rw [show n - (k + 1) = m by omega]
  · have hs := found_stable L (evN L k).th (k + 1) m (by omega) (n - (k + 1) - m)
    rw [show m + (n - (k + 1) - m) = n - (k + 1) by omega] at hs
    unfold scan
    rw [hs]

theorem ScanR.out {W wr w1 : World} {B g : Nat} {v v' : Value} {os : List Opr} {o : Opr} {ob : Obj} (h : ScanR W B g v os o wr) (hB : B ≤ W.heap.size) {n : Nat} (hn : os.length = n) (hown : w1.ownsRow B 39 16 v' (n + 1) (flatF opF os ++ opF o)) (hg : (wr.alloc ob).grownBy w1 v.ownBlock) : OutR W B v' (os ++ [o]) w1 := by
  subst hn
  refine ⟨?_, ?_⟩
  · refine below_grown (h.bel.alloc (Nat.le_trans hB h.bel.size) ob) hg (fun k hk => (h.own.lt k hk).1) ?_
    rw [World.size_alloc]
    exact Nat.le_succ_of_le (Nat.le_trans hB h.bel.size)
  · rw [List.length_append, flatF_append, flatF_single]
    exact hown
set_option maxRecDepth 100000 in
set_option maxHeartbeats 4000000 in
theorem r14Opers_any (A : Option Addr) (c : Nat) (L : List Ev) (hL : L.length ≤ 1000000) (w : World) (ha : LiesC w A (flatF evF L)) :
    Calls Try.prog 8 #[.slice A L.length c] w fun e w' => ∃ v, e = .returned v ∧ LnIs w' v (opersL L).length (flatF opF (opersL L)) ∧ Far w.heap.size v ∧ Below w.heap.size w w' := by
  obtain ⟨i0, hi0, hz0, hz1, hz3⟩ := infoOpr
  have CM := Lib.hid (r14May_any A c L hL w ha)
  have HA := Lib.hid ha
  have HO : Hid (opersL L = bif mayL L then opsUp L L.length L.length else []) := Lib.hid rfl
  have hbn := begAt_le L
  clear ha
  generalize hn : L.length = n at *
  generalize mayL L = ml at *
  cases ml
  · go_enter Try.func8, Try.ntmps8
    go_wp2_with (go_at_call 10; refine CM.out.mono ?_; rintro e W ⟨rfl, hb⟩; have HB0 := Lib.hid hb; clear hb)
    go_ret
    refine ⟨_, rfl, ?_, (fun k hk => by cases hk), HB0.out⟩
    rw [HO.out]
    exact ⟨none, 0, rfl, Nat.le_refl _, by unfold maxLen; omega, fun _ => rfl, .inl rfl, fun a e => by cases e⟩
  · go_enter Try.func8, Try.ntmps8
    go_wp2_with (go_at_call 10; refine CM.out.mono ?_; rintro e W ⟨rfl, hb⟩; have HB0 := Lib.hid hb; clear hb)
    go_loopw [3, 4] (fun v i wr => ∃ k : Nat, i = .int .i64 k ∧ k ≤ n ∧ OutR W W.heap.size v (opsUp L n k) wr) (fun _ i _ => n - (intOf i).toNat)
    case atStart => exact ⟨0, rfl, Nat.zero_le _, Below.refl _ _, World.ownsRow_nil _ _ _ _⟩
    case round =>
      obtain ⟨k, rfl, hk, R⟩ := hrel
      by_cases hlt : k < n
      · obtain ⟨b1, off1, rfl, hb1, x1⟩ := ((HA.out.keep HB0.out).keep R.bel).atE (by omega)
        obtain ⟨p0, p1, p2, p3, p4, p5, p6, p7, p8, p9, p10, p11, p12, p13, p14⟩ := ev_cells (x1 k (by omega))
        have HS : Hid (opsUp L n (k + 1) = bif (evN L k).back then opsUp L n k else opsUp L n k ++ [scan L k (n - (k + 1))]) := Lib.hid rfl
        have HF : Hid (scan L k 0 = ⟨(evN L k).th, (evN L k).c, zeroA, k, -1⟩) := Lib.hid rfl
        have HX := Lib.hid x1
        clear x1
        generalize hbk : (evN L k).back = bk at *
        cases bk
        · go_upto_region 8 with fail
          go_region
          have S0 := R.scan (o := scan L k 0) R.bel.size rfl
          rw [HF.out] at S0
          have hlo := opsUp_len L n k
          have hbk' := hbn k
          have HR := Lib.hid R
          have hgl := S0.cell.lt
          generalize hW2 : World.drew _ = W2
          have S1 : ScanR W W.heap.size wr.heap.size u3 (opsUp L n k) ⟨(evN L k).th, (evN L k).c, zeroA, k, -1⟩ W2 := by rw [← hW2]; exact S0
          clear hW2 S0 hgl p0 p1 p2 p3 p4 p5 p6 p7 p8 p9 p10 p11 p12 p13 p14 HX R
          rw [← HF.out] at S1
          clear HF
          generalize wr.heap.size = g at *
          generalize opsUp L n k = os at *
          have HS1 := Lib.hid S1; clear S1
          go_wp2_with fail
          go_loopw [6] (fun s wr2 => ∃ m : Nat, s = .int .i64 ((k + 1 + m : Nat) : Int) ∧ k + 1 + m ≤ n ∧ ScanR W W.heap.size g u3 os (scan L k m) wr2) (fun s _ => n - (intOf s).toNat)
          case atStart => exact ⟨0, by go_num, by omega, HS1.out⟩
          case round =>
            clear HS1
            obtain ⟨m, rfl, hm, R2⟩ := hrel
            have q0 : wr.cell? ⟨g, 0, none⟩ = some (.int .i64 (evN L k).th) := R2.cell.cell 0
            have q15 : wr.cell? ⟨g, 15, none⟩ = some (.int .i64 (found L (evN L k).th (k + 1) m)) := R2.cell.cell 15
            have w15 := R2.cell.frozen 15
            have w8 := R2.cell.frozen 8
            have w9 := R2.cell.frozen 9
            have w10 := R2.cell.frozen 10
            have w11 := R2.cell.frozen 11
            have w12 := R2.cell.frozen 12
            have w13 := R2.cell.frozen 13
            have q8 : wr.cell? ⟨g, 8, none⟩ = some (.int .i64 (ansAt L (found L (evN L k).th (k + 1) m)).e) := R2.cell.cell 8
            have q9 : wr.cell? ⟨g, 9, none⟩ = some (.int .u64 (ansAt L (found L (evN L k).th (k + 1) m)).a) := R2.cell.cell 9
            have q10 : wr.cell? ⟨g, 10, none⟩ = some (.int .u64 (ansAt L (found L (evN L k).th (k + 1) m)).b) := R2.cell.cell 10
            have q11 : wr.cell? ⟨g, 11, none⟩ = some (.int .u64 (ansAt L (found L (evN L k).th (k + 1) m)).h) := R2.cell.cell 11
            have q12 : wr.cell? ⟨g, 12, none⟩ = some (.int .i64 (ansAt L (found L (evN L k).th (k + 1) m)).n) := R2.cell.cell 12
            have q13 : wr.cell? ⟨g, 13, none⟩ = some (.int .i64 (ansAt L (found L (evN L k).th (k + 1) m)).k) := R2.cell.cell 13
            have hgl := R2.cell.lt
            have HH := Lib.hid (scan_hit (L := L) (k := k) (m := m))
            have HM := Lib.hid (scan_miss (L := L) (k := k) (m := m))
            have HE := Lib.hid (scan_last (L := L) (k := k) (m := m) hm)
            have HR2 := Lib.hid R2
            by_cases hrun : k + 1 + m < n ∧ found L (evN L k).th (k + 1) m < 0
            · obtain ⟨hrun, hneg⟩ := hrun
              obtain ⟨b2, off2, e2, hb2, x2⟩ := ((HA.out.keep HB0.out).keep R2.bel).atE (by omega)
              cases e2
              obtain ⟨r0, r1, r2, r3, r4, r5, r6, r7, r8, r9, r10, r11, r12, r13, r14⟩ := ev_cells (x2 (k + 1 + m) (by omega))
              replace HH := Lib.hid (HH.out hneg)
              replace HM := Lib.hid (HM.out hneg)
              clear x2 R2 HE
              generalize hej : evN L (k + 1 + m) = ej at *
              have hfb := (found_bounds L (evN L k).th (k + 1) m).1
              generalize hf : found L (evN L k).th (k + 1) m = f at *
              generalize hek : evN L k = ek at *
              have HEK := Lib.hid (And.intro hf hek); clear hf hek hej
              have hto : decide (f < 0) = true := decide_eq_true hneg
              by_cases hth : ej.th = ek.th
              · replace HH := Lib.hid (HH.out hth)
                clear HM
                go_upto_region 12 with fail
                go_region
                go_wp2_with fail
                go_roundw
                case rel => exact ⟨m + 1, by go_num, by omega, by rw [HH.out, show (((k + 1 + m : Nat) : Int)) = (k : Int) + 1 + (m : Int) by omega]; exact HR2.out.hit ((k : Int) + 1 + (m : Int)) ej.a⟩
                case measure => simp [intOf]; omega
              · replace HM := Lib.hid (HM.out hth)
                clear HH
                go_upto_region 12 with fail
                go_region
                go_wp2_with fail
                go_roundw
                case rel => exact ⟨m + 1, by go_num, by omega, by rw [HM.out]; exact HR2.out.drew⟩
                case measure => simp [intOf]; omega
            · have HL := Lib.hid (HE.out (by omega))
              have hto : k + 1 + m < n → ¬ (scan L k m).to < 0 := fun h1 h2 => hrun ⟨h1, h2⟩
              clear HE HH HM q0 q8 q9 q10 q11 q12 q13 q15 w8 w9 w10 w11 w12 w13 w15 hrun
              obtain ⟨q0, q1, q2, q3, q4, q5, q6, q7, q8, q9, q10, q11, q12, q13, q14, q15⟩ := opr_cells (w := wr) (b := g) (o := 0) (x := scan L k m) (fun j _ => by rw [Nat.zero_add]; exact R2.cell.cell j)
              simp only [Nat.zero_add] at q1 q2 q3 q4 q5 q6 q7 q8 q9 q10 q11 q12 q13 q14 q15
              clear R2
              rw [← HL.out] at HS
              clear HL
              generalize scan L k m = so at *
              by_cases h1 : k + 1 + m < n
              · have hto' : decide (so.to < 0) = false := decide_eq_false (hto h1)
                go_wp2_with (at_builtin; refine wpList_append_own _ rfl _ _ 24 rfl W.heap.size 39 i0 (.agg (opF ⟨0, zeroC, zeroA, 0, 0⟩).toArray) 16 128 Try.underlying24 hi0 hz0 hz1 hz3 rfl (by decide) _ _ _ rfl (HR2.out.own.alloc _) ⟨wr.heap.size, 0, none⟩ 1 1 (opF so) rfl rfl (Cells.new wr (opF so).toArray 39).news (opF_one so) ?c3 ?c4 ?c5 ?_)
                case c3 => unfold maxLen; omega
                case c4 => omega
                case c5 => have := HR2.out.bel.size; simp; omega
                intro v' w1 hown' hgrow _
                have HZ := Lib.hid (HR2.out.out (Nat.le_refl _) hlo hown' hgrow)
                clear hown' hgrow
                go_wp2_with fail
                go_roundw
                case rel => exact ⟨k + 1, by go_num, by omega, by rw [HS.out]; exact HZ.out⟩
                case measure => simp [intOf]; omega
              · skip
                go_wp2_with (at_builtin; refine wpList_append_own _ rfl _ _ 24 rfl W.heap.size 39 i0 (.agg (opF ⟨0, zeroC, zeroA, 0, 0⟩).toArray) 16 128 Try.underlying24 hi0 hz0 hz1 hz3 rfl (by decide) _ _ _ rfl (HR2.out.own.alloc _) ⟨wr.heap.size, 0, none⟩ 1 1 (opF so) rfl rfl (Cells.new wr (opF so).toArray 39).news (opF_one so) ?c3 ?c4 ?c5 ?_)
                case c3 => unfold maxLen; omega
                case c4 => omega
                case c5 => have := HR2.out.bel.size; simp; omega
                intro v' w1 hown' hgrow _
                have HZ := Lib.hid (HR2.out.out (Nat.le_refl _) hlo hown' hgrow)
                clear hown' hgrow
                go_wp2_with fail
                go_roundw
                case rel => exact ⟨k + 1, by go_num, by omega, by rw [HS.out]; exact HZ.out⟩
                case measure => simp [intOf]; omega
        · go_wp2_with fail
          go_roundw
          case rel => exact ⟨k + 1, by go_num, by omega, by rw [HS.out]; exact R⟩
          case measure => simp [intOf]; omega
      · obtain rfl : k = n := by omega
        go_wp2_with fail
        go_ret
        refine ⟨_, rfl, ?_, ?_, ?_⟩
        · rw [HO.out]
          exact lnIs_of_own R.own
        · exact (far_of_own R.own).mono HB0.out.size
        · exact HB0.out.trans (R.bel.mono HB0.out.size)
end Go.Proofs.Ytckcliimngeieaa
