/- burnbagref14.Opers. -/
import Derived.Test.YtodomchanaaonaaRef14May
import Derived.Test.YtodomchanaaonaaRowOwn
import Derived.Deep.RegionHeld3
namespace Go.Proofs.Ytodomchanaaonaa
open Go.ChangeShapes Go.WideShapes Go.ChangeAt Go.RowKit

/-- The first of m events from a on that is of a thread; -1: none. -/
def found (L : List Ev) (th : Int) (a : Nat) : Nat → Int
  | 0 => -1
  | m + 1 => bif decide (found L th a m < 0) then (bif decide ((evN L (a + m)).th = th) then ((a + m : Nat) : Int) else -1) else found L th a m
theorem found_succ (L : List Ev) (th : Int) (a m : Nat) : found L th a (m + 1) = bif decide (found L th a m < 0) then (bif decide ((evN L (a + m)).th = th) then ((a + m : Nat) : Int) else -1) else found L th a m := rfl
theorem found_bounds (L : List Ev) (th : Int) (a : Nat) : ∀ m, -1 ≤ found L th a m ∧ found L th a m < a + m ∧ (0 ≤ found L th a m → a ≤ found L th a m)
  | 0 => by refine ⟨by simp [found], by simp [found]; omega, by simp [found]⟩
  | m + 1 => by
    obtain ⟨h1, h2, h3⟩ := found_bounds L th a m
    unfold found
    cases hd : decide (found L th a m < 0)
    · simp only [cond]; simp at hd; omega
    · cases hd2 : decide ((evN L (a + m)).th = th) <;> simp only [cond] <;> omega
theorem found_stable (L : List Ev) (th : Int) (a m : Nat) (h : 0 ≤ found L th a m) : ∀ j, found L th a (m + j) = found L th a m
  | 0 => rfl
  | j + 1 => by
    have ih := found_stable L th a m h j
    rw [show m + (j + 1) = m + j + 1 from rfl, found_succ, ih, decide_eq_false (by omega)]; rfl
def ansAt (L : List Ev) (f : Int) : An := bif decide (0 ≤ f) then (evN L f.toNat).a else zeroA
/-- The oper that begins at i, as far as m events behind it tell. -/
def scan (L : List Ev) (i m : Nat) : Opr := ⟨(evN L i).th, (evN L i).c, ansAt L (found L (evN L i).th (i + 1) m), i, found L (evN L i).th (i + 1) m⟩
/-- The opers that began among the first i events, as far as the first m events tell. -/
def opsUp (L : List Ev) (m : Nat) : Nat → List Opr
  | 0 => []
  | i + 1 => bif (evN L i).back then opsUp L m i else opsUp L m i ++ [scan L i (m - (i + 1))]
theorem opsUp_len (L : List Ev) (m : Nat) : ∀ i, (opsUp L m i).length = begAt L i
  | 0 => rfl
  | i + 1 => by
    have ih := opsUp_len L m i
    unfold opsUp begAt
    cases (evN L i).back
    · simp [ih]
    · exact ih
def opersL (L : List Ev) : List Opr := bif mayL L then opsUp L L.length L.length else []

/-- An oper in a block of its own, while a list is made. -/
structure ScanR (W : World) (B g : Nat) (v : Value) (os : List Opr) (o : Opr) (wr : World) : Prop where
  bel : Below B W wr
  own : wr.ownsRow B 35 16 v os.length (flatF opF os)
  cell : Cells wr g 35 (opF o)
  ne : v.ownBlock ≠ some g
  hg : B ≤ g
theorem ScanR.drew {W wr : World} {B g : Nat} {v : Value} {os : List Opr} {o : Opr} (h : ScanR W B g v os o wr) : ScanR W B g v os o wr.drew := ⟨h.bel.drew, own_keep h.own (Below.refl _ _).drew, h.cell, h.ne, h.hg⟩
/-- What an answer that was found makes of an oper. -/
theorem ScanR.hit {W wr : World} {B g : Nat} {v : Value} {os : List Opr} {o : Opr} (h : ScanR W B g v os o wr) (k : Int) (a : An) :
    ScanR W B g v os ⟨o.th, o.c, a, o.fr, k⟩ ((((((((wr.setCell ⟨g, 15, none⟩ (.int .i64 k)).setCell ⟨g, 8, none⟩ (.int .i64 a.e)).setCell ⟨g, 9, none⟩ (.int .u64 a.a)).setCell ⟨g, 10, none⟩ (.int .u64 a.b)).setCell ⟨g, 11, none⟩ (.int .u64 a.h)).setCell ⟨g, 12, none⟩ (.int .i64 a.n)).setCell ⟨g, 13, none⟩ (.int .i64 a.k)).drew) := by
  refine ScanR.drew ⟨?_, ?_, ?_, h.ne, h.hg⟩
  · exact ((((((h.bel.setCell (by exact h.hg) _).setCell (by exact h.hg) _).setCell (by exact h.hg) _).setCell (by exact h.hg) _).setCell (by exact h.hg) _).setCell (by exact h.hg) _).setCell (by exact h.hg) _
  · exact own_setCell (own_setCell (own_setCell (own_setCell (own_setCell (own_setCell (own_setCell h.own (by exact h.ne) _) (by exact h.ne) _) (by exact h.ne) _) (by exact h.ne) _) (by exact h.ne) _) (by exact h.ne) _) (by exact h.ne) _
  · exact ((((((h.cell.set_ 15 _).set_ 8 _).set_ 9 _).set_ 10 _).set_ 11 _).set_ 12 _).set_ 13 _

/-- The list so far. -/
structure OutR (W : World) (B : Nat) (v : Value) (os : List Opr) (wr : World) : Prop where
  bel : Below B W wr
  own : wr.ownsRow B 35 16 v os.length (flatF opF os)
theorem OutR.scan {W wr : World} {B g : Nat} {v : Value} {os : List Opr} {o : Opr} (h : OutR W B v os wr) (hB : B ≤ wr.heap.size) (hg : wr.heap.size = g) : ScanR W B g v os o ((wr.alloc (.cells (opF o).toArray 35)).drew) :=
  ⟨(h.bel.alloc hB _).drew, own_keep h.own ((Below.refl _ _).alloc (Nat.le_refl _) _).drew, by rw [← hg]; exact (Cells.new wr (opF o).toArray 35).drew, own_ne h.own (Nat.le_of_eq hg), by omega⟩

theorem scan_hit {L : List Ev} {k m : Nat} (h : found L (evN L k).th (k + 1) m < 0) (he : (evN L (k + 1 + m)).th = (evN L k).th) :
    scan L k (m + 1) = ⟨(scan L k m).th, (scan L k m).c, (evN L (k + 1 + m)).a, (scan L k m).fr, ((k + 1 + m : Nat) : Int)⟩ := by
  have hf : found L (evN L k).th (k + 1) (m + 1) = ((k + 1 + m : Nat) : Int) := by rw [found_succ, decide_eq_true h, decide_eq_true he]; rfl
  unfold scan
  rw [hf]
  unfold ansAt
  rw [decide_eq_true (by omega), Int.toNat_natCast]
  rfl
theorem scan_miss {L : List Ev} {k m : Nat} (h : found L (evN L k).th (k + 1) m < 0) (he : (evN L (k + 1 + m)).th ≠ (evN L k).th) : scan L k (m + 1) = scan L k m := by
  have h1 := found_bounds L (evN L k).th (k + 1) m
  have hf : found L (evN L k).th (k + 1) (m + 1) = found L (evN L k).th (k + 1) m := by
    rw [found_succ, decide_eq_true h, decide_eq_false he]
    show (-1 : Int) = _
    omega
  unfold scan
  rw [hf]
theorem scan_last {L : List Ev} {k m n : Nat} (hm : k + 1 + m ≤ n) (h : k + 1 + m = n ∨ ¬ found L (evN L k).th (k + 1) m < 0) : scan L k m = scan L k (n - (k + 1)) := by
  rcases h with h | h
  · rw [show n - (k + 1) = m by omega]
  · have hs := found_stable L (evN L k).th (k + 1) m (by omega) (n - (k + 1) - m)
    rw [show m + (n - (k + 1) - m) = n - (k + 1) by omega] at hs
    unfold scan
    rw [hs]

theorem ScanR.out {W wr w1 : World} {B g : Nat} {v v' : Value} {os : List Opr} {o : Opr} {ob : Obj} (h : ScanR W B g v os o wr) (hB : B ≤ W.heap.size) {n : Nat} (hn : os.length = n) (hown : w1.ownsRow B 35 16 v' (n + 1) (flatF opF os ++ opF o)) (hg : (wr.alloc ob).grownBy w1 v.ownBlock) : OutR W B v' (os ++ [o]) w1 := by
  subst hn
  refine ⟨?_, ?_⟩
  · refine below_grown (h.bel.alloc (Nat.le_trans hB h.bel.size) ob) hg (fun k hk => (h.own.lt k hk).1) ?_
    rw [World.size_alloc]
    exact Nat.le_succ_of_le (Nat.le_trans hB h.bel.size)
  · rw [List.length_append, flatF_append, flatF_single]
    exact hown
end Go.Proofs.Ytodomchanaaonaa
