/- The function that RowsAll hands to what All tells. -/
import Derived.Test.YtajkbeihopicnaaRowAll
import Derived.Test.YtajkbeihopicnaaRowEq
import Derived.Test.YtajkbeihopicnaaRowPut
namespace Go.Proofs.Ytajkbeihopicnaa
open Go.ChangeShapes Go.WideShapes Go.ChangeAt Go.RowKit Go.Shelf

/-- These are the first rows of those. -/
def fineB (want pre : List Rw) : Bool := decide (pre = want.take pre.length)
theorem fineB_nil (want : List Rw) : fineB want [] = true := rfl
theorem fineB_self (want : List Rw) : fineB want want = true := by unfold fineB; rw [List.take_length]; exact decide_eq_true rfl
theorem fineB_step (want pre : List Rw) (x : Rw) : fineB want (pre ++ [x]) = (fineB want pre && (decide (pre.length < want.length) && decide (x = nth want pre.length))) := by
  unfold fineB
  rw [← Bool.decide_and, ← Bool.decide_and]
  apply decide_eq_decide.2
  rw [show (pre ++ [x]).length = pre.length + 1 by simp, List.take_add_one]
  constructor
  · intro h
    have hl : pre.length < want.length := by
      have := congrArg List.length h
      rw [List.length_append, List.length_append, List.length_take] at this
      rcases Nat.lt_or_ge pre.length want.length with h' | h'
      · exact h'
      · rw [List.getElem?_eq_none h'] at this; simp at this; omega
    rw [nth_get hl] at h
    have := List.append_inj h (by rw [List.length_take]; omega)
    exact ⟨this.1, hl, by simpa using this.2⟩
  · rintro ⟨h1, hl, h2⟩
    rw [nth_get hl, ← h2, ← h1]; rfl

theorem boxed_drew {W : World} {B : Nat} {t : TypeId} {v : Value} (h : Boxed W B t v) : Boxed W.drew B t v := h

theorem cell_set_far (W : World) (p : Addr) (v : Value) {B : Nat} {i : Nat} (h : B ≠ p.block) : (W.setCell p v).cell? ⟨B, i, none⟩ = W.cell? ⟨B, i, none⟩ := by
  unfold World.cell?
  rw [Below.heap_setCell W p v B h]

set_option maxRecDepth 100000 in
set_option maxHeartbeats 2000000 in
theorem fn_any (Bf Bi Bw Bx n c : Nat) (x1 : Int) (A : Option Addr) (want : List Rw) (x : Rw) (f : Bool) (W : World) (hn : n ≤ 1000) (hwl : want.length ≤ 1000) (hne : Bf ≠ Bi) (hxf : Bx ≠ Bf) (hxi : Bx ≠ Bi)
    (h1 : Boxed W Bf 4 (.bool f)) (h2 : Boxed W Bi 2 (.int .i64 (n : Nat))) (h3 : W.cell? ⟨Bw, 0, none⟩ = some (.slice A want.length c)) (h4 : W.cell? ⟨Bx, 1, none⟩ = some (.int .i64 x1)) (hl : Lies W A want) :
    Calls Try.prog 16 #[.agg #[.int .i64 x.k, .int .u64 (x.a : Nat), .int .u64 (x.b : Nat)], .pointer (some ⟨Bf, 0, none⟩), .pointer (some ⟨Bi, 0, none⟩), .pointer (some ⟨Bw, 0, none⟩), .pointer (some ⟨Bx, 0, none⟩)] W fun e W' =>
      e = .returned (.bool (!decide (((n + 1 : Nat) : Int) = x1))) ∧ Boxed W' Bf 4 (.bool (f && (decide (n < want.length) && decide (x = nth want n)))) ∧ Boxed W' Bi 2 (.int .i64 ((n + 1 : Nat) : Int)) ∧ KeepsOthers W W' ∧ Only (fun i => i = Bf ∨ i = Bi) W W' := by
  have hw : IntKind.i64.wrap ((n : Int) + 1) = ((n + 1 : Nat) : Int) := by rw [IntKind.wrap_i64]; omega
  have hb1 : Below W.heap.size W (W.alloc (.cells #[.int .i64 x.k, .int .u64 (x.a : Nat), .int .u64 (x.b : Nat)] 27)) := (Below.refl _ W).alloc (Nat.le_refl _) _
  have e1 := (h1.alloc (.cells #[.int .i64 x.k, .int .u64 (x.a : Nat), .int .u64 (x.b : Nat)] 27))
  have e2 := (h2.alloc (.cells #[.int .i64 x.k, .int .u64 (x.a : Nat), .int .u64 (x.b : Nat)] 27))
  have c3 := cell_keep hb1 h3
  have c4 := cell_keep hb1 h4
  have bx : Box3 (W.alloc (.cells #[.int .i64 x.k, .int .u64 (x.a : Nat), .int .u64 (x.b : Nat)] 27)) W.heap.size x := Box3.new W x
  have hl1 := hl.keep hb1
  generalize hW1 : W.alloc (.cells #[.int .i64 x.k, .int .u64 (x.a : Nat), .int .u64 (x.b : Nat)] 27) = W1 at *
  have hK1 : KeepsOthers W W1 := by rw [← hW1]; exact KeepsOthers.alloc _ _
  have HE := Lib.hid (And.intro e1 (And.intro e2 (And.intro c4 (And.intro hb1 hK1))))
  have d1 := (boxed_drew e1).cell
  have d1f := (boxed_drew e1).frozen
  have d2 := (boxed_drew e2).cell
  have d3 : W1.drew.cell? ⟨Bw, 0, none⟩ = some (.slice A want.length c) := c3
  have y0 := bx.drew.cell0
  have y1 := bx.drew.cell1
  have y2 := bx.drew.cell2
  have HL := Lib.hid hl1
  have HN := Lib.hid hwl
  clear e1 e2 c3 c4 bx hl1 hb1 hK1 h1 h2 h3 h4 hl
  cases f with
  | false =>
    generalize want.length = m at *
    go_enter Try.func16, Try.ntmps16
    go_upto_region 1 with fail
    clear hW1
    go_region
    obtain ⟨fv, hfv⟩ : ∃ fv, fv = false := ⟨false, rfl⟩
    rw [show (W1.setCell ⟨Bf, 0, none⟩ (.bool false)).drew = (W1.setCell ⟨Bf, 0, none⟩ (.bool fv)).drew by rw [hfv]]
    obtain ⟨W2, hW2⟩ : ∃ W2, (W1.setCell ⟨Bf, 0, none⟩ (.bool fv)).drew = W2 := ⟨_, rfl⟩
    have g1 : Boxed W2 Bf 4 (.bool fv) := by rw [← hW2]; exact boxed_drew (HE.out.1.set _)
    have g2 : Boxed W2 Bi 2 (.int .i64 (n : Nat)) := by rw [← hW2]; exact boxed_drew (HE.out.2.1.other (fun h => hne h.symm) _)
    have g4 : W2.cell? ⟨Bx, 1, none⟩ = some (.int .i64 x1) := by rw [← hW2]; show (W1.setCell ⟨Bf, 0, none⟩ (.bool fv)).cell? _ = _; rw [cell_set_far _ _ _ (show Bx ≠ Bf from hxf)]; exact HE.out.2.2.1
    have hO : Only (fun i => i = Bf ∨ i = Bi) W W2 := by rw [← hW2]; exact (Only.setCell (only_below HE.out.2.2.2.1 _) (p := ⟨Bf, 0, none⟩) (.inl rfl) _).drew
    have hK : KeepsOthers W W2 := by rw [← hW2]; exact (HE.out.2.2.2.2.trans (KeepsOthers.setCell _ _ _)).trans (KeepsOthers.drew _)
    rw [hW2]
    clear hW2
    have k2 := g2.cell
    have f2 := g2.frozen
    have HG := Lib.hid (And.intro g1 (And.intro g2 (And.intro hO hK)))
    have g5 : (W2.setCell ⟨Bi, 0, none⟩ (.int .i64 ((n + 1 : Nat) : Int))).cell? ⟨Bi, 0, none⟩ = some (.int .i64 ((n + 1 : Nat) : Int)) := (g2.set _).cell
    have g6 : (W2.setCell ⟨Bi, 0, none⟩ (.int .i64 ((n + 1 : Nat) : Int))).cell? ⟨Bx, 1, none⟩ = some (.int .i64 x1) := by rw [cell_set_far _ _ _ (show Bx ≠ Bi from hxi)]; exact g4
    clear g1 g2 hO hK g5 g6
    go_wp2_with fail
    go_ret
    exact ⟨rfl, (hfv ▸ HG.out.1 : Boxed W2 Bf 4 (.bool false)).other hne _, HG.out.2.1.set _, HG.out.2.2.2.trans (KeepsOthers.setCell _ _ _), Only.setCell HG.out.2.2.1 (p := ⟨Bi, 0, none⟩) (.inr rfl) _⟩
  | true =>
    by_cases hlt : n < want.length
    · obtain ⟨b1, off1, rfl, hb1, hx⟩ := HL.out.at_ (by omega)
      obtain ⟨p0, p1, p2⟩ := hx n hlt
      have z0 : W1.drew.cell? ⟨b1, off1 + n * 3, none⟩ = some (.int .i64 (nth want n).k) := p0
      have z1 : W1.drew.cell? ⟨b1, off1 + n * 3 + 1, none⟩ = some (.int .u64 ((nth want n).a : Nat)) := p1
      have z2 : W1.drew.cell? ⟨b1, off1 + n * 3 + 2, none⟩ = some (.int .u64 ((nth want n).b : Nat)) := p2
      have HQ := fun W => eql_rw W x (nth want n)
      have hlt1 : decide ((n : Int) < (want.length : Int)) = true := decide_eq_true (by omega)
      have hlt2 : (n : Int) < (want.length : Int) := by omega
      rw [decide_eq_true hlt, Bool.true_and, Bool.true_and]
      generalize hfv : decide (x = nth want n) = fv at *
      clear p0 p1 p2 hx hfv HL HN
      generalize want.length = m at *
      generalize (nth want n).k = q0 at *
      generalize (nth want n).a = q1 at *
      generalize (nth want n).b = q2 at *
      go_enter Try.func16, Try.ntmps16
      go_upto_region 1 with fail
      clear hW1
      go_region
      obtain ⟨W2, hW2⟩ : ∃ W2, (W1.setCell ⟨Bf, 0, none⟩ (.bool fv)).drew = W2 := ⟨_, rfl⟩
      have g1 : Boxed W2 Bf 4 (.bool fv) := by rw [← hW2]; exact boxed_drew (HE.out.1.set _)
      have g2 : Boxed W2 Bi 2 (.int .i64 (n : Nat)) := by rw [← hW2]; exact boxed_drew (HE.out.2.1.other (fun h => hne h.symm) _)
      have g4 : W2.cell? ⟨Bx, 1, none⟩ = some (.int .i64 x1) := by rw [← hW2]; show (W1.setCell ⟨Bf, 0, none⟩ (.bool fv)).cell? _ = _; rw [cell_set_far _ _ _ (show Bx ≠ Bf from hxf)]; exact HE.out.2.2.1
      have hO : Only (fun i => i = Bf ∨ i = Bi) W W2 := by rw [← hW2]; exact (Only.setCell (only_below HE.out.2.2.2.1 _) (p := ⟨Bf, 0, none⟩) (.inl rfl) _).drew
      have hK : KeepsOthers W W2 := by rw [← hW2]; exact (HE.out.2.2.2.2.trans (KeepsOthers.setCell _ _ _)).trans (KeepsOthers.drew _)
      rw [hW2]
      clear hW2
      have k2 := g2.cell
      have f2 := g2.frozen
      have HG := Lib.hid (And.intro g1 (And.intro g2 (And.intro hO hK)))
      have g5 : (W2.setCell ⟨Bi, 0, none⟩ (.int .i64 ((n + 1 : Nat) : Int))).cell? ⟨Bi, 0, none⟩ = some (.int .i64 ((n + 1 : Nat) : Int)) := (g2.set _).cell
      have g6 : (W2.setCell ⟨Bi, 0, none⟩ (.int .i64 ((n + 1 : Nat) : Int))).cell? ⟨Bx, 1, none⟩ = some (.int .i64 x1) := by rw [cell_set_far _ _ _ (show Bx ≠ Bi from hxi)]; exact g4
      clear g1 g2 hO hK g5 g6
      go_wp2_with fail
      go_ret
      exact ⟨rfl, HG.out.1.other hne _, HG.out.2.1.set _, HG.out.2.2.2.trans (KeepsOthers.setCell _ _ _), Only.setCell HG.out.2.2.1 (p := ⟨Bi, 0, none⟩) (.inr rfl) _⟩
    · have hlt1 : decide ((n : Int) < (want.length : Int)) = false := decide_eq_false (by omega)
      rw [decide_eq_false hlt, Bool.false_and, Bool.and_false]
      generalize want.length = m at *
      go_enter Try.func16, Try.ntmps16
      go_upto_region 1 with fail
      clear hW1
      go_region
      obtain ⟨fv, hfv⟩ : ∃ fv, fv = false := ⟨false, rfl⟩
      rw [show (W1.setCell ⟨Bf, 0, none⟩ (.bool false)).drew = (W1.setCell ⟨Bf, 0, none⟩ (.bool fv)).drew by rw [hfv]]
      obtain ⟨W2, hW2⟩ : ∃ W2, (W1.setCell ⟨Bf, 0, none⟩ (.bool fv)).drew = W2 := ⟨_, rfl⟩
      have g1 : Boxed W2 Bf 4 (.bool fv) := by rw [← hW2]; exact boxed_drew (HE.out.1.set _)
      have g2 : Boxed W2 Bi 2 (.int .i64 (n : Nat)) := by rw [← hW2]; exact boxed_drew (HE.out.2.1.other (fun h => hne h.symm) _)
      have g4 : W2.cell? ⟨Bx, 1, none⟩ = some (.int .i64 x1) := by rw [← hW2]; show (W1.setCell ⟨Bf, 0, none⟩ (.bool fv)).cell? _ = _; rw [cell_set_far _ _ _ (show Bx ≠ Bf from hxf)]; exact HE.out.2.2.1
      have hO : Only (fun i => i = Bf ∨ i = Bi) W W2 := by rw [← hW2]; exact (Only.setCell (only_below HE.out.2.2.2.1 _) (p := ⟨Bf, 0, none⟩) (.inl rfl) _).drew
      have hK : KeepsOthers W W2 := by rw [← hW2]; exact (HE.out.2.2.2.2.trans (KeepsOthers.setCell _ _ _)).trans (KeepsOthers.drew _)
      rw [hW2]
      clear hW2
      have k2 := g2.cell
      have f2 := g2.frozen
      have HG := Lib.hid (And.intro g1 (And.intro g2 (And.intro hO hK)))
      have g5 : (W2.setCell ⟨Bi, 0, none⟩ (.int .i64 ((n + 1 : Nat) : Int))).cell? ⟨Bi, 0, none⟩ = some (.int .i64 ((n + 1 : Nat) : Int)) := (g2.set _).cell
      have g6 : (W2.setCell ⟨Bi, 0, none⟩ (.int .i64 ((n + 1 : Nat) : Int))).cell? ⟨Bx, 1, none⟩ = some (.int .i64 x1) := by rw [cell_set_far _ _ _ (show Bx ≠ Bi from hxi)]; exact g4
      clear g1 g2 hO hK g5 g6
      go_wp2_with fail
      go_ret
      exact ⟨rfl, (hfv ▸ HG.out.1 : Boxed W2 Bf 4 (.bool false)).other hne _, HG.out.2.1.set _, HG.out.2.2.2.trans (KeepsOthers.setCell _ _ _), Only.setCell HG.out.2.2.1 (p := ⟨Bi, 0, none⟩) (.inr rfl) _⟩
end Go.Proofs.Ytajkbeihopicnaa
