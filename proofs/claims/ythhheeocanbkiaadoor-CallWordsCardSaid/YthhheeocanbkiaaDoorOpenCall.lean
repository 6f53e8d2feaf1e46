/- A call, an answer as arguments. -/
import Derived.Test.YthhheeocanbkiaaDoorCallDo
import Derived.Test.YthhheeocanbkiaaDoorOpen
namespace Go.Proofs.YthhheeocanbkiaaDoor
open Go.ChangeShapes Go.WideShapes Go.ChangeAt Go.RowKit Go.Joins Go.Deep

structure OkCall (op l key pa pb hd r : Int) : Prop where
  op : -9223372036854775808 ≤ op ∧ op ≤ 9223372036854775807
  l : -9223372036854775808 ≤ l ∧ l ≤ 9223372036854775807
  key : -9223372036854775808 ≤ key ∧ key ≤ 9223372036854775807
  pa : 0 ≤ pa ∧ pa < 18446744073709551616
  pb : 0 ≤ pb ∧ pb < 18446744073709551616
  hd : 0 ≤ hd ∧ hd < 18446744073709551616
  r : -9223372036854775808 ≤ r ∧ r ≤ 9223372036854775807
structure OkAns (x : Ans) : Prop where
  e : -9223372036854775808 ≤ x.e ∧ x.e ≤ 9223372036854775807
  a : 0 ≤ x.a ∧ x.a < 18446744073709551616
  b : 0 ≤ x.b ∧ x.b < 18446744073709551616
  h : 0 ≤ x.h ∧ x.h < 18446744073709551616
  n : -9223372036854775808 ≤ x.n ∧ x.n ≤ 9223372036854775807
  k : -9223372036854775808 ≤ x.k ∧ x.k ≤ 9223372036854775807
section
variable {H : Type} {enc : TypeId × Value → H} {w : World} {base : Nat} {spare : Nat → Bool} {held : Bool}
theorem cell_v {t : TypeId} {n : Nat} {v : Value} {y : DataW H × List MemPlace} (ht : Tryd.prog.underlying t = some (.int .u64)) (h : DataW.trod enc Tryd.prog w base spare held n t [v] = some y) : ∃ x : Int, v = .int .u64 x ∧ (0 ≤ x ∧ x < 18446744073709551616) := by
  obtain ⟨x, e, b⟩ := cell_u ht h
  exact ⟨x, e, by omega⟩
theorem trod_pair {fuel : Nat} {v0 v1 : Value} {y : DataW H × List MemPlace} (h : DataW.trod enc Tryd.prog w base spare held fuel 24 [v0, v1] = some y) : ∃ a b : Int, v0 = .int .u64 a ∧ v1 = .int .u64 b ∧ (0 ≤ a ∧ a < 18446744073709551616) ∧ (0 ≤ b ∧ b < 18446744073709551616) := by
  have ku : Tryd.prog.cellsOf 22 = 1 := by kernel_rfl
  obtain ⟨xs, n, _, hx, hl, hlen, hg⟩ := DataW.trod_struct Tryd.underlying24 h
  match xs, hlen with
  | [y0, y1], _ =>
    have g0 : DataW.trod enc Tryd.prog w base spare held n 22 [v0] = some y0 := by have := hg 0 _ rfl; simpa [ku] using this
    have g1 : DataW.trod enc Tryd.prog w base spare held n 22 [v1] = some y1 := by have := hg 1 _ rfl; simpa [ku] using this
    obtain ⟨a, ea, ba⟩ := cell_v Tryd.underlying22 g0
    obtain ⟨b, eb, bb⟩ := cell_v Tryd.underlying22 g1
    exact ⟨a, b, ea, eb, ba, bb⟩
theorem trod_call {fuel : Nat} {cs : List Value} {y : DataW H × List MemPlace} (h : DataW.trod enc Tryd.prog w base spare held fuel 26 cs = some y) : ∃ op l key pa pb hd r : Int, cs.toArray = callC op l key pa pb hd r ∧ OkCall op l key pa pb hd r := by
  have ki : Tryd.prog.cellsOf 3 = 1 := by kernel_rfl
  have kl : Tryd.prog.cellsOf 2 = 1 := by kernel_rfl
  have ku : Tryd.prog.cellsOf 22 = 1 := by kernel_rfl
  have kp : Tryd.prog.cellsOf 24 = 2 := by kernel_rfl
  have kc : Tryd.prog.cellsOf 26 = 7 := by kernel_rfl
  obtain ⟨xs, n, _, hx, hl, hlen, hg⟩ := DataW.trod_struct Tryd.underlying26 h
  rw [kc] at hl
  match cs, hl with
  | [v0, v1, v2, v3, v4, v5, v6], _ =>
    match xs, hlen with
    | [y0, y1, y2, y3, y4, y5], _ =>
      have g0 : DataW.trod enc Tryd.prog w base spare held n 3 [v0] = some y0 := by have := hg 0 _ rfl; simpa [ki] using this
      have g1 : DataW.trod enc Tryd.prog w base spare held n 3 [v1] = some y1 := by have := hg 1 _ rfl; simpa [ki] using this
      have g2 : DataW.trod enc Tryd.prog w base spare held n 2 [v2] = some y2 := by have := hg 2 _ rfl; simpa [ki, kl] using this
      have g3 : DataW.trod enc Tryd.prog w base spare held n 24 [v3, v4] = some y3 := by have := hg 3 _ rfl; simpa [ki, kl, kp] using this
      have g4 : DataW.trod enc Tryd.prog w base spare held n 22 [v5] = some y4 := by have := hg 4 _ rfl; simpa [ki, kl, kp, ku] using this
      have g5 : DataW.trod enc Tryd.prog w base spare held n 3 [v6] = some y5 := by have := hg 5 _ rfl; simpa [ki, kl, kp, ku] using this
      obtain ⟨x0, e0, b0⟩ := cell_i Tryd.underlying3 g0
      obtain ⟨x1, e1, b1⟩ := cell_i Tryd.underlying3 g1
      obtain ⟨x2, e2, b2⟩ := cell_i Tryd.underlying2 g2
      obtain ⟨x3, x4, e3, e4, b3, b4⟩ := trod_pair g3
      obtain ⟨x5, e5, b5⟩ := cell_v Tryd.underlying22 g4
      obtain ⟨x6, e6, b6⟩ := cell_i Tryd.underlying3 g5
      subst e0 e1 e2 e3 e4 e5 e6
      exact ⟨x0, x1, x2, x3, x4, x5, x6, rfl, b0, b1, b2, b3, b4, b5, b6⟩
theorem trod_ans {fuel : Nat} {cs : List Value} {y : DataW H × List MemPlace} (h : DataW.trod enc Tryd.prog w base spare held fuel 37 cs = some y) : ∃ x : Ans, cs.toArray = x.cells ∧ OkAns x := by
  have ke : Tryd.prog.cellsOf 35 = 1 := by kernel_rfl
  have ki : Tryd.prog.cellsOf 3 = 1 := by kernel_rfl
  have kl : Tryd.prog.cellsOf 2 = 1 := by kernel_rfl
  have ku : Tryd.prog.cellsOf 22 = 1 := by kernel_rfl
  have kp : Tryd.prog.cellsOf 24 = 2 := by kernel_rfl
  have kc : Tryd.prog.cellsOf 37 = 6 := by kernel_rfl
  obtain ⟨xs, n, _, hx, hl, hlen, hg⟩ := DataW.trod_struct Tryd.underlying37 h
  rw [kc] at hl
  match cs, hl with
  | [v0, v1, v2, v3, v4, v5], _ =>
    match xs, hlen with
    | [y0, y1, y2, y3, y4], _ =>
      have g0 : DataW.trod enc Tryd.prog w base spare held n 35 [v0] = some y0 := by have := hg 0 _ rfl; simpa [ke] using this
      have g1 : DataW.trod enc Tryd.prog w base spare held n 24 [v1, v2] = some y1 := by have := hg 1 _ rfl; simpa [ke, kp] using this
      have g2 : DataW.trod enc Tryd.prog w base spare held n 22 [v3] = some y2 := by have := hg 2 _ rfl; simpa [ke, kp, ku] using this
      have g3 : DataW.trod enc Tryd.prog w base spare held n 3 [v4] = some y3 := by have := hg 3 _ rfl; simpa [ke, kp, ku, ki] using this
      have g4 : DataW.trod enc Tryd.prog w base spare held n 2 [v5] = some y4 := by have := hg 4 _ rfl; simpa [ke, kp, ku, ki, kl] using this
      obtain ⟨x0, e0, b0⟩ := cell_i Tryd.underlying35 g0
      obtain ⟨x1, x2, e1, e2, b1, b2⟩ := trod_pair g1
      obtain ⟨x3, e3, b3⟩ := cell_v Tryd.underlying22 g2
      obtain ⟨x4, e4, b4⟩ := cell_i Tryd.underlying3 g3
      obtain ⟨x5, e5, b5⟩ := cell_i Tryd.underlying2 g4
      subst e0 e1 e2 e3 e4 e5
      exact ⟨⟨x0, x1, x2, x3, x4, x5⟩, rfl, b0, b1, b2, b3, b4, b5⟩
theorem open_call {r : Reach} {b0 : Nat} {v : Value} {d : DataW H} {ps : List MemPlace} (hval : Value.okWide Tryd.prog w r b0 26 v) (h : DataW.Trod enc Tryd.prog w base spare held 26 v d ps) :
    ∃ op l key pa pb hd r : Int, v = .agg (callC op l key pa pb hd r) ∧ OkCall op l key pa pb hd r := by
  obtain ⟨cs, rfl, hsz⟩ := okWide_struct Tryd.underlying26 hval
  obtain ⟨fuel, hf⟩ := h
  obtain ⟨op, l, key, pa, pb, hd, r, h1, h2⟩ := trod_call (cs := cs.toList) hf
  exact ⟨op, l, key, pa, pb, hd, r, by rw [← h1], h2⟩
theorem open_ans {r : Reach} {b0 : Nat} {v : Value} {d : DataW H} {ps : List MemPlace} (hval : Value.okWide Tryd.prog w r b0 37 v) (h : DataW.Trod enc Tryd.prog w base spare held 37 v d ps) :
    ∃ x : Ans, v = .agg x.cells ∧ OkAns x := by
  obtain ⟨cs, rfl, hsz⟩ := okWide_struct Tryd.underlying37 hval
  obtain ⟨fuel, hf⟩ := h
  obtain ⟨x, h1, h2⟩ := trod_ans (cs := cs.toList) hf
  exact ⟨x, by rw [← h1], h2⟩
end
end Go.Proofs.YthhheeocanbkiaaDoor
