/- Slices of events and of opers, and an oper, as arguments. -/
import Derived.Test.YtodomchanaaonaaRef14
import Derived.Test.YtodomchanaaonaaOpen
import Derived.Test.YtodomchanaaonaaOpenRecs
namespace Go.Proofs.Ytodomchanaaonaa
open Go.ChangeShapes Go.WideShapes Go.ChangeAt Go.RowKit Go.Joins Go.Deep
def I64 (x : Int) : Prop := -9223372036854775808 ≤ x ∧ x ≤ 9223372036854775807
def U64 (x : Int) : Prop := 0 ≤ x ∧ x < 18446744073709551616
/-- What numbers there may be. -/
structure OkCl (x : Cl) : Prop where
  op : I64 x.op
  l : I64 x.l
  key : I64 x.key
  pa : U64 x.pa
  pb : U64 x.pb
  hd : U64 x.hd
  r : I64 x.r
structure OkAn (x : An) : Prop where
  e : I64 x.e
  a : U64 x.a
  b : U64 x.b
  h : U64 x.h
  n : I64 x.n
  k : I64 x.k
structure OkEv (x : Ev) : Prop where
  th : I64 x.th
  c : OkCl x.c
  a : OkAn x.a
structure OkOpr (x : Opr) : Prop where
  th : I64 x.th
  c : OkCl x.c
  a : OkAn x.a
  fr : I64 x.fr
  tt : I64 x.to
section
variable {H : Type} {enc : TypeId × Value → H} {w : World} {base : Nat} {spare : Nat → Bool} {held : Bool}
theorem cell_w {t : TypeId} {n : Nat} {v : Value} {y : DataW H × List MemPlace} (ht : Try.prog.underlying t = some (.int .u64)) (h : DataW.trod enc Try.prog w base spare held n t [v] = some y) : ∃ x : Int, v = .int .u64 x ∧ U64 x := by
  obtain ⟨x, e, b⟩ := cell_u ht h
  exact ⟨x, e, by unfold U64; omega⟩
theorem cell_b {t : TypeId} {n : Nat} {v : Value} {y : DataW H × List MemPlace} (ht : Try.prog.underlying t = some .bool) (h : DataW.trod enc Try.prog w base spare held n t [v] = some y) : ∃ x : Bool, v = .bool x := by
  obtain ⟨x, e, _⟩ := DataW.trod_bool ht h
  simp at e
  exact ⟨x, e⟩
theorem trod_pr {fuel : Nat} {v0 v1 : Value} {y : DataW H × List MemPlace} (h : DataW.trod enc Try.prog w base spare held fuel 28 [v0, v1] = some y) : ∃ a b : Int, v0 = .int .u64 a ∧ v1 = .int .u64 b ∧ U64 a ∧ U64 b := by
  have ku : Try.prog.cellsOf 26 = 1 := by kernel_rfl
  obtain ⟨xs, n, _, hx, hl, hlen, hg⟩ := DataW.trod_struct Try.underlying28 h
  match xs, hlen with
  | [y0, y1], _ =>
    have g0 : DataW.trod enc Try.prog w base spare held n 26 [v0] = some y0 := by have := hg 0 _ rfl; simpa [ku] using this
    have g1 : DataW.trod enc Try.prog w base spare held n 26 [v1] = some y1 := by have := hg 1 _ rfl; simpa [ku] using this
    obtain ⟨a, ea, ba⟩ := cell_w Try.underlying26 g0
    obtain ⟨b, eb, bb⟩ := cell_w Try.underlying26 g1
    exact ⟨a, b, ea, eb, ba, bb⟩
theorem trod_cl {fuel : Nat} {cs : List Value} {y : DataW H × List MemPlace} (h : DataW.trod enc Try.prog w base spare held fuel 30 cs = some y) : ∃ x : Cl, cs = (clC x).toList ∧ OkCl x := by
  have ki : Try.prog.cellsOf 3 = 1 := by kernel_rfl
  have kl : Try.prog.cellsOf 2 = 1 := by kernel_rfl
  have ku : Try.prog.cellsOf 26 = 1 := by kernel_rfl
  have kp : Try.prog.cellsOf 28 = 2 := by kernel_rfl
  have kc : Try.prog.cellsOf 30 = 7 := by kernel_rfl
  obtain ⟨xs, n, _, hx, hl, hlen, hg⟩ := DataW.trod_struct Try.underlying30 h
  rw [kc] at hl
  match cs, hl with
  | [v0, v1, v2, v3, v4, v5, v6], _ =>
    match xs, hlen with
    | [y0, y1, y2, y3, y4, y5], _ =>
      have g0 : DataW.trod enc Try.prog w base spare held n 3 [v0] = some y0 := by have := hg 0 _ rfl; simpa [ki] using this
      have g1 : DataW.trod enc Try.prog w base spare held n 3 [v1] = some y1 := by have := hg 1 _ rfl; simpa [ki] using this
      have g2 : DataW.trod enc Try.prog w base spare held n 2 [v2] = some y2 := by have := hg 2 _ rfl; simpa [ki, kl] using this
      have g3 : DataW.trod enc Try.prog w base spare held n 28 [v3, v4] = some y3 := by have := hg 3 _ rfl; simpa [ki, kl, kp] using this
      have g4 : DataW.trod enc Try.prog w base spare held n 26 [v5] = some y4 := by have := hg 4 _ rfl; simpa [ki, kl, kp, ku] using this
      have g5 : DataW.trod enc Try.prog w base spare held n 3 [v6] = some y5 := by have := hg 5 _ rfl; simpa [ki, kl, kp, ku] using this
      obtain ⟨x0, e0, b0⟩ := cell_i Try.underlying3 g0
      obtain ⟨x1, e1, b1⟩ := cell_i Try.underlying3 g1
      obtain ⟨x2, e2, b2⟩ := cell_i Try.underlying2 g2
      obtain ⟨x3, x4, e3, e4, b3, b4⟩ := trod_pr g3
      obtain ⟨x5, e5, b5⟩ := cell_w Try.underlying26 g4
      obtain ⟨x6, e6, b6⟩ := cell_i Try.underlying3 g5
      subst e0 e1 e2 e3 e4 e5 e6
      exact ⟨⟨x0, x1, x2, x3, x4, x5, x6⟩, rfl, b0, b1, b2, b3, b4, b5, b6⟩
theorem trod_an {fuel : Nat} {cs : List Value} {y : DataW H × List MemPlace} (h : DataW.trod enc Try.prog w base spare held fuel 33 cs = some y) : ∃ x : An, cs = (anC x).toList ∧ OkAn x := by
  have ke : Try.prog.cellsOf 31 = 1 := by kernel_rfl
  have ki : Try.prog.cellsOf 3 = 1 := by kernel_rfl
  have kl : Try.prog.cellsOf 2 = 1 := by kernel_rfl
  have ku : Try.prog.cellsOf 26 = 1 := by kernel_rfl
  have kp : Try.prog.cellsOf 28 = 2 := by kernel_rfl
  have kc : Try.prog.cellsOf 33 = 6 := by kernel_rfl
  obtain ⟨xs, n, _, hx, hl, hlen, hg⟩ := DataW.trod_struct Try.underlying33 h
  rw [kc] at hl
  match cs, hl with
  | [v0, v1, v2, v3, v4, v5], _ =>
    match xs, hlen with
    | [y0, y1, y2, y3, y4], _ =>
      have g0 : DataW.trod enc Try.prog w base spare held n 31 [v0] = some y0 := by have := hg 0 _ rfl; simpa [ke] using this
      have g1 : DataW.trod enc Try.prog w base spare held n 28 [v1, v2] = some y1 := by have := hg 1 _ rfl; simpa [ke, kp] using this
      have g2 : DataW.trod enc Try.prog w base spare held n 26 [v3] = some y2 := by have := hg 2 _ rfl; simpa [ke, kp, ku] using this
      have g3 : DataW.trod enc Try.prog w base spare held n 3 [v4] = some y3 := by have := hg 3 _ rfl; simpa [ke, kp, ku, ki] using this
      have g4 : DataW.trod enc Try.prog w base spare held n 2 [v5] = some y4 := by have := hg 4 _ rfl; simpa [ke, kp, ku, ki, kl] using this
      obtain ⟨x0, e0, b0⟩ := cell_i Try.underlying31 g0
      obtain ⟨x1, x2, e1, e2, b1, b2⟩ := trod_pr g1
      obtain ⟨x3, e3, b3⟩ := cell_w Try.underlying26 g2
      obtain ⟨x4, e4, b4⟩ := cell_i Try.underlying3 g3
      obtain ⟨x5, e5, b5⟩ := cell_i Try.underlying2 g4
      subst e0 e1 e2 e3 e4 e5
      exact ⟨⟨x0, x1, x2, x3, x4, x5⟩, rfl, b0, b1, b2, b3, b4, b5⟩
theorem trod_opr {fuel : Nat} {cs : List Value} {y : DataW H × List MemPlace} (h : DataW.trod enc Try.prog w base spare held fuel 35 cs = some y) : ∃ x : Opr, cs = opF x ∧ OkOpr x := by
  have ki : Try.prog.cellsOf 3 = 1 := by kernel_rfl
  have kc : Try.prog.cellsOf 30 = 7 := by kernel_rfl
  have ka : Try.prog.cellsOf 33 = 6 := by kernel_rfl
  have ke : Try.prog.cellsOf 35 = 16 := by kernel_rfl
  obtain ⟨xs, n, _, hx, hl, hlen, hg⟩ := DataW.trod_struct Try.underlying35 h
  rw [ke] at hl
  match cs, hl with
  | [v0, v2, v3, v4, v5, v6, v7, v8, v9, v10, v11, v12, v13, v14, v15, v16], _ =>
    match xs, hlen with
    | [y0, y2, y3, y4, y5], _ =>
      have g0 : DataW.trod enc Try.prog w base spare held n 3 [v0] = some y0 := by have := hg 0 _ rfl; simpa [ki] using this
      have g2 : DataW.trod enc Try.prog w base spare held n 30 [v2, v3, v4, v5, v6, v7, v8] = some y2 := by have := hg 1 _ rfl; simpa [ki, kc] using this
      have g3 : DataW.trod enc Try.prog w base spare held n 33 [v9, v10, v11, v12, v13, v14] = some y3 := by have := hg 2 _ rfl; simpa [ki, kc, ka] using this
      have g4 : DataW.trod enc Try.prog w base spare held n 3 [v15] = some y4 := by have := hg 3 _ rfl; simpa [ki, kc, ka] using this
      have g5 : DataW.trod enc Try.prog w base spare held n 3 [v16] = some y5 := by have := hg 4 _ rfl; simpa [ki, kc, ka] using this
      obtain ⟨x0, e0, b0⟩ := cell_i Try.underlying3 g0
      obtain ⟨x2, e2, b2⟩ := trod_cl g2
      obtain ⟨x3, e3, b3⟩ := trod_an g3
      obtain ⟨x4, e4, b4⟩ := cell_i Try.underlying3 g4
      obtain ⟨x5, e5, b5⟩ := cell_i Try.underlying3 g5
      simp only [clC, anC, List.cons.injEq, and_true] at e2 e3
      obtain ⟨rfl, rfl, rfl, rfl, rfl, rfl, rfl⟩ := e2
      obtain ⟨rfl, rfl, rfl, rfl, rfl, rfl⟩ := e3
      subst e0 e4 e5
      exact ⟨⟨x0, x2, x3, x4, x5⟩, rfl, b0, b2, b3, b4, b5⟩
theorem open_opr {r : Reach} {b0 : Nat} {v : Value} {d : DataW H} {ps : List MemPlace} (hval : Value.okWide Try.prog w r b0 35 v) (h : DataW.Trod enc Try.prog w base spare held 35 v d ps) :
    ∃ x : Opr, v = .agg (opF x).toArray ∧ OkOpr x := by
  obtain ⟨cs, rfl, hsz⟩ := okWide_struct Try.underlying35 hval
  obtain ⟨fuel, hf⟩ := h
  obtain ⟨x, h1, h2⟩ := trod_opr (cs := cs.toList) hf
  exact ⟨x, by rw [← h1], h2⟩
/-- A slice whose elements are told by f, k cells each. -/
theorem open_flat {α : Type} [Inhabited α] {f : α → List Value} {ok : α → Prop} {t e : TypeId} {k : Nat} (ht : Try.prog.underlying t = some (.slice e)) (hk : Try.prog.cellsOf e = k) (hpos : 0 < k) (hf : ∀ x, (f x).length = k)
    (hel : ∀ {fuel : Nat} {cs : List Value} {y : DataW H × List MemPlace}, DataW.trod enc Try.prog w base (fun _ => true) true fuel e cs = some y → ∃ x, cs = f x ∧ ok x)
    {r : Reach} {b0 : Nat} {v : Value} {d : DataW H} {ps : List MemPlace} (hval : Value.okWide Try.prog w r b0 t v) (h : DataW.Trod enc Try.prog w base (fun _ => true) true t v d ps) :
    ∃ (A : Option Addr) (c : Nat) (L : List α), v = .slice A L.length c ∧ L.length ≤ 9223372036854775807 ∧ LiesC w A (flatF f L) ∧ ∀ i, i < L.length → ok (L.getD i default) := by
  obtain ⟨A, n, c, V, rfl, hn, hr, hV⟩ := open_recs ht hk hpos hval h
  obtain ⟨O, hO⟩ := choose_below (n := n) (p := fun i x => V i = f x ∧ ok x) (fun i hi => by
    obtain ⟨hl, fuel, y, hy⟩ := hV i hi
    exact hel hy)
  have hlen : ((List.range n).map O).length = n := by simp
  have hn' : ∀ i, i < n → ((List.range n).map O).getD i default = O i := fun i hi => by simp [List.getD, hi]
  refine ⟨A, c, (List.range n).map O, by rw [hlen], by omega, ?_, fun i hi => by rw [hlen] at hi; rw [hn' i hi]; exact (hO i hi).2⟩
  by_cases h0 : 0 < n
  · obtain ⟨b, off, rfl, hb, hx⟩ := hr (Nat.mul_pos h0 hpos)
    refine .inr ⟨b, off, rfl, hb, fun j u hj => ?_⟩
    have hjl : j < n * k := by
      rcases Nat.lt_or_ge j (n * k) with h | h
      · exact h
      · rw [List.getElem?_eq_none (by rw [flatF_length hf, hlen]; exact h)] at hj; cases hj
    have h3 : j % k < k := Nat.mod_lt _ hpos
    have hq : j / k < n := Nat.div_lt_of_lt_mul (by rw [Nat.mul_comm]; exact hjl)
    have he : j = j / k * k + j % k := by have := Nat.div_add_mod j k; rw [Nat.mul_comm] at this; omega
    have hg := flatF_get (f := f) hf ((List.range n).map O) (j / k) (j % k) (by rw [hlen]; exact hq) h3
    rw [hn' _ hq, ← he, hj] at hg
    rw [hx j hjl, hg]
    show some ((V (j / k)).getD (j % k) undef) = _
    rw [(hO _ hq).1]
    simp [List.getD, List.getElem?_eq_getElem (show j % k < (f (O (j / k))).length by rw [hf]; exact h3)]
  · obtain rfl : n = 0 := by omega
    exact .inl rfl
theorem open_opers {r : Reach} {b0 : Nat} {v : Value} {d : DataW H} {ps : List MemPlace} (hval : Value.okWide Try.prog w r b0 22 v) (h : DataW.Trod enc Try.prog w base (fun _ => true) true 22 v d ps) :
    ∃ (A : Option Addr) (c : Nat) (L : List Opr), v = .slice A L.length c ∧ L.length ≤ 9223372036854775807 ∧ LiesC w A (flatF opF L) ∧ ∀ i, i < L.length → OkOpr (oprN L i) :=
  open_flat Try.underlying22 (by kernel_rfl) (by omega) opF_len trod_opr hval h
end
end Go.Proofs.Ytodomchanaaonaa
