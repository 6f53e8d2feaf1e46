/- A slice of structs as an argument, element by element. · Slices of events and of opers, and an oper, as arguments. · A script as an argument. -/
import Derived.Test.YtdbankogamolcaaDoorJ0
import Derived.Test.YtdbankogamolcaaDoorJ4
namespace Go.Proofs.YtdbankogamolcaaDoor
set_option linter.unusedSimpArgs false
set_option linter.unusedVariables false
open Go.ChangeShapes Go.WideShapes Go.ChangeAt Go.RowKit Go.Joins Go.Deep
section
variable {H : Type} {enc : TypeId × Value → H} {P : Program} {w : World} {base : Nat}
theorem choose_below {α : Type} [Inhabited α] {n : Nat} {p : Nat → α → Prop} (h : ∀ i, i < n → ∃ x, p i x) : ∃ f : Nat → α, ∀ i, i < n → p i (f i) := by
  refine ⟨fun i => if hi : i < n then Classical.choose (h i hi) else default, fun i hi => ?_⟩
  show p i (if hi : i < n then _ else _)
  rw [dif_pos hi]
  exact Classical.choose_spec (h i hi)
/-- A slice whose elements have k cells each: V i is the i-th one's cells. -/
theorem open_recs {t e : TypeId} {k : Nat} {r : Reach} {b0 : Nat} {v : Value} {d : DataW H} {ps : List MemPlace} (ht : P.underlying t = some (.slice e)) (hk : P.cellsOf e = k) (hpos : 0 < k)
    (hval : Value.okWide P w r b0 t v) (h : DataW.Trod enc P w base (fun _ => true) true t v d ps) :
    ∃ (A : Option Addr) (n c : Nat) (V : Nat → List Value), v = .slice A n c ∧ n ≤ 9223372036854775807 ∧ RowIs w A (n * k) (fun i => (V (i / k)).getD (i % k) undef) ∧
      ∀ i, i < n → (V i).length = k ∧ ∃ fuel y, DataW.trod enc P w base (fun _ => true) true fuel e (V i) = some y := by
  obtain ⟨A, n, c, rfl⟩ := okWide_slice ht hval
  obtain ⟨fuel, hf⟩ := h
  rcases open_slice ht hf with ⟨hcs, hx⟩ | ⟨a, len, cap, m, n', D, Pl, hcs, _, hl, hm, hmm, _, hx⟩
  · simp [Value.cells] at hcs
    obtain ⟨rfl, rfl, rfl⟩ := hcs
    exact ⟨none, 0, 0, fun _ => [], rfl, by omega, by rw [Nat.zero_mul]; exact RowIs.none_ _ _ _, fun i hi => by omega⟩
  · simp [Value.cells] at hcs
    obtain ⟨rfl, rfl, rfl⟩ := hcs
    rw [hk] at hx
    have hnm : n ≤ m := by rw [hmm]; split <;> omega
    unfold maxLen at hm
    obtain ⟨V, hV⟩ := choose_below (n := n) (p := fun i cs' => w.cells? base (a.add (i * k)) k = some cs' ∧ DataW.trod enc P w base (fun _ => true) true n' e cs' = some (D i, Pl i)) (fun i hi => hx i (by omega))
    have hlen : ∀ i, i < n → (V i).length = k := fun i hi => (World.cells?_some (hV i hi).1).2.1
    refine ⟨some a, n, c, V, rfl, by omega, fun hn => ?_, fun i hi => ⟨hlen i hi, n', _, (hV i hi).2⟩⟩
    have hn0 : 0 < n := Nat.pos_of_mul_pos_right hn |> fun _ => by
      rcases Nat.eq_zero_or_pos n with h0 | h0
      · rw [h0, Nat.zero_mul] at hn; omega
      · exact h0
    have h0 := (World.cells?_some (hV 0 hn0).1).2.2 0 hpos
    rw [List.getElem?_eq_getElem (by rw [hlen 0 hn0]; exact hpos)] at h0
    obtain ⟨b, off, spot⟩ := a
    have hspot : spot = none := by simpa [Addr.add] using World.cell?_spot h0
    subst hspot
    have hcell : ∀ i, i < n * k → w.cell? ⟨b, off + i, none⟩ = some ((V (i / k)).getD (i % k) undef) := fun i hi => by
      have hik : i / k < n := Nat.div_lt_of_lt_mul (by rw [Nat.mul_comm]; exact hi)
      have hmod : i % k < k := Nat.mod_lt _ hpos
      have h1 := (World.cells?_some (hV (i / k) hik).1).2.2 (i % k) hmod
      rw [add_row, add_row] at h1
      rw [show off + i = off + i / k * k + i % k by have := Nat.div_add_mod i k; rw [Nat.mul_comm] at this; omega, h1]
      have hl := hlen (i / k) hik
      rw [List.getElem?_eq_getElem (by omega)]
      simp [List.getD, List.getElem?_eq_getElem (show i % k < (V (i / k)).length by omega)]
    refine ⟨b, off, rfl, ?_, hcell⟩
    exact World.block_lt_of_cell? w _ (hcell 0 hn)
end
end Go.Proofs.YtdbankogamolcaaDoor
namespace Go.Proofs.YtdbankogamolcaaDoor
set_option linter.unusedSimpArgs false
set_option linter.unusedVariables false
open Go.ChangeShapes Go.WideShapes Go.ChangeAt Go.RowKit Go.Joins Go.Deep
set_option maxRecDepth 100000
def I64 (x : Int) : Prop := -9223372036854775808 ≤ x ∧ x ≤ 9223372036854775807
def U64 (x : Int) : Prop := 0 ≤ x ∧ x < 18446744073709551616
/-- What numbers there may be. -/
structure OkCl (x : Cl) : Prop where
  op : I64 x.op
  l : I64 x.l
  key : I64 x.key
  pa : U64 x.pa
  pb : U64 x.pb
  hd : U64 x.hd
  r : I64 x.r
structure OkAn (x : An) : Prop where
  e : I64 x.e
  a : U64 x.a
  b : U64 x.b
  h : U64 x.h
  n : I64 x.n
  k : I64 x.k
structure OkEv (x : Ev) : Prop where
  th : I64 x.th
  c : OkCl x.c
  a : OkAn x.a
structure OkOpr (x : Opr) : Prop where
  th : I64 x.th
  c : OkCl x.c
  a : OkAn x.a
  fr : I64 x.fr
  tt : I64 x.to
section
variable {H : Type} {enc : TypeId × Value → H} {w : World} {base : Nat} {spare : Nat → Bool} {held : Bool}
theorem cell_w {t : TypeId} {n : Nat} {v : Value} {y : DataW H × List MemPlace} (ht : Tryd.prog.underlying t = some (.int .u64)) (h : DataW.trod enc Tryd.prog w base spare held n t [v] = some y) : ∃ x : Int, v = .int .u64 x ∧ U64 x := by
  obtain ⟨x, e, b⟩ := cell_u ht h
  exact ⟨x, e, by unfold U64; omega⟩
theorem cell_b {t : TypeId} {n : Nat} {v : Value} {y : DataW H × List MemPlace} (ht : Tryd.prog.underlying t = some .bool) (h : DataW.trod enc Tryd.prog w base spare held n t [v] = some y) : ∃ x : Bool, v = .bool x := by
  obtain ⟨x, e, _⟩ := DataW.trod_bool ht h
  simp at e
  exact ⟨x, e⟩
theorem trod_pr {fuel : Nat} {v0 v1 : Value} {y : DataW H × List MemPlace} (h : DataW.trod enc Tryd.prog w base spare held fuel 59 [v0, v1] = some y) : ∃ a b : Int, v0 = .int .u64 a ∧ v1 = .int .u64 b ∧ U64 a ∧ U64 b := by
  have ku : Tryd.prog.cellsOf 57 = 1 := by kernel_rfl
  obtain ⟨xs, n, _, hx, hl, hlen, hg⟩ := DataW.trod_struct Tryd.underlying59 h
  match xs, hlen with
  | [y0, y1], _ =>
    have g0 : DataW.trod enc Tryd.prog w base spare held n 57 [v0] = some y0 := by have := hg 0 _ rfl; simpa [ku] using this
    have g1 : DataW.trod enc Tryd.prog w base spare held n 57 [v1] = some y1 := by have := hg 1 _ rfl; simpa [ku] using this
    obtain ⟨a, ea, ba⟩ := cell_w Tryd.underlying57 g0
    obtain ⟨b, eb, bb⟩ := cell_w Tryd.underlying57 g1
    exact ⟨a, b, ea, eb, ba, bb⟩
theorem trod_cl {fuel : Nat} {cs : List Value} {y : DataW H × List MemPlace} (h : DataW.trod enc Tryd.prog w base spare held fuel 61 cs = some y) : ∃ x : Cl, cs = (clC x).toList ∧ OkCl x := by
  have ki : Tryd.prog.cellsOf 3 = 1 := by kernel_rfl
  have kl : Tryd.prog.cellsOf 2 = 1 := by kernel_rfl
  have ku : Tryd.prog.cellsOf 57 = 1 := by kernel_rfl
  have kp : Tryd.prog.cellsOf 59 = 2 := by kernel_rfl
  have kc : Tryd.prog.cellsOf 61 = 7 := by kernel_rfl
  obtain ⟨xs, n, _, hx, hl, hlen, hg⟩ := DataW.trod_struct Tryd.underlying61 h
  rw [kc] at hl
  match cs, hl with
  | [v0, v1, v2, v3, v4, v5, v6], _ =>
    match xs, hlen with
    | [y0, y1, y2, y3, y4, y5], _ =>
      have g0 : DataW.trod enc Tryd.prog w base spare held n 3 [v0] = some y0 := by have := hg 0 _ rfl; simpa [ki] using this
      have g1 : DataW.trod enc Tryd.prog w base spare held n 3 [v1] = some y1 := by have := hg 1 _ rfl; simpa [ki] using this
      have g2 : DataW.trod enc Tryd.prog w base spare held n 2 [v2] = some y2 := by have := hg 2 _ rfl; simpa [ki, kl] using this
      have g3 : DataW.trod enc Tryd.prog w base spare held n 59 [v3, v4] = some y3 := by have := hg 3 _ rfl; simpa [ki, kl, kp] using this
      have g4 : DataW.trod enc Tryd.prog w base spare held n 57 [v5] = some y4 := by have := hg 4 _ rfl; simpa [ki, kl, kp, ku] using this
      have g5 : DataW.trod enc Tryd.prog w base spare held n 3 [v6] = some y5 := by have := hg 5 _ rfl; simpa [ki, kl, kp, ku] using this
      obtain ⟨x0, e0, b0⟩ := cell_i Tryd.underlying3 g0
      obtain ⟨x1, e1, b1⟩ := cell_i Tryd.underlying3 g1
      obtain ⟨x2, e2, b2⟩ := cell_i Tryd.underlying2 g2
      obtain ⟨x3, x4, e3, e4, b3, b4⟩ := trod_pr g3
      obtain ⟨x5, e5, b5⟩ := cell_w Tryd.underlying57 g4
      obtain ⟨x6, e6, b6⟩ := cell_i Tryd.underlying3 g5
      subst e0 e1 e2 e3 e4 e5 e6
      exact ⟨⟨x0, x1, x2, x3, x4, x5, x6⟩, rfl, b0, b1, b2, b3, b4, b5, b6⟩
/-- A slice whose elements are told by f, k cells each. -/
theorem open_flat {α : Type} [Inhabited α] {f : α → List Value} {ok : α → Prop} {t e : TypeId} {k : Nat} (ht : Tryd.prog.underlying t = some (.slice e)) (hk : Tryd.prog.cellsOf e = k) (hpos : 0 < k) (hf : ∀ x, (f x).length = k)
    (hel : ∀ {fuel : Nat} {cs : List Value} {y : DataW H × List MemPlace}, DataW.trod enc Tryd.prog w base (fun _ => true) true fuel e cs = some y → ∃ x, cs = f x ∧ ok x)
    {r : Reach} {b0 : Nat} {v : Value} {d : DataW H} {ps : List MemPlace} (hval : Value.okWide Tryd.prog w r b0 t v) (h : DataW.Trod enc Tryd.prog w base (fun _ => true) true t v d ps) :
    ∃ (A : Option Addr) (c : Nat) (L : List α), v = .slice A L.length c ∧ L.length ≤ 9223372036854775807 ∧ LiesC w A (flatF f L) ∧ ∀ i, i < L.length → ok (L.getD i default) := by
  obtain ⟨A, n, c, V, rfl, hn, hr, hV⟩ := open_recs ht hk hpos hval h
  obtain ⟨O, hO⟩ := choose_below (n := n) (p := fun i x => V i = f x ∧ ok x) (fun i hi => by
    obtain ⟨hl, fuel, y, hy⟩ := hV i hi
    exact hel hy)
  have hlen : ((List.range n).map O).length = n := by simp
  have hn' : ∀ i, i < n → ((List.range n).map O).getD i default = O i := fun i hi => by simp [List.getD, hi]
  refine ⟨A, c, (List.range n).map O, by rw [hlen], by omega, ?_, fun i hi => by rw [hlen] at hi; rw [hn' i hi]; exact (hO i hi).2⟩
  by_cases h0 : 0 < n
  · obtain ⟨b, off, rfl, hb, hx⟩ := hr (Nat.mul_pos h0 hpos)
    refine .inr ⟨b, off, rfl, hb, fun j u hj => ?_⟩
    have hjl : j < n * k := by
      rcases Nat.lt_or_ge j (n * k) with h | h
      · exact h
      · rw [List.getElem?_eq_none (by rw [flatF_length hf, hlen]; exact h)] at hj; cases hj
    have h3 : j % k < k := Nat.mod_lt _ hpos
    have hq : j / k < n := Nat.div_lt_of_lt_mul (by rw [Nat.mul_comm]; exact hjl)
    have he : j = j / k * k + j % k := by have := Nat.div_add_mod j k; rw [Nat.mul_comm] at this; omega
    have hg := flatF_get (f := f) hf ((List.range n).map O) (j / k) (j % k) (by rw [hlen]; exact hq) h3
    rw [hn' _ hq, ← he, hj] at hg
    rw [hx j hjl, hg]
    show some ((V (j / k)).getD (j % k) undef) = _
    rw [(hO _ hq).1]
    simp [List.getD, List.getElem?_eq_getElem (show j % k < (f (O (j / k))).length by rw [hf]; exact h3)]
  · obtain rfl : n = 0 := by omega
    exact .inl rfl
end
end Go.Proofs.YtdbankogamolcaaDoor
namespace Go.Proofs.YtdbankogamolcaaDoor
set_option linter.unusedSimpArgs false
set_option linter.unusedVariables false
open Go.ChangeShapes Go.WideShapes Go.ChangeAt Go.RowKit Go.Joins Go.Deep
set_option maxRecDepth 100000
section
variable {H : Type} {enc : TypeId × Value → H} {P : Program} {w : World} {base : Nat}
/-- A slice's elements, out of what is read of a cell that holds it. -/
theorem trod_recs {t e : TypeId} {k fuel : Nat} {A : Option Addr} {n c : Nat} {y : DataW H × List MemPlace} (ht : P.underlying t = some (.slice e)) (hk : P.cellsOf e = k) (hpos : 0 < k)
    (hf : DataW.trod enc P w base (fun _ => true) true fuel t [.slice A n c] = some y) :
    ∃ (A' : Option Addr) (n' c' : Nat) (V : Nat → List Value), (Value.slice A n c) = .slice A' n' c' ∧ n' ≤ 9223372036854775807 ∧ RowIs w A' (n' * k) (fun i => (V (i / k)).getD (i % k) undef) ∧
      ∀ i, i < n' → (V i).length = k ∧ ∃ fuel y, DataW.trod enc P w base (fun _ => true) true fuel e (V i) = some y := by
  rcases open_slice ht hf with ⟨hcs, hx⟩ | ⟨a, len, cap, m, n', D, Pl, hcs, _, hl, hm, hmm, _, hx⟩
  · simp at hcs
    obtain ⟨rfl, rfl, rfl⟩ := hcs
    exact ⟨none, 0, 0, fun _ => [], rfl, by omega, by rw [Nat.zero_mul]; exact RowIs.none_ _ _ _, fun i hi => by omega⟩
  · simp at hcs
    obtain ⟨rfl, rfl, rfl⟩ := hcs
    rw [hk] at hx
    have hnm : n ≤ m := by rw [hmm]; split <;> omega
    unfold maxLen at hm
    obtain ⟨V, hV⟩ := choose_below (n := n) (p := fun i cs' => w.cells? base (a.add (i * k)) k = some cs' ∧ DataW.trod enc P w base (fun _ => true) true n' e cs' = some (D i, Pl i)) (fun i hi => hx i (by omega))
    have hlen : ∀ i, i < n → (V i).length = k := fun i hi => (World.cells?_some (hV i hi).1).2.1
    refine ⟨some a, n, c, V, rfl, by omega, fun hn => ?_, fun i hi => ⟨hlen i hi, n', _, (hV i hi).2⟩⟩
    have hn0 : 0 < n := Nat.pos_of_mul_pos_right hn |> fun _ => by
      rcases Nat.eq_zero_or_pos n with h0 | h0
      · rw [h0, Nat.zero_mul] at hn; omega
      · exact h0
    have h0 := (World.cells?_some (hV 0 hn0).1).2.2 0 hpos
    rw [List.getElem?_eq_getElem (by rw [hlen 0 hn0]; exact hpos)] at h0
    obtain ⟨b, off, spot⟩ := a
    have hspot : spot = none := by simpa [Addr.add] using World.cell?_spot h0
    subst hspot
    have hcell : ∀ i, i < n * k → w.cell? ⟨b, off + i, none⟩ = some ((V (i / k)).getD (i % k) undef) := fun i hi => by
      have hik : i / k < n := Nat.div_lt_of_lt_mul (by rw [Nat.mul_comm]; exact hi)
      have hmod : i % k < k := Nat.mod_lt _ hpos
      have h1 := (World.cells?_some (hV (i / k) hik).1).2.2 (i % k) hmod
      rw [add_row, add_row] at h1
      rw [show off + i = off + i / k * k + i % k by have := Nat.div_add_mod i k; rw [Nat.mul_comm] at this; omega, h1]
      have hl := hlen (i / k) hik
      rw [List.getElem?_eq_getElem (by omega)]
      simp [List.getD, List.getElem?_eq_getElem (show i % k < (V (i / k)).length by omega)]
    refine ⟨b, off, rfl, ?_, hcell⟩
    exact World.block_lt_of_cell? w _ (hcell 0 hn)
theorem trod_slc {t e : TypeId} {fuel : Nat} {v : Value} {y : DataW H × List MemPlace} (ht : P.underlying t = some (.slice e)) (hf : DataW.trod enc P w base (fun _ => true) true fuel t [v] = some y) : ∃ A n c, v = .slice A n c := by
  rcases open_slice ht hf with ⟨hcs, hx⟩ | ⟨a, len, cap, m, n', D, Pl, hcs, _⟩
  · simp at hcs; exact ⟨_, _, _, hcs⟩
  · simp at hcs; exact ⟨_, _, _, hcs⟩
theorem trod_flat {α : Type} [Inhabited α] {f : α → List Value} {ok : α → Prop} {t e : TypeId} {k : Nat} (ht : Tryd.prog.underlying t = some (.slice e)) (hk : Tryd.prog.cellsOf e = k) (hpos : 0 < k) (hf : ∀ x, (f x).length = k)
    (hel : ∀ {fuel : Nat} {cs : List Value} {y : DataW H × List MemPlace}, DataW.trod enc Tryd.prog w base (fun _ => true) true fuel e cs = some y → ∃ x, cs = f x ∧ ok x)
    {fuel : Nat} {v : Value} {y : DataW H × List MemPlace} (h : DataW.trod enc Tryd.prog w base (fun _ => true) true fuel t [v] = some y) :
    ∃ (L : List α), SlC w v L.length (flatF f L) ∧ L.length ≤ 9223372036854775807 ∧ ∀ i, i < L.length → ok (L.getD i default) := by
  obtain ⟨A0, n0, c0, rfl⟩ := trod_slc ht h
  obtain ⟨A, n, c, V, e1, hn, hr, hV⟩ := trod_recs ht hk hpos h
  rw [e1]
  obtain ⟨O, hO⟩ := choose_below (n := n) (p := fun i x => V i = f x ∧ ok x) (fun i hi => by
    obtain ⟨hl, fuel, y, hy⟩ := hV i hi
    exact hel hy)
  have hlen : ((List.range n).map O).length = n := by simp
  have hn' : ∀ i, i < n → ((List.range n).map O).getD i default = O i := fun i hi => by simp [List.getD, hi]
  refine ⟨(List.range n).map O, ⟨A, c, by rw [hlen], ?_⟩, by omega, fun i hi => by rw [hlen] at hi; rw [hn' i hi]; exact (hO i hi).2⟩
  by_cases h0 : 0 < n
  · obtain ⟨b, off, rfl, hb, hx⟩ := hr (Nat.mul_pos h0 hpos)
    refine .inr ⟨b, off, rfl, hb, fun j u hj => ?_⟩
    have hjl : j < n * k := by
      rcases Nat.lt_or_ge j (n * k) with h | h
      · exact h
      · rw [List.getElem?_eq_none (by rw [flatF_length hf, hlen]; exact h)] at hj; cases hj
    have h3 : j % k < k := Nat.mod_lt _ hpos
    have hq : j / k < n := Nat.div_lt_of_lt_mul (by rw [Nat.mul_comm]; exact hjl)
    have he : j = j / k * k + j % k := by have := Nat.div_add_mod j k; rw [Nat.mul_comm] at this; omega
    have hg := flatF_get (f := f) hf ((List.range n).map O) (j / k) (j % k) (by rw [hlen]; exact hq) h3
    rw [hn' _ hq, ← he, hj] at hg
    rw [hx j hjl, hg]
    show some ((V (j / k)).getD (j % k) undef) = _
    rw [(hO _ hq).1]
    simp [List.getD, List.getElem?_eq_getElem (show j % k < (f (O (j / k))).length by rw [hf]; exact h3)]
  · obtain rfl : n = 0 := by omega
    exact .inl rfl
def OkEnt (x : Ent) : Prop := I64 x.th ∧ I64 x.wh
theorem trod_ent {fuel : Nat} {cs : List Value} {y : DataW H × List MemPlace} (h : DataW.trod enc Tryd.prog w base (fun _ => true) true fuel 51 cs = some y) : ∃ x : Ent, cs = entF x ∧ OkEnt x := by
  have ki : Tryd.prog.cellsOf 3 = 1 := by kernel_rfl
  have kc : Tryd.prog.cellsOf 51 = 2 := by kernel_rfl
  obtain ⟨xs, n, _, hx, hl, hlen, hg⟩ := DataW.trod_struct Tryd.underlying51 h
  rw [kc] at hl
  match cs, hl with
  | [v0, v1], _ =>
    match xs, hlen with
    | [y0, y1], _ =>
      have g0 : DataW.trod enc Tryd.prog w base (fun _ => true) true n 3 [v0] = some y0 := by have := hg 0 _ rfl; simpa [ki] using this
      have g1 : DataW.trod enc Tryd.prog w base (fun _ => true) true n 3 [v1] = some y1 := by have := hg 1 _ rfl; simpa [ki] using this
      obtain ⟨x0, e0, b0⟩ := cell_i Tryd.underlying3 g0
      obtain ⟨x1, e1, b1⟩ := cell_i Tryd.underlying3 g1
      subst e0 e1
      exact ⟨⟨x0, x1⟩, rfl, b0, b1⟩
theorem trod_clF {fuel : Nat} {cs : List Value} {y : DataW H × List MemPlace} (h : DataW.trod enc Tryd.prog w base (fun _ => true) true fuel 61 cs = some y) : ∃ x : Cl, cs = clF x ∧ OkCl x := by
  obtain ⟨x, h1, h2⟩ := trod_cl h
  exact ⟨x, h1, h2⟩
/-- What a script's numbers may be. -/
structure OkS18 (s : Scr) : Prop where
  conf : Ok64 s.c
  pl : ∀ t, t < 8 → (s.p t).length ≤ 9223372036854775807
  el : s.e.length ≤ 9223372036854775807
  cl : ∀ t, t < 8 → ∀ k, k < (s.p t).length → OkCl (clN (s.p t) k)
  en : ∀ k, k < s.e.length → OkEnt (enN s.e k)
theorem trod_scr {fuel : Nat} {cs : List Value} {y : DataW H × List MemPlace} (h : DataW.trod enc Tryd.prog w base (fun _ => true) true fuel 29 cs = some y) : ∃ (f : Nat → Value) (s : Scr), cs.toArray = rowOf 23 f ∧ ScrIs w f s ∧ OkS18 s := by
  have kc : Tryd.prog.cellsOf 24 = 14 := by kernel_rfl
  have kp : Tryd.prog.cellsOf 26 = 8 := by kernel_rfl
  have ke : Tryd.prog.cellsOf 27 = 1 := by kernel_rfl
  have k1 : Tryd.prog.cellsOf 25 = 1 := by kernel_rfl
  have ks : Tryd.prog.cellsOf 29 = 23 := by kernel_rfl
  obtain ⟨xs, n, _, hx, hl, hlen, hg⟩ := DataW.trod_struct Tryd.underlying29 h
  rw [ks] at hl
  match cs, hl with
  | [v0, v1, v2, v3, v4, v5, v6, v7, v8, v9, v10, v11, v12, v13, v14, v15, v16, v17, v18, v19, v20, v21, v22], _ =>
    match xs, hlen with
    | [y0, y1, y2], _ =>
      have g0 : DataW.trod enc Tryd.prog w base (fun _ => true) true n 24 [v0, v1, v2, v3, v4, v5, v6, v7, v8, v9, v10, v11, v12, v13] = some y0 := by have := hg 0 _ rfl; simpa [kc] using this
      have g1 : DataW.trod enc Tryd.prog w base (fun _ => true) true n 26 [v14, v15, v16, v17, v18, v19, v20, v21] = some y1 := by have := hg 1 _ rfl; simpa [kc, kp] using this
      have g2 : DataW.trod enc Tryd.prog w base (fun _ => true) true n 27 [v22] = some y2 := by have := hg 2 _ rfl; simpa [kc, kp, ke] using this
      obtain ⟨c, hc, hok⟩ := trod_conf g0
      obtain ⟨E, hE, hEl, hEo⟩ := trod_flat (f := entF) (ok := OkEnt) Tryd.underlying27 (by kernel_rfl) (by omega) entF_len trod_ent g2
      obtain ⟨zs, m, _, _, _, hzl, hz⟩ := DataW.trod_array Tryd.underlying26 g1
      rw [k1] at hz
      have hP : ∀ t, t < 8 → ∃ L : List Cl, SlC w ([v14, v15, v16, v17, v18, v19, v20, v21].getD t undef) L.length (flatF clF L) ∧ L.length ≤ 9223372036854775807 ∧ ∀ i, i < L.length → OkCl (L.getD i default) := fun t ht => by
        have hz1 := hz t (by omega)
        rw [List.getElem?_eq_getElem (by omega)] at hz1
        have hz2 : DataW.trod enc Tryd.prog w base (fun _ => true) true m 25 [[v14, v15, v16, v17, v18, v19, v20, v21].getD t undef] = some (zs[t]'(by omega)) := by
          match t, ht with
          | 0, _ => simpa using hz1
          | 1, _ => simpa using hz1
          | 2, _ => simpa using hz1
          | 3, _ => simpa using hz1
          | 4, _ => simpa using hz1
          | 5, _ => simpa using hz1
          | 6, _ => simpa using hz1
          | 7, _ => simpa using hz1
        exact trod_flat (f := clF) (ok := OkCl) Tryd.underlying25 (by kernel_rfl) (by omega) clF_len trod_clF hz2
      obtain ⟨P, hPP⟩ := choose_below (n := 8) hP
      refine ⟨fun i => [v0, v1, v2, v3, v4, v5, v6, v7, v8, v9, v10, v11, v12, v13, v14, v15, v16, v17, v18, v19, v20, v21, v22].getD i undef, ⟨c, P, E⟩, rfl, ⟨fun i hi => ?_, fun t ht => ?_, hE⟩, ⟨hok, fun t ht => (hPP t ht).2.1, hEl, fun t ht k hk => (hPP t ht).2.2 k hk, fun k hk => hEo k hk⟩⟩
      · have h1 := rowOf_get (ints c) hi
        rw [← hc] at h1
        match i, hi with
        | 0, _ | 1, _ | 2, _ | 3, _ | 4, _ | 5, _ | 6, _ | 7, _ | 8, _ | 9, _ | 10, _ | 11, _ | 12, _ | 13, _ => simpa [ints] using h1
      · have := (hPP t ht).1
        match t, ht with
        | 0, _ | 1, _ | 2, _ | 3, _ | 4, _ | 5, _ | 6, _ | 7, _ => exact this
theorem open_scr {r : Reach} {b0 : Nat} {v : Value} {d : DataW H} {ps : List MemPlace} (hval : Value.okWide Tryd.prog w r b0 29 v) (h : DataW.Trod enc Tryd.prog w base (fun _ => true) true 29 v d ps) :
    ∃ (f : Nat → Value) (s : Scr), v = .agg (rowOf 23 f) ∧ ScrIs w f s ∧ OkS18 s := by
  obtain ⟨cs, rfl, hsz⟩ := okWide_struct Tryd.underlying29 hval
  obtain ⟨fuel, hf⟩ := h
  obtain ⟨f, s, h1, h2, h3⟩ := trod_scr (cs := cs.toList) hf
  exact ⟨f, s, by rw [← h1], h2, h3⟩
end
end Go.Proofs.YtdbankogamolcaaDoor
