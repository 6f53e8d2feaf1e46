/- burnbagref14: May, Ahead, Same, Opersame. · A slice of structs as an argument, element by element. · Slices of events and of opers, and an oper, as arguments. · burnbagref16: in, May. -/
import Derived.Test.YtiafjbhekfpkbaaGreatDoorJ1
import Derived.BigQuiet
import Derived.IntWalk
import Derived.OwnWalk
import Derived.Deep.DeepCutAuto
import Derived.Deep.QuietTactic
import Derived.Test.YtiafjbhekfpkbaaGreatDoorJ0
import Derived.Deep.RegionHeld3
import Derived.Deep.MidRow
namespace Go.Proofs.YtiafjbhekfpkbaaGreatDoor
set_option linter.unusedSimpArgs false
set_option linter.unusedVariables false
open Go.ChangeShapes Go.WideShapes Go.ChangeAt Go.RowKit

def evN (L : List Ev) (i : Nat) : Ev := L.getD i default
def oprN (L : List Opr) (i : Nat) : Opr := L.getD i default
/-- Is a thread within a call, behind the first i events? -/
def wnAt (L : List Ev) : Nat → Nat → Bool
  | 0, _ => false
  | i + 1, t => if t = (evN L i).th.toNat then !(evN L i).back else wnAt L i t
/-- How many began, of the first i events. -/
def begAt (L : List Ev) : Nat → Nat
  | 0 => 0
  | i + 1 => bif (evN L i).back then begAt L i else begAt L i + 1
/-- May the i-th event be? -/
def okAt (L : List Ev) (i : Nat) : Bool :=
  decide (0 ≤ (evN L i).th) && (decide ((evN L i).th ≤ 7) && (((evN L i).back == wnAt L i (evN L i).th.toNat) && (bif (evN L i).back then decide ((evN L i).c = zeroC) else decide ((evN L i).a = zeroA))))
/-- May a history be? -/
def mayL (L : List Ev) : Bool := (List.range L.length).all (okAt L) && decide (begAt L L.length ≤ 40)
theorem mayL_no {L : List Ev} {i : Nat} (hi : i < L.length) (h : okAt L i = false) : mayL L = false := by
  have : (List.range L.length).all (okAt L) = false := by
    rw [List.all_eq_false]
    exact ⟨i, List.mem_range.2 hi, by rw [h]; simp⟩
  unfold mayL
  rw [this]; rfl
theorem mayL_all {L : List Ev} {n : Nat} (hn : n = L.length) (h : ∀ i, i < n → okAt L i = true) : mayL L = decide (begAt L n ≤ 40) := by
  subst hn
  have : (List.range L.length).all (okAt L) = true := by
    rw [List.all_eq_true]
    exact fun i hi => h i (List.mem_range.1 hi)
  unfold mayL
  rw [this]; rfl
theorem begAt_le (L : List Ev) : ∀ i, begAt L i ≤ i
  | 0 => Nat.le_refl _
  | i + 1 => by
    have := begAt_le L i
    unfold begAt
    cases (evN L i).back <;> simp only [cond] <;> omega
theorem LiesC.atE {w : World} {A : Option Addr} {L : List Ev} (h : LiesC w A (flatF evF L)) (hn : 0 < L.length) :
    ∃ b off, A = some ⟨b, off, none⟩ ∧ b < w.heap.size ∧ ∀ i, i < L.length → ∀ j, j < 15 → w.cell? ⟨b, off + i * 15 + j, none⟩ = (evF (evN L i))[j]? := by
  obtain ⟨b, off, h1, h2, h3⟩ := h.atF evF_len (by omega) hn
  exact ⟨b, off, h1, h2, fun i hi j hj => by rw [Nat.add_assoc]; exact h3 i hi j hj⟩
theorem LiesC.atO {w : World} {A : Option Addr} {L : List Opr} (h : LiesC w A (flatF opF L)) (hn : 0 < L.length) :
    ∃ b off, A = some ⟨b, off, none⟩ ∧ b < w.heap.size ∧ ∀ i, i < L.length → ∀ j, j < 16 → w.cell? ⟨b, off + i * 16 + j, none⟩ = (opF (oprN L i))[j]? := by
  obtain ⟨b, off, h1, h2, h3⟩ := h.atF opF_len (by omega) hn
  exact ⟨b, off, h1, h2, fun i hi j hj => by rw [Nat.add_assoc]; exact h3 i hi j hj⟩
theorem ev_cells {w : World} {b o : Nat} {x : Ev} (h : ∀ j, j < 15 → w.cell? ⟨b, o + j, none⟩ = (evF x)[j]?) : w.cell? ⟨b, o, none⟩ = some (.int .i64 x.th) ∧ w.cell? ⟨b, o + 1, none⟩ = some (.bool x.back) ∧ w.cell? ⟨b, o + 2, none⟩ = some (.int .i64 x.c.op) ∧ w.cell? ⟨b, o + 3, none⟩ = some (.int .i64 x.c.l) ∧ w.cell? ⟨b, o + 4, none⟩ = some (.int .i64 x.c.key) ∧ w.cell? ⟨b, o + 5, none⟩ = some (.int .u64 x.c.pa) ∧ w.cell? ⟨b, o + 6, none⟩ = some (.int .u64 x.c.pb) ∧ w.cell? ⟨b, o + 7, none⟩ = some (.int .u64 x.c.hd) ∧ w.cell? ⟨b, o + 8, none⟩ = some (.int .i64 x.c.r) ∧ w.cell? ⟨b, o + 9, none⟩ = some (.int .i64 x.a.e) ∧ w.cell? ⟨b, o + 10, none⟩ = some (.int .u64 x.a.a) ∧ w.cell? ⟨b, o + 11, none⟩ = some (.int .u64 x.a.b) ∧ w.cell? ⟨b, o + 12, none⟩ = some (.int .u64 x.a.h) ∧ w.cell? ⟨b, o + 13, none⟩ = some (.int .i64 x.a.n) ∧ w.cell? ⟨b, o + 14, none⟩ = some (.int .i64 x.a.k) :=
  ⟨h 0 (by omega), h 1 (by omega), h 2 (by omega), h 3 (by omega), h 4 (by omega), h 5 (by omega), h 6 (by omega), h 7 (by omega), h 8 (by omega), h 9 (by omega), h 10 (by omega), h 11 (by omega), h 12 (by omega), h 13 (by omega), h 14 (by omega)⟩
theorem opr_cells {w : World} {b o : Nat} {x : Opr} (h : ∀ j, j < 16 → w.cell? ⟨b, o + j, none⟩ = (opF x)[j]?) : w.cell? ⟨b, o, none⟩ = some (.int .i64 x.th) ∧ w.cell? ⟨b, o + 1, none⟩ = some (.int .i64 x.c.op) ∧ w.cell? ⟨b, o + 2, none⟩ = some (.int .i64 x.c.l) ∧ w.cell? ⟨b, o + 3, none⟩ = some (.int .i64 x.c.key) ∧ w.cell? ⟨b, o + 4, none⟩ = some (.int .u64 x.c.pa) ∧ w.cell? ⟨b, o + 5, none⟩ = some (.int .u64 x.c.pb) ∧ w.cell? ⟨b, o + 6, none⟩ = some (.int .u64 x.c.hd) ∧ w.cell? ⟨b, o + 7, none⟩ = some (.int .i64 x.c.r) ∧ w.cell? ⟨b, o + 8, none⟩ = some (.int .i64 x.a.e) ∧ w.cell? ⟨b, o + 9, none⟩ = some (.int .u64 x.a.a) ∧ w.cell? ⟨b, o + 10, none⟩ = some (.int .u64 x.a.b) ∧ w.cell? ⟨b, o + 11, none⟩ = some (.int .u64 x.a.h) ∧ w.cell? ⟨b, o + 12, none⟩ = some (.int .i64 x.a.n) ∧ w.cell? ⟨b, o + 13, none⟩ = some (.int .i64 x.a.k) ∧ w.cell? ⟨b, o + 14, none⟩ = some (.int .i64 x.fr) ∧ w.cell? ⟨b, o + 15, none⟩ = some (.int .i64 x.to) :=
  ⟨h 0 (by omega), h 1 (by omega), h 2 (by omega), h 3 (by omega), h 4 (by omega), h 5 (by omega), h 6 (by omega), h 7 (by omega), h 8 (by omega), h 9 (by omega), h 10 (by omega), h 11 (by omega), h 12 (by omega), h 13 (by omega), h 14 (by omega), h 15 (by omega)⟩
def aheadB (x y : Opr) : Bool := decide (0 ≤ x.to) && decide (x.to < y.fr)
theorem r14Ahead_any (x y : Opr) (w : World) : Calls Tryz.prog 18 #[.agg (opF x).toArray, .agg (opF y).toArray] w fun e w' => e = .returned (.bool (aheadB x y)) ∧ Below w.heap.size w w' := by
  have H := Lib.hid (show aheadB x y = (decide (0 ≤ x.to) && decide (x.to < y.fr)) from rfl)
  go_enter Tryz.func18, Tryz.ntmps18
  go_upto_region 1 with fail
  generalize hW : World.alloc _ _ = W
  obtain ⟨hB, hx, hy⟩ := two_cells _ _ _ _ _ W hW
  have p0 : W.cell? ⟨w.heap.size, 15, none⟩ = some (.int .i64 x.to) := hx.cell 15
  have p1 : W.cell? ⟨w.heap.size + 1, 14, none⟩ = some (.int .i64 y.fr) := hy.cell 14
  have HB := Lib.hid hB
  clear hW hx hy hB
  generalize x.to = a at *
  generalize y.fr = b at *
  by_cases h1 : 0 ≤ a
  · by_cases h2 : a < b
    all_goals
      go_wp2_with fail
      go_ret
      exact ⟨by rw [H.out]; simp [h1, h2], HB.out⟩
  · go_wp2_with fail
    go_ret
    exact ⟨by rw [H.out, decide_eq_false (show ¬ 0 ≤ a by omega)]; rfl, HB.out⟩

end Go.Proofs.YtiafjbhekfpkbaaGreatDoor
namespace Go.Proofs.YtiafjbhekfpkbaaGreatDoor
set_option linter.unusedSimpArgs false
set_option linter.unusedVariables false
open Go.ChangeShapes Go.WideShapes Go.ChangeAt Go.RowKit Go.Joins Go.Deep
section
variable {H : Type} {enc : TypeId × Value → H} {P : Program} {w : World} {base : Nat}
theorem choose_below {α : Type} [Inhabited α] {n : Nat} {p : Nat → α → Prop} (h : ∀ i, i < n → ∃ x, p i x) : ∃ f : Nat → α, ∀ i, i < n → p i (f i) := by
  refine ⟨fun i => if hi : i < n then Classical.choose (h i hi) else default, fun i hi => ?_⟩
  show p i (if hi : i < n then _ else _)
  rw [dif_pos hi]
  exact Classical.choose_spec (h i hi)
/-- A slice whose elements have k cells each: V i is the i-th one's cells. -/
theorem open_recs {t e : TypeId} {k : Nat} {r : Reach} {b0 : Nat} {v : Value} {d : DataW H} {ps : List MemPlace} (ht : P.underlying t = some (.slice e)) (hk : P.cellsOf e = k) (hpos : 0 < k)
    (hval : Value.okWide P w r b0 t v) (h : DataW.Trod enc P w base (fun _ => true) true t v d ps) :
    ∃ (A : Option Addr) (n c : Nat) (V : Nat → List Value), v = .slice A n c ∧ n ≤ 9223372036854775807 ∧ RowIs w A (n * k) (fun i => (V (i / k)).getD (i % k) undef) ∧
      ∀ i, i < n → (V i).length = k ∧ ∃ fuel y, DataW.trod enc P w base (fun _ => true) true fuel e (V i) = some y := by
  obtain ⟨A, n, c, rfl⟩ := okWide_slice ht hval
  obtain ⟨fuel, hf⟩ := h
  rcases open_slice ht hf with ⟨hcs, hx⟩ | ⟨a, len, cap, m, n', D, Pl, hcs, _, hl, hm, hmm, _, hx⟩
  · simp [Value.cells] at hcs
    obtain ⟨rfl, rfl, rfl⟩ := hcs
    exact ⟨none, 0, 0, fun _ => [], rfl, by omega, by rw [Nat.zero_mul]; exact RowIs.none_ _ _ _, fun i hi => by omega⟩
  · simp [Value.cells] at hcs
    obtain ⟨rfl, rfl, rfl⟩ := hcs
    rw [hk] at hx
    have hnm : n ≤ m := by rw [hmm]; split <;> omega
    unfold maxLen at hm
    obtain ⟨V, hV⟩ := choose_below (n := n) (p := fun i cs' => w.cells? base (a.add (i * k)) k = some cs' ∧ DataW.trod enc P w base (fun _ => true) true n' e cs' = some (D i, Pl i)) (fun i hi => hx i (by omega))
    have hlen : ∀ i, i < n → (V i).length = k := fun i hi => (World.cells?_some (hV i hi).1).2.1
    refine ⟨some a, n, c, V, rfl, by omega, fun hn => ?_, fun i hi => ⟨hlen i hi, n', _, (hV i hi).2⟩⟩
    have hn0 : 0 < n := Nat.pos_of_mul_pos_right hn |> fun _ => by
      rcases Nat.eq_zero_or_pos n with h0 | h0
      · rw [h0, Nat.zero_mul] at hn; omega
      · exact h0
    have h0 := (World.cells?_some (hV 0 hn0).1).2.2 0 hpos
    rw [List.getElem?_eq_getElem (by rw [hlen 0 hn0]; exact hpos)] at h0
    obtain ⟨b, off, spot⟩ := a
    have hspot : spot = none := by simpa [Addr.add] using World.cell?_spot h0
    subst hspot
    have hcell : ∀ i, i < n * k → w.cell? ⟨b, off + i, none⟩ = some ((V (i / k)).getD (i % k) undef) := fun i hi => by
      have hik : i / k < n := Nat.div_lt_of_lt_mul (by rw [Nat.mul_comm]; exact hi)
      have hmod : i % k < k := Nat.mod_lt _ hpos
      have h1 := (World.cells?_some (hV (i / k) hik).1).2.2 (i % k) hmod
      rw [add_row, add_row] at h1
      rw [show off + i = off + i / k * k + i % k by have := Nat.div_add_mod i k; rw [Nat.mul_comm] at this; omega, h1]
      have hl := hlen (i / k) hik
      rw [List.getElem?_eq_getElem (by omega)]
      simp [List.getD, List.getElem?_eq_getElem (show i % k < (V (i / k)).length by omega)]
    refine ⟨b, off, rfl, ?_, hcell⟩
    exact World.block_lt_of_cell? w _ (hcell 0 hn)
end
end Go.Proofs.YtiafjbhekfpkbaaGreatDoor
namespace Go.Proofs.YtiafjbhekfpkbaaGreatDoor
set_option linter.unusedSimpArgs false
set_option linter.unusedVariables false
open Go.ChangeShapes Go.WideShapes Go.ChangeAt Go.RowKit Go.Joins Go.Deep
set_option maxRecDepth 100000
def I64 (x : Int) : Prop := -9223372036854775808 ≤ x ∧ x ≤ 9223372036854775807
def U64 (x : Int) : Prop := 0 ≤ x ∧ x < 18446744073709551616
/-- What numbers there may be. -/
structure OkCl (x : Cl) : Prop where
  op : I64 x.op
  l : I64 x.l
  key : I64 x.key
  pa : U64 x.pa
  pb : U64 x.pb
  hd : U64 x.hd
  r : I64 x.r
structure OkAn (x : An) : Prop where
  e : I64 x.e
  a : U64 x.a
  b : U64 x.b
  h : U64 x.h
  n : I64 x.n
  k : I64 x.k
structure OkEv (x : Ev) : Prop where
  th : I64 x.th
  c : OkCl x.c
  a : OkAn x.a
structure OkOpr (x : Opr) : Prop where
  th : I64 x.th
  c : OkCl x.c
  a : OkAn x.a
  fr : I64 x.fr
  tt : I64 x.to
section
variable {H : Type} {enc : TypeId × Value → H} {w : World} {base : Nat} {spare : Nat → Bool} {held : Bool}
theorem cell_w {t : TypeId} {n : Nat} {v : Value} {y : DataW H × List MemPlace} (ht : Tryz.prog.underlying t = some (.int .u64)) (h : DataW.trod enc Tryz.prog w base spare held n t [v] = some y) : ∃ x : Int, v = .int .u64 x ∧ U64 x := by
  obtain ⟨x, e, b⟩ := cell_u ht h
  exact ⟨x, e, by unfold U64; omega⟩
theorem cell_b {t : TypeId} {n : Nat} {v : Value} {y : DataW H × List MemPlace} (ht : Tryz.prog.underlying t = some .bool) (h : DataW.trod enc Tryz.prog w base spare held n t [v] = some y) : ∃ x : Bool, v = .bool x := by
  obtain ⟨x, e, _⟩ := DataW.trod_bool ht h
  simp at e
  exact ⟨x, e⟩
theorem trod_pr {fuel : Nat} {v0 v1 : Value} {y : DataW H × List MemPlace} (h : DataW.trod enc Tryz.prog w base spare held fuel 31 [v0, v1] = some y) : ∃ a b : Int, v0 = .int .u64 a ∧ v1 = .int .u64 b ∧ U64 a ∧ U64 b := by
  have ku : Tryz.prog.cellsOf 29 = 1 := by kernel_rfl
  obtain ⟨xs, n, _, hx, hl, hlen, hg⟩ := DataW.trod_struct Tryz.underlying31 h
  match xs, hlen with
  | [y0, y1], _ =>
    have g0 : DataW.trod enc Tryz.prog w base spare held n 29 [v0] = some y0 := by have := hg 0 _ rfl; simpa [ku] using this
    have g1 : DataW.trod enc Tryz.prog w base spare held n 29 [v1] = some y1 := by have := hg 1 _ rfl; simpa [ku] using this
    obtain ⟨a, ea, ba⟩ := cell_w Tryz.underlying29 g0
    obtain ⟨b, eb, bb⟩ := cell_w Tryz.underlying29 g1
    exact ⟨a, b, ea, eb, ba, bb⟩
theorem trod_cl {fuel : Nat} {cs : List Value} {y : DataW H × List MemPlace} (h : DataW.trod enc Tryz.prog w base spare held fuel 33 cs = some y) : ∃ x : Cl, cs = (clC x).toList ∧ OkCl x := by
  have ki : Tryz.prog.cellsOf 3 = 1 := by kernel_rfl
  have kl : Tryz.prog.cellsOf 2 = 1 := by kernel_rfl
  have ku : Tryz.prog.cellsOf 29 = 1 := by kernel_rfl
  have kp : Tryz.prog.cellsOf 31 = 2 := by kernel_rfl
  have kc : Tryz.prog.cellsOf 33 = 7 := by kernel_rfl
  obtain ⟨xs, n, _, hx, hl, hlen, hg⟩ := DataW.trod_struct Tryz.underlying33 h
  rw [kc] at hl
  match cs, hl with
  | [v0, v1, v2, v3, v4, v5, v6], _ =>
    match xs, hlen with
    | [y0, y1, y2, y3, y4, y5], _ =>
      have g0 : DataW.trod enc Tryz.prog w base spare held n 3 [v0] = some y0 := by have := hg 0 _ rfl; simpa [ki] using this
      have g1 : DataW.trod enc Tryz.prog w base spare held n 3 [v1] = some y1 := by have := hg 1 _ rfl; simpa [ki] using this
      have g2 : DataW.trod enc Tryz.prog w base spare held n 2 [v2] = some y2 := by have := hg 2 _ rfl; simpa [ki, kl] using this
      have g3 : DataW.trod enc Tryz.prog w base spare held n 31 [v3, v4] = some y3 := by have := hg 3 _ rfl; simpa [ki, kl, kp] using this
      have g4 : DataW.trod enc Tryz.prog w base spare held n 29 [v5] = some y4 := by have := hg 4 _ rfl; simpa [ki, kl, kp, ku] using this
      have g5 : DataW.trod enc Tryz.prog w base spare held n 3 [v6] = some y5 := by have := hg 5 _ rfl; simpa [ki, kl, kp, ku] using this
      obtain ⟨x0, e0, b0⟩ := cell_i Tryz.underlying3 g0
      obtain ⟨x1, e1, b1⟩ := cell_i Tryz.underlying3 g1
      obtain ⟨x2, e2, b2⟩ := cell_i Tryz.underlying2 g2
      obtain ⟨x3, x4, e3, e4, b3, b4⟩ := trod_pr g3
      obtain ⟨x5, e5, b5⟩ := cell_w Tryz.underlying29 g4
      obtain ⟨x6, e6, b6⟩ := cell_i Tryz.underlying3 g5
      subst e0 e1 e2 e3 e4 e5 e6
      exact ⟨⟨x0, x1, x2, x3, x4, x5, x6⟩, rfl, b0, b1, b2, b3, b4, b5, b6⟩
theorem trod_an {fuel : Nat} {cs : List Value} {y : DataW H × List MemPlace} (h : DataW.trod enc Tryz.prog w base spare held fuel 36 cs = some y) : ∃ x : An, cs = (anC x).toList ∧ OkAn x := by
  have ke : Tryz.prog.cellsOf 34 = 1 := by kernel_rfl
  have ki : Tryz.prog.cellsOf 3 = 1 := by kernel_rfl
  have kl : Tryz.prog.cellsOf 2 = 1 := by kernel_rfl
  have ku : Tryz.prog.cellsOf 29 = 1 := by kernel_rfl
  have kp : Tryz.prog.cellsOf 31 = 2 := by kernel_rfl
  have kc : Tryz.prog.cellsOf 36 = 6 := by kernel_rfl
  obtain ⟨xs, n, _, hx, hl, hlen, hg⟩ := DataW.trod_struct Tryz.underlying36 h
  rw [kc] at hl
  match cs, hl with
  | [v0, v1, v2, v3, v4, v5], _ =>
    match xs, hlen with
    | [y0, y1, y2, y3, y4], _ =>
      have g0 : DataW.trod enc Tryz.prog w base spare held n 34 [v0] = some y0 := by have := hg 0 _ rfl; simpa [ke] using this
      have g1 : DataW.trod enc Tryz.prog w base spare held n 31 [v1, v2] = some y1 := by have := hg 1 _ rfl; simpa [ke, kp] using this
      have g2 : DataW.trod enc Tryz.prog w base spare held n 29 [v3] = some y2 := by have := hg 2 _ rfl; simpa [ke, kp, ku] using this
      have g3 : DataW.trod enc Tryz.prog w base spare held n 3 [v4] = some y3 := by have := hg 3 _ rfl; simpa [ke, kp, ku, ki] using this
      have g4 : DataW.trod enc Tryz.prog w base spare held n 2 [v5] = some y4 := by have := hg 4 _ rfl; simpa [ke, kp, ku, ki, kl] using this
      obtain ⟨x0, e0, b0⟩ := cell_i Tryz.underlying34 g0
      obtain ⟨x1, x2, e1, e2, b1, b2⟩ := trod_pr g1
      obtain ⟨x3, e3, b3⟩ := cell_w Tryz.underlying29 g2
      obtain ⟨x4, e4, b4⟩ := cell_i Tryz.underlying3 g3
      obtain ⟨x5, e5, b5⟩ := cell_i Tryz.underlying2 g4
      subst e0 e1 e2 e3 e4 e5
      exact ⟨⟨x0, x1, x2, x3, x4, x5⟩, rfl, b0, b1, b2, b3, b4, b5⟩
theorem trod_opr {fuel : Nat} {cs : List Value} {y : DataW H × List MemPlace} (h : DataW.trod enc Tryz.prog w base spare held fuel 38 cs = some y) : ∃ x : Opr, cs = opF x ∧ OkOpr x := by
  have ki : Tryz.prog.cellsOf 3 = 1 := by kernel_rfl
  have kc : Tryz.prog.cellsOf 33 = 7 := by kernel_rfl
  have ka : Tryz.prog.cellsOf 36 = 6 := by kernel_rfl
  have ke : Tryz.prog.cellsOf 38 = 16 := by kernel_rfl
  obtain ⟨xs, n, _, hx, hl, hlen, hg⟩ := DataW.trod_struct Tryz.underlying38 h
  rw [ke] at hl
  match cs, hl with
  | [v0, v2, v3, v4, v5, v6, v7, v8, v9, v10, v11, v12, v13, v14, v15, v16], _ =>
    match xs, hlen with
    | [y0, y2, y3, y4, y5], _ =>
      have g0 : DataW.trod enc Tryz.prog w base spare held n 3 [v0] = some y0 := by have := hg 0 _ rfl; simpa [ki] using this
      have g2 : DataW.trod enc Tryz.prog w base spare held n 33 [v2, v3, v4, v5, v6, v7, v8] = some y2 := by have := hg 1 _ rfl; simpa [ki, kc] using this
      have g3 : DataW.trod enc Tryz.prog w base spare held n 36 [v9, v10, v11, v12, v13, v14] = some y3 := by have := hg 2 _ rfl; simpa [ki, kc, ka] using this
      have g4 : DataW.trod enc Tryz.prog w base spare held n 3 [v15] = some y4 := by have := hg 3 _ rfl; simpa [ki, kc, ka] using this
      have g5 : DataW.trod enc Tryz.prog w base spare held n 3 [v16] = some y5 := by have := hg 4 _ rfl; simpa [ki, kc, ka] using this
      obtain ⟨x0, e0, b0⟩ := cell_i Tryz.underlying3 g0
      obtain ⟨x2, e2, b2⟩ := trod_cl g2
      obtain ⟨x3, e3, b3⟩ := trod_an g3
      obtain ⟨x4, e4, b4⟩ := cell_i Tryz.underlying3 g4
      obtain ⟨x5, e5, b5⟩ := cell_i Tryz.underlying3 g5
      simp only [clC, anC, List.cons.injEq, and_true] at e2 e3
      obtain ⟨rfl, rfl, rfl, rfl, rfl, rfl, rfl⟩ := e2
      obtain ⟨rfl, rfl, rfl, rfl, rfl, rfl⟩ := e3
      subst e0 e4 e5
      exact ⟨⟨x0, x2, x3, x4, x5⟩, rfl, b0, b2, b3, b4, b5⟩
theorem open_opr {r : Reach} {b0 : Nat} {v : Value} {d : DataW H} {ps : List MemPlace} (hval : Value.okWide Tryz.prog w r b0 38 v) (h : DataW.Trod enc Tryz.prog w base spare held 38 v d ps) :
    ∃ x : Opr, v = .agg (opF x).toArray ∧ OkOpr x := by
  obtain ⟨cs, rfl, hsz⟩ := okWide_struct Tryz.underlying38 hval
  obtain ⟨fuel, hf⟩ := h
  obtain ⟨x, h1, h2⟩ := trod_opr (cs := cs.toList) hf
  exact ⟨x, by rw [← h1], h2⟩
/-- A slice whose elements are told by f, k cells each. -/
theorem open_flat {α : Type} [Inhabited α] {f : α → List Value} {ok : α → Prop} {t e : TypeId} {k : Nat} (ht : Tryz.prog.underlying t = some (.slice e)) (hk : Tryz.prog.cellsOf e = k) (hpos : 0 < k) (hf : ∀ x, (f x).length = k)
    (hel : ∀ {fuel : Nat} {cs : List Value} {y : DataW H × List MemPlace}, DataW.trod enc Tryz.prog w base (fun _ => true) true fuel e cs = some y → ∃ x, cs = f x ∧ ok x)
    {r : Reach} {b0 : Nat} {v : Value} {d : DataW H} {ps : List MemPlace} (hval : Value.okWide Tryz.prog w r b0 t v) (h : DataW.Trod enc Tryz.prog w base (fun _ => true) true t v d ps) :
    ∃ (A : Option Addr) (c : Nat) (L : List α), v = .slice A L.length c ∧ L.length ≤ 9223372036854775807 ∧ LiesC w A (flatF f L) ∧ ∀ i, i < L.length → ok (L.getD i default) := by
  obtain ⟨A, n, c, V, rfl, hn, hr, hV⟩ := open_recs ht hk hpos hval h
  obtain ⟨O, hO⟩ := choose_below (n := n) (p := fun i x => V i = f x ∧ ok x) (fun i hi => by
    obtain ⟨hl, fuel, y, hy⟩ := hV i hi
    exact hel hy)
  have hlen : ((List.range n).map O).length = n := by simp
  have hn' : ∀ i, i < n → ((List.range n).map O).getD i default = O i := fun i hi => by simp [List.getD, hi]
  refine ⟨A, c, (List.range n).map O, by rw [hlen], by omega, ?_, fun i hi => by rw [hlen] at hi; rw [hn' i hi]; exact (hO i hi).2⟩
  by_cases h0 : 0 < n
  · obtain ⟨b, off, rfl, hb, hx⟩ := hr (Nat.mul_pos h0 hpos)
    refine .inr ⟨b, off, rfl, hb, fun j u hj => ?_⟩
    have hjl : j < n * k := by
      rcases Nat.lt_or_ge j (n * k) with h | h
      · exact h
      · rw [List.getElem?_eq_none (by rw [flatF_length hf, hlen]; exact h)] at hj; cases hj
    have h3 : j % k < k := Nat.mod_lt _ hpos
    have hq : j / k < n := Nat.div_lt_of_lt_mul (by rw [Nat.mul_comm]; exact hjl)
    have he : j = j / k * k + j % k := by have := Nat.div_add_mod j k; rw [Nat.mul_comm] at this; omega
    have hg := flatF_get (f := f) hf ((List.range n).map O) (j / k) (j % k) (by rw [hlen]; exact hq) h3
    rw [hn' _ hq, ← he, hj] at hg
    rw [hx j hjl, hg]
    show some ((V (j / k)).getD (j % k) undef) = _
    rw [(hO _ hq).1]
    simp [List.getD, List.getElem?_eq_getElem (show j % k < (f (O (j / k))).length by rw [hf]; exact h3)]
  · obtain rfl : n = 0 := by omega
    exact .inl rfl
theorem open_opers {r : Reach} {b0 : Nat} {v : Value} {d : DataW H} {ps : List MemPlace} (hval : Value.okWide Tryz.prog w r b0 22 v) (h : DataW.Trod enc Tryz.prog w base (fun _ => true) true 22 v d ps) :
    ∃ (A : Option Addr) (c : Nat) (L : List Opr), v = .slice A L.length c ∧ L.length ≤ 9223372036854775807 ∧ LiesC w A (flatF opF L) ∧ ∀ i, i < L.length → OkOpr (oprN L i) :=
  open_flat Tryz.underlying22 (by kernel_rfl) (by omega) opF_len trod_opr hval h
end
end Go.Proofs.YtiafjbhekfpkbaaGreatDoor
namespace Go.Proofs.YtiafjbhekfpkbaaGreatDoor
set_option linter.unusedSimpArgs false
set_option linter.unusedVariables false
open Go.ChangeShapes Go.WideShapes Go.ChangeAt Go.RowKit

/-- At which of the first j places a number stands first; -1: at none. -/
def posUp (O : List Int) (n : Int) : Nat → Int
  | 0 => -1
  | j + 1 => bif decide (posUp O n j < 0) && decide (O.getD j 0 = n) then (j : Int) else posUp O n j
def posN (O : List Int) (n : Int) : Int := posUp O n O.length
theorem posUp_succ (O : List Int) (n : Int) (j : Nat) : posUp O n (j + 1) = bif decide (posUp O n j < 0) && decide (O.getD j 0 = n) then (j : Int) else posUp O n j := rfl
theorem posUp_bounds (O : List Int) (n : Int) : ∀ j : Nat, -1 ≤ posUp O n j ∧ posUp O n j < j
  | 0 => ⟨by show (-1 : Int) ≤ -1; omega, by show (-1 : Int) < 0; omega⟩
  | j + 1 => by
    have := posUp_bounds O n j
    rw [posUp_succ]
    cases decide (posUp O n j < 0) && decide (O.getD j 0 = n) <;> simp only [cond] <;> omega
theorem posUp_stable {O : List Int} {n : Int} {j : Nat} (h : 0 ≤ posUp O n j) : ∀ k, posUp O n (j + k) = posUp O n j
  | 0 => rfl
  | k + 1 => by
    have ih := posUp_stable h k
    rw [show j + (k + 1) = j + k + 1 from rfl, posUp_succ, ih, decide_eq_false (by omega), Bool.false_and]; rfl
theorem posUp_none {O : List Int} {n : Int} : ∀ {j : Nat}, (∀ i, i < j → O.getD i 0 ≠ n) → posUp O n j = -1
  | 0, _ => rfl
  | j + 1, h => by rw [posUp_succ, decide_eq_false (h j (by omega)), Bool.and_false]; exact posUp_none fun i hi => h i (by omega)
theorem posN_at {O : List Int} {n : Int} {k : Nat} (hk : k < O.length) (h : ∀ i, i < k → O.getD i 0 ≠ n) (he : O.getD k 0 = n) : posN O n = k := by
  have h1 : posUp O n (k + 1) = k := by rw [posUp_succ, posUp_none h, decide_eq_true he]; rfl
  have h2 := posUp_stable (O := O) (n := n) (j := k + 1) (by rw [h1]; omega) (O.length - (k + 1))
  rw [show k + 1 + (O.length - (k + 1)) = O.length by omega, h1] at h2
  exact h2
theorem r16In_any (A : Option Addr) (c : Nat) (O : List Int) (hO : O.length ≤ 1000000) (n : Int) (w : World) (ha : LiesC w A (flatI O)) :
    Calls Tryz.prog 17 #[.slice A O.length c, .int .i64 n] w fun e w' => e = .returned (.int .i64 (posN O n)) ∧ w = w' := by
  have HA := Lib.hid ha
  clear ha
  generalize hm : O.length = m at *
  go_enter Tryz.func17, Tryz.ntmps17
  go_wp2_with fail
  go_loopw [5] (fun i wr => ∃ k : Nat, i = .int .i64 k ∧ k ≤ m ∧ w = wr ∧ ∀ i, i < k → O.getD i 0 ≠ n) (fun i _ => m - (intOf i).toNat)
  case atStart => exact ⟨0, rfl, Nat.zero_le _, rfl, fun i hi => by omega⟩
  case round =>
    obtain ⟨k, rfl, hk, rfl, he⟩ := hrel
    by_cases hlt : k < m
    · obtain ⟨b, off, rfl, _, hx⟩ := HA.out.atI (by omega)
      have p0 := hx k (by omega)
      have HE := Lib.hid he
      clear hx he
      by_cases h : O.getD k 0 = n
      · have HF := Lib.hid (posN_at (by omega) HE.out h)
        generalize O.getD k 0 = x at *
        subst h
        go_wp2_with fail
        go_ret
        exact ⟨by rw [HF.out]; rfl, rfl⟩
      · have HS : Hid (∀ i, i < k + 1 → O.getD i 0 ≠ n) := Lib.hid fun i hi => by
          rcases Nat.lt_or_ge i k with h1 | h1
          · exact HE.out i h1
          · obtain rfl : i = k := by omega
            exact h
        generalize O.getD k 0 = x at *
        go_wp2_with fail
        go_roundw
        case rel => exact ⟨k + 1, by go_num, by omega, trivial, HS.out⟩
        case measure => simp [intOf]; omega
    · obtain rfl : k = m := by omega
      have HF : Hid (posN O n = -1) := Lib.hid (by unfold posN; rw [hm]; exact posUp_none he)
      clear he
      go_wp2_with fail
      go_ret
      exact ⟨by rw [HF.out]; rfl, rfl⟩
end Go.Proofs.YtiafjbhekfpkbaaGreatDoor
