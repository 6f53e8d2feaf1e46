/- Cells that lie side by side, and slices of them: what a line is made of. -/
import Derived.Test.YtodomchanaaonaaFrame
import Derived.Deep.AppendLies
import Derived.Deep.RegionLaw
import Derived.Laws.StructEq
namespace Go.Proofs.Ytodomchanaaonaa
open Go.ChangeShapes Go.WideShapes Go.ChangeAt Go.RowKit

/-- These cells lie in memory, from a slice's address on. -/
def LiesC (w : World) (A : Option Addr) (cs : List Value) : Prop :=
  cs = [] ∨ ∃ b off, A = some ⟨b, off, none⟩ ∧ b < w.heap.size ∧ ∀ j v, cs[j]? = some v → w.cell? ⟨b, off + j, none⟩ = some v
section
variable {w w' : World} {A : Option Addr} {cs : List Value}
theorem LiesC.nil_ (w : World) (A : Option Addr) : LiesC w A [] := .inl rfl
theorem LiesC.keep (h : LiesC w A cs) (hb : Below w.heap.size w w') : LiesC w' A cs := by
  rcases h with h | ⟨b, off, rfl, hlt, hc⟩
  · exact .inl h
  · exact .inr ⟨b, off, rfl, Nat.lt_of_lt_of_le hlt hb.size, fun j v hj => by rw [hb.cell (p := ⟨b, off + j, none⟩) hlt]; exact hc j v hj⟩
theorem LiesC.drew (h : LiesC w A cs) : LiesC w.drew A cs := h.keep (Below.refl _ _).drew
theorem LiesC.alloc (h : LiesC w A cs) (o : Obj) : LiesC (w.alloc o) A cs := h.keep ((Below.refl _ _).alloc (Nat.le_refl _) _)
theorem LiesC.some_ (h : LiesC w A cs) (hn : 0 < cs.length) : ∃ b off, A = some ⟨b, off, none⟩ ∧ b < w.heap.size ∧ ∀ j v, cs[j]? = some v → w.cell? ⟨b, off + j, none⟩ = some v := by
  rcases h with rfl | h
  · simp at hn
  · exact h
/-- Other blocks turned. -/
theorem LiesC.only {F : Nat → Prop} (h : LiesC w A cs) (ho : Only F w w') (hn : ∀ a, A = some a → ¬ F a.block) : LiesC w' A cs := by
  rcases h with h | ⟨b, off, rfl, hlt, hc⟩
  · exact .inl h
  · exact .inr ⟨b, off, rfl, Nat.lt_of_lt_of_le hlt ho.size, fun j v hj => (only_cell ho (a := ⟨b, off + j, none⟩) hlt (hn ⟨b, off, none⟩ rfl)).trans (hc j v hj)⟩
theorem LiesC.news {a : Addr} (h : LiesC w (some a) cs) : ∀ j u, cs[j]? = some u → w.cell? (a.add j) = some u := by
  intro j u hj
  rcases h with rfl | ⟨b, off, e, _, hc⟩
  · simp at hj
  · cases e
    rw [add_row]
    exact hc j u hj
theorem LiesC.drop {b off k : Nat} (h : LiesC w (some ⟨b, off, none⟩) cs) : LiesC w (some ⟨b, off + k, none⟩) (cs.drop k) := by
  rcases h with rfl | ⟨b, off, e, hlt, hc⟩
  · left; simp
  · cases e
    refine .inr ⟨b, off + k, rfl, hlt, fun j v hj => ?_⟩
    rw [List.getElem?_drop] at hj
    rw [Nat.add_assoc]
    exact hc _ v hj
end

/-- A slice of n elements whose cells are these. -/
def LnIs (w : World) (v : Value) (n : Nat) (cs : List Value) : Prop :=
  ∃ A c, v = .slice A n c ∧ n ≤ c ∧ c ≤ maxLen ∧ (A = none → c = 0) ∧ LiesC w A cs ∧ ∀ a, A = some a → a.block < w.heap.size
section
variable {w w' : World} {v : Value} {n : Nat} {cs : List Value}
theorem LnIs.keep (h : LnIs w v n cs) (hb : Below w.heap.size w w') : LnIs w' v n cs := by
  obtain ⟨A, c, h1, h2, h3, h4, h5, h6⟩ := h
  exact ⟨A, c, h1, h2, h3, h4, h5.keep hb, fun a e => Nat.lt_of_lt_of_le (h6 a e) hb.size⟩
theorem LnIs.block (h : LnIs w v n cs) : ∀ k, v.ownBlock = some k → k < w.heap.size := by
  obtain ⟨A, c, rfl, h2, h3, h4, h5, h6⟩ := h
  intro k hk
  cases A with
  | none => cases hk
  | some a => cases hk; exact h6 a rfl
theorem lnIs_of_own {base size : Nat} {e : TypeId} (h : w.ownsRow base e size v n cs) : LnIs w v n cs := by
  rcases h.2 with ⟨rfl, rfl⟩ | ⟨g, cap, cur, rfl, hb, hg, hle, hm, hs, ht⟩
  · have h0 : cs = [] := by have := h.1; rw [Nat.zero_mul] at this; exact List.eq_nil_of_length_eq_zero this
    exact ⟨none, 0, rfl, by omega, by unfold maxLen; omega, (fun _ => rfl), .inl h0, (fun a e => by cases e)⟩
  · refine ⟨some ⟨g, 0, none⟩, cap, rfl, hle, hm, (fun e => nomatch e), .inr ⟨g, 0, rfl, ?_, fun j u hj => ?_⟩, (fun a e => by cases e; exact (Array.getElem?_eq_some_iff.1 hg).1)⟩
    · exact (Array.getElem?_eq_some_iff.1 hg).1
    · rw [Nat.zero_add, cell_of_row w g j cur e (0, 0) hg]
      rw [← ht, List.getElem?_take] at hj
      split at hj
      · simpa using hj
      · cases hj
end
/-- A slice's block is B or a later one. -/
def Far (B : Nat) (v : Value) : Prop := ∀ k, v.ownBlock = some k → B ≤ k
theorem Far.mono {B B' : Nat} {v : Value} (h : Far B v) (hb : B' ≤ B) : Far B' v := fun k hk => Nat.le_trans hb (h k hk)
theorem far_of_own {w : World} {base size n : Nat} {e : TypeId} {v : Value} {cs : List Value} (h : w.ownsRow base e size v n cs) : Far base v := fun k hk => (h.lt k hk).1
theorem LnIs.only {F : Nat → Prop} {w w' : World} {v : Value} {n : Nat} {cs : List Value} (h : LnIs w v n cs) (ho : Only F w w') (hn : ∀ k, v.ownBlock = some k → ¬ F k) : LnIs w' v n cs := by
  obtain ⟨A, c, rfl, h2, h3, h4, h5, h6⟩ := h
  exact ⟨A, c, rfl, h2, h3, h4, h5.only ho (fun a e => hn _ (by rw [e]; rfl)), fun a e => Nat.lt_of_lt_of_le (h6 a e) ho.size⟩
/-- A block that holds just these cells. -/
def Cells (w : World) (B : Nat) (t : TypeId) (cs : List Value) : Prop := w.heap[B]? = some (.cells cs.toArray t (0, 0))
section
variable {w w' : World} {B : Nat} {t : TypeId} {cs : List Value}
theorem Cells.lt (h : Cells w B t cs) : B < w.heap.size := (Array.getElem?_eq_some_iff.1 h).1
theorem Cells.new (w : World) (cs : Array Value) (t : TypeId) : Cells (w.alloc (.cells cs t)) w.heap.size t cs.toList := heap_alloc_new w _
theorem Cells.cell (h : Cells w B t cs) (i : Nat) : w.cell? ⟨B, i, none⟩ = cs[i]? := by
  rw [cell_of_row w B i _ t (0, 0) h]; simp
theorem Cells.cell0 {u : Value} {r : List Value} (h : Cells w B t (u :: r)) : w.cell? ⟨B, 0, none⟩ = some u := h.cell 0
theorem Cells.cell1 {u v : Value} {r : List Value} (h : Cells w B t (u :: v :: r)) : w.cell? ⟨B, 1, none⟩ = some v := h.cell 1
theorem Cells.frozen (h : Cells w B t cs) (i : Nat) : w.frozen? ⟨B, i, none⟩ = false := by simp [World.frozen?, show w.heap[B]? = _ from h]
theorem Cells.keep (h : Cells w B t cs) (hb : Below w.heap.size w w') : Cells w' B t cs := (hb.block B h.lt).trans h
theorem Cells.only {F : Nat → Prop} (h : Cells w B t cs) (ho : Only F w w') (hn : ¬ F B) : Cells w' B t cs := (ho.2 B h.lt hn).trans h
theorem Cells.alloc (h : Cells w B t cs) (o : Obj) : Cells (w.alloc o) B t cs := (Below.heap_alloc w o B h.lt).trans h
theorem Cells.drew (h : Cells w B t cs) : Cells w.drew B t cs := h
theorem Cells.set_ (h : Cells w B t cs) (i : Nat) (u : Value) : Cells (w.setCell ⟨B, i, none⟩ u) B t (cs.set i u) := by
  unfold Cells at h ⊢
  simp [World.setCell, Array.getElem?_modify, h]
theorem Cells.far (h : Cells w B t cs) {p : Addr} (hp : B ≠ p.block) (u : Value) : Cells (w.setCell p u) B t cs := (Below.heap_setCell w p u B hp).trans h
theorem Cells.news (h : Cells w B t cs) : ∀ j u, cs[j]? = some u → w.cell? ((⟨B, 0, none⟩ : Addr).add j) = some u := fun j u hj => by
  rw [add_row, Nat.zero_add, h.cell]; exact hj
end
theorem below_new {w w' : World} {o : Obj} {row : Option Nat} (hg : (w.alloc o).grownBy w' row) (hr : row = some w.heap.size) : Below w.heap.size w w' :=
  below_grown ((Below.refl _ w).alloc (Nat.le_refl _) o) hg (by intro k hk; rw [hr] at hk; cases hk; exact Nat.le_refl _) (by simp)
theorem below_grown0 {B : Nat} {w0 w w' : World} (h : Below B w0 w) (hb : w.grownBy w' none) (hB : B ≤ w.heap.size) : Below B w0 w' := below_grown h hb (fun k hk => by cases hk) hB

/-- append onto a row of the call's own, as one step of a region that draws. -/
theorem step_append_own {P : Program} {ops : Array Oper} {o : Oper} {a : Act} {w : World} {K : Act → World → Prop} {Q : Exit → Act → World → Prop} {E : Prop} (hgd : o.guard = none) (s x : Operand) (t : TypeId)
    (ho : o.op = .call { callee := .builtin .append, args := #[s, x], argTypes := #[t, t] })
    (base : Nat) (e : TypeId) (i : TypeInfo) (z : Value) (size bytes : Nat) (ht : P.underlying t = some (.slice e)) (hi : P.info? e = some i) (hz : i.zero = some z)
    (hsize : i.size = size) (hby : i.bytes = bytes) (hzs : z.cells.size = size) (hsz : 0 < size)
    (v : Value) (n : Nat) (xs : List Value) (hs : a.eval s = v) (hown : w.ownsRow base e size v n xs)
    (ad : Addr) (m c : Nat) (news : List Value) (hx : a.eval x = .slice (some ad) m c) (hl : news.length = m * size) (hnews : ∀ j u, news[j]? = some u → w.cell? (ad.add j) = some u) (h1 : ∀ u ∈ news, u.oneCell' = true)
    (h63 : n + m ≤ maxLen) (hbytes : (n + m) * bytes ≤ 140737488355328) (hbase : base ≤ w.heap.size)
    (h : ∀ v' w', w'.ownsRow base e size v' (n + m) (xs ++ news) → w.grownBy w' v.ownBlock → K (a.put o.dst v') w') :
    if Region.wanted o (yielded ops a.tmps) = true then Oper.wp P o a w K Q else E := by
  have hw : Region.wanted o (yielded ops a.tmps) = true := by simp [Region.wanted, hgd]
  rw [if_pos hw]
  exact wp_append_own w s x t ho base e i z size bytes ht hi hz hsize hby hzs hsz v n xs hs hown ad m c news hx hl hnews h1 h63 hbytes hbase fun v' w' h2 h3 _ => h v' w' h2 h3

/-! ### Pairs -/
structure Pr where
  a : Nat
  b : Nat
deriving DecidableEq, Inhabited
def flatP : List Pr → List Value
  | [] => []
  | x :: l => .int .u64 (x.a : Nat) :: .int .u64 (x.b : Nat) :: flatP l
def nthP (L : List Pr) (i : Nat) : Pr := L.getD i ⟨0, 0⟩
def prV (x : Pr) : Value := .agg #[.int .u64 (x.a : Nat), .int .u64 (x.b : Nat)]
theorem flatP_length : ∀ L : List Pr, (flatP L).length = L.length * 2
  | [] => rfl
  | x :: l => by simp only [flatP, List.length_cons, flatP_length l]; omega
theorem flatP_append : ∀ L M : List Pr, flatP (L ++ M) = flatP L ++ flatP M
  | [], _ => rfl
  | x :: l, M => by simp only [List.cons_append, flatP, flatP_append l M]
theorem flatP_one : ∀ L : List Pr, ∀ u ∈ flatP L, u.oneCell' = true
  | [], _, h => by simp [flatP] at h
  | x :: l, u, h => by
    simp only [flatP, List.mem_cons] at h
    rcases h with rfl | rfl | h
    · rfl
    · rfl
    · exact flatP_one l u h
theorem flatP_drop : ∀ (L : List Pr) (i : Nat), flatP (L.drop i) = (flatP L).drop (i * 2)
  | [], i => by simp [flatP]
  | x :: l, 0 => by simp [flatP]
  | x :: l, i + 1 => by rw [show (i + 1) * 2 = i * 2 + 1 + 1 by omega]; simp only [List.drop_succ_cons, flatP, flatP_drop l i]
theorem flatP_get : ∀ (L : List Pr) (i : Nat), i < L.length → (flatP L)[i * 2]? = some (.int .u64 ((nthP L i).a : Nat)) ∧ (flatP L)[i * 2 + 1]? = some (.int .u64 ((nthP L i).b : Nat))
  | x :: l, 0, _ => ⟨rfl, rfl⟩
  | x :: l, i + 1, h => by
    have ih := flatP_get l i (by simpa using h)
    rw [show nthP (x :: l) (i + 1) = nthP l i from rfl, show (i + 1) * 2 = i * 2 + 1 + 1 by omega]
    exact ih
theorem nthP_ext {L M : List Pr} (hl : L.length = M.length) (h : ∀ i, i < L.length → nthP L i = nthP M i) : L = M := by
  apply List.ext_getElem? ; intro i
  by_cases hi : i < L.length
  · have := h i hi
    simp only [nthP, List.getD, List.getElem?_eq_getElem hi, List.getElem?_eq_getElem (show i < M.length by omega), Option.getD_some] at this
    rw [List.getElem?_eq_getElem hi, List.getElem?_eq_getElem (show i < M.length by omega), this]
  · rw [List.getElem?_eq_none (by omega), List.getElem?_eq_none (by omega)]
theorem LiesC.atP {w : World} {A : Option Addr} {L : List Pr} (h : LiesC w A (flatP L)) (hn : 0 < L.length) : ∃ b off, A = some ⟨b, off, none⟩ ∧ b < w.heap.size ∧ ∀ i, i < L.length → w.cell? ⟨b, off + i * 2, none⟩ = some (.int .u64 ((nthP L i).a : Nat)) ∧ w.cell? ⟨b, off + i * 2 + 1, none⟩ = some (.int .u64 ((nthP L i).b : Nat)) := by
  obtain ⟨b, off, rfl, hlt, hc⟩ := h.some_ (by rw [flatP_length]; omega)
  refine ⟨b, off, rfl, hlt, fun i hi => ?_⟩
  obtain ⟨h0, h1⟩ := flatP_get L i hi
  exact ⟨hc _ _ h0, by rw [Nat.add_assoc]; exact hc _ _ h1⟩
section
variable (w : World)
theorem eqFields_pr (p q r s : Int) : (Op.equalIn 10000 28 (.agg #[.int .u64 p, .int .u64 q]) (.agg #[.int .u64 r, .int .u64 s])).run Try.prog w = .ok (p == r && q == s) w := by
  have hU : ∀ d (y z : Int), (Op.equalIn (d + 1) 26 (.int .u64 y) (.int .u64 z)).run Try.prog w = .ok (y == z) w := fun d y z => run_equalIn_int w d _ .u64 .u64 y z Try.underlying26
  have hhp : Try.prog.underlying 28 = some (.struct (Try.prog.fieldsOf 28)) := by simp only [Program.fieldsOf, Try.underlying28]
  have p0 : ∀ (p q : Int), (part 26 #[.int .u64 p, .int .u64 q] 0).run Try.prog w = .ok (.int .u64 p) w := fun p q => by simp [part, isAgg, run_underlying Try.underlying26]
  have p1 : ∀ (p q : Int), (part 26 #[.int .u64 p, .int .u64 q] 1).run Try.prog w = .ok (.int .u64 q) w := fun p q => by simp [part, isAgg, run_underlying Try.underlying26]
  rw [run_equalIn_agg w 9999 _ _ _ hhp (by kernel_rfl)]
  simp only [Program.fieldsOf, Try.underlying28, Op.eqFields, Sem.run_ite, Sem.run_bind, p0, p1, Result.andThen_ok, hU]
  cases (p == r) <;> cases (q == s) <;> simp
theorem eqB_pr (x y : Pr) : (((x.a : Int) == (y.a : Int)) && ((x.b : Int) == (y.b : Int))) = decide (x = y) := by
  rcases x with ⟨a, b⟩
  rcases y with ⟨a', b'⟩
  simp only [Pr.mk.injEq, Bool.decide_and]
  congr 1
  · show decide ((a : Int) = (a' : Int)) = decide (a = a')
    exact decide_eq_decide.2 (by omega)
  · show decide ((b : Int) = (b' : Int)) = decide (b = b')
    exact decide_eq_decide.2 (by omega)
theorem neq_pr (x y : Pr) : (binOp .neq 28 (.agg #[.int .u64 (x.a : Nat), .int .u64 (x.b : Nat)]) (.agg #[.int .u64 (y.a : Nat), .int .u64 (y.b : Nat)])).run Try.prog w = .ok (.bool (!decide (x = y))) w := by
  rw [run_neq_struct, eqFields_pr, eqB_pr]; rfl
theorem infoP : ∃ i0, Try.prog.info? 28 = some i0 ∧ i0.zero = some (.agg #[.int .u64 0, .int .u64 0]) ∧ i0.size = 2 ∧ i0.bytes = 16 := by
  have h : (Try.prog.info? 28).map (fun i => (i.zero, i.size, i.bytes)) = some (some (.agg #[.int .u64 0, .int .u64 0]), 2, 16) := by kernel_rfl
  exact info_parts h
end
/-! ### Numbers -/
def flatI (L : List Int) : List Value := L.map fun x => .int .i64 x
theorem flatI_length (L : List Int) : (flatI L).length = L.length * 1 := by simp [flatI]
theorem flatI_one : ∀ L : List Int, ∀ u ∈ flatI L, u.oneCell' = true := fun L u hu => by
  obtain ⟨x, _, rfl⟩ := List.mem_map.1 hu
  rfl
theorem flatI_append (L M : List Int) : flatI (L ++ M) = flatI L ++ flatI M := by simp [flatI]
theorem flatI_drop (L : List Int) (i : Nat) : flatI (L.drop i) = (flatI L).drop (i * 1) := by simp [flatI]
theorem flatI_get (L : List Int) (i : Nat) (h : i < L.length) : (flatI L)[i]? = some (.int .i64 (L.getD i 0)) := by simp [flatI, List.getD, h]
theorem LiesC.atI {w : World} {A : Option Addr} {L : List Int} (h : LiesC w A (flatI L)) (hn : 0 < L.length) : ∃ b off, A = some ⟨b, off, none⟩ ∧ b < w.heap.size ∧ ∀ i, i < L.length → w.cell? ⟨b, off + i, none⟩ = some (.int .i64 (L.getD i 0)) := by
  obtain ⟨b, off, rfl, hlt, hc⟩ := h.some_ (by rw [flatI_length]; omega)
  exact ⟨b, off, rfl, hlt, fun i hi => hc _ _ (flatI_get L i hi)⟩
theorem infoI : ∃ i0, Try.prog.info? 3 = some i0 ∧ i0.zero = some (.int .i64 0) ∧ i0.size = 1 ∧ i0.bytes = 8 := by
  have h : (Try.prog.info? 3).map (fun i => (i.zero, i.size, i.bytes)) = some (some (.int .i64 0), 1, 8) := by kernel_rfl
  exact info_parts h
end Go.Proofs.Ytodomchanaaonaa
