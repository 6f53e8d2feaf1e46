/- Lists of rows: how they lie in memory, and what is done with them. -/
import Derived.Test.YtajkbeihopicnaaFrame
import Derived.Deep.AppendLies
import Derived.Laws.StructEq
namespace Go.Proofs.Ytajkbeihopicnaa
open Go.ChangeShapes Go.WideShapes Go.ChangeAt Go.RowKit

/-- A row: a key, two words. -/
structure Rw where
  k : Int
  a : Nat
  b : Nat
deriving DecidableEq, Inhabited
def rwC (x : Rw) : List Value := [.int .i64 x.k, .int .u64 (x.a : Nat), .int .u64 (x.b : Nat)]
/-- The cells of a list, row by row. -/
def flat : List Rw → List Value
  | [] => []
  | x :: l => .int .i64 x.k :: .int .u64 (x.a : Nat) :: .int .u64 (x.b : Nat) :: flat l
/-- The i-th row. -/
def nth (L : List Rw) (i : Nat) : Rw := L.getD i ⟨0, 0, 0⟩

theorem nth_get {L : List Rw} {i : Nat} (h : i < L.length) : L[i]? = some (nth L i) := by simp [nth, List.getD, h]
theorem nth_cons_zero (x : Rw) (l : List Rw) : nth (x :: l) 0 = x := rfl
theorem nth_cons_succ (x : Rw) (l : List Rw) (i : Nat) : nth (x :: l) (i + 1) = nth l i := rfl
theorem nth_ext {L M : List Rw} (hl : L.length = M.length) (h : ∀ i, i < L.length → nth L i = nth M i) : L = M := by
  apply List.ext_getElem? ; intro i
  by_cases hi : i < L.length
  · rw [nth_get hi, nth_get (by omega), h i hi]
  · rw [List.getElem?_eq_none (by omega), List.getElem?_eq_none (by omega)]
theorem nth_append_left {L M : List Rw} {i : Nat} (h : i < L.length) : nth (L ++ M) i = nth L i := by simp [nth, List.getD, List.getElem?_append_left h]
theorem nth_append_right {L M : List Rw} {i : Nat} (h : L.length ≤ i) : nth (L ++ M) i = nth M (i - L.length) := by simp [nth, List.getD, List.getElem?_append_right h]
theorem nth_take {L : List Rw} {n i : Nat} (h : i < n) : nth (L.take n) i = nth L i := by simp [nth, List.getD, h]
theorem nth_drop (L : List Rw) (n i : Nat) : nth (L.drop n) i = nth L (n + i) := by simp [nth, List.getD]

theorem flat_length : ∀ L : List Rw, (flat L).length = L.length * 3
  | [] => rfl
  | x :: l => by simp only [flat, List.length_cons, flat_length l]; omega
theorem flat_append : ∀ L M : List Rw, flat (L ++ M) = flat L ++ flat M
  | [], _ => rfl
  | x :: l, M => by simp only [List.cons_append, flat, flat_append l M]
theorem flat_take : ∀ (L : List Rw) (i : Nat), flat (L.take i) = (flat L).take (i * 3)
  | [], i => by simp [flat]
  | x :: l, 0 => by simp [flat]
  | x :: l, i + 1 => by rw [show (i + 1) * 3 = i * 3 + 1 + 1 + 1 by omega]; simp only [List.take_succ_cons, flat, flat_take l i]
theorem flat_drop : ∀ (L : List Rw) (i : Nat), flat (L.drop i) = (flat L).drop (i * 3)
  | [], i => by simp [flat]
  | x :: l, 0 => by simp [flat]
  | x :: l, i + 1 => by rw [show (i + 1) * 3 = i * 3 + 1 + 1 + 1 by omega]; simp only [List.drop_succ_cons, flat, flat_drop l i]
theorem flat_one : ∀ L : List Rw, ∀ u ∈ flat L, u.oneCell' = true
  | [], _, h => by simp [flat] at h
  | x :: l, u, h => by
    simp only [flat, List.mem_cons] at h
    rcases h with rfl | rfl | rfl | h
    · rfl
    · rfl
    · rfl
    · exact flat_one l u h
theorem flat_get : ∀ (L : List Rw) (i : Nat), i < L.length → (flat L)[i * 3]? = some (.int .i64 (nth L i).k) ∧ (flat L)[i * 3 + 1]? = some (.int .u64 ((nth L i).a : Nat)) ∧ (flat L)[i * 3 + 2]? = some (.int .u64 ((nth L i).b : Nat))
  | x :: l, 0, _ => ⟨rfl, rfl, rfl⟩
  | x :: l, i + 1, h => by
    have ih := flat_get l i (by simpa using h)
    rw [nth_cons_succ, show (i + 1) * 3 = i * 3 + 1 + 1 + 1 by omega]
    exact ih

/-- A list lies in memory, at a slice's address. -/
def Lies (w : World) (A : Option Addr) (L : List Rw) : Prop :=
  L = [] ∨ ∃ b off, A = some ⟨b, off, none⟩ ∧ b < w.heap.size ∧ ∀ j v, (flat L)[j]? = some v → w.cell? ⟨b, off + j, none⟩ = some v
section
variable {w w' : World} {A : Option Addr} {L : List Rw}
theorem Lies.nil_ (w : World) (A : Option Addr) : Lies w A [] := .inl rfl
theorem Lies.keep (h : Lies w A L) (hb : Below w.heap.size w w') : Lies w' A L := by
  rcases h with h | ⟨b, off, rfl, hlt, hc⟩
  · exact .inl h
  · exact .inr ⟨b, off, rfl, Nat.lt_of_lt_of_le hlt hb.size, fun j v hj => by rw [hb.cell (p := ⟨b, off + j, none⟩) hlt]; exact hc j v hj⟩
theorem Lies.drew (h : Lies w A L) : Lies w.drew A L := h.keep (Below.refl _ _).drew
theorem Lies.alloc (h : Lies w A L) (o : Obj) : Lies (w.alloc o) A L := h.keep ((Below.refl _ _).alloc (Nat.le_refl _) _)
/-- Where it lies, if it holds a row. -/
theorem Lies.some_ (h : Lies w A L) (hn : 0 < L.length) : ∃ b off, A = some ⟨b, off, none⟩ ∧ b < w.heap.size ∧ ∀ j v, (flat L)[j]? = some v → w.cell? ⟨b, off + j, none⟩ = some v := by
  rcases h with rfl | h
  · simp at hn
  · exact h
theorem Lies.at_ (h : Lies w A L) (hn : 0 < L.length) : ∃ b off, A = some ⟨b, off, none⟩ ∧ b < w.heap.size ∧ ∀ i, i < L.length → w.cell? ⟨b, off + i * 3, none⟩ = some (.int .i64 (nth L i).k) ∧ w.cell? ⟨b, off + i * 3 + 1, none⟩ = some (.int .u64 ((nth L i).a : Nat)) ∧ w.cell? ⟨b, off + i * 3 + 2, none⟩ = some (.int .u64 ((nth L i).b : Nat)) := by
  obtain ⟨b, off, rfl, hlt, hc⟩ := h.some_ hn
  refine ⟨b, off, rfl, hlt, fun i hi => ?_⟩
  obtain ⟨h0, h1, h2⟩ := flat_get L i hi
  exact ⟨hc _ _ h0, by rw [Nat.add_assoc]; exact hc _ _ h1, by rw [Nat.add_assoc]; exact hc _ _ h2⟩
theorem Lies.src (h : Lies w A L) (i m : Nat) (hi : i + m ≤ L.length) (hm : 0 < m) : ∃ b off, A = some ⟨b, off, none⟩ ∧ b < w.heap.size ∧ ∀ j v, (flat ((L.drop i).take m))[j]? = some v → w.cell? ⟨b, off + i * 3 + j, none⟩ = some v := by
  obtain ⟨b, off, rfl, hlt, hc⟩ := h.some_ (by omega)
  refine ⟨b, off, rfl, hlt, fun j v hj => ?_⟩
  rw [flat_take, flat_drop] at hj
  have hj' : ((flat L).drop (i * 3))[j]? = some v := by
    rw [List.getElem?_take] at hj
    split at hj
    · exact hj
    · cases hj
  rw [List.getElem?_drop] at hj'
  rw [Nat.add_assoc]
  exact hc _ _ hj'
theorem lies_of_own {base n : Nat} {v : Value} {e : TypeId} (h : w.ownsRow base e 3 v n (flat L)) : ∃ A c, v = .slice A n c ∧ n ≤ c ∧ c ≤ maxLen ∧ Lies w A L := by
  have hn : n = L.length := by have := h.1; rw [flat_length] at this; omega
  subst hn
  rcases h.2 with ⟨rfl, h0⟩ | ⟨g, cap, cur, rfl, hb, hg, hle, hm, hs, ht⟩
  · refine ⟨none, 0, by rw [h0], by omega, by simp [maxLen], .inl (List.length_eq_zero_iff.1 h0)⟩
  · refine ⟨some ⟨g, 0, none⟩, cap, rfl, hle, hm, .inr ⟨g, 0, rfl, ?_, fun j u hj => ?_⟩⟩
    · rcases Nat.lt_or_ge g w.heap.size with hlt | hge
      · exact hlt
      · rw [Array.getElem?_eq_none hge] at hg; cases hg
    · rw [Nat.zero_add, cell_of_row w g j cur e (0, 0) hg]
      rw [← ht, List.getElem?_take] at hj
      split at hj
      · simpa using hj
      · cases hj
end

/-! ### What is done with lists -/
/-- The place of the first row whose key is not less. -/
def findN : List Rw → Int → Nat
  | [], _ => 0
  | x :: l, key => if key ≤ x.k then 0 else findN l key + 1
def isAt (L : List Rw) (key : Int) : Bool := decide (findN L key < L.length) && decide ((nth L (findN L key)).k = key)
def putL (L : List Rw) (x : Rw) : List Rw := bif isAt L x.k then L else L.take (findN L x.k) ++ x :: L.drop (findN L x.k)
def dropL (L : List Rw) (key : Int) : List Rw := bif isAt L key then L.take (findN L key) ++ L.drop (findN L key + 1) else L
def dropX (L : List Rw) (key : Int) : Rw := bif isAt L key then nth L (findN L key) else ⟨0, 0, 0⟩
def risesB : List Rw → Bool
  | [] => true
  | [_] => true
  | x :: y :: l => decide (x.k < y.k) && risesB (y :: l)

theorem findN_le : ∀ (L : List Rw) (key : Int), findN L key ≤ L.length
  | [], _ => Nat.le_refl _
  | x :: l, key => by
    unfold findN
    split
    · omega
    · have := findN_le l key; simp only [List.length_cons]; omega
theorem findN_lt : ∀ (L : List Rw) (key : Int) (i : Nat), i < findN L key → (nth L i).k < key
  | [], _, i, h => by simp [findN] at h
  | x :: l, key, i, h => by
    unfold findN at h
    split at h
    · omega
    · match i with
      | 0 => rw [nth_cons_zero]; omega
      | i + 1 => rw [nth_cons_succ]; exact findN_lt l key i (by omega)
theorem findN_at : ∀ (L : List Rw) (key : Int), findN L key < L.length → key ≤ (nth L (findN L key)).k
  | [], _, h => by simp [findN] at h
  | x :: l, key, h => by
    unfold findN at h ⊢
    split at h
    · rename_i hk; rw [if_pos hk]; exact hk
    · rename_i hk; rw [if_neg hk, nth_cons_succ]; exact findN_at l key (by simp only [List.length_cons] at h; omega)
theorem findN_eq {L : List Rw} {key : Int} {k : Nat} (hk : k ≤ L.length) (h1 : ∀ i, i < k → (nth L i).k < key) (h2 : k < L.length → key ≤ (nth L k).k) : findN L key = k := by
  rcases Nat.lt_trichotomy (findN L key) k with h | h | h
  · have := findN_at L key (by omega); have := h1 _ h; omega
  · exact h
  · have := findN_lt L key k h; have := h2 (by have := findN_le L key; omega); omega

theorem isAt_lt {L : List Rw} {key : Int} (h : isAt L key = true) : findN L key < L.length ∧ (nth L (findN L key)).k = key := by
  unfold isAt at h
  simpa using h

/-! ### The rows that are told -/
/-- Of the first k rows those whose key is not less, with their places. -/
def hits (L : List Rw) (key : Int) : Nat → List (Nat × Rw)
  | 0 => []
  | k + 1 => bif decide (key ≤ (nth L k).k) then hits L key k ++ [(k, nth L k)] else hits L key k
theorem hits_yes {L : List Rw} {key : Int} {k : Nat} (h : key ≤ (nth L k).k) : hits L key (k + 1) = hits L key k ++ [(k, nth L k)] := by simp [hits, h]
theorem hits_no {L : List Rw} {key : Int} {k : Nat} (h : ¬ key ≤ (nth L k).k) : hits L key (k + 1) = hits L key k := by simp [hits, h]
theorem hits_length (L : List Rw) (key : Int) : ∀ k, (hits L key k).length ≤ k
  | 0 => Nat.le_refl _
  | k + 1 => by
    have := hits_length L key k
    by_cases h : key ≤ (nth L k).k
    · rw [hits_yes h]; simp only [List.length_append, List.length_cons, List.length_nil]; omega
    · rw [hits_no h]; omega
theorem hits_nil {L : List Rw} {key : Int} : ∀ {k : Nat}, hits L key k = [] → ∀ i, i < k → (nth L i).k < key
  | 0, _, i, hi => by omega
  | k + 1, h, i, hi => by
    by_cases hk : key ≤ (nth L k).k
    · rw [hits_yes hk] at h; simp at h
    · rw [hits_no hk] at h
      rcases Nat.lt_or_ge i k with h' | h'
      · exact hits_nil h i h'
      · obtain rfl : i = k := by omega
        omega
theorem hits_one {L : List Rw} {key : Int} {x : Nat × Rw} : ∀ {k : Nat}, k ≤ L.length → hits L key k = [x] → findN L key < k ∧ x = (findN L key, nth L (findN L key))
  | 0, _, h => by simp [hits] at h
  | k + 1, hl, h => by
    by_cases hk : key ≤ (nth L k).k
    · rw [hits_yes hk] at h
      have h0 : hits L key k = [] := by
        match hh : hits L key k with
        | [] => rfl
        | y :: t => rw [hh] at h; simp at h
      rw [h0] at h
      have hf : findN L key = k := findN_eq (by omega) (hits_nil h0) (fun _ => hk)
      rw [hf]
      exact ⟨by omega, by simpa using h.symm⟩
    · rw [hits_no hk] at h
      have := hits_one (by omega) h
      exact ⟨by omega, this.2⟩
/-- The rows alone. -/
def fromL (L : List Rw) (key : Int) : List Rw := L.filter fun x => decide (key ≤ x.k)
theorem hits_rows {L : List Rw} {key : Int} : ∀ {k : Nat}, k ≤ L.length → (hits L key k).map (·.2) = fromL (L.take k) key
  | 0, _ => by simp [hits, fromL]
  | k + 1, h => by
    have ih := hits_rows (L := L) (key := key) (k := k) (by omega)
    have ht : L.take (k + 1) = L.take k ++ [nth L k] := by rw [List.take_add_one, nth_get (by omega)]; rfl
    by_cases hk : key ≤ (nth L k).k
    · rw [hits_yes hk, ht]
      simp only [List.map_append, ih, fromL, List.filter_append]
      simp [hk]
    · rw [hits_no hk, ht]
      simp only [ih, fromL, List.filter_append]
      simp [hk]

/-! ### '==' on rows -/
section
variable (w : World)
theorem eqFields_rw (k₁ k₂ : Int) (a₁ a₂ b₁ b₂ : Int) : (Op.equalIn 10000 27 (.agg #[.int .i64 k₁, .int .u64 a₁, .int .u64 b₁]) (.agg #[.int .i64 k₂, .int .u64 a₂, .int .u64 b₂])).run Try.prog w = .ok (k₁ == k₂ && (a₁ == a₂ && b₁ == b₂)) w := by
  have hL : ∀ d (y z : Int), (Op.equalIn (d + 1) 2 (.int .i64 y) (.int .i64 z)).run Try.prog w = .ok (y == z) w := fun d y z => run_equalIn_int w d _ .i64 .i64 y z Try.underlying2
  have hU : ∀ d (y z : Int), (Op.equalIn (d + 1) 23 (.int .u64 y) (.int .u64 z)).run Try.prog w = .ok (y == z) w := fun d y z => run_equalIn_int w d _ .u64 .u64 y z Try.underlying23
  have hht : Try.prog.underlying 27 = some (.struct (Try.prog.fieldsOf 27)) := by simp only [Program.fieldsOf, Try.underlying27]
  have hhp : Try.prog.underlying 25 = some (.struct (Try.prog.fieldsOf 25)) := by simp only [Program.fieldsOf, Try.underlying25]
  have hP : ∀ (p q r s : Int), (Op.equalIn 9999 25 (.agg #[.int .u64 p, .int .u64 q]) (.agg #[.int .u64 r, .int .u64 s])).run Try.prog w = .ok (p == r && q == s) w := by
    intro p q r s
    have p0 : ∀ (p q : Int), (part 23 #[.int .u64 p, .int .u64 q] 0).run Try.prog w = .ok (.int .u64 p) w := fun p q => by simp [part, isAgg, run_underlying Try.underlying23]
    have p1 : ∀ (p q : Int), (part 23 #[.int .u64 p, .int .u64 q] 1).run Try.prog w = .ok (.int .u64 q) w := fun p q => by simp [part, isAgg, run_underlying Try.underlying23]
    rw [run_equalIn_agg w 9998 _ _ _ hhp (by kernel_rfl)]
    simp only [Program.fieldsOf, Try.underlying25, Op.eqFields, Sem.run_ite, Sem.run_bind, p0, p1, Result.andThen_ok, hU]
    cases (p == r) <;> cases (q == s) <;> simp
  have p0 : ∀ k a b : Int, (part 2 #[.int .i64 k, .int .u64 a, .int .u64 b] 0).run Try.prog w = .ok (.int .i64 k) w := fun k a b => by simp [part, isAgg, run_underlying Try.underlying2]
  have p1 : ∀ k a b : Int, (part 25 #[.int .i64 k, .int .u64 a, .int .u64 b] 1).run Try.prog w = .ok (.agg #[.int .u64 a, .int .u64 b]) w := fun k a b => by kernel_rfl
  rw [run_equalIn_agg w 9999 _ _ _ hht (by kernel_rfl)]
  simp only [Program.fieldsOf, Try.underlying27, Op.eqFields, Sem.run_ite, Sem.run_bind, p0, p1, Result.andThen_ok, hL, hP]
  cases (k₁ == k₂) <;> cases (a₁ == a₂) <;> cases (b₁ == b₂) <;> simp
theorem eqB_rw (x y : Rw) : ((x.k == y.k) && (((x.a : Int) == (y.a : Int)) && ((x.b : Int) == (y.b : Int)))) = decide (x = y) := by
  rcases x with ⟨k, a, b⟩
  rcases y with ⟨k', a', b'⟩
  simp only [Rw.mk.injEq, Bool.decide_and]
  congr 1
  congr 1
  · show decide ((a : Int) = (a' : Int)) = decide (a = a')
    exact decide_eq_decide.2 (by omega)
  · show decide ((b : Int) = (b' : Int)) = decide (b = b')
    exact decide_eq_decide.2 (by omega)
theorem eql_rw (x y : Rw) : (binOp .eql 27 (.agg #[.int .i64 x.k, .int .u64 (x.a : Nat), .int .u64 (x.b : Nat)]) (.agg #[.int .i64 y.k, .int .u64 (y.a : Nat), .int .u64 (y.b : Nat)])).run Try.prog w = .ok (.bool (decide (x = y))) w := by
  rw [run_eql_struct, eqFields_rw, eqB_rw]; rfl
theorem neq_rw (x y : Rw) : (binOp .neq 27 (.agg #[.int .i64 x.k, .int .u64 (x.a : Nat), .int .u64 (x.b : Nat)]) (.agg #[.int .i64 y.k, .int .u64 (y.a : Nat), .int .u64 (y.b : Nat)])).run Try.prog w = .ok (.bool (!decide (x = y))) w := by
  rw [run_neq_struct, eqFields_rw, eqB_rw]; rfl
theorem infoR : ∃ i0, Try.prog.info? 27 = some i0 ∧ i0.zero = some (.agg #[.int .i64 0, .int .u64 0, .int .u64 0]) ∧ i0.size = 3 ∧ i0.bytes = 24 := by
  have h : (Try.prog.info? 27).map (fun i => (i.zero, i.size, i.bytes)) = some (some (.agg #[.int .i64 0, .int .u64 0, .int .u64 0]), 3, 24) := by kernel_rfl
  exact info_parts h
end
end Go.Proofs.Ytajkbeihopicnaa
