/- Lists of structs as cells: k cells an element, whatever they are. -/
import Derived.Test.YtodomchanaaonaaLine
namespace Go.Proofs.Ytodomchanaaonaa
open Go.ChangeShapes Go.WideShapes Go.ChangeAt Go.RowKit

section
variable {α : Type}
/-- A list's cells. -/
def flatF (f : α → List Value) : List α → List Value
  | [] => []
  | x :: L => f x ++ flatF f L
variable {f : α → List Value} {k : Nat}
theorem flatF_length (hk : ∀ x, (f x).length = k) : ∀ L : List α, (flatF f L).length = L.length * k
  | [] => by simp [flatF]
  | x :: L => by rw [flatF, List.length_append, hk, flatF_length hk L, List.length_cons, Nat.add_mul, Nat.one_mul, Nat.add_comm]
theorem flatF_append : ∀ L M : List α, flatF f (L ++ M) = flatF f L ++ flatF f M
  | [], _ => rfl
  | x :: L, M => by rw [List.cons_append, flatF, flatF, flatF_append L M, List.append_assoc]
theorem flatF_single (x : α) : flatF f [x] = f x := by simp [flatF]
theorem flatF_one (h : ∀ x, ∀ u ∈ f x, u.oneCell' = true) : ∀ L : List α, ∀ u ∈ flatF f L, u.oneCell' = true
  | [], _, hu => by simp [flatF] at hu
  | x :: L, u, hu => by
    rw [flatF, List.mem_append] at hu
    exact hu.elim (h x u) (flatF_one h L u)
theorem flatF_get [Inhabited α] (hk : ∀ x, (f x).length = k) : ∀ (L : List α) (i j : Nat), i < L.length → j < k → (flatF f L)[i * k + j]? = (f (L.getD i default))[j]?
  | x :: L, 0, j, _, hj => by
    rw [Nat.zero_mul, Nat.zero_add, flatF, List.getElem?_append_left (by rw [hk]; exact hj)]
    rfl
  | x :: L, i + 1, j, hi, hj => by
    rw [flatF, List.getElem?_append_right (by rw [hk, Nat.add_mul]; omega), hk, show (i + 1) * k + j - k = i * k + j by rw [Nat.add_mul]; omega, flatF_get hk L i j (by simpa using hi) hj]
    rfl
theorem flatF_drop (hk : ∀ x, (f x).length = k) : ∀ (L : List α) (i : Nat), flatF f (L.drop i) = (flatF f L).drop (i * k)
  | [], i => by simp [flatF]
  | x :: L, 0 => by simp
  | x :: L, i + 1 => by
    rw [List.drop_succ_cons, flatF_drop hk L i, flatF, List.drop_append, hk, show (i + 1) * k - k = i * k by rw [Nat.add_mul]; omega, List.drop_of_length_le (l := f x) (by rw [hk, Nat.add_mul]; omega), List.nil_append]
/-- An element's cells, where its list lies. -/
theorem LiesC.atF [Inhabited α] {w : World} {A : Option Addr} {L : List α} (h : LiesC w A (flatF f L)) (hk : ∀ x, (f x).length = k) (hk0 : 0 < k) (hn : 0 < L.length) :
    ∃ b off, A = some ⟨b, off, none⟩ ∧ b < w.heap.size ∧ ∀ i, i < L.length → ∀ j, j < k → w.cell? ⟨b, off + (i * k + j), none⟩ = (f (L.getD i default))[j]? := by
  obtain ⟨b, off, rfl, hlt, hc⟩ := h.some_ (by rw [flatF_length hk]; exact Nat.mul_pos hn hk0)
  refine ⟨b, off, rfl, hlt, fun i hi j hj => ?_⟩
  have hg := flatF_get hk L i j hi hj
  have hl : (f (L.getD i default))[j]? = some ((f (L.getD i default))[j]'(by rw [hk]; exact hj)) := List.getElem?_eq_getElem _
  rw [hl] at hg ⊢
  exact hc _ _ hg
theorem getD_ext [Inhabited α] {L M : List α} (hl : L.length = M.length) (h : ∀ i, i < L.length → L.getD i default = M.getD i default) : L = M := by
  apply List.ext_getElem? ; intro i
  by_cases hi : i < L.length
  · have := h i hi
    simp only [List.getD, List.getElem?_eq_getElem hi, List.getElem?_eq_getElem (show i < M.length by omega), Option.getD_some] at this
    rw [List.getElem?_eq_getElem hi, List.getElem?_eq_getElem (show i < M.length by omega), this]
  · rw [List.getElem?_eq_none (by omega), List.getElem?_eq_none (by omega)]
theorem eqF_len [DecidableEq α] {L M : List α} (h : L.length ≠ M.length) : decide (L = M) = false := decide_eq_false fun e => h (by rw [e])
theorem eqF_ne [Inhabited α] [DecidableEq α] {L M : List α} {k : Nat} (h : decide (L.getD k default = M.getD k default) = false) : decide (L = M) = false := decide_eq_false fun e => by rw [e] at h; simp at h
theorem eqF_eq [Inhabited α] [DecidableEq α] {L M : List α} (hl : L.length = M.length) (h : ∀ i, i < L.length → L.getD i default = M.getD i default) : decide (L = M) = true := decide_eq_true (getD_ext hl h)
end
/-- Two blocks made one behind the other. -/
theorem two_cells (w : World) (cs1 : Array Value) (t1 : TypeId) (cs2 : Array Value) (t2 : TypeId) : ∀ W, (w.alloc (.cells cs1 t1)).alloc (.cells cs2 t2) = W →
    Below w.heap.size w W ∧ Cells W w.heap.size t1 cs1.toList ∧ Cells W (w.heap.size + 1) t2 cs2.toList := by
  rintro W rfl
  refine ⟨((Below.refl _ w).alloc (Nat.le_refl _) _).alloc (by simp) _, (Cells.new w cs1 t1).alloc _, ?_⟩
  have := Cells.new (w.alloc (.cells cs1 t1)) cs2 t2
  rw [World.size_alloc] at this
  exact this
theorem one_cells (w : World) (cs1 : Array Value) (t1 : TypeId) : ∀ W, w.alloc (.cells cs1 t1) = W → Below w.heap.size w W ∧ Cells W w.heap.size t1 cs1.toList := by
  rintro W rfl
  exact ⟨(Below.refl _ w).alloc (Nat.le_refl _) _, Cells.new w cs1 t1⟩
end Go.Proofs.Ytodomchanaaonaa
