/- The document's answers of layer 8: the text of an error. -/
import Derived.Test.YthhheeocanbkiaaDoorRef8
import Derived.Deep.RegionHeld3
namespace Go.Proofs.YthhheeocanbkiaaDoor
set_option linter.unusedSimpArgs false
open Go.ChangeShapes Go.WideShapes Go.RowKit

/-- What an error is made by. -/
structure ErrS where
  t : Int
  l : Int
  what : List UInt8
  c : Int
  notes : Nat → List UInt8
def errV (v : Value) (e : ErrS) : Nat → Value
  | 0 => .int .i64 e.t
  | 1 => .int .i64 e.l
  | 2 => .string (sB e.what)
  | 3 => .int .i64 e.c
  | _ => v
theorem err_cells {w : World} {g : Nat} {t : TypeId} {v : Value} {e : ErrS} (hr : Row w g t 5 (errV v e)) : w.cell? ⟨g, 0, none⟩ = some (.int .i64 e.t) ∧ w.cell? ⟨g, 1, none⟩ = some (.int .i64 e.l) ∧ w.cell? ⟨g, 2, none⟩ = some (.string (sB e.what)) ∧ w.cell? ⟨g, 3, none⟩ = some (.int .i64 e.c) ∧ w.cell? ⟨g, 4, none⟩ = some v :=
  ⟨hr.cell (i := 0) (by omega), hr.cell (i := 1) (by omega), hr.cell (i := 2) (by omega), hr.cell (i := 3) (by omega), hr.cell (i := 4) (by omega)⟩
/-- The innermost text. -/
def baseL (e : ErrS) : List UInt8 := [116, 104, 114, 101, 97, 100, 32] ++ numL e.t ++ [32, 108, 101, 118, 101, 108, 32] ++ numL e.l ++ [32] ++ e.what ++ [58, 32] ++ nameL e.c
/-- .. behind k notes. -/
def textK (e : ErrS) : Nat → List UInt8
  | 0 => baseL e
  | k + 1 => e.notes k ++ [58, 32] ++ textK e k
def textL (e : ErrS) (n : Nat) : List UInt8 := bif decide (e.c = 0) then [111, 107] else textK e n
theorem num_len (n : Int) (h0 : -9223372036854775808 ≤ n) (h1 : n ≤ 9223372036854775807) : (numL n).length ≤ 21 := by
  have h := dec_len 19 n.natAbs (by omega)
  unfold numL
  cases decide (n < 0)
  · exact Nat.le_succ_of_le h
  · exact Nat.succ_le_succ h
theorem name_len (c : Int) : (nameL c).length ≤ 6 := by
  unfold nameL
  cases hd : decide (0 ≤ c ∧ c < 16)
  · show List.length [119, 104, 97, 116] ≤ 6
    decide
  · have h := of_decide_eq_true hd
    have h2 : c.toNat < 16 := by omega
    have : ∀ k, k < 16 → (namesL.getD k []).length ≤ 6 := by decide
    exact this _ h2

structure OkE (e : ErrS) (n : Nat) : Prop where
  t0 : -9223372036854775808 ≤ e.t
  t1 : e.t ≤ 9223372036854775807
  l0 : -9223372036854775808 ≤ e.l
  l1 : e.l ≤ 9223372036854775807
  c0 : -9223372036854775808 ≤ e.c
  c1 : e.c ≤ 9223372036854775807
  what : e.what.length ≤ 200
  n40 : n ≤ 40
  notes : ∀ k, k < n → (e.notes k).length ≤ 200
theorem base_len {e : ErrS} {n : Nat} (he : OkE e n) : (baseL e).length ≤ 265 := by
  have h1 := num_len _ he.t0 he.t1
  have h2 := num_len _ he.l0 he.l1
  have h3 := name_len e.c
  have h4 := he.what
  unfold baseL
  simp only [List.length_append, List.length_cons, List.length_nil]
  omega
theorem text_len {e : ErrS} {n : Nat} (he : OkE e n) : ∀ k, k ≤ n → (sB (textK e k)).size ≤ 265 + 202 * k
  | 0, _ => by rw [sB_size]; exact base_len he
  | k + 1, hk => by
    have h := text_len he k (by omega)
    have h2 := he.notes k (by omega)
    rw [sB_size] at *
    show (e.notes k ++ [58, 32] ++ textK e k).length ≤ _
    simp only [List.length_append, List.length_cons, List.length_nil]
    omega

end Go.Proofs.YthhheeocanbkiaaDoor
