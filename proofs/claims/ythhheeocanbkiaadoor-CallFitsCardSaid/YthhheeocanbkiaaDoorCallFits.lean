/- What a call may be answered: package call's and the document's answers. -/
import Derived.Test.YthhheeocanbkiaaDoorCall
import Derived.Deep.QuietTactic
import Derived.BigQuiet
namespace Go.Proofs.YthhheeocanbkiaaDoor
open Go.ChangeShapes Go.WideShapes Go.ChangeAt Go.RowKit

/-- An answer: a code, a pair, a handle, a number, a key. -/
structure Ans where
  e : Int
  a : Int
  b : Int
  h : Int
  n : Int
  k : Int
def Ans.cells (x : Ans) : Array Value := #[.int .i64 x.e, .int .u64 x.a, .int .u64 x.b, .int .u64 x.h, .int .i64 x.n, .int .i64 x.k]
def sameA (x y : Ans) : Bool := x.e == y.e && (x.a == y.a && (x.b == y.b && (x.h == y.h && (x.n == y.n && x.k == y.k))))
theorem sameA_self (x : Ans) : sameA x x = true := by simp [sameA]
section
variable (w : World)
theorem eqFields_ans (x y : Ans) : (Op.equalIn 10000 37 (.agg x.cells) (.agg y.cells)).run Tryd.prog w = .ok (sameA x y) w := by
  have hI : ∀ d (y z : Int), (Op.equalIn (d + 1) 3 (.int .i64 y) (.int .i64 z)).run Tryd.prog w = .ok (y == z) w := fun d y z => run_equalIn_int w d _ .i64 .i64 y z Tryd.underlying3
  have hL : ∀ d (y z : Int), (Op.equalIn (d + 1) 2 (.int .i64 y) (.int .i64 z)).run Tryd.prog w = .ok (y == z) w := fun d y z => run_equalIn_int w d _ .i64 .i64 y z Tryd.underlying2
  have hE : ∀ d (y z : Int), (Op.equalIn (d + 1) 35 (.int .i64 y) (.int .i64 z)).run Tryd.prog w = .ok (y == z) w := fun d y z => run_equalIn_int w d _ .i64 .i64 y z Tryd.underlying35
  have hU : ∀ d (y z : Int), (Op.equalIn (d + 1) 22 (.int .u64 y) (.int .u64 z)).run Tryd.prog w = .ok (y == z) w := fun d y z => run_equalIn_int w d _ .u64 .u64 y z Tryd.underlying22
  have hht : Tryd.prog.underlying 37 = some (.struct (Tryd.prog.fieldsOf 37)) := by simp only [Program.fieldsOf, Tryd.underlying37]
  have hhp : Tryd.prog.underlying 24 = some (.struct (Tryd.prog.fieldsOf 24)) := by simp only [Program.fieldsOf, Tryd.underlying24]
  have hP : ∀ (p q r s : Int), (Op.equalIn 9999 24 (.agg #[.int .u64 p, .int .u64 q]) (.agg #[.int .u64 r, .int .u64 s])).run Tryd.prog w = .ok (p == r && q == s) w := by
    intro p q r s
    have p0 : ∀ (p q : Int), (part 22 #[.int .u64 p, .int .u64 q] 0).run Tryd.prog w = .ok (.int .u64 p) w := fun p q => by simp [part, isAgg, run_underlying Tryd.underlying22]
    have p1 : ∀ (p q : Int), (part 22 #[.int .u64 p, .int .u64 q] 1).run Tryd.prog w = .ok (.int .u64 q) w := fun p q => by simp [part, isAgg, run_underlying Tryd.underlying22]
    rw [run_equalIn_agg w 9998 _ _ _ hhp (by kernel_rfl)]
    simp only [Program.fieldsOf, Tryd.underlying24, Op.eqFields, Sem.run_ite, Sem.run_bind, p0, p1, Result.andThen_ok, hU]
    cases (p == r) <;> cases (q == s) <;> simp
  have p0 : ∀ x : Ans, (part 35 x.cells 0).run Tryd.prog w = .ok (.int .i64 x.e) w := fun x => by simp [part, isAgg, run_underlying Tryd.underlying35, Ans.cells]
  have p1 : ∀ x : Ans, (part 24 x.cells 1).run Tryd.prog w = .ok (.agg #[.int .u64 x.a, .int .u64 x.b]) w := fun x => by kernel_rfl
  have p2 : ∀ x : Ans, (part 22 x.cells 3).run Tryd.prog w = .ok (.int .u64 x.h) w := fun x => by simp [part, isAgg, run_underlying Tryd.underlying22, Ans.cells]
  have p3 : ∀ x : Ans, (part 3 x.cells 4).run Tryd.prog w = .ok (.int .i64 x.n) w := fun x => by simp [part, isAgg, run_underlying Tryd.underlying3, Ans.cells]
  have p4 : ∀ x : Ans, (part 2 x.cells 5).run Tryd.prog w = .ok (.int .i64 x.k) w := fun x => by simp [part, isAgg, run_underlying Tryd.underlying2, Ans.cells]
  rw [run_equalIn_agg w 9999 _ _ _ hht (by kernel_rfl)]
  unfold sameA
  simp only [Program.fieldsOf, Tryd.underlying37, Op.eqFields, Sem.run_ite, Sem.run_bind, p0, p1, p2, p3, p4, Result.andThen_ok, hI, hL, hE, hU, hP]
  cases (x.e == y.e) <;> cases (x.a == y.a) <;> cases (x.b == y.b) <;> cases (x.h == y.h) <;> cases (x.n == y.n) <;> cases (x.k == y.k) <;> simp
theorem eql_ans (x y : Ans) : (binOp .eql 37 (.agg x.cells) (.agg y.cells)).run Tryd.prog w = .ok (.bool (sameA x y)) w := by
  rw [run_eql_struct, eqFields_ans]; rfl
theorem neq_ans (x y : Ans) : (binOp .neq 37 (.agg x.cells) (.agg y.cells)).run Tryd.prog w = .ok (.bool (!sameA x y)) w := by
  rw [run_neq_struct, eqFields_ans]; rfl
end
theorem kSame_any (x y : Ans) (w : World) : Calls Tryd.prog 17 #[.agg x.cells, .agg y.cells] w fun r w' => r = .returned (.bool (sameA x y)) ∧ Below w.heap.size w w' := by
  have hE : ∀ W, (binOp .eql 37 (.agg #[.int .i64 x.e, .int .u64 x.a, .int .u64 x.b, .int .u64 x.h, .int .i64 x.n, .int .i64 x.k]) (.agg #[.int .i64 y.e, .int .u64 y.a, .int .u64 y.b, .int .u64 y.h, .int .i64 y.n, .int .i64 y.k])).run Tryd.prog W = .ok (.bool (sameA x y)) W := fun W => eql_ans W x y
  have hX : x.cells = #[.int .i64 x.e, .int .u64 x.a, .int .u64 x.b, .int .u64 x.h, .int .i64 x.n, .int .i64 x.k] := rfl
  have hY : y.cells = #[.int .i64 y.e, .int .u64 y.a, .int .u64 y.b, .int .u64 y.h, .int .i64 y.n, .int .i64 y.k] := rfl
  rw [hX, hY]
  clear hX hY
  go_enter Tryd.func17, Tryd.ntmps17
  go_wp2
  go_ret
  exact ⟨rfl, ((Below.refl _ _).alloc (Nat.le_refl _) _).alloc (by simp) _⟩
end Go.Proofs.YthhheeocanbkiaaDoor
