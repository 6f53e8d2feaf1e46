/- Calls, answers, events and opers: their cells, and when two are the same. -/
import Derived.Test.YtdbankogamolcaaDoorJ0
namespace Go.Proofs.YtdbankogamolcaaDoor
set_option linter.unusedSimpArgs false
set_option linter.unusedVariables false
open Go.ChangeShapes Go.WideShapes Go.ChangeAt Go.RowKit

structure Cl where
  op : Int
  l : Int
  key : Int
  pa : Int
  pb : Int
  hd : Int
  r : Int
deriving DecidableEq, Inhabited
structure An where
  e : Int
  a : Int
  b : Int
  h : Int
  n : Int
  k : Int
deriving DecidableEq, Inhabited
structure Ev where
  th : Int
  back : Bool
  c : Cl
  a : An
deriving DecidableEq, Inhabited
structure Opr where
  th : Int
  c : Cl
  a : An
  fr : Int
  to : Int
deriving DecidableEq, Inhabited
def zeroC : Cl := ⟨0, 0, 0, 0, 0, 0, 0⟩
def zeroA : An := ⟨0, 0, 0, 0, 0, 0⟩
def clC (x : Cl) : Array Value := #[.int .i64 x.op, .int .i64 x.l, .int .i64 x.key, .int .u64 x.pa, .int .u64 x.pb, .int .u64 x.hd, .int .i64 x.r]
def anC (x : An) : Array Value := #[.int .i64 x.e, .int .u64 x.a, .int .u64 x.b, .int .u64 x.h, .int .i64 x.n, .int .i64 x.k]
def evF (x : Ev) : List Value := [.int .i64 x.th, .bool x.back, .int .i64 x.c.op, .int .i64 x.c.l, .int .i64 x.c.key, .int .u64 x.c.pa, .int .u64 x.c.pb, .int .u64 x.c.hd, .int .i64 x.c.r, .int .i64 x.a.e, .int .u64 x.a.a, .int .u64 x.a.b, .int .u64 x.a.h, .int .i64 x.a.n, .int .i64 x.a.k]
def opF (x : Opr) : List Value := [.int .i64 x.th, .int .i64 x.c.op, .int .i64 x.c.l, .int .i64 x.c.key, .int .u64 x.c.pa, .int .u64 x.c.pb, .int .u64 x.c.hd, .int .i64 x.c.r, .int .i64 x.a.e, .int .u64 x.a.a, .int .u64 x.a.b, .int .u64 x.a.h, .int .i64 x.a.n, .int .i64 x.a.k, .int .i64 x.fr, .int .i64 x.to]
theorem evF_len (x : Ev) : (evF x).length = 15 := rfl
theorem opF_len (x : Opr) : (opF x).length = 16 := rfl
theorem evF_one (x : Ev) : ∀ u ∈ evF x, u.oneCell' = true := by simp [evF, Value.oneCell']
theorem opF_one (x : Opr) : ∀ u ∈ opF x, u.oneCell' = true := by simp [opF, Value.oneCell']
section
variable (w : World)
theorem eq_pr (d : Nat) (p q r s : Int) : (Op.equalIn (d + 2) 59 (.agg #[.int .u64 p, .int .u64 q]) (.agg #[.int .u64 r, .int .u64 s])).run Tryd.prog w = .ok (p == r && q == s) w := by
  have hU : ∀ d (y z : Int), (Op.equalIn (d + 1) 57 (.int .u64 y) (.int .u64 z)).run Tryd.prog w = .ok (y == z) w := fun d y z => run_equalIn_int w d _ .u64 .u64 y z Tryd.underlying57
  have hhp : Tryd.prog.underlying 59 = some (.struct (Tryd.prog.fieldsOf 59)) := by simp only [Program.fieldsOf, Tryd.underlying59]
  have p0 : ∀ (p q : Int), (part 57 #[.int .u64 p, .int .u64 q] 0).run Tryd.prog w = .ok (.int .u64 p) w := fun p q => by simp [part, isAgg, run_underlying Tryd.underlying57]
  have p1 : ∀ (p q : Int), (part 57 #[.int .u64 p, .int .u64 q] 1).run Tryd.prog w = .ok (.int .u64 q) w := fun p q => by simp [part, isAgg, run_underlying Tryd.underlying57]
  rw [run_equalIn_agg w (d + 1) _ _ _ hhp (by kernel_rfl)]
  simp only [Program.fieldsOf, Tryd.underlying59, Op.eqFields, Sem.run_ite, Sem.run_bind, p0, p1, Result.andThen_ok, hU]
  cases (p == r) <;> cases (q == s) <;> simp
theorem decCl (x y : Cl) : decide (x = y) = (x.op == y.op && (x.l == y.l && (x.key == y.key && ((x.pa == y.pa && x.pb == y.pb) && (x.hd == y.hd && x.r == y.r))))) := by
  rcases x with ⟨a1, a2, a3, a4, a5, a6, a7⟩
  rcases y with ⟨b1, b2, b3, b4, b5, b6, b7⟩
  rw [Bool.eq_iff_iff]
  simp only [decide_eq_true_eq, Bool.and_eq_true, beq_iff_eq, Cl.mk.injEq]
  simp only [and_assoc]
theorem decAn (x y : An) : decide (x = y) = (x.e == y.e && ((x.a == y.a && x.b == y.b) && (x.h == y.h && (x.n == y.n && x.k == y.k)))) := by
  rcases x with ⟨a1, a2, a3, a4, a5, a6⟩
  rcases y with ⟨b1, b2, b3, b4, b5, b6⟩
  rw [Bool.eq_iff_iff]
  simp only [decide_eq_true_eq, Bool.and_eq_true, beq_iff_eq, An.mk.injEq]
  simp only [and_assoc]
theorem decEv (x y : Ev) : decide (x = y) = (x.th == y.th && (x.back == y.back && (decide (x.c = y.c) && decide (x.a = y.a)))) := by
  rcases x with ⟨a1, a2, a3, a4⟩
  rcases y with ⟨b1, b2, b3, b4⟩
  rw [Bool.eq_iff_iff]
  simp only [decide_eq_true_eq, Bool.and_eq_true, beq_iff_eq, Ev.mk.injEq]
theorem decOpr (x y : Opr) : decide (x = y) = (x.th == y.th && (decide (x.c = y.c) && (decide (x.a = y.a) && (x.fr == y.fr && x.to == y.to)))) := by
  rcases x with ⟨a1, a2, a3, a4, a5⟩
  rcases y with ⟨b1, b2, b3, b4, b5⟩
  rw [Bool.eq_iff_iff]
  simp only [decide_eq_true_eq, Bool.and_eq_true, beq_iff_eq, Opr.mk.injEq]
theorem eq_cl (d : Nat) (x y : Cl) : (Op.equalIn (d + 3) 61 (.agg (clC x)) (.agg (clC y))).run Tryd.prog w = .ok (decide (x = y)) w := by
  have hI : ∀ d (y z : Int), (Op.equalIn (d + 1) 3 (.int .i64 y) (.int .i64 z)).run Tryd.prog w = .ok (y == z) w := fun d y z => run_equalIn_int w d _ .i64 .i64 y z Tryd.underlying3
  have hL : ∀ d (y z : Int), (Op.equalIn (d + 1) 2 (.int .i64 y) (.int .i64 z)).run Tryd.prog w = .ok (y == z) w := fun d y z => run_equalIn_int w d _ .i64 .i64 y z Tryd.underlying2
  have hU : ∀ d (y z : Int), (Op.equalIn (d + 1) 57 (.int .u64 y) (.int .u64 z)).run Tryd.prog w = .ok (y == z) w := fun d y z => run_equalIn_int w d _ .u64 .u64 y z Tryd.underlying57
  have hP := fun p q r s => eq_pr w d p q r s
  have hht : Tryd.prog.underlying 61 = some (.struct (Tryd.prog.fieldsOf 61)) := by simp only [Program.fieldsOf, Tryd.underlying61]
  have p0 : ∀ x : Cl, (part 3 (clC x) 0).run Tryd.prog w = .ok (.int .i64 x.op) w := fun x => by kernel_rfl
  have p1 : ∀ x : Cl, (part 3 (clC x) 1).run Tryd.prog w = .ok (.int .i64 x.l) w := fun x => by kernel_rfl
  have p2 : ∀ x : Cl, (part 2 (clC x) 2).run Tryd.prog w = .ok (.int .i64 x.key) w := fun x => by kernel_rfl
  have p3 : ∀ x : Cl, (part 59 (clC x) 3).run Tryd.prog w = .ok (.agg #[.int .u64 x.pa, .int .u64 x.pb]) w := fun x => by kernel_rfl
  have p4 : ∀ x : Cl, (part 57 (clC x) 5).run Tryd.prog w = .ok (.int .u64 x.hd) w := fun x => by kernel_rfl
  have p5 : ∀ x : Cl, (part 3 (clC x) 6).run Tryd.prog w = .ok (.int .i64 x.r) w := fun x => by kernel_rfl
  rw [run_equalIn_agg w (d + 2) _ _ _ hht (by kernel_rfl), decCl]
  simp only [Program.fieldsOf, Tryd.underlying61, Op.eqFields, Sem.run_ite, Sem.run_bind, p0, p1, p2, p3, p4, p5, Result.andThen_ok, hI, hL, hU, hP]
  cases (x.op == y.op) <;> cases (x.l == y.l) <;> cases (x.key == y.key) <;> cases (x.pa == y.pa && x.pb == y.pb) <;> cases (x.hd == y.hd) <;> cases (x.r == y.r) <;> rfl
theorem neq_cl (x y : Cl) : (binOp .neq 61 (.agg (clC x)) (.agg (clC y))).run Tryd.prog w = .ok (.bool (!decide (x = y))) w := by
  rw [run_neq_struct, eq_cl w 9997]; rfl
end
end Go.Proofs.YtdbankogamolcaaDoor
