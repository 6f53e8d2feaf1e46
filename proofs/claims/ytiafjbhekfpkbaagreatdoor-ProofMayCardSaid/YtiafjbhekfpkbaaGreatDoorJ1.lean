/- Calls, answers, events and opers: their cells, and when two are the same. -/
import Derived.Test.YtiafjbhekfpkbaaGreatDoorJ0
namespace Go.Proofs.YtiafjbhekfpkbaaGreatDoor
set_option linter.unusedSimpArgs false
set_option linter.unusedVariables false
open Go.ChangeShapes Go.WideShapes Go.ChangeAt Go.RowKit

structure Cl where
  op : Int
  l : Int
  key : Int
  pa : Int
  pb : Int
  hd : Int
  r : Int
deriving DecidableEq, Inhabited
structure An where
  e : Int
  a : Int
  b : Int
  h : Int
  n : Int
  k : Int
deriving DecidableEq, Inhabited
structure Ev where
  th : Int
  back : Bool
  c : Cl
  a : An
deriving DecidableEq, Inhabited
structure Opr where
  th : Int
  c : Cl
  a : An
  fr : Int
  to : Int
deriving DecidableEq, Inhabited
def zeroC : Cl := ⟨0, 0, 0, 0, 0, 0, 0⟩
def zeroA : An := ⟨0, 0, 0, 0, 0, 0⟩
def clC (x : Cl) : Array Value := #[.int .i64 x.op, .int .i64 x.l, .int .i64 x.key, .int .u64 x.pa, .int .u64 x.pb, .int .u64 x.hd, .int .i64 x.r]
def anC (x : An) : Array Value := #[.int .i64 x.e, .int .u64 x.a, .int .u64 x.b, .int .u64 x.h, .int .i64 x.n, .int .i64 x.k]
def evF (x : Ev) : List Value := [.int .i64 x.th, .bool x.back, .int .i64 x.c.op, .int .i64 x.c.l, .int .i64 x.c.key, .int .u64 x.c.pa, .int .u64 x.c.pb, .int .u64 x.c.hd, .int .i64 x.c.r, .int .i64 x.a.e, .int .u64 x.a.a, .int .u64 x.a.b, .int .u64 x.a.h, .int .i64 x.a.n, .int .i64 x.a.k]
def opF (x : Opr) : List Value := [.int .i64 x.th, .int .i64 x.c.op, .int .i64 x.c.l, .int .i64 x.c.key, .int .u64 x.c.pa, .int .u64 x.c.pb, .int .u64 x.c.hd, .int .i64 x.c.r, .int .i64 x.a.e, .int .u64 x.a.a, .int .u64 x.a.b, .int .u64 x.a.h, .int .i64 x.a.n, .int .i64 x.a.k, .int .i64 x.fr, .int .i64 x.to]
theorem evF_len (x : Ev) : (evF x).length = 15 := rfl
theorem opF_len (x : Opr) : (opF x).length = 16 := rfl
theorem evF_one (x : Ev) : ∀ u ∈ evF x, u.oneCell' = true := by simp [evF, Value.oneCell']
theorem opF_one (x : Opr) : ∀ u ∈ opF x, u.oneCell' = true := by simp [opF, Value.oneCell']
section
variable (w : World)
theorem eq_pr (d : Nat) (p q r s : Int) : (Op.equalIn (d + 2) 31 (.agg #[.int .u64 p, .int .u64 q]) (.agg #[.int .u64 r, .int .u64 s])).run Tryz.prog w = .ok (p == r && q == s) w := by
  have hU : ∀ d (y z : Int), (Op.equalIn (d + 1) 29 (.int .u64 y) (.int .u64 z)).run Tryz.prog w = .ok (y == z) w := fun d y z => run_equalIn_int w d _ .u64 .u64 y z Tryz.underlying29
  have hhp : Tryz.prog.underlying 31 = some (.struct (Tryz.prog.fieldsOf 31)) := by simp only [Program.fieldsOf, Tryz.underlying31]
  have p0 : ∀ (p q : Int), (part 29 #[.int .u64 p, .int .u64 q] 0).run Tryz.prog w = .ok (.int .u64 p) w := fun p q => by simp [part, isAgg, run_underlying Tryz.underlying29]
  have p1 : ∀ (p q : Int), (part 29 #[.int .u64 p, .int .u64 q] 1).run Tryz.prog w = .ok (.int .u64 q) w := fun p q => by simp [part, isAgg, run_underlying Tryz.underlying29]
  rw [run_equalIn_agg w (d + 1) _ _ _ hhp (by kernel_rfl)]
  simp only [Program.fieldsOf, Tryz.underlying31, Op.eqFields, Sem.run_ite, Sem.run_bind, p0, p1, Result.andThen_ok, hU]
  cases (p == r) <;> cases (q == s) <;> simp
theorem decCl (x y : Cl) : decide (x = y) = (x.op == y.op && (x.l == y.l && (x.key == y.key && ((x.pa == y.pa && x.pb == y.pb) && (x.hd == y.hd && x.r == y.r))))) := by
  rcases x with ⟨a1, a2, a3, a4, a5, a6, a7⟩
  rcases y with ⟨b1, b2, b3, b4, b5, b6, b7⟩
  rw [Bool.eq_iff_iff]
  simp only [decide_eq_true_eq, Bool.and_eq_true, beq_iff_eq, Cl.mk.injEq]
  simp only [and_assoc]
theorem decAn (x y : An) : decide (x = y) = (x.e == y.e && ((x.a == y.a && x.b == y.b) && (x.h == y.h && (x.n == y.n && x.k == y.k)))) := by
  rcases x with ⟨a1, a2, a3, a4, a5, a6⟩
  rcases y with ⟨b1, b2, b3, b4, b5, b6⟩
  rw [Bool.eq_iff_iff]
  simp only [decide_eq_true_eq, Bool.and_eq_true, beq_iff_eq, An.mk.injEq]
  simp only [and_assoc]
theorem decEv (x y : Ev) : decide (x = y) = (x.th == y.th && (x.back == y.back && (decide (x.c = y.c) && decide (x.a = y.a)))) := by
  rcases x with ⟨a1, a2, a3, a4⟩
  rcases y with ⟨b1, b2, b3, b4⟩
  rw [Bool.eq_iff_iff]
  simp only [decide_eq_true_eq, Bool.and_eq_true, beq_iff_eq, Ev.mk.injEq]
theorem decOpr (x y : Opr) : decide (x = y) = (x.th == y.th && (decide (x.c = y.c) && (decide (x.a = y.a) && (x.fr == y.fr && x.to == y.to)))) := by
  rcases x with ⟨a1, a2, a3, a4, a5⟩
  rcases y with ⟨b1, b2, b3, b4, b5⟩
  rw [Bool.eq_iff_iff]
  simp only [decide_eq_true_eq, Bool.and_eq_true, beq_iff_eq, Opr.mk.injEq]
theorem eq_cl (d : Nat) (x y : Cl) : (Op.equalIn (d + 3) 33 (.agg (clC x)) (.agg (clC y))).run Tryz.prog w = .ok (decide (x = y)) w := by
  have hI : ∀ d (y z : Int), (Op.equalIn (d + 1) 3 (.int .i64 y) (.int .i64 z)).run Tryz.prog w = .ok (y == z) w := fun d y z => run_equalIn_int w d _ .i64 .i64 y z Tryz.underlying3
  have hL : ∀ d (y z : Int), (Op.equalIn (d + 1) 2 (.int .i64 y) (.int .i64 z)).run Tryz.prog w = .ok (y == z) w := fun d y z => run_equalIn_int w d _ .i64 .i64 y z Tryz.underlying2
  have hU : ∀ d (y z : Int), (Op.equalIn (d + 1) 29 (.int .u64 y) (.int .u64 z)).run Tryz.prog w = .ok (y == z) w := fun d y z => run_equalIn_int w d _ .u64 .u64 y z Tryz.underlying29
  have hP := fun p q r s => eq_pr w d p q r s
  have hht : Tryz.prog.underlying 33 = some (.struct (Tryz.prog.fieldsOf 33)) := by simp only [Program.fieldsOf, Tryz.underlying33]
  have p0 : ∀ x : Cl, (part 3 (clC x) 0).run Tryz.prog w = .ok (.int .i64 x.op) w := fun x => by kernel_rfl
  have p1 : ∀ x : Cl, (part 3 (clC x) 1).run Tryz.prog w = .ok (.int .i64 x.l) w := fun x => by kernel_rfl
  have p2 : ∀ x : Cl, (part 2 (clC x) 2).run Tryz.prog w = .ok (.int .i64 x.key) w := fun x => by kernel_rfl
  have p3 : ∀ x : Cl, (part 31 (clC x) 3).run Tryz.prog w = .ok (.agg #[.int .u64 x.pa, .int .u64 x.pb]) w := fun x => by kernel_rfl
  have p4 : ∀ x : Cl, (part 29 (clC x) 5).run Tryz.prog w = .ok (.int .u64 x.hd) w := fun x => by kernel_rfl
  have p5 : ∀ x : Cl, (part 3 (clC x) 6).run Tryz.prog w = .ok (.int .i64 x.r) w := fun x => by kernel_rfl
  rw [run_equalIn_agg w (d + 2) _ _ _ hht (by kernel_rfl), decCl]
  simp only [Program.fieldsOf, Tryz.underlying33, Op.eqFields, Sem.run_ite, Sem.run_bind, p0, p1, p2, p3, p4, p5, Result.andThen_ok, hI, hL, hU, hP]
  cases (x.op == y.op) <;> cases (x.l == y.l) <;> cases (x.key == y.key) <;> cases (x.pa == y.pa && x.pb == y.pb) <;> cases (x.hd == y.hd) <;> cases (x.r == y.r) <;> rfl
theorem eq_an (d : Nat) (x y : An) : (Op.equalIn (d + 3) 36 (.agg (anC x)) (.agg (anC y))).run Tryz.prog w = .ok (decide (x = y)) w := by
  have hI : ∀ d (y z : Int), (Op.equalIn (d + 1) 3 (.int .i64 y) (.int .i64 z)).run Tryz.prog w = .ok (y == z) w := fun d y z => run_equalIn_int w d _ .i64 .i64 y z Tryz.underlying3
  have hE : ∀ d (y z : Int), (Op.equalIn (d + 1) 34 (.int .i64 y) (.int .i64 z)).run Tryz.prog w = .ok (y == z) w := fun d y z => run_equalIn_int w d _ .i64 .i64 y z Tryz.underlying34
  have hL : ∀ d (y z : Int), (Op.equalIn (d + 1) 2 (.int .i64 y) (.int .i64 z)).run Tryz.prog w = .ok (y == z) w := fun d y z => run_equalIn_int w d _ .i64 .i64 y z Tryz.underlying2
  have hU : ∀ d (y z : Int), (Op.equalIn (d + 1) 29 (.int .u64 y) (.int .u64 z)).run Tryz.prog w = .ok (y == z) w := fun d y z => run_equalIn_int w d _ .u64 .u64 y z Tryz.underlying29
  have hP := fun p q r s => eq_pr w d p q r s
  have hht : Tryz.prog.underlying 36 = some (.struct (Tryz.prog.fieldsOf 36)) := by simp only [Program.fieldsOf, Tryz.underlying36]
  have p0 : ∀ x : An, (part 34 (anC x) 0).run Tryz.prog w = .ok (.int .i64 x.e) w := fun x => by kernel_rfl
  have p1 : ∀ x : An, (part 31 (anC x) 1).run Tryz.prog w = .ok (.agg #[.int .u64 x.a, .int .u64 x.b]) w := fun x => by kernel_rfl
  have p2 : ∀ x : An, (part 29 (anC x) 3).run Tryz.prog w = .ok (.int .u64 x.h) w := fun x => by kernel_rfl
  have p3 : ∀ x : An, (part 3 (anC x) 4).run Tryz.prog w = .ok (.int .i64 x.n) w := fun x => by kernel_rfl
  have p4 : ∀ x : An, (part 2 (anC x) 5).run Tryz.prog w = .ok (.int .i64 x.k) w := fun x => by kernel_rfl
  rw [run_equalIn_agg w (d + 2) _ _ _ hht (by kernel_rfl), decAn]
  simp only [Program.fieldsOf, Tryz.underlying36, Op.eqFields, Sem.run_ite, Sem.run_bind, p0, p1, p2, p3, p4, Result.andThen_ok, hI, hE, hL, hU, hP]
  cases (x.e == y.e) <;> cases (x.a == y.a && x.b == y.b) <;> cases (x.h == y.h) <;> cases (x.n == y.n) <;> cases (x.k == y.k) <;> rfl
theorem neq_cl (x y : Cl) : (binOp .neq 33 (.agg (clC x)) (.agg (clC y))).run Tryz.prog w = .ok (.bool (!decide (x = y))) w := by
  rw [run_neq_struct, eq_cl w 9997]; rfl
theorem neq_an (x y : An) : (binOp .neq 36 (.agg (anC x)) (.agg (anC y))).run Tryz.prog w = .ok (.bool (!decide (x = y))) w := by
  rw [run_neq_struct, eq_an w 9997]; rfl
theorem neq_opr (x y : Opr) : (binOp .neq 38 (.agg (opF x).toArray) (.agg (opF y).toArray)).run Tryz.prog w = .ok (.bool (!decide (x = y))) w := by
  have hI : ∀ d (y z : Int), (Op.equalIn (d + 1) 3 (.int .i64 y) (.int .i64 z)).run Tryz.prog w = .ok (y == z) w := fun d y z => run_equalIn_int w d _ .i64 .i64 y z Tryz.underlying3
  have hC := fun x y => eq_cl w 9996 x y
  have hA := fun x y => eq_an w 9996 x y
  have hht : Tryz.prog.underlying 38 = some (.struct (Tryz.prog.fieldsOf 38)) := by simp only [Program.fieldsOf, Tryz.underlying38]
  have p0 : ∀ x : Opr, (part 3 (opF x).toArray 0).run Tryz.prog w = .ok (.int .i64 x.th) w := fun x => by kernel_rfl
  have p2 : ∀ x : Opr, (part 33 (opF x).toArray 1).run Tryz.prog w = .ok (.agg (clC x.c)) w := fun x => by kernel_rfl
  have p3 : ∀ x : Opr, (part 36 (opF x).toArray 8).run Tryz.prog w = .ok (.agg (anC x.a)) w := fun x => by kernel_rfl
  have p4 : ∀ x : Opr, (part 3 (opF x).toArray 14).run Tryz.prog w = .ok (.int .i64 x.fr) w := fun x => by kernel_rfl
  have p5 : ∀ x : Opr, (part 3 (opF x).toArray 15).run Tryz.prog w = .ok (.int .i64 x.to) w := fun x => by kernel_rfl
  rw [run_neq_struct, run_equalIn_agg w 9999 _ _ _ hht (by kernel_rfl), decOpr]
  simp only [Program.fieldsOf, Tryz.underlying38, Op.eqFields, Sem.run_ite, Sem.run_bind, p0, p2, p3, p4, p5, Result.andThen_ok, hI, hC, hA]
  cases (x.th == y.th) <;> cases (decide (x.c = y.c)) <;> cases (decide (x.a = y.a)) <;> cases (x.fr == y.fr) <;> cases (x.to == y.to) <;> rfl
theorem infoOpr : ∃ i0, Tryz.prog.info? 38 = some i0 ∧ i0.zero = some (.agg (opF ⟨0, zeroC, zeroA, 0, 0⟩).toArray) ∧ i0.size = 16 ∧ i0.bytes = 128 := by
  have h : (Tryz.prog.info? 38).map (fun i => (i.zero, i.size, i.bytes)) = some (some (.agg (opF ⟨0, zeroC, zeroA, 0, 0⟩).toArray), 16, 128) := by kernel_rfl
  exact info_parts h
end
end Go.Proofs.YtiafjbhekfpkbaaGreatDoor
