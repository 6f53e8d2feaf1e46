/- Sets, ways and arrays of ways are the same as themselves. -/
import Derived.Test.YtoimbgmajoajiaaWays
import Derived.Laws.StructEq
namespace Go.Proofs.Ytoimbgmajoajiaa
open Go.ChangeShapes Go.WideShapes Go.ChangeAt Go.RowKit

section
variable {P : Program} (w : World)
/-- An array is the same as itself, if each part is. -/
theorem run_equalIn_self (d : Nat) (t e : TypeId) (n m : Nat) (ht : P.underlying t = some (.array n e)) (hsz : ∀ w, (sizeOf e).run P w = .ok m w) (cs : Array Value)
    (hp : ∀ i, i < n → ∃ v, (part e cs (i * m)).run P w = .ok v w ∧ (Op.equalIn (d + 1) e v v).run P w = .ok true w) :
    (Op.equalIn (d + 2) t (.agg cs) (.agg cs)).run P w = .ok true w := by
  rw [Op.equalIn]
  simp only [Sem.run_bind, run_underlying ht, Result.andThen_ok, hsz, Std.Legacy.Range.forIn_eq_forIn_range', Std.Legacy.Range.size, Nat.sub_zero, Nat.add_sub_cancel, Nat.div_one]
  have hl : ∀ i ∈ List.range' 0 n 1, i < n := fun i hi => by simpa using (List.mem_range'_1.1 hi).2
  generalize List.range' 0 n 1 = l at hl ⊢
  induction l with
  | nil => simp
  | cons i l ih =>
    obtain ⟨v, h1, h2⟩ := hp i (hl i (by simp))
    simp only [List.forIn_cons, Sem.run_bind, h1, h2, Result.andThen_ok, Bool.not_true, Bool.false_eq_true, if_false, Sem.run_pure]
    exact ih fun j hj => hl j (by simp [hj])
end
section
variable (w : World)
theorem self_Way (d : Nat) (x : Int) (b : Bool) : (Op.equalIn (d + 2) 23 (.agg #[.int .i64 x, .bool b]) (.agg #[.int .i64 x, .bool b])).run Try.prog w = .ok true w := by
  have hI : ∀ d (y z : Int), (Op.equalIn (d + 1) 3 (.int .i64 y) (.int .i64 z)).run Try.prog w = .ok (y == z) w := fun d y z => run_equalIn_int w d _ .i64 .i64 y z Try.underlying3
  have hB : ∀ d (y z : Bool), (Op.equalIn (d + 1) 4 (.bool y) (.bool z)).run Try.prog w = .ok (y == z) w := fun d y z => run_equalIn_bool w d _ y z Try.underlying4
  have hht : Try.prog.underlying 23 = some (.struct (Try.prog.fieldsOf 23)) := by simp only [Program.fieldsOf, Try.underlying23]
  have p0 : (part 3 #[.int .i64 x, .bool b] 0).run Try.prog w = .ok (.int .i64 x) w := by simp [part, isAgg, run_underlying Try.underlying3]
  have p1 : (part 4 #[.int .i64 x, .bool b] 1).run Try.prog w = .ok (.bool b) w := by simp [part, isAgg, run_underlying Try.underlying4]
  rw [run_equalIn_agg w (d + 1) _ _ _ hht (by kernel_rfl)]
  simp only [Program.fieldsOf, Try.underlying23, Op.eqFields, Sem.run_ite, Sem.run_bind, p0, p1, Result.andThen_ok, hI, hB]
  simp
theorem self_W (d : Nat) (x : Int) (b : Bool) : (Op.equalIn (d + 2) 30 (.agg #[.int .i64 x, .bool b]) (.agg #[.int .i64 x, .bool b])).run Try.prog w = .ok true w := by
  have hI : ∀ d (y z : Int), (Op.equalIn (d + 1) 3 (.int .i64 y) (.int .i64 z)).run Try.prog w = .ok (y == z) w := fun d y z => run_equalIn_int w d _ .i64 .i64 y z Try.underlying3
  have hB : ∀ d (y z : Bool), (Op.equalIn (d + 1) 4 (.bool y) (.bool z)).run Try.prog w = .ok (y == z) w := fun d y z => run_equalIn_bool w d _ y z Try.underlying4
  have hht : Try.prog.underlying 30 = some (.struct (Try.prog.fieldsOf 30)) := by simp only [Program.fieldsOf, Try.underlying30]
  have p0 : (part 3 #[.int .i64 x, .bool b] 0).run Try.prog w = .ok (.int .i64 x) w := by simp [part, isAgg, run_underlying Try.underlying3]
  have p1 : (part 4 #[.int .i64 x, .bool b] 1).run Try.prog w = .ok (.bool b) w := by simp [part, isAgg, run_underlying Try.underlying4]
  rw [run_equalIn_agg w (d + 1) _ _ _ hht (by kernel_rfl)]
  simp only [Program.fieldsOf, Try.underlying30, Op.eqFields, Sem.run_ite, Sem.run_bind, p0, p1, Result.andThen_ok, hI, hB]
  simp
theorem part_Way0 (s : WS) : (part 23 #[.int .i64 (s.slot 0), .bool (s.tch 0), .int .i64 (s.slot 1), .bool (s.tch 1), .int .i64 (s.slot 2), .bool (s.tch 2), .int .i64 (s.slot 3), .bool (s.tch 3)] (0 * 2)).run Try.prog w = .ok (.agg #[.int .i64 (s.slot 0), .bool (s.tch 0)]) w := by kernel_rfl
theorem part_Way1 (s : WS) : (part 23 #[.int .i64 (s.slot 0), .bool (s.tch 0), .int .i64 (s.slot 1), .bool (s.tch 1), .int .i64 (s.slot 2), .bool (s.tch 2), .int .i64 (s.slot 3), .bool (s.tch 3)] (1 * 2)).run Try.prog w = .ok (.agg #[.int .i64 (s.slot 1), .bool (s.tch 1)]) w := by kernel_rfl
theorem part_Way2 (s : WS) : (part 23 #[.int .i64 (s.slot 0), .bool (s.tch 0), .int .i64 (s.slot 1), .bool (s.tch 1), .int .i64 (s.slot 2), .bool (s.tch 2), .int .i64 (s.slot 3), .bool (s.tch 3)] (2 * 2)).run Try.prog w = .ok (.agg #[.int .i64 (s.slot 2), .bool (s.tch 2)]) w := by kernel_rfl
theorem part_Way3 (s : WS) : (part 23 #[.int .i64 (s.slot 0), .bool (s.tch 0), .int .i64 (s.slot 1), .bool (s.tch 1), .int .i64 (s.slot 2), .bool (s.tch 2), .int .i64 (s.slot 3), .bool (s.tch 3)] (3 * 2)).run Try.prog w = .ok (.agg #[.int .i64 (s.slot 3), .bool (s.tch 3)]) w := by kernel_rfl
theorem part_W0 (s : WS) : (part 30 #[.int .i64 (s.slot 0), .bool (s.tch 0), .int .i64 (s.slot 1), .bool (s.tch 1), .int .i64 (s.slot 2), .bool (s.tch 2), .int .i64 (s.slot 3), .bool (s.tch 3)] (0 * 2)).run Try.prog w = .ok (.agg #[.int .i64 (s.slot 0), .bool (s.tch 0)]) w := by kernel_rfl
theorem part_W1 (s : WS) : (part 30 #[.int .i64 (s.slot 0), .bool (s.tch 0), .int .i64 (s.slot 1), .bool (s.tch 1), .int .i64 (s.slot 2), .bool (s.tch 2), .int .i64 (s.slot 3), .bool (s.tch 3)] (1 * 2)).run Try.prog w = .ok (.agg #[.int .i64 (s.slot 1), .bool (s.tch 1)]) w := by kernel_rfl
theorem part_W2 (s : WS) : (part 30 #[.int .i64 (s.slot 0), .bool (s.tch 0), .int .i64 (s.slot 1), .bool (s.tch 1), .int .i64 (s.slot 2), .bool (s.tch 2), .int .i64 (s.slot 3), .bool (s.tch 3)] (2 * 2)).run Try.prog w = .ok (.agg #[.int .i64 (s.slot 2), .bool (s.tch 2)]) w := by kernel_rfl
theorem part_W3 (s : WS) : (part 30 #[.int .i64 (s.slot 0), .bool (s.tch 0), .int .i64 (s.slot 1), .bool (s.tch 1), .int .i64 (s.slot 2), .bool (s.tch 2), .int .i64 (s.slot 3), .bool (s.tch 3)] (3 * 2)).run Try.prog w = .ok (.agg #[.int .i64 (s.slot 3), .bool (s.tch 3)]) w := by kernel_rfl
theorem size_Way (w : World) : (sizeOf 23).run Try.prog w = .ok 2 w := by kernel_rfl
theorem size_W (w : World) : (sizeOf 30).run Try.prog w = .ok 2 w := by kernel_rfl
theorem self_Ways (d : Nat) (s : WS) : (Op.equalIn (d + 3) 24 (.agg #[.int .i64 (s.slot 0), .bool (s.tch 0), .int .i64 (s.slot 1), .bool (s.tch 1), .int .i64 (s.slot 2), .bool (s.tch 2), .int .i64 (s.slot 3), .bool (s.tch 3)]) (.agg #[.int .i64 (s.slot 0), .bool (s.tch 0), .int .i64 (s.slot 1), .bool (s.tch 1), .int .i64 (s.slot 2), .bool (s.tch 2), .int .i64 (s.slot 3), .bool (s.tch 3)])).run Try.prog w = .ok true w :=
  run_equalIn_self w (d + 1) _ 23 4 2 Try.underlying24 size_Way _ fun i hi =>
    match i, hi with
    | 0, _ => ⟨_, part_Way0 w s, self_Way w d _ _⟩
    | 1, _ => ⟨_, part_Way1 w s, self_Way w d _ _⟩
    | 2, _ => ⟨_, part_Way2 w s, self_Way w d _ _⟩
    | 3, _ => ⟨_, part_Way3 w s, self_Way w d _ _⟩
theorem self_Ws (d : Nat) (s : WS) : (Op.equalIn (d + 3) 31 (.agg #[.int .i64 (s.slot 0), .bool (s.tch 0), .int .i64 (s.slot 1), .bool (s.tch 1), .int .i64 (s.slot 2), .bool (s.tch 2), .int .i64 (s.slot 3), .bool (s.tch 3)]) (.agg #[.int .i64 (s.slot 0), .bool (s.tch 0), .int .i64 (s.slot 1), .bool (s.tch 1), .int .i64 (s.slot 2), .bool (s.tch 2), .int .i64 (s.slot 3), .bool (s.tch 3)])).run Try.prog w = .ok true w :=
  run_equalIn_self w (d + 1) _ 30 4 2 Try.underlying31 size_W _ fun i hi =>
    match i, hi with
    | 0, _ => ⟨_, part_W0 w s, self_W w d _ _⟩
    | 1, _ => ⟨_, part_W1 w s, self_W w d _ _⟩
    | 2, _ => ⟨_, part_W2 w s, self_W w d _ _⟩
    | 3, _ => ⟨_, part_W3 w s, self_W w d _ _⟩
theorem part_S0 (s : WS) : (part 31 #[.int .i64 (s.slot 0), .bool (s.tch 0), .int .i64 (s.slot 1), .bool (s.tch 1), .int .i64 (s.slot 2), .bool (s.tch 2), .int .i64 (s.slot 3), .bool (s.tch 3), .int .i64 s.hand, .int .u64 (s.turns : Nat)] 0).run Try.prog w = .ok (.agg #[.int .i64 (s.slot 0), .bool (s.tch 0), .int .i64 (s.slot 1), .bool (s.tch 1), .int .i64 (s.slot 2), .bool (s.tch 2), .int .i64 (s.slot 3), .bool (s.tch 3)]) w := by kernel_rfl
theorem part_S1 (s : WS) : (part 3 #[.int .i64 (s.slot 0), .bool (s.tch 0), .int .i64 (s.slot 1), .bool (s.tch 1), .int .i64 (s.slot 2), .bool (s.tch 2), .int .i64 (s.slot 3), .bool (s.tch 3), .int .i64 s.hand, .int .u64 (s.turns : Nat)] 8).run Try.prog w = .ok (.int .i64 s.hand) w := by kernel_rfl
theorem part_S2 (s : WS) : (part 25 #[.int .i64 (s.slot 0), .bool (s.tch 0), .int .i64 (s.slot 1), .bool (s.tch 1), .int .i64 (s.slot 2), .bool (s.tch 2), .int .i64 (s.slot 3), .bool (s.tch 3), .int .i64 s.hand, .int .u64 (s.turns : Nat)] 9).run Try.prog w = .ok (.int .u64 (s.turns : Nat)) w := by kernel_rfl
theorem self_S (s : WS) : (Op.equalIn 10000 33 (.agg #[.int .i64 (s.slot 0), .bool (s.tch 0), .int .i64 (s.slot 1), .bool (s.tch 1), .int .i64 (s.slot 2), .bool (s.tch 2), .int .i64 (s.slot 3), .bool (s.tch 3), .int .i64 s.hand, .int .u64 (s.turns : Nat)]) (.agg #[.int .i64 (s.slot 0), .bool (s.tch 0), .int .i64 (s.slot 1), .bool (s.tch 1), .int .i64 (s.slot 2), .bool (s.tch 2), .int .i64 (s.slot 3), .bool (s.tch 3), .int .i64 s.hand, .int .u64 (s.turns : Nat)])).run Try.prog w = .ok true w := by
  have hI : ∀ d (y z : Int), (Op.equalIn (d + 1) 3 (.int .i64 y) (.int .i64 z)).run Try.prog w = .ok (y == z) w := fun d y z => run_equalIn_int w d _ .i64 .i64 y z Try.underlying3
  have hU : ∀ d (y z : Int), (Op.equalIn (d + 1) 25 (.int .u64 y) (.int .u64 z)).run Try.prog w = .ok (y == z) w := fun d y z => run_equalIn_int w d _ .u64 .u64 y z Try.underlying25
  have hA := self_Ws w 9996 s
  have hht : Try.prog.underlying 33 = some (.struct (Try.prog.fieldsOf 33)) := by simp only [Program.fieldsOf, Try.underlying33]
  rw [run_equalIn_agg w 9999 _ _ _ hht (by kernel_rfl)]
  simp only [Program.fieldsOf, Try.underlying33, Op.eqFields, Sem.run_ite, Sem.run_bind, part_S0, part_S1, part_S2, Result.andThen_ok, hI, hU, hA]
  simp
theorem eql_S (s : WS) : (binOp .eql 33 (.agg (rowOf 10 (setV s))) (.agg (rowOf 10 (setV s)))).run Try.prog w = .ok (.bool true) w := by
  rw [← fold10 s, run_eql_struct, self_S]; rfl
theorem neq_S (s : WS) : (binOp .neq 33 (.agg (rowOf 10 (setV s))) (.agg (rowOf 10 (setV s)))).run Try.prog w = .ok (.bool false) w := by
  rw [← fold10 s, run_neq_struct, self_S]; rfl
theorem neq_Way (x : Int) (b : Bool) : (binOp .neq 23 (.agg #[.int .i64 x, .bool b]) (.agg #[.int .i64 x, .bool b])).run Try.prog w = .ok (.bool false) w := by
  rw [run_neq_struct, self_Way w 9998]; rfl
theorem neq_Ways (s : WS) : (binOp .neq 24 (.agg #[.int .i64 (s.slot 0), .bool (s.tch 0), .int .i64 (s.slot 1), .bool (s.tch 1), .int .i64 (s.slot 2), .bool (s.tch 2), .int .i64 (s.slot 3), .bool (s.tch 3)]) (.agg #[.int .i64 (s.slot 0), .bool (s.tch 0), .int .i64 (s.slot 1), .bool (s.tch 1), .int .i64 (s.slot 2), .bool (s.tch 2), .int .i64 (s.slot 3), .bool (s.tch 3)])).run Try.prog w = .ok (.bool false) w := by
  rw [run_neq_struct, self_Ways w 9997]; rfl
end
end Go.Proofs.Ytoimbgmajoajiaa
