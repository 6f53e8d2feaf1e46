/- errors.As at the two targets that package fail has: a code, an Error. · errors.as along a chain of errors, at a target of type a code. · errors.As, and what is asked by it: the code that an error is of, where it comes from. -/
import Derived.Test.YtdbankogamolcaaDoorJ8
import Derived.Lib.IfaceEq
import Derived.Lib.ReflectliteSlice
import Derived.Lib.Builder
namespace Go.Proofs.YtdbankogamolcaaDoor
set_option linter.unusedSimpArgs false
set_option linter.unusedVariables false
open Go.ChangeShapes Go.WideShapes Go.RowKit Go.Extern.Stop Go.Stop Go.Extern

/-- The code that it is of, if it is of one. -/
def Errs.codeIn : Errs → Option Int
  | .code c => some c
  | .err _ _ _ _ i => i.codeIn
  | .note _ _ i => i.codeIn
  | _ => none
/-- The outermost Error. -/
def Errs.fromIn : Errs → Option (Option Nat)
  | .err g _ _ _ _ => some (some g)
  | .nilE => some none
  | .note _ _ i => i.fromIn
  | _ => none
def Errs.codeOr (e : Errs) (old : Value) : Value := match e.codeIn with | some c => .int .i64 c | none => old
def Errs.fromOr (e : Errs) (old : Value) : Value := match e.fromIn with | some (some g) => .pointer (some ⟨g, 0, none⟩) | some none => .pointer none | none => old

theorem set_arm (mo : Array Value → Sort _) (v x : Value) (h1 : ∀ v x, mo #[v, x]) (h2 : ∀ a, mo a) : ReflectliteValue.set.match_3 mo #[v, x] h1 h2 = h1 v x := rfl

section
variable (v : Value) (xT : TypeId) (w : World)
theorem tA_code : (Instr.typeAssert (.iface 35 v) xT 118 true).run Tryd.prog w = .ok (.tuple #[.nilIface, .bool false]) w := run_typeAssert_lacksB Tryd.underlying118 (by kernel_rfl) (by kernel_rfl) v xT w
theorem tA_err : (Instr.typeAssert (.iface 107 v) xT 118 true).run Tryd.prog w = .ok (.tuple #[.nilIface, .bool false]) w := run_typeAssert_lacksB Tryd.underlying118 (by kernel_rfl) (by kernel_rfl) v xT w
theorem tA_note : (Instr.typeAssert (.iface 80 v) xT 118 true).run Tryd.prog w = .ok (.tuple #[.nilIface, .bool false]) w := run_typeAssert_lacksB Tryd.underlying118 (by kernel_rfl) (by kernel_rfl) v xT w
theorem mKind (h : Value) : (Go.method 278 113 (.agg #[h]) "Kind").run Tryd.prog w = .ok (103, h) w := by kernel_rfl
theorem mElem (h : Value) : (Go.method 278 113 (.agg #[h]) "Elem").run Tryd.prog w = .ok (117, .agg #[h]) w := by kernel_rfl
theorem mImpl (h : Value) : (Go.method 278 113 (.agg #[h]) "Implements").run Tryd.prog w = .ok (118, .agg #[h]) w := by kernel_rfl
theorem mAssg (h : Value) : (Go.method 278 113 (.agg #[h]) "AssignableTo").run Tryd.prog w = .ok (115, .agg #[h]) w := by kernel_rfl
theorem mComp (h : Value) : (Go.method 278 113 (.agg #[h]) "Comparable").run Tryd.prog w = .ok (116, .agg #[h]) w := by kernel_rfl
theorem tOf_code : (ReflectliteType.typeOf #[.iface 35 v]).run Tryd.prog w = .ok (.iface 113 (.agg #[.pointer (some ⟨4, 35, none⟩)])) w := by kernel_rfl
theorem tOf_err : (ReflectliteType.typeOf #[.iface 107 v]).run Tryd.prog w = .ok (.iface 113 (.agg #[.pointer (some ⟨4, 107, none⟩)])) w := by kernel_rfl
theorem tOf_note : (ReflectliteType.typeOf #[.iface 80 v]).run Tryd.prog w = .ok (.iface 113 (.agg #[.pointer (some ⟨4, 80, none⟩)])) w := by kernel_rfl
end
theorem x_TypeOf (args : Array Value) (w : World) : (callFunc 64 args).run Tryd.prog w = ((ReflectliteType.typeOf args).run Tryd.prog w).andThen fun v w' => .ok (.value v) w' :=
  run_callFunc_extern (e := ReflectliteType.typeOf) Tryd.func64 (by kernel_rfl) (by kernel_rfl) (by kernel_rfl) (by kernel_rfl) args w
theorem x_Assg (args : Array Value) (w : World) : (callFunc 115 args).run Tryd.prog w = (((ReflectliteType.relation "AssignableTo" ReflectliteType.assignableTo) args).run Tryd.prog w).andThen fun v w' => .ok (.value v) w' :=
  run_callFunc_extern (e := (ReflectliteType.relation "AssignableTo" ReflectliteType.assignableTo)) Tryd.func115 (by kernel_rfl) (by kernel_rfl) (by kernel_rfl) (by kernel_rfl) args w
theorem x_VElem (args : Array Value) (w : World) : (callFunc 65 args).run Tryd.prog w = (((ReflectliteValue.method (ReflectliteValue.valueError "reflectlite.Value.Elem" 0) ReflectliteValue.elem) args).run Tryd.prog w).andThen fun v w' => .ok (.value v) w' :=
  run_callFunc_extern (e := (ReflectliteValue.method (ReflectliteValue.valueError "reflectlite.Value.Elem" 0) ReflectliteValue.elem)) Tryd.func65 (by kernel_rfl) (by kernel_rfl) (by kernel_rfl) (by kernel_rfl) args w
theorem x_Set (args : Array Value) (w : World) : (callFunc 66 args).run Tryd.prog w = ((ReflectliteValue.set args).run Tryd.prog w).andThen fun v w' => .ok (.value v) w' :=
  run_callFunc_extern (e := ReflectliteValue.set) Tryd.func66 (by kernel_rfl) (by kernel_rfl) (by kernel_rfl) (by kernel_rfl) args w
theorem x_ValueOf (args : Array Value) (w : World) : (callFunc 49 args).run Tryd.prog w = (((fun args => ReflectliteValue.unpack (args.getD 0 (.tuple #[]))) args).run Tryd.prog w).andThen fun v w' => .ok (.value v) w' :=
  run_callFunc_extern (e := (fun args => ReflectliteValue.unpack (args.getD 0 (.tuple #[])))) Tryd.func49 (by kernel_rfl) (by kernel_rfl) (by kernel_rfl) (by kernel_rfl) args w
theorem x_VType (args : Array Value) (w : World) : (callFunc 50 args).run Tryd.prog w = (((ReflectliteValue.methodAny (ReflectliteValue.valueError "reflectlite.Value.Type" 0) (fun t _ _ _ => ReflectliteType.toType t)) args).run Tryd.prog w).andThen fun v w' => .ok (.value v) w' :=
  run_callFunc_extern (e := (ReflectliteValue.methodAny (ReflectliteValue.valueError "reflectlite.Value.Type" 0) (fun t _ _ _ => ReflectliteType.toType t))) Tryd.func50 (by kernel_rfl) (by kernel_rfl) (by kernel_rfl) (by kernel_rfl) args w
theorem x_IsNil (args : Array Value) (w : World) : (callFunc 51 args).run Tryd.prog w = (((ReflectliteValue.method (ReflectliteValue.valueError "reflectlite.Value.IsNil" 0) ReflectliteValue.isNil) args).run Tryd.prog w).andThen fun v w' => .ok (.value v) w' :=
  run_callFunc_extern (e := (ReflectliteValue.method (ReflectliteValue.valueError "reflectlite.Value.IsNil" 0) ReflectliteValue.isNil)) Tryd.func51 (by kernel_rfl) (by kernel_rfl) (by kernel_rfl) (by kernel_rfl) args w
theorem x_Kind (args : Array Value) (w : World) : (callFunc 103 args).run Tryd.prog w = (((ReflectliteType.abiMethod fun t => do pure (.int .u8 (← Rtype.kind t))) args).run Tryd.prog w).andThen fun v w' => .ok (.value v) w' :=
  run_callFunc_extern (e := (ReflectliteType.abiMethod fun t => do pure (.int .u8 (← Rtype.kind t)))) Tryd.func103 (by kernel_rfl) (by kernel_rfl) (by kernel_rfl) (by kernel_rfl) args w
theorem x_Elem (args : Array Value) (w : World) : (callFunc 117 args).run Tryd.prog w = (((ReflectliteType.method ReflectliteType.elem) args).run Tryd.prog w).andThen fun v w' => .ok (.value v) w' :=
  run_callFunc_extern (e := (ReflectliteType.method ReflectliteType.elem)) Tryd.func117 (by kernel_rfl) (by kernel_rfl) (by kernel_rfl) (by kernel_rfl) args w
theorem x_Impl (args : Array Value) (w : World) : (callFunc 118 args).run Tryd.prog w = (((ReflectliteType.relation "Implements" ReflectliteType.implements_) args).run Tryd.prog w).andThen fun v w' => .ok (.value v) w' :=
  run_callFunc_extern (e := (ReflectliteType.relation "Implements" ReflectliteType.implements_)) Tryd.func118 (by kernel_rfl) (by kernel_rfl) (by kernel_rfl) (by kernel_rfl) args w

/-! ### target C -/
theorem kC (w : World) : ((ReflectliteType.abiMethod fun t => (fun a : Nat => Value.int IntKind.u8 (a : Int)) <$> Rtype.kind t) #[.pointer (some ⟨4, 35, none⟩)]).run Tryd.prog w = .ok (.int .u8 2) w := by kernel_rfl
theorem kpC (w : World) : ((ReflectliteType.abiMethod fun t => (fun a : Nat => Value.int IntKind.u8 (a : Int)) <$> Rtype.kind t) #[.pointer (some ⟨4, 63, none⟩)]).run Tryd.prog w = .ok (.int .u8 22) w := by kernel_rfl
theorem vOfpC (t : Addr) (w : World) : (ReflectliteValue.unpack (.iface 63 (.pointer (some t)))).run Tryd.prog w
    = .ok (.agg #[.pointer (some ⟨4, 63, none⟩), .pointer (some ⟨w.heap.size, 0, none⟩), .int .u64 150]) (w.alloc (.cells #[.pointer (some t)] 63)) := by kernel_rfl
theorem vOfC (c : Int) (w : World) : (ReflectliteValue.unpack (.iface 35 (.int .i64 c))).run Tryd.prog w
    = .ok (.agg #[.pointer (some ⟨4, 35, none⟩), .pointer (some ⟨w.heap.size, 0, none⟩), .int .u64 130]) (w.alloc (.cells #[(.int .i64 c)] 35)) := by kernel_rfl
theorem typC (a : Addr) (w : World) : (ReflectliteValue.methodAny (ReflectliteValue.valueError "reflectlite.Value.Type" 0) (fun t _ _ _ => ReflectliteType.toType t) #[.agg #[.pointer (some ⟨4, 63, none⟩), .pointer (some a), .int .u64 150]]).run Tryd.prog w
    = .ok (.iface 113 (.agg #[.pointer (some ⟨4, 63, none⟩)])) w := by kernel_rfl
theorem elC (w : World) : (ReflectliteType.method ReflectliteType.elem #[.agg #[.pointer (some ⟨4, 63, none⟩)]]).run Tryd.prog w = .ok (.iface 113 (.agg #[.pointer (some ⟨4, 35, none⟩)])) w := by kernel_rfl
theorem imC (w : World) : (ReflectliteType.relation "Implements" ReflectliteType.implements_ #[.agg #[.pointer (some ⟨4, 35, none⟩)], .iface 113 (.agg #[.pointer (some ⟨4, 33, none⟩)])]).run Tryd.prog w = .ok (.bool true) w := by kernel_rfl
theorem asgC_code (w : World) : (ReflectliteType.relation "AssignableTo" ReflectliteType.assignableTo #[.agg #[.pointer (some ⟨4, 35, none⟩)], .iface 113 (.agg #[.pointer (some ⟨4, 35, none⟩)])]).run Tryd.prog w = .ok (.bool true) w := by kernel_rfl
theorem asgC_err (w : World) : (ReflectliteType.relation "AssignableTo" ReflectliteType.assignableTo #[.agg #[.pointer (some ⟨4, 107, none⟩)], .iface 113 (.agg #[.pointer (some ⟨4, 35, none⟩)])]).run Tryd.prog w = .ok (.bool false) w := by kernel_rfl
theorem asgC_note (w : World) : (ReflectliteType.relation "AssignableTo" ReflectliteType.assignableTo #[.agg #[.pointer (some ⟨4, 80, none⟩)], .iface 113 (.agg #[.pointer (some ⟨4, 35, none⟩)])]).run Tryd.prog w = .ok (.bool false) w := by kernel_rfl
theorem parpC (a : Addr) (w : World) : (ReflectliteValue.parts (.agg #[.pointer (some ⟨4, 63, none⟩), .pointer (some a), .int .u64 150])).run Tryd.prog w = .ok (some (63, a, 150)) w := by kernel_rfl
theorem isNilC (a p : Addr) (W : World) (ha : W.cell? a = some (.pointer (some p))) :
    (ReflectliteValue.method (ReflectliteValue.valueError "reflectlite.Value.IsNil" 0) ReflectliteValue.isNil #[.agg #[.pointer (some ⟨4, 63, none⟩), .pointer (some a), .int .u64 150]]).run Tryd.prog W = .ok (.bool false) W := by
  rw [Lib.rl_method]
  simp only [Sem.run_bind, parpC, Result.andThen]
  simp [ReflectliteValue.isNil, loadVar, isAgg, underlying, Tryd.underlying63, ha, Result.andThen]
theorem elOfC (w : World) : (Rtype.elem? 63).run Tryd.prog w = .ok (some 35) w := by kernel_rfl
theorem mkC (p : Addr) (w : World) : (ReflectliteValue.mk 35 p ReflectliteValue.flagAddr).run Tryd.prog w = .ok (.agg #[.pointer (some ⟨4, 35, none⟩), .pointer (some p), .int .u64 386]) w := by kernel_rfl
theorem elVC (a p : Addr) (W : World) (ha : W.cell? a = some (.pointer (some p))) :
    (ReflectliteValue.method (ReflectliteValue.valueError "reflectlite.Value.Elem" 0) ReflectliteValue.elem #[.agg #[.pointer (some ⟨4, 63, none⟩), .pointer (some a), .int .u64 150]]).run Tryd.prog W
      = .ok (.agg #[.pointer (some ⟨4, 35, none⟩), .pointer (some p), .int .u64 386]) W := by
  rw [Lib.rl_method]
  simp only [Sem.run_bind, parpC, Result.andThen]
  simp [ReflectliteValue.elem, loadVar, isAgg, underlying, Tryd.underlying63, ha, Result.andThen, elOfC, mkC]
theorem parAC (a : Addr) (w : World) : (ReflectliteValue.parts (.agg #[.pointer (some ⟨4, 35, none⟩), .pointer (some a), .int .u64 386])).run Tryd.prog w = .ok (some (35, a, 386)) w := by kernel_rfl
theorem parBC (a : Addr) (w : World) : (ReflectliteValue.parts (.agg #[.pointer (some ⟨4, 35, none⟩), .pointer (some a), .int .u64 130])).run Tryd.prog w = .ok (some (35, a, 130)) w := by kernel_rfl
theorem dirC (w : World) : (Rtype.directlyAssignable 35 35).run Tryd.prog w = .ok true w := by kernel_rfl
theorem setC (ta b : Addr) (c : Int) (old : Value) (W : World) (hb : W.cell? b = some (.int .i64 c)) (ht : W.cell? ta = some old) (hf : W.frozen? ta = false) :
    (ReflectliteValue.set #[.agg #[.pointer (some ⟨4, 35, none⟩), .pointer (some ta), .int .u64 386], .agg #[.pointer (some ⟨4, 35, none⟩), .pointer (some b), .int .u64 130]]).run Tryd.prog W
      = .ok (.tuple #[]) (W.setCell ta (.int .i64 c)) := by
  delta ReflectliteValue.set
  rw [set_arm]
  simp only [Sem.run_bind, parAC, parBC, Result.andThen]
  simp [ReflectliteValue.flagAddr, loadVar, isAgg, underlying, Tryd.underlying35, hb, Result.andThen, dirC, storeVar, Value.cells, storeCells, Addr.add]
  rw [run_store Tryd.prog W ta _ _ (by rfl)]
  simp [ht, hf]

/-! ### target E -/
theorem kE (w : World) : ((ReflectliteType.abiMethod fun t => (fun a : Nat => Value.int IntKind.u8 (a : Int)) <$> Rtype.kind t) #[.pointer (some ⟨4, 107, none⟩)]).run Tryd.prog w = .ok (.int .u8 22) w := by kernel_rfl
theorem vOfE (p : Option Addr) (w : World) : (ReflectliteValue.unpack (.iface 107 (.pointer p))).run Tryd.prog w
    = .ok (.agg #[.pointer (some ⟨4, 107, none⟩), .pointer (some ⟨w.heap.size, 0, none⟩), .int .u64 150]) (w.alloc (.cells #[(.pointer p)] 107)) := by kernel_rfl
theorem imE (w : World) : (ReflectliteType.relation "Implements" ReflectliteType.implements_ #[.agg #[.pointer (some ⟨4, 107, none⟩)], .iface 113 (.agg #[.pointer (some ⟨4, 33, none⟩)])]).run Tryd.prog w = .ok (.bool true) w := by kernel_rfl
theorem asgE_code (w : World) : (ReflectliteType.relation "AssignableTo" ReflectliteType.assignableTo #[.agg #[.pointer (some ⟨4, 35, none⟩)], .iface 113 (.agg #[.pointer (some ⟨4, 107, none⟩)])]).run Tryd.prog w = .ok (.bool false) w := by kernel_rfl
theorem asgE_err (w : World) : (ReflectliteType.relation "AssignableTo" ReflectliteType.assignableTo #[.agg #[.pointer (some ⟨4, 107, none⟩)], .iface 113 (.agg #[.pointer (some ⟨4, 107, none⟩)])]).run Tryd.prog w = .ok (.bool true) w := by kernel_rfl
theorem asgE_note (w : World) : (ReflectliteType.relation "AssignableTo" ReflectliteType.assignableTo #[.agg #[.pointer (some ⟨4, 80, none⟩)], .iface 113 (.agg #[.pointer (some ⟨4, 107, none⟩)])]).run Tryd.prog w = .ok (.bool false) w := by kernel_rfl
theorem mkE (p : Addr) (w : World) : (ReflectliteValue.mk 107 p ReflectliteValue.flagAddr).run Tryd.prog w = .ok (.agg #[.pointer (some ⟨4, 107, none⟩), .pointer (some p), .int .u64 406]) w := by kernel_rfl
theorem parAE (a : Addr) (w : World) : (ReflectliteValue.parts (.agg #[.pointer (some ⟨4, 107, none⟩), .pointer (some a), .int .u64 406])).run Tryd.prog w = .ok (some (107, a, 406)) w := by kernel_rfl
theorem parBE (a : Addr) (w : World) : (ReflectliteValue.parts (.agg #[.pointer (some ⟨4, 107, none⟩), .pointer (some a), .int .u64 150])).run Tryd.prog w = .ok (some (107, a, 150)) w := by kernel_rfl
theorem dirE (w : World) : (Rtype.directlyAssignable 107 107).run Tryd.prog w = .ok true w := by kernel_rfl
theorem setE (ta b : Addr) (p : Option Addr) (old : Value) (W : World) (hb : W.cell? b = some (.pointer p)) (ht : W.cell? ta = some old) (hf : W.frozen? ta = false) :
    (ReflectliteValue.set #[.agg #[.pointer (some ⟨4, 107, none⟩), .pointer (some ta), .int .u64 406], .agg #[.pointer (some ⟨4, 107, none⟩), .pointer (some b), .int .u64 150]]).run Tryd.prog W
      = .ok (.tuple #[]) (W.setCell ta (.pointer p)) := by
  delta ReflectliteValue.set
  rw [set_arm]
  simp only [Sem.run_bind, parAE, parBE, Result.andThen]
  simp [ReflectliteValue.flagAddr, loadVar, isAgg, underlying, Tryd.underlying107, hb, Result.andThen, dirE, storeVar, Value.cells, storeCells, Addr.add]
  rw [run_store Tryd.prog W ta _ _ (by rfl)]
  simp [ht, hf]
end Go.Proofs.YtdbankogamolcaaDoor
namespace Go.Proofs.YtdbankogamolcaaDoor
set_option linter.unusedSimpArgs false
set_option linter.unusedVariables false
open Go.ChangeShapes Go.WideShapes Go.RowKit Go.Extern.Stop Go.Stop Go.Extern

set_option maxHeartbeats 4000000 in
set_option maxRecDepth 100000 in
theorem asC_any (e : Errs) (tb b : Nat) (old : Value) (w : World) (he : e ≠ .no) (h : ErrsIs w e) (hb : w.cell? ⟨b, 0, none⟩ = some (.pointer (some ⟨tb, 0, none⟩))) (ht : w.cell? ⟨tb, 0, none⟩ = some old) (hf : w.frozen? ⟨tb, 0, none⟩ = false) :
    Calls Tryd.prog 52 #[e.val, .iface 63 (.pointer (some ⟨tb, 0, none⟩)), .agg #[.pointer (some ⟨4, 63, none⟩), .pointer (some ⟨b, 0, none⟩), .int .u64 150], .iface 113 (.agg #[.pointer (some ⟨4, 35, none⟩)])] w
      fun r w' => r = .returned (.bool e.codeIn.isSome) ∧ w'.cell? ⟨tb, 0, none⟩ = some (e.codeOr old) ∧ Below tb w w' := by
  have x1 := x_TypeOf; have x2 := x_Assg; have x3 := x_VElem; have x4 := x_Set; have x5 := x_ValueOf
  have c1 := tU_code; have c2 := tU_err; have c4 := tUs_code; have c5 := tA_code; have c6 := tA_err
  have m1 := mAssg; have m2 := mU_err; have o1 := tOf_code; have o2 := tOf_err
  have c3 := tU_note; have c7 := tA_note; have m3 := mU_note; have o3 := tOf_note
  have a1 := asgC_code; have a2 := asgC_err; have v1 := vOfC
  have a3 := asgC_note
  have hbl := World.block_lt_of_cell? _ _ hb
  have htl := World.block_lt_of_cell? _ _ ht
  have HE := Lib.hid he; have H := Lib.hid h
  have CB := Lib.hid hb; have CT := Lib.hid ht; have CF := Lib.hid hf
  clear he h hb ht hf
  go_enter Tryd.func52, Tryd.ntmps52
  go_upto_region 1 with fail
  generalize hW : World.alloc _ _ = W
  have hB : Below w.heap.size w W := by rw [← hW]; exact (Below.refl _ _).alloc (Nat.le_refl _) _
  have hbox : W.heap[w.heap.size]? = some (.cells #[.pointer (some ⟨4, 63, none⟩), .pointer (some ⟨b, 0, none⟩), .int .u64 150] 90 (0, 0)) := by rw [← hW]; exact heap_alloc_new _ _
  have k0 : W.cell? ⟨w.heap.size, 0, none⟩ = some (.pointer (some ⟨4, 63, none⟩)) := by rw [Lib.cell_of_heap hbox]; rfl
  have k1 : W.cell? ⟨w.heap.size, 1, none⟩ = some (.pointer (some ⟨b, 0, none⟩)) := by rw [Lib.cell_of_heap hbox]; rfl
  have k2 : W.cell? ⟨w.heap.size, 2, none⟩ = some (.int .u64 150) := by rw [Lib.cell_of_heap hbox]; rfl
  have H' := Lib.hid (H.out.below hB)
  have CB' := Lib.hid ((hB.cell hbl).trans CB.out)
  have CT' := Lib.hid ((hB.cell htl).trans CT.out)
  have CF' := Lib.hid ((hB.frozen htl).trans CF.out)
  have TL := Lib.hid (Nat.lt_of_lt_of_le htl hB.size)
  have HB := Lib.hid (hB.mono (Nat.le_of_lt htl))
  clear hB hbox hW hbl htl H CB CT CF
  generalize w.heap.size = bx at *
  go_loop [0] (fun a => ∃ x : Errs, a = x.val ∧ x ≠ .no ∧ x.codeIn = e.codeIn ∧ ErrsIs W x) (fun a => mV a)
  case atStart => exact ⟨e, rfl, HE.out, rfl, H'.out⟩
  case round =>
    obtain ⟨x, rfl, hx0, hxc, hx⟩ := hrel
    have HX := Lib.hid hx; have HC := Lib.hid hxc
    clear hx hxc
    cases x with
    | no => exact absurd rfl hx0
    | code c =>
      clear hx0
      have el := elVC ⟨b, 0, none⟩ ⟨tb, 0, none⟩ W CB'.out
      have st := setC ⟨tb, 0, none⟩ ⟨W.heap.size, 0, none⟩ c old (W.alloc (.cells #[.int .i64 c] 35))
        (by rw [World.cell?_alloc_at _ _ _ _ (by simp)]; rfl)
        (by rw [World.cell?_alloc_lt _ _ _ TL.out]; exact CT'.out)
        (by rw [World.frozen?_alloc_old _ _ _ (Nat.ne_of_lt TL.out)]; exact CF'.out)
      simp only [Errs.val]
      go_wp2_with fail
      go_ret
      have hz : e.codeIn = some c := HC.out.symm
      refine ⟨by rw [hz]; rfl, ?_, ?_⟩
      · have : e.codeOr old = .int .i64 c := by unfold Errs.codeOr; rw [hz]
        rw [this]
        have hc : (W.alloc (.cells #[.int .i64 c] 35)).cell? ⟨tb, 0, none⟩ = some old := by rw [World.cell?_alloc_lt _ _ _ TL.out]; exact CT'.out
        exact World.cell?_setCell_same _ _ _ hc
      · exact (HB.out.trans ((Below.refl tb W).alloc (Nat.le_of_lt TL.out) _)).setCell (p := ⟨tb, 0, none⟩) (Nat.le_refl _) _
    | nilE =>
      clear hx0
      simp only [Errs.val]
      go_wp2_with (go_at_call 113; refine (eUnwrap_nil _).mono ?_; rintro r w' ⟨rfl, rfl⟩)
      go_ret
      have hz : e.codeIn = none := HC.out.symm
      refine ⟨by rw [hz]; rfl, ?_, HB.out⟩
      have : e.codeOr old = old := by unfold Errs.codeOr; rw [hz]
      rw [this]; exact CT'.out
    | err g t l s i =>
      clear hx0
      have h3 := HX.out.2.2.2.2.1
      by_cases hi : i = .no
      · subst hi
        have hn : W.cell? ⟨g, 3, none⟩ = some .nilIface := h3
        clear h3
        simp only [Errs.val]
        go_wp2_with (go_at_call 113; refine (eUnwrap_any g .nilIface W hn).mono ?_; rintro r w' ⟨rfl, rfl⟩)
        go_ret
        have hz : e.codeIn = none := HC.out.symm
        refine ⟨by rw [hz]; rfl, ?_, HB.out⟩
        have : e.codeOr old = old := by unfold Errs.codeOr; rw [hz]
        rw [this]; exact CT'.out
      · obtain ⟨U, v, hv⟩ := val_iface i hi
        have HI := Lib.hid hi; have HV := Lib.hid hv
        rw [hv] at h3
        clear hi hv
        simp only [Errs.val]
        go_wp2_with (go_at_call 113; refine (eUnwrap_any g (.iface U v) W h3).mono ?_; rintro r w' ⟨rfl, rfl⟩)
        go_round
        case rel => exact ⟨i, HV.out.symm, HI.out, HC.out, HX.out.inner⟩
        case measure =>
          rw [← HV.out, mV_val]
          have := top_inner _ HX.out (by intro h; cases h)
          exact this
    | note g s i =>
      clear hx0
      have h3 := HX.out.2.2.1
      by_cases hi : i = .no
      · subst hi
        have hn : W.cell? ⟨g, 1, none⟩ = some .nilIface := h3
        clear h3
        simp only [Errs.val]
        go_wp2_with (go_at_call 108; refine (nUnwrap_any g .nilIface W hn).mono ?_; rintro r w' ⟨rfl, rfl⟩)
        go_ret
        have hz : e.codeIn = none := HC.out.symm
        refine ⟨by rw [hz]; rfl, ?_, HB.out⟩
        have : e.codeOr old = old := by unfold Errs.codeOr; rw [hz]
        rw [this]; exact CT'.out
      · obtain ⟨U, v, hv⟩ := val_iface i hi
        have HI := Lib.hid hi; have HV := Lib.hid hv
        rw [hv] at h3
        clear hi hv
        simp only [Errs.val]
        go_wp2_with (go_at_call 108; refine (nUnwrap_any g (.iface U v) W h3).mono ?_; rintro r w' ⟨rfl, rfl⟩)
        go_round
        case rel => exact ⟨i, HV.out.symm, HI.out, HC.out, HX.out.inner⟩
        case measure =>
          rw [← HV.out, mV_val]
          have := top_inner _ HX.out (by intro h; cases h)
          exact this
end Go.Proofs.YtdbankogamolcaaDoor
namespace Go.Proofs.YtdbankogamolcaaDoor
set_option linter.unusedSimpArgs false
set_option linter.unusedVariables false
open Go.ChangeShapes Go.WideShapes Go.RowKit Go.Extern.Stop Go.Stop Go.Extern

/-- What errors.As reads: the type 'error'. -/
def ErrT (w : World) : Prop := w.cell? ⟨0, 0, none⟩ = some (.iface 113 (.agg #[.pointer (some ⟨4, 33, none⟩)]))
theorem ErrT.below {w w' : World} (h : ErrT w) (hb : Below w.heap.size w w') : ErrT w' := (hb.cell (World.block_lt_of_cell? _ _ h)).trans h
theorem As_nil (t : Value) (w : World) : Calls Tryd.prog 28 #[.nilIface, t] w fun e w' => e = .returned (.bool false) ∧ w' = w := by
  go_enter Tryd.func28, Tryd.ntmps28
  go_wp2
  go_ret
  exact ⟨rfl, rfl⟩

set_option maxHeartbeats 4000000 in
set_option maxRecDepth 100000 in
theorem AsC_any (e : Errs) (tb : Nat) (old : Value) (w : World) (h : ErrsIs w e) (hg : ErrT w) (ht : w.cell? ⟨tb, 0, none⟩ = some old) (hf : w.frozen? ⟨tb, 0, none⟩ = false) :
    Calls Tryd.prog 28 #[e.val, .iface 63 (.pointer (some ⟨tb, 0, none⟩))] w fun r w' => r = .returned (.bool e.codeIn.isSome) ∧ w'.cell? ⟨tb, 0, none⟩ = some (e.codeOr old) ∧ Below tb w w' := by
  by_cases he : e = .no
  · subst he
    refine (As_nil _ w).mono ?_
    rintro r w' ⟨rfl, rfl⟩
    exact ⟨rfl, ht, Below.refl _ _⟩
  obtain ⟨U, v, hv⟩ := val_iface e he
  have x1 := x_ValueOf; have x2 := x_VType; have x3 := x_IsNil; have x4 := x_Kind; have x5 := x_Elem; have x6 := x_Impl
  have m1 := mKind; have m2 := mElem; have m3 := mImpl
  have f1 := vOfpC; have f2 := typC; have f3 := kpC; have f4 := kC; have f5 := elC; have f6 := imC
  have htl := World.block_lt_of_cell? _ _ ht
  have hgl := World.block_lt_of_cell? _ _ hg
  have hB2 : Below w.heap.size w ((w.alloc (.cells #[.pointer (some ⟨tb, 0, none⟩)] 63)).alloc (.cells #[.pointer (some ⟨4, 63, none⟩), .pointer (some ⟨w.heap.size, 0, none⟩), .int .u64 150] 90)) :=
    ((Below.refl _ _).alloc (Nat.le_refl _) _).alloc (by simp) _
  have g2 := hg.below hB2
  have c2 : ((w.alloc (.cells #[.pointer (some ⟨tb, 0, none⟩)] 63)).alloc (.cells #[.pointer (some ⟨4, 63, none⟩), .pointer (some ⟨w.heap.size, 0, none⟩), .int .u64 150] 90)).cell? ⟨w.heap.size, 0, none⟩ = some (.pointer (some ⟨tb, 0, none⟩)) := by
    rw [World.cell?_alloc_lt _ _ ⟨w.heap.size, 0, none⟩ (by simp)]; simp
  have hA := asC_any e tb w.heap.size old _ he (h.below hB2) c2 ((hB2.cell htl).trans ht) ((hB2.frozen htl).trans hf)
  have n8 := isNilC ⟨w.heap.size, 0, none⟩ ⟨tb, 0, none⟩ _ c2
  have HB2 := Lib.hid (hB2.mono (Nat.le_of_lt htl))
  unfold ErrT at g2
  rw [hv] at hA ⊢
  clear hv h hg ht hf he hB2 c2 htl hgl
  go_enter Tryd.func28, Tryd.ntmps28
  go_wp2_with (go_at_call 52; refine hA.mono ?_; rintro r w' ⟨rfl, hc, hb⟩)
  go_ret
  exact ⟨rfl, hc, HB2.out.trans hb⟩

/-- Code. -/
def Errs.codeOf (e : Errs) : Int := match e with | .no => 0 | e => e.codeIn.getD 14
theorem code_any (e : Errs) (w : World) (h : ErrsIs w e) (hg : ErrT w) : Calls Tryd.prog 11 #[e.val] w fun r w' => r = .returned (.int .i64 e.codeOf) ∧ Below w.heap.size w w' := by
  by_cases he : e = .no
  · subst he
    show Calls Tryd.prog 11 #[.nilIface] w fun r w' => r = .returned (.int .i64 0) ∧ Below w.heap.size w w'
    clear h hg
    go_enter Tryd.func11, Tryd.ntmps11
    go_wp2
    go_ret
    exact ⟨rfl, Below.refl _ _⟩
  have hB : Below w.heap.size w (w.alloc (.cells #[.int .i64 0] 35)) := (Below.refl _ _).alloc (Nat.le_refl _) _
  have hA := AsC_any e w.heap.size (.int .i64 0) _ (h.below hB) (hg.below hB) (by simp) (by simp)
  have HB := Lib.hid hB
  have hcd : e.codeOf = e.codeIn.getD 14 := by cases e <;> first | rfl | exact absurd rfl he
  obtain ⟨U, v, hv⟩ := val_iface e he
  rw [hcd]
  unfold Errs.codeOr at hA
  rw [hv] at hA ⊢
  clear hcd hv he h hg hB
  cases hcc : e.codeIn with
  | none =>
    rw [hcc] at hA
    clear hcc
    go_enter Tryd.func11, Tryd.ntmps11
    go_wp2_with (go_at_call 28; refine hA.mono ?_; rintro r w' ⟨rfl, hc, hb⟩)
    go_ret
    exact ⟨rfl, HB.out.trans hb⟩
  | some c =>
    rw [hcc] at hA
    clear hcc
    go_enter Tryd.func11, Tryd.ntmps11
    go_wp2_with (go_at_call 28; refine hA.mono ?_; rintro r w' ⟨rfl, hc, hb⟩)
    go_ret
    exact ⟨rfl, HB.out.trans hb⟩
/-- Where. -/
def Errs.placeIn : Errs → Option (Int × Int)
  | .err _ t l _ _ => some (t, l)
  | .note _ _ i => i.placeIn
  | _ => none
def Errs.wT (e : Errs) : Int := (e.placeIn.getD (0, 0)).1
def Errs.wL (e : Errs) : Int := (e.placeIn.getD (0, 0)).2
theorem from_place {w : World} : ∀ {e : Errs}, ErrsIs w e → (∀ g, e.fromIn = some (some g) → ∃ t l, e.placeIn = some (t, l) ∧ w.cell? ⟨g, 0, none⟩ = some (.int .i64 t) ∧ w.cell? ⟨g, 1, none⟩ = some (.int .i64 l)) ∧ ((∀ g, e.fromIn ≠ some (some g)) → e.placeIn = none)
  | .code _, _ => ⟨fun g h => (by cases h), fun _ => rfl⟩
  | .nilE, _ => ⟨fun g h => (by cases h), fun _ => rfl⟩
  | .no, _ => ⟨fun g h => (by cases h), fun _ => rfl⟩
  | .err g t l s i, h => ⟨fun g' e => (by cases e; exact ⟨t, l, rfl, h.2.1, h.2.2.1⟩), fun hn => absurd rfl (hn g)⟩
  | .note g s i, h => from_place (e := i) h.inner
end Go.Proofs.YtdbankogamolcaaDoor
