/- Errors that wrap errors: what they are in memory, and how deep they are. -/
import Derived.Test.YthhheeocanbkiaaDoorRow
import Derived.Test.YthhheeocanbkiaaDoorRef8
import Derived.LaidEql
import Derived.Stop.Asserts
import Derived.Stop.IfaceNil
import Derived.RowKitTokens
namespace Go.Proofs.YthhheeocanbkiaaDoor
open Go.ChangeShapes Go.WideShapes Go.RowKit Go.Extern.Stop Go.Stop Go.Extern

/-- An error of package fail's make: a code, a nil Error, none, an Error (its block), a note. -/
inductive Errs where
  | code (c : Int)
  | nilE
  | no
  | err (g : Nat) (t l : Int) (s : List UInt8) (i : Errs)
  | note (g : Nat) (s : List UInt8) (i : Errs)
def Errs.val : Errs → Value
  | .code c => .iface 35 (.int .i64 c)
  | .nilE => .iface 63 (.pointer none)
  | .no => .nilIface
  | .err g _ _ _ _ => .iface 63 (.pointer (some ⟨g, 0, none⟩))
  | .note g _ _ => .iface 68 (.pointer (some ⟨g, 0, none⟩))
def Errs.inner : Errs → Errs
  | .err _ _ _ _ i => i
  | .note _ _ i => i
  | _ => .no
/-- Two more than its block's place; 1, if it has none; 0 of none. -/
def Errs.top : Errs → Nat
  | .err g _ _ _ _ => g + 2
  | .note g _ _ => g + 2
  | .no => 0
  | _ => 1
def Errs.deep : Errs → Nat
  | .err _ _ _ _ .no => 0
  | .err _ _ _ _ i => 1 + i.deep
  | .note _ _ .no => 0
  | .note _ _ i => 1 + i.deep
  | _ => 0
/-- It is in memory. -/
def ErrsIs (w : World) : Errs → Prop
  | .code c => -9223372036854775808 ≤ c ∧ c ≤ 9223372036854775807
  | .nilE => True
  | .no => True
  | .err g t l s i => g < w.heap.size ∧ w.cell? ⟨g, 0, none⟩ = some (.int .i64 t) ∧ w.cell? ⟨g, 1, none⟩ = some (.int .i64 l) ∧ w.cell? ⟨g, 2, none⟩ = some (.string (sB s)) ∧ w.cell? ⟨g, 3, none⟩ = some i.val
      ∧ (-9223372036854775808 ≤ t ∧ t ≤ 9223372036854775807) ∧ (-9223372036854775808 ≤ l ∧ l ≤ 9223372036854775807) ∧ s.length ≤ 200 ∧ i.top ≤ g + 1 ∧ ErrsIs w i
  | .note g s i => g < w.heap.size ∧ w.cell? ⟨g, 0, none⟩ = some (.string (sB s)) ∧ w.cell? ⟨g, 1, none⟩ = some i.val ∧ s.length ≤ 200 ∧ i.top ≤ g + 1 ∧ ErrsIs w i
theorem ErrsIs.keep {w w' : World} (hs : w.heap.size ≤ w'.heap.size) (hc : ∀ p : Addr, p.block < w.heap.size → w'.cell? p = w.cell? p) : ∀ {e : Errs}, ErrsIs w e → ErrsIs w' e
  | .code _, h => h
  | .nilE, h => h
  | .no, h => h
  | .err g t l s i, ⟨h0, h1, h2, h3, h4, h5, h6, h7, h8, h9⟩ => ⟨by omega, (hc _ h0).trans h1, (hc _ h0).trans h2, (hc _ h0).trans h3, (hc _ h0).trans h4, h5, h6, h7, h8, ErrsIs.keep hs hc h9⟩
  | .note g s i, ⟨h0, h1, h2, h7, h8, h9⟩ => ⟨by omega, (hc _ h0).trans h1, (hc _ h0).trans h2, h7, h8, ErrsIs.keep hs hc h9⟩
theorem ErrsIs.below {w w' : World} {e : Errs} (h : ErrsIs w e) (hb : Below w.heap.size w w') : ErrsIs w' e := h.keep hb.size (fun _ hp => hb.cell hp)
theorem ErrsIs.drew {w : World} {e : Errs} (h : ErrsIs w e) : ErrsIs w.drew e := ErrsIs.keep (w := w) (w' := w.drew) (Nat.le_refl _) (fun _ _ => rfl) h
theorem ErrsIs.inner {w : World} {e : Errs} (h : ErrsIs w e) : ErrsIs w e.inner := by
  cases e with
  | err g t l s i => exact h.2.2.2.2.2.2.2.2.2
  | note g s i => exact h.2.2.2.2.2
  | _ => exact True.intro
/-- What a walk measures by. -/
def mV : Value → Nat
  | .iface _ (.pointer (some a)) => a.block + 2
  | .iface _ _ => 1
  | _ => 0
theorem mV_val (e : Errs) : mV e.val = e.top := by cases e <;> rfl

section
variable (v : Value) (xT : TypeId) (w : World)
theorem mU_err : (Go.method 211 63 v "Unwrap").run Tryd.prog w = .ok (30, v) w := by kernel_rfl
end

theorem eUnwrap_nil (w : World) : Calls Tryd.prog 30 #[.pointer none] w fun e w' => e = .returned .nilIface ∧ w = w' := by
  go_enter Tryd.func30, Tryd.ntmps30
  go_wp2
  go_ret
  exact ⟨rfl, rfl⟩
theorem eUnwrap_any (g : Nat) (v : Value) (w : World) (h : w.cell? ⟨g, 3, none⟩ = some v) : Calls Tryd.prog 30 #[.pointer (some ⟨g, 0, none⟩)] w fun e w' => e = .returned v ∧ w = w' := by
  go_enter Tryd.func30, Tryd.ntmps30
  go_wp2
  go_ret
  exact ⟨rfl, rfl⟩
theorem neq_val (e : Errs) (h : e ≠ .no) (w : World) : (binOp .neq 42 e.val .nilIface).run Tryd.prog w = .ok (.bool true) w := by
  cases e <;> first | exact absurd rfl h | exact run_neq_iface_nil w _ (by kernel_rfl) _ _
theorem eql_val (e : Errs) (h : e ≠ .no) (w : World) : (binOp .eql 42 e.val .nilIface).run Tryd.prog w = .ok (.bool false) w := by
  cases e <;> first | exact absurd rfl h | exact run_eql_iface_nil w _ (by kernel_rfl) _ _
theorem val_iface (e : Errs) (h : e ≠ .no) : ∃ T v, e.val = .iface T v := by
  cases e <;> first | exact absurd rfl h | exact ⟨_, _, rfl⟩
theorem deep_no (e : Errs) (h : e.inner = .no) : e.deep = 0 := by
  cases e with
  | err g t l s i => obtain rfl : i = .no := h; rfl
  | note g s i => obtain rfl : i = .no := h; rfl
  | _ => rfl
theorem deep_more (e : Errs) (h : e.inner ≠ .no) : e.deep = 1 + e.inner.deep := by
  cases e with
  | err g t l s i => cases i <;> first | exact absurd rfl h | rfl
  | note g s i => cases i <;> first | exact absurd rfl h | rfl
  | _ => exact absurd rfl h
theorem top_inner (e : Errs) {w : World} (h : ErrsIs w e) (hn : e ≠ .no) : e.inner.top < e.top := by
  cases e with
  | err g t l s i => have := h.2.2.2.2.2.2.2.2.1; show i.top < g + 2; omega
  | note g s i => have := h.2.2.2.2.1; show i.top < g + 2; omega
  | no => exact absurd rfl hn
  | _ => exact Nat.zero_lt_one
end Go.Proofs.YthhheeocanbkiaaDoor
