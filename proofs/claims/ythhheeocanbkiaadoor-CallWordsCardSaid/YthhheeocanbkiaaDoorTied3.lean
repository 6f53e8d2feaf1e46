/- What the condition on the listed variables gives, and a world that meets it. -/
import Derived.Test.YthhheeocanbkiaaDoorErrsText
import Derived.LaidLaws
import Derived.LaidHandle
import Derived.LaidSub
import Derived.Deep.DeepLaidRun
import Derived.RowKitTokens
import Derived.ChangeVars
import Derived.JoinedOf
import Derived.Stop.Joined
namespace Go.Proofs.YthhheeocanbkiaaDoor
open Go.ChangeShapes Go.WideShapes Go.ChangeAt Go.RowKit

/-- The listed variables. -/
def laidL : List (String × DataW Unit) := [("math/bits.deBruijn32tab", Rows.laid_math_bits_deBruijn32tab), ("math/bits.deBruijn64tab", Rows.laid_math_bits_deBruijn64tab), ("internal/strconv.uint64pow10", Rows.laid_internal_strconv_uint64pow10)]
theorem tied_f2 : (laidL.filter fun x => x.1 == "internal/strconv.uint64pow10") = [("internal/strconv.uint64pow10", Rows.laid_internal_strconv_uint64pow10)] := by kernel_rfl
theorem tab_of_laid {W : World} (h : laidMetH Tryd.prog laidL W) : TabW W := by
  have h0 := h.filter (fun x => x.1 == "internal/strconv.uint64pow10")
  rw [tied_f2] at h0
  have h1 : laidMet Tryd.prog [("internal/strconv.uint64pow10", Lib.tabData .u64 Lib.pow10Tab)] W := h0
  exact Lib.tabIs_of_head tabG (by kernel_rfl) Tryd.underlying90 Tryd.underlying22 (by kernel_rfl) (by kernel_rfl) h1
/-- The cells of a table. -/
def tabCells (d : DataW Unit) : Array Value := match d with
  | .agg ps => (ps.map fun | .lit (.int k z) => Value.int k z | _ => Value.nilIface).toArray
  | _ => #[]
def withCells (cs : Array Value) : Obj → Obj
  | .cells _ t frozen => .cells cs t frozen
  | o => o
/-- A world that meets the condition. -/
noncomputable def laidWorld (os : Os) : World :=
  let w0 := World.holding Tryd.prog os ⟨#[], #[], []⟩
  { w0 with heap := ((w0.heap.modify 0 (withCells (tabCells Rows.laid_internal_strconv_uint64pow10))).modify 1 (withCells (tabCells Rows.laid_math_bits_deBruijn32tab))).modify 2 (withCells (tabCells Rows.laid_math_bits_deBruijn64tab)) }
theorem laidWorld_met (os : Os) (args : Array Value) : laidMetH Tryd.prog laidL ((laidWorld os).forCall (fun _ _ => 0) ⟨#[], args, []⟩).memory :=
  laidMetH_of_parts (laidMet_of_run3 8 (by kernel_rfl) (by kernel_rfl) (by kernel_rfl)) (by kernel_rfl)
end Go.Proofs.YthhheeocanbkiaaDoor
