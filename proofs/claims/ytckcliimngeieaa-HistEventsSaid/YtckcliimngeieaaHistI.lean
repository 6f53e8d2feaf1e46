/- Package hist: its five contracts. -/
import Derived.Test.YtckcliimngeieaaRef14Of
import Derived.Test.YtckcliimngeieaaHistMay
import Derived.Test.YtckcliimngeieaaHistOpersFn
import Derived.Test.YtckcliimngeieaaHistOpen
import Derived.Test.YtckcliimngeieaaHistOfIs
namespace Go.Proofs.Ytckcliimngeieaa
open Go.ChangeShapes Go.WideShapes Go.ChangeAt Go.RowKit

theorem hOf_any (A : Option Addr) (c : Nat) (L : List Opr) (hL : L.length ≤ 1000) (w : World) (ha : LiesC w A (flatF opF L)) :
    Calls Try.prog 14 #[.slice A L.length c] w fun e w' => ∃ v, e = .returned v ∧ LnIs w' v (ofL L).length (flatF evF (ofL L)) ∧ Far w.heap.size v ∧ Below w.heap.size w w' := by
  have h := hOfS_any A c L (by omega) w ha
  rw [of_is L] at h
  exact h
end Go.Proofs.Ytckcliimngeieaa
