/- burnbagref14.Of. -/
import Derived.Test.YtodomchanaaonaaOfL
import Derived.Test.YtodomchanaaonaaRef14Opers
import Derived.Deep.RegionLaw
import Derived.Deep.RegionLawGrows
namespace Go.Proofs.Ytodomchanaaonaa
open Go.ChangeShapes Go.WideShapes Go.ChangeAt Go.RowKit

theorem flatI_two (a b : Int) : (flatI [a, b]).length = 2 * 1 := rfl

end Go.Proofs.Ytodomchanaaonaa
