/- The exported functions on rectangles, of the program and of the reference: hulls. No condition. -/
import Derived.Test.YtokcbfnmnccacaaHull
import Derived.Test.YtokcbfnmnccacaaZR
namespace Go.Proofs.Ytokcbfnmnccacaa
open Go.RowKit

end Go.Proofs.Ytokcbfnmnccacaa
