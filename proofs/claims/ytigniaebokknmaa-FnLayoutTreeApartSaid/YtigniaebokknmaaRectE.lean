/- The exported functions on rectangles, of the program and of the reference: hulls. No condition. -/
import Derived.Test.YtigniaebokknmaaHull
import Derived.Test.YtigniaebokknmaaZR
namespace Go.Proofs.Ytigniaebokknmaa
open Go.RowKit

end Go.Proofs.Ytigniaebokknmaa
