/- The exported functions on rectangles, of the program and of the reference: hulls. No condition. -/
import Derived.Test.YtdfphlnhldhpcaaHull
import Derived.Test.YtdfphlnhldhpcaaZR
namespace Go.Proofs.Ytdfphlnhldhpcaa
open Go.RowKit

end Go.Proofs.Ytdfphlnhldhpcaa
