/- The exported functions on rectangles, of the program and of the reference: hulls. No condition. -/
import Derived.Test.YtbpocogohfmoaaaHull
import Derived.Test.YtbpocogohfmoaaaZR
namespace Go.Proofs.Ytbpocogohfmoaaa
open Go.RowKit

end Go.Proofs.Ytbpocogohfmoaaa
