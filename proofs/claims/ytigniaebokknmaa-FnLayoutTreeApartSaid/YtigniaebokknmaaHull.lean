/- The hull of two valid rectangles, as the program reckons it. Condition: both are valid. -/
import Derived.Test.YtigniaebokknmaaTwo
namespace Go.Proofs.Ytigniaebokknmaa
open Go.RowKit

end Go.Proofs.Ytigniaebokknmaa
