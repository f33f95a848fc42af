/- The hull of two valid rectangles, as the program reckons it. Condition: both are valid. -/
import Derived.Test.YtpkajdnndognnaaTwo
namespace Go.Proofs.Ytpkajdnndognnaa
open Go.RowKit

end Go.Proofs.Ytpkajdnndognnaa
