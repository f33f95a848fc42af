/- The exported functions on rectangles, of the program and of the reference: hulls. No condition. -/
import Derived.Test.YtpkajdnndognnaaHull
import Derived.Test.YtpkajdnndognnaaRectC
namespace Go.Proofs.Ytpkajdnndognnaa
open Go.RowKit

end Go.Proofs.Ytpkajdnndognnaa
