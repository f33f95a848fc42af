/- The reference's common part, hull and inset of valid rectangles, and the program's inset. Condition: the arguments are valid. -/
import Derived.Test.YtpkajdnndognnaaRectB
namespace Go.Proofs.Ytpkajdnndognnaa
open Go.RowKit

theorem ret_ii {a b c d : Int} (h1 : a = c) (h2 : b = d) : Ending.returned (.tuple #[.int .i64 a, .int .i64 b]) = .returned (.tuple #[.int .i64 c, .int .i64 d]) := by rw [h1, h2]

end Go.Proofs.Ytpkajdnndognnaa
