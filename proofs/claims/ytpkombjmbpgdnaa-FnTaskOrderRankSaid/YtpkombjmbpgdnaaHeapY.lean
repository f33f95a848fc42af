/- The reference's TakeTask: what stays, and whether a task was taken. Condition: the list is short. -/
import Derived.Test.YtpkombjmbpgdnaaHeapX
import Derived.Test.YtpkombjmbpgdnaaAnsT
namespace Go.Proofs.Ytpkombjmbpgdnaa
open Go.RowKit

/-- A task can be taken. -/
def tkOk (n : Nat) (zs : List Int) : Bool := vtk n zs && decide (0 < n)
/-- What stays where a task is taken. -/
def tkA (n : Nat) (zs : List Int) : List Int := if tkOk n zs = true then flL (stk zs (nx zs (n - 1)) n) else []
end Go.Proofs.Ytpkombjmbpgdnaa
