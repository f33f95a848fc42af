/- slices.Clone of a list of Task that has memory. Condition: the list is short. -/
import Derived.Test.YtpkombjmbpgdnaaTaskB
namespace Go.Proofs.Ytpkombjmbpgdnaa
open Go.RowKit

end Go.Proofs.Ytpkombjmbpgdnaa
