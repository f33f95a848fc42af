/- The program's PushTask. Condition: the list can be read. -/
import Derived.Test.YtpkombjmbpgdnaaPshB
import Derived.Test.YtpkombjmbpgdnaaTaskC
import Derived.Test.YtpkombjmbpgdnaaHeapY
namespace Go.Proofs.Ytpkombjmbpgdnaa
open Go.RowKit

end Go.Proofs.Ytpkombjmbpgdnaa
