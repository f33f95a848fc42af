/- The law FnExactShareSpace, walked over what both functions do: whatever the space and the weights, both answers are the same, the arguments are left alone, and the answer shares no memory. Conditions: the arguments can be read; both functions answer alike. -/
import Derived.Test.YtnipnemhbelcaaaRes
namespace Go.Proofs.Ytnipnemhbelcaaa
open Go.RowKit

end Go.Proofs.Ytnipnemhbelcaaa
