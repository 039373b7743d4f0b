/-
 The contract of the closures that level makes.
-/
import Derived.Test.YtcggiljlilbdfaaV26
import Derived.Test.YtcggiljlilbdfaaV21
namespace Go.Proofs.Ytcggiljlilbdfaa
open Go.RowKit
set_option maxHeartbeats 6000000

end Go.Proofs.Ytcggiljlilbdfaa
