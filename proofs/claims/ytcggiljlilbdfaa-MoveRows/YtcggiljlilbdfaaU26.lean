/-
 The contract of the closures that level makes.
-/
import Derived.Test.YtcggiljlilbdfaaU25
import Derived.Test.YtcggiljlilbdfaaU21
namespace Go.Proofs.Ytcggiljlilbdfaa
open Go.RowKit
set_option maxHeartbeats 6000000

end Go.Proofs.Ytcggiljlilbdfaa
