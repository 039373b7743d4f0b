/-
 The contract of argument.
-/
import Derived.Test.YtcggiljlilbdfaaV16
namespace Go.Proofs.Ytcggiljlilbdfaa
open Go.RowKit
set_option maxHeartbeats 6000000

end Go.Proofs.Ytcggiljlilbdfaa
