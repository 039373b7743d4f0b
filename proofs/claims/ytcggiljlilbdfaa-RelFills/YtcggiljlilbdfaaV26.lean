/-
 The contracts of simple and operand.
-/
import Derived.Test.YtcggiljlilbdfaaV25
namespace Go.Proofs.Ytcggiljlilbdfaa
open Go.RowKit
set_option maxHeartbeats 6000000

end Go.Proofs.Ytcggiljlilbdfaa
