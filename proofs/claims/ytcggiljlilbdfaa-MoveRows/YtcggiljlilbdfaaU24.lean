/-
 The contract of word.
-/
import Derived.Test.YtcggiljlilbdfaaU23
namespace Go.Proofs.Ytcggiljlilbdfaa
open Go.RowKit
set_option maxHeartbeats 6000000

end Go.Proofs.Ytcggiljlilbdfaa
