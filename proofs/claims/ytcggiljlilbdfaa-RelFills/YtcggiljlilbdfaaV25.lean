/-
 The contract of word.
-/
import Derived.Test.YtcggiljlilbdfaaV24
namespace Go.Proofs.Ytcggiljlilbdfaa
open Go.RowKit
set_option maxHeartbeats 6000000

end Go.Proofs.Ytcggiljlilbdfaa
