/-
 The printer writes trees: tree itself: ranges.
-/
import Derived.Test.YtcggiljlilbdfaaV41
namespace Go.Proofs.Ytcggiljlilbdfaa
open Go.RowKit
set_option maxHeartbeats 6000000

end Go.Proofs.Ytcggiljlilbdfaa
