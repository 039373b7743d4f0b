/-
 The contracts of deeper and bracketed, by whichever reading.
-/
import Derived.Test.YtcggiljlilbdfaaV15
namespace Go.Proofs.Ytcggiljlilbdfaa
open Go.RowKit
set_option maxHeartbeats 1000000

end Go.Proofs.Ytcggiljlilbdfaa
