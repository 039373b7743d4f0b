/-
 The contracts of deeper and bracketed, by whichever reading.
-/
import Derived.Test.YtjhmbkdkjgjoaaaDoorX10
namespace Go.Proofs.YtjhmbkdkjgjoaaaDoor
open Go.RowKit
set_option maxHeartbeats 1000000

end Go.Proofs.YtjhmbkdkjgjoaaaDoor
