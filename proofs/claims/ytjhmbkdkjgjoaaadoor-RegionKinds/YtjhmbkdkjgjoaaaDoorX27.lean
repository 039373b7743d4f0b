/-
 The printer writes trees: tree itself.
-/
import Derived.Test.YtjhmbkdkjgjoaaaDoorX26
namespace Go.Proofs.YtjhmbkdkjgjoaaaDoor
open Go.RowKit
set_option maxHeartbeats 6000000

end Go.Proofs.YtjhmbkdkjgjoaaaDoor
