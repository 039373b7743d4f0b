/-
 The contract of the closures that level makes.
-/
import Derived.Test.YtjhmbkdkjgjoaaaDoorX18
import Derived.Test.YtjhmbkdkjgjoaaaDoorX15
namespace Go.Proofs.YtjhmbkdkjgjoaaaDoor
open Go.RowKit
set_option maxHeartbeats 6000000

end Go.Proofs.YtjhmbkdkjgjoaaaDoor
