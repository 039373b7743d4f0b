/-
 The contracts of simple and operand.
-/
import Derived.Test.YtjhmbkdkjgjoaaaDoorX17
namespace Go.Proofs.YtjhmbkdkjgjoaaaDoor
open Go.RowKit
set_option maxHeartbeats 6000000

end Go.Proofs.YtjhmbkdkjgjoaaaDoor
