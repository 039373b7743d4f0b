/-
 The contract of argument.
-/
import Derived.Test.YtjhmbkdkjgjoaaaDoorX11
namespace Go.Proofs.YtjhmbkdkjgjoaaaDoor
open Go.RowKit
set_option maxHeartbeats 6000000

end Go.Proofs.YtjhmbkdkjgjoaaaDoor
