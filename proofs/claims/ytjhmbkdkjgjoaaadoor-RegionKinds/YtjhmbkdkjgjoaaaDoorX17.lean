/-
 The contract of word.
-/
import Derived.Test.YtjhmbkdkjgjoaaaDoorX16
namespace Go.Proofs.YtjhmbkdkjgjoaaaDoor
open Go.RowKit
set_option maxHeartbeats 6000000

end Go.Proofs.YtjhmbkdkjgjoaaaDoor
