/-
  The contract of the document's Signed.
-/
import Derived.Test.YtdklhgfkaablbaaDoorFixE
import Derived.Test.YtdklhgfkaablbaaDoorFixI
namespace Go.Proofs.YtdklhgfkaablbaaDoor
open Go.RowKit
set_option maxHeartbeats 1000000

end Go.Proofs.YtdklhgfkaablbaaDoor
