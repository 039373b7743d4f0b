/-
  The contract of the document's Signed.
-/
import Derived.Test.YtlfkiepnahgbeabDoorFixE
import Derived.Test.YtlfkiepnahgbeabDoorFixI
namespace Go.Proofs.YtlfkiepnahgbeabDoor
open Go.RowKit
set_option maxHeartbeats 1000000

end Go.Proofs.YtlfkiepnahgbeabDoor
