/-
  Contracts of the document's answers: a sum and a number, a sum less a number (128 bits).
-/
import Derived.Test.YtfppjnigbodphaaDoorFixA
namespace Go.Proofs.YtfppjnigbodphaaDoor
open Go.RowKit
set_option maxHeartbeats 400000

end Go.Proofs.YtfppjnigbodphaaDoor
