/-
 The contracts of package value's truth and named.
 The contract of package value's Literal.
 The contract of the document's Literal.
 The contract of package value's Show; what is shown is read as what it was.
-/
import Derived.Test.YtiahgalhemljnaaDoorR10
namespace Go.Proofs.YtiahgalhemljnaaDoor
open Go.RowKit
set_option maxHeartbeats 1000000

open Go.RowKit
set_option maxHeartbeats 1000000

open Go.RowKit
set_option maxHeartbeats 1000000

open Go.RowKit
set_option maxHeartbeats 1000000

end Go.Proofs.YtiahgalhemljnaaDoor
