/-
 The contracts of the document's end and times.
 A numeral read from place to place says what its two parts say. Plain mathematics.
 The contract of the document's Parse.
 What is written is read as it was, with noughts ahead and behind too. Plain mathematics.
-/
import Derived.Test.YtiahgalhemljnaaDoorQ5
import Derived.Test.YtiahgalhemljnaaDoorQ6
import Derived.Deep.DeepCutAuto
import Derived.Deep.Light
namespace Go.Proofs.YtiahgalhemljnaaDoor
open Go.RowKit
set_option maxHeartbeats 1000000

open Go.RowKit

open Go.RowKit
set_option maxHeartbeats 2000000

open Go.RowKit

end Go.Proofs.YtiahgalhemljnaaDoor
