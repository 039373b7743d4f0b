/-
  The contract of math/bits.Div64, walked over the library's own text: quotient and rest of two words by one.
-/
import Derived.Test.YtfppjnigbodphaaDoorBits
import Derived.Deep.CutBlock
import Derived.Deep.DeepCutAuto
namespace Go.Proofs.YtfppjnigbodphaaDoor
open Go.RowKit
set_option maxHeartbeats 1000000

theorem rest_lt (U Y : Nat) (h : 0 < Y) : U - U / Y * Y < Y := by
  have h1 := Nat.div_add_mod U Y
  have h2 := Nat.mod_lt U h
  rw [Nat.mul_comm Y (U / Y)] at h1
  omega
end Go.Proofs.YtfppjnigbodphaaDoor
