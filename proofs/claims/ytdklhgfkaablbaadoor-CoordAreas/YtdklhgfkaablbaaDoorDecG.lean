/-
  The contracts of the document's end and times.
-/
import Derived.Test.YtdklhgfkaablbaaDoorDecF
import Derived.Test.YtdklhgfkaablbaaDoorRSigned
namespace Go.Proofs.YtdklhgfkaablbaaDoor
open Go.RowKit
set_option maxHeartbeats 1000000

/-- Where digits end. -/
def endN (l : List UInt8) (k : Nat) : Nat := k + ((l.drop k).takeWhile dgB).length
theorem end_stop (l : List UInt8) (k : Nat) (h : ∀ hk : k < l.length, dgB l[k] = false) : endN l k = k := by
  unfold endN
  by_cases hk : k < l.length
  · rw [List.drop_eq_getElem_cons hk, List.takeWhile_cons, h hk]; rfl
  · rw [List.drop_of_length_le (by omega)]; rfl
theorem end_step (l : List UInt8) (k : Nat) (hk : k < l.length) (h : dgB l[k] = true) : endN l k = endN l (k + 1) := by
  unfold endN
  rw [List.drop_eq_getElem_cons hk, List.takeWhile_cons, h]
  simp; omega
end Go.Proofs.YtdklhgfkaablbaaDoor
