/-
 How tightly a tree holds together: package print's binds and holds.
 The printer: a strings.Builder within a struct of its own (package print's printer): WriteByte, WriteString, String.
 The printer writes trees: part, sides, call, tree.
 strings.ReplaceAll of a quote by two: a text's quotes doubled.
-/
import Derived.Test.YtcggiljlilbdfaaV12
import Derived.Test.YtcggiljlilbdfaaV18
import Derived.Lib.OthersKept
import Derived.Lib.OwnKind
import Derived.Lib.AppendStr
import Derived.Lib.AppendIntMem
import Derived.Lib.UnsafeStr
import Derived.Test.YtcggiljlilbdfaaV40
import Derived.Test.YtcggiljlilbdfaaShelf
import Derived.Lib.Replace
import Derived.Lib.ReplaceLaws
import Derived.Lib.CountLaws
namespace Go.Proofs.Ytcggiljlilbdfaa
open Go.RowKit
set_option maxHeartbeats 1000000

open Go.RowKit
set_option maxHeartbeats 2000000

/-- Nothing else has turned. -/
def Ok9 (b : Nat) (w w' : World) : Prop := Lib.OthersKept 5 (some b) w w' ∧ w.heap.size ≤ w'.heap.size
theorem Ok9.trans {b : Nat} {x y z : World} (h : Ok9 b x y) (k : Ok9 b y z) : Ok9 b x z := ⟨h.1.trans k.1, Nat.le_trans h.2 k.2⟩
theorem Ok9.refl (b : Nat) (w : World) : Ok9 b w w := ⟨Lib.OthersKept.refl _ _ _, Nat.le_refl _⟩

open Go.RowKit
set_option maxHeartbeats 6000000

theorem joinL_snoc (ls : List (List UInt8)) (a : List UInt8) (h : ls ≠ []) : joinL (ls ++ [a]) = joinL ls ++ 44 :: a := by
 match ls, h with
 | [x], _ => rfl
 | x :: y :: r, _ =>
   have ih := joinL_snoc (y :: r) a (by simp)
   show x ++ 44 :: joinL (y :: r ++ [a]) = (x ++ 44 :: joinL (y :: r)) ++ 44 :: a
   rw [ih]; simp

open Go.RowKit

end Go.Proofs.Ytcggiljlilbdfaa
