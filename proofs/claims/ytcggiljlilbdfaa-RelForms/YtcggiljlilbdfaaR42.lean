/-
 The printer writes trees: part, sides, call, tree.
 strings.ReplaceAll of a quote by two: a text's quotes doubled.
-/
import Derived.Test.YtcggiljlilbdfaaR41
import Derived.Test.YtcggiljlilbdfaaR18
import Derived.Test.YtcggiljlilbdfaaR12
import Derived.Test.YtcggiljlilbdfaaShelf
import Derived.Lib.Replace
import Derived.Lib.ReplaceLaws
import Derived.Lib.CountLaws
namespace Go.Proofs.Ytcggiljlilbdfaa
open Go.RowKit
set_option maxHeartbeats 6000000

theorem joinL_snoc (ls : List (List UInt8)) (a : List UInt8) (h : ls ≠ []) : joinL (ls ++ [a]) = joinL ls ++ 44 :: a := by
 match ls, h with
 | [x], _ => rfl
 | x :: y :: r, _ =>
   have ih := joinL_snoc (y :: r) a (by simp)
   show x ++ 44 :: joinL (y :: r ++ [a]) = (x ++ 44 :: joinL (y :: r)) ++ 44 :: a
   rw [ih]; simp

open Go.RowKit

end Go.Proofs.Ytcggiljlilbdfaa
