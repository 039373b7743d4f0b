/-
 What is known of a block or a list, hidden, lasts.
-/
import Derived.Test.YtcggiljlilbdfaaQ37
import Derived.Test.YtcggiljlilbdfaaQ22
import Derived.Test.YtcggiljlilbdfaaQ45
namespace Go.Proofs.Ytcggiljlilbdfaa
open Go.RowKit
theorem hx13 {w w' : World} {b : Nat} {t : T} {v : Value} (h : Hid (BlkX w b t v)) (e : Ext w w') : Hid (BlkX w' b t v) := h.out.ext e
theorem hxL {w w' : World} {P : Nat → Prop} {v : Value} {l : List T} (h : Hid (IsL w P v l)) (e : Ext w w') : Hid (IsL w' P v l) := h.out.ext e
end Go.Proofs.Ytcggiljlilbdfaa
