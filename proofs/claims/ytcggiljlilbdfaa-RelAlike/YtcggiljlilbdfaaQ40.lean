/-
 strings.ReplaceAll of a quote by two: a text's quotes doubled.
-/
import Derived.Test.YtcggiljlilbdfaaQ12
import Derived.Test.YtcggiljlilbdfaaShelf
import Derived.Lib.Replace
import Derived.Lib.ReplaceLaws
import Derived.Lib.CountLaws
namespace Go.Proofs.Ytcggiljlilbdfaa
open Go.RowKit

end Go.Proofs.Ytcggiljlilbdfaa
