/-
  The contract of the document's Print.
-/
import Derived.Test.YtfppjnigbodphaaDoorDecE
import Derived.Test.YtfppjnigbodphaaDoorDecN
namespace Go.Proofs.YtfppjnigbodphaaDoor
open Go.RowKit
set_option maxHeartbeats 1000000

def strSize : Value → Nat
  | .string s => s.size
  | _ => 0
theorem last_of (g : ByteArray) (h : 1 ≤ g.size) : g.data.toList = (g.extract 0 (g.size - 1)).data.toList ++ [g[g.size - 1]'(by omega)] := by
  rw [Lib.extract_data]
  have hl := size_list g
  have := List.take_succ_eq_append_getElem (l := g.data.toList) (i := g.size - 1) (by omega)
  rw [List.take_of_length_le (by omega)] at this
  exact this
theorem toNat_48 {c : UInt8} : (c.toNat : Int) = 48 ↔ c = 48 := by
  constructor
  · intro h; apply UInt8.toNat_inj.1; show c.toNat = 48; omega
  · intro h; subst h; rfl

end Go.Proofs.YtfppjnigbodphaaDoor
