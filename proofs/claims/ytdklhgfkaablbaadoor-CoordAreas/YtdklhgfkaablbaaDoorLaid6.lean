/-
  The world in which the listed variables lie as the program's text lays them, and what a world that meets the list gives the walks. No condition.
-/
import Derived.Test.YtdklhgfkaablbaaDoorDecD
import Derived.Test.YtdklhgfkaablbaaDoorRows
import Derived.ProofKit
import Derived.OpenShut
import Derived.Deep.DeepHandedRow
import Derived.Stop.LaidErr
import Derived.Lib.LaidTab
import Derived.MakeChecks
namespace Go.Proofs.YtdklhgfkaablbaaDoor
open Go.ChangeShapes Go.WideShapes Go.ChangeAt Go.RowKit

theorem ownK : ownKnob Tryd.prog.godebug = none := by kernel_rfl
/-- A datum's cells. -/
def flat : Nat → DataW Unit → List Value
  | _ + 1, .lit (.int k z) => [.int k z]
  | n + 1, .agg ds => ds.flatMap (flat n)
  | _, _ => []
/-- The list that all rows of this seat share. -/
def laidList : List (String × DataW Unit) := Rows.coordParsesRow.laid
def layIn (cs : List Value) : Obj → Obj
  | .cells _ t frozen => .cells cs.toArray t frozen
  | o => o
def layAll (h : Array Obj) : Array Obj := [(2, flat 4 Rows.laid_math_bits_deBruijn32tab), (3, flat 4 Rows.laid_math_bits_deBruijn64tab), (1, flat 4 Rows.laid_internal_strconv_uint64pow10)].foldl (fun h x => h.modify x.1 (layIn x.2)) h
noncomputable def laidWorld (os : Os) : World :=
  { World.holding Tryd.prog os ⟨#[], #[], []⟩ with heap := layAll (World.holding Tryd.prog os ⟨#[], #[], []⟩).heap }
theorem gPow : Tryd.prog.globalNamed "internal/strconv.uint64pow10" = some 1 := by kernel_rfl
theorem gPowType : (Tryd.prog.globals[1]?).map (·.type) = some 91 := by kernel_rfl
theorem cellsPow : Tryd.prog.cellsOf 91 = 20 := by kernel_rfl
theorem cellsU64 : Tryd.prog.cellsOf 61 = 1 := by kernel_rfl
theorem tab_of {W : World} (h : laidMetH Tryd.prog laidList W) : Tab W := by
  rw [MakeChecks.laidMetH_plain _ _ _ (by kernel_rfl)] at h
  exact Lib.tabIs_of_head gPow gPowType Tryd.underlying91 Tryd.underlying61 cellsU64 cellsPow (laidMet.tail (laidMet.tail (show laidMet Tryd.prog (_ :: _ :: _ :: _) W from h)))
end Go.Proofs.YtdklhgfkaablbaaDoor
