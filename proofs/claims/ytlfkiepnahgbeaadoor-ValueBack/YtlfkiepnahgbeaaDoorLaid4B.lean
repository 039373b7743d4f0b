/-
  The world in which the listed variables lie as the program's text lays them, and what a world that meets the list gives the walks. No condition.
-/
import Derived.Test.YtlfkiepnahgbeaaDoorLaid4
import Derived.Test.YtlfkiepnahgbeaaDoorRows
namespace Go.Proofs.YtlfkiepnahgbeaaDoor
open Go.ChangeShapes Go.WideShapes Go.ChangeAt Go.RowKit

def laidListB : List (String × DataW Unit) := Rows.valueBackRow.laid
def layAllB (h : Array Obj) : Array Obj := [(5, flat 4 Rows.laid_math_bits_deBruijn32tab), (6, flat 4 Rows.laid_math_bits_deBruijn64tab), (2, flat 4 Rows.laid_internal_strconv_uint64pow10), (8, flat 4 Rows.laid_unicode_utf8_acceptRanges), (0, flat 4 Rows.laid_cadastre_value_names), (7, flat 4 Rows.laid_unicode_utf8_first)].foldl (fun h x => h.modify x.1 (layIn x.2)) h
noncomputable def laidWorldB (os : Os) : World :=
  { World.holding Tryd.prog os ⟨#[], #[], []⟩ with heap := layAllB (World.holding Tryd.prog os ⟨#[], #[], []⟩).heap }
theorem nm_ofB {W : World} (h : laidMetH Tryd.prog laidListB W) : Nm W := by
  rw [MakeChecks.laidMetH_plain _ _ _ (by kernel_rfl)] at h
  exact names_of (laidMet.tail (laidMet.tail (laidMet.tail (laidMet.tail (show laidMet Tryd.prog (_ :: _ :: _ :: _ :: _ :: _) W from h)))))
theorem gPow : Tryd.prog.globalNamed "internal/strconv.uint64pow10" = some 2 := by kernel_rfl
theorem gPowType : (Tryd.prog.globals[2]?).map (·.type) = some 109 := by kernel_rfl
theorem cellsPow : Tryd.prog.cellsOf 109 = 20 := by kernel_rfl
theorem cellsU64 : Tryd.prog.cellsOf 71 = 1 := by kernel_rfl
theorem tab_ofB {W : World} (h : laidMetH Tryd.prog laidListB W) : Tab W := by
  rw [MakeChecks.laidMetH_plain _ _ _ (by kernel_rfl)] at h
  exact Lib.tabIs_of_head gPow gPowType Tryd.underlying109 Tryd.underlying71 cellsU64 cellsPow (laidMet.tail (laidMet.tail (show laidMet Tryd.prog (_ :: _ :: _ :: _) W from h)))
end Go.Proofs.YtlfkiepnahgbeaaDoor
