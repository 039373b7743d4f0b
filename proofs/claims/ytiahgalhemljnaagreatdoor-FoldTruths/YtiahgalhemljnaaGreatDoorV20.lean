/-
 The world in which the listed variables lie as the program's text lays them, and what a world that meets the list gives the walks. No condition.
-/
import Derived.Test.YtiahgalhemljnaaGreatDoorV19
import Derived.Test.YtiahgalhemljnaaGreatDoorRows
namespace Go.Proofs.YtiahgalhemljnaaGreatDoor
open Go.ChangeShapes Go.WideShapes Go.ChangeAt Go.RowKit

def laidListZ : List (String × DataW Unit) := Rows.foldPartsRow.laid
def layAllZ (h : Array Obj) : Array Obj := [(5, flat 4 Rows.laid_math_bits_deBruijn32tab), (6, flat 4 Rows.laid_math_bits_deBruijn64tab), (3, flat 4 Rows.laid_internal_strconv_uint64pow10), (8, flat 4 Rows.laid_unicode_utf8_acceptRanges), (0, flat 4 Rows.laid_cadastre_value_names), (7, flat 4 Rows.laid_unicode_utf8_first)].foldl (fun h x => h.modify x.1 (layIn x.2)) h
noncomputable def laidWorldZ (os : Os) : World :=
 { World.holding Tryz.prog os ⟨#[], #[], []⟩ with heap := layAllZ (World.holding Tryz.prog os ⟨#[], #[], []⟩).heap }
theorem nm_ofZ {W : World} (h : laidMetH Tryz.prog laidListZ W) : Nm W := by
 rw [MakeChecks.laidMetH_plain _ _ _ (by kernel_rfl)] at h
 exact names_of (laidMet.tail (laidMet.tail (laidMet.tail (laidMet.tail (show laidMet Tryz.prog (_ :: _ :: _ :: _ :: _ :: _) W from h)))))
theorem gPow : Tryz.prog.globalNamed "internal/strconv.uint64pow10" = some 3 := by kernel_rfl
theorem gPowType : (Tryz.prog.globals[3]?).map (·.type) = some 135 := by kernel_rfl
theorem cellsPow : Tryz.prog.cellsOf 135 = 20 := by kernel_rfl
theorem cellsU64 : Tryz.prog.cellsOf 44 = 1 := by kernel_rfl
theorem tab_ofZ {W : World} (h : laidMetH Tryz.prog laidListZ W) : Tab W := by
 rw [MakeChecks.laidMetH_plain _ _ _ (by kernel_rfl)] at h
 exact Lib.tabIs_of_head gPow gPowType Tryz.underlying135 Tryz.underlying44 cellsU64 cellsPow (laidMet.tail (laidMet.tail (show laidMet Tryz.prog (_ :: _ :: _ :: _) W from h)))
end Go.Proofs.YtiahgalhemljnaaGreatDoor
