/-
  The world in which the listed variables lie as the program's text lays them, and what a world that meets the list gives the walks. No condition.
-/
import Derived.Test.YtlfkiepnahgbeabDoorLaid4
import Derived.Test.YtlfkiepnahgbeabDoorRows
namespace Go.Proofs.YtlfkiepnahgbeabDoor
open Go.ChangeShapes Go.WideShapes Go.ChangeAt Go.RowKit

def laidListO : List (String × DataW Unit) := Rows.valueOrdersRow.laid
def layAllO (h : Array Obj) : Array Obj := [(0, flat 4 Rows.laid_cadastre_value_names)].foldl (fun h x => h.modify x.1 (layIn x.2)) h
noncomputable def laidWorldO (os : Os) : World :=
  { World.holding Tryd.prog os ⟨#[], #[], []⟩ with heap := layAllO (World.holding Tryd.prog os ⟨#[], #[], []⟩).heap }
theorem nm_ofO {W : World} (h : laidMetH Tryd.prog laidListO W) : Nm W := by
  rw [MakeChecks.laidMetH_plain _ _ _ (by kernel_rfl)] at h
  exact names_of (show laidMet Tryd.prog (_ :: _) W from h)
end Go.Proofs.YtlfkiepnahgbeabDoor
