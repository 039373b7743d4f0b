/-
  DERIVED. GIVEN WITH THE SEED: THE CARDS: each row of YtlfkiepnahgbeaaDoorRows.lean that lists a variable, with what it lists TIED to the program's text (the seventh form; the later family's looks); each row that meets fmt, with fmt's text TOLD by the authors' own Lean function (tested against real Go, not proved from fmt's source: count such statements apart). THE CARD IS WHAT COUNTS. Prove the row's statement (the work); the ties are given (YtlfkiepnahgbeaaDoorTie.lean); close each card by the builder's one call (the guide's Derived/Test/ToyasCard.lean, 'card_holds'). Laid BY PROGRAM, IN A SANDBOX (cutbox-door.mjs). By AI agents, Wed Nov 11 2026. No macro, syntax, notation, axiom, sorry.
-/
import Derived.Test.YtlfkiepnahgbeaaDoorRows
import GoSem.ClaimSeven
namespace Go.Proofs.YtlfkiepnahgbeaaDoor
namespace Rows

/-- THE TIED CARD OF 'cadastrelaw04.ValueMakes'. -/
def valueMakesCard : Claim7 := { stood := { row := valueMakesRow, standIns := [], harness := (true, "cc32b2d29f04491adf524073f543097dc6a9d7ca75a75c0b2f69f2cc6df86ed5"), looks := false }, kinds := [], alts := [], laidByText := true, laidKinds := [.data], laidTests := true, laidLooks := .later }
def ValueMakesCardSaid : Prop := Claim7.holds Tryd.pinned (.plain (OpenSpec.ofChange valueMakesSpec)) valueMakesCard

/-- THE TIED CARD OF 'cadastrelaw04.ValueCompares'. -/
def valueComparesCard : Claim7 := { stood := { row := valueComparesRow, standIns := [], harness := (true, "cc32b2d29f04491adf524073f543097dc6a9d7ca75a75c0b2f69f2cc6df86ed5"), looks := false }, kinds := [], alts := [], laidByText := true, laidKinds := [.data], laidTests := true, laidLooks := .later }
def ValueComparesCardSaid : Prop := Claim7.holds Tryd.pinned (.plain (OpenSpec.ofChange valueComparesSpec)) valueComparesCard

/-- THE TIED CARD OF 'cadastrelaw04.ValueLiterals'. -/
def valueLiteralsCard : Claim7 := { stood := { row := valueLiteralsRow, standIns := [], harness := (true, "cc32b2d29f04491adf524073f543097dc6a9d7ca75a75c0b2f69f2cc6df86ed5"), looks := false }, kinds := [], alts := [], laidByText := true, laidKinds := [.data], laidTests := true, laidLooks := .later }
def ValueLiteralsCardSaid : Prop := Claim7.holds Tryd.pinned (.plain (OpenSpec.ofChange valueLiteralsSpec)) valueLiteralsCard

/-- THE TIED CARD OF 'cadastrelaw04.ValueBack'. -/
def valueBackCard : Claim7 := { stood := { row := valueBackRow, standIns := [], harness := (true, "cc32b2d29f04491adf524073f543097dc6a9d7ca75a75c0b2f69f2cc6df86ed5"), looks := false }, kinds := [], alts := [], laidByText := true, laidKinds := [.data, .data, .data, .data, .data, .pinned], laidTests := true, laidLooks := .later }
def ValueBackCardSaid : Prop := Claim7.holds Tryd.pinned (.plain (OpenSpec.ofChange valueBackSpec)) valueBackCard

/-- THE SECOND FORM's CARD OF 'cadastrelaw04.ValueMakes'. -/
def valueMakesUptoCard : Claim7 := { stood := { row := valueMakesUptoRow, standIns := [], harness := (true, "cc32b2d29f04491adf524073f543097dc6a9d7ca75a75c0b2f69f2cc6df86ed5"), looks := false }, kinds := [], alts := [], laidByText := true, laidKinds := [.data], laidTests := true, laidLooks := .later }
def ValueMakesUptoCardSaid : Prop := Claim7.holds Tryd.pinned (.plain (OpenSpec.upto valueMakesSpec)) valueMakesUptoCard

/-- THE SECOND FORM's CARD OF 'cadastrelaw04.ValueCompares'. -/
def valueComparesUptoCard : Claim7 := { stood := { row := valueComparesUptoRow, standIns := [], harness := (true, "cc32b2d29f04491adf524073f543097dc6a9d7ca75a75c0b2f69f2cc6df86ed5"), looks := false }, kinds := [], alts := [], laidByText := true, laidKinds := [.data], laidTests := true, laidLooks := .later }
def ValueComparesUptoCardSaid : Prop := Claim7.holds Tryd.pinned (.plain (OpenSpec.upto valueComparesSpec)) valueComparesUptoCard

/-- THE SECOND FORM's CARD OF 'cadastrelaw04.ValueLiterals'. -/
def valueLiteralsUptoCard : Claim7 := { stood := { row := valueLiteralsUptoRow, standIns := [], harness := (true, "cc32b2d29f04491adf524073f543097dc6a9d7ca75a75c0b2f69f2cc6df86ed5"), looks := false }, kinds := [], alts := [], laidByText := true, laidKinds := [.data], laidTests := true, laidLooks := .later }
def ValueLiteralsUptoCardSaid : Prop := Claim7.holds Tryd.pinned (.plain (OpenSpec.upto valueLiteralsSpec)) valueLiteralsUptoCard

/-- THE SECOND FORM's CARD OF 'cadastrelaw04.ValueBack'. -/
def valueBackUptoCard : Claim7 := { stood := { row := valueBackUptoRow, standIns := [], harness := (true, "cc32b2d29f04491adf524073f543097dc6a9d7ca75a75c0b2f69f2cc6df86ed5"), looks := false }, kinds := [], alts := [], laidByText := true, laidKinds := [.data, .data, .data, .data, .data, .pinned], laidTests := true, laidLooks := .later }
def ValueBackUptoCardSaid : Prop := Claim7.holds Tryd.pinned (.plain (OpenSpec.upto valueBackSpec)) valueBackUptoCard
end Rows
end Go.Proofs.YtlfkiepnahgbeaaDoor
