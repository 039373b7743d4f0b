/-
  DERIVED. GIVEN WITH THE SEED: THE CARDS: each row of YtdjniiginnlmhaaGreatDoorRows.lean that lists a variable, with what it lists TIED to the program's text (the seventh form; the later family's looks); each row that meets fmt, with fmt's text TOLD by the authors' own Lean function (tested against real Go, not proved from fmt's source: count such statements apart). THE CARD IS WHAT COUNTS. Prove the row's statement (the work); the ties are given (YtdjniiginnlmhaaGreatDoorTie.lean); close each card by the builder's one call (the guide's Derived/Test/ToyasCard.lean, 'card_holds'). Laid BY PROGRAM, IN A SANDBOX (cutbox-door.mjs). By AI agents, Wed Nov 11 2026. No macro, syntax, notation, axiom, sorry.
-/
import Derived.Test.YtdjniiginnlmhaaGreatDoorRows
import GoSem.ClaimSeven
namespace Go.Proofs.YtdjniiginnlmhaaGreatDoor
namespace Rows

/-- THE TIED CARD OF 'cadastrelaw09.PrintFormulas'. -/
def printFormulasCard : Claim7 := { stood := { row := printFormulasRow, standIns := [], harness := (true, "82df8e01c5c58a3a49d05c5508825889469144439031242f2ca688960168a7bf"), looks := true }, kinds := [], alts := [], laidByText := true, laidKinds := [.data, .data, .data, .data, .data, .data, .pinned], laidTests := true, laidLooks := .later }
def PrintFormulasCardSaid : Prop := Claim7.holds Tryz.pinned (.plain (OpenSpec.ofChange printFormulasSpec)) printFormulasCard

/-- THE TIED CARD OF 'cadastrelaw09.PrintBack'. -/
def printBackCard : Claim7 := { stood := { row := printBackRow, standIns := [], harness := (true, "82df8e01c5c58a3a49d05c5508825889469144439031242f2ca688960168a7bf"), looks := true }, kinds := [], alts := [], laidByText := true, laidKinds := [.data, .data, .data, .data, .data, .data, .pinned], laidTests := true, laidLooks := .later }
def PrintBackCardSaid : Prop := Claim7.holds Tryz.pinned (.plain (OpenSpec.ofChange printBackSpec)) printBackCard

/-- THE TIED CARD OF 'cadastrelaw09.PrintTidies'. -/
def printTidiesCard : Claim7 := { stood := { row := printTidiesRow, standIns := [], harness := (true, "82df8e01c5c58a3a49d05c5508825889469144439031242f2ca688960168a7bf"), looks := true }, kinds := [], alts := [], laidByText := true, laidKinds := [.data, .data, .data, .data, .data, .data, .pinned], laidTests := true, laidLooks := .later }
def PrintTidiesCardSaid : Prop := Claim7.holds Tryz.pinned (.plain (OpenSpec.ofChange printTidiesSpec)) printTidiesCard

/-- THE TIED CARD OF 'cadastrelaw09.PrintOne'. -/
def printOneCard : Claim7 := { stood := { row := printOneRow, standIns := [], harness := (true, "82df8e01c5c58a3a49d05c5508825889469144439031242f2ca688960168a7bf"), looks := true }, kinds := [], alts := [], laidByText := true, laidKinds := [.data, .data, .data, .data, .data, .data, .pinned], laidTests := true, laidLooks := .later }
def PrintOneCardSaid : Prop := Claim7.holds Tryz.pinned (.plain (OpenSpec.ofChange printOneSpec)) printOneCard

/-- THE TIED CARD OF 'cadastretop.TopNumbers'. -/
def topNumbersCard : Claim7 := { stood := { row := topNumbersRow, standIns := [], harness := (true, "82df8e01c5c58a3a49d05c5508825889469144439031242f2ca688960168a7bf"), looks := true }, kinds := [], alts := [], laidByText := true, laidKinds := [.data, .data, .data, .data, .data, .data, .pinned], laidTests := true, laidLooks := .later }
def TopNumbersCardSaid : Prop := Claim7.holds Tryz.pinned (.plain (OpenSpec.ofChange topNumbersSpec)) topNumbersCard

/-- THE SECOND FORM's CARD OF 'cadastrelaw09.PrintFormulas'. -/
def printFormulasUptoCard : Claim7 := { stood := { row := printFormulasUptoRow, standIns := [], harness := (true, "82df8e01c5c58a3a49d05c5508825889469144439031242f2ca688960168a7bf"), looks := true }, kinds := [], alts := [], laidByText := true, laidKinds := [.data, .data, .data, .data, .data, .data, .pinned], laidTests := true, laidLooks := .later }
def PrintFormulasUptoCardSaid : Prop := Claim7.holds Tryz.pinned (.plain (OpenSpec.upto printFormulasSpec)) printFormulasUptoCard

/-- THE SECOND FORM's CARD OF 'cadastrelaw09.PrintBack'. -/
def printBackUptoCard : Claim7 := { stood := { row := printBackUptoRow, standIns := [], harness := (true, "82df8e01c5c58a3a49d05c5508825889469144439031242f2ca688960168a7bf"), looks := true }, kinds := [], alts := [], laidByText := true, laidKinds := [.data, .data, .data, .data, .data, .data, .pinned], laidTests := true, laidLooks := .later }
def PrintBackUptoCardSaid : Prop := Claim7.holds Tryz.pinned (.plain (OpenSpec.upto printBackSpec)) printBackUptoCard

/-- THE SECOND FORM's CARD OF 'cadastrelaw09.PrintTidies'. -/
def printTidiesUptoCard : Claim7 := { stood := { row := printTidiesUptoRow, standIns := [], harness := (true, "82df8e01c5c58a3a49d05c5508825889469144439031242f2ca688960168a7bf"), looks := true }, kinds := [], alts := [], laidByText := true, laidKinds := [.data, .data, .data, .data, .data, .data, .pinned], laidTests := true, laidLooks := .later }
def PrintTidiesUptoCardSaid : Prop := Claim7.holds Tryz.pinned (.plain (OpenSpec.upto printTidiesSpec)) printTidiesUptoCard

/-- THE SECOND FORM's CARD OF 'cadastrelaw09.PrintOne'. -/
def printOneUptoCard : Claim7 := { stood := { row := printOneUptoRow, standIns := [], harness := (true, "82df8e01c5c58a3a49d05c5508825889469144439031242f2ca688960168a7bf"), looks := true }, kinds := [], alts := [], laidByText := true, laidKinds := [.data, .data, .data, .data, .data, .data, .pinned], laidTests := true, laidLooks := .later }
def PrintOneUptoCardSaid : Prop := Claim7.holds Tryz.pinned (.plain (OpenSpec.upto printOneSpec)) printOneUptoCard

/-- THE SECOND FORM's CARD OF 'cadastretop.TopNumbers'. -/
def topNumbersUptoCard : Claim7 := { stood := { row := topNumbersUptoRow, standIns := [], harness := (true, "82df8e01c5c58a3a49d05c5508825889469144439031242f2ca688960168a7bf"), looks := true }, kinds := [], alts := [], laidByText := true, laidKinds := [.data, .data, .data, .data, .data, .data, .pinned], laidTests := true, laidLooks := .later }
def TopNumbersUptoCardSaid : Prop := Claim7.holds Tryz.pinned (.plain (OpenSpec.upto topNumbersSpec)) topNumbersUptoCard
end Rows
end Go.Proofs.YtdjniiginnlmhaaGreatDoor
