/-
  DERIVED. GIVEN WITH THE SEED: THE CARDS: each row of YtalejeknigbhjaaGreatDoorRows.lean that lists a variable, with what it lists TIED to the program's text (the seventh form; the later family's looks); each row that meets fmt, with fmt's text TOLD by the authors' own Lean function (tested against real Go, not proved from fmt's source: count such statements apart). THE CARD IS WHAT COUNTS. Prove the row's statement (the work); the ties are given (YtalejeknigbhjaaGreatDoorTie.lean); close each card by the builder's one call (the guide's Derived/Test/ToyasCard.lean, 'card_holds'). Laid BY PROGRAM, IN A SANDBOX (cutbox-door.mjs). By AI agents, Wed Nov 11 2026. No macro, syntax, notation, axiom, sorry.
-/
import Derived.Test.YtalejeknigbhjaaGreatDoorRows
import GoSem.ClaimSeven
namespace Go.Proofs.YtalejeknigbhjaaGreatDoor
namespace Rows

/-- THE TIED CARD OF 'cadastrelaw14.FuncsAnswer'. -/
def funcsAnswerCard : Claim7 := { stood := { row := funcsAnswerRow, standIns := [], harness := (true, "52a2b1e01ffba92d1fef032d3807986ad4200da9fc689bc43fe219fa8858077d"), looks := true }, kinds := [], alts := [], laidByText := true, laidKinds := [.data, .data, .data, .data, .data, .pinned], laidTests := true, laidLooks := .later }
def FuncsAnswerCardSaid : Prop := Claim7.holds Tryz.pinned (.plain (OpenSpec.ofChange funcsAnswerSpec)) funcsAnswerCard

/-- THE TIED CARD OF 'cadastrelaw14.FuncsErrors'. -/
def funcsErrorsCard : Claim7 := { stood := { row := funcsErrorsRow, standIns := [], harness := (true, "52a2b1e01ffba92d1fef032d3807986ad4200da9fc689bc43fe219fa8858077d"), looks := true }, kinds := [], alts := [], laidByText := true, laidKinds := [.data, .data, .data, .data, .data, .pinned], laidTests := true, laidLooks := .later }
def FuncsErrorsCardSaid : Prop := Claim7.holds Tryz.pinned (.plain (OpenSpec.ofChange funcsErrorsSpec)) funcsErrorsCard

/-- THE TIED CARD OF 'cadastrelaw14.FuncsLeft'. -/
def funcsLeftCard : Claim7 := { stood := { row := funcsLeftRow, standIns := [], harness := (true, "52a2b1e01ffba92d1fef032d3807986ad4200da9fc689bc43fe219fa8858077d"), looks := true }, kinds := [], alts := [], laidByText := true, laidKinds := [.data, .data, .data, .data, .data, .pinned], laidTests := true, laidLooks := .later }
def FuncsLeftCardSaid : Prop := Claim7.holds Tryz.pinned (.plain (OpenSpec.ofChange funcsLeftSpec)) funcsLeftCard

/-- THE TIED CARD OF 'cadastrelaw14.FuncsWhole'. -/
def funcsWholeCard : Claim7 := { stood := { row := funcsWholeRow, standIns := [], harness := (true, "52a2b1e01ffba92d1fef032d3807986ad4200da9fc689bc43fe219fa8858077d"), looks := true }, kinds := [], alts := [], laidByText := true, laidKinds := [.data, .data, .data, .data, .data, .pinned], laidTests := true, laidLooks := .later }
def FuncsWholeCardSaid : Prop := Claim7.holds Tryz.pinned (.plain (OpenSpec.ofChange funcsWholeSpec)) funcsWholeCard

/-- THE TIED CARD OF 'cadastrelaw14.FuncsIndex'. -/
def funcsIndexCard : Claim7 := { stood := { row := funcsIndexRow, standIns := [], harness := (true, "52a2b1e01ffba92d1fef032d3807986ad4200da9fc689bc43fe219fa8858077d"), looks := true }, kinds := [], alts := [], laidByText := true, laidKinds := [.data, .data, .data, .data, .data, .pinned], laidTests := true, laidLooks := .later }
def FuncsIndexCardSaid : Prop := Claim7.holds Tryz.pinned (.plain (OpenSpec.ofChange funcsIndexSpec)) funcsIndexCard

/-- THE TIED CARD OF 'cadastrelaw14.FuncsRests'. -/
def funcsRestsCard : Claim7 := { stood := { row := funcsRestsRow, standIns := [], harness := (true, "52a2b1e01ffba92d1fef032d3807986ad4200da9fc689bc43fe219fa8858077d"), looks := true }, kinds := [], alts := [], laidByText := true, laidKinds := [.data, .data, .data, .data, .data, .pinned], laidTests := true, laidLooks := .later }
def FuncsRestsCardSaid : Prop := Claim7.holds Tryz.pinned (.plain (OpenSpec.ofChange funcsRestsSpec)) funcsRestsCard

/-- THE SECOND FORM's CARD OF 'cadastrelaw14.FuncsAnswer'. -/
def funcsAnswerUptoCard : Claim7 := { stood := { row := funcsAnswerUptoRow, standIns := [], harness := (true, "52a2b1e01ffba92d1fef032d3807986ad4200da9fc689bc43fe219fa8858077d"), looks := true }, kinds := [], alts := [], laidByText := true, laidKinds := [.data, .data, .data, .data, .data, .pinned], laidTests := true, laidLooks := .later }
def FuncsAnswerUptoCardSaid : Prop := Claim7.holds Tryz.pinned (.plain (OpenSpec.upto funcsAnswerSpec)) funcsAnswerUptoCard

/-- THE SECOND FORM's CARD OF 'cadastrelaw14.FuncsErrors'. -/
def funcsErrorsUptoCard : Claim7 := { stood := { row := funcsErrorsUptoRow, standIns := [], harness := (true, "52a2b1e01ffba92d1fef032d3807986ad4200da9fc689bc43fe219fa8858077d"), looks := true }, kinds := [], alts := [], laidByText := true, laidKinds := [.data, .data, .data, .data, .data, .pinned], laidTests := true, laidLooks := .later }
def FuncsErrorsUptoCardSaid : Prop := Claim7.holds Tryz.pinned (.plain (OpenSpec.upto funcsErrorsSpec)) funcsErrorsUptoCard

/-- THE SECOND FORM's CARD OF 'cadastrelaw14.FuncsLeft'. -/
def funcsLeftUptoCard : Claim7 := { stood := { row := funcsLeftUptoRow, standIns := [], harness := (true, "52a2b1e01ffba92d1fef032d3807986ad4200da9fc689bc43fe219fa8858077d"), looks := true }, kinds := [], alts := [], laidByText := true, laidKinds := [.data, .data, .data, .data, .data, .pinned], laidTests := true, laidLooks := .later }
def FuncsLeftUptoCardSaid : Prop := Claim7.holds Tryz.pinned (.plain (OpenSpec.upto funcsLeftSpec)) funcsLeftUptoCard

/-- THE SECOND FORM's CARD OF 'cadastrelaw14.FuncsWhole'. -/
def funcsWholeUptoCard : Claim7 := { stood := { row := funcsWholeUptoRow, standIns := [], harness := (true, "52a2b1e01ffba92d1fef032d3807986ad4200da9fc689bc43fe219fa8858077d"), looks := true }, kinds := [], alts := [], laidByText := true, laidKinds := [.data, .data, .data, .data, .data, .pinned], laidTests := true, laidLooks := .later }
def FuncsWholeUptoCardSaid : Prop := Claim7.holds Tryz.pinned (.plain (OpenSpec.upto funcsWholeSpec)) funcsWholeUptoCard

/-- THE SECOND FORM's CARD OF 'cadastrelaw14.FuncsIndex'. -/
def funcsIndexUptoCard : Claim7 := { stood := { row := funcsIndexUptoRow, standIns := [], harness := (true, "52a2b1e01ffba92d1fef032d3807986ad4200da9fc689bc43fe219fa8858077d"), looks := true }, kinds := [], alts := [], laidByText := true, laidKinds := [.data, .data, .data, .data, .data, .pinned], laidTests := true, laidLooks := .later }
def FuncsIndexUptoCardSaid : Prop := Claim7.holds Tryz.pinned (.plain (OpenSpec.upto funcsIndexSpec)) funcsIndexUptoCard

/-- THE SECOND FORM's CARD OF 'cadastrelaw14.FuncsRests'. -/
def funcsRestsUptoCard : Claim7 := { stood := { row := funcsRestsUptoRow, standIns := [], harness := (true, "52a2b1e01ffba92d1fef032d3807986ad4200da9fc689bc43fe219fa8858077d"), looks := true }, kinds := [], alts := [], laidByText := true, laidKinds := [.data, .data, .data, .data, .data, .pinned], laidTests := true, laidLooks := .later }
def FuncsRestsUptoCardSaid : Prop := Claim7.holds Tryz.pinned (.plain (OpenSpec.upto funcsRestsSpec)) funcsRestsUptoCard
end Rows
end Go.Proofs.YtalejeknigbhjaaGreatDoor
