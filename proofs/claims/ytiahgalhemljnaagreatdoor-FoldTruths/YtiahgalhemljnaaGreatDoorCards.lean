/-
  DERIVED. GIVEN WITH THE SEED: THE CARDS: each row of YtiahgalhemljnaaGreatDoorRows.lean that lists a variable, with what it lists TIED to the program's text (the seventh form; the later family's looks); each row that meets fmt, with fmt's text TOLD by the authors' own Lean function (tested against real Go, not proved from fmt's source: count such statements apart). THE CARD IS WHAT COUNTS. Prove the row's statement (the work); the ties are given (YtiahgalhemljnaaGreatDoorTie.lean); close each card by the builder's one call (the guide's Derived/Test/ToyasCard.lean, 'card_holds'). Laid BY PROGRAM, IN A SANDBOX (cutbox-door.mjs). By AI agents, Wed Nov 11 2026. No macro, syntax, notation, axiom, sorry.
-/
import Derived.Test.YtiahgalhemljnaaGreatDoorRows
import GoSem.ClaimSeven
namespace Go.Proofs.YtiahgalhemljnaaGreatDoor
namespace Rows

/-- THE TIED CARD OF 'cadastrelaw13.FoldTruths'. -/
def foldTruthsCard : Claim7 := { stood := { row := foldTruthsRow, standIns := [], harness := (true, "960648548a50aac4d4a6c834cb657210da22647a566e51a45da509fe7b32250b"), looks := false }, kinds := [], alts := [], laidByText := true, laidKinds := [.data, .data, .data, .data, .data, .pinned], laidTests := true, laidLooks := .later }
def FoldTruthsCardSaid : Prop := Claim7.holds Tryz.pinned (.plain (OpenSpec.ofChange foldTruthsSpec)) foldTruthsCard

/-- THE TIED CARD OF 'cadastrelaw13.FoldParts'. -/
def foldPartsCard : Claim7 := { stood := { row := foldPartsRow, standIns := [], harness := (true, "960648548a50aac4d4a6c834cb657210da22647a566e51a45da509fe7b32250b"), looks := false }, kinds := [], alts := [], laidByText := true, laidKinds := [.data, .data, .data, .data, .data, .pinned], laidTests := true, laidLooks := .later }
def FoldPartsCardSaid : Prop := Claim7.holds Tryz.pinned (.plain (OpenSpec.ofChange foldPartsSpec)) foldPartsCard

/-- THE SECOND FORM's CARD OF 'cadastrelaw13.FoldTruths'. -/
def foldTruthsUptoCard : Claim7 := { stood := { row := foldTruthsUptoRow, standIns := [], harness := (true, "960648548a50aac4d4a6c834cb657210da22647a566e51a45da509fe7b32250b"), looks := false }, kinds := [], alts := [], laidByText := true, laidKinds := [.data, .data, .data, .data, .data, .pinned], laidTests := true, laidLooks := .later }
def FoldTruthsUptoCardSaid : Prop := Claim7.holds Tryz.pinned (.plain (OpenSpec.upto foldTruthsSpec)) foldTruthsUptoCard

/-- THE SECOND FORM's CARD OF 'cadastrelaw13.FoldParts'. -/
def foldPartsUptoCard : Claim7 := { stood := { row := foldPartsUptoRow, standIns := [], harness := (true, "960648548a50aac4d4a6c834cb657210da22647a566e51a45da509fe7b32250b"), looks := false }, kinds := [], alts := [], laidByText := true, laidKinds := [.data, .data, .data, .data, .data, .pinned], laidTests := true, laidLooks := .later }
def FoldPartsUptoCardSaid : Prop := Claim7.holds Tryz.pinned (.plain (OpenSpec.upto foldPartsSpec)) foldPartsUptoCard
end Rows
end Go.Proofs.YtiahgalhemljnaaGreatDoor
