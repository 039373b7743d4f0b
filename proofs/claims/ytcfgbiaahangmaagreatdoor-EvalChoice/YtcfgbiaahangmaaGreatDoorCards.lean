/-
  DERIVED. GIVEN WITH THE SEED: THE CARDS: each row of YtcfgbiaahangmaaGreatDoorRows.lean that lists a variable, with what it lists TIED to the program's text (the seventh form; the later family's looks); each row that meets fmt, with fmt's text TOLD by the authors' own Lean function (tested against real Go, not proved from fmt's source: count such statements apart). THE CARD IS WHAT COUNTS. Prove the row's statement (the work); the ties are given (YtcfgbiaahangmaaGreatDoorTie.lean); close each card by the builder's one call (the guide's Derived/Test/ToyasCard.lean, 'card_holds'). Laid BY PROGRAM, IN A SANDBOX (cutbox-door.mjs). By AI agents, Wed Nov 11 2026. No macro, syntax, notation, axiom, sorry.
-/
import Derived.Test.YtcfgbiaahangmaaGreatDoorRows
import GoSem.ClaimSeven
namespace Go.Proofs.YtcfgbiaahangmaaGreatDoor
namespace Rows

/-- THE TIED CARD OF 'cadastrelaw15.EvalBoards'. -/
def evalBoardsCard : Claim7 := { stood := { row := evalBoardsRow, standIns := [], harness := (true, "bdff63c9a9adafd7157366ad298b58c1b1bd4fdb5a16a344dc151452e60a67c8"), looks := true }, kinds := [], alts := [], laidByText := true, laidKinds := [.data, .data, .data, .data, .data, .pinned], laidTests := true, laidLooks := .later }
def EvalBoardsCardSaid : Prop := Claim7.holds Tryz.pinned (.plain (OpenSpec.ofChange evalBoardsSpec)) evalBoardsCard

/-- THE TIED CARD OF 'cadastrelaw15.EvalFormulas'. -/
def evalFormulasCard : Claim7 := { stood := { row := evalFormulasRow, standIns := [], harness := (true, "bdff63c9a9adafd7157366ad298b58c1b1bd4fdb5a16a344dc151452e60a67c8"), looks := true }, kinds := [], alts := [], laidByText := true, laidKinds := [.data, .data, .data, .data, .data, .pinned], laidTests := true, laidLooks := .later }
def EvalFormulasCardSaid : Prop := Claim7.holds Tryz.pinned (.plain (OpenSpec.ofChange evalFormulasSpec)) evalFormulasCard

/-- THE TIED CARD OF 'cadastrelaw15.EvalNamed'. -/
def evalNamedCard : Claim7 := { stood := { row := evalNamedRow, standIns := [], harness := (true, "bdff63c9a9adafd7157366ad298b58c1b1bd4fdb5a16a344dc151452e60a67c8"), looks := true }, kinds := [], alts := [], laidByText := true, laidKinds := [.data, .data, .data, .data, .data, .pinned], laidTests := true, laidLooks := .later }
def EvalNamedCardSaid : Prop := Claim7.holds Tryz.pinned (.plain (OpenSpec.ofChange evalNamedSpec)) evalNamedCard

/-- THE TIED CARD OF 'cadastrelaw15.EvalTidied'. -/
def evalTidiedCard : Claim7 := { stood := { row := evalTidiedRow, standIns := [], harness := (true, "bdff63c9a9adafd7157366ad298b58c1b1bd4fdb5a16a344dc151452e60a67c8"), looks := true }, kinds := [], alts := [], laidByText := true, laidKinds := [.data, .data, .data, .data, .data, .pinned], laidTests := true, laidLooks := .later }
def EvalTidiedCardSaid : Prop := Claim7.holds Tryz.pinned (.plain (OpenSpec.ofChange evalTidiedSpec)) evalTidiedCard

/-- THE TIED CARD OF 'cadastrelaw15.EvalChoice'. -/
def evalChoiceCard : Claim7 := { stood := { row := evalChoiceRow, standIns := [], harness := (true, "bdff63c9a9adafd7157366ad298b58c1b1bd4fdb5a16a344dc151452e60a67c8"), looks := true }, kinds := [], alts := [], laidByText := true, laidKinds := [.data, .data, .data, .data, .data, .pinned], laidTests := true, laidLooks := .later }
def EvalChoiceCardSaid : Prop := Claim7.holds Tryz.pinned (.plain (OpenSpec.ofChange evalChoiceSpec)) evalChoiceCard

/-- THE SECOND FORM's CARD OF 'cadastrelaw15.EvalBoards'. -/
def evalBoardsUptoCard : Claim7 := { stood := { row := evalBoardsUptoRow, standIns := [], harness := (true, "bdff63c9a9adafd7157366ad298b58c1b1bd4fdb5a16a344dc151452e60a67c8"), looks := true }, kinds := [], alts := [], laidByText := true, laidKinds := [.data, .data, .data, .data, .data, .pinned], laidTests := true, laidLooks := .later }
def EvalBoardsUptoCardSaid : Prop := Claim7.holds Tryz.pinned (.plain (OpenSpec.upto evalBoardsSpec)) evalBoardsUptoCard

/-- THE SECOND FORM's CARD OF 'cadastrelaw15.EvalFormulas'. -/
def evalFormulasUptoCard : Claim7 := { stood := { row := evalFormulasUptoRow, standIns := [], harness := (true, "bdff63c9a9adafd7157366ad298b58c1b1bd4fdb5a16a344dc151452e60a67c8"), looks := true }, kinds := [], alts := [], laidByText := true, laidKinds := [.data, .data, .data, .data, .data, .pinned], laidTests := true, laidLooks := .later }
def EvalFormulasUptoCardSaid : Prop := Claim7.holds Tryz.pinned (.plain (OpenSpec.upto evalFormulasSpec)) evalFormulasUptoCard

/-- THE SECOND FORM's CARD OF 'cadastrelaw15.EvalNamed'. -/
def evalNamedUptoCard : Claim7 := { stood := { row := evalNamedUptoRow, standIns := [], harness := (true, "bdff63c9a9adafd7157366ad298b58c1b1bd4fdb5a16a344dc151452e60a67c8"), looks := true }, kinds := [], alts := [], laidByText := true, laidKinds := [.data, .data, .data, .data, .data, .pinned], laidTests := true, laidLooks := .later }
def EvalNamedUptoCardSaid : Prop := Claim7.holds Tryz.pinned (.plain (OpenSpec.upto evalNamedSpec)) evalNamedUptoCard

/-- THE SECOND FORM's CARD OF 'cadastrelaw15.EvalTidied'. -/
def evalTidiedUptoCard : Claim7 := { stood := { row := evalTidiedUptoRow, standIns := [], harness := (true, "bdff63c9a9adafd7157366ad298b58c1b1bd4fdb5a16a344dc151452e60a67c8"), looks := true }, kinds := [], alts := [], laidByText := true, laidKinds := [.data, .data, .data, .data, .data, .pinned], laidTests := true, laidLooks := .later }
def EvalTidiedUptoCardSaid : Prop := Claim7.holds Tryz.pinned (.plain (OpenSpec.upto evalTidiedSpec)) evalTidiedUptoCard

/-- THE SECOND FORM's CARD OF 'cadastrelaw15.EvalChoice'. -/
def evalChoiceUptoCard : Claim7 := { stood := { row := evalChoiceUptoRow, standIns := [], harness := (true, "bdff63c9a9adafd7157366ad298b58c1b1bd4fdb5a16a344dc151452e60a67c8"), looks := true }, kinds := [], alts := [], laidByText := true, laidKinds := [.data, .data, .data, .data, .data, .pinned], laidTests := true, laidLooks := .later }
def EvalChoiceUptoCardSaid : Prop := Claim7.holds Tryz.pinned (.plain (OpenSpec.upto evalChoiceSpec)) evalChoiceUptoCard
end Rows
end Go.Proofs.YtcfgbiaahangmaaGreatDoor
