/-
  DERIVED. GIVEN WITH THE SEED: THE CARDS: each row of YtiahgalhemljnaaDoorRows.lean that lists a variable, with what it lists TIED to the program's text (the seventh form; the later family's looks); each row that meets fmt, with fmt's text TOLD by the authors' own Lean function (tested against real Go, not proved from fmt's source: count such statements apart). THE CARD IS WHAT COUNTS. Prove the row's statement (the work); the ties are given (YtiahgalhemljnaaDoorTie.lean); close each card by the builder's one call (the guide's Derived/Test/ToyasCard.lean, 'card_holds'). Laid BY PROGRAM, IN A SANDBOX (cutbox-door.mjs). By AI agents, Wed Nov 11 2026. No macro, syntax, notation, axiom, sorry.
-/
import Derived.Test.YtiahgalhemljnaaDoorRows
import GoSem.ClaimSeven
namespace Go.Proofs.YtiahgalhemljnaaDoor
namespace Rows

/-- THE TIED CARD OF 'cadastrelaw13.FoldNumbers'. -/
def foldNumbersCard : Claim7 := { stood := { row := foldNumbersRow, standIns := [], harness := (true, "ea097ef639cfc302dda3746bb8ade0eb9af2bdb8c71da2fe8018bf7a1ce729fb"), looks := false }, kinds := [], alts := [], laidByText := true, laidKinds := [.data], laidTests := true, laidLooks := .later }
def FoldNumbersCardSaid : Prop := Claim7.holds Tryd.pinned (.plain (OpenSpec.ofChange foldNumbersSpec)) foldNumbersCard

/-- THE TIED CARD OF 'cadastrelaw13.FoldMeans'. -/
def foldMeansCard : Claim7 := { stood := { row := foldMeansRow, standIns := [], harness := (true, "ea097ef639cfc302dda3746bb8ade0eb9af2bdb8c71da2fe8018bf7a1ce729fb"), looks := false }, kinds := [], alts := [], laidByText := true, laidKinds := [.data], laidTests := true, laidLooks := .later }
def FoldMeansCardSaid : Prop := Claim7.holds Tryd.pinned (.plain (OpenSpec.ofChange foldMeansSpec)) foldMeansCard

/-- THE TIED CARD OF 'cadastrelaw13.FoldOrders'. -/
def foldOrdersCard : Claim7 := { stood := { row := foldOrdersRow, standIns := [], harness := (true, "ea097ef639cfc302dda3746bb8ade0eb9af2bdb8c71da2fe8018bf7a1ce729fb"), looks := false }, kinds := [], alts := [], laidByText := true, laidKinds := [.data], laidTests := true, laidLooks := .later }
def FoldOrdersCardSaid : Prop := Claim7.holds Tryd.pinned (.plain (OpenSpec.ofChange foldOrdersSpec)) foldOrdersCard

/-- THE TIED CARD OF 'cadastrelaw13.FoldBetween'. -/
def foldBetweenCard : Claim7 := { stood := { row := foldBetweenRow, standIns := [], harness := (true, "ea097ef639cfc302dda3746bb8ade0eb9af2bdb8c71da2fe8018bf7a1ce729fb"), looks := false }, kinds := [], alts := [], laidByText := true, laidKinds := [.data], laidTests := true, laidLooks := .later }
def FoldBetweenCardSaid : Prop := Claim7.holds Tryd.pinned (.plain (OpenSpec.ofChange foldBetweenSpec)) foldBetweenCard

/-- THE SECOND FORM's CARD OF 'cadastrelaw13.FoldNumbers'. -/
def foldNumbersUptoCard : Claim7 := { stood := { row := foldNumbersUptoRow, standIns := [], harness := (true, "ea097ef639cfc302dda3746bb8ade0eb9af2bdb8c71da2fe8018bf7a1ce729fb"), looks := false }, kinds := [], alts := [], laidByText := true, laidKinds := [.data], laidTests := true, laidLooks := .later }
def FoldNumbersUptoCardSaid : Prop := Claim7.holds Tryd.pinned (.plain (OpenSpec.upto foldNumbersSpec)) foldNumbersUptoCard

/-- THE SECOND FORM's CARD OF 'cadastrelaw13.FoldMeans'. -/
def foldMeansUptoCard : Claim7 := { stood := { row := foldMeansUptoRow, standIns := [], harness := (true, "ea097ef639cfc302dda3746bb8ade0eb9af2bdb8c71da2fe8018bf7a1ce729fb"), looks := false }, kinds := [], alts := [], laidByText := true, laidKinds := [.data], laidTests := true, laidLooks := .later }
def FoldMeansUptoCardSaid : Prop := Claim7.holds Tryd.pinned (.plain (OpenSpec.upto foldMeansSpec)) foldMeansUptoCard

/-- THE SECOND FORM's CARD OF 'cadastrelaw13.FoldOrders'. -/
def foldOrdersUptoCard : Claim7 := { stood := { row := foldOrdersUptoRow, standIns := [], harness := (true, "ea097ef639cfc302dda3746bb8ade0eb9af2bdb8c71da2fe8018bf7a1ce729fb"), looks := false }, kinds := [], alts := [], laidByText := true, laidKinds := [.data], laidTests := true, laidLooks := .later }
def FoldOrdersUptoCardSaid : Prop := Claim7.holds Tryd.pinned (.plain (OpenSpec.upto foldOrdersSpec)) foldOrdersUptoCard

/-- THE SECOND FORM's CARD OF 'cadastrelaw13.FoldBetween'. -/
def foldBetweenUptoCard : Claim7 := { stood := { row := foldBetweenUptoRow, standIns := [], harness := (true, "ea097ef639cfc302dda3746bb8ade0eb9af2bdb8c71da2fe8018bf7a1ce729fb"), looks := false }, kinds := [], alts := [], laidByText := true, laidKinds := [.data], laidTests := true, laidLooks := .later }
def FoldBetweenUptoCardSaid : Prop := Claim7.holds Tryd.pinned (.plain (OpenSpec.upto foldBetweenSpec)) foldBetweenUptoCard
end Rows
end Go.Proofs.YtiahgalhemljnaaDoor
