/-
  DERIVED. GIVEN WITH THE SEED: THE CARDS: each row of YtjhmbkdkjgjoaaaDoorRows.lean that lists a variable, with what it lists TIED to the program's text (the seventh form; the later family's looks); each row that meets fmt, with fmt's text TOLD by the authors' own Lean function (tested against real Go, not proved from fmt's source: count such statements apart). THE CARD IS WHAT COUNTS. Prove the row's statement (the work); the ties are given (YtjhmbkdkjgjoaaaDoorTie.lean); close each card by the builder's one call (the guide's Derived/Test/ToyasCard.lean, 'card_holds'). Laid BY PROGRAM, IN A SANDBOX (cutbox-door.mjs). By AI agents, Wed Nov 11 2026. No macro, syntax, notation, axiom, sorry.
-/
import Derived.Test.YtjhmbkdkjgjoaaaDoorRows
import GoSem.ClaimSeven
namespace Go.Proofs.YtjhmbkdkjgjoaaaDoor
namespace Rows

/-- THE TIED CARD OF 'cadastrelaw20.RegionKinds'. -/
def regionKindsCard : Claim7 := { stood := { row := regionKindsRow, standIns := [], harness := (true, "dfba0fc7896a021ecde49f83b662557b6c95cc7ade78fa5d77b45dd124ed14ac"), looks := false }, kinds := [], alts := [], laidByText := true, laidKinds := [.data], laidTests := true, laidLooks := .later }
def RegionKindsCardSaid : Prop := Claim7.holds Tryd.pinned (.plain (OpenSpec.ofChange regionKindsSpec)) regionKindsCard

/-- THE SECOND FORM's CARD OF 'cadastrelaw20.RegionKinds'. -/
def regionKindsUptoCard : Claim7 := { stood := { row := regionKindsUptoRow, standIns := [], harness := (true, "dfba0fc7896a021ecde49f83b662557b6c95cc7ade78fa5d77b45dd124ed14ac"), looks := false }, kinds := [], alts := [], laidByText := true, laidKinds := [.data], laidTests := true, laidLooks := .later }
def RegionKindsUptoCardSaid : Prop := Claim7.holds Tryd.pinned (.plain (OpenSpec.upto regionKindsSpec)) regionKindsUptoCard
end Rows
end Go.Proofs.YtjhmbkdkjgjoaaaDoor
