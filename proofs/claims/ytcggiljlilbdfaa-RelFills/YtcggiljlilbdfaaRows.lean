/-
  NARROWER THAN 'FOR EVERY INPUT', by the rows' own cells (each row's printed sentence says how): RelForms: loops · RelAlike: loops · RelFills: loops · RelRefs: loops · RelTwice: loops · MovePlaces: loops · MoveBack: loops.
  DERIVED. THE GIVEN ROWS OF THIS SEAT. 8 by the template 'for every input the law returns true; each argument reads behind the call as it read before'; 0 by the template 'total and deterministic' (their statements: YtcggiljlilbdfaaTotals.lean).
  GIVEN WITH THE SEED: the statements are not yours to turn. If you find one false, say at which input.
  Laid BY PROGRAM, IN A SANDBOX (cutbox-rows.mjs): the forced cells as the released guide's own fill.sh prints them over the translation 7d8aab7dbb64a4d2… (all of the seat's roots in one cut). By AI agents, Wed Nov 11 2026. No macro, syntax, notation, axiom, sorry.
-/
import Derived.Test.YtcggiljlilbdfaaChecked
import GoSem.Claim
import GoSem.ClaimJoined
import GoSem.ClaimMapViews
import Derived.JoinedTies
import Derived.KernelRfl
namespace Go.Proofs.Ytcggiljlilbdfaa
/- THE CELL 'sum', in the pinned program and in every row, IS THE sha256 OF THE DUMP (.gsa) THAT YtcggiljlilbdfaaProg.lean LOADS. Nothing in Lean hashes anything: it is a label: what it is worth is what the hold of that sum in a sandbox is worth. -/
noncomputable def Try.pinned : Pinned := { name := "ytcggiljlilbdfaa", sum := "7d8aab7dbb64a4d29790410e6085fa8afec98e584f632e85877becce14f40425", checked := Try.checked }
namespace Rows
def none {H : Type} : Left H := { results := [], args := [] }

/-- 'cadastrelaw10.RelForms': WHATEVER THE INPUT: true; the input reads as it did. -/
def relFormsSpec : ChangeSpec := { name := "relForms", fn := fun _ => fun
  | [d1, d2] => { results := [.lit (.bool true)], args := [d1, d2] }
  | _ => none }
def relFormsRow : OpenClaim := { program := "ytcggiljlilbdfaa", sum := "7d8aab7dbb64a4d29790410e6085fa8afec98e584f632e85877becce14f40425", func := "cadastre/cadastrelaw10.RelForms", spec := "relForms", unfollowed := true, recurses := true, loops := true, apart := false }
def RelFormsSaid : Prop := relFormsRow.holds Try.pinned (OpenSpec.ofChange relFormsSpec)

/-- ITS FALSE NEIGHBOUR: 'it returns false'. Refute it at one input. -/
def relFormsWrong : ChangeSpec := { name := "relForms", fn := fun _ => fun
  | [d1, d2] => { results := [.lit (.bool false)], args := [d1, d2] }
  | _ => none }
def RelFormsWrongFalsely : Prop := relFormsRow.holds Try.pinned (OpenSpec.ofChange relFormsWrong)

/-- 'cadastrelaw10.RelAlike': WHATEVER THE INPUT: true; the input reads as it did. -/
def relAlikeSpec : ChangeSpec := { name := "relAlike", fn := fun _ => fun
  | [d1, d2, d3] => { results := [.lit (.bool true)], args := [d1, d2, d3] }
  | _ => none }
def relAlikeRow : OpenClaim := { program := "ytcggiljlilbdfaa", sum := "7d8aab7dbb64a4d29790410e6085fa8afec98e584f632e85877becce14f40425", func := "cadastre/cadastrelaw10.RelAlike", spec := "relAlike", unfollowed := true, recurses := true, loops := true, apart := false }
def RelAlikeSaid : Prop := relAlikeRow.holds Try.pinned (OpenSpec.ofChange relAlikeSpec)

/-- ITS FALSE NEIGHBOUR: 'it returns false'. Refute it at one input. -/
def relAlikeWrong : ChangeSpec := { name := "relAlike", fn := fun _ => fun
  | [d1, d2, d3] => { results := [.lit (.bool false)], args := [d1, d2, d3] }
  | _ => none }
def RelAlikeWrongFalsely : Prop := relAlikeRow.holds Try.pinned (OpenSpec.ofChange relAlikeWrong)

/-- 'cadastrelaw10.RelFills': WHATEVER THE INPUT: true; the input reads as it did. -/
def relFillsSpec : ChangeSpec := { name := "relFills", fn := fun _ => fun
  | [d1, d2] => { results := [.lit (.bool true)], args := [d1, d2] }
  | _ => none }
def relFillsRow : OpenClaim := { program := "ytcggiljlilbdfaa", sum := "7d8aab7dbb64a4d29790410e6085fa8afec98e584f632e85877becce14f40425", func := "cadastre/cadastrelaw10.RelFills", spec := "relFills", unfollowed := true, recurses := true, loops := true, apart := false }
def RelFillsSaid : Prop := relFillsRow.holds Try.pinned (OpenSpec.ofChange relFillsSpec)

/-- ITS FALSE NEIGHBOUR: 'it returns false'. Refute it at one input. -/
def relFillsWrong : ChangeSpec := { name := "relFills", fn := fun _ => fun
  | [d1, d2] => { results := [.lit (.bool false)], args := [d1, d2] }
  | _ => none }
def RelFillsWrongFalsely : Prop := relFillsRow.holds Try.pinned (OpenSpec.ofChange relFillsWrong)

/-- 'cadastrelaw10.RelRefs': WHATEVER THE INPUT: true; the input reads as it did. -/
def relRefsSpec : ChangeSpec := { name := "relRefs", fn := fun _ => fun
  | [d] => { results := [.lit (.bool true)], args := [d] }
  | _ => none }
def relRefsRow : OpenClaim := { program := "ytcggiljlilbdfaa", sum := "7d8aab7dbb64a4d29790410e6085fa8afec98e584f632e85877becce14f40425", func := "cadastre/cadastrelaw10.RelRefs", spec := "relRefs", unfollowed := true, recurses := true, loops := true, apart := false }
def RelRefsSaid : Prop := relRefsRow.holds Try.pinned (OpenSpec.ofChange relRefsSpec)

/-- ITS FALSE NEIGHBOUR: 'it returns false'. Refute it at one input. -/
def relRefsWrong : ChangeSpec := { name := "relRefs", fn := fun _ => fun
  | [d] => { results := [.lit (.bool false)], args := [d] }
  | _ => none }
def RelRefsWrongFalsely : Prop := relRefsRow.holds Try.pinned (OpenSpec.ofChange relRefsWrong)

/-- 'cadastrelaw10.RelTwice': WHATEVER THE INPUT: true; the input reads as it did. -/
def relTwiceSpec : ChangeSpec := { name := "relTwice", fn := fun _ => fun
  | [d1, d2] => { results := [.lit (.bool true)], args := [d1, d2] }
  | _ => none }
def relTwiceRow : OpenClaim := { program := "ytcggiljlilbdfaa", sum := "7d8aab7dbb64a4d29790410e6085fa8afec98e584f632e85877becce14f40425", func := "cadastre/cadastrelaw10.RelTwice", spec := "relTwice", unfollowed := true, recurses := true, loops := true, apart := false }
def RelTwiceSaid : Prop := relTwiceRow.holds Try.pinned (OpenSpec.ofChange relTwiceSpec)

/-- ITS FALSE NEIGHBOUR: 'it returns false'. Refute it at one input. -/
def relTwiceWrong : ChangeSpec := { name := "relTwice", fn := fun _ => fun
  | [d1, d2] => { results := [.lit (.bool false)], args := [d1, d2] }
  | _ => none }
def RelTwiceWrongFalsely : Prop := relTwiceRow.holds Try.pinned (OpenSpec.ofChange relTwiceWrong)

/-- 'cadastrelaw11.MoveRows': WHATEVER THE INPUT: true; the input reads as it did. -/
def moveRowsSpec : ChangeSpec := { name := "moveRows", fn := fun _ => fun
  | [d1, d2] => { results := [.lit (.bool true)], args := [d1, d2] }
  | _ => none }
def moveRowsRow : OpenClaim := { program := "ytcggiljlilbdfaa", sum := "7d8aab7dbb64a4d29790410e6085fa8afec98e584f632e85877becce14f40425", func := "cadastre/cadastrelaw11.MoveRows", spec := "moveRows", unfollowed := true, recurses := true, apart := false }
def MoveRowsSaid : Prop := moveRowsRow.holds Try.pinned (OpenSpec.ofChange moveRowsSpec)

/-- ITS FALSE NEIGHBOUR: 'it returns false'. Refute it at one input. -/
def moveRowsWrong : ChangeSpec := { name := "moveRows", fn := fun _ => fun
  | [d1, d2] => { results := [.lit (.bool false)], args := [d1, d2] }
  | _ => none }
def MoveRowsWrongFalsely : Prop := moveRowsRow.holds Try.pinned (OpenSpec.ofChange moveRowsWrong)

/-- 'cadastrelaw11.MovePlaces': WHATEVER THE INPUT: true; the input reads as it did. -/
def movePlacesSpec : ChangeSpec := { name := "movePlaces", fn := fun _ => fun
  | [d1, d2] => { results := [.lit (.bool true)], args := [d1, d2] }
  | _ => none }
def movePlacesRow : OpenClaim := { program := "ytcggiljlilbdfaa", sum := "7d8aab7dbb64a4d29790410e6085fa8afec98e584f632e85877becce14f40425", func := "cadastre/cadastrelaw11.MovePlaces", spec := "movePlaces", unfollowed := true, recurses := true, loops := true, apart := false }
def MovePlacesSaid : Prop := movePlacesRow.holds Try.pinned (OpenSpec.ofChange movePlacesSpec)

/-- ITS FALSE NEIGHBOUR: 'it returns false'. Refute it at one input. -/
def movePlacesWrong : ChangeSpec := { name := "movePlaces", fn := fun _ => fun
  | [d1, d2] => { results := [.lit (.bool false)], args := [d1, d2] }
  | _ => none }
def MovePlacesWrongFalsely : Prop := movePlacesRow.holds Try.pinned (OpenSpec.ofChange movePlacesWrong)

/-- 'cadastrelaw11.MoveBack': WHATEVER THE INPUT: true; the input reads as it did. -/
def moveBackSpec : ChangeSpec := { name := "moveBack", fn := fun _ => fun
  | [d1, d2] => { results := [.lit (.bool true)], args := [d1, d2] }
  | _ => none }
def moveBackRow : OpenClaim := { program := "ytcggiljlilbdfaa", sum := "7d8aab7dbb64a4d29790410e6085fa8afec98e584f632e85877becce14f40425", func := "cadastre/cadastrelaw11.MoveBack", spec := "moveBack", unfollowed := true, recurses := true, loops := true, apart := false }
def MoveBackSaid : Prop := moveBackRow.holds Try.pinned (OpenSpec.ofChange moveBackSpec)

/-- ITS FALSE NEIGHBOUR: 'it returns false'. Refute it at one input. -/
def moveBackWrong : ChangeSpec := { name := "moveBack", fn := fun _ => fun
  | [d1, d2] => { results := [.lit (.bool false)], args := [d1, d2] }
  | _ => none }
def MoveBackWrongFalsely : Prop := moveBackRow.holds Try.pinned (OpenSpec.ofChange moveBackWrong)

/- THE SECOND FORM. 'bulk': how many values and letters a reading holds, each counted each time it is reached (what is shared counts as often as it is met; a slice's spare places count too). A statement '..UptoSaid' is the law's where the arguments, and the package variables that the reading takes, are together of bulk at most 1048576: NARROWER than '..Said'. Prove '..Said' where nothing that the law and all that it calls make is longer than what came in: it says more and counts as full. Else prove '..UptoSaid'. A law counts once. -/
mutual
def uptoBulk {H : Type} : DataW H → Nat
  | .lit (.string bytes) => bytes.length + 1
  | .lit _ => 1
  | .nil => 1
  | .ptr d => uptoBulk d + 1
  | .slice elems spare => uptoBulkAll elems + uptoBulkAll spare + 1
  | .agg parts => uptoBulkAll parts + 1
  | .iface _ d => uptoBulk d + 1
  | .map entries => uptoBulkEntries entries + 1
  | .held _ => 1
def uptoBulkAll {H : Type} : List (DataW H) → Nat
  | [] => 0
  | d :: r => uptoBulk d + uptoBulkAll r
def uptoBulkEntries {H : Type} : List (Lit × DataW H) → Nat
  | [] => 0
  | x :: r => uptoBulkEntry x + uptoBulkEntries r
def uptoBulkEntry {H : Type} : Lit × DataW H → Nat
  | (.string bytes, d) => bytes.length + uptoBulk d + 1
  | (_, d) => uptoBulk d + 1
 end
def uptoSmall : (H : Type) → List (DataW H) → Bool := fun _ ds => decide (uptoBulkAll ds ≤ 1048576)
def OpenSpec.upto (s : _root_.Go.ChangeSpec) : _root_.Go.OpenSpec := { _root_.Go.OpenSpec.ofChange s with cond := some uptoSmall }

/-- 'cadastrelaw10.RelForms', WHERE WHAT IT READS IS OF BULK AT MOST 1048576: true; the input reads as it did. -/
def relFormsUptoRow : OpenClaim := { program := "ytcggiljlilbdfaa", sum := "7d8aab7dbb64a4d29790410e6085fa8afec98e584f632e85877becce14f40425", func := "cadastre/cadastrelaw10.RelForms", spec := "relForms", unfollowed := true, recurses := true, loops := true, apart := false, narrowed := true }
def RelFormsUptoSaid : Prop := relFormsUptoRow.holds Try.pinned (OpenSpec.upto relFormsSpec)

/-- 'cadastrelaw10.RelAlike', WHERE WHAT IT READS IS OF BULK AT MOST 1048576: true; the input reads as it did. -/
def relAlikeUptoRow : OpenClaim := { program := "ytcggiljlilbdfaa", sum := "7d8aab7dbb64a4d29790410e6085fa8afec98e584f632e85877becce14f40425", func := "cadastre/cadastrelaw10.RelAlike", spec := "relAlike", unfollowed := true, recurses := true, loops := true, apart := false, narrowed := true }
def RelAlikeUptoSaid : Prop := relAlikeUptoRow.holds Try.pinned (OpenSpec.upto relAlikeSpec)

/-- 'cadastrelaw10.RelFills', WHERE WHAT IT READS IS OF BULK AT MOST 1048576: true; the input reads as it did. -/
def relFillsUptoRow : OpenClaim := { program := "ytcggiljlilbdfaa", sum := "7d8aab7dbb64a4d29790410e6085fa8afec98e584f632e85877becce14f40425", func := "cadastre/cadastrelaw10.RelFills", spec := "relFills", unfollowed := true, recurses := true, loops := true, apart := false, narrowed := true }
def RelFillsUptoSaid : Prop := relFillsUptoRow.holds Try.pinned (OpenSpec.upto relFillsSpec)

/-- 'cadastrelaw10.RelRefs', WHERE WHAT IT READS IS OF BULK AT MOST 1048576: true; the input reads as it did. -/
def relRefsUptoRow : OpenClaim := { program := "ytcggiljlilbdfaa", sum := "7d8aab7dbb64a4d29790410e6085fa8afec98e584f632e85877becce14f40425", func := "cadastre/cadastrelaw10.RelRefs", spec := "relRefs", unfollowed := true, recurses := true, loops := true, apart := false, narrowed := true }
def RelRefsUptoSaid : Prop := relRefsUptoRow.holds Try.pinned (OpenSpec.upto relRefsSpec)

/-- 'cadastrelaw10.RelTwice', WHERE WHAT IT READS IS OF BULK AT MOST 1048576: true; the input reads as it did. -/
def relTwiceUptoRow : OpenClaim := { program := "ytcggiljlilbdfaa", sum := "7d8aab7dbb64a4d29790410e6085fa8afec98e584f632e85877becce14f40425", func := "cadastre/cadastrelaw10.RelTwice", spec := "relTwice", unfollowed := true, recurses := true, loops := true, apart := false, narrowed := true }
def RelTwiceUptoSaid : Prop := relTwiceUptoRow.holds Try.pinned (OpenSpec.upto relTwiceSpec)

/-- 'cadastrelaw11.MoveRows', WHERE WHAT IT READS IS OF BULK AT MOST 1048576: true; the input reads as it did. -/
def moveRowsUptoRow : OpenClaim := { program := "ytcggiljlilbdfaa", sum := "7d8aab7dbb64a4d29790410e6085fa8afec98e584f632e85877becce14f40425", func := "cadastre/cadastrelaw11.MoveRows", spec := "moveRows", unfollowed := true, recurses := true, apart := false, narrowed := true }
def MoveRowsUptoSaid : Prop := moveRowsUptoRow.holds Try.pinned (OpenSpec.upto moveRowsSpec)

/-- 'cadastrelaw11.MovePlaces', WHERE WHAT IT READS IS OF BULK AT MOST 1048576: true; the input reads as it did. -/
def movePlacesUptoRow : OpenClaim := { program := "ytcggiljlilbdfaa", sum := "7d8aab7dbb64a4d29790410e6085fa8afec98e584f632e85877becce14f40425", func := "cadastre/cadastrelaw11.MovePlaces", spec := "movePlaces", unfollowed := true, recurses := true, loops := true, apart := false, narrowed := true }
def MovePlacesUptoSaid : Prop := movePlacesUptoRow.holds Try.pinned (OpenSpec.upto movePlacesSpec)

/-- 'cadastrelaw11.MoveBack', WHERE WHAT IT READS IS OF BULK AT MOST 1048576: true; the input reads as it did. -/
def moveBackUptoRow : OpenClaim := { program := "ytcggiljlilbdfaa", sum := "7d8aab7dbb64a4d29790410e6085fa8afec98e584f632e85877becce14f40425", func := "cadastre/cadastrelaw11.MoveBack", spec := "moveBack", unfollowed := true, recurses := true, loops := true, apart := false, narrowed := true }
def MoveBackUptoSaid : Prop := moveBackUptoRow.holds Try.pinned (OpenSpec.upto moveBackSpec)

end Rows
end Go.Proofs.Ytcggiljlilbdfaa
