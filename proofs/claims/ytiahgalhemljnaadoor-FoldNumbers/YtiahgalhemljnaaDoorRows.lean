/-
  NARROWER THAN 'FOR EVERY INPUT', by the rows' own cells (each row's printed sentence says how): FoldNumbers: laid · FoldMeans: laid · FoldOrders: laid · FoldBetween: laid.
  DERIVED. THE GIVEN ROWS OF THIS SEAT. 4 by the template 'for every input the law returns true; each argument reads behind the call as it read before'; 0 by the template 'total and deterministic' (their statements: YtiahgalhemljnaaDoorTotals.lean).
  GIVEN WITH THE SEED: the statements are not yours to turn. If you find one false, say at which input.
  Laid BY PROGRAM, IN A SANDBOX (cutbox-rows.mjs): the forced cells as the released guide's own fill.sh prints them over the translation 370f83b1ca7c09ee… (all of the seat's roots in one cut). By AI agents, Wed Nov 11 2026. No macro, syntax, notation, axiom, sorry.
-/
import Derived.Test.YtiahgalhemljnaaDoorChecked
import GoSem.Claim
import GoSem.ClaimJoined
import GoSem.ClaimMapViews
import Derived.JoinedTies
import Derived.KernelRfl
namespace Go.Proofs.YtiahgalhemljnaaDoor
/- THE CELL 'sum', in the pinned program and in every row, IS THE sha256 OF THE DUMP (.gsa) THAT YtiahgalhemljnaaDoorProg.lean LOADS. Nothing in Lean hashes anything: it is a label: what it is worth is what the hold of that sum in a sandbox is worth. -/
noncomputable def Tryd.pinned : Pinned := { name := "ytiahgalhemljnaadoor", sum := "370f83b1ca7c09ee432622d9a30b4087cd0951237d7ed972f5ded7c7b73528f3", checked := Tryd.checked }
namespace Rows
def none {H : Type} : Left H := { results := [], args := [] }

/- WHAT THE LISTED PACKAGE-LEVEL VARIABLES READ AS WHEN THE CALL BEGINS. Each datum BY PROGRAM (the guide's laid-datum.mjs) off the statement by which the dump's own 'gosem.cut.vars' lays the variable. In a bare row this is a premise. The card (YtiahgalhemljnaaDoorCards.lean) ties it to the program's text. -/
def laid_cadastre_value_names {H : Type} : DataW H := .agg [.lit (.string []), .lit (.string [35, 82, 69, 70, 33]), .lit (.string [35, 86, 65, 76, 85, 69, 33]), .lit (.string [35, 68, 73, 86, 47, 48, 33]), .lit (.string [35, 78, 85, 77, 33]), .lit (.string [35, 67, 89, 67, 76, 69, 33])]

/-- 'cadastrelaw13.FoldNumbers': WHATEVER THE INPUT: true; the input reads as it did. -/
def foldNumbersSpec : ChangeSpec := { name := "foldNumbers", fn := fun _ => fun
  | [d] => { results := [.lit (.bool true)], args := [d] }
  | _ => none }
def foldNumbersRow : OpenClaim := { program := "ytiahgalhemljnaadoor", sum := "370f83b1ca7c09ee432622d9a30b4087cd0951237d7ed972f5ded7c7b73528f3", func := "cadastre/cadastrelaw13.FoldNumbers", spec := "foldNumbers", inPlace := ["math/bits.Add64", "internal/bytealg.IndexByteString", "internal/bytealg.IndexString", "math/bits.Sub64"], unfollowed := true, recurses := true, named := ["cadastre/value.names", "internal/bytealg.MaxLen", "math/bits.divideError", "math/bits.overflowError"], apart := false, laid := [("cadastre/value.names", laid_cadastre_value_names)] }
def FoldNumbersSaid : Prop := foldNumbersRow.holds Tryd.pinned (OpenSpec.ofChange foldNumbersSpec)

/-- ITS FALSE NEIGHBOUR: 'it returns false'. Refute it at one input. -/
def foldNumbersWrong : ChangeSpec := { name := "foldNumbers", fn := fun _ => fun
  | [d] => { results := [.lit (.bool false)], args := [d] }
  | _ => none }
def FoldNumbersWrongFalsely : Prop := foldNumbersRow.holds Tryd.pinned (OpenSpec.ofChange foldNumbersWrong)

/-- 'cadastrelaw13.FoldMeans': WHATEVER THE INPUT: true; the input reads as it did. -/
def foldMeansSpec : ChangeSpec := { name := "foldMeans", fn := fun _ => fun
  | [d1, d2] => { results := [.lit (.bool true)], args := [d1, d2] }
  | _ => none }
def foldMeansRow : OpenClaim := { program := "ytiahgalhemljnaadoor", sum := "370f83b1ca7c09ee432622d9a30b4087cd0951237d7ed972f5ded7c7b73528f3", func := "cadastre/cadastrelaw13.FoldMeans", spec := "foldMeans", inPlace := ["math/bits.Sub64", "math/bits.Add64", "internal/bytealg.IndexByteString", "internal/bytealg.IndexString"], unfollowed := true, recurses := true, named := ["math/bits.divideError", "math/bits.overflowError", "cadastre/value.names", "internal/bytealg.MaxLen"], apart := false, laid := [("cadastre/value.names", laid_cadastre_value_names)] }
def FoldMeansSaid : Prop := foldMeansRow.holds Tryd.pinned (OpenSpec.ofChange foldMeansSpec)

/-- ITS FALSE NEIGHBOUR: 'it returns false'. Refute it at one input. -/
def foldMeansWrong : ChangeSpec := { name := "foldMeans", fn := fun _ => fun
  | [d1, d2] => { results := [.lit (.bool false)], args := [d1, d2] }
  | _ => none }
def FoldMeansWrongFalsely : Prop := foldMeansRow.holds Tryd.pinned (OpenSpec.ofChange foldMeansWrong)

/-- 'cadastrelaw13.FoldOrders': WHATEVER THE INPUT: true; the input reads as it did. -/
def foldOrdersSpec : ChangeSpec := { name := "foldOrders", fn := fun _ => fun
  | [d1, d2, d3] => { results := [.lit (.bool true)], args := [d1, d2, d3] }
  | _ => none }
def foldOrdersRow : OpenClaim := { program := "ytiahgalhemljnaadoor", sum := "370f83b1ca7c09ee432622d9a30b4087cd0951237d7ed972f5ded7c7b73528f3", func := "cadastre/cadastrelaw13.FoldOrders", spec := "foldOrders", inPlace := ["math/bits.Add64", "internal/bytealg.IndexByteString", "internal/bytealg.IndexString", "math/bits.Sub64"], unfollowed := true, recurses := true, named := ["cadastre/value.names", "internal/bytealg.MaxLen", "math/bits.divideError", "math/bits.overflowError"], apart := false, laid := [("cadastre/value.names", laid_cadastre_value_names)] }
def FoldOrdersSaid : Prop := foldOrdersRow.holds Tryd.pinned (OpenSpec.ofChange foldOrdersSpec)

/-- ITS FALSE NEIGHBOUR: 'it returns false'. Refute it at one input. -/
def foldOrdersWrong : ChangeSpec := { name := "foldOrders", fn := fun _ => fun
  | [d1, d2, d3] => { results := [.lit (.bool false)], args := [d1, d2, d3] }
  | _ => none }
def FoldOrdersWrongFalsely : Prop := foldOrdersRow.holds Tryd.pinned (OpenSpec.ofChange foldOrdersWrong)

/-- 'cadastrelaw13.FoldBetween': WHATEVER THE INPUT: true; the input reads as it did. -/
def foldBetweenSpec : ChangeSpec := { name := "foldBetween", fn := fun _ => fun
  | [d] => { results := [.lit (.bool true)], args := [d] }
  | _ => none }
def foldBetweenRow : OpenClaim := { program := "ytiahgalhemljnaadoor", sum := "370f83b1ca7c09ee432622d9a30b4087cd0951237d7ed972f5ded7c7b73528f3", func := "cadastre/cadastrelaw13.FoldBetween", spec := "foldBetween", inPlace := ["math/bits.Add64", "internal/bytealg.IndexByteString", "internal/bytealg.IndexString", "math/bits.Sub64"], unfollowed := true, recurses := true, named := ["cadastre/value.names", "internal/bytealg.MaxLen", "math/bits.divideError", "math/bits.overflowError"], apart := false, laid := [("cadastre/value.names", laid_cadastre_value_names)] }
def FoldBetweenSaid : Prop := foldBetweenRow.holds Tryd.pinned (OpenSpec.ofChange foldBetweenSpec)

/-- ITS FALSE NEIGHBOUR: 'it returns false'. Refute it at one input. -/
def foldBetweenWrong : ChangeSpec := { name := "foldBetween", fn := fun _ => fun
  | [d] => { results := [.lit (.bool false)], args := [d] }
  | _ => none }
def FoldBetweenWrongFalsely : Prop := foldBetweenRow.holds Tryd.pinned (OpenSpec.ofChange foldBetweenWrong)

/- THE SECOND FORM. 'bulk': how many values and letters a reading holds, each counted each time it is reached (what is shared counts as often as it is met; a slice's spare places count too). A statement '..UptoSaid' is the law's where the arguments, and the package variables that the reading takes, are together of bulk at most 1048576: NARROWER than '..Said'. Prove '..Said' where nothing that the law and all that it calls make is longer than what came in: it says more and counts as full. Else prove '..UptoSaid'. A law counts once. -/
mutual
def uptoBulk {H : Type} : DataW H → Nat
  | .lit (.string bytes) => bytes.length + 1
  | .lit _ => 1
  | .nil => 1
  | .ptr d => uptoBulk d + 1
  | .slice elems spare => uptoBulkAll elems + uptoBulkAll spare + 1
  | .agg parts => uptoBulkAll parts + 1
  | .iface _ d => uptoBulk d + 1
  | .map entries => uptoBulkEntries entries + 1
  | .held _ => 1
def uptoBulkAll {H : Type} : List (DataW H) → Nat
  | [] => 0
  | d :: r => uptoBulk d + uptoBulkAll r
def uptoBulkEntries {H : Type} : List (Lit × DataW H) → Nat
  | [] => 0
  | x :: r => uptoBulkEntry x + uptoBulkEntries r
def uptoBulkEntry {H : Type} : Lit × DataW H → Nat
  | (.string bytes, d) => bytes.length + uptoBulk d + 1
  | (_, d) => uptoBulk d + 1
 end
def uptoSmall : (H : Type) → List (DataW H) → Bool := fun _ ds => decide (uptoBulkAll ds ≤ 1048576)
def OpenSpec.upto (s : _root_.Go.ChangeSpec) : _root_.Go.OpenSpec := { _root_.Go.OpenSpec.ofChange s with cond := some uptoSmall }

/-- 'cadastrelaw13.FoldNumbers', WHERE WHAT IT READS IS OF BULK AT MOST 1048576: true; the input reads as it did. -/
def foldNumbersUptoRow : OpenClaim := { program := "ytiahgalhemljnaadoor", sum := "370f83b1ca7c09ee432622d9a30b4087cd0951237d7ed972f5ded7c7b73528f3", func := "cadastre/cadastrelaw13.FoldNumbers", spec := "foldNumbers", inPlace := ["math/bits.Add64", "internal/bytealg.IndexByteString", "internal/bytealg.IndexString", "math/bits.Sub64"], unfollowed := true, recurses := true, named := ["cadastre/value.names", "internal/bytealg.MaxLen", "math/bits.divideError", "math/bits.overflowError"], apart := false, laid := [("cadastre/value.names", laid_cadastre_value_names)], narrowed := true }
def FoldNumbersUptoSaid : Prop := foldNumbersUptoRow.holds Tryd.pinned (OpenSpec.upto foldNumbersSpec)

/-- 'cadastrelaw13.FoldMeans', WHERE WHAT IT READS IS OF BULK AT MOST 1048576: true; the input reads as it did. -/
def foldMeansUptoRow : OpenClaim := { program := "ytiahgalhemljnaadoor", sum := "370f83b1ca7c09ee432622d9a30b4087cd0951237d7ed972f5ded7c7b73528f3", func := "cadastre/cadastrelaw13.FoldMeans", spec := "foldMeans", inPlace := ["math/bits.Sub64", "math/bits.Add64", "internal/bytealg.IndexByteString", "internal/bytealg.IndexString"], unfollowed := true, recurses := true, named := ["math/bits.divideError", "math/bits.overflowError", "cadastre/value.names", "internal/bytealg.MaxLen"], apart := false, laid := [("cadastre/value.names", laid_cadastre_value_names)], narrowed := true }
def FoldMeansUptoSaid : Prop := foldMeansUptoRow.holds Tryd.pinned (OpenSpec.upto foldMeansSpec)

/-- 'cadastrelaw13.FoldOrders', WHERE WHAT IT READS IS OF BULK AT MOST 1048576: true; the input reads as it did. -/
def foldOrdersUptoRow : OpenClaim := { program := "ytiahgalhemljnaadoor", sum := "370f83b1ca7c09ee432622d9a30b4087cd0951237d7ed972f5ded7c7b73528f3", func := "cadastre/cadastrelaw13.FoldOrders", spec := "foldOrders", inPlace := ["math/bits.Add64", "internal/bytealg.IndexByteString", "internal/bytealg.IndexString", "math/bits.Sub64"], unfollowed := true, recurses := true, named := ["cadastre/value.names", "internal/bytealg.MaxLen", "math/bits.divideError", "math/bits.overflowError"], apart := false, laid := [("cadastre/value.names", laid_cadastre_value_names)], narrowed := true }
def FoldOrdersUptoSaid : Prop := foldOrdersUptoRow.holds Tryd.pinned (OpenSpec.upto foldOrdersSpec)

/-- 'cadastrelaw13.FoldBetween', WHERE WHAT IT READS IS OF BULK AT MOST 1048576: true; the input reads as it did. -/
def foldBetweenUptoRow : OpenClaim := { program := "ytiahgalhemljnaadoor", sum := "370f83b1ca7c09ee432622d9a30b4087cd0951237d7ed972f5ded7c7b73528f3", func := "cadastre/cadastrelaw13.FoldBetween", spec := "foldBetween", inPlace := ["math/bits.Add64", "internal/bytealg.IndexByteString", "internal/bytealg.IndexString", "math/bits.Sub64"], unfollowed := true, recurses := true, named := ["cadastre/value.names", "internal/bytealg.MaxLen", "math/bits.divideError", "math/bits.overflowError"], apart := false, laid := [("cadastre/value.names", laid_cadastre_value_names)], narrowed := true }
def FoldBetweenUptoSaid : Prop := foldBetweenUptoRow.holds Tryd.pinned (OpenSpec.upto foldBetweenSpec)

end Rows
end Go.Proofs.YtiahgalhemljnaaDoor
