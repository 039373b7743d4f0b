/-
  NARROWER THAN 'FOR EVERY INPUT', by the rows' own cells (each row's printed sentence says how): ColumnOf: laid · ColumnCan: laid · ColumnCuts: laid · ColumnJoins: laid.
  DERIVED. THE GIVEN ROWS OF THIS SEAT. 4 by the template 'for every input the law returns true; each argument reads behind the call as it read before'; 0 by the template 'total and deterministic' (their statements: YteaoeichgibgiaaDoorTotals.lean).
  GIVEN WITH THE SEED: the statements are not yours to turn. If you find one false, say at which input.
  Laid BY PROGRAM, IN A SANDBOX (cutbox-rows.mjs): the forced cells as the released guide's own fill.sh prints them over the translation 361ca51b0078aacb… (all of the seat's roots in one cut). By AI agents, Wed Nov 11 2026. No macro, syntax, notation, axiom, sorry.
-/
import Derived.Test.YteaoeichgibgiaaDoorChecked
import GoSem.Claim
import GoSem.ClaimJoined
import GoSem.ClaimMapViews
import Derived.JoinedTies
import Derived.KernelRfl
namespace Go.Proofs.YteaoeichgibgiaaDoor
/- THE CELL 'sum', in the pinned program and in every row, IS THE sha256 OF THE DUMP (.gsa) THAT YteaoeichgibgiaaDoorProg.lean LOADS. Nothing in Lean hashes anything: it is a label: what it is worth is what the hold of that sum in a sandbox is worth. -/
noncomputable def Tryd.pinned : Pinned := { name := "yteaoeichgibgiaadoor", sum := "361ca51b0078aacbfed67748bef517c11352f88280b24da1e0432b7656baa461", checked := Tryd.checked }
namespace Rows
def none {H : Type} : Left H := { results := [], args := [] }

/- WHAT THE LISTED PACKAGE-LEVEL VARIABLES READ AS WHEN THE CALL BEGINS. Each datum BY PROGRAM (the guide's laid-datum.mjs) off the statement by which the dump's own 'gosem.cut.vars' lays the variable. In a bare row this is a premise. The card (YteaoeichgibgiaaDoorCards.lean) ties it to the program's text. -/
def laid_cadastre_value_names {H : Type} : DataW H := .agg [.lit (.string []), .lit (.string [35, 82, 69, 70, 33]), .lit (.string [35, 86, 65, 76, 85, 69, 33]), .lit (.string [35, 68, 73, 86, 47, 48, 33]), .lit (.string [35, 78, 85, 77, 33]), .lit (.string [35, 67, 89, 67, 76, 69, 33])]

/-- 'cadastrelaw19.ColumnOf': WHATEVER THE INPUT: true; the input reads as it did. -/
def columnOfSpec : ChangeSpec := { name := "columnOf", fn := fun _ => fun
  | [d1, d2] => { results := [.lit (.bool true)], args := [d1, d2] }
  | _ => none }
def columnOfRow : OpenClaim := { program := "yteaoeichgibgiaadoor", sum := "361ca51b0078aacbfed67748bef517c11352f88280b24da1e0432b7656baa461", func := "cadastre/cadastrelaw19.ColumnOf", spec := "columnOf", inPlace := ["internal/bytealg.IndexByteString", "internal/bytealg.IndexString", "math/bits.Add64"], named := ["cadastre/value.names", "internal/bytealg.MaxLen"], apart := false, laid := [("cadastre/value.names", laid_cadastre_value_names)] }
def ColumnOfSaid : Prop := columnOfRow.holds Tryd.pinned (OpenSpec.ofChange columnOfSpec)

/-- ITS FALSE NEIGHBOUR: 'it returns false'. Refute it at one input. -/
def columnOfWrong : ChangeSpec := { name := "columnOf", fn := fun _ => fun
  | [d1, d2] => { results := [.lit (.bool false)], args := [d1, d2] }
  | _ => none }
def ColumnOfWrongFalsely : Prop := columnOfRow.holds Tryd.pinned (OpenSpec.ofChange columnOfWrong)

/-- 'cadastrelaw19.ColumnCan': WHATEVER THE INPUT: true; the input reads as it did. -/
def columnCanSpec : ChangeSpec := { name := "columnCan", fn := fun _ => fun
  | [d] => { results := [.lit (.bool true)], args := [d] }
  | _ => none }
def columnCanRow : OpenClaim := { program := "yteaoeichgibgiaadoor", sum := "361ca51b0078aacbfed67748bef517c11352f88280b24da1e0432b7656baa461", func := "cadastre/cadastrelaw19.ColumnCan", spec := "columnCan", inPlace := ["internal/bytealg.IndexByteString", "internal/bytealg.IndexString", "math/bits.Add64"], named := ["cadastre/value.names", "internal/bytealg.MaxLen"], apart := false, laid := [("cadastre/value.names", laid_cadastre_value_names)] }
def ColumnCanSaid : Prop := columnCanRow.holds Tryd.pinned (OpenSpec.ofChange columnCanSpec)

/-- ITS FALSE NEIGHBOUR: 'it returns false'. Refute it at one input. -/
def columnCanWrong : ChangeSpec := { name := "columnCan", fn := fun _ => fun
  | [d] => { results := [.lit (.bool false)], args := [d] }
  | _ => none }
def ColumnCanWrongFalsely : Prop := columnCanRow.holds Tryd.pinned (OpenSpec.ofChange columnCanWrong)

/-- 'cadastrelaw19.ColumnCuts': WHATEVER THE INPUT: true; the input reads as it did. -/
def columnCutsSpec : ChangeSpec := { name := "columnCuts", fn := fun _ => fun
  | [d1, d2, d3] => { results := [.lit (.bool true)], args := [d1, d2, d3] }
  | _ => none }
def columnCutsRow : OpenClaim := { program := "yteaoeichgibgiaadoor", sum := "361ca51b0078aacbfed67748bef517c11352f88280b24da1e0432b7656baa461", func := "cadastre/cadastrelaw19.ColumnCuts", spec := "columnCuts", inPlace := ["internal/bytealg.IndexByteString", "internal/bytealg.IndexString", "math/bits.Add64"], named := ["cadastre/value.names", "internal/bytealg.MaxLen"], apart := false, laid := [("cadastre/value.names", laid_cadastre_value_names)] }
def ColumnCutsSaid : Prop := columnCutsRow.holds Tryd.pinned (OpenSpec.ofChange columnCutsSpec)

/-- ITS FALSE NEIGHBOUR: 'it returns false'. Refute it at one input. -/
def columnCutsWrong : ChangeSpec := { name := "columnCuts", fn := fun _ => fun
  | [d1, d2, d3] => { results := [.lit (.bool false)], args := [d1, d2, d3] }
  | _ => none }
def ColumnCutsWrongFalsely : Prop := columnCutsRow.holds Tryd.pinned (OpenSpec.ofChange columnCutsWrong)

/-- 'cadastrelaw19.ColumnJoins': WHATEVER THE INPUT: true; the input reads as it did. -/
def columnJoinsSpec : ChangeSpec := { name := "columnJoins", fn := fun _ => fun
  | [d1, d2] => { results := [.lit (.bool true)], args := [d1, d2] }
  | _ => none }
def columnJoinsRow : OpenClaim := { program := "yteaoeichgibgiaadoor", sum := "361ca51b0078aacbfed67748bef517c11352f88280b24da1e0432b7656baa461", func := "cadastre/cadastrelaw19.ColumnJoins", spec := "columnJoins", inPlace := ["internal/bytealg.IndexByteString", "internal/bytealg.IndexString", "math/bits.Add64"], named := ["cadastre/value.names", "internal/bytealg.MaxLen"], apart := false, laid := [("cadastre/value.names", laid_cadastre_value_names)] }
def ColumnJoinsSaid : Prop := columnJoinsRow.holds Tryd.pinned (OpenSpec.ofChange columnJoinsSpec)

/-- ITS FALSE NEIGHBOUR: 'it returns false'. Refute it at one input. -/
def columnJoinsWrong : ChangeSpec := { name := "columnJoins", fn := fun _ => fun
  | [d1, d2] => { results := [.lit (.bool false)], args := [d1, d2] }
  | _ => none }
def ColumnJoinsWrongFalsely : Prop := columnJoinsRow.holds Tryd.pinned (OpenSpec.ofChange columnJoinsWrong)

/- THE SECOND FORM. 'bulk': how many values and letters a reading holds, each counted each time it is reached (what is shared counts as often as it is met; a slice's spare places count too). A statement '..UptoSaid' is the law's where the arguments, and the package variables that the reading takes, are together of bulk at most 1048576: NARROWER than '..Said'. Prove '..Said' where nothing that the law and all that it calls make is longer than what came in: it says more and counts as full. Else prove '..UptoSaid'. A law counts once. -/
mutual
def uptoBulk {H : Type} : DataW H → Nat
  | .lit (.string bytes) => bytes.length + 1
  | .lit _ => 1
  | .nil => 1
  | .ptr d => uptoBulk d + 1
  | .slice elems spare => uptoBulkAll elems + uptoBulkAll spare + 1
  | .agg parts => uptoBulkAll parts + 1
  | .iface _ d => uptoBulk d + 1
  | .map entries => uptoBulkEntries entries + 1
  | .held _ => 1
def uptoBulkAll {H : Type} : List (DataW H) → Nat
  | [] => 0
  | d :: r => uptoBulk d + uptoBulkAll r
def uptoBulkEntries {H : Type} : List (Lit × DataW H) → Nat
  | [] => 0
  | x :: r => uptoBulkEntry x + uptoBulkEntries r
def uptoBulkEntry {H : Type} : Lit × DataW H → Nat
  | (.string bytes, d) => bytes.length + uptoBulk d + 1
  | (_, d) => uptoBulk d + 1
 end
def uptoSmall : (H : Type) → List (DataW H) → Bool := fun _ ds => decide (uptoBulkAll ds ≤ 1048576)
def OpenSpec.upto (s : _root_.Go.ChangeSpec) : _root_.Go.OpenSpec := { _root_.Go.OpenSpec.ofChange s with cond := some uptoSmall }

/-- 'cadastrelaw19.ColumnOf', WHERE WHAT IT READS IS OF BULK AT MOST 1048576: true; the input reads as it did. -/
def columnOfUptoRow : OpenClaim := { program := "yteaoeichgibgiaadoor", sum := "361ca51b0078aacbfed67748bef517c11352f88280b24da1e0432b7656baa461", func := "cadastre/cadastrelaw19.ColumnOf", spec := "columnOf", inPlace := ["internal/bytealg.IndexByteString", "internal/bytealg.IndexString", "math/bits.Add64"], named := ["cadastre/value.names", "internal/bytealg.MaxLen"], apart := false, laid := [("cadastre/value.names", laid_cadastre_value_names)], narrowed := true }
def ColumnOfUptoSaid : Prop := columnOfUptoRow.holds Tryd.pinned (OpenSpec.upto columnOfSpec)

/-- 'cadastrelaw19.ColumnCan', WHERE WHAT IT READS IS OF BULK AT MOST 1048576: true; the input reads as it did. -/
def columnCanUptoRow : OpenClaim := { program := "yteaoeichgibgiaadoor", sum := "361ca51b0078aacbfed67748bef517c11352f88280b24da1e0432b7656baa461", func := "cadastre/cadastrelaw19.ColumnCan", spec := "columnCan", inPlace := ["internal/bytealg.IndexByteString", "internal/bytealg.IndexString", "math/bits.Add64"], named := ["cadastre/value.names", "internal/bytealg.MaxLen"], apart := false, laid := [("cadastre/value.names", laid_cadastre_value_names)], narrowed := true }
def ColumnCanUptoSaid : Prop := columnCanUptoRow.holds Tryd.pinned (OpenSpec.upto columnCanSpec)

/-- 'cadastrelaw19.ColumnCuts', WHERE WHAT IT READS IS OF BULK AT MOST 1048576: true; the input reads as it did. -/
def columnCutsUptoRow : OpenClaim := { program := "yteaoeichgibgiaadoor", sum := "361ca51b0078aacbfed67748bef517c11352f88280b24da1e0432b7656baa461", func := "cadastre/cadastrelaw19.ColumnCuts", spec := "columnCuts", inPlace := ["internal/bytealg.IndexByteString", "internal/bytealg.IndexString", "math/bits.Add64"], named := ["cadastre/value.names", "internal/bytealg.MaxLen"], apart := false, laid := [("cadastre/value.names", laid_cadastre_value_names)], narrowed := true }
def ColumnCutsUptoSaid : Prop := columnCutsUptoRow.holds Tryd.pinned (OpenSpec.upto columnCutsSpec)

/-- 'cadastrelaw19.ColumnJoins', WHERE WHAT IT READS IS OF BULK AT MOST 1048576: true; the input reads as it did. -/
def columnJoinsUptoRow : OpenClaim := { program := "yteaoeichgibgiaadoor", sum := "361ca51b0078aacbfed67748bef517c11352f88280b24da1e0432b7656baa461", func := "cadastre/cadastrelaw19.ColumnJoins", spec := "columnJoins", inPlace := ["internal/bytealg.IndexByteString", "internal/bytealg.IndexString", "math/bits.Add64"], named := ["cadastre/value.names", "internal/bytealg.MaxLen"], apart := false, laid := [("cadastre/value.names", laid_cadastre_value_names)], narrowed := true }
def ColumnJoinsUptoSaid : Prop := columnJoinsUptoRow.holds Tryd.pinned (OpenSpec.upto columnJoinsSpec)

end Rows
end Go.Proofs.YteaoeichgibgiaaDoor
