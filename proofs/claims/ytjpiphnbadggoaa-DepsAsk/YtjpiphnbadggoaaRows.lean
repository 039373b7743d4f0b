/-
  No cell of these rows narrows 'for every input' (looked for: loops, veiled, ifaces, maps, wideKeys, modest, calm, conditions, laid).
  DERIVED. THE GIVEN ROWS OF THIS SEAT. 5 by the template 'for every input the law returns true; each argument reads behind the call as it read before'; 0 by the template 'total and deterministic' (their statements: YtjpiphnbadggoaaTotals.lean).
  GIVEN WITH THE SEED: the statements are not yours to turn. If you find one false, say at which input.
  Laid BY PROGRAM, IN A SANDBOX (cutbox-rows.mjs): the forced cells as the released guide's own fill.sh prints them over the translation 89624eaba2a875a7… (all of the seat's roots in one cut). By AI agents, Wed Nov 11 2026. No macro, syntax, notation, axiom, sorry.
-/
import Derived.Test.YtjpiphnbadggoaaChecked
import GoSem.Claim
import GoSem.ClaimJoined
import GoSem.ClaimMapViews
import Derived.JoinedTies
import Derived.KernelRfl
namespace Go.Proofs.Ytjpiphnbadggoaa
/- THE CELL 'sum', in the pinned program and in every row, IS THE sha256 OF THE DUMP (.gsa) THAT YtjpiphnbadggoaaProg.lean LOADS. Nothing in Lean hashes anything: it is a label: what it is worth is what the hold of that sum in a sandbox is worth. -/
noncomputable def Try.pinned : Pinned := { name := "ytjpiphnbadggoaa", sum := "89624eaba2a875a7ff47098f0364d7eab313721da4c25b60a01aefc064d28010", checked := Try.checked }
namespace Rows
def none {H : Type} : Left H := { results := [], args := [] }

/-- 'cadastrelaw16.DepsAsk': WHATEVER THE INPUT: true; the input reads as it did. -/
def depsAskSpec : ChangeSpec := { name := "depsAsk", fn := fun _ => fun
  | [d1, d2] => { results := [.lit (.bool true)], args := [d1, d2] }
  | _ => none }
def depsAskRow : OpenClaim := { program := "ytjpiphnbadggoaa", sum := "89624eaba2a875a7ff47098f0364d7eab313721da4c25b60a01aefc064d28010", func := "cadastre/cadastrelaw16.DepsAsk", spec := "depsAsk", unfollowed := true, recurses := true, plainKeys := false, apart := false }
def DepsAskSaid : Prop := depsAskRow.holds Try.pinned (OpenSpec.ofChange depsAskSpec)

/-- ITS FALSE NEIGHBOUR: 'it returns false'. Refute it at one input. -/
def depsAskWrong : ChangeSpec := { name := "depsAsk", fn := fun _ => fun
  | [d1, d2] => { results := [.lit (.bool false)], args := [d1, d2] }
  | _ => none }
def DepsAskWrongFalsely : Prop := depsAskRow.holds Try.pinned (OpenSpec.ofChange depsAskWrong)

/-- 'cadastrelaw16.DepsReach': WHATEVER THE INPUT: true; the input reads as it did. -/
def depsReachSpec : ChangeSpec := { name := "depsReach", fn := fun _ => fun
  | [d1, d2] => { results := [.lit (.bool true)], args := [d1, d2] }
  | _ => none }
def depsReachRow : OpenClaim := { program := "ytjpiphnbadggoaa", sum := "89624eaba2a875a7ff47098f0364d7eab313721da4c25b60a01aefc064d28010", func := "cadastre/cadastrelaw16.DepsReach", spec := "depsReach", unfollowed := true, recurses := true, plainKeys := false, apart := false }
def DepsReachSaid : Prop := depsReachRow.holds Try.pinned (OpenSpec.ofChange depsReachSpec)

/-- ITS FALSE NEIGHBOUR: 'it returns false'. Refute it at one input. -/
def depsReachWrong : ChangeSpec := { name := "depsReach", fn := fun _ => fun
  | [d1, d2] => { results := [.lit (.bool false)], args := [d1, d2] }
  | _ => none }
def DepsReachWrongFalsely : Prop := depsReachRow.holds Try.pinned (OpenSpec.ofChange depsReachWrong)

/-- 'cadastrelaw16.DepsParts': WHATEVER THE INPUT: true; the input reads as it did. -/
def depsPartsSpec : ChangeSpec := { name := "depsParts", fn := fun _ => fun
  | [d1, d2, d3] => { results := [.lit (.bool true)], args := [d1, d2, d3] }
  | _ => none }
def depsPartsRow : OpenClaim := { program := "ytjpiphnbadggoaa", sum := "89624eaba2a875a7ff47098f0364d7eab313721da4c25b60a01aefc064d28010", func := "cadastre/cadastrelaw16.DepsParts", spec := "depsParts", unfollowed := true, recurses := true, plainKeys := false, apart := false }
def DepsPartsSaid : Prop := depsPartsRow.holds Try.pinned (OpenSpec.ofChange depsPartsSpec)

/-- ITS FALSE NEIGHBOUR: 'it returns false'. Refute it at one input. -/
def depsPartsWrong : ChangeSpec := { name := "depsParts", fn := fun _ => fun
  | [d1, d2, d3] => { results := [.lit (.bool false)], args := [d1, d2, d3] }
  | _ => none }
def DepsPartsWrongFalsely : Prop := depsPartsRow.holds Try.pinned (OpenSpec.ofChange depsPartsWrong)

/-- 'cadastrelaw16.DepsGrows': WHATEVER THE INPUT: true; the input reads as it did. -/
def depsGrowsSpec : ChangeSpec := { name := "depsGrows", fn := fun _ => fun
  | [d1, d2, d3] => { results := [.lit (.bool true)], args := [d1, d2, d3] }
  | _ => none }
def depsGrowsRow : OpenClaim := { program := "ytjpiphnbadggoaa", sum := "89624eaba2a875a7ff47098f0364d7eab313721da4c25b60a01aefc064d28010", func := "cadastre/cadastrelaw16.DepsGrows", spec := "depsGrows", unfollowed := true, recurses := true, plainKeys := false, apart := false }
def DepsGrowsSaid : Prop := depsGrowsRow.holds Try.pinned (OpenSpec.ofChange depsGrowsSpec)

/-- ITS FALSE NEIGHBOUR: 'it returns false'. Refute it at one input. -/
def depsGrowsWrong : ChangeSpec := { name := "depsGrows", fn := fun _ => fun
  | [d1, d2, d3] => { results := [.lit (.bool false)], args := [d1, d2, d3] }
  | _ => none }
def DepsGrowsWrongFalsely : Prop := depsGrowsRow.holds Try.pinned (OpenSpec.ofChange depsGrowsWrong)

/-- 'cadastrelaw16.DepsCycles': WHATEVER THE INPUT: true; the input reads as it did. -/
def depsCyclesSpec : ChangeSpec := { name := "depsCycles", fn := fun _ => fun
  | [d1, d2] => { results := [.lit (.bool true)], args := [d1, d2] }
  | _ => none }
def depsCyclesRow : OpenClaim := { program := "ytjpiphnbadggoaa", sum := "89624eaba2a875a7ff47098f0364d7eab313721da4c25b60a01aefc064d28010", func := "cadastre/cadastrelaw16.DepsCycles", spec := "depsCycles", unfollowed := true, recurses := true, plainKeys := false, apart := false }
def DepsCyclesSaid : Prop := depsCyclesRow.holds Try.pinned (OpenSpec.ofChange depsCyclesSpec)

/-- ITS FALSE NEIGHBOUR: 'it returns false'. Refute it at one input. -/
def depsCyclesWrong : ChangeSpec := { name := "depsCycles", fn := fun _ => fun
  | [d1, d2] => { results := [.lit (.bool false)], args := [d1, d2] }
  | _ => none }
def DepsCyclesWrongFalsely : Prop := depsCyclesRow.holds Try.pinned (OpenSpec.ofChange depsCyclesWrong)

/- THE SECOND FORM. 'bulk': how many values and letters a reading holds, each counted each time it is reached (what is shared counts as often as it is met; a slice's spare places count too). A statement '..UptoSaid' is the law's where the arguments, and the package variables that the reading takes, are together of bulk at most 1048576: NARROWER than '..Said'. Prove '..Said' where nothing that the law and all that it calls make is longer than what came in: it says more and counts as full. Else prove '..UptoSaid'. A law counts once. -/
mutual
def uptoBulk {H : Type} : DataW H → Nat
  | .lit (.string bytes) => bytes.length + 1
  | .lit _ => 1
  | .nil => 1
  | .ptr d => uptoBulk d + 1
  | .slice elems spare => uptoBulkAll elems + uptoBulkAll spare + 1
  | .agg parts => uptoBulkAll parts + 1
  | .iface _ d => uptoBulk d + 1
  | .map entries => uptoBulkEntries entries + 1
  | .held _ => 1
def uptoBulkAll {H : Type} : List (DataW H) → Nat
  | [] => 0
  | d :: r => uptoBulk d + uptoBulkAll r
def uptoBulkEntries {H : Type} : List (Lit × DataW H) → Nat
  | [] => 0
  | x :: r => uptoBulkEntry x + uptoBulkEntries r
def uptoBulkEntry {H : Type} : Lit × DataW H → Nat
  | (.string bytes, d) => bytes.length + uptoBulk d + 1
  | (_, d) => uptoBulk d + 1
 end
def uptoSmall : (H : Type) → List (DataW H) → Bool := fun _ ds => decide (uptoBulkAll ds ≤ 1048576)
def OpenSpec.upto (s : _root_.Go.ChangeSpec) : _root_.Go.OpenSpec := { _root_.Go.OpenSpec.ofChange s with cond := some uptoSmall }

/-- 'cadastrelaw16.DepsAsk', WHERE WHAT IT READS IS OF BULK AT MOST 1048576: true; the input reads as it did. -/
def depsAskUptoRow : OpenClaim := { program := "ytjpiphnbadggoaa", sum := "89624eaba2a875a7ff47098f0364d7eab313721da4c25b60a01aefc064d28010", func := "cadastre/cadastrelaw16.DepsAsk", spec := "depsAsk", unfollowed := true, recurses := true, plainKeys := false, apart := false, narrowed := true }
def DepsAskUptoSaid : Prop := depsAskUptoRow.holds Try.pinned (OpenSpec.upto depsAskSpec)

/-- 'cadastrelaw16.DepsReach', WHERE WHAT IT READS IS OF BULK AT MOST 1048576: true; the input reads as it did. -/
def depsReachUptoRow : OpenClaim := { program := "ytjpiphnbadggoaa", sum := "89624eaba2a875a7ff47098f0364d7eab313721da4c25b60a01aefc064d28010", func := "cadastre/cadastrelaw16.DepsReach", spec := "depsReach", unfollowed := true, recurses := true, plainKeys := false, apart := false, narrowed := true }
def DepsReachUptoSaid : Prop := depsReachUptoRow.holds Try.pinned (OpenSpec.upto depsReachSpec)

/-- 'cadastrelaw16.DepsParts', WHERE WHAT IT READS IS OF BULK AT MOST 1048576: true; the input reads as it did. -/
def depsPartsUptoRow : OpenClaim := { program := "ytjpiphnbadggoaa", sum := "89624eaba2a875a7ff47098f0364d7eab313721da4c25b60a01aefc064d28010", func := "cadastre/cadastrelaw16.DepsParts", spec := "depsParts", unfollowed := true, recurses := true, plainKeys := false, apart := false, narrowed := true }
def DepsPartsUptoSaid : Prop := depsPartsUptoRow.holds Try.pinned (OpenSpec.upto depsPartsSpec)

/-- 'cadastrelaw16.DepsGrows', WHERE WHAT IT READS IS OF BULK AT MOST 1048576: true; the input reads as it did. -/
def depsGrowsUptoRow : OpenClaim := { program := "ytjpiphnbadggoaa", sum := "89624eaba2a875a7ff47098f0364d7eab313721da4c25b60a01aefc064d28010", func := "cadastre/cadastrelaw16.DepsGrows", spec := "depsGrows", unfollowed := true, recurses := true, plainKeys := false, apart := false, narrowed := true }
def DepsGrowsUptoSaid : Prop := depsGrowsUptoRow.holds Try.pinned (OpenSpec.upto depsGrowsSpec)

/-- 'cadastrelaw16.DepsCycles', WHERE WHAT IT READS IS OF BULK AT MOST 1048576: true; the input reads as it did. -/
def depsCyclesUptoRow : OpenClaim := { program := "ytjpiphnbadggoaa", sum := "89624eaba2a875a7ff47098f0364d7eab313721da4c25b60a01aefc064d28010", func := "cadastre/cadastrelaw16.DepsCycles", spec := "depsCycles", unfollowed := true, recurses := true, plainKeys := false, apart := false, narrowed := true }
def DepsCyclesUptoSaid : Prop := depsCyclesUptoRow.holds Try.pinned (OpenSpec.upto depsCyclesSpec)

end Rows
end Go.Proofs.Ytjpiphnbadggoaa
