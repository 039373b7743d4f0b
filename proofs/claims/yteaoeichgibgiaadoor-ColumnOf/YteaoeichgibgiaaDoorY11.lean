/-
 Package column: clone, Slice, Join.
 Package column: Join.
 Package column: Join and Slice, whatever comes in.
 The laws of layer 19: arguments: a column, values; how long they can be.
 From a list that lays the errors' names to their cells. No condition.
 The world in which the listed variables lie as the program's text lays them, and what a world that meets the list gives the walks. No condition.
-/
import Derived.Test.YteaoeichgibgiaaDoorY7
import Derived.Test.YteaoeichgibgiaaDoorShelfG
import Derived.Test.YteaoeichgibgiaaDoorY6
import Derived.Test.YteaoeichgibgiaaDoorY9
import Derived.SizedLaws
import Derived.Test.YteaoeichgibgiaaDoorY5
import Derived.Test.YteaoeichgibgiaaDoorRows
import Derived.ProofKit
import Derived.OpenShut
import Derived.Deep.DeepHandedRow
import Derived.Stop.LaidErr
import Derived.Lib.LaidTab
import Derived.Lib.SmallJoins
import Derived.MakeChecks
namespace Go.Proofs.YteaoeichgibgiaaDoor
open Go.RowKit
set_option maxHeartbeats 2000000

open Go.RowKit
set_option maxHeartbeats 2000000

open Go.RowKit
set_option maxHeartbeats 2000000

open Go.ChangeShapes Go.WideShapes Go.RowKit
set_option maxHeartbeats 2000000

theorem qv_value : Tryd.prog.bytesOf 33 = 40 := by kernel_rfl
section
variable {H : Type} {enc : TypeId × Value → H} {w : World} {base : Nat} {sp : Nat → Bool} {hd : Bool}
theorem vals_len40 {fuel B : Nat} {c : Value} {x : DataW H × List MemPlace} {l : List Rw} (h : DataW.trod enc Tryd.prog w base sp hd fuel 22 [c] = some x) (hl : RdV B w c l) (hw : ∀ n ∈ x.1.weights Tryd.prog 22, n ≤ reachBytes) : l.length * 40 ≤ reachBytes := by
 obtain ⟨p, c', h1, _⟩ := hl
 rcases DataW.trod_slice Tryd.underlying22 h with ⟨e6, _⟩ | ⟨a, len, cap, elems, rest, n', hn', e6, hx, _, _, _, hel, _⟩
 · simp only [List.cons.injEq, and_true] at e6
   subst e6
   simp only [Value.slice.injEq] at h1
   omega
 · simp only [List.cons.injEq, and_true] at e6
   subst e6
   simp only [Value.slice.injEq] at h1
   subst hx
   have := hw ((elems.length + rest.length) * Tryd.prog.bytesOf 33) (by simp [DataW.weights, Tryd.underlying22])
   rw [qv_value] at this
   omega
end

open Go.ChangeShapes Go.WideShapes Go.ChangeAt Go.RowKit

theorem ownK : ownKnob Tryd.prog.godebug = none := by kernel_rfl
/-- A datum's cells. -/
def flat : Nat → DataW Unit → List Value
 | _ + 1, .lit (.int k z) => [.int k z]
 | _ + 1, .lit (.string l) => [.string ⟨l.toArray⟩]
 | n + 1, .agg ds => ds.flatMap (flat n)
 | _, _ => []
def layIn (cs : List Value) : Obj → Obj
 | .cells _ t frozen => .cells cs.toArray t frozen
 | o => o
theorem gNames : Tryd.prog.globalNamed "cadastre/value.names" = some 0 := by kernel_rfl
theorem gNamesType : (Tryd.prog.globals[0]?).map (·.type) = some 60 := by kernel_rfl
theorem cellsNames : Tryd.prog.cellsOf 60 = 6 := by kernel_rfl
theorem cellsStr : Tryd.prog.cellsOf 9 = 1 := by kernel_rfl
theorem names_of {W : World} {rest : List (String × DataW Unit)} (h : laidMet Tryd.prog (("cadastre/value.names", Rows.laid_cadastre_value_names) :: rest) W) : Nm W := by
 obtain ⟨ps, ⟨g', t', cs, fuel, p, q, hg', ht', hvar, hd, _, _⟩, _⟩ := h
 obtain rfl := Option.some.inj (gNames.symm.trans hg')
 obtain rfl := Option.some.inj (gNamesType.symm.trans ht')
 have hcell := World.var?_cell gNames hvar
 have hsz : 0 < W.heap.size := by
   have h0 := hvar
   simp only [World.var?, gNames, Option.bind_some] at h0
   cases hb : W.heap[0]? with
   | none => rw [hb] at h0; cases h0
   | some o => exact (Array.getElem?_eq_some_iff.1 hb).1
 cases fuel with
 | zero => simp [DataW.trod] at hd
 | succ fuel =>
   simp only [DataW.trod, Tryd.underlying60, cellsStr, cellsNames, Nat.mul_one] at hd
   split at hd
   · obtain ⟨xs, hm, hx⟩ := Option.map_eq_some_iff.1 hd
     have hxs : xs.map (·.1) = ([.lit (.string []), .lit (.string [35, 82, 69, 70, 33]), .lit (.string [35, 86, 65, 76, 85, 69, 33]), .lit (.string [35, 68, 73, 86, 47, 48, 33]), .lit (.string [35, 78, 85, 77, 33]), .lit (.string [35, 67, 89, 67, 76, 69, 33])] : List (DataW Unit)) := by
       have := congrArg Prod.fst hx
       simpa [Rows.laid_cadastre_value_names] using this
     have key : ∀ (i : Nat) (l : List UInt8), i < 6 → (xs.map (·.1))[i]? = some (DataW.lit (.string l)) → W.cell? ⟨0, i, none⟩ = some (.string ⟨l.toArray⟩) := by
       intro i l hi hl
       obtain ⟨b, hb, hf⟩ := Lib.mapM_at hm i i (by simp [hi])
       obtain ⟨s, hc, rfl, _⟩ := DataW.trod_string Tryd.underlying9 hf
       have h1 : cs.toList[i]? = some (.string s) := by
         have := congrArg (·[0]?) hc
         simpa [List.getElem?_take, List.getElem?_drop] using this
       have h2 : (xs.map (·.1))[i]? = some (DataW.lit (.string s.data.toList) : DataW Unit) := by simp [hb]
       rw [hl] at h2
       simp only [Option.some.injEq, DataW.lit.injEq, Lit.string.injEq] at h2
       rw [hcell i, h2]
       simpa using h1
     rw [hxs] at key
     exact ⟨hsz, key 0 _ (by decide) rfl, key 1 _ (by decide) rfl, key 2 _ (by decide) rfl, key 3 _ (by decide) rfl, key 4 _ (by decide) rfl, key 5 _ (by decide) rfl⟩
   · cases hd

open Go.ChangeShapes Go.WideShapes Go.ChangeAt Go.RowKit

def laidListC : List (String × DataW Unit) := Rows.columnOfRow.laid
def layAllC (h : Array Obj) : Array Obj := [(0, flat 4 Rows.laid_cadastre_value_names)].foldl (fun h x => h.modify x.1 (layIn x.2)) h
noncomputable def laidWorldC (os : Os) : World :=
 { World.holding Tryd.prog os ⟨#[], #[], []⟩ with heap := layAllC (World.holding Tryd.prog os ⟨#[], #[], []⟩).heap }
theorem nm_ofC {W : World} (h : laidMetH Tryd.prog laidListC W) : Nm W := by
 rw [MakeChecks.laidMetH_plain _ _ _ (by kernel_rfl)] at h
 exact names_of (show laidMet Tryd.prog (_ :: _) W from h)
end Go.Proofs.YteaoeichgibgiaaDoor
