/-
  From a list that lays the errors' names and the signs to their cells; a world in which they lie. No condition.
-/
import Derived.Test.YtfppjnigbodphaaDoorLexB
import Derived.Test.YtfppjnigbodphaaDoorRows
import Derived.ProofKit
import Derived.OpenShut
import Derived.Deep.DeepHandedRow
import Derived.Stop.LaidErr
import Derived.Lib.LaidTab
import Derived.Lib.SmallJoins
import Derived.MakeChecks
namespace Go.Proofs.YtfppjnigbodphaaDoor
open Go.ChangeShapes Go.WideShapes Go.ChangeAt Go.RowKit

theorem ownK : ownKnob Tryd.prog.godebug = none := by kernel_rfl
/-- A datum's cells. -/
def flat : Nat → DataW Unit → List Value
  | _ + 1, .lit (.int k z) => [.int k z]
  | _ + 1, .lit (.string l) => [.string ⟨l.toArray⟩]
  | n + 1, .agg ds => ds.flatMap (flat n)
  | _, _ => []
def layIn (cs : List Value) : Obj → Obj
  | .cells _ t frozen => .cells cs.toArray t frozen
  | o => o
theorem cellsStr : Tryd.prog.cellsOf 9 = 1 := by kernel_rfl
/-- A listed array of strings: its cells. -/
theorem strs_of {W : World} {rest : List (String × DataW Unit)} {name : String} {g : Nat} {T : TypeId} {n : Nat} (ls : List (List UInt8)) (gN : Tryd.prog.globalNamed name = some g) (gT : (Tryd.prog.globals[g]?).map (·.type) = some T)
    (uT : Tryd.prog.underlying T = some (.array n 9)) (cT : Tryd.prog.cellsOf T = n)
    (h : laidMet Tryd.prog ((name, .agg (ls.map fun l => .lit (.string l))) :: rest) W) : g < W.heap.size ∧ ∀ i l, i < n → ls[i]? = some l → W.cell? ⟨g, i, none⟩ = some (.string (bs l)) := by
  obtain ⟨ps, ⟨g', t', cs, fuel, p, q, hg', ht', hvar, hd, _, _⟩, _⟩ := h
  obtain rfl := Option.some.inj (gN.symm.trans hg')
  obtain rfl := Option.some.inj (gT.symm.trans ht')
  have hcell := World.var?_cell gN hvar
  have hsz : g < W.heap.size := by
    have h0 := hvar
    simp only [World.var?, gN, Option.bind_some] at h0
    cases hb : W.heap[g]? with
    | none => rw [hb] at h0; cases h0
    | some o => exact (Array.getElem?_eq_some_iff.1 hb).1
  refine ⟨hsz, ?_⟩
  cases fuel with
  | zero => simp [DataW.trod] at hd
  | succ fuel =>
    simp only [DataW.trod, uT, cellsStr, cT, Nat.mul_one] at hd
    split at hd
    · obtain ⟨xs, hm, hx⟩ := Option.map_eq_some_iff.1 hd
      have hxs : xs.map (·.1) = (ls.map fun l => (.lit (.string l) : DataW Unit)) := by
        have := congrArg Prod.fst hx
        simpa using this
      intro i l hi hl
      obtain ⟨b, hb, hf⟩ := Lib.mapM_at hm i i (by simp [hi])
      obtain ⟨s, hc, rfl, _⟩ := DataW.trod_string Tryd.underlying9 hf
      have h1 : cs.toList[i]? = some (.string s) := by
        have := congrArg (·[0]?) hc
        simpa [List.getElem?_take, List.getElem?_drop] using this
      have h2 : (xs.map (·.1))[i]? = some (DataW.lit (.string s.data.toList) : DataW Unit) := by simp [hb]
      rw [hxs, List.getElem?_map, hl] at h2
      simp only [Option.map_some, Option.some.injEq, DataW.lit.injEq, Lit.string.injEq] at h2
      rw [hcell i, h2, bs_of]
      simpa using h1
    · cases hd
def nmL : List (List UInt8) := [[], [35, 82, 69, 70, 33], [35, 86, 65, 76, 85, 69, 33], [35, 68, 73, 86, 47, 48, 33], [35, 78, 85, 77, 33], [35, 67, 89, 67, 76, 69, 33]]

def laidList : List (String × DataW Unit) := Rows.lexWordsRow.laid
def layAll (h : Array Obj) : Array Obj := [(1, flat 4 Rows.laid_cadastre_value_names), (0, flat 4 Rows.laid_cadastre_lex_signs)].foldl (fun h x => h.modify x.1 (layIn x.2)) h
noncomputable def laidWorld (os : Os) : World :=
  { World.holding Tryd.prog os ⟨#[], #[], []⟩ with heap := layAll (World.holding Tryd.prog os ⟨#[], #[], []⟩).heap }
theorem tab_of {W : World} (h : laidMetH Tryd.prog laidList W) : Tab7 W := by
  rw [MakeChecks.laidMetH_plain _ _ _ (by kernel_rfl)] at h
  have h1 : laidMet Tryd.prog (("cadastre/value.names", .agg (nmL.map fun l => .lit (.string l))) :: [("cadastre/lex.signs", .agg (sgsL.map fun l => .lit (.string l)))]) W := h
  obtain ⟨z, k⟩ := strs_of nmL (g := 1) (T := 71) (n := 6) (by kernel_rfl) (by kernel_rfl) Tryd.underlying71 (by kernel_rfl) h1
  obtain ⟨z', k'⟩ := strs_of sgsL (g := 0) (T := 57) (n := 15) (by kernel_rfl) (by kernel_rfl) Tryd.underlying57 (by kernel_rfl) h1.tail
  refine ⟨⟨z, k 0 _ (by decide) rfl, k 1 _ (by decide) rfl, k 2 _ (by decide) rfl, k 3 _ (by decide) rfl, k 4 _ (by decide) rfl, k 5 _ (by decide) rfl⟩, z', fun i p hp => k' i p ?_ hp⟩
  exact (List.getElem?_eq_some_iff.mp hp).1
end Go.Proofs.YtfppjnigbodphaaDoor
