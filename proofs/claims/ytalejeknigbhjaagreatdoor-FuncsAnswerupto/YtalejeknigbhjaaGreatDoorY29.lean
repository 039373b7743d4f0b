/-
 Arguments: how long lists can be: by the form's own reach.
 Arguments as the reading takes them, with their rows and columns; what their bulk bounds.
 From a list that lays the errors' names to their cells. No condition.
 The world in which the listed variables lie as the program's text lays them, and what a world that meets the list gives the walks. No condition.
-/
import Derived.Test.YtalejeknigbhjaaGreatDoorY20
import Derived.SizedLaws
import Derived.Test.YtalejeknigbhjaaGreatDoorY14
import Derived.Test.YtalejeknigbhjaaGreatDoorRows
import Derived.Test.YtalejeknigbhjaaGreatDoorY8
import Derived.ProofKit
import Derived.OpenShut
import Derived.Deep.DeepHandedRow
import Derived.Stop.LaidErr
import Derived.Lib.LaidTab
import Derived.Lib.SmallJoins
import Derived.MakeChecks
namespace Go.Proofs.YtalejeknigbhjaaGreatDoor
open Go.ChangeShapes Go.WideShapes Go.RowKit
open Go.Joins (trod_struct4)
set_option maxHeartbeats 2000000

section
variable {H : Type} {enc : TypeId × Value → H} {w : World} {base : Nat} {sp : Nat → Bool} {hd : Bool}
end

open Go.ChangeShapes Go.WideShapes Go.RowKit
open Go.Joins (trod_struct4)
open Go.Deep (choose_lt)
set_option maxHeartbeats 2000000

/-- How many values and arguments there are. -/
def fitG : List Bg → Nat
 | [] => 0
 | a :: l => 1 + a.g.l.length + fitG l
theorem fitG_seen (l : List Bg) : (seen (gsOf l)).length ≤ fitG l ∧ l.length ≤ fitG l := by
 induction l with
 | nil => exact ⟨Nat.le_refl _, Nat.le_refl _⟩
 | cons a l ih =>
   obtain ⟨h1, h2⟩ := ih
   refine ⟨?_, by simp only [List.length_cons, fitG]; omega⟩
   show (seen1 a.g ++ seen (gsOf l)).length ≤ _
   rw [List.length_append]
   have h3 : (seen1 a.g).length ≤ 1 + a.g.l.length := by unfold seen1; split <;> simp <;> omega
   simp only [fitG]
   omega
theorem fitG_mem {l : List Bg} {a : Bg} (h : a ∈ l) : a.g.l.length ≤ fitG l := by
 induction l with
 | nil => cases h
 | cons x l ih =>
   simp only [fitG]
   rcases List.mem_cons.1 h with rfl | h
   · omega
   · have := ih h; omega
theorem bulk_one {H : Type} (d : DataW H) : 1 ≤ Rows.uptoBulk d := by
 cases d with
 | lit l => cases l <;> simp [Rows.uptoBulk]
 | _ => simp [Rows.uptoBulk]
theorem bulk_len {H : Type} (l : List (DataW H)) : l.length ≤ Rows.uptoBulkAll l := by
 induction l with
 | nil => simp [Rows.uptoBulkAll]
 | cons x r ih => have := bulk_one x; simp only [Rows.uptoBulkAll, List.length_cons]; omega
theorem fitG_bulk {H : Type} (l : List Bg) (es : List (DataW H)) (hl : l.length = es.length) (h : ∀ (i : Nat) (a : Bg) (e : DataW H), l[i]? = some a → es[i]? = some e → 1 + a.g.l.length ≤ Rows.uptoBulk e) : fitG l ≤ Rows.uptoBulkAll es := by
 induction l generalizing es with
 | nil => exact Nat.zero_le _
 | cons a l ih =>
   cases es with
   | nil => simp at hl
   | cons e es =>
     have h0 := h 0 a e rfl rfl
     have h1 := ih es (by simpa using hl) (fun i a' e' ha he => h (i + 1) a' e' (by simpa using ha) (by simpa using he))
     simp only [fitG, Rows.uptoBulkAll]
     omega
section
variable {H : Type} {enc : TypeId × Value → H} {w : World} {base : Nat} {sp : Nat → Bool} {hd : Bool}
instance : Inhabited Bg := ⟨⟨default, 0, 0⟩⟩
theorem vals_bulk {fuel B : Nat} {c : Value} {x : DataW H × List MemPlace} {l : List Rw} (h : DataW.trod enc Tryz.prog w base sp hd fuel 29 [c] = some x) (hl : RdV B w c l) : l.length + 1 ≤ Rows.uptoBulk x.1 := by
 obtain ⟨p, c', h1, _⟩ := hl
 rcases DataW.trod_slice Tryz.underlying29 h with ⟨e6, hx⟩ | ⟨a, len, cap, elems, rest, n', hn', e6, hx, _, _, _, hel, _⟩
 · simp only [List.cons.injEq, and_true] at e6
   subst e6
   simp only [Value.slice.injEq] at h1
   subst hx
   rw [← h1.2.1]
   exact bulk_one _
 · simp only [List.cons.injEq, and_true] at e6
   subst e6
   simp only [Value.slice.injEq] at h1
   subst hx
   have := bulk_len (elems.map (·.1))
   simp only [Rows.uptoBulk]
   rw [List.length_map] at this
   omega
theorem open_barg {fuel : Nat} {cs : List Value} {x : DataW H × List MemPlace} (hl : cs.length = 4) (h : DataW.trod enc Tryz.prog w base sp hd fuel 31 cs = some x) :
   ∃ (a : Bg) (lv : Value), cs = [.bool a.g.area, .int .i64 a.rows, .int .i64 a.cols, lv] ∧ RdV w.heap.size w lv a.g.l ∧ (∀ r ∈ a.g.l, I64 r.n) ∧ (I64 a.rows ∧ I64 a.cols) ∧ 1 + a.g.l.length ≤ Rows.uptoBulk x.1 := by
 match cs, hl with
 | [c0, c1, c2, c3], _ =>
   obtain ⟨y0, y1, y2, y3, n, hx, _, h0, h1, h2, h3⟩ := trod_struct4 Tryz.underlying31 h
   simp [qc_int, qc_bool, qc_vals] at h0 h1 h2 h3
   obtain ⟨a0, e0, _⟩ := DataW.trod_bool Tryz.underlying4 h0
   obtain ⟨a1, e1, _, w1⟩ := DataW.trod_int Tryz.underlying3 h1
   obtain ⟨a2, e2, _, w2⟩ := DataW.trod_int Tryz.underlying3 h2
   simp only [List.cons.injEq, and_true] at e0 e1 e2
   obtain ⟨l, g1, g2, g3⟩ := open_vals h3
   refine ⟨⟨⟨a0, l⟩, a1, a2⟩, c3, by rw [e0, e1, e2], g1, g2, ⟨i64_of_wf w1, i64_of_wf w2⟩, ?_⟩
   have := vals_bulk h3 g1
   rw [hx]
   simp only [Rows.uptoBulk, Rows.uptoBulkAll]
   show 1 + l.length ≤ _
   omega
theorem open_bargs {fuel : Nat} {c : Value} {x : DataW H × List MemPlace} (h : DataW.trod enc Tryz.prog w base sp hd fuel 22 [c] = some x) :
   ∃ l : List Bg, RdB w.heap.size w c l ∧ AgI (gsOf l) ∧ (∀ a ∈ l, I64 a.rows ∧ I64 a.cols) ∧ fitG l ≤ Rows.uptoBulk x.1 ∧ l.length ≤ maxLen := by
 rcases DataW.trod_slice Tryz.underlying22 h with ⟨e6, _⟩ | ⟨a, len, cap, elems, rest, n', hn', e6, hx0, hb, hl, hm, hel, hx, _, _⟩
 · simp only [List.cons.injEq, and_true] at e6
   subst e6
   exact ⟨[], ⟨none, 0, rfl, Nat.le_refl _, .inl rfl⟩, (fun r hr => by cases hr), (fun r hr => by cases hr), Nat.zero_le _, by simp⟩
 · simp only [List.cons.injEq, and_true] at e6
   subst e6
   rw [qc_arg] at hx
   have each : ∀ i, i < len → ∃ q : Bg × Value, (w.cell? (a.add (i * 4)) = some (.bool q.1.g.area) ∧ w.cell? ((a.add (i * 4)).add 1) = some (.int .i64 q.1.rows) ∧ w.cell? ((a.add (i * 4)).add 2) = some (.int .i64 q.1.cols) ∧ w.cell? ((a.add (i * 4)).add 3) = some q.2) ∧ RdV w.heap.size w q.2 q.1.g.l ∧ (∀ r ∈ q.1.g.l, I64 r.n) ∧ (I64 q.1.rows ∧ I64 q.1.cols) ∧ ∀ e, (elems.map (·.1))[i]? = some e → 1 + q.1.g.l.length ≤ Rows.uptoBulk e := by
     intro i hi
     have h0 := hx i hi
     rw [List.getElem?_eq_getElem (show i < elems.length by omega)] at h0
     obtain ⟨cs', h1, h2⟩ := Option.bind_eq_some_iff.1 h0
     obtain ⟨_, k1, k2⟩ := World.cells?_some h1
     obtain ⟨g, lv, rfl, hr1, hr2, hr3, hr4⟩ := open_barg (by simpa using k1) h2
     refine ⟨(g, lv), ⟨?_, ?_, ?_, ?_⟩, hr1, hr2, hr3, fun e he => ?_⟩
     · exact k2 0 (by simp at k1 ⊢)
     · exact k2 1 (by simp at k1 ⊢)
     · exact k2 2 (by simp at k1 ⊢)
     · exact k2 3 (by simp at k1 ⊢)
     · rw [List.getElem?_map, List.getElem?_eq_getElem (show i < elems.length by omega)] at he
       simp at he
       subst he
       exact hr4
   obtain ⟨f, hf⟩ := choose_lt each
   by_cases h0 : len = 0
   · subst h0
     exact ⟨[], ⟨_, _, rfl, by omega, .inl rfl⟩, (fun r hr => by cases hr), (fun r hr => by cases hr), Nat.zero_le _, by simp⟩
   obtain ⟨b, off, spot⟩ := a
   have hz := (hf 0 (by omega)).1.1
   have hspot : spot = none := by simpa [Addr.add] using World.cell?_spot hz
   subst hspot
   have hblt : b < w.heap.size := World.block_lt_of_cell? _ _ hz
   have hgl : ((List.range len).map (fun i => (f i).1)).length = len := by simp
   refine ⟨(List.range len).map (fun i => (f i).1), ⟨_, cap, by rw [hgl], by omega, .inr ⟨b, off, rfl, hblt, hblt, fun i r hi => ?_⟩⟩, ?_, ?_, ?_, by simp; omega⟩
   · have hi' : i < len := by
       have := (List.getElem?_eq_some_iff.1 hi).1
       simpa using this
     rw [List.getElem?_map, List.getElem?_range hi'] at hi
     simp at hi
     subst hi
     have := (hf i hi').1
     simp only [Addr.add_lit] at this
     exact ⟨(f i).2, this.1, this.2.1, this.2.2.1, this.2.2.2, (hf i hi').2.1⟩
   · intro g hg r hr
     unfold gsOf at hg
     obtain ⟨g', hg', rfl⟩ := List.mem_map.1 hg
     obtain ⟨i, hi, rfl⟩ := List.mem_map.1 hg'
     exact (hf i (List.mem_range.1 hi)).2.2.1 r hr
   · intro r hr
     obtain ⟨i, hi, rfl⟩ := List.mem_map.1 hr
     exact (hf i (List.mem_range.1 hi)).2.2.2.1
   · have h9 := fitG_bulk ((List.range len).map (fun i => (f i).1)) (elems.map (·.1)) (by simp; omega) (fun i a e ha he => by
       have hi' : i < len := by
         have := (List.getElem?_eq_some_iff.1 ha).1
         simpa using this
       rw [List.getElem?_map, List.getElem?_range hi'] at ha
       simp at ha
       subst ha
       exact (hf i hi').2.2.2.2 e he)
     rw [hx0]
     simp only [Rows.uptoBulk]
     omega
end

open Go.ChangeShapes Go.WideShapes Go.ChangeAt Go.RowKit

theorem ownK : ownKnob Tryz.prog.godebug = none := by kernel_rfl
/-- A datum's cells. -/
def flat : Nat → DataW Unit → List Value
 | _ + 1, .lit (.int k z) => [.int k z]
 | _ + 1, .lit (.string l) => [.string ⟨l.toArray⟩]
 | n + 1, .agg ds => ds.flatMap (flat n)
 | _, _ => []
def layIn (cs : List Value) : Obj → Obj
 | .cells _ t frozen => .cells cs.toArray t frozen
 | o => o
theorem gNames : Tryz.prog.globalNamed "cadastre/value.names" = some 0 := by kernel_rfl
theorem gNamesType : (Tryz.prog.globals[0]?).map (·.type) = some 79 := by kernel_rfl
theorem cellsNames : Tryz.prog.cellsOf 79 = 6 := by kernel_rfl
theorem cellsStr : Tryz.prog.cellsOf 9 = 1 := by kernel_rfl
theorem names_of {W : World} {rest : List (String × DataW Unit)} (h : laidMet Tryz.prog (("cadastre/value.names", Rows.laid_cadastre_value_names) :: rest) W) : Nm W := by
 obtain ⟨ps, ⟨g', t', cs, fuel, p, q, hg', ht', hvar, hd, _, _⟩, _⟩ := h
 obtain rfl := Option.some.inj (gNames.symm.trans hg')
 obtain rfl := Option.some.inj (gNamesType.symm.trans ht')
 have hcell := World.var?_cell gNames hvar
 have hsz : 0 < W.heap.size := by
   have h0 := hvar
   simp only [World.var?, gNames, Option.bind_some] at h0
   cases hb : W.heap[0]? with
   | none => rw [hb] at h0; cases h0
   | some o => exact (Array.getElem?_eq_some_iff.1 hb).1
 cases fuel with
 | zero => simp [DataW.trod] at hd
 | succ fuel =>
   simp only [DataW.trod, Tryz.underlying79, cellsStr, cellsNames, Nat.mul_one] at hd
   split at hd
   · obtain ⟨xs, hm, hx⟩ := Option.map_eq_some_iff.1 hd
     have hxs : xs.map (·.1) = ([.lit (.string []), .lit (.string [35, 82, 69, 70, 33]), .lit (.string [35, 86, 65, 76, 85, 69, 33]), .lit (.string [35, 68, 73, 86, 47, 48, 33]), .lit (.string [35, 78, 85, 77, 33]), .lit (.string [35, 67, 89, 67, 76, 69, 33])] : List (DataW Unit)) := by
       have := congrArg Prod.fst hx
       simpa [Rows.laid_cadastre_value_names] using this
     have key : ∀ (i : Nat) (l : List UInt8), i < 6 → (xs.map (·.1))[i]? = some (DataW.lit (.string l)) → W.cell? ⟨0, i, none⟩ = some (.string ⟨l.toArray⟩) := by
       intro i l hi hl
       obtain ⟨b, hb, hf⟩ := Lib.mapM_at hm i i (by simp [hi])
       obtain ⟨s, hc, rfl, _⟩ := DataW.trod_string Tryz.underlying9 hf
       have h1 : cs.toList[i]? = some (.string s) := by
         have := congrArg (·[0]?) hc
         simpa [List.getElem?_take, List.getElem?_drop] using this
       have h2 : (xs.map (·.1))[i]? = some (DataW.lit (.string s.data.toList) : DataW Unit) := by simp [hb]
       rw [hl] at h2
       simp only [Option.some.injEq, DataW.lit.injEq, Lit.string.injEq] at h2
       rw [hcell i, h2]
       simpa using h1
     rw [hxs] at key
     exact ⟨hsz, key 0 _ (by decide) rfl, key 1 _ (by decide) rfl, key 2 _ (by decide) rfl, key 3 _ (by decide) rfl, key 4 _ (by decide) rfl, key 5 _ (by decide) rfl⟩
   · cases hd

open Go.ChangeShapes Go.WideShapes Go.ChangeAt Go.RowKit

def laidListU : List (String × DataW Unit) := Rows.funcsWholeRow.laid
def layAllU (h : Array Obj) : Array Obj := [(5, flat 4 Rows.laid_math_bits_deBruijn32tab), (6, flat 4 Rows.laid_math_bits_deBruijn64tab), (4, flat 4 Rows.laid_internal_strconv_uint64pow10), (8, flat 4 Rows.laid_unicode_utf8_acceptRanges), (0, flat 4 Rows.laid_cadastre_value_names), (7, flat 4 Rows.laid_unicode_utf8_first)].foldl (fun h x => h.modify x.1 (layIn x.2)) h
noncomputable def laidWorldU (os : Os) : World :=
 { World.holding Tryz.prog os ⟨#[], #[], []⟩ with heap := layAllU (World.holding Tryz.prog os ⟨#[], #[], []⟩).heap }
theorem nm_ofU {W : World} (h : laidMetH Tryz.prog laidListU W) : Nm W := by
 rw [MakeChecks.laidMetH_plain _ _ _ (by kernel_rfl)] at h
 exact names_of (laidMet.tail (laidMet.tail (laidMet.tail (laidMet.tail (show laidMet Tryz.prog (_ :: _ :: _ :: _ :: _ :: _) W from h)))))
theorem gPow : Tryz.prog.globalNamed "internal/strconv.uint64pow10" = some 4 := by kernel_rfl
theorem gPowType : (Tryz.prog.globals[4]?).map (·.type) = some 163 := by kernel_rfl
theorem cellsPow : Tryz.prog.cellsOf 163 = 20 := by kernel_rfl
theorem cellsU64 : Tryz.prog.cellsOf 60 = 1 := by kernel_rfl
theorem tab_ofU {W : World} (h : laidMetH Tryz.prog laidListU W) : Tab W := by
 rw [MakeChecks.laidMetH_plain _ _ _ (by kernel_rfl)] at h
 exact Lib.tabIs_of_head gPow gPowType Tryz.underlying163 Tryz.underlying60 cellsU64 cellsPow (laidMet.tail (laidMet.tail (show laidMet Tryz.prog (_ :: _ :: _ :: _) W from h)))
end Go.Proofs.YtalejeknigbhjaaGreatDoor
