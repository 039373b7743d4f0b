/-
 Arguments: what is read as a list of values, or of arguments, is one.
 The laws of layer 13: arguments made: area, own.
 An area as a row of its own, and two areas behind each other.
 From a list that lays the errors' names to their cells. No condition.
-/
import Derived.Test.YtiahgalhemljnaaGreatDoorU9
import Derived.Lib.SmallJoins
import Derived.Deep.Slices
import Derived.Test.YtiahgalhemljnaaGreatDoorU14
import Derived.Test.YtiahgalhemljnaaGreatDoorU15
import Derived.Test.YtiahgalhemljnaaGreatDoorU8
import Derived.Test.YtiahgalhemljnaaGreatDoorRows
import Derived.ProofKit
import Derived.OpenShut
import Derived.Deep.DeepHandedRow
import Derived.Stop.LaidErr
import Derived.Lib.LaidTab
import Derived.MakeChecks
namespace Go.Proofs.YtiahgalhemljnaaGreatDoor
open Go.ChangeShapes Go.WideShapes Go.RowKit
open Go.Joins (trod_struct4)
open Go.Deep (choose_lt)
set_option maxHeartbeats 2000000

theorem qc_value : Tryz.prog.cellsOf 26 = 4 := by kernel_rfl
theorem qc_int : Tryz.prog.cellsOf 3 = 1 := by kernel_rfl
theorem qc_int64 : Tryz.prog.cellsOf 2 = 1 := by kernel_rfl
theorem qc_string : Tryz.prog.cellsOf 9 = 1 := by kernel_rfl
section
variable {H : Type} {enc : TypeId × Value → H} {w : World} {base : Nat} {sp : Nat → Bool} {hd : Bool}
instance : Inhabited Rw := ⟨⟨0, 0, ⟨#[]⟩, 0⟩⟩
instance : Inhabited Ag := ⟨⟨false, []⟩⟩
theorem open_val {fuel : Nat} {cs : List Value} {x : DataW H × List MemPlace} (hl : cs.length = 4) (h : DataW.trod enc Tryz.prog w base sp hd fuel 26 cs = some x) :
   ∃ r : Rw, cs = [.int .i64 r.k, .int .i64 r.n, .string r.s, .int .i64 r.e] ∧ I64 r.n := by
 match cs, hl with
 | [c0, c1, c2, c3], _ =>
   obtain ⟨y0, y1, y2, y3, n, _, _, h0, h1, h2, h3⟩ := trod_struct4 Tryz.underlying26 h
   simp [qc_int, qc_int64, qc_string] at h0 h1 h2 h3
   obtain ⟨a0, e0, _, w0⟩ := DataW.trod_int Tryz.underlying3 h0
   obtain ⟨a1, e1, _, w1⟩ := DataW.trod_int Tryz.underlying2 h1
   obtain ⟨a2, e2, _, w2⟩ := DataW.trod_string Tryz.underlying9 h2
   obtain ⟨a3, e3, _, w3⟩ := DataW.trod_int Tryz.underlying3 h3
   simp only [List.cons.injEq, and_true] at e0 e1 e2 e3
   exact ⟨⟨a0, a1, a2, a3⟩, by rw [e0, e1, e2, e3], i64_of_wf w1⟩
theorem open_vals {fuel : Nat} {c : Value} {x : DataW H × List MemPlace} (h : DataW.trod enc Tryz.prog w base sp hd fuel 30 [c] = some x) :
   ∃ l, RdV w.heap.size w c l ∧ (∀ r ∈ l, I64 r.n) ∧ l.length ≤ maxLen := by
 rcases DataW.trod_slice Tryz.underlying30 h with ⟨e6, _⟩ | ⟨a, len, cap, elems, rest, n', hn', e6, _, hb, hl, hm, hel, hx, _, _⟩
 · simp only [List.cons.injEq, and_true] at e6
   subst e6
   exact ⟨[], ⟨none, 0, rfl, Nat.le_refl _, .inl rfl⟩, (fun r hr => by cases hr), by simp⟩
 · simp only [List.cons.injEq, and_true] at e6
   subst e6
   rw [qc_value] at hx
   have each : ∀ i, i < len → ∃ r : Rw, (w.cell? (a.add (i * 4)) = some (.int .i64 r.k) ∧ w.cell? ((a.add (i * 4)).add 1) = some (.int .i64 r.n) ∧ w.cell? ((a.add (i * 4)).add 2) = some (.string r.s) ∧ w.cell? ((a.add (i * 4)).add 3) = some (.int .i64 r.e)) ∧ I64 r.n := by
     intro i hi
     have h0 := hx i hi
     rw [List.getElem?_eq_getElem (show i < elems.length by omega)] at h0
     obtain ⟨cs', h1, h2⟩ := Option.bind_eq_some_iff.1 h0
     obtain ⟨_, k1, k2⟩ := World.cells?_some h1
     obtain ⟨r, rfl, hr⟩ := open_val (by simpa using k1) h2
     refine ⟨r, ⟨?_, ?_, ?_, ?_⟩, hr⟩
     · exact k2 0 (by simp at k1 ⊢)
     · exact k2 1 (by simp at k1 ⊢)
     · exact k2 2 (by simp at k1 ⊢)
     · exact k2 3 (by simp at k1 ⊢)
   obtain ⟨f, hf⟩ := choose_lt each
   by_cases h0 : len = 0
   · subst h0
     exact ⟨[], ⟨_, _, rfl, by omega, .inl rfl⟩, (fun r hr => by cases hr), by simp⟩
   obtain ⟨b, off, spot⟩ := a
   have hz := (hf 0 (by omega)).1.1
   have hspot : spot = none := by simpa [Addr.add] using World.cell?_spot hz
   subst hspot
   have hblt : b < w.heap.size := World.block_lt_of_cell? _ _ hz
   have hgl : ((List.range len).map f).length = len := by simp
   refine ⟨(List.range len).map f, ⟨_, cap, by rw [hgl], by omega, .inr ⟨b, off, rfl, hblt, hblt, fun i r hi => ?_⟩⟩, ?_, by simp; omega⟩
   · have hi' : i < len := by
       have := (List.getElem?_eq_some_iff.1 hi).1
       simpa using this
     rw [List.getElem?_map, List.getElem?_range hi'] at hi
     simp at hi
     subst hi
     have := (hf i hi').1
     simp only [Addr.add_lit] at this
     exact this
   · intro r hr
     obtain ⟨i, hi, rfl⟩ := List.mem_map.1 hr
     exact (hf i (List.mem_range.1 hi)).2
end

open Go.RowKit
set_option maxHeartbeats 1000000

theorem fm_len {α : Type} (c : α → List Value) (k : Nat) (hc : ∀ x, (c x).length = k) (l : List α) : (l.flatMap c).length = l.length * k := by
 induction l with
 | nil => simp
 | cons x l ih => rw [List.flatMap_cons, List.length_append, hc, ih, List.length_cons, Nat.succ_mul]; omega
theorem fm_at {α : Type} (c : α → List Value) (k : Nat) (hc : ∀ x, (c x).length = k) : ∀ (l : List α) (i : Nat) (x : α) (j : Nat), l[i]? = some x → j < k → (l.flatMap c)[i * k + j]? = (c x)[j]?
 | [], i, x, j, h, _ => by simp at h
 | y :: l, 0, x, j, h, hj => by
   simp at h; subst h
   rw [List.flatMap_cons, Nat.zero_mul, Nat.zero_add, List.getElem?_append_left (by rw [hc]; exact hj)]
 | y :: l, i + 1, x, j, h, hj => by
   have ih := fm_at c k hc l i x j (by simpa using h) hj
   rw [List.flatMap_cons, List.getElem?_append_right (by rw [hc, Nat.succ_mul]; omega), hc, ← ih]
   congr 1
   rw [Nat.succ_mul]; omega
theorem fm_get {α : Type} (c : α → List Value) (k : Nat) (hc : ∀ x, (c x).length = k) (hk : 0 < k) (l : List α) (j : Nat) (u : Value) (h : (l.flatMap c)[j]? = some u) : ∃ x, l[j / k]? = some x ∧ (c x)[j % k]? = some u := by
 have hj : j < l.length * k := by rw [← fm_len c k hc]; exact (List.getElem?_eq_some_iff.1 h).1
 have hi : j / k < l.length := by rw [Nat.div_lt_iff_lt_mul hk]; exact hj
 refine ⟨l[j / k], List.getElem?_eq_getElem hi, ?_⟩
 rw [← fm_at c k hc l (j / k) _ (j % k) (List.getElem?_eq_getElem hi) (Nat.mod_lt _ hk), Nat.mul_comm, Nat.div_add_mod]
 exact h
/-- The cells of a value, of an argument. -/
def cV (r : Rw) : List Value := [.int .i64 r.k, .int .i64 r.n, .string r.s, .int .i64 r.e]
def cA (q : Ag × Int × Int × Value) : List Value := [.bool q.1.area, .int .i64 q.2.1, .int .i64 q.2.2.1, q.2.2.2]
theorem cV_len (r : Rw) : (cV r).length = 4 := rfl
theorem cA_len (q : Ag × Int × Int × Value) : (cA q).length = 4 := rfl
theorem eltV : Elt 30 26 4 40 := by
 refine ⟨Tryz.underlying30, ?_, by decide⟩
 have h1 : (Tryz.prog.info? 26).isSome = true := by kernel_rfl
 have h2 : (Tryz.prog.info? 26).bind (fun i => i.zero) = some (.agg #[.int .i64 0, .int .i64 0, .string ⟨#[]⟩, .int .i64 0]) := by kernel_rfl
 have h3 : (Tryz.prog.info? 26).map (fun i => (i.size, i.bytes)) = some (4, 40) := by kernel_rfl
 cases h : Tryz.prog.info? 26 with
 | none => rw [h] at h1; cases h1
 | some i =>
   rw [h] at h2 h3
   simp at h2 h3
   exact ⟨i, _, rfl, h2, h3.1, h3.2, rfl⟩
theorem eltA : Elt 22 34 4 48 := by
 refine ⟨Tryz.underlying22, ?_, by decide⟩
 have h1 : (Tryz.prog.info? 34).isSome = true := by kernel_rfl
 have h2 : (Tryz.prog.info? 34).bind (fun i => i.zero) = some (.agg #[.bool false, .int .i64 0, .int .i64 0, .slice none 0 0]) := by kernel_rfl
 have h3 : (Tryz.prog.info? 34).map (fun i => (i.size, i.bytes)) = some (4, 48) := by kernel_rfl
 cases h : Tryz.prog.info? 34 with
 | none => rw [h] at h1; cases h1
 | some i =>
   rw [h] at h2 h3
   simp at h2 h3
   exact ⟨i, _, rfl, h2, h3.1, h3.2, rfl⟩
theorem RdV.row {B : Nat} {W : World} {v : Value} {l : List Rw} (h : RdV B W v l) : RowC W v l.length 4 (l.flatMap cV) := by
 obtain ⟨p, c, h1, h2, h3⟩ := h
 refine ⟨fm_len cV 4 cV_len l, p, c, h1, ?_⟩
 rcases h3 with rfl | ⟨b, off, rfl, _, _, h6⟩
 · cases p with
   | none => exact .inl ⟨rfl, rfl⟩
   | some ad => exact .inr ⟨ad, rfl, fun j u hu => by simp at hu⟩
 · refine .inr ⟨_, rfl, fun j u hu => ?_⟩
   obtain ⟨r, hr, hu⟩ := fm_get cV 4 cV_len (by decide) l j u hu
   obtain ⟨k0, k1, k2, k3⟩ := h6 _ r hr
   rw [Addr.add_lit]
   have hj := Nat.div_add_mod j 4
   have hm := Nat.mod_lt j (show 0 < 4 by decide)
   match hmm : j % 4, hu with
   | 0, hu => simp [cV] at hu; subst hu; rw [show off + j = off + j / 4 * 4 by omega]; exact k0
   | 1, hu => simp [cV] at hu; subst hu; rw [show off + j = off + j / 4 * 4 + 1 by omega]; exact k1
   | 2, hu => simp [cV] at hu; subst hu; rw [show off + j = off + j / 4 * 4 + 2 by omega]; exact k2
   | 3, hu => simp [cV] at hu; subst hu; rw [show off + j = off + j / 4 * 4 + 3 by omega]; exact k3
   | q + 4, _ => omega
theorem cV_one (l : List Rw) : ∀ u ∈ l.flatMap cV, u.oneCell' = true := by
 intro u hu
 obtain ⟨r, _, hu⟩ := List.mem_flatMap.1 hu
 simp [cV] at hu
 rcases hu with rfl | rfl | rfl | rfl <;> rfl
theorem own_rdV {W : World} {base : Nat} {v : Value} {l : List Rw} (h : W.ownsRow base 26 4 v l.length (l.flatMap cV)) : RdV W.heap.size W v l := by
 rcases h.2 with ⟨rfl, h0⟩ | ⟨g, cap, cur, rfl, h2, h3, h4, h5⟩
 · have : l = [] := List.eq_nil_of_length_eq_zero h0
   subst this
   exact ⟨none, 0, rfl, Nat.le_refl _, .inl rfl⟩
 · have hg : g < W.heap.size := (Array.getElem?_eq_some_iff.1 h3).1
   refine ⟨_, cap, rfl, h4, .inr ⟨g, 0, rfl, hg, hg, fun i r hr => ?_⟩⟩
   have k := fun j (hj : j < 4) u (hu : (cV r)[j]? = some u) => h.cells (g := g) rfl (i * 4 + j) u (by rw [fm_at cV 4 cV_len l i r j hr hj]; exact hu)
   simp only [Addr.add_lit] at k
   exact ⟨k 0 (by decide) _ rfl, k 1 (by decide) _ rfl, k 2 (by decide) _ rfl, k 3 (by decide) _ rfl⟩
theorem own_rdA {W : World} {base : Nat} {v : Value} {l : List (Ag × Int × Int × Value)} (h : W.ownsRow base 34 4 v l.length (l.flatMap cA)) (hv : ∀ q ∈ l, RdV W.heap.size W q.2.2.2 q.1.l) : RdA W.heap.size W v (l.map Prod.fst) := by
 have hl : (l.map Prod.fst).length = l.length := by simp
 rcases h.2 with ⟨rfl, h0⟩ | ⟨g, cap, cur, rfl, h2, h3, h4, h5⟩
 · have : l = [] := List.eq_nil_of_length_eq_zero h0
   subst this
   exact ⟨none, 0, rfl, Nat.le_refl _, .inl rfl⟩
 · have hg : g < W.heap.size := (Array.getElem?_eq_some_iff.1 h3).1
   refine ⟨_, cap, by rw [hl], by rw [hl]; exact h4, .inr ⟨g, 0, rfl, hg, hg, fun i r hr => ?_⟩⟩
   rw [List.getElem?_map] at hr
   obtain ⟨q, hq, rfl⟩ := Option.map_eq_some_iff.1 hr
   have k := fun j (hj : j < 4) u (hu : (cA q)[j]? = some u) => h.cells (g := g) rfl (i * 4 + j) u (by rw [fm_at cA 4 cA_len l i q j hq hj]; exact hu)
   simp only [Addr.add_lit] at k
   exact ⟨q.2.1, q.2.2.1, q.2.2.2, k 0 (by decide) _ rfl, k 1 (by decide) _ rfl, k 2 (by decide) _ rfl, k 3 (by decide) _ rfl, hv q (List.mem_of_getElem? hq)⟩
set_option maxRecDepth 100000 in
theorem area_any (l : List Rw) (p : Option Addr) (n c : Nat) (W : World) (h : RdV W.heap.size W (.slice p n c) l) (hl : l.length ≤ 10000) :
   Calls Tryz.prog 12 #[.slice p n c] W fun e w' => ∃ p' c', e = .returned (.slice p' 1 c') ∧ RdA w'.heap.size w' (.slice p' 1 c') [⟨true, l⟩] ∧ Ext W w' := by
 have HR : Hid (RdV W.heap.size W (.slice p n c) l) := h
 have HL : Hid (l.length ≤ 10000) := hl
 have hn := h.len
 clear h hl
 go_enter Tryz.func12, Tryz.ntmps12
 go_wp2_with (at_builtin; refine own_app eltV _ W _ _ _ _ 0 l.length [] (l.flatMap cV) W.heap.size rfl rfl (by rfl) (by rfl) (own_new W W (Nat.le_refl _)) (HR.out.low ((Ext.refl _).alloc _)).row (cV_one l) (by unfold maxLen; have := HL.out; omega) (by have := HL.out; omega) ((Ext.refl _).alloc _) (Nat.le_refl _) (by simp) ?_; intro v' W' k1 k2 _; rw [Nat.zero_add, List.nil_append] at k1; obtain ⟨p2, c2, rfl, hc2⟩ := own_form k1; have K1 : Hid (RdV W'.heap.size W' (.slice p2 l.length c2) l) := own_rdV k1; have K2 : Hid (Ext W W') := k2; clear k1 k2 hc2)
 go_ret
 refine ⟨_, _, rfl, ⟨_, _, rfl, Nat.le_refl _, .inr ⟨W'.heap.size, 0, rfl, by simp, by simp, fun i a ha => ?_⟩⟩, K2.out.alloc _⟩
 match i, ha with
 | 0, ha =>
   simp at ha
   subst ha
   refine ⟨(l.length : Int), 1, .slice p2 l.length c2, ?_, ?_, ?_, ?_, K1.out.to (Nat.le_refl _) ((Ext.refl _).alloc _)⟩
   all_goals simp [go_sem]
 | i + 1, ha => simp at ha

open Go.RowKit
set_option maxHeartbeats 4000000

set_option maxRecDepth 100000 in
theorem area_own (l : List Rw) (p : Option Addr) (n c : Nat) (W : World) (h : RdV W.heap.size W (.slice p n c) l) (hl : l.length ≤ 10000) :
   Calls Tryz.prog 12 #[.slice p n c] W fun e w' => ∃ g p2 c2, e = .returned (.slice (some ⟨g, 0, none⟩) 1 1) ∧ w'.ownsRow W.heap.size 34 4 (.slice (some ⟨g, 0, none⟩) 1 1) 1 (cA (⟨true, l⟩, (l.length : Int), 1, .slice p2 l.length c2)) ∧ w'.ownsRow W.heap.size 26 4 (.slice p2 l.length c2) l.length (l.flatMap cV) ∧ (Value.slice p2 l.length c2).ownBlock ≠ some g ∧ Ext W w' := by
 have HR : Hid (RdV W.heap.size W (.slice p n c) l) := h
 have HL : Hid (l.length ≤ 10000) := hl
 have hn := h.len
 clear h hl
 go_enter Tryz.func12, Tryz.ntmps12
 go_wp2_with (at_builtin; refine own_app eltV _ W _ _ _ _ 0 l.length [] (l.flatMap cV) W.heap.size rfl rfl (by rfl) (by rfl) (own_new W W (Nat.le_refl _)) (HR.out.low ((Ext.refl _).alloc _)).row (cV_one l) (by unfold maxLen; have := HL.out; omega) (by have := HL.out; omega) ((Ext.refl _).alloc _) (Nat.le_refl _) (by simp) ?_; intro v' W' k1 k2 _; rw [Nat.zero_add, List.nil_append] at k1; obtain ⟨p2, c2, rfl, hc2⟩ := own_form k1; have K1 : Hid (W'.ownsRow W.heap.size 26 4 (.slice p2 l.length c2) l.length (l.flatMap cV)) := k1; have K2 : Hid (Ext W W') := k2; clear k1 k2 hc2)
 go_ret
 refine ⟨_, p2, c2, rfl, ⟨by simp [cA], .inr ⟨W'.heap.size, 1, #[.bool true, .int .i64 l.length, .int .i64 1, .slice p2 l.length c2], rfl, K2.out.size, ?_, Nat.le_refl _, by unfold maxLen; omega, rfl, rfl⟩⟩, ownsRow_ext K1.out ((Ext.refl _).alloc _), fun h => absurd (K1.out.lt _ h).2 (by simp), K2.out.alloc _⟩
 show (W'.heap.push _)[W'.heap.size]? = _
 rw [Array.getElem?_push_size]
theorem own_grown {X X' : World} {base n k : Nat} {T : TypeId} {ov : Value} {o : Option Nat} {xs : List Value} (hX : X.ownsRow base T k ov n xs) (hg : X.grownBy X' o) (c : ov.ownBlock ≠ o) : X'.ownsRow base T k ov n xs := by
 refine ⟨hX.1, ?_⟩
 rcases hX.2 with hX | ⟨gg, cap, cur, h1, h2, h3, h4⟩
 · exact .inl hX
 · refine .inr ⟨gg, cap, cur, h1, h2, ?_, h4⟩
   exact (hg.block gg (Array.getElem?_eq_some_iff.1 h3).1 (fun e => c (by rw [h1]; exact e))).trans h3
theorem own_row {T : TypeId} {k n : Nat} {W : World} {base : Nat} {v : Value} {xs : List Value} (h : W.ownsRow base T k v n xs) : RowC W v n k xs := by
 refine ⟨h.1, ?_⟩
 rcases h.2 with ⟨rfl, h0⟩ | ⟨g, cap, cur, rfl, _⟩
 · exact ⟨none, 0, by rw [h0], .inl ⟨rfl, h0⟩⟩
 · exact ⟨_, cap, rfl, .inr ⟨_, rfl, fun j u hu => h.cells (g := g) rfl j u hu⟩⟩
theorem cA_one (q : Ag × Int × Int × Value) (h : q.2.2.2.oneCell' = true) : ∀ u ∈ cA q, u.oneCell' = true := by
 intro u hu
 simp [cA] at hu
 rcases hu with rfl | rfl | rfl | rfl
 · rfl
 · rfl
 · rfl
 · exact h

open Go.ChangeShapes Go.WideShapes Go.ChangeAt Go.RowKit

theorem ownK : ownKnob Tryz.prog.godebug = none := by kernel_rfl
/-- A datum's cells. -/
def flat : Nat → DataW Unit → List Value
 | _ + 1, .lit (.int k z) => [.int k z]
 | _ + 1, .lit (.string l) => [.string ⟨l.toArray⟩]
 | n + 1, .agg ds => ds.flatMap (flat n)
 | _, _ => []
def layIn (cs : List Value) : Obj → Obj
 | .cells _ t frozen => .cells cs.toArray t frozen
 | o => o
theorem gNames : Tryz.prog.globalNamed "cadastre/value.names" = some 0 := by kernel_rfl
theorem gNamesType : (Tryz.prog.globals[0]?).map (·.type) = some 100 := by kernel_rfl
theorem cellsNames : Tryz.prog.cellsOf 100 = 6 := by kernel_rfl
theorem cellsStr : Tryz.prog.cellsOf 9 = 1 := by kernel_rfl
theorem names_of {W : World} {rest : List (String × DataW Unit)} (h : laidMet Tryz.prog (("cadastre/value.names", Rows.laid_cadastre_value_names) :: rest) W) : Nm W := by
 obtain ⟨ps, ⟨g', t', cs, fuel, p, q, hg', ht', hvar, hd, _, _⟩, _⟩ := h
 obtain rfl := Option.some.inj (gNames.symm.trans hg')
 obtain rfl := Option.some.inj (gNamesType.symm.trans ht')
 have hcell := World.var?_cell gNames hvar
 have hsz : 0 < W.heap.size := by
   have h0 := hvar
   simp only [World.var?, gNames, Option.bind_some] at h0
   cases hb : W.heap[0]? with
   | none => rw [hb] at h0; cases h0
   | some o => exact (Array.getElem?_eq_some_iff.1 hb).1
 cases fuel with
 | zero => simp [DataW.trod] at hd
 | succ fuel =>
   simp only [DataW.trod, Tryz.underlying100, cellsStr, cellsNames, Nat.mul_one] at hd
   split at hd
   · obtain ⟨xs, hm, hx⟩ := Option.map_eq_some_iff.1 hd
     have hxs : xs.map (·.1) = ([.lit (.string []), .lit (.string [35, 82, 69, 70, 33]), .lit (.string [35, 86, 65, 76, 85, 69, 33]), .lit (.string [35, 68, 73, 86, 47, 48, 33]), .lit (.string [35, 78, 85, 77, 33]), .lit (.string [35, 67, 89, 67, 76, 69, 33])] : List (DataW Unit)) := by
       have := congrArg Prod.fst hx
       simpa [Rows.laid_cadastre_value_names] using this
     have key : ∀ (i : Nat) (l : List UInt8), i < 6 → (xs.map (·.1))[i]? = some (DataW.lit (.string l)) → W.cell? ⟨0, i, none⟩ = some (.string ⟨l.toArray⟩) := by
       intro i l hi hl
       obtain ⟨b, hb, hf⟩ := Lib.mapM_at hm i i (by simp [hi])
       obtain ⟨s, hc, rfl, _⟩ := DataW.trod_string Tryz.underlying9 hf
       have h1 : cs.toList[i]? = some (.string s) := by
         have := congrArg (·[0]?) hc
         simpa [List.getElem?_take, List.getElem?_drop] using this
       have h2 : (xs.map (·.1))[i]? = some (DataW.lit (.string s.data.toList) : DataW Unit) := by simp [hb]
       rw [hl] at h2
       simp only [Option.some.injEq, DataW.lit.injEq, Lit.string.injEq] at h2
       rw [hcell i, h2]
       simpa using h1
     rw [hxs] at key
     exact ⟨hsz, key 0 _ (by decide) rfl, key 1 _ (by decide) rfl, key 2 _ (by decide) rfl, key 3 _ (by decide) rfl, key 4 _ (by decide) rfl, key 5 _ (by decide) rfl⟩
   · cases hd
end Go.Proofs.YtiahgalhemljnaaGreatDoor
