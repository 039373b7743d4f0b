/-
 Lists in memory of the call's own, of whatever elements: append.
 Arguments: what is read as a list of values, or of arguments, is one.
 The laws of layer 13: arguments made: area, own.
 The laws of layer 14: of, arguments made; lives.
-/
import Derived.Test.YtalejeknigbhjaaGreatDoorProg
import Derived.Test.YtalejeknigbhjaaGreatDoorX1
import Derived.Deep.AppendLies
import Derived.Laws.OwnMore
import Derived.WalkLawsBesides
import Derived.Lib.AppendZeros
import Derived.Test.YtalejeknigbhjaaGreatDoorX11
import Derived.Lib.SmallJoins
import Derived.Deep.Slices
import Derived.Test.YtalejeknigbhjaaGreatDoorX16
import Derived.Test.YtalejeknigbhjaaGreatDoorX19
namespace Go.Proofs.YtalejeknigbhjaaGreatDoor
open Go.RowKit
set_option maxHeartbeats 1000000

/-- What the program says of an element's type. -/
structure Elt (TS T : TypeId) (k bytes : Nat) : Prop where
 u : Tryz.prog.underlying TS = some (.slice T)
 i : ∃ i z, Tryz.prog.info? T = some i ∧ i.zero = some z ∧ i.size = k ∧ i.bytes = bytes ∧ z.cells.size = k
 k0 : 0 < k
theorem ownsRow_ext {w w' : World} {base : Nat} {T : TypeId} {k n : Nat} {v : Value} {xs : List Value} (h : w.ownsRow base T k v n xs) (e : Ext w w') : w'.ownsRow base T k v n xs := by
 refine ⟨h.1, ?_⟩
 rcases h.2 with h | ⟨g, cap, cur, h1, h2, h3, h4⟩
 · exact .inl h
 · exact .inr ⟨g, cap, cur, h1, h2, (e.block g (Array.getElem?_eq_some_iff.1 h3).1).trans h3, h4⟩
theorem ext_grownG {w W W' : World} {base : Nat} {T : TypeId} {k n : Nat} {v : Value} {xs : List Value} (hB : W.ownsRow base T k v n xs) (hb : w.heap.size ≤ base) (hE : Ext w W) (hg : W.grownBy W' v.ownBlock) : Ext w W' := by
 refine ⟨hg.os.trans hE.os, hg.tape.trans hE.tape, hg.output.trans hE.output, Nat.le_trans hE.size hg.size, fun q hq => ?_⟩
 refine (hg.block q (Nat.lt_of_lt_of_le hq hE.size) ?_).trans (hE.block q hq)
 intro e
 have := (hB.lt q e.symm).1
 omega
/-- A slice that is read: these cells lie in a row. -/
def RowC (W : World) (v : Value) (m : Nat) (k : Nat) (news : List Value) : Prop := news.length = m * k ∧ ∃ p c, v = .slice p m c ∧ ((p = none ∧ m = 0) ∨ ∃ ad, p = some ad ∧ ∀ j u, news[j]? = some u → W.cell? (ad.add j) = some u)
theorem run_append_noneG {TS T : TypeId} {k bytes : Nat} (hT : Elt TS T k bytes) (w : World) (ty : TypeId) (p : Option Addr) (n cap c : Nat) (h : n ≤ cap) :
   (Builtin.append_ #[TS, TS] ty #[.slice p n cap, .slice none 0 c]).run Tryz.prog w = .ok (.slice p n cap) w := by
 obtain ⟨i, z, hi, hz, h1, h2, h3⟩ := hT.i
 cases p with
 | none => simp [Builtin.append_, run_underlying hT.u, sizeOf, typeInfo, hi, Builtin.lenOf, Builtin.firstCells, h]
 | some a => simp [Builtin.append_, run_underlying hT.u, sizeOf, typeInfo, hi, Builtin.lenOf, Builtin.firstCells, loadCells, h, storeCells]
theorem own_form {W : World} {base : Nat} {T : TypeId} {k n : Nat} {v : Value} {xs : List Value} (h : W.ownsRow base T k v n xs) : ∃ p c, v = .slice p n c ∧ n ≤ c := by
 rcases h.2 with ⟨h, h0⟩ | ⟨g, cap, cur, h, _, _, h4, _⟩
 · exact ⟨none, 0, by rw [h, h0], by omega⟩
 · exact ⟨_, _, h, h4⟩
/-- A literal without elements. -/
theorem own_new {T : TypeId} {k : Nat} (w W : World) (h : w.heap.size ≤ W.heap.size) : (W.alloc (.cells #[] T)).ownsRow w.heap.size T k (.slice (some ⟨W.heap.size, 0, none⟩) 0 0) 0 [] :=
 ⟨by simp, .inr ⟨W.heap.size, 0, #[], rfl, h, by show (W.heap.push _)[W.heap.size]? = _; rw [Array.getElem?_push_size], Nat.le_refl _, by simp, by simp, by simp⟩⟩

open Go.ChangeShapes Go.WideShapes Go.RowKit
open Go.Joins (trod_struct4)
open Go.Deep (choose_lt)
set_option maxHeartbeats 2000000

theorem qc_value : Tryz.prog.cellsOf 25 = 4 := by kernel_rfl
theorem qc_int : Tryz.prog.cellsOf 3 = 1 := by kernel_rfl
theorem qc_int64 : Tryz.prog.cellsOf 2 = 1 := by kernel_rfl
theorem qc_string : Tryz.prog.cellsOf 9 = 1 := by kernel_rfl
section
variable {H : Type} {enc : TypeId × Value → H} {w : World} {base : Nat} {sp : Nat → Bool} {hd : Bool}
instance : Inhabited Rw := ⟨⟨0, 0, ⟨#[]⟩, 0⟩⟩
instance : Inhabited Ag := ⟨⟨false, []⟩⟩
theorem open_val {fuel : Nat} {cs : List Value} {x : DataW H × List MemPlace} (hl : cs.length = 4) (h : DataW.trod enc Tryz.prog w base sp hd fuel 25 cs = some x) :
   ∃ r : Rw, cs = [.int .i64 r.k, .int .i64 r.n, .string r.s, .int .i64 r.e] ∧ I64 r.n := by
 match cs, hl with
 | [c0, c1, c2, c3], _ =>
   obtain ⟨y0, y1, y2, y3, n, _, _, h0, h1, h2, h3⟩ := trod_struct4 Tryz.underlying25 h
   simp [qc_int, qc_int64, qc_string] at h0 h1 h2 h3
   obtain ⟨a0, e0, _, w0⟩ := DataW.trod_int Tryz.underlying3 h0
   obtain ⟨a1, e1, _, w1⟩ := DataW.trod_int Tryz.underlying2 h1
   obtain ⟨a2, e2, _, w2⟩ := DataW.trod_string Tryz.underlying9 h2
   obtain ⟨a3, e3, _, w3⟩ := DataW.trod_int Tryz.underlying3 h3
   simp only [List.cons.injEq, and_true] at e0 e1 e2 e3
   exact ⟨⟨a0, a1, a2, a3⟩, by rw [e0, e1, e2, e3], i64_of_wf w1⟩
theorem open_vals {fuel : Nat} {c : Value} {x : DataW H × List MemPlace} (h : DataW.trod enc Tryz.prog w base sp hd fuel 29 [c] = some x) :
   ∃ l, RdV w.heap.size w c l ∧ (∀ r ∈ l, I64 r.n) ∧ l.length ≤ maxLen := by
 rcases DataW.trod_slice Tryz.underlying29 h with ⟨e6, _⟩ | ⟨a, len, cap, elems, rest, n', hn', e6, _, hb, hl, hm, hel, hx, _, _⟩
 · simp only [List.cons.injEq, and_true] at e6
   subst e6
   exact ⟨[], ⟨none, 0, rfl, Nat.le_refl _, .inl rfl⟩, (fun r hr => by cases hr), by simp⟩
 · simp only [List.cons.injEq, and_true] at e6
   subst e6
   rw [qc_value] at hx
   have each : ∀ i, i < len → ∃ r : Rw, (w.cell? (a.add (i * 4)) = some (.int .i64 r.k) ∧ w.cell? ((a.add (i * 4)).add 1) = some (.int .i64 r.n) ∧ w.cell? ((a.add (i * 4)).add 2) = some (.string r.s) ∧ w.cell? ((a.add (i * 4)).add 3) = some (.int .i64 r.e)) ∧ I64 r.n := by
     intro i hi
     have h0 := hx i hi
     rw [List.getElem?_eq_getElem (show i < elems.length by omega)] at h0
     obtain ⟨cs', h1, h2⟩ := Option.bind_eq_some_iff.1 h0
     obtain ⟨_, k1, k2⟩ := World.cells?_some h1
     obtain ⟨r, rfl, hr⟩ := open_val (by simpa using k1) h2
     refine ⟨r, ⟨?_, ?_, ?_, ?_⟩, hr⟩
     · exact k2 0 (by simp at k1 ⊢)
     · exact k2 1 (by simp at k1 ⊢)
     · exact k2 2 (by simp at k1 ⊢)
     · exact k2 3 (by simp at k1 ⊢)
   obtain ⟨f, hf⟩ := choose_lt each
   by_cases h0 : len = 0
   · subst h0
     exact ⟨[], ⟨_, _, rfl, by omega, .inl rfl⟩, (fun r hr => by cases hr), by simp⟩
   obtain ⟨b, off, spot⟩ := a
   have hz := (hf 0 (by omega)).1.1
   have hspot : spot = none := by simpa [Addr.add] using World.cell?_spot hz
   subst hspot
   have hblt : b < w.heap.size := World.block_lt_of_cell? _ _ hz
   have hgl : ((List.range len).map f).length = len := by simp
   refine ⟨(List.range len).map f, ⟨_, cap, by rw [hgl], by omega, .inr ⟨b, off, rfl, hblt, hblt, fun i r hi => ?_⟩⟩, ?_, by simp; omega⟩
   · have hi' : i < len := by
       have := (List.getElem?_eq_some_iff.1 hi).1
       simpa using this
     rw [List.getElem?_map, List.getElem?_range hi'] at hi
     simp at hi
     subst hi
     have := (hf i hi').1
     simp only [Addr.add_lit] at this
     exact this
   · intro r hr
     obtain ⟨i, hi, rfl⟩ := List.mem_map.1 hr
     exact (hf i (List.mem_range.1 hi)).2
end

open Go.RowKit
set_option maxHeartbeats 1000000

theorem fm_len {α : Type} (c : α → List Value) (k : Nat) (hc : ∀ x, (c x).length = k) (l : List α) : (l.flatMap c).length = l.length * k := by
 induction l with
 | nil => simp
 | cons x l ih => rw [List.flatMap_cons, List.length_append, hc, ih, List.length_cons, Nat.succ_mul]; omega
theorem fm_at {α : Type} (c : α → List Value) (k : Nat) (hc : ∀ x, (c x).length = k) : ∀ (l : List α) (i : Nat) (x : α) (j : Nat), l[i]? = some x → j < k → (l.flatMap c)[i * k + j]? = (c x)[j]?
 | [], i, x, j, h, _ => by simp at h
 | y :: l, 0, x, j, h, hj => by
   simp at h; subst h
   rw [List.flatMap_cons, Nat.zero_mul, Nat.zero_add, List.getElem?_append_left (by rw [hc]; exact hj)]
 | y :: l, i + 1, x, j, h, hj => by
   have ih := fm_at c k hc l i x j (by simpa using h) hj
   rw [List.flatMap_cons, List.getElem?_append_right (by rw [hc, Nat.succ_mul]; omega), hc, ← ih]
   congr 1
   rw [Nat.succ_mul]; omega
theorem fm_get {α : Type} (c : α → List Value) (k : Nat) (hc : ∀ x, (c x).length = k) (hk : 0 < k) (l : List α) (j : Nat) (u : Value) (h : (l.flatMap c)[j]? = some u) : ∃ x, l[j / k]? = some x ∧ (c x)[j % k]? = some u := by
 have hj : j < l.length * k := by rw [← fm_len c k hc]; exact (List.getElem?_eq_some_iff.1 h).1
 have hi : j / k < l.length := by rw [Nat.div_lt_iff_lt_mul hk]; exact hj
 refine ⟨l[j / k], List.getElem?_eq_getElem hi, ?_⟩
 rw [← fm_at c k hc l (j / k) _ (j % k) (List.getElem?_eq_getElem hi) (Nat.mod_lt _ hk), Nat.mul_comm, Nat.div_add_mod]
 exact h
/-- The cells of a value, of an argument. -/
def cV (r : Rw) : List Value := [.int .i64 r.k, .int .i64 r.n, .string r.s, .int .i64 r.e]
def cA (q : Ag × Int × Int × Value) : List Value := [.bool q.1.area, .int .i64 q.2.1, .int .i64 q.2.2.1, q.2.2.2]
theorem cV_len (r : Rw) : (cV r).length = 4 := rfl
theorem eltV : Elt 29 25 4 40 := by
 refine ⟨Tryz.underlying29, ?_, by decide⟩
 have h1 : (Tryz.prog.info? 25).isSome = true := by kernel_rfl
 have h2 : (Tryz.prog.info? 25).bind (fun i => i.zero) = some (.agg #[.int .i64 0, .int .i64 0, .string ⟨#[]⟩, .int .i64 0]) := by kernel_rfl
 have h3 : (Tryz.prog.info? 25).map (fun i => (i.size, i.bytes)) = some (4, 40) := by kernel_rfl
 cases h : Tryz.prog.info? 25 with
 | none => rw [h] at h1; cases h1
 | some i =>
   rw [h] at h2 h3
   simp at h2 h3
   exact ⟨i, _, rfl, h2, h3.1, h3.2, rfl⟩
theorem RdV.row {B : Nat} {W : World} {v : Value} {l : List Rw} (h : RdV B W v l) : RowC W v l.length 4 (l.flatMap cV) := by
 obtain ⟨p, c, h1, h2, h3⟩ := h
 refine ⟨fm_len cV 4 cV_len l, p, c, h1, ?_⟩
 rcases h3 with rfl | ⟨b, off, rfl, _, _, h6⟩
 · cases p with
   | none => exact .inl ⟨rfl, rfl⟩
   | some ad => exact .inr ⟨ad, rfl, fun j u hu => by simp at hu⟩
 · refine .inr ⟨_, rfl, fun j u hu => ?_⟩
   obtain ⟨r, hr, hu⟩ := fm_get cV 4 cV_len (by decide) l j u hu
   obtain ⟨k0, k1, k2, k3⟩ := h6 _ r hr
   rw [Addr.add_lit]
   have hj := Nat.div_add_mod j 4
   have hm := Nat.mod_lt j (show 0 < 4 by decide)
   match hmm : j % 4, hu with
   | 0, hu => simp [cV] at hu; subst hu; rw [show off + j = off + j / 4 * 4 by omega]; exact k0
   | 1, hu => simp [cV] at hu; subst hu; rw [show off + j = off + j / 4 * 4 + 1 by omega]; exact k1
   | 2, hu => simp [cV] at hu; subst hu; rw [show off + j = off + j / 4 * 4 + 2 by omega]; exact k2
   | 3, hu => simp [cV] at hu; subst hu; rw [show off + j = off + j / 4 * 4 + 3 by omega]; exact k3
   | q + 4, _ => omega
theorem cV_one (l : List Rw) : ∀ u ∈ l.flatMap cV, u.oneCell' = true := by
 intro u hu
 obtain ⟨r, _, hu⟩ := List.mem_flatMap.1 hu
 simp [cV] at hu
 rcases hu with rfl | rfl | rfl | rfl <;> rfl
theorem own_rdV {W : World} {base : Nat} {v : Value} {l : List Rw} (h : W.ownsRow base 25 4 v l.length (l.flatMap cV)) : RdV W.heap.size W v l := by
 rcases h.2 with ⟨rfl, h0⟩ | ⟨g, cap, cur, rfl, h2, h3, h4, h5⟩
 · have : l = [] := List.eq_nil_of_length_eq_zero h0
   subst this
   exact ⟨none, 0, rfl, Nat.le_refl _, .inl rfl⟩
 · have hg : g < W.heap.size := (Array.getElem?_eq_some_iff.1 h3).1
   refine ⟨_, cap, rfl, h4, .inr ⟨g, 0, rfl, hg, hg, fun i r hr => ?_⟩⟩
   have k := fun j (hj : j < 4) u (hu : (cV r)[j]? = some u) => h.cells (g := g) rfl (i * 4 + j) u (by rw [fm_at cV 4 cV_len l i r j hr hj]; exact hu)
   simp only [Addr.add_lit] at k
   exact ⟨k 0 (by decide) _ rfl, k 1 (by decide) _ rfl, k 2 (by decide) _ rfl, k 3 (by decide) _ rfl⟩

open Go.RowKit
set_option maxHeartbeats 1000000

/-- A value as an argument. -/
def bgR (r : Rw) : Bg := ⟨⟨false, [r]⟩, 0, 0⟩
def cB (q : Bg × Value) : List Value := [.bool q.1.g.area, .int .i64 q.1.rows, .int .i64 q.1.cols, q.2]
theorem args_new {W w' : World} {b m : Nat} {cs : Array Value} {T : TypeId} (qs : List (Bg × Value)) (hb : b = W.heap.size) (hcs : cs.toList = qs.flatMap cB) (hm : qs.length = m) (E : Ext (W.alloc (.cells cs T)) w') (h : ∀ q ∈ qs, RdV W.heap.size W q.2 q.1.g.l) :
   RdB w'.heap.size w' (.slice (some ⟨b, 0, none⟩) m m) (qs.map Prod.fst) := by
 subst hb hm
 have hs : W.heap.size < (W.alloc (.cells cs T)).heap.size := by simp
 have k := fun o => E.cell.1 W.heap.size o hs
 refine ⟨_, qs.length, by simp, by simp, .inr ⟨W.heap.size, 0, rfl, Nat.lt_of_lt_of_le hs E.sz, Nat.lt_of_lt_of_le hs E.sz, fun i a ha => ?_⟩⟩
 rw [List.getElem?_map] at ha
 cases hx : qs[i]? with
 | none => rw [hx] at ha; cases ha
 | some q =>
   rw [hx] at ha
   simp at ha
   subst ha
   have g : ∀ j, j < 4 → w'.cell? ⟨W.heap.size, 0 + i * 4 + j, none⟩ = (cB q)[j]? := fun j hj => by
     rw [k, World.cell?_alloc_at cs T _ _ rfl, ← Array.getElem?_toList, hcs, Nat.zero_add, fm_at cB 4 (fun _ => rfl) qs i q j hx hj]
   have hV := h q (List.mem_of_getElem? hx)
   have X : Ext W w' := ((Ext.refl _).alloc _).trans E
   exact ⟨q.2, g 0 (by decide), g 1 (by decide), g 2 (by decide), g 3 (by decide), (hV.low X).up X.size⟩
theorem blk_rd {W : World} {g : Nat} {r : Rw} (B : Blk W g (.int .i64 r.k) (.int .i64 r.n) (.string r.s) (.int .i64 r.e)) : RdV W.heap.size W (.slice (some ⟨g, 0, none⟩) 1 1) [r] := by
 obtain ⟨z, ⟨k0, k1, k2, k3⟩, _⟩ := B
 refine ⟨_, _, rfl, Nat.le_refl _, .inr ⟨g, 0, rfl, z, z, fun i a hr => ?_⟩⟩
 match i, hr with
 | 0, hr => simp at hr; subst hr; exact ⟨k0, k1, k2, k3⟩
theorem args_1 {W w' : World} {b g0 : Nat} {T : TypeId} {r0 : Rw} (hb : b = W.heap.size) (E : Ext (W.alloc (.cells #[.bool false, .int .i64 0, .int .i64 0, .slice (some ⟨g0, 0, none⟩) 1 1] T)) w')
   (B0 : Blk W g0 (.int .i64 r0.k) (.int .i64 r0.n) (.string r0.s) (.int .i64 r0.e)) : RdB w'.heap.size w' (.slice (some ⟨b, 0, none⟩) 1 1) [bgR r0] :=
 args_new [(bgR r0, .slice (some ⟨g0, 0, none⟩) 1 1)] hb rfl rfl E (fun q hq => by simp at hq; subst hq; exact blk_rd B0)
theorem args_2 {W w' : World} {b g0 g1 : Nat} {T : TypeId} {r0 r1 : Rw} (hb : b = W.heap.size) (E : Ext (W.alloc (.cells #[.bool false, .int .i64 0, .int .i64 0, .slice (some ⟨g0, 0, none⟩) 1 1, .bool false, .int .i64 0, .int .i64 0, .slice (some ⟨g1, 0, none⟩) 1 1] T)) w')
   (B0 : Blk W g0 (.int .i64 r0.k) (.int .i64 r0.n) (.string r0.s) (.int .i64 r0.e)) (B1 : Blk W g1 (.int .i64 r1.k) (.int .i64 r1.n) (.string r1.s) (.int .i64 r1.e)) : RdB w'.heap.size w' (.slice (some ⟨b, 0, none⟩) 2 2) [bgR r0, bgR r1] :=
 args_new [(bgR r0, .slice (some ⟨g0, 0, none⟩) 1 1), (bgR r1, .slice (some ⟨g1, 0, none⟩) 1 1)] hb rfl rfl E (fun q hq => by
   simp at hq
   rcases hq with rfl | rfl
   · exact blk_rd B0
   · exact blk_rd B1)
theorem args_3 {W w' : World} {b g0 g1 g2 : Nat} {T : TypeId} {r0 r1 r2 : Rw} (hb : b = W.heap.size) (E : Ext (W.alloc (.cells #[.bool false, .int .i64 0, .int .i64 0, .slice (some ⟨g0, 0, none⟩) 1 1, .bool false, .int .i64 0, .int .i64 0, .slice (some ⟨g1, 0, none⟩) 1 1, .bool false, .int .i64 0, .int .i64 0, .slice (some ⟨g2, 0, none⟩) 1 1] T)) w')
   (B0 : Blk W g0 (.int .i64 r0.k) (.int .i64 r0.n) (.string r0.s) (.int .i64 r0.e)) (B1 : Blk W g1 (.int .i64 r1.k) (.int .i64 r1.n) (.string r1.s) (.int .i64 r1.e)) (B2 : Blk W g2 (.int .i64 r2.k) (.int .i64 r2.n) (.string r2.s) (.int .i64 r2.e)) : RdB w'.heap.size w' (.slice (some ⟨b, 0, none⟩) 3 3) [bgR r0, bgR r1, bgR r2] :=
 args_new [(bgR r0, .slice (some ⟨g0, 0, none⟩) 1 1), (bgR r1, .slice (some ⟨g1, 0, none⟩) 1 1), (bgR r2, .slice (some ⟨g2, 0, none⟩) 1 1)] hb rfl rfl E (fun q hq => by
   simp at hq
   rcases hq with rfl | rfl | rfl
   · exact blk_rd B0
   · exact blk_rd B1
   · exact blk_rd B2)
/-- Arguments that are one value each fit. -/
theorem fit_ones {W : World} {v : Value} {rs : List Rw} (h : RdB W.heap.size W v (rs.map bgR)) (hi : ∀ r ∈ rs, I64 r.n) (hl : rs.length ≤ 1000) : FitB W v (rs.map bgR) := by
 refine ⟨h, ?_, ?_, by simp; omega, ?_⟩
 · intro a ha r hr
   simp [gsOf, bgR] at ha
   obtain ⟨x, hx, rfl⟩ := ha
   simp at hr
   subst hr
   exact hi _ hx
 · have : (seen (gsOf (rs.map bgR))).length = rs.length := by
     clear h hi hl
     induction rs with
     | nil => rfl
     | cons r rs ih =>
       show (seen1 ⟨false, [r]⟩ ++ seen (gsOf (rs.map bgR))).length = _
       rw [List.length_append, ih]
       show 1 + _ = _
       simp; omega
   omega
 · intro a ha
   simp at ha
   obtain ⟨x, hx, rfl⟩ := ha
   refine ⟨⟨?_, ?_⟩, ⟨?_, ?_⟩⟩ <;> simp [bgR]
theorem of_any (k n : Int) (s : ByteArray) (e : Int) (W : World) :
   Calls Tryz.prog 13 #[.agg #[.int .i64 k, .int .i64 n, .string s, .int .i64 e]] W fun r w' => ∃ g, r = .returned (.agg #[.bool false, .int .i64 0, .int .i64 0, .slice (some ⟨g, 0, none⟩) 1 1]) ∧ Blk w' g (.int .i64 k) (.int .i64 n) (.string s) (.int .i64 e) ∧ Ext W w' := by
 go_enter Tryz.func13, Tryz.ntmps13
 go_wp2_with fail
 simp [bodyPost, results, Tryz.results13, go_sem]
 exact ⟨blk_top (by simp) (Ext.refl _), (((Ext.refl _).alloc _).alloc _).alloc _⟩
theorem live_mod : fnV [77, 79, 68] [bgR (V.num (-10000)).rw, bgR (V.num 30000).rw] = .num 20000 := by rfl
theorem live_left : fnV [76, 69, 70, 84] [bgR (V.text ⟨#[97, 98, 99]⟩).rw, bgR (V.num 29000).rw] = .text ⟨#[97, 98]⟩ := by rfl
/-- A call of arguments that were made. -/
theorem call_1 (s : ByteArray) (r0 : Rw) (hi : ∀ r ∈ [r0], I64 r.n) {w0 : World} (hN : Nm w0) (hT : Tab w0) {W : World} {g0 : Nat} (B0 : Blk W g0 (.int .i64 r0.k) (.int .i64 r0.n) (.string r0.s) (.int .i64 r0.e)) (E : Ext w0 W) :
   Calls Tryz.prog 10 #[.string s, .slice (some ⟨W.heap.size, 0, none⟩) 1 1] (W.alloc (.cells #[.bool false, .int .i64 0, .int .i64 0, .slice (some ⟨g0, 0, none⟩) 1 1] 31)) fun e w' => e = .returned (.agg #[.int .i64 (fnV s.data.toList [bgR r0]).k, .int .i64 (fnV s.data.toList [bgR r0]).n, .string (fnV s.data.toList [bgR r0]).s, .int .i64 (fnV s.data.toList [bgR r0]).e]) ∧ Ext W w' := by
 have h := xcall_any s [bgR r0] _ 1 1 _ ⟨fit_ones (rs := [r0]) (args_1 (T := 31) rfl (Ext.refl _) B0) hi (by simp), hN.ext (E.alloc _), hT.ext (E.alloc _)⟩
 rw [dat_eq] at h
 exact h.mono (fun e w' k => ⟨k.1, ((Ext.refl _).alloc _).trans k.2⟩)
theorem call_2 (s : ByteArray) (r0 r1 : Rw) (hi : ∀ r ∈ [r0, r1], I64 r.n) {w0 : World} (hN : Nm w0) (hT : Tab w0) {W : World} {g0 g1 : Nat} (B0 : Blk W g0 (.int .i64 r0.k) (.int .i64 r0.n) (.string r0.s) (.int .i64 r0.e)) (B1 : Blk W g1 (.int .i64 r1.k) (.int .i64 r1.n) (.string r1.s) (.int .i64 r1.e)) (E : Ext w0 W) :
   Calls Tryz.prog 10 #[.string s, .slice (some ⟨W.heap.size, 0, none⟩) 2 2] (W.alloc (.cells #[.bool false, .int .i64 0, .int .i64 0, .slice (some ⟨g0, 0, none⟩) 1 1, .bool false, .int .i64 0, .int .i64 0, .slice (some ⟨g1, 0, none⟩) 1 1] 31)) fun e w' => e = .returned (.agg #[.int .i64 (fnV s.data.toList [bgR r0, bgR r1]).k, .int .i64 (fnV s.data.toList [bgR r0, bgR r1]).n, .string (fnV s.data.toList [bgR r0, bgR r1]).s, .int .i64 (fnV s.data.toList [bgR r0, bgR r1]).e]) ∧ Ext W w' := by
 have h := xcall_any s [bgR r0, bgR r1] _ 2 2 _ ⟨fit_ones (rs := [r0, r1]) (args_2 (T := 31) rfl (Ext.refl _) B0 B1) hi (by simp), hN.ext (E.alloc _), hT.ext (E.alloc _)⟩
 rw [dat_eq] at h
 exact h.mono (fun e w' k => ⟨k.1, ((Ext.refl _).alloc _).trans k.2⟩)
set_option maxRecDepth 100000 in
theorem lives14_any (w : World) (hN : Nm w) (hT : Tab w) : Calls Tryz.prog 9 #[] w fun r w' => r = .returned (.bool true) ∧ Ext w w' := by
 have qE := eq_val
 have qG := gd_val
 have cN : ∀ n W, canB n = true → Calls Tryz.prog 17 #[.int .i64 n] W fun r w' => r = .returned (.agg #[.int .i64 2, .int .i64 n, .string ⟨#[]⟩, .int .i64 0]) ∧ Ext W w' := fun n W h => by
   have := rnum_any n W
   rwa [mkNum_is h] at this
 have cT : ∀ s W, s.size ≤ 300 → Calls Tryz.prog 16 #[.string s] W fun r w' => r = .returned (.agg #[.int .i64 3, .int .i64 0, .string s, .int .i64 0]) ∧ Ext W w' := fun s W h => by
   have := rtext_any s W
   rwa [mkText_is h] at this
 have cM := fun (W : World) (g0 g1 : Nat) B0 B1 E => call_2 ⟨#[77, 79, 68]⟩ (V.num (-10000)).rw (V.num 30000).rw (by intro r hr; simp at hr; rcases hr with rfl | rfl <;> exact ⟨by decide, by decide⟩) hN hT (W := W) (g0 := g0) (g1 := g1) B0 B1 E
 have cL := fun (W : World) (g0 g1 : Nat) B0 B1 E => call_2 ⟨#[76, 69, 70, 84]⟩ (V.text ⟨#[97, 98, 99]⟩).rw (V.num 29000).rw (by intro r hr; simp at hr; rcases hr with rfl | rfl <;> exact ⟨by decide, by decide⟩) hN hT (W := W) (g0 := g0) (g1 := g1) B0 B1 E
 rw [show (⟨#[77, 79, 68]⟩ : ByteArray).data.toList = [77, 79, 68] from rfl, live_mod] at cM
 rw [show (⟨#[76, 69, 70, 84]⟩ : ByteArray).data.toList = [76, 69, 70, 84] from rfl, live_left] at cL
 simp only [V.rw, V.k, V.n, V.s, V.e] at cM cL
 go_enter Tryz.func9, Tryz.ntmps9
 go_wp2_with fail
 refine (cN _ _ (by decide)).mono ?_
 rintro e w1 ⟨rfl, Ew1⟩
 have Hw1 : Hid (Ext w w1) := (Ext.refl _).trans Ew1
 clear Ew1
 go_wp2_with fail
 refine (of_any 2 (-10000) ⟨#[]⟩ 0 _).mono ?_
 rintro e w2 ⟨g2, rfl, Bw2, Ew2⟩
 have Hw2 : Hid (Ext w w2 ∧ Blk w2 g2 (.int .i64 2) (.int .i64 (-10000)) (.string ⟨#[]⟩) (.int .i64 0)) := ⟨(Hw1.out).trans Ew2, Bw2⟩
 clear Ew2 Bw2
 go_wp2_with fail
 refine (cN _ _ (by decide)).mono ?_
 rintro e w3 ⟨rfl, Ew3⟩
 have Hw3 : Hid (Ext w w3 ∧ Blk w3 g2 (.int .i64 2) (.int .i64 (-10000)) (.string ⟨#[]⟩) (.int .i64 0)) := ⟨(Hw2.out.1).trans Ew3, (Hw2.out.2).ext Ew3⟩
 clear Ew3
 go_wp2_with fail
 refine (of_any 2 30000 ⟨#[]⟩ 0 _).mono ?_
 rintro e w4 ⟨g4, rfl, Bw4, Ew4⟩
 have Hw4 : Hid (Ext w w4 ∧ Blk w4 g2 (.int .i64 2) (.int .i64 (-10000)) (.string ⟨#[]⟩) (.int .i64 0) ∧ Blk w4 g4 (.int .i64 2) (.int .i64 30000) (.string ⟨#[]⟩) (.int .i64 0)) := ⟨(Hw3.out.1).trans Ew4, (Hw3.out.2).ext Ew4, Bw4⟩
 clear Ew4 Bw4
 go_wp2_with fail
 refine (cM _ _ _ (Hw4.out.2.1) (Hw4.out.2.2) (Hw4.out.1)).mono ?_
 rintro e w5 ⟨rfl, Ew5⟩
 have Hw5 : Hid (Ext w w5 ∧ Blk w5 g2 (.int .i64 2) (.int .i64 (-10000)) (.string ⟨#[]⟩) (.int .i64 0) ∧ Blk w5 g4 (.int .i64 2) (.int .i64 30000) (.string ⟨#[]⟩) (.int .i64 0)) := ⟨(Hw4.out.1).trans Ew5, (Hw4.out.2.1).ext Ew5, (Hw4.out.2.2).ext Ew5⟩
 clear Ew5
 have KHw5 : Hid (Ext w w5) := Hw5.out.1
 clear Hw5
 go_wp2_with fail
 refine (cN _ _ (by decide)).mono ?_
 rintro e w6 ⟨rfl, Ew6⟩
 have Hw6 : Hid (Ext w w6) := (KHw5.out).trans Ew6
 clear Ew6
 go_wp2_with fail
 refine (cT _ _ (by decide)).mono ?_
 rintro e w7 ⟨rfl, Ew7⟩
 have Hw7 : Hid (Ext w w7) := (Hw6.out).trans Ew7
 clear Ew7
 go_wp2_with fail
 refine (of_any 3 0 (⟨#[97, 98, 99]⟩) 0 _).mono ?_
 rintro e w8 ⟨g8, rfl, Bw8, Ew8⟩
 have Hw8 : Hid (Ext w w8 ∧ Blk w8 g8 (.int .i64 3) (.int .i64 0) (.string (⟨#[97, 98, 99]⟩)) (.int .i64 0)) := ⟨(Hw7.out).trans Ew8, Bw8⟩
 clear Ew8 Bw8
 go_wp2_with fail
 refine (cN _ _ (by decide)).mono ?_
 rintro e w9 ⟨rfl, Ew9⟩
 have Hw9 : Hid (Ext w w9 ∧ Blk w9 g8 (.int .i64 3) (.int .i64 0) (.string (⟨#[97, 98, 99]⟩)) (.int .i64 0)) := ⟨(Hw8.out.1).trans Ew9, (Hw8.out.2).ext Ew9⟩
 clear Ew9
 go_wp2_with fail
 refine (of_any 2 29000 ⟨#[]⟩ 0 _).mono ?_
 rintro e w10 ⟨g10, rfl, Bw10, Ew10⟩
 have Hw10 : Hid (Ext w w10 ∧ Blk w10 g8 (.int .i64 3) (.int .i64 0) (.string (⟨#[97, 98, 99]⟩)) (.int .i64 0) ∧ Blk w10 g10 (.int .i64 2) (.int .i64 29000) (.string ⟨#[]⟩) (.int .i64 0)) := ⟨(Hw9.out.1).trans Ew10, (Hw9.out.2).ext Ew10, Bw10⟩
 clear Ew10 Bw10
 go_wp2_with fail
 refine (cL _ _ _ (Hw10.out.2.1) (Hw10.out.2.2) (Hw10.out.1)).mono ?_
 rintro e w11 ⟨rfl, Ew11⟩
 have Hw11 : Hid (Ext w w11 ∧ Blk w11 g8 (.int .i64 3) (.int .i64 0) (.string (⟨#[97, 98, 99]⟩)) (.int .i64 0) ∧ Blk w11 g10 (.int .i64 2) (.int .i64 29000) (.string ⟨#[]⟩) (.int .i64 0)) := ⟨(Hw10.out.1).trans Ew11, (Hw10.out.2.1).ext Ew11, (Hw10.out.2.2).ext Ew11⟩
 clear Ew11
 have KHw11 : Hid (Ext w w11) := Hw11.out.1
 clear Hw11
 go_wp2_with fail
 refine (cT _ _ (by decide)).mono ?_
 rintro e w12 ⟨rfl, Ew12⟩
 have Hw12 : Hid (Ext w w12) := (KHw11.out).trans Ew12
 clear Ew12
 go_wp2_with fail
 go_ret
 exact ⟨rfl, Hw12.out⟩
end Go.Proofs.YtalejeknigbhjaaGreatDoor
