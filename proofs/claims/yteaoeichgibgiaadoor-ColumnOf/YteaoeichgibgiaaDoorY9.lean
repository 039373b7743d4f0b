/-
 Arguments: what is read as a list of values, or of arguments, is one.
 Values in a list of the call's own; what Of answers, whatever comes in.
 Package column: Values; the document's At.
 The document's Can (layer 19).
 Columns held against each other: the document's Same (layer 19).
 Layer 19's lives.
-/
import Derived.Test.YteaoeichgibgiaaDoorY6
import Derived.Lib.SmallJoins
import Derived.Deep.Slices
import Derived.Test.YteaoeichgibgiaaDoorY8
import Derived.Test.YteaoeichgibgiaaDoorY7
namespace Go.Proofs.YteaoeichgibgiaaDoor
open Go.ChangeShapes Go.WideShapes Go.RowKit
open Go.Joins (trod_struct4)
open Go.Deep (choose_lt)
set_option maxHeartbeats 2000000

theorem qc_value : Tryd.prog.cellsOf 33 = 4 := by kernel_rfl
theorem qc_int : Tryd.prog.cellsOf 3 = 1 := by kernel_rfl
theorem qc_int64 : Tryd.prog.cellsOf 2 = 1 := by kernel_rfl
theorem qc_string : Tryd.prog.cellsOf 9 = 1 := by kernel_rfl
section
variable {H : Type} {enc : TypeId × Value → H} {w : World} {base : Nat} {sp : Nat → Bool} {hd : Bool}
instance : Inhabited Rw := ⟨⟨0, 0, ⟨#[]⟩, 0⟩⟩
instance : Inhabited Ag := ⟨⟨false, []⟩⟩
theorem open_val {fuel : Nat} {cs : List Value} {x : DataW H × List MemPlace} (hl : cs.length = 4) (h : DataW.trod enc Tryd.prog w base sp hd fuel 33 cs = some x) :
   ∃ r : Rw, cs = [.int .i64 r.k, .int .i64 r.n, .string r.s, .int .i64 r.e] ∧ I64 r.n := by
 match cs, hl with
 | [c0, c1, c2, c3], _ =>
   obtain ⟨y0, y1, y2, y3, n, _, _, h0, h1, h2, h3⟩ := trod_struct4 Tryd.underlying33 h
   simp [qc_int, qc_int64, qc_string] at h0 h1 h2 h3
   obtain ⟨a0, e0, _, w0⟩ := DataW.trod_int Tryd.underlying3 h0
   obtain ⟨a1, e1, _, w1⟩ := DataW.trod_int Tryd.underlying2 h1
   obtain ⟨a2, e2, _, w2⟩ := DataW.trod_string Tryd.underlying9 h2
   obtain ⟨a3, e3, _, w3⟩ := DataW.trod_int Tryd.underlying3 h3
   simp only [List.cons.injEq, and_true] at e0 e1 e2 e3
   exact ⟨⟨a0, a1, a2, a3⟩, by rw [e0, e1, e2, e3], i64_of_wf w1⟩
theorem open_vals {fuel : Nat} {c : Value} {x : DataW H × List MemPlace} (h : DataW.trod enc Tryd.prog w base sp hd fuel 22 [c] = some x) :
   ∃ l, RdV w.heap.size w c l ∧ (∀ r ∈ l, I64 r.n) ∧ l.length ≤ maxLen := by
 rcases DataW.trod_slice Tryd.underlying22 h with ⟨e6, _⟩ | ⟨a, len, cap, elems, rest, n', hn', e6, _, hb, hl, hm, hel, hx, _, _⟩
 · simp only [List.cons.injEq, and_true] at e6
   subst e6
   exact ⟨[], ⟨none, 0, rfl, Nat.le_refl _, .inl rfl⟩, (fun r hr => by cases hr), by simp⟩
 · simp only [List.cons.injEq, and_true] at e6
   subst e6
   rw [qc_value] at hx
   have each : ∀ i, i < len → ∃ r : Rw, (w.cell? (a.add (i * 4)) = some (.int .i64 r.k) ∧ w.cell? ((a.add (i * 4)).add 1) = some (.int .i64 r.n) ∧ w.cell? ((a.add (i * 4)).add 2) = some (.string r.s) ∧ w.cell? ((a.add (i * 4)).add 3) = some (.int .i64 r.e)) ∧ I64 r.n := by
     intro i hi
     have h0 := hx i hi
     rw [List.getElem?_eq_getElem (show i < elems.length by omega)] at h0
     obtain ⟨cs', h1, h2⟩ := Option.bind_eq_some_iff.1 h0
     obtain ⟨_, k1, k2⟩ := World.cells?_some h1
     obtain ⟨r, rfl, hr⟩ := open_val (by simpa using k1) h2
     refine ⟨r, ⟨?_, ?_, ?_, ?_⟩, hr⟩
     · exact k2 0 (by simp at k1 ⊢)
     · exact k2 1 (by simp at k1 ⊢)
     · exact k2 2 (by simp at k1 ⊢)
     · exact k2 3 (by simp at k1 ⊢)
   obtain ⟨f, hf⟩ := choose_lt each
   by_cases h0 : len = 0
   · subst h0
     exact ⟨[], ⟨_, _, rfl, by omega, .inl rfl⟩, (fun r hr => by cases hr), by simp⟩
   obtain ⟨b, off, spot⟩ := a
   have hz := (hf 0 (by omega)).1.1
   have hspot : spot = none := by simpa [Addr.add] using World.cell?_spot hz
   subst hspot
   have hblt : b < w.heap.size := World.block_lt_of_cell? _ _ hz
   have hgl : ((List.range len).map f).length = len := by simp
   refine ⟨(List.range len).map f, ⟨_, cap, by rw [hgl], by omega, .inr ⟨b, off, rfl, hblt, hblt, fun i r hi => ?_⟩⟩, ?_, by simp; omega⟩
   · have hi' : i < len := by
       have := (List.getElem?_eq_some_iff.1 hi).1
       simpa using this
     rw [List.getElem?_map, List.getElem?_range hi'] at hi
     simp at hi
     subst hi
     have := (hf i hi').1
     simp only [Addr.add_lit] at this
     exact this
   · intro r hr
     obtain ⟨i, hi, rfl⟩ := List.mem_map.1 hr
     exact (hf i (List.mem_range.1 hi)).2
end

open Go.RowKit
set_option maxHeartbeats 1000000

theorem fm_len {α : Type} (c : α → List Value) (k : Nat) (hc : ∀ x, (c x).length = k) (l : List α) : (l.flatMap c).length = l.length * k := by
 induction l with
 | nil => simp
 | cons x l ih => rw [List.flatMap_cons, List.length_append, hc, ih, List.length_cons, Nat.succ_mul]; omega
theorem fm_at {α : Type} (c : α → List Value) (k : Nat) (hc : ∀ x, (c x).length = k) : ∀ (l : List α) (i : Nat) (x : α) (j : Nat), l[i]? = some x → j < k → (l.flatMap c)[i * k + j]? = (c x)[j]?
 | [], i, x, j, h, _ => by simp at h
 | y :: l, 0, x, j, h, hj => by
   simp at h; subst h
   rw [List.flatMap_cons, Nat.zero_mul, Nat.zero_add, List.getElem?_append_left (by rw [hc]; exact hj)]
 | y :: l, i + 1, x, j, h, hj => by
   have ih := fm_at c k hc l i x j (by simpa using h) hj
   rw [List.flatMap_cons, List.getElem?_append_right (by rw [hc, Nat.succ_mul]; omega), hc, ← ih]
   congr 1
   rw [Nat.succ_mul]; omega
theorem fm_get {α : Type} (c : α → List Value) (k : Nat) (hc : ∀ x, (c x).length = k) (hk : 0 < k) (l : List α) (j : Nat) (u : Value) (h : (l.flatMap c)[j]? = some u) : ∃ x, l[j / k]? = some x ∧ (c x)[j % k]? = some u := by
 have hj : j < l.length * k := by rw [← fm_len c k hc]; exact (List.getElem?_eq_some_iff.1 h).1
 have hi : j / k < l.length := by rw [Nat.div_lt_iff_lt_mul hk]; exact hj
 refine ⟨l[j / k], List.getElem?_eq_getElem hi, ?_⟩
 rw [← fm_at c k hc l (j / k) _ (j % k) (List.getElem?_eq_getElem hi) (Nat.mod_lt _ hk), Nat.mul_comm, Nat.div_add_mod]
 exact h
/-- The cells of a value, of an argument. -/
def cV (r : Rw) : List Value := [.int .i64 r.k, .int .i64 r.n, .string r.s, .int .i64 r.e]
theorem cV_len (r : Rw) : (cV r).length = 4 := rfl
theorem eltV : Elt 22 33 4 40 := by
 refine ⟨Tryd.underlying22, ?_, by decide⟩
 have h1 : (Tryd.prog.info? 33).isSome = true := by kernel_rfl
 have h2 : (Tryd.prog.info? 33).bind (fun i => i.zero) = some (.agg #[.int .i64 0, .int .i64 0, .string ⟨#[]⟩, .int .i64 0]) := by kernel_rfl
 have h3 : (Tryd.prog.info? 33).map (fun i => (i.size, i.bytes)) = some (4, 40) := by kernel_rfl
 cases h : Tryd.prog.info? 33 with
 | none => rw [h] at h1; cases h1
 | some i =>
   rw [h] at h2 h3
   simp at h2 h3
   exact ⟨i, _, rfl, h2, h3.1, h3.2, rfl⟩
theorem RdV.row {B : Nat} {W : World} {v : Value} {l : List Rw} (h : RdV B W v l) : RowC W v l.length 4 (l.flatMap cV) := by
 obtain ⟨p, c, h1, h2, h3⟩ := h
 refine ⟨fm_len cV 4 cV_len l, p, c, h1, ?_⟩
 rcases h3 with rfl | ⟨b, off, rfl, _, _, h6⟩
 · cases p with
   | none => exact .inl ⟨rfl, rfl⟩
   | some ad => exact .inr ⟨ad, rfl, fun j u hu => by simp at hu⟩
 · refine .inr ⟨_, rfl, fun j u hu => ?_⟩
   obtain ⟨r, hr, hu⟩ := fm_get cV 4 cV_len (by decide) l j u hu
   obtain ⟨k0, k1, k2, k3⟩ := h6 _ r hr
   rw [Addr.add_lit]
   have hj := Nat.div_add_mod j 4
   have hm := Nat.mod_lt j (show 0 < 4 by decide)
   match hmm : j % 4, hu with
   | 0, hu => simp [cV] at hu; subst hu; rw [show off + j = off + j / 4 * 4 by omega]; exact k0
   | 1, hu => simp [cV] at hu; subst hu; rw [show off + j = off + j / 4 * 4 + 1 by omega]; exact k1
   | 2, hu => simp [cV] at hu; subst hu; rw [show off + j = off + j / 4 * 4 + 2 by omega]; exact k2
   | 3, hu => simp [cV] at hu; subst hu; rw [show off + j = off + j / 4 * 4 + 3 by omega]; exact k3
   | q + 4, _ => omega
theorem cV_one (l : List Rw) : ∀ u ∈ l.flatMap cV, u.oneCell' = true := by
 intro u hu
 obtain ⟨r, _, hu⟩ := List.mem_flatMap.1 hu
 simp [cV] at hu
 rcases hu with rfl | rfl | rfl | rfl <;> rfl
theorem own_rdV {W : World} {base : Nat} {v : Value} {l : List Rw} (h : W.ownsRow base 33 4 v l.length (l.flatMap cV)) : RdV W.heap.size W v l := by
 rcases h.2 with ⟨rfl, h0⟩ | ⟨g, cap, cur, rfl, h2, h3, h4, h5⟩
 · have : l = [] := List.eq_nil_of_length_eq_zero h0
   subst this
   exact ⟨none, 0, rfl, Nat.le_refl _, .inl rfl⟩
 · have hg : g < W.heap.size := (Array.getElem?_eq_some_iff.1 h3).1
   refine ⟨_, cap, rfl, h4, .inr ⟨g, 0, rfl, hg, hg, fun i r hr => ?_⟩⟩
   have k := fun j (hj : j < 4) u (hu : (cV r)[j]? = some u) => h.cells (g := g) rfl (i * 4 + j) u (by rw [fm_at cV 4 cV_len l i r j hr hj]; exact hu)
   simp only [Addr.add_lit] at k
   exact ⟨k 0 (by decide) _ rfl, k 1 (by decide) _ rfl, k 2 (by decide) _ rfl, k 3 (by decide) _ rfl⟩
/-- What Of answers: lanes, and whether it is plain. -/
def ofL (L : List Int) (l : List Rw) : List Int := if l.length ≤ 1000 then L else []
def ofP (l : List Rw) : Bool := if l.length ≤ 1000 then plainL l else false
theorem cof_all (W : World) (a : Value) (l : List Rw) (area : Bool) (hN : Nm W) (h : RdV W.heap.size W a l) (hI : ∀ r ∈ l, I64 r.n) :
   Calls Tryd.prog 7 #[a, .bool area] W fun r w' => ∃ u v, r = .returned (.tuple #[.agg #[u, v], .bool (ofP l)]) ∧ RdI w' u (ofL (lnN area l) l) ∧ RdI w' v (ofL (lnE area l) l) ∧ Ext W w' := by
 by_cases hl : l.length ≤ 1000
 · have e : ∀ L, ofL L l = L := fun L => if_pos hl
   rw [e, e, show ofP l = plainL l from if_pos hl]
   exact cof_any W a l area hN h hI hl
 · have e : ∀ L, ofL L l = [] := fun L => if_neg hl
   rw [e, e, show ofP l = false from if_neg hl]
   refine (cof_long W a l area h (by omega)).mono ?_
   rintro r w' ⟨rfl, hE⟩
   exact ⟨_, _, rfl, RdG.nil _, RdG.nil _, hE⟩
theorem rof_all (W : World) (a : Value) (l : List Rw) (area : Bool) (h : RdV W.heap.size W a l) (hI : ∀ r ∈ l, I64 r.n) :
   Calls Tryd.prog 8 #[a, .bool area] W fun r w' => ∃ u v, r = .returned (.tuple #[.agg #[u, v], .bool (ofP l)]) ∧ RdI w' u (ofL (lnN area l) l) ∧ RdI w' v (ofL (lnE area l) l) ∧ Ext W w' := by
 by_cases hl : l.length ≤ 1000
 · have e : ∀ L, ofL L l = L := fun L => if_pos hl
   rw [e, e, show ofP l = plainL l from if_pos hl]
   exact rof_any W a l area h hI hl
 · have e : ∀ L, ofL L l = [] := fun L => if_neg hl
   rw [e, e, show ofP l = false from if_neg hl]
   refine (rof_long W a l area h (by omega)).mono ?_
   rintro r w' ⟨rfl, hE⟩
   exact ⟨_, _, rfl, RdG.nil _, RdG.nil _, hE⟩
theorem of_can (l : List Rw) (area : Bool) (hI : ∀ r ∈ l, I64 r.n) : canC (ofL (lnN area l) l) (ofL (lnE area l) l) = true := by
 by_cases hl : l.length ≤ 1000
 · have e : ∀ L, ofL L l = L := fun L => if_pos hl
   rw [e, e]
   exact ln_can hI hl area
 · have e : ∀ L, ofL L l = [] := fun L => if_neg hl
   rw [e, e]; decide
/-- A lane's value. -/
theorem of_lane {l : List Rw} {area : Bool} (hI : ∀ r ∈ l, I64 r.n) {i : Nat} (hi : i < (ofL (lnN area l) l).length) :
   ∃ r n e, l[i]? = some r ∧ (ofL (lnN area l) l)[i]? = some n ∧ (ofL (lnE area l) l)[i]? = some e ∧ laneC n e = laneV r.v area := by
 by_cases hl : l.length ≤ 1000
 · have e : ∀ L, ofL L l = L := fun L => if_pos hl
   rw [e] at hi
   rw [e, e]
   rw [(ln_len area l).1] at hi
   refine ⟨l[i], _, _, List.getElem?_eq_getElem hi, by simp [lnN, List.getElem?_eq_getElem hi]; rfl, by simp [lnE, List.getElem?_eq_getElem hi]; rfl, ?_⟩
   exact (laneV_lane (nm_ok _ _ _ _ (hI _ (List.getElem_mem hi))) area).2
 · have e : ∀ L, ofL L l = [] := fun L => if_neg hl
   rw [e] at hi
   simp at hi

open Go.RowKit
set_option maxHeartbeats 4000000

def rwV (v : V) : Rw := ⟨v.k, v.n, v.s, v.e⟩
/-- A column's lanes as values. -/
def rwL (N E : List Int) : List Rw := (N.zip E).map (fun x => rwV (laneC x.1 x.2))
theorem rwL_len {N E : List Int} (h : N.length = E.length) : (rwL N E).length = N.length := by simp [rwL]; omega
theorem rwL_at {N E : List Int} {i : Nat} {x e : Int} (hx : N[i]? = some x) (he : E[i]? = some e) : (rwL N E)[i]? = some (rwV (laneC x e)) := by
 unfold rwL
 have h : (N.zip E)[i]? = some (x, e) := List.getElem?_zip_eq_some.2 ⟨hx, he⟩
 rw [List.getElem?_map, h]
 rfl
/-- The first j of L, zero values behind. -/
def fillR (L : List Rw) (j : Nat) : List Rw := L.take j ++ List.replicate (L.length - j) zeR
theorem fillR_zero (L : List Rw) : fillR L 0 = List.replicate L.length zeR := by simp [fillR]
theorem fillR_len {L : List Rw} {j : Nat} (h : j ≤ L.length) : (fillR L j).length = L.length := by simp [fillR]; omega
theorem fillR_full (L : List Rw) : fillR L L.length = L := by simp [fillR]
theorem fillR_at {L : List Rw} {j : Nat} (h : j < L.length) : (fillR L j)[j]? = some zeR := by
 unfold fillR
 rw [List.getElem?_append_right (by simp; omega), List.getElem?_replicate, if_pos (by simp; omega)]
theorem fillR_step {L : List Rw} {j : Nat} {x : Rw} (h : L[j]? = some x) : (fillR L j).set j x = fillR L (j + 1) := by
 have hj := (List.getElem?_eq_some_iff.1 h).1
 apply List.ext_getElem?
 intro i
 unfold fillR
 rw [List.getElem?_set]
 by_cases e : j = i
 · subst e
   rw [if_pos rfl, if_pos (by simp; omega), List.getElem?_append_left (by simp; omega), List.getElem?_take, if_pos (by omega), h]
 · rw [if_neg e]
   rcases Nat.lt_or_ge i j with hi | hi
   · rw [List.getElem?_append_left (by simp; omega), List.getElem?_append_left (by simp; omega), List.getElem?_take, List.getElem?_take, if_pos hi, if_pos (by omega)]
   · rw [List.getElem?_append_right (by simp; omega), List.getElem?_append_right (by simp; omega), List.getElem?_replicate, List.getElem?_replicate]
     simp only [List.length_take]
     split <;> split <;> first | rfl | omega
set_option maxRecDepth 100000 in
theorem values_any (W : World) (a b : Value) (N E : List Int) (hN : Nm W) (ha : RdI W a N) (hb : RdI W b E) (hc : canC N E = true) :
   Calls Tryd.prog 11 #[.agg #[a, b]] W fun r w' => ∃ v, r = .returned v ∧ RdV w'.heap.size w' v (rwL N E) ∧ Ext W w' := by
 have c1 := fun w (e : Ext W w) => ccan_any w a b N E (hN.ext e) (ha.ext e) (hb.ext e)
 rw [hc] at c1
 obtain ⟨l1, l2, hlane⟩ := (canC_iff N E).1 hc
 obtain ⟨p, cp, rfl, hzz⟩ := ha.form
 clear hzz
 obtain ⟨q, cq, rfl, hzz⟩ := hb.form
 clear hzz hc
 obtain ⟨n, e1⟩ : ∃ n, N.length = n := ⟨_, rfl⟩
 have e2 : E.length = n := by omega
 rw [e1] at ha c1
 rw [e2] at hb c1
 rw [e1, e2]
 have HL : Hid (N.length = E.length ∧ N.length = n ∧ n ≤ 1000) := ⟨l1, e1, by omega⟩
 have HA : Hid (RdI W (.slice p n cp) N) := ha
 have HB : Hid (RdI W (.slice q n cq) E) := hb
 have HN : Hid (Nm W) := hN
 have mk := fun w => make_zA n (by omega) w
 clear ha hb hN l1 l2 e1 e2 hlane
 go_enter Tryd.func11, Tryd.ntmps11
 go_wp2_with fail
 refine (c1 _ ((Ext.refl _).alloc _)).mono ?_
 rintro r w1 ⟨rfl, E1⟩
 have B0 := blk2_top (w := W) (b := W.heap.size) rfl E1
 have X1 : Ext W w1 := ((Ext.refl _).alloc _).trans E1
 clear c1 E1
 have C0 := celv_new w1 n
 have B1 := B0.ext ((Ext.refl w1).alloc (.cells (zA n) 33))
 have X2 : Ext W (w1.alloc (.cells (zA n) 33)) := X1.alloc _
 have HG : Hid (w1.heap.size ≠ W.heap.size ∧ W.heap.size ≤ w1.heap.size) := ⟨by have := B0.1; omega, X1.size⟩
 obtain ⟨_, ⟨k0, k1⟩, f0, f1⟩ := B0
 obtain ⟨_, ⟨j0, j1⟩, g0, g1⟩ := B1
 go_upto_region 4 with fail
 clear mk k0 k1 f0 f1 X1
 generalize w1.alloc (.cells (zA n) 33) = W2 at *
 generalize w1.heap.size = g at *
 have B1 : Blk2 W2 W.heap.size (.slice p n cp) (.slice q n cq) := ⟨by assumption, ⟨j0, j1⟩, g0, g1⟩
 go_wp2_with fail
 clear j0 j1 g0 g1
 go_loopw [16] (fun iv wr => ∃ j : Nat, iv = .int .i64 (j : Int) ∧ j ≤ n ∧ Ext W wr ∧ CelV wr g (fillR (rwL N E) j) ∧ Blk2 wr W.heap.size (.slice p n cp) (.slice q n cq)) (fun iv _ => n - (intOf iv).toNat)
 case atStart =>
   refine ⟨0, rfl, Nat.zero_le _, X2, ?_, B1⟩
   rw [fillR_zero, rwL_len HL.out.1, HL.out.2.1]
   exact C0
 case round =>
   obtain ⟨j, rfl, hj, hE, h2, h7⟩ := hrel
   have HE : Hid (Ext W wr) := hE
   have H2 : Hid (CelV wr g (fillR (rwL N E) j)) := h2
   have H7 : Hid (Blk2 wr W.heap.size (.slice p n cp) (.slice q n cq)) := h7
   clear hE h2 h7
   by_cases hlt : j < n
   · have hltI : (j : Int) < (n : Int) := by omega
     obtain ⟨x, hx⟩ : ∃ x, N[j]? = some x := ⟨_, List.getElem?_eq_getElem (by have := HL.out; omega)⟩
     obtain ⟨e, he⟩ : ∃ e, E[j]? = some e := ⟨_, List.getElem?_eq_getElem (by have := HL.out; omega)⟩
     obtain ⟨b1, o1, hp1, hb1, k1⟩ := RdI.cell (HA.out.ext HE.out) hx
     obtain ⟨b2, o2, hp2, hb2, k2⟩ := RdI.cell (HB.out.ext HE.out) he
     subst hp1 hp2
     have HF0 := rwL_at hx he
     have WK : Hid (wrap64 ((j : Int) + 1) = ((j + 1 : Nat) : Int)) := wrapC j (by have := HL.out; omega)
     have HJ : Hid (j < n) := hlt
     obtain ⟨_, ⟨y0, y1⟩, p0, p1⟩ := H7.out
     clear hx he hb1 hb2 hj hlt
     by_cases h0 : e = 0
     · subst h0
       have c2 := fun w h => vnum_any x w h
       have c3 := ()
       rw [dat_eq] at c2
       have HF : Hid ((rwL N E)[j]? = some ⟨(mkNum x).k, (mkNum x).n, (mkNum x).s, (mkNum x).e⟩) := HF0
       clear HF0
       generalize (mkNum x).k = z0 at *
       generalize (mkNum x).n = z1 at *
       generalize (mkNum x).s = z2 at *
       generalize (mkNum x).e = z3 at *
       go_wp2_with fail
       refine (c2 _ (HN.out.ext HE.out)).mono ?_
       rintro e2 w2 ⟨rfl, E2⟩
       have K2 : CelV w2 g (fillR (rwL N E) j) := H2.out.ext E2
       have Z2 : Blk2 w2 W.heap.size (.slice (some ⟨b1, o1, none⟩) n cp) (.slice (some ⟨b2, o2, none⟩) n cq) := H7.out.ext E2
       obtain ⟨⟨c0c, c1c, c2c, c3c⟩, f0c, f1c, f2c, f3c⟩ := K2.c j zeR (fillR_at (by rw [rwL_len HL.out.1]; have := HL.out; have := HJ.out; omega))
       have N2 : CelV ((((w2.setCell ⟨g, j * 4, none⟩ (.int .i64 z0)).setCell ⟨g, j * 4 + 1, none⟩ (.int .i64 z1)).setCell ⟨g, j * 4 + 2, none⟩ (.string z2)).setCell ⟨g, j * 4 + 3, none⟩ (.int .i64 z3)) g (fillR (rwL N E) (j + 1)) := by
         rw [← fillR_step HF.out]
         exact K2.set (by rw [fillR_len (by rw [rwL_len HL.out.1]; have := HL.out; have := HJ.out; omega), rwL_len HL.out.1]; have := HL.out; have := HJ.out; omega) ⟨z0, z1, z2, z3⟩
       have N7 : Blk2 ((((w2.setCell ⟨g, j * 4, none⟩ (.int .i64 z0)).setCell ⟨g, j * 4 + 1, none⟩ (.int .i64 z1)).setCell ⟨g, j * 4 + 2, none⟩ (.string z2)).setCell ⟨g, j * 4 + 3, none⟩ (.int .i64 z3)) W.heap.size (.slice (some ⟨b1, o1, none⟩) n cp) (.slice (some ⟨b2, o2, none⟩) n cq) := (((Z2.far1 HG.out.1 _ _).far1 HG.out.1 _ _).far1 HG.out.1 _ _).far1 HG.out.1 _ _
       have NX : Ext W ((((w2.setCell ⟨g, j * 4, none⟩ (.int .i64 z0)).setCell ⟨g, j * 4 + 1, none⟩ (.int .i64 z1)).setCell ⟨g, j * 4 + 2, none⟩ (.string z2)).setCell ⟨g, j * 4 + 3, none⟩ (.int .i64 z3)) := ((((HE.out.trans E2).setCell HG.out.2 _).setCell HG.out.2 _).setCell HG.out.2 _).setCell HG.out.2 _
       clear K2 Z2 E2 c2 c3
       go_upto_block 1 with fail
       clear c0c c1c c2c c3c f0c f1c f2c f3c
       generalize (((w2.setCell ⟨g, j * 4, none⟩ (.int .i64 z0)).setCell ⟨g, j * 4 + 1, none⟩ (.int .i64 z1)).setCell ⟨g, j * 4 + 2, none⟩ (.string z2)).setCell ⟨g, j * 4 + 3, none⟩ (.int .i64 z3) = Wz at *
       have L2 : Hid (Ext W Wz ∧ CelV Wz g (fillR (rwL N E) (j + 1)) ∧ Blk2 Wz W.heap.size (.slice (some ⟨b1, o1, none⟩) n cp) (.slice (some ⟨b2, o2, none⟩) n cq)) := ⟨NX, N2, N7⟩
       clear NX N2 N7 hltI H2 H7
       have wk := WK.out
       go_wp2_with fail
       go_roundw
       case rel =>
         obtain ⟨NX, N2, N7⟩ := L2.out
         exact ⟨j + 1, by go_num, HJ.out, NX, N2, N7⟩
       case measure => exact meas_lt (congrArg _ WK.out) HJ.out
     · have c3 := fun w h => err_any e w h
       have c2 := ()
       have hl : laneC x e = mkErr e := by unfold laneC; rw [if_neg h0]
       rw [hl] at HF0
       rw [dat_eq] at c3
       have HF : Hid ((rwL N E)[j]? = some ⟨(mkErr e).k, (mkErr e).n, (mkErr e).s, (mkErr e).e⟩) := HF0
       have hq : (e == 0) = false := by simp [h0]
       clear HF0 hl h0
       generalize (mkErr e).k = z0 at *
       generalize (mkErr e).n = z1 at *
       generalize (mkErr e).s = z2 at *
       generalize (mkErr e).e = z3 at *
       go_wp2_with fail
       refine (c3 _ (HN.out.ext HE.out)).mono ?_
       rintro e2 w2 ⟨rfl, E2⟩
       have K2 : CelV w2 g (fillR (rwL N E) j) := H2.out.ext E2
       have Z2 : Blk2 w2 W.heap.size (.slice (some ⟨b1, o1, none⟩) n cp) (.slice (some ⟨b2, o2, none⟩) n cq) := H7.out.ext E2
       obtain ⟨⟨c0c, c1c, c2c, c3c⟩, f0c, f1c, f2c, f3c⟩ := K2.c j zeR (fillR_at (by rw [rwL_len HL.out.1]; have := HL.out; have := HJ.out; omega))
       have N2 : CelV ((((w2.setCell ⟨g, j * 4, none⟩ (.int .i64 z0)).setCell ⟨g, j * 4 + 1, none⟩ (.int .i64 z1)).setCell ⟨g, j * 4 + 2, none⟩ (.string z2)).setCell ⟨g, j * 4 + 3, none⟩ (.int .i64 z3)) g (fillR (rwL N E) (j + 1)) := by
         rw [← fillR_step HF.out]
         exact K2.set (by rw [fillR_len (by rw [rwL_len HL.out.1]; have := HL.out; have := HJ.out; omega), rwL_len HL.out.1]; have := HL.out; have := HJ.out; omega) ⟨z0, z1, z2, z3⟩
       have N7 : Blk2 ((((w2.setCell ⟨g, j * 4, none⟩ (.int .i64 z0)).setCell ⟨g, j * 4 + 1, none⟩ (.int .i64 z1)).setCell ⟨g, j * 4 + 2, none⟩ (.string z2)).setCell ⟨g, j * 4 + 3, none⟩ (.int .i64 z3)) W.heap.size (.slice (some ⟨b1, o1, none⟩) n cp) (.slice (some ⟨b2, o2, none⟩) n cq) := (((Z2.far1 HG.out.1 _ _).far1 HG.out.1 _ _).far1 HG.out.1 _ _).far1 HG.out.1 _ _
       have NX : Ext W ((((w2.setCell ⟨g, j * 4, none⟩ (.int .i64 z0)).setCell ⟨g, j * 4 + 1, none⟩ (.int .i64 z1)).setCell ⟨g, j * 4 + 2, none⟩ (.string z2)).setCell ⟨g, j * 4 + 3, none⟩ (.int .i64 z3)) := ((((HE.out.trans E2).setCell HG.out.2 _).setCell HG.out.2 _).setCell HG.out.2 _).setCell HG.out.2 _
       clear K2 Z2 E2 c2 c3
       go_upto_block 1 with fail
       clear c0c c1c c2c c3c f0c f1c f2c f3c
       generalize (((w2.setCell ⟨g, j * 4, none⟩ (.int .i64 z0)).setCell ⟨g, j * 4 + 1, none⟩ (.int .i64 z1)).setCell ⟨g, j * 4 + 2, none⟩ (.string z2)).setCell ⟨g, j * 4 + 3, none⟩ (.int .i64 z3) = Wz at *
       have L2 : Hid (Ext W Wz ∧ CelV Wz g (fillR (rwL N E) (j + 1)) ∧ Blk2 Wz W.heap.size (.slice (some ⟨b1, o1, none⟩) n cp) (.slice (some ⟨b2, o2, none⟩) n cq)) := ⟨NX, N2, N7⟩
       clear NX N2 N7 hltI H2 H7
       have wk := WK.out
       go_wp2_with fail
       go_roundw
       case rel =>
         obtain ⟨NX, N2, N7⟩ := L2.out
         exact ⟨j + 1, by go_num, HJ.out, NX, N2, N7⟩
       case measure => exact meas_lt (congrArg _ WK.out) HJ.out
   · have hltI : ¬ (j : Int) < (n : Int) := by omega
     have R2 : Hid (RdV wr.heap.size wr (.slice (some ⟨g, 0, none⟩) n n) (rwL N E)) := by
       have := H2.out
       rw [show j = (rwL N E).length by rw [rwL_len HL.out.1, HL.out.2.1]; omega, fillR_full] at this
       exact this.rd (by rw [rwL_len HL.out.1, HL.out.2.1])
     clear hj hlt H2
     obtain ⟨_, ⟨y0, y1⟩, p0, p1⟩ := H7.out
     go_wp2_with fail
     go_ret
     exact ⟨_, rfl, R2.out, HE.out⟩

open Go.RowKit
set_option maxHeartbeats 2000000

open Go.RowKit
set_option maxHeartbeats 2000000

set_option maxRecDepth 100000 in
theorem rcsame_any (W : World) (a b c d : Value) (N E M G : List Int) (ha : RdI W a N) (hb : RdI W b E) (hc : RdI W c M) (hd : RdI W d G) (hn : N.length ≤ maxLen) (hm : E.length ≤ maxLen) :
   Calls Tryd.prog 9 #[.agg #[a, b], .agg #[c, d]] W fun r w' => r = .returned (.bool (decide (N = M) && decide (E = G))) ∧ Ext W w' := by
 obtain ⟨p, cp, rfl, hzz⟩ := ha.form
 clear hzz
 obtain ⟨q, cq, rfl, hzz⟩ := hb.form
 clear hzz
 obtain ⟨p', cp', rfl, hzz⟩ := hc.form
 clear hzz
 obtain ⟨q', cq', rfl, hzz⟩ := hd.form
 clear hzz
 obtain ⟨n, e1⟩ : ∃ n, N.length = n := ⟨_, rfl⟩
 obtain ⟨m, e2⟩ : ∃ n, E.length = n := ⟨_, rfl⟩
 obtain ⟨k, e3⟩ : ∃ n, M.length = n := ⟨_, rfl⟩
 obtain ⟨g, e4⟩ : ∃ n, G.length = n := ⟨_, rfl⟩
 rw [e1] at ha
 rw [e2] at hb
 rw [e3] at hc
 rw [e4] at hd
 rw [e1, e2, e3, e4]
 by_cases h1 : n = k
 · subst h1
   by_cases h2 : m = g
   · subst h2
     obtain ⟨W1, hW⟩ : ∃ W1, (W.alloc (.cells #[.slice p n cp, .slice q m cq] 26)).alloc (.cells #[.slice p' n cp', .slice q' m cq'] 26) = W1 := ⟨_, rfl⟩
     have HW : Hid ((W.alloc (.cells #[.slice p n cp, .slice q m cq] 26)).alloc (.cells #[.slice p' n cp', .slice q' m cq'] 26) = W1) := hW
     have XW : Hid (Ext W W1) := by rw [← hW]; exact ((Ext.refl _).alloc _).alloc _
     have B0 : Hid (Blk2 W1 W.heap.size (.slice p n cp) (.slice q m cq)) := by rw [← hW]; exact blk2_top rfl ((Ext.refl _).alloc _)
     have B1 : Hid (Blk2 W1 (W.heap.size + 1) (.slice p' n cp') (.slice q' m cq')) := by rw [← hW]; exact blk2_top (by simp) (Ext.refl _)
     have HA : Hid (RdI W1 (.slice p n cp) N) := ha.ext XW.out
     have HB : Hid (RdI W1 (.slice q m cq) E) := hb.ext XW.out
     have HC : Hid (RdI W1 (.slice p' n cp') M) := hc.ext XW.out
     have HD : Hid (RdI W1 (.slice q' m cq') G) := hd.ext XW.out
     have HL : Hid (N.length = n ∧ M.length = n ∧ n ≤ maxLen ∧ E.length = m ∧ G.length = m ∧ m ≤ maxLen) := ⟨e1, e3, by omega, e2, e4, by omega⟩
     clear ha hb hc hd e1 e2 e3 e4 hn hm hW
     go_enter Tryd.func9, Tryd.ntmps9
     go_wp2_with fail
     rw [HW.out]
     go_loopw [5] (fun iv wr => ∃ j : Nat, iv = .int .i64 (j : Int) ∧ j ≤ n ∧ Ext W1 wr ∧ N.take j = M.take j) (fun iv _ => n - (intOf iv).toNat)
     case atStart => exact ⟨0, rfl, Nat.zero_le _, Ext.refl _, rfl⟩
     case round =>
       obtain ⟨j, rfl, hj, hE, hg⟩ := hrel
       have HE : Hid (Ext W1 wr) := hE
       have HG : Hid (N.take j = M.take j) := hg
       clear hE hg
       obtain ⟨_, ⟨m0, m1⟩, f0, f1⟩ := B0.out.ext HE.out
       obtain ⟨_, ⟨i0, i1⟩, g0, g1⟩ := B1.out.ext HE.out
       by_cases hlt : j < n
       · have hltI : (j : Int) < (n : Int) := by omega
         obtain ⟨x, hx⟩ : ∃ x, N[j]? = some x := ⟨_, List.getElem?_eq_getElem (by have := HL.out; omega)⟩
         obtain ⟨y, hy⟩ : ∃ y, M[j]? = some y := ⟨_, List.getElem?_eq_getElem (by have := HL.out; omega)⟩
         obtain ⟨b1, o1, hp1, hb1, k1⟩ := RdI.cell (HA.out.ext HE.out) hx
         obtain ⟨b2, o2, hp2, hb2, k2⟩ := RdI.cell (HC.out.ext HE.out) hy
         subst hp1 hp2
         have WK : Hid (wrap64 ((j : Int) + 1) = ((j + 1 : Nat) : Int)) := wrapC j (by have := HL.out; unfold maxLen at *; omega)
         have HX : Hid (N[j]? = some x ∧ M[j]? = some y) := ⟨hx, hy⟩
         clear hx hy hb1 hb2
         go_upto_region 6 with fail
         by_cases he : x = y
         · have HT : Hid (N.take (j + 1) = M.take (j + 1)) := by
             show _ = _
             rw [take_at HX.out.1, take_at HX.out.2, HG.out, he]
           have hq : (x == y) = true := by simp [he]
           subst he
           go_quiet (fail)
           have wk := WK.out
           have HJ : Hid (j < n) := hlt
           clear hlt hj hltI hq k1 k2
           go_wp2_with fail
           go_roundw
           case rel => exact ⟨j + 1, by go_num, HJ.out, HE.out.drewN _, HT.out⟩
           case measure => exact meas_lt (congrArg _ WK.out) HJ.out
         · have HT : Hid (N ≠ M) := by
             show _ ≠ _
             intro h
             have h1 := HX.out.1
             rw [h, HX.out.2] at h1
             exact he (Option.some.inj h1).symm
           have hq : (x == y) = false := by simp [he]
           have hq2 : (x != y) = true := by simp [he]
           clear he
           go_quiet (fail)
           go_wp2_with fail
           go_ret
           exact ⟨ret_bool (by simp [HT.out]), XW.out.trans (HE.out.drewN _)⟩
       · have hltI : ¬ (j : Int) < (n : Int) := by omega
         have H1 : Hid (N = M) := by
           have h1 := HG.out
           rw [List.take_of_length_le (by have := HL.out; omega), List.take_of_length_le (by have := HL.out; omega)] at h1
           exact h1
         go_wp2_with fail
         generalize wr = W2 at *
         have XW2 : Hid (Ext W W2) := XW.out.trans HE.out
         have B02 : Hid (Blk2 W2 W.heap.size (.slice p n cp) (.slice q m cq)) := B0.out.ext HE.out
         have B12 : Hid (Blk2 W2 (W.heap.size + 1) (.slice p' n cp') (.slice q' m cq')) := B1.out.ext HE.out
         have HB2 : Hid (RdI W2 (.slice q m cq) E) := HB.out.ext HE.out
         have HD2 : Hid (RdI W2 (.slice q' m cq') G) := HD.out.ext HE.out
         clear HA HC HB HD B0 B1 HE HG XW m0 m1 f0 f1 i0 i1 g0 g1 hltI hlt hj
         go_loopw [6] (fun iv wr => ∃ j : Nat, iv = .int .i64 (j : Int) ∧ j ≤ m ∧ Ext W2 wr ∧ E.take j = G.take j) (fun iv _ => m - (intOf iv).toNat)
         case atStart => exact ⟨0, rfl, Nat.zero_le _, Ext.refl _, rfl⟩
         case round =>
           obtain ⟨j, rfl, hj, hE, hg⟩ := hrel
           have HE : Hid (Ext W2 wr) := hE
           have HG : Hid (E.take j = G.take j) := hg
           clear hE hg
           obtain ⟨_, ⟨m0, m1⟩, f0, f1⟩ := B02.out.ext HE.out
           obtain ⟨_, ⟨i0, i1⟩, g0, g1⟩ := B12.out.ext HE.out
           by_cases hlt : j < m
           · have hltI : (j : Int) < (m : Int) := by omega
             obtain ⟨x, hx⟩ : ∃ x, E[j]? = some x := ⟨_, List.getElem?_eq_getElem (by have := HL.out; omega)⟩
             obtain ⟨y, hy⟩ : ∃ y, G[j]? = some y := ⟨_, List.getElem?_eq_getElem (by have := HL.out; omega)⟩
             obtain ⟨b1, o1, hp1, hb1, k1⟩ := RdI.cell (HB2.out.ext HE.out) hx
             obtain ⟨b2, o2, hp2, hb2, k2⟩ := RdI.cell (HD2.out.ext HE.out) hy
             subst hp1 hp2
             have WK : Hid (wrap64 ((j : Int) + 1) = ((j + 1 : Nat) : Int)) := wrapC j (by have := HL.out; unfold maxLen at *; omega)
             have HX : Hid (E[j]? = some x ∧ G[j]? = some y) := ⟨hx, hy⟩
             clear hx hy hb1 hb2
             go_upto_region 11 with fail
             by_cases he : x = y
             · have HT : Hid (E.take (j + 1) = G.take (j + 1)) := by
                 show _ = _
                 rw [take_at HX.out.1, take_at HX.out.2, HG.out, he]
               have hq : (x == y) = true := by simp [he]
               subst he
               go_quiet (fail)
               have wk := WK.out
               have HJ : Hid (j < m) := hlt
               clear hlt hj hltI hq k1 k2
               go_wp2_with fail
               go_roundw
               case rel => exact ⟨j + 1, by go_num, HJ.out, HE.out.drewN _, HT.out⟩
               case measure => exact meas_lt (congrArg _ WK.out) HJ.out
             · have HT : Hid (E ≠ G) := by
                 show _ ≠ _
                 intro h
                 have h1 := HX.out.1
                 rw [h, HX.out.2] at h1
                 exact he (Option.some.inj h1).symm
               have hq : (x == y) = false := by simp [he]
               have hq2 : (x != y) = true := by simp [he]
               clear he
               go_quiet (fail)
               go_wp2_with fail
               go_ret
               exact ⟨ret_bool (by simp [HT.out]), XW2.out.trans (HE.out.drewN _)⟩
           · have hltI : ¬ (j : Int) < (m : Int) := by omega
             have H2 : Hid (E = G) := by
               have h1 := HG.out
               rw [List.take_of_length_le (by have := HL.out; omega), List.take_of_length_le (by have := HL.out; omega)] at h1
               exact h1
             go_wp2_with fail
             go_ret
             exact ⟨ret_bool (by simp [H1.out, H2.out]), XW2.out.trans HE.out⟩
   · have H : Hid (¬ (E = G)) := by show ¬ _; intro h; rw [h] at e2; omega
     have hd0 : decide ((m : Int) = (g : Int)) = false := by simp; omega
     have hI : ¬ ((m : Int) = (g : Int)) := by omega
     clear h2 e1 e2 e3 e4 ha hb hc hd hn hm
     go_enter Tryd.func9, Tryd.ntmps9
     go_wp2_with fail
     go_ret
     exact ⟨ret_bool (by simp [H.out]), ((Ext.refl _).alloc _).alloc _⟩
 · have H : Hid (¬ (N = M)) := by show ¬ _; intro h; rw [h] at e1; omega
   have hd0 : decide ((n : Int) = (k : Int)) = false := by simp; omega
   have hI : ¬ ((n : Int) = (k : Int)) := by omega
   clear h1 e1 e2 e3 e4 ha hb hc hd hn hm
   go_enter Tryd.func9, Tryd.ntmps9
   go_wp2_with fail
   go_ret
   exact ⟨ret_bool (by simp [H.out]), ((Ext.refl _).alloc _).alloc _⟩

open Go.RowKit
set_option maxHeartbeats 4000000

def lv19 : List Rw := [⟨2, 10000, ⟨#[]⟩, 0⟩, ⟨0, 0, ⟨#[]⟩, 0⟩, ⟨3, 0, ⟨#[120]⟩, 0⟩]
theorem lv19_n : lnN false lv19 = [10000, 0, 0] := by decide
theorem lv19_e : lnE false lv19 = [0, 0, 2] := by decide
theorem lv19_p : plainL lv19 = false := by decide
set_option maxRecDepth 100000 in
theorem lives19_any (W : World) (hN : Nm W) : Calls Tryd.prog 13 #[] W fun r w' => r = .returned (.bool true) ∧ Ext W w' := by
 have c1 := fun w => rnum_any 10000 w
 rw [mkNum_is (by decide)] at c1
 have c2 := fun w => rtext_any ⟨#[120]⟩ w
 rw [mkText_is (by decide)] at c2
 simp only [V.dat] at c1 c2
 go_enter Tryd.func13, Tryd.ntmps13
 go_wp2_with fail
 refine (c1 _).mono ?_
 rintro r1 w1 ⟨rfl, E1⟩
 go_wp2_with fail
 refine (c2 _).mono ?_
 rintro r2 w2 ⟨rfl, E2⟩
 have X2 : Ext W w2 := E1.trans E2
 clear E1 E2 c1 c2
 go_wp2_with fail
 have R0 : RdV (w2.alloc (.cells #[.int .i64 2, .int .i64 10000, .string ⟨#[]⟩, .int .i64 0, .int .i64 0, .int .i64 0, .string ⟨#[]⟩, .int .i64 0, .int .i64 3, .int .i64 0, .string ⟨#[120]⟩, .int .i64 0] 33)).heap.size (w2.alloc (.cells #[.int .i64 2, .int .i64 10000, .string ⟨#[]⟩, .int .i64 0, .int .i64 0, .int .i64 0, .string ⟨#[]⟩, .int .i64 0, .int .i64 3, .int .i64 0, .string ⟨#[120]⟩, .int .i64 0] 33)) (.slice (some ⟨w2.heap.size, 0, none⟩) 3 3) lv19 := by
   refine ⟨_, 3, rfl, Nat.le_refl _, .inr ⟨w2.heap.size, 0, rfl, by simp, by simp, fun i r hr => ?_⟩⟩
   match i, hr with
   | 0, hr => simp [lv19] at hr; subst hr; refine ⟨?_, ?_, ?_, ?_⟩ <;> simp [go_sem]
   | 1, hr => simp [lv19] at hr; subst hr; refine ⟨?_, ?_, ?_, ?_⟩ <;> simp [go_sem]
   | 2, hr => simp [lv19] at hr; subst hr; refine ⟨?_, ?_, ?_, ?_⟩ <;> simp [go_sem]
   | i + 3, hr => simp [lv19] at hr
 have X3 : Ext W (w2.alloc (.cells #[.int .i64 2, .int .i64 10000, .string ⟨#[]⟩, .int .i64 0, .int .i64 0, .int .i64 0, .string ⟨#[]⟩, .int .i64 0, .int .i64 3, .int .i64 0, .string ⟨#[120]⟩, .int .i64 0] 33)) := X2.alloc _
 generalize w2.alloc (.cells #[.int .i64 2, .int .i64 10000, .string ⟨#[]⟩, .int .i64 0, .int .i64 0, .int .i64 0, .string ⟨#[]⟩, .int .i64 0, .int .i64 3, .int .i64 0, .string ⟨#[120]⟩, .int .i64 0] 33) = W3 at *
 have cO := cof_any W3 _ lv19 false (hN.ext X3) R0 (by intro r hr; simp [lv19] at hr; rcases hr with rfl | rfl | rfl <;> exact ⟨by decide, by decide⟩) (by decide)
 rw [lv19_n, lv19_e, lv19_p] at cO
 refine cO.mono ?_
 rintro r3 w3 ⟨u, v, rfl, R1, R2, E3⟩
 have X4 : Ext W w3 := X3.trans E3
 have hN3 : Nm w3 := hN.ext X4
 clear cO R0 E3 X3 X2
 obtain ⟨p, cp, rfl, hz⟩ := R1.form
 clear hz
 obtain ⟨q, cq, rfl, hz⟩ := R2.form
 clear hz
 have l1 : ([10000, 0, 0] : List Int).length = 3 := rfl
 have l2 : ([0, 0, 2] : List Int).length = 3 := rfl
 rw [l1] at R1
 rw [l2] at R2
 rw [l1, l2]
 clear l1 l2
 obtain ⟨b1, o1, hp1, hb1, k1⟩ := R1.cell (i := 0) (x := 10000) rfl
 obtain ⟨b2, o2, hp2, hb2, k2⟩ := R2.cell (i := 2) (x := 2) rfl
 subst hp1 hp2
 have cC := fun w (e : Ext w3 w) => ccan_any w _ _ [10000, 0, 0] [0, 0, 2] (hN3.ext e) (R1.ext e) (R2.ext e)
 rw [show canC [10000, 0, 0] [0, 0, 2] = true from by decide] at cC
 have R1h : Hid (RdI w3 (.slice (some ⟨b1, o1, none⟩) 3 cp) [10000, 0, 0]) := R1
 have R2h : Hid (RdI w3 (.slice (some ⟨b2, o2, none⟩) 3 cq) [0, 0, 2]) := R2
 clear R1 R2 hb1 hb2 hN3
 go_wp2_with fail
 refine (cC _ ((Ext.refl _).alloc _)).mono ?_
 rintro r4 w4 ⟨rfl, E4⟩
 have B4 := blk2_top (w := w3) (b := w3.heap.size) rfl E4
 have e34 : Ext w3 w4 := ((Ext.refl _).alloc _).trans E4
 obtain ⟨_, ⟨j0, j1⟩, g0, g1⟩ := B4
 have kk1 := (e34.cell.1 b1 _ (World.block_lt_of_cell? _ _ k1)).trans k1
 have kk2 := (e34.cell.1 b2 _ (World.block_lt_of_cell? _ _ k2)).trans k2
 simp only [Nat.add_zero] at kk1
 have X5 : Ext W w4 := X4.trans e34
 clear cC E4 k1 k2 e34 X4
 go_wp2_with fail
 go_ret
 exact ⟨rfl, X5⟩
end Go.Proofs.YteaoeichgibgiaaDoor
