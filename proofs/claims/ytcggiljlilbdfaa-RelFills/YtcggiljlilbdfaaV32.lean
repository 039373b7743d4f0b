/-
 Lists of rectangles; package rel's Refs.
 Package rel's Refs.
-/
import Derived.Test.YtcggiljlilbdfaaV31
namespace Go.Proofs.Ytcggiljlilbdfaa
open Go.RowKit
set_option maxHeartbeats 6000000

abbrev Rc := Int × Int × Int × Int
def cellsR (q : Rc) : List Value := [.int .i64 q.1, .int .i64 q.2.1, .int .i64 q.2.2.1, .int .i64 q.2.2.2]
def flatR (l : List Rc) : List Value := l.flatMap cellsR
theorem flatR_append (a b : List Rc) : flatR (a ++ b) = flatR a ++ flatR b := by unfold flatR; rw [List.flatMap_append]
theorem flatR_length (a : List Rc) : (flatR a).length = a.length * 4 := by
 induction a with
 | nil => rfl
 | cons p r ih =>
   have : flatR (p :: r) = cellsR p ++ flatR r := rfl
   rw [this, List.length_append, ih, List.length_cons]
   show 4 + _ = _
   omega
theorem flatR_one (a : List Rc) : ∀ u ∈ flatR a, u.oneCell' = true := by
 intro u hu
 unfold flatR at hu
 obtain ⟨p, _, hp⟩ := List.mem_flatMap.1 hu
 simp [cellsR] at hp
 rcases hp with rfl | rfl | rfl | rfl <;> rfl
theorem info_rc : ∃ i, Try.prog.info? 40 = some i ∧ i.zero = some (.agg #[.int .i64 0, .int .i64 0, .int .i64 0, .int .i64 0]) ∧ i.size = 4 ∧ i.bytes = 32 := by
 have h2 : (Try.prog.info? 40).bind (fun i => i.zero) = some (.agg #[.int .i64 0, .int .i64 0, .int .i64 0, .int .i64 0]) := by kernel_rfl
 have h3 : (Try.prog.info? 40).map (fun i => (i.size, i.bytes)) = some (4, 32) := by kernel_rfl
 cases h : Try.prog.info? 40 with
 | none => rw [h] at h2; cases h2
 | some i =>
   rw [h] at h2 h3
   simp at h2 h3
   exact ⟨i, rfl, h2, h3.1, h3.2⟩
/-- v holds the rectangles l in a block of the call's own, from base on. -/
def OwR (w : World) (base : Nat) (v : Value) (l : List Rc) : Prop := w.ownsRow base 40 4 v l.length (flatR l)
theorem OwR.far {w : World} {base : Nat} {v : Value} {l : List Rc} (h : OwR w base v l) {b : Nat} (hb : b < base) : v.ownBlock ≠ some b := by
 rcases h.2 with ⟨h1, h2⟩ | ⟨g, cap, cur, h1, h2, h3⟩
 · rw [h1]; simp [Value.ownBlock]
 · rw [h1]; simp [Value.ownBlock]; omega
theorem OwR.ext {w w' : World} {base : Nat} {v : Value} {l : List Rc} (h : OwR w base v l) (e : Ext w w') : OwR w' base v l := by
 refine ⟨h.1, ?_⟩
 rcases h.2 with h2 | ⟨g, cap, cur, h1, h2, h3, h4⟩
 · exact .inl h2
 · exact .inr ⟨g, cap, cur, h1, h2, (e.block g (heap_lt h3)).trans h3, h4⟩
theorem OwR.set {w : World} {base : Nat} {v : Value} {l : List Rc} (h : OwR w base v l) {p : Addr} (hp : p.block < base) (u : Value) : OwR (w.setCell p u) base v l := by
 refine ⟨h.1, ?_⟩
 rcases h.2 with h2 | ⟨g, cap, cur, h1, h2, h3, h4⟩
 · exact .inl h2
 · exact .inr ⟨g, cap, cur, h1, h2, (Below.heap_setCell _ _ _ _ (by omega)).trans h3, h4⟩
theorem OwR.nil (w : World) (base : Nat) : OwR w base (.slice none 0 0) [] := ⟨rfl, .inl ⟨rfl, rfl⟩⟩
/-- The slice v holds the rectangles l. -/
def RdR (w : World) (v : Value) (l : List Rc) : Prop := (v = .slice none 0 0 ∧ l = []) ∨ ∃ g c, v = .slice (some ⟨g, 0, none⟩) l.length c ∧ g < w.heap.size ∧ ∀ j u, (flatR l)[j]? = some u → w.cell? ⟨g, j, none⟩ = some u
theorem RdR.ext {w w' : World} {v : Value} {l : List Rc} (h : RdR w v l) (e : Ext w w') : RdR w' v l := by
 rcases h with h | ⟨g, c, h1, h2, h3⟩
 · exact .inl h
 · exact .inr ⟨g, c, h1, Nat.lt_of_lt_of_le h2 e.sz, fun j u hj => (e.cell.1 g j h2).trans (h3 j u hj)⟩
theorem OwR.rd {w : World} {base : Nat} {v : Value} {l : List Rc} (h : OwR w base v l) : RdR w v l := by
 rcases h.2 with ⟨h1, h0⟩ | ⟨g, cap, cur, h1, h3, h4, h5, h6, h7, h8⟩
 · exact .inl ⟨h1, List.eq_nil_of_length_eq_zero h0⟩
 · refine .inr ⟨g, cap, h1, heap_lt h4, fun j u hj => ?_⟩
   have hj4 : j < (flatR l).length := (List.getElem?_eq_some_iff.mp hj).1
   rw [flatR_length] at hj4
   rw [cell_of_row w g _ cur _ (0, 0) h4, ← Array.getElem?_toList]
   rw [← h8, List.getElem?_take, if_pos (by omega)] at hj
   exact hj
/-- append of rectangles that lie in a block, at the operation. -/
theorem rc_append {ops : Array Oper} {rest : List Oper} {o : Oper} {a : Act} {Q : Exit → Act → World → Prop} (W : World) (base : Nat) (s x : Operand) (v : Value) (b c : Nat) (l m : List Rc) (hgd : o.guard = none)
   (ho : o.op = .call { callee := .builtin .append, args := #[s, x], argTypes := #[38, 38] })
   (hs : a.eval s = v) (hx : a.eval x = .slice (some ⟨b, 0, none⟩) m.length c) (hB : OwR W base v l)
   (hR : ∀ j u, (flatR m)[j]? = some u → W.cell? ((⟨b, 0, none⟩ : Addr).add j) = some u) (hlen : l.length + m.length ≤ 200000) (hbase : base ≤ W.heap.size)
   (h : ∀ v' W', OwR W' base v' (l ++ m) → W.grownBy W' v.ownBlock → (v' = .slice none 0 0 ↔ v = .slice none 0 0 ∧ m = []) → wpList Try.prog ops Q rest (a.put o.dst v') W') : wpList Try.prog ops Q (o :: rest) a W := by
 obtain ⟨i, hi, hz, h1, h2⟩ := info_rc
 refine wpList_append_own_at W hgd s x 38 ho base 40 i _ 4 32 Try.underlying38 hi hz h1 h2 rfl (by decide) v l.length (flatR l) hs hB ⟨b, 0, none⟩ m.length c (flatR m) hx (flatR_length m) hR (flatR_one m) (by unfold maxLen; omega) (by omega) hbase ?_
 intro v' W' h3 h4 h5 _
 rw [← flatR_append] at h3
 have h6 : OwR W' base v' (l ++ m) := by unfold OwR; rw [List.length_append]; exact h3
 refine h v' W' h6 h4 (h5.trans ?_)
 rw [List.length_eq_zero_iff]
theorem ext_grownR {w W W' : World} {base : Nat} {v : Value} {l : List Rc} (h : W.grownBy W' v.ownBlock) (hB : OwR W base v l) (hE : Ext w W) (hb : w.heap.size ≤ base) : Ext w W' :=
 ⟨h.os.trans hE.os, h.tape.trans hE.tape, h.output.trans hE.output, Nat.le_trans hE.size h.size, fun k hk =>
   (h.block k (Nat.lt_of_lt_of_le hk hE.size) (fun e => hB.far (Nat.lt_of_lt_of_le hk hb) e.symm)).trans (hE.block k hk)⟩
/-- The rectangles so far, in the variable in block R; below W0 nothing turns. -/
def VSt (W0 : World) (R : Nat) (w : World) (rs : List Rc) : Prop := Ext W0 w ∧ W0.heap.size ≤ R ∧ R < w.heap.size ∧ (∃ v, w.cell? ⟨R, 0, none⟩ = some v ∧ OwR w (R + 1) v rs) ∧ w.frozen? ⟨R, 0, none⟩ = false
theorem VSt.ext {W0 w w' : World} {R : Nat} {rs : List Rc} (h : VSt W0 R w rs) (e : Ext w w') : VSt W0 R w' rs := by
 obtain ⟨h1, h2, h3, ⟨v, h4, h5⟩, h6⟩ := h
 exact ⟨h1.trans e, h2, Nat.lt_of_lt_of_le h3 e.sz, ⟨v, (e.cell.1 R 0 h3).trans h4, h5.ext e⟩, (e.cell.2 R 0 h3).trans h6⟩
def nmL9 (t : T) : List Rc := if nmB t then [nmR9 t] else []
theorem refsT_eq (n : Nat) (t : T) : refsT (n + 1) t = nmL9 t ++ (if prB t.k then (t.l.map (refsT n)).flatten else []) := by
 unfold refsT nmL9 nmB nmR9 prB
 by_cases k4 : t.k = 4
 · simp [k4]
 by_cases k5 : t.k = 5
 · simp [k5]
 · simp [k4, k5]
set_option maxRecDepth 100000 in
theorem see_any (t : T) (lv : Value) (W0 : World) (R : Nat) (w : World) (rs : List Rc) (h : VSt W0 R w rs) (hn : rs.length ≤ 100000) :
   Calls Try.prog 54 #[.agg #[.int .i64 t.k, .int .i64 t.n, .string (bs t.s), .int .i64 t.e, .int .i64 t.r.1, .int .i64 t.r.2.1, .bool t.r.2.2.1, .bool t.r.2.2.2, .int .i64 t.q.1, .int .i64 t.q.2.1, .bool t.q.2.2.1, .bool t.q.2.2.2, lv], .pointer (some ⟨R, 0, none⟩)] w fun e w' => e = .returned (.tuple #[]) ∧ VSt W0 R w' (rs ++ nmL9 t) ∧ w.heap.size ≤ w'.heap.size ∧ ∀ k v, w.cell? ⟨R, 0, none⟩ = some v → k < w.heap.size → k ≠ R → v.ownBlock ≠ some k → w'.heap[k]? = w.heap[k]? := by
 have HS : Hid (VSt W0 R w rs) := h
 have c1 := fun V => named_any t lv V
 have HX : Hid (nmL9 t = if nmB t then [nmR9 t] else []) := rfl
 obtain ⟨q, hq⟩ : ∃ q, nmR9 t = q := ⟨_, rfl⟩
 obtain ⟨ok, hok⟩ : ∃ ok, nmB t = ok := ⟨_, rfl⟩
 rw [hq, hok] at c1 HX
 clear h hq hok
 go_enter Try.func54, Try.ntmps54
 go_wp2_with fail
 refine (c1 _).mono ?_
 rintro e w1 ⟨rfl, E1⟩
 have HE1 : Hid (Ext w w1) := ((Ext.refl _).alloc _).trans E1
 have H1 : Hid (VSt W0 R w1 rs) := HS.out.ext HE1.out
 clear E1 c1
 cases ok
 · simp only [Bool.false_eq_true, if_false] at HX
   go_wp2_with fail
   go_end0
   rw [HX.out, List.append_nil]
   exact ⟨rfl, H1.out.ext ((Ext.refl _).alloc _), (HE1.out.alloc _).size, fun k _ _ hk _ _ => (HE1.out.alloc _).block k hk⟩
 · simp only [if_true] at HX
   obtain ⟨h1, h2, h3, ⟨v, h4, h5⟩, h6⟩ := H1.out
   have HO : Hid (OwR w1 (R + 1) v rs) := h5
   have E3 : Ext w1 ((w1.alloc (.cells #[.int .i64 q.1, .int .i64 q.2.1, .int .i64 q.2.2.1, .int .i64 q.2.2.2] 40)).alloc (.cells #[.int .i64 q.1, .int .i64 q.2.1, .int .i64 q.2.2.1, .int .i64 q.2.2.2] 40)) := ((Ext.refl _).alloc _).alloc _
   have HB4 : Hid (OwR ((w1.alloc (.cells #[.int .i64 q.1, .int .i64 q.2.1, .int .i64 q.2.2.1, .int .i64 q.2.2.2] 40)).alloc (.cells #[.int .i64 q.1, .int .i64 q.2.1, .int .i64 q.2.2.1, .int .i64 q.2.2.2] 40)) (R + 1) v rs ∧ Ext W0 ((w1.alloc (.cells #[.int .i64 q.1, .int .i64 q.2.1, .int .i64 q.2.2.1, .int .i64 q.2.2.2] 40)).alloc (.cells #[.int .i64 q.1, .int .i64 q.2.1, .int .i64 q.2.2.1, .int .i64 q.2.2.2] 40)) ∧ W0.heap.size ≤ R) := ⟨h5.ext E3, h1.trans E3, h2⟩
   clear h1 h2 h5 E3
   go_wp2_with (at_builtin; refine rc_append _ (R + 1) _ _ v (w1.heap.size + 1) 1 rs [q] rfl rfl (by rfl) (by first | rfl | (simp; rfl)) HB4.out.1 ?cR (by simp; omega) (by simp; omega) ?_)
   case cR =>
     intro j u hu
     have e9 : (w1.alloc (.cells #[.int .i64 q.1, .int .i64 q.2.1, .int .i64 q.2.2.1, .int .i64 q.2.2.2] 40)).heap.size = w1.heap.size + 1 := by simp
     rw [Addr.add_lit, ← e9, cell_of_row _ _ _ _ _ (0, 0) (new_top _ _), Nat.zero_add]
     rw [← hu, ← Array.getElem?_toList]; rfl
   intro v' w4 k1 k2 k3
   have hR4 : w4.cell? ⟨R, 0, none⟩ = some v ∧ w4.frozen? ⟨R, 0, none⟩ = false := by
     have hb := k2.block R (by simp; omega) (fun e => HB4.out.1.far (Nat.lt_succ_self R) e.symm)
     have a1 := World.cell?_of_block (a := ⟨R, 0, none⟩) hb
     have a2 := World.frozen?_of_block (a := ⟨R, 0, none⟩) hb
     have b1 := (((Ext.refl w1).alloc (.cells #[.int .i64 q.1, .int .i64 q.2.1, .int .i64 q.2.2.1, .int .i64 q.2.2.2] 40)).alloc (.cells #[.int .i64 q.1, .int .i64 q.2.1, .int .i64 q.2.2.1, .int .i64 q.2.2.2] 40)).cell.1 R 0 h3
     have b2 := (((Ext.refl w1).alloc (.cells #[.int .i64 q.1, .int .i64 q.2.1, .int .i64 q.2.2.1, .int .i64 q.2.2.2] 40)).alloc (.cells #[.int .i64 q.1, .int .i64 q.2.1, .int .i64 q.2.2.1, .int .i64 q.2.2.2] 40)).cell.2 R 0 h3
     exact ⟨a1.trans (b1.trans h4), a2.trans (b2.trans h6)⟩
   have hz4 : R < w4.heap.size := by have := k2.size; simp at this; omega
   have HG : Hid (OwR w4 (R + 1) v' (rs ++ [q]) ∧ Ext W0 w4 ∧ W0.heap.size ≤ R ∧ R < w4.heap.size) := ⟨k1, ext_grownR k2 HB4.out.1 HB4.out.2.1 (by have := HB4.out.2.2; omega), HB4.out.2.2, hz4⟩
   obtain ⟨hc4, hf4⟩ := hR4
   obtain ⟨g, cp, hv'⟩ : ∃ g cp, v' = .slice (some ⟨g, 0, none⟩) (rs ++ [q]).length cp := by
     rcases k1.2 with ⟨_, h0⟩ | ⟨g, cp, _, hv, _⟩
     · simp at h0
     · exact ⟨g, cp, hv⟩
   rw [List.length_append, List.length_singleton] at hv'
   subst hv'
   have HK : Hid (w1.heap.size ≤ w4.heap.size ∧ ∀ k, k < w1.heap.size → v.ownBlock ≠ some k → w4.heap[k]? = w1.heap[k]?) := ⟨by have := k2.size; simp at this; omega, fun k hk hne => (k2.block k (by simp; omega) (fun e => hne e.symm)).trans ((((Ext.refl w1).alloc (.cells #[.int .i64 q.1, .int .i64 q.2.1, .int .i64 q.2.2.1, .int .i64 q.2.2.2] 40)).alloc (.cells #[.int .i64 q.1, .int .i64 q.2.1, .int .i64 q.2.2.1, .int .i64 q.2.2.2] 40)).block k hk)⟩
   have HV : Hid (w1.cell? ⟨R, 0, none⟩ = some v) := h4
   clear k1 k2 k3 h4 h6 HB4 HO
   go_wp2_with fail
   go_end0
   rw [HX.out]
   refine ⟨rfl, ⟨HG.out.2.1.setCell (p := ⟨R, 0, none⟩) HG.out.2.2.1 _, HG.out.2.2.1, by simpa [World.setCell] using HG.out.2.2.2, ⟨_, World.cell?_setCell_same _ _ _ hc4, HG.out.1.set (p := ⟨R, 0, none⟩) (Nat.lt_succ_self R) _⟩, by rw [World.frozen?_setCell]; exact hf4⟩, by simpa [World.setCell] using Nat.le_trans HE1.out.size HK.out.1, ?_⟩
   intro k v0 hv0 hk hkR hne
   have hRw : R < w.heap.size := HS.out.2.2.1
   have hvv : v0 = v := by
     have := (HE1.out.cell.1 R 0 hRw).symm.trans HV.out
     rw [hv0] at this
     exact Option.some.inj this
   rw [hvv] at hne
   rw [Below.heap_setCell _ _ _ _ (by simpa using hkR), HK.out.2 k (Nat.lt_of_lt_of_le hk HE1.out.size) hne]
   exact HE1.out.block k hk
def ViC (n : Nat) (t : T) : Prop := ∀ (W0 : World) (R : Nat) (P : Nat → Prop) (pp : Option Addr) (ln cl : Nat) (w : World) (rs : List Rc), VSt W0 R w rs → IsL W0 P (.slice pp ln cl) t.l → rs.length + (refsT n t).length ≤ 100000 → Calls Try.prog 53 #[.agg #[.int .i64 t.k, .int .i64 t.n, .string (bs t.s), .int .i64 t.e, .int .i64 t.r.1, .int .i64 t.r.2.1, .bool t.r.2.2.1, .bool t.r.2.2.2, .int .i64 t.q.1, .int .i64 t.q.2.1, .bool t.q.2.2.1, .bool t.q.2.2.2, .slice pp ln cl], .func (.func 54) #[] #[.pointer (some ⟨R, 0, none⟩)]] w fun e w' => e = .returned (.tuple #[]) ∧ VSt W0 R w' (rs ++ refsT n t)
theorem Blk13.keep {w w' : World} {g : Nat} {x0 x1 x2 x3 x4 x5 x6 x7 x8 x9 x10 x11 x12 : Value} (h : Blk13 w g x0 x1 x2 x3 x4 x5 x6 x7 x8 x9 x10 x11 x12) (hb : w'.heap[g]? = w.heap[g]?) : Blk13 w' g x0 x1 x2 x3 x4 x5 x6 x7 x8 x9 x10 x11 x12 := by
 obtain ⟨z, ⟨k0, k1, k2, k3, k4, k5, k6, k7, k8, k9, k10, k11, k12⟩, f0, f1, f2, f3, f4, f5, f6, f7, f8, f9, f10, f11, f12⟩ := h
 have k := fun o => World.cell?_of_block (a := ⟨g, o, none⟩) hb
 have f := fun o => World.frozen?_of_block (a := ⟨g, o, none⟩) hb
 have hz : g < w'.heap.size := by
   rcases Nat.lt_or_ge g w'.heap.size with h | h
   · exact h
   · rw [Array.getElem?_eq_none h] at hb; have := (Array.getElem?_eq_none_iff.1 hb.symm); omega
 exact ⟨hz, ⟨(k 0).trans k0, (k 1).trans k1, (k 2).trans k2, (k 3).trans k3, (k 4).trans k4, (k 5).trans k5, (k 6).trans k6, (k 7).trans k7, (k 8).trans k8, (k 9).trans k9, (k 10).trans k10, (k 11).trans k11, (k 12).trans k12⟩, (f 0).trans f0, (f 1).trans f1, (f 2).trans f2, (f 3).trans f3, (f 4).trans f4, (f 5).trans f5, (f 6).trans f6, (f 7).trans f7, (f 8).trans f8, (f 9).trans f9, (f 10).trans f10, (f 11).trans f11, (f 12).trans f12⟩
set_option maxRecDepth 100000 in
theorem visit_leaf (n : Nat) (t : T) (hb : prB t.k = false) : ViC (n + 1) t := by
 intro W0 R P pp ln cl w rs h hL hn
 have HX : Hid (refsT (n + 1) t = nmL9 t ++ []) := by show _ = _; rw [refsT_eq, hb]; simp
 have hln : ln = t.l.length := by
   obtain ⟨p, c, h1, _⟩ := hL.form
   cases h1; rfl
 have HI : Hid (IsL W0 P (.slice pp ln cl) t.l) := hL
 have HLN : Hid (ln = t.l.length) := hln
 have HN : Hid (rs.length + (refsT (n + 1) t).length ≤ 100000) := hn
 have HW : Hid (VSt W0 R w rs) := h
 have hRw : R < w.heap.size := h.2.2.1
 have C1 := see_any t (.slice pp ln cl) W0 R (w.alloc (.cells #[.int .i64 t.k, .int .i64 t.n, .string (bs t.s), .int .i64 t.e, .int .i64 t.r.1, .int .i64 t.r.2.1, .bool t.r.2.2.1, .bool t.r.2.2.2, .int .i64 t.q.1, .int .i64 t.q.2.1, .bool t.q.2.2.1, .bool t.q.2.2.2, .slice pp ln cl] 26)) rs (h.ext ((Ext.refl _).alloc _)) (by omega)
 have hent : ∀ args W, (callFunc 54 args).run Try.prog W = .ok (.enter 54 args) W := enters_of Try.func54 (by kernel_rfl) rfl
 have cH := fun V => hasParts_any t (.slice pp ln cl) V
 rw [hb] at cH
 clear hL hn h hb hln
 go_enter Try.func53, Try.ntmps53
 go_wp2_with fail
 refine C1.mono ?_
 rintro e w1 ⟨rfl, h1, hz1, hk1⟩
 have HB0 : BlkX w1 w.heap.size t (.slice pp ln cl) := by
   obtain ⟨_, _, _, ⟨v, hv, hO⟩, _⟩ := HW.out
   refine Blk13.keep (blk13_top rfl (Ext.refl _)) (hk1 w.heap.size v ((((Ext.refl w).alloc _).cell.1 R 0 hRw).trans hv) (by simp) (by omega) ?_)
   intro he
   rcases hO.2 with ⟨h2, _⟩ | ⟨g, cap, cur, h2, h3, h4, _⟩
   · rw [h2] at he; simp [Value.ownBlock] at he
   · rw [h2] at he; simp [Value.ownBlock] at he; have := heap_lt h4; omega
 have H1 : Hid (VSt W0 R w1 (rs ++ nmL9 t)) := h1
 have HBK : Hid (BlkX w1 w.heap.size t (.slice pp ln cl)) := HB0
 obtain ⟨qa, ⟨la0, la1, la2, la3, la4, la5, la6, la7, la8, la9, la10, la11, la12⟩, ga0, ga1, ga2, ga3, ga4, ga5, ga6, ga7, ga8, ga9, ga10, ga11, ga12⟩ := HB0
 clear h1 hz1 hk1 C1
 go_wp2_with fail
 refine (cH _).mono ?_
 rintro e w2 ⟨rfl, E2⟩
 have H2 : Hid (VSt W0 R w2 (rs ++ nmL9 t)) := H1.out.ext E2
 clear E2 cH HI HLN HN HBK
 go_wp2_with fail
 (try simp only [Exit.inBlock, Exit.then])
 refine bodyPost_ret (results_none rfl _ _ _) rfl ?_
 rw [HX.out, List.append_nil]
 exact ⟨rfl, H2.out⟩
theorem flat_le {α β : Type} (f : α → List β) (l : List α) (j : Nat) (x : α) (h : l[j]? = some x) : ((l.take j).map f).flatten.length + (f x).length ≤ (l.map f).flatten.length := by
 obtain ⟨hj, hx⟩ := List.getElem?_eq_some_iff.1 h
 have e : l = l.take j ++ x :: l.drop (j + 1) := by
   rw [← hx, ← List.drop_eq_getElem_cons hj, List.take_append_drop]
 have e2 : (l.map f).flatten = ((l.take j).map f).flatten ++ (f x ++ ((l.drop (j + 1)).map f).flatten) := by
   conv => lhs; rw [e]
   simp
 rw [e2, List.length_append, List.length_append]
 omega
theorem flat_take {α β : Type} (f : α → List β) (l : List α) (j : Nat) (x : α) (h : l[j]? = some x) : ((l.take (j + 1)).map f).flatten = ((l.take j).map f).flatten ++ f x := by
 rw [List.take_add_one, h]; simp
set_option maxRecDepth 100000 in
theorem visit_node (n : Nat) (t : T) (hl : t.l.length ≤ 100000) (ih : ∀ x ∈ t.l, ViC n x) (hb : prB t.k = true) : ViC (n + 1) t := by
 intro W0 R P pp ln cl w rs h hL hn
 have HIH : Hid (∀ x ∈ t.l, ViC n x) := ih
 have hl2 : ln ≤ 100000 := by
   obtain ⟨p, c, h1, _⟩ := hL.form
   cases h1; exact hl
 clear ih hl
 have HX : Hid (refsT (n + 1) t = nmL9 t ++ (t.l.map (refsT n)).flatten) := by show _ = _; rw [refsT_eq, hb]; simp
 have hln : ln = t.l.length := by
   obtain ⟨p, c, h1, _⟩ := hL.form
   cases h1; rfl
 have HI : Hid (IsL W0 P (.slice pp ln cl) t.l) := hL
 have HLN : Hid (ln = t.l.length) := hln
 have HN : Hid (rs.length + (refsT (n + 1) t).length ≤ 100000) := hn
 have HW : Hid (VSt W0 R w rs) := h
 have hRw : R < w.heap.size := h.2.2.1
 have C1 := see_any t (.slice pp ln cl) W0 R (w.alloc (.cells #[.int .i64 t.k, .int .i64 t.n, .string (bs t.s), .int .i64 t.e, .int .i64 t.r.1, .int .i64 t.r.2.1, .bool t.r.2.2.1, .bool t.r.2.2.2, .int .i64 t.q.1, .int .i64 t.q.2.1, .bool t.q.2.2.1, .bool t.q.2.2.2, .slice pp ln cl] 26)) rs (h.ext ((Ext.refl _).alloc _)) (by omega)
 have hent : ∀ args W, (callFunc 54 args).run Try.prog W = .ok (.enter 54 args) W := enters_of Try.func54 (by kernel_rfl) rfl
 have cH := fun V => hasParts_any t (.slice pp ln cl) V
 rw [hb] at cH
 clear hL hn h hb hln
 go_enter Try.func53, Try.ntmps53
 go_wp2_with fail
 refine C1.mono ?_
 rintro e w1 ⟨rfl, h1, hz1, hk1⟩
 have HB0 : BlkX w1 w.heap.size t (.slice pp ln cl) := by
   obtain ⟨_, _, _, ⟨v, hv, hO⟩, _⟩ := HW.out
   refine Blk13.keep (blk13_top rfl (Ext.refl _)) (hk1 w.heap.size v ((((Ext.refl w).alloc _).cell.1 R 0 hRw).trans hv) (by simp) (by omega) ?_)
   intro he
   rcases hO.2 with ⟨h2, _⟩ | ⟨g, cap, cur, h2, h3, h4, _⟩
   · rw [h2] at he; simp [Value.ownBlock] at he
   · rw [h2] at he; simp [Value.ownBlock] at he; have := heap_lt h4; omega
 have H1 : Hid (VSt W0 R w1 (rs ++ nmL9 t)) := h1
 have HBK : Hid (BlkX w1 w.heap.size t (.slice pp ln cl)) := HB0
 obtain ⟨qa, ⟨la0, la1, la2, la3, la4, la5, la6, la7, la8, la9, la10, la11, la12⟩, ga0, ga1, ga2, ga3, ga4, ga5, ga6, ga7, ga8, ga9, ga10, ga11, ga12⟩ := HB0
 clear h1 hz1 hk1 C1
 go_wp2_with fail
 refine (cH _).mono ?_
 rintro e w2 ⟨rfl, E2⟩
 have H2 : Hid (VSt W0 R w2 (rs ++ nmL9 t)) := H1.out.ext E2
 have HB2 := HBK.out.ext E2
 clear E2 cH qa la0 la1 la2 la3 la4 la5 la6 la7 la8 la9 la10 la11 la12 ga0 ga1 ga2 ga3 ga4 ga5 ga6 ga7 ga8 ga9 ga10 ga11 ga12
 obtain ⟨qb, ⟨lb0, lb1, lb2, lb3, lb4, lb5, lb6, lb7, lb8, lb9, lb10, lb11, lb12⟩, gb0, gb1, gb2, gb3, gb4, gb5, gb6, gb7, gb8, gb9, gb10, gb11, gb12⟩ := HB2
 go_wp2_with fail
 go_loopw [15] (fun iv wr => ∃ j : Nat, j ≤ ln ∧ iv = .int .i64 (j : Int) ∧ VSt W0 R wr (rs ++ nmL9 t ++ ((t.l.take j).map (refsT n)).flatten)) (fun iv _ => ln - (intOf iv).toNat)
 case atStart => exact ⟨0, Nat.zero_le _, rfl, by simpa using H2.out⟩
 case round =>
   obtain ⟨j, hj, rfl, hS⟩ := hrel
   have HS : Hid (VSt W0 R wr (rs ++ nmL9 t ++ ((t.l.take j).map (refsT n)).flatten)) := hS
   clear hS qb lb0 lb1 lb2 lb3 lb4 lb5 lb6 lb7 lb8 lb9 lb10 lb11 lb12 gb0 gb1 gb2 gb3 gb4 gb5 gb6 gb7 gb8 gb9 gb10 gb11 gb12
   by_cases hlt : j < ln
   · have hltI : (j : Int) < (ln : Int) := by omega
     obtain ⟨gb, off, x, lv, hpp, hx1, hA1, hgb, hA2, hLx, hce0⟩ := HI.out.at (i := j) (by rw [← HLN.out]; exact hlt)
     have hce : ∀ i u, (cellsT x lv)[i]? = some u → wr.cell? ⟨gb, off + j * 13 + i, none⟩ = some u := fun i u hu => (HS.out.1.cell.1 gb _ hgb).trans (hce0 i u hu)
     have hgb2 : gb < wr.heap.size := Nat.lt_of_lt_of_le hgb HS.out.1.size
     clear hA1 hA2 hce0 hgb
     cases hpp
     obtain ⟨pp, cl', hlv, hcl⟩ := hLx.form
     obtain ⟨ln', hln'⟩ : ∃ ln', x.l.length = ln' := ⟨_, rfl⟩
     rw [hln'] at hlv
     subst hlv
     have HX1 : Hid (t.l[j]? = some x) := hx1
     have HLX : Hid (IsL W0 P (.slice pp ln' cl') x.l) := hLx
     have HC : Hid (∀ V, Ext wr V → Calls Try.prog 53 #[.agg #[.int .i64 x.k, .int .i64 x.n, .string (bs x.s), .int .i64 x.e, .int .i64 x.r.1, .int .i64 x.r.2.1, .bool x.r.2.2.1, .bool x.r.2.2.2, .int .i64 x.q.1, .int .i64 x.q.2.1, .bool x.q.2.2.1, .bool x.q.2.2.2, .slice pp ln' cl'], .func (.func 54) #[] #[.pointer (some ⟨R, 0, none⟩)]] V fun e w' => e = .returned (.tuple #[]) ∧ VSt W0 R w' (rs ++ nmL9 t ++ ((t.l.take j).map (refsT n)).flatten ++ refsT n x)) := fun V e => HIH.out x (List.mem_of_getElem? hx1) W0 R P pp ln' cl' V _ (HS.out.ext e) HLX.out (by
       have h1 := HN.out
       rw [HX.out] at h1
       have h2 := flat_le (refsT n) t.l j x hx1
       simp only [List.length_append] at h1 ⊢
       omega)
     have e0 : wr.cell? ⟨gb, off + j * 13, none⟩ = some (.int .i64 x.k) := hce 0 _ rfl
     have e1 : wr.cell? ⟨gb, off + j * 13 + 1, none⟩ = some (.int .i64 x.n) := hce 1 _ rfl
     have e2 : wr.cell? ⟨gb, off + j * 13 + 2, none⟩ = some (.string (bs x.s)) := hce 2 _ rfl
     have e3 : wr.cell? ⟨gb, off + j * 13 + 3, none⟩ = some (.int .i64 x.e) := hce 3 _ rfl
     have e4 : wr.cell? ⟨gb, off + j * 13 + 4, none⟩ = some (.int .i64 x.r.1) := hce 4 _ rfl
     have e5 : wr.cell? ⟨gb, off + j * 13 + 5, none⟩ = some (.int .i64 x.r.2.1) := hce 5 _ rfl
     have e6 : wr.cell? ⟨gb, off + j * 13 + 6, none⟩ = some (.bool x.r.2.2.1) := hce 6 _ rfl
     have e7 : wr.cell? ⟨gb, off + j * 13 + 7, none⟩ = some (.bool x.r.2.2.2) := hce 7 _ rfl
     have e8 : wr.cell? ⟨gb, off + j * 13 + 8, none⟩ = some (.int .i64 x.q.1) := hce 8 _ rfl
     have e9 : wr.cell? ⟨gb, off + j * 13 + 9, none⟩ = some (.int .i64 x.q.2.1) := hce 9 _ rfl
     have e10 : wr.cell? ⟨gb, off + j * 13 + 10, none⟩ = some (.bool x.q.2.2.1) := hce 10 _ rfl
     have e11 : wr.cell? ⟨gb, off + j * 13 + 11, none⟩ = some (.bool x.q.2.2.2) := hce 11 _ rfl
     have e12 : wr.cell? ⟨gb, off + j * 13 + 12, none⟩ = some (.slice pp ln' cl') := hce 12 _ rfl
     clear hx1 hLx hce hcl hln'
     go_wp2_with fail
     refine (HC.out _ ((Ext.refl _).alloc _)).mono ?_
     rintro e w3 ⟨rfl, h3⟩
     have H3 : Hid (VSt W0 R w3 (rs ++ nmL9 t ++ ((t.l.take j).map (refsT n)).flatten ++ refsT n x)) := h3
     clear h3 e0 e1 e2 e3 e4 e5 e6 e7 e8 e9 e10 e11 e12
     go_wp2_with fail
     go_roundw
     case rel => exact ⟨j + 1, by omega, by go_num, by rw [flat_take _ _ _ _ HX1.out, ← List.append_assoc]; exact H3.out⟩
     case measure => show ln - ((j : Int) + 1).toNat < ln - ((j : Int)).toNat; omega
   · have hltI : ¬ (j : Int) < (ln : Int) := by omega
     have hjl : j = ln := by omega
     have HE : Hid (VSt W0 R wr (rs ++ refsT (n + 1) t)) := by
       have h1 := HS.out
       rw [hjl, HLN.out, List.take_length] at h1
       show VSt _ _ _ _
       rw [HX.out, ← List.append_assoc]
       exact h1
     clear hlt hjl
     go_wp2_with fail
     go_end0
     exact ⟨rfl, HE.out⟩
theorem visit_any (n : Nat) : ∀ t : T, Hr n t → ViC n t := by
 induction n with
 | zero => intro t h; cases h
 | succ n ih =>
   intro t hr
   cases hb : prB t.k with
   | true => exact visit_node n t hr.1 (fun x hx => ih x (hr.2 x hx)) hb
   | false => exact visit_leaf n t hb

open Go.RowKit
set_option maxHeartbeats 6000000
set_option maxRecDepth 100000 in
theorem refs_any (n : Nat) (t : T) (hr : Hr n t) (hn : (refsT n t).length ≤ 100000) (W : World) (P : Nat → Prop) (pp : Option Addr) (ln cl : Nat) (hL : IsL W P (.slice pp ln cl) t.l) :
   Calls Try.prog 25 #[.agg #[.int .i64 t.k, .int .i64 t.n, .string (bs t.s), .int .i64 t.e, .int .i64 t.r.1, .int .i64 t.r.2.1, .bool t.r.2.2.1, .bool t.r.2.2.2, .int .i64 t.q.1, .int .i64 t.q.2.1, .bool t.q.2.2.1, .bool t.q.2.2.2, .slice pp ln cl]] W fun e w' => ∃ v, e = .returned v ∧ RdR w' v (refsT n t) ∧ Ext W w' := by
 have HC : Hid (∀ V R, VSt W R V [] → Calls Try.prog 53 #[.agg #[.int .i64 t.k, .int .i64 t.n, .string (bs t.s), .int .i64 t.e, .int .i64 t.r.1, .int .i64 t.r.2.1, .bool t.r.2.2.1, .bool t.r.2.2.2, .int .i64 t.q.1, .int .i64 t.q.2.1, .bool t.q.2.2.1, .bool t.q.2.2.2, .slice pp ln cl], .func (.func 54) #[] #[.pointer (some ⟨R, 0, none⟩)]] V fun e w' => e = .returned (.tuple #[]) ∧ VSt W R w' ([] ++ refsT n t)) := fun V R h => visit_any n t hr W R P pp ln cl V [] h hL (by simpa using hn)
 clear hr hn hL
 go_enter Try.func25, Try.ntmps25
 go_wp2_with fail
 refine (HC.out _ (W.heap.size + 1) ?_).mono ?_
 · refine ⟨((Ext.refl _).alloc _).alloc _, by omega, by simp, ⟨.slice none 0 0, ?_, OwR.nil _ _⟩, ?_⟩
   · have e9 : (W.alloc (.cells #[.int .i64 t.k, .int .i64 t.n, .string (bs t.s), .int .i64 t.e, .int .i64 t.r.1, .int .i64 t.r.2.1, .bool t.r.2.2.1, .bool t.r.2.2.2, .int .i64 t.q.1, .int .i64 t.q.2.1, .bool t.q.2.2.1, .bool t.q.2.2.2, .slice pp ln cl] 26)).heap.size = W.heap.size + 1 := by simp
     rw [← e9, cell_of_row _ _ _ _ _ (0, 0) (new_top _ _)]; rfl
   · simp [go_sem]
 rintro e w1 ⟨rfl, h1⟩
 rw [List.nil_append] at h1
 obtain ⟨h2, h3, h4, ⟨v, h5, h6⟩, h7⟩ := h1
 have HR : Hid (RdR w1 v (refsT n t) ∧ Ext W w1) := ⟨h6.rd, h2⟩
 obtain ⟨p, l, c, hv⟩ : ∃ p l c, v = .slice p l c := by
   rcases h6.2 with ⟨hv, _⟩ | ⟨g, cp, _, hv, _⟩
   · exact ⟨_, _, _, hv⟩
   · exact ⟨_, _, _, hv⟩
 subst hv
 clear h2 h3 h6 HC
 go_wp2_with fail
 go_ret
 exact ⟨_, rfl, HR.out.1, HR.out.2⟩
end Go.Proofs.Ytcggiljlilbdfaa
