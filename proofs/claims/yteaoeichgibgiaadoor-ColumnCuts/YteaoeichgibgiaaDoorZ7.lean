/-
 Rows that are made whole, and written into.
 Operations that come up in whatever order: slices made, append.
-/
import Derived.Test.YteaoeichgibgiaaDoorZ6
import Derived.Laws.OwnMore
namespace Go.Proofs.YteaoeichgibgiaaDoor
open Go.RowKit
set_option maxHeartbeats 4000000

/-- Block g holds these numbers, and may be written. -/
structure CelI (W : World) (g : Nat) (a : List Int) : Prop where
 lt : g < W.heap.size
 c : ∀ i x, a[i]? = some x → W.cell? ⟨g, i, none⟩ = some (.int .i64 x) ∧ W.frozen? ⟨g, i, none⟩ = false
theorem CelI.ext {W W' : World} {g : Nat} {a : List Int} (h : CelI W g a) (e : Ext W W') : CelI W' g a :=
 ⟨Nat.lt_of_lt_of_le h.lt e.size, fun i x hx => ⟨(e.cell.1 g _ h.lt).trans (h.c i x hx).1, (e.cell.2 g _ h.lt).trans (h.c i x hx).2⟩⟩
theorem CelI.far1 {W : World} {g b o : Nat} {a : List Int} (h : CelI W g a) (hb : b ≠ g) (u : Value) : CelI (W.setCell ⟨b, o, none⟩ u) g a := by
 refine ⟨by simpa [World.setCell] using h.lt, fun i x hx => ⟨?_, ?_⟩⟩
 · rw [World.cell?_setCell_other _ _ _ _ (by first | (simp; done) | (simp; intro h; exact absurd h.symm hb))]; exact (h.c i x hx).1
 · rw [World.frozen?_setCell]; exact (h.c i x hx).2
theorem CelI.set {W : World} {g k : Nat} {a : List Int} (h : CelI W g a) (hk : k < a.length) (y : Int) : CelI (W.setCell ⟨g, k, none⟩ (.int .i64 y)) g (a.set k y) := by
 refine ⟨by simpa [World.setCell] using h.lt, fun i x hx => ?_⟩
 by_cases hik : i = k
 · subst hik
   rw [List.getElem?_set_self hk] at hx
   obtain rfl := Option.some.inj hx
   obtain ⟨c0, f0⟩ := h.c i a[i] (List.getElem?_eq_getElem hk)
   exact ⟨World.cell?_setCell_same _ _ _ (by rw [c0]), by rw [World.frozen?_setCell]; exact f0⟩
 · rw [List.getElem?_set_ne (fun h => hik h.symm)] at hx
   obtain ⟨c0, f0⟩ := h.c i x hx
   exact ⟨(World.cell?_setCell_other _ _ _ _ (by first | (simp; done) | (simp; omega))).trans c0, by rw [World.frozen?_setCell]; exact f0⟩
theorem CelI.rd {W : World} {g N : Nat} {a : List Int} (h : CelI W g a) (hN : a.length = N) : RdI W (.slice (some ⟨g, 0, none⟩) N N) a := by
 subst hN
 refine ⟨_, _, rfl, Nat.le_refl _, .inr ⟨g, 0, rfl, h.lt, fun i x j u hi hj => ?_⟩⟩
 match j, hj with
 | 0, hj =>
   simp [dI] at hj
   subst hj
   have := (h.c i x hi).1
   simpa using this
 | j + 1, hj => simp [dI] at hj
def zI (n : Nat) : Array Value := madeCells #[.int .i64 0] n
theorem zI_at (n i : Nat) (h : i < n) : (zI n)[i]? = some (.int .i64 0) := by
 have h1 : (zI n).toList = List.replicate n (.int .i64 0) := toList_madeCells_one _ _
 have h2 : (zI n).toList[i]? = some (.int .i64 0) := by rw [h1, List.getElem?_replicate, if_pos h]
 rw [Array.getElem?_toList] at h2
 exact h2
theorem make_by {TS T : TypeId} {bytes : Nat} (hu : Tryd.prog.underlying TS = some (.slice T)) (h1 : (Tryd.prog.info? T).isSome = true) (h2 : (Tryd.prog.info? T).bind (fun i => i.zero) = some (.int .i64 0)) (h3 : (Tryd.prog.info? T).map (fun i => (i.size, i.bytes)) = some (1, bytes)) (hb : bytes ≤ 1000) (n : Nat) (hn : n ≤ 1000000) (W : World) :
   (Instr.makeSlice TS (.int .i64 (n : Int)) (.int .i64 (n : Int))).run Tryd.prog W = .ok (.slice (some ⟨W.heap.size, 0, none⟩) n n) (W.alloc (.cells (zI n) T)) := by
 cases h : Tryd.prog.info? T with
 | none => rw [h] at h1; cases h1
 | some i =>
   rw [h] at h2 h3
   simp at h2 h3
   have hbi : (i.bytes : Int) * (n : Int) ≤ 281474976710656 := by
     rw [h3.2]
     have : bytes * n ≤ 1000 * 1000000 := Nat.mul_le_mul hb hn
     have e : ((bytes * n : Nat) : Int) = (bytes : Int) * (n : Int) := Int.natCast_mul ..
     omega
   have := run_make (P := Tryd.prog) (w := W) TS T i _ hu h h2 .i64 .i64 n n (by omega) (by omega) hbi (by omega)
   rw [h3.1, show ((n : Int).toNat * 1) = n by simp] at this
   exact this
theorem make_int (n : Nat) (hn : n ≤ 1000000) (W : World) : (Instr.makeSlice 24 (.int .i64 (n : Int)) (.int .i64 (n : Int))).run Tryd.prog W = .ok (.slice (some ⟨W.heap.size, 0, none⟩) n n) (W.alloc (.cells (zI n) 3)) :=
 make_by (bytes := 8) Tryd.underlying24 (by kernel_rfl) (by kernel_rfl) (by kernel_rfl) (by decide) n hn W
theorem make_i64 (n : Nat) (hn : n ≤ 1000000) (W : World) : (Instr.makeSlice 23 (.int .i64 (n : Int)) (.int .i64 (n : Int))).run Tryd.prog W = .ok (.slice (some ⟨W.heap.size, 0, none⟩) n n) (W.alloc (.cells (zI n) 2)) :=
 make_by (bytes := 8) Tryd.underlying23 (by kernel_rfl) (by kernel_rfl) (by kernel_rfl) (by decide) n hn W
/-- Block g holds these values, and may be written. -/
structure CelV (W : World) (g : Nat) (a : List Rw) : Prop where
 lt : g < W.heap.size
 c : ∀ i r, a[i]? = some r → (W.cell? ⟨g, i * 4, none⟩ = some (.int .i64 r.k) ∧ W.cell? ⟨g, i * 4 + 1, none⟩ = some (.int .i64 r.n) ∧ W.cell? ⟨g, i * 4 + 2, none⟩ = some (.string r.s) ∧ W.cell? ⟨g, i * 4 + 3, none⟩ = some (.int .i64 r.e)) ∧
   (W.frozen? ⟨g, i * 4, none⟩ = false ∧ W.frozen? ⟨g, i * 4 + 1, none⟩ = false ∧ W.frozen? ⟨g, i * 4 + 2, none⟩ = false ∧ W.frozen? ⟨g, i * 4 + 3, none⟩ = false)
theorem CelV.ext {W W' : World} {g : Nat} {a : List Rw} (h : CelV W g a) (e : Ext W W') : CelV W' g a := by
 refine ⟨Nat.lt_of_lt_of_le h.lt e.size, fun i r hr => ?_⟩
 obtain ⟨⟨c0, c1, c2, c3⟩, f0, f1, f2, f3⟩ := h.c i r hr
 have k := fun o => e.cell.1 g o h.lt
 have l := fun o => e.cell.2 g o h.lt
 exact ⟨⟨(k _).trans c0, (k _).trans c1, (k _).trans c2, (k _).trans c3⟩, (l _).trans f0, (l _).trans f1, (l _).trans f2, (l _).trans f3⟩
theorem CelV.far1 {W : World} {g b o : Nat} {a : List Rw} (h : CelV W g a) (hb : b ≠ g) (u : Value) : CelV (W.setCell ⟨b, o, none⟩ u) g a := by
 refine ⟨by simpa [World.setCell] using h.lt, fun i r hr => ?_⟩
 obtain ⟨⟨c0, c1, c2, c3⟩, f0, f1, f2, f3⟩ := h.c i r hr
 have k : ∀ o', (W.setCell ⟨b, o, none⟩ u).cell? ⟨g, o', none⟩ = W.cell? ⟨g, o', none⟩ := fun o' => World.cell?_setCell_other _ _ _ _ (by first | (simp; done) | (simp; intro h; exact absurd h.symm hb))
 refine ⟨⟨(k _).trans c0, (k _).trans c1, (k _).trans c2, (k _).trans c3⟩, ?_, ?_, ?_, ?_⟩ <;> (rw [World.frozen?_setCell]; assumption)
theorem CelV.set {W : World} {g k : Nat} {a : List Rw} (h : CelV W g a) (hk : k < a.length) (r : Rw) : CelV ((((W.setCell ⟨g, k * 4, none⟩ (.int .i64 r.k)).setCell ⟨g, k * 4 + 1, none⟩ (.int .i64 r.n)).setCell ⟨g, k * 4 + 2, none⟩ (.string r.s)).setCell ⟨g, k * 4 + 3, none⟩ (.int .i64 r.e)) g (a.set k r) := by
 refine ⟨by simpa [World.setCell] using h.lt, fun i x hx => ?_⟩
 have fz : ∀ o, W.frozen? ⟨g, o, none⟩ = false → ((((W.setCell ⟨g, k * 4, none⟩ (.int .i64 r.k)).setCell ⟨g, k * 4 + 1, none⟩ (.int .i64 r.n)).setCell ⟨g, k * 4 + 2, none⟩ (.string r.s)).setCell ⟨g, k * 4 + 3, none⟩ (.int .i64 r.e)).frozen? ⟨g, o, none⟩ = false := fun o ho => by
   rw [World.frozen?_setCell, World.frozen?_setCell, World.frozen?_setCell, World.frozen?_setCell]; exact ho
 have ot : ∀ o, o ≠ k * 4 → o ≠ k * 4 + 1 → o ≠ k * 4 + 2 → o ≠ k * 4 + 3 → ((((W.setCell ⟨g, k * 4, none⟩ (.int .i64 r.k)).setCell ⟨g, k * 4 + 1, none⟩ (.int .i64 r.n)).setCell ⟨g, k * 4 + 2, none⟩ (.string r.s)).setCell ⟨g, k * 4 + 3, none⟩ (.int .i64 r.e)).cell? ⟨g, o, none⟩ = W.cell? ⟨g, o, none⟩ := fun o h0 h1 h2 h3 => by
   rw [World.cell?_setCell_other _ _ _ _ (by simp <;> omega), World.cell?_setCell_other _ _ _ _ (by simp <;> omega), World.cell?_setCell_other _ _ _ _ (by simp <;> omega), World.cell?_setCell_other _ _ _ _ (by simp <;> omega)]
 by_cases hik : i = k
 · subst hik
   rw [List.getElem?_set_self hk] at hx
   obtain rfl := Option.some.inj hx
   obtain ⟨⟨c0, c1, c2, c3⟩, f0, f1, f2, f3⟩ := h.c i a[i] (List.getElem?_eq_getElem hk)
   refine ⟨⟨?_, ?_, ?_, ?_⟩, fz _ f0, fz _ f1, fz _ f2, fz _ f3⟩
   · rw [World.cell?_setCell_other _ _ _ _ (by simp), World.cell?_setCell_other _ _ _ _ (by simp), World.cell?_setCell_other _ _ _ _ (by simp)]
     exact World.cell?_setCell_same _ _ _ (by rw [c0])
   · rw [World.cell?_setCell_other _ _ _ _ (by simp), World.cell?_setCell_other _ _ _ _ (by simp)]
     exact World.cell?_setCell_same _ _ _ (by rw [World.cell?_setCell_other _ _ _ _ (by simp), c1])
   · rw [World.cell?_setCell_other _ _ _ _ (by simp)]
     exact World.cell?_setCell_same _ _ _ (by rw [World.cell?_setCell_other _ _ _ _ (by simp), World.cell?_setCell_other _ _ _ _ (by simp), c2])
   · exact World.cell?_setCell_same _ _ _ (by rw [World.cell?_setCell_other _ _ _ _ (by simp), World.cell?_setCell_other _ _ _ _ (by simp), World.cell?_setCell_other _ _ _ _ (by simp), c3])
 · rw [List.getElem?_set_ne (fun h => hik h.symm)] at hx
   obtain ⟨⟨c0, c1, c2, c3⟩, f0, f1, f2, f3⟩ := h.c i x hx
   exact ⟨⟨(ot _ (by omega) (by omega) (by omega) (by omega)).trans c0, (ot _ (by omega) (by omega) (by omega) (by omega)).trans c1, (ot _ (by omega) (by omega) (by omega) (by omega)).trans c2, (ot _ (by omega) (by omega) (by omega) (by omega)).trans c3⟩, fz _ f0, fz _ f1, fz _ f2, fz _ f3⟩
theorem CelV.rd {W : World} {g N : Nat} {a : List Rw} (h : CelV W g a) (hN : a.length = N) : RdV W.heap.size W (.slice (some ⟨g, 0, none⟩) N N) a := by
 subst hN
 refine ⟨_, _, rfl, Nat.le_refl _, .inr ⟨g, 0, rfl, h.lt, h.lt, fun i r hr => ?_⟩⟩
 have := (h.c i r hr).1
 simpa using this
/-- Two lists of the call's own. -/
def VecO (B : Nat) (W : World) (u v : Value) (N E : List Int) : Prop := W.ownsRow B 2 1 u N.length (N.flatMap dI) ∧ W.ownsRow B 3 1 v E.length (E.flatMap dI)
theorem VecO.rd1 {B : Nat} {W : World} {u v : Value} {N E : List Int} (h : VecO B W u v N E) : RdI W u N := own_rdG dI_len h.1 rfl
theorem VecO.rd2 {B : Nat} {W : World} {u v : Value} {N E : List Int} (h : VecO B W u v N E) : RdI W v E := own_rdG dI_len h.2 rfl
theorem VecO.ext {B : Nat} {W W' : World} {u v : Value} {N E : List Int} (h : VecO B W u v N E) (e : Ext W W') : VecO B W' u v N E := ⟨ownsRow_ext h.1 e, ownsRow_ext h.2 e⟩
theorem VecO.low {B B' : Nat} {W : World} {u v : Value} {N E : List Int} (h : VecO B W u v N E) (e : B' ≤ B) : VecO B' W u v N E := ⟨ownsRow_mono h.1 e, ownsRow_mono h.2 e⟩
/-- A slice that is read, and that no array's element holds. -/
def RdZ (W : World) (v : Value) (l : List Int) : Prop := RdI W v l ∧ ∀ p n c ad, v = .slice p n c → p = some ad → ad.spot = none
theorem RdZ.ext {W W' : World} {v : Value} {l : List Int} (h : RdZ W v l) (e : Ext W W') : RdZ W' v l := ⟨h.1.ext e, h.2⟩
theorem own_rdZ {B n : Nat} {W : World} {T : TypeId} {v : Value} {l : List Int} (h : W.ownsRow B T 1 v n (l.flatMap dI)) (hn : n = l.length) : RdZ W v l := by
 refine ⟨own_rdG dI_len h hn, fun p n c ad e1 e2 => ?_⟩
 rcases h.2 with ⟨rfl, _⟩ | ⟨g, cap, cur, rfl, _⟩
 · cases e1; cases e2
 · cases e1; cases e2; rfl
theorem VecO.z1 {B : Nat} {W : World} {u v : Value} {N E : List Int} (h : VecO B W u v N E) : RdZ W u N := own_rdZ h.1 rfl
theorem VecO.z2 {B : Nat} {W : World} {u v : Value} {N E : List Int} (h : VecO B W u v N E) : RdZ W v E := own_rdZ h.2 rfl
/-- A part of a slice. -/
theorem cut_rd {TS T : TypeId} {bytes : Nat} (hT : Elt TS T 1 bytes) {W : World} {p : Option Addr} {n c : Nat} {l : List Int} (h : RdI W (.slice p n c) l) (f t : Nat) (hft : f ≤ t) (htn : t ≤ n) :
   ∃ p', (∀ w, (Instr.sliceAt TS (.slice p n c) (some (.int .i64 (f : Int))) (some (.int .i64 (t : Int))) none).run Tryd.prog w = .ok (.slice p' (t - f) (c - f)) w) ∧ RdI W (.slice p' (t - f) (c - f)) ((l.drop f).take (t - f)) ∧
     ((∀ ad, p = some ad → ad.spot = none) → ∀ ad, p' = some ad → ad.spot = none) := by
 obtain ⟨i, z, hi, hz, e1, e2, e3⟩ := hT.i
 have hn := h.len
 obtain ⟨q, cp, e, hc, hrow⟩ := h
 cases e
 refine ⟨if c = f then p else p.map (·.add (f * 1)), fun w => ?_, ⟨_, c - f, by rw [List.length_take, List.length_drop]; congr 1; omega, by rw [List.length_take, List.length_drop]; omega, ?_⟩, fun hs ad ha => ?_⟩
 · have b1 : (Instr.sliceBound (.int .i64 (t : Int)) c .sliceAcap).run Tryd.prog w = .ok t w := by
     have : (t : Int) ≤ (c : Int) := by omega
     simp [Instr.sliceBound, asIntOf, this, go_sem]
   simp [Instr.sliceAt, Instr.slice, Instr.sliceBounds, run_underlying hT.u, sizeOf, typeInfo, hi, e1, b1, go_sem]
   intro h; omega
 · rcases hrow with rfl | ⟨b, off, rfl, hb, h6⟩
   · exact .inl (by simp)
   · by_cases hcf : c = f
     · refine .inl ?_
       rw [List.drop_of_length_le (by omega)]
       simp
     · refine .inr ⟨b, off + f, by rw [if_neg hcf]; simp only [Option.map_some, Addr.add_lit, Nat.mul_one], hb, fun i x j u hx hu => ?_⟩
       rw [List.getElem?_take] at hx
       split at hx
       · rw [List.getElem?_drop] at hx
         have := h6 (f + i) x j u hx hu
         rw [show off + f + i * 1 + j = off + (f + i) * 1 + j by omega]
         exact this
       · cases hx
 · split at ha
   · exact hs ad ha
   · cases p with
     | none => cases ha
     | some a =>
       simp at ha
       subst ha
       have := hs a rfl
       unfold Addr.add
       split
       · exact this
       · rfl
/-- A column's own block. -/
def VB (w : World) (b : Nat) (x y : Value) : Prop := w.heap[b]? = some (.cells #[x, y] 26 (0, 0))
theorem VB.lt {w : World} {b : Nat} {x y : Value} (h : VB w b x y) : b < w.heap.size := heap_lt h
theorem VB.blk {w : World} {b : Nat} {x y : Value} (h : VB w b x y) : Blk2 w b x y :=
 ⟨h.lt, ⟨by rw [cell_of_row w b 0 _ _ (0, 0) h]; rfl, by rw [cell_of_row w b 1 _ _ (0, 0) h]; rfl⟩, frozen_of_row w b 0 _ _ h, frozen_of_row w b 1 _ _ h⟩
theorem VB.ext {w w' : World} {b : Nat} {x y : Value} (h : VB w b x y) (e : Ext w w') : VB w' b x y := (e.block b h.lt).trans h
theorem VB.extT {w w' : World} {b : Nat} {x y : Value} {T : TypeId} (h : VB w b x y) (hT : 26 ≠ T) (e : ExtT T w w') : VB w' b x y := (e.block b _ _ _ h hT).trans h
theorem VB.far {w : World} {b c o : Nat} {x y : Value} (h : VB w b x y) (hc : b ≠ c) (u : Value) : VB (w.setCell ⟨c, o, none⟩ u) b x y := (heap_setCell_other w ⟨c, o, none⟩ b u hc).trans h
theorem VB.set {w : World} {b : Nat} {x y : Value} (h : VB w b x y) (u v : Value) : VB ((w.setCell ⟨b, 0, none⟩ u).setCell ⟨b, 1, none⟩ v) b u v := by
 have h1 := heap_setCell_same w b 0 #[x, y] 26 u h
 have h2 := heap_setCell_same _ b 1 _ 26 v h1
 exact h2
theorem vb_top {w w' : World} {b : Nat} {x y : Value} (hb : b = w.heap.size) (e : Ext (w.alloc (.cells #[x, y] 26)) w') : VB w' b x y := by
 subst hb
 exact (e.block w.heap.size (by simp)).trans (top_heap w _)
/-- A store into a column's own block leaves lists alone. -/
theorem own_vb {w : World} {B n k b : Nat} {T : TypeId} {v x y : Value} {xs : List Value} (h : w.ownsRow B T k v n xs) (hb : VB w b x y) (hT : 26 ≠ T) (p q : Value) : ((w.setCell ⟨b, 0, none⟩ p).setCell ⟨b, 1, none⟩ q).ownsRow B T k v n xs := by
 refine ⟨h.1, ?_⟩
 rcases h.2 with h | ⟨g, cap, cur, h1, h2, h3, h4⟩
 · exact .inl h
 · have hg : g ≠ b := fun e => by
     subst e
     unfold VB at hb
     rw [h3] at hb
     cases hb
     exact hT rfl
   exact .inr ⟨g, cap, cur, h1, h2, (heap_setCell_other _ ⟨b, 1, none⟩ g q hg).trans ((heap_setCell_other w ⟨b, 0, none⟩ g p hg).trans h3), h4⟩
theorem meas_lt {j n : Nat} {v : Value} (hv : v = .int .i64 ((j + 1 : Nat) : Int)) (h : j < n) : n - (intOf v).toNat < n - (intOf (.int .i64 (j : Int))).toNat := by
 subst hv
 rw [show intOf (.int .i64 ((j + 1 : Nat) : Int)) = ((j + 1 : Nat) : Int) from rfl, show intOf (.int .i64 (j : Int)) = (j : Int) from rfl, Int.toNat_natCast, Int.toNat_natCast]
 omega

open Go.RowKit
set_option maxHeartbeats 1000000

theorem wpAnyH_letter {P : Program} {md : Region.Mode} {ops : Array Oper} {Q : Exit → Act → World → Prop} {S : World → Prop} {n : Nat} {l : Array Bool} {a : Act} {w : World}
   (h : ∀ A, A = a → wpAnyH P md ops Q S n l A w) : wpAnyH P md ops Q S n l a w := h a rfl
/-- The temporaries ds of A hold X. -/
def mkA (ds : List (Nat × Nat)) (A : Act) (X : Nat → Value) : Act := ds.foldl (fun a d => a.put (some d.2) (X d.1)) A
theorem Ext.some {w w' : World} (e : Ext w w') {b o : Nat} {v : Value} (h : w.cell? ⟨b, o, none⟩ = some v) : w'.cell? ⟨b, o, none⟩ = some v :=
 (e.cell.1 b o (World.block_lt_of_cell? _ _ h)).trans h
/-- An empty list, just laid. -/
def New0 (base : Nat) (T : TypeId) (v : Value) (w : World) : Prop := ∃ g, v = .slice (some ⟨g, 0, none⟩) 0 0 ∧ base ≤ g ∧ w.heap[g]? = some (.cells #[] T (0, 0))
/-- A list of one, just laid. -/
def New1 (T : TypeId) (e : Value) (v : Value) (w : World) : Prop := ∃ g, v = .slice (some ⟨g, 0, none⟩) 1 1 ∧ w.heap[g]? = some (.cells #[e] T (0, 0))
theorem New0.ext {base : Nat} {T : TypeId} {v : Value} {w w' : World} (h : New0 base T v w) (e : Ext w w') : New0 base T v w' := by
 obtain ⟨g, h1, h2, h3⟩ := h
 exact ⟨g, h1, h2, (e.block g (heap_lt h3)).trans h3⟩
theorem New0.keep {base : Nat} {T T' : TypeId} {v : Value} {w w' : World} (h : New0 base T v w) (ht : some T ≠ some T') (e : ExtT T' w w') : New0 base T v w' := by
 obtain ⟨g, h1, h2, h3⟩ := h
 exact ⟨g, h1, h2, (e.block g _ _ _ h3 (fun x => ht (congrArg _ x))).trans h3⟩
theorem New1.ext {T : TypeId} {u v : Value} {w w' : World} (h : New1 T u v w) (e : Ext w w') : New1 T u v w' := by
 obtain ⟨g, h1, h3⟩ := h
 exact ⟨g, h1, (e.block g (heap_lt h3)).trans h3⟩
theorem New1.keep {T T' : TypeId} {u v : Value} {w w' : World} (h : New1 T u v w) (ht : some T ≠ some T') (e : ExtT T' w w') : New1 T u v w' := by
 obtain ⟨g, h1, h3⟩ := h
 exact ⟨g, h1, (e.block g _ _ _ h3 (fun x => ht (congrArg _ x))).trans h3⟩
theorem New1.rd {α : Type} {c : α → List Value} {e : α → Value} (he : ∀ x, c x = [e x]) {T : TypeId} {x : α} {v : Value} {w : World} (h : New1 T (e x) v w) : RdG c 1 w v [x] := by
 obtain ⟨g, rfl, h3⟩ := h
 refine RdG.one h3 (fun j v hj => ?_)
 rw [he] at hj
 match j, hj with
 | 0, hj => simpa using hj
 | j + 1, hj => simp at hj
theorem New0.own {base k : Nat} {T : TypeId} {v : Value} {w : World} (h : New0 base T v w) : w.ownsRow base T k v 0 [] := by
 obtain ⟨g, rfl, h2, h3⟩ := h
 exact ⟨by simp, .inr ⟨g, 0, #[], rfl, h2, h3, Nat.le_refl _, by simp, by simp, by simp⟩⟩
theorem ownsRow_keep {w w' : World} {base : Nat} {T T' : TypeId} {k n : Nat} {v : Value} {xs : List Value} (h : w.ownsRow base T k v n xs) (ht : some T ≠ some T') (e : ExtT T' w w') : w'.ownsRow base T k v n xs := by
 refine ⟨h.1, ?_⟩
 rcases h.2 with h | ⟨g, cap, cur, h1, h2, h3, h4⟩
 · exact .inl h
 · exact .inr ⟨g, cap, cur, h1, h2, (e.block g _ _ _ h3 (fun x => ht (congrArg _ x))).trans h3, h4⟩
/-- What append may turn: rows of one type. -/
theorem grown_T {W W' : World} {base : Nat} {T : TypeId} {k n : Nat} {v : Value} {xs : List Value} (hB : W.ownsRow base T k v n xs) (hg : W.grownBy W' v.ownBlock) : ExtT T W W' := by
 refine ⟨hg.size, fun b cur T' fr hb hT => hg.block b (heap_lt hb) (fun e => ?_)⟩
 rcases hB.2 with ⟨rfl, _⟩ | ⟨g, cap, cur', rfl, _, h3, _⟩
 · cases e
 · have : g = b := by simpa [Value.ownBlock] using e.symm
   subst this
   rw [h3] at hb
   cases hb
   exact hT rfl
/-- A store below the base. -/
theorem own_off {w : World} {base n k : Nat} {T : TypeId} {v : Value} {xs : List Value} (h : w.ownsRow base T k v n xs) {b o : Nat} (hb : b < base) (u : Value) : (w.setCell ⟨b, o, none⟩ u).ownsRow base T k v n xs := by
 refine ⟨h.1, ?_⟩
 rcases h.2 with h | ⟨g, cap, cur, h1, h2, h3, h4⟩
 · exact .inl h
 · exact .inr ⟨g, cap, cur, h1, h2, (heap_setCell_other w ⟨b, o, none⟩ g u (fun e => by have : g = b := e; omega)).trans h3, h4⟩
section
variable {TS T : TypeId} {k bytes : Nat} {o : Oper} {a : Act} {w w0 : World} {base : Nat}
theorem rt_build0 (hT : Elt TS T k bytes) (ho : o.op = .buildSlice TS 0 #[]) (hb : base ≤ w.heap.size) (hE : Ext w0 w) : RunsTo Tryd.prog o a w (fun v w' => Ext w0 w' ∧ GrW none w w' ∧ New0 base T v w') := by
 obtain ⟨i, z, hi, hz, h1, h2, h3⟩ := hT.i
 refine .inl ⟨.slice (some ⟨w.heap.size, 0, none⟩) 0 0, w.alloc (.cells #[] T), ?_, hE.alloc _, (Ext.refl _).alloc _, w.heap.size, rfl, hb, top_heap w _⟩
 simp [execOp, ho, Instr.buildSlice, run_underlying hT.u, sizeOf, typeInfo, hi, Instr.fill, newRow, Result.andThen, Array.range_zero']
variable {α : Type} {c : α → List Value}
theorem rt_append (hT : Elt TS T k bytes) (hc : ∀ x, (c x).length = k) (h1 : ∀ x, ∀ v ∈ c x, v.oneCell' = true) {s x : Operand} (ho : o.op = .call { callee := .builtin .append, args := #[s, x], argTypes := #[TS, TS] }) {v va : Value} (hs : a.eval s = v) (hx : a.eval x = va) {n m q : Nat} {l news : List α}
   (hB : w.ownsRow base T k v n (l.flatMap c)) (hR : RdG c k w va news) (hm : news.length = m) (hq : n + m = q) (hmx : q ≤ maxLen) (hby : q * bytes ≤ 140737488355328) (hE : Ext w0 w) (hb : w0.heap.size ≤ base) (hb2 : base ≤ w.heap.size) :
   RunsTo Tryd.prog o a w (fun v' w' => Ext w0 w' ∧ GrW (some T) w w' ∧ w'.ownsRow base T k v' q ((l ++ news).flatMap c)) := by
 subst hm hq
 obtain ⟨i, z, hi, hz, e1, e2, e3⟩ := hT.i
 obtain ⟨hln, p, cp', hv, hrow⟩ := hR.row hc hT.k0
 subst hv
 rcases hrow with ⟨rfl, h0⟩ | ⟨ad, rfl, hrow⟩
 · have hn : news = [] := List.eq_nil_of_length_eq_zero h0
   subst hn
   obtain ⟨p, cap, rfl, hc⟩ := own_form hB
   refine .inl ⟨.slice p n cap, w, ?_, hE, (Ext.refl _).toT T, by simpa using hB⟩
   have := run_append_noneG hT w o.type p n cap cp' hc
   simp [execOp, ho, resolve, invoke, builtin, hs, hx, Result.andThen] at this ⊢
   rw [this]
 · obtain ⟨v', W', hr, k1, k2, _, k3⟩ := run_append_own_at (P := Tryd.prog) (w := w) base TS o.type T i z k bytes hT.u hi hz e1 e2 e3 hT.k0 v n (l.flatMap c) hB ad news.length cp' (news.flatMap c) hln hrow (gm_one h1 news) hmx hby hb2
   rw [← List.flatMap_append] at k1
   refine .inl ⟨v', W', ?_, ext_grownG hB hb hE k2, grown_T hB k2, k1⟩
   simp [execOp, ho, resolve, invoke, builtin, hs, hx, hr, Result.andThen]
/-- append to an empty list that has just been laid: nothing that stands is written. -/
theorem rt_append0 (hT : Elt TS T k bytes) (hc : ∀ x, (c x).length = k) {s x : Operand} (ho : o.op = .call { callee := .builtin .append, args := #[s, x], argTypes := #[TS, TS] }) {v va : Value} (hs : a.eval s = v) (hx : a.eval x = va) {m : Nat} {news : List α}
   (hB : New0 base T v w) (hR : RdG c k w va news) (hm : news.length = m) (hmx : m ≤ maxLen) (hby : m * bytes ≤ 140737488355328) (hE : Ext w0 w) (hb2 : base ≤ w.heap.size) :
   RunsTo Tryd.prog o a w (fun v' w' => Ext w0 w' ∧ GrW none w w' ∧ w'.ownsRow base T k v' m (news.flatMap c)) := by
 subst hm
 have hBo : w.ownsRow base T k v 0 [] := hB.own
 obtain ⟨i, z, hi, hz, e1, e2, e3⟩ := hT.i
 obtain ⟨hln, p, cp', hv, hrow⟩ := hR.row hc hT.k0
 subst hv
 obtain ⟨g, rfl, hg1, hg2⟩ := hB
 by_cases hn : news = []
 · subst hn
   refine .inl ⟨.slice (some ⟨g, 0, none⟩) 0 0, w, ?_, hE, Ext.refl _, hBo⟩
   have : (Builtin.append_ #[TS, TS] o.type #[.slice (some ⟨g, 0, none⟩) 0 0, .slice p 0 cp']).run Tryd.prog w = .ok (.slice (some ⟨g, 0, none⟩) 0 0) w := by
     cases p with
     | none => exact run_append_noneG hT w o.type _ 0 0 cp' (Nat.le_refl _)
     | some a => simp [Builtin.append_, run_underlying hT.u, sizeOf, typeInfo, hi, Builtin.lenOf, Builtin.firstCells, loadCells, loadCellsFrom, storeCells]
   simp [execOp, ho, resolve, invoke, builtin, hs, hx, Result.andThen] at this ⊢
   rw [this]
 · rcases hrow with ⟨rfl, h0⟩ | ⟨ad, rfl, hrow⟩
   · exact absurd (List.eq_nil_of_length_eq_zero h0) hn
   · have hpos := List.length_pos_iff.2 hn
     have hr := run_append_grow (P := Tryd.prog) w TS o.type T i z hT.u hi hz ⟨g, 0, none⟩ 0 0 [] (by simp) (by intro j v hj; simp at hj) ad news.length cp' (news.flatMap c) (by rw [e1]; exact hln) hrow (by omega) (by unfold maxLen at hmx; omega) (growslice_fits (by omega) (by rw [Nat.zero_add, e2]; exact hby))
     rw [Nat.zero_add] at hr
     refine .inl ⟨.slice (some ⟨w.heap.size, 0, none⟩) news.length (grownCap w news.length 0 T), w.drew.alloc (.cells (([] : List Value).toArray ++ (news.flatMap c).toArray ++ Builtin.zeroCells z.cells (grownCap w news.length 0 T - news.length)) T), ?_, hE.drew.alloc _, (Ext.refl _).drew.alloc _, ?_⟩
     · simp only [execOp, ho, resolve, invoke, builtin, Sem.run_bind, Sem.run_pure, Result.andThen_ok, List.map_toArray, List.map_cons, List.map_nil, hs, hx, hr]
     · refine ⟨hln, .inr ⟨w.heap.size, _, _, rfl, hb2, heap_alloc_new w.drew _, grownCap_ge w _ _ _, grownCap_le_maxLen w _ _ _ hmx, ?_, ?_⟩⟩
       · simp only [Array.size_append, List.size_toArray, size_zeroCells, e3, hln]
         have := grownCap_ge w news.length 0 T
         simp only [List.length_nil, Nat.zero_add]
         rw [← Nat.add_mul]
         congr 1
         omega
       · simp only [Array.toList_append, List.append_assoc]
         rw [← hln]
         simp
end
end Go.Proofs.YteaoeichgibgiaaDoor
