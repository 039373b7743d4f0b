/-
 Rows that are made whole, and written into.
 Operations that come up in whatever order: slices made, append.
 A lane behind a column's: the document's Put (layer 19).
 The contracts of package value's ToNum and of its operators, which are functions that are answered.
 The contract of package value's Arith.
 The contracts of package value's Arith, whatever the operator, and of the statements' look whether anything lives.
 The contracts of package value's truth and named.
 The contract of package value's Literal.
-/
import Derived.Test.YteaoeichgibgiaaDoorY6
import Derived.Laws.OwnMore
import Derived.Test.YteaoeichgibgiaaDoorY5
import Derived.Deep.DeepCutAuto
import Derived.Deep.Light
namespace Go.Proofs.YteaoeichgibgiaaDoor
open Go.RowKit
set_option maxHeartbeats 4000000

/-- Block g holds these numbers, and may be written. -/
structure CelI (W : World) (g : Nat) (a : List Int) : Prop where
 lt : g < W.heap.size
 c : ∀ i x, a[i]? = some x → W.cell? ⟨g, i, none⟩ = some (.int .i64 x) ∧ W.frozen? ⟨g, i, none⟩ = false
theorem CelI.ext {W W' : World} {g : Nat} {a : List Int} (h : CelI W g a) (e : Ext W W') : CelI W' g a :=
 ⟨Nat.lt_of_lt_of_le h.lt e.size, fun i x hx => ⟨(e.cell.1 g _ h.lt).trans (h.c i x hx).1, (e.cell.2 g _ h.lt).trans (h.c i x hx).2⟩⟩
theorem CelI.far1 {W : World} {g b o : Nat} {a : List Int} (h : CelI W g a) (hb : b ≠ g) (u : Value) : CelI (W.setCell ⟨b, o, none⟩ u) g a := by
 refine ⟨by simpa [World.setCell] using h.lt, fun i x hx => ⟨?_, ?_⟩⟩
 · rw [World.cell?_setCell_other _ _ _ _ (by first | (simp; done) | (simp; intro h; exact absurd h.symm hb))]; exact (h.c i x hx).1
 · rw [World.frozen?_setCell]; exact (h.c i x hx).2
theorem CelI.set {W : World} {g k : Nat} {a : List Int} (h : CelI W g a) (hk : k < a.length) (y : Int) : CelI (W.setCell ⟨g, k, none⟩ (.int .i64 y)) g (a.set k y) := by
 refine ⟨by simpa [World.setCell] using h.lt, fun i x hx => ?_⟩
 by_cases hik : i = k
 · subst hik
   rw [List.getElem?_set_self hk] at hx
   obtain rfl := Option.some.inj hx
   obtain ⟨c0, f0⟩ := h.c i a[i] (List.getElem?_eq_getElem hk)
   exact ⟨World.cell?_setCell_same _ _ _ (by rw [c0]), by rw [World.frozen?_setCell]; exact f0⟩
 · rw [List.getElem?_set_ne (fun h => hik h.symm)] at hx
   obtain ⟨c0, f0⟩ := h.c i x hx
   exact ⟨(World.cell?_setCell_other _ _ _ _ (by first | (simp; done) | (simp; omega))).trans c0, by rw [World.frozen?_setCell]; exact f0⟩
theorem CelI.rd {W : World} {g N : Nat} {a : List Int} (h : CelI W g a) (hN : a.length = N) : RdI W (.slice (some ⟨g, 0, none⟩) N N) a := by
 subst hN
 refine ⟨_, _, rfl, Nat.le_refl _, .inr ⟨g, 0, rfl, h.lt, fun i x j u hi hj => ?_⟩⟩
 match j, hj with
 | 0, hj =>
   simp [dI] at hj
   subst hj
   have := (h.c i x hi).1
   simpa using this
 | j + 1, hj => simp [dI] at hj
def zI (n : Nat) : Array Value := madeCells #[.int .i64 0] n
theorem zI_at (n i : Nat) (h : i < n) : (zI n)[i]? = some (.int .i64 0) := by
 have h1 : (zI n).toList = List.replicate n (.int .i64 0) := toList_madeCells_one _ _
 have h2 : (zI n).toList[i]? = some (.int .i64 0) := by rw [h1, List.getElem?_replicate, if_pos h]
 rw [Array.getElem?_toList] at h2
 exact h2
theorem make_by {TS T : TypeId} {bytes : Nat} (hu : Tryd.prog.underlying TS = some (.slice T)) (h1 : (Tryd.prog.info? T).isSome = true) (h2 : (Tryd.prog.info? T).bind (fun i => i.zero) = some (.int .i64 0)) (h3 : (Tryd.prog.info? T).map (fun i => (i.size, i.bytes)) = some (1, bytes)) (hb : bytes ≤ 1000) (n : Nat) (hn : n ≤ 1000000) (W : World) :
   (Instr.makeSlice TS (.int .i64 (n : Int)) (.int .i64 (n : Int))).run Tryd.prog W = .ok (.slice (some ⟨W.heap.size, 0, none⟩) n n) (W.alloc (.cells (zI n) T)) := by
 cases h : Tryd.prog.info? T with
 | none => rw [h] at h1; cases h1
 | some i =>
   rw [h] at h2 h3
   simp at h2 h3
   have hbi : (i.bytes : Int) * (n : Int) ≤ 281474976710656 := by
     rw [h3.2]
     have : bytes * n ≤ 1000 * 1000000 := Nat.mul_le_mul hb hn
     have e : ((bytes * n : Nat) : Int) = (bytes : Int) * (n : Int) := Int.natCast_mul ..
     omega
   have := run_make (P := Tryd.prog) (w := W) TS T i _ hu h h2 .i64 .i64 n n (by omega) (by omega) hbi (by omega)
   rw [h3.1, show ((n : Int).toNat * 1) = n by simp] at this
   exact this
theorem make_int (n : Nat) (hn : n ≤ 1000000) (W : World) : (Instr.makeSlice 24 (.int .i64 (n : Int)) (.int .i64 (n : Int))).run Tryd.prog W = .ok (.slice (some ⟨W.heap.size, 0, none⟩) n n) (W.alloc (.cells (zI n) 3)) :=
 make_by (bytes := 8) Tryd.underlying24 (by kernel_rfl) (by kernel_rfl) (by kernel_rfl) (by decide) n hn W
theorem make_i64 (n : Nat) (hn : n ≤ 1000000) (W : World) : (Instr.makeSlice 23 (.int .i64 (n : Int)) (.int .i64 (n : Int))).run Tryd.prog W = .ok (.slice (some ⟨W.heap.size, 0, none⟩) n n) (W.alloc (.cells (zI n) 2)) :=
 make_by (bytes := 8) Tryd.underlying23 (by kernel_rfl) (by kernel_rfl) (by kernel_rfl) (by decide) n hn W
def zeR : Rw := ⟨0, 0, ⟨#[]⟩, 0⟩
/-- Block g holds these values, and may be written. -/
structure CelV (W : World) (g : Nat) (a : List Rw) : Prop where
 lt : g < W.heap.size
 c : ∀ i r, a[i]? = some r → (W.cell? ⟨g, i * 4, none⟩ = some (.int .i64 r.k) ∧ W.cell? ⟨g, i * 4 + 1, none⟩ = some (.int .i64 r.n) ∧ W.cell? ⟨g, i * 4 + 2, none⟩ = some (.string r.s) ∧ W.cell? ⟨g, i * 4 + 3, none⟩ = some (.int .i64 r.e)) ∧
   (W.frozen? ⟨g, i * 4, none⟩ = false ∧ W.frozen? ⟨g, i * 4 + 1, none⟩ = false ∧ W.frozen? ⟨g, i * 4 + 2, none⟩ = false ∧ W.frozen? ⟨g, i * 4 + 3, none⟩ = false)
theorem CelV.ext {W W' : World} {g : Nat} {a : List Rw} (h : CelV W g a) (e : Ext W W') : CelV W' g a := by
 refine ⟨Nat.lt_of_lt_of_le h.lt e.size, fun i r hr => ?_⟩
 obtain ⟨⟨c0, c1, c2, c3⟩, f0, f1, f2, f3⟩ := h.c i r hr
 have k := fun o => e.cell.1 g o h.lt
 have l := fun o => e.cell.2 g o h.lt
 exact ⟨⟨(k _).trans c0, (k _).trans c1, (k _).trans c2, (k _).trans c3⟩, (l _).trans f0, (l _).trans f1, (l _).trans f2, (l _).trans f3⟩
theorem CelV.far1 {W : World} {g b o : Nat} {a : List Rw} (h : CelV W g a) (hb : b ≠ g) (u : Value) : CelV (W.setCell ⟨b, o, none⟩ u) g a := by
 refine ⟨by simpa [World.setCell] using h.lt, fun i r hr => ?_⟩
 obtain ⟨⟨c0, c1, c2, c3⟩, f0, f1, f2, f3⟩ := h.c i r hr
 have k : ∀ o', (W.setCell ⟨b, o, none⟩ u).cell? ⟨g, o', none⟩ = W.cell? ⟨g, o', none⟩ := fun o' => World.cell?_setCell_other _ _ _ _ (by first | (simp; done) | (simp; intro h; exact absurd h.symm hb))
 refine ⟨⟨(k _).trans c0, (k _).trans c1, (k _).trans c2, (k _).trans c3⟩, ?_, ?_, ?_, ?_⟩ <;> (rw [World.frozen?_setCell]; assumption)
theorem CelV.set {W : World} {g k : Nat} {a : List Rw} (h : CelV W g a) (hk : k < a.length) (r : Rw) : CelV ((((W.setCell ⟨g, k * 4, none⟩ (.int .i64 r.k)).setCell ⟨g, k * 4 + 1, none⟩ (.int .i64 r.n)).setCell ⟨g, k * 4 + 2, none⟩ (.string r.s)).setCell ⟨g, k * 4 + 3, none⟩ (.int .i64 r.e)) g (a.set k r) := by
 refine ⟨by simpa [World.setCell] using h.lt, fun i x hx => ?_⟩
 have fz : ∀ o, W.frozen? ⟨g, o, none⟩ = false → ((((W.setCell ⟨g, k * 4, none⟩ (.int .i64 r.k)).setCell ⟨g, k * 4 + 1, none⟩ (.int .i64 r.n)).setCell ⟨g, k * 4 + 2, none⟩ (.string r.s)).setCell ⟨g, k * 4 + 3, none⟩ (.int .i64 r.e)).frozen? ⟨g, o, none⟩ = false := fun o ho => by
   rw [World.frozen?_setCell, World.frozen?_setCell, World.frozen?_setCell, World.frozen?_setCell]; exact ho
 have ot : ∀ o, o ≠ k * 4 → o ≠ k * 4 + 1 → o ≠ k * 4 + 2 → o ≠ k * 4 + 3 → ((((W.setCell ⟨g, k * 4, none⟩ (.int .i64 r.k)).setCell ⟨g, k * 4 + 1, none⟩ (.int .i64 r.n)).setCell ⟨g, k * 4 + 2, none⟩ (.string r.s)).setCell ⟨g, k * 4 + 3, none⟩ (.int .i64 r.e)).cell? ⟨g, o, none⟩ = W.cell? ⟨g, o, none⟩ := fun o h0 h1 h2 h3 => by
   rw [World.cell?_setCell_other _ _ _ _ (by simp <;> omega), World.cell?_setCell_other _ _ _ _ (by simp <;> omega), World.cell?_setCell_other _ _ _ _ (by simp <;> omega), World.cell?_setCell_other _ _ _ _ (by simp <;> omega)]
 by_cases hik : i = k
 · subst hik
   rw [List.getElem?_set_self hk] at hx
   obtain rfl := Option.some.inj hx
   obtain ⟨⟨c0, c1, c2, c3⟩, f0, f1, f2, f3⟩ := h.c i a[i] (List.getElem?_eq_getElem hk)
   refine ⟨⟨?_, ?_, ?_, ?_⟩, fz _ f0, fz _ f1, fz _ f2, fz _ f3⟩
   · rw [World.cell?_setCell_other _ _ _ _ (by simp), World.cell?_setCell_other _ _ _ _ (by simp), World.cell?_setCell_other _ _ _ _ (by simp)]
     exact World.cell?_setCell_same _ _ _ (by rw [c0])
   · rw [World.cell?_setCell_other _ _ _ _ (by simp), World.cell?_setCell_other _ _ _ _ (by simp)]
     exact World.cell?_setCell_same _ _ _ (by rw [World.cell?_setCell_other _ _ _ _ (by simp), c1])
   · rw [World.cell?_setCell_other _ _ _ _ (by simp)]
     exact World.cell?_setCell_same _ _ _ (by rw [World.cell?_setCell_other _ _ _ _ (by simp), World.cell?_setCell_other _ _ _ _ (by simp), c2])
   · exact World.cell?_setCell_same _ _ _ (by rw [World.cell?_setCell_other _ _ _ _ (by simp), World.cell?_setCell_other _ _ _ _ (by simp), World.cell?_setCell_other _ _ _ _ (by simp), c3])
 · rw [List.getElem?_set_ne (fun h => hik h.symm)] at hx
   obtain ⟨⟨c0, c1, c2, c3⟩, f0, f1, f2, f3⟩ := h.c i x hx
   exact ⟨⟨(ot _ (by omega) (by omega) (by omega) (by omega)).trans c0, (ot _ (by omega) (by omega) (by omega) (by omega)).trans c1, (ot _ (by omega) (by omega) (by omega) (by omega)).trans c2, (ot _ (by omega) (by omega) (by omega) (by omega)).trans c3⟩, fz _ f0, fz _ f1, fz _ f2, fz _ f3⟩
theorem CelV.rd {W : World} {g N : Nat} {a : List Rw} (h : CelV W g a) (hN : a.length = N) : RdV W.heap.size W (.slice (some ⟨g, 0, none⟩) N N) a := by
 subst hN
 refine ⟨_, _, rfl, Nat.le_refl _, .inr ⟨g, 0, rfl, h.lt, h.lt, fun i r hr => ?_⟩⟩
 have := (h.c i r hr).1
 simpa using this
def zA (N : Nat) : Array Value := madeCells #[.int .i64 0, .int .i64 0, .string ⟨#[]⟩, .int .i64 0] (N * 4)
theorem zA_at (N i j : Nat) (hi : i < N) (hj : j < 4) : (zA N)[i * 4 + j]? = (#[.int .i64 0, .int .i64 0, .string ⟨#[]⟩, .int .i64 0] : Array Value)[j]? := by
 unfold zA madeCells
 have e : (i * 4 + j) % 4 = j := by omega
 rw [Array.getElem?_map, Array.getElem?_range]
 rw [if_pos (by omega)]
 show some ((#[.int .i64 0, .int .i64 0, .string ⟨#[]⟩, .int .i64 0] : Array Value)[(i * 4 + j) % 4]!) = _
 rw [e]
 match j, hj with
 | 0, _ => rfl
 | 1, _ => rfl
 | 2, _ => rfl
 | 3, _ => rfl
theorem celv_new (W : World) (N : Nat) : CelV (W.alloc (.cells (zA N) 33)) W.heap.size (List.replicate N zeR) := by
 have ht := top_heap W (.cells (zA N) 33)
 refine ⟨by simp, fun i r hr => ?_⟩
 rw [List.getElem?_replicate] at hr
 split at hr
 · rename_i hi
   obtain rfl := Option.some.inj hr
   have k := fun o => cell_of_row _ _ o _ _ (0, 0) ht
   refine ⟨⟨?_, ?_, ?_, ?_⟩, ?_, ?_, ?_, ?_⟩
   · rw [k]; exact zA_at N i 0 hi (by decide)
   · rw [k]; exact zA_at N i 1 hi (by decide)
   · rw [k]; exact zA_at N i 2 hi (by decide)
   · rw [k]; exact zA_at N i 3 hi (by decide)
   all_goals exact frozen_of_row _ _ _ _ _ ht
 · cases hr
theorem make_zA (N : Nat) (h : N ≤ 52000) (w : World) : (Instr.makeSlice 22 (.int .i64 (N : Int)) (.int .i64 (N : Int))).run Tryd.prog w = .ok (.slice (some ⟨w.heap.size, 0, none⟩) N N) (w.alloc (.cells (zA N) 33)) := by
 have h2 : (Tryd.prog.info? 33).bind (fun i => i.zero) = some (.agg #[.int .i64 0, .int .i64 0, .string ⟨#[]⟩, .int .i64 0]) := by kernel_rfl
 have h3 : (Tryd.prog.info? 33).map (fun i => (i.size, i.bytes)) = some (4, 40) := by kernel_rfl
 cases hi : Tryd.prog.info? 33 with
 | none => rw [hi] at h3; cases h3
 | some i =>
   rw [hi] at h2 h3
   simp at h2 h3
   have := run_make (P := Tryd.prog) (w := w) 22 33 i _ Tryd.underlying22 hi h2 .i64 .i64 (N : Int) (N : Int) (by omega) (by omega) (by rw [h3.2]; omega) (by omega)
   rw [h3.1] at this
   simpa [zA, Value.cells] using this
/-- Two lists of the call's own. -/
def VecO (B : Nat) (W : World) (u v : Value) (N E : List Int) : Prop := W.ownsRow B 2 1 u N.length (N.flatMap dI) ∧ W.ownsRow B 3 1 v E.length (E.flatMap dI)
theorem VecO.rd1 {B : Nat} {W : World} {u v : Value} {N E : List Int} (h : VecO B W u v N E) : RdI W u N := own_rdG dI_len h.1 rfl
theorem VecO.rd2 {B : Nat} {W : World} {u v : Value} {N E : List Int} (h : VecO B W u v N E) : RdI W v E := own_rdG dI_len h.2 rfl
theorem VecO.ext {B : Nat} {W W' : World} {u v : Value} {N E : List Int} (h : VecO B W u v N E) (e : Ext W W') : VecO B W' u v N E := ⟨ownsRow_ext h.1 e, ownsRow_ext h.2 e⟩
theorem VecO.low {B B' : Nat} {W : World} {u v : Value} {N E : List Int} (h : VecO B W u v N E) (e : B' ≤ B) : VecO B' W u v N E := ⟨ownsRow_mono h.1 e, ownsRow_mono h.2 e⟩
/-- A slice that is read, and that no array's element holds. -/
def RdZ (W : World) (v : Value) (l : List Int) : Prop := RdI W v l ∧ ∀ p n c ad, v = .slice p n c → p = some ad → ad.spot = none
theorem RdZ.ext {W W' : World} {v : Value} {l : List Int} (h : RdZ W v l) (e : Ext W W') : RdZ W' v l := ⟨h.1.ext e, h.2⟩
theorem own_rdZ {B n : Nat} {W : World} {T : TypeId} {v : Value} {l : List Int} (h : W.ownsRow B T 1 v n (l.flatMap dI)) (hn : n = l.length) : RdZ W v l := by
 refine ⟨own_rdG dI_len h hn, fun p n c ad e1 e2 => ?_⟩
 rcases h.2 with ⟨rfl, _⟩ | ⟨g, cap, cur, rfl, _⟩
 · cases e1; cases e2
 · cases e1; cases e2; rfl
theorem VecO.z1 {B : Nat} {W : World} {u v : Value} {N E : List Int} (h : VecO B W u v N E) : RdZ W u N := own_rdZ h.1 rfl
theorem VecO.z2 {B : Nat} {W : World} {u v : Value} {N E : List Int} (h : VecO B W u v N E) : RdZ W v E := own_rdZ h.2 rfl
/-- A column's own block. -/
def VB (w : World) (b : Nat) (x y : Value) : Prop := w.heap[b]? = some (.cells #[x, y] 26 (0, 0))
theorem VB.lt {w : World} {b : Nat} {x y : Value} (h : VB w b x y) : b < w.heap.size := heap_lt h
theorem VB.blk {w : World} {b : Nat} {x y : Value} (h : VB w b x y) : Blk2 w b x y :=
 ⟨h.lt, ⟨by rw [cell_of_row w b 0 _ _ (0, 0) h]; rfl, by rw [cell_of_row w b 1 _ _ (0, 0) h]; rfl⟩, frozen_of_row w b 0 _ _ h, frozen_of_row w b 1 _ _ h⟩
theorem VB.ext {w w' : World} {b : Nat} {x y : Value} (h : VB w b x y) (e : Ext w w') : VB w' b x y := (e.block b h.lt).trans h
theorem VB.extT {w w' : World} {b : Nat} {x y : Value} {T : TypeId} (h : VB w b x y) (hT : 26 ≠ T) (e : ExtT T w w') : VB w' b x y := (e.block b _ _ _ h hT).trans h
theorem VB.far {w : World} {b c o : Nat} {x y : Value} (h : VB w b x y) (hc : b ≠ c) (u : Value) : VB (w.setCell ⟨c, o, none⟩ u) b x y := (heap_setCell_other w ⟨c, o, none⟩ b u hc).trans h
theorem VB.set {w : World} {b : Nat} {x y : Value} (h : VB w b x y) (u v : Value) : VB ((w.setCell ⟨b, 0, none⟩ u).setCell ⟨b, 1, none⟩ v) b u v := by
 have h1 := heap_setCell_same w b 0 #[x, y] 26 u h
 have h2 := heap_setCell_same _ b 1 _ 26 v h1
 exact h2
theorem vb_top {w w' : World} {b : Nat} {x y : Value} (hb : b = w.heap.size) (e : Ext (w.alloc (.cells #[x, y] 26)) w') : VB w' b x y := by
 subst hb
 exact (e.block w.heap.size (by simp)).trans (top_heap w _)
theorem meas_lt {j n : Nat} {v : Value} (hv : v = .int .i64 ((j + 1 : Nat) : Int)) (h : j < n) : n - (intOf v).toNat < n - (intOf (.int .i64 (j : Int))).toNat := by
 subst hv
 rw [show intOf (.int .i64 ((j + 1 : Nat) : Int)) = ((j + 1 : Nat) : Int) from rfl, show intOf (.int .i64 (j : Int)) = (j : Int) from rfl, Int.toNat_natCast, Int.toNat_natCast]
 omega

open Go.RowKit
set_option maxHeartbeats 1000000

theorem wpAnyH_letter {P : Program} {md : Region.Mode} {ops : Array Oper} {Q : Exit → Act → World → Prop} {S : World → Prop} {n : Nat} {l : Array Bool} {a : Act} {w : World}
   (h : ∀ A, A = a → wpAnyH P md ops Q S n l A w) : wpAnyH P md ops Q S n l a w := h a rfl
/-- The temporaries ds of A hold X. -/
def mkA (ds : List (Nat × Nat)) (A : Act) (X : Nat → Value) : Act := ds.foldl (fun a d => a.put (some d.2) (X d.1)) A
theorem Ext.some {w w' : World} (e : Ext w w') {b o : Nat} {v : Value} (h : w.cell? ⟨b, o, none⟩ = some v) : w'.cell? ⟨b, o, none⟩ = some v :=
 (e.cell.1 b o (World.block_lt_of_cell? _ _ h)).trans h
/-- An empty list, just laid. -/
def New0 (base : Nat) (T : TypeId) (v : Value) (w : World) : Prop := ∃ g, v = .slice (some ⟨g, 0, none⟩) 0 0 ∧ base ≤ g ∧ w.heap[g]? = some (.cells #[] T (0, 0))
/-- A list of one, just laid. -/
def New1 (T : TypeId) (e : Value) (v : Value) (w : World) : Prop := ∃ g, v = .slice (some ⟨g, 0, none⟩) 1 1 ∧ w.heap[g]? = some (.cells #[e] T (0, 0))
theorem New0.ext {base : Nat} {T : TypeId} {v : Value} {w w' : World} (h : New0 base T v w) (e : Ext w w') : New0 base T v w' := by
 obtain ⟨g, h1, h2, h3⟩ := h
 exact ⟨g, h1, h2, (e.block g (heap_lt h3)).trans h3⟩
theorem New0.keep {base : Nat} {T T' : TypeId} {v : Value} {w w' : World} (h : New0 base T v w) (ht : some T ≠ some T') (e : ExtT T' w w') : New0 base T v w' := by
 obtain ⟨g, h1, h2, h3⟩ := h
 exact ⟨g, h1, h2, (e.block g _ _ _ h3 (fun x => ht (congrArg _ x))).trans h3⟩
theorem New1.ext {T : TypeId} {u v : Value} {w w' : World} (h : New1 T u v w) (e : Ext w w') : New1 T u v w' := by
 obtain ⟨g, h1, h3⟩ := h
 exact ⟨g, h1, (e.block g (heap_lt h3)).trans h3⟩
theorem New1.keep {T T' : TypeId} {u v : Value} {w w' : World} (h : New1 T u v w) (ht : some T ≠ some T') (e : ExtT T' w w') : New1 T u v w' := by
 obtain ⟨g, h1, h3⟩ := h
 exact ⟨g, h1, (e.block g _ _ _ h3 (fun x => ht (congrArg _ x))).trans h3⟩
theorem New1.rd {α : Type} {c : α → List Value} {e : α → Value} (he : ∀ x, c x = [e x]) {T : TypeId} {x : α} {v : Value} {w : World} (h : New1 T (e x) v w) : RdG c 1 w v [x] := by
 obtain ⟨g, rfl, h3⟩ := h
 refine RdG.one h3 (fun j v hj => ?_)
 rw [he] at hj
 match j, hj with
 | 0, hj => simpa using hj
 | j + 1, hj => simp at hj
theorem New0.own {base k : Nat} {T : TypeId} {v : Value} {w : World} (h : New0 base T v w) : w.ownsRow base T k v 0 [] := by
 obtain ⟨g, rfl, h2, h3⟩ := h
 exact ⟨by simp, .inr ⟨g, 0, #[], rfl, h2, h3, Nat.le_refl _, by simp, by simp, by simp⟩⟩
theorem ownsRow_keep {w w' : World} {base : Nat} {T T' : TypeId} {k n : Nat} {v : Value} {xs : List Value} (h : w.ownsRow base T k v n xs) (ht : some T ≠ some T') (e : ExtT T' w w') : w'.ownsRow base T k v n xs := by
 refine ⟨h.1, ?_⟩
 rcases h.2 with h | ⟨g, cap, cur, h1, h2, h3, h4⟩
 · exact .inl h
 · exact .inr ⟨g, cap, cur, h1, h2, (e.block g _ _ _ h3 (fun x => ht (congrArg _ x))).trans h3, h4⟩
/-- What append may turn: rows of one type. -/
theorem grown_T {W W' : World} {base : Nat} {T : TypeId} {k n : Nat} {v : Value} {xs : List Value} (hB : W.ownsRow base T k v n xs) (hg : W.grownBy W' v.ownBlock) : ExtT T W W' := by
 refine ⟨hg.size, fun b cur T' fr hb hT => hg.block b (heap_lt hb) (fun e => ?_)⟩
 rcases hB.2 with ⟨rfl, _⟩ | ⟨g, cap, cur', rfl, _, h3, _⟩
 · cases e
 · have : g = b := by simpa [Value.ownBlock] using e.symm
   subst this
   rw [h3] at hb
   cases hb
   exact hT rfl
/-- A store below the base. -/
theorem own_off {w : World} {base n k : Nat} {T : TypeId} {v : Value} {xs : List Value} (h : w.ownsRow base T k v n xs) {b o : Nat} (hb : b < base) (u : Value) : (w.setCell ⟨b, o, none⟩ u).ownsRow base T k v n xs := by
 refine ⟨h.1, ?_⟩
 rcases h.2 with h | ⟨g, cap, cur, h1, h2, h3, h4⟩
 · exact .inl h
 · exact .inr ⟨g, cap, cur, h1, h2, (heap_setCell_other w ⟨b, o, none⟩ g u (fun e => by have : g = b := e; omega)).trans h3, h4⟩
section
variable {TS T : TypeId} {k bytes : Nat} {o : Oper} {a : Act} {w w0 : World} {base : Nat}
theorem rt_build0 (hT : Elt TS T k bytes) (ho : o.op = .buildSlice TS 0 #[]) (hb : base ≤ w.heap.size) (hE : Ext w0 w) : RunsTo Tryd.prog o a w (fun v w' => Ext w0 w' ∧ GrW none w w' ∧ New0 base T v w') := by
 obtain ⟨i, z, hi, hz, h1, h2, h3⟩ := hT.i
 refine .inl ⟨.slice (some ⟨w.heap.size, 0, none⟩) 0 0, w.alloc (.cells #[] T), ?_, hE.alloc _, (Ext.refl _).alloc _, w.heap.size, rfl, hb, top_heap w _⟩
 simp [execOp, ho, Instr.buildSlice, run_underlying hT.u, sizeOf, typeInfo, hi, Instr.fill, newRow, Result.andThen, Array.range_zero']
theorem rt_build1 (hT : Elt TS T 1 bytes) {y : Operand} (ho : o.op = .buildSlice TS 1 #[(0, y)]) {x : Value} (hy : a.eval y = x) (h1 : x.oneCell' = true) (hE : Ext w0 w) : RunsTo Tryd.prog o a w (fun v w' => Ext w0 w' ∧ GrW none w w' ∧ New1 T x v w') := by
 obtain ⟨i, z, hi, hz, e1, e2, e3⟩ := hT.i
 have hc : x.cells = #[x] := by
   cases hx : x <;> first | rfl | (rw [hx] at h1; cases h1)
 obtain ⟨u, hu⟩ := Array.size_eq_one_iff.1 e3
 refine .inl ⟨.slice (some ⟨w.heap.size, 0, none⟩) 1 1, w.alloc (.cells #[x] T), ?_, hE.alloc _, (Ext.refl _).alloc _, w.heap.size, rfl, top_heap w _⟩
 have : (Instr.buildSlice TS 1 #[(0, x)]).run Tryd.prog w = .ok (.slice (some ⟨w.heap.size, 0, none⟩) 1 1) (w.alloc (.cells #[x] T)) := by
   have hf : Instr.fill (fun i => some (i * 1, 1)) ((Array.range (1 * 1)).map (z.cells[· % z.cells.size]!)) [(0, x)] = some #[x] := by
     have hr : Array.range 1 = #[0] := by apply Array.toList_inj.1; rw [Array.toList_range]; rfl
     rw [hu, Nat.mul_one, hr]; simp [Instr.fill, hc]
   simp [Instr.buildSlice, run_underlying hT.u, sizeOf, typeInfo, zeroValue, hi, hz, e1, newRow]
   simp at hf
   rw [hf]
   rfl
 simp [execOp, ho, hy, this, Result.andThen]
variable {α : Type} {c : α → List Value}
theorem rt_append (hT : Elt TS T k bytes) (hc : ∀ x, (c x).length = k) (h1 : ∀ x, ∀ v ∈ c x, v.oneCell' = true) {s x : Operand} (ho : o.op = .call { callee := .builtin .append, args := #[s, x], argTypes := #[TS, TS] }) {v va : Value} (hs : a.eval s = v) (hx : a.eval x = va) {n m q : Nat} {l news : List α}
   (hB : w.ownsRow base T k v n (l.flatMap c)) (hR : RdG c k w va news) (hm : news.length = m) (hq : n + m = q) (hmx : q ≤ maxLen) (hby : q * bytes ≤ 140737488355328) (hE : Ext w0 w) (hb : w0.heap.size ≤ base) (hb2 : base ≤ w.heap.size) :
   RunsTo Tryd.prog o a w (fun v' w' => Ext w0 w' ∧ GrW (some T) w w' ∧ w'.ownsRow base T k v' q ((l ++ news).flatMap c)) := by
 subst hm hq
 obtain ⟨i, z, hi, hz, e1, e2, e3⟩ := hT.i
 obtain ⟨hln, p, cp', hv, hrow⟩ := hR.row hc hT.k0
 subst hv
 rcases hrow with ⟨rfl, h0⟩ | ⟨ad, rfl, hrow⟩
 · have hn : news = [] := List.eq_nil_of_length_eq_zero h0
   subst hn
   obtain ⟨p, cap, rfl, hc⟩ := own_form hB
   refine .inl ⟨.slice p n cap, w, ?_, hE, (Ext.refl _).toT T, by simpa using hB⟩
   have := run_append_noneG hT w o.type p n cap cp' hc
   simp [execOp, ho, resolve, invoke, builtin, hs, hx, Result.andThen] at this ⊢
   rw [this]
 · obtain ⟨v', W', hr, k1, k2, _, k3⟩ := run_append_own_at (P := Tryd.prog) (w := w) base TS o.type T i z k bytes hT.u hi hz e1 e2 e3 hT.k0 v n (l.flatMap c) hB ad news.length cp' (news.flatMap c) hln hrow (gm_one h1 news) hmx hby hb2
   rw [← List.flatMap_append] at k1
   refine .inl ⟨v', W', ?_, ext_grownG hB hb hE k2, grown_T hB k2, k1⟩
   simp [execOp, ho, resolve, invoke, builtin, hs, hx, hr, Result.andThen]
/-- append to an empty list that has just been laid: nothing that stands is written. -/
theorem rt_append0 (hT : Elt TS T k bytes) (hc : ∀ x, (c x).length = k) {s x : Operand} (ho : o.op = .call { callee := .builtin .append, args := #[s, x], argTypes := #[TS, TS] }) {v va : Value} (hs : a.eval s = v) (hx : a.eval x = va) {m : Nat} {news : List α}
   (hB : New0 base T v w) (hR : RdG c k w va news) (hm : news.length = m) (hmx : m ≤ maxLen) (hby : m * bytes ≤ 140737488355328) (hE : Ext w0 w) (hb2 : base ≤ w.heap.size) :
   RunsTo Tryd.prog o a w (fun v' w' => Ext w0 w' ∧ GrW none w w' ∧ w'.ownsRow base T k v' m (news.flatMap c)) := by
 subst hm
 have hBo : w.ownsRow base T k v 0 [] := hB.own
 obtain ⟨i, z, hi, hz, e1, e2, e3⟩ := hT.i
 obtain ⟨hln, p, cp', hv, hrow⟩ := hR.row hc hT.k0
 subst hv
 obtain ⟨g, rfl, hg1, hg2⟩ := hB
 by_cases hn : news = []
 · subst hn
   refine .inl ⟨.slice (some ⟨g, 0, none⟩) 0 0, w, ?_, hE, Ext.refl _, hBo⟩
   have : (Builtin.append_ #[TS, TS] o.type #[.slice (some ⟨g, 0, none⟩) 0 0, .slice p 0 cp']).run Tryd.prog w = .ok (.slice (some ⟨g, 0, none⟩) 0 0) w := by
     cases p with
     | none => exact run_append_noneG hT w o.type _ 0 0 cp' (Nat.le_refl _)
     | some a => simp [Builtin.append_, run_underlying hT.u, sizeOf, typeInfo, hi, Builtin.lenOf, Builtin.firstCells, loadCells, loadCellsFrom, storeCells]
   simp [execOp, ho, resolve, invoke, builtin, hs, hx, Result.andThen] at this ⊢
   rw [this]
 · rcases hrow with ⟨rfl, h0⟩ | ⟨ad, rfl, hrow⟩
   · exact absurd (List.eq_nil_of_length_eq_zero h0) hn
   · have hpos := List.length_pos_iff.2 hn
     have hr := run_append_grow (P := Tryd.prog) w TS o.type T i z hT.u hi hz ⟨g, 0, none⟩ 0 0 [] (by simp) (by intro j v hj; simp at hj) ad news.length cp' (news.flatMap c) (by rw [e1]; exact hln) hrow (by omega) (by unfold maxLen at hmx; omega) (growslice_fits (by omega) (by rw [Nat.zero_add, e2]; exact hby))
     rw [Nat.zero_add] at hr
     refine .inl ⟨.slice (some ⟨w.heap.size, 0, none⟩) news.length (grownCap w news.length 0 T), w.drew.alloc (.cells (([] : List Value).toArray ++ (news.flatMap c).toArray ++ Builtin.zeroCells z.cells (grownCap w news.length 0 T - news.length)) T), ?_, hE.drew.alloc _, (Ext.refl _).drew.alloc _, ?_⟩
     · simp only [execOp, ho, resolve, invoke, builtin, Sem.run_bind, Sem.run_pure, Result.andThen_ok, List.map_toArray, List.map_cons, List.map_nil, hs, hx, hr]
     · refine ⟨hln, .inr ⟨w.heap.size, _, _, rfl, hb2, heap_alloc_new w.drew _, grownCap_ge w _ _ _, grownCap_le_maxLen w _ _ _ hmx, ?_, ?_⟩⟩
       · simp only [Array.size_append, List.size_toArray, size_zeroCells, e3, hln]
         have := grownCap_ge w news.length 0 T
         simp only [List.length_nil, Nat.zero_add]
         rw [← Nat.add_mul]
         congr 1
         omega
       · simp only [Array.toList_append, List.append_assoc]
         rw [← hln]
         simp
end

open Go.RowKit
set_option maxHeartbeats 2000000

theorem dI_is (x : Int) : dI x = [.int .i64 x] := rfl
set_option maxRecDepth 100000 in
theorem rput_err (W : World) (a b : Value) (N E : List Int) (e : Int) (ha : RdI W a N) (hb : RdI W b E) (hn : N.length ≤ 1000000) (hm : E.length ≤ 1000000) :
   Calls Tryd.prog 24 #[.agg #[a, b], .agg #[.int .i64 4, .int .i64 0, .string noB, .int .i64 e]] W fun r w' => ∃ u v, r = .returned (.agg #[u, v]) ∧ VecO W.heap.size w' u v (N ++ [0]) (E ++ [e]) ∧ Ext W w' := by
 obtain ⟨p, cp, rfl, hzz⟩ := ha.form
 clear hzz
 obtain ⟨q, cq, rfl, hzz⟩ := hb.form
 clear hzz
 obtain ⟨n0, e1⟩ : ∃ n, N.length = n := ⟨_, rfl⟩
 obtain ⟨m, e2⟩ : ∃ n, E.length = n := ⟨_, rfl⟩
 rw [e1] at ha hn
 rw [e2] at hb hm
 rw [e1, e2]
 have HL : Hid (N.length = n0 ∧ E.length = m ∧ n0 ≤ 1000000 ∧ m ≤ 1000000) := ⟨e1, e2, hn, hm⟩
 obtain ⟨W1, hW⟩ : ∃ W1, ((W.alloc (.cells #[.slice p n0 cp, .slice q m cq] 26)).alloc (.cells #[.int .i64 4, .int .i64 0, .string noB, .int .i64 e] 33)).alloc (.cells #[.slice none 0 0, .slice none 0 0] 26) = W1 := ⟨_, rfl⟩
 have XW : Ext W W1 := by rw [← hW]; exact (((Ext.refl _).alloc _).alloc _).alloc _
 obtain ⟨_, ⟨k0, k1⟩, f0, f1⟩ : Blk2 W1 W.heap.size (.slice p n0 cp) (.slice q m cq) := by rw [← hW]; exact blk2_top rfl (((Ext.refl _).alloc _).alloc _)
 obtain ⟨_, ⟨m0, m1, m2, m3⟩, i0, i1, i2, i3⟩ : Blk W1 (W.heap.size + 1) (.int .i64 4) (.int .i64 0) (.string noB) (.int .i64 e) := by rw [← hW]; exact blk_top (by simp) ((Ext.refl _).alloc _)
 obtain ⟨hs1, ⟨j0, j1⟩, g0, g1⟩ : Blk2 W1 (W.heap.size + 1 + 1) (.slice none 0 0) (.slice none 0 0) := by rw [← hW]; exact blk2_top (by simp) (Ext.refl _)
 have HW : Hid (((W.alloc (.cells #[.slice p n0 cp, .slice q m cq] 26)).alloc (.cells #[.int .i64 4, .int .i64 0, .string noB, .int .i64 e] 33)).alloc (.cells #[.slice none 0 0, .slice none 0 0] 26) = W1) := hW
 have HA : Hid (RdI W1 (.slice p n0 cp) N) := ha.ext XW
 have HB : Hid (RdI W1 (.slice q m cq) E) := hb.ext XW
 have HX : Hid (Ext W W1) := XW
 have B1 : Hid (Blk2 W1 (W.heap.size + 1 + 1) (.slice none 0 0) (.slice none 0 0)) := by rw [← hW]; exact blk2_top (by simp) (Ext.refl _)
 clear ha hb hn hm e1 e2 hW XW
 go_enter Tryd.func24, Tryd.ntmps24
 go_upto_region 2 with fail
 rw [HW.out]
 refine wp_region_held_drew (S := fun w => w.cell? ⟨W.heap.size, 0, none⟩ = some (.slice p n0 cp) ∧ w.cell? ⟨W.heap.size, 1, none⟩ = some (.slice q m cq) ∧ w.cell? ⟨W.heap.size + 1, 3, none⟩ = some (.int .i64 e)) (by kernel_rfl) ?_ (fun hHeld0 => ?_)
 · exact ⟨k0, k1, m3⟩
 refine wpAnyH_take (i := 1) (oi := ⟨some 9, .fieldAddr 26 (.tmp 2) 0, 0, "ref.go:29", #[], none⟩) (v := ?_) rfl (by kernel_rfl) (by kernel_rfl) (by kernel_rfl) (fun _ _ _ h => h) (Or.inl ⟨by rfl, ?_⟩) (by assumption) ?_
 rotate_left
 · intro w hSw; (try dsimp only at hSw); first | (go_simp; done) | (go_simp; with_reducible rfl)
 try simp only [Act.put, List.setIfInBounds_toArray, List.set_cons_zero, List.set_cons_succ]
 refine wpAnyH_take (i := 2) (oi := ⟨some 10, .load 23 (.tmp 9), 23, "ref.go:29", #[⟨1, .data⟩], none⟩) (v := ?_) rfl (by kernel_rfl) (by kernel_rfl) (by kernel_rfl) (fun _ _ _ h => h) (Or.inl ⟨by rfl, ?_⟩) (by assumption) ?_
 rotate_left
 · intro w hSw; (try dsimp only at hSw); first | (go_simp; done) | (go_simp; with_reducible rfl)
 try simp only [Act.put, List.setIfInBounds_toArray, List.set_cons_zero, List.set_cons_succ]
 refine wpAnyH_take (i := 7) (oi := ⟨some 15, .fieldAddr 26 (.tmp 2) 1, 0, "ref.go:29", #[], none⟩) (v := ?_) rfl (by kernel_rfl) (by kernel_rfl) (by kernel_rfl) (fun _ _ _ h => h) (Or.inl ⟨by rfl, ?_⟩) (by assumption) ?_
 rotate_left
 · intro w hSw; (try dsimp only at hSw); first | (go_simp; done) | (go_simp; with_reducible rfl)
 try simp only [Act.put, List.setIfInBounds_toArray, List.set_cons_zero, List.set_cons_succ]
 refine wpAnyH_take (i := 8) (oi := ⟨some 16, .load 24 (.tmp 15), 24, "ref.go:29", #[⟨7, .data⟩], none⟩) (v := ?_) rfl (by kernel_rfl) (by kernel_rfl) (by kernel_rfl) (fun _ _ _ h => h) (Or.inl ⟨by rfl, ?_⟩) (by assumption) ?_
 rotate_left
 · intro w hSw; (try dsimp only at hSw); first | (go_simp; done) | (go_simp; with_reducible rfl)
 try simp only [Act.put, List.setIfInBounds_toArray, List.set_cons_zero, List.set_cons_succ]
 refine wpAnyH_take (i := 10) (oi := ⟨some 18, .fieldAddr 33 (.tmp 3) 3, 0, "ref.go:29", #[], none⟩) (v := ?_) rfl (by kernel_rfl) (by kernel_rfl) (by kernel_rfl) (fun _ _ _ h => h) (Or.inl ⟨by rfl, ?_⟩) (by assumption) ?_
 rotate_left
 · intro w hSw; (try dsimp only at hSw); first | (go_simp; done) | (go_simp; with_reducible rfl)
 try simp only [Act.put, List.setIfInBounds_toArray, List.set_cons_zero, List.set_cons_succ]
 refine wpAnyH_take (i := 11) (oi := ⟨some 19, .load 3 (.tmp 18), 3, "ref.go:29", #[⟨10, .data⟩], none⟩) (v := ?_) rfl (by kernel_rfl) (by kernel_rfl) (by kernel_rfl) (fun _ _ _ h => h) (Or.inl ⟨by rfl, ?_⟩) (by assumption) ?_
 rotate_left
 · intro w hSw; (try dsimp only at hSw); first | (go_simp; done) | (go_simp; with_reducible rfl)
 try simp only [Act.put, List.setIfInBounds_toArray, List.set_cons_zero, List.set_cons_succ]
 refine wpAnyH_letter (fun A0 hA0 => ?_)
 refine any_free_gen (l0 := #[false, true, true, false, false, false, false, true, true, false, true, true, false, false, false, false]) (lf := #[true, true, true, true, true, true, true, true, true, true, true, true, true, true, false, false]) ⟨[0, 3, 4, 5, 6, 9, 12, 13], [], (fun j => match j with | 5 => some 2 | 13 => some 3 | _ => none), (fun j => match j with | 0 => some 2 | 3 => some 2 | 4 => some 2 | 5 => some 2 | 6 => some 3 | 9 => some 3 | 12 => some 3 | 13 => some 3 | _ => none), (fun j => match j with | 0 => 3 | 3 => 5 | 4 => 5 | 6 => 9 | 9 => 13 | 12 => 13 | _ => 1000)⟩ (by kernel_rfl) (by kernel_rfl) 2 W1.drew _ (mkA [(0, 8), (3, 11), (4, 12), (5, 13), (6, 14), (9, 17), (12, 20), (13, 21)] A0) (fun j x w => match j with | 0 => New0 W1.heap.size 2 x w | 3 => w.ownsRow W1.heap.size 2 1 x n0 ((N).flatMap dI) | 4 => New1 2 (.int .i64 0) x w | 5 => w.ownsRow W1.heap.size 2 1 x (n0 + 1) ((N ++ [0]).flatMap dI) | 6 => New0 W1.heap.size 3 x w | 9 => w.ownsRow W1.heap.size 3 1 x m ((E).flatMap dI) | 12 => New1 3 (.int .i64 e) x w | 13 => w.ownsRow W1.heap.size 3 1 x (m + 1) ((E ++ [e]).flatMap dI) | _ => True) ?h01 (by assumption) ?hS ?hall ?hfin (fun j => match j with | 0 => A0.tmps.getD 8 undef | 3 => A0.tmps.getD 11 undef | 4 => A0.tmps.getD 12 undef | 5 => A0.tmps.getD 13 undef | 6 => A0.tmps.getD 14 undef | 9 => A0.tmps.getD 17 undef | 12 => A0.tmps.getD 20 undef | 13 => A0.tmps.getD 21 undef | _ => undef) ?hpre ?hX _ (by kernel_rfl)
 case h01 => exact Ext.refl _
 case hX => subst hA0; kernel_rfl
 case hS => intro i hi w w' hw e hg; exact ⟨e.some hHeld0.1, e.some hHeld0.2.1, e.some hHeld0.2.2⟩
 case hall =>
   subst hA0
   refine AllS.cons (o := ⟨some 8, .buildSlice 23 0 #[], 23, "ref.go:29", #[], none⟩) rfl rfl (fun _ _ => by kernel_rfl) (fun _ _ _ h e => h.ext e) (fun _ _ _ _ _ h ht e => h.keep (fun hh => ht hh) e) (fun X w' hE hSw hX => ?_) ?_
   · exact rt_build0 (base := W1.heap.size) dltL rfl hE.size hE
   refine AllS.cons (o := ⟨some 11, .call { callee := .builtin .append, args := #[.tmp 8, .tmp 10], argTypes := #[23, 23] }, 23, "ref.go:29", #[⟨0, .data⟩, ⟨2, .data⟩], none⟩) rfl rfl (fun _ _ => by kernel_rfl) (fun _ _ _ h e => ownsRow_ext h e) (fun _ _ _ _ _ h ht e => ownsRow_keep h (fun hh => ht hh) e) (fun X w' hE hSw hX => ?_) ?_
   · exact rt_append0 (base := W1.heap.size) (v := X 0) (va := .slice p n0 cp) dltL dI_len rfl (by kernel_rfl) (by kernel_rfl) (hX 0 (by kernel_rfl)) ((HA.out.ext (Ext.refl _).drew).ext hE) HL.out.1 (by have := HL.out; unfold maxLen; omega) (by have := HL.out; omega) hE hE.size
   refine AllS.cons (o := ⟨some 12, .buildSlice 23 1 #[(0, .const (.int .i64 0))], 23, "ref.go:29", #[], none⟩) rfl rfl (fun _ _ => by kernel_rfl) (fun _ _ _ h e => h.ext e) (fun _ _ _ _ _ h ht e => h.keep (fun hh => ht hh) e) (fun X w' hE hSw hX => ?_) ?_
   · exact rt_build1 dltL rfl (by kernel_rfl) rfl hE
   refine AllS.cons (o := ⟨some 13, .call { callee := .builtin .append, args := #[.tmp 11, .tmp 12], argTypes := #[23, 23] }, 23, "ref.go:29", #[⟨3, .data⟩, ⟨4, .data⟩, ⟨3, .chain⟩], none⟩) rfl rfl (fun _ _ => by kernel_rfl) (fun _ _ _ h e => ownsRow_ext h e) (fun _ _ _ _ _ h ht e => ownsRow_keep h (fun hh => ht hh) e) (fun X w' hE hSw hX => ?_) ?_
   · have f1 : w'.ownsRow W1.heap.size 2 1 (X 3) n0 (N.flatMap dI) := (hX 3 (by kernel_rfl))
     have f2 : New1 2 (.int .i64 0) (X 4) w' := (hX 4 (by kernel_rfl))
     exact rt_append (base := W1.heap.size) (v := X 3) (va := X 4) (m := 1) (q := n0 + 1) (l := N) (news := [0]) dltL dI_len dI_one rfl (by kernel_rfl) (by kernel_rfl) f1 (f2.rd dI_is) rfl rfl (by have := HL.out; unfold maxLen; omega) (by have := HL.out; omega) hE (Nat.le_refl _) hE.size
   refine AllS.cons (o := ⟨some 14, .buildSlice 24 0 #[], 24, "ref.go:29", #[], none⟩) rfl rfl (fun _ _ => by kernel_rfl) (fun _ _ _ h e => h.ext e) (fun _ _ _ _ _ h ht e => h.keep (fun hh => ht hh) e) (fun X w' hE hSw hX => ?_) ?_
   · exact rt_build0 (base := W1.heap.size) dltI rfl hE.size hE
   refine AllS.cons (o := ⟨some 17, .call { callee := .builtin .append, args := #[.tmp 14, .tmp 16], argTypes := #[24, 24] }, 24, "ref.go:29", #[⟨6, .data⟩, ⟨8, .data⟩, ⟨5, .chain⟩], none⟩) rfl rfl (fun _ _ => by kernel_rfl) (fun _ _ _ h e => ownsRow_ext h e) (fun _ _ _ _ _ h ht e => ownsRow_keep h (fun hh => ht hh) e) (fun X w' hE hSw hX => ?_) ?_
   · exact rt_append0 (base := W1.heap.size) (v := X 6) (va := .slice q m cq) dltI dI_len rfl (by kernel_rfl) (by kernel_rfl) (hX 6 (by kernel_rfl)) ((HB.out.ext (Ext.refl _).drew).ext hE) HL.out.2.1 (by have := HL.out; unfold maxLen; omega) (by have := HL.out; omega) hE hE.size
   refine AllS.cons (o := ⟨some 20, .buildSlice 24 1 #[(0, .tmp 19)], 24, "ref.go:29", #[⟨11, .data⟩], none⟩) rfl rfl (fun _ _ => by kernel_rfl) (fun _ _ _ h e => h.ext e) (fun _ _ _ _ _ h ht e => h.keep (fun hh => ht hh) e) (fun X w' hE hSw hX => ?_) ?_
   · exact rt_build1 dltI rfl (by kernel_rfl) rfl hE
   refine AllS.cons (o := ⟨some 21, .call { callee := .builtin .append, args := #[.tmp 17, .tmp 20], argTypes := #[24, 24] }, 24, "ref.go:29", #[⟨9, .data⟩, ⟨12, .data⟩, ⟨9, .chain⟩], none⟩) rfl rfl (fun _ _ => by kernel_rfl) (fun _ _ _ h e => ownsRow_ext h e) (fun _ _ _ _ _ h ht e => ownsRow_keep h (fun hh => ht hh) e) (fun X w' hE hSw hX => ?_) ?_
   · have f1 : w'.ownsRow W1.heap.size 3 1 (X 9) m (E.flatMap dI) := (hX 9 (by kernel_rfl))
     have f2 : New1 3 (.int .i64 e) (X 12) w' := (hX 12 (by kernel_rfl))
     exact rt_append (base := W1.heap.size) (v := X 9) (va := X 12) (m := 1) (q := m + 1) (l := E) (news := [e]) dltI dI_len dI_one rfl (by kernel_rfl) (by kernel_rfl) f1 (f2.rd dI_is) rfl rfl (by have := HL.out; unfold maxLen; omega) (by have := HL.out; omega) hE (Nat.le_refl _) hE.size
   exact AllS.nil
 case hpre =>
   exact AllP.nil
 case hfin =>
   intro X w' n' hE hSw hX
   subst hA0
   have f3 : w'.ownsRow W1.heap.size 2 1 (X 5) (n0 + 1) ((N ++ [0]).flatMap dI) := hX 5 (by kernel_rfl)
   have f7 : w'.ownsRow W1.heap.size 3 1 (X 13) (m + 1) ((E ++ [e]).flatMap dI) := hX 13 (by kernel_rfl)
   obtain ⟨p3, c3, h3, hz3⟩ := own_form f3
   obtain ⟨p7, c7, h7, hz7⟩ := own_form f7
   clear hz3 hz7 hX
   try simp only [mkA, List.foldl_cons, List.foldl_nil, Act.put, List.setIfInBounds_toArray, List.set_cons_zero, List.set_cons_succ]
   rw [h3, h7]
   rw [h3] at f3
   rw [h7] at f7
   clear h3 h7
   generalize X 0 = x0
   generalize X 3 = x3
   generalize X 4 = x4
   generalize X 6 = x6
   generalize X 9 = x9
   generalize X 12 = x12
   have F3 : Hid (w'.ownsRow W1.heap.size 2 1 (.slice p3 (n0 + 1) c3) (n0 + 1) ((N ++ [0]).flatMap dI)) := f3
   have F7 : Hid (w'.ownsRow W1.heap.size 3 1 (.slice p7 (m + 1) c7) (m + 1) ((E ++ [e]).flatMap dI)) := f7
   have XE : Hid (Ext W1 w') := (Ext.refl _).drew.trans hE
   have Z1 : Hid (Blk2 w' (W.heap.size + 1 + 1) (.slice none 0 0) (.slice none 0 0)) := B1.out.ext XE.out
   have hHeld1 : w'.cell? ⟨W.heap.size, 0, none⟩ = some (.slice p n0 cp) ∧ w'.cell? ⟨W.heap.size, 1, none⟩ = some (.slice q m cq) ∧ w'.cell? ⟨W.heap.size + 1, 3, none⟩ = some (.int .i64 e) := ⟨hE.some hHeld0.1, hE.some hHeld0.2.1, hE.some hHeld0.2.2⟩
   clear f3 f7 hE hHeld0 k0 k1 f0 f1 j0 j1 g0 g1 m0 m1 m2 m3 i0 i1 i2 i3
   obtain ⟨_, ⟨j0, j1⟩, g0, g1⟩ := Z1.out
   refine wpAnyH_take (i := 14) (oi := ⟨some 22, .build 26 #[(0, .tmp 13), (1, .tmp 21)], 26, "ref.go:29", #[⟨5, .data⟩, ⟨13, .data⟩], none⟩) (v := ?_) rfl (by kernel_rfl) (by kernel_rfl) (by kernel_rfl) (fun _ _ _ h => h) (Or.inl ⟨by rfl, ?_⟩) (by assumption) ?_
   rotate_left
   · intro w hSw; (try dsimp only at hSw); first | (go_simp; done) | (go_simp; with_reducible rfl)
   try simp only [Act.put, List.setIfInBounds_toArray, List.set_cons_zero, List.set_cons_succ]
   refine wpAnyH_ready (rs := [15]) (by kernel_rfl) (by simp) ?_
   refine AllReadyH.cons (o := ⟨none, .store 26 (.tmp 4) (.tmp 22), 0, "ref.go:29", #[⟨14, .data⟩, ⟨13, .chain⟩, ⟨0, .phase⟩, ⟨1, .phase⟩, ⟨2, .phase⟩, ⟨3, .phase⟩, ⟨4, .phase⟩, ⟨5, .phase⟩, ⟨6, .phase⟩, ⟨7, .phase⟩, ⟨8, .phase⟩, ⟨9, .phase⟩, ⟨10, .phase⟩, ⟨11, .phase⟩, ⟨12, .phase⟩, ⟨13, .phase⟩, ⟨14, .phase⟩], none⟩) rfl (fun K hK => ?_) AllReadyH.nil
   go_simp
   try go_wp2_with fail
   refine hK.out _ _ ?_ (fun hHeld0 => ?_)
   · (try dsimp only); obtain ⟨r0, r1, r2⟩ := hHeld1; exact ⟨by simp [r0, World.cell?_setCell_other], by simp [r1, World.cell?_setCell_other], by simp [r2, World.cell?_setCell_other]⟩
   clear hK K
   refine wpAnyH_done (by kernel_rfl) ?_ _
   have Z2 : Hid (Blk2 ((w'.setCell ⟨W.heap.size + 1 + 1, 0, none⟩ (.slice p3 (n0 + 1) c3)).setCell ⟨W.heap.size + 1 + 1, 1, none⟩ (.slice p7 (m + 1) c7)) (W.heap.size + 1 + 1) (.slice p3 (n0 + 1) c3) (.slice p7 (m + 1) c7)) := Z1.out.set _ _
   have R3 : Hid (VecO W.heap.size ((w'.setCell ⟨W.heap.size + 1 + 1, 0, none⟩ (.slice p3 (n0 + 1) c3)).setCell ⟨W.heap.size + 1 + 1, 1, none⟩ (.slice p7 (m + 1) c7)) (.slice p3 (n0 + 1) c3) (.slice p7 (m + 1) c7) (N ++ [0]) (E ++ [e])) := ⟨by rw [show ((N ++ [0] : List Int)).length = (n0 + 1) by simp [HL.out.1]]; exact ownsRow_mono (own_off (own_off F3.out hs1 _) hs1 _) HX.out.size, by rw [show ((E ++ [e] : List Int)).length = (m + 1) by simp [HL.out.2.1]]; exact ownsRow_mono (own_off (own_off F7.out hs1 _) hs1 _) HX.out.size⟩
   have X2 : Hid (Ext W ((w'.setCell ⟨W.heap.size + 1 + 1, 0, none⟩ (.slice p3 (n0 + 1) c3)).setCell ⟨W.heap.size + 1 + 1, 1, none⟩ (.slice p7 (m + 1) c7))) := ((HX.out.trans XE.out).setCell (by (try dsimp only); omega) _).setCell (by (try dsimp only); omega) _
   clear hHeld0 hHeld1 j0 j1 g0 g1 Z1 XE F3 F7 hs1
   generalize (w'.setCell ⟨W.heap.size + 1 + 1, 0, none⟩ (.slice p3 (n0 + 1) c3)).setCell ⟨W.heap.size + 1 + 1, 1, none⟩ (.slice p7 (m + 1) c7) = W2 at *
   go_wp2_with fail
   exact fin2 _ Z2.out rfl X2.out (fun g0 g1 => by simp [results, Tryd.results24, go_sem, g0, g1]) (fun h => ⟨_, _, rfl, R3.out, h⟩)
set_option maxRecDepth 100000 in
theorem rput_num (W : World) (a b : Value) (N E : List Int) (n : Int) (ha : RdI W a N) (hb : RdI W b E) (hn : N.length ≤ 1000000) (hm : E.length ≤ 1000000) :
   Calls Tryd.prog 24 #[.agg #[a, b], .agg #[.int .i64 2, .int .i64 n, .string noB, .int .i64 0]] W fun r w' => ∃ u v, r = .returned (.agg #[u, v]) ∧ VecO W.heap.size w' u v (N ++ [n]) (E ++ [0]) ∧ Ext W w' := by
 obtain ⟨p, cp, rfl, hzz⟩ := ha.form
 clear hzz
 obtain ⟨q, cq, rfl, hzz⟩ := hb.form
 clear hzz
 obtain ⟨n0, e1⟩ : ∃ n, N.length = n := ⟨_, rfl⟩
 obtain ⟨m, e2⟩ : ∃ n, E.length = n := ⟨_, rfl⟩
 rw [e1] at ha hn
 rw [e2] at hb hm
 rw [e1, e2]
 have HL : Hid (N.length = n0 ∧ E.length = m ∧ n0 ≤ 1000000 ∧ m ≤ 1000000) := ⟨e1, e2, hn, hm⟩
 obtain ⟨W1, hW⟩ : ∃ W1, ((W.alloc (.cells #[.slice p n0 cp, .slice q m cq] 26)).alloc (.cells #[.int .i64 2, .int .i64 n, .string noB, .int .i64 0] 33)).alloc (.cells #[.slice none 0 0, .slice none 0 0] 26) = W1 := ⟨_, rfl⟩
 have XW : Ext W W1 := by rw [← hW]; exact (((Ext.refl _).alloc _).alloc _).alloc _
 obtain ⟨_, ⟨k0, k1⟩, f0, f1⟩ : Blk2 W1 W.heap.size (.slice p n0 cp) (.slice q m cq) := by rw [← hW]; exact blk2_top rfl (((Ext.refl _).alloc _).alloc _)
 obtain ⟨_, ⟨m0, m1, m2, m3⟩, i0, i1, i2, i3⟩ : Blk W1 (W.heap.size + 1) (.int .i64 2) (.int .i64 n) (.string noB) (.int .i64 0) := by rw [← hW]; exact blk_top (by simp) ((Ext.refl _).alloc _)
 obtain ⟨hs1, ⟨j0, j1⟩, g0, g1⟩ : Blk2 W1 (W.heap.size + 1 + 1) (.slice none 0 0) (.slice none 0 0) := by rw [← hW]; exact blk2_top (by simp) (Ext.refl _)
 have HW : Hid (((W.alloc (.cells #[.slice p n0 cp, .slice q m cq] 26)).alloc (.cells #[.int .i64 2, .int .i64 n, .string noB, .int .i64 0] 33)).alloc (.cells #[.slice none 0 0, .slice none 0 0] 26) = W1) := hW
 have HA : Hid (RdI W1 (.slice p n0 cp) N) := ha.ext XW
 have HB : Hid (RdI W1 (.slice q m cq) E) := hb.ext XW
 have HX : Hid (Ext W W1) := XW
 have B1 : Hid (Blk2 W1 (W.heap.size + 1 + 1) (.slice none 0 0) (.slice none 0 0)) := by rw [← hW]; exact blk2_top (by simp) (Ext.refl _)
 clear ha hb hn hm e1 e2 hW XW
 go_enter Tryd.func24, Tryd.ntmps24
 go_upto_region 3 with fail
 rw [HW.out]
 refine wp_region_held_drew (S := fun w => w.cell? ⟨W.heap.size, 0, none⟩ = some (.slice p n0 cp) ∧ w.cell? ⟨W.heap.size, 1, none⟩ = some (.slice q m cq) ∧ w.cell? ⟨W.heap.size + 1, 1, none⟩ = some (.int .i64 n)) (by kernel_rfl) ?_ (fun hHeld0 => ?_)
 · exact ⟨k0, k1, m1⟩
 refine wpAnyH_take (i := 1) (oi := ⟨some 24, .fieldAddr 26 (.tmp 2) 0, 0, "ref.go:31", #[], none⟩) (v := ?_) rfl (by kernel_rfl) (by kernel_rfl) (by kernel_rfl) (fun _ _ _ h => h) (Or.inl ⟨by rfl, ?_⟩) (by assumption) ?_
 rotate_left
 · intro w hSw; (try dsimp only at hSw); first | (go_simp; done) | (go_simp; with_reducible rfl)
 try simp only [Act.put, List.setIfInBounds_toArray, List.set_cons_zero, List.set_cons_succ]
 refine wpAnyH_take (i := 2) (oi := ⟨some 25, .load 23 (.tmp 24), 23, "ref.go:31", #[⟨1, .data⟩], none⟩) (v := ?_) rfl (by kernel_rfl) (by kernel_rfl) (by kernel_rfl) (fun _ _ _ h => h) (Or.inl ⟨by rfl, ?_⟩) (by assumption) ?_
 rotate_left
 · intro w hSw; (try dsimp only at hSw); first | (go_simp; done) | (go_simp; with_reducible rfl)
 try simp only [Act.put, List.setIfInBounds_toArray, List.set_cons_zero, List.set_cons_succ]
 refine wpAnyH_take (i := 4) (oi := ⟨some 27, .fieldAddr 33 (.tmp 3) 1, 0, "ref.go:31", #[], none⟩) (v := ?_) rfl (by kernel_rfl) (by kernel_rfl) (by kernel_rfl) (fun _ _ _ h => h) (Or.inl ⟨by rfl, ?_⟩) (by assumption) ?_
 rotate_left
 · intro w hSw; (try dsimp only at hSw); first | (go_simp; done) | (go_simp; with_reducible rfl)
 try simp only [Act.put, List.setIfInBounds_toArray, List.set_cons_zero, List.set_cons_succ]
 refine wpAnyH_take (i := 5) (oi := ⟨some 28, .load 2 (.tmp 27), 2, "ref.go:31", #[⟨4, .data⟩], none⟩) (v := ?_) rfl (by kernel_rfl) (by kernel_rfl) (by kernel_rfl) (fun _ _ _ h => h) (Or.inl ⟨by rfl, ?_⟩) (by assumption) ?_
 rotate_left
 · intro w hSw; (try dsimp only at hSw); first | (go_simp; done) | (go_simp; with_reducible rfl)
 try simp only [Act.put, List.setIfInBounds_toArray, List.set_cons_zero, List.set_cons_succ]
 refine wpAnyH_take (i := 9) (oi := ⟨some 32, .fieldAddr 26 (.tmp 2) 1, 0, "ref.go:31", #[], none⟩) (v := ?_) rfl (by kernel_rfl) (by kernel_rfl) (by kernel_rfl) (fun _ _ _ h => h) (Or.inl ⟨by rfl, ?_⟩) (by assumption) ?_
 rotate_left
 · intro w hSw; (try dsimp only at hSw); first | (go_simp; done) | (go_simp; with_reducible rfl)
 try simp only [Act.put, List.setIfInBounds_toArray, List.set_cons_zero, List.set_cons_succ]
 refine wpAnyH_take (i := 10) (oi := ⟨some 33, .load 24 (.tmp 32), 24, "ref.go:31", #[⟨9, .data⟩], none⟩) (v := ?_) rfl (by kernel_rfl) (by kernel_rfl) (by kernel_rfl) (fun _ _ _ h => h) (Or.inl ⟨by rfl, ?_⟩) (by assumption) ?_
 rotate_left
 · intro w hSw; (try dsimp only at hSw); first | (go_simp; done) | (go_simp; with_reducible rfl)
 try simp only [Act.put, List.setIfInBounds_toArray, List.set_cons_zero, List.set_cons_succ]
 refine wpAnyH_letter (fun A0 hA0 => ?_)
 refine any_free_gen (l0 := #[false, true, true, false, true, true, false, false, false, true, true, false, false, false, false, false]) (lf := #[true, true, true, true, true, true, true, true, true, true, true, true, true, true, false, false]) ⟨[0, 3, 6, 7, 8, 11, 12, 13], [], (fun j => match j with | 7 => some 2 | 13 => some 3 | _ => none), (fun j => match j with | 0 => some 2 | 3 => some 2 | 6 => some 2 | 7 => some 2 | 8 => some 3 | 11 => some 3 | 12 => some 3 | 13 => some 3 | _ => none), (fun j => match j with | 0 => 3 | 3 => 7 | 6 => 7 | 8 => 11 | 11 => 13 | 12 => 13 | _ => 1000)⟩ (by kernel_rfl) (by kernel_rfl) 2 W1.drew _ (mkA [(0, 23), (3, 26), (6, 29), (7, 30), (8, 31), (11, 34), (12, 35), (13, 36)] A0) (fun j x w => match j with | 0 => New0 W1.heap.size 2 x w | 3 => w.ownsRow W1.heap.size 2 1 x n0 ((N).flatMap dI) | 6 => New1 2 (.int .i64 n) x w | 7 => w.ownsRow W1.heap.size 2 1 x (n0 + 1) ((N ++ [n]).flatMap dI) | 8 => New0 W1.heap.size 3 x w | 11 => w.ownsRow W1.heap.size 3 1 x m ((E).flatMap dI) | 12 => New1 3 (.int .i64 0) x w | 13 => w.ownsRow W1.heap.size 3 1 x (m + 1) ((E ++ [0]).flatMap dI) | _ => True) ?h01 (by assumption) ?hS ?hall ?hfin (fun j => match j with | 0 => A0.tmps.getD 23 undef | 3 => A0.tmps.getD 26 undef | 6 => A0.tmps.getD 29 undef | 7 => A0.tmps.getD 30 undef | 8 => A0.tmps.getD 31 undef | 11 => A0.tmps.getD 34 undef | 12 => A0.tmps.getD 35 undef | 13 => A0.tmps.getD 36 undef | _ => undef) ?hpre ?hX _ (by kernel_rfl)
 case h01 => exact Ext.refl _
 case hX => subst hA0; kernel_rfl
 case hS => intro i hi w w' hw e hg; exact ⟨e.some hHeld0.1, e.some hHeld0.2.1, e.some hHeld0.2.2⟩
 case hall =>
   subst hA0
   refine AllS.cons (o := ⟨some 23, .buildSlice 23 0 #[], 23, "ref.go:31", #[], none⟩) rfl rfl (fun _ _ => by kernel_rfl) (fun _ _ _ h e => h.ext e) (fun _ _ _ _ _ h ht e => h.keep (fun hh => ht hh) e) (fun X w' hE hSw hX => ?_) ?_
   · exact rt_build0 (base := W1.heap.size) dltL rfl hE.size hE
   refine AllS.cons (o := ⟨some 26, .call { callee := .builtin .append, args := #[.tmp 23, .tmp 25], argTypes := #[23, 23] }, 23, "ref.go:31", #[⟨0, .data⟩, ⟨2, .data⟩], none⟩) rfl rfl (fun _ _ => by kernel_rfl) (fun _ _ _ h e => ownsRow_ext h e) (fun _ _ _ _ _ h ht e => ownsRow_keep h (fun hh => ht hh) e) (fun X w' hE hSw hX => ?_) ?_
   · exact rt_append0 (base := W1.heap.size) (v := X 0) (va := .slice p n0 cp) dltL dI_len rfl (by kernel_rfl) (by kernel_rfl) (hX 0 (by kernel_rfl)) ((HA.out.ext (Ext.refl _).drew).ext hE) HL.out.1 (by have := HL.out; unfold maxLen; omega) (by have := HL.out; omega) hE hE.size
   refine AllS.cons (o := ⟨some 29, .buildSlice 23 1 #[(0, .tmp 28)], 23, "ref.go:31", #[⟨5, .data⟩], none⟩) rfl rfl (fun _ _ => by kernel_rfl) (fun _ _ _ h e => h.ext e) (fun _ _ _ _ _ h ht e => h.keep (fun hh => ht hh) e) (fun X w' hE hSw hX => ?_) ?_
   · exact rt_build1 dltL rfl (by kernel_rfl) rfl hE
   refine AllS.cons (o := ⟨some 30, .call { callee := .builtin .append, args := #[.tmp 26, .tmp 29], argTypes := #[23, 23] }, 23, "ref.go:31", #[⟨3, .data⟩, ⟨6, .data⟩, ⟨3, .chain⟩], none⟩) rfl rfl (fun _ _ => by kernel_rfl) (fun _ _ _ h e => ownsRow_ext h e) (fun _ _ _ _ _ h ht e => ownsRow_keep h (fun hh => ht hh) e) (fun X w' hE hSw hX => ?_) ?_
   · have f1 : w'.ownsRow W1.heap.size 2 1 (X 3) n0 (N.flatMap dI) := (hX 3 (by kernel_rfl))
     have f2 : New1 2 (.int .i64 n) (X 6) w' := (hX 6 (by kernel_rfl))
     exact rt_append (base := W1.heap.size) (v := X 3) (va := X 6) (m := 1) (q := n0 + 1) (l := N) (news := [n]) dltL dI_len dI_one rfl (by kernel_rfl) (by kernel_rfl) f1 (f2.rd dI_is) rfl rfl (by have := HL.out; unfold maxLen; omega) (by have := HL.out; omega) hE (Nat.le_refl _) hE.size
   refine AllS.cons (o := ⟨some 31, .buildSlice 24 0 #[], 24, "ref.go:31", #[], none⟩) rfl rfl (fun _ _ => by kernel_rfl) (fun _ _ _ h e => h.ext e) (fun _ _ _ _ _ h ht e => h.keep (fun hh => ht hh) e) (fun X w' hE hSw hX => ?_) ?_
   · exact rt_build0 (base := W1.heap.size) dltI rfl hE.size hE
   refine AllS.cons (o := ⟨some 34, .call { callee := .builtin .append, args := #[.tmp 31, .tmp 33], argTypes := #[24, 24] }, 24, "ref.go:31", #[⟨8, .data⟩, ⟨10, .data⟩, ⟨7, .chain⟩], none⟩) rfl rfl (fun _ _ => by kernel_rfl) (fun _ _ _ h e => ownsRow_ext h e) (fun _ _ _ _ _ h ht e => ownsRow_keep h (fun hh => ht hh) e) (fun X w' hE hSw hX => ?_) ?_
   · exact rt_append0 (base := W1.heap.size) (v := X 8) (va := .slice q m cq) dltI dI_len rfl (by kernel_rfl) (by kernel_rfl) (hX 8 (by kernel_rfl)) ((HB.out.ext (Ext.refl _).drew).ext hE) HL.out.2.1 (by have := HL.out; unfold maxLen; omega) (by have := HL.out; omega) hE hE.size
   refine AllS.cons (o := ⟨some 35, .buildSlice 24 1 #[(0, .const (.int .i64 0))], 24, "ref.go:31", #[], none⟩) rfl rfl (fun _ _ => by kernel_rfl) (fun _ _ _ h e => h.ext e) (fun _ _ _ _ _ h ht e => h.keep (fun hh => ht hh) e) (fun X w' hE hSw hX => ?_) ?_
   · exact rt_build1 dltI rfl (by kernel_rfl) rfl hE
   refine AllS.cons (o := ⟨some 36, .call { callee := .builtin .append, args := #[.tmp 34, .tmp 35], argTypes := #[24, 24] }, 24, "ref.go:31", #[⟨11, .data⟩, ⟨12, .data⟩, ⟨11, .chain⟩], none⟩) rfl rfl (fun _ _ => by kernel_rfl) (fun _ _ _ h e => ownsRow_ext h e) (fun _ _ _ _ _ h ht e => ownsRow_keep h (fun hh => ht hh) e) (fun X w' hE hSw hX => ?_) ?_
   · have f1 : w'.ownsRow W1.heap.size 3 1 (X 11) m (E.flatMap dI) := (hX 11 (by kernel_rfl))
     have f2 : New1 3 (.int .i64 0) (X 12) w' := (hX 12 (by kernel_rfl))
     exact rt_append (base := W1.heap.size) (v := X 11) (va := X 12) (m := 1) (q := m + 1) (l := E) (news := [0]) dltI dI_len dI_one rfl (by kernel_rfl) (by kernel_rfl) f1 (f2.rd dI_is) rfl rfl (by have := HL.out; unfold maxLen; omega) (by have := HL.out; omega) hE (Nat.le_refl _) hE.size
   exact AllS.nil
 case hpre =>
   exact AllP.nil
 case hfin =>
   intro X w' n' hE hSw hX
   subst hA0
   have f3 : w'.ownsRow W1.heap.size 2 1 (X 7) (n0 + 1) ((N ++ [n]).flatMap dI) := hX 7 (by kernel_rfl)
   have f7 : w'.ownsRow W1.heap.size 3 1 (X 13) (m + 1) ((E ++ [0]).flatMap dI) := hX 13 (by kernel_rfl)
   obtain ⟨p3, c3, h3, hz3⟩ := own_form f3
   obtain ⟨p7, c7, h7, hz7⟩ := own_form f7
   clear hz3 hz7 hX
   try simp only [mkA, List.foldl_cons, List.foldl_nil, Act.put, List.setIfInBounds_toArray, List.set_cons_zero, List.set_cons_succ]
   rw [h3, h7]
   rw [h3] at f3
   rw [h7] at f7
   clear h3 h7
   generalize X 0 = x0
   generalize X 3 = x3
   generalize X 6 = x6
   generalize X 8 = x8
   generalize X 11 = x11
   generalize X 12 = x12
   have F3 : Hid (w'.ownsRow W1.heap.size 2 1 (.slice p3 (n0 + 1) c3) (n0 + 1) ((N ++ [n]).flatMap dI)) := f3
   have F7 : Hid (w'.ownsRow W1.heap.size 3 1 (.slice p7 (m + 1) c7) (m + 1) ((E ++ [0]).flatMap dI)) := f7
   have XE : Hid (Ext W1 w') := (Ext.refl _).drew.trans hE
   have Z1 : Hid (Blk2 w' (W.heap.size + 1 + 1) (.slice none 0 0) (.slice none 0 0)) := B1.out.ext XE.out
   have hHeld1 : w'.cell? ⟨W.heap.size, 0, none⟩ = some (.slice p n0 cp) ∧ w'.cell? ⟨W.heap.size, 1, none⟩ = some (.slice q m cq) ∧ w'.cell? ⟨W.heap.size + 1, 1, none⟩ = some (.int .i64 n) := ⟨hE.some hHeld0.1, hE.some hHeld0.2.1, hE.some hHeld0.2.2⟩
   clear f3 f7 hE hHeld0 k0 k1 f0 f1 j0 j1 g0 g1 m0 m1 m2 m3 i0 i1 i2 i3
   obtain ⟨_, ⟨j0, j1⟩, g0, g1⟩ := Z1.out
   refine wpAnyH_take (i := 14) (oi := ⟨some 37, .build 26 #[(0, .tmp 30), (1, .tmp 36)], 26, "ref.go:31", #[⟨7, .data⟩, ⟨13, .data⟩], none⟩) (v := ?_) rfl (by kernel_rfl) (by kernel_rfl) (by kernel_rfl) (fun _ _ _ h => h) (Or.inl ⟨by rfl, ?_⟩) (by assumption) ?_
   rotate_left
   · intro w hSw; (try dsimp only at hSw); first | (go_simp; done) | (go_simp; with_reducible rfl)
   try simp only [Act.put, List.setIfInBounds_toArray, List.set_cons_zero, List.set_cons_succ]
   refine wpAnyH_ready (rs := [15]) (by kernel_rfl) (by simp) ?_
   refine AllReadyH.cons (o := ⟨none, .store 26 (.tmp 4) (.tmp 37), 0, "ref.go:31", #[⟨14, .data⟩, ⟨13, .chain⟩, ⟨0, .phase⟩, ⟨1, .phase⟩, ⟨2, .phase⟩, ⟨3, .phase⟩, ⟨4, .phase⟩, ⟨5, .phase⟩, ⟨6, .phase⟩, ⟨7, .phase⟩, ⟨8, .phase⟩, ⟨9, .phase⟩, ⟨10, .phase⟩, ⟨11, .phase⟩, ⟨12, .phase⟩, ⟨13, .phase⟩, ⟨14, .phase⟩], none⟩) rfl (fun K hK => ?_) AllReadyH.nil
   go_simp
   try go_wp2_with fail
   refine hK.out _ _ ?_ (fun hHeld0 => ?_)
   · (try dsimp only); obtain ⟨r0, r1, r2⟩ := hHeld1; exact ⟨by simp [r0, World.cell?_setCell_other], by simp [r1, World.cell?_setCell_other], by simp [r2, World.cell?_setCell_other]⟩
   clear hK K
   refine wpAnyH_done (by kernel_rfl) ?_ _
   have Z2 : Hid (Blk2 ((w'.setCell ⟨W.heap.size + 1 + 1, 0, none⟩ (.slice p3 (n0 + 1) c3)).setCell ⟨W.heap.size + 1 + 1, 1, none⟩ (.slice p7 (m + 1) c7)) (W.heap.size + 1 + 1) (.slice p3 (n0 + 1) c3) (.slice p7 (m + 1) c7)) := Z1.out.set _ _
   have R3 : Hid (VecO W.heap.size ((w'.setCell ⟨W.heap.size + 1 + 1, 0, none⟩ (.slice p3 (n0 + 1) c3)).setCell ⟨W.heap.size + 1 + 1, 1, none⟩ (.slice p7 (m + 1) c7)) (.slice p3 (n0 + 1) c3) (.slice p7 (m + 1) c7) (N ++ [n]) (E ++ [0])) := ⟨by rw [show ((N ++ [n] : List Int)).length = (n0 + 1) by simp [HL.out.1]]; exact ownsRow_mono (own_off (own_off F3.out hs1 _) hs1 _) HX.out.size, by rw [show ((E ++ [0] : List Int)).length = (m + 1) by simp [HL.out.2.1]]; exact ownsRow_mono (own_off (own_off F7.out hs1 _) hs1 _) HX.out.size⟩
   have X2 : Hid (Ext W ((w'.setCell ⟨W.heap.size + 1 + 1, 0, none⟩ (.slice p3 (n0 + 1) c3)).setCell ⟨W.heap.size + 1 + 1, 1, none⟩ (.slice p7 (m + 1) c7))) := ((HX.out.trans XE.out).setCell (by (try dsimp only); omega) _).setCell (by (try dsimp only); omega) _
   clear hHeld0 hHeld1 j0 j1 g0 g1 Z1 XE F3 F7 hs1
   generalize (w'.setCell ⟨W.heap.size + 1 + 1, 0, none⟩ (.slice p3 (n0 + 1) c3)).setCell ⟨W.heap.size + 1 + 1, 1, none⟩ (.slice p7 (m + 1) c7) = W2 at *
   go_wp2_with fail
   exact fin2 _ Z2.out rfl X2.out (fun g0 g1 => by simp [results, Tryd.results24, go_sem, g0, g1]) (fun h => ⟨_, _, rfl, R3.out, h⟩)

open Go.RowKit
set_option maxHeartbeats 1000000

theorem numK_cases (s : ByteArray) : (numK s = true ∧ numR s = readV s) ∨ (numK s = false ∧ readV s = .err 2) := by
 unfold numK numR readV
 rcases rdK_cases s.data.toList with h | h | h <;> rw [h]
 · exact .inr ⟨rfl, rfl⟩
 · exact .inl ⟨rfl, rfl⟩
 · exact .inl ⟨rfl, rfl⟩
theorem vtonum_any (k n : Int) (s : ByteArray) (e : Int) (w : World) (hn : I64 n) (hN : Nm w) :
   Calls Tryd.prog 38 #[.agg #[.int .i64 k, .int .i64 n, .string s, .int .i64 e]] w fun r w' => r = .returned ((nm k n s e).toNum.dat) ∧ Ext w w' := by
 have c0 := fun W h => vnormal_any k n s e W h
 have ok := nm_ok k n s e hn
 clear hn
 generalize nm k n s e = v at c0 ok ⊢
 cases v with
 | blank =>
   simp only [V.dat] at c0
   have c1 := fun W h => vnum_any 0 W h
   rw [mkNum_is (by decide)] at c1
   simp only [V.dat] at c1
   clear ok
   go_enter Tryd.func38, Tryd.ntmps38
   go_wp2_with fail
   refine (c0 _ (hN.ext (by with_reducible repeat (first | assumption | exact Ext.refl _ | apply Ext.alloc | apply Ext.drewN | (refine Ext.setCell ?_ (by simp) _))))).mono ?_
   rintro r w1 ⟨rfl, E1⟩
   have X1 : Ext w w1 := Ext.trans (by with_reducible repeat (first | assumption | exact Ext.refl _ | apply Ext.alloc | apply Ext.drewN | (refine Ext.setCell ?_ (by simp) _))) E1
   have B0_1 := blk_top (b := w.heap.size) (by simp) (((Ext.refl _).alloc _).trans E1)
   have B1_1 := blk_top (b := w.heap.size + 1) (by simp) E1
   have D0 := B0_1
   obtain ⟨b0z, ⟨b0_0, b0_1, b0_2, b0_3⟩, b0f0, b0f1, b0f2, b0f3⟩ := D0
   have D1 := B1_1
   obtain ⟨b1z, ⟨b1_0, b1_1, b1_2, b1_3⟩, b1f0, b1f1, b1f2, b1f3⟩ := D1
   go_wp2_with fail
   refine (c1 _ (hN.ext (by with_reducible repeat (first | assumption | exact Ext.refl _ | apply Ext.alloc | apply Ext.drewN | (refine Ext.setCell ?_ (by simp) _))))).mono ?_
   rintro r w2 ⟨rfl, E2⟩
   have X2 : Ext w w2 := Ext.trans (by with_reducible repeat (first | assumption | exact Ext.refl _ | apply Ext.alloc | apply Ext.drewN | (refine Ext.setCell ?_ (by simp) _))) E2
   have B1_2 := (B1_1.far (c := w.heap.size) (by simp) _ _ _ _).ext E2
   have D1 := B1_2
   obtain ⟨b1z, ⟨b1_0, b1_1, b1_2, b1_3⟩, b1f0, b1f1, b1f2, b1f3⟩ := D1
   go_wp2_with fail
   exact finB (B1_2.set _ _ _ _) rfl (by with_reducible repeat (first | assumption | exact Ext.refl _ | apply Ext.alloc | apply Ext.drewN | (refine Ext.setCell ?_ (by simp) _))) (fun g0 g1 g2 g3 => by simp [results, Tryd.results38, go_sem, g0, g1, g2, g3]) (fun h => ⟨rfl, h⟩)
 | tf b =>
   simp only [V.dat] at c0
   cases b with
   | false =>
     simp only [Bool.false_eq_true, if_false] at c0
     have c1 := fun W h => vnum_any 0 W h
     rw [mkNum_is (by decide)] at c1
     simp only [V.dat] at c1
     clear ok
     go_enter Tryd.func38, Tryd.ntmps38
     go_wp2_with fail
     refine (c0 _ (hN.ext (by with_reducible repeat (first | assumption | exact Ext.refl _ | apply Ext.alloc | apply Ext.drewN | (refine Ext.setCell ?_ (by simp) _))))).mono ?_
     rintro r w1 ⟨rfl, E1⟩
     have X1 : Ext w w1 := Ext.trans (by with_reducible repeat (first | assumption | exact Ext.refl _ | apply Ext.alloc | apply Ext.drewN | (refine Ext.setCell ?_ (by simp) _))) E1
     have B0_1 := blk_top (b := w.heap.size) (by simp) (((Ext.refl _).alloc _).trans E1)
     have B1_1 := blk_top (b := w.heap.size + 1) (by simp) E1
     have D0 := B0_1
     obtain ⟨b0z, ⟨b0_0, b0_1, b0_2, b0_3⟩, b0f0, b0f1, b0f2, b0f3⟩ := D0
     have D1 := B1_1
     obtain ⟨b1z, ⟨b1_0, b1_1, b1_2, b1_3⟩, b1f0, b1f1, b1f2, b1f3⟩ := D1
     go_wp2_with fail
     refine (c1 _ (hN.ext (by with_reducible repeat (first | assumption | exact Ext.refl _ | apply Ext.alloc | apply Ext.drewN | (refine Ext.setCell ?_ (by simp) _))))).mono ?_
     rintro r w2 ⟨rfl, E2⟩
     have X2 : Ext w w2 := Ext.trans (by with_reducible repeat (first | assumption | exact Ext.refl _ | apply Ext.alloc | apply Ext.drewN | (refine Ext.setCell ?_ (by simp) _))) E2
     have B1_2 := (B1_1.far (c := w.heap.size) (by simp) _ _ _ _).ext E2
     have D1 := B1_2
     obtain ⟨b1z, ⟨b1_0, b1_1, b1_2, b1_3⟩, b1f0, b1f1, b1f2, b1f3⟩ := D1
     go_wp2_with fail
     exact finB (B1_2.set _ _ _ _) rfl (by with_reducible repeat (first | assumption | exact Ext.refl _ | apply Ext.alloc | apply Ext.drewN | (refine Ext.setCell ?_ (by simp) _))) (fun g0 g1 g2 g3 => by simp [results, Tryd.results38, go_sem, g0, g1, g2, g3]) (fun h => ⟨rfl, h⟩)
   | true =>
     simp only [if_true] at c0
     have c1 := fun W h => vnum_any 10000 W h
     rw [mkNum_is (by decide)] at c1
     simp only [V.dat] at c1
     clear ok
     go_enter Tryd.func38, Tryd.ntmps38
     go_wp2_with fail
     refine (c0 _ (hN.ext (by with_reducible repeat (first | assumption | exact Ext.refl _ | apply Ext.alloc | apply Ext.drewN | (refine Ext.setCell ?_ (by simp) _))))).mono ?_
     rintro r w1 ⟨rfl, E1⟩
     have X1 : Ext w w1 := Ext.trans (by with_reducible repeat (first | assumption | exact Ext.refl _ | apply Ext.alloc | apply Ext.drewN | (refine Ext.setCell ?_ (by simp) _))) E1
     have B0_1 := blk_top (b := w.heap.size) (by simp) (((Ext.refl _).alloc _).trans E1)
     have B1_1 := blk_top (b := w.heap.size + 1) (by simp) E1
     have D0 := B0_1
     obtain ⟨b0z, ⟨b0_0, b0_1, b0_2, b0_3⟩, b0f0, b0f1, b0f2, b0f3⟩ := D0
     have D1 := B1_1
     obtain ⟨b1z, ⟨b1_0, b1_1, b1_2, b1_3⟩, b1f0, b1f1, b1f2, b1f3⟩ := D1
     go_wp2_with fail
     refine (c1 _ (hN.ext (by with_reducible repeat (first | assumption | exact Ext.refl _ | apply Ext.alloc | apply Ext.drewN | (refine Ext.setCell ?_ (by simp) _))))).mono ?_
     rintro r w2 ⟨rfl, E2⟩
     have X2 : Ext w w2 := Ext.trans (by with_reducible repeat (first | assumption | exact Ext.refl _ | apply Ext.alloc | apply Ext.drewN | (refine Ext.setCell ?_ (by simp) _))) E2
     have B1_2 := (B1_1.far (c := w.heap.size) (by simp) _ _ _ _).ext E2
     have D1 := B1_2
     obtain ⟨b1z, ⟨b1_0, b1_1, b1_2, b1_3⟩, b1f0, b1f1, b1f2, b1f3⟩ := D1
     go_wp2_with fail
     exact finB (B1_2.set _ _ _ _) rfl (by with_reducible repeat (first | assumption | exact Ext.refl _ | apply Ext.alloc | apply Ext.drewN | (refine Ext.setCell ?_ (by simp) _))) (fun g0 g1 g2 g3 => by simp [results, Tryd.results38, go_sem, g0, g1, g2, g3]) (fun h => ⟨rfl, h⟩)
 | num n =>
   simp only [V.dat] at c0
   have c1 := fun W h => vnum_any n W h
   rw [mkNum_is ok.2] at c1
   simp only [V.dat] at c1
   clear ok
   go_enter Tryd.func38, Tryd.ntmps38
   go_wp2_with fail
   refine (c0 _ (hN.ext (by with_reducible repeat (first | assumption | exact Ext.refl _ | apply Ext.alloc | apply Ext.drewN | (refine Ext.setCell ?_ (by simp) _))))).mono ?_
   rintro r w1 ⟨rfl, E1⟩
   have X1 : Ext w w1 := Ext.trans (by with_reducible repeat (first | assumption | exact Ext.refl _ | apply Ext.alloc | apply Ext.drewN | (refine Ext.setCell ?_ (by simp) _))) E1
   have B0_1 := blk_top (b := w.heap.size) (by simp) (((Ext.refl _).alloc _).trans E1)
   have B1_1 := blk_top (b := w.heap.size + 1) (by simp) E1
   have D0 := B0_1
   obtain ⟨b0z, ⟨b0_0, b0_1, b0_2, b0_3⟩, b0f0, b0f1, b0f2, b0f3⟩ := D0
   have D1 := B1_1
   obtain ⟨b1z, ⟨b1_0, b1_1, b1_2, b1_3⟩, b1f0, b1f1, b1f2, b1f3⟩ := D1
   go_wp2_with fail
   refine (c1 _ (hN.ext (by with_reducible repeat (first | assumption | exact Ext.refl _ | apply Ext.alloc | apply Ext.drewN | (refine Ext.setCell ?_ (by simp) _))))).mono ?_
   rintro r w2 ⟨rfl, E2⟩
   have X2 : Ext w w2 := Ext.trans (by with_reducible repeat (first | assumption | exact Ext.refl _ | apply Ext.alloc | apply Ext.drewN | (refine Ext.setCell ?_ (by simp) _))) E2
   have B1_2 := (B1_1.far (c := w.heap.size) (by simp) _ _ _ _).ext E2
   have D1 := B1_2
   obtain ⟨b1z, ⟨b1_0, b1_1, b1_2, b1_3⟩, b1f0, b1f1, b1f2, b1f3⟩ := D1
   go_wp2_with fail
   exact finB (B1_2.set _ _ _ _) rfl (by with_reducible repeat (first | assumption | exact Ext.refl _ | apply Ext.alloc | apply Ext.drewN | (refine Ext.setCell ?_ (by simp) _))) (fun g0 g1 g2 g3 => by simp [results, Tryd.results38, go_sem, g0, g1, g2, g3]) (fun h => ⟨rfl, h⟩)
 | text s =>
   simp only [V.dat] at c0
   have c1 := fun W h => numeral_any s W (Nat.le_trans ok (by decide)) h
   have c2 := fun W h => err_any 2 W h
   rw [mkErr_is ⟨by decide, by decide⟩] at c2
   simp only [V.dat] at c2
   have hk := numK_cases s
   clear ok
   rcases hk with ⟨h1, h2⟩ | ⟨h1, h2⟩
   · rw [h1] at c1
     obtain ⟨q0, q1, q2, q3, hq⟩ := dat4 (numR s)
     rw [hq] at c1
     have H : Hid ((V.text s).toNum.dat = .agg #[.int .i64 q0, .int .i64 q1, .string q2, .int .i64 q3]) := by show (readV s).dat = _; rw [← h2]; exact hq
     clear hq h1 h2 c2
     go_enter Tryd.func38, Tryd.ntmps38
     go_wp2_with fail
     refine (c0 _ (hN.ext (by with_reducible repeat (first | assumption | exact Ext.refl _ | apply Ext.alloc | apply Ext.drewN | (refine Ext.setCell ?_ (by simp) _))))).mono ?_
     rintro r w1 ⟨rfl, E1⟩
     have X1 : Ext w w1 := Ext.trans (by with_reducible repeat (first | assumption | exact Ext.refl _ | apply Ext.alloc | apply Ext.drewN | (refine Ext.setCell ?_ (by simp) _))) E1
     have B0_1 := blk_top (b := w.heap.size) (by simp) (((Ext.refl _).alloc _).trans E1)
     have B1_1 := blk_top (b := w.heap.size + 1) (by simp) E1
     have D0 := B0_1
     obtain ⟨b0z, ⟨b0_0, b0_1, b0_2, b0_3⟩, b0f0, b0f1, b0f2, b0f3⟩ := D0
     have D1 := B1_1
     obtain ⟨b1z, ⟨b1_0, b1_1, b1_2, b1_3⟩, b1f0, b1f1, b1f2, b1f3⟩ := D1
     go_wp2_with fail
     refine (c1 _ (hN.ext (by with_reducible repeat (first | assumption | exact Ext.refl _ | apply Ext.alloc | apply Ext.drewN | (refine Ext.setCell ?_ (by simp) _))))).mono ?_
     rintro r w2 ⟨rfl, E2⟩
     have X2 : Ext w w2 := Ext.trans (by with_reducible repeat (first | assumption | exact Ext.refl _ | apply Ext.alloc | apply Ext.drewN | (refine Ext.setCell ?_ (by simp) _))) E2
     have B1_2 := (B1_1.far (c := w.heap.size) (by simp) _ _ _ _).ext E2
     have D1 := B1_2
     obtain ⟨b1z, ⟨b1_0, b1_1, b1_2, b1_3⟩, b1f0, b1f1, b1f2, b1f3⟩ := D1
     go_wp2_with fail
     exact finB ((B1_2.set _ _ _ _).ext ((Ext.refl _).alloc _)) rfl (by with_reducible repeat (first | assumption | exact Ext.refl _ | apply Ext.alloc | apply Ext.drewN | (refine Ext.setCell ?_ (by simp) _))) (fun g0 g1 g2 g3 => by simp [results, Tryd.results38, go_sem, g0, g1, g2, g3]) (fun h => ⟨by rw [H.out], h⟩)
   · rw [h1] at c1
     obtain ⟨q0, q1, q2, q3, hq⟩ := dat4 (numR s)
     rw [hq] at c1
     have H : Hid ((V.text s).toNum = .err 2) := h2
     clear hq h1 h2
     go_enter Tryd.func38, Tryd.ntmps38
     go_wp2_with fail
     refine (c0 _ (hN.ext (by with_reducible repeat (first | assumption | exact Ext.refl _ | apply Ext.alloc | apply Ext.drewN | (refine Ext.setCell ?_ (by simp) _))))).mono ?_
     rintro r w1 ⟨rfl, E1⟩
     have X1 : Ext w w1 := Ext.trans (by with_reducible repeat (first | assumption | exact Ext.refl _ | apply Ext.alloc | apply Ext.drewN | (refine Ext.setCell ?_ (by simp) _))) E1
     have B0_1 := blk_top (b := w.heap.size) (by simp) (((Ext.refl _).alloc _).trans E1)
     have B1_1 := blk_top (b := w.heap.size + 1) (by simp) E1
     have D0 := B0_1
     obtain ⟨b0z, ⟨b0_0, b0_1, b0_2, b0_3⟩, b0f0, b0f1, b0f2, b0f3⟩ := D0
     have D1 := B1_1
     obtain ⟨b1z, ⟨b1_0, b1_1, b1_2, b1_3⟩, b1f0, b1f1, b1f2, b1f3⟩ := D1
     go_wp2_with fail
     refine (c1 _ (hN.ext (by with_reducible repeat (first | assumption | exact Ext.refl _ | apply Ext.alloc | apply Ext.drewN | (refine Ext.setCell ?_ (by simp) _))))).mono ?_
     rintro r w2 ⟨rfl, E2⟩
     have X2 : Ext w w2 := Ext.trans (by with_reducible repeat (first | assumption | exact Ext.refl _ | apply Ext.alloc | apply Ext.drewN | (refine Ext.setCell ?_ (by simp) _))) E2
     have B1_2 := (B1_1.far (c := w.heap.size) (by simp) _ _ _ _).ext E2
     have D1 := B1_2
     obtain ⟨b1z, ⟨b1_0, b1_1, b1_2, b1_3⟩, b1f0, b1f1, b1f2, b1f3⟩ := D1
     go_wp2_with fail
     refine (c2 _ (hN.ext (by with_reducible repeat (first | assumption | exact Ext.refl _ | apply Ext.alloc | apply Ext.drewN | (refine Ext.setCell ?_ (by simp) _))))).mono ?_
     rintro r w3 ⟨rfl, E3⟩
     have X3 : Ext w w3 := Ext.trans (by with_reducible repeat (first | assumption | exact Ext.refl _ | apply Ext.alloc | apply Ext.drewN | (refine Ext.setCell ?_ (by simp) _))) E3
     have B1_3 := (B1_2.ext ((Ext.refl _).alloc _)).ext E3
     have D1 := B1_3
     obtain ⟨b1z, ⟨b1_0, b1_1, b1_2, b1_3⟩, b1f0, b1f1, b1f2, b1f3⟩ := D1
     go_wp2_with fail
     exact finB (B1_3.set _ _ _ _) rfl (by with_reducible repeat (first | assumption | exact Ext.refl _ | apply Ext.alloc | apply Ext.drewN | (refine Ext.setCell ?_ (by simp) _))) (fun g0 g1 g2 g3 => by simp [results, Tryd.results38, go_sem, g0, g1, g2, g3]) (fun h => ⟨by rw [H.out]; rfl, h⟩)
 | err e =>
   simp only [V.dat] at c0
   clear ok
   go_enter Tryd.func38, Tryd.ntmps38
   go_wp2_with fail
   refine (c0 _ (hN.ext (by with_reducible repeat (first | assumption | exact Ext.refl _ | apply Ext.alloc | apply Ext.drewN | (refine Ext.setCell ?_ (by simp) _))))).mono ?_
   rintro r w1 ⟨rfl, E1⟩
   have X1 : Ext w w1 := Ext.trans (by with_reducible repeat (first | assumption | exact Ext.refl _ | apply Ext.alloc | apply Ext.drewN | (refine Ext.setCell ?_ (by simp) _))) E1
   have B0_1 := blk_top (b := w.heap.size) (by simp) (((Ext.refl _).alloc _).trans E1)
   have B1_1 := blk_top (b := w.heap.size + 1) (by simp) E1
   have D0 := B0_1
   obtain ⟨b0z, ⟨b0_0, b0_1, b0_2, b0_3⟩, b0f0, b0f1, b0f2, b0f3⟩ := D0
   have D1 := B1_1
   obtain ⟨b1z, ⟨b1_0, b1_1, b1_2, b1_3⟩, b1f0, b1f1, b1f2, b1f3⟩ := D1
   go_wp2_with fail
   exact finB ((B1_1.far (c := w.heap.size) (by simp) _ _ _ _).set _ _ _ _) rfl (by with_reducible repeat (first | assumption | exact Ext.refl _ | apply Ext.alloc | apply Ext.drewN | (refine Ext.setCell ?_ (by simp) _))) (fun g0 g1 g2 g3 => by simp [results, Tryd.results38, go_sem, g0, g1, g2, g3]) (fun h => ⟨rfl, h⟩)
/-- From block lo on nothing has turned. -/
def Same (lo : Nat) (w W : World) : Prop := w.heap.size ≤ W.heap.size ∧ ∀ b o, lo ≤ b → b < w.heap.size → W.cell? ⟨b, o, none⟩ = w.cell? ⟨b, o, none⟩
theorem Same.refl (lo : Nat) (w : World) : Same lo w w := ⟨Nat.le_refl _, fun _ _ _ _ => rfl⟩
theorem Same.ext {lo : Nat} {w W W' : World} (h : Same lo w W) (e : Ext W W') : Same lo w W' := ⟨Nat.le_trans h.1 e.sz, fun b o hl hb => (e.cell.1 b o (Nat.lt_of_lt_of_le hb h.1)).trans (h.2 b o hl hb)⟩
theorem Same.set {lo : Nat} {w W : World} {p : Addr} {v : Value} (h : Same lo w W) (hc : p.block < lo) : Same lo w (W.setCell p v) := by
 refine ⟨by simpa [World.setCell] using h.1, fun b o hl hb => ?_⟩
 rw [World.cell?_setCell_far _ _ _ _ (by show p.block ≠ b; omega)]
 exact h.2 b o hl hb
theorem Same.al {lo : Nat} {w W : World} (o : Obj) (h : Same lo w W) : Same lo w (W.alloc o) := h.ext ((Ext.refl _).alloc _)
/-- What an operator's closure does. -/
def Does (op : Int) (G B lo : Nat) (w : World) : Prop := ∀ W x y, Same lo w W → I64 x → I64 y → Nm W → Calls Tryd.prog G #[.int .i64 x, .int .i64 y, .pointer (some ⟨B, 0, none⟩)] W fun r w' => r = .returned (reckon op x y).dat ∧ Ext W w'

open Go.RowKit
set_option maxHeartbeats 1000000

/-! ### Which of two -/

open Go.RowKit
set_option maxHeartbeats 1000000

open Go.RowKit
set_option maxHeartbeats 1000000

open Go.RowKit
set_option maxHeartbeats 1000000

end Go.Proofs.YteaoeichgibgiaaDoor
