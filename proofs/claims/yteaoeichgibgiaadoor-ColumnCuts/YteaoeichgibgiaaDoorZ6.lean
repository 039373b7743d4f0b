/-
 Functions of many values (package fold) as plain data: what is met, the sum, the least, the greatest, the mean, truths, texts joined. No program in sight.
 Columns of numbers and errors as plain data. No program in sight.
 Lists in memory of the call's own, of whatever elements: append.
 Lists of structs in memory, whatever their fields: read, owned, sorted.
 A struct of 2 fields in a block of its own: laid, kept, stored; the end of a function whose result lies in one.
 Package column and the document's: lists of numbers in memory; a lane; which columns can be.
 Package fold: arguments in memory; which moves of a world leave what; the values that are gone through.
 A region that draws its order: operations that yield what they should in whatever order they come up. No program in sight.
-/
import Derived.Test.YteaoeichgibgiaaDoorZ5
import Derived.Test.YteaoeichgibgiaaDoorProg
import Derived.Test.YteaoeichgibgiaaDoorZ1
import Derived.Deep.AppendLies
import Derived.Laws.OwnMore
import Derived.WalkLawsBesides
import Derived.Lib.AppendZeros
import Derived.Laws.StructEq
import Derived.Deep.DeepCutAuto
import Derived.Deep.Light
import Derived.Deep.CutBlock
namespace Go.Proofs.YteaoeichgibgiaaDoor
open Go.RowKit

/-- A value's four fields as they lie in memory. -/
structure Rw where
 k : Int
 n : Int
 s : ByteArray
 e : Int
def Rw.v (r : Rw) : V := nm r.k r.n r.s r.e
/-- An argument: an area or not, and its values. -/
structure Ag where
 area : Bool
 l : List Rw
/-! ### One more at the end -/
/-! ### What comes of the values -/
/-! ### The order does not matter -/
/-! ### The mean is between -/

open Go.RowKit

/-- Is it a lane: a number, or an error without one? -/
def laneB (n e : Int) : Bool := if e = 0 then canB n else n == 0 && decide (1 ≤ e ∧ e ≤ 5)
/-- Can a column be? -/
def canC (N E : List Int) : Bool := decide (N.length = E.length) && decide (N.length ≤ 1000) && (N.zip E).all (fun x => laneB x.1 x.2)
theorem canC_iff (N E : List Int) : canC N E = true ↔ N.length = E.length ∧ N.length ≤ 1000 ∧ ∀ (i : Nat) (n e : Int), N[i]? = some n → E[i]? = some e → laneB n e = true := by
 unfold canC
 simp only [Bool.and_eq_true, decide_eq_true_eq, List.all_eq_true, and_assoc]
 constructor
 · rintro ⟨h1, h2, h3⟩
   exact ⟨h1, h2, fun i n e hn he => h3 (n, e) (List.mem_of_getElem? (i := i) (List.getElem?_zip_eq_some.2 ⟨hn, he⟩))⟩
 · rintro ⟨h1, h2, h3⟩
   refine ⟨h1, h2, fun x hx => ?_⟩
   obtain ⟨i, hi⟩ := List.mem_iff_getElem?.1 hx
   obtain ⟨hn, he⟩ := List.getElem?_zip_eq_some.1 hi
   exact h3 i _ _ hn he
theorem canC_no {N E : List Int} {i : Nat} {n e : Int} (hn : N[i]? = some n) (he : E[i]? = some e) (h : laneB n e = false) : canC N E = false := by
 cases hc : canC N E
 · rfl
 · rw [((canC_iff N E).1 hc).2.2 i n e hn he] at h
   cases h
theorem canC_len {N E : List Int} (h : ¬ (N.length = E.length ∧ N.length ≤ 1000)) : canC N E = false := by
 cases hc : canC N E
 · rfl
 · exact absurd ⟨((canC_iff N E).1 hc).1, ((canC_iff N E).1 hc).2.1⟩ h
/-- A value as a lane's. -/
def laneV (v : V) (area : Bool) : V := if area then (match v with | .num n => .num n | .err e => .err e | _ => .num 0) else v.toNum
def lnN (area : Bool) (l : List Rw) : List Int := l.map (fun r => (laneV r.v area).n)
def lnE (area : Bool) (l : List Rw) : List Int := l.map (fun r => (laneV r.v area).e)
/-- Is it a number or nothing? -/
def plB (v : V) : Bool := v.k == 0 || v.k == 2
def plainL (l : List Rw) : Bool := l.all (fun r => plB r.v)
theorem ln_len (area : Bool) (l : List Rw) : (lnN area l).length = l.length ∧ (lnE area l).length = l.length := by simp [lnN, lnE]
/-- Lanes of a cut are lanes. -/
theorem canC_cut {N E : List Int} (h : canC N E = true) (f n : Nat) : canC ((N.drop f).take n) ((E.drop f).take n) = true := by
 obtain ⟨h1, h2, h3⟩ := (canC_iff N E).1 h
 rw [canC_iff]
 refine ⟨by simp [h1], by simp; omega, fun i a b ha hb => ?_⟩
 rw [List.getElem?_take] at ha hb
 split at ha
 · rename_i hi
   rw [if_pos hi] at hb
   rw [List.getElem?_drop] at ha hb
   exact h3 _ _ _ ha hb
 · cases ha

open Go.RowKit
set_option maxHeartbeats 1000000

/-- What the program says of an element's type. -/
structure Elt (TS T : TypeId) (k bytes : Nat) : Prop where
 u : Tryd.prog.underlying TS = some (.slice T)
 i : ∃ i z, Tryd.prog.info? T = some i ∧ i.zero = some z ∧ i.size = k ∧ i.bytes = bytes ∧ z.cells.size = k
 k0 : 0 < k
theorem ownsRow_ext {w w' : World} {base : Nat} {T : TypeId} {k n : Nat} {v : Value} {xs : List Value} (h : w.ownsRow base T k v n xs) (e : Ext w w') : w'.ownsRow base T k v n xs := by
 refine ⟨h.1, ?_⟩
 rcases h.2 with h | ⟨g, cap, cur, h1, h2, h3, h4⟩
 · exact .inl h
 · exact .inr ⟨g, cap, cur, h1, h2, (e.block g (Array.getElem?_eq_some_iff.1 h3).1).trans h3, h4⟩
theorem ownsRow_mono {w : World} {base base' : Nat} {T : TypeId} {k n : Nat} {v : Value} {xs : List Value} (h : w.ownsRow base T k v n xs) (e : base' ≤ base) : w.ownsRow base' T k v n xs := by
 refine ⟨h.1, ?_⟩
 rcases h.2 with h | ⟨g, cap, cur, h1, h2, h3⟩
 · exact .inl h
 · exact .inr ⟨g, cap, cur, h1, Nat.le_trans e h2, h3⟩
theorem ext_grownG {w W W' : World} {base : Nat} {T : TypeId} {k n : Nat} {v : Value} {xs : List Value} (hB : W.ownsRow base T k v n xs) (hb : w.heap.size ≤ base) (hE : Ext w W) (hg : W.grownBy W' v.ownBlock) : Ext w W' := by
 refine ⟨hg.os.trans hE.os, hg.tape.trans hE.tape, hg.output.trans hE.output, Nat.le_trans hE.size hg.size, fun q hq => ?_⟩
 refine (hg.block q (Nat.lt_of_lt_of_le hq hE.size) ?_).trans (hE.block q hq)
 intro e
 have := (hB.lt q e.symm).1
 omega
/-- A slice that is read: these cells lie in a row. -/
def RowC (W : World) (v : Value) (m : Nat) (k : Nat) (news : List Value) : Prop := news.length = m * k ∧ ∃ p c, v = .slice p m c ∧ ((p = none ∧ m = 0) ∨ ∃ ad, p = some ad ∧ ∀ j u, news[j]? = some u → W.cell? (ad.add j) = some u)
theorem run_append_noneG {TS T : TypeId} {k bytes : Nat} (hT : Elt TS T k bytes) (w : World) (ty : TypeId) (p : Option Addr) (n cap c : Nat) (h : n ≤ cap) :
   (Builtin.append_ #[TS, TS] ty #[.slice p n cap, .slice none 0 c]).run Tryd.prog w = .ok (.slice p n cap) w := by
 obtain ⟨i, z, hi, hz, h1, h2, h3⟩ := hT.i
 cases p with
 | none => simp [Builtin.append_, run_underlying hT.u, sizeOf, typeInfo, hi, Builtin.lenOf, Builtin.firstCells, h]
 | some a => simp [Builtin.append_, run_underlying hT.u, sizeOf, typeInfo, hi, Builtin.lenOf, Builtin.firstCells, loadCells, h, storeCells]
theorem own_form {W : World} {base : Nat} {T : TypeId} {k n : Nat} {v : Value} {xs : List Value} (h : W.ownsRow base T k v n xs) : ∃ p c, v = .slice p n c ∧ n ≤ c := by
 rcases h.2 with ⟨h, h0⟩ | ⟨g, cap, cur, h, _, _, h4, _⟩
 · exact ⟨none, 0, by rw [h, h0], by omega⟩
 · exact ⟨_, _, h, h4⟩

open Go.RowKit
set_option maxHeartbeats 1000000

theorem gm_len {α : Type} {c : α → List Value} {k : Nat} (hc : ∀ x, (c x).length = k) (l : List α) : (l.flatMap c).length = l.length * k := by
 induction l with
 | nil => simp
 | cons x l ih => rw [List.flatMap_cons, List.length_append, hc, ih, List.length_cons, Nat.succ_mul]; omega
theorem gm_at {α : Type} {c : α → List Value} {k : Nat} (hc : ∀ x, (c x).length = k) : ∀ (l : List α) (i : Nat) (x : α) (j : Nat), l[i]? = some x → j < k → (l.flatMap c)[i * k + j]? = (c x)[j]?
 | [], i, x, j, h, _ => by simp at h
 | y :: l, 0, x, j, h, hj => by
   simp at h; subst h
   rw [List.flatMap_cons, Nat.zero_mul, Nat.zero_add, List.getElem?_append_left (by rw [hc]; exact hj)]
 | y :: l, i + 1, x, j, h, hj => by
   have ih := gm_at hc l i x j (by simpa using h) hj
   rw [List.flatMap_cons, List.getElem?_append_right (by rw [hc, Nat.succ_mul]; omega), hc, ← ih]
   congr 1
   rw [Nat.succ_mul]; omega
theorem gm_get {α : Type} {c : α → List Value} {k : Nat} (hc : ∀ x, (c x).length = k) (hk : 0 < k) (l : List α) (j : Nat) (u : Value) (h : (l.flatMap c)[j]? = some u) : ∃ x, l[j / k]? = some x ∧ (c x)[j % k]? = some u := by
 have hj : j < l.length * k := by rw [← gm_len hc]; exact (List.getElem?_eq_some_iff.1 h).1
 have hi : j / k < l.length := by rw [Nat.div_lt_iff_lt_mul hk]; exact hj
 refine ⟨l[j / k], List.getElem?_eq_getElem hi, ?_⟩
 rw [← gm_at hc l (j / k) _ (j % k) (List.getElem?_eq_getElem hi) (Nat.mod_lt _ hk), Nat.mul_comm, Nat.div_add_mod]
 exact h
/-- The slice v holds l. -/
def RdG {α : Type} (c : α → List Value) (k : Nat) (W : World) (v : Value) (l : List α) : Prop :=
 ∃ p cp, v = .slice p l.length cp ∧ l.length ≤ cp ∧ (l = [] ∨ ∃ b off, p = some ⟨b, off, none⟩ ∧ b < W.heap.size ∧ ∀ i x j u, l[i]? = some x → (c x)[j]? = some u → W.cell? ⟨b, off + i * k + j, none⟩ = some u)
section
variable {α : Type} {c : α → List Value} {k : Nat}
theorem RdG.len {W : World} {p : Option Addr} {n cp : Nat} {l : List α} (h : RdG c k W (.slice p n cp) l) : n = l.length := by
 obtain ⟨p', c', h1, _⟩ := h
 cases h1; rfl
theorem RdG.form {W : World} {v : Value} {l : List α} (h : RdG c k W v l) : ∃ p cp, v = .slice p l.length cp ∧ l.length ≤ cp := by
 obtain ⟨p, cp, h1, h2, _⟩ := h
 exact ⟨p, cp, h1, h2⟩
theorem RdG.keep {W W' : World} {p : Option Addr} {n cp : Nat} {l : List α} (h : RdG c k W (.slice p n cp) l) (hs : W.heap.size ≤ W'.heap.size) (hk : ∀ a, p = some a → l ≠ [] → a.block < W.heap.size → W'.heap[a.block]? = W.heap[a.block]?) : RdG c k W' (.slice p n cp) l := by
 obtain ⟨p', c', h1, h2, h3⟩ := h
 cases h1
 refine ⟨p, cp, rfl, h2, ?_⟩
 rcases h3 with h3 | ⟨b, off, rfl, h5, h6⟩
 · exact .inl h3
 · refine .inr ⟨b, off, rfl, Nat.lt_of_lt_of_le h5 hs, fun i x j u hi hj => ?_⟩
   have := h6 i x j u hi hj
   unfold World.cell? at this ⊢
   rw [show W'.heap[b]? = W.heap[b]? from hk _ rfl (fun e => by rw [e] at hi; simp at hi) h5]
   exact this
theorem RdG.ext {W W' : World} {v : Value} {l : List α} (h : RdG c k W v l) (e : Ext W W') : RdG c k W' v l := by
 obtain ⟨p, cp, h1, h2, h3⟩ := h
 refine ⟨p, cp, h1, h2, ?_⟩
 rcases h3 with h3 | ⟨b, off, h4, h5, h6⟩
 · exact .inl h3
 · exact .inr ⟨b, off, h4, Nat.lt_of_lt_of_le h5 e.size, fun i x j u hi hj => (e.cell.1 b _ h5).trans (h6 i x j u hi hj)⟩
theorem RdG.nil (W : World) : RdG c k W (.slice none 0 0) [] := ⟨none, 0, rfl, Nat.le_refl _, .inl rfl⟩
theorem RdG.at {W : World} {p : Option Addr} {n cp : Nat} {l : List α} (h : RdG c k W (.slice p n cp) l) {i : Nat} {x : α} (hi : l[i]? = some x) :
   ∃ b off, p = some ⟨b, off, none⟩ ∧ b < W.heap.size ∧ ∀ j u, (c x)[j]? = some u → W.cell? ⟨b, off + i * k + j, none⟩ = some u := by
 obtain ⟨p', c', h1, h2, h3⟩ := h
 cases h1
 rcases h3 with h3 | ⟨b, off, h4, h5, h6⟩
 · subst h3; simp at hi
 · exact ⟨b, off, h4, h5, fun j u hj => h6 i x j u hi hj⟩
theorem RdG.row (hc : ∀ x, (c x).length = k) (hk : 0 < k) {W : World} {v : Value} {l : List α} (h : RdG c k W v l) : RowC W v l.length k (l.flatMap c) := by
 obtain ⟨p, cp, h1, h2, h3⟩ := h
 refine ⟨gm_len hc l, p, cp, h1, ?_⟩
 rcases h3 with rfl | ⟨b, off, rfl, _, h6⟩
 · cases p with
   | none => exact .inl ⟨rfl, rfl⟩
   | some ad => exact .inr ⟨ad, rfl, fun j u hu => by simp at hu⟩
 · refine .inr ⟨_, rfl, fun j u hu => ?_⟩
   obtain ⟨r, hr, hu⟩ := gm_get hc hk l j u hu
   have := h6 _ r _ u hr hu
   rw [Addr.add_lit]
   rw [Nat.add_assoc, Nat.mul_comm, Nat.div_add_mod] at this
   exact this
/-- What is owned is read. -/
theorem own_rdG (hc : ∀ x, (c x).length = k) {W : World} {base : Nat} {T : TypeId} {v : Value} {l : List α} {n : Nat} (h : W.ownsRow base T k v n (l.flatMap c)) (hn : n = l.length) : RdG c k W v l := by
 subst hn
 rcases h.2 with ⟨rfl, h0⟩ | ⟨g, cap, cur, rfl, h2, h3, h4, h5⟩
 · have : l = [] := List.eq_nil_of_length_eq_zero h0
   subst this
   exact RdG.nil W
 · have hg : g < W.heap.size := (Array.getElem?_eq_some_iff.1 h3).1
   refine ⟨_, cap, rfl, h4, .inr ⟨g, 0, rfl, hg, fun i x j u hi hj => ?_⟩⟩
   have hj6 : j < k := by rw [← hc x]; exact (List.getElem?_eq_some_iff.1 hj).1
   have k' := h.cells (g := g) rfl (i * k + j) u (by rw [gm_at hc l i x j hi hj6]; exact hj)
   simp only [Addr.add_lit] at k'
   rw [Nat.add_assoc]
   exact k'
theorem RdG.part {W : World} {p : Option Addr} {n cp : Nat} {l : List α} (h : RdG c k W (.slice p n cp) l) (j : Nat) (hj : j ≤ l.length) : RdG c k W (.slice p j cp) (l.take j) := by
 obtain ⟨p', c', h1, h2, h3⟩ := h
 cases h1
 have hl : (l.take j).length = j := by simp; omega
 refine ⟨_, cp, by rw [hl], by rw [hl]; omega, ?_⟩
 rcases h3 with h3 | ⟨b', off', h4, h5, h6⟩
 · subst h3; exact .inl (by simp)
 · refine .inr ⟨b', off', h4, h5, fun i x q u hk hq => h6 i x q u ?_ hq⟩
   rw [List.getElem?_take] at hk
   split at hk
   · exact hk
   · cases hk
theorem gm_one (h1 : ∀ x, ∀ v ∈ c x, v.oneCell' = true) (l : List α) : ∀ u ∈ l.flatMap c, u.oneCell' = true := by
 intro u hu
 obtain ⟨r, _, hu⟩ := List.mem_flatMap.1 hu
 exact h1 r u hu
end
theorem top_heap (w : World) (o : Obj) : (w.alloc o).heap[w.heap.size]? = some o := by show (w.heap.push o)[w.heap.size]? = some o; simp
theorem heap_lt {w : World} {g : Nat} {o : Obj} (h : w.heap[g]? = some o) : g < w.heap.size := (Array.getElem?_eq_some_iff.1 h).1
theorem take_at {α : Type} {l : List α} {k : Nat} {s : α} (h : l[k]? = some s) : l.take (k + 1) = l.take k ++ [s] := by
 rw [List.take_add_one, h]; rfl
/-- A list of one, just built. -/
theorem RdG.one {α : Type} {c : α → List Value} {k : Nat} {W : World} {x : α} {b : Nat} {cur : Array Value} {T : TypeId} {fr : Nat × Nat} (hb : W.heap[b]? = some (.cells cur T fr)) (hx : ∀ (j : Nat) (u : Value), (c x)[j]? = some u → cur[j]? = some u) : RdG c k W (.slice (some ⟨b, 0, none⟩) 1 1) [x] := by
 refine ⟨_, 1, rfl, Nat.le_refl _, .inr ⟨b, 0, rfl, heap_lt hb, fun i y j u hi hj => ?_⟩⟩
 have hi0 : i = 0 := by have := (List.getElem?_eq_some_iff.1 hi).1; simp at this; omega
 subst hi0
 simp at hi
 subst hi
 rw [cell_of_row W b _ cur T fr hb, show 0 + 0 * k + j = j by omega]
 exact hx j u hj

open Go.RowKit
set_option maxHeartbeats 1000000

def Blk2 (W : World) (b : Nat) (x0 x1 : Value) : Prop := b < W.heap.size ∧
 (W.cell? ⟨b, 0, none⟩ = some x0 ∧ W.cell? ⟨b, 1, none⟩ = some x1) ∧
 (W.frozen? ⟨b, 0, none⟩ = false ∧ W.frozen? ⟨b, 1, none⟩ = false)
theorem blk2_top {w w1 : World} {x0 x1 : Value} {T : TypeId} {b : Nat} (hb : b = w.heap.size) (E : Ext (w.alloc (.cells #[x0, x1] T)) w1) : Blk2 w1 b x0 x1 := by
 subst hb
 have hs : w.heap.size < (w.alloc (.cells #[x0, x1] T)).heap.size := by simp
 have k := fun o => E.cell.1 w.heap.size o hs
 have f := fun o => E.cell.2 w.heap.size o hs
 refine ⟨Nat.lt_of_lt_of_le hs E.sz, ⟨(k 0).trans ?_, (k 1).trans ?_⟩, (f 0).trans ?_, (f 1).trans ?_⟩
 all_goals simp [go_sem]
theorem Blk2.ext {w w' : World} {b : Nat} {x0 x1 : Value} (h : Blk2 w b x0 x1) (e : Ext w w') : Blk2 w' b x0 x1 := by
 obtain ⟨z, ⟨k0, k1⟩, f0, f1⟩ := h
 have k := fun o => e.cell.1 b o z
 have f := fun o => e.cell.2 b o z
 exact ⟨Nat.lt_of_lt_of_le z e.sz, ⟨(k 0).trans k0, (k 1).trans k1⟩, (f 0).trans f0, (f 1).trans f1⟩
theorem Blk2.far1 {w : World} {b c : Nat} {x0 x1 : Value} (h : Blk2 w b x0 x1) (hc : c ≠ b) (o : Nat) (v : Value) : Blk2 (w.setCell ⟨c, o, none⟩ v) b x0 x1 := by
 obtain ⟨z, ⟨k0, k1⟩, f0, f1⟩ := h
 refine ⟨by simpa [World.setCell] using z, ⟨?_, ?_⟩, ?_, ?_⟩
 · rw [World.cell?_setCell_far _ _ _ _ hc]; exact k0
 · rw [World.cell?_setCell_far _ _ _ _ hc]; exact k1
 · rw [World.frozen?_setCell]; exact f0
 · rw [World.frozen?_setCell]; exact f1
theorem Blk2.far {w : World} {b c : Nat} {x0 x1 : Value} (h : Blk2 w b x0 x1) (hc : c ≠ b) (y0 y1 : Value) :
   Blk2 ((w.setCell ⟨c, 0, none⟩ y0).setCell ⟨c, 1, none⟩ y1) b x0 x1 := ((h.far1 hc _ _).far1 hc _ _)
theorem Blk2.put0 {w : World} {b : Nat} {x0 x1 : Value} (h : Blk2 w b x0 x1) (v : Value) : Blk2 (w.setCell ⟨b, 0, none⟩ v) b v x1 := by
 obtain ⟨z, ⟨k0, k1⟩, f0, f1⟩ := h
 have e := World.cell?_setCell_same w ⟨b, 0, none⟩ v (by rw [k0])
 refine ⟨by simpa [World.setCell] using z, ⟨e, ?_⟩, ?_, ?_⟩
 · rw [World.cell?_setCell_other _ _ _ _ (by simp)]; exact k1
 · rw [World.frozen?_setCell]; exact f0
 · rw [World.frozen?_setCell]; exact f1
theorem Blk2.put1 {w : World} {b : Nat} {x0 x1 : Value} (h : Blk2 w b x0 x1) (v : Value) : Blk2 (w.setCell ⟨b, 1, none⟩ v) b x0 v := by
 obtain ⟨z, ⟨k0, k1⟩, f0, f1⟩ := h
 have e := World.cell?_setCell_same w ⟨b, 1, none⟩ v (by rw [k1])
 refine ⟨by simpa [World.setCell] using z, ⟨?_, e⟩, ?_, ?_⟩
 · rw [World.cell?_setCell_other _ _ _ _ (by simp)]; exact k0
 · rw [World.frozen?_setCell]; exact f0
 · rw [World.frozen?_setCell]; exact f1
theorem Blk2.set {w : World} {b : Nat} {o0 o1 : Value} (h : Blk2 w b o0 o1) (x0 x1 : Value) :
   Blk2 ((w.setCell ⟨b, 0, none⟩ x0).setCell ⟨b, 1, none⟩ x1) b x0 x1 := ((h.put0 _).put1 _)
theorem Blk2.dr {w : World} {b : Nat} {x0 x1 : Value} (h : Blk2 w b x0 x1) : Blk2 w.drew b x0 x1 := h.ext (Ext.drew (Ext.refl _))
/-- The end of a function whose result, and others beside it, lies in a block of its own. -/
theorem fin2 (v : Value) {fn : Func} {Q : Ending → World → Prop} {a : Act} {w W : World} {b : Nat} {x0 x1 : Value}
   (B : Blk2 W b x0 x1) (hd : a.defers = []) (E : Ext w W)
   (hr : W.cell? ⟨b, 0, none⟩ = some x0 → W.cell? ⟨b, 1, none⟩ = some x1 → (results fn a.tmps).run Tryd.prog W = .ok v W)
   (hQ : Ext w W → Q (.returned v) W) : bodyPost Tryd.prog fn Q .ret a W :=
 bodyPost_ret (hr B.2.1.1 B.2.1.2) hd (hQ E)

open Go.RowKit
set_option maxHeartbeats 2000000

theorem elt_by {TS T : TypeId} {k bytes : Nat} {z : Value} (hu : Tryd.prog.underlying TS = some (.slice T)) (h1 : (Tryd.prog.info? T).isSome = true) (h2 : (Tryd.prog.info? T).bind (fun i => i.zero) = some z) (h3 : (Tryd.prog.info? T).map (fun i => (i.size, i.bytes)) = some (k, bytes)) (h4 : z.cells.size = k) (hk : 0 < k) : Elt TS T k bytes := by
 refine ⟨hu, ?_, hk⟩
 cases h : Tryd.prog.info? T with
 | none => rw [h] at h1; cases h1
 | some i =>
   rw [h] at h2 h3
   simp at h2 h3
   exact ⟨i, z, rfl, h2, h3.1, h3.2, h4⟩
/-- The cell of a number. -/
def dI (x : Int) : List Value := [.int .i64 x]
theorem dI_len (x : Int) : (dI x).length = 1 := rfl
theorem dI_one (x : Int) : ∀ v ∈ dI x, v.oneCell' = true := by intro v hv; simp [dI] at hv; subst hv; rfl
theorem dltI : Elt 24 3 1 8 := elt_by (z := .int .i64 0) Tryd.underlying24 (by kernel_rfl) (by kernel_rfl) (by kernel_rfl) rfl (by decide)
theorem dltL : Elt 23 2 1 8 := elt_by (z := .int .i64 0) Tryd.underlying23 (by kernel_rfl) (by kernel_rfl) (by kernel_rfl) rfl (by decide)
/-- The slice v holds the numbers l. -/
abbrev RdI (W : World) (v : Value) (l : List Int) : Prop := RdG dI 1 W v l
theorem RdI.cell {W : World} {p : Option Addr} {n cp : Nat} {l : List Int} (h : RdI W (.slice p n cp) l) {i : Nat} {x : Int} (hi : l[i]? = some x) :
   ∃ b off, p = some ⟨b, off, none⟩ ∧ b < W.heap.size ∧ W.cell? ⟨b, off + i, none⟩ = some (.int .i64 x) := by
 obtain ⟨b, off, h1, h2, h3⟩ := h.at hi
 refine ⟨b, off, h1, h2, ?_⟩
 have := h3 0 _ rfl
 rw [Nat.mul_one, Nat.add_zero] at this
 exact this
theorem wrapC (k : Nat) (h : k < 9223372036854775807) : wrap64 ((k : Int) + 1) = ((k + 1 : Nat) : Int) := by unfold wrap64; omega
theorem name_empty (e : Int) : (bs (errName e)).toList.isEmpty = !decide (1 ≤ e ∧ e ≤ 5) := by
 rw [ByteArray.toList_eq]
 by_cases h : 1 ≤ e ∧ e ≤ 5
 · have hh : e = 1 ∨ e = 2 ∨ e = 3 ∨ e = 4 ∨ e = 5 := by omega
   rcases hh with rfl | rfl | rfl | rfl | rfl <;> decide
 · rw [err_none h]; simp [h]; decide
theorem canlane_any (n e : Int) (w : World) (hN : Nm w) : Calls Tryd.prog 25 #[.int .i64 n, .int .i64 e] w fun r w' => r = .returned (.bool (laneB n e)) ∧ w' = w := by
 have c1 := fun W => can_any n W
 have c2 := fun W h => errname_any e W h
 by_cases h0 : e = 0
 · have H : Hid (laneB n e = canB n) := by show laneB n e = _; unfold laneB; rw [if_pos h0]
   subst h0
   clear c2
   go_enter Tryd.func25, Tryd.ntmps25
   go_wp2_with fail
   refine (c1 _).mono ?_
   rintro r w1 ⟨rfl, rfl⟩
   go_wp2_with fail
   go_ret
   exact ⟨ret_bool H.out.symm, rfl⟩
 · have hz := name_empty e
   generalize bs (errName e) = q at c2 hz
   clear c1
   by_cases h1 : n = 0
   · have H : Hid (laneB n e = decide (1 ≤ e ∧ e ≤ 5)) := by show laneB n e = _; unfold laneB; rw [if_neg h0, h1]; rfl
     subst h1
     generalize decide (1 ≤ e ∧ e ≤ 5) = d at H hz
     go_enter Tryd.func25, Tryd.ntmps25
     go_wp2_with fail
     refine (c2 _ hN).mono ?_
     rintro r w1 ⟨rfl, rfl⟩
     go_wp2_with fail
     go_ret
     exact ⟨ret_bool (by rw [H.out]), rfl⟩
   · have H : Hid (laneB n e = false) := by show laneB n e = _; unfold laneB; rw [if_neg h0]; simp [h1]
     clear c2 hz
     go_enter Tryd.func25, Tryd.ntmps25
     go_wp2_with fail
     go_ret
     exact ⟨ret_bool H.out.symm, rfl⟩
set_option maxRecDepth 100000 in
theorem ccan_any (W : World) (a b : Value) (N E : List Int) (hN : Nm W) (ha : RdI W a N) (hb : RdI W b E) :
   Calls Tryd.prog 10 #[.agg #[a, b]] W fun r w' => r = .returned (.bool (canC N E)) ∧ Ext W w' := by
 obtain ⟨p, cp, rfl, _⟩ := ha.form
 obtain ⟨q, cq, rfl, _⟩ := hb.form
 have HA : Hid (RdI W (.slice p N.length cp) N) := ha
 have HB : Hid (RdI W (.slice q E.length cq) E) := hb
 have HN : Hid (Nm W) := hN
 obtain ⟨n, hn⟩ : ∃ n, N.length = n := ⟨_, rfl⟩
 obtain ⟨m, hm⟩ : ∃ m, E.length = m := ⟨_, rfl⟩
 have HL : Hid (N.length = n ∧ E.length = m) := ⟨hn, hm⟩
 rw [hn] at HA
 rw [hm] at HB
 rw [hn, hm]
 clear ha hb hN hn hm
 by_cases h1 : n = m
 · subst h1
   by_cases h2 : 1000 < n
   · have hd : decide ((n : Int) > 1000) = true := by simp; omega
     have hI : (n : Int) > 1000 := by omega
     have H : Hid (canC N E = false) := canC_len (by have := HL.out; omega)
     clear h2
     go_enter Tryd.func10, Tryd.ntmps10
     go_wp2_with fail
     go_ret
     exact ⟨ret_bool H.out.symm, (Ext.refl _).alloc _⟩
   · have hd : decide ((n : Int) > 1000) = false := by simp; omega
     have hI : ¬ (n : Int) > 1000 := by omega
     have H2 : Hid (n ≤ 1000) := by show _ ≤ _; omega
     clear h2
     go_enter Tryd.func10, Tryd.ntmps10
     go_wp2_with fail
     go_loopw [21] (fun iv wr => ∃ j : Nat, iv = .int .i64 (j : Int) ∧ j ≤ n ∧ wr = W.alloc (.cells #[.slice p n cp, .slice q n cq] 26) ∧ ∀ (i : Nat) (x e : Int), i < j → N[i]? = some x → E[i]? = some e → laneB x e = true) (fun iv _ => n - (intOf iv).toNat)
     case atStart => exact ⟨0, rfl, Nat.zero_le _, rfl, fun i x e h => absurd h (Nat.not_lt_zero _)⟩
     case round =>
       obtain ⟨j, rfl, hj, rfl, hg⟩ := hrel
       have HG : Hid (∀ (i : Nat) (x e : Int), i < j → N[i]? = some x → E[i]? = some e → laneB x e = true) := hg
       clear hg
       by_cases hlt : j < n
       · have hltI : (j : Int) < (n : Int) := by omega
         obtain ⟨x, hx⟩ : ∃ x, N[j]? = some x := ⟨_, List.getElem?_eq_getElem (by have := HL.out; omega)⟩
         obtain ⟨e, he⟩ : ∃ e, E[j]? = some e := ⟨_, List.getElem?_eq_getElem (by have := HL.out; omega)⟩
         obtain ⟨b1, o1, rfl, hb1, k1⟩ := HA.out.cell hx
         obtain ⟨b2, o2, rfl, hb2, k2⟩ := HB.out.cell he
         have HX : Hid (N[j]? = some x ∧ E[j]? = some e) := ⟨hx, he⟩
         have wk := wrapC j (by have := H2.out; omega)
         have g1 := Lib.cell?_alloc_some (.cells #[.slice (some ⟨b1, o1, none⟩) n cp, .slice (some ⟨b2, o2, none⟩) n cq] 26) k1
         have g2 := Lib.cell?_alloc_some (.cells #[.slice (some ⟨b1, o1, none⟩) n cp, .slice (some ⟨b2, o2, none⟩) n cq] 26) k2
         clear hx he hb1 hb2 k1 k2
         go_wp2_with fail
         refine (canlane_any x e _ (HN.out.ext ((Ext.refl _).alloc _))).mono ?_
         rintro r w1 ⟨rfl, rfl⟩
         cases hl : laneB x e
         · have H : Hid (canC N E = false) := canC_no HX.out.1 HX.out.2 hl
           go_wp2_with fail
           go_ret
           exact ⟨ret_bool H.out.symm, (Ext.refl _).alloc _⟩
         · have HG2 : Hid (∀ (i : Nat) (x e : Int), i < j + 1 → N[i]? = some x → E[i]? = some e → laneB x e = true) := by
             intro i y f hi hy hf
             by_cases hij : i = j
             · subst hij
               rw [HX.out.1] at hy
               rw [HX.out.2] at hf
               cases hy; cases hf
               exact hl
             · exact HG.out i y f (by omega) hy hf
           clear hl
           go_wp2_with fail
           go_roundw
           case rel => exact ⟨j + 1, by go_num, hlt, by trivial, HG2.out⟩
           case measure => simp [intOf]; omega
       · have hltI : ¬ (j : Int) < (n : Int) := by omega
         have H : Hid (canC N E = true) := by
           refine (canC_iff N E).2 ⟨by rw [HL.out.1, HL.out.2], by rw [HL.out.1]; exact H2.out, fun i x e hx he => HG.out i x e ?_ hx he⟩
           have := (List.getElem?_eq_some_iff.1 hx).1
           have := HL.out.1
           omega
         go_wp2_with fail
         go_ret
         exact ⟨ret_bool H.out.symm, (Ext.refl _).alloc _⟩
 · have hd : decide ((n : Int) = (m : Int)) = false := by simp; omega
   have hI : ¬ ((n : Int) = (m : Int)) := by omega
   have H : Hid (canC N E = false) := canC_len (by have := HL.out; omega)
   clear h1
   go_enter Tryd.func10, Tryd.ntmps10
   go_wp2_with fail
   go_ret
   exact ⟨ret_bool H.out.symm, (Ext.refl _).alloc _⟩

open Go.RowKit
set_option maxHeartbeats 1000000

/-- The slice v holds the values l, in a block below B. -/
def RdV (B : Nat) (W : World) (v : Value) (l : List Rw) : Prop :=
 ∃ p c, v = .slice p l.length c ∧ l.length ≤ c ∧ (l = [] ∨ ∃ b off, p = some ⟨b, off, none⟩ ∧ b < B ∧ b < W.heap.size ∧ ∀ i r, l[i]? = some r →
   W.cell? ⟨b, off + i * 4, none⟩ = some (.int .i64 r.k) ∧ W.cell? ⟨b, off + i * 4 + 1, none⟩ = some (.int .i64 r.n) ∧ W.cell? ⟨b, off + i * 4 + 2, none⟩ = some (.string r.s) ∧ W.cell? ⟨b, off + i * 4 + 3, none⟩ = some (.int .i64 r.e))
theorem RdV.low {B : Nat} {W W' : World} {v : Value} {l : List Rw} (h : RdV B W v l) (e : Below B W W') : RdV B W' v l := by
 obtain ⟨p, c, h1, h2, h3⟩ := h
 refine ⟨p, c, h1, h2, ?_⟩
 rcases h3 with h3 | ⟨b, off, h3, h4, h5, h6⟩
 · exact .inl h3
 · refine .inr ⟨b, off, h3, h4, Nat.lt_of_lt_of_le h5 e.size, fun i r hr => ?_⟩
   have k := fun o => Below.cell e (p := ⟨b, o, none⟩) h4
   obtain ⟨k0, k1, k2, k3⟩ := h6 i r hr
   exact ⟨(k _).trans k0, (k _).trans k1, (k _).trans k2, (k _).trans k3⟩
theorem RdV.up {B B' : Nat} {W : World} {v : Value} {l : List Rw} (h : RdV B W v l) (e : B ≤ B') : RdV B' W v l := by
 obtain ⟨p, c, h1, h2, h3⟩ := h
 refine ⟨p, c, h1, h2, ?_⟩
 rcases h3 with h3 | ⟨b, off, h3, h4, h5⟩
 · exact .inl h3
 · exact .inr ⟨b, off, h3, Nat.lt_of_lt_of_le h4 e, h5⟩
theorem RdV.at {B : Nat} {W : World} {p : Option Addr} {c n : Nat} {l : List Rw} (h : RdV B W (.slice p n c) l) {i : Nat} (hi : i < l.length) :
   ∃ b off r, p = some ⟨b, off, none⟩ ∧ l[i]? = some r ∧ b < B ∧ b < W.heap.size ∧
     W.cell? ⟨b, off + i * 4, none⟩ = some (.int .i64 r.k) ∧ W.cell? ⟨b, off + i * 4 + 1, none⟩ = some (.int .i64 r.n) ∧ W.cell? ⟨b, off + i * 4 + 2, none⟩ = some (.string r.s) ∧ W.cell? ⟨b, off + i * 4 + 3, none⟩ = some (.int .i64 r.e) := by
 obtain ⟨p', c', h1, h2, h3⟩ := h
 cases h1
 rcases h3 with h3 | ⟨b, off, h3, h4, h5, h6⟩
 · subst h3; simp at hi
 · exact ⟨b, off, _, h3, List.getElem?_eq_getElem hi, h4, h5, h6 i _ (List.getElem?_eq_getElem hi)⟩
theorem RdV.len {B : Nat} {W : World} {p : Option Addr} {c n : Nat} {l : List Rw} (h : RdV B W (.slice p n c) l) : n = l.length := by
 obtain ⟨p', c', h1, _⟩ := h
 cases h1; rfl
theorem RdV.form {B : Nat} {W : World} {v : Value} {l : List Rw} (h : RdV B W v l) : ∃ p n c, v = .slice p n c ∧ n = l.length ∧ n ≤ c := by
 obtain ⟨p, c, h1, h2, _⟩ := h
 exact ⟨p, _, c, h1, rfl, h2⟩
/-- The slice v holds the arguments l, in blocks below B. -/
def RdA (B : Nat) (W : World) (v : Value) (l : List Ag) : Prop :=
 ∃ p c, v = .slice p l.length c ∧ l.length ≤ c ∧ (l = [] ∨ ∃ b off, p = some ⟨b, off, none⟩ ∧ b < B ∧ b < W.heap.size ∧ ∀ i a, l[i]? = some a → ∃ (x y : Int) (lv : Value),
   W.cell? ⟨b, off + i * 4, none⟩ = some (.bool a.area) ∧ W.cell? ⟨b, off + i * 4 + 1, none⟩ = some (.int .i64 x) ∧ W.cell? ⟨b, off + i * 4 + 2, none⟩ = some (.int .i64 y) ∧ W.cell? ⟨b, off + i * 4 + 3, none⟩ = some lv ∧ RdV B W lv a.l)
theorem RdA.low {B : Nat} {W W' : World} {v : Value} {l : List Ag} (h : RdA B W v l) (e : Below B W W') : RdA B W' v l := by
 obtain ⟨p, c, h1, h2, h3⟩ := h
 refine ⟨p, c, h1, h2, ?_⟩
 rcases h3 with h3 | ⟨b, off, h3, h4, h5, h6⟩
 · exact .inl h3
 · refine .inr ⟨b, off, h3, h4, Nat.lt_of_lt_of_le h5 e.size, fun i r hr => ?_⟩
   have k := fun o => Below.cell e (p := ⟨b, o, none⟩) h4
   obtain ⟨x, y, lv, k0, k1, k2, k3, k4⟩ := h6 i r hr
   exact ⟨x, y, lv, (k _).trans k0, (k _).trans k1, (k _).trans k2, (k _).trans k3, k4.low e⟩
theorem RdA.up {B B' : Nat} {W : World} {v : Value} {l : List Ag} (h : RdA B W v l) (e : B ≤ B') : RdA B' W v l := by
 obtain ⟨p, c, h1, h2, h3⟩ := h
 refine ⟨p, c, h1, h2, ?_⟩
 rcases h3 with h3 | ⟨b, off, h3, h4, h5, h6⟩
 · exact .inl h3
 · refine .inr ⟨b, off, h3, Nat.lt_of_lt_of_le h4 e, h5, fun i r hr => ?_⟩
   obtain ⟨x, y, lv, k0, k1, k2, k3, k4⟩ := h6 i r hr
   exact ⟨x, y, lv, k0, k1, k2, k3, k4.up e⟩
theorem RdA.at {B : Nat} {W : World} {p : Option Addr} {c n : Nat} {l : List Ag} (h : RdA B W (.slice p n c) l) {i : Nat} (hi : i < l.length) :
   ∃ (b off : Nat) (a : Ag) (x y : Int) (lv : Value), p = some ⟨b, off, none⟩ ∧ l[i]? = some a ∧ b < B ∧ b < W.heap.size ∧
     (W.cell? ⟨b, off + i * 4, none⟩ = some (.bool a.area) ∧ W.cell? ⟨b, off + i * 4 + 1, none⟩ = some (.int .i64 x) ∧ W.cell? ⟨b, off + i * 4 + 2, none⟩ = some (.int .i64 y) ∧ W.cell? ⟨b, off + i * 4 + 3, none⟩ = some lv) ∧ RdV B W lv a.l := by
 obtain ⟨p', c', h1, h2, h3⟩ := h
 cases h1
 rcases h3 with h3 | ⟨b, off, h3, h4, h5, h6⟩
 · subst h3; simp at hi
 · obtain ⟨x, y, lv, k0, k1, k2, k3, k4⟩ := h6 i _ (List.getElem?_eq_getElem hi)
   exact ⟨b, off, _, x, y, lv, h3, List.getElem?_eq_getElem hi, h4, h5, ⟨k0, k1, k2, k3⟩, k4⟩
theorem RdA.form {B : Nat} {W : World} {v : Value} {l : List Ag} (h : RdA B W v l) : ∃ p n c, v = .slice p n c ∧ n = l.length ∧ n ≤ c := by
 obtain ⟨p, c, h1, h2, _⟩ := h
 exact ⟨p, _, c, h1, rfl, h2⟩

/-- Block k is a row of bytes. -/
def RowB (W : World) (k : Nat) : Prop := ∃ c fz, W.heap[k]? = some (.cells c 5 fz)
theorem RowB.lt {W : World} {k : Nat} (h : RowB W k) : k < W.heap.size := by
 obtain ⟨c, fz, h⟩ := h
 exact (Array.getElem?_eq_some_iff.1 h).1
/-- Blocks below hi, and rows of bytes, have not turned. -/
def Env (hi : Nat) (w w' : World) : Prop := Below hi w w' ∧ ∀ k, RowB w k → w'.heap[k]? = w.heap[k]?
/-- Blocks below lo, and those from hi on that are no rows of bytes, have not turned. -/
def Mid (lo hi : Nat) (w w' : World) : Prop := Below lo w w' ∧ ∀ k, hi ≤ k → k < w.heap.size → ¬ RowB w k → w'.heap[k]? = w.heap[k]?
theorem RowB.same {w w' : World} {k : Nat} (h : w'.heap[k]? = w.heap[k]?) : RowB w' k ↔ RowB w k := by unfold RowB; rw [h]
theorem Env.trans {hi : Nat} {a b c : World} (h : Env hi a b) (k : Env hi b c) : Env hi a c :=
 ⟨h.1.trans k.1, fun n hn => (k.2 n ((RowB.same (h.2 n hn)).2 hn)).trans (h.2 n hn)⟩
theorem Mid.trans {lo hi : Nat} {a b c : World} (h : Mid lo hi a b) (k : Mid lo hi b c) : Mid lo hi a c :=
 ⟨h.1.trans k.1, fun n h1 h2 h3 => (k.2 n h1 (Nat.lt_of_lt_of_le h2 h.1.size) (fun r => h3 ((RowB.same (h.2 n h1 h2 h3)).1 r))).trans (h.2 n h1 h2 h3)⟩
theorem Mid.ext {w0 a b : World} {hi : Nat} (h : Mid w0.heap.size hi a b) (e : Ext w0 a) : Ext w0 b := Below.trans e h.1

open Go.RowKit

theorem cnt_lt {p q : Nat → Bool} : ∀ (l : List Nat), (∀ x ∈ l, q x = true → p x = true) → (∃ i ∈ l, p i = true ∧ q i = false) → l.countP q < l.countP p
 | [], _, h => by obtain ⟨_, h, _⟩ := h; cases h
 | y :: l, h1, h2 => by
   rw [List.countP_cons, List.countP_cons]
   have hm : l.countP q ≤ l.countP p := List.countP_mono_left (fun x hx => h1 x (List.mem_cons_of_mem _ hx))
   obtain ⟨i, hi, hp, hq⟩ := h2
   rcases List.mem_cons.1 hi with rfl | hi
   · rw [hp, hq]; simp; omega
   · have ih := cnt_lt l (fun x hx => h1 x (List.mem_cons_of_mem _ hx)) ⟨i, hi, hp, hq⟩
     have hy := h1 y (List.mem_cons_self ..)
     cases hqy : q y
     · simp; omega
     · rw [hy hqy]; simp; omega
section
variable {P : Program} {ops : Array Oper} {Q : Exit → Act → World → Prop} {md : Region.Mode} {S : World → Prop}
/-- Operation i waits for j, by itself or by others. -/
def reachB (md : Region.Mode) (ops : Array Oper) : Nat → Nat → Nat → Bool
 | 0, _, _ => false
 | n + 1, i, j => match ops[i]? with
   | none => false
   | some o => o.after.any fun e => Region.binds md e && (e.on == j || reachB md ops n e.on j)
/-- Which operations come up freely: D has come up, F comes up here in whatever order, all others wait for these. -/
def freeB (md : Region.Mode) (ops : Array Oper) (l0 lf : Array Bool) : Bool :=
 (l0.size == ops.size) && (lf.size == ops.size) && (List.range ops.size).all fun i =>
   (!(l0.getD i false) || (lf.getD i false && (match ops[i]? with
   | none => false
   | some o => o.after.all (fun e => !(Region.binds md e) || l0.getD e.on false)))) &&
   (match ops[i]? with
   | none => false
   | some o =>
     if lf.getD i false then o.after.all (fun e => lf.getD e.on false && decide (e.on < i))
     else (List.range ops.size).all (fun j => !(lf.getD j false) || l0.getD j false || reachB md ops 4 i j))
theorem getD_lt {l : Array Bool} {i : Nat} (h : l.getD i false = true) : i < l.size := by
 rcases Nat.lt_or_ge i l.size with h' | h'
 · exact h'
 · simp [Array.getElem?_eq_none h'] at h
theorem getD_tf {l : Array Bool} {i : Nat} (h : i < l.size) : l.getD i true = l.getD i false := by simp [h]
theorem getD_set {l : Array Bool} {i j : Nat} (hi : i < l.size) : (l.setIfInBounds i true).getD j false = (decide (j = i) || l.getD j false) := by
 by_cases h : j = i
 · subst h; simp [hi]
 · have : ¬ i = j := fun e => h e.symm
   simp [this, h]
def Closed (md : Region.Mode) (ops : Array Oper) (l : Array Bool) : Prop := ∀ k o, ops[k]? = some o → l.getD k false = true → ∀ e ∈ o.after, Region.binds md e = true → l.getD e.on false = true
theorem reach_done {l : Array Bool} (hc : Closed md ops l) : ∀ (n i j : Nat) (o : Oper), ops[i]? = some o → (∀ e ∈ o.after, Region.binds md e = true → l.getD e.on false = true) → reachB md ops n i j = true → l.getD j false = true
 | 0, _, _, _, _, _, h => by cases h
 | n + 1, i, j, o, ho, ha, h => by
   unfold reachB at h
   simp only [ho] at h
   obtain ⟨e, he, hh⟩ := Array.any_eq_true'.1 h
   simp only [Bool.and_eq_true, Bool.or_eq_true, beq_iff_eq] at hh
   obtain ⟨hb, rfl | h2⟩ := hh
   · exact ha e he hb
   · cases hk : ops[e.on]? with
     | none =>
       cases n with
       | zero => cases h2
       | succ n => unfold reachB at h2; rw [hk] at h2; cases h2
     | some k => exact reach_done hc n e.on j k hk (hc _ _ hk (ha e he hb)) h2
theorem any_free {l0 lf : Array Bool} (hB : freeB md ops l0 lf = true) {nb : Nat} (I : Array Bool → Act → World → Prop)
   (step : ∀ l a w i o, I l a w → ops[i]? = some o → l.getD i false = false → lf.getD i false = true → (∀ e ∈ o.after, Region.binds md e = true → l.getD e.on false = true) → l.size = ops.size → Closed md ops l → (∀ j, l0.getD j false = true → l.getD j false = true) →
     wpOp P ops Q i (fun a' w' => S w' ∧ I (l.setIfInBounds i true) a' w') a w)
   (fin : ∀ a w n, I lf a w → wpAnyH P md ops Q S (n + nb) lf a w) :
   ∀ (m : Nat) (l : Array Bool) (a : Act) (w : World) (n : Nat), l.size = ops.size → Closed md ops l → (∀ j, l0.getD j false = true → l.getD j false = true) → (∀ j, l.getD j false = true → lf.getD j false = true) →
     (List.range ops.size).countP (fun j => lf.getD j false && !(l.getD j false)) ≤ m → m + nb ≤ n → I l a w → wpAnyH P md ops Q S n l a w := by
 have hB' := hB
 unfold freeB at hB'
 simp only [Bool.and_eq_true, beq_iff_eq, List.all_eq_true, List.mem_range] at hB'
 obtain ⟨⟨h0s, hfs⟩, hall⟩ := hB'
 have hwait : ∀ i o, ops[i]? = some o → lf.getD i false = false → ∀ j, lf.getD j false = true → l0.getD j false = false → reachB md ops 4 i j = true := by
   intro i o ho hi j hj hj0
   have := hall i (Array.getElem?_eq_some_iff.1 ho).1
   rw [ho, hi] at this
   have h2 := this.2
   simp only [Bool.false_eq_true, if_false, List.all_eq_true, List.mem_range] at h2
   have h3 := h2 j (by have := getD_lt hj; omega)
   rw [hj, hj0] at h3
   simpa using h3
 have hafter : ∀ i o, ops[i]? = some o → lf.getD i false = true → ∀ e ∈ o.after, lf.getD e.on false = true ∧ e.on < i := by
   intro i o ho hi e he
   have := hall i (Array.getElem?_eq_some_iff.1 ho).1
   rw [ho, hi] at this
   have h2 := this.2
   simp only [if_true] at h2
   have h3 := Array.all_eq_true_iff_forall_mem.1 h2 e he
   simpa using h3
 intro m
 induction m with
 | zero =>
   intro l a w n hs hcl hl0 hlf hc hn hI
   have : l = lf := by
     apply Array.ext_getElem?
     intro j
     rcases Nat.lt_or_ge j ops.size with hj | hj
     · have h1 := List.countP_eq_zero.1 (Nat.le_zero.1 hc) j (List.mem_range.2 hj)
       have h2 := hlf j
       have e1 : l[j]? = some (l.getD j false) := by simp [show j < l.size by omega]
       have e2 : lf[j]? = some (lf.getD j false) := by simp [show j < lf.size by omega]
       rw [e1, e2]
       revert h1 h2
       cases l.getD j false <;> cases lf.getD j false <;> simp
     · rw [Array.getElem?_eq_none (by omega), Array.getElem?_eq_none (by omega)]
   subst this
   obtain ⟨k, rfl⟩ : ∃ k, n = k + nb := ⟨n - nb, by omega⟩
   exact fin a w k hI
 | succ m ih =>
   intro l a w n hs hcl hl0 hlf hc hn hI
   by_cases hz : (List.range ops.size).countP (fun j => lf.getD j false && !(l.getD j false)) ≤ m
   · exact ih l a w n hs hcl hl0 hlf hz (by omega) hI
   obtain ⟨n, rfl⟩ : ∃ k, n = k + 1 := ⟨n - 1, by omega⟩
   have hex : ∃ j, lf.getD j false = true ∧ l.getD j false = false := by
     obtain ⟨j, _, hj⟩ := List.countP_pos_iff.1 (show 0 < (List.range ops.size).countP (fun j => lf.getD j false && !(l.getD j false)) by omega)
     simp only [Bool.and_eq_true, Bool.not_eq_true'] at hj
     exact ⟨j, hj⟩
   -- the least that has not come up may come up
   have hrdy : Region.ready md ops l ≠ [] := by
     have key : ∀ k, (∃ j, j ≤ k ∧ lf.getD j false = true ∧ l.getD j false = false) → Region.ready md ops l ≠ [] := by
       intro k
       induction k using Nat.strongRecOn with
       | _ k ihk =>
         rintro ⟨j, hjk, hj1, hj2⟩
         have hjs : j < ops.size := by have := getD_lt hj1; omega
         obtain ⟨o, ho⟩ : ∃ o, ops[j]? = some o := ⟨_, Array.getElem?_eq_getElem hjs⟩
         by_cases hall' : ∀ e ∈ o.after, Region.binds md e = true → l.getD e.on false = true
         · exact List.ne_nil_of_mem (mem_ready.2 ⟨by rw [getD_tf (by omega)]; exact hj2, o, ho, hall'⟩)
         · have : ∃ e, e ∈ o.after ∧ l.getD e.on false = false := by
             apply Classical.byContradiction
             intro hne
             apply hall'
             intro e he _
             cases hh : l.getD e.on false
             · exact absurd ⟨e, he, hh⟩ hne
             · rfl
           obtain ⟨e, he, hu⟩ := this
           have ⟨k1, k2⟩ := hafter j o ho hj1 e he
           exact ihk e.on (by omega) ⟨e.on, Nat.le_refl _, k1, hu⟩
     obtain ⟨j, hj⟩ := hex
     exact key j ⟨j, Nat.le_refl _, hj⟩
   refine ⟨fun h => absurd h hrdy, fun i hi => ?_⟩
   obtain ⟨hi1, o, ho, hi2⟩ := mem_ready.1 hi
   have his : i < ops.size := (Array.getElem?_eq_some_iff.1 ho).1
   rw [getD_tf (by omega)] at hi1
   have hif : lf.getD i false = true := by
     cases hh : lf.getD i false
     · obtain ⟨j, hj1, hj2⟩ := hex
       have hj0 : l0.getD j false = false := by
         cases h0 : l0.getD j false
         · rfl
         · rw [hl0 j h0] at hj2; cases hj2
       rw [reach_done hcl 4 i j o ho hi2 (hwait i o ho hh j hj1 hj0)] at hj2
       cases hj2
     · rfl
   refine wpOp_mono ?_ (step l a w i o hI ho hi1 hif hi2 hs hcl hl0)
   rintro a' w' ⟨hS, hI'⟩
   refine ⟨hS, ih _ a' w' n (by simpa using hs) ?_ ?_ ?_ ?_ (by omega) hI'⟩
   · intro k o' hk hkd e he hb
     rw [getD_set (by omega)] at hkd ⊢
     by_cases hki : k = i
     · subst hki
       rw [ho] at hk
       cases hk
       rw [hi2 e he hb, Bool.or_true]
     · simp only [hki, decide_false, Bool.false_or] at hkd
       rw [hcl k o' hk hkd e he hb, Bool.or_true]
   · intro j hj; rw [getD_set (by omega), hl0 j hj]; simp
   · intro j hj
     rw [getD_set (by omega)] at hj
     rcases Bool.or_eq_true_iff.1 hj with h | h
     · have := of_decide_eq_true h; subst this; exact hif
     · exact hlf j h
   · have := cnt_lt (p := fun j => lf.getD j false && !(l.getD j false)) (q := fun j => lf.getD j false && !((l.setIfInBounds i true).getD j false)) (List.range ops.size) (fun j _ hj => by
       rw [getD_set (by omega)] at hj
       revert hj
       cases lf.getD j false <;> cases l.getD j false <;> simp) ⟨i, List.mem_range.2 his, by rw [hif, hi1]; rfl, by rw [getD_set (by omega)]; simp⟩
     omega
/-- What operation o does in this world: it yields such a value, by itself or by a call. -/
def RunsTo (P : Program) (o : Oper) (a : Act) (w : World) (F : Value → World → Prop) : Prop :=
 (∃ v w', (execOp a.eval o).run P w = .ok (.value v) w' ∧ F v w') ∨
 (∃ f args, (execOp a.eval o).run P w = .ok (.enter f args) w ∧ Calls P f args w (fun r w' => ∃ v, r = .returned v ∧ F v w'))
theorem RunsTo.mono {o : Oper} {a : Act} {w : World} {F G : Value → World → Prop} (h : RunsTo P o a w F) (hFG : ∀ v w', F v w' → G v w') : RunsTo P o a w G := by
 rcases h with ⟨v, w', hr, hv⟩ | ⟨f, args, hr, hc⟩
 · exact .inl ⟨v, w', hr, hFG _ _ hv⟩
 · exact .inr ⟨f, args, hr, hc.mono (fun r w' ⟨v, h1, h2⟩ => ⟨v, h1, hFG _ _ h2⟩)⟩
/-- All blocks but those of this type are as they were. -/
structure ExtT (T : TypeId) (w w' : World) : Prop where
 size : w.heap.size ≤ w'.heap.size
 block : ∀ (b : Nat) (cur : Array Value) (T' : TypeId) (fr : Nat × Nat), w.heap[b]? = some (Obj.cells cur T' fr) → T' ≠ T → w'.heap[b]? = w.heap[b]?
theorem Ext.toT {w w' : World} (e : Ext w w') (T : TypeId) : ExtT T w w' := ⟨e.size, fun b _ _ _ h _ => e.block b (Array.getElem?_eq_some_iff.1 h).1⟩
/-- How an operation may turn the world: it grows, or rows of one type are written. -/
def GrW (g : Option TypeId) (w w' : World) : Prop := match g with
 | none => Ext w w'
 | some T => ExtT T w w'
/-- A plan of free operations: their list; those that have come up and whose values are told of besides; how each turns the world; which rows each one's value lies in; which one is the last to need it. -/
structure Plan where
 is : List Nat
 pre : List Nat
 g : Nat → Option TypeId
 ty : Nat → Option TypeId
 dead : Nat → Nat
def Plan.okB (p : Plan) (md : Region.Mode) (ops : Array Oper) (l0 lf : Array Bool) : Bool :=
 ((List.range ops.size).filter (fun j => lf.getD j false && !(l0.getD j false)) == p.is) && p.pre.all (fun j => l0.getD j false) &&
 p.is.all fun i => match p.g i with
   | none => true
   | some T => (p.pre ++ p.is).all fun j => !(p.ty j == some T) || (j == i) || (p.dead j == i) || reachB md ops 4 i (p.dead j) || reachB md ops 4 j i
/-- Does an operation write rows of this type while the j-th one's value is needed? -/
def Plan.hits (p : Plan) (md : Region.Mode) (ops : Array Oper) (j : Nat) (T : TypeId) : Bool := p.is.any fun i => !(i == j || p.dead j == i || reachB md ops 4 i (p.dead j) || reachB md ops 4 j i) && (p.g i == some T)
/-- What is told of an operation's value outlasts what the others do. -/
def Stays (md : Region.Mode) (ops : Array Oper) (p : Plan) (F : Nat → Value → World → Prop) (i : Nat) : Prop := (∀ x w w', F i x w → Ext w w' → F i x w') ∧ ∀ T x w w', p.hits md ops i T = true → F i x w → p.ty i ≠ some T → ExtT T w w' → F i x w'
def AllP (md : Region.Mode) (ops : Array Oper) (p : Plan) (F : Nat → Value → World → Prop) (X : Nat → Value) (w : World) : List Nat → Prop
 | [] => True
 | i :: is => (Stays md ops p F i ∧ F i (X i) w) ∧ AllP md ops p F X w is
theorem AllP.nil {md : Region.Mode} {ops : Array Oper} {p : Plan} {F : Nat → Value → World → Prop} {X : Nat → Value} {w : World} : AllP md ops p F X w [] := trivial
theorem AllP.cons {md : Region.Mode} {ops : Array Oper} {p : Plan} {F : Nat → Value → World → Prop} {X : Nat → Value} {w : World} {i : Nat} {is : List Nat} (hm : ∀ x w w', F i x w → Ext w w' → F i x w') (hmt : ∀ T x w w', p.hits md ops i T = true → F i x w → p.ty i ≠ some T → ExtT T w w' → F i x w') (h : F i (X i) w) (hs : AllP md ops p F X w is) : AllP md ops p F X w (i :: is) := ⟨⟨⟨hm, hmt⟩, h⟩, hs⟩
theorem AllP.get {md : Region.Mode} {ops : Array Oper} {p : Plan} {F : Nat → Value → World → Prop} {X : Nat → Value} {w : World} : ∀ {is : List Nat}, AllP md ops p F X w is → ∀ i ∈ is, Stays md ops p F i ∧ F i (X i) w
 | [], _, i, hi => by cases hi
 | k :: is, h, i, hi => by
   rcases List.mem_cons.1 hi with rfl | hi
   · exact h.1
   · exact h.2.get i hi
/-- Each of these operations yields what F says, given what it waits for. -/
def OneS (P : Program) (S : World → Prop) (md : Region.Mode) (ops : Array Oper) (p : Plan) (w0 : World) (mk : (Nat → Value) → Act) (F : Nat → Value → World → Prop) (i : Nat) : Prop :=
 ∃ o, ops[i]? = some o ∧ o.guard = none ∧ (∀ X v, (mk X).put o.dst v = mk (fun j => if j = i then v else X j)) ∧ Stays md ops p F i ∧
     ∀ X w, Ext w0 w → S w → (∀ j, (o.after.any (fun e => Region.binds md e && e.on == j) && (p.pre ++ p.is).contains j && (p.dead j == i || decide (ops.size ≤ p.dead j))) = true → F j (X j) w) → RunsTo P o (mk X) w (fun v w' => Ext w0 w' ∧ GrW (p.g i) w w' ∧ F i v w')
def AllS (P : Program) (S : World → Prop) (md : Region.Mode) (ops : Array Oper) (p : Plan) (w0 : World) (mk : (Nat → Value) → Act) (F : Nat → Value → World → Prop) : List Nat → Prop
 | [] => True
 | i :: is => OneS P S md ops p w0 mk F i ∧ AllS P S md ops p w0 mk F is
section
variable {p : Plan} {w0 w1 : World} {mk : (Nat → Value) → Act} {F : Nat → Value → World → Prop} {l0 : Array Bool}
theorem AllS.nil : AllS P S md ops p w0 mk F [] := trivial
theorem AllS.cons {i : Nat} {is : List Nat} {o : Oper} (ho : ops[i]? = some o) (hg : o.guard = none) (hp : ∀ X v, (mk X).put o.dst v = mk (fun j => if j = i then v else X j)) (hm : ∀ x w w', F i x w → Ext w w' → F i x w') (hmt : ∀ T x w w', p.hits md ops i T = true → F i x w → p.ty i ≠ some T → ExtT T w w' → F i x w')
   (h : ∀ X w, Ext w0 w → S w → (∀ j, (o.after.any (fun e => Region.binds md e && e.on == j) && (p.pre ++ p.is).contains j && (p.dead j == i || decide (ops.size ≤ p.dead j))) = true → F j (X j) w) → RunsTo P o (mk X) w (fun v w' => Ext w0 w' ∧ GrW (p.g i) w w' ∧ F i v w'))
   (hs : AllS P S md ops p w0 mk F is) : AllS P S md ops p w0 mk F (i :: is) := ⟨⟨o, ho, hg, hp, ⟨hm, hmt⟩, h⟩, hs⟩
theorem AllS.get : ∀ {is : List Nat}, AllS P S md ops p w0 mk F is → ∀ i ∈ is, OneS P S md ops p w0 mk F i
 | [], _, i, hi => by cases hi
 | k :: is, h, i, hi => by
   rcases List.mem_cons.1 hi with rfl | hi
   · exact h.1
   · exact h.2.get i hi
/-- The operations of the plan come up in whatever order: what each yields stands by itself. -/
theorem any_free_gen {lf : Array Bool} (p : Plan) (hB : freeB md ops l0 lf = true) (hok : p.okB md ops l0 lf = true) (nb : Nat) (w0 w1 : World) (mk : (Nat → Value) → Act) (F : Nat → Value → World → Prop) (h01 : Ext w0 w1) (hS0 : S w1) (hS : ∀ i ∈ p.is, ∀ w w', S w → Ext w0 w' → GrW (p.g i) w w' → S w')
   (hall : AllS P S md ops p w0 mk F p.is)
   (fin : ∀ (X : Nat → Value) (w : World) (n : Nat), Ext w0 w → S w → (∀ j, ((p.pre ++ p.is).contains j && decide (ops.size ≤ p.dead j)) = true → F j (X j) w) → wpAnyH P md ops Q S (n + nb) lf (mk X) w)
   (X : Nat → Value) (hpre : AllP md ops p F X w1 p.pre) {a : Act} (hX : mk X = a) (n : Nat) (hn : (p.is.length + nb == n) = true) : wpAnyH P md ops Q S n l0 a w1 := by
 subst hX
 unfold Plan.okB at hok
 rw [Bool.and_eq_true, Bool.and_eq_true] at hok
 have his := eq_of_beq hok.1.1
 have hpl : ∀ j ∈ p.pre, l0.getD j false = true := fun j hj => List.all_eq_true.1 hok.1.2 j hj
 have hpair : ∀ i ∈ p.is, ∀ j ∈ p.pre ++ p.is, j ≠ i → p.dead j ≠ i → ¬ reachB md ops 4 i (p.dead j) = true → ¬ reachB md ops 4 j i = true → ∀ T, p.g i = some T → p.ty j ≠ some T := by
   intro i hi j hj h1 h2 h4 h5 T hT
   have h3 := List.all_eq_true.1 hok.2 i hi
   rw [hT] at h3
   have h3 := List.all_eq_true.1 h3 j hj
   simp [h1, h2, h4, h5] at h3
   exact h3
 have hn := eq_of_beq hn
 have hB' := hB
 unfold freeB at hB'
 simp only [Bool.and_eq_true, beq_iff_eq, List.all_eq_true, List.mem_range] at hB'
 obtain ⟨⟨h0s, hfs⟩, hcl⟩ := hB'
 have hmem : ∀ j, lf.getD j false = true → l0.getD j false = false → j ∈ p.is := by
   intro j h1 h2
   rw [← his, List.mem_filter]
   exact ⟨List.mem_range.2 (by have := getD_lt h1; omega), by rw [h1, h2]; rfl⟩
 have hmem2 : ∀ j, j ∈ p.is → lf.getD j false = true ∧ l0.getD j false = false := by
   intro j hj
   rw [← his, List.mem_filter] at hj
   simpa using hj.2
 have hl0f : ∀ j, l0.getD j false = true → lf.getD j false = true := by
   intro j hj
   have hjs : j < ops.size := by have := getD_lt hj; omega
   have := (hcl j hjs).1
   rw [hj] at this
   simp only [Bool.not_true, Bool.false_or, Bool.and_eq_true] at this
   exact this.1
 have hstay : ∀ j ∈ p.pre ++ p.is, Stays md ops p F j := by
   intro j hj
   rcases List.mem_append.1 hj with hj | hj
   · exact (hpre.get j hj).1
   · obtain ⟨_, _, _, _, hst, _⟩ := hall.get j hj
     exact hst
 refine any_free (nb := nb) hB (fun l a w => ∃ X, a = mk X ∧ Ext w0 w ∧ S w ∧ ∀ j, l.getD j false = true → l.getD (p.dead j) false = false → j ∈ p.pre ++ p.is → F j (X j) w) ?_ ?_ _ l0 (mk X) w1 n h0s ?_ (fun j h => h) hl0f (Nat.le_refl _) ?_ ⟨X, rfl, h01, hS0, fun j h1 h2 h3 => ?_⟩
 · rintro l a w i o ⟨X, rfl, hE, hSw, hX⟩ ho hi hif hi2 hs hcl' hl0
   have hnd := hi
   have hi0 : l0.getD i false = false := by
     cases h0 : l0.getD i false
     · rfl
     · rw [hl0 i h0] at hi; cases hi
   obtain ⟨o', ho', hg, hput, _, hrun⟩ := hall.get i (hmem i hif hi0)
   rw [ho] at ho'
   obtain rfl := Option.some.inj ho'
   have hils : i < l.size := by have := (Array.getElem?_eq_some_iff.1 ho).1; omega
   have hfacts : ∀ j, (o.after.any (fun e => Region.binds md e && e.on == j) && (p.pre ++ p.is).contains j && (p.dead j == i || decide (ops.size ≤ p.dead j))) = true → F j (X j) w := by
     intro j hj
     simp only [Bool.and_eq_true, Bool.or_eq_true, beq_iff_eq, decide_eq_true_eq] at hj
     obtain ⟨e, he, hh⟩ := Array.any_eq_true'.1 hj.1.1
     simp only [Bool.and_eq_true, beq_iff_eq] at hh
     obtain ⟨hb, rfl⟩ := hh
     refine hX _ (hi2 e he hb) ?_ (List.contains_iff_mem.1 hj.1.2)
     rcases hj.2 with h | h
     · rw [h]; exact hi
     · simp [Array.getElem?_eq_none (show l.size ≤ p.dead e.on by omega)]
   have done : ∀ v w', Ext w0 w' ∧ GrW (p.g i) w w' ∧ F i v w' → S w' ∧ ∃ Y, (mk X).put o.dst v = mk Y ∧ Ext w0 w' ∧ S w' ∧ ∀ j, (l.setIfInBounds i true).getD j false = true → (l.setIfInBounds i true).getD (p.dead j) false = false → j ∈ p.pre ++ p.is → F j (Y j) w' := by
     rintro v w' ⟨e0, e, hv⟩
     have hSw' := hS i (hmem i hif hi0) w w' hSw e0 e
     refine ⟨hSw', _, hput X v, e0, hSw', fun j hj hd hjm => ?_⟩
     rw [getD_set hils] at hj hd
     simp only [Bool.or_eq_false_iff, decide_eq_false_iff_not] at hd
     by_cases hji : j = i
     · subst hji
       simp only [if_true]
       exact hv
     · simp only [hji, if_false]
       simp only [hji, decide_false, Bool.false_or] at hj
       obtain ⟨hmj, hmtj⟩ := hstay j hjm
       have hF := hX j hj hd.2 hjm
       cases hgi : p.g i with
       | none => rw [hgi] at e; exact hmj _ _ _ hF e
       | some T =>
         rw [hgi] at e
         have n1 : ¬ reachB md ops 4 i (p.dead j) = true := fun hr => by rw [reach_done hcl' 4 i _ o ho hi2 hr] at hd; cases hd.2
         have n2 : ¬ reachB md ops 4 j i = true := fun hr => by
           obtain ⟨oj, hoj⟩ : ∃ oj, ops[j]? = some oj := ⟨_, Array.getElem?_eq_getElem (by have := getD_lt hj; omega)⟩
           rw [reach_done hcl' 4 j i oj hoj (hcl' j oj hoj hj) hr] at hnd
           cases hnd
         exact hmtj _ _ _ _ (List.any_eq_true.2 ⟨i, hmem i hif hi0, by
           have e1 : (i == j) = false := by simp; exact fun e => hji e.symm
           have e2 : (p.dead j == i) = false := by simp; exact hd.1
           rw [e1, e2, hgi]
           simp [n1, n2]⟩) hF (hpair i (hmem i hif hi0) j hjm hji hd.1 n1 n2 T hgi) e
   unfold wpOp
   simp only [ho]
   have hw : Region.wanted o (yielded ops (mk X).tmps) = true := by simp [Region.wanted, hg]
   rw [if_pos hw]
   refine .inl ?_
   unfold Oper.wp
   rcases hrun X w hE hSw hfacts with ⟨v, w', hr, hv⟩ | ⟨f, args, hr, hc⟩
   · rw [hr]
     exact done v w' hv
   · rw [hr]
     refine Calls.mono hc ?_
     rintro r w' ⟨v, rfl, hv⟩
     exact done v w' hv
 · rintro a w k ⟨X, rfl, hE, hSw, hX⟩
   exact fin X w k hE hSw (fun j hj => by
     simp only [Bool.and_eq_true, decide_eq_true_eq] at hj
     have hjm := List.contains_iff_mem.1 hj.1
     have hjl : lf.getD j false = true := by
       rcases List.mem_append.1 hjm with h | h
       · exact hl0f j (hpl j h)
       · exact (hmem2 j h).1
     exact hX j hjl (by simp [Array.getElem?_eq_none (show lf.size ≤ p.dead j by omega)]) hjm)
 · intro k o hk hkd e he hb
   have := (hcl k (Array.getElem?_eq_some_iff.1 hk).1).1
   rw [hkd, hk] at this
   simp only [Bool.not_true, Bool.false_or, Bool.and_eq_true] at this
   have := Array.all_eq_true_iff_forall_mem.1 this.2 e he
   rw [hb] at this
   simpa using this
 · rw [List.countP_eq_length_filter, his]; omega
 · rcases List.mem_append.1 h3 with h | h
   · exact (hpre.get j h).2
   · rw [(hmem2 j h).2] at h1; cases h1
end
end
end Go.Proofs.YteaoeichgibgiaaDoor
