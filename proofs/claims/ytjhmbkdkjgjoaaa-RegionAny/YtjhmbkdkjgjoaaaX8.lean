import Derived.Test.YtjhmbkdkjgjoaaaX7
import Derived.Lib.SmallJoins
import Derived.Deep.Slices
import Derived.Test.YtjhmbkdkjgjoaaaX6
import Derived.Test.YtjhmbkdkjgjoaaaProg
import Derived.Test.YtjhmbkdkjgjoaaaX1
import Derived.Deep.AppendLies
import Derived.Laws.OwnMore
import Derived.WalkLawsBesides
import Derived.Lib.AppendZeros
import Derived.Laws.StructEq
import Derived.Shelf.SlicesE.Kit
import Derived.Deep.DeepCutAuto
import Derived.Deep.Light
import Derived.Deep.CutBlock
namespace Go.Proofs.Ytjhmbkdkjgjoaaa
open Go.RowKit
set_option maxHeartbeats 1000000
structure ExtB (b : Nat) (w w' : World) : Prop where
 os : w'.os = w.os
 tape : w'.tape = w.tape
 output : w'.output = w.output
 size : w.heap.size ≤ w'.heap.size
 block : ∀ k, k < w.heap.size → k ≠ b → w'.heap[k]? = w.heap[k]?
theorem ExtB.refl (b : Nat) (w : World) : ExtB b w w := ⟨rfl, rfl, rfl, Nat.le_refl _, fun _ _ _ => rfl⟩
theorem ExtB.trans {b : Nat} {x y z : World} (h : ExtB b x y) (k : ExtB b y z) : ExtB b x z :=
 ⟨k.os.trans h.os, k.tape.trans h.tape, k.output.trans h.output, Nat.le_trans h.size k.size, fun i hi hb => (k.block i (Nat.lt_of_lt_of_le hi h.size) hb).trans (h.block i hi hb)⟩
theorem Ext.toB {w w' : World} (h : Ext w w') (b : Nat) : ExtB b w w' := ⟨h.os, h.tape, h.output, h.size, fun k hk _ => h.block k hk⟩
theorem ExtB.alloc {b : Nat} {w w' : World} (h : ExtB b w w') (o : Obj) : ExtB b w (w'.alloc o) := h.trans (((Ext.refl _).alloc o).toB b)
theorem ExtB.drew {b : Nat} {w w' : World} (h : ExtB b w w') : ExtB b w w'.drew := h.trans ((Ext.refl _).drew.toB b)
theorem ExtB.set {b : Nat} {w w' : World} (h : ExtB b w w') {p : Addr} (hp : p.block = b ∨ w.heap.size ≤ p.block) (u : Value) : ExtB b w (w'.setCell p u) := by
 refine ⟨h.os, h.tape, h.output, ?_, fun k hk hb => ?_⟩
 · simpa [World.setCell] using h.size
 · rw [Below.heap_setCell _ _ _ _ (by omega)]; exact h.block k hk hb
theorem ExtB.ext {b : Nat} {w0 w w' : World} (h : ExtB b w w') (e : Ext w0 w) (hb : w0.heap.size ≤ b) : Ext w0 w' :=
 ⟨h.os.trans e.os, h.tape.trans e.tape, h.output.trans e.output, Nat.le_trans e.size h.size, fun k hk => (h.block k (Nat.lt_of_lt_of_le hk e.size) (by omega)).trans (e.block k hk)⟩
theorem ExtB.cell {b : Nat} {w w' : World} (h : ExtB b w w') {k : Nat} (hk : k < w.heap.size) (hb : k ≠ b) (o : Nat) : w'.cell? ⟨k, o, none⟩ = w.cell? ⟨k, o, none⟩ ∧ w'.frozen? ⟨k, o, none⟩ = w.frozen? ⟨k, o, none⟩ := by
 have e := h.block k hk hb
 simp only [World.cell?, World.frozen?, e]
 exact ⟨trivial, trivial⟩
def cellsT (t : T) (lv : Value) : List Value := [.int .i64 t.k, .int .i64 t.n, .string (bs t.s), .int .i64 t.e, .int .i64 t.r.1, .int .i64 t.r.2.1, .bool t.r.2.2.1, .bool t.r.2.2.2, .int .i64 t.q.1, .int .i64 t.q.2.1, .bool t.q.2.2.1, .bool t.q.2.2.2, lv]
def aggX (t : T) (lv : Value) : Value := .agg #[.int .i64 t.k, .int .i64 t.n, .string (bs t.s), .int .i64 t.e, .int .i64 t.r.1, .int .i64 t.r.2.1, .bool t.r.2.2.1, .bool t.r.2.2.2, .int .i64 t.q.1, .int .i64 t.q.2.1, .bool t.q.2.2.1, .bool t.q.2.2.2, lv]
inductive IsL (w : World) (P : Nat → Prop) : Value → List T → Prop
 | nil {p : Option Addr} {c : Nat} : IsL w P (.slice p 0 c) []
 | mk (b off c n : Nat) (l : List T) (lvs : Nat → Value) : n = l.length → n ≤ c → P b → b < w.heap.size →
     (∀ i t j u, l[i]? = some t → (cellsT t (lvs i))[j]? = some u → w.cell? ⟨b, off + i * 13 + j, none⟩ = some u) →
     (∀ i t, l[i]? = some t → IsL w P (lvs i) t.l) → IsL w P (.slice (some ⟨b, off, none⟩) n c) l
theorem IsL.keep {P P' : Nat → Prop} {w w' : World} {v : Value} {l : List T} (h : IsL w P v l) (hs : w.heap.size ≤ w'.heap.size) (hk : ∀ k, P k → k < w.heap.size → w'.heap[k]? = w.heap[k]?) (hP : ∀ k, P k → k < w.heap.size → P' k) : IsL w' P' v l := by
 induction h with
 | nil => exact .nil
 | mk g off c n l lvs h1 h2 h3 h4 h5 _ ih =>
   refine .mk g off c n l lvs h1 h2 (hP g h3 h4) (Nat.lt_of_lt_of_le h4 hs) (fun i t j u hi hj => ?_) ih
   rw [← h5 i t j u hi hj]
   simp only [World.cell?, hk g h3 h4]
theorem IsL.mono {P P' : Nat → Prop} {w : World} {v : Value} {l : List T} (h : IsL w P v l) (hP : ∀ k, P k → k < w.heap.size → P' k) : IsL w P' v l := h.keep (Nat.le_refl _) (fun _ _ _ => rfl) hP
theorem IsL.extB {b : Nat} {P : Nat → Prop} {w w' : World} {v : Value} {l : List T} (h : IsL w P v l) (e : ExtB b w w') (hb : ∀ k, P k → k ≠ b) : IsL w' P v l := h.keep e.size (fun k hk hs => e.block k hs (hb k hk)) (fun _ h _ => h)
theorem IsL.ext {P : Nat → Prop} {w w' : World} {v : Value} {l : List T} (h : IsL w P v l) (e : Ext w w') : IsL w' P v l := h.keep e.size (fun k _ hs => e.block k hs) (fun _ h _ => h)
theorem IsL.form {P : Nat → Prop} {w : World} {v : Value} {l : List T} (h : IsL w P v l) : ∃ p c, v = .slice p l.length c ∧ l.length ≤ c := by
 cases h with
 | nil => exact ⟨_, _, rfl, Nat.zero_le _⟩
 | mk g off c n l lvs h1 h2 => subst h1; exact ⟨_, _, rfl, h2⟩
theorem IsL.at {P : Nat → Prop} {n c : Nat} {w : World} {p : Option Addr} {l : List T} (h : IsL w P (.slice p n c) l) {i : Nat} (hi : i < l.length) :
   ∃ b off t lv, p = some ⟨b, off, none⟩ ∧ l[i]? = some t ∧ n = l.length ∧ b < w.heap.size ∧ P b ∧ IsL w P lv t.l ∧ ∀ j u, (cellsT t lv)[j]? = some u → w.cell? ⟨b, off + i * 13 + j, none⟩ = some u := by
 cases h with
 | nil => simp at hi
 | mk g off c n l lvs h1 h2 h3 h4 h5 h6 => exact ⟨g, off, l[i], lvs i, rfl, List.getElem?_eq_getElem hi, h1, h4, h3, h6 i _ (List.getElem?_eq_getElem hi), fun j u hu => h5 i _ j u (List.getElem?_eq_getElem hi) hu⟩
def Stt (w0 : World) (b : Nat) (w : World) (ts : List Tk) (d : Nat) : Prop :=
 Ext w0 w ∧ w0.heap.size ≤ b ∧ b < w.heap.size ∧ Nz ts ∧ (∀ t ∈ ts, t.2.2.1.length ≤ 300) ∧ d ≤ 41 ∧ ts.length ≤ 400 ∧
 ∃ tb off c, RdT w0 (.slice (some ⟨tb, off, none⟩) ts.length c) ts ∧ w.cell? ⟨b, 0, none⟩ = some (.slice (some ⟨tb, off, none⟩) ts.length c) ∧ w.frozen? ⟨b, 0, none⟩ = false ∧ w.cell? ⟨b, 1, none⟩ = some (.int .i64 (d : Int)) ∧ w.frozen? ⟨b, 1, none⟩ = false
theorem Stt.ext {w0 w w' : World} {b d : Nat} {ts : List Tk} (h : Stt w0 b w ts d) (e : Ext w w') : Stt w0 b w' ts d := by
 obtain ⟨h1, h2, h3, h4, h5, h6, h7, tb, off, c, h8, h9, h10, h11, h12⟩ := h
 have k := e.cell
 exact ⟨h1.trans e, h2, Nat.lt_of_lt_of_le h3 e.sz, h4, h5, h6, h7, tb, off, c, h8, (k.1 _ _ h3).trans h9, (k.2 _ _ h3).trans h10, (k.1 _ _ h3).trans h11, (k.2 _ _ h3).trans h12⟩
theorem Stt.get {w0 w : World} {b d : Nat} {ts : List Tk} (h : Stt w0 b w ts d) : ∃ tb off c,
   w.cell? ⟨b, 0, none⟩ = some (.slice (some ⟨tb, off, none⟩) ts.length c) ∧ w.frozen? ⟨b, 0, none⟩ = false ∧ w.cell? ⟨b, 1, none⟩ = some (.int .i64 (d : Int)) ∧ w.frozen? ⟨b, 1, none⟩ = false ∧
   w.cell? ⟨tb, off, none⟩ = some (.int .i64 (hd ts).1) ∧ w.cell? ⟨tb, off + 1, none⟩ = some (.int .i64 (hd ts).2.1) ∧ w.cell? ⟨tb, off + 2, none⟩ = some (.string (bs (hd ts).2.2.1)) ∧ w.cell? ⟨tb, off + 3, none⟩ = some (.int .i64 (hd ts).2.2.2.1) ∧ w.cell? ⟨tb, off + 4, none⟩ = some (.int .i64 (hd ts).2.2.2.2) ∧
   tb ≠ b ∧ ts.length ≤ c ∧ 1 ≤ ts.length ∧ tb < w.heap.size := by
 obtain ⟨h1, h2, h3, h4, h5, h6, h7, tb, off, c, h8, h9, h10, h11, h12⟩ := h
 have hp := h4.pos
 obtain ⟨p, c', e1, e2⟩ := h8.form
 cases e1
 obtain ⟨b', off', t, e3, e4, _, e6⟩ := h8.at (k := 0) (by omega)
 cases e3
 have e7 : hd ts = t := by
   cases ts with
   | nil => simp at hp
   | cons x r => simp at e4; exact e4
 have k := e6 w h1
 simp only [Nat.zero_mul, Nat.add_zero] at k
 rw [e7]
 have htb : tb < w0.heap.size := by
   rcases h8 with ⟨_, h8⟩ | ⟨b2, o2, c2, q1, q2, q3, _⟩
   · rw [h8] at hp; simp at hp
   · cases q1; exact q3
 exact ⟨tb, off, c, h9, h10, h11, h12, k.1, k.2.1, k.2.2.1, k.2.2.2.1, k.2.2.2.2, by omega, e2, hp, Nat.lt_of_lt_of_le htb h1.sz⟩
theorem RdT.tail {w : World} {tb off c n : Nat} {ts : List Tk} (h : RdT w (.slice (some ⟨tb, off, none⟩) n c) ts) (h1 : 1 ≤ ts.length) : RdT w (.slice (some ⟨tb, off + 5, none⟩) (n - 1) (c - 1)) ts.tail := by
 rcases h with ⟨h2, _⟩ | ⟨b, o, c', h2, h3, h4, h5⟩
 · cases h2
 · cases h2
   refine .inr ⟨tb, off + 5, c - 1, by rw [List.length_tail], by rw [List.length_tail]; omega, h4, fun j u hu => ?_⟩
   cases ts with
   | nil => simp at h1
   | cons t r =>
     have := h5 (j + 5) u (by simpa [flatT] using hu)
     rwa [show off + (j + 5) = off + 5 + j by omega] at this
theorem Stt.take {w0 w : World} {b d : Nat} {ts : List Tk} (h : Stt w0 b w ts d) (h5 : (hd ts).1 ≠ 5) {tb off c : Nat} (h9 : w.cell? ⟨b, 0, none⟩ = some (.slice (some ⟨tb, off, none⟩) ts.length c)) :
   Stt w0 b (w.setCell ⟨b, 0, none⟩ (.slice (some ⟨tb, off + 5, none⟩) (ts.length - 1) (c - 1))) ts.tail d := by
 obtain ⟨h1, h2, h3, h4, h5', h6, h7, tb', off', c', h8, h9', h10, h11, h12⟩ := h
 rw [h9] at h9'
 cases h9'
 have hp := h4.pos
 refine ⟨h1.setCell h2 _, h2, by simpa [World.setCell] using h3, (h4.tail h5).1, fun t ht => h5' t (List.mem_of_mem_tail ht), h6, by rw [List.length_tail]; omega, tb, off + 5, c - 1, ?_, ?_, ?_, ?_, ?_⟩
 · rw [List.length_tail]; exact h8.tail hp
 · rw [List.length_tail]; exact World.cell?_setCell_same _ _ _ (by rw [h9])
 · rw [World.frozen?_setCell]; exact h10
 · rw [World.cell?_setCell_other _ _ _ _ (by simp)]; exact h11
 · rw [World.frozen?_setCell]; exact h12
theorem Stt.deep {w0 w : World} {b d : Nat} {ts : List Tk} (h : Stt w0 b w ts d) (d' : Nat) (hd' : d' ≤ 41) : Stt w0 b (w.setCell ⟨b, 1, none⟩ (.int .i64 (d' : Int))) ts d' := by
 obtain ⟨h1, h2, h3, h4, h5', h6, h7, tb, off, c, h8, h9, h10, h11, h12⟩ := h
 refine ⟨h1.setCell h2 _, h2, by simpa [World.setCell] using h3, h4, h5', hd', h7, tb, off, c, h8, ?_, ?_, ?_, ?_⟩
 · rw [World.cell?_setCell_other _ _ _ _ (by simp)]; exact h9
 · rw [World.frozen?_setCell]; exact h10
 · exact World.cell?_setCell_same _ _ _ (by rw [h11])
 · rw [World.frozen?_setCell]; exact h12
theorem Stt.far {w0 w : World} {b d : Nat} {ts : List Tk} (h : Stt w0 b w ts d) {p : Addr} (hp : p.block ≠ b) (h0 : w0.heap.size ≤ p.block) (u : Value) : Stt w0 b (w.setCell p u) ts d := by
 obtain ⟨h1, h2, h3, h4, h5', h6, h7, tb, off, c, h8, h9, h10, h11, h12⟩ := h
 refine ⟨h1.setCell h0 _, h2, by simpa [World.setCell] using h3, h4, h5', h6, h7, tb, off, c, h8, ?_, ?_, ?_, ?_⟩
 · rw [World.cell?_setCell_far _ _ _ _ hp]; exact h9
 · rw [World.frozen?_setCell]; exact h10
 · rw [World.cell?_setCell_far _ _ _ _ hp]; exact h11
 · rw [World.frozen?_setCell]; exact h12
theorem Blk13.extB {b g : Nat} {w w' : World} {x0 x1 x2 x3 x4 x5 x6 x7 x8 x9 x10 x11 x12 : Value} (h : Blk13 w g x0 x1 x2 x3 x4 x5 x6 x7 x8 x9 x10 x11 x12) (e : ExtB b w w') (hg : g ≠ b) : Blk13 w' g x0 x1 x2 x3 x4 x5 x6 x7 x8 x9 x10 x11 x12 := by
 obtain ⟨z, ⟨k0, k1, k2, k3, k4, k5, k6, k7, k8, k9, k10, k11, k12⟩, f0, f1, f2, f3, f4, f5, f6, f7, f8, f9, f10, f11, f12⟩ := h
 have k := fun o => (e.cell z hg o).1
 have f := fun o => (e.cell z hg o).2
 exact ⟨Nat.lt_of_lt_of_le z e.size, ⟨(k 0).trans k0, (k 1).trans k1, (k 2).trans k2, (k 3).trans k3, (k 4).trans k4, (k 5).trans k5, (k 6).trans k6, (k 7).trans k7, (k 8).trans k8, (k 9).trans k9, (k 10).trans k10, (k 11).trans k11, (k 12).trans k12⟩, (f 0).trans f0, (f 1).trans f1, (f 2).trans f2, (f 3).trans f3, (f 4).trans f4, (f 5).trans f5, (f 6).trans f6, (f 7).trans f7, (f 8).trans f8, (f 9).trans f9, (f 10).trans f10, (f 11).trans f11, (f 12).trans f12⟩
def putX (W : World) (g : Nat) (t : T) (lv : Value) : World := (((((((((((((W.setCell ⟨g, 0, none⟩ (.int .i64 t.k)).setCell ⟨g, 1, none⟩ (.int .i64 t.n)).setCell ⟨g, 2, none⟩ (.string (bs t.s))).setCell ⟨g, 3, none⟩ (.int .i64 t.e)).setCell ⟨g, 4, none⟩ (.int .i64 t.r.1)).setCell ⟨g, 5, none⟩ (.int .i64 t.r.2.1)).setCell ⟨g, 6, none⟩ (.bool t.r.2.2.1)).setCell ⟨g, 7, none⟩ (.bool t.r.2.2.2)).setCell ⟨g, 8, none⟩ (.int .i64 t.q.1)).setCell ⟨g, 9, none⟩ (.int .i64 t.q.2.1)).setCell ⟨g, 10, none⟩ (.bool t.q.2.2.1)).setCell ⟨g, 11, none⟩ (.bool t.q.2.2.2)).setCell ⟨g, 12, none⟩ lv)
def BlkX (W : World) (g : Nat) (t : T) (lv : Value) : Prop := Blk13 W g (.int .i64 t.k) (.int .i64 t.n) (.string (bs t.s)) (.int .i64 t.e) (.int .i64 t.r.1) (.int .i64 t.r.2.1) (.bool t.r.2.2.1) (.bool t.r.2.2.2) (.int .i64 t.q.1) (.int .i64 t.q.2.1) (.bool t.q.2.2.1) (.bool t.q.2.2.2) lv
theorem BlkX.put {W : World} {g : Nat} {t0 : T} {lv0 : Value} (h : BlkX W g t0 lv0) (t : T) (lv : Value) : BlkX (putX W g t lv) g t lv := Blk13.set h _ _ _ _ _ _ _ _ _ _ _ _ _
theorem putX_B {b g : Nat} {w W : World} (h : ExtB b w W) (hg : w.heap.size ≤ g) (t : T) (lv : Value) : ExtB b w (putX W g t lv) := by
 unfold putX
 iterate 13 refine ExtB.set ?_ (.inr hg) _
 exact h
theorem putX_E {g : Nat} {w W : World} (h : Ext w W) (hg : w.heap.size ≤ g) (t : T) (lv : Value) : Ext w (putX W g t lv) := by
 unfold putX
 iterate 13 refine Ext.setCell ?_ hg _
 exact h
theorem putX_heap (W : World) (g k : Nat) (t : T) (lv : Value) (hk : k ≠ g) : (putX W g t lv).heap[k]? = W.heap[k]? := by
 unfold putX
 iterate 13 rw [Below.heap_setCell _ _ _ _ hk]
theorem putX_size (W : World) (g : Nat) (t : T) (lv : Value) : (putX W g t lv).heap.size = W.heap.size := by
 unfold putX; simp [World.setCell]
theorem putX_L {P : Nat → Prop} {W : World} {g : Nat} {t : T} {lv v : Value} {l : List T} (h : IsL W P v l) (hP : ∀ k, P k → k ≠ g) : IsL (putX W g t lv) P v l :=
 h.keep (by rw [putX_size]; exact Nat.le_refl _) (fun k hk _ => putX_heap W g k t lv (hP k hk)) (fun _ h _ => h)
theorem BlkX.extB {b g : Nat} {w w' : World} {t : T} {lv : Value} (h : BlkX w g t lv) (e : ExtB b w w') (hg : g ≠ b) : BlkX w' g t lv := Blk13.extB h e hg
theorem BlkX.ext {g : Nat} {w w' : World} {t : T} {lv : Value} (h : BlkX w g t lv) (e : Ext w w') : BlkX w' g t lv := Blk13.ext h e
theorem BlkX.top {w w1 : World} {b : Nat} (hb : b = w.heap.size) (E : Ext (w.alloc (.cells #[.int .i64 0, .int .i64 0, .string ⟨#[]⟩, .int .i64 0, .int .i64 0, .int .i64 0, .bool false, .bool false, .int .i64 0, .int .i64 0, .bool false, .bool false, .slice none 0 0] 29)) w1) : BlkX w1 b tz (.slice none 0 0) := blk13_top hb E
open Go.ChangeShapes Go.WideShapes Go.RowKit
open Go.Joins (trod_struct4)
open Go.Deep (choose_lt)
set_option maxHeartbeats 2000000
instance : Inhabited T := ⟨tz⟩
inductive Wf : T → Prop
 | mk (t : T) : I64 t.k → I64 t.n → t.s.length ≤ maxLen → I64 t.e → I64 t.r.1 → I64 t.r.2.1 → I64 t.q.1 → I64 t.q.2.1 → (∀ x ∈ t.l, Wf x) → Wf t
theorem list13 {α : Type} {cs : List α} (h : cs.length = 13) : ∃ c0 c1 c2 c3 c4 c5 c6 c7 c8 c9 c10 c11 c12, cs = [c0, c1, c2, c3, c4, c5, c6, c7, c8, c9, c10, c11, c12] := by
 match cs, h with
 | [c0, c1, c2, c3, c4, c5, c6, c7, c8, c9, c10, c11, c12], _ => exact ⟨c0, c1, c2, c3, c4, c5, c6, c7, c8, c9, c10, c11, c12, rfl⟩
theorem cells_exp : Try.prog.cellsOf 29 = 13 := by kernel_rfl
theorem cells_rf : Try.prog.cellsOf 26 = 4 := by kernel_rfl
theorem cells_i : Try.prog.cellsOf 3 = 1 := by kernel_rfl
theorem cells_i64 : Try.prog.cellsOf 2 = 1 := by kernel_rfl
theorem cells_st : Try.prog.cellsOf 9 = 1 := by kernel_rfl
theorem cells_bl : Try.prog.cellsOf 4 = 1 := by kernel_rfl
theorem cells_sl : Try.prog.cellsOf 27 = 1 := by kernel_rfl
section
variable {H : Type} {enc : TypeId × Value → H} {w : World} {base : Nat} {sp : Nat → Bool} {hd : Bool}
theorem open_rf {fuel : Nat} {c0 c1 c2 c3 : Value} {x : DataW H × List MemPlace} (h : DataW.trod enc Try.prog w base sp hd fuel 26 [c0, c1, c2, c3] = some x) :
   ∃ r : Rf, c0 = .int .i64 r.1 ∧ c1 = .int .i64 r.2.1 ∧ c2 = .bool r.2.2.1 ∧ c3 = .bool r.2.2.2 ∧ I64 r.1 ∧ I64 r.2.1 := by
 obtain ⟨y0, y1, y2, y3, n, _, _, h0, h1, h2, h3⟩ := trod_struct4 Try.underlying26 h
 simp [cells_i, cells_bl] at h0 h1 h2 h3
 obtain ⟨a0, e0, _, w0⟩ := DataW.trod_int Try.underlying3 h0
 obtain ⟨a1, e1, _, w1⟩ := DataW.trod_int Try.underlying3 h1
 obtain ⟨a2, e2, _⟩ := DataW.trod_bool Try.underlying4 h2
 obtain ⟨a3, e3, _⟩ := DataW.trod_bool Try.underlying4 h3
 simp only [List.cons.injEq, and_true] at e0 e1 e2 e3
 exact ⟨(a0, a1, a2, a3), e0, e1, e2, e3, i64_of_wf w0, i64_of_wf w1⟩
theorem open_exp : ∀ (fuel : Nat) (cs : List Value) (x : DataW H × List MemPlace), DataW.trod enc Try.prog w base sp hd fuel 29 cs = some x →
   ∃ (t : T) (lv : Value), cs = cellsT t lv ∧ IsL w (fun _ => True) lv t.l ∧ Wf t := by
 intro fuel
 induction fuel using Nat.strongRecOn with
 | _ fuel ih =>
   intro cs x h
   obtain ⟨xs, n, rfl, _, hlen, hxl, hf⟩ := DataW.trod_struct Try.underlying29 h
   rw [cells_exp] at hlen
   obtain ⟨c0, c1, c2, c3, c4, c5, c6, c7, c8, c9, c10, c11, c12, rfl⟩ := list13 hlen
   have hx : ∀ i, i < 7 → ∃ y, xs[i]? = some y := fun i hi => ⟨_, List.getElem?_eq_getElem (by rw [hxl]; exact hi)⟩
   obtain ⟨y0, g0⟩ := hx 0 (by decide)
   obtain ⟨y1, g1⟩ := hx 1 (by decide)
   obtain ⟨y2, g2⟩ := hx 2 (by decide)
   obtain ⟨y3, g3⟩ := hx 3 (by decide)
   obtain ⟨y4, g4⟩ := hx 4 (by decide)
   obtain ⟨y5, g5⟩ := hx 5 (by decide)
   obtain ⟨y6, g6⟩ := hx 6 (by decide)
   have f0 := (hf 0 _ rfl).trans g0
   have f1 := (hf 1 _ rfl).trans g1
   have f2 := (hf 2 _ rfl).trans g2
   have f3 := (hf 3 _ rfl).trans g3
   have f4 := (hf 4 _ rfl).trans g4
   have f5 := (hf 5 _ rfl).trans g5
   have f6 := (hf 6 _ rfl).trans g6
   simp [cells_i, cells_i64, cells_st, cells_rf, cells_sl] at f0 f1 f2 f3 f4 f5 f6
   obtain ⟨a0, e0, _, w0⟩ := DataW.trod_int Try.underlying3 f0
   obtain ⟨a1, e1, _, w1⟩ := DataW.trod_int Try.underlying2 f1
   obtain ⟨a2, e2, _, w2⟩ := DataW.trod_string Try.underlying9 f2
   obtain ⟨a3, e3, _, w3⟩ := DataW.trod_int Try.underlying3 f3
   obtain ⟨r, r0, r1, r2, r3, rw0, rw1⟩ := open_rf f4
   obtain ⟨q, q0, q1, q2, q3, qw0, qw1⟩ := open_rf f5
   simp only [List.cons.injEq, and_true] at e0 e1 e2 e3
   subst e0 e1 e2 e3 r0 r1 r2 r3 q0 q1 q2 q3
   have hs : bs a2.data.toList = a2 := by unfold bs; rfl
   have key : ∃ l, IsL w (fun _ => True) c12 l ∧ ∀ x ∈ l, Wf x := by
     rcases DataW.trod_slice Try.underlying27 f6 with ⟨e6, _⟩ | ⟨a, len, cap, elems, rest, n', hn', e6, _, hb, hl, hm, hel, hx, _, _⟩
     · simp only [List.cons.injEq, and_true] at e6
       subst e6
       exact ⟨[], .nil, fun x hx => by cases hx⟩
     · simp only [List.cons.injEq, and_true] at e6
       subst e6
       rw [cells_exp] at hx
       have each : ∀ i, i < len → ∃ p : T × Value, (∀ j u, (cellsT p.1 p.2)[j]? = some u → w.cell? ((a.add (i * 13)).add j) = some u) ∧ IsL w (fun _ => True) p.2 p.1.l ∧ Wf p.1 := by
         intro i hi
         have h0 := hx i hi
         rw [List.getElem?_eq_getElem (show i < elems.length by omega)] at h0
         obtain ⟨cs', h1, h2⟩ := Option.bind_eq_some_iff.1 h0
         obtain ⟨_, k1, k2⟩ := World.cells?_some h1
         obtain ⟨t, lv, rfl, hL, hW⟩ := ih n' (by omega) cs' _ h2
         refine ⟨(t, lv), fun j u hu => ?_, hL, hW⟩
         rw [← hu]
         refine k2 j ?_
         have := (List.getElem?_eq_some_iff.1 hu).1
         rw [← k1]; exact this
       obtain ⟨f, hf⟩ := choose_lt each
       by_cases h0 : len = 0
       · subst h0
         exact ⟨[], .nil, fun x hx => by cases hx⟩
       obtain ⟨b, off, spot⟩ := a
       have hz := (hf 0 (by omega)).1 0 _ rfl
       have hspot : spot = none := by simpa [Addr.add] using World.cell?_spot hz
       subst hspot
       have hblt : b < w.heap.size := World.block_lt_of_cell? _ _ hz
       refine ⟨(List.range len).map (fun i => (f i).1), .mk b off cap len _ (fun i => (f i).2) (by simp) hl trivial hblt ?_ ?_, ?_⟩
       · intro i t j u hi hj
         have hi' : i < len := by
           have := (List.getElem?_eq_some_iff.1 hi).1
           simpa using this
         rw [List.getElem?_map, List.getElem?_range hi'] at hi
         simp at hi
         subst hi
         have := (hf i hi').1 j u hj
         rw [Addr.add_lit, Addr.add_lit] at this
         exact this
       · intro i t hi
         have hi' : i < len := by
           have := (List.getElem?_eq_some_iff.1 hi).1
           simpa using this
         rw [List.getElem?_map, List.getElem?_range hi'] at hi
         simp at hi
         subst hi
         exact (hf i hi').2.1
       · intro x hx
         obtain ⟨i, hi, rfl⟩ := List.mem_map.1 hx
         exact (hf i (List.mem_range.1 hi)).2.2
   obtain ⟨l, hL, hW⟩ := key
   refine ⟨.mk a0 a1 a2.data.toList a3 r q l, c12, ?_, hL, .mk _ (i64_of_wf w0) (i64_of_wf w1) (by show a2.data.toList.length ≤ maxLen; rw [size_list]; exact w2) (i64_of_wf w3) rw0 rw1 qw0 qw1 hW⟩
   show _ = cellsT _ c12
   unfold cellsT
   simp only [T.k, T.n, T.s, T.e, T.r, T.q, hs]
end
open Go.RowKit
structure Cl where
 row : Int
 col : Int
 txt : ByteArray
 is : Bool
 x : T
 vk : Int
 vn : Int
 vs : ByteArray
 ve : Int
def clz : Cl := ⟨0, 0, ByteArray.empty, false, tz, 0, 0, ByteArray.empty, 0⟩
abbrev Rn := Int × Int × Int
def nxB (A : Cl → Cl → Bool) (a c : Cl) : Bool := a.is && (decide (a.row = c.row - 1) && A a c)
def lsR (l : List Rn) : Rn := l.getLastD (0, 0, 0)
def seeP (A : Cl → Cl → Bool) (s : List Rn × Cl) (c : Cl) : List Rn × Cl :=
 (if nxB A s.2 c then s.1.dropLast ++ [((lsR s.1).1, (lsR s.1).2.1, c.row)] else s.1 ++ [(c.col, c.row, c.row)], c)
abbrev Spn := Int → List Rn × Cl
def spz : Spn := fun _ => ([], clz)
def putS (σ : Spn) (k : Int) (s : List Rn × Cl) : Spn := fun i => if i = k then s else σ i
def stP (A : Cl → Cl → Bool) (σ : Spn) (c : Cl) : Spn := if c.is then putS σ c.col (seeP A (σ c.col) c) else σ
def foP (A : Cl → Cl → Bool) (l : List Cl) : Spn := l.foldl (stP A) spz
def rnK (σ : Spn) (k : Nat) : List Rn := (List.range k).flatMap (fun (i : Nat) => (σ ((i : Int) + 1)).1)
def okRn (r : Rn) : Bool := decide (4 ≤ r.2.2 - r.2.1 + 1)
def befC (a b : Cl) : Bool := decide (a.row < b.row ∨ a.row = b.row ∧ a.col < b.col)
def clA (l : List Cl) (i : Nat) : Cl := l.getD i clz
def okAt (l : List Cl) (i : Nat) : Bool := inB (clA l i).row (clA l i).col && (i == 0 || befC (clA l (i - 1)) (clA l i))
def sndB (l : List Cl) : Bool := (List.range l.length).all (okAt l)
def findP (A : Cl → Cl → Bool) (l : List Cl) : List Rn := if sndB l then (rnK (foP A l) 52).filter okRn else []
theorem snd_iff (l : List Cl) : sndB l = true ↔ ∀ i, i < l.length → okAt l i = true := by
 unfold sndB
 rw [List.all_eq_true]
 constructor
 · intro h i hi; exact h i (List.mem_range.2 hi)
 · intro h i hi; exact h i (List.mem_range.1 hi)
theorem snd_no {l : List Cl} {i : Nat} (hi : i < l.length) (h : okAt l i = false) : sndB l = false := by
 cases hs : sndB l with
 | false => rfl
 | true => rw [(snd_iff l).1 hs i hi] at h; cases h
theorem clA_get {l : List Cl} {i : Nat} {c : Cl} (h : l[i]? = some c) : clA l i = c := by unfold clA; rw [List.getD_eq_getElem?_getD, h]; rfl
theorem foP_snoc (A : Cl → Cl → Bool) (l : List Cl) (c : Cl) : foP A (l ++ [c]) = stP A (foP A l) c := by unfold foP; rw [List.foldl_append]; rfl
theorem take_snoc {α : Type} {l : List α} {k : Nat} {c : α} (h : l[k]? = some c) : l.take (k + 1) = l.take k ++ [c] := by
 rw [List.take_add_one, h]; rfl
theorem foP_take (A : Cl → Cl → Bool) {l : List Cl} {k : Nat} {c : Cl} (h : l[k]? = some c) : foP A (l.take (k + 1)) = stP A (foP A (l.take k)) c := by
 rw [take_snoc h, foP_snoc]
theorem rnK_succ (σ : Spn) (k : Nat) : rnK σ (k + 1) = rnK σ k ++ (σ ((k : Int) + 1)).1 := by
 unfold rnK
 rw [List.range_succ, List.flatMap_append]
 simp
theorem see_len (A : Cl → Cl → Bool) (s : List Rn × Cl) (c : Cl) : (seeP A s c).1.length ≤ s.1.length + 1 := by
 unfold seeP
 split
 · simp
 · simp
theorem see_ne (A : Cl → Cl → Bool) (s : List Rn × Cl) (c : Cl) : (seeP A s c).1 ≠ [] := by
 unfold seeP
 split <;> simp
structure SpOk (σ : Spn) (n : Nat) : Prop where
 ne : ∀ k, (σ k).2.is = true → (σ k).1 ≠ []
 few : ∀ k, (σ k).1.length ≤ n
theorem SpOk.zero : SpOk spz 0 := ⟨fun _ h => (Bool.false_ne_true h).elim, fun _ => Nat.le_refl _⟩
theorem SpOk.step {A : Cl → Cl → Bool} {σ : Spn} {n : Nat} (h : SpOk σ n) (c : Cl) : SpOk (stP A σ c) (n + 1) := by
 unfold stP
 split
 · refine ⟨fun k hk => ?_, fun k => ?_⟩
   · unfold putS at hk ⊢
     split
     · exact see_ne _ _ _
     · rename_i hn; rw [if_neg hn] at hk; exact h.ne k hk
   · unfold putS
     split
     · exact Nat.le_trans (see_len _ _ _) (Nat.succ_le_succ (h.few _))
     · exact Nat.le_succ_of_le (h.few k)
 · exact ⟨h.ne, fun k => Nat.le_succ_of_le (h.few k)⟩
theorem rn_len {σ : Spn} {n : Nat} (h : SpOk σ n) (k : Nat) : (rnK σ k).length ≤ n * k := by
 induction k with
 | zero => simp [rnK]
 | succ k ih =>
   rw [rnK_succ, List.length_append, Nat.mul_succ]
   have := h.few ((k : Int) + 1)
   omega
open Go.RowKit
set_option maxHeartbeats 1000000
structure Elt (TS T : TypeId) (k bytes : Nat) : Prop where
 u : Try.prog.underlying TS = some (.slice T)
 i : ∃ i z, Try.prog.info? T = some i ∧ i.zero = some z ∧ i.size = k ∧ i.bytes = bytes ∧ z.cells.size = k
 k0 : 0 < k
theorem ownsRow_ext {w w' : World} {base : Nat} {T : TypeId} {k n : Nat} {v : Value} {xs : List Value} (h : w.ownsRow base T k v n xs) (e : Ext w w') : w'.ownsRow base T k v n xs := by
 refine ⟨h.1, ?_⟩
 rcases h.2 with h | ⟨g, cap, cur, h1, h2, h3, h4⟩
 · exact .inl h
 · exact .inr ⟨g, cap, cur, h1, h2, (e.block g (Array.getElem?_eq_some_iff.1 h3).1).trans h3, h4⟩
theorem ext_grownG {w W W' : World} {base : Nat} {T : TypeId} {k n : Nat} {v : Value} {xs : List Value} (hB : W.ownsRow base T k v n xs) (hb : w.heap.size ≤ base) (hE : Ext w W) (hg : W.grownBy W' v.ownBlock) : Ext w W' := by
 refine ⟨hg.os.trans hE.os, hg.tape.trans hE.tape, hg.output.trans hE.output, Nat.le_trans hE.size hg.size, fun q hq => ?_⟩
 refine (hg.block q (Nat.lt_of_lt_of_le hq hE.size) ?_).trans (hE.block q hq)
 intro e
 have := (hB.lt q e.symm).1
 omega
def RowC (W : World) (v : Value) (m : Nat) (k : Nat) (news : List Value) : Prop := news.length = m * k ∧ ∃ p c, v = .slice p m c ∧ ((p = none ∧ m = 0) ∨ ∃ ad, p = some ad ∧ ∀ j u, news[j]? = some u → W.cell? (ad.add j) = some u)
theorem run_append_noneG {TS T : TypeId} {k bytes : Nat} (hT : Elt TS T k bytes) (w : World) (ty : TypeId) (p : Option Addr) (n cap c : Nat) (h : n ≤ cap) :
   (Builtin.append_ #[TS, TS] ty #[.slice p n cap, .slice none 0 c]).run Try.prog w = .ok (.slice p n cap) w := by
 obtain ⟨i, z, hi, hz, h1, h2, h3⟩ := hT.i
 cases p with
 | none => simp [Builtin.append_, run_underlying hT.u, sizeOf, typeInfo, hi, Builtin.lenOf, Builtin.firstCells, h]
 | some a => simp [Builtin.append_, run_underlying hT.u, sizeOf, typeInfo, hi, Builtin.lenOf, Builtin.firstCells, loadCells, h, storeCells]
theorem own_form {W : World} {base : Nat} {T : TypeId} {k n : Nat} {v : Value} {xs : List Value} (h : W.ownsRow base T k v n xs) : ∃ p c, v = .slice p n c ∧ n ≤ c := by
 rcases h.2 with ⟨h, h0⟩ | ⟨g, cap, cur, h, _, _, h4, _⟩
 · exact ⟨none, 0, by rw [h, h0], by omega⟩
 · exact ⟨_, _, h, h4⟩
theorem own_new {T : TypeId} {k : Nat} (w W : World) (h : w.heap.size ≤ W.heap.size) : (W.alloc (.cells #[] T)).ownsRow w.heap.size T k (.slice (some ⟨W.heap.size, 0, none⟩) 0 0) 0 [] :=
 ⟨by simp, .inr ⟨W.heap.size, 0, #[], rfl, h, by show (W.heap.push _)[W.heap.size]? = _; rw [Array.getElem?_push_size], Nat.le_refl _, by simp, by simp, by simp⟩⟩
open Go.RowKit
set_option maxHeartbeats 1000000
theorem gm_len {α : Type} {c : α → List Value} {k : Nat} (hc : ∀ x, (c x).length = k) (l : List α) : (l.flatMap c).length = l.length * k := by
 induction l with
 | nil => simp
 | cons x l ih => rw [List.flatMap_cons, List.length_append, hc, ih, List.length_cons, Nat.succ_mul]; omega
theorem gm_at {α : Type} {c : α → List Value} {k : Nat} (hc : ∀ x, (c x).length = k) : ∀ (l : List α) (i : Nat) (x : α) (j : Nat), l[i]? = some x → j < k → (l.flatMap c)[i * k + j]? = (c x)[j]?
 | [], i, x, j, h, _ => by simp at h
 | y :: l, 0, x, j, h, hj => by
   simp at h; subst h
   rw [List.flatMap_cons, Nat.zero_mul, Nat.zero_add, List.getElem?_append_left (by rw [hc]; exact hj)]
 | y :: l, i + 1, x, j, h, hj => by
   have ih := gm_at hc l i x j (by simpa using h) hj
   rw [List.flatMap_cons, List.getElem?_append_right (by rw [hc, Nat.succ_mul]; omega), hc, ← ih]
   congr 1
   rw [Nat.succ_mul]; omega
theorem gm_get {α : Type} {c : α → List Value} {k : Nat} (hc : ∀ x, (c x).length = k) (hk : 0 < k) (l : List α) (j : Nat) (u : Value) (h : (l.flatMap c)[j]? = some u) : ∃ x, l[j / k]? = some x ∧ (c x)[j % k]? = some u := by
 have hj : j < l.length * k := by rw [← gm_len hc]; exact (List.getElem?_eq_some_iff.1 h).1
 have hi : j / k < l.length := by rw [Nat.div_lt_iff_lt_mul hk]; exact hj
 refine ⟨l[j / k], List.getElem?_eq_getElem hi, ?_⟩
 rw [← gm_at hc l (j / k) _ (j % k) (List.getElem?_eq_getElem hi) (Nat.mod_lt _ hk), Nat.mul_comm, Nat.div_add_mod]
 exact h
def RdG {α : Type} (c : α → List Value) (k : Nat) (W : World) (v : Value) (l : List α) : Prop :=
 ∃ p cp, v = .slice p l.length cp ∧ l.length ≤ cp ∧ (l = [] ∨ ∃ b off, p = some ⟨b, off, none⟩ ∧ b < W.heap.size ∧ ∀ i x j u, l[i]? = some x → (c x)[j]? = some u → W.cell? ⟨b, off + i * k + j, none⟩ = some u)
section
variable {α : Type} {c : α → List Value} {k : Nat}
theorem RdG.len {W : World} {p : Option Addr} {n cp : Nat} {l : List α} (h : RdG c k W (.slice p n cp) l) : n = l.length := by
 obtain ⟨p', c', h1, _⟩ := h
 cases h1; rfl
theorem RdG.form {W : World} {v : Value} {l : List α} (h : RdG c k W v l) : ∃ p cp, v = .slice p l.length cp ∧ l.length ≤ cp := by
 obtain ⟨p, cp, h1, h2, _⟩ := h
 exact ⟨p, cp, h1, h2⟩
theorem RdG.keep {W W' : World} {p : Option Addr} {n cp : Nat} {l : List α} (h : RdG c k W (.slice p n cp) l) (hs : W.heap.size ≤ W'.heap.size) (hk : ∀ a, p = some a → l ≠ [] → a.block < W.heap.size → W'.heap[a.block]? = W.heap[a.block]?) : RdG c k W' (.slice p n cp) l := by
 obtain ⟨p', c', h1, h2, h3⟩ := h
 cases h1
 refine ⟨p, cp, rfl, h2, ?_⟩
 rcases h3 with h3 | ⟨b, off, rfl, h5, h6⟩
 · exact .inl h3
 · refine .inr ⟨b, off, rfl, Nat.lt_of_lt_of_le h5 hs, fun i x j u hi hj => ?_⟩
   have := h6 i x j u hi hj
   unfold World.cell? at this ⊢
   rw [show W'.heap[b]? = W.heap[b]? from hk _ rfl (fun e => by rw [e] at hi; simp at hi) h5]
   exact this
theorem RdG.ext {W W' : World} {v : Value} {l : List α} (h : RdG c k W v l) (e : Ext W W') : RdG c k W' v l := by
 obtain ⟨p, cp, h1, h2, h3⟩ := h
 refine ⟨p, cp, h1, h2, ?_⟩
 rcases h3 with h3 | ⟨b, off, h4, h5, h6⟩
 · exact .inl h3
 · exact .inr ⟨b, off, h4, Nat.lt_of_lt_of_le h5 e.size, fun i x j u hi hj => (e.cell.1 b _ h5).trans (h6 i x j u hi hj)⟩
theorem RdG.nil (W : World) : RdG c k W (.slice none 0 0) [] := ⟨none, 0, rfl, Nat.le_refl _, .inl rfl⟩
theorem RdG.at {W : World} {p : Option Addr} {n cp : Nat} {l : List α} (h : RdG c k W (.slice p n cp) l) {i : Nat} {x : α} (hi : l[i]? = some x) :
   ∃ b off, p = some ⟨b, off, none⟩ ∧ b < W.heap.size ∧ ∀ j u, (c x)[j]? = some u → W.cell? ⟨b, off + i * k + j, none⟩ = some u := by
 obtain ⟨p', c', h1, h2, h3⟩ := h
 cases h1
 rcases h3 with h3 | ⟨b, off, h4, h5, h6⟩
 · subst h3; simp at hi
 · exact ⟨b, off, h4, h5, fun j u hj => h6 i x j u hi hj⟩
theorem RdG.row (hc : ∀ x, (c x).length = k) (hk : 0 < k) {W : World} {v : Value} {l : List α} (h : RdG c k W v l) : RowC W v l.length k (l.flatMap c) := by
 obtain ⟨p, cp, h1, h2, h3⟩ := h
 refine ⟨gm_len hc l, p, cp, h1, ?_⟩
 rcases h3 with rfl | ⟨b, off, rfl, _, h6⟩
 · cases p with
   | none => exact .inl ⟨rfl, rfl⟩
   | some ad => exact .inr ⟨ad, rfl, fun j u hu => by simp at hu⟩
 · refine .inr ⟨_, rfl, fun j u hu => ?_⟩
   obtain ⟨r, hr, hu⟩ := gm_get hc hk l j u hu
   have := h6 _ r _ u hr hu
   rw [Addr.add_lit]
   rw [Nat.add_assoc, Nat.mul_comm, Nat.div_add_mod] at this
   exact this
theorem own_rdG (hc : ∀ x, (c x).length = k) {W : World} {base : Nat} {T : TypeId} {v : Value} {l : List α} {n : Nat} (h : W.ownsRow base T k v n (l.flatMap c)) (hn : n = l.length) : RdG c k W v l := by
 subst hn
 rcases h.2 with ⟨rfl, h0⟩ | ⟨g, cap, cur, rfl, h2, h3, h4, h5⟩
 · have : l = [] := List.eq_nil_of_length_eq_zero h0
   subst this
   exact RdG.nil W
 · have hg : g < W.heap.size := (Array.getElem?_eq_some_iff.1 h3).1
   refine ⟨_, cap, rfl, h4, .inr ⟨g, 0, rfl, hg, fun i x j u hi hj => ?_⟩⟩
   have hj6 : j < k := by rw [← hc x]; exact (List.getElem?_eq_some_iff.1 hj).1
   have k' := h.cells (g := g) rfl (i * k + j) u (by rw [gm_at hc l i x j hi hj6]; exact hj)
   simp only [Addr.add_lit] at k'
   rw [Nat.add_assoc]
   exact k'
theorem RdG.part {W : World} {p : Option Addr} {n cp : Nat} {l : List α} (h : RdG c k W (.slice p n cp) l) (j : Nat) (hj : j ≤ l.length) : RdG c k W (.slice p j cp) (l.take j) := by
 obtain ⟨p', c', h1, h2, h3⟩ := h
 cases h1
 have hl : (l.take j).length = j := by simp; omega
 refine ⟨_, cp, by rw [hl], by rw [hl]; omega, ?_⟩
 rcases h3 with h3 | ⟨b', off', h4, h5, h6⟩
 · subst h3; exact .inl (by simp)
 · refine .inr ⟨b', off', h4, h5, fun i x q u hk hq => h6 i x q u ?_ hq⟩
   rw [List.getElem?_take] at hk
   split at hk
   · exact hk
   · cases hk
theorem gm_one (h1 : ∀ x, ∀ v ∈ c x, v.oneCell' = true) (l : List α) : ∀ u ∈ l.flatMap c, u.oneCell' = true := by
 intro u hu
 obtain ⟨r, _, hu⟩ := List.mem_flatMap.1 hu
 exact h1 r u hu
end
theorem own_app2 {TS T : TypeId} {k bytes : Nat} (hT : Elt TS T k bytes) {ops : Array Oper} {rest : List Oper} {o : Oper} {a : Act} {Q : Exit → Act → World → Prop} (W : World) (s x : Operand) (v va : Value) (n m : Nat) (xs news : List Value) (base : Nat) (hgd : o.guard = none)
   (ho : o.op = .call { callee := .builtin .append, args := #[s, x], argTypes := #[TS, TS] })
   (hs : a.eval s = v) (hx : a.eval x = va) (hB : W.ownsRow base T k v n xs) (hR : RowC W va m k news) (h1c : ∀ u ∈ news, u.oneCell' = true) (hm : n + m ≤ maxLen) (hby : (n + m) * bytes ≤ 140737488355328) (hb2 : base ≤ W.heap.size)
   (h : ∀ v' W', W'.ownsRow base T k v' (n + m) (xs ++ news) → W.grownBy W' v.ownBlock → (v'.ownBlock = v.ownBlock ∨ v'.ownBlock = some W.heap.size) → wpList Try.prog ops Q rest (a.put o.dst v') W') : wpList Try.prog ops Q (o :: rest) a W := by
 obtain ⟨hl, p, c, rfl, hR⟩ := hR
 obtain ⟨i, z, hi, hz, h1, h2, h3⟩ := hT.i
 rcases hR with ⟨rfl, rfl⟩ | ⟨ad, rfl, hR⟩
 · have hn : news = [] := List.eq_nil_of_length_eq_zero (by simpa using hl)
   subst hn
   obtain ⟨p, cap, rfl, hc⟩ : ∃ p cap, v = .slice p n cap ∧ n ≤ cap := by
     rcases hB.2 with ⟨h, h0⟩ | ⟨g, cap, cur, h, _, _, h4, _⟩
     · exact ⟨none, 0, by rw [h, h0], by omega⟩
     · exact ⟨_, _, h, h4⟩
   refine Lib.wpList_append_run W hgd s x _ _ ho _ _ hs hx _ _ (run_append_noneG hT W o.type p n cap c hc) ?_
   exact h _ W (by simpa using hB) ⟨rfl, rfl, rfl, Nat.le_refl _, fun _ _ _ => rfl⟩ (.inl rfl)
 · refine wpList_append_own_at W hgd s x TS ho base T i z k bytes hT.u hi hz h1 h2 h3 hT.k0 v n xs hs hB ad m c news hx hl hR h1c hm hby hb2 ?_
   intro v' W' h3 h4 _ h5
   exact h v' W' h3 h4 h5
theorem top_heap (w : World) (o : Obj) : (w.alloc o).heap[w.heap.size]? = some o := by show (w.heap.push o)[w.heap.size]? = some o; simp
theorem cells_heap {w w' : World} {k : Nat} (h : w'.heap[k]? = w.heap[k]?) (o : Nat) : w'.cell? ⟨k, o, none⟩ = w.cell? ⟨k, o, none⟩ ∧ w'.frozen? ⟨k, o, none⟩ = w.frozen? ⟨k, o, none⟩ := by
 unfold World.cell? World.frozen?
 simp only [h, and_self]
theorem wrapI (k : Nat) (h : k ≤ 1000000) : wrap64 ((k : Int) + 1) = ((k + 1 : Nat) : Int) := by unfold wrap64; omega
theorem take_at {α : Type} {l : List α} {k : Nat} {s : α} (h : l[k]? = some s) : l.take (k + 1) = l.take k ++ [s] := by
 rw [List.take_add_one, h]; rfl
theorem app_g {α : Type} {c : α → List Value} {TS T : TypeId} {k bytes : Nat} (hT : Elt TS T k bytes) (hc : ∀ x, (c x).length = k) (h1 : ∀ x, ∀ v ∈ c x, v.oneCell' = true) (hby : bytes ≤ 1000) {ops : Array Oper} {rest : List Oper} {o : Oper} {a : Act} {Q : Exit → Act → World → Prop} (W w : World) (s x : Operand) (v va : Value) (n m : Nat) (l news : List α) (base : Nat) (hgd : o.guard = none)
   (ho : o.op = .call { callee := .builtin .append, args := #[s, x], argTypes := #[TS, TS] })
   (hs : a.eval s = v) (hx : a.eval x = va) (hB : W.ownsRow base T k v n (l.flatMap c)) (hm : news.length = m) (hR : RdG c k W va news) (hl : n + m ≤ 1000000) (hE : Ext w W) (hb : w.heap.size ≤ base) (hb2 : base ≤ W.heap.size)
   (h : ∀ v' W', W'.ownsRow base T k v' (n + m) ((l ++ news).flatMap c) → Ext w W' → W.grownBy W' v.ownBlock → (v'.ownBlock = v.ownBlock ∨ v'.ownBlock = some W.heap.size) → wpList Try.prog ops Q rest (a.put o.dst v') W') : wpList Try.prog ops Q (o :: rest) a W := by
 subst hm
 refine own_app2 hT W s x v va n news.length (l.flatMap c) (news.flatMap c) base hgd ho hs hx hB (hR.row hc hT.k0) (gm_one h1 news) (by unfold maxLen; omega) (Nat.le_trans (Nat.mul_le_mul hl hby) (by decide)) hb2 ?_
 intro v' W' k1 k2 k3
 rw [← List.flatMap_append] at k1
 exact h v' W' k1 (ext_grownG hB hb hE k2) k2 k3
theorem RdG.one {α : Type} {c : α → List Value} {k : Nat} {W : World} {x : α} {b : Nat} {cur : Array Value} {T : TypeId} {fr : Nat × Nat} (hb : W.heap[b]? = some (.cells cur T fr)) (hx : ∀ (j : Nat) (u : Value), (c x)[j]? = some u → cur[j]? = some u) : RdG c k W (.slice (some ⟨b, 0, none⟩) 1 1) [x] := by
 refine ⟨_, 1, rfl, Nat.le_refl _, .inr ⟨b, 0, rfl, heap_lt hb, fun i y j u hi hj => ?_⟩⟩
 have hi0 : i = 0 := by have := (List.getElem?_eq_some_iff.1 hi).1; simp at this; omega
 subst hi0
 simp at hi
 subst hi
 rw [cell_of_row W b _ cur T fr hb, show 0 + 0 * k + j = j by omega]
 exact hx j u hj
theorem Ext.top {w w' : World} {o : Obj} (e : Ext (w.alloc o) w') : w'.heap[w.heap.size]? = some o := (e.block w.heap.size (by simp)).trans (top_heap w o)
open Go.RowKit
def wellT : Nat → T → Bool
 | 0, _ => false
 | n + 1, t => if t.k = 0 then decide (0 ≤ t.n) else if t.k = 1 then decide (t.s.length ≤ 300) else if t.k = 2 then (t.n == 0 || t.n == 1) else if t.k = 3 then (decide (1 ≤ t.e) && decide (t.e ≤ 5)) else if t.k = 4 then inB t.r.1 t.r.2.1 else
   if t.k = 6 then (t.l.length == 1 && t.l.all (wellT n)) else if t.k = 7 then (bnd t.s != 0 && t.l.length == 2 && t.l.all (wellT n)) else
   if t.k = 8 then ((kno t.s).isSome && decide (knA t.s ≤ t.l.length) && decide ((t.l.length : Int) ≤ knB t.s) && t.l.all (fun x => if x.k = 5 then inB x.r.1 x.r.2.1 && inB x.q.1 x.q.2.1 else wellT n x)) else false
def Hr : Nat → T → Prop
 | 0, _ => False
 | n + 1, t => t.l.length ≤ 100000 ∧ ∀ x ∈ t.l, Hr n x
open Go.RowKit
set_option maxHeartbeats 1000000
theorem ret_ref {x y : Value} {a b : Bool} (h : x = y) (g : a = b) : Ending.returned (.tuple #[x, .bool a]) = .returned (.tuple #[y, .bool b]) := by rw [h, g]
open Go.RowKit
set_option maxHeartbeats 1000000
def printR (r c : Int) (ar ac : Bool) : List UInt8 := if inB r c then signL ac ++ nameL c ++ signL ar ++ Lib.itoa r else []
theorem in_bd {r c : Int} (h : inB r c = true) : 1 ≤ r ∧ r ≤ 1000 ∧ 1 ≤ c ∧ c ≤ 52 := by
 unfold inB at h; simp at h; omega
theorem name_sz (c : Int) : (⟨(nameL c).toArray⟩ : ByteArray).size ≤ 2 := by rw [← size_list]; exact name_len c
theorem row_sz (r : Int) (h1 : 1 ≤ r) (h2 : r ≤ 1000) : (⟨(Lib.itoa r).toArray⟩ : ByteArray).size ≤ 4 := by
 obtain ⟨n, rfl⟩ : ∃ n : Nat, r = n := ⟨r.toNat, by omega⟩
 rw [itoa_nat, ← size_list]; exact dec_len4 n (by omega)
set_option maxRecDepth 100000 in
theorem rprint6_any (r c : Int) (ar ac : Bool) (hr : I64 r) (hc : I64 c) (w : World) :
   Calls Try.prog 42 #[.agg #[.int .i64 r, .int .i64 c, .bool ar, .bool ac]] w fun e w' => e = .returned (.string ⟨(printR r c ar ac).toArray⟩) ∧ Ext w w' := by
 have c0 := fun W => rin_any r c W
 have HP : Hid (printR r c ar ac = if inB r c then signL ac ++ nameL c ++ signL ar ++ Lib.itoa r else []) := rfl
 obtain ⟨W0, hW0⟩ : ∃ W0, W0 = w.alloc (.cells #[.int .i64 r, .int .i64 c, .bool ar, .bool ac] 26) := ⟨_, rfl⟩
 have XW : Ext w W0 := by rw [hW0]; exact (Ext.refl _).alloc _
 have B0 : Blk W0 w.heap.size (.int .i64 r) (.int .i64 c) (.bool ar) (.bool ac) := by rw [hW0]; exact blk_top rfl (Ext.refl _)
 have mkS : Hid (∀ W, Ext W0 W → (W.cell? ⟨w.heap.size, 0, none⟩ = some (.int .i64 r) ∧ W.cell? ⟨w.heap.size, 1, none⟩ = some (.int .i64 c) ∧ W.cell? ⟨w.heap.size, 2, none⟩ = some (.bool ar) ∧ W.cell? ⟨w.heap.size, 3, none⟩ = some (.bool ac)) ∧ Ext W0 W) := by
   intro W E
   exact ⟨(B0.ext E).2.1, E⟩
 cases hin : inB r c
 · rw [hin] at c0 HP
   have HP' : Hid (printR r c ar ac = []) := HP.out
   clear HP mkS B0
   go_enter Try.func42, Try.ntmps42
   go_wp2_with fail
   refine (c0 _).mono ?_
   rintro e w1 ⟨rfl, rfl⟩
   go_wp2_with fail
   go_ret
   exact ⟨ret_s (by rw [HP'.out]), (Ext.refl _).alloc _⟩
 · obtain ⟨r1, r2, d1, d2⟩ := in_bd hin
   rw [hin] at c0 HP
   have HP' : Hid (printR r c ar ac = signL ac ++ nameL c ++ signL ar ++ Lib.itoa r) := HP.out
   have cN := fun W => rcolname_any c hc W
   have cD := fun W => rdigits_any r hr W
   have zN := name_sz c
   have zD := row_sz r r1 r2
   have HN : Hid ((⟨(nameL c).toArray⟩ : ByteArray).data.toList = nameL c) := rfl
   have HD : Hid ((⟨(Lib.itoa r).toArray⟩ : ByteArray).data.toList = Lib.itoa r) := rfl
   generalize (⟨(nameL c).toArray⟩ : ByteArray) = N at cN zN HN
   generalize (⟨(Lib.itoa r).toArray⟩ : ByteArray) = D at cD zD HD
   clear HP hin r1 r2 d1 d2 B0
   obtain ⟨A, hA⟩ : ∃ A : ByteArray, (⟨#[36]⟩ : ByteArray) = A := ⟨_, rfl⟩
   obtain ⟨B, hB⟩ : ∃ B : ByteArray, (⟨#[]⟩ : ByteArray) = B := ⟨_, rfl⟩
   have zA : A.size = 1 := by rw [← hA]; rfl
   have zB : B.size = 0 := by rw [← hB]; rfl
   have HA : Hid (A.data.toList = [36]) := by show _ = _; rw [← hA]
   have HB : Hid (B.data.toList = []) := by show _ = _; rw [← hB]
   cases ac <;> cases ar
   · have n1 : ¬ 9223372036854775807 < B.size + N.size := by omega
     have n2 : ¬ 9223372036854775807 < B.size + N.size + B.size := by omega
     have n3 : ¬ 9223372036854775807 < B.size + N.size + B.size + D.size := by omega
     clear zA zB
     go_enter Try.func42, Try.ntmps42
     go_wp2_with fail
     rw [← hW0]
     clear hW0
     refine (c0 _).mono ?_
     rintro e w1 ⟨rfl, rfl⟩
     have B0 := mkS.out w1 (Ext.refl _)
     obtain ⟨⟨k0, k1, k2, k3⟩, _⟩ := B0
     go_wp2_with fail
     go_region_held3 (fun W => (W.cell? ⟨w.heap.size, 0, none⟩ = some (.int .i64 r) ∧ W.cell? ⟨w.heap.size, 1, none⟩ = some (.int .i64 c) ∧ W.cell? ⟨w.heap.size, 2, none⟩ = some (.bool false) ∧ W.cell? ⟨w.heap.size, 3, none⟩ = some (.bool false)) ∧ Ext w1 W)
       ((refine mkS.out _ ?_; ((with_reducible (repeat (first | assumption | exact Ext.refl _ | apply Ext.alloc | apply Ext.drew | apply Ext.drewN))); done)))
       (first | (go_at_call 61; refine Calls.mono (cN _) ?_; rintro e y2 ⟨rfl, E2⟩; have Z2 : Ext w1 y2 := Ext.trans (by ((with_reducible (repeat (first | assumption | exact Ext.refl _ | apply Ext.alloc | apply Ext.drew | apply Ext.drewN))); done)) E2) | (go_at_call 62; refine Calls.mono (cD _) ?_; rintro e y3 ⟨rfl, E3⟩; have Z3 : Ext w1 y3 := Ext.trans (by ((with_reducible (repeat (first | assumption | exact Ext.refl _ | apply Ext.alloc | apply Ext.drew | apply Ext.drewN))); done)) E3))
     go_wp2_with fail
     go_ret
     exact ⟨ret_s (mkL _ _ (by rw [HP'.out, app_list, app_list, app_list, HN.out, HD.out, HB.out]; rfl)), XW.trans (by assumption)⟩
   · have n1 : ¬ 9223372036854775807 < B.size + N.size := by omega
     have n2 : ¬ 9223372036854775807 < B.size + N.size + A.size := by omega
     have n3 : ¬ 9223372036854775807 < B.size + N.size + A.size + D.size := by omega
     clear zA zB
     go_enter Try.func42, Try.ntmps42
     go_wp2_with fail
     rw [← hW0]
     clear hW0
     refine (c0 _).mono ?_
     rintro e w1 ⟨rfl, rfl⟩
     have B0 := mkS.out w1 (Ext.refl _)
     obtain ⟨⟨k0, k1, k2, k3⟩, _⟩ := B0
     go_wp2_with fail
     go_region_held3 (fun W => (W.cell? ⟨w.heap.size, 0, none⟩ = some (.int .i64 r) ∧ W.cell? ⟨w.heap.size, 1, none⟩ = some (.int .i64 c) ∧ W.cell? ⟨w.heap.size, 2, none⟩ = some (.bool true) ∧ W.cell? ⟨w.heap.size, 3, none⟩ = some (.bool false)) ∧ Ext w1 W)
       ((refine mkS.out _ ?_; ((with_reducible (repeat (first | assumption | exact Ext.refl _ | apply Ext.alloc | apply Ext.drew | apply Ext.drewN))); done)))
       (first | (go_at_call 61; refine Calls.mono (cN _) ?_; rintro e y2 ⟨rfl, E2⟩; have Z2 : Ext w1 y2 := Ext.trans (by ((with_reducible (repeat (first | assumption | exact Ext.refl _ | apply Ext.alloc | apply Ext.drew | apply Ext.drewN))); done)) E2) | (go_at_call 62; refine Calls.mono (cD _) ?_; rintro e y3 ⟨rfl, E3⟩; have Z3 : Ext w1 y3 := Ext.trans (by ((with_reducible (repeat (first | assumption | exact Ext.refl _ | apply Ext.alloc | apply Ext.drew | apply Ext.drewN))); done)) E3))
     go_wp2_with fail
     go_ret
     exact ⟨ret_s (mkL _ _ (by rw [HP'.out, app_list, app_list, app_list, HN.out, HD.out, HB.out, HA.out]; rfl)), XW.trans (by assumption)⟩
   · have n1 : ¬ 9223372036854775807 < A.size + N.size := by omega
     have n2 : ¬ 9223372036854775807 < A.size + N.size + B.size := by omega
     have n3 : ¬ 9223372036854775807 < A.size + N.size + B.size + D.size := by omega
     clear zA zB
     go_enter Try.func42, Try.ntmps42
     go_wp2_with fail
     rw [← hW0]
     clear hW0
     refine (c0 _).mono ?_
     rintro e w1 ⟨rfl, rfl⟩
     have B0 := mkS.out w1 (Ext.refl _)
     obtain ⟨⟨k0, k1, k2, k3⟩, _⟩ := B0
     go_wp2_with fail
     go_region_held3 (fun W => (W.cell? ⟨w.heap.size, 0, none⟩ = some (.int .i64 r) ∧ W.cell? ⟨w.heap.size, 1, none⟩ = some (.int .i64 c) ∧ W.cell? ⟨w.heap.size, 2, none⟩ = some (.bool false) ∧ W.cell? ⟨w.heap.size, 3, none⟩ = some (.bool true)) ∧ Ext w1 W)
       ((refine mkS.out _ ?_; ((with_reducible (repeat (first | assumption | exact Ext.refl _ | apply Ext.alloc | apply Ext.drew | apply Ext.drewN))); done)))
       (first | (go_at_call 61; refine Calls.mono (cN _) ?_; rintro e y2 ⟨rfl, E2⟩; have Z2 : Ext w1 y2 := Ext.trans (by ((with_reducible (repeat (first | assumption | exact Ext.refl _ | apply Ext.alloc | apply Ext.drew | apply Ext.drewN))); done)) E2) | (go_at_call 62; refine Calls.mono (cD _) ?_; rintro e y3 ⟨rfl, E3⟩; have Z3 : Ext w1 y3 := Ext.trans (by ((with_reducible (repeat (first | assumption | exact Ext.refl _ | apply Ext.alloc | apply Ext.drew | apply Ext.drewN))); done)) E3))
     go_wp2_with fail
     go_ret
     exact ⟨ret_s (mkL _ _ (by rw [HP'.out, app_list, app_list, app_list, HN.out, HD.out, HA.out, HB.out]; rfl)), XW.trans (by assumption)⟩
   · have n1 : ¬ 9223372036854775807 < A.size + N.size := by omega
     have n2 : ¬ 9223372036854775807 < A.size + N.size + A.size := by omega
     have n3 : ¬ 9223372036854775807 < A.size + N.size + A.size + D.size := by omega
     clear zA zB
     go_enter Try.func42, Try.ntmps42
     go_wp2_with fail
     rw [← hW0]
     clear hW0
     refine (c0 _).mono ?_
     rintro e w1 ⟨rfl, rfl⟩
     have B0 := mkS.out w1 (Ext.refl _)
     obtain ⟨⟨k0, k1, k2, k3⟩, _⟩ := B0
     go_wp2_with fail
     go_region_held3 (fun W => (W.cell? ⟨w.heap.size, 0, none⟩ = some (.int .i64 r) ∧ W.cell? ⟨w.heap.size, 1, none⟩ = some (.int .i64 c) ∧ W.cell? ⟨w.heap.size, 2, none⟩ = some (.bool true) ∧ W.cell? ⟨w.heap.size, 3, none⟩ = some (.bool true)) ∧ Ext w1 W)
       ((refine mkS.out _ ?_; ((with_reducible (repeat (first | assumption | exact Ext.refl _ | apply Ext.alloc | apply Ext.drew | apply Ext.drewN))); done)))
       (first | (go_at_call 61; refine Calls.mono (cN _) ?_; rintro e y2 ⟨rfl, E2⟩; have Z2 : Ext w1 y2 := Ext.trans (by ((with_reducible (repeat (first | assumption | exact Ext.refl _ | apply Ext.alloc | apply Ext.drew | apply Ext.drewN))); done)) E2) | (go_at_call 62; refine Calls.mono (cD _) ?_; rintro e y3 ⟨rfl, E3⟩; have Z3 : Ext w1 y3 := Ext.trans (by ((with_reducible (repeat (first | assumption | exact Ext.refl _ | apply Ext.alloc | apply Ext.drew | apply Ext.drewN))); done)) E3))
     go_wp2_with fail
     go_ret
     exact ⟨ret_s (mkL _ _ (by rw [HP'.out, app_list, app_list, app_list, HN.out, HD.out, HA.out]; rfl)), XW.trans (by assumption)⟩
end Go.Proofs.Ytjhmbkdkjgjoaaa
