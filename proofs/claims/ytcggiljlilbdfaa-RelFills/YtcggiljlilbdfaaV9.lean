/-
 strings.IndexRune at a rune that is not ASCII over an ASCII text: none.
 strings.IndexAny of any text for a sign of '$0123456789': the first place of such a byte.
 A struct of four fields in a block of its own: laid, kept, stored; the end of a function whose result lies in one.
 References as texts, plain data; the contracts of package coord's rowNumber, sign and Parse.
-/
import Derived.Test.YtcggiljlilbdfaaV8
import Derived.Test.YtcggiljlilbdfaaShelf
import Derived.Laws.Runes
import Derived.Laws.RangeAny
import Derived.Lib.IndexAny
import Derived.WalkMore
import Derived.Lib.OthersKept
import Derived.Deep.WholeRow
import Derived.Shelf.Strings.AsciiSet
import Derived.Test.YtcggiljlilbdfaaV1
namespace Go.Proofs.Ytcggiljlilbdfaa
open Go.RowKit
set_option maxHeartbeats 1000000

open Go.RowKit
set_option maxHeartbeats 1000000

/-- The signs that end a name. -/
def sgns : List UInt8 := [36, 48, 49, 50, 51, 52, 53, 54, 55, 56, 57]
theorem sgn_eq (c : UInt8) : sgns.contains c = (c == 36 || dgB c) := by
 have : ∀ c : Fin 256, sgns.contains (UInt8.ofNat c.val) = (UInt8.ofNat c.val == 36 || dgB (UInt8.ofNat c.val)) := by decide +kernel
 have h := this ⟨c.toNat, c.toNat_lt⟩
 simpa using h
theorem at_get (s : ByteArray) (i : Nat) (h : i < s.size) : s.data.toList[i]? = some (s[i]'h) := Lib.data_getElem? s i h
def sg : ByteArray := ⟨sgns.toArray⟩

open Go.RowKit
set_option maxHeartbeats 1000000

theorem keep4 {w w1 : World} {a b c d : Value} {T : TypeId} (E : Ext (w.alloc (.cells #[a, b, c, d] T)) w1) : w.heap.size < w1.heap.size ∧
   (w1.cell? ⟨w.heap.size, 0, none⟩ = some a ∧ w1.cell? ⟨w.heap.size, 1, none⟩ = some b ∧ w1.cell? ⟨w.heap.size, 2, none⟩ = some c ∧ w1.cell? ⟨w.heap.size, 3, none⟩ = some d) ∧
   (w1.frozen? ⟨w.heap.size, 0, none⟩ = false ∧ w1.frozen? ⟨w.heap.size, 1, none⟩ = false ∧ w1.frozen? ⟨w.heap.size, 2, none⟩ = false ∧ w1.frozen? ⟨w.heap.size, 3, none⟩ = false) := by
 have hs : w.heap.size < (w.alloc (.cells #[a, b, c, d] T)).heap.size := by simp
 have k := fun o => E.cell.1 w.heap.size o hs
 have f := fun o => E.cell.2 w.heap.size o hs
 refine ⟨Nat.lt_of_lt_of_le hs E.sz, ⟨(k 0).trans ?_, (k 1).trans ?_, (k 2).trans ?_, (k 3).trans ?_⟩, (f 0).trans ?_, (f 1).trans ?_, (f 2).trans ?_, (f 3).trans ?_⟩
 all_goals simp [go_sem]
/-- The end of a function whose result lies in a block of its own: four cells are laid, and read. -/
theorem fin4g (v : Value) {fn : Func} {Q : Ending → World → Prop} {a : Act} {w w1 : World} {b : Nat} {o0 o1 o2 o3 x0 x1 x2 x3 : Value}
   (k0 : w1.cell? ⟨b, 0, none⟩ = some o0) (k1 : w1.cell? ⟨b, 1, none⟩ = some o1) (k2 : w1.cell? ⟨b, 2, none⟩ = some o2) (k3 : w1.cell? ⟨b, 3, none⟩ = some o3)
   (hd : a.defers = []) (hb : w.heap.size ≤ b) (E : Ext w w1)
   (hr : ∀ W : World, W.cell? ⟨b, 0, none⟩ = some x0 → W.cell? ⟨b, 1, none⟩ = some x1 → W.cell? ⟨b, 2, none⟩ = some x2 → W.cell? ⟨b, 3, none⟩ = some x3 → (results fn a.tmps).run Try.prog W = .ok v W)
   (hQ : ∀ W, Ext w W → Q (.returned v) W) :
   bodyPost Try.prog fn Q .ret a ((((w1.setCell ⟨b, 0, none⟩ x0).setCell ⟨b, 1, none⟩ x1).setCell ⟨b, 2, none⟩ x2).setCell ⟨b, 3, none⟩ x3) := by
 have e0 := World.cell?_setCell_same w1 ⟨b, 0, none⟩ x0 (by rw [k0])
 have j1 : (w1.setCell ⟨b, 0, none⟩ x0).cell? ⟨b, 1, none⟩ = some o1 := by rw [World.cell?_setCell_other _ _ _ _ (by simp)]; exact k1
 have e1 := World.cell?_setCell_same _ ⟨b, 1, none⟩ x1 (by rw [j1])
 have j2 : ((w1.setCell ⟨b, 0, none⟩ x0).setCell ⟨b, 1, none⟩ x1).cell? ⟨b, 2, none⟩ = some o2 := by rw [World.cell?_setCell_other _ _ _ _ (by simp), World.cell?_setCell_other _ _ _ _ (by simp)]; exact k2
 have e2 := World.cell?_setCell_same _ ⟨b, 2, none⟩ x2 (by rw [j2])
 have j3 : (((w1.setCell ⟨b, 0, none⟩ x0).setCell ⟨b, 1, none⟩ x1).setCell ⟨b, 2, none⟩ x2).cell? ⟨b, 3, none⟩ = some o3 := by
   rw [World.cell?_setCell_other _ _ _ _ (by simp), World.cell?_setCell_other _ _ _ _ (by simp), World.cell?_setCell_other _ _ _ _ (by simp)]; exact k3
 have e3 := World.cell?_setCell_same _ ⟨b, 3, none⟩ x3 (by rw [j3])
 refine bodyPost_ret (hr _ ?_ ?_ ?_ e3) hd (hQ _ ((((E.setCell hb _).setCell hb _).setCell hb _).setCell hb _))
 · rw [World.cell?_setCell_other _ _ _ _ (by simp), World.cell?_setCell_other _ _ _ _ (by simp), World.cell?_setCell_other _ _ _ _ (by simp)]; exact e0
 · rw [World.cell?_setCell_other _ _ _ _ (by simp), World.cell?_setCell_other _ _ _ _ (by simp)]; exact e1
 · rw [World.cell?_setCell_other _ _ _ _ (by simp)]; exact e2
theorem fin4 {fn : Func} {Q : Ending → World → Prop} {a : Act} {w w1 : World} {b : Nat} {o0 o1 o2 o3 x0 x1 x2 x3 : Value}
   (k0 : w1.cell? ⟨b, 0, none⟩ = some o0) (k1 : w1.cell? ⟨b, 1, none⟩ = some o1) (k2 : w1.cell? ⟨b, 2, none⟩ = some o2) (k3 : w1.cell? ⟨b, 3, none⟩ = some o3)
   (hd : a.defers = []) (hb : w.heap.size ≤ b) (E : Ext w w1)
   (hr : ∀ W : World, W.cell? ⟨b, 0, none⟩ = some x0 → W.cell? ⟨b, 1, none⟩ = some x1 → W.cell? ⟨b, 2, none⟩ = some x2 → W.cell? ⟨b, 3, none⟩ = some x3 → (results fn a.tmps).run Try.prog W = .ok (.agg #[x0, x1, x2, x3]) W)
   (hQ : ∀ W, Ext w W → Q (.returned (.agg #[x0, x1, x2, x3])) W) :
   bodyPost Try.prog fn Q .ret a ((((w1.setCell ⟨b, 0, none⟩ x0).setCell ⟨b, 1, none⟩ x1).setCell ⟨b, 2, none⟩ x2).setCell ⟨b, 3, none⟩ x3) := fin4g _ k0 k1 k2 k3 hd hb E hr hQ
theorem fin4b (t : Bool) {fn : Func} {Q : Ending → World → Prop} {a : Act} {w w1 : World} {b : Nat} {o0 o1 o2 o3 x0 x1 x2 x3 : Value}
   (k0 : w1.cell? ⟨b, 0, none⟩ = some o0) (k1 : w1.cell? ⟨b, 1, none⟩ = some o1) (k2 : w1.cell? ⟨b, 2, none⟩ = some o2) (k3 : w1.cell? ⟨b, 3, none⟩ = some o3)
   (hd : a.defers = []) (hb : w.heap.size ≤ b) (E : Ext w w1)
   (hr : ∀ W : World, W.cell? ⟨b, 0, none⟩ = some x0 → W.cell? ⟨b, 1, none⟩ = some x1 → W.cell? ⟨b, 2, none⟩ = some x2 → W.cell? ⟨b, 3, none⟩ = some x3 → (results fn a.tmps).run Try.prog W = .ok (.tuple #[.agg #[x0, x1, x2, x3], .bool t]) W)
   (hQ : ∀ W, Ext w W → Q (.returned (.tuple #[.agg #[x0, x1, x2, x3], .bool t])) W) :
   bodyPost Try.prog fn Q .ret a ((((w1.setCell ⟨b, 0, none⟩ x0).setCell ⟨b, 1, none⟩ x1).setCell ⟨b, 2, none⟩ x2).setCell ⟨b, 3, none⟩ x3) := fin4g _ k0 k1 k2 k3 hd hb E hr hQ
/-! ### Blocks of four cells -/
def Blk (W : World) (b : Nat) (x0 x1 x2 x3 : Value) : Prop := b < W.heap.size ∧
 (W.cell? ⟨b, 0, none⟩ = some x0 ∧ W.cell? ⟨b, 1, none⟩ = some x1 ∧ W.cell? ⟨b, 2, none⟩ = some x2 ∧ W.cell? ⟨b, 3, none⟩ = some x3) ∧
 (W.frozen? ⟨b, 0, none⟩ = false ∧ W.frozen? ⟨b, 1, none⟩ = false ∧ W.frozen? ⟨b, 2, none⟩ = false ∧ W.frozen? ⟨b, 3, none⟩ = false)
theorem blk_top {w w1 : World} {x0 x1 x2 x3 : Value} {T : TypeId} {b : Nat} (hb : b = w.heap.size) (E : Ext (w.alloc (.cells #[x0, x1, x2, x3] T)) w1) : Blk w1 b x0 x1 x2 x3 := by subst hb; exact keep4 E
theorem Blk.ext {w w' : World} {b : Nat} {x0 x1 x2 x3 : Value} (h : Blk w b x0 x1 x2 x3) (e : Ext w w') : Blk w' b x0 x1 x2 x3 := by
 obtain ⟨z, ⟨k0, k1, k2, k3⟩, f0, f1, f2, f3⟩ := h
 have k := fun o => e.cell.1 b o z
 have f := fun o => e.cell.2 b o z
 exact ⟨Nat.lt_of_lt_of_le z e.sz, ⟨(k 0).trans k0, (k 1).trans k1, (k 2).trans k2, (k 3).trans k3⟩, (f 0).trans f0, (f 1).trans f1, (f 2).trans f2, (f 3).trans f3⟩
theorem Blk.far1 {w : World} {b c : Nat} {x0 x1 x2 x3 : Value} (h : Blk w b x0 x1 x2 x3) (hc : c ≠ b) (o : Nat) (v : Value) : Blk (w.setCell ⟨c, o, none⟩ v) b x0 x1 x2 x3 := by
 obtain ⟨z, ⟨k0, k1, k2, k3⟩, f0, f1, f2, f3⟩ := h
 refine ⟨by simpa [World.setCell] using z, ⟨?_, ?_, ?_, ?_⟩, ?_, ?_, ?_, ?_⟩
 · rw [World.cell?_setCell_far _ _ _ _ hc]; exact k0
 · rw [World.cell?_setCell_far _ _ _ _ hc]; exact k1
 · rw [World.cell?_setCell_far _ _ _ _ hc]; exact k2
 · rw [World.cell?_setCell_far _ _ _ _ hc]; exact k3
 · rw [World.frozen?_setCell]; exact f0
 · rw [World.frozen?_setCell]; exact f1
 · rw [World.frozen?_setCell]; exact f2
 · rw [World.frozen?_setCell]; exact f3
theorem Blk.far {w : World} {b c : Nat} {x0 x1 x2 x3 : Value} (h : Blk w b x0 x1 x2 x3) (hc : c ≠ b) (y0 y1 y2 y3 : Value) :
   Blk ((((w.setCell ⟨c, 0, none⟩ y0).setCell ⟨c, 1, none⟩ y1).setCell ⟨c, 2, none⟩ y2).setCell ⟨c, 3, none⟩ y3) b x0 x1 x2 x3 := (((h.far1 hc _ _).far1 hc _ _).far1 hc _ _).far1 hc _ _
theorem Blk.set {w1 : World} {b : Nat} {o0 o1 o2 o3 : Value} (h : Blk w1 b o0 o1 o2 o3) (x0 x1 x2 x3 : Value) :
   Blk ((((w1.setCell ⟨b, 0, none⟩ x0).setCell ⟨b, 1, none⟩ x1).setCell ⟨b, 2, none⟩ x2).setCell ⟨b, 3, none⟩ x3) b x0 x1 x2 x3 := by
 obtain ⟨z, ⟨k0, k1, k2, k3⟩, f0, f1, f2, f3⟩ := h
 have e0 := World.cell?_setCell_same w1 ⟨b, 0, none⟩ x0 (by rw [k0])
 have j1 : (w1.setCell ⟨b, 0, none⟩ x0).cell? ⟨b, 1, none⟩ = some o1 := by rw [World.cell?_setCell_other _ _ _ _ (by simp)]; exact k1
 have e1 := World.cell?_setCell_same _ ⟨b, 1, none⟩ x1 (by rw [j1])
 have j2 : ((w1.setCell ⟨b, 0, none⟩ x0).setCell ⟨b, 1, none⟩ x1).cell? ⟨b, 2, none⟩ = some o2 := by rw [World.cell?_setCell_other _ _ _ _ (by simp), World.cell?_setCell_other _ _ _ _ (by simp)]; exact k2
 have e2 := World.cell?_setCell_same _ ⟨b, 2, none⟩ x2 (by rw [j2])
 have j3 : (((w1.setCell ⟨b, 0, none⟩ x0).setCell ⟨b, 1, none⟩ x1).setCell ⟨b, 2, none⟩ x2).cell? ⟨b, 3, none⟩ = some o3 := by
   rw [World.cell?_setCell_other _ _ _ _ (by simp), World.cell?_setCell_other _ _ _ _ (by simp), World.cell?_setCell_other _ _ _ _ (by simp)]; exact k3
 have e3 := World.cell?_setCell_same _ ⟨b, 3, none⟩ x3 (by rw [j3])
 refine ⟨by simpa [World.setCell] using z, ⟨?_, ?_, ?_, e3⟩, ?_, ?_, ?_, ?_⟩
 · rw [World.cell?_setCell_other _ _ _ _ (by simp), World.cell?_setCell_other _ _ _ _ (by simp), World.cell?_setCell_other _ _ _ _ (by simp)]; exact e0
 · rw [World.cell?_setCell_other _ _ _ _ (by simp), World.cell?_setCell_other _ _ _ _ (by simp)]; exact e1
 · rw [World.cell?_setCell_other _ _ _ _ (by simp)]; exact e2
 · simp only [World.frozen?_setCell]; exact f0
 · simp only [World.frozen?_setCell]; exact f1
 · simp only [World.frozen?_setCell]; exact f2
 · simp only [World.frozen?_setCell]; exact f3
theorem Blk.dr {w : World} {b : Nat} {x0 x1 x2 x3 : Value} (h : Blk w b x0 x1 x2 x3) : Blk w.drew b x0 x1 x2 x3 := h.ext (Ext.drew (Ext.refl _))
theorem Blk.al {w : World} {b : Nat} {x0 x1 x2 x3 : Value} (o : Obj) (h : Blk w b x0 x1 x2 x3) : Blk (w.alloc o) b x0 x1 x2 x3 := h.ext (Ext.alloc (Ext.refl _) _)

open Go.RowKit
set_option maxHeartbeats 1000000

/-- A $ ahead; what stands behind it. -/
def dlB (l : List UInt8) : Bool := l.head? == some 36
def undl (l : List UInt8) : List UInt8 := if dlB l then l.tail else l
/-- A name, up to the first $ or digit; what follows. -/
def nmL (l : List UInt8) : List UInt8 := (undl l).takeWhile (fun c => !sgns.contains c)
def rsL (l : List UInt8) : List UInt8 := (undl l).dropWhile (fun c => !sgns.contains c)
/-- The place that a text names, as the code reads it. -/
def rowP (l : List UInt8) : Int := rowC (undl (rsL l))
def colP (l : List UInt8) : Int := colN (nmL l)
def okP (l : List UInt8) : Bool := inB (rowP l) (colP l)
/-- A reference as a struct. -/
def refD (r c : Int) (ar ac : Bool) : Value := .agg #[.int .i64 r, .int .i64 c, .bool ar, .bool ac]
def prV (l : List UInt8) : Value := if okP l then refD (rowP l) (colP l) (dlB (rsL l)) (dlB l) else refD 0 0 false false

def signL (b : Bool) : List UInt8 := if b then [36] else []
end Go.Proofs.Ytcggiljlilbdfaa
