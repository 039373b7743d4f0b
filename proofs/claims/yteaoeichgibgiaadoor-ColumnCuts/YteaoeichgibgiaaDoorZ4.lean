/-
 Contracts of math/bits: Mul64, Len64, LeadingZeros64, walked over the library's own text.
 The contract of math/bits.Div64, walked over the library's own text: quotient and rest of two words by one.
 Contracts of products and quotients of the program: ratio, Mul, Div; and that the law's own small call lives.
 Contracts of the document's words of 128 bits: twice, which is greater, products bit by bit.
 The contract of the document's Signed.
 The contracts of the document's end and times.
 A numeral read from place to place says what its two parts say. Plain mathematics.
 The contract of the document's Parse.
-/
import Derived.Test.YteaoeichgibgiaaDoorRows
import Derived.Test.YteaoeichgibgiaaDoorZ3
import Derived.Lib.Mul64
import Derived.Laws.Bits64b
import Derived.Lib.BitFns
import Derived.Deep.Light
import Derived.Deep.CutBlock
import Derived.Deep.DeepCutAuto
import Derived.Test.YteaoeichgibgiaaDoorZ1
namespace Go.Proofs.YteaoeichgibgiaaDoor
open Go.RowKit
set_option maxHeartbeats 1000000

theorem p8 (x : Int) (h : 0 ≤ x) : (x / 256).toNat = x.toNat / 2 ^ 8 := by show _ = x.toNat / 256; omega

open Go.RowKit
set_option maxHeartbeats 1000000

open Go.RowKit
set_option maxHeartbeats 1000000

/-- The nearest whole number to P by d, of two the greater one. -/
def nearQ (P d : Nat) : Nat := P / d + (if d ≤ 2 * (P % d) then 1 else 0)
/-- A size with a sign, if that is a number. -/
def sgnB (n : Nat) : Bool := decide (n ≤ 9223372036854775807)
def sgnV (neg : Bool) (n : Nat) : Int := if sgnB n then (if neg then -(n : Int) else n) else 0
/-- a times b by c. -/
def ratN (a b c : Int) : Nat := nearQ (a.natAbs * b.natAbs) c.natAbs
def ratS (a b c : Int) : Bool := !((!(decide (a < 0) == decide (b < 0))) == decide (c < 0))

open Go.RowKit
set_option maxHeartbeats 1000000

/-- Block b holds the word x. -/
def Pair (wr : World) (b : Nat) (x : Int) : Prop :=
 b < wr.heap.size ∧ wr.cell? ⟨b, 0, none⟩ = some (.int .u64 (uhi x)) ∧ wr.cell? ⟨b, 1, none⟩ = some (.int .u64 (loOf x)) ∧ wr.frozen? ⟨b, 0, none⟩ = false ∧ wr.frozen? ⟨b, 1, none⟩ = false
theorem Pair.ext {w w' : World} {b : Nat} {x : Int} (h : Pair w b x) (e : Ext w w') : Pair w' b x := by
 obtain ⟨z, c0, c1, f0, f1⟩ := h
 exact ⟨Nat.lt_of_lt_of_le z e.size, (e.cell.1 b 0 z).trans c0, (e.cell.1 b 1 z).trans c1, (e.cell.2 b 0 z).trans f0, (e.cell.2 b 1 z).trans f1⟩
theorem Pair.set {w : World} {b : Nat} {x : Int} (h : Pair w b x) (y : Int) : Pair ((w.setCell ⟨b, 0, none⟩ (.int .u64 (uhi y))).setCell ⟨b, 1, none⟩ (.int .u64 (loOf y))) b y := by
 obtain ⟨z, c0, c1, f0, f1⟩ := h
 have c0' := World.cell?_setCell_same w ⟨b, 0, none⟩ (.int .u64 (uhi y)) (by rw [c0])
 have c1' : (w.setCell ⟨b, 0, none⟩ (.int .u64 (uhi y))).cell? ⟨b, 1, none⟩ = some (.int .u64 (loOf x)) := by
   rw [World.cell?_setCell_other _ _ _ _ (by simp)]; exact c1
 refine ⟨by simpa [World.setCell] using z, ?_, ?_, ?_, ?_⟩
 · rw [World.cell?_setCell_other _ _ _ _ (by simp)]; exact c0'
 · exact World.cell?_setCell_same _ ⟨b, 1, none⟩ _ (by rw [c1'])
 · rw [World.frozen?_setCell, World.frozen?_setCell]; exact f0
 · rw [World.frozen?_setCell, World.frozen?_setCell]; exact f1
theorem Pair.far {w : World} {b c : Nat} {x : Int} (h : Pair w b x) (hc : c ≠ b) (o : Nat) (v : Value) : Pair (w.setCell ⟨c, o, none⟩ v) b x := by
 obtain ⟨z, c0, c1, f0, f1⟩ := h
 refine ⟨by simpa [World.setCell] using z, ?_, ?_, ?_, ?_⟩
 · rw [World.cell?_setCell_far _ _ _ _ hc]; exact c0
 · rw [World.cell?_setCell_far _ _ _ _ hc]; exact c1
 · rw [World.frozen?_setCell]; exact f0
 · rw [World.frozen?_setCell]; exact f1

open Go.RowKit
set_option maxHeartbeats 1000000

open Go.RowKit
set_option maxHeartbeats 1000000

open Go.RowKit

open Go.RowKit
set_option maxHeartbeats 2000000

end Go.Proofs.YteaoeichgibgiaaDoor
