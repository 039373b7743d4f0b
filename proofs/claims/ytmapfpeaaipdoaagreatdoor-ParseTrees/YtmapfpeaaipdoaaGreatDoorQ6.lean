/-
  The contract of math/bits.Div64, walked over the library's own text: quotient and rest of two words by one.
  Contracts of products and quotients of the program: ratio, Mul, Div; and that the law's own small call lives.
  Contracts of the document's words of 128 bits: twice, which is greater, products bit by bit.
  The contract of the document's Signed.
-/
import Derived.Test.YtmapfpeaaipdoaaGreatDoorQ5
import Derived.Deep.CutBlock
import Derived.Deep.DeepCutAuto
import Derived.Test.YtmapfpeaaipdoaaGreatDoorQ1
namespace Go.Proofs.YtmapfpeaaipdoaaGreatDoor
open Go.RowKit
set_option maxHeartbeats 1000000

theorem rest_lt (U Y : Nat) (h : 0 < Y) : U - U / Y * Y < Y := by
  have h1 := Nat.div_add_mod U Y
  have h2 := Nat.mod_lt U h
  rw [Nat.mul_comm Y (U / Y)] at h1
  omega
end Go.Proofs.YtmapfpeaaipdoaaGreatDoor

namespace Go.Proofs.YtmapfpeaaipdoaaGreatDoor
open Go.RowKit
set_option maxHeartbeats 1000000

/-- The nearest whole number to P by d, of two the greater one. -/
def nearQ (P d : Nat) : Nat := P / d + (if d ≤ 2 * (P % d) then 1 else 0)
/-- A size with a sign, if that is a number. -/
def sgnB (n : Nat) : Bool := decide (n ≤ 9223372036854775807)
def sgnV (neg : Bool) (n : Nat) : Int := if sgnB n then (if neg then -(n : Int) else n) else 0
theorem sgnB_no {n : Nat} (h : 9223372036854775807 < n) : sgnB n = false := by unfold sgnB; simp; omega
theorem sgnB_yes {n : Nat} (h : n ≤ 9223372036854775807) : sgnB n = true := by unfold sgnB; simp; omega
theorem sgnV_no {n : Nat} (neg : Bool) (h : 9223372036854775807 < n) : sgnV neg n = 0 := by unfold sgnV; rw [sgnB_no h]; rfl
theorem sgnV_yes {n : Nat} (neg : Bool) (h : n ≤ 9223372036854775807) : sgnV neg n = if neg then -(n : Int) else n := by unfold sgnV; rw [sgnB_yes h]; rfl

/-- a times b by c. -/
def ratN (a b c : Int) : Nat := nearQ (a.natAbs * b.natAbs) c.natAbs
def ratS (a b c : Int) : Bool := !((!(decide (a < 0) == decide (b < 0))) == decide (c < 0))
end Go.Proofs.YtmapfpeaaipdoaaGreatDoor

namespace Go.Proofs.YtmapfpeaaipdoaaGreatDoor
open Go.RowKit
set_option maxHeartbeats 1000000

/-- Block b holds the word x. -/
def Pair (wr : World) (b : Nat) (x : Int) : Prop :=
  b < wr.heap.size ∧ wr.cell? ⟨b, 0, none⟩ = some (.int .u64 (uhi x)) ∧ wr.cell? ⟨b, 1, none⟩ = some (.int .u64 (loOf x)) ∧ wr.frozen? ⟨b, 0, none⟩ = false ∧ wr.frozen? ⟨b, 1, none⟩ = false
theorem Pair.ext {w w' : World} {b : Nat} {x : Int} (h : Pair w b x) (e : Ext w w') : Pair w' b x := by
  obtain ⟨z, c0, c1, f0, f1⟩ := h
  exact ⟨Nat.lt_of_lt_of_le z e.size, (e.cell.1 b 0 z).trans c0, (e.cell.1 b 1 z).trans c1, (e.cell.2 b 0 z).trans f0, (e.cell.2 b 1 z).trans f1⟩
theorem Pair.set {w : World} {b : Nat} {x : Int} (h : Pair w b x) (y : Int) : Pair ((w.setCell ⟨b, 0, none⟩ (.int .u64 (uhi y))).setCell ⟨b, 1, none⟩ (.int .u64 (loOf y))) b y := by
  obtain ⟨z, c0, c1, f0, f1⟩ := h
  have c0' := World.cell?_setCell_same w ⟨b, 0, none⟩ (.int .u64 (uhi y)) (by rw [c0])
  have c1' : (w.setCell ⟨b, 0, none⟩ (.int .u64 (uhi y))).cell? ⟨b, 1, none⟩ = some (.int .u64 (loOf x)) := by
    rw [World.cell?_setCell_other _ _ _ _ (by simp)]; exact c1
  refine ⟨by simpa [World.setCell] using z, ?_, ?_, ?_, ?_⟩
  · rw [World.cell?_setCell_other _ _ _ _ (by simp)]; exact c0'
  · exact World.cell?_setCell_same _ ⟨b, 1, none⟩ _ (by rw [c1'])
  · rw [World.frozen?_setCell, World.frozen?_setCell]; exact f0
  · rw [World.frozen?_setCell, World.frozen?_setCell]; exact f1
theorem Pair.far {w : World} {b c : Nat} {x : Int} (h : Pair w b x) (hc : c ≠ b) (o : Nat) (v : Value) : Pair (w.setCell ⟨c, o, none⟩ v) b x := by
  obtain ⟨z, c0, c1, f0, f1⟩ := h
  refine ⟨by simpa [World.setCell] using z, ?_, ?_, ?_, ?_⟩
  · rw [World.cell?_setCell_far _ _ _ _ hc]; exact c0
  · rw [World.cell?_setCell_far _ _ _ _ hc]; exact c1
  · rw [World.frozen?_setCell]; exact f0
  · rw [World.frozen?_setCell]; exact f1

theorem or_even (t l : Nat) (hl : l < 2) (ht : 2 * t < 18446744073709551616) : bits .or .u64 ((2 * t : Nat) : Int) (l : Int) = ((2 * t + l : Nat) : Int) := by
  rw [bits_or_u64_nat _ _ ht (by omega)]
  have := Nat.two_pow_add_eq_or_of_lt (i := 1) (b := l) (by omega) t
  rw [show (2 : Nat) ^ 1 = 2 from rfl] at this
  rw [← this]
theorem up_hi (x : Int) : bits .or .u64 (IntKind.u64.wrap (uhi x * 2)) (loOf x / 9223372036854775808) = uhi (x * 2) := by
  obtain ⟨h, hh⟩ := Int.eq_ofNat_of_zero_le (uhi_bd x).1
  obtain ⟨l, hl⟩ := Int.eq_ofNat_of_zero_le (lo_bd x).1
  have b1 := (uhi_bd x).2
  have b2 := (lo_bd x).2
  have e1 : IntKind.u64.wrap (uhi x * 2) = ((2 * (h % 9223372036854775808) : Nat) : Int) := by rw [hh, wrapU]; omega
  have e2 : loOf x / 9223372036854775808 = ((l / 9223372036854775808 : Nat) : Int) := by rw [hl]; omega
  rw [e1, e2, or_even _ _ (by omega) (by omega)]
  have e3 : uhi (x * 2) = (uhi x * 2 + loOf x / 9223372036854775808) % 18446744073709551616 := by unfold uhi loOf; omega
  rw [e3, hh, hl]
  omega
theorem up_lo (x : Int) : IntKind.u64.wrap (loOf x * 2) = loOf (x * 2) := by rw [wrapU]; unfold loOf; omega
/-- Which is greater. -/
def cmpI (x y : Int) : Int := if x < y then -1 else if y < x then 1 else 0
theorem and_one (m : Nat) (h : m < 18446744073709551616) : bits .and .u64 (m : Int) 1 = ((m % 2 : Nat) : Int) := by
  have := bits_and_u64_nat m 1 h (by omega)
  rw [Nat.and_one_is_mod] at this
  exact this
theorem half_step (b j : Nat) : b / 2 ^ j = 2 * (b / 2 ^ (j + 1)) + b / 2 ^ j % 2 := by
  rw [Nat.pow_succ, ← Nat.div_div_eq_div_mul]
  omega
theorem prod_no (a b j : Nat) (h : b / 2 ^ j % 2 = 0) : a * (b / 2 ^ j) = a * (b / 2 ^ (j + 1)) * 2 := by
  have e := half_step b j
  rw [h] at e
  rw [e, Nat.add_zero, Nat.mul_comm 2, Nat.mul_assoc]
theorem prod_yes (a b j : Nat) (h : b / 2 ^ j % 2 = 1) : a * (b / 2 ^ j) = a * (b / 2 ^ (j + 1)) * 2 + a := by
  have e := half_step b j
  rw [h] at e
  rw [e, Nat.mul_add, Nat.mul_one, Nat.mul_comm 2, Nat.mul_assoc]
end Go.Proofs.YtmapfpeaaipdoaaGreatDoor

namespace Go.Proofs.YtmapfpeaaipdoaaGreatDoor
open Go.RowKit
set_option maxHeartbeats 1000000

end Go.Proofs.YtmapfpeaaipdoaaGreatDoor
