/-
  Contracts of products and quotients of the program: ratio, Mul, Div; and that the law's own small call lives.
-/
import Derived.Test.YtfppjnigbodphaaDoorFixA
import Derived.Test.YtfppjnigbodphaaDoorDiv64
namespace Go.Proofs.YtfppjnigbodphaaDoor
open Go.RowKit
set_option maxHeartbeats 1000000

/-- The nearest whole number to P by d, of two the greater one. -/
def nearQ (P d : Nat) : Nat := P / d + (if d ≤ 2 * (P % d) then 1 else 0)
/-- A size with a sign, if that is a number. -/
def sgnB (n : Nat) : Bool := decide (n ≤ 9223372036854775807)
def sgnV (neg : Bool) (n : Nat) : Int := if sgnB n then (if neg then -(n : Int) else n) else 0
theorem sgnB_no {n : Nat} (h : 9223372036854775807 < n) : sgnB n = false := by unfold sgnB; simp; omega
theorem sgnB_yes {n : Nat} (h : n ≤ 9223372036854775807) : sgnB n = true := by unfold sgnB; simp; omega
theorem sgnV_no {n : Nat} (neg : Bool) (h : 9223372036854775807 < n) : sgnV neg n = 0 := by unfold sgnV; rw [sgnB_no h]; rfl
theorem sgnV_yes {n : Nat} (neg : Bool) (h : n ≤ 9223372036854775807) : sgnV neg n = if neg then -(n : Int) else n := by unfold sgnV; rw [sgnB_yes h]; rfl

/-- a times b by c. -/
def ratN (a b c : Int) : Nat := nearQ (a.natAbs * b.natAbs) c.natAbs
def ratS (a b c : Int) : Bool := !((!(decide (a < 0) == decide (b < 0))) == decide (c < 0))
end Go.Proofs.YtfppjnigbodphaaDoor
