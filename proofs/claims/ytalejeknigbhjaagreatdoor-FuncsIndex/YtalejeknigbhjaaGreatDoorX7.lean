/-
 The contracts of the document's end and times.
 A numeral read from place to place says what its two parts say. Plain mathematics.
 The contract of the document's Parse.
 What is written is read as it was, with noughts ahead and behind too. Plain mathematics.
-/
import Derived.Test.YtalejeknigbhjaaGreatDoorX5
import Derived.Test.YtalejeknigbhjaaGreatDoorX6
import Derived.Deep.DeepCutAuto
import Derived.Deep.Light
namespace Go.Proofs.YtalejeknigbhjaaGreatDoor
open Go.RowKit
set_option maxHeartbeats 1000000

open Go.RowKit

open Go.RowKit
set_option maxHeartbeats 2000000

open Go.RowKit

def sgnL (neg : Bool) (x : List UInt8) : List UInt8 := if neg then 45 :: x else x
theorem print_sgn (a : Int) (h : canB a = true) : printL a = sgnL (decide (a < 0)) (bodyL a.natAbs) := by
 unfold printL sgnL
 rw [h, if_pos rfl]
 by_cases hn : a < 0
 · simp [hn]
 · simp [hn]
end Go.Proofs.YtalejeknigbhjaaGreatDoor
