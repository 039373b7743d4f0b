/-
  That floats become numbers, by two calls: lives.
-/
import Derived.Test.YtbonaldlljdaoaaRealB
namespace Go.Proofs.Ytbonaldlljdaoaa
open Go.RowKit
set_option maxHeartbeats 1000000

theorem lives_any (w : World) : Calls Try.prog 11 #[] w fun e w' => e = .returned (.bool true) ∧ Ext w w' := by
  have c1 := fun W => from_any 4591870180066957722 (by omega) W
  have e1 : fromV 4591870180066957722 = 1000 := by decide +kernel
  have e2 : fromB 4591870180066957722 = true := by decide +kernel
  rw [e1, e2] at c1
  have c2 := fun W => root_any 20000 (by omega) W
  have e3 : IsRoot (20000 * 10000) 14142 := ⟨by decide, by decide⟩
  go_enter Try.func11, Try.ntmps11
  go_wp2_with fail
  refine (c1 _).mono ?_
  rintro e w1 ⟨rfl, E1⟩
  go_wp2_with fail
  refine (c2 _).mono ?_
  rintro e w2 ⟨⟨r, rfl, hr, _⟩, E2⟩
  obtain rfl : r = 14142 := hr.one e3
  go_wp2
  go_ret
  exact ⟨rfl, E1.trans E2⟩
end Go.Proofs.Ytbonaldlljdaoaa
