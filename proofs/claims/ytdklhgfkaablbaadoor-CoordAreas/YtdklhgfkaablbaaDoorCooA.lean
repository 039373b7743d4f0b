/-
  The contracts of package coord's and the document's In, ColName and ColNumber.
-/
import Derived.Test.YtdklhgfkaablbaaDoorCooN
import Derived.Laws.BytesArg
namespace Go.Proofs.YtdklhgfkaablbaaDoor
open Go.RowKit
set_option maxHeartbeats 1000000

theorem iscol_any (c : Int) (w : World) : Calls Tryd.prog 34 #[.int .i64 c] w fun e w' => e = .returned (.bool (colB c)) ∧ w' = w := by
  cases h1 : decide (1 ≤ c) <;> cases h2 : decide (c ≤ 52) <;>
  · have HR : Hid (colB c = (decide (1 ≤ c) && decide (c ≤ 52))) := rfl
    rw [h1, h2] at HR
    have h3 := h1
    have h4 := h2
    simp only [decide_eq_true_eq, decide_eq_false_iff_not] at h3 h4
    go_enter Tryd.func34, Tryd.ntmps34
    go_wp2_with fail
    go_ret
    exact ⟨ret_bool HR.out.symm, rfl⟩

theorem in_eq (r c : Int) : inB r c = (decide (1 ≤ r) && decide (r ≤ 1000) && colB c) := by unfold inB colB; simp [Bool.and_assoc]
theorem in_any (r c : Int) (w : World) : Calls Tryd.prog 15 #[.int .i64 r, .int .i64 c] w fun e w' => e = .returned (.bool (inB r c)) ∧ w' = w := by
  have k := fun W => iscol_any c W
  cases h1 : decide (1 ≤ r) <;> cases h2 : decide (r ≤ 1000) <;>
  · have HR : Hid (inB r c = (decide (1 ≤ r) && decide (r ≤ 1000) && colB c)) := in_eq r c
    rw [h1, h2] at HR
    have h3 := h1
    have h4 := h2
    simp only [decide_eq_true_eq, decide_eq_false_iff_not] at h3 h4
    go_enter Tryd.func15, Tryd.ntmps15
    first
      | (go_wp2_with fail
         refine (k _).mono ?_
         rintro e w' ⟨rfl, rfl⟩
         go_wp2_with fail
         go_ret
         exact ⟨ret_bool HR.out.symm, rfl⟩)
      | (go_wp2_with fail
         go_ret
         exact ⟨ret_bool HR.out.symm, rfl⟩)
theorem rin_any (r c : Int) (w : World) : Calls Tryd.prog 13 #[.int .i64 r, .int .i64 c] w fun e w' => e = .returned (.bool (inB r c)) ∧ w' = w := by
  cases h1 : decide (1 ≤ r) <;> cases h2 : decide (r ≤ 1000) <;> cases h5 : decide (1 ≤ c) <;> cases h6 : decide (c ≤ 52) <;>
  · have HR : Hid (inB r c = (decide (1 ≤ r) && decide (r ≤ 1000) && decide (1 ≤ c) && decide (c ≤ 52))) := rfl
    rw [h1, h2, h5, h6] at HR
    have h3 := h1
    have h4 := h2
    have h7 := h5
    have h8 := h6
    simp only [decide_eq_true_eq, decide_eq_false_iff_not] at h3 h4 h7 h8
    go_enter Tryd.func13, Tryd.ntmps13
    go_wp2_with fail
    go_ret
    exact ⟨ret_bool HR.out.symm, rfl⟩
end Go.Proofs.YtdklhgfkaablbaaDoor
