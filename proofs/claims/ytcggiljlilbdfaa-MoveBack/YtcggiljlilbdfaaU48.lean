/-
 What the laws of layer 10 ask of formulas that are filled: plain mathematics, no program in sight.
-/
import Derived.Test.YtcggiljlilbdfaaU22
import Derived.Test.YtcggiljlilbdfaaU47
namespace Go.Proofs.Ytcggiljlilbdfaa
open Go.RowKit
set_option maxHeartbeats 2000000

theorem hr_mpg (n : Nat) : ∀ t : T, Hr n t → ∀ g : T → T, (∀ t, (g t).l = t.l ∨ (g t).l = []) → Hr n (mpT g n t) := by
 induction n with
 | zero => intro t h; cases h
 | succ n ih =>
   intro t h g hg
   rw [mpT]
   rcases hg (t.wL (t.l.map (if prB t.k then mpT g n else id))) with h1 | h1
   · refine ⟨?_, ?_⟩
     · rw [h1]; show (t.l.map _).length ≤ _; rw [List.length_map]; exact h.1
     · intro x hx
       rw [h1] at hx
       have hx2 : x ∈ t.l.map (if prB t.k then mpT g n else id) := hx
       obtain ⟨y, hy, rfl⟩ := List.mem_map.1 hx2
       cases prB t.k with
       | true => exact ih y (h.2 y hy) g hg
       | false => exact h.2 y hy
   · exact ⟨by rw [h1]; exact Nat.zero_le _, by rw [h1]; intro x hx; cases hx⟩
end Go.Proofs.Ytcggiljlilbdfaa
