/-
  How many places two rectangles share, counted row by row. Plain mathematics.
-/
import Derived.Test.YtdklhgfkaablbaaDoorCooU
namespace Go.Proofs.YtdklhgfkaablbaaDoor
open Go.RowKit

/-- How many numbers from a on and below c lie from x to y. -/
def between (a x y c : Int) : Int := if mnI (c - 1) y < mxI a x then 0 else mnI (c - 1) y - mxI a x + 1
theorem bet_zero (a x y : Int) : between a x y a = 0 := by
  unfold between mnI mxI; split <;> (try rfl) <;> (split at * <;> split at * <;> omega)
theorem bet_step (a x y c : Int) (h : a ≤ c) : between a x y (c + 1) = between a x y c + if x ≤ c ∧ c ≤ y then 1 else 0 := by
  unfold between mnI mxI
  rw [show c + 1 - 1 = c from by omega]
  by_cases h1 : x ≤ c ∧ c ≤ y
  · rw [if_pos h1]; repeat' split
    all_goals omega
  · rw [if_neg h1]; repeat' split
    all_goals omega
theorem bet_bd (a x y c : Int) (h : a ≤ c) : 0 ≤ between a x y c ∧ between a x y c ≤ c - a := by
  unfold between mnI mxI; repeat' split
  all_goals omega
theorem meet_area (p q u v p' q' u' v' d0 d1 d2 d3 : Int) (h1 : canR p q u v = true) (h2 : canR p' q' u' v' = true) (hd : mtD p q u v p' q' u' v' = .agg #[.int .i64 d0, .int .i64 d1, .int .i64 d2, .int .i64 d3]) :
    areaR d0 d1 d2 d3 = between p p' u' (u + 1) * between q q' v' (v + 1) := by
  obtain ⟨a1, a2, a3, a4, a5, a6⟩ := can_bd h1
  obtain ⟨b1, b2, b3, b4, b5, b6⟩ := can_bd h2
  cases hm : mtB p q u v p' q' u' v'
  · rw [mt_no hm] at hd
    unfold rectD at hd
    simp only [Value.agg.injEq, Array.mk.injEq, List.cons.injEq, Value.int.injEq, true_and, and_true] at hd
    obtain ⟨rfl, rfl, rfl, rfl⟩ := hd
    have e0 : areaR 0 0 0 0 = 0 := rfl
    rw [e0]
    rw [mt_ref p q u v p' q' u' v' h1 h2] at hm
    have hno : ¬ (p ≤ u' ∧ p' ≤ u ∧ q ≤ v' ∧ q' ≤ v) := by
      intro ⟨g1, g2, g3, g4⟩
      have : (decide (p ≤ u') && decide (p' ≤ u) && decide (q ≤ v') && decide (q' ≤ v)) = true := by simp; omega
      rw [this] at hm; cases hm
    by_cases g : p ≤ u' ∧ p' ≤ u
    · have : between q q' v' (v + 1) = 0 := by
        unfold between
        rw [if_pos]
        unfold mnI mxI; repeat' split
        all_goals omega
      rw [this, Int.mul_zero]
    · have : between p p' u' (u + 1) = 0 := by
        unfold between
        rw [if_pos]
        unfold mnI mxI; repeat' split
        all_goals omega
      rw [this, Int.zero_mul]
  · have hm' := hm
    unfold mtB at hm'
    simp only [Bool.and_eq_true] at hm'
    obtain ⟨_, g3⟩ := hm'
    rw [mt_yes hm] at hd
    unfold rectD at hd
    simp only [Value.agg.injEq, Array.mk.injEq, List.cons.injEq, Value.int.injEq, true_and, and_true] at hd
    obtain ⟨rfl, rfl, rfl, rfl⟩ := hd
    obtain ⟨c1, c2, c3, c4, c5, c6⟩ := can_bd g3
    unfold areaR between
    rw [g3, if_pos rfl, show u + 1 - 1 = u from by omega, show v + 1 - 1 = v from by omega, if_neg (by omega), if_neg (by omega)]
theorem has_of {p q u v : Int} (h : canR p q u v = true) (r c : Int) : hasR p q u v r c = decide ((p ≤ r ∧ r ≤ u) ∧ (q ≤ c ∧ c ≤ v)) := by
  unfold hasR
  rw [h, Bool.eq_iff_iff]
  simp
  omega
end Go.Proofs.YtdklhgfkaablbaaDoor
