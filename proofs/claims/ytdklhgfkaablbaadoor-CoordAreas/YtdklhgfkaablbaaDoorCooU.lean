/-
  Rectangles: what the laws ask of them. Plain mathematics.
-/
import Derived.Test.YtdklhgfkaablbaaDoorCooT
namespace Go.Proofs.YtdklhgfkaablbaaDoor
open Go.RowKit

theorem mn_comm (a b : Int) : mnI a b = mnI b a := by unfold mnI; split <;> split <;> omega
theorem mx_comm (a b : Int) : mxI a b = mxI b a := by unfold mxI; split <;> split <;> omega
theorem rc_comm (a0 a1 b0 b1 : Int) : rcD a0 a1 b0 b1 = rcD b0 b1 a0 a1 := by
  unfold rcD rcB
  rw [mn_comm a0, mn_comm a1, mx_comm a0, mx_comm a1, Bool.and_comm]
theorem rc_parts (a0 a1 b0 b1 : Int) : ∃ d0 d1 d2 d3, rcD a0 a1 b0 b1 = .agg #[.int .i64 d0, .int .i64 d1, .int .i64 d2, .int .i64 d3] ∧ hasR d0 d1 d2 d3 a0 b1 = (inB a0 a1 && inB b0 b1) := by
  unfold rcD rcB
  cases h : (inB a0 a1 && inB b0 b1)
  · exact ⟨0, 0, 0, 0, rfl, rfl⟩
  · refine ⟨_, _, _, _, rfl, ?_⟩
    rw [Bool.and_eq_true] at h
    obtain ⟨x1, x2, x3, x4⟩ := in_bd h.1
    obtain ⟨y1, y2, y3, y4⟩ := in_bd h.2
    unfold hasR canR inB mnI mxI
    simp only [Bool.and_eq_true, decide_eq_true_eq]
    split <;> split <;> split <;> split <;> omega
theorem mt_parts (p q u v p' q' u' v' : Int) : ∃ d0 d1 d2 d3, mtD p q u v p' q' u' v' = .agg #[.int .i64 d0, .int .i64 d1, .int .i64 d2, .int .i64 d3] ∧
    areaR d0 d1 d2 d3 ≤ areaR p q u v ∧ areaR d0 d1 d2 d3 ≤ areaR p' q' u' v' ∧ (∀ r c, hasR d0 d1 d2 d3 r c = (hasR p q u v r c && hasR p' q' u' v' r c)) ∧ canR d0 d1 d2 d3 = mtB p q u v p' q' u' v' := by
  cases hm : mtB p q u v p' q' u' v'
  · refine ⟨0, 0, 0, 0, mt_no hm, (area_bd _ _ _ _).1, (area_bd _ _ _ _).1, ?_, rfl⟩
    intro r c
    have e0 : hasR 0 0 0 0 r c = false := rfl
    rw [e0]
    cases h1 : hasR p q u v r c
    · rfl
    cases h2 : hasR p' q' u' v' r c
    · rfl
    exfalso
    unfold hasR at h1 h2
    simp only [Bool.and_eq_true, decide_eq_true_eq] at h1 h2
    obtain ⟨⟨⟨⟨g1, a1⟩, a2⟩, a3⟩, a4⟩ := h1
    obtain ⟨⟨⟨⟨g2, b1⟩, b2⟩, b3⟩, b4⟩ := h2
    rw [mt_ref p q u v p' q' u' v' g1 g2] at hm
    have : (decide (p ≤ u') && decide (p' ≤ u) && decide (q ≤ v') && decide (q' ≤ v)) = true := by simp; omega
    rw [this] at hm; cases hm
  · have hm' := hm
    unfold mtB at hm'
    simp only [Bool.and_eq_true] at hm'
    obtain ⟨⟨g1, g2⟩, g3⟩ := hm'
    refine ⟨_, _, _, _, mt_yes hm, ?_, ?_, ?_, g3⟩
    · obtain ⟨a1, a2, a3, a4, a5, a6⟩ := can_bd g1
      obtain ⟨c1, c2, c3, c4, c5, c6⟩ := can_bd g3
      unfold areaR
      rw [g3, g1, if_pos rfl, if_pos rfl]
      refine Int.mul_le_mul ?_ ?_ (by omega) (by omega)
      · unfold mxI mnI; split <;> split <;> omega
      · unfold mxI mnI; split <;> split <;> omega
    · obtain ⟨a1, a2, a3, a4, a5, a6⟩ := can_bd g2
      obtain ⟨c1, c2, c3, c4, c5, c6⟩ := can_bd g3
      unfold areaR
      rw [g3, g2, if_pos rfl, if_pos rfl]
      refine Int.mul_le_mul ?_ ?_ (by omega) (by omega)
      · unfold mxI mnI; split <;> split <;> omega
      · unfold mxI mnI; split <;> split <;> omega
    · intro r c
      unfold hasR
      rw [g1, g2, g3, Bool.eq_iff_iff]
      unfold mxI mnI
      simp only [Bool.true_and, Bool.and_eq_true, decide_eq_true_eq]
      split <;> split <;> split <;> split <;> omega
end Go.Proofs.YtdklhgfkaablbaaDoor
