/-
  The contract of package value's Literal.
-/
import Derived.Test.YtdmiddpfgmbbhaaGreatDoorValH
namespace Go.Proofs.YtdmiddpfgmbbhaaGreatDoor
open Go.RowKit
set_option maxHeartbeats 1000000

theorem quo_pre (l : List UInt8) : Lib.hasPrefix l [39] = decide (l.head? = some 39) := by
  cases l with
  | nil => rfl
  | cons c l =>
    simp [Lib.hasPrefix, List.isPrefixOf]
    by_cases h : c = 39
    · subst h; rfl
    · have h1 : (39 == c) = false := by simpa using fun e => h e.symm
      simp [h, h1]
theorem quo_cut (l : List UInt8) (h : l.head? = some 39) : Lib.trimPrefix l [39] = l.drop 1 := by
  unfold Lib.trimPrefix; rw [quo_pre, decide_eq_true h]; rfl
theorem numK_k (s : ByteArray) : numK s = true ↔ rdK s.data.toList = 1 ∨ rdK s.data.toList = 2 := by unfold numK; simp
theorem lit_e {s : ByteArray} (h : s.data.toList = []) : lit s = .blank := by unfold lit; rw [if_pos h]
theorem lit_q {s : ByteArray} (h : s.data.toList ≠ []) (g : s.data.toList.head? = some 39) : lit s = mkText (bs (s.data.toList.drop 1)) := by unfold lit; rw [if_neg h, if_pos g]
theorem lit_n {s : ByteArray} (h : s.data.toList ≠ []) (g : ¬ s.data.toList.head? = some 39) (k : numK s = true) : lit s = numR s := by
  unfold lit numR; rw [if_neg h, if_neg g]
  rcases (numK_k s).1 k with k | k
  · rw [if_pos k, if_pos k]
  · rw [k]; rfl
theorem not_num {s : ByteArray} (k : numK s = false) : rdK s.data.toList ≠ 1 ∧ rdK s.data.toList ≠ 2 := by
  constructor <;> (intro h; have := (numK_k s).2 (by simp [h]); rw [k] at this; cases this)
theorem lit_t {s : ByteArray} (h : s.data.toList ≠ []) (g : ¬ s.data.toList.head? = some 39) (k : numK s = false) (t : truK s = true) : lit s = truR s := by
  unfold lit truR; rw [if_neg h, if_neg g, if_neg (not_num k).1, if_neg (not_num k).2]
  unfold truK at t; simp at t
  rcases t with t | t
  · rw [if_pos t, if_pos t]
  · rw [if_pos t, if_pos t]
theorem not_tru {s : ByteArray} (t : truK s = false) : s.data.toList ≠ trueL ∧ s.data.toList ≠ falseL := by unfold truK at t; simpa using t
theorem lit_m {s : ByteArray} (h : s.data.toList ≠ []) (g : ¬ s.data.toList.head? = some 39) (k : numK s = false) (t : truK s = false) (m : nmdK s = true) : lit s = nmdR s := by
  unfold lit nmdR; rw [if_neg h, if_neg g, if_neg (not_num k).1, if_neg (not_num k).2, if_neg (not_tru t).1, if_neg (not_tru t).2]
  have : nameE s.data.toList ≠ 0 := by unfold nmdK at m; simpa using m
  rw [if_pos this, if_pos this]
theorem lit_x {s : ByteArray} (h : s.data.toList ≠ []) (g : ¬ s.data.toList.head? = some 39) (k : numK s = false) (t : truK s = false) (m : nmdK s = false) : lit s = mkText s := by
  unfold lit; rw [if_neg h, if_neg g, if_neg (not_num k).1, if_neg (not_num k).2, if_neg (not_tru t).1, if_neg (not_tru t).2]
  have : ¬ nameE s.data.toList ≠ 0 := by unfold nmdK at m; simpa using m
  rw [if_neg this]
end Go.Proofs.YtdmiddpfgmbbhaaGreatDoor
