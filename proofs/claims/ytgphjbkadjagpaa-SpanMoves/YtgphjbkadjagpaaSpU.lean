/-
  A place that comes and goes: plain forms exist, and what Closed makes of what Opened made. Plain mathematics.
-/
import Derived.Test.YtgphjbkadjagpaaSpT
import Derived.Test.YtgphjbkadjagpaaSpR
namespace Go.Proofs.Ytgphjbkadjagpaa
open Go.RowKit

theorem lay_from : ∀ (m o : List Sp), m.Pairwise (fun s t => s.1 ≤ t.1) → Plain o → (∀ t ∈ o, ∀ s ∈ m, t.1 ≤ s.1) → ∃ p, Plain p ∧ ∀ n, hasB p n = (hasB o n || hasB m n)
  | [], o, _, hp, _ => ⟨o, hp, fun n => by rw [hasB_nil, Bool.or_false]⟩
  | s :: m, o, hs, hp, ho => by
    rw [List.pairwise_cons] at hs
    obtain ⟨l1, l2, l3⟩ := lay_plain hp (s := s) (fun t ht => ho t ht s (by simp))
    obtain ⟨p, p1, p2⟩ := lay_from m (lay o s) hs.2 l1 (fun t ht u hu => Int.le_trans (l3 t ht) (hs.1 u hu))
    exact ⟨p, p1, fun n => by rw [p2, l2, hasB_cons, Bool.or_assoc]⟩
theorem plain_ex (l : List Sp) : ∃ p, Plain p ∧ ∀ n, hasB p n = hasB l n := by
  have hs : (l.mergeSort (fun s t => decide (s.1 ≤ t.1))).Pairwise (fun s t => s.1 ≤ t.1) := by
    have := List.pairwise_mergeSort (le := fun s t : Sp => decide (s.1 ≤ t.1)) (by intro a b c h1 h2; simp at *; omega) (by intro a b; simp; omega) l
    exact this.imp (fun h => by simpa using h)
  obtain ⟨p, p1, p2⟩ := lay_from _ [] hs plain_nil (by simp)
  exact ⟨p, p1, fun n => by rw [p2, hasB_nil, Bool.false_or]; exact hasB_perm (List.mergeSort_perm l _) n⟩
theorem cls_has (a : Int) (q : List Sp) (n : Int) : hasB (q.map (cls a)) n = if n < a then hasB q n else hasB q (n + 1) := by
  have one : ∀ s : Sp, inB (cls a s) n = if n < a then inB s n else inB s (n + 1) := by
    intro ⟨x, y⟩
    by_cases h : n < a
    · rw [if_pos h]; apply bool_ext; rw [inB_iff, inB_iff]; unfold cls; simp only
      split <;> split <;> omega
    · rw [if_neg h]; apply bool_ext; rw [inB_iff, inB_iff]; unfold cls; simp only
      split <;> split <;> omega
  induction q with
  | nil => simp [hasB]
  | cons s q ih =>
    rw [List.map_cons, hasB_cons, ih, one s]
    by_cases h : n < a
    · rw [if_pos h, if_pos h, if_pos h, hasB_cons]
    · rw [if_neg h, if_neg h, if_neg h, hasB_cons]
theorem opn_has (a : Int) (q : List Sp) (hq : ∀ s ∈ q, s.1 < s.2 ∧ s.2 < 9223372036854775807) (n : Int) : (if n < a then hasB (q.map (opn a)) n else hasB (q.map (opn a)) (n + 1)) = hasB q n := by
  have one : ∀ s : Sp, s.1 < s.2 ∧ s.2 < 9223372036854775807 → (if n < a then inB (opn a s) n else inB (opn a s) (n + 1)) = inB s n := by
    intro ⟨x, y⟩ ⟨h1, h2⟩
    simp only at h1 h2
    have m1 : mor x = x + 1 := by unfold mor; rw [if_neg (by omega)]
    have m2 : mor y = y + 1 := by unfold mor; rw [if_neg (by omega)]
    by_cases h : n < a
    · rw [if_pos h]; apply bool_ext; rw [inB_iff, inB_iff]; unfold opn; simp only [m1, m2]
      split <;> split <;> omega
    · rw [if_neg h]; apply bool_ext; rw [inB_iff, inB_iff]; unfold opn; simp only [m1, m2]
      split <;> split <;> omega
  induction q with
  | nil => simp [hasB]
  | cons s q ih =>
    have i := ih (fun t ht => hq t (by simp [ht]))
    have o := one s (hq s (by simp))
    rw [List.map_cons]
    by_cases h : n < a
    · rw [if_pos h] at i o ⊢; rw [hasB_cons, hasB_cons, i, o]
    · rw [if_neg h] at i o ⊢; rw [hasB_cons, hasB_cons, i, o]
theorem plain_below {p : List Sp} (hp : Plain p) (hA : AllI p) (h : ∀ s, p.getLast? = some s → s.2 ≠ 9223372036854775807) : ∀ s ∈ p, s.1 < s.2 ∧ s.2 < 9223372036854775807 := by
  intro s hs
  refine ⟨hp.2 s hs, ?_⟩
  rcases snoc_cases p with rfl | ⟨q, t, rfl⟩
  · simp at hs
  · have ht := h t (by simp)
    obtain ⟨q1, q2, _⟩ := plain_snoc.1 hp
    have hI := (hA t (by simp)).2.2
    rcases List.mem_append.1 hs with k | k
    · have := q1 s k; omega
    · simp at k; subst k; omega
/-- The way back. -/
theorem way_back {p o c : List Sp} {a : Int} (hp : Plain p) (hb : ∀ s ∈ p, s.1 < s.2 ∧ s.2 < 9223372036854775807) (ho : ∀ n, hasB o n = hasB (p.map (opn a)) n) (hc : Plain c) (hco : ∀ n, hasB c n = hasB (o.map (cls a)) n) : c = p :=
  plain_one hc hp fun n => by
    rw [hco, cls_has, ho, ho]
    exact opn_has a p hb n
end Go.Proofs.Ytgphjbkadjagpaa
