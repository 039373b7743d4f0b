/-
  The numbers outside a list, and those of the first list alone (package span's outside and Minus).
-/
import Derived.Test.YtgphjbkadjagpaaSpH
namespace Go.Proofs.Ytgphjbkadjagpaa
open Go.RowKit
set_option maxHeartbeats 2000000

/-- The gaps ahead of fr, k spans having been read. -/
def OutP (r gl : List Sp) (fr : Int) (k : Nat) : Prop :=
  Plain gl ∧ AllI gl ∧ gl.length ≤ k ∧ I64 fr ∧ (∀ n, hasB gl n = (decide (-9223372036854775808 ≤ n) && decide (n < fr) && !hasB (r.take k) n)) ∧ (∀ t ∈ gl, t.1 ≤ fr) ∧ (∀ s ∈ r.take k, s.2 ≤ fr) ∧ (∀ s ∈ r.drop k, fr ≤ s.1)
theorem has_past {l : List Sp} {fr n : Int} (h : ∀ s ∈ l, s.2 ≤ fr) (hn : fr ≤ n) : hasB l n = false := by
  cases hh : hasB l n
  · rfl
  · obtain ⟨s, hs, _, h2⟩ := hasB_iff.mp hh
    have := h s hs; omega
theorem OutP.step {r gl : List Sp} {fr : Int} {k : Nat} {s : Sp} (h : OutP r gl fr k) (hp : Plain r) (hA : AllI r) (hs : r[k]? = some s) : OutP r (lay gl (fr, s.1)) s.2 (k + 1) := by
  obtain ⟨h1, h2, h3, h4, h5, h6, h7, h8⟩ := h
  have hc := drop_cons hs
  have hf := h8 s (by rw [hc]; simp)
  obtain ⟨l1, l2, l3⟩ := lay_plain (s := (fr, s.1)) h1 h6
  have hm : s ∈ r := List.mem_of_getElem? hs
  have hse := hp.2 s hm
  have hd : Plain (s :: r.drop (k + 1)) := by
    rw [← hc]; exact ⟨hp.1.sublist (List.drop_sublist _ _), fun t ht => hp.2 t (List.mem_of_mem_drop ht)⟩
  refine ⟨l1, lay_all h2 h4 (hA s hm).1, by have := (lay_len gl (fr, s.1)).2; omega, (hA s hm).2, fun n => ?_, fun t ht => ?_, fun u hu => ?_, fun u hu => ?_⟩
  · rw [l2, h5, take_snoc hs, hasB_append, hasB_one]
    obtain ⟨g1, g2⟩ := h4
    rcases Int.lt_or_le n fr with hn | hn
    · have e1 : inB (fr, s.1) n = false := by
        cases hh : inB (fr, s.1) n
        · rfl
        · have := inB_iff.mp hh; simp at this; omega
      have e2 : inB s n = false := by
        cases hh : inB s n
        · rfl
        · have := inB_iff.mp hh; omega
      have e3 : decide (n < fr) = true := by simp [hn]
      have e4 : decide (n < s.2) = true := by simp; omega
      rw [e1, e2, e3, e4, Bool.or_false, Bool.or_false]
    · rw [has_past h7 hn]
      apply bool_ext
      simp [inB]
      omega
  · have := l3 t ht
    simp at this
    omega
  · rw [take_snoc hs] at hu
    rcases List.mem_append.mp hu with hu | hu
    · have := h7 u hu; omega
    · simp at hu; subst hu; exact Int.le_refl _
  · have := (plain_cons.mp hd).1 u hu; omega
theorem OutP.last {r gl : List Sp} {fr : Int} {k : Nat} (h : OutP r gl fr k) (hk : r.length ≤ k) :
    Plain (lay gl (fr, 9223372036854775807)) ∧ AllI (lay gl (fr, 9223372036854775807)) ∧ (lay gl (fr, 9223372036854775807)).length ≤ k + 1 ∧ ∀ n, hasB (lay gl (fr, 9223372036854775807)) n = (decide (-9223372036854775808 ≤ n) && decide (n < 9223372036854775807) && !hasB r n) := by
  obtain ⟨h1, h2, h3, h4, h5, h6, h7, h8⟩ := h
  rw [List.take_of_length_le hk] at h5 h7
  obtain ⟨l1, l2, l3⟩ := lay_plain (s := (fr, 9223372036854775807)) h1 h6
  refine ⟨l1, lay_all h2 h4 ⟨by simp, by simp⟩, by have := (lay_len gl (fr, 9223372036854775807)).2; omega, fun n => ?_⟩
  obtain ⟨g1, g2⟩ := h4
  rw [l2, h5]
  rcases Int.lt_or_le n fr with hn | hn
  · have e1 : inB (fr, 9223372036854775807) n = false := by
      cases hh : inB (fr, 9223372036854775807) n
      · rfl
      · have := inB_iff.mp hh; simp at this; omega
    have e3 : decide (n < fr) = true := by simp [hn]
    have e4 : decide (n < 9223372036854775807) = true := by simp; omega
    rw [e1, e3, e4, Bool.or_false]
  · rw [has_past h7 hn]
    apply bool_ext
    simp [inB]
    omega

theorem Bk.new {w : World} {base n : Nat} {v : Value} {l : List Sp} {rst : List Value} (h : Bk w base v l rst) (hn : w.heap.size ≤ n) : v.ownBlock ≠ some n := by
  rcases h with ⟨rfl, _⟩ | ⟨g, cap, cur, rfl, _, hg, _⟩
  · intro e; cases e
  · intro e
    simp [Value.ownBlock] at e
    have := blk_lt hg
    omega
def outB (l : List Sp) (n : Int) : Bool := decide (-9223372036854775808 ≤ n) && decide (n < 9223372036854775807) && !hasB l n
end Go.Proofs.Ytgphjbkadjagpaa
