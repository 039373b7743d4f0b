/-
  The numbers of both lists (package span's Meet).
-/
import Derived.Test.YtgphjbkadjagpaaSpG
namespace Go.Proofs.Ytgphjbkadjagpaa
open Go.RowKit
set_option maxHeartbeats 2000000

theorem Rd.head {w : World} {v : Value} {s : Sp} {l : List Sp} (h : Rd w v (s :: l)) : ∃ b off c, v = .slice (some ⟨b, off, none⟩) (l.length + 1) (c + 1) ∧ l.length ≤ c ∧ b < w.heap.size ∧
    (∀ W, Ext w W → W.cell? ⟨b, off, none⟩ = some (.int .i64 s.1) ∧ W.cell? ⟨b, off + 1, none⟩ = some (.int .i64 s.2)) ∧ Rd w (.slice (if c = 0 then some ⟨b, off, none⟩ else some ⟨b, off + 2, none⟩) l.length c) l := by
  rcases h with ⟨_, h2⟩ | ⟨b, off, c, rfl, h1, h2, h3⟩
  · cases h2
  · simp at h1
    obtain ⟨c', rfl⟩ : ∃ c', c = c' + 1 := ⟨c - 1, by omega⟩
    refine ⟨b, off, c', rfl, by omega, h2, fun W e => ?_, ?_⟩
    · have := h3 0 s rfl
      simp at this
      exact ⟨(e.cell.1 b _ h2).trans this.1, (e.cell.1 b _ h2).trans this.2⟩
    by_cases hc : c' = 0
    · rw [if_pos hc]
      have hl : l = [] := List.eq_nil_of_length_eq_zero (by omega)
      subst hl
      exact .inr ⟨b, off, c', rfl, by simp, h2, fun i t ht => by simp at ht⟩
    · rw [if_neg hc]
      refine .inr ⟨b, off + 2, c', rfl, by omega, h2, fun i t ht => ?_⟩
      have := h3 (i + 1) t (by simpa using ht)
      have e1 : off + (i + 1) * 2 = off + 2 + i * 2 := by omega
      rw [e1] at this
      exact this

def lenV : Value → Nat
  | .slice _ n _ => n
  | _ => 0
/-- The rounds of Meet. -/
def MeetR (w w2 : World) (N : Nat) (f : Int → Bool) (ua ub ur : Value) (wr : World) : Prop :=
  ∃ a b r, Rd w2 ua a ∧ Rd w2 ub b ∧ Ow wr w2.heap.size ur r ∧ Ext w2 wr ∧ Ext w w2 ∧ Plain a ∧ Plain b ∧ AllI a ∧ AllI b ∧ Plain r ∧ AllI r ∧ (∀ n, (hasB r n || (hasB a n && hasB b n)) = f n) ∧ (∀ t ∈ r, ∀ s ∈ a, ∀ u ∈ b, t.1 ≤ max s.1 u.1) ∧ r.length + a.length + b.length ≤ N

theorem MeetR.drewN {w w2 : World} {N : Nat} {f : Int → Bool} {ua ub ur : Value} {wr : World} (h : MeetR w w2 N f ua ub ur wr) (n : Nat) : MeetR w w2 N f ua ub ur (wr.drewN n) := by
  obtain ⟨a, b, r, h1, h2, h3, h4, h5⟩ := h
  exact ⟨a, b, r, h1, h2, h3.ext ((Ext.refl _).drewN n), h4.drewN n, h5⟩
theorem meet_step {a b r : List Sp} {s u : Sp} (pa : Plain (s :: a)) (pb : Plain (u :: b)) (pr : Plain r) (ho : ∀ t ∈ r, ∀ s' ∈ s :: a, ∀ u' ∈ u :: b, t.1 ≤ max s'.1 u'.1) :
    Plain (lay r (max s.1 u.1, min s.2 u.2)) ∧
    (s.2 < u.2 → (∀ n, (hasB (lay r (max s.1 u.1, min s.2 u.2)) n || (hasB a n && hasB (u :: b) n)) = (hasB r n || (hasB (s :: a) n && hasB (u :: b) n))) ∧ ∀ t ∈ lay r (max s.1 u.1, min s.2 u.2), ∀ s' ∈ a, ∀ u' ∈ u :: b, t.1 ≤ max s'.1 u'.1) ∧
    (¬ s.2 < u.2 → (∀ n, (hasB (lay r (max s.1 u.1, min s.2 u.2)) n || (hasB (s :: a) n && hasB b n)) = (hasB r n || (hasB (s :: a) n && hasB (u :: b) n))) ∧ ∀ t ∈ lay r (max s.1 u.1, min s.2 u.2), ∀ s' ∈ s :: a, ∀ u' ∈ b, t.1 ≤ max s'.1 u'.1) := by
  obtain ⟨l1, l2, l3⟩ := lay_plain (s := (max s.1 u.1, min s.2 u.2)) pr (fun t ht => ho t ht s (by simp) u (by simp))
  obtain ⟨a1, a2, a3⟩ := plain_cons.mp pa
  obtain ⟨b1, b2, b3⟩ := plain_cons.mp pb
  refine ⟨l1, fun hlt => ⟨fun n => ?_, fun t ht s' hs u' hu => ?_⟩, fun hlt => ⟨fun n => ?_, fun t ht s' hs u' hu => ?_⟩⟩
  · rw [l2, Bool.or_assoc]
    congr 1
    rw [hasB_cons s a]
    apply bool_ext
    simp only [Bool.or_eq_true, Bool.and_eq_true, inB_iff, hasB_iff]
    constructor
    · rintro (h | h)
      · exact ⟨.inl (by omega), u, by simp, by omega⟩
      · exact ⟨.inr h.1, h.2⟩
    · rintro ⟨h1 | h1, x, hx, h2⟩
      · rcases List.mem_cons.mp hx with rfl | hx
        · left; omega
        · have := b1 x hx; omega
      · exact .inr ⟨h1, x, hx, h2⟩
  · have := l3 t ht
    have h3 := a1 s' hs
    have h4 : u.1 ≤ u'.1 := by
      rcases List.mem_cons.mp hu with rfl | hu
      · omega
      · have := b1 u' hu; omega
    omega
  · rw [l2, Bool.or_assoc]
    congr 1
    rw [hasB_cons u b]
    apply bool_ext
    simp only [Bool.or_eq_true, Bool.and_eq_true, inB_iff, hasB_iff]
    constructor
    · rintro (h | h)
      · exact ⟨⟨s, by simp, by omega⟩, .inl (by omega)⟩
      · exact ⟨h.1, .inr h.2⟩
    · rintro ⟨⟨x, hx, h2⟩, h1 | h1⟩
      · rcases List.mem_cons.mp hx with rfl | hx
        · left; omega
        · have := a1 x hx; omega
      · exact .inr ⟨⟨x, hx, h2⟩, h1⟩
  · have := l3 t ht
    have h3 := b1 u' hu
    have h4 : s.1 ≤ s'.1 := by
      rcases List.mem_cons.mp hs with rfl | hs
      · omega
      · have := a1 s' hs; omega
    omega

end Go.Proofs.Ytgphjbkadjagpaa
