/-
  Sets of whole numbers as lists of spans, as plain data: which numbers a list has, its plain form, that there is one alone; how many; no program in sight.
-/
import Derived.Test.YtgphjbkadjagpaaNum
namespace Go.Proofs.Ytgphjbkadjagpaa
open Go.RowKit

/-- A span: from, and to (without it). -/
abbrev Sp := Int × Int
def inB (s : Sp) (n : Int) : Bool := decide (s.1 ≤ n) && decide (n < s.2)
/-- Whether n is one of l's numbers. -/
def hasB (l : List Sp) (n : Int) : Bool := l.any fun s => inB s n
theorem inB_iff {s : Sp} {n : Int} : inB s n = true ↔ s.1 ≤ n ∧ n < s.2 := by simp [inB]
theorem hasB_iff {l : List Sp} {n : Int} : hasB l n = true ↔ ∃ s ∈ l, s.1 ≤ n ∧ n < s.2 := by
  unfold hasB; rw [List.any_eq_true]; exact ⟨fun ⟨s, h1, h2⟩ => ⟨s, h1, inB_iff.mp h2⟩, fun ⟨s, h1, h2⟩ => ⟨s, h1, inB_iff.mpr h2⟩⟩
theorem hasB_nil (n : Int) : hasB [] n = false := rfl
theorem hasB_cons (s : Sp) (l : List Sp) (n : Int) : hasB (s :: l) n = (inB s n || hasB l n) := rfl
theorem hasB_append (a b : List Sp) (n : Int) : hasB (a ++ b) n = (hasB a n || hasB b n) := by unfold hasB; exact List.any_append
theorem bool_ext {a b : Bool} (h : a = true ↔ b = true) : a = b := by cases a <;> cases b <;> simp_all
theorem hasB_perm {a b : List Sp} (h : a.Perm b) (n : Int) : hasB a n = hasB b n := by
  apply bool_ext; rw [hasB_iff, hasB_iff]
  exact ⟨fun ⟨s, h1, h2⟩ => ⟨s, h.mem_iff.mp h1, h2⟩, fun ⟨s, h1, h2⟩ => ⟨s, h.mem_iff.mpr h1, h2⟩⟩
/-- The plain form. -/
def Plain (l : List Sp) : Prop := l.Pairwise (fun s t => s.2 < t.1) ∧ ∀ s ∈ l, s.1 < s.2
theorem plain_nil : Plain [] := ⟨List.Pairwise.nil, by simp⟩
theorem plain_cons {s : Sp} {l : List Sp} : Plain (s :: l) ↔ (∀ t ∈ l, s.2 < t.1) ∧ s.1 < s.2 ∧ Plain l := by
  unfold Plain
  rw [List.pairwise_cons]
  constructor
  · rintro ⟨⟨h1, h2⟩, h3⟩
    exact ⟨h1, h3 s (by simp), h2, fun t ht => h3 t (by simp [ht])⟩
  · rintro ⟨h1, h2, h3, h4⟩
    refine ⟨⟨h1, h3⟩, ?_⟩
    intro t ht
    rcases List.mem_cons.mp ht with rfl | ht
    · exact h2
    · exact h4 t ht
theorem plain_snoc {s : Sp} {l : List Sp} : Plain (l ++ [s]) ↔ (∀ t ∈ l, t.2 < s.1) ∧ s.1 < s.2 ∧ Plain l := by
  unfold Plain
  rw [List.pairwise_append]
  constructor
  · rintro ⟨⟨h1, _, h2⟩, h3⟩
    exact ⟨fun t ht => h2 t ht s (by simp), h3 s (by simp), h1, fun t ht => h3 t (by simp [ht])⟩
  · rintro ⟨h1, h2, h3, h4⟩
    refine ⟨⟨h3, by simp, fun a ha b hb => ?_⟩, ?_⟩
    · simp at hb; subst hb; exact h1 a ha
    · intro t ht
      rcases List.mem_append.mp ht with ht | ht
      · exact h4 t ht
      · simp at ht; subst ht; exact h2
theorem has_first {s : Sp} {l : List Sp} (h : Plain (s :: l)) : hasB (s :: l) s.1 = true := by
  rw [hasB_iff]; exact ⟨s, by simp, Int.le_refl _, (plain_cons.mp h).2.1⟩
/-- There is one plain form alone. -/
theorem plain_one : ∀ {l m : List Sp}, Plain l → Plain m → (∀ n, hasB l n = hasB m n) → l = m
  | [], [], _, _, _ => rfl
  | [], t :: m, _, h2, h => by have := h t.1; rw [has_first h2] at this; cases this
  | s :: l, [], h1, _, h => by have := h s.1; rw [has_first h1] at this; cases this
  | s :: l, t :: m, h1, h2, h => by
    have a1 := (hasB_iff.mp ((h s.1).symm.trans (has_first h1)))
    have a2 := (hasB_iff.mp ((h t.1).trans (has_first h2)))
    obtain ⟨p1, p2, p3⟩ := plain_cons.mp h1
    obtain ⟨q1, q2, q3⟩ := plain_cons.mp h2
    have e1 : s.1 = t.1 := by
      obtain ⟨u, hu, b1, b2⟩ := a1
      obtain ⟨v, hv, c1, c2⟩ := a2
      have k1 : t.1 ≤ s.1 := by
        rcases List.mem_cons.mp hu with rfl | hu
        · exact b1
        · have := q1 u hu; omega
      have k2 : s.1 ≤ t.1 := by
        rcases List.mem_cons.mp hv with rfl | hv
        · exact c1
        · have := p1 v hv; omega
      omega
    have n1 : hasB (s :: l) s.2 = false := by
      cases hh : hasB (s :: l) s.2
      · rfl
      · obtain ⟨u, hu, b1, b2⟩ := hasB_iff.mp hh
        rcases List.mem_cons.mp hu with rfl | hu
        · omega
        · have := p1 u hu; omega
    have n2 : hasB (t :: m) t.2 = false := by
      cases hh : hasB (t :: m) t.2
      · rfl
      · obtain ⟨u, hu, b1, b2⟩ := hasB_iff.mp hh
        rcases List.mem_cons.mp hu with rfl | hu
        · omega
        · have := q1 u hu; omega
    have e2 : s.2 = t.2 := by
      rcases Int.lt_trichotomy s.2 t.2 with k | k | k
      · exfalso
        have : hasB (t :: m) s.2 = true := hasB_iff.mpr ⟨t, by simp, by omega, k⟩
        rw [← h, n1] at this; cases this
      · exact k
      · exfalso
        have : hasB (s :: l) t.2 = true := hasB_iff.mpr ⟨s, by simp, by omega, k⟩
        rw [h, n2] at this; cases this
    have e : s = t := Prod.ext e1 e2
    subst e
    have : l = m := plain_one p3 q3 fun n => by
      apply bool_ext
      constructor
      · intro hh
        obtain ⟨u, hu, b1, b2⟩ := hasB_iff.mp hh
        have k : hasB (s :: l) n = true := hasB_iff.mpr ⟨u, by simp [hu], b1, b2⟩
        rw [h] at k
        obtain ⟨v, hv, c1, c2⟩ := hasB_iff.mp k
        rcases List.mem_cons.mp hv with rfl | hv
        · have := p1 u hu; omega
        · exact hasB_iff.mpr ⟨v, hv, c1, c2⟩
      · intro hh
        obtain ⟨u, hu, b1, b2⟩ := hasB_iff.mp hh
        have k : hasB (s :: m) n = true := hasB_iff.mpr ⟨u, by simp [hu], b1, b2⟩
        rw [← h] at k
        obtain ⟨v, hv, c1, c2⟩ := hasB_iff.mp k
        rcases List.mem_cons.mp hv with rfl | hv
        · have := q1 u hu; omega
        · exact hasB_iff.mpr ⟨v, hv, c1, c2⟩
    rw [this]
theorem plain_none {l : List Sp} (h : Plain l) (h0 : ∀ n, hasB l n = false) : l = [] := plain_one h plain_nil h0

/-! ### How many -/
def cnt : List Sp → Int
  | [] => 0
  | s :: r => (s.2 - s.1) + cnt r
theorem cnt_append (a b : List Sp) : cnt (a ++ b) = cnt a + cnt b := by
  induction a with
  | nil => simp [cnt]
  | cons s r ih => simp [cnt, ih]; omega
def card (p : Int → Bool) (lo : Int) : Nat → Int
  | 0 => 0
  | k + 1 => card p lo k + (if p (lo + k) then 1 else 0)
theorem card_congr {p q : Int → Bool} (lo : Int) (h : ∀ n, p n = q n) (k : Nat) : card p lo k = card q lo k := by
  induction k with
  | zero => rfl
  | succ k ih => simp [card, ih, h]
theorem card_two {p q : Int → Bool} (lo : Int) (k : Nat) : card (fun n => p n || q n) lo k + card (fun n => p n && q n) lo k = card p lo k + card q lo k := by
  induction k with
  | zero => rfl
  | succ k ih =>
    simp only [card]
    rcases Bool.eq_false_or_eq_true (p (lo + k)) with h1 | h1 <;> rcases Bool.eq_false_or_eq_true (q (lo + k)) with h2 | h2 <;> simp [h1, h2] <;> omega
theorem card_none (lo : Int) (k : Nat) : card (fun _ => false) lo k = 0 := by
  induction k with
  | zero => rfl
  | succ k ih => simp [card, ih]
theorem card_span (s : Sp) (lo : Int) (h1 : lo ≤ s.1) (h2 : s.1 ≤ s.2) (k : Nat) : card (inB s) lo k = if lo + k ≤ s.1 then 0 else if lo + k ≤ s.2 then lo + k - s.1 else s.2 - s.1 := by
  induction k with
  | zero => simp [card]; omega
  | succ k ih =>
    rw [card, ih]
    obtain ⟨f, t⟩ := s
    simp only [] at h1 h2 ⊢
    have e : (inB (f, t) (lo + k) = true) ↔ f ≤ lo + k ∧ lo + k < t := inB_iff
    have c1 : ((k + 1 : Nat) : Int) = k + 1 := by omega
    rw [c1]
    by_cases hb : inB (f, t) (lo + k) = true
    · rw [if_pos hb]
      have := e.mp hb
      repeat' split
      all_goals omega
    · rw [if_neg hb]
      have : ¬ (f ≤ lo + k ∧ lo + k < t) := fun k => hb (e.mpr k)
      repeat' split
      all_goals omega
theorem card_plain {lo : Int} {k : Nat} : ∀ {l : List Sp}, Plain l → (∀ s ∈ l, lo ≤ s.1 ∧ s.2 ≤ lo + k) → card (hasB l) lo k = cnt l
  | [], _, _ => by rw [card_congr (q := fun _ => false) lo hasB_nil]; exact card_none lo k
  | s :: r, h, hb => by
    obtain ⟨h1, h2, h3⟩ := plain_cons.mp h
    have ih := card_plain h3 (fun t ht => hb t (by simp [ht]))
    have e := card_two (p := inB s) (q := hasB r) lo k
    have z : card (fun n => inB s n && hasB r n) lo k = 0 := by
      rw [card_congr (q := fun _ => false)]
      · exact card_none lo k
      · intro n
        cases hh : (inB s n && hasB r n)
        · rfl
        · simp at hh
          have k1 := inB_iff.mp hh.1
          obtain ⟨u, hu, b1, b2⟩ := hasB_iff.mp hh.2
          have := h1 u hu
          omega
    have k1 := card_span s lo (hb s (by simp)).1 (by omega) k
    have := (hb s (by simp)).2
    rw [card_congr (q := fun n => inB s n || hasB r n) lo (fun n => hasB_cons s r n)]
    simp only [cnt]
    rw [z, ih] at e
    have k2 : card (inB s) lo k = s.2 - s.1 := by
      rw [k1]
      split
      · omega
      · split <;> omega
    rw [k2] at e
    omega

/-! ### A span laid behind a plain list -/
def lay (l : List Sp) (s : Sp) : List Sp :=
  if s.2 ≤ s.1 then l else
  match l.getLast? with
  | some t => if s.1 ≤ t.2 then l.dropLast ++ [(t.1, max t.2 s.2)] else l ++ [s]
  | none => l ++ [s]
theorem lay_empty {l : List Sp} {s : Sp} (h : s.2 ≤ s.1) : lay l s = l := by simp [lay, h]
theorem lay_first {s : Sp} (h : ¬ s.2 ≤ s.1) : lay [] s = [s] := by simp [lay, h]
theorem lay_grow {p : List Sp} {t s : Sp} (h : ¬ s.2 ≤ s.1) (h2 : s.1 ≤ t.2) : lay (p ++ [t]) s = p ++ [(t.1, max t.2 s.2)] := by simp [lay, h, h2]
theorem lay_more {p : List Sp} {t s : Sp} (h : ¬ s.2 ≤ s.1) (h2 : ¬ s.1 ≤ t.2) : lay (p ++ [t]) s = (p ++ [t]) ++ [s] := by simp [lay, h, h2]
theorem snoc_cases (l : List Sp) : l = [] ∨ ∃ p t, l = p ++ [t] := by
  rcases List.eq_nil_or_concat l with h | ⟨p, t, h⟩
  · exact .inl h
  · exact .inr ⟨p, t, by simpa using h⟩
theorem lay_len (l : List Sp) (s : Sp) : l.length ≤ (lay l s).length ∧ (lay l s).length ≤ l.length + 1 := by
  by_cases h : s.2 ≤ s.1
  · rw [lay_empty h]; omega
  · rcases snoc_cases l with rfl | ⟨p, t, rfl⟩
    · rw [lay_first h]; simp
    · by_cases h2 : s.1 ≤ t.2
      · rw [lay_grow h h2]; simp
      · rw [lay_more h h2]; simp
theorem lay_plain {l : List Sp} {s : Sp} (hp : Plain l) (hs : ∀ t ∈ l, t.1 ≤ s.1) :
    Plain (lay l s) ∧ (∀ n, hasB (lay l s) n = (hasB l n || inB s n)) ∧ ∀ t ∈ lay l s, t.1 ≤ s.1 := by
  by_cases h : s.2 ≤ s.1
  · rw [lay_empty h]
    refine ⟨hp, fun n => ?_, hs⟩
    have : inB s n = false := by
      cases hh : inB s n
      · rfl
      · have := inB_iff.mp hh; omega
    rw [this, Bool.or_false]
  · rcases snoc_cases l with rfl | ⟨p, t, rfl⟩
    · rw [lay_first h]
      refine ⟨plain_cons.mpr ⟨by simp, by omega, plain_nil⟩, fun n => by simp [hasB], by simp⟩
    · obtain ⟨h1, h2, h3⟩ := plain_snoc.mp hp
      have ht := hs t (by simp)
      by_cases h4 : s.1 ≤ t.2
      · rw [lay_grow h h4]
        refine ⟨plain_snoc.mpr ⟨h1, by show t.1 < max t.2 s.2; omega, h3⟩, fun n => ?_, ?_⟩
        · rw [hasB_append, hasB_append, Bool.or_assoc]
          congr 1
          apply bool_ext
          rw [Bool.or_eq_true, inB_iff]
          simp only [hasB, List.any_cons, List.any_nil, Bool.or_false, inB_iff]
          omega
        · intro u hu
          rcases List.mem_append.mp hu with hu | hu
          · exact hs u (by simp [hu])
          · simp at hu; subst hu; exact ht
      · rw [lay_more h h4]
        refine ⟨plain_snoc.mpr ⟨?_, by omega, hp⟩, fun n => ?_, ?_⟩
        · intro u hu
          rcases List.mem_append.mp hu with hu | hu
          · have := h1 u hu; omega
          · simp at hu; subst hu; omega
        · rw [hasB_append]
          congr 1
          simp [hasB]
        · intro u hu
          rcases List.mem_append.mp hu with hu | hu
          · exact hs u hu
          · simp at hu; subst hu; exact Int.le_refl _
/-- All ends are ints. -/
def AllI (l : List Sp) : Prop := ∀ s ∈ l, I64 s.1 ∧ I64 s.2
theorem lay_all {l : List Sp} {s : Sp} (h : AllI l) (h1 : I64 s.1) (h2 : I64 s.2) : AllI (lay l s) := by
  by_cases h0 : s.2 ≤ s.1
  · rw [lay_empty h0]; exact h
  · rcases snoc_cases l with rfl | ⟨p, t, rfl⟩
    · rw [lay_first h0]; intro u hu; simp at hu; subst hu; exact ⟨h1, h2⟩
    · by_cases h4 : s.1 ≤ t.2
      · rw [lay_grow h0 h4]
        intro u hu
        rcases List.mem_append.mp hu with hu | hu
        · exact h u (by simp [hu])
        · simp at hu; subst hu
          have := h t (by simp)
          refine ⟨this.1, ?_⟩
          show I64 (max t.2 s.2)
          obtain ⟨_, _⟩ := this.2; obtain ⟨_, _⟩ := h2
          exact ⟨by omega, by omega⟩
      · rw [lay_more h0 h4]
        intro u hu
        rcases List.mem_append.mp hu with hu | hu
        · exact h u hu
        · simp at hu; subst hu; exact ⟨h1, h2⟩
end Go.Proofs.Ytgphjbkadjagpaa
