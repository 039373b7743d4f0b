/-
  The plain form by places (the document's By), as plain data; append at a step of a drawn region.
-/
import Derived.Test.YtgphjbkadjagpaaSpM
namespace Go.Proofs.Ytgphjbkadjagpaa
open Go.RowKit
set_option maxHeartbeats 2000000

def byF (h : Int) (x y : Bool) : Bool := if h = 1 then x && y else if h = 2 then x && !y else x || y
theorem byF_none (h : Int) : byF h false false = false := by simp [byF]
theorem up_split {e : List Int} (h : Up e) {k : Nat} {x y z : Int} (hx : e[k]? = some x) (hy : e[k + 1]? = some y) (hz : z ∈ e) : z ≤ x ∨ y ≤ z := by
  unfold Up at h
  rw [List.pairwise_iff_getElem] at h
  obtain ⟨j, hj, rfl⟩ := List.getElem_of_mem hz
  obtain ⟨k1, rfl⟩ := List.getElem?_eq_some_iff.mp hx
  obtain ⟨k2, rfl⟩ := List.getElem?_eq_some_iff.mp hy
  rcases Nat.lt_trichotomy j k with hjk | rfl | hjk
  · left; have := h j k hj k1 hjk; omega
  · left; exact Int.le_refl _
  · rcases Nat.lt_or_ge (k + 1) j with h2 | h2
    · right; have := h (k + 1) j k2 hj h2; omega
    · have : j = k + 1 := by omega
      subst this; right; exact Int.le_refl _
theorem up_lt {e : List Int} (h : Up e) {k : Nat} {x y : Int} (hx : e[k]? = some x) (hy : e[k + 1]? = some y) : x < y := by
  unfold Up at h
  rw [List.pairwise_iff_getElem] at h
  obtain ⟨k1, rfl⟩ := List.getElem?_eq_some_iff.mp hx
  obtain ⟨k2, rfl⟩ := List.getElem?_eq_some_iff.mp hy
  exact h k (k + 1) k1 k2 (by omega)
theorem up_low {e : List Int} (h : Up e) {x z : Int} (hx : e[0]? = some x) (hz : z ∈ e) : x ≤ z := by
  unfold Up at h
  rw [List.pairwise_iff_getElem] at h
  obtain ⟨j, hj, rfl⟩ := List.getElem_of_mem hz
  obtain ⟨k1, rfl⟩ := List.getElem?_eq_some_iff.mp hx
  rcases Nat.eq_zero_or_pos j with rfl | hp
  · exact Int.le_refl _
  · have := h 0 j k1 hj hp; omega
theorem up_high {e : List Int} (h : Up e) {k : Nat} {x z : Int} (hx : e[k]? = some x) (hk : e.length ≤ k + 1) (hz : z ∈ e) : z ≤ x := by
  unfold Up at h
  rw [List.pairwise_iff_getElem] at h
  obtain ⟨j, hj, rfl⟩ := List.getElem_of_mem hz
  obtain ⟨k1, rfl⟩ := List.getElem?_eq_some_iff.mp hx
  rcases Nat.lt_or_ge j k with hp | hp
  · have := h j k hj k1 hp; omega
  · have : j = k := by omega
    subst this; exact Int.le_refl _
theorem has_const {l : List Sp} {e : List Int} (hl : ∀ s ∈ l, s.1 ∈ e ∧ s.2 ∈ e) (hU : Up e) {k : Nat} {x y n : Int} (hx : e[k]? = some x) (hy : e[k + 1]? = some y) (h1 : x ≤ n) (h2 : n < y) : hasB l n = hasB l x := by
  have := up_lt hU hx hy
  apply bool_ext
  rw [hasB_iff, hasB_iff]
  constructor
  · rintro ⟨s, hs, a, b⟩
    have p := up_split hU hx hy (hl s hs).1
    have q := up_split hU hx hy (hl s hs).2
    exact ⟨s, hs, by omega, by omega⟩
  · rintro ⟨s, hs, a, b⟩
    have p := up_split hU hx hy (hl s hs).1
    have q := up_split hU hx hy (hl s hs).2
    exact ⟨s, hs, by omega, by omega⟩
theorem lay_to {l : List Sp} {s : Sp} {m : Int} (h : ∀ t ∈ l, t.2 ≤ m) (hs : s.2 ≤ m) : ∀ t ∈ lay l s, t.2 ≤ m := by
  by_cases h0 : s.2 ≤ s.1
  · rw [lay_empty h0]; exact h
  · rcases snoc_cases l with rfl | ⟨p, t, rfl⟩
    · rw [lay_first h0]; intro u hu; simp at hu; subst hu; exact hs
    · by_cases h4 : s.1 ≤ t.2
      · rw [lay_grow h0 h4]
        intro u hu
        rcases List.mem_append.mp hu with hu | hu
        · exact h u (by simp [hu])
        · simp at hu; subst hu
          have := h t (by simp)
          show max t.2 s.2 ≤ m
          omega
      · rw [lay_more h0 h4]
        intro u hu
        rcases List.mem_append.mp hu with hu | hu
        · exact h u hu
        · simp at hu; subst hu; exact hs

/-- The rounds of By: what lies below x, the k-th end. -/
def ByP (f : Int → Bool) (x : Int) (k : Nat) (o : List Sp) : Prop := Plain o ∧ AllI o ∧ (∀ n, hasB o n = (decide (n < x) && f n)) ∧ (∀ t ∈ o, t.2 ≤ x) ∧ o.length ≤ k
def fOf (h : Int) (a b : List Sp) (n : Int) : Bool := byF h (hasB a n) (hasB b n)
theorem has_low {l : List Sp} {e : List Int} (hl : ∀ s ∈ l, s.1 ∈ e ∧ s.2 ∈ e) (hU : Up e) {x n : Int} (hx : e[0]? = some x) (h1 : n < x) : hasB l n = false := by
  cases hh : hasB l n
  · rfl
  · obtain ⟨s, hs, a, b⟩ := hasB_iff.mp hh
    have := up_low hU hx (hl s hs).1
    omega
theorem ByP.start {h : Int} {a b : List Sp} {e : List Int} {x : Int} (hE : EdP (a ++ b) e) (hx : e[0]? = some x) : ByP (fOf h a b) x 0 [] := by
  refine ⟨plain_nil, by intro s hs; simp at hs, fun n => ?_, by simp, Nat.le_refl _⟩
  rw [hasB_nil]
  rcases Int.lt_or_le n x with hn | hn
  · unfold fOf
    rw [has_low (fun s hs => hE.2.1 s (by simp [hs])) hE.1 hx hn, has_low (fun s hs => hE.2.1 s (by simp [hs])) hE.1 hx hn, byF_none]
    simp
  · have : decide (n < x) = false := by simp; omega
    rw [this]; rfl
theorem ByP.step {h : Int} {a b : List Sp} {e : List Int} {x y : Int} {k : Nat} {o : List Sp} (hP : ByP (fOf h a b) x k o) (hE : EdP (a ++ b) e) (hx : e[k]? = some x) (hy : e[k + 1]? = some y) :
    (fOf h a b x = false → ByP (fOf h a b) y (k + 1) o) ∧ (fOf h a b x = true → ByP (fOf h a b) y (k + 1) (lay o (x, y))) := by
  obtain ⟨h1, h2, h3, h4, h5⟩ := hP
  have hlt := up_lt hE.1 hx hy
  have hconst : ∀ n, x ≤ n → n < y → fOf h a b n = fOf h a b x := fun n p q => by
    unfold fOf
    rw [has_const (fun s hs => hE.2.1 s (by simp [hs])) hE.1 hx hy p q, has_const (fun s hs => hE.2.1 s (by simp [hs])) hE.1 hx hy p q]
  constructor
  · intro hf
    refine ⟨h1, h2, fun n => ?_, fun t ht => by have := h4 t ht; omega, by omega⟩
    rw [h3]
    rcases Int.lt_or_le n x with hn | hn
    · have e1 : decide (n < x) = true := by simp [hn]
      have e2 : decide (n < y) = true := by simp; omega
      rw [e1, e2]
    · rcases Int.lt_or_le n y with hn2 | hn2
      · rw [hconst n hn hn2, hf]; simp
      · have e1 : decide (n < x) = false := by simp; omega
        have e2 : decide (n < y) = false := by simp; omega
        rw [e1, e2]
  · intro hf
    obtain ⟨l1, l2, _⟩ := lay_plain (s := (x, y)) h1 (fun t ht => by have := h4 t ht; have := h1.2 t ht; simp; omega)
    refine ⟨l1, lay_all h2 (hE.2.2.1 x (List.mem_of_getElem? hx)) (hE.2.2.1 y (List.mem_of_getElem? hy)), fun n => ?_, lay_to (fun t ht => by have := h4 t ht; omega) (Int.le_refl _), by have := (lay_len o (x, y)).2; omega⟩
    rw [l2, h3]
    rcases Int.lt_or_le n x with hn | hn
    · have e1 : decide (n < x) = true := by simp [hn]
      have e2 : decide (n < y) = true := by simp; omega
      have e3 : inB (x, y) n = false := by
        cases hh : inB (x, y) n
        · rfl
        · have := inB_iff.mp hh; simp at this; omega
      rw [e1, e2, e3, Bool.or_false]
    · rcases Int.lt_or_le n y with hn2 | hn2
      · have e3 : inB (x, y) n = true := inB_iff.mpr ⟨hn, hn2⟩
        have e2 : decide (n < y) = true := by simp [hn2]
        rw [hconst n hn hn2, hf, e3, e2]; simp
      · have e1 : decide (n < x) = false := by simp; omega
        have e2 : decide (n < y) = false := by simp; omega
        have e3 : inB (x, y) n = false := by
          cases hh : inB (x, y) n
          · rfl
          · have := inB_iff.mp hh; simp at this; omega
        rw [e1, e2, e3]; rfl
theorem ByP.last {h : Int} {a b : List Sp} {e : List Int} {x : Int} {k : Nat} {o : List Sp} (hP : ByP (fOf h a b) x k o) (hE : EdP (a ++ b) e) (hx : e[k]? = some x) (hk : e.length ≤ k + 1) : ∀ n, hasB o n = fOf h a b n := by
  intro n
  rw [hP.2.2.1]
  rcases Int.lt_or_le n x with hn | hn
  · have e1 : decide (n < x) = true := by simp [hn]
    rw [e1]; rfl
  · have e1 : decide (n < x) = false := by simp; omega
    have p : ∀ l : List Sp, (∀ s ∈ l, s.1 ∈ e ∧ s.2 ∈ e) → hasB l n = false := fun l hl => has_past (fr := x) (fun s hs => up_high hE.1 hx hk (hl s hs).2) hn
    unfold fOf
    rw [e1, p a (fun s hs => hE.2.1 s (by simp [hs])), p b (fun s hs => hE.2.1 s (by simp [hs])), byF_none]
    rfl
theorem fOf_nil (h : Int) (n : Int) : fOf h [] [] n = false := byF_none h
theorem EdP.nil {a b : List Sp} (h : EdP (a ++ b) []) : a = [] ∧ b = [] := by
  constructor
  · cases a with
    | nil => rfl
    | cons s a => have := (h.2.1 s (by simp)).1; simp at this
  · cases b with
    | nil => rfl
    | cons s b => have := (h.2.1 s (by simp)).1; simp at this

/-- append at a step of a region that draws. -/
theorem step_bk_append {ops : Array Oper} {o : Oper} {a : Act} {K : Act → World → Prop} {Q : Exit → Act → World → Prop} {E : Prop} (W w : World) (s x : Operand) (v : Value) (b off n c : Nat) (l m : List Sp) (hgd : o.guard = none)
    (ho : o.op = .call { callee := .builtin .append, args := #[s, x], argTypes := #[22, 22] })
    (hs : a.eval s = v) (hx : a.eval x = .slice (some ⟨b, off, none⟩) n c) (hB : Ow W w.heap.size v l) (hR : Rd W (.slice (some ⟨b, off, none⟩) n c) m) (hlen : l.length + m.length ≤ 100000) (hE : Ext w W)
    (h : ∀ v' W', Ow W' w.heap.size v' (l ++ m) → Ext w W' → K (a.put o.dst v') W') : if Region.wanted o (yielded ops a.tmps) = true then Oper.wp Try.prog o a W K Q else E := by
  have hw : Region.wanted o (yielded ops a.tmps) = true := by simp [Region.wanted, hgd]
  rw [if_pos hw]
  obtain ⟨i, hi, hz, h1, h2⟩ := info_sp
  obtain ⟨rfl, hnews⟩ := hR.news
  obtain ⟨rst, hB⟩ := hB
  refine wp_append_own W s x 22 ho w.heap.size 28 i _ 2 16 Try.underlying22 hi hz h1 h2 rfl (by decide) v l.length (flat l) hs hB.owns ⟨b, off, none⟩ m.length c (flat m) hx (flat_length m) hnews (flat_one m) (by unfold maxLen; omega) (by omega) hE.size ?_
  intro v' W' h3 h4 _
  exact h v' W' (Ow.of h3 (List.length_append).symm (flat_append l m).symm) (ext_grown hB (Nat.le_refl _) hE h4)
end Go.Proofs.Ytgphjbkadjagpaa
