/-
 What is answered of a formula in brackets, of a call of two formulas, of a formula with more blanks between its words. Plain mathematics: no program in sight.
 How long words are, and of which kinds. Plain mathematics: no program in sight.
 The contract of Formula.
 Trees with not too many parts. Plain mathematics.
-/
import Derived.Test.YtcggiljlilbdfaaV28
import Derived.Test.YtcggiljlilbdfaaV10
namespace Go.Proofs.Ytcggiljlilbdfaa
open Go.RowKit

open Go.RowKit
set_option maxHeartbeats 6000000

theorem txt_len : ∀ (l : List UInt8) (x : List UInt8 × Nat), txt l = some x → x.1.length ≤ x.2
 | [], x, h => by simp [txt] at h
 | [c], x, h => by
   unfold txt at h
   split at h
   · cases h; simp
   · cases h
 | c :: d :: r, x, h => by
   unfold txt at h
   split at h
   · split at h
     · rw [Option.map_eq_some_iff] at h
       obtain ⟨y, hy, rfl⟩ := h
       have := txt_len r y hy
       simp; omega
     · cases h; simp
   · rw [Option.map_eq_some_iff] at h
     obtain ⟨y, hy, rfl⟩ := h
     have := txt_len (d :: r) y hy
     simp; omega
theorem nxt_len {l : List UInt8} {x : Wd} (h : nxt l = .ok x) : x.2.1.length ≤ x.2.2.2.2 := by
 cases l with
 | nil => cases h
 | cons c l =>
   rw [nxt_cons] at h
   split at h
   · unfold numR at h
     split at h
     · cases h
     · split at h
       · cases h
       · cases h; exact Nat.zero_le _
   · split at h
     · unfold txtR at h
       split at h
       · cases h
       · rename_i y hy
         cases h
         have := txt_len _ _ hy
         show y.1.length ≤ y.2 + 1
         omega
     · split at h
       · unfold wdR at h
         cases h
         show (List.take _ _).length ≤ _
         rw [List.length_take]; exact Nat.min_le_left _ _
       · split at h
         · unfold errR at h
           split at h
           · cases h
           · cases h; exact Nat.zero_le _
         · unfold sgR at h
           split at h
           · cases h
           · cases h; exact Nat.le_refl _
theorem W_len (n : Nat) : ∀ (l : List UInt8) (p : Nat) (ts : List Tk), l.length ≤ n → W p l = .ok ts → ∀ t ∈ ts, t.2.2.1.length ≤ l.length := by
 induction n with
 | zero =>
   intro l p ts hl h
   have : l = [] := List.eq_nil_of_length_eq_zero (by omega)
   subst this
   rw [W_nil] at h
   cases h
   intro t ht; simp at ht; subst ht; simp [endT]
 | succ n ih =>
   intro l p ts hl h
   cases l with
   | nil =>
     rw [W_nil] at h
     cases h
     intro t ht; simp at ht; subst ht; simp [endT]
   | cons c r =>
     by_cases hc : c = 32
     · subst hc
       rw [W_blank] at h
       intro t ht
       have := ih r (p + 1) ts (by simpa using hl) h t ht
       simp; omega
     · rw [W_cons p c r hc] at h
       cases hx : nxt (c :: r) with
       | error e => rw [hx] at h; cases h
       | ok x =>
         rw [hx] at h
         simp only [] at h
         obtain ⟨us, hu, rfl⟩ := map_ok h
         have hm := nxt_pos hx
         simp only [List.length_cons] at hm
         intro t ht
         rcases List.mem_cons.1 ht with rfl | ht
         · have := nxt_len hx
           show x.2.1.length ≤ _
           simp; omega
         · have := ih ((c :: r).drop x.2.2.2.2) (p + x.2.2.2.2) us (by simp at hl ⊢; omega) hu t ht
           simp at this ⊢; omega
theorem nxt_kd {l : List UInt8} {x : Wd} (h : nxt l = .ok x) : 0 ≤ x.1 ∧ x.1 ≤ 4 := by
 cases l with
 | nil => cases h
 | cons c l =>
   rw [nxt_cons] at h
   split at h
   · unfold numR at h
     split at h
     · cases h
     · split at h
       · cases h
       · cases h; exact ⟨by show (0 : Int) ≤ 0; decide, by show (0 : Int) ≤ 4; decide⟩
   · split at h
     · unfold txtR at h
       split at h
       · cases h
       · cases h; exact ⟨by show (0 : Int) ≤ 1; decide, by show (1 : Int) ≤ 4; decide⟩
     · split at h
       · unfold wdR at h
         cases h; exact ⟨by show (0 : Int) ≤ 2; decide, by show (2 : Int) ≤ 4; decide⟩
       · split at h
         · unfold errR at h
           split at h
           · cases h
           · cases h; exact ⟨by show (0 : Int) ≤ 4; decide, by show (4 : Int) ≤ 4; decide⟩
         · unfold sgR at h
           split at h
           · cases h
           · cases h; exact ⟨by show (0 : Int) ≤ 3; decide, by show (3 : Int) ≤ 4; decide⟩
theorem W_kd (n : Nat) : ∀ (l : List UInt8) (p : Nat) (ts : List Tk), l.length ≤ n → W p l = .ok ts → ∀ t ∈ ts, 0 ≤ t.1 ∧ t.1 ≤ 5 ∧ (t.1 = 5 → t.2.2.1 = []) := by
 have h5 : ∀ q, 0 ≤ (endT q).1 ∧ (endT q).1 ≤ 5 ∧ ((endT q).1 = 5 → (endT q).2.2.1 = []) := fun q => ⟨by show (0 : Int) ≤ 5; decide, by show (5 : Int) ≤ 5; decide, fun _ => rfl⟩
 induction n with
 | zero =>
   intro l p ts hl h
   have : l = [] := List.eq_nil_of_length_eq_zero (by omega)
   subst this
   rw [W_nil] at h
   cases h
   intro t ht; simp at ht; subst ht; exact h5 _
 | succ n ih =>
   intro l p ts hl h
   cases l with
   | nil =>
     rw [W_nil] at h
     cases h
     intro t ht; simp at ht; subst ht; exact h5 _
   | cons c r =>
     by_cases hc : c = 32
     · subst hc
       rw [W_blank] at h
       exact ih r (p + 1) ts (by simpa using hl) h
     · rw [W_cons p c r hc] at h
       cases hx : nxt (c :: r) with
       | error e => rw [hx] at h; cases h
       | ok x =>
         rw [hx] at h
         simp only [] at h
         obtain ⟨us, hu, rfl⟩ := map_ok h
         have hm := nxt_pos hx
         simp only [List.length_cons] at hm
         intro t ht
         rcases List.mem_cons.1 ht with rfl | ht
         · have := nxt_kd hx
           show 0 ≤ x.1 ∧ x.1 ≤ 5 ∧ (x.1 = 5 → x.2.1 = [])
           exact ⟨this.1, by omega, fun h => by omega⟩
         · exact ih ((c :: r).drop x.2.2.2.2) (p + x.2.2.2.2) us (by simp at hl ⊢; omega) hu t ht

open Go.RowKit
set_option maxHeartbeats 6000000

end Go.Proofs.Ytcggiljlilbdfaa
