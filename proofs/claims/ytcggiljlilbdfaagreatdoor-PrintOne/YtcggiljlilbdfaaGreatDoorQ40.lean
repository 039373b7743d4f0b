/-
 Lists of arguments, as the document reads them. Plain mathematics: no program in sight.
-/
import Derived.Test.YtcggiljlilbdfaaGreatDoorQ33
namespace Go.Proofs.YtcggiljlilbdfaaGreatDoor
open Go.RowKit

/-- The arguments behind those that are read, one at least. -/
def docL (F : Rd) (b d : Nat) : Nat → List T → List Tk → Except Ft (List T × List Tk)
 | 0, _, ts => .error (ft ts false)
 | f + 1, l, ts => match argm F d ts with
   | .error e => .error e
   | .ok (x, ts1) => if l.length + 1 < b ∧ isSg [44] ts1 = true then docL F b d f (l ++ [x]) ts1.tail else .ok (l ++ [x], ts1)
def chk (a : Nat) (r : Except Ft (List T × List Tk)) : Except Ft (List T × List Tk) := match r with
 | .error e => .error e
 | .ok (l, us) => if l.length < a then .error (ft us false) else .ok (l, us)
theorem chk_lt {a : Nat} {l : List T} {us : List Tk} (h : l.length < a) : chk a (.ok (l, us)) = .error (ft us false) := if_pos h
theorem chk_ge {a : Nat} {l : List T} {us : List Tk} (h : ¬ l.length < a) : chk a (.ok (l, us)) = .ok (l, us) := if_neg h
def docA (F : Rd) (a b d : Nat) (ts : List Tk) : Except Ft (List T × List Tk) := chk a (docL F b d ts.length [] ts)
/-- The same, or both a fault. -/
def Eqv {α : Type} (r s : Except Ft α) : Prop := (∃ e f, r = .error e ∧ s = .error f) ∨ r = s
theorem Eqv.err {α : Type} {r s : Except Ft α} {e : Ft} (h : Eqv r s) (hs : s = .error e) : ∃ f, r = .error f := by
 rcases h with ⟨e, f, h1, _⟩ | h
 · exact ⟨_, h1⟩
 · exact ⟨_, h.trans hs⟩
theorem Eqv.ok {α : Type} {r s : Except Ft α} {x : α} (h : Eqv r s) (hs : s = .ok x) : r = .ok x := by
 rcases h with ⟨e, f, _, h1⟩ | h
 · rw [hs] at h1; cases h1
 · exact h.trans hs
theorem argl_doc {n : Nat} {F : Rd} (hF : ShF n F) {a b d : Nat} (hd4 : d ≤ 40) (hab : a ≤ b) : ∀ (f g : Nat) (l : List T) (ts : List Tk), Nz ts → ts.length ≤ n → ts.length ≤ f → ts.length ≤ g →
   Eqv (argl F a b d f l ts) (if l.length < b ∧ isSg [44] ts = true then chk a (docL F b d g l ts.tail) else if l.length < a then .error (ft ts false) else .ok (l, ts)) := by
 intro f
 induction f with
 | zero => intro g l ts h _ h1 _; have := h.pos; omega
 | succ f ih =>
   intro g l ts h hn h1 h2
   obtain ⟨g, rfl⟩ : ∃ k, g = k + 1 := ⟨g - 1, by have := h.pos; omega⟩
   by_cases hc : l.length < b ∧ isSg [44] ts = true
   · rw [if_pos hc, argl, if_pos (.inr hc)]
     have hp : pass1 [44] d ts = .ok ts.tail := by unfold pass1; rw [if_pos hc.2, tk1_ok hd4]
     rw [hp]
     have s2 := h.tail (by rw [(isSg_k hc.2).1]; decide)
     have a2 := s2.2
     unfold docL
     dsimp only
     cases hr : argm F d ts.tail with
     | error e => exact .inl ⟨_, _, rfl, rfl⟩
     | ok q =>
       obtain ⟨x, ts1⟩ := q
       have s1 := argm_sh hF d ts.tail s2.1 (by omega) x ts1 hr
       have a1 := s1.2
       have i := ih g (l ++ [x]) ts1 s1.1 (by omega) (by omega) (by omega)
       dsimp only
       have el : (l ++ [x]).length = l.length + 1 := by simp
       rw [el] at i
       by_cases hc2 : l.length + 1 < b ∧ isSg [44] ts1 = true
       · rw [if_pos hc2] at i ⊢
         exact i
       · rw [if_neg hc2] at i ⊢
         rw [← el] at i
         exact i
   · rw [if_neg hc, argl]
     by_cases ha : l.length < a
     · rw [if_pos (.inl ha), if_pos ha]
       have hs : isSg [44] ts = false := by
         cases hs : isSg [44] ts with
         | false => rfl
         | true => exact absurd ⟨by omega, hs⟩ hc
       have hp : pass1 [44] d ts = .error (ft ts false) := by unfold pass1; rw [hs]; rfl
       rw [hp]
       exact .inl ⟨_, _, rfl, rfl⟩
     · rw [if_neg (by rintro (h | h); exact ha h; exact hc h), if_neg ha]
       exact .inr rfl
/-- The two ways of reading arguments agree. -/
theorem args_doc {n : Nat} {F : Rd} (hF : ShF n F) {a b d : Nat} (hd4 : d ≤ 40) (hab : a ≤ b) {ts : List Tk} (h : Nz ts) (hn : ts.length ≤ n) : Eqv (args F a b d ts) (docA F a b d ts) := by
 unfold args docA
 obtain ⟨g, hg⟩ : ∃ k, ts.length = k + 1 := ⟨ts.length - 1, by have := h.pos; omega⟩
 rw [hg]
 unfold docL
 cases hr : argm F d ts with
 | error e => exact .inl ⟨_, _, rfl, rfl⟩
 | ok q =>
   obtain ⟨x, ts1⟩ := q
   have s1 := argm_sh hF d ts h hn x ts1 hr
   have a1 := s1.2
   have i := argl_doc hF hd4 hab ts1.length g [x] ts1 s1.1 (by omega) (Nat.le_refl _) (by omega)
   dsimp only
   have el : ([] ++ [x] : List T) = [x] := rfl
   rw [el]
   have e2 : ([] : List T).length + 1 = [x].length := rfl
   rw [e2]
   by_cases hc2 : [x].length < b ∧ isSg [44] ts1 = true
   · rw [if_pos hc2] at i ⊢
     exact i
   · rw [if_neg hc2] at i ⊢
     exact i
/-- What is known is bounded. -/
theorem kno_bd {s : List UInt8} {q : Nat × Nat} (h : kno s = some q) : 1 ≤ q.1 ∧ q.1 ≤ q.2 ∧ q.2 ≤ 20 ∧ s ≠ wTrue ∧ s ≠ wFalse ∧ okP s = false := by
 have ho : okP s = false := by
   cases ho : okP s with
   | false => rfl
   | true => rw [(kno_ok ho).1] at h; cases h
 refine ⟨?_, ?_, ?_, ?_, ?_, ho⟩
 all_goals
   unfold kno at h
   repeat' split at h
 all_goals first
   | (cases h; decide)
   | (rename_i hs; cases h; intro e; subst e; exact absurd hs (by decide))
   | (intro e; subst e; rename_i hs _ _ _ _; first | exact absurd hs (by decide) | (cases h))
   | cases h
   | (intro e; subst e; cases h; contradiction)
end Go.Proofs.YtcggiljlilbdfaaGreatDoor
