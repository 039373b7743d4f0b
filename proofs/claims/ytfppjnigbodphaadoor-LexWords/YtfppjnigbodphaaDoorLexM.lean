/-
  What becomes of a text's words when blanks, or another text behind a blank, come to it; and where words stand. Plain mathematics: no program in sight.
-/
import Derived.Test.YtfppjnigbodphaaDoorLexN
namespace Go.Proofs.YtfppjnigbodphaaDoor
open Go.RowKit

/-- Nothing, or what begins with a blank. -/
def Bl (r : List UInt8) : Prop := r = [] ∨ ∃ t, r = 32 :: t
def bl (n : Nat) : List UInt8 := List.replicate n 32
theorem bl_all {n : Nat} : ∀ c ∈ bl n, c = 32 := fun _ h => (List.mem_replicate.1 h).2
theorem bl_Bl (n : Nat) : Bl (bl n) := by
  cases n with
  | zero => exact .inl rfl
  | succ n => exact .inr ⟨bl n, rfl⟩
theorem Bl.head {r : List UInt8} (h : Bl r) (c : UInt8) (hc : r[0]? = some c) : c = 32 := by
  rcases h with rfl | ⟨t, rfl⟩
  · cases hc
  · simpa using hc.symm
theorem run_ext (p : UInt8 → Bool) (hp : p 32 = false) (l r : List UInt8) (hr : Bl r) : run p (l ++ r) = run p l := by
  induction l with
  | nil =>
    rcases hr with rfl | ⟨t, rfl⟩
    · rfl
    · rw [List.nil_append, run_cons, hp]; rfl
  | cons c l ih => rw [List.cons_append, run_cons, run_cons, ih]
theorem numE_ext (l r : List UInt8) (hr : Bl r) : numE (l ++ r) = numE l := by
  unfold numE
  rw [run_ext dgB (by decide) l r hr]
  have hn := runL_le dgB l
  by_cases h : run dgB l < l.length
  · rw [List.getElem?_append_left h, List.drop_append_of_le_length (by omega), run_ext dgB (by decide) _ r hr]
  · have e : run dgB l = l.length := by omega
    rw [e]
    have h1 : (l ++ r)[l.length]? = r[0]? := by rw [List.getElem?_append_right (Nat.le_refl _), Nat.sub_self]
    rw [h1, if_neg, if_neg]
    · rintro ⟨h2, _⟩; rw [List.getElem?_eq_none (Nat.le_refl _)] at h2; cases h2
    · rintro ⟨h2, _⟩; exact absurd (hr.head _ h2) (by decide)
theorem numR_ext (l r : List UInt8) (hr : Bl r) : numR (l ++ r) = numR l := by
  unfold numR
  rw [numE_ext l r hr, List.take_append_of_le_length (numE_le l)]
theorem txt_cne (c : UInt8) (r : List UInt8) (h : c ≠ 34) : txt (c :: r) = (txt r).map (fun x => (c :: x.1, x.2 + 1)) := by
  cases r with
  | nil => simp [txt, h]
  | cons d r => rw [txt, if_neg h]
theorem txt_stop (r : List UInt8) (h : ∀ c, r[0]? = some c → c ≠ 34) : txt (34 :: r) = some ([], 1) := by
  cases r with
  | nil => simp [txt]
  | cons d r => rw [txt, if_pos rfl, if_neg (h d rfl)]
theorem txt_ext (r : List UInt8) (hr : Bl r) : ∀ (l : List UInt8) (x : List UInt8 × Nat), txt l = some x → txt (l ++ r) = some x
  | [], x, h => by simp [txt] at h
  | [c], x, h => by
    unfold txt at h
    split at h
    · rename_i hc
      subst hc
      cases h
      exact txt_stop r (fun c hc => by rw [hr.head c hc]; decide)
    · cases h
  | c :: d :: l, x, h => by
    unfold txt at h
    show txt (c :: d :: (l ++ r)) = some x
    rw [txt]
    split at h
    · rename_i hc
      rw [if_pos hc]
      split at h
      · rename_i hd
        rw [if_pos hd]
        rw [Option.map_eq_some_iff] at h
        obtain ⟨y, hy, rfl⟩ := h
        rw [txt_ext r hr l y hy]; rfl
      · rename_i hd
        rw [if_neg hd]; exact h
    · rename_i hc
      rw [if_neg hc]
      rw [Option.map_eq_some_iff] at h
      obtain ⟨y, hy, rfl⟩ := h
      have := txt_ext r hr (d :: l) y hy
      rw [List.cons_append] at this
      rw [this]; rfl
theorem txt_blanks (r : List UInt8) (hr : ∀ c ∈ r, c = 32) : txt r = none := by
  induction r with
  | nil => rfl
  | cons c r ih =>
    rw [txt_cne c r (by rw [hr c (by simp)]; decide), ih (fun d hd => hr d (by simp [hd]))]; rfl
theorem txt_none (r : List UInt8) (hr : ∀ c ∈ r, c = 32) : ∀ (l : List UInt8), txt l = none → txt (l ++ r) = none
  | [], _ => txt_blanks r hr
  | [c], h => by
    unfold txt at h
    split at h
    · cases h
    · rename_i hc
      show txt (c :: r) = none
      rw [txt_cne c r hc, txt_blanks r hr]; rfl
  | c :: d :: l, h => by
    unfold txt at h
    show txt (c :: d :: (l ++ r)) = none
    rw [txt]
    split at h
    · rename_i hc
      rw [if_pos hc]
      split at h
      · rename_i hd
        rw [if_pos hd]
        rw [Option.map_eq_none_iff] at h
        rw [txt_none r hr l h]; rfl
      · cases h
    · rename_i hc
      rw [if_neg hc]
      rw [Option.map_eq_none_iff] at h
      have := txt_none r hr (d :: l) h
      rw [List.cons_append] at this
      rw [this]; rfl
theorem wdR_ext (l r : List UInt8) (hr : Bl r) : wdR (l ++ r) = wdR l := by
  unfold wdR
  rw [run_ext inW (by decide) l r hr, List.take_append_of_le_length (runL_le inW l)]
theorem pre_ext (p : List UInt8) : ∀ (l r : List UInt8), p.all (fun c => c != 32) = true → Bl r → p.isPrefixOf (l ++ r) = p.isPrefixOf l := by
  induction p with
  | nil => intro l r _ _; simp
  | cons a p ih =>
    intro l r hp hr
    rw [List.all_cons, Bool.and_eq_true] at hp
    cases l with
    | nil =>
      rcases hr with rfl | ⟨t, rfl⟩
      · rfl
      · have : (a == 32) = false := by simpa using hp.1
        simp [List.isPrefixOf, this]
    | cons b l => rw [List.cons_append, List.isPrefixOf_cons_cons, List.isPrefixOf_cons_cons, ih l r hp.2 hr]
theorem find_same {α : Type} {q q' : α → Bool} : ∀ (l : List α), (∀ x ∈ l, q x = q' x) → l.find? q = l.find? q'
  | [], _ => rfl
  | x :: l, h => by
    rw [List.find?_cons, List.find?_cons, h x (by simp), find_same l (fun y hy => h y (by simp [hy]))]
theorem errR_ext (l r : List UInt8) (hr : Bl r) : errR (l ++ r) = errR l := by
  have e : errT (l ++ r) = errT l := by
    unfold errT
    refine find_same errsL (fun x hx => pre_ext _ _ _ ?_ hr)
    have : errsL.all (fun x => x.2.all (fun c => c != 32)) = true := by decide
    exact List.all_eq_true.1 this x hx
  unfold errR; rw [e]
theorem sgR_ext (l r : List UInt8) (hr : Bl r) : sgR (l ++ r) = sgR l := by
  have e : sgT (l ++ r) = sgT l := by
    unfold sgT
    refine find_same sgsL (fun x hx => pre_ext _ _ _ ?_ hr)
    have : sgsL.all (fun x => x.all (fun c => c != 32)) = true := by decide
    exact List.all_eq_true.1 this x hx
  unfold sgR; rw [e]
theorem nxt_ext {l r : List UInt8} {x : Wd} (hr : Bl r) (h : nxt l = .ok x) : nxt (l ++ r) = .ok x := by
  cases l with
  | nil => cases h
  | cons c l =>
    rw [nxt_cons] at h
    have e : c :: l ++ r = c :: (l ++ r) := rfl
    rw [e, nxt_cons, ← e]
    rw [numR_ext _ r hr, wdR_ext _ r hr, errR_ext _ r hr, sgR_ext _ r hr]
    split at h
    · rename_i h1; rw [if_pos h1]; exact h
    · rename_i h1
      rw [if_neg h1]
      split at h
      · rename_i h2
        rw [if_pos h2]
        unfold txtR at h ⊢
        rw [e, List.tail_cons]
        rw [List.tail_cons] at h
        split at h
        · cases h
        · rename_i y hy
          rw [txt_ext r hr l y hy]; exact h
      · rename_i h2; rw [if_neg h2]; exact h
theorem nxt_ext_err {l r : List UInt8} {c : Int} (hl : l ≠ []) (hr : ∀ c ∈ r, c = 32) (hB : Bl r) (h : nxt l = .error c) : nxt (l ++ r) = .error c := by
  cases l with
  | nil => exact absurd rfl hl
  | cons d l =>
    rw [nxt_cons] at h
    have e : d :: l ++ r = d :: (l ++ r) := rfl
    rw [e, nxt_cons, ← e]
    rw [numR_ext _ r hB, wdR_ext _ r hB, errR_ext _ r hB, sgR_ext _ r hB]
    split at h
    · rename_i h1; rw [if_pos h1]; exact h
    · rename_i h1
      rw [if_neg h1]
      split at h
      · rename_i h2
        rw [if_pos h2]
        unfold txtR at h ⊢
        rw [e, List.tail_cons]
        rw [List.tail_cons] at h
        split at h
        · rename_i hy
          rw [txt_none r hr l hy]; exact h
        · cases h
      · rename_i h2; rw [if_neg h2]; exact h

/-! ### The words of a text, and of what comes behind it -/
theorem map_ok {e a b : Type} {f : a → b} {r : Except e a} {y : b} (h : r.map f = .ok y) : ∃ x, r = .ok x ∧ f x = y := by
  cases r with
  | error e => cases h
  | ok x => cases h; exact ⟨x, rfl, rfl⟩
theorem map_err {e a b : Type} {f : a → b} {r : Except e a} {y : e} (h : r.map f = .error y) : r = .error y := by
  cases r with
  | error e => cases h; rfl
  | ok x => cases h
theorem W_app (r : List UInt8) (hr : Bl r) (n : Nat) : ∀ (l : List UInt8) (p : Nat) (ts : List Tk), l.length ≤ n → W p l = .ok ts →
    ts = ts.dropLast ++ [endT (p + l.length)] ∧ W p (l ++ r) = (W (p + l.length) r).map (fun us => ts.dropLast ++ us) := by
  induction n with
  | zero =>
    intro l p ts hl h
    have : l = [] := List.eq_nil_of_length_eq_zero (by omega)
    subst this
    rw [W_nil] at h
    cases h
    refine ⟨rfl, ?_⟩
    show W p r = _
    cases W p r <;> rfl
  | succ n ih =>
    intro l p ts hl h
    cases l with
    | nil =>
      rw [W_nil] at h
      cases h
      refine ⟨rfl, ?_⟩
      show W p r = _
      cases W p r <;> rfl
    | cons c t =>
      by_cases hc : c = 32
      · subst hc
        rw [W_blank] at h
        have := ih t (p + 1) ts (by simpa using hl) h
        have e : p + 1 + t.length = p + (t.length + 1) := by omega
        rw [e] at this
        refine ⟨this.1, ?_⟩
        rw [List.cons_append, W_blank]
        exact this.2
      · rw [W_cons p c t hc] at h
        cases hx : nxt (c :: t) with
        | error e => rw [hx] at h; cases h
        | ok x =>
          rw [hx] at h
          simp only [] at h
          obtain ⟨us, hu, rfl⟩ := map_ok h
          have hm := nxt_pos hx
          simp only [List.length_cons] at hm
          have i1 := ih ((c :: t).drop x.2.2.2.2) (p + x.2.2.2.2) us (by simp at hl ⊢; omega) hu
          have e : p + x.2.2.2.2 + ((c :: t).drop x.2.2.2.2).length = p + (c :: t).length := by simp; omega
          rw [e] at i1
          have hne : us ≠ [] := by intro h0; rw [h0] at i1; simp at i1
          have hd : (tkOf x p :: us).dropLast = tkOf x p :: us.dropLast := List.dropLast_cons_of_ne_nil hne
          refine ⟨?_, ?_⟩
          · rw [hd, List.cons_append, ← i1.1]
          · have e2 : c :: t ++ r = c :: (t ++ r) := rfl
            rw [e2, W_cons p c (t ++ r) hc, ← e2, nxt_ext hr hx]
            simp only []
            rw [List.drop_append_of_le_length (by simp; omega), i1.2, hd]
            cases W (p + (c :: t).length) r <;> rfl
theorem W_app_err (r : List UInt8) (hr : ∀ c ∈ r, c = 32) (hB : Bl r) (n : Nat) : ∀ (l : List UInt8) (p : Nat) (y : Nat × Int), l.length ≤ n → W p l = .error y → W p (l ++ r) = .error y := by
  induction n with
  | zero =>
    intro l p ts hl h
    have : l = [] := List.eq_nil_of_length_eq_zero (by omega)
    subst this
    rw [W_nil] at h
    cases h
  | succ n ih =>
    intro l p y hl h
    cases l with
    | nil => rw [W_nil] at h; cases h
    | cons c t =>
      by_cases hc : c = 32
      · subst hc
        rw [W_blank] at h
        rw [List.cons_append, W_blank]
        exact ih t (p + 1) y (by simpa using hl) h
      · rw [W_cons p c t hc] at h
        have e2 : c :: t ++ r = c :: (t ++ r) := rfl
        rw [e2, W_cons p c (t ++ r) hc, ← e2]
        cases hx : nxt (c :: t) with
        | error e =>
          rw [hx] at h
          rw [nxt_ext_err (by simp) hr hB hx]; exact h
        | ok x =>
          rw [hx] at h
          simp only [] at h
          have h1 := map_err h
          have hm := nxt_pos hx
          simp only [List.length_cons] at hm
          rw [nxt_ext hB hx]
          simp only []
          rw [List.drop_append_of_le_length (by simp; omega), ih ((c :: t).drop x.2.2.2.2) (p + x.2.2.2.2) y (by simp at hl ⊢; omega) h1]; rfl
/-- Words that are moved. -/
def mvT (a : Nat) (t : Tk) : Tk := (t.1, t.2.1 + (a : Int), t.2.2.1, t.2.2.2.1, t.2.2.2.2)
def mvR (a : Nat) (r : Except (Nat × Int) (List Tk)) : Except (Nat × Int) (List Tk) := match r with
  | .ok ts => .ok (ts.map (mvT a))
  | .error x => .error (x.1 + a, x.2)
theorem W_move (a n : Nat) : ∀ (l : List UInt8) (p : Nat), l.length ≤ n → W (p + a) l = mvR a (W p l) := by
  induction n with
  | zero =>
    intro l p hl
    have : l = [] := List.eq_nil_of_length_eq_zero (by omega)
    subst this
    simp [W_nil, mvR, mvT, endT]
  | succ n ih =>
    intro l p hl
    cases l with
    | nil => simp [W_nil, mvR, mvT, endT]
    | cons c t =>
      by_cases hc : c = 32
      · subst hc
        rw [W_blank, W_blank, ← ih t (p + 1) (by simpa using hl)]
        congr 1; omega
      · rw [W_cons _ c t hc, W_cons p c t hc]
        cases hx : nxt (c :: t) with
        | error e => rfl
        | ok x =>
          have hm := nxt_pos hx
          simp only [List.length_cons] at hm
          have i1 := ih ((c :: t).drop x.2.2.2.2) (p + x.2.2.2.2) (by simp at hl ⊢; omega)
          have e : p + a + x.2.2.2.2 = p + x.2.2.2.2 + a := by omega
          simp only []
          rw [e, i1]
          cases W (p + x.2.2.2.2) ((c :: t).drop x.2.2.2.2) with
          | error y => rfl
          | ok us => simp [mvR, Except.map, mvT, tkOf]
theorem W_ahead (a p : Nat) (l : List UInt8) : W p (bl a ++ l) = W (p + a) l := by
  induction a generalizing p with
  | zero => rfl
  | succ a ih =>
    show W p (32 :: (bl a ++ l)) = _
    rw [W_blank, ih (p + 1)]
    congr 1; omega
theorem W_bl (b p : Nat) : W p (bl b) = .ok [endT (p + b)] := by
  have := W_ahead b p []
  rw [List.append_nil, W_nil] at this
  exact this

/-! ### Where words stand -/
def Gd (l : List UInt8) (a : Nat) (t : Tk) : Prop := t.2.1 = (a : Int) ∧ a ≤ l.length ∧ ((t.1 = 2 ∨ t.1 = 3) → a + t.2.2.1.length ≤ l.length ∧ (l.drop a).take t.2.2.1.length = t.2.2.1) ∧ (∀ h : a < l.length, l[a] ≠ 32)
def Ord7 (l : List UInt8) : Nat → List Tk → Prop
  | _, [] => True
  | p, t :: r => ∃ a, p ≤ a ∧ Gd l a t ∧ Ord7 l (a + 1) r
theorem Ord7.mono {l : List UInt8} {p q : Nat} {ts : List Tk} (h : Ord7 l p ts) (hq : q ≤ p) : Ord7 l q ts := by
  cases ts with
  | nil => trivial
  | cons t r => obtain ⟨a, h1, h2⟩ := h; exact ⟨a, by omega, h2⟩
theorem nxt_said {l : List UInt8} {x : Wd} (h : nxt l = .ok x) (hk : x.1 = 2 ∨ x.1 = 3) : x.2.1.length = x.2.2.2.2 ∧ l.take x.2.2.2.2 = x.2.1 := by
  cases l with
  | nil => cases h
  | cons c r =>
    rw [nxt_cons] at h
    split at h
    · unfold numR at h
      split at h
      · cases h
      · split at h
        · cases h
        · cases h; simp at hk
    · split at h
      · unfold txtR at h
        split at h
        · cases h
        · cases h; simp at hk
      · split at h
        · unfold wdR at h
          cases h
          have := runL_le inW (c :: r)
          exact ⟨by rw [List.length_take]; simp only []; omega, rfl⟩
        · split at h
          · unfold errR at h
            split at h
            · cases h
            · cases h; simp at hk
          · unfold sgR at h
            split at h
            · cases h
            · rename_i p hp
              cases h
              exact ⟨rfl, (sgT_le hp).2.2⟩
theorem W_good (l : List UInt8) (n : Nat) : ∀ (p : Nat) (ts : List Tk), l.length - p ≤ n → p ≤ l.length → W p (l.drop p) = .ok ts → Ord7 l p ts := by
  induction n with
  | zero =>
    intro p ts hn hp h
    rw [List.drop_eq_nil_of_le (by omega), W_nil] at h
    cases h
    exact ⟨p, Nat.le_refl _, ⟨rfl, hp, fun h => by simp [endT] at h, fun h => by omega⟩, trivial⟩
  | succ n ih =>
    intro p ts hn hp h
    rcases Nat.lt_or_ge p l.length with hlt | hge
    · by_cases hc : l[p] = 32
      · rw [List.drop_eq_getElem_cons hlt, hc, W_blank] at h
        exact (ih (p + 1) ts (by omega) hlt h).mono (by omega)
      · have e := W_cons p l[p] (l.drop (p + 1)) hc
        rw [← List.drop_eq_getElem_cons hlt] at e
        rw [e] at h
        cases hx : nxt (l.drop p) with
        | error e => rw [hx] at h; cases h
        | ok x =>
          rw [hx] at h
          simp only [] at h
          obtain ⟨us, hu, rfl⟩ := map_ok h
          have hm := nxt_pos hx
          rw [List.length_drop] at hm
          rw [List.drop_drop] at hu
          have i1 := ih (p + x.2.2.2.2) us (by omega) (by omega) hu
          refine ⟨p, Nat.le_refl _, ⟨rfl, hp, fun hk => ?_, fun _ => hc⟩, i1.mono (by omega)⟩
          have := nxt_said hx hk
          show p + x.2.1.length ≤ l.length ∧ (l.drop p).take x.2.1.length = x.2.1
          rw [this.1]
          exact ⟨by omega, this.2⟩
    · rw [List.drop_eq_nil_of_le hge, W_nil] at h
      cases h
      exact ⟨p, Nat.le_refl _, ⟨rfl, hp, fun h => by simp [endT] at h, fun h => by omega⟩, trivial⟩
theorem Ord7.at {l : List UInt8} : ∀ (ts : List Tk) (p i : Nat) (t : Tk), Ord7 l p ts → ts[i]? = some t → ∃ a, p ≤ a ∧ Gd l a t ∧ Ord7 l (a + 1) (ts.drop (i + 1))
  | [], _, _, _, _, h => by simp at h
  | s :: r, p, 0, t, h, hi => by
    simp at hi
    subst hi
    exact h
  | s :: r, p, i + 1, t, h, hi => by
    obtain ⟨a, h1, h2, h3⟩ := h
    obtain ⟨b, h4, h5⟩ := Ord7.at r (a + 1) i t h3 (by simpa using hi)
    exact ⟨b, by omega, h5⟩
theorem Ord7.next {l : List UInt8} {ts : List Tk} {p i : Nat} {t u : Tk} (h : Ord7 l p ts) (h1 : ts[i]? = some t) (h2 : ts[i + 1]? = some u) : t.2.1 < u.2.1 := by
  obtain ⟨a, _, g1, g2⟩ := h.at ts p i t h1
  obtain ⟨b, k1, k2, _⟩ := g2.at _ _ 0 u (by rw [List.getElem?_drop]; exact h2)
  rw [g1.1, k2.1]; omega
/-- As many words as bytes, and one. -/
theorem W_count (n : Nat) : ∀ (l : List UInt8) (p : Nat) (ts : List Tk), l.length ≤ n → W p l = .ok ts → ts.length ≤ l.length + 1 ∧ 1 ≤ ts.length := by
  induction n with
  | zero =>
    intro l p ts hl h
    have : l = [] := List.eq_nil_of_length_eq_zero (by omega)
    subst this
    rw [W_nil] at h; cases h; simp
  | succ n ih =>
    intro l p ts hl h
    cases l with
    | nil => rw [W_nil] at h; cases h; simp
    | cons c t =>
      by_cases hc : c = 32
      · subst hc
        rw [W_blank] at h
        have := ih t (p + 1) ts (by simpa using hl) h
        simp; omega
      · rw [W_cons p c t hc] at h
        cases hx : nxt (c :: t) with
        | error e => rw [hx] at h; cases h
        | ok x =>
          rw [hx] at h
          simp only [] at h
          obtain ⟨us, hu, rfl⟩ := map_ok h
          have hm := nxt_pos hx
          simp only [List.length_cons] at hm
          have := ih ((c :: t).drop x.2.2.2.2) (p + x.2.2.2.2) us (by simp at hl ⊢; omega) hu
          simp at this ⊢; omega
theorem nxt_code {l : List UInt8} {c : Int} (h : nxt l = .error c) : c = 4 ∨ c = 2 := by
  cases l with
  | nil => cases h; exact .inl rfl
  | cons d r =>
    rw [nxt_cons] at h
    split at h
    · unfold numR at h
      split at h
      · cases h; exact .inl rfl
      · split at h
        · cases h; exact .inr rfl
        · cases h
    · split at h
      · unfold txtR at h
        split at h
        · cases h; exact .inl rfl
        · cases h
      · split at h
        · cases h
        · split at h
          · unfold errR at h
            split at h
            · cases h; exact .inl rfl
            · cases h
          · unfold sgR at h
            split at h
            · cases h; exact .inl rfl
            · cases h
theorem W_code (n : Nat) : ∀ (l : List UInt8) (p : Nat) (y : Nat × Int), l.length ≤ n → W p l = .error y → y.2 = 4 ∨ y.2 = 2 := by
  induction n with
  | zero =>
    intro l p y hl h
    have : l = [] := List.eq_nil_of_length_eq_zero (by omega)
    subst this
    rw [W_nil] at h; cases h
  | succ n ih =>
    intro l p y hl h
    cases l with
    | nil => rw [W_nil] at h; cases h
    | cons c t =>
      by_cases hc : c = 32
      · subst hc
        rw [W_blank] at h
        exact ih t (p + 1) y (by simpa using hl) h
      · rw [W_cons p c t hc] at h
        cases hx : nxt (c :: t) with
        | error e => rw [hx] at h; cases h; exact nxt_code hx
        | ok x =>
          rw [hx] at h
          have hm := nxt_pos hx
          simp only [List.length_cons] at hm
          exact ih _ _ y (by simp at hl ⊢; omega) (map_err h)
/-- What is answered: the words, or none, and why. -/
theorem lexR_cases (l : List UInt8) : (∃ ts, l.length ≤ 300 ∧ W 0 l = .ok ts ∧ lexR l = (ts, 0, 0)) ∨ (∃ p c, lexR l = ([], p, c) ∧ (c = 2 ∨ c = 4) ∧ (300 < l.length ∧ p = 0 ∧ c = 2 ∨ l.length ≤ 300 ∧ ∃ q : Nat, p = (q : Int) ∧ W 0 l = .error (q, c))) := by
  by_cases h : 300 < l.length
  · exact .inr ⟨0, 2, by unfold lexR; rw [if_pos h], .inl rfl, .inl ⟨h, rfl, rfl⟩⟩
  · cases hw : W 0 l with
    | ok ts => exact .inl ⟨ts, by omega, rfl, by unfold lexR; rw [if_neg h, hw]⟩
    | error y => exact .inr ⟨(y.1 : Int), y.2, by unfold lexR; rw [if_neg h, hw], (W_code l.length l 0 y (Nat.le_refl _) hw).symm, .inr ⟨by omega, y.1, rfl, rfl⟩⟩
end Go.Proofs.YtfppjnigbodphaaDoor
