import Derived.Test.YtjhmbkdkjgjoaaaX18
import Derived.Laws.EntriesVeiled
import Derived.Test.YtjhmbkdkjgjoaaaX14
import Derived.Test.YtjhmbkdkjgjoaaaX9
import Derived.Defers
import Derived.Recover
import Derived.Test.YtjhmbkdkjgjoaaaX1
import Derived.Test.YtjhmbkdkjgjoaaaX7
namespace Go.Proofs.Ytjhmbkdkjgjoaaa
open Go.RowKit
set_option maxHeartbeats 6000000
open Go.RowKit
set_option maxHeartbeats 6000000
open Go.RowKit
def Bl (r : List UInt8) : Prop := r = [] ∨ ∃ t, r = 32 :: t
def bl (n : Nat) : List UInt8 := List.replicate n 32
theorem Bl.head {r : List UInt8} (h : Bl r) (c : UInt8) (hc : r[0]? = some c) : c = 32 := by
 rcases h with rfl | ⟨t, rfl⟩
 · cases hc
 · simpa using hc.symm
theorem txt_stop (r : List UInt8) (h : ∀ c, r[0]? = some c → c ≠ 34) : txt (34 :: r) = some ([], 1) := by
 cases r with
 | nil => simp [txt]
 | cons d r => rw [txt, if_pos rfl, if_neg (h d rfl)]
theorem find_same {α : Type} {q q' : α → Bool} : ∀ (l : List α), (∀ x ∈ l, q x = q' x) → l.find? q = l.find? q'
 | [], _ => rfl
 | x :: l, h => by
   rw [List.find?_cons, List.find?_cons, h x (by simp), find_same l (fun y hy => h y (by simp [hy]))]
theorem map_ok {e a b : Type} {f : a → b} {r : Except e a} {y : b} (h : r.map f = .ok y) : ∃ x, r = .ok x ∧ f x = y := by
 cases r with
 | error e => cases h
 | ok x => cases h; exact ⟨x, rfl, rfl⟩
theorem map_err {e a b : Type} {f : a → b} {r : Except e a} {y : e} (h : r.map f = .error y) : r = .error y := by
 cases r with
 | error e => cases h; rfl
 | ok x => cases h
def mvT (a : Nat) (t : Tk) : Tk := (t.1, t.2.1 + (a : Int), t.2.2.1, t.2.2.2.1, t.2.2.2.2)
def Gd (l : List UInt8) (a : Nat) (t : Tk) : Prop := t.2.1 = (a : Int) ∧ a ≤ l.length ∧ ((t.1 = 2 ∨ t.1 = 3) → a + t.2.2.1.length ≤ l.length ∧ (l.drop a).take t.2.2.1.length = t.2.2.1) ∧ (∀ h : a < l.length, l[a] ≠ 32)
def Ord7 (l : List UInt8) : Nat → List Tk → Prop
 | _, [] => True
 | p, t :: r => ∃ a, p ≤ a ∧ Gd l a t ∧ Ord7 l (a + 1) r
theorem Ord7.mono {l : List UInt8} {p q : Nat} {ts : List Tk} (h : Ord7 l p ts) (hq : q ≤ p) : Ord7 l q ts := by
 cases ts with
 | nil => trivial
 | cons t r => obtain ⟨a, h1, h2⟩ := h; exact ⟨a, by omega, h2⟩
theorem Ord7.at {l : List UInt8} : ∀ (ts : List Tk) (p i : Nat) (t : Tk), Ord7 l p ts → ts[i]? = some t → ∃ a, p ≤ a ∧ Gd l a t ∧ Ord7 l (a + 1) (ts.drop (i + 1))
 | [], _, _, _, _, h => by simp at h
 | s :: r, p, 0, t, h, hi => by
   simp at hi
   subst hi
   exact h
 | s :: r, p, i + 1, t, h, hi => by
   obtain ⟨a, h1, h2, h3⟩ := h
   obtain ⟨b, h4, h5⟩ := Ord7.at r (a + 1) i t h3 (by simpa using hi)
   exact ⟨b, by omega, h5⟩
theorem Ord7.next {l : List UInt8} {ts : List Tk} {p i : Nat} {t u : Tk} (h : Ord7 l p ts) (h1 : ts[i]? = some t) (h2 : ts[i + 1]? = some u) : t.2.1 < u.2.1 := by
 obtain ⟨a, _, g1, g2⟩ := h.at ts p i t h1
 obtain ⟨b, k1, k2, _⟩ := g2.at _ _ 0 u (by rw [List.getElem?_drop]; exact h2)
 rw [g1.1, k2.1]; omega
theorem W_count (n : Nat) : ∀ (l : List UInt8) (p : Nat) (ts : List Tk), l.length ≤ n → W p l = .ok ts → ts.length ≤ l.length + 1 ∧ 1 ≤ ts.length := by
 induction n with
 | zero =>
   intro l p ts hl h
   have : l = [] := List.eq_nil_of_length_eq_zero (by omega)
   subst this
   rw [W_nil] at h; cases h; simp
 | succ n ih =>
   intro l p ts hl h
   cases l with
   | nil => rw [W_nil] at h; cases h; simp
   | cons c t =>
     by_cases hc : c = 32
     · subst hc
       rw [W_blank] at h
       have := ih t (p + 1) ts (by simpa using hl) h
       simp; omega
     · rw [W_cons p c t hc] at h
       cases hx : nxt (c :: t) with
       | error e => rw [hx] at h; cases h
       | ok x =>
         rw [hx] at h
         simp only [] at h
         obtain ⟨us, hu, rfl⟩ := map_ok h
         have hm := nxt_pos hx
         simp only [List.length_cons] at hm
         have := ih ((c :: t).drop x.2.2.2.2) (p + x.2.2.2.2) us (by simp at hl ⊢; omega) hu
         simp at this ⊢; omega
theorem nxt_code {l : List UInt8} {c : Int} (h : nxt l = .error c) : c = 4 ∨ c = 2 := by
 cases l with
 | nil => cases h; exact .inl rfl
 | cons d r =>
   rw [nxt_cons] at h
   split at h
   · unfold nuRL at h
     split at h
     · cases h; exact .inl rfl
     · split at h
       · cases h; exact .inr rfl
       · cases h
   · split at h
     · unfold txtR at h
       split at h
       · cases h; exact .inl rfl
       · cases h
     · split at h
       · cases h
       · split at h
         · unfold errR at h
           split at h
           · cases h; exact .inl rfl
           · cases h
         · unfold sgR at h
           split at h
           · cases h; exact .inl rfl
           · cases h
theorem W_code (n : Nat) : ∀ (l : List UInt8) (p : Nat) (y : Nat × Int), l.length ≤ n → W p l = .error y → y.2 = 4 ∨ y.2 = 2 := by
 induction n with
 | zero =>
   intro l p y hl h
   have : l = [] := List.eq_nil_of_length_eq_zero (by omega)
   subst this
   rw [W_nil] at h; cases h
 | succ n ih =>
   intro l p y hl h
   cases l with
   | nil => rw [W_nil] at h; cases h
   | cons c t =>
     by_cases hc : c = 32
     · subst hc
       rw [W_blank] at h
       exact ih t (p + 1) y (by simpa using hl) h
     · rw [W_cons p c t hc] at h
       cases hx : nxt (c :: t) with
       | error e => rw [hx] at h; cases h; exact nxt_code hx
       | ok x =>
         rw [hx] at h
         have hm := nxt_pos hx
         simp only [List.length_cons] at hm
         exact ih _ _ y (by simp at hl ⊢; omega) (map_err h)
theorem lexR_cases (l : List UInt8) : (∃ ts, l.length ≤ 300 ∧ W 0 l = .ok ts ∧ lexR l = (ts, 0, 0)) ∨ (∃ p c, lexR l = ([], p, c) ∧ (c = 2 ∨ c = 4) ∧ (300 < l.length ∧ p = 0 ∧ c = 2 ∨ l.length ≤ 300 ∧ ∃ q : Nat, p = (q : Int) ∧ W 0 l = .error (q, c))) := by
 by_cases h : 300 < l.length
 · exact .inr ⟨0, 2, by unfold lexR; rw [if_pos h], .inl rfl, .inl ⟨h, rfl, rfl⟩⟩
 · cases hw : W 0 l with
   | ok ts => exact .inl ⟨ts, by omega, rfl, by unfold lexR; rw [if_neg h, hw]⟩
   | error y => exact .inr ⟨(y.1 : Int), y.2, by unfold lexR; rw [if_neg h, hw], (W_code l.length l 0 y (Nat.le_refl _) hw).symm, .inr ⟨by omega, y.1, rfl, rfl⟩⟩
open Go.RowKit
def Sp (r : List UInt8) : Prop := r = [] ∨ ∃ c t, r = c :: t ∧ (c = 32 ∨ c = 41 ∨ c = 44)
theorem Sp.head {r : List UInt8} (h : Sp r) (c : UInt8) (hc : r[0]? = some c) : c = 32 ∨ c = 41 ∨ c = 44 := by
 rcases h with rfl | ⟨d, t, rfl, h⟩
 · cases hc
 · simp at hc; subst hc; exact h
theorem run_sp (p : UInt8 → Bool) (hp : p 32 = false ∧ p 41 = false ∧ p 44 = false) (l r : List UInt8) (hr : Sp r) : run p (l ++ r) = run p l := by
 induction l with
 | nil =>
   rcases hr with rfl | ⟨c, t, rfl, h⟩
   · rfl
   · rw [List.nil_append, run_cons, run_nil, if_neg]
     rcases h with rfl | rfl | rfl <;> simp [hp.1, hp.2.1, hp.2.2]
 | cons c l ih => rw [List.cons_append, run_cons, run_cons, ih]
theorem numE_sp (l r : List UInt8) (hr : Sp r) : numE (l ++ r) = numE l := by
 unfold numE
 rw [run_sp dgB (by decide) l r hr]
 have hn := runL_le dgB l
 by_cases h : run dgB l < l.length
 · rw [List.getElem?_append_left h, List.drop_append_of_le_length (by omega), run_sp dgB (by decide) _ r hr]
 · have e : run dgB l = l.length := by omega
   rw [e]
   have h1 : (l ++ r)[l.length]? = r[0]? := by rw [List.getElem?_append_right (Nat.le_refl _), Nat.sub_self]
   rw [h1, if_neg, if_neg]
   · rintro ⟨h2, _⟩; rw [List.getElem?_eq_none (Nat.le_refl _)] at h2; cases h2
   · rintro ⟨h2, _⟩; exact absurd (hr.head _ h2) (by decide)
theorem numR_sp (l r : List UInt8) (hr : Sp r) : nuRL (l ++ r) = nuRL l := by
 unfold nuRL
 rw [numE_sp l r hr, List.take_append_of_le_length (numE_le l)]
theorem txt_sp (r : List UInt8) (hr : Sp r) : ∀ (l : List UInt8) (x : List UInt8 × Nat), txt l = some x → txt (l ++ r) = some x
 | [], x, h => by simp [txt] at h
 | [c], x, h => by
   unfold txt at h
   split at h
   · rename_i hc
     subst hc
     cases h
     exact txt_stop r (fun c hc => by rcases hr.head c hc with rfl | rfl | rfl <;> decide)
   · cases h
 | c :: d :: l, x, h => by
   unfold txt at h
   show txt (c :: d :: (l ++ r)) = some x
   rw [txt]
   split at h
   · rename_i hc
     rw [if_pos hc]
     split at h
     · rename_i hd
       rw [if_pos hd]
       rw [Option.map_eq_some_iff] at h
       obtain ⟨y, hy, rfl⟩ := h
       rw [txt_sp r hr l y hy]; rfl
     · rename_i hd
       rw [if_neg hd]; exact h
   · rename_i hc
     rw [if_neg hc]
     rw [Option.map_eq_some_iff] at h
     obtain ⟨y, hy, rfl⟩ := h
     have := txt_sp r hr (d :: l) y hy
     rw [List.cons_append] at this
     rw [this]; rfl
theorem wdR_sp (l r : List UInt8) (hr : Sp r) : wdR (l ++ r) = wdR l := by
 unfold wdR
 rw [run_sp inW (by decide) l r hr, List.take_append_of_le_length (runL_le inW l)]
def spB (c : UInt8) : Bool := c != 32 && c != 41 && c != 44
theorem pre_sp (p : List UInt8) : ∀ (l r : List UInt8), p.all spB = true → Sp r → p.isPrefixOf (l ++ r) = p.isPrefixOf l := by
 induction p with
 | nil => intro l r _ _; simp
 | cons a p ih =>
   intro l r hp hr
   rw [List.all_cons, Bool.and_eq_true] at hp
   cases l with
   | nil =>
     rcases hr with rfl | ⟨c, t, rfl, h⟩
     · rfl
     · have : (a == c) = false := by
         have := hp.1
         unfold spB at this
         simp at this
         rcases h with rfl | rfl | rfl <;> simp [this]
       simp [List.isPrefixOf, this]
   | cons b l => rw [List.cons_append, List.isPrefixOf_cons_cons, List.isPrefixOf_cons_cons, ih l r hp.2 hr]
theorem errR_sp (l r : List UInt8) (hr : Sp r) : errR (l ++ r) = errR l := by
 have e : errT (l ++ r) = errT l := by
   unfold errT
   refine find_same errsL (fun x hx => pre_sp _ _ _ ?_ hr)
   have : errsL.all (fun x => x.2.all spB) = true := by decide
   exact List.all_eq_true.1 this x hx
 unfold errR; rw [e]
theorem sgR_sp (c : UInt8) (l r : List UInt8) (hr : Sp r) : sgR (c :: l ++ r) = sgR (c :: l) := by
 have e : sgT (c :: l ++ r) = sgT (c :: l) := by
   unfold sgT
   refine find_same sgsL (fun x hx => ?_)
   have : sgsL.all (fun x => x.tail.all spB) = true := by decide
   have h1 := List.all_eq_true.1 this x hx
   cases x with
   | nil => simp
   | cons a p => rw [List.cons_append, List.isPrefixOf_cons_cons, List.isPrefixOf_cons_cons, pre_sp p l r h1 hr]
 unfold sgR; rw [e]
theorem nxt_sp {l r : List UInt8} {x : Wd} (hr : Sp r) (h : nxt l = .ok x) : nxt (l ++ r) = .ok x := by
 cases l with
 | nil => cases h
 | cons c l =>
   rw [nxt_cons] at h
   have e : c :: l ++ r = c :: (l ++ r) := rfl
   rw [e, nxt_cons, ← e]
   rw [numR_sp _ r hr, wdR_sp _ r hr, errR_sp _ r hr, sgR_sp _ _ r hr]
   split at h
   · rename_i h1; rw [if_pos h1]; exact h
   · rename_i h1
     rw [if_neg h1]
     split at h
     · rename_i h2
       rw [if_pos h2]
       unfold txtR at h ⊢
       rw [e, List.tail_cons]
       rw [List.tail_cons] at h
       split at h
       · cases h
       · rename_i y hy
         rw [txt_sp r hr l y hy]; exact h
     · rename_i h2; rw [if_neg h2]; exact h
theorem nxt_kind {l : List UInt8} {x : Wd} (h : nxt l = .ok x) : x.1 ≠ 5 := by
 cases l with
 | nil => cases h
 | cons c l =>
   rw [nxt_cons] at h
   split at h
   · unfold nuRL at h
     split at h
     · cases h
     · split at h
       · cases h
       · cases h; show (0 : Int) ≠ 5; decide
   · split at h
     · unfold txtR at h
       split at h
       · cases h
       · cases h; show (1 : Int) ≠ 5; decide
     · split at h
       · unfold wdR at h
         cases h; show (2 : Int) ≠ 5; decide
       · split at h
         · unfold errR at h
           split at h
           · cases h
           · cases h; show (4 : Int) ≠ 5; decide
         · unfold sgR at h
           split at h
           · cases h
           · cases h; show (3 : Int) ≠ 5; decide
theorem W_sp (r : List UInt8) (hr : Sp r) (n : Nat) : ∀ (l : List UInt8) (p : Nat) (ts : List Tk), l.length ≤ n → W p l = .ok ts →
   ts = ts.dropLast ++ [endT (p + l.length)] ∧ (∀ t ∈ ts.dropLast, t.1 ≠ 5) ∧ W p (l ++ r) = (W (p + l.length) r).map (fun us => ts.dropLast ++ us) := by
 induction n with
 | zero =>
   intro l p ts hl h
   have : l = [] := List.eq_nil_of_length_eq_zero (by omega)
   subst this
   rw [W_nil] at h
   cases h
   refine ⟨rfl, by simp, ?_⟩
   show W p r = _
   cases W p r <;> rfl
 | succ n ih =>
   intro l p ts hl h
   cases l with
   | nil =>
     rw [W_nil] at h
     cases h
     refine ⟨rfl, by simp, ?_⟩
     show W p r = _
     cases W p r <;> rfl
   | cons c t =>
     by_cases hc : c = 32
     · subst hc
       rw [W_blank] at h
       have := ih t (p + 1) ts (by simpa using hl) h
       have e : p + 1 + t.length = p + (t.length + 1) := by omega
       rw [e] at this
       refine ⟨this.1, this.2.1, ?_⟩
       rw [List.cons_append, W_blank]
       exact this.2.2
     · rw [W_cons p c t hc] at h
       cases hx : nxt (c :: t) with
       | error e => rw [hx] at h; cases h
       | ok x =>
         rw [hx] at h
         simp only [] at h
         obtain ⟨us, hu, rfl⟩ := map_ok h
         have hm := nxt_pos hx
         simp only [List.length_cons] at hm
         have i1 := ih ((c :: t).drop x.2.2.2.2) (p + x.2.2.2.2) us (by simp at hl ⊢; omega) hu
         have e : p + x.2.2.2.2 + ((c :: t).drop x.2.2.2.2).length = p + (c :: t).length := by simp; omega
         rw [e] at i1
         have hne : us ≠ [] := by intro h0; rw [h0] at i1; simp at i1
         have hd : (tkOf x p :: us).dropLast = tkOf x p :: us.dropLast := List.dropLast_cons_of_ne_nil hne
         refine ⟨?_, ?_, ?_⟩
         · rw [hd, List.cons_append, ← i1.1]
         · rw [hd]
           intro t ht
           rcases List.mem_cons.1 ht with rfl | ht
           · exact nxt_kind hx
           · exact i1.2.1 t ht
         · have e2 : c :: t ++ r = c :: (t ++ r) := rfl
           rw [e2, W_cons p c (t ++ r) hc, ← e2, nxt_sp hr hx]
           simp only []
           rw [List.drop_append_of_le_length (by simp; omega), i1.2.2, hd]
           cases W (p + (c :: t).length) r <;> rfl
theorem rt_of (tl : List Tk) (a : Nat) : ∀ (us : List Tk) (e : Tk), (∀ t ∈ us, t.1 ≠ 5) → e.1 = 5 → Rt tl (us ++ [e]) (us.map (mvT a) ++ tl)
 | [], e, _, h => .nil e h
 | t :: us, e, hu, h => .cons t (mvT a t) _ _ (hu t (by simp)) rfl rfl (rt_of tl a us e (fun x hx => hu x (by simp [hx])) h)
theorem W_rt {l : List UInt8} {ts : List Tk} (tl : List Tk) (a : Nat) (h : W 0 l = .ok ts) : Rt tl ts (ts.dropLast.map (mvT a) ++ tl) := by
 obtain ⟨h1, h2, _⟩ := W_sp [] (.inl rfl) l.length l 0 ts (Nat.le_refl _) h
 have := rt_of tl a ts.dropLast (endT (0 + l.length)) h2 rfl
 rwa [← h1] at this
theorem W_nz {l : List UInt8} {ts : List Tk} (h : W 0 l = .ok ts) : Nz ts := (W_rt [] 0 h).nz
open Go.RowKit
open Go.RowKit
set_option maxHeartbeats 6000000
theorem txt_len : ∀ (l : List UInt8) (x : List UInt8 × Nat), txt l = some x → x.1.length ≤ x.2
 | [], x, h => by simp [txt] at h
 | [c], x, h => by
   unfold txt at h
   split at h
   · cases h; simp
   · cases h
 | c :: d :: r, x, h => by
   unfold txt at h
   split at h
   · split at h
     · rw [Option.map_eq_some_iff] at h
       obtain ⟨y, hy, rfl⟩ := h
       have := txt_len r y hy
       simp; omega
     · cases h; simp
   · rw [Option.map_eq_some_iff] at h
     obtain ⟨y, hy, rfl⟩ := h
     have := txt_len (d :: r) y hy
     simp; omega
theorem nxt_len {l : List UInt8} {x : Wd} (h : nxt l = .ok x) : x.2.1.length ≤ x.2.2.2.2 := by
 cases l with
 | nil => cases h
 | cons c l =>
   rw [nxt_cons] at h
   split at h
   · unfold nuRL at h
     split at h
     · cases h
     · split at h
       · cases h
       · cases h; exact Nat.zero_le _
   · split at h
     · unfold txtR at h
       split at h
       · cases h
       · rename_i y hy
         cases h
         have := txt_len _ _ hy
         show y.1.length ≤ y.2 + 1
         omega
     · split at h
       · unfold wdR at h
         cases h
         show (List.take _ _).length ≤ _
         rw [List.length_take]; exact Nat.min_le_left _ _
       · split at h
         · unfold errR at h
           split at h
           · cases h
           · cases h; exact Nat.zero_le _
         · unfold sgR at h
           split at h
           · cases h
           · cases h; exact Nat.le_refl _
theorem W_len (n : Nat) : ∀ (l : List UInt8) (p : Nat) (ts : List Tk), l.length ≤ n → W p l = .ok ts → ∀ t ∈ ts, t.2.2.1.length ≤ l.length := by
 induction n with
 | zero =>
   intro l p ts hl h
   have : l = [] := List.eq_nil_of_length_eq_zero (by omega)
   subst this
   rw [W_nil] at h
   cases h
   intro t ht; simp at ht; subst ht; simp [endT]
 | succ n ih =>
   intro l p ts hl h
   cases l with
   | nil =>
     rw [W_nil] at h
     cases h
     intro t ht; simp at ht; subst ht; simp [endT]
   | cons c r =>
     by_cases hc : c = 32
     · subst hc
       rw [W_blank] at h
       intro t ht
       have := ih r (p + 1) ts (by simpa using hl) h t ht
       simp; omega
     · rw [W_cons p c r hc] at h
       cases hx : nxt (c :: r) with
       | error e => rw [hx] at h; cases h
       | ok x =>
         rw [hx] at h
         simp only [] at h
         obtain ⟨us, hu, rfl⟩ := map_ok h
         have hm := nxt_pos hx
         simp only [List.length_cons] at hm
         intro t ht
         rcases List.mem_cons.1 ht with rfl | ht
         · have := nxt_len hx
           show x.2.1.length ≤ _
           simp; omega
         · have := ih ((c :: r).drop x.2.2.2.2) (p + x.2.2.2.2) us (by simp at hl ⊢; omega) hu t ht
           simp at this ⊢; omega
theorem nxt_kd {l : List UInt8} {x : Wd} (h : nxt l = .ok x) : 0 ≤ x.1 ∧ x.1 ≤ 4 := by
 cases l with
 | nil => cases h
 | cons c l =>
   rw [nxt_cons] at h
   split at h
   · unfold nuRL at h
     split at h
     · cases h
     · split at h
       · cases h
       · cases h; exact ⟨by show (0 : Int) ≤ 0; decide, by show (0 : Int) ≤ 4; decide⟩
   · split at h
     · unfold txtR at h
       split at h
       · cases h
       · cases h; exact ⟨by show (0 : Int) ≤ 1; decide, by show (1 : Int) ≤ 4; decide⟩
     · split at h
       · unfold wdR at h
         cases h; exact ⟨by show (0 : Int) ≤ 2; decide, by show (2 : Int) ≤ 4; decide⟩
       · split at h
         · unfold errR at h
           split at h
           · cases h
           · cases h; exact ⟨by show (0 : Int) ≤ 4; decide, by show (4 : Int) ≤ 4; decide⟩
         · unfold sgR at h
           split at h
           · cases h
           · cases h; exact ⟨by show (0 : Int) ≤ 3; decide, by show (3 : Int) ≤ 4; decide⟩
theorem W_kd (n : Nat) : ∀ (l : List UInt8) (p : Nat) (ts : List Tk), l.length ≤ n → W p l = .ok ts → ∀ t ∈ ts, 0 ≤ t.1 ∧ t.1 ≤ 5 ∧ (t.1 = 5 → t.2.2.1 = []) := by
 have h5 : ∀ q, 0 ≤ (endT q).1 ∧ (endT q).1 ≤ 5 ∧ ((endT q).1 = 5 → (endT q).2.2.1 = []) := fun q => ⟨by show (0 : Int) ≤ 5; decide, by show (5 : Int) ≤ 5; decide, fun _ => rfl⟩
 induction n with
 | zero =>
   intro l p ts hl h
   have : l = [] := List.eq_nil_of_length_eq_zero (by omega)
   subst this
   rw [W_nil] at h
   cases h
   intro t ht; simp at ht; subst ht; exact h5 _
 | succ n ih =>
   intro l p ts hl h
   cases l with
   | nil =>
     rw [W_nil] at h
     cases h
     intro t ht; simp at ht; subst ht; exact h5 _
   | cons c r =>
     by_cases hc : c = 32
     · subst hc
       rw [W_blank] at h
       exact ih r (p + 1) ts (by simpa using hl) h
     · rw [W_cons p c r hc] at h
       cases hx : nxt (c :: r) with
       | error e => rw [hx] at h; cases h
       | ok x =>
         rw [hx] at h
         simp only [] at h
         obtain ⟨us, hu, rfl⟩ := map_ok h
         have hm := nxt_pos hx
         simp only [List.length_cons] at hm
         intro t ht
         rcases List.mem_cons.1 ht with rfl | ht
         · have := nxt_kd hx
           show 0 ≤ x.1 ∧ x.1 ≤ 5 ∧ (x.1 = 5 → x.2.1 = [])
           exact ⟨this.1, by omega, fun h => by omega⟩
         · exact ih ((c :: r).drop x.2.2.2.2) (p + x.2.2.2.2) us (by simp at hl ⊢; omega) hu t ht
open Go.RowKit
set_option maxHeartbeats 6000000
end Go.Proofs.Ytjhmbkdkjgjoaaa
