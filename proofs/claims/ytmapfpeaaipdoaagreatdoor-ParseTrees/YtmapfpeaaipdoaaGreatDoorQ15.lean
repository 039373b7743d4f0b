/-
  What is read of words hangs on no place; and of words that another closing bracket or comma ends, the same is read as at the end, or they lie too deep. Plain mathematics: no program in sight.
  The contract of reference.
-/
import Derived.Test.YtmapfpeaaipdoaaGreatDoorQ10
import Derived.Test.YtmapfpeaaipdoaaGreatDoorQ14
import Derived.Test.YtmapfpeaaipdoaaGreatDoorQ12
namespace Go.Proofs.YtmapfpeaaipdoaaGreatDoor
open Go.RowKit

/-- The same words up to the end, whatever their places; in place of the end tl. -/
inductive Rt (tl : List Tk) : List Tk → List Tk → Prop
  | nil (e : Tk) : e.1 = 5 → Rt tl [e] tl
  | cons (t t' : Tk) (ts ts' : List Tk) : t.1 ≠ 5 → t'.1 = t.1 → t'.2.2 = t.2.2 → Rt tl ts ts' → Rt tl (t :: ts) (t' :: ts')
/-- What may stand in place of the end: the end; or a closing bracket, a comma. -/
def Stp (z : Bool) (tl : List Tk) : Prop := if z then ∃ e, tl = [e] ∧ e.1 = 5 else ∃ t r, tl = t :: r ∧ t.1 = 3 ∧ (t.2.2.1 = [41] ∨ t.2.2.1 = [44])
def DD (z : Bool) (d d' : Nat) : Prop := d ≤ d' ∧ (z = true → d' = d)
def RG {α β : Type} (z : Bool) (N : α → Prop) (P : α → β → Prop) (r : Except Ft α) (r' : Except Ft β) : Prop := match r with
  | .ok x => N x ∨ (∃ x', r' = .ok x' ∧ P x x') ∨ (z = false ∧ ∃ p, r' = .error (p, true))
  | .error e => z = true → ∃ p, r' = .error (p, e.2)
def no {α : Type} : α → Prop := fun _ => False
theorem RG.long {α β : Type} {z : Bool} {N : α → Prop} {P : α → β → Prop} {r : Except Ft α} (hz : z = false) (p : Int) : RG z N P r (.error (p, true)) := by
  cases r with
  | ok x => exact .inr (.inr ⟨hz, p, rfl⟩)
  | error e => intro h; rw [hz] at h; cases h
theorem RG.ok {α β : Type} {z : Bool} {N : α → Prop} {P : α → β → Prop} {x : α} {x' : β} (h : P x x') : RG z N P (.ok x) (.ok x') := .inr (.inl ⟨x', rfl, h⟩)
theorem RG.err {α β : Type} {z : Bool} {N : α → Prop} {P : α → β → Prop} {e e' : Ft} (h : e'.2 = e.2) : RG z N P (.error e) (.error e') := fun _ => ⟨e'.1, by rw [← h]⟩
theorem RG.off {α β : Type} {z : Bool} {N : α → Prop} {P : α → β → Prop} {e : Ft} {r' : Except Ft β} (h : z = false) : RG z N P (.error e) r' := by intro h1; rw [h] at h1; cases h1
/-- One reading behind another. -/
theorem RG.then {α β γ δ : Type} {z : Bool} {N : α → Prop} {P : α → β → Prop} {N2 : γ → Prop} {P2 : γ → δ → Prop} {r : Except Ft α} {r' : Except Ft β} {f : α → Except Ft γ} {f' : β → Except Ft δ}
    (h : RG z N P r r') (hN : ∀ x, r = .ok x → N x → ∀ y', RG z N2 P2 (f x) y') (hf : ∀ x x', r = .ok x → P x x' → RG z N2 P2 (f x) (f' x')) : RG z N2 P2 (r.bind f) (r'.bind f') := by
  cases r with
  | error e =>
    intro hz
    obtain ⟨p, rfl⟩ := h hz
    exact ⟨p, rfl⟩
  | ok x =>
    rcases h with h | ⟨x', rfl, h⟩ | ⟨hz, p, rfl⟩
    · exact hN x rfl h _
    · exact hf x x' rfl h
    · exact RG.long hz p
theorem RG.then' {α β γ δ : Type} {z : Bool} {P : α → β → Prop} {N2 : γ → Prop} {P2 : γ → δ → Prop} {r : Except Ft α} {r' : Except Ft β} {f : α → Except Ft γ} {f' : β → Except Ft δ}
    (h : RG z no P r r') (hf : ∀ x x', r = .ok x → P x x' → RG z N2 P2 (f x) (f' x')) : RG z N2 P2 (r.bind f) (r'.bind f') := h.then (fun _ _ h => h.elim) hf

/-! ### The readings as one behind another -/
theorem one_eq (d : Nat) (ts : List Tk) (x : T) : one d ts x = (tk1 d ts).bind fun ts1 => .ok (x, ts1) := by
  unfold one; cases tk1 d ts <;> rfl
theorem refr_eq (d : Nat) (ts : List Tk) (h : (hd ts).1 = 2 ∧ okP (hd ts).2.2.1 = true) : refr d ts = (tk1 d ts).bind fun ts1 => .ok (rfP (hd ts).2.2.1, ts1) := by
  unfold refr; rw [if_pos h]; cases tk1 d ts <;> rfl
theorem argm_eq (F : Rd) (d : Nat) (ts : List Tk) : argm F d ts = (F d ts).bind fun a => if a.1.k = 4 ∧ ts.length = a.2.length + 1 ∧ isSg [58] a.2 = true then ((tk1 d a.2).bind fun ts2 => (refr d ts2).bind fun b => .ok (tRange a.1.r b.1, b.2)) else .ok a := by
  unfold argm
  cases F d ts with
  | error e => rfl
  | ok a =>
    obtain ⟨x, ts1⟩ := a
    simp only [Except.bind]
    split
    · cases tk1 d ts1 with
      | error e => rfl
      | ok ts2 => simp only []; cases refr d ts2 <;> rfl
    · rfl
theorem argl_eq (F : Rd) (a b d f : Nat) (l : List T) (ts : List Tk) (h : l.length < a ∨ l.length < b ∧ isSg [44] ts = true) : argl F a b d (f + 1) l ts = (pass1 [44] d ts).bind fun ts1 => (argm F d ts1).bind fun x => argl F a b d f (l ++ [x.1]) x.2 := by
  rw [argl, if_pos h]
  cases pass1 [44] d ts with
  | error e => rfl
  | ok ts1 => simp only [Except.bind]; cases argm F d ts1 <;> rfl
theorem args_eq (F : Rd) (a b d : Nat) (ts : List Tk) : args F a b d ts = (argm F d ts).bind fun x => argl F a b d x.2.length [x.1] x.2 := by
  unfold args; cases argm F d ts <;> rfl
theorem call_eq (F : Rd) (s : List UInt8) (a b d : Nat) (ts : List Tk) : call F s a b d ts = (args F a b d ts).bind fun x => .ok (tCall s x.1, x.2) := by
  unfold call; cases args F a b d ts <;> rfl
theorem brk_eq (F : Rd) (d : Nat) (ts : List Tk) : brk F d ts = (pass1 [40] d ts).bind fun ts1 => (F (d + 1) ts1).bind fun x => (pass1 [41] d x.2).bind fun ts3 => .ok (x.1, ts3) := by
  unfold brk
  cases pass1 [40] d ts with
  | error e => rfl
  | ok ts1 =>
    simp only [Except.bind]
    cases F (d + 1) ts1 with
    | error e => rfl
    | ok x => simp only []; cases pass1 [41] d x.2 <;> rfl
theorem lp_eq (F : Rd) (k d f : Nat) (x : T) (ts : List Tk) (h : (hd ts).1 = 3 ∧ bnd (hd ts).2.2.1 = k) : lp F k d (f + 1) x ts = (tk1 d ts).bind fun ts1 => (F d ts1).bind fun y => lp F k d f (tBin (hd ts).2.2.1 x y.1) y.2 := by
  rw [lp, if_pos h]
  cases tk1 d ts with
  | error e => rfl
  | ok ts1 => simp only [Except.bind]; cases F d ts1 <;> rfl
theorem lv_eq (F : Rd) (k d : Nat) (ts : List Tk) : lv F k d ts = (F d ts).bind fun x => lp F k d x.2.length x.1 x.2 := by
  unfold lv; cases F d ts <;> rfl
theorem opn_eq (F G : Rd) (d : Nat) (ts : List Tk) (h : isSg [45] ts = true) : opn F G d ts = (tk1 d ts).bind fun ts1 => (G (d + 1) ts1).bind fun x => .ok (tNeg x.1, x.2) := by
  unfold opn; rw [if_pos h]
  cases tk1 d ts with
  | error e => rfl
  | ok ts1 => simp only [Except.bind]; cases G (d + 1) ts1 <;> rfl

theorem wrd_call (F : Rd) (d : Nat) (ts : List Tk) (a b : Nat) (h1 : ¬ (hd ts).2.2.1 = wTrue) (h2 : ¬ (hd ts).2.2.1 = wFalse) (h : kno (hd ts).2.2.1 = some (a, b)) : wrd F d ts = (tk1 d ts).bind fun ts1 => brk (call F (hd ts).2.2.1 a b) d ts1 := by
  unfold wrd; rw [if_neg h1, if_neg h2, h]; cases tk1 d ts <;> rfl
theorem wrd_ref (F : Rd) (d : Nat) (ts : List Tk) (h1 : ¬ (hd ts).2.2.1 = wTrue) (h2 : ¬ (hd ts).2.2.1 = wFalse) (h : kno (hd ts).2.2.1 = none) : wrd F d ts = (refr d ts).bind fun x => .ok (tRef x.1, x.2) := by
  unfold wrd; rw [if_neg h1, if_neg h2, h]; cases refr d ts <;> rfl

/-! ### Heads -/
theorem Rt.len {tl ts ts' : List Tk} (h : Rt tl ts ts') : ts'.length + 1 = ts.length + tl.length := by
  induction h with
  | nil e h => simp; omega
  | cons t t' ts ts' h1 h2 h3 h4 ih => simp; omega
theorem Rt.nz {tl ts ts' : List Tk} (h : Rt tl ts ts') : Nz ts := by
  induction h with
  | nil e h => exact ⟨[], e, rfl, h⟩
  | cons t t' ts ts' h1 h2 h3 h4 ih =>
    obtain ⟨pre, x, rfl, hx⟩ := ih
    exact ⟨t :: pre, x, rfl, hx⟩
theorem Rt.heads {tl ts ts' : List Tk} (h : Rt tl ts ts') (h5 : (hd ts).1 ≠ 5) : (hd ts').1 = (hd ts).1 ∧ (hd ts').2.2 = (hd ts).2.2 ∧ Rt tl ts.tail ts'.tail := by
  cases h with
  | nil e h => exact absurd h h5
  | cons t t' ts ts' h1 h2 h3 h4 => exact ⟨h2, h3, h4⟩
theorem Rt.ends {z : Bool} {tl ts ts' : List Tk} (h : Rt tl ts ts') (hS : Stp z tl) (h5 : (hd ts).1 = 5) : ts' = tl ∧ (z = true → (hd ts').1 = 5) ∧ (z = false → (hd ts').1 = 3 ∧ ((hd ts').2.2.1 = [41] ∨ (hd ts').2.2.1 = [44])) := by
  cases h with
  | nil e h =>
    refine ⟨rfl, ?_, ?_⟩
    · intro hz; subst hz
      obtain ⟨x, rfl, hx⟩ := hS
      exact hx
    · intro hz; subst hz
      obtain ⟨t, r, rfl, h1, h2⟩ := hS
      exact ⟨h1, h2⟩
  | cons t t' ts ts' h1 h2 h3 h4 => exact absurd h5 h1
theorem isSg_rr {z : Bool} {tl ts ts' : List Tk} (p : List UInt8) (h : Rt tl ts ts') (hS : Stp z tl) (hp : z = false → p ≠ [41] ∧ p ≠ [44] ∨ (hd ts).1 ≠ 5) : isSg p ts' = isSg p ts := by
  by_cases h5 : (hd ts).1 = 5
  · have e : isSg p ts = false := by unfold isSg; rw [h5]; rfl
    rw [e]
    obtain ⟨_, h1, h2⟩ := h.ends hS h5
    cases z with
    | true => unfold isSg; rw [h1 rfl]; rfl
    | false =>
      obtain ⟨h3, h4⟩ := h2 rfl
      have h6 := hp rfl
      unfold isSg
      rw [h3]
      rcases h6 with ⟨h6, h7⟩ | h6
      · rcases h4 with h4 | h4 <;> rw [h4] <;> simp <;> intro h8 <;> first | exact h6 h8.symm | exact h7 h8.symm
      · exact absurd h5 h6
  · obtain ⟨h1, h2, _⟩ := h.heads h5
    unfold isSg; rw [h1, h2]
theorem tk1_rr {z : Bool} {tl ts ts' : List Tk} {d d' : Nat} (h : Rt tl ts ts') (hD : DD z d d') (h5 : (hd ts).1 ≠ 5) : RG z no (Rt tl) (tk1 d ts) (tk1 d' ts') := by
  unfold tk1
  by_cases h1 : 40 < d
  · rw [if_pos h1, if_pos (by have := hD.1; omega)]; exact RG.err rfl
  · rw [if_neg h1]
    by_cases h2 : 40 < d'
    · rw [if_pos h2]
      refine RG.long ?_ _
      cases z with
      | true => have := hD.2 rfl; omega
      | false => rfl
    · rw [if_neg h2]; exact RG.ok (h.heads h5).2.2
theorem pass1_rr {z : Bool} {tl ts ts' : List Tk} {d d' : Nat} (p : List UInt8) (h : Rt tl ts ts') (hS : Stp z tl) (hD : DD z d d') : RG z no (Rt tl) (pass1 p d ts) (pass1 p d' ts') := by
  unfold pass1
  by_cases h5 : (hd ts).1 = 5
  · have e : isSg p ts = false := by unfold isSg; rw [h5]; rfl
    rw [e]
    cases z with
    | false => exact RG.off rfl
    | true => rw [isSg_rr p h hS (by intro h; cases h), e]; exact RG.err rfl
  · rw [isSg_rr p h hS (fun _ => .inr h5)]
    split
    · exact tk1_rr h hD h5
    · exact RG.err rfl
theorem pass1_off {p : List UInt8} {d : Nat} {ts : List Tk} (h5 : (hd ts).1 = 5) : ∃ e, pass1 p d ts = .error e := by
  unfold pass1
  have e : isSg p ts = false := by unfold isSg; rw [h5]; rfl
  rw [e]; exact ⟨_, rfl⟩
def Pt {α : Type} (tl : List Tk) (a b : α × List Tk) : Prop := b.1 = a.1 ∧ Rt tl a.2 b.2
theorem one_rr {z : Bool} {tl ts ts' : List Tk} {d d' : Nat} (x : T) (h : Rt tl ts ts') (hD : DD z d d') (h5 : (hd ts).1 ≠ 5) : RG z no (Pt tl) (one d ts x) (one d' ts' x) := by
  rw [one_eq, one_eq]
  exact (tk1_rr h hD h5).then' (fun a b _ hab => RG.ok ⟨rfl, hab⟩)
theorem refr_rr {z : Bool} {tl ts ts' : List Tk} {d d' : Nat} (h : Rt tl ts ts') (hS : Stp z tl) (hD : DD z d d') : RG z no (Pt tl) (refr d ts) (refr d' ts') := by
  by_cases h5 : (hd ts).1 = 5
  · have e : refr d ts = .error (ft ts false) := by unfold refr; rw [if_neg]; rw [h5]; simp
    rw [e]
    cases z with
    | false => exact RG.off rfl
    | true =>
      have e' : refr d' ts' = .error (ft ts' false) := by unfold refr; rw [if_neg]; rw [(h.ends hS h5).2.1 rfl]; simp
      rw [e']; exact RG.err rfl
  · obtain ⟨h1, h2, h3⟩ := h.heads h5
    by_cases hc : (hd ts).1 = 2 ∧ okP (hd ts).2.2.1 = true
    · rw [refr_eq d ts hc, refr_eq d' ts' (by rw [h1, h2]; exact hc), h2]
      exact (tk1_rr h hD h5).then' (fun a b _ hab => RG.ok ⟨rfl, hab⟩)
    · unfold refr
      rw [if_neg hc, if_neg (by rw [h1, h2]; exact hc)]; exact RG.err rfl
def RF (z : Bool) (tl : List Tk) (n m : Nat) (F F' : Rd) : Prop := ∀ d d' ts ts', DD z d d' → Rt tl ts ts' → ts.length ≤ n → ts'.length ≤ m → RG z no (Pt tl) (F d ts) (F' d' ts')
/-- .. where nothing is said of what is read up to the end. -/
def RW (z : Bool) (tl : List Tk) (n m : Nat) (F F' : Rd) : Prop := ∀ d d' ts ts', DD z d d' → Rt tl ts ts' → ts.length ≤ n → ts'.length ≤ m → RG z (fun x => z = false ∧ (hd x.2).1 = 5) (Pt tl) (F d ts) (F' d' ts')
theorem RF.weak {z : Bool} {tl : List Tk} {n m : Nat} {F F' : Rd} (h : RF z tl n m F F') : RW z tl n m F F' := by
  intro d d' ts ts' h1 h2 h3 h4
  have k := h d d' ts ts' h1 h2 h3 h4
  unfold RG at k ⊢
  split
  · rename_i x hx
    rw [hx] at k
    exact .inr (k.resolve_left (fun h => h.elim))
  · rename_i x hx
    rw [hx] at k
    exact k
theorem DD.up {z : Bool} {d d' : Nat} (h : DD z d d') : DD z (d + 1) (d' + 1) := ⟨Nat.succ_le_succ h.1, fun e => by rw [h.2 e]⟩
theorem Rt.sh {tl ts ts' us us' : List Tk} (h : Rt tl ts ts') (k : Rt tl us us') (hl : us.length < ts.length) : us'.length < ts'.length := by
  have := h.len; have := k.len; omega
theorem argm_rr {z : Bool} {tl : List Tk} {n m : Nat} {F F' : Rd} (hF : RF z tl n m F F') (hS : Stp z tl) : RF z tl n m (argm F) (argm F') := by
  intro d d' ts ts' hD h hn hm
  rw [argm_eq, argm_eq]
  refine (hF d d' ts ts' hD h hn hm).then' ?_
  rintro ⟨x, ts1⟩ ⟨x', ts1'⟩ hx ⟨hxx, h1⟩
  simp only [] at hxx h1 ⊢
  subst hxx
  have e1 := isSg_rr [58] h1 hS (fun _ => .inl ⟨by decide, by decide⟩)
  have e2 : ts'.length = ts1'.length + 1 ↔ ts.length = ts1.length + 1 := by have := h.len; have := h1.len; omega
  simp only [e1, e2]
  split
  · rename_i hc
    refine (tk1_rr h1 hD (by rw [(isSg_k hc.2.2).1]; decide)).then' ?_
    intro ts2 ts2' _ h2
    refine (refr_rr h2 hS hD).then' ?_
    rintro ⟨q, ts3⟩ ⟨q', ts3'⟩ _ ⟨hq, h3⟩
    simp only [] at hq h3 ⊢
    subst hq
    exact RG.ok ⟨rfl, h3⟩
  · exact RG.ok ⟨rfl, h1⟩
theorem argl_rr {z : Bool} {tl : List Tk} {n m : Nat} {F F' : Rd} (hF : RF z tl n m F F') (hsh : ShF n F) (hS : Stp z tl) (a b : Nat) (f : Nat) : ∀ (f' d d' : Nat) (l : List T) (ts ts' : List Tk), DD z d d' → Rt tl ts ts' → ts.length ≤ n → ts'.length ≤ m → ts.length ≤ f → ts'.length ≤ f' →
    RG z (fun x : List T × List Tk => z = false ∧ (hd x.2).1 = 5) (Pt tl) (argl F a b d f l ts) (argl F' a b d' f' l ts') := by
  induction f with
  | zero =>
    intro f' d d' l ts ts' hD h hn hm hf hf'
    have := h.nz.pos; omega
  | succ f ih =>
    intro f' d d' l ts ts' hD h hn hm hf hf'
    have hp := h.nz.pos
    by_cases h5 : (hd ts).1 = 5 ∧ z = false
    · have e : isSg [44] ts = false := by unfold isSg; rw [h5.1]; rfl
      by_cases hc : l.length < a
      · rw [argl_eq F a b d f l ts (.inl hc)]
        obtain ⟨x, hx⟩ := pass1_off (p := [44]) (d := d) h5.1
        rw [hx]
        exact RG.off h5.2
      · rw [argl, if_neg (by rw [e]; simp; omega)]
        exact .inl ⟨h5.2, h5.1⟩
    · have e1 := isSg_rr [44] h hS (fun hz => .inr (fun h6 => h5 ⟨h6, hz⟩))
      have hl' : 1 ≤ ts'.length := by
        cases h with
        | nil e h =>
          cases z with
          | true => obtain ⟨x, rfl, _⟩ := hS; simp
          | false => obtain ⟨x, r, rfl, _⟩ := hS; simp
        | cons t t' ts ts' h1 h2 h3 h4 => simp
      obtain ⟨f', rfl⟩ : ∃ g, f' = g + 1 := ⟨f' - 1, by omega⟩
      by_cases hc : l.length < a ∨ l.length < b ∧ isSg [44] ts = true
      · rw [argl_eq F a b d f l ts hc, argl_eq F' a b d' f' l ts' (by rw [e1]; exact hc)]
        refine (pass1_rr [44] h hS hD).then' ?_
        intro ts1 ts1' hx1 h1
        have s1 := pass1_sh h.nz hx1
        have l1 := h.sh h1 s1.2
        have n1 := s1.2
        refine (argm_rr hF hS d d' ts1 ts1' hD h1 (by omega) (by omega)).then' ?_
        rintro ⟨x, ts2⟩ ⟨x', ts2'⟩ hx2 ⟨hxx, h2⟩
        simp only [] at hxx h2 ⊢
        subst hxx
        have s2 := argm_sh hsh d ts1 s1.1 (by omega) _ _ hx2
        have l2 := h1.sh h2 s2.2
        have n2 := s2.2
        exact ih f' d d' _ ts2 ts2' hD h2 (by omega) (by omega) (by omega) (by omega)
      · rw [argl, if_neg hc, argl, if_neg (by rw [e1]; exact hc)]
        exact RG.ok ⟨rfl, h⟩
theorem call_rr {z : Bool} {tl : List Tk} {n m : Nat} {F F' : Rd} (hF : RF z tl n m F F') (hsh : ShF n F) (hS : Stp z tl) (s : List UInt8) (a b : Nat) : RW z tl n m (call F s a b) (call F' s a b) := by
  intro d d' ts ts' hD h hn hm
  rw [call_eq, call_eq, args_eq, args_eq]
  have k : RG z (fun x : List T × List Tk => z = false ∧ (hd x.2).1 = 5) (Pt tl) ((argm F d ts).bind fun x => argl F a b d x.2.length [x.1] x.2) ((argm F' d' ts').bind fun x => argl F' a b d' x.2.length [x.1] x.2) := by
    refine (argm_rr hF hS d d' ts ts' hD h hn hm).then' ?_
    rintro ⟨x, ts1⟩ ⟨x', ts1'⟩ hx ⟨hxx, h1⟩
    simp only [] at hxx h1 ⊢
    subst hxx
    have s1 := argm_sh hsh d ts h.nz hn _ _ hx
    have l1 := h.sh h1 s1.2
    have n1 := s1.2
    exact argl_rr hF hsh hS a b _ _ d d' _ ts1 ts1' hD h1 (by omega) (by omega) (Nat.le_refl _) (Nat.le_refl _)
  refine k.then ?_ ?_
  · intro x _ hN y'
    exact .inl hN
  · rintro ⟨x, ts1⟩ ⟨x', ts1'⟩ _ ⟨hxx, h1⟩
    simp only [] at hxx h1 ⊢
    subst hxx
    exact RG.ok ⟨rfl, h1⟩
theorem brk_rr {z : Bool} {tl : List Tk} {n m : Nat} {F F' : Rd} (hF : RW z tl n m F F') (hS : Stp z tl) : RF z tl (n + 1) (m + 1) (brk F) (brk F') := by
  intro d d' ts ts' hD h hn hm
  rw [brk_eq, brk_eq]
  refine (pass1_rr [40] h hS hD).then' ?_
  intro ts1 ts1' hx1 h1
  have s1 := pass1_sh h.nz hx1
  have l1 := h.sh h1 s1.2
  have n1 := s1.2
  refine (hF (d + 1) (d' + 1) ts1 ts1' hD.up h1 (by omega) (by omega)).then ?_ ?_
  · rintro ⟨x, ts2⟩ _ ⟨hz, h5⟩ y'
    obtain ⟨e, he⟩ := pass1_off (p := [41]) (d := d) h5
    rw [he]
    exact RG.off hz
  · rintro ⟨x, ts2⟩ ⟨x', ts2'⟩ _ ⟨hxx, h2⟩
    simp only [] at hxx h2 ⊢
    subst hxx
    exact (pass1_rr [41] h2 hS hD).then' (fun a b _ hab => RG.ok ⟨rfl, hab⟩)
theorem wrd_rr {z : Bool} {tl : List Tk} {n m : Nat} {F F' : Rd} (hF : RF z tl n m F F') (hsh : ShF n F) (hS : Stp z tl) {d d' : Nat} {ts ts' : List Tk} (hD : DD z d d') (h : Rt tl ts ts') (hn : ts.length ≤ n + 1) (hm : ts'.length ≤ m + 1) (hk : (hd ts).1 = 2) : RG z no (Pt tl) (wrd F d ts) (wrd F' d' ts') := by
  have h5 : (hd ts).1 ≠ 5 := by rw [hk]; decide
  obtain ⟨h1, h2, h3⟩ := h.heads h5
  by_cases c1 : (hd ts).2.2.1 = wTrue
  · unfold wrd
    rw [h2, if_pos c1, if_pos c1]
    exact one_rr _ h hD h5
  · by_cases c2 : (hd ts).2.2.1 = wFalse
    · unfold wrd
      rw [h2, if_neg c1, if_neg c1, if_pos c2, if_pos c2]
      exact one_rr _ h hD h5
    · cases hk2 : kno (hd ts).2.2.1 with
      | some x =>
        obtain ⟨a, b⟩ := x
        rw [wrd_call F d ts a b c1 c2 hk2, wrd_call F' d' ts' a b (by rw [h2]; exact c1) (by rw [h2]; exact c2) (by rw [h2]; exact hk2), h2]
        refine (tk1_rr h hD h5).then' ?_
        intro ts1 ts1' hx1 h1
        have s1 := tk1_sh h.nz h5 hx1
        have l1 := h.sh h1 s1.2
        have n1 := s1.2
        exact brk_rr (call_rr hF hsh hS _ a b) hS d d' ts1 ts1' hD h1 (by omega) (by omega)
      | none =>
        rw [wrd_ref F d ts c1 c2 hk2, wrd_ref F' d' ts' (by rw [h2]; exact c1) (by rw [h2]; exact c2) (by rw [h2]; exact hk2)]
        refine (refr_rr h hS hD).then' ?_
        rintro ⟨x, ts2⟩ ⟨x', ts2'⟩ _ ⟨hxx, h2⟩
        simp only [] at hxx h2 ⊢
        subst hxx
        exact RG.ok ⟨rfl, h2⟩
theorem smp_rr {z : Bool} {tl : List Tk} {n m : Nat} {F F' : Rd} (hF : RF z tl n m F F') (hsh : ShF n F) (hS : Stp z tl) : RF z tl (n + 1) (m + 1) (smp F) (smp F') := by
  intro d d' ts ts' hD h hn hm
  by_cases h5 : (hd ts).1 = 5
  · have e : smp F d ts = .error (ft ts false) := by
      unfold smp brk
      rw [h5]
      simp only [show ¬ ((5 : Int) = 0) by decide, show ¬ ((5 : Int) = 1) by decide, show ¬ ((5 : Int) = 4) by decide, show ¬ ((5 : Int) = 2) by decide, if_false]
      have e1 : isSg [40] ts = false := by unfold isSg; rw [h5]; rfl
      unfold pass1; rw [e1]; rfl
    rw [e]
    cases z with
    | false => exact RG.off rfl
    | true =>
      have h6 := (h.ends hS h5).2.1 rfl
      have e' : smp F' d' ts' = .error (ft ts' false) := by
        unfold smp brk
        rw [h6]
        simp only [show ¬ ((5 : Int) = 0) by decide, show ¬ ((5 : Int) = 1) by decide, show ¬ ((5 : Int) = 4) by decide, show ¬ ((5 : Int) = 2) by decide, if_false]
        have e1 : isSg [40] ts' = false := by unfold isSg; rw [h6]; rfl
        unfold pass1; rw [e1]; rfl
      rw [e']; exact RG.err rfl
  · obtain ⟨h1, h2, h3⟩ := h.heads h5
    unfold smp
    rw [h1, h2]
    split
    · exact one_rr _ h hD h5
    · split
      · exact one_rr _ h hD h5
      · split
        · exact one_rr _ h hD h5
        · split
          · rename_i hk; exact wrd_rr hF hsh hS hD h hn hm hk
          · exact brk_rr hF.weak hS d d' ts ts' hD h hn hm
theorem opn_rr {z : Bool} {tl : List Tk} {n m : Nat} {F F' G G' : Rd} (hF : RF z tl n m F F') (hG : RF z tl n m G G') (hsh : ShF n F) (hS : Stp z tl) : RF z tl (n + 1) (m + 1) (opn F G) (opn F' G') := by
  intro d d' ts ts' hD h hn hm
  have e1 := isSg_rr [45] h hS (fun _ => .inl ⟨by decide, by decide⟩)
  by_cases hc : isSg [45] ts = true
  · rw [opn_eq F G d ts hc, opn_eq F' G' d' ts' (by rw [e1]; exact hc)]
    have h5 : (hd ts).1 ≠ 5 := by rw [(isSg_k hc).1]; decide
    refine (tk1_rr h hD h5).then' ?_
    intro ts1 ts1' hx1 h1
    have s1 := tk1_sh h.nz h5 hx1
    have l1 := h.sh h1 s1.2
    have n1 := s1.2
    refine (hG (d + 1) (d' + 1) ts1 ts1' hD.up h1 (by omega) (by omega)).then' ?_
    rintro ⟨x, ts2⟩ ⟨x', ts2'⟩ _ ⟨hxx, h2⟩
    simp only [] at hxx h2 ⊢
    subst hxx
    exact RG.ok ⟨rfl, h2⟩
  · unfold opn
    rw [if_neg hc, if_neg (by rw [e1]; exact hc)]
    exact smp_rr hF hsh hS d d' ts ts' hD h hn hm
theorem lp_rr {z : Bool} {tl : List Tk} {n m : Nat} {F F' : Rd} (hF : RF z tl n m F F') (hsh : ShF n F) (hS : Stp z tl) (k : Nat) (hk : 1 ≤ k) (f : Nat) : ∀ (f' d d' : Nat) (x : T) (ts ts' : List Tk), DD z d d' → Rt tl ts ts' → ts.length ≤ n → ts'.length ≤ m → ts.length ≤ f → ts'.length ≤ f' →
    RG z no (Pt tl) (lp F k d f x ts) (lp F' k d' f' x ts') := by
  induction f with
  | zero =>
    intro f' d d' l ts ts' hD h hn hm hf hf'
    have := h.nz.pos; omega
  | succ f ih =>
    intro f' d d' x ts ts' hD h hn hm hf hf'
    have hp := h.nz.pos
    have hl' : 1 ≤ ts'.length := by
      cases h with
      | nil e h =>
        cases z with
        | true => obtain ⟨x, rfl, _⟩ := hS; simp
        | false => obtain ⟨x, r, rfl, _⟩ := hS; simp
      | cons t t' ts ts' h1 h2 h3 h4 => simp
    obtain ⟨f', rfl⟩ : ∃ g, f' = g + 1 := ⟨f' - 1, by omega⟩
    by_cases h5 : (hd ts).1 = 5
    · rw [lp, if_neg (by rw [h5]; simp), lp, if_neg]
      · exact RG.ok ⟨rfl, h⟩
      · obtain ⟨_, g1, g2⟩ := h.ends hS h5
        cases z with
        | true => rw [g1 rfl]; simp
        | false =>
          obtain ⟨g3, g4⟩ := g2 rfl
          rintro ⟨_, g5⟩
          rcases g4 with g4 | g4 <;> rw [g4] at g5 <;> simp [bnd, bd1] at g5 <;> omega
    · obtain ⟨h1, h2, h3⟩ := h.heads h5
      by_cases hc : (hd ts).1 = 3 ∧ bnd (hd ts).2.2.1 = k
      · rw [lp_eq F k d f x ts hc, lp_eq F' k d' f' x ts' (by rw [h1, h2]; exact hc), h2]
        refine (tk1_rr h hD h5).then' ?_
        intro ts1 ts1' hx1 h1
        have s1 := tk1_sh h.nz h5 hx1
        have l1 := h.sh h1 s1.2
        have n1 := s1.2
        refine (hF d d' ts1 ts1' hD h1 (by omega) (by omega)).then' ?_
        rintro ⟨y, ts2⟩ ⟨y', ts2'⟩ hx2 ⟨hxx, h2⟩
        simp only [] at hxx h2 ⊢
        subst hxx
        have s2 := hsh d ts1 s1.1 (by omega) _ _ hx2
        have l2 := h1.sh h2 s2.2
        have n2 := s2.2
        exact ih f' d d' _ ts2 ts2' hD h2 (by omega) (by omega) (by omega) (by omega)
      · rw [lp, if_neg hc, lp, if_neg (by rw [h1, h2]; exact hc)]
        exact RG.ok ⟨rfl, h⟩
theorem lv_rr {z : Bool} {tl : List Tk} {n m : Nat} {F F' : Rd} (hF : RF z tl n m F F') (hsh : ShF n F) (hS : Stp z tl) (k : Nat) (hk : 1 ≤ k) : RF z tl n m (lv F k) (lv F' k) := by
  intro d d' ts ts' hD h hn hm
  rw [lv_eq, lv_eq]
  refine (hF d d' ts ts' hD h hn hm).then' ?_
  rintro ⟨x, ts1⟩ ⟨x', ts1'⟩ hx ⟨hxx, h1⟩
  simp only [] at hxx h1 ⊢
  subst hxx
  have s1 := hsh d ts h.nz hn _ _ hx
  have l1 := h.sh h1 s1.2
  have n1 := s1.2
  exact lp_rr hF hsh hS k hk _ _ d d' _ ts1 ts1' hD h1 (by omega) (by omega) (Nat.le_refl _) (Nat.le_refl _)
theorem frm_rr {z : Bool} {tl : List Tk} {n m : Nat} {F F' : Rd} (hF : RF z tl n m F F') (hsh : ShF n F) (hS : Stp z tl) : RF z tl n m (frm F) (frm F') :=
  lv_rr (lv_rr (lv_rr (lv_rr hF hsh hS 4 (by decide)) (lv_sh hsh 4) hS 3 (by decide)) (lv_sh (lv_sh hsh 4) 3) hS 2 (by decide)) (lv_sh (lv_sh (lv_sh hsh 4) 3) 2) hS 1 (by decide)
theorem O_rr {z : Bool} {tl : List Tk} (hS : Stp z tl) (n : Nat) : ∀ m, RF z tl n m (O n) (O m) := by
  induction n with
  | zero => intro m d d' ts ts' hD h hn hm; exact absurd h.nz.pos (by omega)
  | succ n ih =>
    intro m d d' ts ts' hD h hn hm
    have hl' : 1 ≤ ts'.length := by
      cases h with
      | nil e h =>
        cases z with
        | true => obtain ⟨x, rfl, _⟩ := hS; simp
        | false => obtain ⟨x, r, rfl, _⟩ := hS; simp
      | cons t t' ts ts' h1 h2 h3 h4 => simp
    obtain ⟨m, rfl⟩ : ∃ g, m = g + 1 := ⟨m - 1, by omega⟩
    exact opn_rr (frm_rr (ih m) (O_sh n) hS) (ih m) (frm_sh (O_sh n)) hS d d' ts ts' hD h hn hm
theorem frm_all {z : Bool} {tl : List Tk} (hS : Stp z tl) (n m : Nat) : RF z tl n m (frm (O n)) (frm (O m)) := frm_rr (O_rr hS n m) (O_sh n) hS
end Go.Proofs.YtmapfpeaaipdoaaGreatDoor

namespace Go.Proofs.YtmapfpeaaipdoaaGreatDoor
open Go.RowKit
set_option maxHeartbeats 1000000

def refV (r : Rf) : Value := .agg #[.int .i64 r.1, .int .i64 r.2.1, .bool r.2.2.1, .bool r.2.2.2]
/-- What a reading of a place answers. -/
def PF (w0 : World) (b : Nat) (w : World) (d : Nat) (r : Except Ft (Rf × List Tk)) (e : Ending) (w' : World) : Prop := match r with
  | .ok a => e = .returned (refV a.1) ∧ Stt w0 b w' a.2 d ∧ ExtB b w w'
  | .error f => e = pft f ∧ ExtB b w w'
theorem ret4 (v : Value) {fn : Func} {Q : Ending → World → Prop} {a : Act} {W : World} {b : Nat} {x0 x1 x2 x3 : Value} (B : Blk W b x0 x1 x2 x3) (hd : a.defers = [])
    (hr : W.cell? ⟨b, 0, none⟩ = some x0 → W.cell? ⟨b, 1, none⟩ = some x1 → W.cell? ⟨b, 2, none⟩ = some x2 → W.cell? ⟨b, 3, none⟩ = some x3 → (results fn a.tmps).run Tryz.prog W = .ok v W)
    (hQ : Q (.returned v) W) : bodyPost Tryz.prog fn Q .ret a W := bodyPost_ret (hr B.2.1.1 B.2.1.2.1 B.2.1.2.2.1 B.2.1.2.2.2) hd hQ
theorem Blk.extB {b g : Nat} {w w' : World} {x0 x1 x2 x3 : Value} (h : Blk w g x0 x1 x2 x3) (e : ExtB b w w') (hg : g ≠ b) : Blk w' g x0 x1 x2 x3 := by
  obtain ⟨z, ⟨k0, k1, k2, k3⟩, f0, f1, f2, f3⟩ := h
  have k := fun o => (e.cell z hg o).1
  have f := fun o => (e.cell z hg o).2
  exact ⟨Nat.lt_of_lt_of_le z e.size, ⟨(k 0).trans k0, (k 1).trans k1, (k 2).trans k2, (k 3).trans k3⟩, (f 0).trans f0, (f 1).trans f1, (f 2).trans f2, (f 3).trans f3⟩
theorem hd_mem {ts : List Tk} (h : 1 ≤ ts.length) : hd ts ∈ ts := by
  cases ts with
  | nil => simp at h
  | cons t r => simp [hd]
theorem reference_any (w0 : World) (b d : Nat) (ts : List Tk) (w : World) (h : Stt w0 b w ts d) (hT : Tab w0) :
    Calls Tryz.prog 74 #[.pointer (some ⟨b, 0, none⟩)] w (PF w0 b w d (refr d ts)) := by
  have h3 := h.2.2.1
  have HS : Hid (Stt w0 b w ts d) := h
  have hlen : (hd ts).2.2.1.length ≤ 300 := h.2.2.2.2.1 _ (hd_mem h.2.2.2.1.pos)
  obtain ⟨tb, off, cc, b0, z0, b1, z1, t0, t1, t2, t3, t4, hne, hc, hp, hs⟩ := h.get
  have HE : Hid (Ext w0 w) := h.1
  have HZ : Hid (Ext w0 w ∧ w0.heap.size ≤ b) := ⟨h.1, h.2.1⟩
  have HT : Hid (Tab w0) := hT
  have ch := fun W hW => here_any w0 b d ts 4 W hW
  have HH : Hid (∀ W, Stt w0 b W ts d → Calls Tryz.prog 33 #[.pointer (some ⟨b, 0, none⟩), .int .i64 4] W fun e w' => e = .returned (.agg #[.int .i64 (hd ts).2.1, .int .i64 4]) ∧ Ext W w') := ch
  clear b1 z1 t1 t3 t4 hT ch
  by_cases hk : (hd ts).1 = 2
  · have HC : Hid (∀ W, Tab W → Calls Tryz.prog 81 #[.string (bs (hd ts).2.2.1)] W fun e w' => e = .returned (.tuple #[prV (hd ts).2.2.1, .bool (okP (hd ts).2.2.1)]) ∧ Ext W w') := fun W hW => cparse_any (bs (hd ts).2.2.1) W (by rw [bs_size]; unfold maxLen; omega) hW
    have c1 := HC.out (w.alloc (.cells #[.int .i64 0, .int .i64 0, .bool false, .bool false] 23)) ((HT.out.ext HE.out).ext ((Ext.refl _).alloc _))
    have h5 : (hd ts).1 ≠ 5 := by rw [hk]; decide
    have H5 : Hid ((hd ts).1 ≠ 5) := h5
    have HK : Hid ((hd ts).1 = 2) := hk
    rw [hk] at t0
    clear h5 hlen
    cases ho : okP (hd ts).2.2.1
    · have HX : Hid (refr d ts = .error (ft ts false)) := by show _ = _; unfold refr; rw [if_neg]; rw [ho]; simp
      have hv : prV (hd ts).2.2.1 = refD 0 0 false false := by unfold prV; rw [ho]; rfl
      unfold refD at hv
      rw [ho, hv] at c1
      clear ho hv hk h
      generalize bs (hd ts).2.2.1 = q at *
      go_enter Tryz.func74, Tryz.ntmps74
      go_wp2_with fail
      refine c1.mono ?_
      rintro e w1 ⟨rfl, E1⟩
      clear c1
      have c2 := HH.out (w1.alloc (.cells #[.int .i64 0, .int .i64 0, .bool false, .bool false] 23)) ((HS.out.ext ((Ext.refl _).alloc _)).ext (E1.alloc _))
      go_wp2_with fail
      refine c2.mono ?_
      rintro e w2 ⟨rfl, E2⟩
      clear c2
      go_wp2_with fail
      rw [HX.out]
      exact ⟨rfl, rfl, ((((Ext.refl w).alloc _).trans (E1.alloc _)).trans E2).toB b⟩
    · have hv : prV (hd ts).2.2.1 = refV (rfP (hd ts).2.2.1) := by unfold prV; rw [ho]; rfl
      have HX : Hid (refr d ts = (tk1 d ts).bind fun ts1 => .ok (rfP (hd ts).2.2.1, ts1)) := refr_eq d ts ⟨hk, ho⟩
      unfold refV at hv
      rw [ho, hv] at c1
      clear ho hv hk h
      generalize rfP (hd ts).2.2.1 = r at *
      obtain ⟨r0, r1, r2, r3⟩ := r
      simp only [] at c1
      generalize bs (hd ts).2.2.1 = q at *
      go_enter Tryz.func74, Tryz.ntmps74
      go_wp2_with fail
      refine c1.mono ?_
      rintro e w1 ⟨rfl, E1⟩
      clear c1
      have hw1 : w.heap.size < w1.heap.size := by have := E1.sz; simp at this; omega
      have c2 := take_any w0 b d ts (w1.alloc (.cells #[.int .i64 r0, .int .i64 r1, .bool r2, .bool r3] 23)) ((HS.out.ext ((Ext.refl _).alloc _)).ext (E1.alloc _)) H5.out
      have HB1 : Hid (Blk (w1.alloc (.cells #[.int .i64 r0, .int .i64 r1, .bool r2, .bool r3] 23)) w1.heap.size (.int .i64 r0) (.int .i64 r1) (.bool r2) (.bool r3)) := blk_top rfl (Ext.refl _)
      have HB0 : Hid (Blk (w1.alloc (.cells #[.int .i64 r0, .int .i64 r1, .bool r2, .bool r3] 23)) w.heap.size (.int .i64 0) (.int .i64 0) (.bool false) (.bool false)) := blk_top rfl (E1.alloc _)
      cases ht : tk1 d ts with
      | error f =>
        rw [ht] at c2 HX
        go_wp2_with fail
        refine c2.mono ?_
        rintro e w2 ⟨rfl, E2⟩
        rw [HX.out]
        exact ⟨rfl, rfl, (((((Ext.refl w).alloc _).trans (E1.alloc _))).toB b).trans E2⟩
      | ok ts1 =>
        rw [ht] at c2 HX
        go_wp2_with fail
        refine c2.mono ?_
        rintro e w2 ⟨rfl, S2, E2⟩
        clear c2
        have hg1 : w1.heap.size ≠ b := by omega
        have hg0 : w.heap.size ≠ b := by omega
        have B1 := HB1.out.extB E2 hg1
        have B0 := HB0.out.extB E2 hg0
        have HBB : Hid (Blk w2 w.heap.size (.int .i64 0) (.int .i64 0) (.bool false) (.bool false)) := B0
        have HS2 : Hid (Stt w0 b w2 ts1 d ∧ ExtB b (w1.alloc (.cells #[.int .i64 r0, .int .i64 r1, .bool r2, .bool r3] 23)) w2) := ⟨S2, E2⟩
        obtain ⟨q1, ⟨k0, k1, k2, k3⟩, f0, f1, f2, f3⟩ := B1
        obtain ⟨q2, ⟨l0, l1, l2, l3⟩, g0, g1, g2, g3⟩ := B0
        clear S2 E2
        go_wp2_with fail
        rw [HX.out]
        have hz : w0.heap.size ≤ w.heap.size := HE.out.sz
        refine ret4 (refV (r0, r1, r2, r3)) (HBB.out.set _ _ _ _) rfl (fun g0 g1 g2 g3 => by simp [results, Tryz.results74, go_sem, g0, g1, g2, g3, refV]) ⟨rfl, (((HS2.out.1.far hg0 hz _).far hg0 hz _).far hg0 hz _).far hg0 hz _, ?_⟩
        have hE : ExtB b w w2 := ((((Ext.refl w).alloc _).trans (E1.alloc _)).toB b).trans HS2.out.2
        exact (((hE.set (.inr (Nat.le_refl _)) _).set (.inr (Nat.le_refl _)) _).set (.inr (Nat.le_refl _)) _).set (.inr (Nat.le_refl _)) _
  · have HX : Hid (refr d ts = .error (ft ts false)) := by show _ = _; unfold refr; rw [if_neg]; exact fun h => hk h.1
    have c2 := HH.out (w.alloc (.cells #[.int .i64 0, .int .i64 0, .bool false, .bool false] 23)) (HS.out.ext ((Ext.refl _).alloc _))
    clear h
    go_enter Tryz.func74, Tryz.ntmps74
    go_wp2_with fail
    refine c2.mono ?_
    rintro e w2 ⟨rfl, E2⟩
    clear c2
    go_wp2_with fail
    rw [HX.out]
    exact ⟨rfl, rfl, (((Ext.refl w).alloc _).trans E2).toB b⟩
end Go.Proofs.YtmapfpeaaipdoaaGreatDoor
