import Derived.Test.YtcfgbiaahangmaaGreatDoorN19
set_option maxHeartbeats 1000000
namespace Go.Proofs.YtcfgbiaahangmaaGreatDoor
open Go.RowKit
inductive Rt (tl : List Tk) : List Tk → List Tk → Prop
 | nil (e : Tk) : e.1 = 5 → Rt tl [e] tl
 | cons (t t' : Tk) (ts ts' : List Tk) : t.1 ≠ 5 → t'.1 = t.1 → t'.2.2 = t.2.2 → Rt tl ts ts' → Rt tl (t :: ts) (t' :: ts')
def Stp (z : Bool) (tl : List Tk) : Prop:=if z then ∃ e,tl = [e] ∧ e.1 = 5 else ∃ t r,tl = t :: r ∧ t.1 = 3 ∧ (t.2.2.1 = [41] ∨ t.2.2.1 = [44])
def DD (z : Bool) (d d' : Nat) : Prop:=d ≤ d' ∧ (z = true → d' = d)
def RG {α β : Type} (z : Bool) (N : α → Prop) (P : α → β → Prop) (r : Except Ft α) (r' : Except Ft β) : Prop:=match r with
 | .ok x=>N x ∨ (∃ x',r' = .ok x' ∧ P x x') ∨ (z = false ∧ ∃ p,r' = .error (p,true))
 | .error e=>z = true → ∃ p,r' = .error (p,e.2)
def no {α : Type} : α → Prop:=fun _=>False
theorem RG.long {α β : Type} {z : Bool} {N : α → Prop} {P : α → β → Prop} {r : Except Ft α} (hz : z = false) (p : Int) : RG z N P r (.error (p,true)):=by
 cases r with
 | ok x=>exact .inr (.inr ⟨hz,p,rfl⟩)
 | error e=>intro h;rw [hz] at h;cases h
theorem RG.ok {α β : Type} {z : Bool} {N : α → Prop} {P : α → β → Prop} {x : α} {x' : β} (h : P x x') : RG z N P (.ok x) (.ok x'):=.inr (.inl ⟨x',rfl,h⟩)
theorem RG.err {α β : Type} {z : Bool} {N : α → Prop} {P : α → β → Prop} {e e' : Ft} (h : e'.2 = e.2) : RG z N P (.error e) (.error e'):=fun _=>⟨e'.1,by rw [← h]⟩
theorem RG.off {α β : Type} {z : Bool} {N : α → Prop} {P : α → β → Prop} {e : Ft} {r' : Except Ft β} (h : z = false) : RG z N P (.error e) r':=by intro h1;rw [h] at h1;cases h1
theorem RG.then {α β γ δ : Type} {z : Bool} {N : α → Prop} {P : α → β → Prop} {N2 : γ → Prop} {P2 : γ → δ → Prop} {r : Except Ft α} {r' : Except Ft β} {f : α → Except Ft γ} {f' : β → Except Ft δ}
   (h : RG z N P r r') (hN : ∀ x,r = .ok x → N x → ∀ y',RG z N2 P2 (f x) y') (hf : ∀ x x',r = .ok x → P x x' → RG z N2 P2 (f x) (f' x')) : RG z N2 P2 (r.bind f) (r'.bind f'):=by
 cases r with
 | error e =>
   intro hz
   obtain ⟨p,rfl⟩:=h hz
   exact ⟨p,rfl⟩
 | ok x =>
   rcases h with h | ⟨x',rfl,h⟩ | ⟨hz,p,rfl⟩
   · exact hN x rfl h _
   · exact hf x x' rfl h
   · exact RG.long hz p
theorem Rt.len {tl ts ts' : List Tk} (h : Rt tl ts ts') : ts'.length + 1 = ts.length + tl.length:=by
 induction h with
 | nil e h=>simp;omega
 | cons t t' ts ts' h1 h2 h3 h4 ih=>simp;omega
theorem Rt.nz {tl ts ts' : List Tk} (h : Rt tl ts ts') : Nz ts:=by
 induction h with
 | nil e h=>exact ⟨[],e,rfl,h⟩
 | cons t t' ts ts' h1 h2 h3 h4 ih =>
   obtain ⟨pre,x,rfl,hx⟩:=ih
   exact ⟨t :: pre,x,rfl,hx⟩
theorem Rt.ends {z : Bool} {tl ts ts' : List Tk} (h : Rt tl ts ts') (hS : Stp z tl) (h5 : (hd ts).1 = 5) : ts' = tl ∧ (z = true → (hd ts').1 = 5) ∧ (z = false → (hd ts').1 = 3 ∧ ((hd ts').2.2.1 = [41] ∨ (hd ts').2.2.1 = [44])):=by
 cases h with
 | nil e h =>
   refine ⟨rfl,?_,?_⟩
   · intro hz;subst hz
     obtain ⟨x,rfl,hx⟩:=hS
     exact hx
   · intro hz;subst hz
     obtain ⟨t,r,rfl,h1,h2⟩:=hS
     exact ⟨h1,h2⟩
 | cons t t' ts ts' h1 h2 h3 h4=>exact absurd h5 h1
def Pt {α : Type} (tl : List Tk) (a b : α × List Tk) : Prop:=b.1 = a.1 ∧ Rt tl a.2 b.2
def RF (z : Bool) (tl : List Tk) (n m : Nat) (F F' : Rd) : Prop:=∀ d d' ts ts',DD z d d' → Rt tl ts ts' → ts.length ≤ n → ts'.length ≤ m → RG z no (Pt tl) (F d ts) (F' d' ts')
def RW (z : Bool) (tl : List Tk) (n m : Nat) (F F' : Rd) : Prop:=∀ d d' ts ts',DD z d d' → Rt tl ts ts' → ts.length ≤ n → ts'.length ≤ m → RG z (fun x=>z = false ∧ (hd x.2).1 = 5) (Pt tl) (F d ts) (F' d' ts')
theorem RF.weak {z : Bool} {tl : List Tk} {n m : Nat} {F F' : Rd} (h : RF z tl n m F F') : RW z tl n m F F':=by
 intro d d' ts ts' h1 h2 h3 h4
 have k:=h d d' ts ts' h1 h2 h3 h4
 unfold RG at k ⊢
 split
 · rename_i x hx
   rw [hx] at k
   exact .inr (k.resolve_left (fun h=>h.elim))
 · rename_i x hx
   rw [hx] at k
   exact k
theorem DD.up {z : Bool} {d d' : Nat} (h : DD z d d') : DD z (d + 1) (d' + 1):=⟨Nat.succ_le_succ h.1,fun e=>by rw [h.2 e]⟩
theorem Blk.extB {b g : Nat} {w w' : World} {x0 x1 x2 x3 : Value} (h : Blk w g x0 x1 x2 x3) (e : ExtB b w w') (hg : g ≠ b) : Blk w' g x0 x1 x2 x3:=by
 obtain ⟨z,⟨k0,k1,k2,k3⟩,f0,f1,f2,f3⟩:=h
 have k:=fun o=>(e.cell z hg o).1
 have f:=fun o=>(e.cell z hg o).2
 exact ⟨llL z e.size,⟨(k 0).trans k0,(k 1).trans k1,(k 2).trans k2,(k 3).trans k3⟩,(f 0).trans f0,(f 1).trans f1,(f 2).trans f2,(f 3).trans f3⟩
theorem hd_mem {ts : List Tk} (h : 1 ≤ ts.length) : hd ts ∈ ts:=by
 cases ts with
 | nil=>simp at h
 | cons t r=>simp [hd]
end Go.Proofs.YtcfgbiaahangmaaGreatDoor
