import Derived.Test.YtcfgbiaahangmaaGreatDoorT6
import Derived.Defers
set_option maxHeartbeats 1000000
namespace Go.Proofs.YtcfgbiaahangmaaGreatDoor
open Go.RowKit
abbrev Rf:=Int × Int × Bool × Bool
def rz : Rf:=(0,0,false,false)
inductive T where
 | mk (k n : Int) (s : List UInt8) (e : Int) (r q : Rf) (l : List T)
def T.k : T → Int | .mk k _ _ _ _ _ _=>k
def T.n : T → Int | .mk _ n _ _ _ _ _=>n
def T.s : T → List UInt8 | .mk _ _ s _ _ _ _=>s
def T.e : T → Int | .mk _ _ _ e _ _ _=>e
def T.r : T → Rf | .mk _ _ _ _ r _ _=>r
def T.q : T → Rf | .mk _ _ _ _ _ q _=>q
def T.l : T → List T | .mk _ _ _ _ _ _ l=>l
def tz : T:=.mk 0 0 [] 0 rz rz []
def tNum (n : Int) : T:=.mk 0 n [] 0 rz rz []
def tText (s : List UInt8) : T:=.mk 1 0 s 0 rz rz []
def tBool (n : Int) : T:=.mk 2 n [] 0 rz rz []
def tErr (e : Int) : T:=.mk 3 0 [] e rz rz []
def tRef (r : Rf) : T:=.mk 4 0 [] 0 r rz []
def tRange (r q : Rf) : T:=.mk 5 0 [] 0 r q []
def tNeg (x : T) : T:=.mk 6 0 [] 0 rz rz [x]
def tBin (s : List UInt8) (x y : T) : T:=.mk 7 0 s 0 rz rz [x,y]
def tCall (s : List UInt8) (l : List T) : T:=.mk 8 0 s 0 rz rz l
def bd1 : List (List UInt8):=[[61],[60,62],[60],[60,61],[62],[62,61]]
def bnd (s : List UInt8) : Nat :=
 if s ∈ bd1 then 1 else if s = [38] then 2 else if s = [43] ∨ s = [45] then 3 else if s = [42] ∨ s = [47] then 4 else 0
def rfP (s : List UInt8) : Rf:=(rowP s,colP s,dlB (rsL s),dlB s)
def wTrue : List UInt8:=[84,82,85,69]
def wFalse : List UInt8:=[70,65,76,83,69]
def hd (ts : List Tk) : Tk:=ts.headD (5,0,[],0,0)
abbrev Ft:=Int × Bool
def cd (b : Bool) : Int:=if b then 2 else 4
def ft (ts : List Tk) (c : Bool) : Ft:=((hd ts).2.1,c)
def isSg (p : List UInt8) (ts : List Tk) : Bool:=(hd ts).1 == 3 && (hd ts).2.2.1 == p
abbrev Rs:=Except Ft (T × List Tk)
def tk1 (d : Nat) (ts : List Tk) : Except Ft (List Tk):=if 40 < d then .error (ft ts true) else .ok ts.tail
def pass1 (p : List UInt8) (d : Nat) (ts : List Tk) : Except Ft (List Tk):=if isSg p ts then tk1 d ts else .error (ft ts false)
def one (d : Nat) (ts : List Tk) (x : T) : Rs:=match tk1 d ts with
 | .error e=>.error e
 | .ok ts1=>.ok (x,ts1)
def refr (d : Nat) (ts : List Tk) : Except Ft (Rf × List Tk) :=
 if (hd ts).1 = 2 ∧ okP (hd ts).2.2.1 = true then (match tk1 d ts with
   | .error e=>.error e
   | .ok ts1=>.ok (rfP (hd ts).2.2.1,ts1)) else .error (ft ts false)
abbrev Rd:=Nat → List Tk → Rs
def argm (F : Rd) (d : Nat) (ts : List Tk) : Rs:=match F d ts with
 | .error e=>.error e
 | .ok (x,ts1)=>if x.k = 4 ∧ ts.length = ts1.length + 1 ∧ isSg [58] ts1 = true then (match tk1 d ts1 with
   | .error e=>.error e
   | .ok ts2=>match refr d ts2 with
     | .error e=>.error e
     | .ok (q,ts3)=>.ok (tRange x.r q,ts3)) else .ok (x,ts1)
def argl (F : Rd) (a b : Nat) (d : Nat) : Nat → List T → List Tk → Except Ft (List T × List Tk)
 | 0,l,ts=>.ok (l,ts)
 | f + 1,l,ts=>if l.length < a ∨ l.length < b ∧ isSg [44] ts = true then (match pass1 [44] d ts with
   | .error e=>.error e
   | .ok ts1=>match argm F d ts1 with
     | .error e=>.error e
     | .ok (x,ts2)=>argl F a b d f (l ++ [x]) ts2) else .ok (l,ts)
def args (F : Rd) (a b : Nat) (d : Nat) (ts : List Tk) : Except Ft (List T × List Tk):=match argm F d ts with
 | .error e=>.error e
 | .ok (x,ts1)=>argl F a b d ts1.length [x] ts1
def call (F : Rd) (s : List UInt8) (a b : Nat) : Rd:=fun d ts=>match args F a b d ts with
 | .error e=>.error e
 | .ok (l,ts1)=>.ok (tCall s l,ts1)
def brk (F : Rd) (d : Nat) (ts : List Tk) : Rs:=match pass1 [40] d ts with
 | .error e=>.error e
 | .ok ts1=>match F (d + 1) ts1 with
   | .error e=>.error e
   | .ok (x,ts2)=>match pass1 [41] d ts2 with
     | .error e=>.error e
     | .ok ts3=>.ok (x,ts3)
def wrd (F : Rd) (d : Nat) (ts : List Tk) : Rs :=
 if (hd ts).2.2.1 = wTrue then one d ts (tBool 1) else if (hd ts).2.2.1 = wFalse then one d ts (tBool 0) else
 match kno (hd ts).2.2.1 with
 | some (a,b)=>(match tk1 d ts with
   | .error e=>.error e
   | .ok ts1=>brk (call F (hd ts).2.2.1 a b) d ts1)
 | none=>match refr d ts with
   | .error e=>.error e
   | .ok (r,ts1)=>.ok (tRef r,ts1)
def smp (F : Rd) (d : Nat) (ts : List Tk) : Rs :=
 if (hd ts).1 = 0 then one d ts (tNum (hd ts).2.2.2.1) else if (hd ts).1 = 1 then one d ts (tText (hd ts).2.2.1) else if (hd ts).1 = 4 then one d ts (tErr (hd ts).2.2.2.2) else
 if (hd ts).1 = 2 then wrd F d ts else brk F d ts
def opn (F O : Rd) (d : Nat) (ts : List Tk) : Rs :=
 if isSg [45] ts = true then (match tk1 d ts with
   | .error e=>.error e
   | .ok ts1=>match O (d + 1) ts1 with
     | .error e=>.error e
     | .ok (x,ts2)=>.ok (tNeg x,ts2)) else smp F d ts
def lp (side : Rd) (k : Nat) (d : Nat) : Nat → T → List Tk → Rs
 | 0,x,ts=>.ok (x,ts)
 | f + 1,x,ts=>if (hd ts).1 = 3 ∧ bnd (hd ts).2.2.1 = k then (match tk1 d ts with
   | .error e=>.error e
   | .ok ts1=>match side d ts1 with
     | .error e=>.error e
     | .ok (y,ts2)=>lp side k d f (tBin (hd ts).2.2.1 x y) ts2) else .ok (x,ts)
def lv (side : Rd) (k : Nat) : Rd:=fun d ts=>match side d ts with
 | .error e=>.error e
 | .ok (x,ts1)=>lp side k d ts1.length x ts1
def frm (o : Rd) : Rd:=lv (lv (lv (lv o 4) 3) 2) 1
def O : Nat → Rd
 | 0=>fun _ ts=>.error (ft ts false)
 | n + 1=>opn (frm (O n)) (O n)
def prs (ts : List Tk) : T × Int × Int:=match frm (O ts.length) 0 ts with
 | .error e=>(tz,e.1,cd e.2)
 | .ok (x,ts1)=>if (hd ts1).1 = 5 then (x,0,0) else (tz,(hd ts1).2.1,4)
def parR (l : List UInt8) : T × Int × Int:=if (lexR l).2.2 = 0 then prs (lexR l).1 else (tz,(lexR l).2.1,(lexR l).2.2)
def Nz (ts : List Tk) : Prop:=∃ pre t,ts = pre ++ [t] ∧ t.1 = 5
theorem Nz.tail {ts : List Tk} (h : Nz ts) (h5 : (hd ts).1 ≠ 5) : Nz ts.tail ∧ ts.tail.length + 1 = ts.length:=by
 obtain ⟨pre,t,rfl,h1⟩:=h
 cases pre with
 | nil=>exact absurd h1 h5
 | cons a b=>exact ⟨⟨b,t,rfl,h1⟩,by simp⟩
theorem Nz.ne {ts : List Tk} (h : Nz ts) : ts ≠ []:=by
 obtain ⟨pre,t,rfl,h1⟩:=h
 simp
theorem Nz.pos {ts : List Tk} (h : Nz ts) : 1 ≤ ts.length:=by
 obtain ⟨pre,t,rfl,h1⟩:=h
 simp
theorem isSg_k {p : List UInt8} {ts : List Tk} (h : isSg p ts = true) : (hd ts).1 = 3 ∧ (hd ts).2.2.1 = p:=by
 unfold isSg at h;simp at h;exact h
def Sh (ts ts' : List Tk) : Prop:=Nz ts' ∧ ts'.length < ts.length
def ShR {α : Type} (ts : List Tk) (r : Except Ft (α × List Tk)) : Prop:=∀ x ts',r = .ok (x,ts') → Sh ts ts'
theorem tk1_sh {d : Nat} {ts ts1 : List Tk} (h : Nz ts) (h5 : (hd ts).1 ≠ 5) (e : tk1 d ts = .ok ts1) : Sh ts ts1:=by
 unfold tk1 at e
 split at e
 · cases e
 · cases e
   have:=h.tail h5
   exact ⟨this.1,by omega⟩
theorem pass1_sh {p : List UInt8} {d : Nat} {ts ts1 : List Tk} (h : Nz ts) (e : pass1 p d ts = .ok ts1) : Sh ts ts1:=by
 unfold pass1 at e
 split at e
 · rename_i hs
   exact tk1_sh h (by rw [(isSg_k hs).1];decide) e
 · cases e
theorem one_sh {d : Nat} {ts : List Tk} {x : T} (h : Nz ts) (h5 : (hd ts).1 ≠ 5) : ShR ts (one d ts x):=by
 intro y ts' e
 unfold one at e
 split at e
 · cases e
 · rename_i ts1 h1
   cases e
   exact tk1_sh h h5 h1
theorem refr_sh {d : Nat} {ts : List Tk} (h : Nz ts) : ShR ts (refr d ts):=by
 intro y ts' e
 unfold refr at e
 split at e
 · rename_i hk
   split at e
   · cases e
   · rename_i ts1 h1
     cases e
     exact tk1_sh h (by rw [hk.1];decide) h1
 · cases e
def ShF (n : Nat) (F : Rd) : Prop:=∀ d ts,Nz ts → ts.length ≤ n → ShR ts (F d ts)
theorem Sh.trans {a b c : List Tk} (h : Sh a b) (k : Sh b c) : Sh a c:=⟨k.1,by have:=h.2;have:=k.2;omega⟩
theorem argm_sh {n : Nat} {F : Rd} (hF : ShF n F) : ShF n (argm F):=by
 intro d ts h hn x ts' e
 unfold argm at e
 split at e
 · cases e
 · rename_i y ts1 h1
   have s1:=hF d ts h hn y ts1 h1
   split at e
   · rename_i hc
     split at e
     · cases e
     · rename_i ts2 h2
       have s2:=tk1_sh s1.1 (by rw [(isSg_k hc.2.2).1];decide) h2
       split at e
       · cases e
       · rename_i q ts3 h3
         cases e
         exact (s1.trans s2).trans (refr_sh s2.1 _ _ h3)
   · cases e;exact s1
theorem argl_sh {n : Nat} {F : Rd} (hF : ShF n F) (a b d f : Nat) : ∀ (l l' : List T) (ts ts' : List Tk),Nz ts → ts.length ≤ n → argl F a b d f l ts = .ok (l',ts') → Nz ts' ∧ ts'.length ≤ ts.length:=by
 induction f with
 | zero =>
   intro l l' ts ts' h hn e
   unfold argl at e
   cases e
   exact ⟨h,Nat.le_refl _⟩
 | succ f ih =>
   intro l l' ts ts' h hn e
   unfold argl at e
   split at e
   · split at e
     · cases e
     · rename_i ts1 h1
       have s1:=pass1_sh h h1
       split at e
       · cases e
       · rename_i x ts2 h2
         have s2:=argm_sh hF d ts1 s1.1 (by have:=s1.2;omega) x ts2 h2
         exact K128
   · cases e;exact ⟨h,Nat.le_refl _⟩
theorem args_sh {n : Nat} {F : Rd} (hF : ShF n F) {a b d : Nat} {ts : List Tk} (h : Nz ts) (hn : ts.length ≤ n) : ShR ts (args F a b d ts):=by
 intro x ts' e
 unfold args at e
 split at e
 · cases e
 · rename_i y ts1 h1
   have s1:=argm_sh hF d ts h hn y ts1 h1
   have:=argl_sh hF a b d _ _ _ _ _ s1.1 (by have:=s1.2;omega) e
   exact ⟨this.1,by have:=s1.2;omega⟩
theorem call_sh {n : Nat} {F : Rd} (hF : ShF n F) (s : List UInt8) (a b : Nat) : ShF n (call F s a b):=by
 intro d ts h hn x ts' e
 unfold call at e
 split at e
 · cases e
 · rename_i y ts1 h1
   cases e
   exact args_sh hF h hn _ _ h1
theorem brk_sh {n : Nat} {F : Rd} (hF : ShF n F) : ShF (n + 1) (brk F):=by
 intro d ts h hn x ts' e
 unfold brk at e
 split at e
 · cases e
 · rename_i ts1 h1
   have s1:=pass1_sh h h1
   split at e
   · cases e
   · rename_i y ts2 h2
     have s2:=hF (d + 1) ts1 s1.1 (by have:=s1.2;omega) y ts2 h2
     split at e
     · cases e
     · rename_i ts3 h3
       cases e
       exact (s1.trans s2).trans (pass1_sh s2.1 h3)
theorem wrd_sh {n : Nat} {F : Rd} (hF : ShF n F) (d : Nat) (ts : List Tk) (h : Nz ts) (hn : ts.length ≤ n + 1) (hk : (hd ts).1 = 2) : ShR ts (wrd F d ts):=by
 intro x ts' e
 have h5 : (hd ts).1 ≠ 5:=by rw [hk];decide
 unfold wrd at e
 split at e
 · exact one_sh h h5 _ _ e
 · split at e
   · exact one_sh h h5 _ _ e
   · split at e
     · split at e
       · cases e
       · rename_i ts1 h1
         have s1:=tk1_sh h h5 h1
         exact s1.trans (brk_sh (call_sh hF _ _ _) d ts1 s1.1 (by have:=s1.2;omega) _ _ e)
     · split at e
       · cases e
       · rename_i r ts1 h1
         cases e
         exact refr_sh h _ _ h1
theorem smp_sh {n : Nat} {F : Rd} (hF : ShF n F) : ShF (n + 1) (smp F):=by
 intro d ts h hn x ts' e
 unfold smp at e
 split at e
 · rename_i hk;exact one_sh h J11 _ _ e
 · split at e
   · rename_i hk;exact one_sh h J11 _ _ e
   · split at e
     · rename_i hk;exact one_sh h J11 _ _ e
     · split at e
       · rename_i hk;exact wrd_sh hF d ts h hn hk _ _ e
       · exact brk_sh hF d ts h hn _ _ e
theorem opn_sh {n : Nat} {F G : Rd} (hF : ShF n F) (hG : ShF n G) : ShF (n + 1) (opn F G):=by
 intro d ts h hn x ts' e
 unfold opn at e
 split at e
 · rename_i hk
   split at e
   · cases e
   · rename_i ts1 h1
     have s1:=tk1_sh h (by rw [(isSg_k hk).1];decide) h1
     split at e
     · cases e
     · rename_i y ts2 h2
       cases e
       exact s1.trans (hG (d + 1) ts1 s1.1 (by have:=s1.2;omega) _ _ h2)
 · exact smp_sh hF d ts h hn _ _ e
theorem lp_sh {n : Nat} {F : Rd} (hF : ShF n F) (k d f : Nat) : ∀ (x y : T) (ts ts' : List Tk),Nz ts → ts.length ≤ n → lp F k d f x ts = .ok (y,ts') → Nz ts' ∧ ts'.length ≤ ts.length:=by
 induction f with
 | zero =>
   intro x y ts ts' h hn e
   unfold lp at e
   cases e
   exact ⟨h,Nat.le_refl _⟩
 | succ f ih =>
   intro x y ts ts' h hn e
   unfold lp at e
   split at e
   · rename_i hk
     split at e
     · cases e
     · rename_i ts1 h1
       have s1:=tk1_sh h (by rw [hk.1];decide) h1
       split at e
       · cases e
       · rename_i z ts2 h2
         have s2:=hF d ts1 s1.1 (by have:=s1.2;omega) z ts2 h2
         exact K128
   · cases e;exact ⟨h,Nat.le_refl _⟩
theorem lv_sh {n : Nat} {F : Rd} (hF : ShF n F) (k : Nat) : ShF n (lv F k):=by
 intro d ts h hn x ts' e
 unfold lv at e
 split at e
 · cases e
 · rename_i y ts1 h1
   have s1:=hF d ts h hn y ts1 h1
   have:=lp_sh hF k d _ _ _ _ _ s1.1 (by have:=s1.2;omega) e
   exact ⟨this.1,by have:=s1.2;omega⟩
theorem frm_sh {n : Nat} {F : Rd} (hF : ShF n F) : ShF n (frm F):=lv_sh (lv_sh (lv_sh (lv_sh hF 4) 3) 2) 1
theorem O_sh (n : Nat) : ShF n (O n):=by
 induction n with
 | zero=>intro d ts h hn;exact absurd (h.pos) J2
 | succ n ih=>exact opn_sh (frm_sh ih) ih
inductive Rt (tl : List Tk) : List Tk → List Tk → Prop
 | nil (e : Tk) : e.1 = 5 → Rt tl [e] tl
 | cons (t t' : Tk) (ts ts' : List Tk) : t.1 ≠ 5 → t'.1 = t.1 → t'.2.2 = t.2.2 → Rt tl ts ts' → Rt tl (t :: ts) (t' :: ts')
def Stp (z : Bool) (tl : List Tk) : Prop:=if z then ∃ e,tl = [e] ∧ e.1 = 5 else ∃ t r,tl = t :: r ∧ t.1 = 3 ∧ (t.2.2.1 = [41] ∨ t.2.2.1 = [44])
def DD (z : Bool) (d d' : Nat) : Prop:=d ≤ d' ∧ (z = true → d' = d)
def RG {α β : Type} (z : Bool) (N : α → Prop) (P : α → β → Prop) (r : Except Ft α) (r' : Except Ft β) : Prop:=match r with
 | .ok x=>N x ∨ (∃ x',r' = .ok x' ∧ P x x') ∨ (z = false ∧ ∃ p,r' = .error (p,true))
 | .error e=>z = true → ∃ p,r' = .error (p,e.2)
def no {α : Type} : α → Prop:=fun _=>False
theorem RG.long {α β : Type} {z : Bool} {N : α → Prop} {P : α → β → Prop} {r : Except Ft α} (hz : z = false) (p : Int) : RG z N P r (.error (p,true)):=by
 cases r with
 | ok x=>exact .inr (.inr ⟨hz,p,rfl⟩)
 | error e=>intro h;rw [hz] at h;cases h
theorem RG.ok {α β : Type} {z : Bool} {N : α → Prop} {P : α → β → Prop} {x : α} {x' : β} (h : P x x') : RG z N P (.ok x) (.ok x'):=.inr (.inl ⟨x',rfl,h⟩)
theorem RG.err {α β : Type} {z : Bool} {N : α → Prop} {P : α → β → Prop} {e e' : Ft} (h : e'.2 = e.2) : RG z N P (.error e) (.error e'):=fun _=>⟨e'.1,by rw [← h]⟩
theorem RG.off {α β : Type} {z : Bool} {N : α → Prop} {P : α → β → Prop} {e : Ft} {r' : Except Ft β} (h : z = false) : RG z N P (.error e) r':=by intro h1;rw [h] at h1;cases h1
theorem RG.then {α β γ δ : Type} {z : Bool} {N : α → Prop} {P : α → β → Prop} {N2 : γ → Prop} {P2 : γ → δ → Prop} {r : Except Ft α} {r' : Except Ft β} {f : α → Except Ft γ} {f' : β → Except Ft δ}
   (h : RG z N P r r') (hN : ∀ x,r = .ok x → N x → ∀ y',RG z N2 P2 (f x) y') (hf : ∀ x x',r = .ok x → P x x' → RG z N2 P2 (f x) (f' x')) : RG z N2 P2 (r.bind f) (r'.bind f'):=by
 cases r with
 | error e =>
   intro hz
   obtain ⟨p,rfl⟩:=h hz
   exact ⟨p,rfl⟩
 | ok x =>
   rcases h with h | ⟨x',rfl,h⟩ | ⟨hz,p,rfl⟩
   · exact hN x rfl h _
   · exact hf x x' rfl h
   · exact RG.long hz p
theorem RG.then' {α β γ δ : Type} {z : Bool} {P : α → β → Prop} {N2 : γ → Prop} {P2 : γ → δ → Prop} {r : Except Ft α} {r' : Except Ft β} {f : α → Except Ft γ} {f' : β → Except Ft δ}
   (h : RG z no P r r') (hf : ∀ x x',r = .ok x → P x x' → RG z N2 P2 (f x) (f' x')) : RG z N2 P2 (r.bind f) (r'.bind f'):=h.then (fun _ _ h=>h.elim) hf
theorem one_eq (d : Nat) (ts : List Tk) (x : T) : one d ts x = (tk1 d ts).bind fun ts1=>.ok (x,ts1):=by
 unfold one;cases tk1 d ts <;> rfl
theorem refr_eq (d : Nat) (ts : List Tk) (h : (hd ts).1 = 2 ∧ okP (hd ts).2.2.1 = true) : refr d ts = (tk1 d ts).bind fun ts1=>.ok (rfP (hd ts).2.2.1,ts1):=by
 unfold refr;rw [if_pos h];cases tk1 d ts <;> rfl
theorem argm_eq (F : Rd) (d : Nat) (ts : List Tk) : argm F d ts = (F d ts).bind fun a=>if a.1.k = 4 ∧ ts.length = a.2.length + 1 ∧ isSg [58] a.2 = true then ((tk1 d a.2).bind fun ts2=>(refr d ts2).bind fun b=>.ok (tRange a.1.r b.1,b.2)) else .ok a:=by
 unfold argm
 cases F d ts with
 | error e=>rfl
 | ok a =>
   obtain ⟨x,ts1⟩:=a
   simp only [Except.bind]
   split
   · cases tk1 d ts1 with
     | error e=>rfl
     | ok ts2=>simp only [];cases refr d ts2 <;> rfl
   · rfl
theorem argl_eq (F : Rd) (a b d f : Nat) (l : List T) (ts : List Tk) (h : l.length < a ∨ l.length < b ∧ isSg [44] ts = true) : argl F a b d (f + 1) l ts = (pass1 [44] d ts).bind fun ts1=>(argm F d ts1).bind fun x=>argl F a b d f (l ++ [x.1]) x.2:=by
 rw [argl,if_pos h]
 cases pass1 [44] d ts with
 | error e=>rfl
 | ok ts1=>simp only [Except.bind];cases argm F d ts1 <;> rfl
theorem args_eq (F : Rd) (a b d : Nat) (ts : List Tk) : args F a b d ts = (argm F d ts).bind fun x=>argl F a b d x.2.length [x.1] x.2:=by
 unfold args;cases argm F d ts <;> rfl
theorem call_eq (F : Rd) (s : List UInt8) (a b d : Nat) (ts : List Tk) : call F s a b d ts = (args F a b d ts).bind fun x=>.ok (tCall s x.1,x.2):=by
 unfold call;cases args F a b d ts <;> rfl
theorem brk_eq (F : Rd) (d : Nat) (ts : List Tk) : brk F d ts = (pass1 [40] d ts).bind fun ts1=>(F (d + 1) ts1).bind fun x=>(pass1 [41] d x.2).bind fun ts3=>.ok (x.1,ts3):=by
 unfold brk
 cases pass1 [40] d ts with
 | error e=>rfl
 | ok ts1 =>
   simp only [Except.bind]
   cases F (d + 1) ts1 with
   | error e=>rfl
   | ok x=>simp only [];cases pass1 [41] d x.2 <;> rfl
theorem lp_eq (F : Rd) (k d f : Nat) (x : T) (ts : List Tk) (h : (hd ts).1 = 3 ∧ bnd (hd ts).2.2.1 = k) : lp F k d (f + 1) x ts = (tk1 d ts).bind fun ts1=>(F d ts1).bind fun y=>lp F k d f (tBin (hd ts).2.2.1 x y.1) y.2:=by
 rw [lp,if_pos h]
 cases tk1 d ts with
 | error e=>rfl
 | ok ts1=>simp only [Except.bind];cases F d ts1 <;> rfl
theorem lv_eq (F : Rd) (k d : Nat) (ts : List Tk) : lv F k d ts = (F d ts).bind fun x=>lp F k d x.2.length x.1 x.2:=by
 unfold lv;cases F d ts <;> rfl
theorem opn_eq (F G : Rd) (d : Nat) (ts : List Tk) (h : isSg [45] ts = true) : opn F G d ts = (tk1 d ts).bind fun ts1=>(G (d + 1) ts1).bind fun x=>.ok (tNeg x.1,x.2):=by
 unfold opn;rw [if_pos h]
 cases tk1 d ts with
 | error e=>rfl
 | ok ts1=>simp only [Except.bind];cases G (d + 1) ts1 <;> rfl
theorem wrd_call (F : Rd) (d : Nat) (ts : List Tk) (a b : Nat) (h1 : ¬ (hd ts).2.2.1 = wTrue) (h2 : ¬ (hd ts).2.2.1 = wFalse) (h : kno (hd ts).2.2.1 = some (a,b)) : wrd F d ts = (tk1 d ts).bind fun ts1=>brk (call F (hd ts).2.2.1 a b) d ts1:=by
 unfold wrd;rw [if_neg h1,if_neg h2,h];cases tk1 d ts <;> rfl
theorem wrd_ref (F : Rd) (d : Nat) (ts : List Tk) (h1 : ¬ (hd ts).2.2.1 = wTrue) (h2 : ¬ (hd ts).2.2.1 = wFalse) (h : kno (hd ts).2.2.1 = none) : wrd F d ts = (refr d ts).bind fun x=>.ok (tRef x.1,x.2):=by
 unfold wrd;rw [if_neg h1,if_neg h2,h];cases refr d ts <;> rfl
theorem Rt.len {tl ts ts' : List Tk} (h : Rt tl ts ts') : ts'.length + 1 = ts.length + tl.length:=by
 induction h with
 | nil e h=>simp;omega
 | cons t t' ts ts' h1 h2 h3 h4 ih=>simp;omega
theorem Rt.nz {tl ts ts' : List Tk} (h : Rt tl ts ts') : Nz ts:=by
 induction h with
 | nil e h=>exact ⟨[],e,rfl,h⟩
 | cons t t' ts ts' h1 h2 h3 h4 ih =>
   obtain ⟨pre,x,rfl,hx⟩:=ih
   exact ⟨t :: pre,x,rfl,hx⟩
theorem Rt.heads {tl ts ts' : List Tk} (h : Rt tl ts ts') (h5 : (hd ts).1 ≠ 5) : (hd ts').1 = (hd ts).1 ∧ (hd ts').2.2 = (hd ts).2.2 ∧ Rt tl ts.tail ts'.tail:=by
 cases h with
 | nil e h=>exact absurd h h5
 | cons t t' ts ts' h1 h2 h3 h4=>exact ⟨h2,h3,h4⟩
theorem Rt.ends {z : Bool} {tl ts ts' : List Tk} (h : Rt tl ts ts') (hS : Stp z tl) (h5 : (hd ts).1 = 5) : ts' = tl ∧ (z = true → (hd ts').1 = 5) ∧ (z = false → (hd ts').1 = 3 ∧ ((hd ts').2.2.1 = [41] ∨ (hd ts').2.2.1 = [44])):=by
 cases h with
 | nil e h =>
   refine ⟨rfl,?_,?_⟩
   · intro hz;subst hz
     obtain ⟨x,rfl,hx⟩:=hS
     exact hx
   · intro hz;subst hz
     obtain ⟨t,r,rfl,h1,h2⟩:=hS
     exact ⟨h1,h2⟩
 | cons t t' ts ts' h1 h2 h3 h4=>exact absurd h5 h1
theorem isSg_rr {z : Bool} {tl ts ts' : List Tk} (p : List UInt8) (h : Rt tl ts ts') (hS : Stp z tl) (hp : z = false → p ≠ [41] ∧ p ≠ [44] ∨ (hd ts).1 ≠ 5) : isSg p ts' = isSg p ts:=by
 by_cases h5 : (hd ts).1 = 5
 · have e : isSg p ts = false:=J73
   rw [e]
   obtain ⟨_,h1,h2⟩:=h.ends hS h5
   cases z with
   | true=>unfold isSg;rw [h1 rfl];rfl
   | false =>
     obtain ⟨h3,h4⟩:=h2 rfl
     have h6:=hp rfl
     unfold isSg
     rw [h3]
     rcases h6 with ⟨h6,h7⟩ | h6
     · rcases h4 with h4 | h4 <;> rw [h4] <;> simp <;> intro h8 <;> first | exact h6 h8.symm | exact h7 h8.symm
     · exact absurd h5 h6
 · obtain ⟨h1,h2,_⟩:=h.heads h5
   unfold isSg;rw [h1,h2]
theorem tk1_rr {z : Bool} {tl ts ts' : List Tk} {d d' : Nat} (h : Rt tl ts ts') (hD : DD z d d') (h5 : (hd ts).1 ≠ 5) : RG z no (Rt tl) (tk1 d ts) (tk1 d' ts'):=by
 unfold tk1
 by_cases h1 : 40 < d
 · rw [if_pos h1,if_pos (by have:=hD.1;omega)];exact RG.err rfl
 · rw [if_neg h1]
   by_cases h2 : 40 < d'
   · rw [if_pos h2]
     refine RG.long ?_ _
     cases z with
     | true=>have:=hD.2 rfl;omega
     | false=>rfl
   · rw [if_neg h2];exact RG.ok (h.heads h5).2.2
theorem pass1_rr {z : Bool} {tl ts ts' : List Tk} {d d' : Nat} (p : List UInt8) (h : Rt tl ts ts') (hS : Stp z tl) (hD : DD z d d') : RG z no (Rt tl) (pass1 p d ts) (pass1 p d' ts'):=by
 unfold pass1
 by_cases h5 : (hd ts).1 = 5
 · have e : isSg p ts = false:=J73
   rw [e]
   cases z with
   | false=>exact RG.off rfl
   | true=>rw [isSg_rr p h hS (by intro h;cases h),e];exact RG.err rfl
 · rw [isSg_rr p h hS (fun _=>.inr h5)]
   split
   · exact tk1_rr h hD h5
   · exact RG.err rfl
theorem pass1_off {p : List UInt8} {d : Nat} {ts : List Tk} (h5 : (hd ts).1 = 5) : ∃ e,pass1 p d ts = .error e:=by
 unfold pass1
 have e : isSg p ts = false:=J73
 rw [e];exact ⟨_,rfl⟩
def Pt {α : Type} (tl : List Tk) (a b : α × List Tk) : Prop:=b.1 = a.1 ∧ Rt tl a.2 b.2
theorem one_rr {z : Bool} {tl ts ts' : List Tk} {d d' : Nat} (x : T) (h : Rt tl ts ts') (hD : DD z d d') (h5 : (hd ts).1 ≠ 5) : RG z no (Pt tl) (one d ts x) (one d' ts' x):=by
 rw [one_eq,one_eq]
 exact (tk1_rr h hD h5).then' (fun a b _ hab=>RG.ok ⟨rfl,hab⟩)
theorem refr_rr {z : Bool} {tl ts ts' : List Tk} {d d' : Nat} (h : Rt tl ts ts') (hS : Stp z tl) (hD : DD z d d') : RG z no (Pt tl) (refr d ts) (refr d' ts'):=by
 by_cases h5 : (hd ts).1 = 5
 · have e : refr d ts = .error (ft ts false):=by unfold refr;rw [if_neg];rw [h5];simp
   rw [e]
   cases z with
   | false=>exact RG.off rfl
   | true =>
     have e' : refr d' ts' = .error (ft ts' false):=by unfold refr;rw [if_neg];rw [(h.ends hS h5).2.1 rfl];simp
     rw [e'];exact RG.err rfl
 · obtain ⟨h1,h2,h3⟩:=h.heads h5
   by_cases hc : (hd ts).1 = 2 ∧ okP (hd ts).2.2.1 = true
   · rw [refr_eq d ts hc,refr_eq d' ts' J54,h2]
     exact (tk1_rr h hD h5).then' (fun a b _ hab=>RG.ok ⟨rfl,hab⟩)
   · unfold refr
     rw [if_neg hc,if_neg J54];exact RG.err rfl
def RF (z : Bool) (tl : List Tk) (n m : Nat) (F F' : Rd) : Prop:=∀ d d' ts ts',DD z d d' → Rt tl ts ts' → ts.length ≤ n → ts'.length ≤ m → RG z no (Pt tl) (F d ts) (F' d' ts')
def RW (z : Bool) (tl : List Tk) (n m : Nat) (F F' : Rd) : Prop:=∀ d d' ts ts',DD z d d' → Rt tl ts ts' → ts.length ≤ n → ts'.length ≤ m → RG z (fun x=>z = false ∧ (hd x.2).1 = 5) (Pt tl) (F d ts) (F' d' ts')
theorem RF.weak {z : Bool} {tl : List Tk} {n m : Nat} {F F' : Rd} (h : RF z tl n m F F') : RW z tl n m F F':=by
 intro d d' ts ts' h1 h2 h3 h4
 have k:=h d d' ts ts' h1 h2 h3 h4
 unfold RG at k ⊢
 split
 · rename_i x hx
   rw [hx] at k
   exact .inr (k.resolve_left (fun h=>h.elim))
 · rename_i x hx
   rw [hx] at k
   exact k
theorem DD.up {z : Bool} {d d' : Nat} (h : DD z d d') : DD z (d + 1) (d' + 1):=⟨Nat.succ_le_succ h.1,fun e=>by rw [h.2 e]⟩
theorem Rt.sh {tl ts ts' us us' : List Tk} (h : Rt tl ts ts') (k : Rt tl us us') (hl : us.length < ts.length) : us'.length < ts'.length:=by
 have:=h.len;have:=k.len;omega
theorem argm_rr {z : Bool} {tl : List Tk} {n m : Nat} {F F' : Rd} (hF : RF z tl n m F F') (hS : Stp z tl) : RF z tl n m (argm F) (argm F'):=by
 intro d d' ts ts' hD h hn hm
 rw [argm_eq,argm_eq]
 refine (hF d d' ts ts' hD h hn hm).then' ?_
 rintro ⟨x,ts1⟩ ⟨x',ts1'⟩ hx ⟨hxx,h1⟩
 simp only [] at hxx h1 ⊢
 subst hxx
 have e1:=isSg_rr [58] h1 hS (fun _=>.inl ⟨by decide,by decide⟩)
 have e2 : ts'.length = ts1'.length + 1 ↔ ts.length = ts1.length + 1:=by have:=h.len;have:=h1.len;omega
 simp only [e1,e2]
 split
 · rename_i hc
   refine (tk1_rr h1 hD (by rw [(isSg_k hc.2.2).1];decide)).then' ?_
   intro ts2 ts2' _ h2
   refine (refr_rr h2 hS hD).then' ?_
   rintro ⟨q,ts3⟩ ⟨q',ts3'⟩ _ ⟨hq,h3⟩
   simp only [] at hq h3 ⊢
   subst hq
   exact RG.ok ⟨rfl,h3⟩
 · exact RG.ok ⟨rfl,h1⟩
theorem argl_rr {z : Bool} {tl : List Tk} {n m : Nat} {F F' : Rd} (hF : RF z tl n m F F') (hsh : ShF n F) (hS : Stp z tl) (a b : Nat) (f : Nat) : ∀ (f' d d' : Nat) (l : List T) (ts ts' : List Tk),DD z d d' → Rt tl ts ts' → ts.length ≤ n → ts'.length ≤ m → ts.length ≤ f → ts'.length ≤ f' →
   RG z (fun x : List T × List Tk=>z = false ∧ (hd x.2).1 = 5) (Pt tl) (argl F a b d f l ts) (argl F' a b d' f' l ts'):=by
 induction f with
 | zero =>
   intro f' d d' l ts ts' hD h hn hm hf hf'
   have:=h.nz.pos;omega
 | succ f ih =>
   intro f' d d' l ts ts' hD h hn hm hf hf'
   have hp:=h.nz.pos
   by_cases h5 : (hd ts).1 = 5 ∧ z = false
   · have e : isSg [44] ts = false:=by unfold isSg;rw [h5.1];rfl
     by_cases hc : l.length < a
     · rw [argl_eq F a b d f l ts (.inl hc)]
       obtain ⟨x,hx⟩:=pass1_off (p:=[44]) (d:=d) h5.1
       rw [hx]
       exact RG.off h5.2
     · rw [argl,if_neg (by rw [e];simp;omega)]
       exact .inl ⟨h5.2,h5.1⟩
   · have e1:=isSg_rr [44] h hS (fun hz=>.inr (fun h6=>h5 ⟨h6,hz⟩))
     have hl' : 1 ≤ ts'.length:=by
       exact K66
     obtain ⟨f',rfl⟩ : ∃ g,f' = g + 1:=⟨f' - 1,by omega⟩
     by_cases hc : l.length < a ∨ l.length < b ∧ isSg [44] ts = true
     · rw [argl_eq F a b d f l ts hc,argl_eq F' a b d' f' l ts' J59]
       refine (pass1_rr [44] h hS hD).then' ?_
       intro ts1 ts1' hx1 h1
       have s1:=pass1_sh h.nz hx1
       have l1:=h.sh h1 s1.2
       have n1:=s1.2
       refine (argm_rr hF hS d d' ts1 ts1' hD h1 J2 J2).then' ?_
       rintro ⟨x,ts2⟩ ⟨x',ts2'⟩ hx2 ⟨hxx,h2⟩
       simp only [] at hxx h2 ⊢
       subst hxx
       have s2:=argm_sh hsh d ts1 s1.1 J2 _ _ hx2
       exact K160
     · rw [argl,if_neg hc,argl,if_neg J59]
       exact RG.ok ⟨rfl,h⟩
theorem call_rr {z : Bool} {tl : List Tk} {n m : Nat} {F F' : Rd} (hF : RF z tl n m F F') (hsh : ShF n F) (hS : Stp z tl) (s : List UInt8) (a b : Nat) : RW z tl n m (call F s a b) (call F' s a b):=by
 intro d d' ts ts' hD h hn hm
 rw [call_eq,call_eq,args_eq,args_eq]
 have k : RG z (fun x : List T × List Tk=>z = false ∧ (hd x.2).1 = 5) (Pt tl) ((argm F d ts).bind fun x=>argl F a b d x.2.length [x.1] x.2) ((argm F' d' ts').bind fun x=>argl F' a b d' x.2.length [x.1] x.2):=by
   refine (argm_rr hF hS d d' ts ts' hD h hn hm).then' ?_
   rintro ⟨x,ts1⟩ ⟨x',ts1'⟩ hx ⟨hxx,h1⟩
   simp only [] at hxx h1 ⊢
   subst hxx
   have s1:=argm_sh hsh d ts h.nz hn _ _ hx
   have l1:=h.sh h1 s1.2
   have n1:=s1.2
   exact argl_rr hF hsh hS a b _ _ d d' _ ts1 ts1' hD h1 J2 J2 nrf nrf
 refine k.then ?_ ?_
 · intro x _ hN y'
   exact .inl hN
 · rintro ⟨x,ts1⟩ ⟨x',ts1'⟩ _ ⟨hxx,h1⟩
   simp only [] at hxx h1 ⊢
   subst hxx
   exact RG.ok ⟨rfl,h1⟩
theorem brk_rr {z : Bool} {tl : List Tk} {n m : Nat} {F F' : Rd} (hF : RW z tl n m F F') (hS : Stp z tl) : RF z tl (n + 1) (m + 1) (brk F) (brk F'):=by
 intro d d' ts ts' hD h hn hm
 rw [brk_eq,brk_eq]
 refine (pass1_rr [40] h hS hD).then' ?_
 intro ts1 ts1' hx1 h1
 have s1:=pass1_sh h.nz hx1
 have l1:=h.sh h1 s1.2
 have n1:=s1.2
 refine (hF (d + 1) (d' + 1) ts1 ts1' hD.up h1 J2 J2).then ?_ ?_
 · rintro ⟨x,ts2⟩ _ ⟨hz,h5⟩ y'
   obtain ⟨e,he⟩:=pass1_off (p:=[41]) (d:=d) h5
   rw [he]
   exact RG.off hz
 · rintro ⟨x,ts2⟩ ⟨x',ts2'⟩ _ ⟨hxx,h2⟩
   simp only [] at hxx h2 ⊢
   subst hxx
   exact (pass1_rr [41] h2 hS hD).then' (fun a b _ hab=>RG.ok ⟨rfl,hab⟩)
theorem wrd_rr {z : Bool} {tl : List Tk} {n m : Nat} {F F' : Rd} (hF : RF z tl n m F F') (hsh : ShF n F) (hS : Stp z tl) {d d' : Nat} {ts ts' : List Tk} (hD : DD z d d') (h : Rt tl ts ts') (hn : ts.length ≤ n + 1) (hm : ts'.length ≤ m + 1) (hk : (hd ts).1 = 2) : RG z no (Pt tl) (wrd F d ts) (wrd F' d' ts'):=by
 have h5 : (hd ts).1 ≠ 5:=by rw [hk];decide
 obtain ⟨h1,h2,h3⟩:=h.heads h5
 by_cases c1 : (hd ts).2.2.1 = wTrue
 · unfold wrd
   rw [h2,if_pos c1,if_pos c1]
   exact one_rr _ h hD h5
 · by_cases c2 : (hd ts).2.2.1 = wFalse
   · unfold wrd
     rw [h2,if_neg c1,if_neg c1,if_pos c2,if_pos c2]
     exact one_rr _ h hD h5
   · cases hk2 : kno (hd ts).2.2.1 with
     | some x =>
       obtain ⟨a,b⟩:=x
       rw [wrd_call F d ts a b c1 c2 hk2,wrd_call F' d' ts' a b (by rw [h2];exact c1) (by rw [h2];exact c2) (by rw [h2];exact hk2),h2]
       refine (tk1_rr h hD h5).then' ?_
       intro ts1 ts1' hx1 h1
       have s1:=tk1_sh h.nz h5 hx1
       have l1:=h.sh h1 s1.2
       have n1:=s1.2
       exact brk_rr (call_rr hF hsh hS _ a b) hS d d' ts1 ts1' hD h1 J2 J2
     | none =>
       rw [wrd_ref F d ts c1 c2 hk2,wrd_ref F' d' ts' (by rw [h2];exact c1) (by rw [h2];exact c2) (by rw [h2];exact hk2)]
       refine (refr_rr h hS hD).then' ?_
       exact K139
theorem smp_rr {z : Bool} {tl : List Tk} {n m : Nat} {F F' : Rd} (hF : RF z tl n m F F') (hsh : ShF n F) (hS : Stp z tl) : RF z tl (n + 1) (m + 1) (smp F) (smp F'):=by
 intro d d' ts ts' hD h hn hm
 by_cases h5 : (hd ts).1 = 5
 · have e : smp F d ts = .error (ft ts false):=by
     unfold smp brk
     rw [h5]
     simp only [show ¬ ((5 : Int) = 0) by decide,show ¬ ((5 : Int) = 1) by decide,show ¬ ((5 : Int) = 4) by decide,show ¬ ((5 : Int) = 2) by decide,if_false]
     have e1 : isSg [40] ts = false:=J73
     unfold pass1;rw [e1];rfl
   rw [e]
   cases z with
   | false=>exact RG.off rfl
   | true =>
     have h6:=(h.ends hS h5).2.1 rfl
     have e' : smp F' d' ts' = .error (ft ts' false):=by
       unfold smp brk
       rw [h6]
       simp only [show ¬ ((5 : Int) = 0) by decide,show ¬ ((5 : Int) = 1) by decide,show ¬ ((5 : Int) = 4) by decide,show ¬ ((5 : Int) = 2) by decide,if_false]
       have e1 : isSg [40] ts' = false:=by unfold isSg;rw [h6];rfl
       unfold pass1;rw [e1];rfl
     rw [e'];exact RG.err rfl
 · obtain ⟨h1,h2,h3⟩:=h.heads h5
   unfold smp
   rw [h1,h2]
   split
   · exact one_rr _ h hD h5
   · split
     · exact one_rr _ h hD h5
     · split
       · exact one_rr _ h hD h5
       · split
         · rename_i hk;exact wrd_rr hF hsh hS hD h hn hm hk
         · exact brk_rr hF.weak hS d d' ts ts' hD h hn hm
theorem opn_rr {z : Bool} {tl : List Tk} {n m : Nat} {F F' G G' : Rd} (hF : RF z tl n m F F') (hG : RF z tl n m G G') (hsh : ShF n F) (hS : Stp z tl) : RF z tl (n + 1) (m + 1) (opn F G) (opn F' G'):=by
 intro d d' ts ts' hD h hn hm
 have e1:=isSg_rr [45] h hS (fun _=>.inl ⟨by decide,by decide⟩)
 by_cases hc : isSg [45] ts = true
 · rw [opn_eq F G d ts hc,opn_eq F' G' d' ts' J59]
   have h5 : (hd ts).1 ≠ 5:=by rw [(isSg_k hc).1];decide
   refine (tk1_rr h hD h5).then' ?_
   intro ts1 ts1' hx1 h1
   have s1:=tk1_sh h.nz h5 hx1
   have l1:=h.sh h1 s1.2
   have n1:=s1.2
   refine (hG (d + 1) (d' + 1) ts1 ts1' hD.up h1 J2 J2).then' ?_
   exact K139
 · unfold opn
   rw [if_neg hc,if_neg J59]
   exact smp_rr hF hsh hS d d' ts ts' hD h hn hm
theorem lp_rr {z : Bool} {tl : List Tk} {n m : Nat} {F F' : Rd} (hF : RF z tl n m F F') (hsh : ShF n F) (hS : Stp z tl) (k : Nat) (hk : 1 ≤ k) (f : Nat) : ∀ (f' d d' : Nat) (x : T) (ts ts' : List Tk),DD z d d' → Rt tl ts ts' → ts.length ≤ n → ts'.length ≤ m → ts.length ≤ f → ts'.length ≤ f' →
   RG z no (Pt tl) (lp F k d f x ts) (lp F' k d' f' x ts'):=by
 induction f with
 | zero =>
   intro f' d d' l ts ts' hD h hn hm hf hf'
   have:=h.nz.pos;omega
 | succ f ih =>
   intro f' d d' x ts ts' hD h hn hm hf hf'
   have hp:=h.nz.pos
   have hl' : 1 ≤ ts'.length:=by
     exact K66
   obtain ⟨f',rfl⟩ : ∃ g,f' = g + 1:=⟨f' - 1,by omega⟩
   by_cases h5 : (hd ts).1 = 5
   · rw [lp,if_neg (by rw [h5];simp),lp,if_neg]
     · exact RG.ok ⟨rfl,h⟩
     · obtain ⟨_,g1,g2⟩:=h.ends hS h5
       cases z with
       | true=>rw [g1 rfl];simp
       | false =>
         obtain ⟨g3,g4⟩:=g2 rfl
         rintro ⟨_,g5⟩
         rcases g4 with g4 | g4 <;> rw [g4] at g5 <;> simp [bnd,bd1] at g5 <;> omega
   · obtain ⟨h1,h2,h3⟩:=h.heads h5
     by_cases hc : (hd ts).1 = 3 ∧ bnd (hd ts).2.2.1 = k
     · rw [lp_eq F k d f x ts hc,lp_eq F' k d' f' x ts' J54,h2]
       refine (tk1_rr h hD h5).then' ?_
       intro ts1 ts1' hx1 h1
       have s1:=tk1_sh h.nz h5 hx1
       have l1:=h.sh h1 s1.2
       have n1:=s1.2
       refine (hF d d' ts1 ts1' hD h1 J2 J2).then' ?_
       rintro ⟨y,ts2⟩ ⟨y',ts2'⟩ hx2 ⟨hxx,h2⟩
       simp only [] at hxx h2 ⊢
       subst hxx
       have s2:=hsh d ts1 s1.1 J2 _ _ hx2
       exact K160
     · rw [lp,if_neg hc,lp,if_neg J54]
       exact RG.ok ⟨rfl,h⟩
theorem lv_rr {z : Bool} {tl : List Tk} {n m : Nat} {F F' : Rd} (hF : RF z tl n m F F') (hsh : ShF n F) (hS : Stp z tl) (k : Nat) (hk : 1 ≤ k) : RF z tl n m (lv F k) (lv F' k):=by
 intro d d' ts ts' hD h hn hm
 rw [lv_eq,lv_eq]
 refine (hF d d' ts ts' hD h hn hm).then' ?_
 rintro ⟨x,ts1⟩ ⟨x',ts1'⟩ hx ⟨hxx,h1⟩
 simp only [] at hxx h1 ⊢
 subst hxx
 have s1:=hsh d ts h.nz hn _ _ hx
 have l1:=h.sh h1 s1.2
 have n1:=s1.2
 exact lp_rr hF hsh hS k hk _ _ d d' _ ts1 ts1' hD h1 J2 J2 nrf nrf
theorem frm_rr {z : Bool} {tl : List Tk} {n m : Nat} {F F' : Rd} (hF : RF z tl n m F F') (hsh : ShF n F) (hS : Stp z tl) : RF z tl n m (frm F) (frm F') :=
 lv_rr (lv_rr (lv_rr (lv_rr hF hsh hS 4 J6) (lv_sh hsh 4) hS 3 J6) (lv_sh (lv_sh hsh 4) 3) hS 2 J6) (lv_sh (lv_sh (lv_sh hsh 4) 3) 2) hS 1 J6
theorem O_rr {z : Bool} {tl : List Tk} (hS : Stp z tl) (n : Nat) : ∀ m,RF z tl n m (O n) (O m):=by
 induction n with
 | zero=>intro m d d' ts ts' hD h hn hm;exact absurd h.nz.pos J2
 | succ n ih =>
   intro m d d' ts ts' hD h hn hm
   have hl' : 1 ≤ ts'.length:=by
     exact K66
   obtain ⟨m,rfl⟩ : ∃ g,m = g + 1:=⟨m - 1,by omega⟩
   exact opn_rr (frm_rr (ih m) (O_sh n) hS) (ih m) (frm_sh (O_sh n)) hS d d' ts ts' hD h hn hm
theorem frm_all {z : Bool} {tl : List Tk} (hS : Stp z tl) (n m : Nat) : RF z tl n m (frm (O n)) (frm (O m)):=frm_rr (O_rr hS n m) (O_sh n) hS
def Bl (r : List UInt8) : Prop:=r = [] ∨ ∃ t,r = 32 :: t
def bl (n : Nat) : List UInt8:=List.replicate n 32
theorem Bl.head {r : List UInt8} (h : Bl r) (c : UInt8) (hc : r[0]? = some c) : c = 32:=by
 rcases h with rfl | ⟨t,rfl⟩
 · cases hc
 · simpa using hc.symm
theorem txt_stop (r : List UInt8) (h : ∀ c,r[0]? = some c → c ≠ 34) : txt (34 :: r) = some ([],1):=by
 cases r with
 | nil=>simp [txt]
 | cons d r=>rw [txt,if_pos rfl,if_neg (h d rfl)]
theorem find_same {α : Type} {q q' : α → Bool} : ∀ (l : List α),(∀ x ∈ l,q x = q' x) → l.find? q = l.find? q'
 | [],_=>rfl
 | x :: l,h=>by
   rw [List.find?_cons,List.find?_cons,h x J60,find_same l (fun y hy=>h y (by simp [hy]))]
theorem map_ok {e a b : Type} {f : a → b} {r : Except e a} {y : b} (h : r.map f = .ok y) : ∃ x,r = .ok x ∧ f x = y:=by
 cases r with
 | error e=>cases h
 | ok x=>cases h;exact ⟨x,rfl,rfl⟩
theorem map_err {e a b : Type} {f : a → b} {r : Except e a} {y : e} (h : r.map f = .error y) : r = .error y:=by
 cases r with
 | error e=>cases h;rfl
 | ok x=>cases h
def mvT (a : Nat) (t : Tk) : Tk:=(t.1,t.2.1 + (a : Int),t.2.2.1,t.2.2.2.1,t.2.2.2.2)
def mvR (a : Nat) (r : Except (Nat × Int) (List Tk)) : Except (Nat × Int) (List Tk):=match r with
 | .ok ts=>.ok (ts.map (mvT a))
 | .error x=>.error (x.1 + a,x.2)
theorem W_move (a n : Nat) : ∀ (l : List UInt8) (p : Nat),l.length ≤ n → W (p + a) l = mvR a (W p l):=by
 induction n with
 | zero =>
   intro l p hl
   have : l = []:=List.eq_nil_of_length_eq_zero J2
   subst this
   simp [W_nil,mvR,mvT,endT]
 | succ n ih =>
   intro l p hl
   cases l with
   | nil=>simp [W_nil,mvR,mvT,endT]
   | cons c t =>
     by_cases hc : c = 32
     · subst hc
       rw [W_blank,W_blank,← ih t (p + 1) J39]
       congr 1;omega
     · rw [W_cons _ c t hc,W_cons p c t hc]
       cases hx : nxt (c :: t) with
       | error e=>rfl
       | ok x =>
         have hm:=nxt_pos hx
         simp only [List.length_cons] at hm
         have i1:=ih ((c :: t).drop x.2.2.2.2) (p + x.2.2.2.2) J45
         have e : p + a + x.2.2.2.2 = p + x.2.2.2.2 + a:=J2
         simp only []
         rw [e,i1]
         cases W (p + x.2.2.2.2) ((c :: t).drop x.2.2.2.2) with
         | error y=>rfl
         | ok us=>simp [mvR,Except.map,mvT,tkOf]
theorem W_ahead (a p : Nat) (l : List UInt8) : W p (bl a ++ l) = W (p + a) l:=by
 induction a generalizing p with
 | zero=>rfl
 | succ a ih =>
   show W p (32 :: (bl a ++ l)) = _
   rw [W_blank,ih (p + 1)]
   congr 1;omega
def Gd (l : List UInt8) (a : Nat) (t : Tk) : Prop:=t.2.1 = (a : Int) ∧ a ≤ l.length ∧ ((t.1 = 2 ∨ t.1 = 3) → a + t.2.2.1.length ≤ l.length ∧ (l.drop a).take t.2.2.1.length = t.2.2.1) ∧ (∀ h : a < l.length,l[a] ≠ 32)
def Ord7 (l : List UInt8) : Nat → List Tk → Prop
 | _,[]=>True
 | p,t :: r=>∃ a,p ≤ a ∧ Gd l a t ∧ Ord7 l (a + 1) r
theorem Ord7.mono {l : List UInt8} {p q : Nat} {ts : List Tk} (h : Ord7 l p ts) (hq : q ≤ p) : Ord7 l q ts:=by
 cases ts with
 | nil=>trivial
 | cons t r=>obtain ⟨a,h1,h2⟩:=h;exact ⟨a,by omega,h2⟩
theorem Ord7.at {l : List UInt8} : ∀ (ts : List Tk) (p i : Nat) (t : Tk),Ord7 l p ts → ts[i]? = some t → ∃ a,p ≤ a ∧ Gd l a t ∧ Ord7 l (a + 1) (ts.drop (i + 1))
 | [],_,_,_,_,h=>by simp at h
 | s :: r,p,0,t,h,hi=>by
   simp at hi
   subst hi
   exact h
 | s :: r,p,i + 1,t,h,hi=>by
   obtain ⟨a,h1,h2,h3⟩:=h
   obtain ⟨b,h4,h5⟩:=Ord7.at r (a + 1) i t h3 (by simpa using hi)
   exact ⟨b,by omega,h5⟩
theorem Ord7.next {l : List UInt8} {ts : List Tk} {p i : Nat} {t u : Tk} (h : Ord7 l p ts) (h1 : ts[i]? = some t) (h2 : ts[i + 1]? = some u) : t.2.1 < u.2.1:=by
 obtain ⟨a,_,g1,g2⟩:=h.at ts p i t h1
 obtain ⟨b,k1,k2,_⟩:=g2.at _ _ 0 u (by rw [List.getElem?_drop];exact h2)
 rw [g1.1,k2.1];omega
theorem W_count (n : Nat) : ∀ (l : List UInt8) (p : Nat) (ts : List Tk),l.length ≤ n → W p l = .ok ts → ts.length ≤ l.length + 1 ∧ 1 ≤ ts.length:=by
 induction n with
 | zero =>
   intro l p ts hl h
   have : l = []:=List.eq_nil_of_length_eq_zero J2
   subst this
   rw [W_nil] at h;cases h;simp
 | succ n ih =>
   intro l p ts hl h
   cases l with
   | nil=>rw [W_nil] at h;cases h;simp
   | cons c t =>
     by_cases hc : c = 32
     · subst hc
       rw [W_blank] at h
       have:=ih t (p + 1) ts J39 h
       simp;omega
     · rw [W_cons p c t hc] at h
       cases hx : nxt (c :: t) with
       | error e=>rw [hx] at h;cases h
       | ok x =>
         rw [hx] at h
         simp only [] at h
         obtain ⟨us,hu,rfl⟩:=map_ok h
         have hm:=nxt_pos hx
         simp only [List.length_cons] at hm
         have:=ih ((c :: t).drop x.2.2.2.2) (p + x.2.2.2.2) us J45 hu
         simp at this ⊢;omega
theorem nxt_code {l : List UInt8} {c : Int} (h : nxt l = .error c) : c = 4 ∨ c = 2:=by
 cases l with
 | nil=>cases h;exact .inl rfl
 | cons d r =>
   rw [nxt_cons] at h
   split at h
   · unfold nuRL at h
     split at h
     · cases h;exact .inl rfl
     · split at h
       · cases h;exact .inr rfl
       · cases h
   · split at h
     · unfold txtR at h
       exact K164
     · split at h
       · cases h
       · split at h
         · unfold errR at h
           exact K164
         · unfold sgR at h
           exact K164
theorem W_code (n : Nat) : ∀ (l : List UInt8) (p : Nat) (y : Nat × Int),l.length ≤ n → W p l = .error y → y.2 = 4 ∨ y.2 = 2:=by
 induction n with
 | zero =>
   intro l p y hl h
   have : l = []:=List.eq_nil_of_length_eq_zero J2
   subst this
   rw [W_nil] at h;cases h
 | succ n ih =>
   intro l p y hl h
   cases l with
   | nil=>rw [W_nil] at h;cases h
   | cons c t =>
     by_cases hc : c = 32
     · subst hc
       rw [W_blank] at h
       exact ih t (p + 1) y J39 h
     · rw [W_cons p c t hc] at h
       cases hx : nxt (c :: t) with
       | error e=>rw [hx] at h;cases h;exact nxt_code hx
       | ok x =>
         rw [hx] at h
         have hm:=nxt_pos hx
         simp only [List.length_cons] at hm
         exact ih _ _ y J45 (map_err h)
theorem lexR_cases (l : List UInt8) : (∃ ts,l.length ≤ 300 ∧ W 0 l = .ok ts ∧ lexR l = (ts,0,0)) ∨ (∃ p c,lexR l = ([],p,c) ∧ (c = 2 ∨ c = 4) ∧ (300 < l.length ∧ p = 0 ∧ c = 2 ∨ l.length ≤ 300 ∧ ∃ q : Nat,p = (q : Int) ∧ W 0 l = .error (q,c))):=by
 by_cases h : 300 < l.length
 · exact .inr ⟨0,2,by unfold lexR;rw [if_pos h],.inl rfl,.inl ⟨h,rfl,rfl⟩⟩
 · cases hw : W 0 l with
   | ok ts=>exact .inl ⟨ts,by omega,rfl,by unfold lexR;rw [if_neg h,hw]⟩
   | error y=>exact .inr ⟨(y.1 : Int),y.2,by unfold lexR;rw [if_neg h,hw],(W_code l.length l 0 y nrf hw).symm,.inr ⟨by omega,y.1,rfl,rfl⟩⟩
def Sp (r : List UInt8) : Prop:=r = [] ∨ ∃ c t,r = c :: t ∧ (c = 32 ∨ c = 41 ∨ c = 44)
theorem Sp.head {r : List UInt8} (h : Sp r) (c : UInt8) (hc : r[0]? = some c) : c = 32 ∨ c = 41 ∨ c = 44:=by
 exact K167
theorem run_sp (p : UInt8 → Bool) (hp : p 32 = false ∧ p 41 = false ∧ p 44 = false) (l r : List UInt8) (hr : Sp r) : run p (l ++ r) = run p l:=by
 induction l with
 | nil =>
   rcases hr with rfl | ⟨c,t,rfl,h⟩
   · rfl
   · rw [List.nil_append,run_cons,run_nil,if_neg]
     rcases h with rfl | rfl | rfl <;> simp [hp.1,hp.2.1,hp.2.2]
 | cons c l ih=>rw [List.cons_append,run_cons,run_cons,ih]
theorem numE_sp (l r : List UInt8) (hr : Sp r) : numE (l ++ r) = numE l:=by
 unfold numE
 rw [run_sp dgB J6 l r hr]
 have hn:=runL_le dgB l
 by_cases h : run dgB l < l.length
 · rw [List.getElem?_append_left h,List.drop_append_of_le_length J2,run_sp dgB J6 _ r hr]
 · have e : run dgB l = l.length:=J2
   rw [e]
   have h1 : (l ++ r)[l.length]? = r[0]?:=by rw [List.getElem?_append_right nrf,Nat.sub_self]
   rw [h1,if_neg,if_neg]
   · rintro ⟨h2,_⟩;rw [List.getElem?_eq_none nrf] at h2;cases h2
   · rintro ⟨h2,_⟩;exact absurd (hr.head _ h2) J6
theorem numR_sp (l r : List UInt8) (hr : Sp r) : nuRL (l ++ r) = nuRL l:=by
 unfold nuRL
 rw [numE_sp l r hr,List.take_append_of_le_length (numE_le l)]
theorem txt_sp (r : List UInt8) (hr : Sp r) : ∀ (l : List UInt8) (x : List UInt8 × Nat),txt l = some x → txt (l ++ r) = some x
 | [],x,h=>by simp [txt] at h
 | [c],x,h=>by
   unfold txt at h
   split at h
   · rename_i hc
     subst hc
     cases h
     exact txt_stop r (fun c hc=>by rcases hr.head c hc with rfl | rfl | rfl <;> decide)
   · cases h
 | c :: d :: l,x,h=>by
   unfold txt at h
   show txt (c :: d :: (l ++ r)) = some x
   rw [txt]
   split at h
   · rename_i hc
     rw [if_pos hc]
     split at h
     · rename_i hd
       rw [if_pos hd]
       rw [Option.map_eq_some_iff] at h
       obtain ⟨y,hy,rfl⟩:=h
       rw [txt_sp r hr l y hy];rfl
     · rename_i hd
       rw [if_neg hd];exact h
   · rename_i hc
     rw [if_neg hc]
     rw [Option.map_eq_some_iff] at h
     obtain ⟨y,hy,rfl⟩:=h
     have:=txt_sp r hr (d :: l) y hy
     rw [List.cons_append] at this
     rw [this];rfl
theorem wdR_sp (l r : List UInt8) (hr : Sp r) : wdR (l ++ r) = wdR l:=by
 unfold wdR
 rw [run_sp inW J6 l r hr,List.take_append_of_le_length (runL_le inW l)]
def spB (c : UInt8) : Bool:=c != 32 && c != 41 && c != 44
theorem pre_sp (p : List UInt8) : ∀ (l r : List UInt8),p.all spB = true → Sp r → p.isPrefixOf (l ++ r) = p.isPrefixOf l:=by
 induction p with
 | nil=>intro l r _ _;simp
 | cons a p ih =>
   intro l r hp hr
   rw [List.all_cons,Bool.and_eq_true] at hp
   cases l with
   | nil =>
     rcases hr with rfl | ⟨c,t,rfl,h⟩
     · rfl
     · have : (a == c) = false:=by
         have:=hp.1
         unfold spB at this
         simp at this
         rcases h with rfl | rfl | rfl <;> simp [this]
       simp [List.isPrefixOf,this]
   | cons b l=>rw [List.cons_append,List.isPrefixOf_cons_cons,List.isPrefixOf_cons_cons,ih l r hp.2 hr]
theorem errR_sp (l r : List UInt8) (hr : Sp r) : errR (l ++ r) = errR l:=by
 have e : errT (l ++ r) = errT l:=by
   unfold errT
   refine find_same errsL (fun x hx=>pre_sp _ _ _ ?_ hr)
   have : errsL.all (fun x=>x.2.all spB) = true:=by decide
   exact List.all_eq_true.1 this x hx
 unfold errR;rw [e]
theorem sgR_sp (c : UInt8) (l r : List UInt8) (hr : Sp r) : sgR (c :: l ++ r) = sgR (c :: l):=by
 have e : sgT (c :: l ++ r) = sgT (c :: l):=by
   unfold sgT
   refine find_same sgsL (fun x hx=>?_)
   have : sgsL.all (fun x=>x.tail.all spB) = true:=by decide
   have h1:=List.all_eq_true.1 this x hx
   cases x with
   | nil=>simp
   | cons a p=>rw [List.cons_append,List.isPrefixOf_cons_cons,List.isPrefixOf_cons_cons,pre_sp p l r h1 hr]
 unfold sgR;rw [e]
theorem nxt_sp {l r : List UInt8} {x : Wd} (hr : Sp r) (h : nxt l = .ok x) : nxt (l ++ r) = .ok x:=by
 cases l with
 | nil=>cases h
 | cons c l =>
   rw [nxt_cons] at h
   have e : c :: l ++ r = c :: (l ++ r):=rfl
   rw [e,nxt_cons,← e]
   rw [numR_sp _ r hr,wdR_sp _ r hr,errR_sp _ r hr,sgR_sp _ _ r hr]
   split at h
   · rename_i h1;rw [if_pos h1];exact h
   · rename_i h1
     rw [if_neg h1]
     split at h
     · rename_i h2
       rw [if_pos h2]
       unfold txtR at h ⊢
       rw [e,List.tail_cons]
       rw [List.tail_cons] at h
       split at h
       · cases h
       · rename_i y hy
         rw [txt_sp r hr l y hy];exact h
     · rename_i h2;rw [if_neg h2];exact h
theorem nxt_kind {l : List UInt8} {x : Wd} (h : nxt l = .ok x) : x.1 ≠ 5:=by
 cases l with
 | nil=>cases h
 | cons c l =>
   rw [nxt_cons] at h
   split at h
   · unfold nuRL at h
     split at h
     · cases h
     · split at h
       · cases h
       · cases h;show (0 : Int) ≠ 5;decide
   · split at h
     · unfold txtR at h
       split at h
       · cases h
       · cases h;show (1 : Int) ≠ 5;decide
     · split at h
       · unfold wdR at h
         cases h;show (2 : Int) ≠ 5;decide
       · split at h
         · unfold errR at h
           split at h
           · cases h
           · cases h;show (4 : Int) ≠ 5;decide
         · unfold sgR at h
           split at h
           · cases h
           · cases h;show (3 : Int) ≠ 5;decide
theorem W_sp (r : List UInt8) (hr : Sp r) (n : Nat) : ∀ (l : List UInt8) (p : Nat) (ts : List Tk),l.length ≤ n → W p l = .ok ts →
   ts = ts.dropLast ++ [endT (p + l.length)] ∧ (∀ t ∈ ts.dropLast,t.1 ≠ 5) ∧ W p (l ++ r) = (W (p + l.length) r).map (fun us=>ts.dropLast ++ us):=by
 induction n with
 | zero =>
   intro l p ts hl h
   have : l = []:=List.eq_nil_of_length_eq_zero J2
   subst this
   exact K158
 | succ n ih =>
   intro l p ts hl h
   cases l with
   | nil =>
     exact K158
   | cons c t =>
     by_cases hc : c = 32
     · subst hc
       rw [W_blank] at h
       have:=ih t (p + 1) ts J39 h
       have e : p + 1 + t.length = p + (t.length + 1):=J2
       rw [e] at this
       refine ⟨this.1,this.2.1,?_⟩
       rw [List.cons_append,W_blank]
       exact this.2.2
     · rw [W_cons p c t hc] at h
       cases hx : nxt (c :: t) with
       | error e=>rw [hx] at h;cases h
       | ok x =>
         rw [hx] at h
         simp only [] at h
         obtain ⟨us,hu,rfl⟩:=map_ok h
         have hm:=nxt_pos hx
         simp only [List.length_cons] at hm
         have i1:=ih ((c :: t).drop x.2.2.2.2) (p + x.2.2.2.2) us J45 hu
         have e : p + x.2.2.2.2 + ((c :: t).drop x.2.2.2.2).length = p + (c :: t).length:=J8
         rw [e] at i1
         have hne : us ≠ []:=by intro h0;rw [h0] at i1;simp at i1
         have hd : (tkOf x p :: us).dropLast = tkOf x p :: us.dropLast:=List.dropLast_cons_of_ne_nil hne
         refine ⟨?_,?_,?_⟩
         · rw [hd,List.cons_append,← i1.1]
         · rw [hd]
           intro t ht
           rcases List.mem_cons.1 ht with rfl | ht
           · exact nxt_kind hx
           · exact i1.2.1 t ht
         · have e2 : c :: t ++ r = c :: (t ++ r):=rfl
           rw [e2,W_cons p c (t ++ r) hc,← e2,nxt_sp hr hx]
           simp only []
           rw [List.drop_append_of_le_length J8,i1.2.2,hd]
           cases W (p + (c :: t).length) r <;> rfl
theorem rt_of (tl : List Tk) (a : Nat) : ∀ (us : List Tk) (e : Tk),(∀ t ∈ us,t.1 ≠ 5) → e.1 = 5 → Rt tl (us ++ [e]) (us.map (mvT a) ++ tl)
 | [],e,_,h=>.nil e h
 | t :: us,e,hu,h=>.cons t (mvT a t) _ _ (hu t J60) rfl rfl (rt_of tl a us e (fun x hx=>hu x (by simp [hx])) h)
theorem W_rt {l : List UInt8} {ts : List Tk} (tl : List Tk) (a : Nat) (h : W 0 l = .ok ts) : Rt tl ts (ts.dropLast.map (mvT a) ++ tl):=by
 obtain ⟨h1,h2,_⟩:=W_sp [] (.inl rfl) l.length l 0 ts nrf h
 have:=rt_of tl a ts.dropLast (endT (0 + l.length)) h2 rfl
 rwa [← h1] at this
theorem W_nz {l : List UInt8} {ts : List Tk} (h : W 0 l = .ok ts) : Nz ts:=(W_rt [] 0 h).nz
theorem W_at_one {c : UInt8} {r : List UInt8} {x : Wd} (p : Nat) (hc : c ≠ 32) (h : nxt (c :: r) = .ok x) : W p (c :: r) = (W (p + x.2.2.2.2) ((c :: r).drop x.2.2.2.2)).map (fun ts=>tkOf x p :: ts):=by
 rw [W_cons p c r hc,h]
theorem W_follow {l : List UInt8} {ts : List Tk} (a : Nat) (r : List UInt8) (hr : Sp r) (h : W 0 l = .ok ts) : W a (l ++ r) = (W (a + l.length) r).map (fun us=>ts.dropLast.map (mvT a) ++ us):=by
 have h1:=W_move a l.length l 0 nrf
 rw [h,Nat.zero_add] at h1
 obtain ⟨_,_,h2⟩:=W_sp r hr l.length l a _ nrf h1
 rw [h2]
 congr 1
 funext us
 rw [List.map_dropLast]
theorem nxt_close (r : List UInt8) : nxt (41 :: r) = .ok (3,[41],0,0,1):=by
 exact K150
theorem nxt_open (r : List UInt8) : nxt (40 :: r) = .ok (3,[40],0,0,1):=by
 exact K150
theorem W_close (p : Nat) : W p [41] = .ok [(3,(p : Int),[41],0,0),endT (p + 1)]:=by
 rw [W_at_one p J6 (nxt_close [])]
 simp [W_nil,Except.map,tkOf]
def tOpen (p : Nat) : Tk:=(3,(p : Int),[40],0,0)
def tClose (p : Nat) : Tk:=(3,(p : Int),[41],0,0)
theorem cd_ne (b : Bool) : cd b ≠ 0:=by cases b <;> decide
theorem lexR_ok {l : List UInt8} (h : (lexR l).2.2 = 0) : ∃ ts,l.length ≤ 300 ∧ W 0 l = .ok ts ∧ lexR l = (ts,0,0):=by
 rcases lexR_cases l with h1 | ⟨p,c,h1,h2,_⟩
 · exact h1
 · rw [h1] at h;simp only [] at h;omega
theorem lexR_of {l : List UInt8} {ts : List Tk} (hl : l.length ≤ 300) (h : W 0 l = .ok ts) : lexR l = (ts,0,0):=by
 unfold lexR;rw [if_neg J2,h]
theorem lexR_long {l : List UInt8} (hl : 300 < l.length) : lexR l = ([],0,2):=by unfold lexR;rw [if_pos hl]
theorem parR_ok {l : List UInt8} (h : (parR l).2.2 = 0) : ∃ ts x ts1,l.length ≤ 300 ∧ W 0 l = .ok ts ∧ frm (O ts.length) 0 ts = .ok (x,ts1) ∧ (hd ts1).1 = 5 ∧ parR l = (x,0,0):=by
 unfold parR at h ⊢
 by_cases hc : (lexR l).2.2 = 0
 · rw [if_pos hc] at h ⊢
   obtain ⟨ts,h1,h2,h3⟩:=lexR_ok hc
   rw [h3] at h ⊢
   simp only [] at h ⊢
   unfold prs at h ⊢
   cases hf : frm (O ts.length) 0 ts with
   | error e=>rw [hf] at h;exact absurd h (cd_ne e.2)
   | ok a =>
     obtain ⟨x,ts1⟩:=a
     rw [hf] at h
     simp only [] at h ⊢
     by_cases h5 : (hd ts1).1 = 5
     · exact ⟨ts,x,ts1,h1,h2,hf,h5,by rw [if_pos h5]⟩
     · rw [if_neg h5] at h;simp at h
 · rw [if_neg hc] at h;exact absurd h hc
theorem parR_of {l : List UInt8} {ts : List Tk} (hl : l.length ≤ 300) (h : W 0 l = .ok ts) : parR l = prs ts:=by
 unfold parR;rw [lexR_of hl h,if_pos rfl]
theorem parR_long {l : List UInt8} (hl : 300 < l.length) : parR l = (tz,0,2):=by
 unfold parR;rw [lexR_long hl,if_neg J6]
theorem lp_end (side : Rd) (k d f : Nat) (x : T) (ts : List Tk) (h : (hd ts).1 = 5) : lp side k d f x ts = .ok (x,ts):=by
 cases f with
 | zero=>rfl
 | succ f=>rw [lp,if_neg (by rw [h];simp)]
theorem frm_ok {o : Rd} {d : Nat} {ts ts1 : List Tk} {x : T} (h : o d ts = .ok (x,ts1)) (h5 : (hd ts1).1 = 5) : frm o d ts = .ok (x,ts1):=by
 unfold frm
 simp only [lv,h,lp_end _ _ _ _ _ _ h5]
theorem frm_err {o : Rd} {d : Nat} {ts : List Tk} {e : Ft} (h : o d ts = .error e) : frm o d ts = .error e:=by
 unfold frm
 simp only [lv,h]
theorem opn_open (F G : Rd) (d p : Nat) (ts : List Tk) : opn F G d (tOpen p :: ts) = brk F d (tOpen p :: ts):=by
 unfold opn smp isSg hd tOpen
 simp
theorem pass_open (d p : Nat) (ts : List Tk) (hd40 : d ≤ 40) : pass1 [40] d (tOpen p :: ts) = .ok ts:=by
 unfold pass1 isSg hd tOpen tk1
 simp;omega
theorem pass_close (d p : Nat) (ts : List Tk) (hd40 : d ≤ 40) : pass1 [41] d (tClose p :: ts) = .ok ts:=by
 unfold pass1 isSg hd tClose tk1
 simp;omega
theorem frm_stop {l : List UInt8} {ts ts1 : List Tk} {x : T} (a m : Nat) (tl : List Tk) (hS : Stp false tl) (hW : W 0 l = .ok ts) (h : frm (O ts.length) 0 ts = .ok (x,ts1)) (h5 : (hd ts1).1 = 5) (hm : (ts.dropLast.map (mvT a) ++ tl).length ≤ m) :
   frm (O m) 1 (ts.dropLast.map (mvT a) ++ tl) = .ok (x,tl) ∨ ∃ p,frm (O m) 1 (ts.dropLast.map (mvT a) ++ tl) = .error (p,true):=by
 have k:=frm_all hS ts.length m 0 1 ts _ ⟨by decide,by intro h;cases h⟩ (W_rt tl a hW) nrf hm
 rw [h] at k
 rcases k with k | ⟨⟨x',ts'⟩,k1,k2,k3⟩ | ⟨_,p,k⟩
 · exact k.elim
 · left
   simp only [] at k2 k3
   rw [k1,k2,(k3.ends hS h5).1]
 · exact .inr ⟨p,k⟩
theorem lt_no {c : UInt8} (h1 : ¬ ((65 : Int) ≤ c.toNat ∧ (c.toNat : Int) ≤ 90)) (h2 : ¬ ((97 : Int) ≤ c.toNat ∧ (c.toNat : Int) ≤ 122)) : letB c = ((c.toNat : Int) == 36):=by
 unfold letB;rw [Bool.eq_iff_iff];simp;omega
theorem lt_yes {c : UInt8} (h : ((65 : Int) ≤ c.toNat ∧ (c.toNat : Int) ≤ 90) ∨ ((97 : Int) ≤ c.toNat ∧ (c.toNat : Int) ≤ 122)) : letB c = true:=by
 unfold letB;simp;omega
theorem run_at (p : UInt8 → Bool) (l : List UInt8) (k : Nat) (hk : k < l.length) : run p (l.drop k) = if p l[k] then run p (l.drop (k + 1)) + 1 else 0:=by
 rw [List.drop_eq_getElem_cons hk,run_cons]
theorem run_off (p : UInt8 → Bool) (l : List UInt8) (k : Nat) (hk : l.length ≤ k) : run p (l.drop k) = 0:=by
 rw [List.drop_eq_nil_of_le hk];rfl
def Blk5 (W : World) (b : Nat) (x0 x1 x2 x3 x4 : Value) : Prop:=b < W.heap.size ∧
 (W.cell? ⟨b,0,none⟩ = some x0 ∧ W.cell? ⟨b,1,none⟩ = some x1 ∧ W.cell? ⟨b,2,none⟩ = some x2 ∧ W.cell? ⟨b,3,none⟩ = some x3 ∧ W.cell? ⟨b,4,none⟩ = some x4) ∧
 (W.frozen? ⟨b,0,none⟩ = false ∧ W.frozen? ⟨b,1,none⟩ = false ∧ W.frozen? ⟨b,2,none⟩ = false ∧ W.frozen? ⟨b,3,none⟩ = false ∧ W.frozen? ⟨b,4,none⟩ = false)
theorem blk5_top {w w1 : World} {x0 x1 x2 x3 x4 : Value} {T : TypeId} {b : Nat} (hb : b = w.heap.size) (E : Ext (w.alloc (.cells #[x0,x1,x2,x3,x4] T)) w1) : Blk5 w1 b x0 x1 x2 x3 x4:=by
 subst hb
 have hs : w.heap.size < (w.alloc (.cells #[x0,x1,x2,x3,x4] T)).heap.size:=J60
 have k:=fun o=>E.cell.1 w.heap.size o hs
 have f:=fun o=>E.cell.2 w.heap.size o hs
 refine ⟨llL hs E.sz,⟨(k 0).trans ?_,(k 1).trans ?_,(k 2).trans ?_,(k 3).trans ?_,(k 4).trans ?_⟩,(f 0).trans ?_,(f 1).trans ?_,(f 2).trans ?_,(f 3).trans ?_,(f 4).trans ?_⟩
 all_goals simp [go_sem]
theorem Blk5.ext {w w' : World} {b : Nat} {x0 x1 x2 x3 x4 : Value} (h : Blk5 w b x0 x1 x2 x3 x4) (e : Ext w w') : Blk5 w' b x0 x1 x2 x3 x4:=by
 obtain ⟨z,⟨k0,k1,k2,k3,k4⟩,f0,f1,f2,f3,f4⟩:=h
 have k:=fun o=>e.cell.1 b o z
 have f:=fun o=>e.cell.2 b o z
 exact ⟨llL z e.sz,⟨(k 0).trans k0,(k 1).trans k1,(k 2).trans k2,(k 3).trans k3,(k 4).trans k4⟩,(f 0).trans f0,(f 1).trans f1,(f 2).trans f2,(f 3).trans f3,(f 4).trans f4⟩
theorem Blk5.far1 {w : World} {b c : Nat} {x0 x1 x2 x3 x4 : Value} (h : Blk5 w b x0 x1 x2 x3 x4) (hc : c ≠ b) (o : Nat) (v : Value) : Blk5 (w.setCell ⟨c,o,none⟩ v) b x0 x1 x2 x3 x4:=by
 obtain ⟨z,⟨k0,k1,k2,k3,k4⟩,f0,f1,f2,f3,f4⟩:=h
 refine ⟨by simpa [World.setCell] using z,⟨?_,?_,?_,?_,?_⟩,?_,?_,?_,?_,?_⟩
 · rw [wFa _ _ _ _ hc];exact k0
 · rw [wFa _ _ _ _ hc];exact k1
 · rw [wFa _ _ _ _ hc];exact k2
 · rw [wFa _ _ _ _ hc];exact k3
 · rw [wFa _ _ _ _ hc];exact k4
 · rw [wFz];exact f0
 · rw [wFz];exact f1
 · rw [wFz];exact f2
 · rw [wFz];exact f3
 · rw [wFz];exact f4
theorem Blk5.far {w : World} {b c : Nat} {x0 x1 x2 x3 x4 : Value} (h : Blk5 w b x0 x1 x2 x3 x4) (hc : c ≠ b) (y0 y1 y2 y3 y4 : Value) :
   Blk5 (((((w.setCell ⟨c,0,none⟩ y0).setCell ⟨c,1,none⟩ y1).setCell ⟨c,2,none⟩ y2).setCell ⟨c,3,none⟩ y3).setCell ⟨c,4,none⟩ y4) b x0 x1 x2 x3 x4:=(((((h.far1 hc _ _).far1 hc _ _).far1 hc _ _).far1 hc _ _).far1 hc _ _)
theorem Blk5.put0 {w : World} {b : Nat} {x0 x1 x2 x3 x4 : Value} (h : Blk5 w b x0 x1 x2 x3 x4) (v : Value) : Blk5 (w.setCell ⟨b,0,none⟩ v) b v x1 x2 x3 x4:=by
 obtain ⟨z,⟨k0,k1,k2,k3,k4⟩,f0,f1,f2,f3,f4⟩:=h
 have e:=wSa w ⟨b,0,none⟩ v (by rw [k0])
 refine ⟨by simpa [World.setCell] using z,⟨e,?_,?_,?_,?_⟩,?_,?_,?_,?_,?_⟩
 · exact K125
 · exact K136
 · exact K137
 · rw [wO _ _ _ _ J60];exact k4
 · rw [wFz];exact f0
 · rw [wFz];exact f1
 · rw [wFz];exact f2
 · rw [wFz];exact f3
 · rw [wFz];exact f4
theorem Blk5.put1 {w : World} {b : Nat} {x0 x1 x2 x3 x4 : Value} (h : Blk5 w b x0 x1 x2 x3 x4) (v : Value) : Blk5 (w.setCell ⟨b,1,none⟩ v) b x0 v x2 x3 x4:=by
 obtain ⟨z,⟨k0,k1,k2,k3,k4⟩,f0,f1,f2,f3,f4⟩:=h
 have e:=wSa w ⟨b,1,none⟩ v (by rw [k1])
 refine ⟨by simpa [World.setCell] using z,⟨?_,e,?_,?_,?_⟩,?_,?_,?_,?_,?_⟩
 · exact K126
 · exact K136
 · exact K137
 · rw [wO _ _ _ _ J60];exact k4
 · rw [wFz];exact f0
 · rw [wFz];exact f1
 · rw [wFz];exact f2
 · rw [wFz];exact f3
 · rw [wFz];exact f4
theorem Blk5.put2 {w : World} {b : Nat} {x0 x1 x2 x3 x4 : Value} (h : Blk5 w b x0 x1 x2 x3 x4) (v : Value) : Blk5 (w.setCell ⟨b,2,none⟩ v) b x0 x1 v x3 x4:=by
 obtain ⟨z,⟨k0,k1,k2,k3,k4⟩,f0,f1,f2,f3,f4⟩:=h
 have e:=wSa w ⟨b,2,none⟩ v (by rw [k2])
 refine ⟨by simpa [World.setCell] using z,⟨?_,?_,e,?_,?_⟩,?_,?_,?_,?_,?_⟩
 · exact K126
 · exact K125
 · exact K137
 · rw [wO _ _ _ _ J60];exact k4
 · rw [wFz];exact f0
 · rw [wFz];exact f1
 · rw [wFz];exact f2
 · rw [wFz];exact f3
 · rw [wFz];exact f4
theorem Blk5.put3 {w : World} {b : Nat} {x0 x1 x2 x3 x4 : Value} (h : Blk5 w b x0 x1 x2 x3 x4) (v : Value) : Blk5 (w.setCell ⟨b,3,none⟩ v) b x0 x1 x2 v x4:=by
 obtain ⟨z,⟨k0,k1,k2,k3,k4⟩,f0,f1,f2,f3,f4⟩:=h
 have e:=wSa w ⟨b,3,none⟩ v (by rw [k3])
 refine ⟨by simpa [World.setCell] using z,⟨?_,?_,?_,e,?_⟩,?_,?_,?_,?_,?_⟩
 · exact K126
 · exact K125
 · exact K136
 · rw [wO _ _ _ _ J60];exact k4
 · rw [wFz];exact f0
 · rw [wFz];exact f1
 · rw [wFz];exact f2
 · rw [wFz];exact f3
 · rw [wFz];exact f4
theorem Blk5.put4 {w : World} {b : Nat} {x0 x1 x2 x3 x4 : Value} (h : Blk5 w b x0 x1 x2 x3 x4) (v : Value) : Blk5 (w.setCell ⟨b,4,none⟩ v) b x0 x1 x2 x3 v:=by
 obtain ⟨z,⟨k0,k1,k2,k3,k4⟩,f0,f1,f2,f3,f4⟩:=h
 have e:=wSa w ⟨b,4,none⟩ v (by rw [k4])
 refine ⟨by simpa [World.setCell] using z,⟨?_,?_,?_,?_,e⟩,?_,?_,?_,?_,?_⟩
 · exact K126
 · exact K125
 · exact K136
 · exact K137
 · rw [wFz];exact f0
 · rw [wFz];exact f1
 · rw [wFz];exact f2
 · rw [wFz];exact f3
 · rw [wFz];exact f4
theorem Blk5.set {w : World} {b : Nat} {o0 o1 o2 o3 o4 : Value} (h : Blk5 w b o0 o1 o2 o3 o4) (x0 x1 x2 x3 x4 : Value) :
   Blk5 (((((w.setCell ⟨b,0,none⟩ x0).setCell ⟨b,1,none⟩ x1).setCell ⟨b,2,none⟩ x2).setCell ⟨b,3,none⟩ x3).setCell ⟨b,4,none⟩ x4) b x0 x1 x2 x3 x4:=(((((h.put0 _).put1 _).put2 _).put3 _).put4 _)
theorem Blk5.dr {w : World} {b : Nat} {x0 x1 x2 x3 x4 : Value} (h : Blk5 w b x0 x1 x2 x3 x4) : Blk5 w.drew b x0 x1 x2 x3 x4:=h.ext (Ext.drew xr)
theorem Blk5.al {w : World} {b : Nat} {x0 x1 x2 x3 x4 : Value} (o : Obj) (h : Blk5 w b x0 x1 x2 x3 x4) : Blk5 (w.alloc o) b x0 x1 x2 x3 x4:=h.ext (Ext.alloc xr _)
theorem fin5 (v : Value) {fn : Func} {Q : Ending → World → Prop} {a : Act} {w W : World} {b : Nat} {x0 x1 x2 x3 x4 : Value}
   (B : Blk5 W b x0 x1 x2 x3 x4) (hd : a.defers = []) (E : Ext w W)
   (hr : W.cell? ⟨b,0,none⟩ = some x0 → W.cell? ⟨b,1,none⟩ = some x1 → W.cell? ⟨b,2,none⟩ = some x2 → W.cell? ⟨b,3,none⟩ = some x3 → W.cell? ⟨b,4,none⟩ = some x4 → (results fn a.tmps).run Tryz.prog W = .ok v W)
   (hQ : Ext w W → Q (.returned v) W) : bodyPost Tryz.prog fn Q .ret a W :=
 bodyPost_ret (hr B.2.1.1 B.2.1.2.1 B.2.1.2.2.1 B.2.1.2.2.2.1 B.2.1.2.2.2.2) hd (hQ E)
theorem byte_ne {c : UInt8} (n : Nat) (hn : n < 256) : ((c.toNat : Int) == (n : Int)) = (c == UInt8.ofNat n):=by
 rw [Bool.eq_iff_iff];simp;constructor
 · intro h;refine UInt8.toNat_inj.mp ?_;rw [UInt8.toNat_ofNat'];omega
 · rintro rfl;rw [UInt8.toNat_ofNat'];omega
theorem sub_list (s : ByteArray) (i j : Nat) : (s.extract i j).data.toList = (s.data.toList.drop i).take (j - i):=by
 rw [Lib.extract_data]
theorem sub_bs (s : ByteArray) (i n : Nat) : s.extract i (i + n) = bs ((s.data.toList.drop i).take n):=by
 have h:=sub_list s i (i + n)
 rw [Nat.add_sub_cancel_left] at h
 rw [← h];rfl
theorem find_here {α : Type} {l : List α} {q : α → Bool} {j : Nat} {x : α} (h : (l.take j).find? q = none) (hx : l[j]? = some x) (hq : q x = true) : l.find? q = some x:=by
 have hj : j < l.length:=(List.getElem?_eq_some_iff.mp hx).1
 have e : l = l.take j ++ x :: l.drop (j + 1):=by
   rw [gEq hj] at hx
   cases hx
   rw [← List.drop_eq_getElem_cons hj,List.take_append_drop]
 rw [e,List.find?_append,h];simp [hq]
theorem find_on {α : Type} {l : List α} {q : α → Bool} {j : Nat} {x : α} (h : (l.take j).find? q = none) (hx : l[j]? = some x) (hq : q x = false) : (l.take (j + 1)).find? q = none:=by
 rw [List.take_add_one,hx,List.find?_append,h];simp [hq]
theorem find_end {α : Type} {l : List α} {q : α → Bool} {j : Nat} (h : (l.take j).find? q = none) (hj : l.length ≤ j) : l.find? q = none:=by
 rwa [List.take_of_length_le hj] at h
def NmL (w : World) : Prop:=0 < w.heap.size ∧
 w.cell? ⟨0,0,none⟩ = some (.string ⟨#[]⟩) ∧ w.cell? ⟨0,1,none⟩ = some (.string ⟨#[35,82,69,70,33]⟩) ∧ w.cell? ⟨0,2,none⟩ = some (.string ⟨#[35,86,65,76,85,69,33]⟩) ∧
 w.cell? ⟨0,3,none⟩ = some (.string ⟨#[35,68,73,86,47,48,33]⟩) ∧ w.cell? ⟨0,4,none⟩ = some (.string ⟨#[35,78,85,77,33]⟩) ∧ w.cell? ⟨0,5,none⟩ = some (.string ⟨#[35,67,89,67,76,69,33]⟩)
theorem NmL.ext {w w' : World} (h : NmL w) (e : Ext w w') : NmL w':=by
 exact K91
end Go.Proofs.YtcfgbiaahangmaaGreatDoor
