import Derived.Test.YtcfgbiaahangmaaGreatDoorC6
import Derived.Defers
import Derived.Deep.AppendLies
import Derived.Laws.OwnMore
import Derived.Laws.StructEq
import Derived.Shelf.SlicesE.Kit
set_option maxHeartbeats 1000000
namespace Go.Proofs.YtcfgbiaahangmaaGreatDoor
open Go.RowKit
abbrev Rf:=Int × Int × Bool × Bool
def rz:Rf:=(0,0,false,false)
inductive T where
 | mk (k n:Int) (s:List UInt8) (e:Int) (r q:Rf) (l:List T)
def T.k:T→Int | .mk k _ _ _ _ _ _=>k
def T.n:T→Int | .mk _ n _ _ _ _ _=>n
def T.s:T→List UInt8 | .mk _ _ s _ _ _ _=>s
def T.e:T→Int | .mk _ _ _ e _ _ _=>e
def T.r:T→Rf | .mk _ _ _ _ r _ _=>r
def T.q:T→Rf | .mk _ _ _ _ _ q _=>q
def T.l:T→List T | .mk _ _ _ _ _ _ l=>l
def tz:T:=.mk 0 0 [] 0 rz rz []
def tNum (n:Int):T:=.mk 0 n [] 0 rz rz []
def tText (s:List UInt8):T:=.mk 1 0 s 0 rz rz []
def tBool (n:Int):T:=.mk 2 n [] 0 rz rz []
def tErr (e:Int):T:=.mk 3 0 [] e rz rz []
def tRef (r:Rf):T:=.mk 4 0 [] 0 r rz []
def tRange (r q:Rf):T:=.mk 5 0 [] 0 r q []
def tNeg (x:T):T:=.mk 6 0 [] 0 rz rz [x]
def tBin (s:List UInt8) (x y:T):T:=.mk 7 0 s 0 rz rz [x,y]
def tCall (s:List UInt8) (l:List T):T:=.mk 8 0 s 0 rz rz l
def bd1:List (List UInt8):=[[61],[60,62],[60],[60,61],[62],[62,61]]
def bnd (s:List UInt8):Nat :=
 if s ∈ bd1 then 1 else if s = [38] then 2 else if s = [43]∨s = [45] then 3 else if s = [42]∨s = [47] then 4 else 0
def rfP (s:List UInt8):Rf:=(rowP s,colP s,dlB (rsL s),dlB s)
def wTrue:List UInt8:=[84,82,85,69]
def wFalse:List UInt8:=[70,65,76,83,69]
def hd (ts:List Tk):Tk:=ts.headD (5,0,[],0,0)
abbrev Ft:=Int × Bool
def cd (b:Bool):Int:=if b then 2 else 4
def ft (ts:List Tk) (c:Bool):Ft:=((hd ts).2.1,c)
def isSg (p:List UInt8) (ts:List Tk):Bool:=(hd ts).1 == 3 && (hd ts).2.2.1 == p
abbrev Rs:=Except Ft (T × List Tk)
def tk1 (d:Nat) (ts:List Tk):Except Ft (List Tk):=if 40 < d then .error (ft ts true) else .ok ts.tail
def pass1 (p:List UInt8) (d:Nat) (ts:List Tk):Except Ft (List Tk):=if isSg p ts then tk1 d ts else .error (ft ts false)
def one (d:Nat) (ts:List Tk) (x:T):Rs:=match tk1 d ts with
 | .error e=>.error e
 | .ok ts1=>.ok (x,ts1)
def refr (d:Nat) (ts:List Tk):Except Ft (Rf × List Tk) :=
 if (hd ts).1 = 2∧okP (hd ts).2.2.1 = true then (match tk1 d ts with
   | .error e=>.error e
   | .ok ts1=>.ok (rfP (hd ts).2.2.1,ts1)) else .error (ft ts false)
abbrev Rd:=Nat→List Tk→Rs
def argm (F:Rd) (d:Nat) (ts:List Tk):Rs:=match F d ts with
 | .error e=>.error e
 | .ok (x,ts1)=>if x.k = 4∧ts.length = ts1.length+1∧isSg [58] ts1 = true then (match tk1 d ts1 with
   | .error e=>.error e
   | .ok ts2=>match refr d ts2 with
     | .error e=>.error e
     | .ok (q,ts3)=>.ok (tRange x.r q,ts3)) else .ok (x,ts1)
def argl (F:Rd) (a b:Nat) (d:Nat):Nat→List T→List Tk→Except Ft (List T × List Tk)
 | 0,l,ts=>.ok (l,ts)
 | f+1,l,ts=>if l.length < a∨l.length < b∧isSg [44] ts = true then (match pass1 [44] d ts with
   | .error e=>.error e
   | .ok ts1=>match argm F d ts1 with
     | .error e=>.error e
     | .ok (x,ts2)=>argl F a b d f (l ++ [x]) ts2) else .ok (l,ts)
def args (F:Rd) (a b:Nat) (d:Nat) (ts:List Tk):Except Ft (List T × List Tk):=match argm F d ts with
 | .error e=>.error e
 | .ok (x,ts1)=>argl F a b d ts1.length [x] ts1
def call (F:Rd) (s:List UInt8) (a b:Nat):Rd:=fun d ts=>match args F a b d ts with
 | .error e=>.error e
 | .ok (l,ts1)=>.ok (tCall s l,ts1)
def brk (F:Rd) (d:Nat) (ts:List Tk):Rs:=match pass1 [40] d ts with
 | .error e=>.error e
 | .ok ts1=>match F (d+1) ts1 with
   | .error e=>.error e
   | .ok (x,ts2)=>match pass1 [41] d ts2 with
     | .error e=>.error e
     | .ok ts3=>.ok (x,ts3)
def wrd (F:Rd) (d:Nat) (ts:List Tk):Rs :=
 if (hd ts).2.2.1 = wTrue then one d ts (tBool 1) else if (hd ts).2.2.1 = wFalse then one d ts (tBool 0) else
 match kno (hd ts).2.2.1 with
 | some (a,b)=>(match tk1 d ts with
   | .error e=>.error e
   | .ok ts1=>brk (call F (hd ts).2.2.1 a b) d ts1)
 | none=>match refr d ts with
   | .error e=>.error e
   | .ok (r,ts1)=>.ok (tRef r,ts1)
def smp (F:Rd) (d:Nat) (ts:List Tk):Rs :=
 if (hd ts).1 = 0 then one d ts (tNum (hd ts).2.2.2.1) else if (hd ts).1 = 1 then one d ts (tText (hd ts).2.2.1) else if (hd ts).1 = 4 then one d ts (tErr (hd ts).2.2.2.2) else
 if (hd ts).1 = 2 then wrd F d ts else brk F d ts
def opn (F O:Rd) (d:Nat) (ts:List Tk):Rs :=
 if isSg [45] ts = true then (match tk1 d ts with
   | .error e=>.error e
   | .ok ts1=>match O (d+1) ts1 with
     | .error e=>.error e
     | .ok (x,ts2)=>.ok (tNeg x,ts2)) else smp F d ts
def lp (side:Rd) (k:Nat) (d:Nat):Nat→T→List Tk→Rs
 | 0,x,ts=>.ok (x,ts)
 | f+1,x,ts=>if (hd ts).1 = 3∧bnd (hd ts).2.2.1 = k then (match tk1 d ts with
   | .error e=>.error e
   | .ok ts1=>match side d ts1 with
     | .error e=>.error e
     | .ok (y,ts2)=>lp side k d f (tBin (hd ts).2.2.1 x y) ts2) else .ok (x,ts)
def lv (side:Rd) (k:Nat):Rd:=fun d ts=>match side d ts with
 | .error e=>.error e
 | .ok (x,ts1)=>lp side k d ts1.length x ts1
def frm (o:Rd):Rd:=lv (lv (lv (lv o 4) 3) 2) 1
def O:Nat→Rd
 | 0=>fun _ ts=>.error (ft ts false)
 | n+1=>opn (frm (O n)) (O n)
def prs (ts:List Tk):T × Int × Int:=match frm (O ts.length) 0 ts with
 | .error e=>(tz,e.1,cd e.2)
 | .ok (x,ts1)=>if (hd ts1).1 = 5 then (x,0,0) else (tz,(hd ts1).2.1,4)
def parR (l:List UInt8):T × Int × Int:=if (lexR l).2.2 = 0 then prs (lexR l).1 else (tz,(lexR l).2.1,(lexR l).2.2)
def Nz (ts:List Tk):Prop:=∃ pre t,ts = pre ++ [t]∧t.1 = 5
theorem Nz.tail {ts:List Tk} (h:Nz ts) (h5:(hd ts).1≠5):Nz ts.tail∧ts.tail.length+1 = ts.length:=by
 obtain ⟨pre,t,rfl,h1⟩:=h
 cases pre with
 | nil=>exact absurd h1 h5
 | cons a b=>exact ⟨⟨b,t,rfl,h1⟩,by simp⟩
theorem Nz.ne {ts:List Tk} (h:Nz ts):ts≠[]:=by
 obtain ⟨pre,t,rfl,h1⟩:=h
 simp
theorem Nz.pos {ts:List Tk} (h:Nz ts):1≤ts.length:=by
 obtain ⟨pre,t,rfl,h1⟩:=h
 simp
theorem isSg_k {p:List UInt8} {ts:List Tk} (h:isSg p ts = true):(hd ts).1 = 3∧(hd ts).2.2.1 = p:=by
 unfold isSg at h;simp at h;exact h
def Sh (ts ts':List Tk):Prop:=Nz ts'∧ts'.length < ts.length
def ShR {α:Type} (ts:List Tk) (r:Except Ft (α × List Tk)):Prop:=∀ x ts',r = .ok (x,ts')→Sh ts ts'
theorem tk1_sh {d:Nat} {ts ts1:List Tk} (h:Nz ts) (h5:(hd ts).1≠5) (e:tk1 d ts = .ok ts1):Sh ts ts1:=by
 unfold tk1 at e
 split at e
 · cases e
 · cases e
   have:=h.tail h5
   exact ⟨this.1,by omega⟩
theorem pass1_sh {p:List UInt8} {d:Nat} {ts ts1:List Tk} (h:Nz ts) (e:pass1 p d ts = .ok ts1):Sh ts ts1:=by
 unfold pass1 at e
 split at e
 · rename_i hs
   exact tk1_sh h (by rw [(isSg_k hs).1];decide) e
 · cases e
theorem one_sh {d:Nat} {ts:List Tk} {x:T} (h:Nz ts) (h5:(hd ts).1≠5):ShR ts (one d ts x):=by
 intro y ts' e
 unfold one at e
 split at e
 · cases e
 · rename_i ts1 h1
   cases e
   exact tk1_sh h h5 h1
theorem refr_sh {d:Nat} {ts:List Tk} (h:Nz ts):ShR ts (refr d ts):=by
 intro y ts' e
 unfold refr at e
 split at e
 · rename_i hk
   split at e
   · cases e
   · rename_i ts1 h1
     cases e
     exact tk1_sh h (by rw [hk.1];decide) h1
 · cases e
def ShF (n:Nat) (F:Rd):Prop:=∀ d ts,Nz ts→ts.length≤n→ShR ts (F d ts)
theorem Sh.trans {a b c:List Tk} (h:Sh a b) (k:Sh b c):Sh a c:=⟨k.1,by have:=h.2;have:=k.2;omega⟩
theorem argm_sh {n:Nat} {F:Rd} (hF:ShF n F):ShF n (argm F):=by
 intro d ts h hn x ts' e
 unfold argm at e
 split at e
 · cases e
 · rename_i y ts1 h1
   have s1:=hF d ts h hn y ts1 h1
   split at e
   · rename_i hc
     split at e
     · cases e
     · rename_i ts2 h2
       have s2:=tk1_sh s1.1 (by rw [(isSg_k hc.2.2).1];decide) h2
       split at e
       · cases e
       · rename_i q ts3 h3
         cases e
         exact (s1.trans s2).trans (refr_sh s2.1 _ _ h3)
   · cases e;exact s1
theorem argl_sh {n:Nat} {F:Rd} (hF:ShF n F) (a b d f:Nat):∀ (l l':List T) (ts ts':List Tk),Nz ts→ts.length≤n→argl F a b d f l ts = .ok (l',ts')→Nz ts'∧ts'.length≤ts.length:=by
 induction f with
 | zero =>
   intro l l' ts ts' h hn e
   unfold argl at e
   cases e
   exact ⟨h,Nat.le_refl _⟩
 | succ f ih =>
   intro l l' ts ts' h hn e
   unfold argl at e
   split at e
   · split at e
     · cases e
     · rename_i ts1 h1
       have s1:=pass1_sh h h1
       split at e
       · cases e
       · rename_i x ts2 h2
         have s2:=argm_sh hF d ts1 s1.1 (by have:=s1.2;omega) x ts2 h2
         exact K139
   · cases e;exact ⟨h,Nat.le_refl _⟩
theorem args_sh {n:Nat} {F:Rd} (hF:ShF n F) {a b d:Nat} {ts:List Tk} (h:Nz ts) (hn:ts.length≤n):ShR ts (args F a b d ts):=by
 intro x ts' e
 unfold args at e
 split at e
 · cases e
 · rename_i y ts1 h1
   have s1:=argm_sh hF d ts h hn y ts1 h1
   have:=argl_sh hF a b d _ _ _ _ _ s1.1 (by have:=s1.2;omega) e
   exact ⟨this.1,by have:=s1.2;omega⟩
theorem call_sh {n:Nat} {F:Rd} (hF:ShF n F) (s:List UInt8) (a b:Nat):ShF n (call F s a b):=by
 intro d ts h hn x ts' e
 unfold call at e
 split at e
 · cases e
 · rename_i y ts1 h1
   cases e
   exact args_sh hF h hn _ _ h1
theorem brk_sh {n:Nat} {F:Rd} (hF:ShF n F):ShF (n+1) (brk F):=by
 intro d ts h hn x ts' e
 unfold brk at e
 split at e
 · cases e
 · rename_i ts1 h1
   have s1:=pass1_sh h h1
   split at e
   · cases e
   · rename_i y ts2 h2
     have s2:=hF (d+1) ts1 s1.1 (by have:=s1.2;omega) y ts2 h2
     split at e
     · cases e
     · rename_i ts3 h3
       cases e
       exact (s1.trans s2).trans (pass1_sh s2.1 h3)
theorem wrd_sh {n:Nat} {F:Rd} (hF:ShF n F) (d:Nat) (ts:List Tk) (h:Nz ts) (hn:ts.length≤n+1) (hk:(hd ts).1 = 2):ShR ts (wrd F d ts):=by
 intro x ts' e
 have h5:(hd ts).1≠5:=by rw [hk];decide
 unfold wrd at e
 split at e
 · exact one_sh h h5 _ _ e
 · split at e
   · exact one_sh h h5 _ _ e
   · split at e
     · split at e
       · cases e
       · rename_i ts1 h1
         have s1:=tk1_sh h h5 h1
         exact s1.trans (brk_sh (call_sh hF _ _ _) d ts1 s1.1 (by have:=s1.2;omega) _ _ e)
     · split at e
       · cases e
       · rename_i r ts1 h1
         cases e
         exact refr_sh h _ _ h1
theorem smp_sh {n:Nat} {F:Rd} (hF:ShF n F):ShF (n+1) (smp F):=by
 intro d ts h hn x ts' e
 unfold smp at e
 split at e
 · rename_i hk;exact one_sh h J11 _ _ e
 · split at e
   · rename_i hk;exact one_sh h J11 _ _ e
   · split at e
     · rename_i hk;exact one_sh h J11 _ _ e
     · split at e
       · rename_i hk;exact wrd_sh hF d ts h hn hk _ _ e
       · exact brk_sh hF d ts h hn _ _ e
theorem opn_sh {n:Nat} {F G:Rd} (hF:ShF n F) (hG:ShF n G):ShF (n+1) (opn F G):=by
 intro d ts h hn x ts' e
 unfold opn at e
 split at e
 · rename_i hk
   split at e
   · cases e
   · rename_i ts1 h1
     have s1:=tk1_sh h (by rw [(isSg_k hk).1];decide) h1
     split at e
     · cases e
     · rename_i y ts2 h2
       cases e
       exact s1.trans (hG (d+1) ts1 s1.1 (by have:=s1.2;omega) _ _ h2)
 · exact smp_sh hF d ts h hn _ _ e
theorem lp_sh {n:Nat} {F:Rd} (hF:ShF n F) (k d f:Nat):∀ (x y:T) (ts ts':List Tk),Nz ts→ts.length≤n→lp F k d f x ts = .ok (y,ts')→Nz ts'∧ts'.length≤ts.length:=by
 induction f with
 | zero =>
   intro x y ts ts' h hn e
   unfold lp at e
   cases e
   exact ⟨h,Nat.le_refl _⟩
 | succ f ih =>
   intro x y ts ts' h hn e
   unfold lp at e
   split at e
   · rename_i hk
     split at e
     · cases e
     · rename_i ts1 h1
       have s1:=tk1_sh h (by rw [hk.1];decide) h1
       split at e
       · cases e
       · rename_i z ts2 h2
         have s2:=hF d ts1 s1.1 (by have:=s1.2;omega) z ts2 h2
         exact K139
   · cases e;exact ⟨h,Nat.le_refl _⟩
theorem lv_sh {n:Nat} {F:Rd} (hF:ShF n F) (k:Nat):ShF n (lv F k):=by
 intro d ts h hn x ts' e
 unfold lv at e
 split at e
 · cases e
 · rename_i y ts1 h1
   have s1:=hF d ts h hn y ts1 h1
   have:=lp_sh hF k d _ _ _ _ _ s1.1 (by have:=s1.2;omega) e
   exact ⟨this.1,by have:=s1.2;omega⟩
theorem frm_sh {n:Nat} {F:Rd} (hF:ShF n F):ShF n (frm F):=lv_sh (lv_sh (lv_sh (lv_sh hF 4) 3) 2) 1
theorem O_sh (n:Nat):ShF n (O n):=by
 induction n with
 | zero=>intro d ts h hn;exact absurd (h.pos) J2
 | succ n ih=>exact opn_sh (frm_sh ih) ih
theorem lt_no {c:UInt8} (h1:¬ ((65:Int)≤c.toNat∧(c.toNat:Int)≤90)) (h2:¬ ((97:Int)≤c.toNat∧(c.toNat:Int)≤122)):letB c = ((c.toNat:Int) == 36):=by
 unfold letB;rw [Bool.eq_iff_iff];simp;omega
theorem lt_yes {c:UInt8} (h:((65:Int)≤c.toNat∧(c.toNat:Int)≤90)∨((97:Int)≤c.toNat∧(c.toNat:Int)≤122)):letB c = true:=by
 unfold letB;simp;omega
theorem run_at (p:UInt8→Bool) (l:List UInt8) (k:Nat) (hk:k < l.length):run p (l.drop k) = if p l[k] then run p (l.drop (k+1))+1 else 0:=by
 rw [List.drop_eq_getElem_cons hk,run_cons]
theorem run_off (p:UInt8→Bool) (l:List UInt8) (k:Nat) (hk:l.length≤k):run p (l.drop k) = 0:=by
 rw [List.drop_eq_nil_of_le hk];rfl
def Blk5 (W:World) (b:Nat) (x0 x1 x2 x3 x4:Value):Prop:=b < W.heap.size ∧
 (W.cell? ⟨b,0,none⟩ = some x0∧W.cell? ⟨b,1,none⟩ = some x1∧W.cell? ⟨b,2,none⟩ = some x2∧W.cell? ⟨b,3,none⟩ = some x3∧W.cell? ⟨b,4,none⟩ = some x4) ∧
 (W.frozen? ⟨b,0,none⟩ = false∧W.frozen? ⟨b,1,none⟩ = false∧W.frozen? ⟨b,2,none⟩ = false∧W.frozen? ⟨b,3,none⟩ = false∧W.frozen? ⟨b,4,none⟩ = false)
theorem blk5_top {w w1:World} {x0 x1 x2 x3 x4:Value} {T:TypeId} {b:Nat} (hb:b = w.heap.size) (E:Ext (w.alloc (.cells #[x0,x1,x2,x3,x4] T)) w1):Blk5 w1 b x0 x1 x2 x3 x4:=by
 subst hb
 have hs:w.heap.size < (w.alloc (.cells #[x0,x1,x2,x3,x4] T)).heap.size:=J65
 have k:=fun o=>E.cell.1 w.heap.size o hs
 have f:=fun o=>E.cell.2 w.heap.size o hs
 refine ⟨llL hs E.sz,⟨(k 0).trans ?_,(k 1).trans ?_,(k 2).trans ?_,(k 3).trans ?_,(k 4).trans ?_⟩,(f 0).trans ?_,(f 1).trans ?_,(f 2).trans ?_,(f 3).trans ?_,(f 4).trans ?_⟩
 all_goals simp [go_sem]
theorem Blk5.ext {w w':World} {b:Nat} {x0 x1 x2 x3 x4:Value} (h:Blk5 w b x0 x1 x2 x3 x4) (e:Ext w w'):Blk5 w' b x0 x1 x2 x3 x4:=by
 obtain ⟨z,⟨k0,k1,k2,k3,k4⟩,f0,f1,f2,f3,f4⟩:=h
 have k:=fun o=>e.cell.1 b o z
 have f:=fun o=>e.cell.2 b o z
 exact ⟨llL z e.sz,⟨(k 0).trans k0,(k 1).trans k1,(k 2).trans k2,(k 3).trans k3,(k 4).trans k4⟩,(f 0).trans f0,(f 1).trans f1,(f 2).trans f2,(f 3).trans f3,(f 4).trans f4⟩
theorem Blk5.far1 {w:World} {b c:Nat} {x0 x1 x2 x3 x4:Value} (h:Blk5 w b x0 x1 x2 x3 x4) (hc:c≠b) (o:Nat) (v:Value):Blk5 (w.setCell ⟨c,o,none⟩ v) b x0 x1 x2 x3 x4:=by
 obtain ⟨z,⟨k0,k1,k2,k3,k4⟩,f0,f1,f2,f3,f4⟩:=h
 refine ⟨by simpa [World.setCell] using z,⟨?_,?_,?_,?_,?_⟩,?_,?_,?_,?_,?_⟩
 · rw [wFa _ _ _ _ hc];exact k0
 · rw [wFa _ _ _ _ hc];exact k1
 · rw [wFa _ _ _ _ hc];exact k2
 · rw [wFa _ _ _ _ hc];exact k3
 · rw [wFa _ _ _ _ hc];exact k4
 · rw [wFz];exact f0
 · rw [wFz];exact f1
 · rw [wFz];exact f2
 · rw [wFz];exact f3
 · rw [wFz];exact f4
theorem Blk5.far {w:World} {b c:Nat} {x0 x1 x2 x3 x4:Value} (h:Blk5 w b x0 x1 x2 x3 x4) (hc:c≠b) (y0 y1 y2 y3 y4:Value) :
   Blk5 (((((w.setCell ⟨c,0,none⟩ y0).setCell ⟨c,1,none⟩ y1).setCell ⟨c,2,none⟩ y2).setCell ⟨c,3,none⟩ y3).setCell ⟨c,4,none⟩ y4) b x0 x1 x2 x3 x4:=(((((h.far1 hc _ _).far1 hc _ _).far1 hc _ _).far1 hc _ _).far1 hc _ _)
theorem Blk5.put0 {w:World} {b:Nat} {x0 x1 x2 x3 x4:Value} (h:Blk5 w b x0 x1 x2 x3 x4) (v:Value):Blk5 (w.setCell ⟨b,0,none⟩ v) b v x1 x2 x3 x4:=by
 obtain ⟨z,⟨k0,k1,k2,k3,k4⟩,f0,f1,f2,f3,f4⟩:=h
 have e:=wSa w ⟨b,0,none⟩ v (by rw [k0])
 refine ⟨by simpa [World.setCell] using z,⟨e,?_,?_,?_,?_⟩,?_,?_,?_,?_,?_⟩
 · exact K134
 · exact K148
 · exact K149
 · rw [wO _ _ _ _ J65];exact k4
 · rw [wFz];exact f0
 · rw [wFz];exact f1
 · rw [wFz];exact f2
 · rw [wFz];exact f3
 · rw [wFz];exact f4
theorem Blk5.put1 {w:World} {b:Nat} {x0 x1 x2 x3 x4:Value} (h:Blk5 w b x0 x1 x2 x3 x4) (v:Value):Blk5 (w.setCell ⟨b,1,none⟩ v) b x0 v x2 x3 x4:=by
 obtain ⟨z,⟨k0,k1,k2,k3,k4⟩,f0,f1,f2,f3,f4⟩:=h
 have e:=wSa w ⟨b,1,none⟩ v (by rw [k1])
 refine ⟨by simpa [World.setCell] using z,⟨?_,e,?_,?_,?_⟩,?_,?_,?_,?_,?_⟩
 · exact K135
 · exact K148
 · exact K149
 · rw [wO _ _ _ _ J65];exact k4
 · rw [wFz];exact f0
 · rw [wFz];exact f1
 · rw [wFz];exact f2
 · rw [wFz];exact f3
 · rw [wFz];exact f4
theorem Blk5.put2 {w:World} {b:Nat} {x0 x1 x2 x3 x4:Value} (h:Blk5 w b x0 x1 x2 x3 x4) (v:Value):Blk5 (w.setCell ⟨b,2,none⟩ v) b x0 x1 v x3 x4:=by
 obtain ⟨z,⟨k0,k1,k2,k3,k4⟩,f0,f1,f2,f3,f4⟩:=h
 have e:=wSa w ⟨b,2,none⟩ v (by rw [k2])
 refine ⟨by simpa [World.setCell] using z,⟨?_,?_,e,?_,?_⟩,?_,?_,?_,?_,?_⟩
 · exact K135
 · exact K134
 · exact K149
 · rw [wO _ _ _ _ J65];exact k4
 · rw [wFz];exact f0
 · rw [wFz];exact f1
 · rw [wFz];exact f2
 · rw [wFz];exact f3
 · rw [wFz];exact f4
theorem Blk5.put3 {w:World} {b:Nat} {x0 x1 x2 x3 x4:Value} (h:Blk5 w b x0 x1 x2 x3 x4) (v:Value):Blk5 (w.setCell ⟨b,3,none⟩ v) b x0 x1 x2 v x4:=by
 obtain ⟨z,⟨k0,k1,k2,k3,k4⟩,f0,f1,f2,f3,f4⟩:=h
 have e:=wSa w ⟨b,3,none⟩ v (by rw [k3])
 refine ⟨by simpa [World.setCell] using z,⟨?_,?_,?_,e,?_⟩,?_,?_,?_,?_,?_⟩
 · exact K135
 · exact K134
 · exact K148
 · rw [wO _ _ _ _ J65];exact k4
 · rw [wFz];exact f0
 · rw [wFz];exact f1
 · rw [wFz];exact f2
 · rw [wFz];exact f3
 · rw [wFz];exact f4
theorem Blk5.put4 {w:World} {b:Nat} {x0 x1 x2 x3 x4:Value} (h:Blk5 w b x0 x1 x2 x3 x4) (v:Value):Blk5 (w.setCell ⟨b,4,none⟩ v) b x0 x1 x2 x3 v:=by
 obtain ⟨z,⟨k0,k1,k2,k3,k4⟩,f0,f1,f2,f3,f4⟩:=h
 have e:=wSa w ⟨b,4,none⟩ v (by rw [k4])
 refine ⟨by simpa [World.setCell] using z,⟨?_,?_,?_,?_,e⟩,?_,?_,?_,?_,?_⟩
 · exact K135
 · exact K134
 · exact K148
 · exact K149
 · rw [wFz];exact f0
 · rw [wFz];exact f1
 · rw [wFz];exact f2
 · rw [wFz];exact f3
 · rw [wFz];exact f4
theorem Blk5.set {w:World} {b:Nat} {o0 o1 o2 o3 o4:Value} (h:Blk5 w b o0 o1 o2 o3 o4) (x0 x1 x2 x3 x4:Value) :
   Blk5 (((((w.setCell ⟨b,0,none⟩ x0).setCell ⟨b,1,none⟩ x1).setCell ⟨b,2,none⟩ x2).setCell ⟨b,3,none⟩ x3).setCell ⟨b,4,none⟩ x4) b x0 x1 x2 x3 x4:=(((((h.put0 _).put1 _).put2 _).put3 _).put4 _)
theorem Blk5.dr {w:World} {b:Nat} {x0 x1 x2 x3 x4:Value} (h:Blk5 w b x0 x1 x2 x3 x4):Blk5 w.drew b x0 x1 x2 x3 x4:=h.ext (Ext.drew xr)
theorem Blk5.al {w:World} {b:Nat} {x0 x1 x2 x3 x4:Value} (o:Obj) (h:Blk5 w b x0 x1 x2 x3 x4):Blk5 (w.alloc o) b x0 x1 x2 x3 x4:=h.ext (Ext.alloc xr _)
theorem fin5 (v:Value) {fn:Func} {Q:Ending→World→Prop} {a:Act} {w W:World} {b:Nat} {x0 x1 x2 x3 x4:Value}
   (B:Blk5 W b x0 x1 x2 x3 x4) (hd:a.defers = []) (E:Ext w W)
   (hr:W.cell? ⟨b,0,none⟩ = some x0→W.cell? ⟨b,1,none⟩ = some x1→W.cell? ⟨b,2,none⟩ = some x2→W.cell? ⟨b,3,none⟩ = some x3→W.cell? ⟨b,4,none⟩ = some x4→(results fn a.tmps).run Tryz.prog W = .ok v W)
   (hQ:Ext w W→Q (.returned v) W):bodyPost Tryz.prog fn Q .ret a W :=
 bodyPost_ret (hr B.2.1.1 B.2.1.2.1 B.2.1.2.2.1 B.2.1.2.2.2.1 B.2.1.2.2.2.2) hd (hQ E)
theorem byte_ne {c:UInt8} (n:Nat) (hn:n < 256):((c.toNat:Int) == (n:Int)) = (c == UInt8.ofNat n):=by
 rw [Bool.eq_iff_iff];simp;constructor
 · intro h;refine UInt8.toNat_inj.mp ?_;rw [UInt8.toNat_ofNat'];omega
 · rintro rfl;rw [UInt8.toNat_ofNat'];omega
theorem sub_list (s:ByteArray) (i j:Nat):(s.extract i j).data.toList = (s.data.toList.drop i).take (j - i):=by
 rw [Lib.extract_data]
theorem sub_bs (s:ByteArray) (i n:Nat):s.extract i (i+n) = bs ((s.data.toList.drop i).take n):=by
 have h:=sub_list s i (i+n)
 rw [Nat.add_sub_cancel_left] at h
 rw [← h];rfl
theorem find_here {α:Type} {l:List α} {q:α→Bool} {j:Nat} {x:α} (h:(l.take j).find? q = none) (hx:l[j]? = some x) (hq:q x = true):l.find? q = some x:=by
 have hj:j < l.length:=(List.getElem?_eq_some_iff.mp hx).1
 have e:l = l.take j ++ x :: l.drop (j+1):=by
   rw [gEq hj] at hx
   cases hx
   rw [← List.drop_eq_getElem_cons hj,List.take_append_drop]
 rw [e,List.find?_append,h];simp [hq]
theorem find_on {α:Type} {l:List α} {q:α→Bool} {j:Nat} {x:α} (h:(l.take j).find? q = none) (hx:l[j]? = some x) (hq:q x = false):(l.take (j+1)).find? q = none:=by
 rw [List.take_add_one,hx,List.find?_append,h];simp [hq]
theorem find_end {α:Type} {l:List α} {q:α→Bool} {j:Nat} (h:(l.take j).find? q = none) (hj:l.length≤j):l.find? q = none:=by
 rwa [List.take_of_length_le hj] at h
def NmL (w:World):Prop:=0 < w.heap.size ∧
 w.cell? ⟨0,0,none⟩ = some (.string ⟨#[]⟩)∧w.cell? ⟨0,1,none⟩ = some (.string ⟨#[35,82,69,70,33]⟩)∧w.cell? ⟨0,2,none⟩ = some (.string ⟨#[35,86,65,76,85,69,33]⟩) ∧
 w.cell? ⟨0,3,none⟩ = some (.string ⟨#[35,68,73,86,47,48,33]⟩)∧w.cell? ⟨0,4,none⟩ = some (.string ⟨#[35,78,85,77,33]⟩)∧w.cell? ⟨0,5,none⟩ = some (.string ⟨#[35,67,89,67,76,69,33]⟩)
theorem NmL.ext {w w':World} (h:NmL w) (e:Ext w w'):NmL w':=by
 exact K99
def flatT:List Tk→List Value
 | []=>[]
 | t :: r=>.int .i64 t.1 :: .int .i64 t.2.1 :: .string (bs t.2.2.1) :: .int .i64 t.2.2.2.1 :: .int .i64 t.2.2.2.2 :: flatT r
theorem flatT_append (a b:List Tk):flatT (a ++ b) = flatT a ++ flatT b:=by
 induction a with
 | nil=>rfl
 | cons s r ih=>simp [flatT,ih]
theorem flatT_length (a:List Tk):(flatT a).length = a.length * 5:=by
 induction a with
 | nil=>rfl
 | cons s r ih=>simp [flatT,ih];omega
theorem flatT_one (a:List Tk):∀ u ∈ flatT a,u.oneCell' = true:=by
 induction a with
 | nil=>simp [flatT]
 | cons s r ih=>intro u hu;simp [flatT] at hu;rcases hu with rfl | rfl | rfl | rfl | rfl | hu;rfl;rfl;rfl;rfl;rfl;exact ih u hu
theorem flatT_at:∀ (a:List Tk) (i:Nat) (t:Tk),a[i]? = some t→(flatT a)[i * 5]? = some (.int .i64 t.1)∧(flatT a)[i * 5+1]? = some (.int .i64 t.2.1)∧(flatT a)[i * 5+2]? = some (.string (bs t.2.2.1))∧(flatT a)[i * 5+3]? = some (.int .i64 t.2.2.2.1)∧(flatT a)[i * 5+4]? = some (.int .i64 t.2.2.2.2)
 | [],_,_,h=>by simp at h
 | t :: r,0,s,h=>by simp at h;subst h;simp [flatT]
 | t :: r,i+1,s,h=>by
   have ih:=flatT_at r i s J61
   have e:(i+1) * 5 = i * 5+1+1+1+1+1:=J2
   have e1:(i+1) * 5+1 = i * 5+1+1+1+1+1+1:=J2
   have e2:(i+1) * 5+2 = i * 5+2+1+1+1+1+1:=J2
   have e3:(i+1) * 5+3 = i * 5+3+1+1+1+1+1:=J2
   have e4:(i+1) * 5+4 = i * 5+4+1+1+1+1+1:=J2
   rw [e1,e2,e3,e4,e]
   simpa [flatT] using ih
def RdT (w:World) (v:Value) (l:List Tk):Prop :=
 (v = .slice none 0 0∧l = [])∨∃ b off c,v = .slice (some ⟨b,off,none⟩) l.length c∧l.length≤c∧b < w.heap.size ∧
   ∀ j u,(flatT l)[j]? = some u→w.cell? ⟨b,off+j,none⟩ = some u
theorem RdT.ext {w w':World} {v:Value} {l:List Tk} (h:RdT w v l) (e:Ext w w'):RdT w' v l:=by
 rcases h with h | ⟨b,off,c,rfl,h1,h2,h3⟩
 · exact .inl h
 · exact .inr ⟨b,off,c,rfl,h1,llL h2 e.size,fun j u hu=>(e.cell.1 b _ h2).trans (h3 j u hu)⟩
theorem RdT.nil (w:World):RdT w (.slice none 0 0) []:=.inl ⟨rfl,rfl⟩
theorem RdT.form {w:World} {v:Value} {l:List Tk} (h:RdT w v l):∃ p c,v = .slice p l.length c∧l.length≤c:=by
 rcases h with ⟨rfl,rfl⟩ | ⟨b,off,c,rfl,h,_⟩
 · exact ⟨_,_,rfl,Nat.le_refl _⟩
 · exact ⟨_,_,rfl,h⟩
theorem RdT.at {w:World} {p:Option Addr} {c n:Nat} {l:List Tk} (h:RdT w (.slice p n c) l) {k:Nat} (hk:k < l.length) :
   ∃ b off t,p = some ⟨b,off,none⟩∧l[k]? = some t∧n = l.length∧∀ w',Ext w w'→w'.cell? ⟨b,off+k * 5,none⟩ = some (.int .i64 t.1)∧w'.cell? ⟨b,off+k * 5+1,none⟩ = some (.int .i64 t.2.1)∧w'.cell? ⟨b,off+k * 5+2,none⟩ = some (.string (bs t.2.2.1))∧w'.cell? ⟨b,off+k * 5+3,none⟩ = some (.int .i64 t.2.2.2.1)∧w'.cell? ⟨b,off+k * 5+4,none⟩ = some (.int .i64 t.2.2.2.2):=by
 rcases h with ⟨_,h2⟩ | ⟨b,off,c',h1,h2,h3,h4⟩
 · rw [h2] at hk;simp at hk
 · simp at h1
   obtain ⟨rfl,rfl,rfl⟩:=h1
   refine ⟨b,off,l[k],rfl,gEq hk,rfl,fun w' e=>?_⟩
   obtain ⟨k0,k1,k2,k3,k4⟩:=flatT_at l k l[k] (gEq hk)
   exact ⟨(e.cell.1 b _ h3).trans (h4 _ _ k0),(e.cell.1 b _ h3).trans (h4 _ _ k1),(e.cell.1 b _ h3).trans (h4 _ _ k2),(e.cell.1 b _ h3).trans (h4 _ _ k3),(e.cell.1 b _ h3).trans (h4 _ _ k4)⟩
theorem info_tk:∃ i,Tryz.prog.info? 91 = some i∧i.zero = some (.agg #[.int .i64 0,.int .i64 0,.string ⟨#[]⟩,.int .i64 0,.int .i64 0])∧i.size = 5∧i.bytes = 48:=by
 have h2:(Tryz.prog.info? 91).bind (fun i=>i.zero) = some (.agg #[.int .i64 0,.int .i64 0,.string ⟨#[]⟩,.int .i64 0,.int .i64 0]):=J3
 have h3:(Tryz.prog.info? 91).map (fun i=>(i.size,i.bytes)) = some (5,48):=J3
 cases h:Tryz.prog.info? 91 with
 | none=>rw [h] at h2;cases h2
 | some i =>
   rw [h] at h2 h3
   simp at h2 h3
   exact ⟨i,rfl,h2,h3.1,h3.2⟩
def OwT (w:World) (base:Nat) (v:Value) (l:List Tk):Prop:=w.ownsRow base 91 5 v l.length (flatT l)
theorem heap_lt {w:World} {g:Nat} {o:Obj} (h:w.heap[g]? = some o):g < w.heap.size:=by
 rcases Nat.lt_or_ge g w.heap.size with k | k
 · exact k
 · rw [Array.getElem?_eq_none k] at h;cases h
theorem OwT.ext {w w':World} {base:Nat} {v:Value} {l:List Tk} (h:OwT w base v l) (e:Ext w w'):OwT w' base v l:=by
 refine ⟨h.1,?_⟩
 rcases h.2 with h2 | ⟨g,cap,cur,h1,h2,h3,h4⟩
 · exact .inl h2
 · exact .inr ⟨g,cap,cur,h1,h2,(e.block g (heap_lt h3)).trans h3,h4⟩
theorem OwT.set {w:World} {base:Nat} {v:Value} {l:List Tk} (h:OwT w base v l) {p:Addr} (hp:p.block < base) (u:Value):OwT (w.setCell p u) base v l:=by
 refine ⟨h.1,?_⟩
 rcases h.2 with h2 | ⟨g,cap,cur,h1,h2,h3,h4⟩
 · exact .inl h2
 · refine .inr ⟨g,cap,cur,h1,h2,?_,h4⟩
   rw [Below.heap_setCell _ _ _ _ J2];exact h3
theorem OwT.nil (w:World) (base:Nat):OwT w base (.slice none 0 0) []:=⟨rfl,.inl ⟨rfl,rfl⟩⟩
theorem OwT.rd {w:World} {base:Nat} {v:Value} {l:List Tk} (h:OwT w base v l):RdT w v l:=by
 rcases h.2 with ⟨h1,h2⟩ | ⟨g,cap,cur,h1,h2,h3,h4,h5,h6,h7⟩
 · exact .inl ⟨h1,List.eq_nil_of_length_eq_zero h2⟩
 · refine .inr ⟨g,0,cap,h1,by omega,heap_lt h3,fun j u hu=>?_⟩
   have hj:j < (flatT l).length:=(List.getElem?_eq_some_iff.mp hu).1
   rw [flatT_length] at hj
   rw [cell_of_row w g _ cur _ (0,0) h3,Nat.zero_add,← Array.getElem?_toList]
   rw [← h7,List.getElem?_take] at hu
   rwa [if_pos J2] at hu
theorem OwT.far {w:World} {base:Nat} {v:Value} {l:List Tk} (h:OwT w base v l) {b:Nat} (hb:b < base):v.ownBlock≠some b:=by
 exact K129
theorem tk_append {ops:Array Oper} {rest:List Oper} {o:Oper} {a:Act} {Q:Exit→Act→World→Prop} (W:World) (base:Nat) (s x:Operand) (v:Value) (b:Nat) (l:List Tk) (t:Tk) (hgd:o.guard = none)
   (ho:o.op = .call { callee:=.builtin .append,args:=#[s,x],argTypes:=#[83,83] })
   (hs:a.eval s = v) (hx:a.eval x = .slice (some ⟨b,0,none⟩) 1 1) (hB:OwT W base v l)
   (hR:∀ j u,(flatT [t])[j]? = some u→W.cell? ((⟨b,0,none⟩:Addr).add j) = some u) (hlen:l.length≤100000) (hbase:base≤W.heap.size)
   (h:∀ v' W',OwT W' base v' (l ++ [t])→W.grownBy W' v.ownBlock→(∃ g cap,v' = .slice (some ⟨g,0,none⟩) (l.length+1) cap)→wpList Tryz.prog ops Q rest (a.put o.dst v') W'):wpList Tryz.prog ops Q (o :: rest) a W:=by
 obtain ⟨i,hi,hz,h1,h2⟩:=info_tk
 refine wpList_append_own_at W hgd s x 83 ho base 91 i _ 5 48 Tryz.underlying83 hi hz h1 h2 rfl J9 v l.length (flatT l) hs hB ⟨b,0,none⟩ 1 1 (flatT [t]) hx (flatT_length [t]) hR (flatT_one [t]) J30 J2 hbase ?_
 intro v' W' h3 h4 _ _
 rw [← flatT_append] at h3
 have h5:OwT W' base v' (l ++ [t]):=by unfold OwT;rw [List.length_append];exact h3
 refine h v' W' h5 h4 ?_
 exact K86
theorem grown_cell {W W':World} {v:Value} (h:W.grownBy W' v.ownBlock) {b:Nat} (hb:b < W.heap.size) (hne:v.ownBlock≠some b) (o:Nat):W'.cell? ⟨b,o,none⟩ = W.cell? ⟨b,o,none⟩∧W'.frozen? ⟨b,o,none⟩ = W.frozen? ⟨b,o,none⟩:=by
 have e:=h.block b hb hne.symm
 simp only [World.cell?,World.frozen?,e]
 exact ⟨trivial,trivial⟩
theorem grown_ext {w W W':World} {base:Nat} {v:Value} {l:List Tk} (h:W.grownBy W' v.ownBlock) (hB:OwT W base v l) (hE:Ext w W) (hb:w.heap.size≤base):Ext w W':=by
 refine ⟨h.os.trans hE.os,h.tape.trans hE.tape,h.output.trans hE.output,Nat.le_trans hE.size h.size,fun k hk=>?_⟩
 exact (h.block k (llL hk hE.size) (fun e=>hB.far (llL hk hb) e.symm)).trans (hE.block k hk)
def Blk13 (W:World) (b:Nat) (x0 x1 x2 x3 x4 x5 x6 x7 x8 x9 x10 x11 x12:Value):Prop:=b < W.heap.size ∧
 (W.cell? ⟨b,0,none⟩ = some x0∧W.cell? ⟨b,1,none⟩ = some x1∧W.cell? ⟨b,2,none⟩ = some x2∧W.cell? ⟨b,3,none⟩ = some x3∧W.cell? ⟨b,4,none⟩ = some x4∧W.cell? ⟨b,5,none⟩ = some x5∧W.cell? ⟨b,6,none⟩ = some x6∧W.cell? ⟨b,7,none⟩ = some x7∧W.cell? ⟨b,8,none⟩ = some x8∧W.cell? ⟨b,9,none⟩ = some x9∧W.cell? ⟨b,10,none⟩ = some x10∧W.cell? ⟨b,11,none⟩ = some x11∧W.cell? ⟨b,12,none⟩ = some x12) ∧
 (W.frozen? ⟨b,0,none⟩ = false∧W.frozen? ⟨b,1,none⟩ = false∧W.frozen? ⟨b,2,none⟩ = false∧W.frozen? ⟨b,3,none⟩ = false∧W.frozen? ⟨b,4,none⟩ = false∧W.frozen? ⟨b,5,none⟩ = false∧W.frozen? ⟨b,6,none⟩ = false∧W.frozen? ⟨b,7,none⟩ = false∧W.frozen? ⟨b,8,none⟩ = false∧W.frozen? ⟨b,9,none⟩ = false∧W.frozen? ⟨b,10,none⟩ = false∧W.frozen? ⟨b,11,none⟩ = false∧W.frozen? ⟨b,12,none⟩ = false)
theorem blk13_top {w w1:World} {x0 x1 x2 x3 x4 x5 x6 x7 x8 x9 x10 x11 x12:Value} {T:TypeId} {b:Nat} (hb:b = w.heap.size) (E:Ext (w.alloc (.cells #[x0,x1,x2,x3,x4,x5,x6,x7,x8,x9,x10,x11,x12] T)) w1):Blk13 w1 b x0 x1 x2 x3 x4 x5 x6 x7 x8 x9 x10 x11 x12:=by
 subst hb
 have hs:w.heap.size < (w.alloc (.cells #[x0,x1,x2,x3,x4,x5,x6,x7,x8,x9,x10,x11,x12] T)).heap.size:=J65
 have k:=fun o=>E.cell.1 w.heap.size o hs
 have f:=fun o=>E.cell.2 w.heap.size o hs
 refine ⟨llL hs E.sz,⟨(k 0).trans ?_,(k 1).trans ?_,(k 2).trans ?_,(k 3).trans ?_,(k 4).trans ?_,(k 5).trans ?_,(k 6).trans ?_,(k 7).trans ?_,(k 8).trans ?_,(k 9).trans ?_,(k 10).trans ?_,(k 11).trans ?_,(k 12).trans ?_⟩,(f 0).trans ?_,(f 1).trans ?_,(f 2).trans ?_,(f 3).trans ?_,(f 4).trans ?_,(f 5).trans ?_,(f 6).trans ?_,(f 7).trans ?_,(f 8).trans ?_,(f 9).trans ?_,(f 10).trans ?_,(f 11).trans ?_,(f 12).trans ?_⟩
 all_goals simp [go_sem]
theorem Blk13.ext {w w':World} {b:Nat} {x0 x1 x2 x3 x4 x5 x6 x7 x8 x9 x10 x11 x12:Value} (h:Blk13 w b x0 x1 x2 x3 x4 x5 x6 x7 x8 x9 x10 x11 x12) (e:Ext w w'):Blk13 w' b x0 x1 x2 x3 x4 x5 x6 x7 x8 x9 x10 x11 x12:=by
 obtain ⟨z,⟨k0,k1,k2,k3,k4,k5,k6,k7,k8,k9,k10,k11,k12⟩,f0,f1,f2,f3,f4,f5,f6,f7,f8,f9,f10,f11,f12⟩:=h
 have k:=fun o=>e.cell.1 b o z
 have f:=fun o=>e.cell.2 b o z
 exact ⟨llL z e.sz,⟨(k 0).trans k0,(k 1).trans k1,(k 2).trans k2,(k 3).trans k3,(k 4).trans k4,(k 5).trans k5,(k 6).trans k6,(k 7).trans k7,(k 8).trans k8,(k 9).trans k9,(k 10).trans k10,(k 11).trans k11,(k 12).trans k12⟩,(f 0).trans f0,(f 1).trans f1,(f 2).trans f2,(f 3).trans f3,(f 4).trans f4,(f 5).trans f5,(f 6).trans f6,(f 7).trans f7,(f 8).trans f8,(f 9).trans f9,(f 10).trans f10,(f 11).trans f11,(f 12).trans f12⟩
theorem Blk13.far1 {w:World} {b c:Nat} {x0 x1 x2 x3 x4 x5 x6 x7 x8 x9 x10 x11 x12:Value} (h:Blk13 w b x0 x1 x2 x3 x4 x5 x6 x7 x8 x9 x10 x11 x12) (hc:c≠b) (o:Nat) (v:Value):Blk13 (w.setCell ⟨c,o,none⟩ v) b x0 x1 x2 x3 x4 x5 x6 x7 x8 x9 x10 x11 x12:=by
 obtain ⟨z,⟨k0,k1,k2,k3,k4,k5,k6,k7,k8,k9,k10,k11,k12⟩,f0,f1,f2,f3,f4,f5,f6,f7,f8,f9,f10,f11,f12⟩:=h
 refine ⟨by simpa [World.setCell] using z,⟨?_,?_,?_,?_,?_,?_,?_,?_,?_,?_,?_,?_,?_⟩,?_,?_,?_,?_,?_,?_,?_,?_,?_,?_,?_,?_,?_⟩
 all_goals first | (rw [wFa _ _ _ _ hc];assumption) | (rw [wFz];assumption)
theorem Blk13.far {w:World} {b c:Nat} {x0 x1 x2 x3 x4 x5 x6 x7 x8 x9 x10 x11 x12:Value} (h:Blk13 w b x0 x1 x2 x3 x4 x5 x6 x7 x8 x9 x10 x11 x12) (hc:c≠b) (y0 y1 y2 y3 y4 y5 y6 y7 y8 y9 y10 y11 y12:Value) :
   Blk13 (((((((((((((w.setCell ⟨c,0,none⟩ y0).setCell ⟨c,1,none⟩ y1).setCell ⟨c,2,none⟩ y2).setCell ⟨c,3,none⟩ y3).setCell ⟨c,4,none⟩ y4).setCell ⟨c,5,none⟩ y5).setCell ⟨c,6,none⟩ y6).setCell ⟨c,7,none⟩ y7).setCell ⟨c,8,none⟩ y8).setCell ⟨c,9,none⟩ y9).setCell ⟨c,10,none⟩ y10).setCell ⟨c,11,none⟩ y11).setCell ⟨c,12,none⟩ y12) b x0 x1 x2 x3 x4 x5 x6 x7 x8 x9 x10 x11 x12:=(((((((((((((h.far1 hc _ _).far1 hc _ _).far1 hc _ _).far1 hc _ _).far1 hc _ _).far1 hc _ _).far1 hc _ _).far1 hc _ _).far1 hc _ _).far1 hc _ _).far1 hc _ _).far1 hc _ _).far1 hc _ _)
theorem Blk13.put0 {w:World} {b:Nat} {x0 x1 x2 x3 x4 x5 x6 x7 x8 x9 x10 x11 x12:Value} (h:Blk13 w b x0 x1 x2 x3 x4 x5 x6 x7 x8 x9 x10 x11 x12) (v:Value):Blk13 (w.setCell ⟨b,0,none⟩ v) b v x1 x2 x3 x4 x5 x6 x7 x8 x9 x10 x11 x12:=by
 obtain ⟨z,⟨k0,k1,k2,k3,k4,k5,k6,k7,k8,k9,k10,k11,k12⟩,f0,f1,f2,f3,f4,f5,f6,f7,f8,f9,f10,f11,f12⟩:=h
 have e:=wSa w ⟨b,0,none⟩ v (by rw [k0])
 refine ⟨by simpa [World.setCell] using z,⟨e,?_,?_,?_,?_,?_,?_,?_,?_,?_,?_,?_,?_⟩,?_,?_,?_,?_,?_,?_,?_,?_,?_,?_,?_,?_,?_⟩
 all_goals first | (rw [wO _ _ _ _ J65];assumption) | (rw [wFz];assumption)
theorem Blk13.put1 {w:World} {b:Nat} {x0 x1 x2 x3 x4 x5 x6 x7 x8 x9 x10 x11 x12:Value} (h:Blk13 w b x0 x1 x2 x3 x4 x5 x6 x7 x8 x9 x10 x11 x12) (v:Value):Blk13 (w.setCell ⟨b,1,none⟩ v) b x0 v x2 x3 x4 x5 x6 x7 x8 x9 x10 x11 x12:=by
 obtain ⟨z,⟨k0,k1,k2,k3,k4,k5,k6,k7,k8,k9,k10,k11,k12⟩,f0,f1,f2,f3,f4,f5,f6,f7,f8,f9,f10,f11,f12⟩:=h
 have e:=wSa w ⟨b,1,none⟩ v (by rw [k1])
 refine ⟨by simpa [World.setCell] using z,⟨?_,e,?_,?_,?_,?_,?_,?_,?_,?_,?_,?_,?_⟩,?_,?_,?_,?_,?_,?_,?_,?_,?_,?_,?_,?_,?_⟩
 all_goals first | (rw [wO _ _ _ _ J65];assumption) | (rw [wFz];assumption)
theorem Blk13.put2 {w:World} {b:Nat} {x0 x1 x2 x3 x4 x5 x6 x7 x8 x9 x10 x11 x12:Value} (h:Blk13 w b x0 x1 x2 x3 x4 x5 x6 x7 x8 x9 x10 x11 x12) (v:Value):Blk13 (w.setCell ⟨b,2,none⟩ v) b x0 x1 v x3 x4 x5 x6 x7 x8 x9 x10 x11 x12:=by
 obtain ⟨z,⟨k0,k1,k2,k3,k4,k5,k6,k7,k8,k9,k10,k11,k12⟩,f0,f1,f2,f3,f4,f5,f6,f7,f8,f9,f10,f11,f12⟩:=h
 have e:=wSa w ⟨b,2,none⟩ v (by rw [k2])
 refine ⟨by simpa [World.setCell] using z,⟨?_,?_,e,?_,?_,?_,?_,?_,?_,?_,?_,?_,?_⟩,?_,?_,?_,?_,?_,?_,?_,?_,?_,?_,?_,?_,?_⟩
 all_goals first | (rw [wO _ _ _ _ J65];assumption) | (rw [wFz];assumption)
theorem Blk13.put3 {w:World} {b:Nat} {x0 x1 x2 x3 x4 x5 x6 x7 x8 x9 x10 x11 x12:Value} (h:Blk13 w b x0 x1 x2 x3 x4 x5 x6 x7 x8 x9 x10 x11 x12) (v:Value):Blk13 (w.setCell ⟨b,3,none⟩ v) b x0 x1 x2 v x4 x5 x6 x7 x8 x9 x10 x11 x12:=by
 obtain ⟨z,⟨k0,k1,k2,k3,k4,k5,k6,k7,k8,k9,k10,k11,k12⟩,f0,f1,f2,f3,f4,f5,f6,f7,f8,f9,f10,f11,f12⟩:=h
 have e:=wSa w ⟨b,3,none⟩ v (by rw [k3])
 refine ⟨by simpa [World.setCell] using z,⟨?_,?_,?_,e,?_,?_,?_,?_,?_,?_,?_,?_,?_⟩,?_,?_,?_,?_,?_,?_,?_,?_,?_,?_,?_,?_,?_⟩
 all_goals first | (rw [wO _ _ _ _ J65];assumption) | (rw [wFz];assumption)
theorem Blk13.put4 {w:World} {b:Nat} {x0 x1 x2 x3 x4 x5 x6 x7 x8 x9 x10 x11 x12:Value} (h:Blk13 w b x0 x1 x2 x3 x4 x5 x6 x7 x8 x9 x10 x11 x12) (v:Value):Blk13 (w.setCell ⟨b,4,none⟩ v) b x0 x1 x2 x3 v x5 x6 x7 x8 x9 x10 x11 x12:=by
 obtain ⟨z,⟨k0,k1,k2,k3,k4,k5,k6,k7,k8,k9,k10,k11,k12⟩,f0,f1,f2,f3,f4,f5,f6,f7,f8,f9,f10,f11,f12⟩:=h
 have e:=wSa w ⟨b,4,none⟩ v (by rw [k4])
 refine ⟨by simpa [World.setCell] using z,⟨?_,?_,?_,?_,e,?_,?_,?_,?_,?_,?_,?_,?_⟩,?_,?_,?_,?_,?_,?_,?_,?_,?_,?_,?_,?_,?_⟩
 all_goals first | (rw [wO _ _ _ _ J65];assumption) | (rw [wFz];assumption)
theorem Blk13.put5 {w:World} {b:Nat} {x0 x1 x2 x3 x4 x5 x6 x7 x8 x9 x10 x11 x12:Value} (h:Blk13 w b x0 x1 x2 x3 x4 x5 x6 x7 x8 x9 x10 x11 x12) (v:Value):Blk13 (w.setCell ⟨b,5,none⟩ v) b x0 x1 x2 x3 x4 v x6 x7 x8 x9 x10 x11 x12:=by
 obtain ⟨z,⟨k0,k1,k2,k3,k4,k5,k6,k7,k8,k9,k10,k11,k12⟩,f0,f1,f2,f3,f4,f5,f6,f7,f8,f9,f10,f11,f12⟩:=h
 have e:=wSa w ⟨b,5,none⟩ v (by rw [k5])
 refine ⟨by simpa [World.setCell] using z,⟨?_,?_,?_,?_,?_,e,?_,?_,?_,?_,?_,?_,?_⟩,?_,?_,?_,?_,?_,?_,?_,?_,?_,?_,?_,?_,?_⟩
 all_goals first | (rw [wO _ _ _ _ J65];assumption) | (rw [wFz];assumption)
theorem Blk13.put6 {w:World} {b:Nat} {x0 x1 x2 x3 x4 x5 x6 x7 x8 x9 x10 x11 x12:Value} (h:Blk13 w b x0 x1 x2 x3 x4 x5 x6 x7 x8 x9 x10 x11 x12) (v:Value):Blk13 (w.setCell ⟨b,6,none⟩ v) b x0 x1 x2 x3 x4 x5 v x7 x8 x9 x10 x11 x12:=by
 obtain ⟨z,⟨k0,k1,k2,k3,k4,k5,k6,k7,k8,k9,k10,k11,k12⟩,f0,f1,f2,f3,f4,f5,f6,f7,f8,f9,f10,f11,f12⟩:=h
 have e:=wSa w ⟨b,6,none⟩ v (by rw [k6])
 refine ⟨by simpa [World.setCell] using z,⟨?_,?_,?_,?_,?_,?_,e,?_,?_,?_,?_,?_,?_⟩,?_,?_,?_,?_,?_,?_,?_,?_,?_,?_,?_,?_,?_⟩
 all_goals first | (rw [wO _ _ _ _ J65];assumption) | (rw [wFz];assumption)
theorem Blk13.put7 {w:World} {b:Nat} {x0 x1 x2 x3 x4 x5 x6 x7 x8 x9 x10 x11 x12:Value} (h:Blk13 w b x0 x1 x2 x3 x4 x5 x6 x7 x8 x9 x10 x11 x12) (v:Value):Blk13 (w.setCell ⟨b,7,none⟩ v) b x0 x1 x2 x3 x4 x5 x6 v x8 x9 x10 x11 x12:=by
 obtain ⟨z,⟨k0,k1,k2,k3,k4,k5,k6,k7,k8,k9,k10,k11,k12⟩,f0,f1,f2,f3,f4,f5,f6,f7,f8,f9,f10,f11,f12⟩:=h
 have e:=wSa w ⟨b,7,none⟩ v (by rw [k7])
 refine ⟨by simpa [World.setCell] using z,⟨?_,?_,?_,?_,?_,?_,?_,e,?_,?_,?_,?_,?_⟩,?_,?_,?_,?_,?_,?_,?_,?_,?_,?_,?_,?_,?_⟩
 all_goals first | (rw [wO _ _ _ _ J65];assumption) | (rw [wFz];assumption)
theorem Blk13.put8 {w:World} {b:Nat} {x0 x1 x2 x3 x4 x5 x6 x7 x8 x9 x10 x11 x12:Value} (h:Blk13 w b x0 x1 x2 x3 x4 x5 x6 x7 x8 x9 x10 x11 x12) (v:Value):Blk13 (w.setCell ⟨b,8,none⟩ v) b x0 x1 x2 x3 x4 x5 x6 x7 v x9 x10 x11 x12:=by
 obtain ⟨z,⟨k0,k1,k2,k3,k4,k5,k6,k7,k8,k9,k10,k11,k12⟩,f0,f1,f2,f3,f4,f5,f6,f7,f8,f9,f10,f11,f12⟩:=h
 have e:=wSa w ⟨b,8,none⟩ v (by rw [k8])
 refine ⟨by simpa [World.setCell] using z,⟨?_,?_,?_,?_,?_,?_,?_,?_,e,?_,?_,?_,?_⟩,?_,?_,?_,?_,?_,?_,?_,?_,?_,?_,?_,?_,?_⟩
 all_goals first | (rw [wO _ _ _ _ J65];assumption) | (rw [wFz];assumption)
theorem Blk13.put9 {w:World} {b:Nat} {x0 x1 x2 x3 x4 x5 x6 x7 x8 x9 x10 x11 x12:Value} (h:Blk13 w b x0 x1 x2 x3 x4 x5 x6 x7 x8 x9 x10 x11 x12) (v:Value):Blk13 (w.setCell ⟨b,9,none⟩ v) b x0 x1 x2 x3 x4 x5 x6 x7 x8 v x10 x11 x12:=by
 obtain ⟨z,⟨k0,k1,k2,k3,k4,k5,k6,k7,k8,k9,k10,k11,k12⟩,f0,f1,f2,f3,f4,f5,f6,f7,f8,f9,f10,f11,f12⟩:=h
 have e:=wSa w ⟨b,9,none⟩ v (by rw [k9])
 refine ⟨by simpa [World.setCell] using z,⟨?_,?_,?_,?_,?_,?_,?_,?_,?_,e,?_,?_,?_⟩,?_,?_,?_,?_,?_,?_,?_,?_,?_,?_,?_,?_,?_⟩
 all_goals first | (rw [wO _ _ _ _ J65];assumption) | (rw [wFz];assumption)
theorem Blk13.put10 {w:World} {b:Nat} {x0 x1 x2 x3 x4 x5 x6 x7 x8 x9 x10 x11 x12:Value} (h:Blk13 w b x0 x1 x2 x3 x4 x5 x6 x7 x8 x9 x10 x11 x12) (v:Value):Blk13 (w.setCell ⟨b,10,none⟩ v) b x0 x1 x2 x3 x4 x5 x6 x7 x8 x9 v x11 x12:=by
 obtain ⟨z,⟨k0,k1,k2,k3,k4,k5,k6,k7,k8,k9,k10,k11,k12⟩,f0,f1,f2,f3,f4,f5,f6,f7,f8,f9,f10,f11,f12⟩:=h
 have e:=wSa w ⟨b,10,none⟩ v (by rw [k10])
 refine ⟨by simpa [World.setCell] using z,⟨?_,?_,?_,?_,?_,?_,?_,?_,?_,?_,e,?_,?_⟩,?_,?_,?_,?_,?_,?_,?_,?_,?_,?_,?_,?_,?_⟩
 all_goals first | (rw [wO _ _ _ _ J65];assumption) | (rw [wFz];assumption)
theorem Blk13.put11 {w:World} {b:Nat} {x0 x1 x2 x3 x4 x5 x6 x7 x8 x9 x10 x11 x12:Value} (h:Blk13 w b x0 x1 x2 x3 x4 x5 x6 x7 x8 x9 x10 x11 x12) (v:Value):Blk13 (w.setCell ⟨b,11,none⟩ v) b x0 x1 x2 x3 x4 x5 x6 x7 x8 x9 x10 v x12:=by
 obtain ⟨z,⟨k0,k1,k2,k3,k4,k5,k6,k7,k8,k9,k10,k11,k12⟩,f0,f1,f2,f3,f4,f5,f6,f7,f8,f9,f10,f11,f12⟩:=h
 have e:=wSa w ⟨b,11,none⟩ v (by rw [k11])
 refine ⟨by simpa [World.setCell] using z,⟨?_,?_,?_,?_,?_,?_,?_,?_,?_,?_,?_,e,?_⟩,?_,?_,?_,?_,?_,?_,?_,?_,?_,?_,?_,?_,?_⟩
 all_goals first | (rw [wO _ _ _ _ J65];assumption) | (rw [wFz];assumption)
theorem Blk13.put12 {w:World} {b:Nat} {x0 x1 x2 x3 x4 x5 x6 x7 x8 x9 x10 x11 x12:Value} (h:Blk13 w b x0 x1 x2 x3 x4 x5 x6 x7 x8 x9 x10 x11 x12) (v:Value):Blk13 (w.setCell ⟨b,12,none⟩ v) b x0 x1 x2 x3 x4 x5 x6 x7 x8 x9 x10 x11 v:=by
 obtain ⟨z,⟨k0,k1,k2,k3,k4,k5,k6,k7,k8,k9,k10,k11,k12⟩,f0,f1,f2,f3,f4,f5,f6,f7,f8,f9,f10,f11,f12⟩:=h
 have e:=wSa w ⟨b,12,none⟩ v (by rw [k12])
 refine ⟨by simpa [World.setCell] using z,⟨?_,?_,?_,?_,?_,?_,?_,?_,?_,?_,?_,?_,e⟩,?_,?_,?_,?_,?_,?_,?_,?_,?_,?_,?_,?_,?_⟩
 all_goals first | (rw [wO _ _ _ _ J65];assumption) | (rw [wFz];assumption)
theorem Blk13.set {w:World} {b:Nat} {o0 o1 o2 o3 o4 o5 o6 o7 o8 o9 o10 o11 o12:Value} (h:Blk13 w b o0 o1 o2 o3 o4 o5 o6 o7 o8 o9 o10 o11 o12) (x0 x1 x2 x3 x4 x5 x6 x7 x8 x9 x10 x11 x12:Value) :
   Blk13 (((((((((((((w.setCell ⟨b,0,none⟩ x0).setCell ⟨b,1,none⟩ x1).setCell ⟨b,2,none⟩ x2).setCell ⟨b,3,none⟩ x3).setCell ⟨b,4,none⟩ x4).setCell ⟨b,5,none⟩ x5).setCell ⟨b,6,none⟩ x6).setCell ⟨b,7,none⟩ x7).setCell ⟨b,8,none⟩ x8).setCell ⟨b,9,none⟩ x9).setCell ⟨b,10,none⟩ x10).setCell ⟨b,11,none⟩ x11).setCell ⟨b,12,none⟩ x12) b x0 x1 x2 x3 x4 x5 x6 x7 x8 x9 x10 x11 x12:=(((((((((((((h.put0 _).put1 _).put2 _).put3 _).put4 _).put5 _).put6 _).put7 _).put8 _).put9 _).put10 _).put11 _).put12 _)
theorem Blk13.dr {w:World} {b:Nat} {x0 x1 x2 x3 x4 x5 x6 x7 x8 x9 x10 x11 x12:Value} (h:Blk13 w b x0 x1 x2 x3 x4 x5 x6 x7 x8 x9 x10 x11 x12):Blk13 w.drew b x0 x1 x2 x3 x4 x5 x6 x7 x8 x9 x10 x11 x12:=h.ext (Ext.drew xr)
theorem Blk13.al {w:World} {b:Nat} {x0 x1 x2 x3 x4 x5 x6 x7 x8 x9 x10 x11 x12:Value} (o:Obj) (h:Blk13 w b x0 x1 x2 x3 x4 x5 x6 x7 x8 x9 x10 x11 x12):Blk13 (w.alloc o) b x0 x1 x2 x3 x4 x5 x6 x7 x8 x9 x10 x11 x12:=h.ext (Ext.alloc xr _)
structure ExtB (b:Nat) (w w':World):Prop where
 os:w'.os = w.os
 tape:w'.tape = w.tape
 output:w'.output = w.output
 size:w.heap.size≤w'.heap.size
 block:∀ k,k < w.heap.size→k≠b→w'.heap[k]? = w.heap[k]?
theorem ExtB.refl (b:Nat) (w:World):ExtB b w w:=⟨rfl,rfl,rfl,Nat.le_refl _,fun _ _ _=>rfl⟩
theorem ExtB.trans {b:Nat} {x y z:World} (h:ExtB b x y) (k:ExtB b y z):ExtB b x z :=
 ⟨k.os.trans h.os,k.tape.trans h.tape,k.output.trans h.output,Nat.le_trans h.size k.size,fun i hi hb=>(k.block i (llL hi h.size) hb).trans (h.block i hi hb)⟩
theorem Ext.toB {w w':World} (h:Ext w w') (b:Nat):ExtB b w w':=⟨h.os,h.tape,h.output,h.size,fun k hk _=>h.block k hk⟩
theorem ExtB.alloc {b:Nat} {w w':World} (h:ExtB b w w') (o:Obj):ExtB b w (w'.alloc o):=h.trans ((xr.alloc o).toB b)
theorem ExtB.drew {b:Nat} {w w':World} (h:ExtB b w w'):ExtB b w w'.drew:=h.trans (xr.drew.toB b)
theorem ExtB.set {b:Nat} {w w':World} (h:ExtB b w w') {p:Addr} (hp:p.block = b∨w.heap.size≤p.block) (u:Value):ExtB b w (w'.setCell p u):=by
 refine ⟨h.os,h.tape,h.output,?_,fun k hk hb=>?_⟩
 · simpa [World.setCell] using h.size
 · rw [Below.heap_setCell _ _ _ _ J2];exact h.block k hk hb
theorem ExtB.ext {b:Nat} {w0 w w':World} (h:ExtB b w w') (e:Ext w0 w) (hb:w0.heap.size≤b):Ext w0 w' :=
 ⟨h.os.trans e.os,h.tape.trans e.tape,h.output.trans e.output,Nat.le_trans e.size h.size,fun k hk=>(h.block k (llL hk e.size) J2).trans (e.block k hk)⟩
theorem ExtB.cell {b:Nat} {w w':World} (h:ExtB b w w') {k:Nat} (hk:k < w.heap.size) (hb:k≠b) (o:Nat):w'.cell? ⟨k,o,none⟩ = w.cell? ⟨k,o,none⟩∧w'.frozen? ⟨k,o,none⟩ = w.frozen? ⟨k,o,none⟩:=by
 have e:=h.block k hk hb
 simp only [World.cell?,World.frozen?,e]
 exact ⟨trivial,trivial⟩
def cellsT (t:T) (lv:Value):List Value:=[.int .i64 t.k,.int .i64 t.n,.string (bs t.s),.int .i64 t.e,.int .i64 t.r.1,.int .i64 t.r.2.1,.bool t.r.2.2.1,.bool t.r.2.2.2,.int .i64 t.q.1,.int .i64 t.q.2.1,.bool t.q.2.2.1,.bool t.q.2.2.2,lv]
def aggX (t:T) (lv:Value):Value:=.agg #[.int .i64 t.k,.int .i64 t.n,.string (bs t.s),.int .i64 t.e,.int .i64 t.r.1,.int .i64 t.r.2.1,.bool t.r.2.2.1,.bool t.r.2.2.2,.int .i64 t.q.1,.int .i64 t.q.2.1,.bool t.q.2.2.1,.bool t.q.2.2.2,lv]
inductive IsL (w:World) (P:Nat→Prop):Value→List T→Prop
 | nil {p:Option Addr} {c:Nat}:IsL w P (.slice p 0 c) []
 | mk (b off c n:Nat) (l:List T) (lvs:Nat→Value):n = l.length→n≤c→P b→b < w.heap.size →
     (∀ i t j u,l[i]? = some t→(cellsT t (lvs i))[j]? = some u→w.cell? ⟨b,off+i * 13+j,none⟩ = some u) →
     (∀ i t,l[i]? = some t→IsL w P (lvs i) t.l)→IsL w P (.slice (some ⟨b,off,none⟩) n c) l
theorem IsL.keep {P P':Nat→Prop} {w w':World} {v:Value} {l:List T} (h:IsL w P v l) (hs:w.heap.size≤w'.heap.size) (hk:∀ k,P k→k < w.heap.size→w'.heap[k]? = w.heap[k]?) (hP:∀ k,P k→k < w.heap.size→P' k):IsL w' P' v l:=by
 induction h with
 | nil=>exact .nil
 | mk g off c n l lvs h1 h2 h3 h4 h5 _ ih =>
   refine .mk g off c n l lvs h1 h2 (hP g h3 h4) (llL h4 hs) (fun i t j u hi hj=>?_) ih
   rw [← h5 i t j u hi hj]
   simp only [World.cell?,hk g h3 h4]
theorem IsL.mono {P P':Nat→Prop} {w:World} {v:Value} {l:List T} (h:IsL w P v l) (hP:∀ k,P k→k < w.heap.size→P' k):IsL w P' v l:=h.keep nrf (fun _ _ _=>rfl) hP
theorem IsL.extB {b:Nat} {P:Nat→Prop} {w w':World} {v:Value} {l:List T} (h:IsL w P v l) (e:ExtB b w w') (hb:∀ k,P k→k≠b):IsL w' P v l:=h.keep e.size (fun k hk hs=>e.block k hs (hb k hk)) (fun _ h _=>h)
theorem IsL.ext {P:Nat→Prop} {w w':World} {v:Value} {l:List T} (h:IsL w P v l) (e:Ext w w'):IsL w' P v l:=h.keep e.size (fun k _ hs=>e.block k hs) (fun _ h _=>h)
theorem IsL.form {P:Nat→Prop} {w:World} {v:Value} {l:List T} (h:IsL w P v l):∃ p c,v = .slice p l.length c∧l.length≤c:=by
 cases h with
 | nil=>exact ⟨_,_,rfl,Nat.zero_le _⟩
 | mk g off c n l lvs h1 h2=>subst h1;exact ⟨_,_,rfl,h2⟩
theorem IsL.at {P:Nat→Prop} {n c:Nat} {w:World} {p:Option Addr} {l:List T} (h:IsL w P (.slice p n c) l) {i:Nat} (hi:i < l.length) :
   ∃ b off t lv,p = some ⟨b,off,none⟩∧l[i]? = some t∧n = l.length∧b < w.heap.size∧P b∧IsL w P lv t.l∧∀ j u,(cellsT t lv)[j]? = some u→w.cell? ⟨b,off+i * 13+j,none⟩ = some u:=by
 cases h with
 | nil=>simp at hi
 | mk g off c n l lvs h1 h2 h3 h4 h5 h6=>exact ⟨g,off,l[i],lvs i,rfl,gEq hi,h1,h4,h3,h6 i _ (gEq hi),fun j u hu=>h5 i _ j u (gEq hi) hu⟩
def Stt (w0:World) (b:Nat) (w:World) (ts:List Tk) (d:Nat):Prop :=
 Ext w0 w∧w0.heap.size≤b∧b < w.heap.size∧Nz ts∧(∀ t ∈ ts,t.2.2.1.length≤300)∧d≤41∧ts.length≤400 ∧
 ∃ tb off c,RdT w0 (.slice (some ⟨tb,off,none⟩) ts.length c) ts∧w.cell? ⟨b,0,none⟩ = some (.slice (some ⟨tb,off,none⟩) ts.length c)∧w.frozen? ⟨b,0,none⟩ = false∧w.cell? ⟨b,1,none⟩ = some (.int .i64 (d:Int))∧w.frozen? ⟨b,1,none⟩ = false
theorem Stt.ext {w0 w w':World} {b d:Nat} {ts:List Tk} (h:Stt w0 b w ts d) (e:Ext w w'):Stt w0 b w' ts d:=by
 obtain ⟨h1,h2,h3,h4,h5,h6,h7,tb,off,c,h8,h9,h10,h11,h12⟩:=h
 have k:=e.cell
 exact ⟨h1.trans e,h2,llL h3 e.sz,h4,h5,h6,h7,tb,off,c,h8,(k.1 _ _ h3).trans h9,(k.2 _ _ h3).trans h10,(k.1 _ _ h3).trans h11,(k.2 _ _ h3).trans h12⟩
theorem Stt.get {w0 w:World} {b d:Nat} {ts:List Tk} (h:Stt w0 b w ts d):∃ tb off c,
   w.cell? ⟨b,0,none⟩ = some (.slice (some ⟨tb,off,none⟩) ts.length c)∧w.frozen? ⟨b,0,none⟩ = false∧w.cell? ⟨b,1,none⟩ = some (.int .i64 (d:Int))∧w.frozen? ⟨b,1,none⟩ = false ∧
   w.cell? ⟨tb,off,none⟩ = some (.int .i64 (hd ts).1)∧w.cell? ⟨tb,off+1,none⟩ = some (.int .i64 (hd ts).2.1)∧w.cell? ⟨tb,off+2,none⟩ = some (.string (bs (hd ts).2.2.1))∧w.cell? ⟨tb,off+3,none⟩ = some (.int .i64 (hd ts).2.2.2.1)∧w.cell? ⟨tb,off+4,none⟩ = some (.int .i64 (hd ts).2.2.2.2) ∧
   tb≠b∧ts.length≤c∧1≤ts.length∧tb < w.heap.size:=by
 obtain ⟨h1,h2,h3,h4,h5,h6,h7,tb,off,c,h8,h9,h10,h11,h12⟩:=h
 have hp:=h4.pos
 obtain ⟨p,c',e1,e2⟩:=h8.form
 cases e1
 obtain ⟨b',off',t,e3,e4,_,e6⟩:=h8.at (k:=0) J2
 cases e3
 have e7:hd ts = t:=by
   cases ts with
   | nil=>simp at hp
   | cons x r=>simp at e4;exact e4
 have k:=e6 w h1
 simp only [Nat.zero_mul,Nat.add_zero] at k
 rw [e7]
 have htb:tb < w0.heap.size:=by
   rcases h8 with ⟨_,h8⟩ | ⟨b2,o2,c2,q1,q2,q3,_⟩
   · rw [h8] at hp;simp at hp
   · cases q1;exact q3
 exact ⟨tb,off,c,h9,h10,h11,h12,k.1,k.2.1,k.2.2.1,k.2.2.2.1,k.2.2.2.2,by omega,e2,hp,llL htb h1.sz⟩
theorem RdT.tail {w:World} {tb off c n:Nat} {ts:List Tk} (h:RdT w (.slice (some ⟨tb,off,none⟩) n c) ts) (h1:1≤ts.length):RdT w (.slice (some ⟨tb,off+5,none⟩) (n - 1) (c - 1)) ts.tail:=by
 rcases h with ⟨h2,_⟩ | ⟨b,o,c',h2,h3,h4,h5⟩
 · cases h2
 · cases h2
   refine .inr ⟨tb,off+5,c - 1,by rw [List.length_tail],by rw [List.length_tail];omega,h4,fun j u hu=>?_⟩
   cases ts with
   | nil=>simp at h1
   | cons t r =>
     have:=h5 (j+5) u (by simpa [flatT] using hu)
     rwa [show off+(j+5) = off+5+j by omega] at this
theorem Stt.take {w0 w:World} {b d:Nat} {ts:List Tk} (h:Stt w0 b w ts d) (h5:(hd ts).1≠5) {tb off c:Nat} (h9:w.cell? ⟨b,0,none⟩ = some (.slice (some ⟨tb,off,none⟩) ts.length c)) :
   Stt w0 b (w.setCell ⟨b,0,none⟩ (.slice (some ⟨tb,off+5,none⟩) (ts.length - 1) (c - 1))) ts.tail d:=by
 obtain ⟨h1,h2,h3,h4,h5',h6,h7,tb',off',c',h8,h9',h10,h11,h12⟩:=h
 rw [h9] at h9'
 cases h9'
 have hp:=h4.pos
 refine ⟨h1.setCell h2 _,h2,by simpa [World.setCell] using h3,(h4.tail h5).1,fun t ht=>h5' t (List.mem_of_mem_tail ht),h6,by rw [List.length_tail];omega,tb,off+5,c - 1,?_,?_,?_,?_,?_⟩
 · rw [List.length_tail];exact h8.tail hp
 · rw [List.length_tail];exact wSa _ _ _ (by rw [h9])
 · rw [wFz];exact h10
 · rw [wO _ _ _ _ J65];exact h11
 · rw [wFz];exact h12
theorem Stt.deep {w0 w:World} {b d:Nat} {ts:List Tk} (h:Stt w0 b w ts d) (d':Nat) (hd':d'≤41):Stt w0 b (w.setCell ⟨b,1,none⟩ (.int .i64 (d':Int))) ts d':=by
 obtain ⟨h1,h2,h3,h4,h5',h6,h7,tb,off,c,h8,h9,h10,h11,h12⟩:=h
 refine ⟨h1.setCell h2 _,h2,by simpa [World.setCell] using h3,h4,h5',hd',h7,tb,off,c,h8,?_,?_,?_,?_⟩
 · rw [wO _ _ _ _ J65];exact h9
 · rw [wFz];exact h10
 · exact wSa _ _ _ (by rw [h11])
 · rw [wFz];exact h12
theorem Stt.far {w0 w:World} {b d:Nat} {ts:List Tk} (h:Stt w0 b w ts d) {p:Addr} (hp:p.block≠b) (h0:w0.heap.size≤p.block) (u:Value):Stt w0 b (w.setCell p u) ts d:=by
 obtain ⟨h1,h2,h3,h4,h5',h6,h7,tb,off,c,h8,h9,h10,h11,h12⟩:=h
 refine ⟨h1.setCell h0 _,h2,by simpa [World.setCell] using h3,h4,h5',h6,h7,tb,off,c,h8,?_,?_,?_,?_⟩
 · rw [wFa _ _ _ _ hp];exact h9
 · rw [wFz];exact h10
 · rw [wFa _ _ _ _ hp];exact h11
 · rw [wFz];exact h12
theorem Blk13.extB {b g:Nat} {w w':World} {x0 x1 x2 x3 x4 x5 x6 x7 x8 x9 x10 x11 x12:Value} (h:Blk13 w g x0 x1 x2 x3 x4 x5 x6 x7 x8 x9 x10 x11 x12) (e:ExtB b w w') (hg:g≠b):Blk13 w' g x0 x1 x2 x3 x4 x5 x6 x7 x8 x9 x10 x11 x12:=by
 obtain ⟨z,⟨k0,k1,k2,k3,k4,k5,k6,k7,k8,k9,k10,k11,k12⟩,f0,f1,f2,f3,f4,f5,f6,f7,f8,f9,f10,f11,f12⟩:=h
 have k:=fun o=>(e.cell z hg o).1
 have f:=fun o=>(e.cell z hg o).2
 exact ⟨llL z e.size,⟨(k 0).trans k0,(k 1).trans k1,(k 2).trans k2,(k 3).trans k3,(k 4).trans k4,(k 5).trans k5,(k 6).trans k6,(k 7).trans k7,(k 8).trans k8,(k 9).trans k9,(k 10).trans k10,(k 11).trans k11,(k 12).trans k12⟩,(f 0).trans f0,(f 1).trans f1,(f 2).trans f2,(f 3).trans f3,(f 4).trans f4,(f 5).trans f5,(f 6).trans f6,(f 7).trans f7,(f 8).trans f8,(f 9).trans f9,(f 10).trans f10,(f 11).trans f11,(f 12).trans f12⟩
def putX (W:World) (g:Nat) (t:T) (lv:Value):World:=(((((((((((((W.setCell ⟨g,0,none⟩ (.int .i64 t.k)).setCell ⟨g,1,none⟩ (.int .i64 t.n)).setCell ⟨g,2,none⟩ (.string (bs t.s))).setCell ⟨g,3,none⟩ (.int .i64 t.e)).setCell ⟨g,4,none⟩ (.int .i64 t.r.1)).setCell ⟨g,5,none⟩ (.int .i64 t.r.2.1)).setCell ⟨g,6,none⟩ (.bool t.r.2.2.1)).setCell ⟨g,7,none⟩ (.bool t.r.2.2.2)).setCell ⟨g,8,none⟩ (.int .i64 t.q.1)).setCell ⟨g,9,none⟩ (.int .i64 t.q.2.1)).setCell ⟨g,10,none⟩ (.bool t.q.2.2.1)).setCell ⟨g,11,none⟩ (.bool t.q.2.2.2)).setCell ⟨g,12,none⟩ lv)
def BlkX (W:World) (g:Nat) (t:T) (lv:Value):Prop:=Blk13 W g (.int .i64 t.k) (.int .i64 t.n) (.string (bs t.s)) (.int .i64 t.e) (.int .i64 t.r.1) (.int .i64 t.r.2.1) (.bool t.r.2.2.1) (.bool t.r.2.2.2) (.int .i64 t.q.1) (.int .i64 t.q.2.1) (.bool t.q.2.2.1) (.bool t.q.2.2.2) lv
theorem BlkX.put {W:World} {g:Nat} {t0:T} {lv0:Value} (h:BlkX W g t0 lv0) (t:T) (lv:Value):BlkX (putX W g t lv) g t lv:=Blk13.set h _ _ _ _ _ _ _ _ _ _ _ _ _
theorem putX_B {b g:Nat} {w W:World} (h:ExtB b w W) (hg:w.heap.size≤g) (t:T) (lv:Value):ExtB b w (putX W g t lv):=by
 unfold putX
 iterate 13 refine ExtB.set ?_ (.inr hg) _
 exact h
theorem putX_E {g:Nat} {w W:World} (h:Ext w W) (hg:w.heap.size≤g) (t:T) (lv:Value):Ext w (putX W g t lv):=by
 unfold putX
 iterate 13 refine Ext.setCell ?_ hg _
 exact h
theorem putX_heap (W:World) (g k:Nat) (t:T) (lv:Value) (hk:k≠g):(putX W g t lv).heap[k]? = W.heap[k]?:=by
 unfold putX
 iterate 13 rw [Below.heap_setCell _ _ _ _ hk]
theorem putX_size (W:World) (g:Nat) (t:T) (lv:Value):(putX W g t lv).heap.size = W.heap.size:=by
 unfold putX;simp [World.setCell]
theorem putX_L {P:Nat→Prop} {W:World} {g:Nat} {t:T} {lv v:Value} {l:List T} (h:IsL W P v l) (hP:∀ k,P k→k≠g):IsL (putX W g t lv) P v l :=
 h.keep J29 (fun k hk _=>putX_heap W g k t lv (hP k hk)) (fun _ h _=>h)
theorem BlkX.extB {b g:Nat} {w w':World} {t:T} {lv:Value} (h:BlkX w g t lv) (e:ExtB b w w') (hg:g≠b):BlkX w' g t lv:=Blk13.extB h e hg
theorem BlkX.ext {g:Nat} {w w':World} {t:T} {lv:Value} (h:BlkX w g t lv) (e:Ext w w'):BlkX w' g t lv:=Blk13.ext h e
theorem BlkX.top {w w1:World} {b:Nat} (hb:b = w.heap.size) (E:Ext (w.alloc (.cells #[.int .i64 0,.int .i64 0,.string ⟨#[]⟩,.int .i64 0,.int .i64 0,.int .i64 0,.bool false,.bool false,.int .i64 0,.int .i64 0,.bool false,.bool false,.slice none 0 0] 43)) w1):BlkX w1 b tz (.slice none 0 0):=blk13_top hb E
def Blk2 (W:World) (b:Nat) (x0 x1:Value):Prop:=b < W.heap.size ∧
 (W.cell? ⟨b,0,none⟩ = some x0∧W.cell? ⟨b,1,none⟩ = some x1) ∧
 (W.frozen? ⟨b,0,none⟩ = false∧W.frozen? ⟨b,1,none⟩ = false)
theorem Blk2.ext {w w':World} {b:Nat} {x0 x1:Value} (h:Blk2 w b x0 x1) (e:Ext w w'):Blk2 w' b x0 x1:=by
 obtain ⟨z,⟨k0,k1⟩,f0,f1⟩:=h
 have k:=fun o=>e.cell.1 b o z
 have f:=fun o=>e.cell.2 b o z
 exact ⟨llL z e.sz,⟨(k 0).trans k0,(k 1).trans k1⟩,(f 0).trans f0,(f 1).trans f1⟩
theorem Blk2.far1 {w:World} {b c:Nat} {x0 x1:Value} (h:Blk2 w b x0 x1) (hc:c≠b) (o:Nat) (v:Value):Blk2 (w.setCell ⟨c,o,none⟩ v) b x0 x1:=by
 obtain ⟨z,⟨k0,k1⟩,f0,f1⟩:=h
 refine ⟨by simpa [World.setCell] using z,⟨?_,?_⟩,?_,?_⟩
 · rw [wFa _ _ _ _ hc];exact k0
 · rw [wFa _ _ _ _ hc];exact k1
 · rw [wFz];exact f0
 · rw [wFz];exact f1
theorem Blk2.far {w:World} {b c:Nat} {x0 x1:Value} (h:Blk2 w b x0 x1) (hc:c≠b) (y0 y1:Value) :
   Blk2 ((w.setCell ⟨c,0,none⟩ y0).setCell ⟨c,1,none⟩ y1) b x0 x1:=((h.far1 hc _ _).far1 hc _ _)
theorem Blk2.put0 {w:World} {b:Nat} {x0 x1:Value} (h:Blk2 w b x0 x1) (v:Value):Blk2 (w.setCell ⟨b,0,none⟩ v) b v x1:=by
 obtain ⟨z,⟨k0,k1⟩,f0,f1⟩:=h
 have e:=wSa w ⟨b,0,none⟩ v (by rw [k0])
 refine ⟨by simpa [World.setCell] using z,⟨e,?_⟩,?_,?_⟩
 · exact K134
 · rw [wFz];exact f0
 · rw [wFz];exact f1
theorem Blk2.put1 {w:World} {b:Nat} {x0 x1:Value} (h:Blk2 w b x0 x1) (v:Value):Blk2 (w.setCell ⟨b,1,none⟩ v) b x0 v:=by
 obtain ⟨z,⟨k0,k1⟩,f0,f1⟩:=h
 have e:=wSa w ⟨b,1,none⟩ v (by rw [k1])
 refine ⟨by simpa [World.setCell] using z,⟨?_,e⟩,?_,?_⟩
 · exact K135
 · rw [wFz];exact f0
 · rw [wFz];exact f1
theorem Blk2.set {w:World} {b:Nat} {o0 o1:Value} (h:Blk2 w b o0 o1) (x0 x1:Value) :
   Blk2 ((w.setCell ⟨b,0,none⟩ x0).setCell ⟨b,1,none⟩ x1) b x0 x1:=((h.put0 _).put1 _)
theorem Blk2.dr {w:World} {b:Nat} {x0 x1:Value} (h:Blk2 w b x0 x1):Blk2 w.drew b x0 x1:=h.ext (Ext.drew xr)
theorem Blk2.al {w:World} {b:Nat} {x0 x1:Value} (o:Obj) (h:Blk2 w b x0 x1):Blk2 (w.alloc o) b x0 x1:=h.ext (Ext.alloc xr _)
end Go.Proofs.YtcfgbiaahangmaaGreatDoor
