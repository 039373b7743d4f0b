import Derived.Test.YtcfgbiaahangmaaGreatDoorC14
import Derived.Test.YtcfgbiaahangmaaGreatDoorC15
set_option maxHeartbeats 1000000
set_option maxRecDepth 100000
namespace Go.Proofs.YtcfgbiaahangmaaGreatDoor
open Go.Proofs.Tryz
open Go.RowKit
theorem I64.z:I64 0:=⟨by decide,by decide⟩
theorem nm_of (x:V) (h:x.ok):nm x.k x.n x.s x.e = x∧I64 x.n:=by
 cases x with
 | blank=>exact ⟨rfl,by decide,by decide⟩
 | tf b=>cases b <;> exact ⟨rfl,by decide,by decide⟩
 | num n=>exact ⟨mkNum_is h.2,h.1⟩
 | text s=>exact ⟨mkText_is h,I64.z⟩
 | err e=>exact ⟨mkErr_is h,I64.z⟩
theorem number_any (x:V) (a:Bool) (W:World) (hN:Nm W) (hx:x.ok):Calls Tryz.prog 263 #[x.dat,.bool a] W fun e w'=>e = .returned (numF x a).dat∧Ext W w':=by
 cases a with
 | false =>
   have c0:=fun W h=>vtonum_any x.k x.n x.s x.e W (nm_of x hx).2 h
   rw [(nm_of x hx).1] at c0
   have H:Hid (numF x false = x.toNum):=rfl
   rw [dat_eq x]
   obtain ⟨q0,q1,q2,q3,hq⟩:=dat4 x.toNum
   rw [hq] at c0
   have HQ:Hid (x.toNum.dat = .agg #[.int .i64 q0,.int .i64 q1,.string q2,.int .i64 q3]):=hq
   clear hq hx
   generalize x.k = xk at *
   generalize x.n = xn at *
   generalize x.s = xs at *
   generalize x.e = xe at *
   go_enter func263,ntmps263
   go_wp2_with fail
   refine (c0 _ (hN.ext ((xr.alloc _).alloc _))).mono ?_
   rintro e w1 ⟨rfl,E1⟩
   obtain ⟨z,⟨k0,k1,k2,k3⟩,f0,f1,f2,f3⟩:=blk_top (b:=W.heap.size+1) J65 E1
   go_wp2_with fail
   exact fin4 k0 k1 k2 k3 rfl J65 (((xr.alloc _).alloc _).trans E1) (fun W g0 g1 g2 g3=>by simp [results,results263,go_sem,g0,g1,g2,g3]) (fun W h=>⟨by rw [H.out,HQ.out],h⟩)
 | true =>
   clear hN
   have X2:Hid (∀ o1 o2,Ext W ((W.alloc o1).alloc o2)):=fun o1 o2=>(xr.alloc _).alloc _
   cases x with
   | blank =>
     exact K58
   | tf b =>
     clear hx
     simp only [V.dat,numF,if_true]
     generalize (if b = true then (1:Int) else 0) = bn
     go_enter func263,ntmps263
     go_wp2_with fail
     simp [bodyPost,results,results263,go_sem]
     exact X2.out _ _
   | num n =>
     exact K58
   | text s =>
     exact K58
   | err e =>
     exact K58
theorem truthB (x:V) (a:Bool) (W:World) (hN:Nm W) (hx:x.ok) (hc:a = false∨(x.k≠0∧x.k≠3)):Calls Tryz.prog 267 #[x.dat,.bool a] W fun e w'=>e = .returned x.toBool.dat∧Ext W w':=by
 have c0:=fun W h=>vtobool_any x.k x.n x.s x.e W (nm_of x hx).2 h
 rw [(nm_of x hx).1] at c0
 rw [dat_eq x]
 obtain ⟨q0,q1,q2,q3,hq⟩:=dat4 x.toBool
 rw [hq] at c0 ⊢
 clear hq hx
 generalize x.k = xk at *
 generalize x.n = xn at *
 generalize x.s = xs at *
 generalize x.e = xe at *
 cases a with
 | false =>
   clear hc
   exact K59
 | true =>
   have hh:xk≠0∧xk≠3:=hc.resolve_left J65
   have e0:(xk == 0) = false:=by simpa using hh.1
   have e3:(xk == 3) = false:=by simpa using hh.2
   clear hc hh
   exact K59
theorem ftruth_any (x:V) (a:Bool) (W:World) (hN:Nm W) (hx:x.ok):Calls Tryz.prog 267 #[x.dat,.bool a] W fun e w'=>e = .returned (truF x a).dat∧Ext W w':=by
 cases a with
 | false=>exact truthB x false W hN hx (.inl rfl)
 | true =>
   have X2:Hid (∀ o1 o2,Ext W ((W.alloc o1).alloc o2)):=fun o1 o2=>(xr.alloc _).alloc _
   cases x with
   | tf b=>exact truthB _ true W hN hx (.inr ⟨by simp [V.k],by simp [V.k]⟩)
   | num n=>exact truthB _ true W hN hx (.inr ⟨by simp [V.k],by simp [V.k]⟩)
   | err e=>exact truthB _ true W hN hx (.inr ⟨by simp [V.k],by simp [V.k]⟩)
   | blank =>
     exact K116
   | text s =>
     exact K116
def TurnC (w0:World) (v:Value) (f:V→Bool→V):Prop:=∃ K,v = .func (.func K) #[] #[]∧(∀ args W,(callFunc K args).run Tryz.prog W = .ok (.enter K args) W) ∧
 ∀ W x a,Ext w0 W→x.ok→Calls Tryz.prog K #[x.dat,.bool a] W fun e w'=>e = .returned (f x a).dat∧Ext W w'
theorem turn_number (w0:World) (hN:Nm w0):TurnC w0 (.func (.func 263) #[] #[]) numF :=
 ⟨263,rfl,enters_of func263 J3 rfl,fun W x a e h=>number_any x a W (hN.ext e) h⟩
theorem turn_truth (w0:World) (hN:Nm w0):TurnC w0 (.func (.func 267) #[] #[]) truF :=
 ⟨267,rfl,enters_of func267 J3 rfl,fun W x a e h=>ftruth_any x a W (hN.ext e) h⟩
def encV (x:V):Array Value:=#[x.dat]
theorem bad_snoc (f:V→Bool→V) (l:List (V × Bool)) (p:V × Bool):bad f (l ++ [p]) = if (bad f l).k = 4 then bad f l else if (f p.1 p.2).k = 4 then f p.1 p.2 else .blank:=bad_app f l [p]
theorem got_snoc (f:V→Bool→V) (l:List (V × Bool)) (p:V × Bool):got f (l ++ [p]) = if goes (f p.1 p.2) then got f l ++ [f p.1 p.2] else got f l:=by
 rw [got_app]
 show got f l ++ (if goes (f p.1 p.2) then [f p.1 p.2] else []) = _
 split
 · rfl
 · simp
structure Thr (w0:World) (hi g:Nat) (tv sv:Value) (f:V→Bool→V) (P:List V→World→Prop) (l:List (V × Bool)) (W:World):Prop where
 p:P (got f l) W
 t:W.cell? ⟨g,0,none⟩ = some tv
 s:W.cell? ⟨g+1,0,none⟩ = some sv
 b:Blk W (g+2) (.int .i64 (bad f l).k) (.int .i64 (bad f l).n) (.string (bad f l).s) (.int .i64 (bad f l).e)
 ot:Own4 W g
 os:Own4 W (g+1)
 ob:Own4 W (g+2)
theorem Blk.cells {W W':World} {b:Nat} {x0 x1 x2 x3:Value} (h:Blk W b x0 x1 x2 x3) (hs:W.heap.size≤W'.heap.size) (e:∀ o,W'.cell? ⟨b,o,none⟩ = W.cell? ⟨b,o,none⟩∧W'.frozen? ⟨b,o,none⟩ = W.frozen? ⟨b,o,none⟩):Blk W' b x0 x1 x2 x3:=by
 obtain ⟨z,⟨k0,k1,k2,k3⟩,f0,f1,f2,f3⟩:=h
 exact ⟨llL z hs,⟨(e 0).1.trans k0,(e 1).1.trans k1,(e 2).1.trans k2,(e 3).1.trans k3⟩,(e 0).2.trans f0,(e 1).2.trans f1,(e 2).2.trans f2,(e 3).2.trans f3⟩
theorem Own4.env {hi:Nat} {w w':World} {b:Nat} (h:Own4 w b) (m:Env hi w w') (hb:b < hi):Own4 w' b∧∀ o,w'.cell? ⟨b,o,none⟩ = w.cell? ⟨b,o,none⟩∧w'.frozen? ⟨b,o,none⟩ = w.frozen? ⟨b,o,none⟩:=by
 have e:=m.1.block b hb
 exact K115
theorem Thr.env {w0:World} {hi g:Nat} {tv sv:Value} {f:V→Bool→V} {P:List V→World→Prop} {l:List (V × Bool)} {W W':World} (hP:∀ l W W',P l W→hi≤W.heap.size→Env hi W W'→P l W') (hg:hi≤g)
   (h:Thr w0 hi g tv sv f P l W) (hs:g+3≤W.heap.size) (e:Env (g+3) W W'):Thr w0 hi g tv sv f P l W':=by
 obtain ⟨p,t,s,b,ot,os,ob⟩:=h
 obtain ⟨ot',et⟩:=ot.env e J2
 obtain ⟨os',es⟩:=os.env e J2
 obtain ⟨ob',eb⟩:=ob.env e J2
 exact ⟨hP _ _ _ p J2 (e.down J2),(et 0).1.trans t,(es 0).1.trans s,b.cells e.1.size eb,ot',os',ob'⟩
theorem Thr.mid {w0:World} {hi g:Nat} {tv sv:Value} {f:V→Bool→V} {P:List V→World→Prop} {l l':List (V × Bool)} {W W':World} (hg:hi≤g)
   (h:Thr w0 hi g tv sv f P l W) (m:Mid w0.heap.size hi W W') (hp:P (got f l') W') (hb:bad f l' = bad f l):Thr w0 hi g tv sv f P l' W':=by
 obtain ⟨p,t,s,b,ot,os,ob⟩:=h
 obtain ⟨ot',et⟩:=ot.mid m J2
 obtain ⟨os',es⟩:=os.mid m J2
 obtain ⟨ob',eb⟩:=ob.mid m J2
 exact ⟨hp,(et 0).1.trans t,(es 0).1.trans s,by rw [hb];exact b.cells m.1.size eb,ot',os',ob'⟩
theorem Own4.set {w:World} {b:Nat} (h:Own4 w b) (q:Addr) (v:Value):Own4 (w.setCell q v) b:=by
 refine ⟨by simpa [World.setCell] using h.1,fun r=>h.2 ?_⟩
 obtain ⟨c,fz,r⟩:=r
 by_cases hq:b = q.block
 · subst hq
   simp only [World.setCell,Array.getElem?_modify,if_true] at r
   obtain ⟨o,ho,r⟩:=Option.map_eq_some_iff.1 r
   cases o with
   | cells cs t fr=>cases r;exact ⟨_,_,ho⟩
   | _=>cases r
 · rw [Below.heap_setCell _ _ _ _ hq] at r
   exact ⟨c,fz,r⟩
def RdB (B:Nat) (W:World) (v:Value) (l:List Bg):Prop :=
 ∃ p c,v = .slice p l.length c∧l.length≤c∧(l = []∨∃ b off,p = some ⟨b,off,none⟩∧b < B∧b < W.heap.size∧∀ i a,l[i]? = some a→∃ (lv:Value),
   W.cell? ⟨b,off+i * 4,none⟩ = some (.bool a.g.area)∧W.cell? ⟨b,off+i * 4+1,none⟩ = some (.int .i64 a.rows)∧W.cell? ⟨b,off+i * 4+2,none⟩ = some (.int .i64 a.cols)∧W.cell? ⟨b,off+i * 4+3,none⟩ = some lv∧RdV B W lv a.g.l)
theorem RdB.low {B:Nat} {W W':World} {v:Value} {l:List Bg} (h:RdB B W v l) (e:Below B W W'):RdB B W' v l:=by
 obtain ⟨p,c,h1,h2,h3⟩:=h
 refine ⟨p,c,h1,h2,?_⟩
 rcases h3 with h3 | ⟨b,off,h3,h4,h5,h6⟩
 · exact .inl h3
 · refine .inr ⟨b,off,h3,h4,llL h5 e.size,fun i r hr=>?_⟩
   have k:=fun o=>Below.cell e (p:=⟨b,o,none⟩) h4
   obtain ⟨lv,k0,k1,k2,k3,k4⟩:=h6 i r hr
   exact ⟨lv,(k _).trans k0,(k _).trans k1,(k _).trans k2,(k _).trans k3,k4.low e⟩
theorem RdB.up {B B':Nat} {W:World} {v:Value} {l:List Bg} (h:RdB B W v l) (e:B≤B'):RdB B' W v l:=by
 obtain ⟨p,c,h1,h2,h3⟩:=h
 refine ⟨p,c,h1,h2,?_⟩
 rcases h3 with h3 | ⟨b,off,h3,h4,h5,h6⟩
 · exact .inl h3
 · refine .inr ⟨b,off,h3,llL h4 e,h5,fun i r hr=>?_⟩
   obtain ⟨lv,k0,k1,k2,k3,k4⟩:=h6 i r hr
   exact ⟨lv,k0,k1,k2,k3,k4.up e⟩
theorem RdB.to {B:Nat} {W W':World} {v:Value} {l:List Bg} (h:RdB B W v l) (hB:B≤W.heap.size) (e:Ext W W'):RdB W'.heap.size W' v l:=((h.up hB).low e).up e.size
theorem RdB.at {B:Nat} {W:World} {p:Option Addr} {c n:Nat} {l:List Bg} (h:RdB B W (.slice p n c) l) {i:Nat} {a:Bg} (hi:l[i]? = some a) :
   ∃ (b off:Nat) (lv:Value),p = some ⟨b,off,none⟩∧b < B∧b < W.heap.size ∧
     (W.cell? ⟨b,off+i * 4,none⟩ = some (.bool a.g.area)∧W.cell? ⟨b,off+i * 4+1,none⟩ = some (.int .i64 a.rows)∧W.cell? ⟨b,off+i * 4+2,none⟩ = some (.int .i64 a.cols)∧W.cell? ⟨b,off+i * 4+3,none⟩ = some lv)∧RdV B W lv a.g.l:=by
 obtain ⟨p',c',h1,h2,h3⟩:=h
 cases h1
 rcases h3 with h3 | ⟨b,off,h3,h4,h5,h6⟩
 · subst h3;simp at hi
 · obtain ⟨lv,k0,k1,k2,k3,k4⟩:=h6 i _ hi
   exact ⟨b,off,lv,h3,h4,h5,⟨k0,k1,k2,k3⟩,k4⟩
theorem RdB.form {B:Nat} {W:World} {v:Value} {l:List Bg} (h:RdB B W v l):∃ p n c,v = .slice p n c∧n = l.length∧n≤c:=by
 exact K104
theorem RdB.len {B:Nat} {W:World} {p:Option Addr} {c n:Nat} {l:List Bg} (h:RdB B W (.slice p n c) l):n = l.length:=by
 obtain ⟨p',c',h1,_⟩:=h
 cases h1;rfl
theorem RdB.toA {B:Nat} {W:World} {v:Value} {l:List Bg} (h:RdB B W v l):RdA B W v (gsOf l):=by
 obtain ⟨p,c,h1,h2,h3⟩:=h
 have e:(gsOf l).length = l.length:=by simp [gsOf]
 refine ⟨p,c,by rw [e];exact h1,by rw [e];exact h2,?_⟩
 rcases h3 with h3 | ⟨b,off,h3,h4,h5,h6⟩
 · subst h3;exact .inl rfl
 · refine .inr ⟨b,off,h3,h4,h5,fun i r hr=>?_⟩
   unfold gsOf at hr
   rw [List.getElem?_map] at hr
   cases hx:l[i]? with
   | none=>rw [hx] at hr;cases hr
   | some a =>
     rw [hx] at hr
     simp at hr
     subst hr
     obtain ⟨lv,k0,k1,k2,k3,k4⟩:=h6 i a hx
     exact ⟨_,_,lv,k0,k1,k2,k3,k4⟩
structure FitB (W:World) (v:Value) (l:List Bg):Prop where
 rd:RdB W.heap.size W v l
 i:AgI (gsOf l)
 s:(seen (gsOf l)).length≤10000000000
 z:l.length≤10000000000
 r:∀ a ∈ l,I64 a.rows∧I64 a.cols
theorem FitB.ext {W W':World} {v:Value} {l:List Bg} (h:FitB W v l) (e:Ext W W'):FitB W' v l:=⟨h.rd.to nrf e,h.i,h.s,h.z,h.r⟩
theorem FitB.ok {W:World} {v:Value} {l:List Bg} (h:FitB W v l) (i:Nat):(sg l i).ok:=by
 unfold sg
 cases hx:l[i]? with
 | none=>exact ⟨by decide,by decide⟩
 | some a =>
   show (sgl a).ok
   unfold sgl
   split
   · exact K79
   · have:=h.i a.g (by unfold gsOf;exact List.mem_map.2 ⟨a,List.mem_of_getElem? hx,rfl⟩)
     exact K176
theorem xsingle_any (l:List Bg) (i:Nat) (a:Bg) (hi:l[i]? = some a) (p:Option Addr) (n c B:Nat) (W:World) (hN:Nm W) (h:RdB B W (.slice p n c) l) (hm:n≤10000000000) :
   Calls Tryz.prog 200 #[.slice p n c,.int .i64 (i:Int)] W fun e w'=>e = .returned (sgl a).dat∧Ext W w':=by
 have hn:=h.len
 have hlt:i < n:=by rw [hn];exact (List.getElem?_eq_some_iff.1 hi).1
 obtain ⟨b,off,lv,rfl,hb,hbW,⟨k0,k1,k2,k3⟩,hV⟩:=h.at hi
 obtain ⟨p',n',c',rfl,hn',hc'⟩:=hV.form
 have hltI:(i:Int) < (n:Int):=J2
 have hmI:(n:Int)≤10000000000:=J2
 have HV:Hid (RdV B W (.slice p' n' c') a.g.l):=hV
 clear h hi hn hlt hb hV hc' hm
 have c2:=fun W h=>err_any 2 W h
 rw [mkErr_is ⟨by decide,by decide⟩] at c2
 simp only [V.dat] at c2
 cases har:a.g.area with
 | true =>
   have H:Hid (sgl a = .err 2):=by show _ = _;unfold sgl;rw [har];rfl
   rw [har] at k0
   clear har hn'
   go_enter func200,ntmps200
   go_wp2_with fail
   refine (c2 _ (hN.ext (xr.alloc _))).mono ?_
   rintro e w1 ⟨rfl,E1⟩
   obtain ⟨z,⟨b0,b1,b2,b3⟩,f0,f1,f2,f3⟩:=blk_top (b:=W.heap.size) J65 E1
   go_wp2_with fail
   exact fin4 b0 b1 b2 b3 rfl J65 ((xr.alloc _).trans E1) (fun W g0 g1 g2 g3=>by simp [results,results200,go_sem,g0,g1,g2,g3]) (fun W h=>⟨by rw [H.out];rfl,h⟩)
 | false =>
   have H:Hid (sgl a = one1 a.g.l):=by show _ = _;unfold sgl;rw [har];rfl
   rw [har] at k0
   clear har c2
   cases hl:a.g.l with
   | nil =>
     have H1:Hid (sgl a = .blank):=by show _ = _;rw [H.out,hl];rfl
     have e0:n' = 0:=by rw [hn',hl];rfl
     subst e0
     clear hl hn' H
     go_enter func200,ntmps200
     go_wp2_with fail
     simp [bodyPost,results,results200,go_sem]
     exact ⟨by rw [H1.out];rfl,xr.alloc _⟩
   | cons r t =>
     have H1:Hid (sgl a = nm r.k r.n r.s r.e):=by show _ = _;rw [H.out,hl];rfl
     have hV:=HV.out
     rw [hl] at hV
     obtain ⟨b',off',r',rfl,hr,hb',hbW',j0,j1,j2,j3⟩:=hV.at (i:=0) J65
     simp at hr
     subst hr
     simp only [Nat.zero_mul,Nat.add_zero] at j0 j1 j2 j3
     have e1:((n':Int) == 0) = false:=by simp;rw [hn',hl];simp
     have e2:(0:Int) < (n':Int):=by rw [hn',hl];simp only [List.length_cons];omega
     have c0:=fun W h=>vnormal_any r.k r.n r.s r.e W h
     obtain ⟨q0,q1,q2,q3,hq⟩:=dat4 (nm r.k r.n r.s r.e)
     rw [hq] at c0
     have HQ:Hid ((nm r.k r.n r.s r.e).dat = .agg #[.int .i64 q0,.int .i64 q1,.string q2,.int .i64 q3]):=hq
     clear hq hV hl hn' HV H hb'
     go_enter func200,ntmps200
     go_wp2_with fail
     refine (c0 _ (hN.ext (xr.alloc _))).mono ?_
     rintro e w1 ⟨rfl,E1⟩
     obtain ⟨z,⟨b0,b1,b2,b3⟩,f0,f1,f2,f3⟩:=blk_top (b:=W.heap.size) J65 E1
     go_wp2_with fail
     exact fin4 b0 b1 b2 b3 rfl J65 ((xr.alloc _).trans E1) (fun W g0 g1 g2 g3=>by simp [results,results200,go_sem,g0,g1,g2,g3]) (fun W h=>⟨by rw [H1.out,HQ.out],h⟩)
def pan (x:Int):Ending:=.panicked [{ v:=.iface 162 (.int .i64 x),recovered:=false }]
def RzQ {α:Type} (f:α→Value) (r:R α) (e:Ending):Prop:=match r with
 | .ok v=>e = .returned (f v)
 | .error x=>e = pan x
theorem xmust_ok (k n:Int) (s:ByteArray) (e:Int) (hk:(k == 4) = false) (W:World) :
   Calls Tryz.prog 242 #[.agg #[.int .i64 k,.int .i64 n,.string s,.int .i64 e]] W fun r w'=>r = .returned (.agg #[.int .i64 k,.int .i64 n,.string s,.int .i64 e])∧Ext W w':=by
 go_enter func242,ntmps242
 go_wp2_with fail
 simp [bodyPost,results,results242,go_sem]
 exact (xr.alloc _).alloc _
theorem xmust_no (k n:Int) (s:ByteArray) (e:Int) (hk:(k == 4) = true) (W:World) :
   Calls Tryz.prog 242 #[.agg #[.int .i64 k,.int .i64 n,.string s,.int .i64 e]] W fun r w'=>r = pan e∧Ext W w':=by
 go_enter func242,ntmps242
 go_wp2_with fail
 exact ⟨rfl,rfl,((xr.alloc _).alloc _)⟩
theorem nuR_ok {v:V} {n:Int} (h:v.toNum = .num n):nuR v = .ok n:=by unfold nuR;rw [h];rfl
theorem nuR_no {v:V} {e:Int} (h:v.toNum = .err e):nuR v = .error e:=by unfold nuR;rw [h]
theorem nuR_can {v:V} {n:Int} (hv:v.ok) (h:nuR v = .ok n):I64 n∧canB n = true:=by
 rcases toNum_cases v hv with ⟨m,hm,h2⟩ | ⟨e,he,_⟩
 · rw [nuR_ok hm] at h;cases h;exact h2
 · rw [nuR_no he] at h;cases h
theorem toBool_cases (v:V):(∃ b,v.toBool = .tf b)∨(∃ e,v.toBool = .err e):=by
 cases v with
 | blank=>exact .inl ⟨_,rfl⟩
 | tf b=>exact .inl ⟨_,rfl⟩
 | num n=>exact .inl ⟨_,rfl⟩
 | err e=>exact .inr ⟨_,rfl⟩
 | text s =>
   show (∃ b,(if s.data.toList = trueL then V.tf true else if s.data.toList = falseL then V.tf false else V.err 2) = .tf b)∨(∃ e,(if s.data.toList = trueL then V.tf true else if s.data.toList = falseL then V.tf false else V.err 2) = .err e)
   split
   · exact .inl ⟨_,rfl⟩
   · split
     · exact .inl ⟨_,rfl⟩
     · exact .inr ⟨_,rfl⟩
structure At (W:World) (v:Value) (l:List Bg) (i:Nat) (a:Bg):Prop where
 f:FitB W v l
 n:Nm W
 a:l[i]? = some a
theorem At.ext {W W':World} {v:Value} {l:List Bg} {i:Nat} {a:Bg} (h:At W v l i a) (e:Ext W W'):At W' v l i a:=⟨h.f.ext e,h.n.ext e,h.a⟩
theorem At.sg {W:World} {v:Value} {l:List Bg} {i:Nat} {a:Bg} (h:At W v l i a):sg l i = sgl a:=by unfold Go.Proofs.YtcfgbiaahangmaaGreatDoor.sg;rw [h.a]
theorem At.ok {W:World} {v:Value} {l:List Bg} {i:Nat} {a:Bg} (h:At W v l i a):(sgl a).ok:=by rw [← h.sg];exact h.f.ok i
theorem At.one {W:World} {p:Option Addr} {n c:Nat} {l:List Bg} {i:Nat} {a:Bg} (h:At W (.slice p n c) l i a) :
   Calls Tryz.prog 200 #[.slice p n c,.int .i64 (i:Int)] W fun e w'=>e = .returned (.agg #[.int .i64 (sgl a).k,.int .i64 (sgl a).n,.string (sgl a).s,.int .i64 (sgl a).e])∧Ext W w':=by
 have:=xsingle_any l i a h.a p n c _ W h.n h.f.rd (by rw [h.f.rd.len];exact h.f.z)
 rwa [dat_eq] at this
theorem teR_ok {v:V} {s:ByteArray} (h:v.toText = .text s):teR v = .ok s:=by unfold teR;rw [h];rfl
theorem teR_no {v:V} {e:Int} (h:v.toText = .err e):teR v = .error e:=by unfold teR;rw [h]
theorem trR_ok {v:V} {b:Bool} (h:v.toBool = .tf b):trR v = .ok b:=by unfold trR;rw [h];cases b <;> rfl
theorem trR_no {v:V} {e:Int} (h:v.toBool = .err e):trR v = .error e:=by unfold trR;rw [h]
theorem fld_n (k n:Int) (s:ByteArray) (e:Int) (W:World):(Instr.field 33 (.agg #[.int .i64 k,.int .i64 n,.string s,.int .i64 e]) 1).run Tryz.prog W = .ok (.int .i64 n) W:=J3
theorem fld_s (k n:Int) (s:ByteArray) (e:Int) (W:World):(Instr.field 33 (.agg #[.int .i64 k,.int .i64 n,.string s,.int .i64 e]) 2).run Tryz.prog W = .ok (.string s) W:=J3
theorem fld_k (k n:Int) (s:ByteArray) (e:Int) (W:World):(Instr.field 33 (.agg #[.int .i64 k,.int .i64 n,.string s,.int .i64 e]) 0).run Tryz.prog W = .ok (.int .i64 k) W:=J3
theorem xnumber_any (l:List Bg) (i:Nat) (a:Bg) (p:Option Addr) (n c:Nat) (W:World) (h:At W (.slice p n c) l i a) :
   Calls Tryz.prog 190 #[.slice p n c,.int .i64 (i:Int)] W fun e w'=>RzQ (Value.int .i64) (nuR (sgl a)) e∧Ext W w':=by
 have c0:=h.one
 have hok:=h.ok
 have c1:=fun W hN=>vtonum_any (sgl a).k (sgl a).n (sgl a).s (sgl a).e W (nm_of _ hok).2 hN
 rw [(nm_of _ hok).1] at c1
 have HN:Hid (Nm W):=h.n
 generalize sgl a = v at *
 clear h
 generalize v.k = k0,v.n = n0,v.s = s0,v.e = e0 at c0 c1
 rcases toNum_cases v hok with ⟨x,hx,_⟩ | ⟨x,hx,_⟩
 · rw [nuR_ok hx]
   rw [hx] at c1
   simp only [V.dat] at c1
   clear hok hx
   have c2:=fun W=>xmust_ok 2 x ⟨#[]⟩ 0 rfl W
   have hf:=fld_n
   go_enter func190,ntmps190
   go_wp2_with fail
   refine c0.mono ?_
   rintro e w1 ⟨rfl,E1⟩
   have X1:Hid (Ext W w1):=E1
   clear E1
   go_wp2_with fail
   refine (c1 _ (HN.out.ext X1.out)).mono ?_
   exact K98
 · rw [nuR_no hx]
   rw [hx] at c1
   simp only [V.dat] at c1
   clear hok hx
   have c2:=fun W=>xmust_no 4 0 ⟨#[]⟩ x rfl W
   have hf:=fld_n
   go_enter func190,ntmps190
   exact K196
theorem xtext_any (l:List Bg) (i:Nat) (a:Bg) (p:Option Addr) (n c:Nat) (W:World) (h:At W (.slice p n c) l i a) (hT:Tab W) :
   Calls Tryz.prog 197 #[.slice p n c,.int .i64 (i:Int)] W fun e w'=>RzQ (Value.string) (teR (sgl a)) e∧Ext W w':=by
 have c0:=h.one
 have hok:=h.ok
 have c1:=fun W hN hT=>vtotext_any (sgl a).k (sgl a).n (sgl a).s (sgl a).e W (nm_of _ hok).2 hT hN
 rw [(nm_of _ hok).1] at c1
 have HN:Hid (Nm W∧Tab W):=⟨h.n,hT⟩
 generalize sgl a = v at *
 clear h
 generalize v.k = k0,v.n = n0,v.s = s0,v.e = e0 at c0 c1
 rcases toText_cases v hok with ⟨x,hx,_⟩ | ⟨x,hx,_⟩
 · rw [teR_ok hx]
   rw [hx] at c1
   simp only [V.dat] at c1
   clear hok hx hT
   have c2:=fun W=>xmust_ok 3 0 x 0 rfl W
   have hf:=fld_s
   go_enter func197,ntmps197
   go_wp2_with fail
   refine c0.mono ?_
   rintro e w1 ⟨rfl,E1⟩
   have X1:Hid (Ext W w1):=E1
   clear E1
   go_wp2_with fail
   refine (c1 _ (HN.out.1.ext X1.out) (HN.out.2.ext X1.out)).mono ?_
   exact K98
 · rw [teR_no hx]
   rw [hx] at c1
   simp only [V.dat] at c1
   clear hok hx hT
   have c2:=fun W=>xmust_no 4 0 ⟨#[]⟩ x rfl W
   have hf:=fld_s
   go_enter func197,ntmps197
   go_wp2_with fail
   refine c0.mono ?_
   rintro e w1 ⟨rfl,E1⟩
   have X1:Hid (Ext W w1):=E1
   clear E1
   go_wp2_with fail
   refine (c1 _ (HN.out.1.ext X1.out) (HN.out.2.ext X1.out)).mono ?_
   exact K69
theorem xtruth_any (l:List Bg) (i:Nat) (a:Bg) (p:Option Addr) (n c:Nat) (W:World) (h:At W (.slice p n c) l i a) :
   Calls Tryz.prog 188 #[.slice p n c,.int .i64 (i:Int)] W fun e w'=>RzQ (Value.bool) (trR (sgl a)) e∧Ext W w':=by
 have c0:=h.one
 have hok:=h.ok
 have c1:=fun W hN=>vtobool_any (sgl a).k (sgl a).n (sgl a).s (sgl a).e W (nm_of _ hok).2 hN
 rw [(nm_of _ hok).1] at c1
 have HN:Hid (Nm W):=h.n
 generalize sgl a = v at *
 clear h
 generalize v.k = k0,v.n = n0,v.s = s0,v.e = e0 at c0 c1
 rcases toBool_cases v with ⟨x,hx⟩ | ⟨x,hx⟩
 · rw [trR_ok hx]
   rw [hx] at c1
   simp only [V.dat] at c1
   clear hok hx
   obtain ⟨y,hy⟩:∃ y:Int,(if x = true then (1:Int) else 0) = y:=⟨_,rfl⟩
   have HY:Hid (((if x = true then (1:Int) else 0) != 0) = x∧(if x = true then (1:Int) else 0) = y):=⟨by cases x <;> rfl,hy⟩
   rw [hy] at c1
   clear hy
   have c2:=fun W=>xmust_ok 1 y ⟨#[]⟩ 0 rfl W
   have hf:=fld_n
   go_enter func188,ntmps188
   go_wp2_with fail
   refine c0.mono ?_
   rintro e w1 ⟨rfl,E1⟩
   have X1:Hid (Ext W w1):=E1
   clear E1
   go_wp2_with fail
   refine (c1 _ (HN.out.ext X1.out)).mono ?_
   rintro e w2 ⟨rfl,E2⟩
   have X2:Hid (Ext W w2):=X1.out.trans E2
   clear E2
   go_wp2_with fail
   refine (c2 _).mono ?_
   rintro e w3 ⟨rfl,E3⟩
   go_wp2_with fail
   go_ret
   exact ⟨ret_bool (by rw [← HY.out.2];exact HY.out.1),X2.out.trans E3⟩
 · rw [trR_no hx]
   rw [hx] at c1
   simp only [V.dat] at c1
   clear hok hx
   have c2:=fun W=>xmust_no 4 0 ⟨#[]⟩ x rfl W
   have hf:=fld_n
   go_enter func188,ntmps188
   exact K196
theorem whole_div (n:Int):(n.tmod 10000 < 0→n.tdiv 10000 - 1 = whN n)∧(¬ n.tmod 10000 < 0→n.tdiv 10000 = whN n):=by
 unfold whN
 by_cases h:0≤n
 · rw [Int.tmod_eq_emod_of_nonneg h,Int.tdiv_eq_ediv_of_nonneg h]
   constructor <;> omega
 · obtain ⟨m,rfl⟩:∃ m:Int,n = -m:=⟨-n,by omega⟩
   rw [Int.neg_tmod,Int.neg_tdiv,Int.tmod_eq_emod_of_nonneg J2,Int.tdiv_eq_ediv_of_nonneg J2]
   constructor <;> omega
theorem xwhole_any (l:List Bg) (i:Nat) (a:Bg) (p:Option Addr) (n c:Nat) (W:World) (h:At W (.slice p n c) l i a) :
   Calls Tryz.prog 193 #[.slice p n c,.int .i64 (i:Int)] W fun e w'=>RzQ (Value.int .i64) (whR (sgl a)) e∧Ext W w':=by
 have c0:=xnumber_any l i a p n c W h
 have hok:=h.ok
 generalize sgl a = v at *
 clear h
 rcases toNum_cases v hok with ⟨x,hx,hI,_⟩ | ⟨x,hx,_⟩
 · have e1:whR v = .ok (whN x):=by unfold whR;rw [nuR_ok hx];rfl
   rw [e1]
   rw [nuR_ok hx] at c0
   have C:Calls Tryz.prog 190 #[.slice p n c,.int .i64 (i:Int)] W fun e w'=>e = .returned (.int .i64 x)∧Ext W w':=c0
   have hw:=whole_div x
   have hb:-1000000000000000≤x.tdiv 10000∧x.tdiv 10000≤1000000000000000:=by
     obtain ⟨i1,i2⟩:=hI
     have:=whole_div x
     unfold whN at this
     by_cases hm:x.tmod 10000 < 0
     · have:=this.1 hm;omega
     · have:=this.2 hm;omega
   obtain ⟨q,hq⟩:∃ q,x.tdiv 10000 = q:=⟨_,rfl⟩
   obtain ⟨m,hm⟩:∃ m,x.tmod 10000 = m:=⟨_,rfl⟩
   rw [hq,hm] at hw
   rw [hq] at hb
   obtain ⟨b1,b2⟩:=hb
   clear c0 e1 hok hx hI
   by_cases hlt:m < 0
   · have HW:Hid (q - 1 = whN x):=hw.1 hlt
     have WK:wrap64 (q - 1) = q - 1:=J72
     exact K117
   · have HW:Hid (q = whN x):=hw.2 hlt
     exact K117
 · have e1:whR v = .error x:=by unfold whR;rw [nuR_no hx];rfl
   rw [e1]
   rw [nuR_no hx] at c0
   have C:Calls Tryz.prog 190 #[.slice p n c,.int .i64 (i:Int)] W fun e w'=>e = pan x∧Ext W w':=c0
   clear c0 e1 hok hx
   go_enter func193,ntmps193
   exact K178
theorem xwhole_one (l:List Bg) (i:Nat) (p:Option Addr) (n c:Nat) (W:World) (h:FitB W (.slice p n c) l) (hN:Nm W) :
   Calls Tryz.prog 249 #[.slice p n c,.int .i64 (i:Int)] W fun e w'=>RzQ (Value.int .i64) (whO l i) e∧Ext W w':=by
 have hn:=h.rd.len
 have hl:=h.z
 by_cases hlt:l.length≤i
 · have e1:whO l i = .ok 1:=by unfold whO;rw [if_pos hlt]
   rw [e1]
   have d1:(i:Int)≥(n:Int):=J2
   have d2:(n:Int)≤10000000000:=J2
   clear e1 hlt hn hl h
   go_enter func249,ntmps249
   go_wp2_with fail
   go_ret
   exact ⟨rfl,Ext.refl _⟩
 · have hx:l[i]? = some l[i]:=gEq J2
   have e1:whO l i = whR (sgl l[i]):=by unfold whO;rw [if_neg hlt];unfold sg;rw [hx]
   rw [e1]
   have c0:=xwhole_any l i _ p n c W ⟨h,hN,hx⟩
   have d1:¬ (i:Int)≥(n:Int):=J2
   have d2:(n:Int)≤10000000000:=J2
   generalize whR (sgl l[i]) = r at *
   clear e1 hlt hn hl h hx
   cases r with
   | ok x =>
     have C:Calls Tryz.prog 193 #[.slice p n c,.int .i64 (i:Int)] W fun e w'=>e = .returned (.int .i64 x)∧Ext W w':=c0
     clear c0
     go_enter func249,ntmps249
     go_wp2_with fail
     refine C.mono ?_
     rintro e w1 ⟨rfl,E1⟩
     go_wp2_with fail
     go_ret
     exact ⟨rfl,E1⟩
   | error x =>
     have C:Calls Tryz.prog 193 #[.slice p n c,.int .i64 (i:Int)] W fun e w'=>e = pan x∧Ext W w':=c0
     clear c0
     go_enter func249,ntmps249
     exact K178
theorem xtold_no (n:Int) (W:World):Calls Tryz.prog 191 #[.int .i64 n,.bool false] W fun e w'=>e = pan 4∧Ext W w':=by
 go_enter func191,ntmps191
 go_wp2_with fail
 exact ⟨rfl,rfl,xr.alloc _⟩
theorem xtold_ok (n:Int) (W:World) (hN:Nm W):Calls Tryz.prog 191 #[.int .i64 n,.bool true] W fun e w'=>e = .returned (.agg #[.int .i64 (mkNum n).k,.int .i64 (mkNum n).n,.string (mkNum n).s,.int .i64 (mkNum n).e])∧Ext W w':=by
 have c1:=fun W h=>vnum_any n W h
 rw [dat_eq] at c1
 generalize (mkNum n).k = q0,(mkNum n).n = q1,(mkNum n).s = q2,(mkNum n).e = q3 at *
 go_enter func191,ntmps191
 go_wp2_with fail
 refine (c1 _ (hN.ext (xr.alloc _))).mono ?_
 rintro e w1 ⟨rfl,E1⟩
 obtain ⟨z,⟨b0,b1,b2,b3⟩,f0,f1,f2,f3⟩:=blk_top (b:=W.heap.size) J65 E1
 go_wp2_with fail
 exact fin4 b0 b1 b2 b3 rfl J65 ((xr.alloc _).trans E1) (fun W g0 g1 g2 g3=>by simp [results,results191,go_sem,g0,g1,g2,g3]) (fun W h=>⟨rfl,h⟩)
theorem xsize_any (n:Int) (hn:I64 n) (hc:canB n = true) (W:World):Calls Tryz.prog 189 #[.int .i64 n] W fun e w'=>e = .returned (.int .i64 (szN n))∧w' = W:=by
 obtain ⟨h1,h2⟩:=hn
 have h3:n≠-9223372036854775808:=by simpa [canB] using hc
 have WK:wrap64 (-n) = -n:=J72
 have HZ:Hid (szN n = max n (-n)):=by show _ = _;unfold szN;split <;> omega
 clear hc
 go_enter func189,ntmps189
 go_wp2_with fail
 go_ret
 exact ⟨ret_int HZ.out.symm,rfl⟩
def Rw.dat (r:Rw):Value:=.agg #[.int .i64 r.k,.int .i64 r.n,.string r.s,.int .i64 r.e]
theorem sg_of {l:List Bg} {i:Nat} {a:Bg} (h:l[i]? = some a):sg l i = sgl a:=by unfold sg;rw [h]
theorem xnumber_ok {l:List Bg} {i:Nat} {a:Bg} {p:Option Addr} {n c:Nat} {W:World} (hF:FitB W (.slice p n c) l) (hN:Nm W) (ha:l[i]? = some a) {x:Int} (hx:nuR (sgl a) = .ok x) (W':World) (e:Ext W W') :
   Calls Tryz.prog 190 #[.slice p n c,.int .i64 (i:Int)] W' fun e w'=>e = .returned (.int .i64 x)∧Ext W' w':=by
 have:=xnumber_any l i a p n c W' ⟨hF.ext e,hN.ext e,ha⟩
 exact K127
theorem xnumber_no {l:List Bg} {i:Nat} {a:Bg} {p:Option Addr} {n c:Nat} {W:World} (hF:FitB W (.slice p n c) l) (hN:Nm W) (ha:l[i]? = some a) {x:Int} (hx:nuR (sgl a) = .error x) (W':World) (e:Ext W W') :
   Calls Tryz.prog 190 #[.slice p n c,.int .i64 (i:Int)] W' fun e w'=>e = pan x∧Ext W' w':=by
 have:=xnumber_any l i a p n c W' ⟨hF.ext e,hN.ext e,ha⟩
 exact K127
theorem xtruth_ok {l:List Bg} {i:Nat} {a:Bg} {p:Option Addr} {n c:Nat} {W:World} (hF:FitB W (.slice p n c) l) (hN:Nm W) (ha:l[i]? = some a) {x:Bool} (hx:trR (sgl a) = .ok x) (W':World) (e:Ext W W') :
   Calls Tryz.prog 188 #[.slice p n c,.int .i64 (i:Int)] W' fun e w'=>e = .returned (.bool x)∧Ext W' w':=by
 have:=xtruth_any l i a p n c W' ⟨hF.ext e,hN.ext e,ha⟩
 exact K127
theorem xtruth_no {l:List Bg} {i:Nat} {a:Bg} {p:Option Addr} {n c:Nat} {W:World} (hF:FitB W (.slice p n c) l) (hN:Nm W) (ha:l[i]? = some a) {x:Int} (hx:trR (sgl a) = .error x) (W':World) (e:Ext W W') :
   Calls Tryz.prog 188 #[.slice p n c,.int .i64 (i:Int)] W' fun e w'=>e = pan x∧Ext W' w':=by
 have:=xtruth_any l i a p n c W' ⟨hF.ext e,hN.ext e,ha⟩
 exact K127
theorem xwhole_ok {l:List Bg} {i:Nat} {a:Bg} {p:Option Addr} {n c:Nat} {W:World} (hF:FitB W (.slice p n c) l) (hN:Nm W) (ha:l[i]? = some a) {x:Int} (hx:whR (sgl a) = .ok x) (W':World) (e:Ext W W') :
   Calls Tryz.prog 193 #[.slice p n c,.int .i64 (i:Int)] W' fun e w'=>e = .returned (.int .i64 x)∧Ext W' w':=by
 have:=xwhole_any l i a p n c W' ⟨hF.ext e,hN.ext e,ha⟩
 exact K127
theorem xwhole_no {l:List Bg} {i:Nat} {a:Bg} {p:Option Addr} {n c:Nat} {W:World} (hF:FitB W (.slice p n c) l) (hN:Nm W) (ha:l[i]? = some a) {x:Int} (hx:whR (sgl a) = .error x) (W':World) (e:Ext W W') :
   Calls Tryz.prog 193 #[.slice p n c,.int .i64 (i:Int)] W' fun e w'=>e = pan x∧Ext W' w':=by
 have:=xwhole_any l i a p n c W' ⟨hF.ext e,hN.ext e,ha⟩
 exact K127
theorem xtext_ok {l:List Bg} {i:Nat} {a:Bg} {p:Option Addr} {n c:Nat} {W:World} (hF:FitB W (.slice p n c) l) (hN:Nm W) (hT:Tab W) (ha:l[i]? = some a) {x:ByteArray} (hx:teR (sgl a) = .ok x) (W':World) (e:Ext W W') :
   Calls Tryz.prog 197 #[.slice p n c,.int .i64 (i:Int)] W' fun e w'=>e = .returned (.string x)∧Ext W' w':=by
 exact K210
theorem xtext_no {l:List Bg} {i:Nat} {a:Bg} {p:Option Addr} {n c:Nat} {W:World} (hF:FitB W (.slice p n c) l) (hN:Nm W) (hT:Tab W) (ha:l[i]? = some a) {x:Int} (hx:teR (sgl a) = .error x) (W':World) (e:Ext W W') :
   Calls Tryz.prog 197 #[.slice p n c,.int .i64 (i:Int)] W' fun e w'=>e = pan x∧Ext W' w':=by
 exact K210
theorem xone_ok {l:List Bg} {i:Nat} {p:Option Addr} {n c:Nat} {W:World} (hF:FitB W (.slice p n c) l) (hN:Nm W) {x:Int} (hx:whO l i = .ok x) (W':World) (e:Ext W W') :
   Calls Tryz.prog 249 #[.slice p n c,.int .i64 (i:Int)] W' fun e w'=>e = .returned (.int .i64 x)∧Ext W' w':=by
 have:=xwhole_one l i p n c W' (hF.ext e) (hN.ext e)
 exact K127
theorem xone_no {l:List Bg} {i:Nat} {p:Option Addr} {n c:Nat} {W:World} (hF:FitB W (.slice p n c) l) (hN:Nm W) {x:Int} (hx:whO l i = .error x) (W':World) (e:Ext W W') :
   Calls Tryz.prog 249 #[.slice p n c,.int .i64 (i:Int)] W' fun e w'=>e = pan x∧Ext W' w':=by
 have:=xwhole_one l i p n c W' (hF.ext e) (hN.ext e)
 exact K127
theorem xsingle_at {l:List Bg} {i:Nat} {a:Bg} {p:Option Addr} {n c:Nat} {W:World} (hF:FitB W (.slice p n c) l) (hN:Nm W) (ha:l[i]? = some a) (W':World) (e:Ext W W') :
   Calls Tryz.prog 200 #[.slice p n c,.int .i64 (i:Int)] W' fun e w'=>e = .returned (.agg #[.int .i64 (sgl a).k,.int .i64 (sgl a).n,.string (sgl a).s,.int .i64 (sgl a).e])∧Ext W' w':=At.one ⟨hF.ext e,hN.ext e,ha⟩
theorem bool_at (b:Bool) {W:World} (W':World) (_:Ext W W'):Calls Tryz.prog 67 #[.bool b] W' fun r w'=>r = .returned (.agg #[.int .i64 1,.int .i64 (if b then 1 else 0),.string ⟨#[]⟩,.int .i64 0])∧Ext W' w':=vbool_any b W'
theorem xchosen_any (l:List Bg) (a0 a1:Bg) (h0:l[0]? = some a0) (h1:l[1]? = some a1) (p:Option Addr) (n c:Nat) (W:World) (hF:FitB W (.slice p n c) l) (hN:Nm W) :
   Calls Tryz.prog 187 #[.slice p n c] W fun e w'=>RzQ Rw.dat (xIf l) e∧Ext W w':=by
 have hn:=hF.rd.len
 have hm:=hF.z
 have d2:(n:Int)≤10000000000:=J2
 cases ht:trR (sgl a0) with
 | error x =>
   have HX:xIf l = .error x:=by unfold xIf;rw [sg_of h0,ht]
   rw [HX]
   have c0:=xtruth_no hF hN h0 ht
   clear hn hm HX ht
   go_enter func187,ntmps187
   exact K28
 | ok t =>
   have c0:=xtruth_ok hF hN h0 ht
   cases t with
   | true =>
     have HX:xIf l = .ok (sgl a1).rw:=by unfold xIf;rw [sg_of h0,sg_of h1,ht];rfl
     rw [HX]
     have c1:=xsingle_at hF hN h1
     clear hn hm HX ht
     exact K21
   | false =>
     by_cases h3:l.length < 3
     · have HX:xIf l = .ok (V.tf false).rw:=by unfold xIf;rw [sg_of h0,ht];simp [h3]
       rw [HX]
       have d1:(n:Int) < 3:=J2
       have c1:∀ W',Ext W W'→Calls Tryz.prog 67 #[.bool false] W' fun r w'=>r = .returned (.agg #[.int .i64 1,.int .i64 0,.string ⟨#[]⟩,.int .i64 0])∧Ext W' w':=fun W' e=>bool_at (W:=W) false W' e
       clear hn hm HX ht h3
       exact K21
     · have hx2:l[2]? = some l[2]:=gEq J2
       have HX:xIf l = .ok (sgl l[2]).rw:=by unfold xIf;rw [sg_of h0,sg_of hx2,ht];simp [h3]
       rw [HX]
       have d1:¬ (n:Int) < 3:=J2
       have c1:=xsingle_at hF hN hx2
       generalize sgl l[2] = v2 at *
       clear hn hm HX ht h3 hx2
       exact K21
theorem xsound_any (l:List Bg) (a0 a1:Bg) (h0:l[0]? = some a0) (h1:l[1]? = some a1) (p:Option Addr) (n c:Nat) (W:World) (hF:FitB W (.slice p n c) l) (hN:Nm W) :
   Calls Tryz.prog 201 #[.slice p n c] W fun e w'=>RzQ Rw.dat (xIfErr l) e∧Ext W w':=by
 have c0:=xsingle_at hF hN h0
 have c1:=xsingle_at hF hN h1
 have HX:xIfErr l = if (sgl a0).k = 4 then .ok (sgl a1).rw else .ok (sgl a0).rw:=by unfold xIfErr;rw [sg_of h0,sg_of h1]
 rw [HX]
 clear HX
 generalize sgl a0 = v0 at *
 generalize sgl a1 = v1 at *
 by_cases hk:v0.k = 4
 · rw [if_pos hk]
   have e0:(v0.k != 4) = false:=by simp [hk]
   clear hk
   go_enter func201,ntmps201
   go_wp2_with fail
   refine (c0 _ (xr.alloc _)).mono ?_
   rintro e w1 ⟨rfl,E1⟩
   have B1:Hid (Blk w1 W.heap.size (.int .i64 0) (.int .i64 0) (.string ⟨#[]⟩) (.int .i64 0)∧Ext W w1):=⟨blk_top J65 E1,(xr.alloc _).trans E1⟩
   clear E1
   go_wp2_with fail
   refine (c1 _ (B1.out.2.alloc _)).mono ?_
   rintro e w2 ⟨rfl,E2⟩
   have B2:Hid (Blk w2 W.heap.size (.int .i64 0) (.int .i64 0) (.string ⟨#[]⟩) (.int .i64 0)∧Ext W w2):=⟨(B1.out.1.al _).ext E2,(B1.out.2.alloc _).trans E2⟩
   clear E2
   obtain ⟨z,⟨b0,b1,b2,b3⟩,f0,f1,f2,f3⟩:=B2.out.1
   go_wp2_with fail
   exact fin4 b0 b1 b2 b3 rfl J65 B2.out.2 (fun W g0 g1 g2 g3=>by simp [results,results201,go_sem,g0,g1,g2,g3]) (fun W h=>⟨rfl,h⟩)
 · rw [if_neg hk]
   have e0:(v0.k != 4) = true:=by simp [hk]
   clear hk
   go_enter func201,ntmps201
   go_wp2_with fail
   refine (c0 _ (xr.alloc _)).mono ?_
   rintro e w1 ⟨rfl,E1⟩
   have B1:Hid (Blk w1 W.heap.size (.int .i64 0) (.int .i64 0) (.string ⟨#[]⟩) (.int .i64 0)∧Ext W w1):=⟨blk_top J65 E1,(xr.alloc _).trans E1⟩
   clear E1
   obtain ⟨z,⟨b0,b1,b2,b3⟩,f0,f1,f2,f3⟩:=B1.out.1
   go_wp2_with fail
   have X2:Ext W (((((w1.setCell ⟨W.heap.size,0,none⟩ (.int .i64 v0.k)).setCell ⟨W.heap.size,1,none⟩ (.int .i64 v0.n)).setCell ⟨W.heap.size,2,none⟩ (.string v0.s)).setCell ⟨W.heap.size,3,none⟩ (.int .i64 v0.e)).alloc (.cells #[.int .i64 v0.k,.int .i64 v0.n,.string v0.s,.int .i64 v0.e] 33)):=((((B1.out.2.setCell nrf _).setCell nrf _).setCell nrf _).setCell nrf _).alloc _
   exact finB (b:=W.heap.size) (w:=W) ((B1.out.1.set _ _ _ _).al _) rfl X2 (fun g0 g1 g2 g3=>by simp [results,results201,go_sem,g0,g1,g2,g3]) (fun h=>⟨rfl,h⟩)
theorem mod_at (a b:Int) (ha:I64 a) (hb:I64 b) {W:World} (W':World) (_:Ext W W'):Calls Tryz.prog 246 #[.int .i64 a,.int .i64 b] W' fun e w'=>e = .returned (.tuple #[.int .i64 (modV a b),.bool (modB a b)])∧Ext W' w':=mod_any a b ha hb W'
theorem told_no (n:Int) {W:World} (W':World) (_:Ext W W'):Calls Tryz.prog 191 #[.int .i64 n,.bool false] W' fun e w'=>e = pan 4∧Ext W' w':=xtold_no n W'
theorem told_ok (n:Int) {W:World} (hN:Nm W) (W':World) (e:Ext W W'):Calls Tryz.prog 191 #[.int .i64 n,.bool true] W' fun e w'=>e = .returned (.agg #[.int .i64 (mkNum n).k,.int .i64 (mkNum n).n,.string (mkNum n).s,.int .i64 (mkNum n).e])∧Ext W' w':=xtold_ok n W' (hN.ext e)
theorem xrest_any (l:List Bg) (a0 a1:Bg) (h0:l[0]? = some a0) (h1:l[1]? = some a1) (p:Option Addr) (n c:Nat) (W:World) (hF:FitB W (.slice p n c) l) (hN:Nm W) :
   Calls Tryz.prog 194 #[.slice p n c] W fun e w'=>RzQ Rw.dat (xMod l) e∧Ext W w':=by
 have o0:=(At.mk hF hN h0).ok
 have o1:=(At.mk hF hN h1).ok
 cases ht:nuR (sgl a0) with
 | error x =>
   have HX:xMod l = .error x:=by unfold xMod;rw [sg_of h0,ht]
   rw [HX]
   have c0:=xnumber_no hF hN h0 ht
   clear HX ht
   go_enter func194,ntmps194
   exact K28
 | ok a =>
   have ia:=nuR_can o0 ht
   have c0:=xnumber_ok hF hN h0 ht
   cases hu:nuR (sgl a1) with
   | error x =>
     have HX:xMod l = .error x:=by unfold xMod;rw [sg_of h0,ht,sg_of h1,hu]
     rw [HX]
     have c1:=xnumber_no hF hN h1 hu
     clear HX ht hu ia
     go_enter func194,ntmps194
     exact K39
   | ok b =>
     have ib:=nuR_can o1 hu
     have c1:=xnumber_ok hF hN h1 hu
     have HX:xMod l = if b = 0 then .error 3 else (tolR (modB a b) (modV a b)).map V.rw:=by unfold xMod;rw [sg_of h0,ht,sg_of h1,hu]
     rw [HX]
     clear HX ht hu
     by_cases hb:b = 0
     · subst hb
       rw [if_pos rfl]
       clear ia ib
       go_enter func194,ntmps194
       exact K72
     · rw [if_neg hb]
       have e0:(b == 0) = false:=by simp [hb]
       have c2:=mod_at a b ia.1 ib.1 (W:=W)
       clear ia ib hb
       generalize modV a b = y at *
       cases hB:modB a b with
       | false =>
         rw [hB] at c2
         have c3:=told_no y (W:=W)
         clear hB
         rw [show (tolR false y).map V.rw = .error 4 from rfl]
         go_enter func194,ntmps194
         exact K32
       | true =>
         rw [hB] at c2
         have c3:=told_ok y hN
         clear hB
         rw [show (tolR true y).map V.rw = .ok (mkNum y).rw from rfl]
         generalize mkNum y = v at *
         go_enter func194,ntmps194
         go_wp2_with fail
         refine (c0 _ (xr.alloc _)).mono ?_
         rintro e w1 ⟨rfl,E1⟩
         have B1:Hid (Blk w1 W.heap.size (.int .i64 0) (.int .i64 0) (.string ⟨#[]⟩) (.int .i64 0)∧Ext W w1):=⟨blk_top J65 E1,(xr.alloc _).trans E1⟩
         clear E1
         go_wp2_with fail
         refine (c1 _ B1.out.2).mono ?_
         rintro e w2 ⟨rfl,E2⟩
         have B2:Hid (Blk w2 W.heap.size (.int .i64 0) (.int .i64 0) (.string ⟨#[]⟩) (.int .i64 0)∧Ext W w2):=⟨B1.out.1.ext E2,B1.out.2.trans E2⟩
         clear E2
         go_wp2_with fail
         refine (c2 _ B2.out.2).mono ?_
         rintro e w3 ⟨rfl,E3⟩
         have B3:Hid (Blk w3 W.heap.size (.int .i64 0) (.int .i64 0) (.string ⟨#[]⟩) (.int .i64 0)∧Ext W w3):=⟨B2.out.1.ext E3,B2.out.2.trans E3⟩
         clear E3
         go_wp2_with fail
         refine (c3 _ B3.out.2).mono ?_
         rintro e w4 ⟨rfl,E4⟩
         have B4:Hid (Blk w4 W.heap.size (.int .i64 0) (.int .i64 0) (.string ⟨#[]⟩) (.int .i64 0)∧Ext W w4):=⟨B3.out.1.ext E4,B3.out.2.trans E4⟩
         clear E4
         obtain ⟨z,⟨b0,b1,b2,b3⟩,f0,f1,f2,f3⟩:=B4.out.1
         go_wp2_with fail
         exact fin4 b0 b1 b2 b3 rfl J65 B4.out.2 (fun W g0 g1 g2 g3=>by simp [results,results194,go_sem,g0,g1,g2,g3]) (fun W h=>⟨rfl,h⟩)
theorem text_at (s:ByteArray) {W:World} (hN:Nm W) (W':World) (e:Ext W W'):Calls Tryz.prog 66 #[.string s] W' fun r w'=>r = .returned (.agg #[.int .i64 (mkText s).k,.int .i64 (mkText s).n,.string (mkText s).s,.int .i64 (mkText s).e])∧Ext W' w':=by
 have:=vtext_any s W' (hN.ext e)
 rwa [dat_eq] at this
theorem teR_le {v:V} {s:ByteArray} (hv:v.ok) (h:teR v = .ok s):s.size≤300:=by
 rcases toText_cases v hv with ⟨m,hm,h2⟩ | ⟨e,he,_⟩
 · rw [teR_ok hm] at h;cases h;exact h2
 · rw [teR_no he] at h;cases h
theorem xleft_any (l:List Bg) (a0:Bg) (h0:l[0]? = some a0) (p:Option Addr) (n c:Nat) (W:World) (hF:FitB W (.slice p n c) l) (hN:Nm W) (hT:Tab W) :
   Calls Tryz.prog 198 #[.slice p n c] W fun e w'=>RzQ Rw.dat (xLeft l) e∧Ext W w':=by
 have o0:=(At.mk hF hN h0).ok
 cases ht:teR (sgl a0) with
 | error x =>
   have HX:xLeft l = .error x:=by unfold xLeft;rw [sg_of h0,ht]
   rw [HX]
   have c0:=xtext_no hF hN hT h0 ht
   clear HX ht
   go_enter func198,ntmps198
   exact K28
 | ok s =>
   have hs:=teR_le o0 ht
   have c0:=xtext_ok hF hN hT h0 ht
   cases hu:whO l 1 with
   | error x =>
     have HX:xLeft l = .error x:=by unfold xLeft;rw [sg_of h0,ht,hu]
     rw [HX]
     have c1:=xone_no hF hN hu
     clear HX ht hu
     go_enter func198,ntmps198
     exact K39
   | ok q =>
     have c1:=xone_ok hF hN hu
     have HX:xLeft l = if q < 0 then .error 2 else .ok (mkText (begB s q)).rw:=by unfold xLeft;rw [sg_of h0,ht,hu]
     rw [HX]
     clear HX ht hu
     by_cases hq:q < 0
     · rw [if_pos hq]
       go_enter func198,ntmps198
       exact K72
     · rw [if_neg hq]
       have hsI:(s.size:Int)≤300:=J2
       obtain ⟨m,hm⟩:∃ m:Nat,min q (s.size:Int) = (m:Int):=⟨(min q (s.size:Int)).toNat,by omega⟩
       have hms:m≤s.size:=J2
       have HB:Hid (begB s q = s.extract 0 m):=by show _ = _;unfold begB;rw [hm];rfl
       have c2:=text_at (s.extract 0 m) hN
       rw [HB.out]
       generalize mkText (s.extract 0 m) = v at *
       clear hs
       go_enter func198,ntmps198
       go_wp2_with fail
       refine (c0 _ (xr.alloc _)).mono ?_
       rintro e w1 ⟨rfl,E1⟩
       have B1:Hid (Blk w1 W.heap.size (.int .i64 0) (.int .i64 0) (.string ⟨#[]⟩) (.int .i64 0)∧Ext W w1):=⟨blk_top J65 E1,(xr.alloc _).trans E1⟩
       clear E1
       go_wp2_with fail
       refine (c1 _ B1.out.2).mono ?_
       rintro e w2 ⟨rfl,E2⟩
       have B2:Hid (Blk w2 W.heap.size (.int .i64 0) (.int .i64 0) (.string ⟨#[]⟩) (.int .i64 0)∧Ext W w2):=⟨B1.out.1.ext E2,B1.out.2.trans E2⟩
       clear E2
       go_wp2_with fail
       refine (c2 _ B2.out.2).mono ?_
       rintro e w3 ⟨rfl,E3⟩
       have B3:Hid (Blk w3 W.heap.size (.int .i64 0) (.int .i64 0) (.string ⟨#[]⟩) (.int .i64 0)∧Ext W w3):=⟨B2.out.1.ext E3,B2.out.2.trans E3⟩
       clear E3
       obtain ⟨z,⟨b0,b1,b2,b3⟩,f0,f1,f2,f3⟩:=B3.out.1
       go_wp2_with fail
       exact fin4 b0 b1 b2 b3 rfl J65 B3.out.2 (fun W g0 g1 g2 g3=>by simp [results,results198,go_sem,g0,g1,g2,g3]) (fun W h=>⟨rfl,h⟩)
def ArQ (W:World) (b:Bg) (e:Ending) (w':World):Prop:=∃ p' n' c',e = .returned (.agg #[.bool true,.int .i64 b.rows,.int .i64 b.cols,.slice p' n' c'])∧RdV w'.heap.size w' (.slice p' n' c') b.g.l∧Ext W w'
theorem rd_to {W W':World} {v:Value} {l:List Rw} (h:RdV W.heap.size W v l) (e:Ext W W'):RdV W'.heap.size W' v l:=(h.low e).up e.size
theorem one_rd {W w':World} {v:V} {T:TypeId} {b:Nat} (hb:b = W.heap.size) (E:Ext (W.alloc (.cells #[.int .i64 v.k,.int .i64 v.n,.string v.s,.int .i64 v.e] T)) w'):RdV w'.heap.size w' (.slice (some ⟨b,0,none⟩) 1 1) [v.rw]:=by
 obtain ⟨z,⟨k0,k1,k2,k3⟩,_⟩:=blk_top (b:=b) hb E
 refine ⟨_,_,rfl,Nat.le_refl _,.inr ⟨b,0,rfl,z,z,fun i r hr=>?_⟩⟩
 match i,hr with
 | 0,hr=>simp at hr;subst hr;exact ⟨k0,k1,k2,k3⟩
theorem xarea_any (l:List Bg) (i:Nat) (a:Bg) (ha:l[i]? = some a) (p:Option Addr) (n c:Nat) (W:World) (hF:FitB W (.slice p n c) l) (hN:Nm W) :
   Calls Tryz.prog 250 #[.slice p n c,.int .i64 (i:Int)] W (ArQ W (arOf a)):=by
 have hn:=hF.rd.len
 have hm:=hF.z
 have hlt:i < l.length:=(List.getElem?_eq_some_iff.1 ha).1
 have d1:(i:Int) < (n:Int):=J2
 have d2:(n:Int)≤10000000000:=J2
 have c0:=xsingle_at hF hN ha
 have HF:Hid (FitB W (.slice p n c) l):=hF
 obtain ⟨b,off,lv,rfl,hb,hbW,⟨k0,k1,k2,k3⟩,hV⟩:=hF.rd.at ha
 obtain ⟨p',n',c',rfl,hn',hc'⟩:=hV.form
 have HV:Hid (RdV W.heap.size W (.slice p' n' c') a.g.l):=hV
 clear hF hn hm hlt hV hn' hc' hb
 cases har:a.g.area with
 | true =>
   have HX:arOf a = a:=by unfold arOf;rw [har];rfl
   rw [har] at k0
   rw [HX]
   clear HX har c0
   go_enter func250,ntmps250
   go_wp2_with fail
   simp [bodyPost,results,results250,go_sem]
   exact ⟨p',n',c',rfl,rd_to HV.out (xr.alloc _),xr.alloc _⟩
 | false =>
   have HX:arOf a = ⟨⟨true,[(sgl a).rw]⟩,1,1⟩:=by unfold arOf;rw [har];rfl
   rw [har] at k0
   rw [HX]
   generalize sgl a = v at *
   clear HX har
   go_enter func250,ntmps250
   go_wp2_with fail
   refine (c0 _ (xr.alloc _)).mono ?_
   rintro e w1 ⟨rfl,E1⟩
   have B1:=blk_top (b:=W.heap.size) J65 E1
   have HB:Hid (Blk w1 W.heap.size (.bool false) (.int .i64 0) (.int .i64 0) (.slice none 0 0)∧Ext W w1):=⟨B1,(xr.alloc _).trans E1⟩
   obtain ⟨z,⟨b0,b1,b2,b3⟩,f0,f1,f2,f3⟩:=B1
   clear E1 c0 k0 k1 k2 k3 HV hbW
   go_wp2_with fail
   have X2:Ext W (((((w1.setCell ⟨W.heap.size,0,none⟩ (.bool true)).setCell ⟨W.heap.size,1,none⟩ (.int .i64 1)).setCell ⟨W.heap.size,2,none⟩ (.int .i64 1)).setCell ⟨W.heap.size,3,none⟩ (.slice (some ⟨w1.heap.size,0,none⟩) 1 1)).alloc (.cells #[.int .i64 v.k,.int .i64 v.n,.string v.s,.int .i64 v.e] 33)):=((((HB.out.2.setCell nrf _).setCell nrf _).setCell nrf _).setCell nrf _).alloc _
   exact finB (b:=W.heap.size) (w:=W) ((HB.out.1.set _ _ _ _).al _) rfl X2 (fun g0 g1 g2 g3=>by simp [results,results250,go_sem,g0,g1,g2,g3]) (fun h=>⟨_,_,_,rfl,one_rd J65 xr,h⟩)
theorem xarea_at {l:List Bg} {i:Nat} {a:Bg} {p:Option Addr} {n c:Nat} {W:World} (hF:FitB W (.slice p n c) l) (hN:Nm W) (ha:l[i]? = some a) (W':World) (e:Ext W W') :
   Calls Tryz.prog 250 #[.slice p n c,.int .i64 (i:Int)] W' (ArQ W' (arOf a)):=xarea_any l i a ha p n c W' (hF.ext e) (hN.ext e)
theorem whR_bd {v:V} {x:Int} (hv:v.ok) (h:whR v = .ok x):-1000000000000000≤x∧x≤1000000000000000:=by
 unfold whR at h
 cases hn:nuR v with
 | error e=>rw [hn] at h;cases h
 | ok n =>
   rw [hn] at h
   obtain ⟨⟨h1,h2⟩,_⟩:=nuR_can hv hn
   cases h
   unfold whN
   omega
theorem xpicked_any (l:List Bg) (a0 a1:Bg) (h0:l[0]? = some a0) (h1:l[1]? = some a1) (p:Option Addr) (n c:Nat) (W:World) (hF:FitB W (.slice p n c) l) (hN:Nm W) :
   Calls Tryz.prog 199 #[.slice p n c] W fun e w'=>RzQ Rw.dat (xIndex l) e∧Ext W w':=by
 have o1:=(At.mk hF hN h1).ok
 cases ht:whR (sgl a1) with
 | error x =>
   have HX:xIndex l = .error x:=by unfold xIndex;rw [sg_of h1,ht]
   rw [HX]
   have c0:=xwhole_no hF hN h1 ht
   clear HX ht
   go_enter func199,ntmps199
   exact K28
 | ok row =>
   have c0:=xwhole_ok hF hN h1 ht
   have br:=whR_bd o1 ht
   cases hu:whO l 2 with
   | error x =>
     have HX:xIndex l = .error x:=by unfold xIndex;rw [sg_of h1,ht,hu]
     rw [HX]
     have c1:=xone_no hF hN hu
     clear HX ht hu
     go_enter func199,ntmps199
     go_wp2_with fail
     refine (c0 _ (xr.alloc _)).mono ?_
     rintro e w1 ⟨rfl,E1⟩
     have B1:Hid (Ext W w1):=(xr.alloc _).trans E1
     clear E1
     go_wp2_with fail
     refine (c1 _ B1.out).mono ?_
     rintro e w2 ⟨rfl,E2⟩
     exact ⟨rfl,rfl,B1.out.trans E2⟩
   | ok col =>
     have c1:=xone_ok hF hN hu
     have bc:-1000000000000000≤col∧col≤1000000000000000:=by
       unfold whO at hu
       split at hu
       · cases hu;omega
       · exact whR_bd (hF.ok 2) hu
     have c2:=xarea_at hF hN h0
     have HX:xIndex l = pkR (arOf a0) row col:=by unfold xIndex;rw [sg_of h1,ht,hu,h0]
     rw [HX]
     have hR:=hF.r a0 (List.mem_of_getElem? h0)
     have hL:(arOf a0).g.l.length≤10000000000∧I64 (arOf a0).rows∧I64 (arOf a0).cols:=by
       unfold arOf
       split
       · rename_i har
         refine ⟨?_,hR⟩
         have h3:=seen_le (l:=gsOf l) (j:=0) (a:=a0.g) (by unfold gsOf;rw [List.getElem?_map,h0];rfl)
         have h4:(seen1 a0.g).length = a0.g.l.length:=by unfold seen1;rw [if_pos har];simp
         have:=hF.s
         omega
       · refine ⟨?_,⟨?_,?_⟩,⟨?_,?_⟩⟩ <;> simp
     generalize arOf a0 = b at *
     obtain ⟨⟨ar,bl⟩,R,C⟩:=b
     simp only [] at hL HX
     obtain ⟨hL,⟨r1,r2⟩,⟨s1,s2⟩⟩:=hL
     have HP:pkR ⟨⟨ar,bl⟩,R,C⟩ row col = if row < 1∨row > R∨col < 1∨col > C∨col > (bl.length:Int) then .error 1 else if row - 1 > ((bl.length:Int) - col) / C then .error 1 else match bl[((row - 1) * C+col - 1).toNat]? with | some r=>.ok r | none=>.error 1:=rfl
     rw [HP]
     clear HX HP ht hu hR o1 hF hN h0 h1
     obtain ⟨m,hm⟩:∃ m,bl.length = m:=⟨_,rfl⟩
     rw [hm] at hL ⊢
     have HL:Hid (bl.length = m):=hm
     have C2:∀ W',Ext W W'→Calls Tryz.prog 250 #[.slice p n c,.int .i64 0] W' fun e w'=>∃ p' c',e = .returned (.agg #[.bool true,.int .i64 R,.int .i64 C,.slice p' m c'])∧RdV w'.heap.size w' (.slice p' m c') bl∧Ext W' w':=fun W' e=>(c2 W' e).mono (fun e w' h=>by
       obtain ⟨p',n',c',h1,h2,h3⟩:=h
       have h4:=h2.len
       simp only [] at h4
       rw [hm] at h4
       subst h4
       exact ⟨p',c',h1,h2,h3⟩)
     clear c2 hm
     obtain ⟨b1,b2⟩:=br
     obtain ⟨b3,b4⟩:=bc
     have mI:(m:Int)≤10000000000:=J2
     by_cases t1:row < 1
     · rw [if_pos (.inl t1)]
       exact K4
     by_cases t2:row > R
     · rw [if_pos (.inr (.inl t2))]
       exact K4
     by_cases t3:col < 1
     · rw [if_pos (.inr (.inr (.inl t3)))]
       exact K4
     by_cases t4:col > C
     · rw [if_pos (.inr (.inr (.inr (.inl t4))))]
       exact K4
     by_cases t5:col > (m:Int)
     · rw [if_pos (.inr (.inr (.inr (.inr (t5)))))]
       exact K4
     rw [if_neg J2]
     have u1:1≤C:=J2
     have u2:0≤(m:Int) - col:=J2
     have ht:((m:Int) - col).tdiv C = ((m:Int) - col) / C:=Int.tdiv_eq_ediv_of_nonneg u2
     have u3:0≤((m:Int) - col) / C:=Int.ediv_nonneg u2 J2
     have u4:((m:Int) - col) / C≤(m:Int) - col:=Int.ediv_le_self C u2
     have HM:Hid (row - 1≤((m:Int) - col) / C→(row - 1) * C≤(m:Int) - col):=fun h=>Int.le_trans (Int.mul_le_mul_of_nonneg_right h J2) (Int.ediv_mul_le _ J2)
     generalize ((m:Int) - col) / C = q at *
     have e0:(C == 0) = false:=J6
     have wk1:wrap64 (row - 1) = row - 1:=J72
     have wk2:wrap64 ((m:Int) - col) = (m:Int) - col:=J72
     by_cases t6:row - 1 > q
     · rw [if_pos t6]
       exact K4
     · rw [if_neg t6]
       have v1:=HM.out J2
       have v2:0≤(row - 1) * C:=Int.mul_nonneg J2 J2
       obtain ⟨M,hM⟩:∃ M,(row - 1) * C = M:=⟨_,rfl⟩
       rw [hM] at v1 v2 ⊢
       obtain ⟨j,hj⟩:∃ j:Nat,M+col - 1 = (j:Int):=⟨(M+col - 1).toNat,by omega⟩
       have hjm:j < m:=J2
       have hjI:(j:Int) < (m:Int):=J2
       have wk3:wrap64 M = M:=J72
       have wk4:wrap64 (M+col) = M+col:=J72
       have wk5:wrap64 (M+col - 1) = (j:Int):=by rw [hj];unfold wrap64;omega
       have hjr:∃ r,bl[j]? = some r:=⟨bl[j]'(by have:=HL.out;omega),gEq _⟩
       obtain ⟨r,hr⟩:=hjr
       rw [show (M+col - 1).toNat = j by omega,hr]
       have HJ:Hid (bl[j]? = some r∧j < bl.length):=⟨hr,by have:=HL.out;omega⟩
       clear HM HL hr
       go_enter func199,ntmps199
       go_wp2_with fail
       refine (c0 _ (xr.alloc _)).mono ?_
       rintro e w1 ⟨rfl,E1⟩
       have B1:Hid (Blk w1 W.heap.size (.int .i64 0) (.int .i64 0) (.string ⟨#[]⟩) (.int .i64 0)∧Ext W w1):=⟨blk_top J65 E1,(xr.alloc _).trans E1⟩
       clear E1
       go_wp2_with fail
       refine (c1 _ B1.out.2).mono ?_
       rintro e w2 ⟨rfl,E2⟩
       have B2:Hid (Blk w2 W.heap.size (.int .i64 0) (.int .i64 0) (.string ⟨#[]⟩) (.int .i64 0)∧Ext W w2):=⟨B1.out.1.ext E2,B1.out.2.trans E2⟩
       clear E2
       go_wp2_with fail
       refine (C2 _ B2.out.2).mono ?_
       rintro e w3 ⟨p',c',rfl,hV,E3⟩
       have B3:Hid ((Blk w3 W.heap.size (.int .i64 0) (.int .i64 0) (.string ⟨#[]⟩) (.int .i64 0)∧Ext W w3)∧RdV w3.heap.size w3 (.slice p' m c') bl):=⟨⟨B2.out.1.ext E3,B2.out.2.trans E3⟩,hV⟩
       clear E3 hV
       obtain ⟨bb,off,r',rfl,hr',hbb,hbW,k0,k1,k2,k3⟩:=B3.out.2.at HJ.out.2
       rw [HJ.out.1] at hr'
       cases hr'
       obtain ⟨z,⟨g0,g1,g2,g3⟩,f0,f1,f2,f3⟩:=B3.out.1.1
       clear hbb
       go_wp2_with fail
       have X2:Ext W (((((w3.setCell ⟨W.heap.size,0,none⟩ (.int .i64 r.k)).setCell ⟨W.heap.size,1,none⟩ (.int .i64 r.n)).setCell ⟨W.heap.size,2,none⟩ (.string r.s)).setCell ⟨W.heap.size,3,none⟩ (.int .i64 r.e)).alloc (.cells #[.bool true,.int .i64 R,.int .i64 C,.slice (some ⟨bb,off,none⟩) m c'] 113)):=((((B3.out.1.2.setCell nrf _).setCell nrf _).setCell nrf _).setCell nrf _).alloc _
       exact finB (b:=W.heap.size) (w:=W) ((B3.out.1.1.set _ _ _ _).al _) rfl X2 (fun g0 g1 g2 g3=>by simp [results,results199,go_sem,g0,g1,g2,g3]) (fun h=>⟨rfl,h⟩)
theorem Own4.at {w w':World} {b:Nat} {c:Array Value} {T:TypeId} (hb:b = w.heap.size) (hT:T≠5) (e:Ext (w.alloc (.cells c T)) w'):Own4 w' b:=by subst hb;exact Own4.new hT e
theorem Env.set {hi:Nat} {w w':World} (h:Env hi w w') {b:Nat} (hb:hi≤b) (ho:¬ RowB w b) (o:Nat) (v:Value):Env hi w (w'.setCell ⟨b,o,none⟩ v) :=
 ⟨h.1.setCell (p:=⟨b,o,none⟩) hb v,fun k hk=>by rw [Below.heap_setCell _ _ _ _ (fun e=>ho (by subst e;exact hk))];exact h.2 k hk⟩
theorem Mid.set {lo hi:Nat} {w w':World} (h:Mid lo hi w w') {b:Nat} (hb:lo≤b) (hb':b < hi) (o:Nat) (v:Value):Mid lo hi w (w'.setCell ⟨b,o,none⟩ v) :=
 ⟨h.1.setCell (p:=⟨b,o,none⟩) hb v,fun k h1 h2 h3=>by rw [Below.heap_setCell _ _ _ _ (by show k≠b;omega)];exact h.2 k h1 h2 h3⟩
theorem not_row {w w':World} {b:Nat} (e:Ext w w') (h:Own4 w b):Own4 w' b :=
 ⟨llL h.1 e.size,fun r=>h.2 ((RowB.same (e.block b h.1)).1 r)⟩
def put4 (w:World) (b:Nat) (x0 x1 x2 x3:Value):World:=(((w.setCell ⟨b,0,none⟩ x0).setCell ⟨b,1,none⟩ x1).setCell ⟨b,2,none⟩ x2).setCell ⟨b,3,none⟩ x3
theorem Thr.put {w0:World} {hi g:Nat} {tv sv:Value} {f:V→Bool→V} {P:List V→World→Prop} {l l':List (V × Bool)} {W W':World} (hg:hi≤g) (hP:∀ l W W',P l W→hi≤W.heap.size→Env hi W W'→P l W')
   (h:Thr w0 hi g tv sv f P l W) (hz:g+3≤W.heap.size) (e:Ext W W') (hp:got f l' = got f l) (y:V) (hb:bad f l' = y):Thr w0 hi g tv sv f P l' (put4 W' (g+2) (.int .i64 y.k) (.int .i64 y.n) (.string y.s) (.int .i64 y.e)):=by
 obtain ⟨p,t,s,b,ot,os,ob⟩:=h
 have c1:=e.cell.1 g 0 J2
 have c2:=e.cell.1 (g+1) 0 J2
 refine ⟨?_,?_,?_,?_,?_,?_,?_⟩
 · rw [hp]
   exact hP _ _ _ p J2 (((((e.env J2).set J2 ob.2 _ _).set J2 ob.2 _ _).set J2 ob.2 _ _).set J2 ob.2 _ _)
 · unfold put4
   iterate 4 rw [wFa _ _ _ _ (by show g+2≠g;omega)]
   exact c1.trans t
 · unfold put4
   iterate 4 rw [wFa _ _ _ _ (by show g+2≠g+1;omega)]
   exact c2.trans s
 · rw [hb]
   exact (b.ext e).set _ _ _ _
 · exact ((((not_row e ot).set _ _).set _ _).set _ _).set _ _
 · exact ((((not_row e os).set _ _).set _ _).set _ _).set _ _
 · exact ((((not_row e ob).set _ _).set _ _).set _ _).set _ _
theorem thr1_any (w0:World) (hi g:Nat) (tv sv:Value) (f:V→Bool→V) (P:List V→World→Prop) (hT:TurnC w0 tv f) (hS:FnC w0 hi sv encV V.ok P) (hf:∀ x a,x.ok→(f x a).ok) (hg:hi≤g) (hg0:w0.heap.size≤g)
   (l:List (V × Bool)) (W:World) (x:V × Bool) (h:Thr w0 hi g tv sv f P l W) (hz:g+3≤W.heap.size) (hE:Ext w0 W) (hl:l.length≤20000000000) (hx:okS x) :
   Calls Tryz.prog 270 (encS x ++ #[.pointer (some ⟨g,0,none⟩),.pointer (some ⟨g+1,0,none⟩),.pointer (some ⟨g+2,0,none⟩)]) W fun e w'=>e = .returned (.tuple #[])∧Thr w0 hi g tv sv f P (l ++ [x]) w'∧Mid w0.heap.size (g+3) W w':=by
 obtain ⟨v,a⟩:=x
 obtain ⟨Kt,rfl,entT,cT⟩:=hT
 obtain ⟨Ks,cs,rfl,entS,stS,cS⟩:=hS
 have ht:=h.t
 have hs:=h.s
 obtain ⟨zb,⟨b0,b1,b2,b3⟩,f0,f1,f2,f3⟩:=h.b
 have HT:Hid (Thr w0 hi g (.func (.func Kt) #[] #[]) (.func (.func Ks) #[] cs) f P l W):=h
 have CT:Hid (∀ V,Ext w0 V→Calls Tryz.prog Kt #[.agg #[.int .i64 v.k,.int .i64 v.n,.string v.s,.int .i64 v.e],.bool a] V fun e w'=>e = .returned (f v a).dat∧Ext V w'):=fun V e=>by have:=cT V v a e hx;rw [dat_eq v] at this;exact this
 have hy:=hf v a hx
 have hgl:(got f l).length≤20000000000:=Nat.le_trans (got_len f l) hl
 have CS:Hid (∀ V,Ext W V→Calls Tryz.prog Ks (#[.agg #[.int .i64 (f v a).k,.int .i64 (f v a).n,.string (f v a).s,.int .i64 (f v a).e]] ++ cs) V fun e w'=>e = .returned (.tuple #[])∧P (got f l ++ [f v a]) w'∧Mid w0.heap.size hi V w'):=fun V e=>by
   have:=cS (got f l) V (f v a) (stS _ _ _ h.p J2 (e.env J2)) (Nat.le_trans J2 e.size) (hE.trans e) hgl hy
   unfold encV at this
   rw [dat_eq (f v a)] at this
   exact this
 have HE:Hid (Ext w0 W∧g+3≤W.heap.size∧hi≤g∧w0.heap.size≤g):=⟨hE,hz,hg,hg0⟩
 have ST:Hid (∀ l W W',P l W→hi≤W.heap.size→Env hi W W'→P l W'):=stS
 have HB:Hid (bad f (l ++ [(v,a)]) = if (bad f l).k = 4 then bad f l else if (f v a).k = 4 then f v a else .blank):=bad_snoc f l (v,a)
 have HG:Hid (got f (l ++ [(v,a)]) = if goes (f v a) then got f l ++ [f v a] else got f l):=got_snoc f l (v,a)
 have HK:Hid (bad f l = .blank∨(bad f l).k = 4):=bad_kind f l
 rw [show encS (v,a) = #[v.dat,.bool a] from rfl,dat_eq v]
 rw [dat_eq (f v a)] at CT
 have hz2:g < W.heap.size:=J2
 have hz3:g+1 < W.heap.size:=J2
 clear h cT cS stS hf hg hg0 hE hl hx hy hgl hz
 obtain ⟨vk,hvk⟩:∃ y,v.k = y:=⟨_,rfl⟩
 obtain ⟨vn,hvn⟩:∃ y,v.n = y:=⟨_,rfl⟩
 obtain ⟨vs,hvs⟩:∃ y,v.s = y:=⟨_,rfl⟩
 obtain ⟨ve,hve⟩:∃ y,v.e = y:=⟨_,rfl⟩
 rw [hvk,hvn,hvs,hve] at CT ⊢
 clear hvk hvn hvs hve
 obtain ⟨y,hy⟩:∃ y,f v a = y:=⟨_,rfl⟩
 rw [hy] at CT CS HB HG
 obtain ⟨z,hzz⟩:∃ z,bad f l = z:=⟨_,rfl⟩
 rw [hzz] at b0 b1 b2 b3 HB HK
 have HZ:Hid (bad f l = z):=hzz
 clear hy hzz
 obtain ⟨yk,hyk⟩:∃ q,y.k = q:=⟨_,rfl⟩
 obtain ⟨yn,hyn⟩:∃ q,y.n = q:=⟨_,rfl⟩
 obtain ⟨ys,hys⟩:∃ q,y.s = q:=⟨_,rfl⟩
 obtain ⟨ye,hye⟩:∃ q,y.e = q:=⟨_,rfl⟩
 have HY:Hid (y.k = yk∧y.n = yn∧y.s = ys∧y.e = ye):=⟨hyk,hyn,hys,hye⟩
 rw [hyk,hyn,hys,hye] at CT CS
 clear hyk hyn hys hye
 go_enter func270,ntmps270
 go_wp2_with fail
 refine (CT.out _ (HE.out.1.alloc _)).mono ?_
 rintro e w1 ⟨rfl,E1⟩
 have X1:Hid (Ext W w1):=(xr.alloc _).trans E1
 have B1:=blk_top (b:=W.heap.size) J65 E1
 obtain ⟨c0z,⟨c0_0,c0_1,c0_2,c0_3⟩,c0f0,c0f1,c0f2,c0f3⟩:=B1
 have e1:=X1.out.cell
 have d1:=(e1.1 (g+1) 0 hz3).trans hs
 have d20:=(e1.1 (g+2) 0 zb).trans b0
 have d21:=(e1.1 (g+2) 1 zb).trans b1
 have d22:=(e1.1 (g+2) 2 zb).trans b2
 have d23:=(e1.1 (g+2) 3 zb).trans b3
 have g20:=(e1.2 (g+2) 0 zb).trans f0
 have g21:=(e1.2 (g+2) 1 zb).trans f1
 have g22:=(e1.2 (g+2) 2 zb).trans f2
 have g23:=(e1.2 (g+2) 3 zb).trans f3
 have zc:g+1 < w1.heap.size:=llL hz3 X1.out.size
 have zd:g+2 < w1.heap.size:=llL zb X1.out.size
 have X2:Hid (Ext W (put4 w1 W.heap.size (.int .i64 yk) (.int .i64 yn) (.string ys) (.int .i64 ye))):=(((X1.out.setCell nrf _).setCell nrf _).setCell nrf _).setCell nrf _
 clear E1 e1 ht hs b0 b1 b2 b3 f0 f1 f2 f3
 have nG1:g+1≠W.heap.size:=J2
 have nG2:g+2≠W.heap.size:=J2
 by_cases h0:yk = 0
 · have e0:(yk == 0) = true:=J103
   have H2:Hid (got f (l ++ [(v,a)]) = got f l∧bad f (l ++ [(v,a)]) = bad f l):=by
     have hk:y.k = 0:=HY.out.1.trans h0
     refine ⟨by rw [HG.out,if_neg J53],?_⟩
     rw [HB.out,HZ.out]
     rcases HK.out with k | k
     · rw [k,if_neg J9,if_neg J11]
     · rw [if_pos k]
   clear h0
   exact K80
 have e0:(yk == 0) = false:=J103
 by_cases h4:yk = 4
 · have e4:(yk != 4) = false:=J104
   by_cases hz4:z.k = 4
   · have ez:(z.k == 0) = false:=by rw [hz4];rfl
     have H2:Hid (got f (l ++ [(v,a)]) = got f l∧bad f (l ++ [(v,a)]) = bad f l):=by
       have hk:y.k = 4:=HY.out.1.trans h4
       refine ⟨by rw [HG.out,if_neg J53],?_⟩
       rw [HB.out,HZ.out,if_pos hz4]
     clear h0 h4 hz4
     generalize z.k = zk at *
     exact K80
   · have hz0:z = .blank:=HK.out.resolve_right hz4
     have ez:(z.k == 0) = true:=by rw [hz0];rfl
     have H2:Hid (got f (l ++ [(v,a)]) = got f l∧bad f (l ++ [(v,a)]) = y):=by
       have hk:y.k = 4:=HY.out.1.trans h4
       refine ⟨by rw [HG.out,if_neg J53],?_⟩
       rw [HB.out,if_neg hz4,if_pos hk]
     clear h0 h4 hz4 hz0
     generalize z.k = zk at *
     generalize z.n = zn at *
     generalize z.s = zs' at *
     generalize z.e = ze at *
     go_wp2_with fail
     go_end0
     refine ⟨rfl,?_,?_⟩
     · have q:=HT.out.put HE.out.2.2.1 ST.out HE.out.2.1 X2.out H2.out.1 y H2.out.2
       rw [HY.out.1,HY.out.2.1,HY.out.2.2.1,HY.out.2.2.2] at q
       exact q
     · exact ((((X2.out.mid HE.out.1.size _).set (by have:=HE.out;omega) J2 _ _).set (by have:=HE.out;omega) J2 _ _).set (by have:=HE.out;omega) J2 _ _).set (by have:=HE.out;omega) J2 _ _
 · have e4:(yk != 4) = true:=J104
   have H2:Hid (got f (l ++ [(v,a)]) = got f l ++ [y]∧bad f (l ++ [(v,a)]) = bad f l):=by
     have hk:¬ y.k = 4:=by rw [HY.out.1];exact h4
     have hk0:¬ y.k = 0:=by rw [HY.out.1];exact h0
     refine ⟨by rw [HG.out,if_pos (by simp [goes,hk,hk0])],?_⟩
     rw [HB.out,HZ.out]
     rcases HK.out with k | k
     · rw [k,if_neg J9,if_neg hk]
     · rw [if_pos k]
   clear h0 h4
   go_wp2_with fail
   refine (CS.out _ X2.out).mono ?_
   rintro e w3 ⟨rfl,p3,m3⟩
   have M3:Hid (Mid w0.heap.size hi W w3):=(X2.out.mid HE.out.1.size hi).trans m3
   have P3:Hid (P (got f l ++ [y]) w3):=p3
   clear p3 m3
   go_wp2_with fail
   go_end0
   refine ⟨rfl,?_,?_⟩
   · exact HT.out.mid HE.out.2.2.1 M3.out (by rw [H2.out.1];exact P3.out) H2.out.2
   · exact M3.out.wide (by have:=HE.out;omega)
theorem ent_thr1:∀ args W,(callFunc 270 args).run Tryz.prog W = .ok (.enter 270 args) W:=enters_of func270 J3 rfl
theorem thr_fn (w0:World) (hi g:Nat) (tv sv:Value) (f:V→Bool→V) (P:List V→World→Prop) (hT:TurnC w0 tv f) (hS:FnC w0 hi sv encV V.ok P) (hf:∀ x a,x.ok→(f x a).ok) (hg:hi≤g) (hg0:w0.heap.size≤g) :
   FnC w0 (g+3) (.func (.func 270) #[] #[.pointer (some ⟨g,0,none⟩),.pointer (some ⟨g+1,0,none⟩),.pointer (some ⟨g+2,0,none⟩)]) encS okS (fun l W=>Thr w0 hi g tv sv f P l W):=by
 refine ⟨_,_,rfl,ent_thr1,?_,?_⟩
 · intro l W W' h hs e
   obtain ⟨_,_,_,_,st,_⟩:=hS
   exact h.env st hg hs e
 · intro l W x h hs e hl hx
   exact thr1_any w0 hi g tv sv f P hT hS hf hg hg0 l W x h hs e hl hx
theorem through_any (w0:World) (gs:List Ag) (tv sv:Value) (f:V→Bool→V) (P:List V→World→Prop) (W:World) (p:Option Addr) (n c:Nat) (hT:TurnC w0 tv f) (hS:FnC w0 W.heap.size sv encV V.ok P) (hf:∀ x a,x.ok→(f x a).ok)
   (hA:RdA w0.heap.size W (.slice p n c) gs) (hI:AgI gs) (hlen:(seen gs).length≤10000000000) (hal:gs.length≤10000000000) (hP:P [] W) (hE:Ext w0 W) (hN:Nm w0) :
   Calls Tryz.prog 236 #[.slice p n c,tv,sv] W fun e w'=>e = .returned (bad f (seen gs)).dat∧P (got f (seen gs)) w'∧Ext w0 w':=by
 obtain ⟨Kt,et⟩:∃ Kt,tv = .func (.func Kt) #[] #[]:=by obtain ⟨K,h,_⟩:=hT;exact ⟨K,h⟩
 obtain ⟨Ks,cs,es⟩:∃ Ks cs,sv = .func (.func Ks) #[] cs:=by obtain ⟨K,cs,h,_⟩:=hS;exact ⟨K,cs,h⟩
 subst et es
 have stS:∀ l W1 W',P l W1→W.heap.size≤W1.heap.size→Env W.heap.size W1 W'→P l W':=by obtain ⟨_,_,_,_,st,_⟩:=hS;exact st
 have HF:Hid (FnC w0 (W.heap.size+3) (.func (.func 270) #[] #[.pointer (some ⟨W.heap.size,0,none⟩),.pointer (some ⟨W.heap.size+1,0,none⟩),.pointer (some ⟨W.heap.size+2,0,none⟩)]) encS okS (fun l V=>Thr w0 W.heap.size W.heap.size (.func (.func Kt) #[] #[]) (.func (.func Ks) #[] cs) f P l V)):=thr_fn w0 W.heap.size W.heap.size _ _ f P hT hS hf nrf hE.size
 have H0:Hid (RdA w0.heap.size W (.slice p n c) gs∧AgI gs∧(seen gs).length≤10000000000∧gs.length≤10000000000∧P [] W∧Ext w0 W∧Nm w0):=⟨hA,hI,hlen,hal,hP,hE,hN⟩
 have ST:Hid (∀ l W1 W',P l W1→W.heap.size≤W1.heap.size→Env W.heap.size W1 W'→P l W'):=stS
 clear hT hS hf hA hI hlen hal hP hE hN stS
 go_enter func236,ntmps236
 go_wp2_with fail
 generalize hW3:((W.alloc _).alloc _).alloc _ = W3
 have z1:∀ o,(W.alloc o).heap.size = W.heap.size+1:=fun o=>by simp
 have z2:∀ o o',((W.alloc o).alloc o').heap.size = W.heap.size+2:=fun o o'=>by simp
 have z3:W3.heap.size = W.heap.size+3:=J105
 have E3:Ext W W3:=J106
 have HT:Thr w0 W.heap.size W.heap.size (.func (.func Kt) #[] #[]) (.func (.func Ks) #[] cs) f P [] W3:=by
   refine ⟨ST.out _ _ _ H0.out.2.2.2.2.1 nrf (E3.env nrf),?_,?_,?_,?_,?_,?_⟩
   · rw [← hW3];simp [go_sem]
   · rw [← hW3];simp [go_sem]
   · rw [← hW3];exact blk_top (by rw [z2]) xr
   · rw [← hW3];exact Own4.new J9 ((xr.alloc _).alloc _)
   · rw [← hW3];exact Own4.at (by rw [z1]) J9 (xr.alloc _)
   · rw [← hW3];exact Own4.at (by rw [z2]) J9 xr
 refine (each_any w0 (W.heap.size+3) gs _ _ W3 p n c (H0.out.1.low (Below.mono E3 H0.out.2.2.2.2.2.1.size)) H0.out.2.1 H0.out.2.2.1 H0.out.2.2.2.1 HF.out HT J2 (H0.out.2.2.2.2.2.1.trans E3) H0.out.2.2.2.2.2.2).mono ?_
 rintro e w4 ⟨rfl,T4,M4⟩
 have X4:Hid (Ext w0 w4):=M4.ext (H0.out.2.2.2.2.2.1.trans E3)
 have P4:Hid (P (got f (seen gs)) w4):=T4.p
 have HB:Hid (Blk w4 (W.heap.size+2) (.int .i64 (bad f (seen gs)).k) (.int .i64 (bad f (seen gs)).n) (.string (bad f (seen gs)).s) (.int .i64 (bad f (seen gs)).e)∧Own4 w4 (W.heap.size+2)∧w0.heap.size≤W.heap.size):=⟨T4.b,T4.ob,H0.out.2.2.2.2.2.1.size⟩
 obtain ⟨c0z,⟨c0_0,c0_1,c0_2,c0_3⟩,c0f0,c0f1,c0f2,c0f3⟩:=T4.b
 have HD:Hid ((bad f (seen gs)).dat = .agg #[.int .i64 (bad f (seen gs)).k,.int .i64 (bad f (seen gs)).n,.string (bad f (seen gs)).s,.int .i64 (bad f (seen gs)).e]):=dat_eq _
 generalize (bad f (seen gs)).k = zk at *
 generalize (bad f (seen gs)).n = zn at *
 generalize (bad f (seen gs)).s = zs' at *
 generalize (bad f (seen gs)).e = ze at *
 have PZ:Hid (w4.heap.size = w4.heap.size∧W.heap.size≤w4.heap.size):=⟨rfl,Nat.le_trans J2 M4.1.size⟩
 clear hW3 z1 z2 z3 E3 HT T4 M4 HF
 go_wp2_with fail
 have hb:W.heap.size≤W.heap.size+2:=J2
 have hb0:w0.heap.size≤W.heap.size+2:=Nat.le_trans HB.out.2.2 hb
 exact finB (w:=w0) (HB.out.1.set _ _ _ _) rfl ((((X4.out.setCell (p:=⟨W.heap.size+2,0,none⟩) hb0 _).setCell (p:=⟨W.heap.size+2,1,none⟩) hb0 _).setCell (p:=⟨W.heap.size+2,2,none⟩) hb0 _).setCell (p:=⟨W.heap.size+2,3,none⟩) hb0 _)
   (fun g0 g1 g2 g3=>by simp [results,results236,go_sem,g0,g1,g2,g3])
   (fun h=>⟨by rw [HD.out],ST.out _ _ _ P4.out PZ.out.2 ((((((Ext.refl w4).env PZ.out.2).set hb HB.out.2.1.2 _ _).set hb HB.out.2.1.2 _ _).set hb HB.out.2.1.2 _ _).set hb HB.out.2.1.2 _ _),h⟩)
structure Tot (g:Nat) (l:List V) (W:World):Prop where
 z:g+1 < W.heap.size
 s0:W.cell? ⟨g,0,none⟩ = some (.int .i64 (hiOf (sumN l)))
 s1:W.cell? ⟨g,1,none⟩ = some (.int .u64 (loOf (sumN l)))
 c0:W.cell? ⟨g+1,0,none⟩ = some (.int .i64 (l.length:Int))
 f0:W.frozen? ⟨g,0,none⟩ = false
 f1:W.frozen? ⟨g,1,none⟩ = false
 f2:W.frozen? ⟨g+1,0,none⟩ = false
theorem Env.at {hi:Nat} {w w':World} (h:Env hi w w') {b:Nat} (hb:b < hi) (o:Nat):w'.cell? ⟨b,o,none⟩ = w.cell? ⟨b,o,none⟩∧w'.frozen? ⟨b,o,none⟩ = w.frozen? ⟨b,o,none⟩ :=
 ⟨Below.cell h.1 (p:=⟨b,o,none⟩) hb,Below.frozen h.1 (p:=⟨b,o,none⟩) hb⟩
theorem Tot.env {g hi:Nat} {l:List V} {W W':World} (h:Tot g l W) (e:Env hi W W') (hg:g+2≤hi):Tot g l W':=by
 obtain ⟨z,s0,s1,c0,f0,f1,f2⟩:=h
 have k0:=e.at (b:=g) J2
 have k1:=e.at (b:=g+1) J2
 exact ⟨llL z e.1.size,(k0 0).1.trans s0,(k0 1).1.trans s1,(k1 0).1.trans c0,(k0 0).2.trans f0,(k0 1).2.trans f1,(k1 0).2.trans f2⟩
theorem Tot.put {g:Nat} {l:List V} {W:World} {x:V} (h:Tot g l W) (wk:wrap64 ((l.length:Int)+1) = ((l.length+1:Nat):Int)) :
   Tot g (l ++ [x]) (((W.setCell ⟨g,0,none⟩ (.int .i64 (hiOf (sumN l+x.n)))).setCell ⟨g,1,none⟩ (.int .u64 (loOf (sumN l+x.n)))).setCell ⟨g+1,0,none⟩ (.int .i64 (wrap64 ((l.length:Int)+1)))):=by
 obtain ⟨z,s0,s1,c0,f0,f1,f2⟩:=h
 have es:sumN (l ++ [x]) = sumN l+x.n:=by rw [sumN_app];simp [sumN]
 have el:(l ++ [x]).length = l.length+1:=J65
 have e0:=wSa W ⟨g,0,none⟩ (.int .i64 (hiOf (sumN l+x.n))) (by rw [s0])
 have j1:(W.setCell ⟨g,0,none⟩ (.int .i64 (hiOf (sumN l+x.n)))).cell? ⟨g,1,none⟩ = some (.int .u64 (loOf (sumN l))):=by rw [wO _ _ _ _ J65];exact s1
 have e1:=wSa _ ⟨g,1,none⟩ (.int .u64 (loOf (sumN l+x.n))) (by rw [j1])
 have j2:((W.setCell ⟨g,0,none⟩ (.int .i64 (hiOf (sumN l+x.n)))).setCell ⟨g,1,none⟩ (.int .u64 (loOf (sumN l+x.n)))).cell? ⟨g+1,0,none⟩ = some (.int .i64 (l.length:Int)):=by
   rw [wFa _ _ _ _ J65,wFa _ _ _ _ J65];exact c0
 have e2:=wSa _ ⟨g+1,0,none⟩ (.int .i64 (wrap64 ((l.length:Int)+1))) (by rw [j2])
 refine ⟨by simpa [World.setCell] using z,?_,?_,?_,?_,?_,?_⟩
 · rw [es,wFa _ _ _ _ J65,wO _ _ _ _ J65];exact e0
 · rw [es,wFa _ _ _ _ J65];exact e1
 · rw [el,← wk];exact e2
 · simpa [go_sem] using f0
 · simpa [go_sem] using f1
 · simpa [go_sem] using f2
theorem tot1_any (w0:World) (g:Nat) (hg:w0.heap.size≤g) (l:List V) (W:World) (x:V) (h:Tot g l W) (hE:Ext w0 W) (hl:l.length≤20000000000) (hx:x.ok) :
   Calls Tryz.prog 264 (encV x ++ #[.pointer (some ⟨g,0,none⟩),.pointer (some ⟨g+1,0,none⟩)]) W fun e w'=>e = .returned (.tuple #[])∧Tot g (l ++ [x]) w'∧Mid w0.heap.size (g+2) W w':=by
 have H:Hid (Tot g l W):=h
 have hn:=(nm_of x hx).2
 have cP:=fun W=>plus_acc (sumN l) x.n hn W
 have WK:Hid (wrap64 ((l.length:Int)+1) = ((l.length+1:Nat):Int)):=wrap_1 _ J2
 obtain ⟨z,s0,s1,c0,f0,f1,f2⟩:=h
 have H0:Hid (w0.heap.size≤g∧Ext w0 W):=⟨hg,hE⟩
 rw [show encV x = #[x.dat] from rfl,dat_eq x]
 have zg:g < W.heap.size:=J2
 have HP:=fun (w1:World) (e:Env (g+2) W w1)=>(H.out.env e nrf).put (x:=x) WK.out
 clear hg hE hx hn hl
 obtain ⟨a0,ha0⟩:∃ q,hiOf (sumN l) = q:=⟨_,rfl⟩
 obtain ⟨a1,ha1⟩:∃ q,loOf (sumN l) = q:=⟨_,rfl⟩
 obtain ⟨b0,hb0⟩:∃ q,hiOf (sumN l+x.n) = q:=⟨_,rfl⟩
 obtain ⟨b1,hb1⟩:∃ q,loOf (sumN l+x.n) = q:=⟨_,rfl⟩
 rw [ha0] at s0
 rw [ha1] at s1
 rw [ha0,ha1,hb0,hb1] at cP
 rw [hb0,hb1] at HP
 have HQ:Hid (∀ w1,Env (g+2) W w1→Tot g (l ++ [x]) (((w1.setCell ⟨g,0,none⟩ (.int .i64 b0)).setCell ⟨g,1,none⟩ (.int .u64 b1)).setCell ⟨g+1,0,none⟩ (.int .i64 (wrap64 ((l.length:Int)+1))))):=HP
 clear ha0 ha1 hb0 hb1 HP
 obtain ⟨xk,hxk⟩:∃ q,x.k = q:=⟨_,rfl⟩
 obtain ⟨xn,hxn⟩:∃ q,x.n = q:=⟨_,rfl⟩
 obtain ⟨xs,hxs⟩:∃ q,x.s = q:=⟨_,rfl⟩
 obtain ⟨xe,hxe⟩:∃ q,x.e = q:=⟨_,rfl⟩
 rw [hxk,hxn,hxs,hxe]
 rw [hxn] at cP
 clear hxk hxn hxs hxe
 go_enter func264,ntmps264
 go_wp2_with fail
 refine (cP _).mono ?_
 rintro e w1 ⟨rfl,E1⟩
 have X1:Hid (Ext W w1):=(xr.alloc _).trans E1
 have e1:=X1.out.cell
 have d0:=(e1.1 g 0 zg).trans s0
 have d1:=(e1.1 g 1 zg).trans s1
 have d2:=(e1.1 (g+1) 0 z).trans c0
 have q0:=(e1.2 g 0 zg).trans f0
 have q1:=(e1.2 g 1 zg).trans f1
 have q2:=(e1.2 (g+1) 0 z).trans f2
 have zc:g+1 < w1.heap.size:=llL z X1.out.size
 clear E1 e1 s0 s1 c0 f0 f1 f2 cP
 go_wp2_with fail
 go_end0
 refine ⟨rfl,HQ.out w1 (X1.out.env J2),?_⟩
 exact (((X1.out.mid H0.out.2.size _).set H0.out.1 J2 _ _).set H0.out.1 J2 _ _).set (by have:=H0.out.1;omega) J2 _ _
theorem ent_tot1:∀ args W,(callFunc 264 args).run Tryz.prog W = .ok (.enter 264 args) W:=enters_of func264 J3 rfl
theorem tot_fn (w0:World) (g hi:Nat) (hg:w0.heap.size≤g) (hh:g+2≤hi):FnC w0 hi (.func (.func 264) #[] #[.pointer (some ⟨g,0,none⟩),.pointer (some ⟨g+1,0,none⟩)]) encV V.ok (fun l W=>Tot g l W):=by
 refine ⟨_,_,rfl,ent_tot1,?_,?_⟩
 · intro l W W' h hs e
   exact h.env e hh
 · intro l W x h hs e hl hx
   exact (tot1_any w0 g hg l W x h e hl hx).mono (fun e w' q=>⟨q.1,q.2.1,q.2.2.wide hh⟩)
theorem numF_okk (x:V) (a:Bool) (h:x.ok):(numF x a).ok:=by
 rcases numF_ok x a h with k | ⟨e,k,h1⟩ | ⟨n,k,h1⟩
 · cases hv:numF x a with
   | blank=>trivial
   | _=>rw [hv] at k;simp [V.k] at k
 · rw [k];exact h1
 · rw [k];exact h1
theorem FnC.keep {w0:World} {g:Nat} {v:Value} {α:Type} {enc:α→Array Value} {ok:α→Prop} {P:List α→World→Prop} (h:FnC w0 (g+2) v enc ok P) (x0 x1 x2 x3:Value) :
   FnC w0 (g+3) v enc ok (fun l W=>P l W∧Blk W (g+2) x0 x1 x2 x3∧Own4 W (g+2)):=by
 obtain ⟨K,cs,rfl,ent,st,ca⟩:=h
 refine ⟨K,cs,rfl,ent,?_,?_⟩
 · intro l W W' ⟨p,b,o⟩ hs e
   obtain ⟨o',eb⟩:=o.env e J2
   exact ⟨st _ _ _ p J2 (e.down J2),b.cells e.1.size eb,o'⟩
 · intro l W x ⟨p,b,o⟩ hs e hl hx
   refine (ca l W x p J2 e hl hx).mono ?_
   rintro e w' ⟨h1,h2,h3⟩
   obtain ⟨o',eb⟩:=o.mid h3 nrf
   exact ⟨h1,⟨h2,b.cells h3.1.size eb,o'⟩,h3.wide J2⟩
def RetT (w0:World) (cs:List (Nat × Nat × Value)) (V:World):Prop:=Ext w0 V∧∀ q ∈ cs,w0.heap.size≤q.1∧V.cell? ⟨q.1,q.2.1,none⟩ = some q.2.2∧V.frozen? ⟨q.1,q.2.1,none⟩ = false
theorem RetT.ext {w0 V V':World} {cs:List (Nat × Nat × Value)} (h:RetT w0 cs V) (e:Ext V V'):RetT w0 cs V' :=
 ⟨h.1.trans e,fun q hq=>by
   obtain ⟨h1,h2,h3⟩:=h.2 q hq
   have z:=World.block_lt_of_cell? _ _ h2
   exact ⟨h1,(e.cell.1 _ _ z).trans h2,(e.cell.2 _ _ z).trans h3⟩⟩
theorem RetT.drew {w0 V:World} {cs:List (Nat × Nat × Value)} (h:RetT w0 cs V):RetT w0 cs V.drew:=h.ext xr.drew
theorem RetT.drewN {w0 V:World} {cs:List (Nat × Nat × Value)} {n:Nat} (h:RetT w0 cs V):RetT w0 cs (V.drewN n):=h.ext (xr.drewN n)
theorem RetT.set {w0 V:World} {cs:List (Nat × Nat × Value)} {b o:Nat} {v:Value} (h:RetT w0 cs V) (hm:(b,o,v) ∈ cs):RetT w0 cs (V.setCell ⟨b,o,none⟩ v):=by
 obtain ⟨m1,m2,m3⟩:=h.2 _ hm
 refine ⟨h.1.setCell m1 _,fun q hq=>?_⟩
 obtain ⟨h1,h2,h3⟩:=h.2 q hq
 refine ⟨h1,?_,by simpa [go_sem] using h3⟩
 by_cases hc:q.1 = b∧q.2.1 = o
 · obtain ⟨rfl,rfl⟩:=hc
   have:some q.2.2 = some v:=h2.symm.trans m2
   rw [wSa _ _ _ (by rw [h2])]
   exact this.symm
 · rw [wO _ _ _ _ (by simp;intro e1 e2;exact hc ⟨e1.symm,e2.symm⟩)]
   exact h2
theorem RetT.put {w0 V:World} {cs:List (Nat × Nat × Value)} {b:Nat} {o0 o1 o2 o3:Value} (h:RetT w0 cs V) (hb:w0.heap.size≤b) (hn:∀ q ∈ cs,b≠q.1) (B:Blk V b o0 o1 o2 o3) (x0 x1 x2 x3:Value) :
   RetT w0 (cs ++ [(b,0,x0),(b,1,x1),(b,2,x2),(b,3,x3)]) (put4 V b x0 x1 x2 x3):=by
 obtain ⟨_,⟨k0,k1,k2,k3⟩,f0,f1,f2,f3⟩:=B.set x0 x1 x2 x3
 refine ⟨(((h.1.setCell hb _).setCell hb _).setCell hb _).setCell hb _,fun q hq=>?_⟩
 rcases List.mem_append.1 hq with hq | hq
 · obtain ⟨h1,h2,h3⟩:=h.2 q hq
   have:=hn q hq
   refine ⟨h1,?_,?_⟩
   · unfold put4
     iterate 4 rw [wFa _ _ _ _ this]
     exact h2
   · unfold put4
     simpa [go_sem] using h3
 · simp only [List.mem_cons,List.not_mem_nil,or_false] at hq
   rcases hq with rfl | rfl | rfl | rfl
   · exact ⟨hb,k0,f0⟩
   · exact ⟨hb,k1,f1⟩
   · exact ⟨hb,k2,f2⟩
   · exact ⟨hb,k3,f3⟩
def Zer (W:World) (b:Nat):Prop:=Blk W b (.int .i64 0) (.int .i64 0) (.string ⟨#[]⟩) (.int .i64 0)∧Own4 W b
theorem total_any (w0:World) (gs:List Ag) (p:Option Addr) (n c:Nat) (hA:RdA w0.heap.size w0 (.slice p n c) gs) (hI:AgI gs) (hlen:(seen gs).length≤10000000000) (hal:gs.length≤10000000000) (hN:Nm w0) :
   Calls Tryz.prog 228 #[.slice p n c] w0 fun e w'=>e = .returned (.tuple #[.agg #[.int .i64 (hiOf (sumN (got numF (seen gs)))),.int .u64 (loOf (sumN (got numF (seen gs))))],.int .i64 ((got numF (seen gs)).length:Int),(bad numF (seen gs)).dat])∧Ext w0 w':=by
 have HF:Hid (FnC w0 (w0.heap.size+3) (.func (.func 264) #[] #[.pointer (some ⟨w0.heap.size,0,none⟩),.pointer (some ⟨w0.heap.size+1,0,none⟩)]) encV V.ok (fun l W=>Tot w0.heap.size l W∧Zer W (w0.heap.size+2))):=(tot_fn w0 w0.heap.size _ nrf nrf).keep _ _ _ _
 have H0:Hid (RdA w0.heap.size w0 (.slice p n c) gs∧AgI gs∧(seen gs).length≤10000000000∧gs.length≤10000000000∧Nm w0):=⟨hA,hI,hlen,hal,hN⟩
 clear hA hI hlen hal hN
 go_enter func228,ntmps228
 go_wp2_with fail
 generalize hW3:((w0.alloc _).alloc _).alloc _ = W3
 have z3:W3.heap.size = w0.heap.size+3:=J105
 have E3:Ext w0 W3:=J106
 have HT:Tot w0.heap.size [] W3:=by
   refine ⟨by omega,?_,?_,?_,?_,?_,?_⟩
   all_goals (rw [← hW3];simp [go_sem,sumN];try decide)
 have B3:Blk W3 (w0.heap.size+2) (.int .i64 0) (.int .i64 0) (.string ⟨#[]⟩) (.int .i64 0):=by rw [← hW3];exact blk_top J65 xr
 have O3:Own4 W3 (w0.heap.size+2):=by rw [← hW3];exact Own4.at J65 J9 xr
 refine (through_any w0 gs _ _ numF (fun l W=>Tot w0.heap.size l W∧Zer W (w0.heap.size+2)) W3 p n c (turn_number w0 H0.out.2.2.2.2) (by rw [z3];exact HF.out) numF_okk (H0.out.1.low (Below.mono E3 nrf)) H0.out.2.1 H0.out.2.2.1 H0.out.2.2.2.1 ⟨HT,B3,O3⟩ E3 H0.out.2.2.2.2).mono ?_
 rintro e w4 ⟨rfl,⟨T4,B4,O4⟩,X4⟩
 obtain ⟨c0z,⟨c0_0,c0_1,c0_2,c0_3⟩,c0f0,c0f1,c0f2,c0f3⟩:=B4
 have HB4:Hid (Blk w4 (w0.heap.size+2) (.int .i64 0) (.int .i64 0) (.string ⟨#[]⟩) (.int .i64 0)):=⟨c0z,⟨c0_0,c0_1,c0_2,c0_3⟩,c0f0,c0f1,c0f2,c0f3⟩
 obtain ⟨tz,t0,t1,t2,g0,g1,g2⟩:=T4
 have HD:Hid ((bad numF (seen gs)).dat = .agg #[.int .i64 (bad numF (seen gs)).k,.int .i64 (bad numF (seen gs)).n,.string (bad numF (seen gs)).s,.int .i64 (bad numF (seen gs)).e]):=dat_eq _
 have hD:=dat_eq (bad numF (seen gs))
 obtain ⟨A0,hA0⟩:∃ q,hiOf (sumN (got numF (seen gs))) = q:=⟨_,rfl⟩
 obtain ⟨A1,hA1⟩:∃ q,loOf (sumN (got numF (seen gs))) = q:=⟨_,rfl⟩
 obtain ⟨C0,hC0⟩:∃ q:Int,((got numF (seen gs)).length:Int) = q:=⟨_,rfl⟩
 obtain ⟨zk,hzk⟩:∃ q,(bad numF (seen gs)).k = q:=⟨_,rfl⟩
 obtain ⟨zn,hzn⟩:∃ q,(bad numF (seen gs)).n = q:=⟨_,rfl⟩
 obtain ⟨zs',hzs⟩:∃ q,(bad numF (seen gs)).s = q:=⟨_,rfl⟩
 obtain ⟨ze,hze⟩:∃ q,(bad numF (seen gs)).e = q:=⟨_,rfl⟩
 have HR:Hid (hiOf (sumN (got numF (seen gs))) = A0∧loOf (sumN (got numF (seen gs))) = A1∧((got numF (seen gs)).length:Int) = C0):=⟨hA0,hA1,hC0⟩
 rw [hzk,hzn,hzs,hze] at HD hD
 rw [hA0] at t0
 rw [hA1] at t1
 rw [hC0] at t2
 rw [hD]
 clear hA0 hA1 hC0 hzk hzn hzs hze hW3 z3 E3 HT B3 O3 O4 hD
 have HR4:Hid (RetT w0 [(w0.heap.size,0,.int .i64 A0),(w0.heap.size,1,.int .u64 A1),(w0.heap.size+1,0,.int .i64 C0)] w4):=by
   refine ⟨X4,fun q hq=>?_⟩
   simp only [List.mem_cons,List.not_mem_nil,or_false] at hq
   rcases hq with rfl | rfl | rfl
   · exact ⟨Nat.le_refl _,t0,g0⟩
   · exact ⟨Nat.le_refl _,t1,g1⟩
   · exact ⟨Nat.le_succ _,t2,g2⟩
 clear X4
 have tz0:w0.heap.size < w4.heap.size:=J2
 go_wp2_with fail
 generalize hW5:World.setCell _ ⟨w0.heap.size+1+1,3,none⟩ _ = W5
 have HR5:RetT w0 [(w0.heap.size,0,.int .i64 A0),(w0.heap.size,1,.int .u64 A1),(w0.heap.size+1,0,.int .i64 C0),(w0.heap.size+2,0,.int .i64 zk),(w0.heap.size+2,1,.int .i64 zn),(w0.heap.size+2,2,.string zs'),(w0.heap.size+2,3,.int .i64 ze)] W5:=by
   rw [← hW5]
   exact HR4.out.put (b:=w0.heap.size+2) J2 (by intro q hq;simp only [List.mem_cons,List.not_mem_nil,or_false] at hq;rcases hq with rfl | rfl | rfl <;> (show w0.heap.size+2≠_;omega)) HB4.out _ _ _ _
 clear hW5 tz0 tz g0 g1 g2 t0 t1 t2 c0z c0_0 c0_1 c0_2 c0_3 c0f0 c0f1 c0f2 c0f3 HB4 HR4 HF
 have mkS:Hid (∀ V,RetT w0 [(w0.heap.size,0,.int .i64 A0),(w0.heap.size,1,.int .u64 A1),(w0.heap.size+1,0,.int .i64 C0),(w0.heap.size+2,0,.int .i64 zk),(w0.heap.size+2,1,.int .i64 zn),(w0.heap.size+2,2,.string zs'),(w0.heap.size+2,3,.int .i64 ze)] V →
     (((V.cell? ⟨w0.heap.size,0,none⟩ = some (.int .i64 A0)∧V.cell? ⟨w0.heap.size,1,none⟩ = some (.int .u64 A1)∧V.cell? ⟨w0.heap.size+1,0,none⟩ = some (.int .i64 C0)∧V.cell? ⟨w0.heap.size+2,0,none⟩ = some (.int .i64 zk)∧V.cell? ⟨w0.heap.size+2,1,none⟩ = some (.int .i64 zn)∧V.cell? ⟨w0.heap.size+2,2,none⟩ = some (.string zs')∧V.cell? ⟨w0.heap.size+2,3,none⟩ = some (.int .i64 ze)) ∧
      (V.frozen? ⟨w0.heap.size,0,none⟩ = false∧V.frozen? ⟨w0.heap.size,1,none⟩ = false∧V.frozen? ⟨w0.heap.size+1,0,none⟩ = false∧V.frozen? ⟨w0.heap.size+2,0,none⟩ = false∧V.frozen? ⟨w0.heap.size+2,1,none⟩ = false∧V.frozen? ⟨w0.heap.size+2,2,none⟩ = false∧V.frozen? ⟨w0.heap.size+2,3,none⟩ = false)) ∧
      RetT w0 [(w0.heap.size,0,.int .i64 A0),(w0.heap.size,1,.int .u64 A1),(w0.heap.size+1,0,.int .i64 C0),(w0.heap.size+2,0,.int .i64 zk),(w0.heap.size+2,1,.int .i64 zn),(w0.heap.size+2,2,.string zs'),(w0.heap.size+2,3,.int .i64 ze)] V)):=by
   intro V h
   exact ⟨⟨⟨(h.2 (_,_,_) J65).2.1,(h.2 (_,_,_) J65).2.1,(h.2 (_,_,_) J65).2.1,(h.2 (_,_,_) J65).2.1,(h.2 (_,_,_) J65).2.1,(h.2 (_,_,_) J65).2.1,(h.2 (_,_,_) J65).2.1⟩,
     (h.2 (_,_,.int .i64 A0) J65).2.2,(h.2 (_,_,.int .u64 A1) J65).2.2,(h.2 (_,_,.int .i64 C0) J65).2.2,(h.2 (_,_,.int .i64 zk) J65).2.2,(h.2 (_,_,.int .i64 zn) J65).2.2,(h.2 (_,_,.string zs') J65).2.2,(h.2 (_,_,.int .i64 ze) J65).2.2⟩,h⟩
 have X5:Hid (Ext w0 W5):=HR5.1
 obtain ⟨⟨⟨k0,k1,k2,k3,k4,k5,k6⟩,f0,f1,f2,f3,f4,f5,f6⟩,_⟩:=mkS.out _ HR5
 have zz:w0.heap.size+2 < W5.heap.size:=World.block_lt_of_cell? _ _ k3
 have zz1:w0.heap.size+1 < W5.heap.size:=World.block_lt_of_cell? _ _ k2
 have zz0:w0.heap.size < W5.heap.size:=World.block_lt_of_cell? _ _ k0
 clear HR5
 have HR6:Hid (RetT w0 [(w0.heap.size,0,.int .i64 A0),(w0.heap.size,1,.int .u64 A1),(w0.heap.size+1,0,.int .i64 C0),(w0.heap.size+2,0,.int .i64 zk),(w0.heap.size+2,1,.int .i64 zn),(w0.heap.size+2,2,.string zs'),(w0.heap.size+2,3,.int .i64 ze)] W5):=by
   refine ⟨X5.out,fun q hq=>?_⟩
   simp only [List.mem_cons,List.not_mem_nil,or_false] at hq
   rcases hq with rfl | rfl | rfl | rfl | rfl | rfl | rfl
   · exact ⟨Nat.le_refl _,k0,f0⟩
   · exact ⟨Nat.le_refl _,k1,f1⟩
   · exact ⟨Nat.le_succ _,k2,f2⟩
   · exact ⟨by show _≤_+2;omega,k3,f3⟩
   · exact ⟨by show _≤_+2;omega,k4,f4⟩
   · exact ⟨by show _≤_+2;omega,k5,f5⟩
   · exact ⟨by show _≤_+2;omega,k6,f6⟩
 go_region
 all_goals
   go_wp2_with fail
   clear k0 k1 k2 k3 k4 k5 k6 f0 f1 f2 f3 f4 f5 f6 zz zz1 zz0
   generalize hW6:World.drew _ = W6
   have R6:=mkS.out W6 (by rw [← hW6];with_reducible repeat (first | exact HR6.out | apply RetT.drewN | apply RetT.drew | (refine RetT.set ?_ J65)))
   obtain ⟨⟨⟨k0,k1,k2,k3,k4,k5,k6⟩,_⟩,R6⟩:=R6
   refine bodyPost_ret (v:=.tuple #[.agg #[.int .i64 A0,.int .u64 A1],.int .i64 C0,.agg #[.int .i64 zk,.int .i64 zn,.string zs',.int .i64 ze]]) (by simp [results,results228,go_sem,k0,k1,k2,k3,k4,k5,k6]) rfl ⟨?_,R6.1⟩
   rw [HR.out.1,HR.out.2.1,HR.out.2.2,HD.out]
structure Pol (g:Nat) (l:List V) (W:World):Prop where
 z:g+1 < W.heap.size
 c0:W.cell? ⟨g,0,none⟩ = some (.int .i64 (l.length:Int))
 t0:W.cell? ⟨g+1,0,none⟩ = some (.int .i64 (truN l:Int))
 f0:W.frozen? ⟨g,0,none⟩ = false
 f1:W.frozen? ⟨g+1,0,none⟩ = false
theorem Pol.env {g hi:Nat} {l:List V} {W W':World} (h:Pol g l W) (e:Env hi W W') (hg:g+2≤hi):Pol g l W':=by
 obtain ⟨z,c0,t0,f0,f1⟩:=h
 have k0:=e.at (b:=g) J2
 have k1:=e.at (b:=g+1) J2
 exact ⟨llL z e.1.size,(k0 0).1.trans c0,(k1 0).1.trans t0,(k0 0).2.trans f0,(k1 0).2.trans f1⟩
theorem Pol.put0 {g:Nat} {l:List V} {W:World} {x:V} (h:Pol g l W) (hx:x.n = 0) (wk:wrap64 ((l.length:Int)+1) = ((l.length+1:Nat):Int)) :
   Pol g (l ++ [x]) (W.setCell ⟨g,0,none⟩ (.int .i64 (wrap64 ((l.length:Int)+1)))):=by
 obtain ⟨z,c0,t0,f0,f1⟩:=h
 have es:truN (l ++ [x]) = truN l:=by rw [truN_app];simp [truN,hx]
 have el:(l ++ [x]).length = l.length+1:=J65
 refine ⟨by simpa [World.setCell] using z,?_,?_,by simpa [go_sem] using f0,by simpa [go_sem] using f1⟩
 · rw [el,← wk];exact wSa _ _ _ (by rw [c0])
 · rw [es,wFa _ _ _ _ J65];exact t0
theorem Pol.put1 {g:Nat} {l:List V} {W:World} {x:V} (h:Pol g l W) (hx:x.n≠0) (wk:wrap64 ((l.length:Int)+1) = ((l.length+1:Nat):Int)) (wt:wrap64 ((truN l:Int)+1) = ((truN l+1:Nat):Int)) :
   Pol g (l ++ [x]) ((W.setCell ⟨g,0,none⟩ (.int .i64 (wrap64 ((l.length:Int)+1)))).setCell ⟨g+1,0,none⟩ (.int .i64 (wrap64 ((truN l:Int)+1)))):=by
 obtain ⟨z,c0,t0,f0,f1⟩:=h
 have es:truN (l ++ [x]) = truN l+1:=by rw [truN_app];simp [truN,hx]
 have el:(l ++ [x]).length = l.length+1:=J65
 refine ⟨by simpa [World.setCell] using z,?_,?_,by simpa [go_sem] using f0,by simpa [go_sem] using f1⟩
 · rw [el,← wk,wFa _ _ _ _ J65];exact wSa _ _ _ (by rw [c0])
 · rw [es,← wt];exact wSa _ _ _ (by rw [wFa _ _ _ _ J65,t0])
theorem pol1_any (w0:World) (g:Nat) (hg:w0.heap.size≤g) (l:List V) (W:World) (x:V) (h:Pol g l W) (hE:Ext w0 W) (hl:l.length≤20000000000) :
   Calls Tryz.prog 268 (encV x ++ #[.pointer (some ⟨g,0,none⟩),.pointer (some ⟨g+1,0,none⟩)]) W fun e w'=>e = .returned (.tuple #[])∧Pol g (l ++ [x]) w'∧Mid w0.heap.size (g+2) W w':=by
 have WK:Hid (wrap64 ((l.length:Int)+1) = ((l.length+1:Nat):Int)):=wrap_1 _ J2
 have WT:Hid (wrap64 ((truN l:Int)+1) = ((truN l+1:Nat):Int)):=wrap_1 _ (by have:=truN_le l;omega)
 have H:Hid (Pol g l W):=h
 obtain ⟨z,c0,t0,f0,f1⟩:=h
 have H0:Hid (w0.heap.size≤g∧Ext w0 W):=⟨hg,hE⟩
 have zg:g < W.heap.size:=J2
 rw [show encV x = #[x.dat] from rfl,dat_eq x]
 have HP0:Hid (∀ o,x.n = 0→Pol g (l ++ [x]) ((W.setCell ⟨g,0,none⟩ (.int .i64 (wrap64 ((l.length:Int)+1)))).alloc o)):=fun o hx =>
   have q:=H.out.put0 hx WK.out
   q.env ((xr.alloc o).env (hi:=g+2) q.z) nrf
 have HP1:Hid (∀ o,x.n≠0→Pol g (l ++ [x]) (((W.setCell ⟨g,0,none⟩ (.int .i64 (wrap64 ((l.length:Int)+1)))).setCell ⟨g+1,0,none⟩ (.int .i64 (wrap64 ((truN l:Int)+1)))).alloc o)):=fun o hx =>
   have q:=H.out.put1 hx WK.out WT.out
   q.env ((xr.alloc o).env (hi:=g+2) q.z) nrf
 clear hg hE hl
 have X0:Hid (∀ v,Mid w0.heap.size (g+2) W (W.setCell ⟨g,0,none⟩ v)):=fun v=>((Ext.refl W).mid H0.out.2.size _).set H0.out.1 J2 _ _
 have X1:Hid (∀ v u,Mid w0.heap.size (g+2) W ((W.setCell ⟨g,0,none⟩ v).setCell ⟨g+1,0,none⟩ u)):=fun v u=>(X0.out v).set (by have:=H0.out.1;omega) J2 _ _
 obtain ⟨xk,hxk⟩:∃ q,x.k = q:=⟨_,rfl⟩
 obtain ⟨xn,hxn⟩:∃ q,x.n = q:=⟨_,rfl⟩
 obtain ⟨xs,hxs⟩:∃ q,x.s = q:=⟨_,rfl⟩
 obtain ⟨xe,hxe⟩:∃ q,x.e = q:=⟨_,rfl⟩
 rw [hxk,hxn,hxs,hxe]
 rw [hxn] at HP0 HP1
 clear hxk hxn hxs hxe
 by_cases hx:xn = 0
 · have en:(xn != 0) = false:=by simpa using hx
   have HX:Hid (xn = 0):=hx
   clear hx
   go_enter func268,ntmps268
   exact K122
 · have en:(xn != 0) = true:=by simpa using hx
   have HX:Hid (xn≠0):=hx
   clear hx
   go_enter func268,ntmps268
   exact K77
theorem ent_pol1:∀ args W,(callFunc 268 args).run Tryz.prog W = .ok (.enter 268 args) W:=enters_of func268 J3 rfl
theorem pol_fn (w0:World) (g hi:Nat) (hg:w0.heap.size≤g) (hh:g+2≤hi):FnC w0 hi (.func (.func 268) #[] #[.pointer (some ⟨g,0,none⟩),.pointer (some ⟨g+1,0,none⟩)]) encV V.ok (fun l W=>Pol g l W):=by
 refine ⟨_,_,rfl,ent_pol1,?_,?_⟩
 · intro l W W' h hs e
   exact h.env e hh
 · intro l W x h hs e hl hx
   exact (pol1_any w0 g hg l W x h e hl).mono (fun e w' q=>⟨q.1,q.2.1,q.2.2.wide hh⟩)
theorem toBool_ok (x:V) (h:x.ok):x.toBool.ok:=by
 cases x with
 | blank=>trivial
 | tf b=>trivial
 | num n=>trivial
 | text s =>
   show (if s.data.toList = trueL then V.tf true else if s.data.toList = falseL then V.tf false else V.err 2).ok
   split
   · trivial
   · split
     · trivial
     · exact K79
 | err e=>exact h
theorem truF_okk (x:V) (a:Bool) (h:x.ok):(truF x a).ok:=by
 cases a with
 | false=>exact toBool_ok x h
 | true =>
   cases x with
   | blank=>trivial
   | text s=>trivial
   | tf b=>exact toBool_ok _ h
   | num n=>exact toBool_ok _ h
   | err e=>exact toBool_ok _ h
theorem poll_any (w0:World) (gs:List Ag) (p:Option Addr) (n c:Nat) (hA:RdA w0.heap.size w0 (.slice p n c) gs) (hI:AgI gs) (hlen:(seen gs).length≤10000000000) (hal:gs.length≤10000000000) (hN:Nm w0) :
   Calls Tryz.prog 234 #[.slice p n c] w0 fun e w'=>e = .returned (.tuple #[.int .i64 ((got truF (seen gs)).length:Int),.int .i64 (truN (got truF (seen gs)):Int),(bad truF (seen gs)).dat])∧Ext w0 w':=by
 have HF:Hid (FnC w0 (w0.heap.size+3) (.func (.func 268) #[] #[.pointer (some ⟨w0.heap.size,0,none⟩),.pointer (some ⟨w0.heap.size+1,0,none⟩)]) encV V.ok (fun l W=>Pol w0.heap.size l W∧Zer W (w0.heap.size+2))):=(pol_fn w0 w0.heap.size _ nrf nrf).keep _ _ _ _
 have H0:Hid (RdA w0.heap.size w0 (.slice p n c) gs∧AgI gs∧(seen gs).length≤10000000000∧gs.length≤10000000000∧Nm w0):=⟨hA,hI,hlen,hal,hN⟩
 clear hA hI hlen hal hN
 go_enter func234,ntmps234
 go_wp2_with fail
 generalize hW3:((w0.alloc _).alloc _).alloc _ = W3
 have z3:W3.heap.size = w0.heap.size+3:=J105
 have E3:Ext w0 W3:=J106
 have HT:Pol w0.heap.size [] W3:=by
   refine ⟨by omega,?_,?_,?_,?_⟩
   all_goals (rw [← hW3];simp [go_sem,truN])
 have B3:Blk W3 (w0.heap.size+2) (.int .i64 0) (.int .i64 0) (.string ⟨#[]⟩) (.int .i64 0):=by rw [← hW3];exact blk_top J65 xr
 have O3:Own4 W3 (w0.heap.size+2):=by rw [← hW3];exact Own4.at J65 J9 xr
 refine (through_any w0 gs _ _ truF (fun l W=>Pol w0.heap.size l W∧Zer W (w0.heap.size+2)) W3 p n c (turn_truth w0 H0.out.2.2.2.2) (by rw [z3];exact HF.out) truF_okk (H0.out.1.low (Below.mono E3 nrf)) H0.out.2.1 H0.out.2.2.1 H0.out.2.2.2.1 ⟨HT,B3,O3⟩ E3 H0.out.2.2.2.2).mono ?_
 rintro e w4 ⟨rfl,⟨T4,B4,O4⟩,X4⟩
 obtain ⟨c0z,⟨c0_0,c0_1,c0_2,c0_3⟩,c0f0,c0f1,c0f2,c0f3⟩:=B4
 have HB4:Hid (Blk w4 (w0.heap.size+2) (.int .i64 0) (.int .i64 0) (.string ⟨#[]⟩) (.int .i64 0)):=⟨c0z,⟨c0_0,c0_1,c0_2,c0_3⟩,c0f0,c0f1,c0f2,c0f3⟩
 obtain ⟨tz,t0,t1,g0,g1⟩:=T4
 have HD:Hid ((bad truF (seen gs)).dat = .agg #[.int .i64 (bad truF (seen gs)).k,.int .i64 (bad truF (seen gs)).n,.string (bad truF (seen gs)).s,.int .i64 (bad truF (seen gs)).e]):=dat_eq _
 have hD:=dat_eq (bad truF (seen gs))
 obtain ⟨A0,hA0⟩:∃ q:Int,((got truF (seen gs)).length:Int) = q:=⟨_,rfl⟩
 obtain ⟨A1,hA1⟩:∃ q:Int,(truN (got truF (seen gs)):Int) = q:=⟨_,rfl⟩
 obtain ⟨zk,hzk⟩:∃ q,(bad truF (seen gs)).k = q:=⟨_,rfl⟩
 obtain ⟨zn,hzn⟩:∃ q,(bad truF (seen gs)).n = q:=⟨_,rfl⟩
 obtain ⟨zs',hzs⟩:∃ q,(bad truF (seen gs)).s = q:=⟨_,rfl⟩
 obtain ⟨ze,hze⟩:∃ q,(bad truF (seen gs)).e = q:=⟨_,rfl⟩
 have HR:Hid (((got truF (seen gs)).length:Int) = A0∧(truN (got truF (seen gs)):Int) = A1):=⟨hA0,hA1⟩
 rw [hzk,hzn,hzs,hze] at HD hD
 rw [hA0] at t0
 rw [hA1] at t1
 rw [hD]
 clear hA0 hA1 hzk hzn hzs hze hW3 z3 E3 HT B3 O3 O4 hD
 have HR4:Hid (RetT w0 [(w0.heap.size,0,.int .i64 A0),(w0.heap.size+1,0,.int .i64 A1)] w4):=by
   refine ⟨X4,fun q hq=>?_⟩
   simp only [List.mem_cons,List.not_mem_nil,or_false] at hq
   rcases hq with rfl | rfl
   · exact ⟨Nat.le_refl _,t0,g0⟩
   · exact ⟨Nat.le_succ _,t1,g1⟩
 clear X4
 have tz0:w0.heap.size < w4.heap.size:=J2
 go_wp2_with fail
 generalize hW5:World.setCell _ ⟨w0.heap.size+1+1,3,none⟩ _ = W5
 have HR5:RetT w0 [(w0.heap.size,0,.int .i64 A0),(w0.heap.size+1,0,.int .i64 A1),(w0.heap.size+2,0,.int .i64 zk),(w0.heap.size+2,1,.int .i64 zn),(w0.heap.size+2,2,.string zs'),(w0.heap.size+2,3,.int .i64 ze)] W5:=by
   rw [← hW5]
   exact HR4.out.put (b:=w0.heap.size+2) J2 (by intro q hq;simp only [List.mem_cons,List.not_mem_nil,or_false] at hq;rcases hq with rfl | rfl <;> (show w0.heap.size+2≠_;omega)) HB4.out _ _ _ _
 clear hW5 tz0 tz g0 g1 t0 t1 c0z c0_0 c0_1 c0_2 c0_3 c0f0 c0f1 c0f2 c0f3 HB4 HR4 HF
 have mkS:Hid (∀ V,RetT w0 [(w0.heap.size,0,.int .i64 A0),(w0.heap.size+1,0,.int .i64 A1),(w0.heap.size+2,0,.int .i64 zk),(w0.heap.size+2,1,.int .i64 zn),(w0.heap.size+2,2,.string zs'),(w0.heap.size+2,3,.int .i64 ze)] V →
     (((V.cell? ⟨w0.heap.size,0,none⟩ = some (.int .i64 A0)∧V.cell? ⟨w0.heap.size+1,0,none⟩ = some (.int .i64 A1)∧V.cell? ⟨w0.heap.size+2,0,none⟩ = some (.int .i64 zk)∧V.cell? ⟨w0.heap.size+2,1,none⟩ = some (.int .i64 zn)∧V.cell? ⟨w0.heap.size+2,2,none⟩ = some (.string zs')∧V.cell? ⟨w0.heap.size+2,3,none⟩ = some (.int .i64 ze)) ∧
      (V.frozen? ⟨w0.heap.size,0,none⟩ = false∧V.frozen? ⟨w0.heap.size+1,0,none⟩ = false∧V.frozen? ⟨w0.heap.size+2,0,none⟩ = false∧V.frozen? ⟨w0.heap.size+2,1,none⟩ = false∧V.frozen? ⟨w0.heap.size+2,2,none⟩ = false∧V.frozen? ⟨w0.heap.size+2,3,none⟩ = false)) ∧
      RetT w0 [(w0.heap.size,0,.int .i64 A0),(w0.heap.size+1,0,.int .i64 A1),(w0.heap.size+2,0,.int .i64 zk),(w0.heap.size+2,1,.int .i64 zn),(w0.heap.size+2,2,.string zs'),(w0.heap.size+2,3,.int .i64 ze)] V)):=by
   intro V h
   exact ⟨⟨⟨(h.2 (_,_,_) J65).2.1,(h.2 (_,_,_) J65).2.1,(h.2 (_,_,_) J65).2.1,(h.2 (_,_,_) J65).2.1,(h.2 (_,_,_) J65).2.1,(h.2 (_,_,_) J65).2.1⟩,
     (h.2 (_,_,.int .i64 A0) J65).2.2,(h.2 (_,_,.int .i64 A1) J65).2.2,(h.2 (_,_,.int .i64 zk) J65).2.2,(h.2 (_,_,.int .i64 zn) J65).2.2,(h.2 (_,_,.string zs') J65).2.2,(h.2 (_,_,.int .i64 ze) J65).2.2⟩,h⟩
 have X5:Hid (Ext w0 W5):=HR5.1
 obtain ⟨⟨⟨k0,k2,k3,k4,k5,k6⟩,f0,f2,f3,f4,f5,f6⟩,_⟩:=mkS.out _ HR5
 have zz:w0.heap.size+2 < W5.heap.size:=World.block_lt_of_cell? _ _ k3
 have zz1:w0.heap.size+1 < W5.heap.size:=World.block_lt_of_cell? _ _ k2
 have zz0:w0.heap.size < W5.heap.size:=World.block_lt_of_cell? _ _ k0
 clear HR5
 have HR6:Hid (RetT w0 [(w0.heap.size,0,.int .i64 A0),(w0.heap.size+1,0,.int .i64 A1),(w0.heap.size+2,0,.int .i64 zk),(w0.heap.size+2,1,.int .i64 zn),(w0.heap.size+2,2,.string zs'),(w0.heap.size+2,3,.int .i64 ze)] W5):=by
   refine ⟨X5.out,fun q hq=>?_⟩
   simp only [List.mem_cons,List.not_mem_nil,or_false] at hq
   rcases hq with rfl | rfl | rfl | rfl | rfl | rfl
   · exact ⟨Nat.le_refl _,k0,f0⟩
   · exact ⟨Nat.le_succ _,k2,f2⟩
   · exact ⟨by show _≤_+2;omega,k3,f3⟩
   · exact ⟨by show _≤_+2;omega,k4,f4⟩
   · exact ⟨by show _≤_+2;omega,k5,f5⟩
   · exact ⟨by show _≤_+2;omega,k6,f6⟩
 go_region
 all_goals
   go_wp2_with fail
   clear k0 k2 k3 k4 k5 k6 f0 f2 f3 f4 f5 f6 zz zz1 zz0
   generalize hW6:World.drew _ = W6
   have R6:=mkS.out W6 (by rw [← hW6];with_reducible repeat (first | exact HR6.out | apply RetT.drewN | apply RetT.drew | (refine RetT.set ?_ J65)))
   obtain ⟨⟨⟨k0,k2,k3,k4,k5,k6⟩,_⟩,R6⟩:=R6
   refine bodyPost_ret (v:=.tuple #[.int .i64 A0,.int .i64 A1,.agg #[.int .i64 zk,.int .i64 zn,.string zs',.int .i64 ze]]) (by simp [results,results234,go_sem,k0,k2,k3,k4,k5,k6]) rfl ⟨?_,R6.1⟩
   rw [HR.out.1,HR.out.2,HD.out]
end Go.Proofs.YtcfgbiaahangmaaGreatDoor
