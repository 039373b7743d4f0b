import Derived.Maps.RangeWalk
import Derived.DeepKeys5
import Derived.Test.YtcfgbiaahangmaaGreatDoorT29
set_option maxHeartbeats 2000000
set_option maxRecDepth 100000
namespace Go.Proofs.YtcfgbiaahangmaaGreatDoor
open Go.Proofs.Tryz
open Go.RowKit
open Go.Maps (Keyed)
theorem kLaw : Keyed Tryz.prog 24:=Keyed.of_law (deep_law_laid (m:=3) J3 J6 (of_decide_eq_true J3) J3 J3)
theorem kType : Tryz.prog.keyType 24 = true:=J3
theorem kCells : Tryz.prog.cellsOf 24 = 2:=J3
theorem kInt : Tryz.prog.cellsOf 3 = 1:=J3
theorem kSize : ∃ m,Tryz.prog.types.size = m + 1:=⟨Tryz.prog.types.size - 1,by have : 0 < Tryz.prog.types.size:=of_decide_eq_true J3;omega⟩
def plc (r c : Int) : Value:=.agg #[.int .i64 r,.int .i64 c]
def kl (r c : Int) : Lit:=.string (keyBytes [.int .i64 r,.int .i64 c])
theorem wf_i64 {n : Int} (h : I64 n) : (Lit.int .i64 n).wf = true:=WalkArith.wf_i64 (by unfold I64 at h;omega)
theorem key_mk (r c : Int) (hr : I64 r) (hc : I64 c) : keyOf Tryz.prog 24 (plc r c) = some (kl r c):=by
 obtain ⟨m,hm⟩:=kSize
 unfold keyOf plc
 simp only [Tryz.underlying24]
 rw [if_pos (by simp [kType,Value.formed,Tryz.underlying24,kCells]),hm]
 unfold Program.keyLits
 simp only [Tryz.underlying24,Value.cells]
 rw [if_pos (by rw [kCells];simp)]
 simp [Program.keyLits,kInt,Tryz.underlying3,wf_i64 hr,wf_i64 hc,kl]
theorem kl_inj {r c r' c' : Int} (hr : I64 r) (hc : I64 c) (hr' : I64 r') (hc' : I64 c') (h : kl r c = kl r' c') : r = r' ∧ c = c':=by
 have h1:=key_mk r c hr hc
 have h2:=key_mk r' c' hr' hc'
 rw [← h] at h2
 have:=kLaw.inj h1 h2
 unfold plc at this
 simp at this
 exact this
def hR (v : Value) : Option (DataW Value × List MemPlace):=some (.held v,[])
def RelD (D : DataW Value) (M : Bov) : Prop:=∀ r c,I64 r → I64 c → D.atKey (kl r c) (.held V.blank.dat) = .held (M r c).dat ∧ (Maps.has D (kl r c) = true ↔ (M r c).k ≠ 0)
def MapB (W : World) (g n : Nat) (M : Bov) : Prop:=∃ D,W.ownsMap Tryz.prog 24 hR g n D ∧ RelD D M
theorem rel_empty : RelD (.map []) bz:=fun r c _ _=>⟨rfl,by simp [Maps.has,bz,V.k]⟩
theorem rel_put {D : DataW Value} {M : Bov} (h : RelD D M) (hD : Maps.IsMap D) (r c : Int) (hr : I64 r) (hc : I64 c) (v : V) (hv : v.k ≠ 0) : RelD (D.put (kl r c) (.held v.dat)) (bput M r c v):=by
 have hk:=kLaw.key (key_mk r c hr hc)
 intro r' c' hr' hc'
 by_cases e : r' = r ∧ c' = c
 · obtain ⟨rfl,rfl⟩:=e
   rw [Maps.atKey_put_same hD hk,Maps.has_put_same hD hk]
   unfold bput
   simp [hv]
 · have hne : kl r' c' ≠ kl r c:=fun he=>e (kl_inj hr' hc' hr hc he)
   rw [Maps.atKey_put_other hne,Maps.has_put_other hne]
   unfold bput
   rw [if_neg e]
   exact h r' c' hr' hc'
theorem rel_del {D : DataW Value} {M : Bov} (h : RelD D M) (r c : Int) (hr : I64 r) (hc : I64 c) : RelD (D.del (kl r c)) (bput M r c .blank):=by
 intro r' c' hr' hc'
 by_cases e : r' = r ∧ c' = c
 · obtain ⟨rfl,rfl⟩:=e
   rw [Maps.atKey_del_same,Maps.has_del_same]
   unfold bput
   simp [V.k]
 · have hne : kl r' c' ≠ kl r c:=fun he=>e (kl_inj hr' hc' hr hc he)
   rw [Maps.atKey_del_other hne,Maps.has_del_other hne]
   unfold bput
   rw [if_neg e]
   exact h r' c' hr' hc'
structure ExtS (S : Nat → Prop) (w w' : World) : Prop where
 os : w'.os = w.os
 tape : w'.tape = w.tape
 output : w'.output = w.output
 size : w.heap.size ≤ w'.heap.size
 block : ∀ k,k < w.heap.size → ¬ S k → w'.heap[k]? = w.heap[k]?
theorem ExtS.refl (S : Nat → Prop) (w : World) : ExtS S w w:=⟨rfl,rfl,rfl,Nat.le_refl _,fun _ _ _=>rfl⟩
theorem ExtS.trans {S : Nat → Prop} {x y z : World} (h : ExtS S x y) (k : ExtS S y z) : ExtS S x z :=
 ⟨k.os.trans h.os,k.tape.trans h.tape,k.output.trans h.output,Nat.le_trans h.size k.size,fun i hi hs=>(k.block i (llL hi h.size) hs).trans (h.block i hi hs)⟩
theorem Ext.toS {w w' : World} (h : Ext w w') (S : Nat → Prop) : ExtS S w w':=⟨h.os,h.tape,h.output,h.size,fun k hk _=>h.block k hk⟩
theorem ExtS.ext {S : Nat → Prop} {w0 w w' : World} (h : ExtS S w w') (e : Ext w0 w) (hS : ∀ k,S k → w0.heap.size ≤ k) : Ext w0 w' :=
 ⟨h.os.trans e.os,h.tape.trans e.tape,h.output.trans e.output,Nat.le_trans e.size h.size,fun k hk=>(h.block k (llL hk e.size) (fun hs=>by have:=hS k hs;omega)).trans (e.block k hk)⟩
theorem ExtS.mono {S S' : Nat → Prop} {w w' : World} (h : ExtS S w w') (hs : ∀ k,S k → S' k) : ExtS S' w w':=⟨h.os,h.tape,h.output,h.size,fun k hk hn=>h.block k hk (fun h'=>hn (hs k h'))⟩
theorem cell_of_heap {w w' : World} {k : Nat} (h : w'.heap[k]? = w.heap[k]?) (o : Nat) : w'.cell? ⟨k,o,none⟩ = w.cell? ⟨k,o,none⟩ ∧ w'.frozen? ⟨k,o,none⟩ = w.frozen? ⟨k,o,none⟩:=by
 unfold World.cell? World.frozen?
 simp only [h,and_self]
structure Brd (W : World) (b : Nat) (g : Option Nat) (n : Nat) (M : Bov) : Prop where
 lt : b < W.heap.size
 cell : W.cell? ⟨b,0,none⟩ = some (.map g)
 fz : W.frozen? ⟨b,0,none⟩ = false
 ne : g ≠ some b
 ok : BdOk M
 map : match g with | none=>M = bz | some g=>MapB W g n M
theorem MapB.lt {W : World} {g n : Nat} {M : Bov} (h : MapB W g n M) : g < W.heap.size:=by obtain ⟨D,h,_⟩:=h;exact h.lt
theorem MapB.keep {W W' : World} {g n : Nat} {M : Bov} (h : MapB W g n M) (e : W'.heap[g]? = W.heap[g]?) : MapB W' g n M:=by
 obtain ⟨D,⟨es,clock,hb,r⟩,hR⟩:=h
 exact ⟨D,⟨es,clock,e.trans hb,r⟩,hR⟩
theorem Brd.keep {W W' : World} {b n : Nat} {g : Option Nat} {M : Bov} (h : Brd W b g n M) {S : Nat → Prop} (e : ExtS S W W') (hb : ¬ S b) (hg : ∀ k,g = some k → ¬ S k) : Brd W' b g n M:=by
 have k:=cell_of_heap (e.block b h.lt hb) 0
 refine ⟨llL h.lt e.size,k.1.trans h.cell,k.2.trans h.fz,h.ne,h.ok,?_⟩
 cases g with
 | none=>exact h.map
 | some g=>exact MapB.keep h.map (e.block g (MapB.lt h.map) (hg g rfl))
theorem Brd.ext {W W' : World} {b n : Nat} {g : Option Nat} {M : Bov} (h : Brd W b g n M) (e : Ext W W') : Brd W' b g n M:=h.keep (e.toS (fun _=>False)) (fun h=>h) (fun _ _ h=>h)
def RdB (B : Nat) (W : World) (v : Value) (l : List Bg) : Prop :=
 ∃ p c,v = .slice p l.length c ∧ l.length ≤ c ∧ (l = [] ∨ ∃ b off,p = some ⟨b,off,none⟩ ∧ b < B ∧ b < W.heap.size ∧ ∀ i a,l[i]? = some a → ∃ (lv : Value),
   W.cell? ⟨b,off + i * 4,none⟩ = some (.bool a.g.area) ∧ W.cell? ⟨b,off + i * 4 + 1,none⟩ = some (.int .i64 a.rows) ∧ W.cell? ⟨b,off + i * 4 + 2,none⟩ = some (.int .i64 a.cols) ∧ W.cell? ⟨b,off + i * 4 + 3,none⟩ = some lv ∧ RdV B W lv a.g.l)
theorem RdB.low {B : Nat} {W W' : World} {v : Value} {l : List Bg} (h : RdB B W v l) (e : Below B W W') : RdB B W' v l:=by
 obtain ⟨p,c,h1,h2,h3⟩:=h
 refine ⟨p,c,h1,h2,?_⟩
 rcases h3 with h3 | ⟨b,off,h3,h4,h5,h6⟩
 · exact .inl h3
 · refine .inr ⟨b,off,h3,h4,llL h5 e.size,fun i r hr=>?_⟩
   have k:=fun o=>Below.cell e (p:=⟨b,o,none⟩) h4
   obtain ⟨lv,k0,k1,k2,k3,k4⟩:=h6 i r hr
   exact ⟨lv,(k _).trans k0,(k _).trans k1,(k _).trans k2,(k _).trans k3,k4.low e⟩
theorem RdB.up {B B' : Nat} {W : World} {v : Value} {l : List Bg} (h : RdB B W v l) (e : B ≤ B') : RdB B' W v l:=by
 obtain ⟨p,c,h1,h2,h3⟩:=h
 refine ⟨p,c,h1,h2,?_⟩
 rcases h3 with h3 | ⟨b,off,h3,h4,h5,h6⟩
 · exact .inl h3
 · refine .inr ⟨b,off,h3,llL h4 e,h5,fun i r hr=>?_⟩
   obtain ⟨lv,k0,k1,k2,k3,k4⟩:=h6 i r hr
   exact ⟨lv,k0,k1,k2,k3,k4.up e⟩
theorem RdB.to {B : Nat} {W W' : World} {v : Value} {l : List Bg} (h : RdB B W v l) (hB : B ≤ W.heap.size) (e : Ext W W') : RdB W'.heap.size W' v l:=((h.up hB).low e).up e.size
theorem RdB.at {B : Nat} {W : World} {p : Option Addr} {c n : Nat} {l : List Bg} (h : RdB B W (.slice p n c) l) {i : Nat} {a : Bg} (hi : l[i]? = some a) :
   ∃ (b off : Nat) (lv : Value),p = some ⟨b,off,none⟩ ∧ b < B ∧ b < W.heap.size ∧
     (W.cell? ⟨b,off + i * 4,none⟩ = some (.bool a.g.area) ∧ W.cell? ⟨b,off + i * 4 + 1,none⟩ = some (.int .i64 a.rows) ∧ W.cell? ⟨b,off + i * 4 + 2,none⟩ = some (.int .i64 a.cols) ∧ W.cell? ⟨b,off + i * 4 + 3,none⟩ = some lv) ∧ RdV B W lv a.g.l:=by
 obtain ⟨p',c',h1,h2,h3⟩:=h
 cases h1
 rcases h3 with h3 | ⟨b,off,h3,h4,h5,h6⟩
 · subst h3;simp at hi
 · obtain ⟨lv,k0,k1,k2,k3,k4⟩:=h6 i _ hi
   exact ⟨b,off,lv,h3,h4,h5,⟨k0,k1,k2,k3⟩,k4⟩
theorem RdB.form {B : Nat} {W : World} {v : Value} {l : List Bg} (h : RdB B W v l) : ∃ p n c,v = .slice p n c ∧ n = l.length ∧ n ≤ c:=by
 exact K96
theorem RdB.len {B : Nat} {W : World} {p : Option Addr} {c n : Nat} {l : List Bg} (h : RdB B W (.slice p n c) l) : n = l.length:=by
 obtain ⟨p',c',h1,_⟩:=h
 cases h1;rfl
theorem RdB.toA {B : Nat} {W : World} {v : Value} {l : List Bg} (h : RdB B W v l) : RdA B W v (gsOf l):=by
 obtain ⟨p,c,h1,h2,h3⟩:=h
 have e : (gsOf l).length = l.length:=by simp [gsOf]
 refine ⟨p,c,by rw [e];exact h1,by rw [e];exact h2,?_⟩
 rcases h3 with h3 | ⟨b,off,h3,h4,h5,h6⟩
 · subst h3;exact .inl rfl
 · refine .inr ⟨b,off,h3,h4,h5,fun i r hr=>?_⟩
   unfold gsOf at hr
   rw [List.getElem?_map] at hr
   cases hx : l[i]? with
   | none=>rw [hx] at hr;cases hr
   | some a =>
     rw [hx] at hr
     simp at hr
     subst hr
     obtain ⟨lv,k0,k1,k2,k3,k4⟩:=h6 i a hx
     exact ⟨_,_,lv,k0,k1,k2,k3,k4⟩
structure FitB (W : World) (v : Value) (l : List Bg) : Prop where
 rd : RdB W.heap.size W v l
 i : AgI (gsOf l)
 s : (seen (gsOf l)).length ≤ 10000000000
 z : l.length ≤ 10000000000
 r : ∀ a ∈ l,I64 a.rows ∧ I64 a.cols
theorem FitB.ext {W W' : World} {v : Value} {l : List Bg} (h : FitB W v l) (e : Ext W W') : FitB W' v l:=⟨h.rd.to nrf e,h.i,h.s,h.z,h.r⟩
theorem FitB.ok {W : World} {v : Value} {l : List Bg} (h : FitB W v l) (i : Nat) : (sg l i).ok:=by
 unfold sg
 cases hx : l[i]? with
 | none=>exact ⟨by decide,by decide⟩
 | some a =>
   show (sgl a).ok
   unfold sgl
   split
   · exact K79
   · have:=h.i a.g (by unfold gsOf;exact List.mem_map.2 ⟨a,List.mem_of_getElem? hx,rfl⟩)
     exact K163
theorem xsingle_any (l : List Bg) (i : Nat) (a : Bg) (hi : l[i]? = some a) (p : Option Addr) (n c B : Nat) (W : World) (hN : Nm W) (h : RdB B W (.slice p n c) l) (hm : n ≤ 10000000000) :
   Calls Tryz.prog 200 #[.slice p n c,.int .i64 (i : Int)] W fun e w'=>e = .returned (sgl a).dat ∧ Ext W w':=by
 have hn:=h.len
 have hlt : i < n:=by rw [hn];exact (List.getElem?_eq_some_iff.1 hi).1
 obtain ⟨b,off,lv,rfl,hb,hbW,⟨k0,k1,k2,k3⟩,hV⟩:=h.at hi
 obtain ⟨p',n',c',rfl,hn',hc'⟩:=hV.form
 have hltI : (i : Int) < (n : Int):=J2
 have hmI : (n : Int) ≤ 10000000000:=J2
 have HV : Hid (RdV B W (.slice p' n' c') a.g.l):=hV
 clear h hi hn hlt hb hV hc' hm
 have c2:=fun W h=>err_any 2 W h
 rw [mkErr_is ⟨by decide,by decide⟩] at c2
 simp only [V.dat] at c2
 cases har : a.g.area with
 | true =>
   have H : Hid (sgl a = .err 2):=by show _ = _;unfold sgl;rw [har];rfl
   rw [har] at k0
   clear har hn'
   go_enter func200,ntmps200
   go_wp2_with fail
   refine (c2 _ (hN.ext (xr.alloc _))).mono ?_
   rintro e w1 ⟨rfl,E1⟩
   obtain ⟨z,⟨b0,b1,b2,b3⟩,f0,f1,f2,f3⟩:=blk_top (b:=W.heap.size) J60 E1
   go_wp2_with fail
   exact fin4 b0 b1 b2 b3 rfl J60 ((xr.alloc _).trans E1) (fun W g0 g1 g2 g3=>by simp [results,results200,go_sem,g0,g1,g2,g3]) (fun W h=>⟨by rw [H.out];rfl,h⟩)
 | false =>
   have H : Hid (sgl a = one1 a.g.l):=by show _ = _;unfold sgl;rw [har];rfl
   rw [har] at k0
   clear har c2
   cases hl : a.g.l with
   | nil =>
     have H1 : Hid (sgl a = .blank):=by show _ = _;rw [H.out,hl];rfl
     have e0 : n' = 0:=by rw [hn',hl];rfl
     subst e0
     clear hl hn' H
     go_enter func200,ntmps200
     go_wp2_with fail
     simp [bodyPost,results,results200,go_sem]
     exact ⟨by rw [H1.out];rfl,xr.alloc _⟩
   | cons r t =>
     have H1 : Hid (sgl a = nm r.k r.n r.s r.e):=by show _ = _;rw [H.out,hl];rfl
     have hV:=HV.out
     rw [hl] at hV
     obtain ⟨b',off',r',rfl,hr,hb',hbW',j0,j1,j2,j3⟩:=hV.at (i:=0) J60
     simp at hr
     subst hr
     simp only [Nat.zero_mul,Nat.add_zero] at j0 j1 j2 j3
     have e1 : ((n' : Int) == 0) = false:=by simp;rw [hn',hl];simp
     have e2 : (0 : Int) < (n' : Int):=by rw [hn',hl];simp only [List.length_cons];omega
     have c0:=fun W h=>vnormal_any r.k r.n r.s r.e W h
     obtain ⟨q0,q1,q2,q3,hq⟩:=dat4 (nm r.k r.n r.s r.e)
     rw [hq] at c0
     have HQ : Hid ((nm r.k r.n r.s r.e).dat = .agg #[.int .i64 q0,.int .i64 q1,.string q2,.int .i64 q3]):=hq
     clear hq hV hl hn' HV H hb'
     go_enter func200,ntmps200
     go_wp2_with fail
     refine (c0 _ (hN.ext (xr.alloc _))).mono ?_
     rintro e w1 ⟨rfl,E1⟩
     obtain ⟨z,⟨b0,b1,b2,b3⟩,f0,f1,f2,f3⟩:=blk_top (b:=W.heap.size) J60 E1
     go_wp2_with fail
     exact fin4 b0 b1 b2 b3 rfl J60 ((xr.alloc _).trans E1) (fun W g0 g1 g2 g3=>by simp [results,results200,go_sem,g0,g1,g2,g3]) (fun W h=>⟨by rw [H1.out,HQ.out],h⟩)
def pan (x : Int) : Ending:=.panicked [{ v:=.iface 162 (.int .i64 x),recovered:=false }]
def RzQ {α : Type} (f : α → Value) (r : R α) (e : Ending) : Prop:=match r with
 | .ok v=>e = .returned (f v)
 | .error x=>e = pan x
theorem xmust_ok (k n : Int) (s : ByteArray) (e : Int) (hk : (k == 4) = false) (W : World) :
   Calls Tryz.prog 242 #[.agg #[.int .i64 k,.int .i64 n,.string s,.int .i64 e]] W fun r w'=>r = .returned (.agg #[.int .i64 k,.int .i64 n,.string s,.int .i64 e]) ∧ Ext W w':=by
 go_enter func242,ntmps242
 go_wp2_with fail
 simp [bodyPost,results,results242,go_sem]
 exact (xr.alloc _).alloc _
theorem xmust_no (k n : Int) (s : ByteArray) (e : Int) (hk : (k == 4) = true) (W : World) :
   Calls Tryz.prog 242 #[.agg #[.int .i64 k,.int .i64 n,.string s,.int .i64 e]] W fun r w'=>r = pan e ∧ Ext W w':=by
 go_enter func242,ntmps242
 go_wp2_with fail
 exact ⟨rfl,rfl,((xr.alloc _).alloc _)⟩
theorem nuR_ok {v : V} {n : Int} (h : v.toNum = .num n) : nuR v = .ok n:=by unfold nuR;rw [h];rfl
theorem nuR_no {v : V} {e : Int} (h : v.toNum = .err e) : nuR v = .error e:=by unfold nuR;rw [h]
theorem nuR_can {v : V} {n : Int} (hv : v.ok) (h : nuR v = .ok n) : I64 n ∧ canB n = true:=by
 rcases toNum_cases v hv with ⟨m,hm,h2⟩ | ⟨e,he,_⟩
 · rw [nuR_ok hm] at h;cases h;exact h2
 · rw [nuR_no he] at h;cases h
theorem toBool_cases (v : V) : (∃ b,v.toBool = .tf b) ∨ (∃ e,v.toBool = .err e):=by
 cases v with
 | blank=>exact .inl ⟨_,rfl⟩
 | tf b=>exact .inl ⟨_,rfl⟩
 | num n=>exact .inl ⟨_,rfl⟩
 | err e=>exact .inr ⟨_,rfl⟩
 | text s =>
   show (∃ b,(if s.data.toList = trueL then V.tf true else if s.data.toList = falseL then V.tf false else V.err 2) = .tf b) ∨ (∃ e,(if s.data.toList = trueL then V.tf true else if s.data.toList = falseL then V.tf false else V.err 2) = .err e)
   split
   · exact .inl ⟨_,rfl⟩
   · split
     · exact .inl ⟨_,rfl⟩
     · exact .inr ⟨_,rfl⟩
structure At (W : World) (v : Value) (l : List Bg) (i : Nat) (a : Bg) : Prop where
 f : FitB W v l
 n : Nm W
 a : l[i]? = some a
theorem At.ext {W W' : World} {v : Value} {l : List Bg} {i : Nat} {a : Bg} (h : At W v l i a) (e : Ext W W') : At W' v l i a:=⟨h.f.ext e,h.n.ext e,h.a⟩
theorem At.sg {W : World} {v : Value} {l : List Bg} {i : Nat} {a : Bg} (h : At W v l i a) : sg l i = sgl a:=by unfold Go.Proofs.YtcfgbiaahangmaaGreatDoor.sg;rw [h.a]
theorem At.ok {W : World} {v : Value} {l : List Bg} {i : Nat} {a : Bg} (h : At W v l i a) : (sgl a).ok:=by rw [← h.sg];exact h.f.ok i
theorem At.one {W : World} {p : Option Addr} {n c : Nat} {l : List Bg} {i : Nat} {a : Bg} (h : At W (.slice p n c) l i a) :
   Calls Tryz.prog 200 #[.slice p n c,.int .i64 (i : Int)] W fun e w'=>e = .returned (.agg #[.int .i64 (sgl a).k,.int .i64 (sgl a).n,.string (sgl a).s,.int .i64 (sgl a).e]) ∧ Ext W w':=by
 have:=xsingle_any l i a h.a p n c _ W h.n h.f.rd (by rw [h.f.rd.len];exact h.f.z)
 rwa [dat_eq] at this
theorem teR_ok {v : V} {s : ByteArray} (h : v.toText = .text s) : teR v = .ok s:=by unfold teR;rw [h];rfl
theorem teR_no {v : V} {e : Int} (h : v.toText = .err e) : teR v = .error e:=by unfold teR;rw [h]
theorem trR_ok {v : V} {b : Bool} (h : v.toBool = .tf b) : trR v = .ok b:=by unfold trR;rw [h];cases b <;> rfl
theorem trR_no {v : V} {e : Int} (h : v.toBool = .err e) : trR v = .error e:=by unfold trR;rw [h]
theorem fld_n (k n : Int) (s : ByteArray) (e : Int) (W : World) : (Instr.field 33 (.agg #[.int .i64 k,.int .i64 n,.string s,.int .i64 e]) 1).run Tryz.prog W = .ok (.int .i64 n) W:=J3
theorem fld_s (k n : Int) (s : ByteArray) (e : Int) (W : World) : (Instr.field 33 (.agg #[.int .i64 k,.int .i64 n,.string s,.int .i64 e]) 2).run Tryz.prog W = .ok (.string s) W:=J3
theorem fld_k (k n : Int) (s : ByteArray) (e : Int) (W : World) : (Instr.field 33 (.agg #[.int .i64 k,.int .i64 n,.string s,.int .i64 e]) 0).run Tryz.prog W = .ok (.int .i64 k) W:=J3
theorem xnumber_any (l : List Bg) (i : Nat) (a : Bg) (p : Option Addr) (n c : Nat) (W : World) (h : At W (.slice p n c) l i a) :
   Calls Tryz.prog 190 #[.slice p n c,.int .i64 (i : Int)] W fun e w'=>RzQ (Value.int .i64) (nuR (sgl a)) e ∧ Ext W w':=by
 have c0:=h.one
 have hok:=h.ok
 have c1:=fun W hN=>vtonum_any (sgl a).k (sgl a).n (sgl a).s (sgl a).e W (nm_of _ hok).2 hN
 rw [(nm_of _ hok).1] at c1
 have HN : Hid (Nm W):=h.n
 generalize sgl a = v at *
 clear h
 generalize v.k = k0,v.n = n0,v.s = s0,v.e = e0 at c0 c1
 rcases toNum_cases v hok with ⟨x,hx,_⟩ | ⟨x,hx,_⟩
 · rw [nuR_ok hx]
   rw [hx] at c1
   simp only [V.dat] at c1
   clear hok hx
   have c2:=fun W=>xmust_ok 2 x ⟨#[]⟩ 0 rfl W
   have hf:=fld_n
   go_enter func190,ntmps190
   go_wp2_with fail
   refine c0.mono ?_
   rintro e w1 ⟨rfl,E1⟩
   have X1 : Hid (Ext W w1):=E1
   clear E1
   go_wp2_with fail
   refine (c1 _ (HN.out.ext X1.out)).mono ?_
   exact K90
 · rw [nuR_no hx]
   rw [hx] at c1
   simp only [V.dat] at c1
   clear hok hx
   have c2:=fun W=>xmust_no 4 0 ⟨#[]⟩ x rfl W
   have hf:=fld_n
   go_enter func190,ntmps190
   exact K184
theorem xtext_any (l : List Bg) (i : Nat) (a : Bg) (p : Option Addr) (n c : Nat) (W : World) (h : At W (.slice p n c) l i a) (hT : Tab W) :
   Calls Tryz.prog 197 #[.slice p n c,.int .i64 (i : Int)] W fun e w'=>RzQ (Value.string) (teR (sgl a)) e ∧ Ext W w':=by
 have c0:=h.one
 have hok:=h.ok
 have c1:=fun W hN hT=>vtotext_any (sgl a).k (sgl a).n (sgl a).s (sgl a).e W (nm_of _ hok).2 hT hN
 rw [(nm_of _ hok).1] at c1
 have HN : Hid (Nm W ∧ Tab W):=⟨h.n,hT⟩
 generalize sgl a = v at *
 clear h
 generalize v.k = k0,v.n = n0,v.s = s0,v.e = e0 at c0 c1
 rcases toText_cases v hok with ⟨x,hx,_⟩ | ⟨x,hx,_⟩
 · rw [teR_ok hx]
   rw [hx] at c1
   simp only [V.dat] at c1
   clear hok hx hT
   have c2:=fun W=>xmust_ok 3 0 x 0 rfl W
   have hf:=fld_s
   go_enter func197,ntmps197
   go_wp2_with fail
   refine c0.mono ?_
   rintro e w1 ⟨rfl,E1⟩
   have X1 : Hid (Ext W w1):=E1
   clear E1
   go_wp2_with fail
   refine (c1 _ (HN.out.1.ext X1.out) (HN.out.2.ext X1.out)).mono ?_
   exact K90
 · rw [teR_no hx]
   rw [hx] at c1
   simp only [V.dat] at c1
   clear hok hx hT
   have c2:=fun W=>xmust_no 4 0 ⟨#[]⟩ x rfl W
   have hf:=fld_s
   go_enter func197,ntmps197
   go_wp2_with fail
   refine c0.mono ?_
   rintro e w1 ⟨rfl,E1⟩
   have X1 : Hid (Ext W w1):=E1
   clear E1
   go_wp2_with fail
   refine (c1 _ (HN.out.1.ext X1.out) (HN.out.2.ext X1.out)).mono ?_
   exact K65
theorem xtruth_any (l : List Bg) (i : Nat) (a : Bg) (p : Option Addr) (n c : Nat) (W : World) (h : At W (.slice p n c) l i a) :
   Calls Tryz.prog 188 #[.slice p n c,.int .i64 (i : Int)] W fun e w'=>RzQ (Value.bool) (trR (sgl a)) e ∧ Ext W w':=by
 have c0:=h.one
 have hok:=h.ok
 have c1:=fun W hN=>vtobool_any (sgl a).k (sgl a).n (sgl a).s (sgl a).e W (nm_of _ hok).2 hN
 rw [(nm_of _ hok).1] at c1
 have HN : Hid (Nm W):=h.n
 generalize sgl a = v at *
 clear h
 generalize v.k = k0,v.n = n0,v.s = s0,v.e = e0 at c0 c1
 rcases toBool_cases v with ⟨x,hx⟩ | ⟨x,hx⟩
 · rw [trR_ok hx]
   rw [hx] at c1
   simp only [V.dat] at c1
   clear hok hx
   obtain ⟨y,hy⟩ : ∃ y : Int,(if x = true then (1 : Int) else 0) = y:=⟨_,rfl⟩
   have HY : Hid (((if x = true then (1 : Int) else 0) != 0) = x ∧ (if x = true then (1 : Int) else 0) = y):=⟨by cases x <;> rfl,hy⟩
   rw [hy] at c1
   clear hy
   have c2:=fun W=>xmust_ok 1 y ⟨#[]⟩ 0 rfl W
   have hf:=fld_n
   go_enter func188,ntmps188
   go_wp2_with fail
   refine c0.mono ?_
   rintro e w1 ⟨rfl,E1⟩
   have X1 : Hid (Ext W w1):=E1
   clear E1
   go_wp2_with fail
   refine (c1 _ (HN.out.ext X1.out)).mono ?_
   rintro e w2 ⟨rfl,E2⟩
   have X2 : Hid (Ext W w2):=X1.out.trans E2
   clear E2
   go_wp2_with fail
   refine (c2 _).mono ?_
   rintro e w3 ⟨rfl,E3⟩
   go_wp2_with fail
   go_ret
   exact ⟨ret_bool (by rw [← HY.out.2];exact HY.out.1),X2.out.trans E3⟩
 · rw [trR_no hx]
   rw [hx] at c1
   simp only [V.dat] at c1
   clear hok hx
   have c2:=fun W=>xmust_no 4 0 ⟨#[]⟩ x rfl W
   have hf:=fld_n
   go_enter func188,ntmps188
   exact K184
theorem whole_div (n : Int) : (n.tmod 10000 < 0 → n.tdiv 10000 - 1 = whN n) ∧ (¬ n.tmod 10000 < 0 → n.tdiv 10000 = whN n):=by
 unfold whN
 by_cases h : 0 ≤ n
 · rw [Int.tmod_eq_emod_of_nonneg h,Int.tdiv_eq_ediv_of_nonneg h]
   constructor <;> omega
 · obtain ⟨m,rfl⟩ : ∃ m : Int,n = -m:=⟨-n,by omega⟩
   rw [Int.neg_tmod,Int.neg_tdiv,Int.tmod_eq_emod_of_nonneg J2,Int.tdiv_eq_ediv_of_nonneg J2]
   constructor <;> omega
theorem xwhole_any (l : List Bg) (i : Nat) (a : Bg) (p : Option Addr) (n c : Nat) (W : World) (h : At W (.slice p n c) l i a) :
   Calls Tryz.prog 193 #[.slice p n c,.int .i64 (i : Int)] W fun e w'=>RzQ (Value.int .i64) (whR (sgl a)) e ∧ Ext W w':=by
 have c0:=xnumber_any l i a p n c W h
 have hok:=h.ok
 generalize sgl a = v at *
 clear h
 rcases toNum_cases v hok with ⟨x,hx,hI,_⟩ | ⟨x,hx,_⟩
 · have e1 : whR v = .ok (whN x):=by unfold whR;rw [nuR_ok hx];rfl
   rw [e1]
   rw [nuR_ok hx] at c0
   have C : Calls Tryz.prog 190 #[.slice p n c,.int .i64 (i : Int)] W fun e w'=>e = .returned (.int .i64 x) ∧ Ext W w':=c0
   have hw:=whole_div x
   have hb : -1000000000000000 ≤ x.tdiv 10000 ∧ x.tdiv 10000 ≤ 1000000000000000:=by
     obtain ⟨i1,i2⟩:=hI
     have:=whole_div x
     unfold whN at this
     by_cases hm : x.tmod 10000 < 0
     · have:=this.1 hm;omega
     · have:=this.2 hm;omega
   obtain ⟨q,hq⟩ : ∃ q,x.tdiv 10000 = q:=⟨_,rfl⟩
   obtain ⟨m,hm⟩ : ∃ m,x.tmod 10000 = m:=⟨_,rfl⟩
   rw [hq,hm] at hw
   rw [hq] at hb
   obtain ⟨b1,b2⟩:=hb
   clear c0 e1 hok hx hI
   by_cases hlt : m < 0
   · have HW : Hid (q - 1 = whN x):=hw.1 hlt
     have WK : wrap64 (q - 1) = q - 1:=J67
     exact K108
   · have HW : Hid (q = whN x):=hw.2 hlt
     exact K108
 · have e1 : whR v = .error x:=by unfold whR;rw [nuR_no hx];rfl
   rw [e1]
   rw [nuR_no hx] at c0
   have C : Calls Tryz.prog 190 #[.slice p n c,.int .i64 (i : Int)] W fun e w'=>e = pan x ∧ Ext W w':=c0
   clear c0 e1 hok hx
   go_enter func193,ntmps193
   exact K165
theorem xwhole_one (l : List Bg) (i : Nat) (p : Option Addr) (n c : Nat) (W : World) (h : FitB W (.slice p n c) l) (hN : Nm W) :
   Calls Tryz.prog 249 #[.slice p n c,.int .i64 (i : Int)] W fun e w'=>RzQ (Value.int .i64) (whO l i) e ∧ Ext W w':=by
 have hn:=h.rd.len
 have hl:=h.z
 by_cases hlt : l.length ≤ i
 · have e1 : whO l i = .ok 1:=by unfold whO;rw [if_pos hlt]
   rw [e1]
   have d1 : (i : Int) ≥ (n : Int):=J2
   have d2 : (n : Int) ≤ 10000000000:=J2
   clear e1 hlt hn hl h
   go_enter func249,ntmps249
   go_wp2_with fail
   go_ret
   exact ⟨rfl,Ext.refl _⟩
 · have hx : l[i]? = some l[i]:=gEq J2
   have e1 : whO l i = whR (sgl l[i]):=by unfold whO;rw [if_neg hlt];unfold sg;rw [hx]
   rw [e1]
   have c0:=xwhole_any l i _ p n c W ⟨h,hN,hx⟩
   have d1 : ¬ (i : Int) ≥ (n : Int):=J2
   have d2 : (n : Int) ≤ 10000000000:=J2
   generalize whR (sgl l[i]) = r at *
   clear e1 hlt hn hl h hx
   cases r with
   | ok x =>
     have C : Calls Tryz.prog 193 #[.slice p n c,.int .i64 (i : Int)] W fun e w'=>e = .returned (.int .i64 x) ∧ Ext W w':=c0
     clear c0
     go_enter func249,ntmps249
     go_wp2_with fail
     refine C.mono ?_
     rintro e w1 ⟨rfl,E1⟩
     go_wp2_with fail
     go_ret
     exact ⟨rfl,E1⟩
   | error x =>
     have C : Calls Tryz.prog 193 #[.slice p n c,.int .i64 (i : Int)] W fun e w'=>e = pan x ∧ Ext W w':=c0
     clear c0
     go_enter func249,ntmps249
     exact K165
theorem xtold_no (n : Int) (W : World) : Calls Tryz.prog 191 #[.int .i64 n,.bool false] W fun e w'=>e = pan 4 ∧ Ext W w':=by
 go_enter func191,ntmps191
 go_wp2_with fail
 exact ⟨rfl,rfl,xr.alloc _⟩
theorem xtold_ok (n : Int) (W : World) (hN : Nm W) : Calls Tryz.prog 191 #[.int .i64 n,.bool true] W fun e w'=>e = .returned (.agg #[.int .i64 (mkNum n).k,.int .i64 (mkNum n).n,.string (mkNum n).s,.int .i64 (mkNum n).e]) ∧ Ext W w':=by
 have c1:=fun W h=>vnum_any n W h
 rw [dat_eq] at c1
 generalize (mkNum n).k = q0,(mkNum n).n = q1,(mkNum n).s = q2,(mkNum n).e = q3 at *
 go_enter func191,ntmps191
 go_wp2_with fail
 refine (c1 _ (hN.ext (xr.alloc _))).mono ?_
 rintro e w1 ⟨rfl,E1⟩
 obtain ⟨z,⟨b0,b1,b2,b3⟩,f0,f1,f2,f3⟩:=blk_top (b:=W.heap.size) J60 E1
 go_wp2_with fail
 exact fin4 b0 b1 b2 b3 rfl J60 ((xr.alloc _).trans E1) (fun W g0 g1 g2 g3=>by simp [results,results191,go_sem,g0,g1,g2,g3]) (fun W h=>⟨rfl,h⟩)
theorem xsize_any (n : Int) (hn : I64 n) (hc : canB n = true) (W : World) : Calls Tryz.prog 189 #[.int .i64 n] W fun e w'=>e = .returned (.int .i64 (szN n)) ∧ w' = W:=by
 obtain ⟨h1,h2⟩:=hn
 have h3 : n ≠ -9223372036854775808:=by simpa [canB] using hc
 have WK : wrap64 (-n) = -n:=J67
 have HZ : Hid (szN n = max n (-n)):=by show _ = _;unfold szN;split <;> omega
 clear hc
 go_enter func189,ntmps189
 go_wp2_with fail
 go_ret
 exact ⟨ret_int HZ.out.symm,rfl⟩
def Rw.dat (r : Rw) : Value:=.agg #[.int .i64 r.k,.int .i64 r.n,.string r.s,.int .i64 r.e]
theorem sg_of {l : List Bg} {i : Nat} {a : Bg} (h : l[i]? = some a) : sg l i = sgl a:=by unfold sg;rw [h]
theorem xnumber_ok {l : List Bg} {i : Nat} {a : Bg} {p : Option Addr} {n c : Nat} {W : World} (hF : FitB W (.slice p n c) l) (hN : Nm W) (ha : l[i]? = some a) {x : Int} (hx : nuR (sgl a) = .ok x) (W' : World) (e : Ext W W') :
   Calls Tryz.prog 190 #[.slice p n c,.int .i64 (i : Int)] W' fun e w'=>e = .returned (.int .i64 x) ∧ Ext W' w':=by
 have:=xnumber_any l i a p n c W' ⟨hF.ext e,hN.ext e,ha⟩
 exact K118
theorem xnumber_no {l : List Bg} {i : Nat} {a : Bg} {p : Option Addr} {n c : Nat} {W : World} (hF : FitB W (.slice p n c) l) (hN : Nm W) (ha : l[i]? = some a) {x : Int} (hx : nuR (sgl a) = .error x) (W' : World) (e : Ext W W') :
   Calls Tryz.prog 190 #[.slice p n c,.int .i64 (i : Int)] W' fun e w'=>e = pan x ∧ Ext W' w':=by
 have:=xnumber_any l i a p n c W' ⟨hF.ext e,hN.ext e,ha⟩
 exact K118
theorem xtruth_ok {l : List Bg} {i : Nat} {a : Bg} {p : Option Addr} {n c : Nat} {W : World} (hF : FitB W (.slice p n c) l) (hN : Nm W) (ha : l[i]? = some a) {x : Bool} (hx : trR (sgl a) = .ok x) (W' : World) (e : Ext W W') :
   Calls Tryz.prog 188 #[.slice p n c,.int .i64 (i : Int)] W' fun e w'=>e = .returned (.bool x) ∧ Ext W' w':=by
 have:=xtruth_any l i a p n c W' ⟨hF.ext e,hN.ext e,ha⟩
 exact K118
theorem xtruth_no {l : List Bg} {i : Nat} {a : Bg} {p : Option Addr} {n c : Nat} {W : World} (hF : FitB W (.slice p n c) l) (hN : Nm W) (ha : l[i]? = some a) {x : Int} (hx : trR (sgl a) = .error x) (W' : World) (e : Ext W W') :
   Calls Tryz.prog 188 #[.slice p n c,.int .i64 (i : Int)] W' fun e w'=>e = pan x ∧ Ext W' w':=by
 have:=xtruth_any l i a p n c W' ⟨hF.ext e,hN.ext e,ha⟩
 exact K118
theorem xwhole_ok {l : List Bg} {i : Nat} {a : Bg} {p : Option Addr} {n c : Nat} {W : World} (hF : FitB W (.slice p n c) l) (hN : Nm W) (ha : l[i]? = some a) {x : Int} (hx : whR (sgl a) = .ok x) (W' : World) (e : Ext W W') :
   Calls Tryz.prog 193 #[.slice p n c,.int .i64 (i : Int)] W' fun e w'=>e = .returned (.int .i64 x) ∧ Ext W' w':=by
 have:=xwhole_any l i a p n c W' ⟨hF.ext e,hN.ext e,ha⟩
 exact K118
theorem xwhole_no {l : List Bg} {i : Nat} {a : Bg} {p : Option Addr} {n c : Nat} {W : World} (hF : FitB W (.slice p n c) l) (hN : Nm W) (ha : l[i]? = some a) {x : Int} (hx : whR (sgl a) = .error x) (W' : World) (e : Ext W W') :
   Calls Tryz.prog 193 #[.slice p n c,.int .i64 (i : Int)] W' fun e w'=>e = pan x ∧ Ext W' w':=by
 have:=xwhole_any l i a p n c W' ⟨hF.ext e,hN.ext e,ha⟩
 exact K118
theorem xtext_ok {l : List Bg} {i : Nat} {a : Bg} {p : Option Addr} {n c : Nat} {W : World} (hF : FitB W (.slice p n c) l) (hN : Nm W) (hT : Tab W) (ha : l[i]? = some a) {x : ByteArray} (hx : teR (sgl a) = .ok x) (W' : World) (e : Ext W W') :
   Calls Tryz.prog 197 #[.slice p n c,.int .i64 (i : Int)] W' fun e w'=>e = .returned (.string x) ∧ Ext W' w':=by
 exact K193
theorem xtext_no {l : List Bg} {i : Nat} {a : Bg} {p : Option Addr} {n c : Nat} {W : World} (hF : FitB W (.slice p n c) l) (hN : Nm W) (hT : Tab W) (ha : l[i]? = some a) {x : Int} (hx : teR (sgl a) = .error x) (W' : World) (e : Ext W W') :
   Calls Tryz.prog 197 #[.slice p n c,.int .i64 (i : Int)] W' fun e w'=>e = pan x ∧ Ext W' w':=by
 exact K193
theorem xone_ok {l : List Bg} {i : Nat} {p : Option Addr} {n c : Nat} {W : World} (hF : FitB W (.slice p n c) l) (hN : Nm W) {x : Int} (hx : whO l i = .ok x) (W' : World) (e : Ext W W') :
   Calls Tryz.prog 249 #[.slice p n c,.int .i64 (i : Int)] W' fun e w'=>e = .returned (.int .i64 x) ∧ Ext W' w':=by
 have:=xwhole_one l i p n c W' (hF.ext e) (hN.ext e)
 exact K118
theorem xone_no {l : List Bg} {i : Nat} {p : Option Addr} {n c : Nat} {W : World} (hF : FitB W (.slice p n c) l) (hN : Nm W) {x : Int} (hx : whO l i = .error x) (W' : World) (e : Ext W W') :
   Calls Tryz.prog 249 #[.slice p n c,.int .i64 (i : Int)] W' fun e w'=>e = pan x ∧ Ext W' w':=by
 have:=xwhole_one l i p n c W' (hF.ext e) (hN.ext e)
 exact K118
theorem xsingle_at {l : List Bg} {i : Nat} {a : Bg} {p : Option Addr} {n c : Nat} {W : World} (hF : FitB W (.slice p n c) l) (hN : Nm W) (ha : l[i]? = some a) (W' : World) (e : Ext W W') :
   Calls Tryz.prog 200 #[.slice p n c,.int .i64 (i : Int)] W' fun e w'=>e = .returned (.agg #[.int .i64 (sgl a).k,.int .i64 (sgl a).n,.string (sgl a).s,.int .i64 (sgl a).e]) ∧ Ext W' w':=At.one ⟨hF.ext e,hN.ext e,ha⟩
theorem bool_at (b : Bool) {W : World} (W' : World) (_ : Ext W W') : Calls Tryz.prog 67 #[.bool b] W' fun r w'=>r = .returned (.agg #[.int .i64 1,.int .i64 (if b then 1 else 0),.string ⟨#[]⟩,.int .i64 0]) ∧ Ext W' w':=vbool_any b W'
theorem xchosen_any (l : List Bg) (a0 a1 : Bg) (h0 : l[0]? = some a0) (h1 : l[1]? = some a1) (p : Option Addr) (n c : Nat) (W : World) (hF : FitB W (.slice p n c) l) (hN : Nm W) :
   Calls Tryz.prog 187 #[.slice p n c] W fun e w'=>RzQ Rw.dat (xIf l) e ∧ Ext W w':=by
 have hn:=hF.rd.len
 have hm:=hF.z
 have d2 : (n : Int) ≤ 10000000000:=J2
 cases ht : trR (sgl a0) with
 | error x =>
   have HX : xIf l = .error x:=by unfold xIf;rw [sg_of h0,ht]
   rw [HX]
   have c0:=xtruth_no hF hN h0 ht
   clear hn hm HX ht
   go_enter func187,ntmps187
   exact K27
 | ok t =>
   have c0:=xtruth_ok hF hN h0 ht
   cases t with
   | true =>
     have HX : xIf l = .ok (sgl a1).rw:=by unfold xIf;rw [sg_of h0,sg_of h1,ht];rfl
     rw [HX]
     have c1:=xsingle_at hF hN h1
     clear hn hm HX ht
     exact K21
   | false =>
     by_cases h3 : l.length < 3
     · have HX : xIf l = .ok (V.tf false).rw:=by unfold xIf;rw [sg_of h0,ht];simp [h3]
       rw [HX]
       have d1 : (n : Int) < 3:=J2
       have c1 : ∀ W',Ext W W' → Calls Tryz.prog 67 #[.bool false] W' fun r w'=>r = .returned (.agg #[.int .i64 1,.int .i64 0,.string ⟨#[]⟩,.int .i64 0]) ∧ Ext W' w':=fun W' e=>bool_at (W:=W) false W' e
       clear hn hm HX ht h3
       exact K21
     · have hx2 : l[2]? = some l[2]:=gEq J2
       have HX : xIf l = .ok (sgl l[2]).rw:=by unfold xIf;rw [sg_of h0,sg_of hx2,ht];simp [h3]
       rw [HX]
       have d1 : ¬ (n : Int) < 3:=J2
       have c1:=xsingle_at hF hN hx2
       generalize sgl l[2] = v2 at *
       clear hn hm HX ht h3 hx2
       exact K21
theorem xsound_any (l : List Bg) (a0 a1 : Bg) (h0 : l[0]? = some a0) (h1 : l[1]? = some a1) (p : Option Addr) (n c : Nat) (W : World) (hF : FitB W (.slice p n c) l) (hN : Nm W) :
   Calls Tryz.prog 201 #[.slice p n c] W fun e w'=>RzQ Rw.dat (xIfErr l) e ∧ Ext W w':=by
 have c0:=xsingle_at hF hN h0
 have c1:=xsingle_at hF hN h1
 have HX : xIfErr l = if (sgl a0).k = 4 then .ok (sgl a1).rw else .ok (sgl a0).rw:=by unfold xIfErr;rw [sg_of h0,sg_of h1]
 rw [HX]
 clear HX
 generalize sgl a0 = v0 at *
 generalize sgl a1 = v1 at *
 by_cases hk : v0.k = 4
 · rw [if_pos hk]
   have e0 : (v0.k != 4) = false:=by simp [hk]
   clear hk
   go_enter func201,ntmps201
   go_wp2_with fail
   refine (c0 _ (xr.alloc _)).mono ?_
   rintro e w1 ⟨rfl,E1⟩
   have B1 : Hid (Blk w1 W.heap.size (.int .i64 0) (.int .i64 0) (.string ⟨#[]⟩) (.int .i64 0) ∧ Ext W w1):=⟨blk_top J60 E1,(xr.alloc _).trans E1⟩
   clear E1
   go_wp2_with fail
   refine (c1 _ (B1.out.2.alloc _)).mono ?_
   rintro e w2 ⟨rfl,E2⟩
   have B2 : Hid (Blk w2 W.heap.size (.int .i64 0) (.int .i64 0) (.string ⟨#[]⟩) (.int .i64 0) ∧ Ext W w2):=⟨(B1.out.1.al _).ext E2,(B1.out.2.alloc _).trans E2⟩
   clear E2
   obtain ⟨z,⟨b0,b1,b2,b3⟩,f0,f1,f2,f3⟩:=B2.out.1
   go_wp2_with fail
   exact fin4 b0 b1 b2 b3 rfl J60 B2.out.2 (fun W g0 g1 g2 g3=>by simp [results,results201,go_sem,g0,g1,g2,g3]) (fun W h=>⟨rfl,h⟩)
 · rw [if_neg hk]
   have e0 : (v0.k != 4) = true:=by simp [hk]
   clear hk
   go_enter func201,ntmps201
   go_wp2_with fail
   refine (c0 _ (xr.alloc _)).mono ?_
   rintro e w1 ⟨rfl,E1⟩
   have B1 : Hid (Blk w1 W.heap.size (.int .i64 0) (.int .i64 0) (.string ⟨#[]⟩) (.int .i64 0) ∧ Ext W w1):=⟨blk_top J60 E1,(xr.alloc _).trans E1⟩
   clear E1
   obtain ⟨z,⟨b0,b1,b2,b3⟩,f0,f1,f2,f3⟩:=B1.out.1
   go_wp2_with fail
   have X2 : Ext W (((((w1.setCell ⟨W.heap.size,0,none⟩ (.int .i64 v0.k)).setCell ⟨W.heap.size,1,none⟩ (.int .i64 v0.n)).setCell ⟨W.heap.size,2,none⟩ (.string v0.s)).setCell ⟨W.heap.size,3,none⟩ (.int .i64 v0.e)).alloc (.cells #[.int .i64 v0.k,.int .i64 v0.n,.string v0.s,.int .i64 v0.e] 33)):=((((B1.out.2.setCell nrf _).setCell nrf _).setCell nrf _).setCell nrf _).alloc _
   exact finB (b:=W.heap.size) (w:=W) ((B1.out.1.set _ _ _ _).al _) rfl X2 (fun g0 g1 g2 g3=>by simp [results,results201,go_sem,g0,g1,g2,g3]) (fun h=>⟨rfl,h⟩)
theorem mod_at (a b : Int) (ha : I64 a) (hb : I64 b) {W : World} (W' : World) (_ : Ext W W') : Calls Tryz.prog 246 #[.int .i64 a,.int .i64 b] W' fun e w'=>e = .returned (.tuple #[.int .i64 (modV a b),.bool (modB a b)]) ∧ Ext W' w':=mod_any a b ha hb W'
theorem told_no (n : Int) {W : World} (W' : World) (_ : Ext W W') : Calls Tryz.prog 191 #[.int .i64 n,.bool false] W' fun e w'=>e = pan 4 ∧ Ext W' w':=xtold_no n W'
theorem told_ok (n : Int) {W : World} (hN : Nm W) (W' : World) (e : Ext W W') : Calls Tryz.prog 191 #[.int .i64 n,.bool true] W' fun e w'=>e = .returned (.agg #[.int .i64 (mkNum n).k,.int .i64 (mkNum n).n,.string (mkNum n).s,.int .i64 (mkNum n).e]) ∧ Ext W' w':=xtold_ok n W' (hN.ext e)
theorem xrest_any (l : List Bg) (a0 a1 : Bg) (h0 : l[0]? = some a0) (h1 : l[1]? = some a1) (p : Option Addr) (n c : Nat) (W : World) (hF : FitB W (.slice p n c) l) (hN : Nm W) :
   Calls Tryz.prog 194 #[.slice p n c] W fun e w'=>RzQ Rw.dat (xMod l) e ∧ Ext W w':=by
 have o0:=(At.mk hF hN h0).ok
 have o1:=(At.mk hF hN h1).ok
 cases ht : nuR (sgl a0) with
 | error x =>
   have HX : xMod l = .error x:=by unfold xMod;rw [sg_of h0,ht]
   rw [HX]
   have c0:=xnumber_no hF hN h0 ht
   clear HX ht
   go_enter func194,ntmps194
   exact K27
 | ok a =>
   have ia:=nuR_can o0 ht
   have c0:=xnumber_ok hF hN h0 ht
   cases hu : nuR (sgl a1) with
   | error x =>
     have HX : xMod l = .error x:=by unfold xMod;rw [sg_of h0,ht,sg_of h1,hu]
     rw [HX]
     have c1:=xnumber_no hF hN h1 hu
     clear HX ht hu ia
     go_enter func194,ntmps194
     exact K37
   | ok b =>
     have ib:=nuR_can o1 hu
     have c1:=xnumber_ok hF hN h1 hu
     have HX : xMod l = if b = 0 then .error 3 else (tolR (modB a b) (modV a b)).map V.rw:=by unfold xMod;rw [sg_of h0,ht,sg_of h1,hu]
     rw [HX]
     clear HX ht hu
     by_cases hb : b = 0
     · subst hb
       rw [if_pos rfl]
       clear ia ib
       go_enter func194,ntmps194
       exact K70
     · rw [if_neg hb]
       have e0 : (b == 0) = false:=by simp [hb]
       have c2:=mod_at a b ia.1 ib.1 (W:=W)
       clear ia ib hb
       generalize modV a b = y at *
       cases hB : modB a b with
       | false =>
         rw [hB] at c2
         have c3:=told_no y (W:=W)
         clear hB
         rw [show (tolR false y).map V.rw = .error 4 from rfl]
         go_enter func194,ntmps194
         exact K31
       | true =>
         rw [hB] at c2
         have c3:=told_ok y hN
         clear hB
         rw [show (tolR true y).map V.rw = .ok (mkNum y).rw from rfl]
         generalize mkNum y = v at *
         go_enter func194,ntmps194
         go_wp2_with fail
         refine (c0 _ (xr.alloc _)).mono ?_
         rintro e w1 ⟨rfl,E1⟩
         have B1 : Hid (Blk w1 W.heap.size (.int .i64 0) (.int .i64 0) (.string ⟨#[]⟩) (.int .i64 0) ∧ Ext W w1):=⟨blk_top J60 E1,(xr.alloc _).trans E1⟩
         clear E1
         go_wp2_with fail
         refine (c1 _ B1.out.2).mono ?_
         rintro e w2 ⟨rfl,E2⟩
         have B2 : Hid (Blk w2 W.heap.size (.int .i64 0) (.int .i64 0) (.string ⟨#[]⟩) (.int .i64 0) ∧ Ext W w2):=⟨B1.out.1.ext E2,B1.out.2.trans E2⟩
         clear E2
         go_wp2_with fail
         refine (c2 _ B2.out.2).mono ?_
         rintro e w3 ⟨rfl,E3⟩
         have B3 : Hid (Blk w3 W.heap.size (.int .i64 0) (.int .i64 0) (.string ⟨#[]⟩) (.int .i64 0) ∧ Ext W w3):=⟨B2.out.1.ext E3,B2.out.2.trans E3⟩
         clear E3
         go_wp2_with fail
         refine (c3 _ B3.out.2).mono ?_
         rintro e w4 ⟨rfl,E4⟩
         have B4 : Hid (Blk w4 W.heap.size (.int .i64 0) (.int .i64 0) (.string ⟨#[]⟩) (.int .i64 0) ∧ Ext W w4):=⟨B3.out.1.ext E4,B3.out.2.trans E4⟩
         clear E4
         obtain ⟨z,⟨b0,b1,b2,b3⟩,f0,f1,f2,f3⟩:=B4.out.1
         go_wp2_with fail
         exact fin4 b0 b1 b2 b3 rfl J60 B4.out.2 (fun W g0 g1 g2 g3=>by simp [results,results194,go_sem,g0,g1,g2,g3]) (fun W h=>⟨rfl,h⟩)
theorem text_at (s : ByteArray) {W : World} (hN : Nm W) (W' : World) (e : Ext W W') : Calls Tryz.prog 66 #[.string s] W' fun r w'=>r = .returned (.agg #[.int .i64 (mkText s).k,.int .i64 (mkText s).n,.string (mkText s).s,.int .i64 (mkText s).e]) ∧ Ext W' w':=by
 have:=vtext_any s W' (hN.ext e)
 rwa [dat_eq] at this
theorem teR_le {v : V} {s : ByteArray} (hv : v.ok) (h : teR v = .ok s) : s.size ≤ 300:=by
 rcases toText_cases v hv with ⟨m,hm,h2⟩ | ⟨e,he,_⟩
 · rw [teR_ok hm] at h;cases h;exact h2
 · rw [teR_no he] at h;cases h
theorem xleft_any (l : List Bg) (a0 : Bg) (h0 : l[0]? = some a0) (p : Option Addr) (n c : Nat) (W : World) (hF : FitB W (.slice p n c) l) (hN : Nm W) (hT : Tab W) :
   Calls Tryz.prog 198 #[.slice p n c] W fun e w'=>RzQ Rw.dat (xLeft l) e ∧ Ext W w':=by
 have o0:=(At.mk hF hN h0).ok
 cases ht : teR (sgl a0) with
 | error x =>
   have HX : xLeft l = .error x:=by unfold xLeft;rw [sg_of h0,ht]
   rw [HX]
   have c0:=xtext_no hF hN hT h0 ht
   clear HX ht
   go_enter func198,ntmps198
   exact K27
 | ok s =>
   have hs:=teR_le o0 ht
   have c0:=xtext_ok hF hN hT h0 ht
   cases hu : whO l 1 with
   | error x =>
     have HX : xLeft l = .error x:=by unfold xLeft;rw [sg_of h0,ht,hu]
     rw [HX]
     have c1:=xone_no hF hN hu
     clear HX ht hu
     go_enter func198,ntmps198
     exact K37
   | ok q =>
     have c1:=xone_ok hF hN hu
     have HX : xLeft l = if q < 0 then .error 2 else .ok (mkText (begB s q)).rw:=by unfold xLeft;rw [sg_of h0,ht,hu]
     rw [HX]
     clear HX ht hu
     by_cases hq : q < 0
     · rw [if_pos hq]
       go_enter func198,ntmps198
       exact K70
     · rw [if_neg hq]
       have hsI : (s.size : Int) ≤ 300:=J2
       obtain ⟨m,hm⟩ : ∃ m : Nat,min q (s.size : Int) = (m : Int):=⟨(min q (s.size : Int)).toNat,by omega⟩
       have hms : m ≤ s.size:=J2
       have HB : Hid (begB s q = s.extract 0 m):=by show _ = _;unfold begB;rw [hm];rfl
       have c2:=text_at (s.extract 0 m) hN
       rw [HB.out]
       generalize mkText (s.extract 0 m) = v at *
       clear hs
       go_enter func198,ntmps198
       go_wp2_with fail
       refine (c0 _ (xr.alloc _)).mono ?_
       rintro e w1 ⟨rfl,E1⟩
       have B1 : Hid (Blk w1 W.heap.size (.int .i64 0) (.int .i64 0) (.string ⟨#[]⟩) (.int .i64 0) ∧ Ext W w1):=⟨blk_top J60 E1,(xr.alloc _).trans E1⟩
       clear E1
       go_wp2_with fail
       refine (c1 _ B1.out.2).mono ?_
       rintro e w2 ⟨rfl,E2⟩
       have B2 : Hid (Blk w2 W.heap.size (.int .i64 0) (.int .i64 0) (.string ⟨#[]⟩) (.int .i64 0) ∧ Ext W w2):=⟨B1.out.1.ext E2,B1.out.2.trans E2⟩
       clear E2
       go_wp2_with fail
       refine (c2 _ B2.out.2).mono ?_
       rintro e w3 ⟨rfl,E3⟩
       have B3 : Hid (Blk w3 W.heap.size (.int .i64 0) (.int .i64 0) (.string ⟨#[]⟩) (.int .i64 0) ∧ Ext W w3):=⟨B2.out.1.ext E3,B2.out.2.trans E3⟩
       clear E3
       obtain ⟨z,⟨b0,b1,b2,b3⟩,f0,f1,f2,f3⟩:=B3.out.1
       go_wp2_with fail
       exact fin4 b0 b1 b2 b3 rfl J60 B3.out.2 (fun W g0 g1 g2 g3=>by simp [results,results198,go_sem,g0,g1,g2,g3]) (fun W h=>⟨rfl,h⟩)
def ArQ (W : World) (b : Bg) (e : Ending) (w' : World) : Prop:=∃ p' n' c',e = .returned (.agg #[.bool true,.int .i64 b.rows,.int .i64 b.cols,.slice p' n' c']) ∧ RdV w'.heap.size w' (.slice p' n' c') b.g.l ∧ Ext W w'
theorem rd_to {W W' : World} {v : Value} {l : List Rw} (h : RdV W.heap.size W v l) (e : Ext W W') : RdV W'.heap.size W' v l:=(h.low e).up e.size
theorem one_rd {W w' : World} {v : V} {T : TypeId} {b : Nat} (hb : b = W.heap.size) (E : Ext (W.alloc (.cells #[.int .i64 v.k,.int .i64 v.n,.string v.s,.int .i64 v.e] T)) w') : RdV w'.heap.size w' (.slice (some ⟨b,0,none⟩) 1 1) [v.rw]:=by
 obtain ⟨z,⟨k0,k1,k2,k3⟩,_⟩:=blk_top (b:=b) hb E
 refine ⟨_,_,rfl,Nat.le_refl _,.inr ⟨b,0,rfl,z,z,fun i r hr=>?_⟩⟩
 match i,hr with
 | 0,hr=>simp at hr;subst hr;exact ⟨k0,k1,k2,k3⟩
theorem xarea_any (l : List Bg) (i : Nat) (a : Bg) (ha : l[i]? = some a) (p : Option Addr) (n c : Nat) (W : World) (hF : FitB W (.slice p n c) l) (hN : Nm W) :
   Calls Tryz.prog 250 #[.slice p n c,.int .i64 (i : Int)] W (ArQ W (arOf a)):=by
 have hn:=hF.rd.len
 have hm:=hF.z
 have hlt : i < l.length:=(List.getElem?_eq_some_iff.1 ha).1
 have d1 : (i : Int) < (n : Int):=J2
 have d2 : (n : Int) ≤ 10000000000:=J2
 have c0:=xsingle_at hF hN ha
 have HF : Hid (FitB W (.slice p n c) l):=hF
 obtain ⟨b,off,lv,rfl,hb,hbW,⟨k0,k1,k2,k3⟩,hV⟩:=hF.rd.at ha
 obtain ⟨p',n',c',rfl,hn',hc'⟩:=hV.form
 have HV : Hid (RdV W.heap.size W (.slice p' n' c') a.g.l):=hV
 clear hF hn hm hlt hV hn' hc' hb
 cases har : a.g.area with
 | true =>
   have HX : arOf a = a:=by unfold arOf;rw [har];rfl
   rw [har] at k0
   rw [HX]
   clear HX har c0
   go_enter func250,ntmps250
   go_wp2_with fail
   simp [bodyPost,results,results250,go_sem]
   exact ⟨p',n',c',rfl,rd_to HV.out (xr.alloc _),xr.alloc _⟩
 | false =>
   have HX : arOf a = ⟨⟨true,[(sgl a).rw]⟩,1,1⟩:=by unfold arOf;rw [har];rfl
   rw [har] at k0
   rw [HX]
   generalize sgl a = v at *
   clear HX har
   go_enter func250,ntmps250
   go_wp2_with fail
   refine (c0 _ (xr.alloc _)).mono ?_
   rintro e w1 ⟨rfl,E1⟩
   have B1:=blk_top (b:=W.heap.size) J60 E1
   have HB : Hid (Blk w1 W.heap.size (.bool false) (.int .i64 0) (.int .i64 0) (.slice none 0 0) ∧ Ext W w1):=⟨B1,(xr.alloc _).trans E1⟩
   obtain ⟨z,⟨b0,b1,b2,b3⟩,f0,f1,f2,f3⟩:=B1
   clear E1 c0 k0 k1 k2 k3 HV hbW
   go_wp2_with fail
   have X2 : Ext W (((((w1.setCell ⟨W.heap.size,0,none⟩ (.bool true)).setCell ⟨W.heap.size,1,none⟩ (.int .i64 1)).setCell ⟨W.heap.size,2,none⟩ (.int .i64 1)).setCell ⟨W.heap.size,3,none⟩ (.slice (some ⟨w1.heap.size,0,none⟩) 1 1)).alloc (.cells #[.int .i64 v.k,.int .i64 v.n,.string v.s,.int .i64 v.e] 33)):=((((HB.out.2.setCell nrf _).setCell nrf _).setCell nrf _).setCell nrf _).alloc _
   exact finB (b:=W.heap.size) (w:=W) ((HB.out.1.set _ _ _ _).al _) rfl X2 (fun g0 g1 g2 g3=>by simp [results,results250,go_sem,g0,g1,g2,g3]) (fun h=>⟨_,_,_,rfl,one_rd J60 xr,h⟩)
theorem xarea_at {l : List Bg} {i : Nat} {a : Bg} {p : Option Addr} {n c : Nat} {W : World} (hF : FitB W (.slice p n c) l) (hN : Nm W) (ha : l[i]? = some a) (W' : World) (e : Ext W W') :
   Calls Tryz.prog 250 #[.slice p n c,.int .i64 (i : Int)] W' (ArQ W' (arOf a)):=xarea_any l i a ha p n c W' (hF.ext e) (hN.ext e)
theorem whR_bd {v : V} {x : Int} (hv : v.ok) (h : whR v = .ok x) : -1000000000000000 ≤ x ∧ x ≤ 1000000000000000:=by
 unfold whR at h
 cases hn : nuR v with
 | error e=>rw [hn] at h;cases h
 | ok n =>
   rw [hn] at h
   obtain ⟨⟨h1,h2⟩,_⟩:=nuR_can hv hn
   cases h
   unfold whN
   omega
theorem xpicked_any (l : List Bg) (a0 a1 : Bg) (h0 : l[0]? = some a0) (h1 : l[1]? = some a1) (p : Option Addr) (n c : Nat) (W : World) (hF : FitB W (.slice p n c) l) (hN : Nm W) :
   Calls Tryz.prog 199 #[.slice p n c] W fun e w'=>RzQ Rw.dat (xIndex l) e ∧ Ext W w':=by
 have o1:=(At.mk hF hN h1).ok
 cases ht : whR (sgl a1) with
 | error x =>
   have HX : xIndex l = .error x:=by unfold xIndex;rw [sg_of h1,ht]
   rw [HX]
   have c0:=xwhole_no hF hN h1 ht
   clear HX ht
   go_enter func199,ntmps199
   exact K27
 | ok row =>
   have c0:=xwhole_ok hF hN h1 ht
   have br:=whR_bd o1 ht
   cases hu : whO l 2 with
   | error x =>
     have HX : xIndex l = .error x:=by unfold xIndex;rw [sg_of h1,ht,hu]
     rw [HX]
     have c1:=xone_no hF hN hu
     clear HX ht hu
     go_enter func199,ntmps199
     go_wp2_with fail
     refine (c0 _ (xr.alloc _)).mono ?_
     rintro e w1 ⟨rfl,E1⟩
     have B1 : Hid (Ext W w1):=(xr.alloc _).trans E1
     clear E1
     go_wp2_with fail
     refine (c1 _ B1.out).mono ?_
     rintro e w2 ⟨rfl,E2⟩
     exact ⟨rfl,rfl,B1.out.trans E2⟩
   | ok col =>
     have c1:=xone_ok hF hN hu
     have bc : -1000000000000000 ≤ col ∧ col ≤ 1000000000000000:=by
       unfold whO at hu
       split at hu
       · cases hu;omega
       · exact whR_bd (hF.ok 2) hu
     have c2:=xarea_at hF hN h0
     have HX : xIndex l = pkR (arOf a0) row col:=by unfold xIndex;rw [sg_of h1,ht,hu,h0]
     rw [HX]
     have hR:=hF.r a0 (List.mem_of_getElem? h0)
     have hL : (arOf a0).g.l.length ≤ 10000000000 ∧ I64 (arOf a0).rows ∧ I64 (arOf a0).cols:=by
       unfold arOf
       split
       · rename_i har
         refine ⟨?_,hR⟩
         have h3:=seen_le (l:=gsOf l) (j:=0) (a:=a0.g) (by unfold gsOf;rw [List.getElem?_map,h0];rfl)
         have h4 : (seen1 a0.g).length = a0.g.l.length:=by unfold seen1;rw [if_pos har];simp
         have:=hF.s
         omega
       · refine ⟨?_,⟨?_,?_⟩,⟨?_,?_⟩⟩ <;> simp
     generalize arOf a0 = b at *
     obtain ⟨⟨ar,bl⟩,R,C⟩:=b
     simp only [] at hL HX
     obtain ⟨hL,⟨r1,r2⟩,⟨s1,s2⟩⟩:=hL
     have HP : pkR ⟨⟨ar,bl⟩,R,C⟩ row col = if row < 1 ∨ row > R ∨ col < 1 ∨ col > C ∨ col > (bl.length : Int) then .error 1 else if row - 1 > ((bl.length : Int) - col) / C then .error 1 else match bl[((row - 1) * C + col - 1).toNat]? with | some r=>.ok r | none=>.error 1:=rfl
     rw [HP]
     clear HX HP ht hu hR o1 hF hN h0 h1
     obtain ⟨m,hm⟩ : ∃ m,bl.length = m:=⟨_,rfl⟩
     rw [hm] at hL ⊢
     have HL : Hid (bl.length = m):=hm
     have C2 : ∀ W',Ext W W' → Calls Tryz.prog 250 #[.slice p n c,.int .i64 0] W' fun e w'=>∃ p' c',e = .returned (.agg #[.bool true,.int .i64 R,.int .i64 C,.slice p' m c']) ∧ RdV w'.heap.size w' (.slice p' m c') bl ∧ Ext W' w':=fun W' e=>(c2 W' e).mono (fun e w' h=>by
       obtain ⟨p',n',c',h1,h2,h3⟩:=h
       have h4:=h2.len
       simp only [] at h4
       rw [hm] at h4
       subst h4
       exact ⟨p',c',h1,h2,h3⟩)
     clear c2 hm
     obtain ⟨b1,b2⟩:=br
     obtain ⟨b3,b4⟩:=bc
     have mI : (m : Int) ≤ 10000000000:=J2
     by_cases t1 : row < 1
     · rw [if_pos (.inl t1)]
       exact K5
     by_cases t2 : row > R
     · rw [if_pos (.inr (.inl t2))]
       exact K5
     by_cases t3 : col < 1
     · rw [if_pos (.inr (.inr (.inl t3)))]
       exact K5
     by_cases t4 : col > C
     · rw [if_pos (.inr (.inr (.inr (.inl t4))))]
       exact K5
     by_cases t5 : col > (m : Int)
     · rw [if_pos (.inr (.inr (.inr (.inr (t5)))))]
       exact K5
     rw [if_neg J2]
     have u1 : 1 ≤ C:=J2
     have u2 : 0 ≤ (m : Int) - col:=J2
     have ht : ((m : Int) - col).tdiv C = ((m : Int) - col) / C:=Int.tdiv_eq_ediv_of_nonneg u2
     have u3 : 0 ≤ ((m : Int) - col) / C:=Int.ediv_nonneg u2 J2
     have u4 : ((m : Int) - col) / C ≤ (m : Int) - col:=Int.ediv_le_self C u2
     have HM : Hid (row - 1 ≤ ((m : Int) - col) / C → (row - 1) * C ≤ (m : Int) - col):=fun h=>Int.le_trans (Int.mul_le_mul_of_nonneg_right h J2) (Int.ediv_mul_le _ J2)
     generalize ((m : Int) - col) / C = q at *
     have e0 : (C == 0) = false:=J8
     have wk1 : wrap64 (row - 1) = row - 1:=J67
     have wk2 : wrap64 ((m : Int) - col) = (m : Int) - col:=J67
     by_cases t6 : row - 1 > q
     · rw [if_pos t6]
       exact K5
     · rw [if_neg t6]
       have v1:=HM.out J2
       have v2 : 0 ≤ (row - 1) * C:=Int.mul_nonneg J2 J2
       obtain ⟨M,hM⟩ : ∃ M,(row - 1) * C = M:=⟨_,rfl⟩
       rw [hM] at v1 v2 ⊢
       obtain ⟨j,hj⟩ : ∃ j : Nat,M + col - 1 = (j : Int):=⟨(M + col - 1).toNat,by omega⟩
       have hjm : j < m:=J2
       have hjI : (j : Int) < (m : Int):=J2
       have wk3 : wrap64 M = M:=J67
       have wk4 : wrap64 (M + col) = M + col:=J67
       have wk5 : wrap64 (M + col - 1) = (j : Int):=by rw [hj];unfold wrap64;omega
       have hjr : ∃ r,bl[j]? = some r:=⟨bl[j]'(by have:=HL.out;omega),gEq _⟩
       obtain ⟨r,hr⟩:=hjr
       rw [show (M + col - 1).toNat = j by omega,hr]
       have HJ : Hid (bl[j]? = some r ∧ j < bl.length):=⟨hr,by have:=HL.out;omega⟩
       clear HM HL hr
       go_enter func199,ntmps199
       go_wp2_with fail
       refine (c0 _ (xr.alloc _)).mono ?_
       rintro e w1 ⟨rfl,E1⟩
       have B1 : Hid (Blk w1 W.heap.size (.int .i64 0) (.int .i64 0) (.string ⟨#[]⟩) (.int .i64 0) ∧ Ext W w1):=⟨blk_top J60 E1,(xr.alloc _).trans E1⟩
       clear E1
       go_wp2_with fail
       refine (c1 _ B1.out.2).mono ?_
       rintro e w2 ⟨rfl,E2⟩
       have B2 : Hid (Blk w2 W.heap.size (.int .i64 0) (.int .i64 0) (.string ⟨#[]⟩) (.int .i64 0) ∧ Ext W w2):=⟨B1.out.1.ext E2,B1.out.2.trans E2⟩
       clear E2
       go_wp2_with fail
       refine (C2 _ B2.out.2).mono ?_
       rintro e w3 ⟨p',c',rfl,hV,E3⟩
       have B3 : Hid ((Blk w3 W.heap.size (.int .i64 0) (.int .i64 0) (.string ⟨#[]⟩) (.int .i64 0) ∧ Ext W w3) ∧ RdV w3.heap.size w3 (.slice p' m c') bl):=⟨⟨B2.out.1.ext E3,B2.out.2.trans E3⟩,hV⟩
       clear E3 hV
       obtain ⟨bb,off,r',rfl,hr',hbb,hbW,k0,k1,k2,k3⟩:=B3.out.2.at HJ.out.2
       rw [HJ.out.1] at hr'
       cases hr'
       obtain ⟨z,⟨g0,g1,g2,g3⟩,f0,f1,f2,f3⟩:=B3.out.1.1
       clear hbb
       go_wp2_with fail
       have X2 : Ext W (((((w3.setCell ⟨W.heap.size,0,none⟩ (.int .i64 r.k)).setCell ⟨W.heap.size,1,none⟩ (.int .i64 r.n)).setCell ⟨W.heap.size,2,none⟩ (.string r.s)).setCell ⟨W.heap.size,3,none⟩ (.int .i64 r.e)).alloc (.cells #[.bool true,.int .i64 R,.int .i64 C,.slice (some ⟨bb,off,none⟩) m c'] 113)):=((((B3.out.1.2.setCell nrf _).setCell nrf _).setCell nrf _).setCell nrf _).alloc _
       exact finB (b:=W.heap.size) (w:=W) ((B3.out.1.1.set _ _ _ _).al _) rfl X2 (fun g0 g1 g2 g3=>by simp [results,results199,go_sem,g0,g1,g2,g3]) (fun h=>⟨rfl,h⟩)
theorem sb_info : ∃ j,Tryz.prog.info? 225 = some j ∧ j.size = 2:=by
 have h : (Tryz.prog.info? 225).map (fun i=>i.size) = some 2:=J3
 obtain ⟨j,h1,h2⟩:=Option.map_eq_some_iff.1 h
 exact ⟨j,h1,h2⟩
theorem sb_byte : ∃ i,Tryz.prog.info? 5 = some i ∧ i.zero = some (.int .u8 0) ∧ i.size = 1 ∧ i.bytes = 1:=by
 exact K93
theorem sb_used (b : Nat) (w : World) (h0 : w.cell? ⟨b,0,none⟩ = some (.pointer (some ⟨b,0,none⟩))) :
   Calls Tryz.prog 271 #[.pointer (some ⟨b,0,none⟩)] w fun e w'=>e = .returned (.tuple #[]) ∧ w' = w:=by
 obtain ⟨j,hj,_⟩:=sb_info
 go_enter func271,ntmps271
 go_wp2
 rw [Lib.run_neq_ptr_same w _ Tryz.underlying223 hj]
 go_wp2
 go_end0
 exact ⟨rfl,rfl⟩
def BuS (w0 : World) (b : Nat) (l : List UInt8) (W : World) : Prop:=Ext w0 W ∧ Lib.IsBuilder 225 5 w0.heap.size b (Lib.byteCells l) W
def OkS9 (b : Nat) (w w' : World) : Prop:=Lib.OthersKept 5 (some b) w w' ∧ w.heap.size ≤ w'.heap.size
theorem OkS9.trans {b : Nat} {x y z : World} (h : OkS9 b x y) (k : OkS9 b y z) : OkS9 b x z:=⟨h.1.trans k.1,Nat.le_trans h.2 k.2⟩
theorem OkS9.refl (b : Nat) (w : World) : OkS9 b w w:=⟨Lib.OthersKept.refl _ _ _,Nat.le_refl _⟩
theorem Ext.toKS {w w' : World} (h : Ext w w') (b : Nat) : OkS9 b w w' :=
 ⟨fun k _ hk _ _=>(h.block k (Array.getElem?_eq_some_iff.1 hk).1).trans hk,h.size⟩
theorem BuS.ext {w0 W W' : World} {b : Nat} {l : List UInt8} (h : BuS w0 b l W) (e : Ext W W') : BuS w0 b l W':=by
 refine ⟨h.1.trans e,?_⟩
 have one : ∀ p,Lib.BuilderAt 225 5 w0.heap.size b p (Lib.byteCells l) W → Lib.BuilderAt 225 5 w0.heap.size b p (Lib.byteCells l) W':=by
   rintro p ⟨hB,v,hb,hown,hne⟩
   refine ⟨hB,v,(e.block b (Array.getElem?_eq_some_iff.1 hb).1).trans hb,⟨hown.1,?_⟩,hne⟩
   rcases hown.2 with h | ⟨g,cap,cur,hv,hbg,hg,rest⟩
   · exact .inl h
   · exact .inr ⟨g,cap,cur,hv,hbg,(e.block g (Array.getElem?_eq_some_iff.1 hg).1).trans hg,rest⟩
 exact h.2.imp (one _) (one _)
theorem sb_lies : liesAt Tryz.prog Tryz.prog.depth 225 (2 / Tryz.prog.cellsOf 225) 0 225 1 = true:=J3
theorem scheck_new (b : Nat) (w : World) (h0 : w.cell? ⟨b,0,none⟩ = some (.pointer none)) (hsh : w.shape? b = some (225,2)) (hfz : w.frozen? ⟨b,0,none⟩ = false) :
   Calls Tryz.prog 271 #[.pointer (some ⟨b,0,none⟩)] w fun e w'=>e = .returned (.tuple #[]) ∧ w' = w.setCell ⟨b,0,none⟩ (.pointer (some ⟨b,0,none⟩)):=by
 obtain ⟨j,hj,hjs⟩:=sb_info
 have q1:=Lib.run_to_unsafe (P:=Tryz.prog) w ⟨b,0,none⟩ Tryz.underlying223 Tryz.underlying257 hj J2 hsh (Nat.zero_lt_succ 1)
 have q3:=Lib.run_from_unsafe (P:=Tryz.prog) w ⟨b,0,none⟩ Tryz.underlying257 Tryz.underlying223 hj hsh sb_lies
 have q2:=run_callFunc_extern (P:=Tryz.prog) func283 J3 J3 J3 (e:=Extern.AbiNoEscape.same) J3 #[.pointer (some ⟨b,0,none⟩)] w
 rw [Lib.run_noEscape] at q2
 go_enter func271,ntmps271
 go_wp2
 go_end0
 exact ⟨rfl,rfl⟩
theorem scheck_any (B b : Nat) (l : List Value) (w : World) (h : Lib.IsBuilder 225 5 B b l w) :
   Calls Tryz.prog 271 #[.pointer (some ⟨b,0,none⟩)] w fun e w'=>e = .returned (.tuple #[]) ∧ Lib.BuilderAt 225 5 B b (.pointer (some ⟨b,0,none⟩)) l w' ∧ Below B w w' ∧ Lib.OthersKept 5 (some b) w w':=by
 rcases h with h | h
 · refine (scheck_new b w h.cell0 h.shape h.frozen0).mono ?_
   rintro e w' ⟨rfl,rfl⟩
   exact ⟨rfl,h.used _,(Below.refl B w).setCell (p:=⟨b,0,none⟩) h.1 _,(Lib.OthersKept.refl _ _ w).setCell ⟨b,0,none⟩ rfl _⟩
 · refine (sb_used b w h.cell0).mono ?_
   rintro e w' ⟨rfl,rfl⟩
   exact ⟨rfl,h,Below.refl B _,Lib.OthersKept.refl _ _ _⟩
theorem swrite_any (w0 : World) (b : Nat) (l : List UInt8) (s : ByteArray) (w : World) (hBu : BuS w0 b l w) (hlen : l.length ≤ 100000000) (hs : s.size ≤ 100000000) :
   Calls Tryz.prog 240 #[.pointer (some ⟨b,0,none⟩),.string s] w fun e w'=>e = .returned (.tuple #[.int .i64 s.size,.nilIface]) ∧ BuS w0 b (l ++ s.data.toList) w' ∧ OkS9 b w w':=by
 obtain ⟨i,hi,hz,h1,h2⟩:=sb_byte
 obtain ⟨hE0,h⟩:=hBu
 have HE0 : Hid (Ext w0 w):=hE0
 have hBw : w0.heap.size ≤ w.heap.size:=hE0.size
 obtain ⟨B,hBdef⟩ : ∃ B,w0.heap.size = B:=⟨_,rfl⟩
 rw [hBdef] at h hBw
 have HB0 : Hid (w0.heap.size = B):=hBdef
 clear hBdef hE0
 have c0:=fun W h=>scheck_any B b (Lib.byteCells l) W h
 have hbl : (Lib.byteCells l).length = l.length:=by simp [Lib.byteCells]
 have hbs : Hid (Lib.byteCells (l ++ s.data.toList) = Lib.byteCells l ++ Lib.strCells s):=by show _ = _;simp [Lib.byteCells,Lib.strCells]
 rw [← hbl] at hlen
 clear hbl
 obtain ⟨bl,hbl⟩ : ∃ bl,Lib.byteCells l = bl:=⟨_,rfl⟩
 rw [hbl] at h c0 hbs hlen
 clear hbl
 go_enter func240,ntmps240
 go_wp2_with fail
 refine (c0 _ h).mono ?_
 rintro e w1 ⟨rfl,⟨hB,v,hb,hown,hne⟩,hw1,hk1⟩
 have d0 : w1.cell? ⟨b,0,none⟩ = some (.pointer (some ⟨b,0,none⟩)):=J100
 have d1 : w1.cell? ⟨b,1,none⟩ = some v:=J100
 have hlt : b < w1.heap.size:=Lib.BuilderAt.lt ⟨hB,v,hb,hown,hne⟩
 have HO : Hid (w1.ownsRow B 5 1 v bl.length bl):=hown
 have HS:=hw1.size
 go_wp2_with (at_builtin;refine Lib.wpList_append_own_string _ rfl _ _ 189 9 rfl B 5 i Tryz.underlying189 Tryz.underlying9 hi hz h1 h2 _ _ _ rfl HO.out s rfl ?c3 ?c4 ?c5 ?_)
 case c3=>unfold maxLen;omega
 case c4=>omega
 case c5=>omega
 intro v' w2 hown' hg _
 have hb2 : w2.heap[b]? = some (.cells #[.pointer (some ⟨b,0,none⟩),v] 225 (0,0)):=by
   rw [hg.block b hlt (fun e=>hne e.symm)]
   exact hb
 have d2 : w2.cell? ⟨b,0,none⟩ = some (.pointer (some ⟨b,0,none⟩)):=by rw [Lib.cell_of_heap hb2];rfl
 have d3 : w2.cell? ⟨b,1,none⟩ = some v:=by rw [Lib.cell_of_heap hb2];rfl
 have f3 : w2.frozen? ⟨b,1,none⟩ = false:=Lib.frozen_of_heap hb2 1
 obtain ⟨ao,n',cap,rfl⟩ : ∃ ao n' cap,v' = .slice ao n' cap:=by
   rcases hown'.2 with ⟨hv,_⟩ | ⟨g,cap,cur,hv,_⟩
   · exact ⟨_,_,_,hv⟩
   · exact ⟨_,_,_,hv⟩
 go_wp2
 go_ret2
 have hbel : Below B w (w2.setCell ⟨b,1,none⟩ (.slice ao n' cap)):=(hw1.grown hg J2 (fun k hk=>(hown.lt k hk).1)).setCell (p:=⟨b,1,none⟩) hB _
 refine ⟨rfl,⟨?_,?_⟩,?_,hbel.size⟩
 · show Below w0.heap.size w0 _
   rw [HB0.out]
   have:=HE0.out
   unfold Ext at this
   rw [HB0.out] at this
   exact Below.trans this hbel
 · rw [HB0.out,hbs.out]
   exact .inr (Lib.BuilderAt.put hB hb2 (by simpa [Lib.strCells_length] using hown') J6)
 · exact (hk1.grown hg (Lib.ownsRow_kind hown)).setCell ⟨b,1,none⟩ rfl _
theorem text_any (x : V) (a : Bool) (W : World) (hT : Tab W) (hN : Nm W) (hx : x.ok) : Calls Tryz.prog 237 #[x.dat,.bool a] W fun e w'=>e = .returned (texF x a).dat ∧ Ext W w':=by
 have c0:=fun W t h=>vtotext_any x.k x.n x.s x.e W (nm_of x hx).2 t h
 rw [(nm_of x hx).1] at c0
 have H : Hid (texF x a = x.toText):=rfl
 rw [dat_eq x]
 obtain ⟨q0,q1,q2,q3,hq⟩:=dat4 x.toText
 rw [hq] at c0
 have HQ : Hid (x.toText.dat = .agg #[.int .i64 q0,.int .i64 q1,.string q2,.int .i64 q3]):=hq
 clear hq hx
 generalize x.k = xk at *
 generalize x.n = xn at *
 generalize x.s = xs at *
 generalize x.e = xe at *
 go_enter func237,ntmps237
 go_wp2_with fail
 refine (c0 _ (hT.ext ((xr.alloc _).alloc _)) (hN.ext ((xr.alloc _).alloc _))).mono ?_
 rintro e w1 ⟨rfl,E1⟩
 obtain ⟨z,⟨k0,k1,k2,k3⟩,f0,f1,f2,f3⟩:=blk_top (b:=W.heap.size + 1) J60 E1
 go_wp2_with fail
 exact fin4 k0 k1 k2 k3 rfl J60 (((xr.alloc _).alloc _).trans E1) (fun W g0 g1 g2 g3=>by simp [results,results237,go_sem,g0,g1,g2,g3]) (fun W h=>⟨by rw [H.out,HQ.out],h⟩)
theorem turn_text (w0 : World) (hT : Tab w0) (hN : Nm w0) : TurnC w0 (.func (.func 237) #[] #[]) texF :=
 ⟨237,rfl,enters_of func237 J3 rfl,fun W x a e h=>text_any x a W (hT.ext e) (hN.ext e) h⟩
theorem texF_okk (x : V) (a : Bool) (h : x.ok) : (texF x a).ok:=toText_ok x h
theorem blen_any (w0 : World) (b : Nat) (l : List UInt8) (w : World) (h : BuS w0 b l w) :
   Calls Tryz.prog 239 #[.pointer (some ⟨b,0,none⟩)] w fun e w'=>e = .returned (.int .i64 (l.length : Int)) ∧ w' = w:=by
 obtain ⟨p,hB,v,hb,hown,hne⟩ : ∃ p,Lib.BuilderAt 225 5 w0.heap.size b p (Lib.byteCells l) w:=by
   rcases h.2 with h | h
   · exact ⟨_,h⟩
   · exact ⟨_,h⟩
 have hl : (Lib.byteCells l).length = l.length:=by simp [Lib.byteCells]
 rw [hl] at hown
 obtain ⟨ao,cap,rfl⟩ : ∃ ao cap,v = .slice ao l.length cap:=by
   rcases hown.2 with ⟨hv,h0⟩ | ⟨g,cap,cur,hv,_⟩
   · exact ⟨none,0,by rw [hv,h0]⟩
   · exact ⟨_,_,hv⟩
 have d1 : w.cell? ⟨b,1,none⟩ = some (.slice ao l.length cap):=J100
 clear h hl hown hne hb hB
 go_enter func239,ntmps239
 exact K28
theorem catF_le (l : List V) (a : List UInt8) (h : ∀ v ∈ l,v.s.size ≤ 300) (ha : a.length ≤ 600) : (catF a l).length ≤ 600:=by
 induction l generalizing a with
 | nil=>exact ha
 | cons v l ih =>
   show (catF (if a.length ≤ 300 then a ++ v.s.data.toList else a) l).length ≤ 600
   refine ih _ (fun u hu=>h u (by simp [hu])) ?_
   split
   · have:=h v J60
     rw [List.length_append,size_list];omega
   · exact ha
theorem ok_s (v : V) (h : v.ok) : v.s.size ≤ 300:=by
 cases v with
 | text s=>exact h
 | _=>exact Nat.zero_le _
structure Cat (w0 : World) (g : Nat) (l : List V) (W : World) : Prop where
 b : BuS w0 g (catF [] l) W
 o : ∀ v ∈ l,v.s.size ≤ 300
theorem BuS.env {w0 W W' : World} {g hi : Nat} {l : List UInt8} (h : BuS w0 g l W) (e : Env hi W W') (hg : g < hi) (hh : w0.heap.size ≤ hi) : BuS w0 g l W':=by
 refine ⟨Below.trans h.1 (e.1.mono hh),?_⟩
 have one : ∀ p,Lib.BuilderAt 225 5 w0.heap.size g p (Lib.byteCells l) W → Lib.BuilderAt 225 5 w0.heap.size g p (Lib.byteCells l) W':=by
   rintro p ⟨hB,v,hb,hown,hne⟩
   refine ⟨hB,v,(e.1.block g hg).trans hb,⟨hown.1,?_⟩,hne⟩
   rcases hown.2 with h | ⟨q,cap,cur,hv,hbg,hq,rest⟩
   · exact .inl h
   · exact .inr ⟨q,cap,cur,hv,hbg,(e.2 q ⟨cur,(0,0),hq⟩).trans hq,rest⟩
 exact h.2.imp (one _) (one _)
theorem Ext.between2 {W V1 V2 : World} (e1 : Ext W V1) (e2 : Ext W V2) (hs : V1.heap.size ≤ V2.heap.size) : Below W.heap.size V1 V2 :=
 ⟨e2.os.trans e1.os.symm,e2.tape.trans e1.tape.symm,e2.output.trans e1.output.symm,hs,fun k hk=>(e2.block k hk).trans (e1.block k hk).symm⟩
theorem OkS9.mid {w0 W W' : World} {g hi : Nat} (h : OkS9 g W W') (e : Ext w0 W) (e' : Ext w0 W') (hg : g < hi) : Mid w0.heap.size hi W W' :=
 ⟨Ext.between2 e e' h.2,fun k hk hs hr=>by
   have hk2 : W.heap[k]? = some W.heap[k]:=Array.getElem?_eq_getElem hs
   rw [hk2]
   exact h.1 k _ hk2 (by intro q;cases q;omega) (fun c fz q=>hr ⟨c,fz,by rw [hk2,q]⟩)⟩
theorem cat1_any (w0 : World) (g : Nat) (l : List V) (W : World) (x : V) (h : Cat w0 g l W) (hx : x.ok) :
   Calls Tryz.prog 238 (encV x ++ #[.pointer (some ⟨g,0,none⟩)]) W fun e w'=>e = .returned (.tuple #[]) ∧ Cat w0 g (l ++ [x]) w' ∧ OkS9 g W w':=by
 have hs:=ok_s x hx
 have hle:=catF_le l [] h.o J60
 have HO : Hid (∀ v ∈ l ++ [x],v.s.size ≤ 300):=by
   intro v hv
   rcases List.mem_append.1 hv with hv | hv
   · exact h.o v hv
   · simp at hv;subst hv;exact hs
 have HC : Hid (catF [] (l ++ [x]) = if (catF [] l).length ≤ 300 then catF [] l ++ x.s.data.toList else catF [] l):=catF_app [] l x
 rw [show encV x = #[x.dat] from rfl,dat_eq x]
 obtain ⟨L,hL⟩ : ∃ L,catF [] l = L:=⟨_,rfl⟩
 have HB : Hid (BuS w0 g L W):=by rw [← hL];exact h.b
 rw [hL] at HC hle
 have cL:=fun V (q : BuS w0 g L V)=>blen_any w0 g L V q
 have cW:=fun V (q : BuS w0 g L V)=>swrite_any w0 g L x.s V q J2 J2
 clear h hx hL
 generalize x.k = xk at *
 generalize x.n = xn at *
 generalize x.e = xe at *
 obtain ⟨xs,hxs⟩ : ∃ q,x.s = q:=⟨_,rfl⟩
 rw [hxs] at cW HC hs ⊢
 clear hxs
 by_cases hc : L.length ≤ 300
 · have hd : decide ((L.length : Int) ≤ 300) = true:=J8
   have hI : (L.length : Int) ≤ 300:=J2
   rw [if_pos hc] at HC
   clear hc hle hs
   go_enter func238,ntmps238
   go_wp2_with fail
   refine (cL _ (HB.out.ext (xr.alloc _))).mono ?_
   rintro e w1 ⟨rfl,rfl⟩
   go_wp2_with fail
   refine (cW _ (HB.out.ext (xr.alloc _))).mono ?_
   rintro e w2 ⟨rfl,B2,O2⟩
   have HO2 : Hid (OkS9 g W w2):=(((Ext.refl W).alloc _).toKS g).trans O2
   have HB2 : Hid (BuS w0 g (L ++ xs.data.toList) w2):=B2
   clear B2 O2
   go_wp2_with fail
   go_end0
   exact ⟨rfl,⟨by rw [HC.out];exact HB2.out,HO.out⟩,HO2.out⟩
 · have hd : decide ((L.length : Int) ≤ 300) = false:=J8
   have hI : ¬ (L.length : Int) ≤ 300:=J2
   rw [if_neg hc] at HC
   clear hc hle hs cW
   go_enter func238,ntmps238
   go_wp2_with fail
   refine (cL _ (HB.out.ext (xr.alloc _))).mono ?_
   rintro e w1 ⟨rfl,rfl⟩
   go_wp2_with fail
   go_end0
   have O2 : ∀ o,OkS9 g W (W.alloc o):=fun o=>((Ext.refl W).alloc o).toKS g
   exact ⟨rfl,⟨by rw [HC.out];exact HB.out.ext (xr.alloc _),HO.out⟩,O2 _⟩
theorem ent_cat1 : ∀ args W,(callFunc 238 args).run Tryz.prog W = .ok (.enter 238 args) W:=enters_of func238 J3 rfl
theorem cat_fn (w0 wb : World) (hw : Ext w0 wb) (g hi : Nat) (hg : g < hi) (hh : wb.heap.size ≤ hi) : FnC w0 hi (.func (.func 238) #[] #[.pointer (some ⟨g,0,none⟩)]) encV V.ok (fun l W=>Cat wb g l W):=by
 refine ⟨_,_,rfl,ent_cat1,?_,?_⟩
 · intro l W W' h hs e
   exact ⟨h.b.env e hg hh,h.o⟩
 · intro l W x h hs e hl hx
   exact (cat1_any wb g l W x h hx).mono (fun e' w' q=>⟨q.1,q.2.1,q.2.2.mid e (hw.trans q.2.1.b.1) hg⟩)
theorem fcat_any (gs : List Ag) (w0 : World) (p : Option Addr) (n c : Nat) (hF : Fit w0 (.slice p n c) gs) (hT : Tab w0) (hN : Nm w0) :
   Calls Tryz.prog 186 #[.slice p n c] w0 fun e w'=>e = .returned (fCat gs).dat ∧ Ext w0 w':=by
 have HF : Hid (Fit w0 (.slice p n c) gs ∧ Tab w0 ∧ Nm w0):=⟨hF,hT,hN⟩
 obtain ⟨wb,hwb⟩ : ∃ wb,w0.alloc (.cells #[.int .i64 0,.int .i64 0,.string ⟨#[]⟩,.int .i64 0] 33) = wb:=⟨_,rfl⟩
 have hzb : wb.heap.size = w0.heap.size + 1:=by rw [← hwb];simp
 have HWB : Hid (Ext w0 wb ∧ Blk wb w0.heap.size (.int .i64 0) (.int .i64 0) (.string ⟨#[]⟩) (.int .i64 0)):=by
   rw [← hwb]
   exact ⟨xr.alloc _,blk_top rfl xr⟩
 have HFN : Hid (FnC w0 (w0.heap.size + 2) (.func (.func 238) #[] #[.pointer (some ⟨w0.heap.size + 1,0,none⟩)]) encV V.ok (fun l W=>Cat wb (w0.heap.size + 1) l W)):=cat_fn w0 wb HWB.out.1 _ _ J2 J2
 have HZB : Hid (wb.heap.size = w0.heap.size + 1):=hzb
 have HWE : Hid (w0.alloc (.cells #[.int .i64 0,.int .i64 0,.string ⟨#[]⟩,.int .i64 0] 33) = wb):=hwb
 clear hzb hwb
 clear hF hT hN
 go_enter func186,ntmps186
 go_wp2_with fail
 rw [HWE.out]
 generalize hW3 : wb.alloc _ = W3
 have z3 : W3.heap.size = w0.heap.size + 2:=by rw [← hW3];simp;have:=HZB.out;omega
 have Eb : Ext wb W3:=by rw [← hW3];exact xr.alloc _
 have E3 : Ext w0 W3:=HWB.out.1.trans Eb
 have HC : Cat wb (w0.heap.size + 1) [] W3:=by
   refine ⟨⟨Eb,?_⟩,(fun v hv=>by cases hv)⟩
   rw [← hW3,← HZB.out]
   exact Lib.fresh_isBuilder _ _ wb
 refine (through_any w0 gs _ _ texF (fun l W=>Cat wb (w0.heap.size + 1) l W) W3 p n c (turn_text w0 HF.out.2.1 HF.out.2.2) (by rw [z3];exact HFN.out) texF_okk (HF.out.1.rd.low (Below.mono E3 nrf)) HF.out.1.i HF.out.1.s HF.out.1.l HC E3 HF.out.2.2).mono ?_
 rintro e w4 ⟨rfl,T4,X4⟩
 have HX4 : Hid (Ext w0 w4):=X4
 have HB4 : Hid (Blk w4 w0.heap.size (.int .i64 0) (.int .i64 0) (.string ⟨#[]⟩) (.int .i64 0)):=HWB.out.2.ext T4.b.1
 obtain ⟨c0z,⟨c0_0,c0_1,c0_2,c0_3⟩,c0f0,c0f1,c0f2,c0f3⟩:=HB4.out
 have HBu : Hid (BuS wb (w0.heap.size + 1) (catF [] (got texF (seen gs))) w4):=T4.b
 have HR : Hid (fCat gs = if (bad texF (seen gs)).k = 4 then bad texF (seen gs) else mkText (bs (allC (got texF (seen gs))))):=rfl
 have HTX : Hid (mkText (bs (catF [] (got texF (seen gs)))) = mkText (bs (allC (got texF (seen gs))))):=cat_text _
 have HD : Hid ((bad texF (seen gs)).dat = .agg #[.int .i64 (bad texF (seen gs)).k,.int .i64 (bad texF (seen gs)).n,.string (bad texF (seen gs)).s,.int .i64 (bad texF (seen gs)).e]):=dat_eq _
 have hD:=dat_eq (bad texF (seen gs))
 obtain ⟨zk,hzk⟩ : ∃ r,(bad texF (seen gs)).k = r:=⟨_,rfl⟩
 obtain ⟨zn,hzn⟩ : ∃ r,(bad texF (seen gs)).n = r:=⟨_,rfl⟩
 obtain ⟨zs',hzs⟩ : ∃ r,(bad texF (seen gs)).s = r:=⟨_,rfl⟩
 obtain ⟨ze,hze⟩ : ∃ r,(bad texF (seen gs)).e = r:=⟨_,rfl⟩
 rw [hzk,hzn,hzs,hze] at HD hD
 rw [hzk] at HR
 rw [hD]
 clear hzk hzn hzs hze hD hW3 z3 E3 Eb HC X4 T4 HFN HWE
 by_cases h4 : zk = 4
 · have e4 : (zk == 4) = true:=J95
   have HZ : Hid (fCat gs = bad texF (seen gs)):=by show _ = _;rw [HR.out,if_pos h4]
   clear h4 HR
   go_wp2_with fail
   exact finB ((HB4.out.set _ _ _ _).al _) rfl (((((HX4.out.setCell J60 _).setCell J60 _).setCell J60 _).setCell J60 _).alloc _) (fun g0 g1 g2 g3=>by simp [results,results186,go_sem,g0,g1,g2,g3]) (fun h=>⟨by rw [HZ.out,HD.out],h⟩)
 · have e4 : (zk == 4) = false:=J95
   have HZ : Hid (fCat gs = mkText (bs (catF [] (got texF (seen gs))))):=by show _ = _;rw [HR.out,if_neg h4,HTX.out]
   clear h4 HR HTX
   obtain ⟨T,hTT⟩ : ∃ T,catF [] (got texF (seen gs)) = T:=⟨_,rfl⟩
   rw [hTT] at HBu HZ
   have cN:=fun W h=>vtext_any (bs T) W h
   obtain ⟨q0,q1,q2,q3,hq⟩:=dat4 (mkText (bs T))
   rw [hq] at cN
   have HQ : Hid ((mkText (bs T)).dat = .agg #[.int .i64 q0,.int .i64 q1,.string q2,.int .i64 q3]):=hq
   have CS : Hid (∀ V,Ext w4 V → Calls Tryz.prog 241 #[.pointer (some ⟨w0.heap.size + 1,0,none⟩)] V fun e w'=>e = .returned (.string (bs T)) ∧ Below wb.heap.size V w'):=fun V e=>Tryz.Builder_String_any wb.heap.size (w0.heap.size + 1) T V (HBu.out.ext e).2 (Nat.le_trans HBu.out.1.size e.size)
   clear hq hTT
   generalize bs T = bT at *
   go_wp2_with fail
   refine (CS.out _ (xr.alloc _)).mono ?_
   rintro e w5 ⟨rfl,E5⟩
   have HE5 : Hid (Ext wb w5):=Below.trans (HBu.out.1.alloc _) E5
   have HB5 : Hid (Blk w5 w0.heap.size (.int .i64 0) (.int .i64 0) (.string ⟨#[]⟩) (.int .i64 0)):=HWB.out.2.ext HE5.out
   clear c0z c0_0 c0_1 c0_2 c0_3 c0f0 c0f1 c0f2 c0f3 E5
   go_wp2_with fail
   refine (cN _ (HF.out.2.2.ext (HWB.out.1.trans HE5.out))).mono ?_
   rintro e w6 ⟨rfl,E6⟩
   have HB6 : Hid (Blk w6 w0.heap.size (.int .i64 0) (.int .i64 0) (.string ⟨#[]⟩) (.int .i64 0)):=HB5.out.ext E6
   have HX6 : Hid (Ext w0 w6):=(HWB.out.1.trans HE5.out).trans E6
   clear E6
   obtain ⟨c0z,⟨c0_0,c0_1,c0_2,c0_3⟩,c0f0,c0f1,c0f2,c0f3⟩:=HB6.out
   go_wp2_with fail
   exact finB (HB6.out.set _ _ _ _) rfl ((((HX6.out.setCell J60 _).setCell J60 _).setCell J60 _).setCell J60 _) (fun g0 g1 g2 g3=>by simp [results,results186,go_sem,g0,g1,g2,g3]) (fun h=>⟨by rw [HZ.out,HQ.out],h⟩)
end Go.Proofs.YtcfgbiaahangmaaGreatDoor
