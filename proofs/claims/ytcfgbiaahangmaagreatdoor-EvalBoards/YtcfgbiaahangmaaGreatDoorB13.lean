import Derived.Maps.RangeWalk
import Derived.DeepKeys5
import Derived.Test.YtcfgbiaahangmaaGreatDoorB10
import Derived.Test.YtcfgbiaahangmaaGreatDoorProg
import Derived.Lib.AppendZeros
import Derived.Test.YtcfgbiaahangmaaGreatDoorSfBG
import Derived.Test.YtcfgbiaahangmaaGreatDoorSfBB
set_option maxHeartbeats 1000000
set_option maxRecDepth 100000
namespace Go.Proofs.YtcfgbiaahangmaaGreatDoor
open Go.Proofs.Tryz
open Go.RowKit
open Go.Maps (Keyed)
theorem kLaw : Keyed Tryz.prog 24:=Keyed.of_law (deep_law_laid (m:=3) J3 J9 (of_decide_eq_true J3) J3 J3)
theorem kType : Tryz.prog.keyType 24 = true:=J3
theorem kCells : Tryz.prog.cellsOf 24 = 2:=J3
theorem kInt : Tryz.prog.cellsOf 3 = 1:=J3
theorem kSize : ∃ m,Tryz.prog.types.size = m + 1:=⟨Tryz.prog.types.size - 1,by have : 0 < Tryz.prog.types.size:=of_decide_eq_true J3;omega⟩
def plc (r c : Int) : Value:=.agg #[.int .i64 r,.int .i64 c]
def kl (r c : Int) : Lit:=.string (keyBytes [.int .i64 r,.int .i64 c])
theorem wf_i64 {n : Int} (h : I64 n) : (Lit.int .i64 n).wf = true:=WalkArith.wf_i64 (by unfold I64 at h;omega)
theorem key_mk (r c : Int) (hr : I64 r) (hc : I64 c) : keyOf Tryz.prog 24 (plc r c) = some (kl r c):=by
 obtain ⟨m,hm⟩:=kSize
 unfold keyOf plc
 simp only [Tryz.underlying24]
 rw [if_pos (by simp [kType,Value.formed,Tryz.underlying24,kCells]),hm]
 unfold Program.keyLits
 simp only [Tryz.underlying24,Value.cells]
 rw [if_pos (by rw [kCells];simp)]
 simp [Program.keyLits,kInt,Tryz.underlying3,wf_i64 hr,wf_i64 hc,kl]
theorem arr2 {α : Type} {cs : Array α} (h : cs.size = 2) : ∃ x y,cs = #[x,y]:=by
 obtain ⟨l⟩:=cs
 match l,h with
 | [x,y],_=>exact ⟨x,y,rfl⟩
theorem key_inv {v : Value} {l : Lit} (h : keyOf Tryz.prog 24 v = some l) : ∃ r c,v = plc r c ∧ l = kl r c ∧ I64 r ∧ I64 c:=by
 obtain ⟨m,hm⟩:=kSize
 unfold keyOf at h
 simp only [Tryz.underlying24] at h
 split at h
 · rename_i hf
   simp only [Bool.and_eq_true] at hf
   have hf2:=hf.2
   cases v <;> simp [Value.formed,Tryz.underlying24,kCells] at hf2
   rename_i cs
   obtain ⟨x,y,rfl⟩:=arr2 hf2
   rw [hm] at h
   unfold Program.keyLits at h
   simp only [Tryz.underlying24,Value.cells] at h
   rw [if_pos (by rw [kCells];simp)] at h
   cases x <;> simp [Program.keyLits,kInt,Tryz.underlying3] at h
   cases y <;> simp [Option.bind_eq_some_iff] at h
   rename_i q n q' n'
   obtain ⟨_,⟨⟨rfl,hz⟩,rfl⟩,_,⟨_,⟨⟨rfl,hz'⟩,rfl⟩,rfl⟩,rfl⟩:=h
   exact ⟨n,n',rfl,rfl,i64_of_wf hz,i64_of_wf hz'⟩
 · cases h
theorem kl_inj {r c r' c' : Int} (hr : I64 r) (hc : I64 c) (hr' : I64 r') (hc' : I64 c') (h : kl r c = kl r' c') : r = r' ∧ c = c':=by
 have h1:=key_mk r c hr hc
 have h2:=key_mk r' c' hr' hc'
 rw [← h] at h2
 have:=kLaw.inj h1 h2
 unfold plc at this
 simp at this
 exact this
def hR (v : Value) : Option (DataW Value × List MemPlace):=some (.held v,[])
def RelD (D : DataW Value) (M : Bov) : Prop:=∀ r c,I64 r → I64 c → D.atKey (kl r c) (.held V.blank.dat) = .held (M r c).dat ∧ (Maps.has D (kl r c) = true ↔ (M r c).k ≠ 0)
def MapB (W : World) (g n : Nat) (M : Bov) : Prop:=∃ D,W.ownsMap Tryz.prog 24 hR g n D ∧ RelD D M
theorem rel_empty : RelD (.map []) bz:=fun r c _ _=>⟨rfl,by simp [Maps.has,bz,V.k]⟩
theorem rel_put {D : DataW Value} {M : Bov} (h : RelD D M) (hD : Maps.IsMap D) (r c : Int) (hr : I64 r) (hc : I64 c) (v : V) (hv : v.k ≠ 0) : RelD (D.put (kl r c) (.held v.dat)) (bput M r c v):=by
 have hk:=kLaw.key (key_mk r c hr hc)
 intro r' c' hr' hc'
 by_cases e : r' = r ∧ c' = c
 · obtain ⟨rfl,rfl⟩:=e
   rw [Maps.atKey_put_same hD hk,Maps.has_put_same hD hk]
   unfold bput
   simp [hv]
 · have hne : kl r' c' ≠ kl r c:=fun he=>e (kl_inj hr' hc' hr hc he)
   rw [Maps.atKey_put_other hne,Maps.has_put_other hne]
   unfold bput
   rw [if_neg e]
   exact h r' c' hr' hc'
theorem rel_del {D : DataW Value} {M : Bov} (h : RelD D M) (r c : Int) (hr : I64 r) (hc : I64 c) : RelD (D.del (kl r c)) (bput M r c .blank):=by
 intro r' c' hr' hc'
 by_cases e : r' = r ∧ c' = c
 · obtain ⟨rfl,rfl⟩:=e
   rw [Maps.atKey_del_same,Maps.has_del_same]
   unfold bput
   simp [V.k]
 · have hne : kl r' c' ≠ kl r c:=fun he=>e (kl_inj hr' hc' hr hc he)
   rw [Maps.atKey_del_other hne,Maps.has_del_other hne]
   unfold bput
   rw [if_neg e]
   exact h r' c' hr' hc'
structure ExtS (S : Nat → Prop) (w w' : World) : Prop where
 os : w'.os = w.os
 tape : w'.tape = w.tape
 output : w'.output = w.output
 size : w.heap.size ≤ w'.heap.size
 block : ∀ k,k < w.heap.size → ¬ S k → w'.heap[k]? = w.heap[k]?
theorem ExtS.refl (S : Nat → Prop) (w : World) : ExtS S w w:=⟨rfl,rfl,rfl,Nat.le_refl _,fun _ _ _=>rfl⟩
theorem ExtS.trans {S : Nat → Prop} {x y z : World} (h : ExtS S x y) (k : ExtS S y z) : ExtS S x z :=
 ⟨k.os.trans h.os,k.tape.trans h.tape,k.output.trans h.output,Nat.le_trans h.size k.size,fun i hi hs=>(k.block i (llL hi h.size) hs).trans (h.block i hi hs)⟩
theorem Ext.toS {w w' : World} (h : Ext w w') (S : Nat → Prop) : ExtS S w w':=⟨h.os,h.tape,h.output,h.size,fun k hk _=>h.block k hk⟩
theorem ExtS.ext {S : Nat → Prop} {w0 w w' : World} (h : ExtS S w w') (e : Ext w0 w) (hS : ∀ k,S k → w0.heap.size ≤ k) : Ext w0 w' :=
 ⟨h.os.trans e.os,h.tape.trans e.tape,h.output.trans e.output,Nat.le_trans e.size h.size,fun k hk=>(h.block k (llL hk e.size) (fun hs=>by have:=hS k hs;omega)).trans (e.block k hk)⟩
theorem ExtS.mono {S S' : Nat → Prop} {w w' : World} (h : ExtS S w w') (hs : ∀ k,S k → S' k) : ExtS S' w w':=⟨h.os,h.tape,h.output,h.size,fun k hk hn=>h.block k hk (fun h'=>hn (hs k h'))⟩
theorem cell_of_heap {w w' : World} {k : Nat} (h : w'.heap[k]? = w.heap[k]?) (o : Nat) : w'.cell? ⟨k,o,none⟩ = w.cell? ⟨k,o,none⟩ ∧ w'.frozen? ⟨k,o,none⟩ = w.frozen? ⟨k,o,none⟩:=by
 unfold World.cell? World.frozen?
 simp only [h,and_self]
structure Brd (W : World) (b : Nat) (g : Option Nat) (n : Nat) (M : Bov) : Prop where
 lt : b < W.heap.size
 cell : W.cell? ⟨b,0,none⟩ = some (.map g)
 fz : W.frozen? ⟨b,0,none⟩ = false
 ne : g ≠ some b
 ok : BdOk M
 map : match g with | none=>M = bz | some g=>MapB W g n M
theorem MapB.lt {W : World} {g n : Nat} {M : Bov} (h : MapB W g n M) : g < W.heap.size:=by obtain ⟨D,h,_⟩:=h;exact h.lt
theorem MapB.keep {W W' : World} {g n : Nat} {M : Bov} (h : MapB W g n M) (e : W'.heap[g]? = W.heap[g]?) : MapB W' g n M:=by
 obtain ⟨D,⟨es,clock,hb,r⟩,hR⟩:=h
 exact ⟨D,⟨es,clock,e.trans hb,r⟩,hR⟩
theorem Brd.keep {W W' : World} {b n : Nat} {g : Option Nat} {M : Bov} (h : Brd W b g n M) {S : Nat → Prop} (e : ExtS S W W') (hb : ¬ S b) (hg : ∀ k,g = some k → ¬ S k) : Brd W' b g n M:=by
 have k:=cell_of_heap (e.block b h.lt hb) 0
 refine ⟨llL h.lt e.size,k.1.trans h.cell,k.2.trans h.fz,h.ne,h.ok,?_⟩
 cases g with
 | none=>exact h.map
 | some g=>exact MapB.keep h.map (e.block g (MapB.lt h.map) (hg g rfl))
theorem Brd.ext {W W' : World} {b n : Nat} {g : Option Nat} {M : Bov} (h : Brd W b g n M) (e : Ext W W') : Brd W' b g n M:=h.keep (e.toS (fun _=>False)) (fun h=>h) (fun _ _ h=>h)
structure Elt (TS T : TypeId) (k bytes : Nat) : Prop where
 u : Tryz.prog.underlying TS = some (.slice T)
 i : ∃ i z,Tryz.prog.info? T = some i ∧ i.zero = some z ∧ i.size = k ∧ i.bytes = bytes ∧ z.cells.size = k
 k0 : 0 < k
theorem ownsRow_ext {w w' : World} {base : Nat} {T : TypeId} {k n : Nat} {v : Value} {xs : List Value} (h : w.ownsRow base T k v n xs) (e : Ext w w') : w'.ownsRow base T k v n xs:=by
 refine ⟨h.1,?_⟩
 rcases h.2 with h | ⟨g,cap,cur,h1,h2,h3,h4⟩
 · exact .inl h
 · exact .inr ⟨g,cap,cur,h1,h2,(e.block g (Array.getElem?_eq_some_iff.1 h3).1).trans h3,h4⟩
theorem ext_grownG {w W W' : World} {base : Nat} {T : TypeId} {k n : Nat} {v : Value} {xs : List Value} (hB : W.ownsRow base T k v n xs) (hb : w.heap.size ≤ base) (hE : Ext w W) (hg : W.grownBy W' v.ownBlock) : Ext w W':=by
 refine ⟨hg.os.trans hE.os,hg.tape.trans hE.tape,hg.output.trans hE.output,Nat.le_trans hE.size hg.size,fun q hq=>?_⟩
 refine (hg.block q (llL hq hE.size) ?_).trans (hE.block q hq)
 intro e
 have:=(hB.lt q e.symm).1
 omega
def RowC (W : World) (v : Value) (m : Nat) (k : Nat) (news : List Value) : Prop:=news.length = m * k ∧ ∃ p c,v = .slice p m c ∧ ((p = none ∧ m = 0) ∨ ∃ ad,p = some ad ∧ ∀ j u,news[j]? = some u → W.cell? (ad.add j) = some u)
theorem run_append_noneG {TS T : TypeId} {k bytes : Nat} (hT : Elt TS T k bytes) (w : World) (ty : TypeId) (p : Option Addr) (n cap c : Nat) (h : n ≤ cap) :
   (Builtin.append_ #[TS,TS] ty #[.slice p n cap,.slice none 0 c]).run Tryz.prog w = .ok (.slice p n cap) w:=by
 obtain ⟨i,z,hi,hz,h1,h2,h3⟩:=hT.i
 cases p with
 | none=>simp [Builtin.append_,run_underlying hT.u,sizeOf,typeInfo,hi,Builtin.lenOf,Builtin.firstCells,h]
 | some a=>simp [Builtin.append_,run_underlying hT.u,sizeOf,typeInfo,hi,Builtin.lenOf,Builtin.firstCells,loadCells,h,storeCells]
theorem own_app {TS T : TypeId} {k bytes : Nat} (hT : Elt TS T k bytes) {ops : Array Oper} {rest : List Oper} {o : Oper} {a : Act} {Q : Exit → Act → World → Prop} (W w : World) (s x : Operand) (v va : Value) (n m : Nat) (xs news : List Value) (base : Nat) (hgd : o.guard = none)
   (ho : o.op = .call { callee:=.builtin .append,args:=#[s,x],argTypes:=#[TS,TS] })
   (hs : a.eval s = v) (hx : a.eval x = va) (hB : W.ownsRow base T k v n xs) (hR : RowC W va m k news) (h1c : ∀ u ∈ news,u.oneCell' = true) (hm : n + m ≤ maxLen) (hby : (n + m) * bytes ≤ 140737488355328) (hE : Ext w W) (hb : w.heap.size ≤ base) (hb2 : base ≤ W.heap.size)
   (h : ∀ v' W',W'.ownsRow base T k v' (n + m) (xs ++ news) → Ext w W' → W.grownBy W' v.ownBlock → wpList Tryz.prog ops Q rest (a.put o.dst v') W') : wpList Tryz.prog ops Q (o :: rest) a W:=by
 obtain ⟨hl,p,c,rfl,hR⟩:=hR
 obtain ⟨i,z,hi,hz,h1,h2,h3⟩:=hT.i
 rcases hR with ⟨rfl,rfl⟩ | ⟨ad,rfl,hR⟩
 · have hn : news = []:=List.eq_nil_of_length_eq_zero J46
   subst hn
   obtain ⟨p,cap,rfl,hc⟩ : ∃ p cap,v = .slice p n cap ∧ n ≤ cap:=by
     rcases hB.2 with ⟨h,h0⟩ | ⟨g,cap,cur,h,_,_,h4,_⟩
     · exact ⟨none,0,by rw [h,h0],by omega⟩
     · exact ⟨_,_,h,h4⟩
   refine Lib.wpList_append_run W hgd s x _ _ ho _ _ hs hx _ _ (run_append_noneG hT W o.type p n cap c hc) ?_
   exact h _ W (by simpa using hB) hE ⟨rfl,rfl,rfl,Nat.le_refl _,fun _ _ _=>rfl⟩
 · refine wpList_append_own_at W hgd s x TS ho base T i z k bytes hT.u hi hz h1 h2 h3 hT.k0 v n xs hs hB ad m c news hx hl hR h1c hm hby hb2 ?_
   intro v' W' h3 h4 _ _
   exact h v' W' h3 (ext_grownG hB hb hE h4) h4
theorem own_form {W : World} {base : Nat} {T : TypeId} {k n : Nat} {v : Value} {xs : List Value} (h : W.ownsRow base T k v n xs) : ∃ p c,v = .slice p n c ∧ n ≤ c:=by
 rcases h.2 with ⟨h,h0⟩ | ⟨g,cap,cur,h,_,_,h4,_⟩
 · exact ⟨none,0,by rw [h,h0],by omega⟩
 · exact ⟨_,_,h,h4⟩
theorem own_new {T : TypeId} {k : Nat} (w W : World) (h : w.heap.size ≤ W.heap.size) : (W.alloc (.cells #[] T)).ownsRow w.heap.size T k (.slice (some ⟨W.heap.size,0,none⟩) 0 0) 0 [] :=
 ⟨by simp,.inr ⟨W.heap.size,0,#[],rfl,h,by show (W.heap.push _)[W.heap.size]? = _;rw [Array.getElem?_push_size],Nat.le_refl _,by simp,by simp,by simp⟩⟩
open Go.RowKit Go.Sort
def cmpK (x y : Kn) : Int:=if Lib.compareInt x.r y.r ≠ 0 then Lib.compareInt x.r y.r else Lib.compareInt x.c y.c
theorem cmpor_any (a b : Int) (g : Nat) (W : World) (h0 : W.cell? ⟨g,0,none⟩ = some (.int .i64 a)) (h1 : W.cell? ⟨g,1,none⟩ = some (.int .i64 b)) : Calls Tryz.prog 30 #[.slice (some ⟨g,0,none⟩) 2 2] W fun e w'=>e = .returned (.int .i64 (if a ≠ 0 then a else b)) ∧ w' = W:=by
 go_enter func30,ntmps30
 go_wp2_with fail
 go_loopw [8] (fun iv wr=>∃ i : Nat,iv = .int .i64 (i : Int) ∧ i ≤ 2 ∧ (1 ≤ i → a = 0) ∧ (2 ≤ i → b = 0) ∧ wr = W) (fun iv _=>2 - (intOf iv).toNat)
 case atStart=>exact ⟨0,rfl,by omega,by omega,by omega,rfl⟩
 case round =>
   obtain ⟨i,rfl,hi,ha,hb,rfl⟩:=hrel
   match i,hi with
   | 0,_ =>
     by_cases hz : a = 0
     · have z0 : (a != 0) = false:=by simpa using hz
       go_wp2_with fail
       go_roundw
       case rel=>exact ⟨1,rfl,by omega,fun _=>hz,by omega,by first | rfl | trivial⟩
       case measure=>exact (by show 2 - (1 : Int).toNat < 2 - (0 : Int).toNat;decide)
     · have z0 : (a != 0) = true:=by simpa using hz
       exact K23
   | 1,_ =>
     have hz:=ha J2
     by_cases hy : b = 0
     · have y0 : (b != 0) = false:=by simpa using hy
       go_wp2_with fail
       go_roundw
       case rel=>exact ⟨2,rfl,by omega,fun _=>hz,fun _=>hy,by first | rfl | trivial⟩
       case measure=>exact (by show 2 - (2 : Int).toNat < 2 - (1 : Int).toNat;decide)
     · have y0 : (b != 0) = true:=by simpa using hy
       exact K23
   | 2,_ =>
     have hz:=ha J2
     have hy:=hb J2
     exact K23
theorem lt_cmpK (x y : Kn) : ltOf cmpK x y = decide (x.r < y.r ∨ x.r = y.r ∧ x.c < y.c):=by
 unfold ltOf cmpK Lib.compareInt
 by_cases h1 : x.r < y.r
 · simp [h1]
 · by_cases h2 : y.r < x.r
   · have : ¬ x.r = y.r:=J2
     simp [h1,h2,this]
   · have h3 : x.r = y.r:=J2
     by_cases h4 : x.c < y.c
     · simp [h3,h4]
     · by_cases h5 : y.c < x.c <;> simp [h3,h4,h5]
theorem swo_cmpK : SWO (ltOf cmpK) where
 irrefl x:=by rw [lt_cmpK];simp
 trans x y z h1 h2:=by rw [lt_cmpK] at *;simp at *;omega
 ntrans x y z h1 h2:=by rw [lt_cmpK] at *;simp at *;omega
def RdV (B : Nat) (W : World) (v : Value) (l : List Rw) : Prop :=
 ∃ p c,v = .slice p l.length c ∧ l.length ≤ c ∧ (l = [] ∨ ∃ b off,p = some ⟨b,off,none⟩ ∧ b < B ∧ b < W.heap.size ∧ ∀ i r,l[i]? = some r →
   W.cell? ⟨b,off + i * 4,none⟩ = some (.int .i64 r.k) ∧ W.cell? ⟨b,off + i * 4 + 1,none⟩ = some (.int .i64 r.n) ∧ W.cell? ⟨b,off + i * 4 + 2,none⟩ = some (.string r.s) ∧ W.cell? ⟨b,off + i * 4 + 3,none⟩ = some (.int .i64 r.e))
theorem RdV.low {B : Nat} {W W' : World} {v : Value} {l : List Rw} (h : RdV B W v l) (e : Below B W W') : RdV B W' v l:=by
 obtain ⟨p,c,h1,h2,h3⟩:=h
 refine ⟨p,c,h1,h2,?_⟩
 rcases h3 with h3 | ⟨b,off,h3,h4,h5,h6⟩
 · exact .inl h3
 · refine .inr ⟨b,off,h3,h4,llL h5 e.size,fun i r hr=>?_⟩
   have k:=fun o=>Below.cell e (p:=⟨b,o,none⟩) h4
   exact K133
theorem RdV.up {B B' : Nat} {W : World} {v : Value} {l : List Rw} (h : RdV B W v l) (e : B ≤ B') : RdV B' W v l:=by
 obtain ⟨p,c,h1,h2,h3⟩:=h
 refine ⟨p,c,h1,h2,?_⟩
 rcases h3 with h3 | ⟨b,off,h3,h4,h5⟩
 · exact .inl h3
 · exact .inr ⟨b,off,h3,llL h4 e,h5⟩
theorem RdV.at {B : Nat} {W : World} {p : Option Addr} {c n : Nat} {l : List Rw} (h : RdV B W (.slice p n c) l) {i : Nat} (hi : i < l.length) :
   ∃ b off r,p = some ⟨b,off,none⟩ ∧ l[i]? = some r ∧ b < B ∧ b < W.heap.size ∧
     W.cell? ⟨b,off + i * 4,none⟩ = some (.int .i64 r.k) ∧ W.cell? ⟨b,off + i * 4 + 1,none⟩ = some (.int .i64 r.n) ∧ W.cell? ⟨b,off + i * 4 + 2,none⟩ = some (.string r.s) ∧ W.cell? ⟨b,off + i * 4 + 3,none⟩ = some (.int .i64 r.e):=by
 obtain ⟨p',c',h1,h2,h3⟩:=h
 cases h1
 rcases h3 with h3 | ⟨b,off,h3,h4,h5,h6⟩
 · subst h3;simp at hi
 · exact ⟨b,off,_,h3,gEq hi,h4,h5,h6 i _ (gEq hi)⟩
theorem RdV.len {B : Nat} {W : World} {p : Option Addr} {c n : Nat} {l : List Rw} (h : RdV B W (.slice p n c) l) : n = l.length:=by
 obtain ⟨p',c',h1,_⟩:=h
 cases h1;rfl
theorem RdV.form {B : Nat} {W : World} {v : Value} {l : List Rw} (h : RdV B W v l) : ∃ p n c,v = .slice p n c ∧ n = l.length ∧ n ≤ c:=by
 exact K95
def RdA (B : Nat) (W : World) (v : Value) (l : List Ag) : Prop :=
 ∃ p c,v = .slice p l.length c ∧ l.length ≤ c ∧ (l = [] ∨ ∃ b off,p = some ⟨b,off,none⟩ ∧ b < B ∧ b < W.heap.size ∧ ∀ i a,l[i]? = some a → ∃ (x y : Int) (lv : Value),
   W.cell? ⟨b,off + i * 4,none⟩ = some (.bool a.area) ∧ W.cell? ⟨b,off + i * 4 + 1,none⟩ = some (.int .i64 x) ∧ W.cell? ⟨b,off + i * 4 + 2,none⟩ = some (.int .i64 y) ∧ W.cell? ⟨b,off + i * 4 + 3,none⟩ = some lv ∧ RdV B W lv a.l)
theorem RdA.low {B : Nat} {W W' : World} {v : Value} {l : List Ag} (h : RdA B W v l) (e : Below B W W') : RdA B W' v l:=by
 obtain ⟨p,c,h1,h2,h3⟩:=h
 refine ⟨p,c,h1,h2,?_⟩
 rcases h3 with h3 | ⟨b,off,h3,h4,h5,h6⟩
 · exact .inl h3
 · refine .inr ⟨b,off,h3,h4,llL h5 e.size,fun i r hr=>?_⟩
   have k:=fun o=>Below.cell e (p:=⟨b,o,none⟩) h4
   obtain ⟨x,y,lv,k0,k1,k2,k3,k4⟩:=h6 i r hr
   exact ⟨x,y,lv,(k _).trans k0,(k _).trans k1,(k _).trans k2,(k _).trans k3,k4.low e⟩
theorem RdA.up {B B' : Nat} {W : World} {v : Value} {l : List Ag} (h : RdA B W v l) (e : B ≤ B') : RdA B' W v l:=by
 obtain ⟨p,c,h1,h2,h3⟩:=h
 refine ⟨p,c,h1,h2,?_⟩
 rcases h3 with h3 | ⟨b,off,h3,h4,h5,h6⟩
 · exact .inl h3
 · refine .inr ⟨b,off,h3,llL h4 e,h5,fun i r hr=>?_⟩
   obtain ⟨x,y,lv,k0,k1,k2,k3,k4⟩:=h6 i r hr
   exact ⟨x,y,lv,k0,k1,k2,k3,k4.up e⟩
theorem RdA.at {B : Nat} {W : World} {p : Option Addr} {c n : Nat} {l : List Ag} (h : RdA B W (.slice p n c) l) {i : Nat} (hi : i < l.length) :
   ∃ (b off : Nat) (a : Ag) (x y : Int) (lv : Value),p = some ⟨b,off,none⟩ ∧ l[i]? = some a ∧ b < B ∧ b < W.heap.size ∧
     (W.cell? ⟨b,off + i * 4,none⟩ = some (.bool a.area) ∧ W.cell? ⟨b,off + i * 4 + 1,none⟩ = some (.int .i64 x) ∧ W.cell? ⟨b,off + i * 4 + 2,none⟩ = some (.int .i64 y) ∧ W.cell? ⟨b,off + i * 4 + 3,none⟩ = some lv) ∧ RdV B W lv a.l:=by
 obtain ⟨p',c',h1,h2,h3⟩:=h
 cases h1
 rcases h3 with h3 | ⟨b,off,h3,h4,h5,h6⟩
 · subst h3;simp at hi
 · obtain ⟨x,y,lv,k0,k1,k2,k3,k4⟩:=h6 i _ (gEq hi)
   exact ⟨b,off,_,x,y,lv,h3,gEq hi,h4,h5,⟨k0,k1,k2,k3⟩,k4⟩
theorem RdA.form {B : Nat} {W : World} {v : Value} {l : List Ag} (h : RdA B W v l) : ∃ p n c,v = .slice p n c ∧ n = l.length ∧ n ≤ c:=by
 exact K95
def RowB (W : World) (k : Nat) : Prop:=∃ c fz,W.heap[k]? = some (.cells c 5 fz)
theorem RowB.lt {W : World} {k : Nat} (h : RowB W k) : k < W.heap.size:=by
 obtain ⟨c,fz,h⟩:=h
 exact (Array.getElem?_eq_some_iff.1 h).1
def Env (hi : Nat) (w w' : World) : Prop:=Below hi w w' ∧ ∀ k,RowB w k → w'.heap[k]? = w.heap[k]?
def Mid (lo hi : Nat) (w w' : World) : Prop:=Below lo w w' ∧ ∀ k,hi ≤ k → k < w.heap.size → ¬ RowB w k → w'.heap[k]? = w.heap[k]?
theorem Ext.env {w w' : World} (h : Ext w w') {hi : Nat} (hh : hi ≤ w.heap.size) : Env hi w w':=⟨Below.mono h hh,fun k hk=>h.block k hk.lt⟩
theorem Ext.mid {w w' : World} (h : Ext w w') {lo : Nat} (hh : lo ≤ w.heap.size) (hi : Nat) : Mid lo hi w w':=⟨Below.mono h hh,fun k _ hk _=>h.block k hk⟩
theorem RowB.same {w w' : World} {k : Nat} (h : w'.heap[k]? = w.heap[k]?) : RowB w' k ↔ RowB w k:=by unfold RowB;rw [h]
theorem Env.trans {hi : Nat} {a b c : World} (h : Env hi a b) (k : Env hi b c) : Env hi a c :=
 ⟨h.1.trans k.1,fun n hn=>(k.2 n ((RowB.same (h.2 n hn)).2 hn)).trans (h.2 n hn)⟩
theorem Mid.trans {lo hi : Nat} {a b c : World} (h : Mid lo hi a b) (k : Mid lo hi b c) : Mid lo hi a c :=
 ⟨h.1.trans k.1,fun n h1 h2 h3=>(k.2 n h1 (llL h2 h.1.size) (fun r=>h3 ((RowB.same (h.2 n h1 h2 h3)).1 r))).trans (h.2 n h1 h2 h3)⟩
theorem Env.down {hi hi' : Nat} {a b : World} (h : Env hi' a b) (k : hi ≤ hi') : Env hi a b:=⟨h.1.mono k,h.2⟩
theorem Mid.wide {lo hi hi' : Nat} {a b : World} (h : Mid lo hi a b) (k : hi ≤ hi') : Mid lo hi' a b:=⟨h.1,fun n h1 h2 h3=>h.2 n (Nat.le_trans k h1) h2 h3⟩
theorem Mid.ext {w0 a b : World} {hi : Nat} (h : Mid w0.heap.size hi a b) (e : Ext w0 a) : Ext w0 b:=Below.trans e h.1
def Own4 (W : World) (b : Nat) : Prop:=b < W.heap.size ∧ ¬ RowB W b
theorem Own4.mid {lo hi : Nat} {w w' : World} {b : Nat} (h : Own4 w b) (m : Mid lo hi w w') (hb : hi ≤ b) : Own4 w' b ∧ ∀ o,w'.cell? ⟨b,o,none⟩ = w.cell? ⟨b,o,none⟩ ∧ w'.frozen? ⟨b,o,none⟩ = w.frozen? ⟨b,o,none⟩:=by
 have e:=m.2 b hb h.1 h.2
 exact K105
theorem Own4.new {w w' : World} {c : Array Value} {T : TypeId} (hT : T ≠ 5) (e : Ext (w.alloc (.cells c T)) w') : Own4 w' w.heap.size:=by
 have hs : w.heap.size < (w.alloc (.cells c T)).heap.size:=J58
 have h:=e.block w.heap.size hs
 refine ⟨llL hs e.size,fun r=>?_⟩
 obtain ⟨c',fz,r⟩:=(RowB.same h).1 r
 have r' : (w.heap.push (.cells c T))[w.heap.size]? = some (.cells c' 5 fz):=r
 rw [Array.getElem?_push_size] at r'
 cases r'
 exact hT rfl
def FnC (w0 : World) (hi : Nat) (v : Value) {α : Type} (enc : α → Array Value) (ok : α → Prop) (P : List α → World → Prop) : Prop :=
 ∃ K cs,v = .func (.func K) #[] cs ∧ (∀ args W,(callFunc K args).run Tryz.prog W = .ok (.enter K args) W) ∧
   (∀ l W W',P l W → hi ≤ W.heap.size → Env hi W W' → P l W') ∧
   ∀ l W x,P l W → hi ≤ W.heap.size → Ext w0 W → l.length ≤ 20000000000 → ok x → Calls Tryz.prog K (enc x ++ cs) W fun e w'=>e = .returned (.tuple #[]) ∧ P (l ++ [x]) w' ∧ Mid w0.heap.size hi W w'
def encS (p : V × Bool) : Array Value:=#[p.1.dat,.bool p.2]
def okS (p : V × Bool) : Prop:=p.1.ok
theorem only_any (l : List Rw) (p : Option Addr) (n c B : Nat) (W : World) (hN : Nm W) (h : RdV B W (.slice p n c) l) :
   Calls Tryz.prog 282 #[.slice p n c] W fun e w'=>e = .returned (one1 l).dat ∧ Ext W w':=by
 obtain rfl:=h.len
 cases l with
 | nil =>
   go_enter func282,ntmps282
   go_wp2_with fail
   simp [bodyPost,results,results282,go_sem]
   exact ⟨rfl,xr.alloc _⟩
 | cons r t =>
   obtain ⟨b,off,r',rfl,hr,hb,hbW,k0,k1,k2,k3⟩:=h.at (i:=0) J58
   simp at hr
   subst hr
   have c0:=fun W h=>vnormal_any r.k r.n r.s r.e W h
   have H : Hid (one1 (r :: t) = nm r.k r.n r.s r.e):=rfl
   obtain ⟨q0,q1,q2,q3,hq⟩:=dat4 (nm r.k r.n r.s r.e)
   rw [hq] at c0
   have HQ : Hid ((nm r.k r.n r.s r.e).dat = .agg #[.int .i64 q0,.int .i64 q1,.string q2,.int .i64 q3]):=hq
   clear hq
   obtain ⟨m,hm⟩ : ∃ m : Nat,(r :: t).length = m:=⟨_,rfl⟩
   rw [hm]
   have e1 : ((m : Int) == 0) = false:=by simp;rw [← hm];simp
   have e2 : (0 : Int) < (m : Int):=by rw [← hm];simp only [List.length_cons];omega
   clear hm h hb
   simp only [Nat.zero_mul,Nat.add_zero] at k0 k1 k2 k3
   go_enter func282,ntmps282
   go_wp2_with fail
   refine (c0 _ (hN.ext (xr.alloc _))).mono ?_
   rintro e w1 ⟨rfl,E1⟩
   obtain ⟨z,⟨b0,b1,b2,b3⟩,f0,f1,f2,f3⟩:=blk_top (b:=W.heap.size) J58 E1
   go_wp2_with fail
   exact fin4 b0 b1 b2 b3 rfl J58 ((xr.alloc _).trans E1) (fun W g0 g1 g2 g3=>by simp [results,results282,go_sem,g0,g1,g2,g3]) (fun W h=>⟨by rw [H.out,HQ.out],h⟩)
theorem wrap_1 (k : Nat) (h : k ≤ 100000000000) : wrap64 ((k : Int) + 1) = ((k + 1 : Nat) : Int):=J65
theorem meas (n j : Nat) (h : j + 1 ≤ n) (hw : wrap64 ((j : Int) + 1) = ((j + 1 : Nat) : Int)) : n - (intOf (.int .i64 (wrap64 ((j : Int) + 1)))).toNat < n - (intOf (.int .i64 (j : Int))).toNat:=by
 rw [hw]
 show n - (((j + 1 : Nat) : Int)).toNat < n - ((j : Int)).toNat
 rw [Int.toNat_natCast,Int.toNat_natCast]
 omega
theorem seen_take {l : List Ag} {j : Nat} {a : Ag} (h : l[j]? = some a) : seen (l.take (j + 1)) = seen (l.take j) ++ seen1 a:=by
 rw [List.take_add_one,h]
 show (l.take j ++ [a]).flatMap seen1 = _
 rw [List.flatMap_append]
 simp [seen]
theorem seen_le {l : List Ag} {j : Nat} {a : Ag} (h : l[j]? = some a) : (seen (l.take j)).length + (seen1 a).length ≤ (seen l).length:=by
 have e : l = l.take j ++ a :: l.drop (j + 1):=by
   have h1:=List.drop_eq_getElem_cons (List.getElem?_eq_some_iff.1 h).1
   rw [(List.getElem?_eq_some_iff.1 h).2] at h1
   rw [← h1,List.take_append_drop]
 have : seen l = seen (l.take j) ++ (seen1 a ++ seen (l.drop (j + 1))):=by
   conv=>lhs;rw [e]
   unfold seen
   rw [List.flatMap_append]
   rfl
 rw [this];simp
theorem each_any (w0 : World) (hi : Nat) (gs : List Ag) (sv : Value) (Q : List (V × Bool) → World → Prop) (W : World) (p : Option Addr) (n c : Nat)
   (hA : RdA w0.heap.size W (.slice p n c) gs) (hI : AgI gs) (hlen : (seen gs).length ≤ 10000000000) (hal : gs.length ≤ 10000000000)
   (hF : FnC w0 hi sv encS okS Q) (hQ : Q [] W) (hh : hi ≤ W.heap.size) (hE : Ext w0 W) (hN : Nm w0) :
   Calls Tryz.prog 269 #[.slice p n c,sv] W fun e w'=>e = .returned (.tuple #[]) ∧ Q (seen gs) w' ∧ Mid w0.heap.size hi W w':=by
 obtain ⟨K,cs,rfl,hent,hst,hca⟩:=hF
 have hn : n = gs.length:=by obtain ⟨p',c',h1,_⟩:=hA;cases h1;rfl
 have HA : Hid (RdA w0.heap.size W (.slice p n c) gs):=hA
 have HI : Hid (AgI gs ∧ (seen gs).length ≤ 10000000000 ∧ n = gs.length ∧ n ≤ 10000000000):=⟨hI,hlen,hn,by omega⟩
 have HS : Hid (∀ l W W',Q l W → hi ≤ W.heap.size → Env hi W W' → Q l W'):=hst
 have HC : Hid (∀ l W x,Q l W → hi ≤ W.heap.size → Ext w0 W → l.length ≤ 20000000000 → okS x → Calls Tryz.prog K (encS x ++ cs) W fun e w'=>e = .returned (.tuple #[]) ∧ Q (l ++ [x]) w' ∧ Mid w0.heap.size hi W w'):=hca
 have HW : Hid (Ext w0 W ∧ Nm w0 ∧ hi ≤ W.heap.size):=⟨hE,hN,hh⟩
 have HQ : Hid (Q [] W):=hQ
 clear hA hI hlen hal hst hca hE hN hQ hn hh
 go_enter func269,ntmps269
 go_wp2_with fail
 go_loopw [10] (fun iv wr=>∃ j : Nat,iv = .int .i64 (j : Int) ∧ j ≤ n ∧ Q (seen (gs.take j)) wr ∧ Mid w0.heap.size hi W wr) (fun iv _=>n - (intOf iv).toNat)
 case atStart=>exact ⟨0,rfl,Nat.zero_le _,HQ.out,(Ext.refl W).mid HW.out.1.size hi⟩
 case round =>
   generalize wr = wo at hrel ⊢
   obtain ⟨j,rfl,hj,hq,hm⟩:=hrel
   have HO : Hid (Q (seen (gs.take j)) wo ∧ Mid w0.heap.size hi W wo ∧ Ext w0 wo ∧ hi ≤ wo.heap.size):=⟨hq,hm,hm.ext HW.out.1,Nat.le_trans HW.out.2.2 hm.1.size⟩
   clear hq hm
   by_cases hlt : j < n
   · have hltI : (j : Int) < (n : Int):=J2
     obtain ⟨b,off,a,x,y,lv,rfl,ha,hb,hbW,⟨k0,k1,k2,k3⟩,hV⟩:=(HA.out.low HO.out.2.1.1).at (i:=j) (by rw [← HI.out.2.2.1];exact hlt)
     obtain ⟨p',n',c',rfl,hn',hc'⟩:=hV.form
     have HV : Hid (RdV w0.heap.size wo (.slice p' n' c') a.l ∧ gs[j]? = some a ∧ n' = a.l.length):=⟨hV,ha,hn'⟩
     have WK : Hid (wrap64 ((j : Int) + 1) = ((j + 1 : Nat) : Int)):=wrap_1 j (by have:=HI.out;omega)
     have HJ : Hid (j ≤ 10000000000):=by show _ ≤ _;have:=HI.out;omega
     clear hV ha hn' hc' hb hlt
     cases har : a.area
     · rw [har] at k0
       have HT : Hid (seen (gs.take (j + 1)) = seen (gs.take j) ++ [(one1 a.l,false)]):=J75
       have HU : Hid ((one1 a.l).ok ∧ (seen (gs.take j)).length ≤ 10000000000):=by
         refine ⟨?_,?_⟩
         · have:=seen_ok gs HI.out.1 (one1 a.l,false) (List.mem_flatMap.2 ⟨a,List.mem_of_getElem? HV.out.2.1,by unfold seen1;rw [har];simp⟩)
           exact this
         · have:=seen_le HV.out.2.1;have:=HI.out.2.1;omega
       clear har
       go_wp2_with fail
       refine (only_any a.l p' n' c' w0.heap.size _ (HW.out.2.1.ext (HO.out.2.2.1.alloc _)) (HV.out.1.low (((Below.refl _ _).alloc HO.out.2.2.1.size _)))).mono ?_
       rintro e w1 ⟨rfl,E1⟩
       have X1 : Hid (Ext wo w1):=(xr.alloc _).trans E1
       clear E1
       go_wp2_with fail
       refine (HC.out (seen (gs.take j)) _ (one1 a.l,false) (HS.out _ _ _ HO.out.1 HO.out.2.2.2 (X1.out.env HO.out.2.2.2)) (Nat.le_trans HO.out.2.2.2 X1.out.size) (HO.out.2.2.1.trans X1.out) (Nat.le_trans HU.out.2 J9) HU.out.1).mono ?_
       rintro e w2 ⟨rfl,q2,m2⟩
       have H2 : Hid (Q (seen (gs.take (j + 1))) w2 ∧ Mid w0.heap.size hi W w2):=⟨by rw [HT.out];exact q2,HO.out.2.1.trans ((X1.out.mid HO.out.2.2.1.size hi).trans m2)⟩
       have hj1 : j + 1 ≤ n:=J2
       clear q2 m2
       have wk:=WK.out
       go_wp2_with fail
       go_roundw
       case rel=>exact ⟨j + 1,by go_num,hj1,H2.out.1,H2.out.2⟩
       case measure=>exact meas n j hj1 wk
     · rw [har] at k0
       have HT : Hid (seen (gs.take (j + 1)) = seen (gs.take j) ++ a.l.map (fun r=>(r.v,true))):=J75
       have HU : Hid ((∀ r ∈ a.l,r.v.ok) ∧ (seen (gs.take j)).length + a.l.length ≤ 10000000000):=by
         refine ⟨fun r hr=>nm_ok _ _ _ _ (HI.out.1 a (List.mem_of_getElem? HV.out.2.1) r hr),?_⟩
         have h1:=seen_le HV.out.2.1
         have h2:=HI.out.2.1
         have h3 : (seen1 a).length = a.l.length:=by unfold seen1;rw [har];simp
         omega
       clear har
       go_wp2_with fail
       go_loopw [25] (fun iv w3=>∃ i : Nat,iv = .int .i64 (i : Int) ∧ i ≤ n' ∧ Q (seen (gs.take j) ++ (a.l.take i).map (fun r=>(r.v,true))) w3 ∧ Mid w0.heap.size hi W w3 ∧ Mid w0.heap.size hi wo w3) (fun iv _=>n' - (intOf iv).toNat)
       case atStart =>
         have X1 : Ext wo (wo.alloc (.cells #[.bool true,.int .i64 x,.int .i64 y,.slice p' n' c'] 113)):=xr.alloc _
         refine ⟨0,rfl,Nat.zero_le _,?_,HO.out.2.1.trans (X1.mid HO.out.2.2.1.size hi),X1.mid HO.out.2.2.1.size hi⟩
         simp only [List.take_zero,List.map_nil,List.append_nil]
         exact HS.out _ _ _ HO.out.1 HO.out.2.2.2 (X1.env HO.out.2.2.2)
       case round =>
         obtain ⟨i,rfl,hi',hq,hm,hm'⟩:=hrel
         have HP : Hid (Q (seen (gs.take j) ++ (a.l.take i).map (fun r=>(r.v,true))) wr ∧ Mid w0.heap.size hi W wr ∧ Ext w0 wr ∧ hi ≤ wr.heap.size ∧ Mid w0.heap.size hi wo wr):=⟨hq,hm,hm.ext HW.out.1,Nat.le_trans HW.out.2.2 hm.1.size,hm'⟩
         clear hq hm hm' k0 k1 k2 k3 hbW
         by_cases hlt : i < n'
         · have hltJ : (i : Int) < (n' : Int):=J2
           obtain ⟨b',off',r,rfl,hr,hb',hbW',k0,k1,k2,k3⟩:=(HV.out.1.low HP.out.2.2.2.2.1).at (i:=i) (by rw [← HV.out.2.2];exact hlt)
           have WI : Hid (wrap64 ((i : Int) + 1) = ((i + 1 : Nat) : Int)):=wrap_1 i (by have:=HU.out.2;have:=HV.out.2.2;omega)
           have HR : Hid (a.l[i]? = some r ∧ r.v.ok ∧ (seen (gs.take j) ++ (a.l.take i).map (fun r=>(r.v,true))).length ≤ 10000000000):=⟨hr,HU.out.1 r (List.mem_of_getElem? hr),by simp;have:=HU.out.2;omega⟩
           have HT2 : Hid ((seen (gs.take j) ++ (a.l.take i).map (fun r=>(r.v,true))) ++ [(r.v,true)] = seen (gs.take j) ++ (a.l.take (i + 1)).map (fun r=>(r.v,true))):=by
             show _ = _
             rw [List.take_add_one,hr,List.map_append,List.append_assoc];rfl
           have cN:=fun W h=>vnormal_any r.k r.n r.s r.e W h
           clear hr hb' hlt
           go_wp2_with fail
           refine (cN _ (HW.out.2.1.ext (HP.out.2.2.1.alloc _))).mono ?_
           rintro e w1 ⟨rfl,E1⟩
           have X1 : Hid (Ext wr w1):=(xr.alloc _).trans E1
           clear E1
           go_wp2_with fail
           refine (HC.out _ _ (r.v,true) (HS.out _ _ _ HP.out.1 HP.out.2.2.2.1 (X1.out.env HP.out.2.2.2.1)) (Nat.le_trans HP.out.2.2.2.1 X1.out.size) (HP.out.2.2.1.trans X1.out) (Nat.le_trans HR.out.2.2 J9) HR.out.2.1).mono ?_
           rintro e w2 ⟨rfl,q2,m2⟩
           have M2 : Mid w0.heap.size hi wr w2:=(X1.out.mid HP.out.2.2.1.size hi).trans m2
           have H2 : Hid (Q (seen (gs.take j) ++ (a.l.take (i + 1)).map (fun r=>(r.v,true))) w2 ∧ Mid w0.heap.size hi W w2 ∧ Mid w0.heap.size hi wo w2):=⟨by rw [← HT2.out];exact q2,HP.out.2.1.trans M2,HP.out.2.2.2.2.trans M2⟩
           have hi1 : i + 1 ≤ n':=J2
           clear q2 m2 M2
           have wi:=WI.out
           go_wp2_with fail
           go_roundw
           case rel=>exact ⟨i + 1,by go_num,hi1,H2.out⟩
           case measure=>exact meas n' i hi1 wi
         · have hltJ : ¬ (i : Int) < (n' : Int):=J2
           have H2 : Hid (Q (seen (gs.take (j + 1))) wr ∧ Mid w0.heap.size hi W wr):=by
             refine ⟨?_,HP.out.2.1⟩
             have h1:=HP.out.1
             have h2:=HV.out.2.2
             rw [show a.l.take i = a.l from List.take_of_length_le J2] at h1
             rw [HT.out];exact h1
           have hj1 : j + 1 ≤ n:=J2
           clear hlt
           have wk:=WK.out
           go_wp2_with fail
           go_roundw
           case rel=>exact ⟨j + 1,by go_num,hj1,H2.out⟩
           case measure=>exact meas n j hj1 wk
   · have hltI : ¬ (j : Int) < (n : Int):=J2
     have H2 : Hid (Q (seen gs) wo ∧ Mid w0.heap.size hi W wo):=by
       refine ⟨?_,HO.out.2.1⟩
       have h1:=HO.out.1
       have h2:=HI.out.2.2.1
       rw [show gs.take j = gs from List.take_of_length_le J2] at h1
       exact h1
     clear hlt
     go_wp2_with fail
     go_end0
     exact ⟨rfl,H2.out⟩
theorem numK_cases (s : ByteArray) : (numK s = true ∧ numR s = readV s) ∨ (numK s = false ∧ readV s = .err 2):=by
 unfold numK numR readV
 rcases rdK_cases s.data.toList with h | h | h <;> rw [h]
 · exact .inr ⟨rfl,rfl⟩
 · exact .inl ⟨rfl,rfl⟩
 · exact .inl ⟨rfl,rfl⟩
theorem vtonum_any (k n : Int) (s : ByteArray) (e : Int) (w : World) (hn : I64 n) (hN : Nm w) :
   Calls Tryz.prog 96 #[.agg #[.int .i64 k,.int .i64 n,.string s,.int .i64 e]] w fun r w'=>r = .returned ((nm k n s e).toNum.dat) ∧ Ext w w':=by
 have c0:=fun W h=>vnormal_any k n s e W h
 have ok:=nm_ok k n s e hn
 clear hn
 generalize nm k n s e = v at c0 ok ⊢
 cases v with
 | blank =>
   simp only [V.dat] at c0
   have c1:=fun W h=>vnum_any 0 W h
   rw [mkNum_is J9] at c1
   exact K11
 | tf b =>
   simp only [V.dat] at c0
   cases b with
   | false =>
     simp only [Bool.false_eq_true,if_false] at c0
     have c1:=fun W h=>vnum_any 0 W h
     rw [mkNum_is J9] at c1
     exact K11
   | true =>
     simp only [if_true] at c0
     have c1:=fun W h=>vnum_any 10000 W h
     rw [mkNum_is J9] at c1
     exact K11
 | num n =>
   simp only [V.dat] at c0
   have c1:=fun W h=>vnum_any n W h
   rw [mkNum_is ok.2] at c1
   exact K11
 | text s =>
   simp only [V.dat] at c0
   have c1:=fun W h=>numeral_any s W (Nat.le_trans ok J9) h
   have c2:=fun W h=>err_any 2 W h
   rw [mkErr_is ⟨by decide,by decide⟩] at c2
   simp only [V.dat] at c2
   have hk:=numK_cases s
   clear ok
   rcases hk with ⟨h1,h2⟩ | ⟨h1,h2⟩
   · rw [h1] at c1
     obtain ⟨q0,q1,q2,q3,hq⟩:=dat4 (numR s)
     rw [hq] at c1
     have H : Hid ((V.text s).toNum.dat = .agg #[.int .i64 q0,.int .i64 q1,.string q2,.int .i64 q3]):=by show (readV s).dat = _;rw [← h2];exact hq
     clear hq h1 h2 c2
     go_enter func96,ntmps96
     go_wp2_with fail
     refine (c0 _ (hN.ext J0)).mono ?_
     rintro r w1 ⟨rfl,E1⟩
     have X1 : Ext w w1:=Ext.trans J0 E1
     have B0_1:=blk_top (b:=w.heap.size) J58 ((xr.alloc _).trans E1)
     have B1_1:=blk_top (b:=w.heap.size + 1) J58 E1
     have D0:=B0_1
     obtain ⟨b0z,⟨b0_0,b0_1,b0_2,b0_3⟩,b0f0,b0f1,b0f2,b0f3⟩:=D0
     have D1:=B1_1
     obtain ⟨b1z,⟨b1_0,b1_1,b1_2,b1_3⟩,b1f0,b1f1,b1f2,b1f3⟩:=D1
     go_wp2_with fail
     refine (c1 _ (hN.ext J0)).mono ?_
     rintro r w2 ⟨rfl,E2⟩
     have X2 : Ext w w2:=Ext.trans J0 E2
     have B1_2:=(B1_1.far (c:=w.heap.size) J58 _ _ _ _).ext E2
     have D1:=B1_2
     obtain ⟨b1z,⟨b1_0,b1_1,b1_2,b1_3⟩,b1f0,b1f1,b1f2,b1f3⟩:=D1
     go_wp2_with fail
     exact finB ((B1_2.set _ _ _ _).ext (xr.alloc _)) rfl J0 J24 (fun h=>⟨by rw [H.out],h⟩)
   · rw [h1] at c1
     obtain ⟨q0,q1,q2,q3,hq⟩:=dat4 (numR s)
     rw [hq] at c1
     have H : Hid ((V.text s).toNum = .err 2):=h2
     clear hq h1 h2
     go_enter func96,ntmps96
     go_wp2_with fail
     refine (c0 _ (hN.ext J0)).mono ?_
     rintro r w1 ⟨rfl,E1⟩
     have X1 : Ext w w1:=Ext.trans J0 E1
     have B0_1:=blk_top (b:=w.heap.size) J58 ((xr.alloc _).trans E1)
     have B1_1:=blk_top (b:=w.heap.size + 1) J58 E1
     have D0:=B0_1
     obtain ⟨b0z,⟨b0_0,b0_1,b0_2,b0_3⟩,b0f0,b0f1,b0f2,b0f3⟩:=D0
     have D1:=B1_1
     obtain ⟨b1z,⟨b1_0,b1_1,b1_2,b1_3⟩,b1f0,b1f1,b1f2,b1f3⟩:=D1
     go_wp2_with fail
     refine (c1 _ (hN.ext J0)).mono ?_
     rintro r w2 ⟨rfl,E2⟩
     have X2 : Ext w w2:=Ext.trans J0 E2
     have B1_2:=(B1_1.far (c:=w.heap.size) J58 _ _ _ _).ext E2
     have D1:=B1_2
     obtain ⟨b1z,⟨b1_0,b1_1,b1_2,b1_3⟩,b1f0,b1f1,b1f2,b1f3⟩:=D1
     go_wp2_with fail
     refine (c2 _ (hN.ext J0)).mono ?_
     rintro r w3 ⟨rfl,E3⟩
     have X3 : Ext w w3:=Ext.trans J0 E3
     have B1_3:=(B1_2.ext (xr.alloc _)).ext E3
     have D1:=B1_3
     obtain ⟨b1z,⟨b1_0,b1_1,b1_2,b1_3⟩,b1f0,b1f1,b1f2,b1f3⟩:=D1
     go_wp2_with fail
     exact finB (B1_3.set _ _ _ _) rfl J0 J24 (fun h=>⟨by rw [H.out];rfl,h⟩)
 | err e =>
   simp only [V.dat] at c0
   clear ok
   go_enter func96,ntmps96
   go_wp2_with fail
   refine (c0 _ (hN.ext J0)).mono ?_
   rintro r w1 ⟨rfl,E1⟩
   have X1 : Ext w w1:=Ext.trans J0 E1
   have B0_1:=blk_top (b:=w.heap.size) J58 ((xr.alloc _).trans E1)
   have B1_1:=blk_top (b:=w.heap.size + 1) J58 E1
   have D0:=B0_1
   obtain ⟨b0z,⟨b0_0,b0_1,b0_2,b0_3⟩,b0f0,b0f1,b0f2,b0f3⟩:=D0
   have D1:=B1_1
   obtain ⟨b1z,⟨b1_0,b1_1,b1_2,b1_3⟩,b1f0,b1f1,b1f2,b1f3⟩:=D1
   go_wp2_with fail
   exact finB ((B1_1.far (c:=w.heap.size) J58 _ _ _ _).set _ _ _ _) rfl J0 J24 (fun h=>⟨rfl,h⟩)
theorem told_add (a b : Int) (ha : I64 a) (hb : I64 b) (B : Nat) (w : World) (hN : Nm w) (hB : B < w.heap.size) (hc : w.cell? ⟨B,0,none⟩ = some (.func (.func 171) #[] #[])) :
   Calls Tryz.prog 218 #[.int .i64 a,.int .i64 b,.pointer (some ⟨B,0,none⟩)] w fun r w'=>r = .returned (toldR (addB a b) (addV a b)).dat ∧ Ext w w':=by
 have c1:=fun W=>add_any a b ha hb W
 have c2:=fun W h=>vnum_any (addV a b) W h
 have c3:=fun W h=>err_any 4 W h
 rw [mkErr_is ⟨by decide,by decide⟩] at c3
 simp only [V.dat] at c3
 cases hz : addB a b
 · rw [hz] at c1
   clear hz ha hb c2
   generalize addV a b = n at *
   exact K16
 · rw [hz] at c1
   obtain ⟨q0,q1,q2,q3,hq⟩:=dat4 (mkNum (addV a b))
   rw [hq] at c2
   have H : Hid ((toldR true (addV a b)).dat = .agg #[.int .i64 q0,.int .i64 q1,.string q2,.int .i64 q3]):=hq
   clear hq hz ha hb c3
   generalize addV a b = n at *
   exact K14
theorem told_sub (a b : Int) (ha : I64 a) (hb : I64 b) (B : Nat) (w : World) (hN : Nm w) (hB : B < w.heap.size) (hc : w.cell? ⟨B,0,none⟩ = some (.func (.func 172) #[] #[])) :
   Calls Tryz.prog 218 #[.int .i64 a,.int .i64 b,.pointer (some ⟨B,0,none⟩)] w fun r w'=>r = .returned (toldR (subB a b) (subV a b)).dat ∧ Ext w w':=by
 have c1:=fun W=>sub_any a b ha hb W
 have c2:=fun W h=>vnum_any (subV a b) W h
 have c3:=fun W h=>err_any 4 W h
 rw [mkErr_is ⟨by decide,by decide⟩] at c3
 simp only [V.dat] at c3
 cases hz : subB a b
 · rw [hz] at c1
   clear hz ha hb c2
   generalize subV a b = n at *
   exact K16
 · rw [hz] at c1
   obtain ⟨q0,q1,q2,q3,hq⟩:=dat4 (mkNum (subV a b))
   rw [hq] at c2
   have H : Hid ((toldR true (subV a b)).dat = .agg #[.int .i64 q0,.int .i64 q1,.string q2,.int .i64 q3]):=hq
   clear hq hz ha hb c3
   generalize subV a b = n at *
   exact K14
theorem told_mul (a b : Int) (ha : I64 a) (hb : I64 b) (B : Nat) (w : World) (hN : Nm w) (hB : B < w.heap.size) (hc : w.cell? ⟨B,0,none⟩ = some (.func (.func 173) #[] #[])) :
   Calls Tryz.prog 218 #[.int .i64 a,.int .i64 b,.pointer (some ⟨B,0,none⟩)] w fun r w'=>r = .returned (toldR (mulB a b) (mulV a b)).dat ∧ Ext w w':=by
 have c1:=fun W=>mul_any a b ha hb W
 have c2:=fun W h=>vnum_any (mulV a b) W h
 have c3:=fun W h=>err_any 4 W h
 rw [mkErr_is ⟨by decide,by decide⟩] at c3
 simp only [V.dat] at c3
 cases hz : mulB a b
 · rw [hz] at c1
   clear hz ha hb c2
   generalize mulV a b = n at *
   exact K16
 · rw [hz] at c1
   obtain ⟨q0,q1,q2,q3,hq⟩:=dat4 (mkNum (mulV a b))
   rw [hq] at c2
   have H : Hid ((toldR true (mulV a b)).dat = .agg #[.int .i64 q0,.int .i64 q1,.string q2,.int .i64 q3]):=hq
   clear hq hz ha hb c3
   generalize mulV a b = n at *
   exact K14
theorem told_div (a b : Int) (ha : I64 a) (hb : I64 b) (B : Nat) (w : World) (hN : Nm w) (hB : B < w.heap.size) (hc : w.cell? ⟨B,0,none⟩ = some (.func (.func 175) #[] #[])) :
   Calls Tryz.prog 218 #[.int .i64 a,.int .i64 b,.pointer (some ⟨B,0,none⟩)] w fun r w'=>r = .returned (toldR (divB a b) (divV a b)).dat ∧ Ext w w':=by
 have c1:=fun W=>div_any a b ha hb W
 have c2:=fun W h=>vnum_any (divV a b) W h
 have c3:=fun W h=>err_any 4 W h
 rw [mkErr_is ⟨by decide,by decide⟩] at c3
 simp only [V.dat] at c3
 cases hz : divB a b
 · rw [hz] at c1
   clear hz ha hb c2
   generalize divV a b = n at *
   exact K16
 · rw [hz] at c1
   obtain ⟨q0,q1,q2,q3,hq⟩:=dat4 (mkNum (divV a b))
   rw [hq] at c2
   have H : Hid ((toldR true (divV a b)).dat = .agg #[.int .i64 q0,.int .i64 q1,.string q2,.int .i64 q3]):=hq
   clear hq hz ha hb c3
   generalize divV a b = n at *
   exact K14
theorem div_zero (a b : Int) (hb0 : b = 0) (B : Nat) (w : World) (hN : Nm w) :
   Calls Tryz.prog 224 #[.int .i64 a,.int .i64 b,.pointer (some ⟨B,0,none⟩)] w fun r w'=>r = .returned (reckon 47 a b).dat ∧ Ext w w':=by
 subst hb0
 have c3:=fun W h=>err_any 3 W h
 rw [mkErr_is ⟨by decide,by decide⟩] at c3
 simp only [V.dat] at c3
 go_enter func224,ntmps224
 go_wp2_with fail
 refine (c3 _ (hN.ext J0)).mono ?_
 rintro r w1 ⟨rfl,E1⟩
 have X1 : Ext w w1:=Ext.trans J0 E1
 have B0_1:=blk_top (b:=w.heap.size) J58 E1
 have D0:=B0_1
 obtain ⟨b0z,⟨b0_0,b0_1,b0_2,b0_3⟩,b0f0,b0f1,b0f2,b0f3⟩:=D0
 go_wp2_with fail
 exact finB (B0_1.set _ _ _ _) rfl J0 (fun g0 g1 g2 g3=>by simp [results,results224,go_sem,g0,g1,g2,g3]) (fun h=>⟨rfl,h⟩)
theorem div_more (a b : Int) (ha : I64 a) (hb : I64 b) (hb0 : b ≠ 0) (B C : Nat) (w : World) (hN : Nm w) (hB : B < w.heap.size) (hC : C < w.heap.size) (hc : w.cell? ⟨B,0,none⟩ = some (.func (.func 218) #[] #[.pointer (some ⟨C,0,none⟩)])) (hd : w.cell? ⟨C,0,none⟩ = some (.func (.func 175) #[] #[])) :
   Calls Tryz.prog 224 #[.int .i64 a,.int .i64 b,.pointer (some ⟨B,0,none⟩)] w fun r w'=>r = .returned (reckon 47 a b).dat ∧ Ext w w':=by
 have c1:=fun W h (E : Ext w W)=>told_div a b ha hb C W h (llL hC E.sz) ((E.cell.1 C 0 hC).trans hd)
 have hz : (b == 0) = false:=by simpa using hb0
 obtain ⟨q0,q1,q2,q3,hq⟩:=dat4 (toldR (divB a b) (divV a b))
 rw [hq] at c1
 have H : Hid ((reckon 47 a b).dat = .agg #[.int .i64 q0,.int .i64 q1,.string q2,.int .i64 q3]):=by show (reckon 47 a b).dat = _;rw [← hq];unfold reckon;rw [if_neg J9,if_neg J9,if_neg J9,if_neg hb0]
 clear hq ha hb hd hb0
 go_enter func224,ntmps224
 go_wp2_with fail
 refine (c1 _ (hN.ext J0) J0).mono ?_
 rintro r w1 ⟨rfl,E1⟩
 obtain ⟨b0z,⟨b0_0,b0_1,b0_2,b0_3⟩,b0f0,b0f1,b0f2,b0f3⟩:=blk_top (b:=w.heap.size) J58 E1
 have B0_1:=blk_top (b:=w.heap.size) J58 E1
 have X1 : Ext w w1:=Ext.trans J0 E1
 go_wp2_with fail
 exact finB (B0_1.set _ _ _ _) rfl J0 (fun g0 g1 g2 g3=>by simp [results,results224,go_sem,g0,g1,g2,g3]) (fun h=>⟨by rw [H.out],h⟩)
theorem told_mk (F : Nat) (w : World) : Calls Tryz.prog 170 #[.func (.func F) #[] #[]] w fun r w'=>∃ B,r = .returned (.func (.func 218) #[] #[.pointer (some ⟨B,0,none⟩)]) ∧ w.heap.size ≤ B ∧ B < w'.heap.size ∧ w'.cell? ⟨B,0,none⟩ = some (.func (.func F) #[] #[]) ∧ Ext w w':=by
 have hmf : ∀ (fn : Fn) (first cap : Array Value) (w : World),(Instr.makeFunc fn first cap).run Tryz.prog w = .ok (.func fn first cap) w:=fun _ _ _ _=>rfl
 go_enter func170,ntmps170
 exact K148
theorem divided_mk (C : Nat) (w : World) : Calls Tryz.prog 174 #[.func (.func 218) #[] #[.pointer (some ⟨C,0,none⟩)]] w fun r w'=>∃ B,r = .returned (.func (.func 224) #[] #[.pointer (some ⟨B,0,none⟩)]) ∧ w.heap.size ≤ B ∧ B < w'.heap.size ∧ w'.cell? ⟨B,0,none⟩ = some (.func (.func 218) #[] #[.pointer (some ⟨C,0,none⟩)]) ∧ Ext w w':=by
 have hmf : ∀ (fn : Fn) (first cap : Array Value) (w : World),(Instr.makeFunc fn first cap).run Tryz.prog w = .ok (.func fn first cap) w:=fun _ _ _ _=>rfl
 go_enter func174,ntmps174
 exact K148
def Same (lo : Nat) (w W : World) : Prop:=w.heap.size ≤ W.heap.size ∧ ∀ b o,lo ≤ b → b < w.heap.size → W.cell? ⟨b,o,none⟩ = w.cell? ⟨b,o,none⟩
theorem Same.refl (lo : Nat) (w : World) : Same lo w w:=⟨Nat.le_refl _,fun _ _ _ _=>rfl⟩
theorem Same.ext {lo : Nat} {w W W' : World} (h : Same lo w W) (e : Ext W W') : Same lo w W':=⟨Nat.le_trans h.1 e.sz,fun b o hl hb=>(e.cell.1 b o (llL hb h.1)).trans (h.2 b o hl hb)⟩
theorem Same.set {lo : Nat} {w W : World} {p : Addr} {v : Value} (h : Same lo w W) (hc : p.block < lo) : Same lo w (W.setCell p v):=by
 refine ⟨by simpa [World.setCell] using h.1,fun b o hl hb=>?_⟩
 rw [wFa _ _ _ _ (by show p.block ≠ b;omega)]
 exact h.2 b o hl hb
theorem Same.al {lo : Nat} {w W : World} (o : Obj) (h : Same lo w W) : Same lo w (W.alloc o):=h.ext (xr.alloc _)
theorem Same.dr {lo : Nat} {w W : World} (h : Same lo w W) : Same lo w W.drew:=h.ext (xr.drew)
def Does (op : Int) (G B lo : Nat) (w : World) : Prop:=∀ W x y,Same lo w W → I64 x → I64 y → Nm W → Calls Tryz.prog G #[.int .i64 x,.int .i64 y,.pointer (some ⟨B,0,none⟩)] W fun r w'=>r = .returned (reckon op x y).dat ∧ Ext W w'
theorem operator_add (w : World) : Calls Tryz.prog 129 #[.int .u8 43] w fun r w'=>∃ B,r = .returned (.func (.func 218) #[] #[.pointer (some ⟨B,0,none⟩)]) ∧ Ext w w' ∧ Does 43 218 B w.heap.size w':=by
 have c:=fun W=>told_mk 171 W
 go_enter func129,ntmps129
 go_wp2_with fail
 refine (c _).mono ?_
 rintro r w1 ⟨B,rfl,hl,hB,hc,E1⟩
 go_wp2_with fail
 go_ret
 exact ⟨B,rfl,E1,fun W x y E hx hy hN=>told_add x y hx hy B W hN (llL hB E.1) ((E.2 B 0 hl hB).trans hc)⟩
theorem operator_sub (w : World) : Calls Tryz.prog 129 #[.int .u8 45] w fun r w'=>∃ B,r = .returned (.func (.func 218) #[] #[.pointer (some ⟨B,0,none⟩)]) ∧ Ext w w' ∧ Does 45 218 B w.heap.size w':=by
 have c:=fun W=>told_mk 172 W
 go_enter func129,ntmps129
 go_wp2_with fail
 refine (c _).mono ?_
 rintro r w1 ⟨B,rfl,hl,hB,hc,E1⟩
 go_wp2_with fail
 go_ret
 exact ⟨B,rfl,E1,fun W x y E hx hy hN=>told_sub x y hx hy B W hN (llL hB E.1) ((E.2 B 0 hl hB).trans hc)⟩
theorem operator_mul (w : World) : Calls Tryz.prog 129 #[.int .u8 42] w fun r w'=>∃ B,r = .returned (.func (.func 218) #[] #[.pointer (some ⟨B,0,none⟩)]) ∧ Ext w w' ∧ Does 42 218 B w.heap.size w':=by
 have c:=fun W=>told_mk 173 W
 go_enter func129,ntmps129
 go_wp2_with fail
 refine (c _).mono ?_
 rintro r w1 ⟨B,rfl,hl,hB,hc,E1⟩
 go_wp2_with fail
 go_ret
 exact ⟨B,rfl,E1,fun W x y E hx hy hN=>told_mul x y hx hy B W hN (llL hB E.1) ((E.2 B 0 hl hB).trans hc)⟩
theorem operator_div (w : World) : Calls Tryz.prog 129 #[.int .u8 47] w fun r w'=>∃ B,r = .returned (.func (.func 224) #[] #[.pointer (some ⟨B,0,none⟩)]) ∧ Ext w w' ∧ Does 47 224 B w.heap.size w':=by
 have c:=fun W=>told_mk 175 W
 have d:=fun C W=>divided_mk C W
 go_enter func129,ntmps129
 go_wp2_with fail
 refine (c _).mono ?_
 rintro r w1 ⟨C,rfl,hlC,hC,hc,E1⟩
 go_wp2_with fail
 refine (d C _).mono ?_
 rintro r w2 ⟨B,rfl,hlB,hB,hd,E2⟩
 go_wp2_with fail
 go_ret
 refine ⟨B,rfl,E1.trans E2,fun W x y E hx hy hN=>?_⟩
 by_cases h0 : y = 0
 · exact div_zero x y h0 B W hN
 · have hC2:=llL hC E2.sz
   exact div_more x y hx hy h0 B C W hN (llL hB E.1) (llL hC2 E.1) ((E.2 B 0 (Nat.le_trans E1.sz hlB) hB).trans hd) ((E.2 C 0 hlC hC2).trans ((E2.cell.1 C 0 hC).trans hc))
theorem operator_no (op : Int) (w : World) (h : opB op = false) : Calls Tryz.prog 129 #[.int .u8 op] w fun r w'=>r = .returned .nilFunc ∧ w' = w:=by
 have n1 : op ≠ 43:=J76
 have n2 : op ≠ 45:=J76
 have n3 : op ≠ 42:=J76
 have n4 : op ≠ 47:=J76
 clear h
 go_enter func129,ntmps129
 exact K23
theorem two_alloc {w : World} {ak an : Int} {sa : ByteArray} {ae bk bn : Int} {sb : ByteArray} {be : Int} {T : TypeId} :
   Two (w.alloc (.cells #[.int .i64 ak,.int .i64 an,.string sa,.int .i64 ae,.int .i64 bk,.int .i64 bn,.string sb,.int .i64 be] T)) w.heap.size ak an sa ae bk bn sb be:=by
 unfold Two;simp [go_sem]
def NE (v : V) : Prop:=(∃ n,v = .num n ∧ I64 n ∧ canB n = true) ∨ (∃ e,v = .err e ∧ 1 ≤ e ∧ e ≤ 5)
theorem ar_ea (op : Int) {a : V} (h : NE a) (k : a.k = 4) (b : V) : arith2 op a b = a:=by
 exact K158
theorem ar_eb (op : Int) {a b : V} (h : NE a) (g : NE b) (k : a.k ≠ 4) (l : b.k = 4) : arith2 op a b = b:=by
 exact K110
theorem ar_n (op : Int) {a b : V} (h : NE a) (g : NE b) (k : a.k ≠ 4) (l : b.k ≠ 4) : arith2 op a b = reckon op a.n b.n ∧ I64 a.n ∧ I64 b.n:=by
 rcases h with ⟨n,rfl,i,_⟩ | ⟨e,rfl,_⟩
 · rcases g with ⟨m,rfl,j,_⟩ | ⟨e,rfl,_⟩
   · exact ⟨rfl,i,j⟩
   · simp [V.k] at l
 · simp [V.k] at k
theorem eq_nil (fn : Fn) (a b : Array Value) (W : World) : (binOp .eql 154 (.func fn a b) .nilFunc).run Tryz.prog W = .ok (.bool false) W:=by
 have h:=Tryz.underlying154
 exact K60
theorem eq_nil2 (W : World) : (binOp .eql 154 .nilFunc .nilFunc).run Tryz.prog W = .ok (.bool true) W:=by
 have h:=Tryz.underlying154
 exact K60
theorem arith_told (op : Int) (ka na : Int) (sa : ByteArray) (ea kb nb : Int) (sb : ByteArray) (eb : Int) (w : World) (hna : I64 na) (hnb : I64 nb) (hN : Nm w)
   (co : ∀ W,Calls Tryz.prog 129 #[.int .u8 op] W fun r w'=>∃ B,r = .returned (.func (.func 218) #[] #[.pointer (some ⟨B,0,none⟩)]) ∧ Ext W w' ∧ Does op 218 B W.heap.size w') :
   Calls Tryz.prog 97 #[.int .u8 op,.agg #[.int .i64 ka,.int .i64 na,.string sa,.int .i64 ea],.agg #[.int .i64 kb,.int .i64 nb,.string sb,.int .i64 eb]] w fun r w' =>
     r = .returned (arith2 op (nm ka na sa ea).toNum (nm kb nb sb eb).toNum).dat ∧ Ext w w':=by
 have c1:=fun W h=>vtonum_any ka na sa ea W hna h
 have c2:=fun W h=>vtonum_any kb nb sb eb W hnb h
 have n1:=toNum_cases (nm ka na sa ea) (nm_ok _ _ _ _ hna)
 have n2:=toNum_cases (nm kb nb sb eb) (nm_ok _ _ _ _ hnb)
 have e0:=fun fn a b W=>eq_nil fn a b W
 generalize (nm ka na sa ea).toNum = a at c1 n1 ⊢
 generalize (nm kb nb sb eb).toNum = b at c2 n2 ⊢
 rw [dat_eq] at c1 c2
 have H1 : Hid (a.k = 4 → (arith2 op a b).dat = .agg #[.int .i64 4,.int .i64 a.n,.string a.s,.int .i64 a.e]):=fun h=>by rw [ar_ea op n1 h b,dat_eq,h]
 have H2 : Hid (a.k ≠ 4 → b.k = 4 → (arith2 op a b).dat = .agg #[.int .i64 4,.int .i64 b.n,.string b.s,.int .i64 b.e]):=fun h g=>by rw [ar_eb op n1 n2 h g,dat_eq,g]
 have H3 : Hid (a.k ≠ 4 → b.k ≠ 4 → arith2 op a b = reckon op a.n b.n ∧ I64 a.n ∧ I64 b.n):=fun h g=>ar_n op n1 n2 h g
 clear n1 n2 hna hnb
 generalize a.k = pk at *
 generalize a.n = pn at *
 generalize a.s = ps at *
 generalize a.e = pe at *
 generalize b.k = qk at *
 generalize b.n = qn at *
 generalize b.s = qs at *
 generalize b.e = qe at *
 generalize arith2 op a b = J at *
 clear a b
 go_enter func97,ntmps97
 go_wp2_with fail
 refine (co _).mono ?_
 rintro r w1 ⟨B,rfl,E1,hD⟩
 have hD : Hid (Does op 218 B (w.heap.size + 1 + 1 + 1) w1):=by show Does _ _ _ _ _;simpa using hD
 exact K1
theorem arith_div (op : Int) (ka na : Int) (sa : ByteArray) (ea kb nb : Int) (sb : ByteArray) (eb : Int) (w : World) (hna : I64 na) (hnb : I64 nb) (hN : Nm w)
   (co : ∀ W,Calls Tryz.prog 129 #[.int .u8 op] W fun r w'=>∃ B,r = .returned (.func (.func 224) #[] #[.pointer (some ⟨B,0,none⟩)]) ∧ Ext W w' ∧ Does op 224 B W.heap.size w') :
   Calls Tryz.prog 97 #[.int .u8 op,.agg #[.int .i64 ka,.int .i64 na,.string sa,.int .i64 ea],.agg #[.int .i64 kb,.int .i64 nb,.string sb,.int .i64 eb]] w fun r w' =>
     r = .returned (arith2 op (nm ka na sa ea).toNum (nm kb nb sb eb).toNum).dat ∧ Ext w w':=by
 have c1:=fun W h=>vtonum_any ka na sa ea W hna h
 have c2:=fun W h=>vtonum_any kb nb sb eb W hnb h
 have n1:=toNum_cases (nm ka na sa ea) (nm_ok _ _ _ _ hna)
 have n2:=toNum_cases (nm kb nb sb eb) (nm_ok _ _ _ _ hnb)
 have e0:=fun fn a b W=>eq_nil fn a b W
 generalize (nm ka na sa ea).toNum = a at c1 n1 ⊢
 generalize (nm kb nb sb eb).toNum = b at c2 n2 ⊢
 rw [dat_eq] at c1 c2
 have H1 : Hid (a.k = 4 → (arith2 op a b).dat = .agg #[.int .i64 4,.int .i64 a.n,.string a.s,.int .i64 a.e]):=fun h=>by rw [ar_ea op n1 h b,dat_eq,h]
 have H2 : Hid (a.k ≠ 4 → b.k = 4 → (arith2 op a b).dat = .agg #[.int .i64 4,.int .i64 b.n,.string b.s,.int .i64 b.e]):=fun h g=>by rw [ar_eb op n1 n2 h g,dat_eq,g]
 have H3 : Hid (a.k ≠ 4 → b.k ≠ 4 → arith2 op a b = reckon op a.n b.n ∧ I64 a.n ∧ I64 b.n):=fun h g=>ar_n op n1 n2 h g
 clear n1 n2 hna hnb
 generalize a.k = pk at *
 generalize a.n = pn at *
 generalize a.s = ps at *
 generalize a.e = pe at *
 generalize b.k = qk at *
 generalize b.n = qn at *
 generalize b.s = qs at *
 generalize b.e = qe at *
 generalize arith2 op a b = J at *
 clear a b
 go_enter func97,ntmps97
 go_wp2_with fail
 refine (co _).mono ?_
 rintro r w1 ⟨B,rfl,E1,hD⟩
 have hD : Hid (Does op 224 B (w.heap.size + 1 + 1 + 1) w1):=by show Does _ _ _ _ _;simpa using hD
 exact K1
theorem opB_cases (op : Int) (h : opB op = true) : op = 43 ∨ op = 45 ∨ op = 42 ∨ op = 47:=by
 unfold opB at h
 simp at h
 omega
theorem arith_yes (op : Int) (h : opB op = true) (ka na : Int) (sa : ByteArray) (ea kb nb : Int) (sb : ByteArray) (eb : Int) (w : World) (hna : I64 na) (hnb : I64 nb) (hN : Nm w) :
   Calls Tryz.prog 97 #[.int .u8 op,.agg #[.int .i64 ka,.int .i64 na,.string sa,.int .i64 ea],.agg #[.int .i64 kb,.int .i64 nb,.string sb,.int .i64 eb]] w fun r w' =>
     r = .returned (arith op (nm ka na sa ea) (nm kb nb sb eb)).dat ∧ Ext w w':=by
 unfold arith
 rw [if_pos h]
 rcases opB_cases op h with rfl | rfl | rfl | rfl
 · exact arith_told 43 ka na sa ea kb nb sb eb w hna hnb hN operator_add
 · exact arith_told 45 ka na sa ea kb nb sb eb w hna hnb hN operator_sub
 · exact arith_told 42 ka na sa ea kb nb sb eb w hna hnb hN operator_mul
 · exact arith_div 47 ka na sa ea kb nb sb eb w hna hnb hN operator_div
theorem arith_no (op : Int) (h : opB op = false) (ka na : Int) (sa : ByteArray) (ea kb nb : Int) (sb : ByteArray) (eb : Int) (w : World) (hN : Nm w) :
   Calls Tryz.prog 97 #[.int .u8 op,.agg #[.int .i64 ka,.int .i64 na,.string sa,.int .i64 ea],.agg #[.int .i64 kb,.int .i64 nb,.string sb,.int .i64 eb]] w fun r w' =>
     r = .returned (arith op (nm ka na sa ea) (nm kb nb sb eb)).dat ∧ Ext w w':=by
 have H : Hid (arith op (nm ka na sa ea) (nm kb nb sb eb) = .err 2):=by show arith _ _ _ = _;unfold arith;rw [h];rfl
 have c1:=fun W=>operator_no op W h
 have c2:=fun W h=>err_any 2 W h
 have e0:=fun W=>eq_nil2 W
 rw [mkErr_is ⟨by decide,by decide⟩] at c2
 simp only [V.dat] at c2
 generalize arith op (nm ka na sa ea) (nm kb nb sb eb) = J at *
 clear h
 go_enter func97,ntmps97
 go_wp2_with fail
 refine (c1 _).mono ?_
 rintro r w1 ⟨rfl,rfl⟩
 go_wp2_with fail
 refine (c2 _ (hN.ext (((xr.alloc _).alloc _).alloc _))).mono ?_
 rintro r w2 ⟨rfl,E2⟩
 have R2:=blk_top (b:=w.heap.size + 1 + 1) J58 E2
 have X2 : Ext w w2:=Ext.trans (((xr.alloc _).alloc _).alloc _) E2
 have R3:=R2
 obtain ⟨rz,⟨r0,r1,r2,r3⟩,rf0,rf1,rf2,rf3⟩:=R3
 go_wp2_with fail
 exact finB (R2.set _ _ _ _) rfl ((((X2.setCell J7 _).setCell J7 _).setCell J7 _).setCell J7 _) (fun g0 g1 g2 g3=>by simp [results,results97,go_sem,g0,g1,g2,g3]) (fun h=>⟨by rw [H.out];rfl,h⟩)
theorem arith_any (op : Int) (ka na : Int) (sa : ByteArray) (ea kb nb : Int) (sb : ByteArray) (eb : Int) (w : World) (hna : I64 na) (hnb : I64 nb) (hN : Nm w) :
   Calls Tryz.prog 97 #[.int .u8 op,.agg #[.int .i64 ka,.int .i64 na,.string sa,.int .i64 ea],.agg #[.int .i64 kb,.int .i64 nb,.string sb,.int .i64 eb]] w fun r w' =>
     r = .returned (arith op (nm ka na sa ea) (nm kb nb sb eb)).dat ∧ Ext w w':=by
 cases h : opB op
 · exact arith_no op h ka na sa ea kb nb sb eb w hN
 · exact arith_yes op h ka na sa ea kb nb sb eb w hna hnb hN
end Go.Proofs.YtcfgbiaahangmaaGreatDoor
