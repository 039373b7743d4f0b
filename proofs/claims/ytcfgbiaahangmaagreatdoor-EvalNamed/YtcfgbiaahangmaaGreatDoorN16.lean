import Derived.Maps.RangeWalk
import Derived.DeepKeys5
import Derived.Test.YtcfgbiaahangmaaGreatDoorN15
set_option maxHeartbeats 1000000
set_option maxRecDepth 100000
namespace Go.Proofs.YtcfgbiaahangmaaGreatDoor
open Go.Proofs.Tryz
open Go.RowKit
structure Kn where
 r : Int
 c : Int
 v : Rw
instance : Inhabited Kn:=⟨⟨0,0,⟨0,0,⟨#[]⟩,0⟩⟩⟩
def isAt (x : Kn) (r c : Int) : Bool:=x.r == r && x.c == c
def aft (x : Kn) (r c : Int) : Bool:=decide (r < x.r) || (x.r == r && decide (c < x.c))
def atI (r c : Int) : List Kn → Nat
 | []=>0
 | x :: l=>if isAt x r c || aft x r c then 0 else atI r c l + 1
def atB (r c : Int) : List Kn → Bool
 | []=>false
 | x :: l=>if isAt x r c then true else if aft x r c then false else atB r c l
def newL (r c : Int) (v : V) : List Kn:=if v.k = 0 then [] else [⟨r,c,v.rw⟩]
def putL (L : List Kn) (r c : Int) (v : V) : List Kn:=if inB r c then L.take (atI r c L) ++ newL r c v ++ (L.drop (atI r c L)).drop (if atB r c L then 1 else 0) else L
theorem isAt_iff (x : Kn) (r c : Int) : isAt x r c = true ↔ x.r = r ∧ x.c = c:=by simp [isAt]
theorem isAt_no (x : Kn) (r c : Int) : isAt x r c = false ↔ ¬ (x.r = r ∧ x.c = c):=by rw [← isAt_iff];simp
theorem aft_iff (x : Kn) (r c : Int) : aft x r c = true ↔ (r < x.r ∨ x.r = r ∧ c < x.c):=by simp [aft]
theorem aft_no (x : Kn) (r c : Int) : aft x r c = false ↔ ¬ (r < x.r ∨ x.r = r ∧ c < x.c):=by rw [← aft_iff];simp
theorem atI_le (r c : Int) (L : List Kn) : atI r c L ≤ L.length:=by
 induction L with
 | nil=>exact Nat.le_refl _
 | cons x l ih =>
   rw [atI]
   split
   · exact Nat.zero_le _
   · simp;exact ih
theorem atB_lt {r c : Int} {L : List Kn} (h : atB r c L = true) : atI r c L < L.length:=by
 induction L with
 | nil=>cases h
 | cons x l ih =>
   unfold atB at h
   unfold atI
   cases h1 : isAt x r c
   · rw [h1] at h
     cases h2 : aft x r c
     · rw [h2] at h
       simp at h ⊢
       exact ih h
     · rw [h2] at h;simp at h
   · simp
def putR (r c : Int) (v : V) : List Kn → List Kn
 | []=>newL r c v
 | x :: l=>if isAt x r c then newL r c v ++ l else if aft x r c then newL r c v ++ x :: l else x :: putR r c v l
theorem put_is (r c : Int) (v : V) (L : List Kn) : L.take (atI r c L) ++ newL r c v ++ (L.drop (atI r c L)).drop (if atB r c L then 1 else 0) = putR r c v L:=by
 induction L with
 | nil=>simp [putR,atI]
 | cons x l ih =>
   unfold atI atB putR
   cases h1 : isAt x r c
   · cases h2 : aft x r c
     · simp only [Bool.or_self,Bool.false_eq_true,if_false,List.take_succ_cons,List.drop_succ_cons,List.cons_append]
       rw [ih]
     · simp
   · simp
theorem putR_len (r c : Int) (v : V) (L : List Kn) : (putR r c v L).length ≤ L.length + 1:=by
 have hn : (newL r c v).length ≤ 1:=by unfold newL;split <;> simp
 induction L with
 | nil=>exact hn
 | cons x l ih =>
   unfold putR
   split
   · simp;omega
   · split
     · simp;omega
     · simp;omega
theorem putL_len (r c : Int) (v : V) (L : List Kn) : (putL L r c v).length ≤ L.length + 1:=by
 unfold putL
 split
 · rw [put_is];exact putR_len r c v L
 · omega
open Go.ChangeShapes Go.WideShapes Go.RowKit
open Go.Deep (choose_lt)
def cK (x : Kn) : List Value:=[.int .i64 x.r,.int .i64 x.c,.int .i64 x.v.k,.int .i64 x.v.n,.string x.v.s,.int .i64 x.v.e]
theorem cK_len (x : Kn) : (cK x).length = 6:=rfl
theorem cK_one (l : List Kn) : ∀ u ∈ l.flatMap cK,u.oneCell' = true:=by
 intro u hu
 obtain ⟨r,_,hu⟩:=List.mem_flatMap.1 hu
 simp [cK] at hu
 rcases hu with rfl | rfl | rfl | rfl | rfl | rfl <;> rfl
theorem eltK : Elt 22 35 6 56:=by
 refine ⟨Tryz.underlying22,?_,by decide⟩
 have h1 : (Tryz.prog.info? 35).isSome = true:=J3
 have h2 : (Tryz.prog.info? 35).bind (fun i=>i.zero) = some (.agg #[.int .i64 0,.int .i64 0,.int .i64 0,.int .i64 0,.string ⟨#[]⟩,.int .i64 0]):=J3
 have h3 : (Tryz.prog.info? 35).map (fun i=>(i.size,i.bytes)) = some (6,56):=J3
 cases h : Tryz.prog.info? 35 with
 | none=>rw [h] at h1;cases h1
 | some i =>
   exact K129
def RdKn (W : World) (v : Value) (l : List Kn) : Prop :=
 ∃ p c,v = .slice p l.length c ∧ l.length ≤ c ∧ (l = [] ∨ ∃ b off,p = some ⟨b,off,none⟩ ∧ b < W.heap.size ∧ ∀ i x j u,l[i]? = some x → (cK x)[j]? = some u → W.cell? ⟨b,off + i * 6 + j,none⟩ = some u)
theorem RdKn.len {W : World} {p : Option Addr} {n c : Nat} {l : List Kn} (h : RdKn W (.slice p n c) l) : n = l.length:=by
 obtain ⟨p',c',h1,_⟩:=h
 cases h1;rfl
theorem RdKn.form {W : World} {v : Value} {l : List Kn} (h : RdKn W v l) : ∃ p n c,v = .slice p n c ∧ n = l.length ∧ n ≤ c:=by
 exact K101
theorem RdKn.keep {W W' : World} {p : Option Addr} {n c : Nat} {l : List Kn} (h : RdKn W (.slice p n c) l) (hs : W.heap.size ≤ W'.heap.size) (hk : ∀ a,p = some a → l ≠ [] → W'.heap[a.block]? = W.heap[a.block]?) : RdKn W' (.slice p n c) l:=by
 obtain ⟨p',c',h1,h2,h3⟩:=h
 cases h1
 refine ⟨p,c,rfl,h2,?_⟩
 rcases h3 with h3 | ⟨b,off,rfl,h5,h6⟩
 · exact .inl h3
 · refine .inr ⟨b,off,rfl,llL h5 hs,fun i x j u hi hj=>?_⟩
   have:=h6 i x j u hi hj
   unfold World.cell? at this ⊢
   rw [show W'.heap[b]? = W.heap[b]? from hk _ rfl (fun e=>by rw [e] at hi;simp at hi)]
   exact this
theorem RdKn.ext {W W' : World} {v : Value} {l : List Kn} (h : RdKn W v l) (e : Ext W W') : RdKn W' v l:=by
 obtain ⟨p,c,h1,h2,h3⟩:=h
 refine ⟨p,c,h1,h2,?_⟩
 rcases h3 with h3 | ⟨b,off,h4,h5,h6⟩
 · exact .inl h3
 · exact .inr ⟨b,off,h4,llL h5 e.size,fun i x j u hi hj=>(e.cell.1 b _ h5).trans (h6 i x j u hi hj)⟩
theorem RdKn.nil (W : World) : RdKn W (.slice none 0 0) []:=⟨none,0,rfl,Nat.le_refl _,.inl rfl⟩
theorem RdKn.at {W : World} {p : Option Addr} {n c : Nat} {l : List Kn} (h : RdKn W (.slice p n c) l) {i : Nat} {x : Kn} (hi : l[i]? = some x) :
   ∃ b off,p = some ⟨b,off,none⟩ ∧ b < W.heap.size ∧ W.cell? ⟨b,off + i * 6,none⟩ = some (.int .i64 x.r) ∧ W.cell? ⟨b,off + i * 6 + 1,none⟩ = some (.int .i64 x.c) ∧ W.cell? ⟨b,off + i * 6 + 2,none⟩ = some (.int .i64 x.v.k) ∧ W.cell? ⟨b,off + i * 6 + 3,none⟩ = some (.int .i64 x.v.n) ∧ W.cell? ⟨b,off + i * 6 + 4,none⟩ = some (.string x.v.s) ∧ W.cell? ⟨b,off + i * 6 + 5,none⟩ = some (.int .i64 x.v.e):=by
 obtain ⟨p',c',h1,h2,h3⟩:=h
 cases h1
 rcases h3 with h3 | ⟨b,off,h4,h5,h6⟩
 · subst h3;simp at hi
 · exact ⟨b,off,h4,h5,h6 i x 0 _ hi rfl,h6 i x 1 _ hi rfl,h6 i x 2 _ hi rfl,h6 i x 3 _ hi rfl,h6 i x 4 _ hi rfl,h6 i x 5 _ hi rfl⟩
theorem RdKn.row {W : World} {v : Value} {l : List Kn} (h : RdKn W v l) : RowC W v l.length 6 (l.flatMap cK):=by
 obtain ⟨p,c,h1,h2,h3⟩:=h
 refine ⟨fm_len cK 6 cK_len l,p,c,h1,?_⟩
 rcases h3 with rfl | ⟨b,off,rfl,_,h6⟩
 · exact K144
 · refine .inr ⟨_,rfl,fun j u hu=>?_⟩
   obtain ⟨r,hr,hu⟩:=fm_get cK 6 cK_len J9 l j u hu
   have:=h6 _ r _ u hr hu
   rw [Addr.add_lit]
   rw [show off + j = off + j / 6 * 6 + j % 6 by omega]
   exact this
theorem own_rdK {W : World} {base : Nat} {v : Value} {l : List Kn} {n : Nat} (h : W.ownsRow base 35 6 v n (l.flatMap cK)) (hn : n = l.length) : RdKn W v l:=by
 subst hn
 rcases h.2 with ⟨rfl,h0⟩ | ⟨g,cap,cur,rfl,h2,h3,h4,h5⟩
 · have : l = []:=List.eq_nil_of_length_eq_zero h0
   subst this
   exact RdKn.nil W
 · have hg : g < W.heap.size:=(Array.getElem?_eq_some_iff.1 h3).1
   refine ⟨_,cap,rfl,h4,.inr ⟨g,0,rfl,hg,fun i x j u hi hj=>?_⟩⟩
   have hj6 : j < 6:=by have:=(List.getElem?_eq_some_iff.1 hj).1;exact this
   have k:=h.cells (g:=g) rfl (i * 6 + j) u (by rw [fm_at cK 6 cK_len l i x j hi hj6];exact hj)
   simp only [Addr.add_lit] at k
   rw [show 0 + i * 6 + j = 0 + (i * 6 + j) by omega]
   exact k
theorem RdKn.part {W : World} {b off n c : Nat} {l : List Kn} (h : RdKn W (.slice (some ⟨b,off,none⟩) n c) l) (i j : Nat) (hij : i ≤ j) (hj : j ≤ l.length) : RdKn W (.slice (some ⟨b,off + i * 6,none⟩) (j - i) (c - i)) ((l.take j).drop i):=by
 obtain ⟨p',c',h1,h2,h3⟩:=h
 cases h1
 have hl : ((l.take j).drop i).length = j - i:=J6
 refine ⟨_,c - i,by rw [hl],by rw [hl];omega,?_⟩
 rcases h3 with h3 | ⟨b',off',h4,h5,h6⟩
 · subst h3;exact .inl J60
 · cases h4
   refine .inr ⟨b,off + i * 6,rfl,h5,fun k x q u hk hq=>?_⟩
   have hx : l[i + k]? = some x:=by
     rw [List.getElem?_drop,List.getElem?_take] at hk
     split at hk
     · exact hk
     · cases hk
   have:=h6 _ x q u hx hq
   rw [show off + i * 6 + k * 6 + q = off + (i + k) * 6 + q by omega]
   exact this
theorem qc_known : Tryz.prog.cellsOf 35 = 6:=J3
section
variable {H : Type} {enc : TypeId × Value → H} {w : World} {base : Nat} {sp : Nat → Bool} {hd : Bool}
theorem open_kn {fuel : Nat} {cs : List Value} {x : DataW H × List MemPlace} (hl : cs.length = 6) (h : DataW.trod enc Tryz.prog w base sp hd fuel 35 cs = some x) :
   ∃ y : Kn,cs = cK y ∧ I64 y.r ∧ I64 y.c ∧ I64 y.v.n:=by
 obtain ⟨xs,n,rfl,_,hlen,hxl,hf⟩:=DataW.trod_struct Tryz.underlying35 h
 match cs,hl with
 | [c0,c1,c2,c3,c4,c5],_ =>
   have hx : ∀ i,i < 3 → ∃ y,xs[i]? = some y:=fun i hi=>⟨_,gEq (by rw [hxl];exact hi)⟩
   obtain ⟨y0,g0⟩:=hx 0 J9
   obtain ⟨y1,g1⟩:=hx 1 J9
   obtain ⟨y2,g2⟩:=hx 2 J9
   have f0:=(hf 0 _ rfl).trans g0
   have f1:=(hf 1 _ rfl).trans g1
   have f2:=(hf 2 _ rfl).trans g2
   simp [qc_int,qc_value] at f0 f1 f2
   obtain ⟨a0,e0,_,w0⟩:=DataW.trod_int Tryz.underlying3 f0
   obtain ⟨a1,e1,_,w1⟩:=DataW.trod_int Tryz.underlying3 f1
   obtain ⟨r,hr,wr⟩:=open_val rfl f2
   simp only [List.cons.injEq,and_true] at e0 e1 hr
   obtain ⟨rfl,rfl,rfl,rfl⟩:=hr
   subst e0 e1
   exact ⟨⟨a0,a1,r⟩,rfl,i64_of_wf w0,i64_of_wf w1,wr⟩
def KnI (l : List Kn) : Prop:=∀ x ∈ l,I64 x.r ∧ I64 x.c ∧ I64 x.v.n
theorem open_kns {fuel : Nat} {c : Value} {x : DataW H × List MemPlace} (h : DataW.trod enc Tryz.prog w base sp hd fuel 22 [c] = some x) :
   ∃ l,RdKn w c l ∧ KnI l ∧ l.length ≤ maxLen:=by
 rcases DataW.trod_slice Tryz.underlying22 h with ⟨e6,_⟩ | ⟨a,len,cap,elems,rest,n',hn',e6,_,hb,hl,hm,hel,hx,_,_⟩
 · simp only [List.cons.injEq,and_true] at e6
   subst e6
   exact ⟨[],RdKn.nil w,(fun r hr=>by cases hr),by simp⟩
 · simp only [List.cons.injEq,and_true] at e6
   subst e6
   rw [qc_known] at hx
   have each : ∀ i,i < len → ∃ y : Kn,(∀ j u,(cK y)[j]? = some u → w.cell? ((a.add (i * 6)).add j) = some u) ∧ I64 y.r ∧ I64 y.c ∧ I64 y.v.n:=by
     intro i hi
     have h0:=hx i hi
     rw [gEq (show i < elems.length by omega)] at h0
     obtain ⟨cs',h1,h2⟩:=Option.bind_eq_some_iff.1 h0
     obtain ⟨_,k1,k2⟩:=World.cells?_some h1
     obtain ⟨r,rfl,hr⟩:=open_kn (by simpa using k1) h2
     refine ⟨r,fun j u hu=>?_,hr⟩
     exact K163
   obtain ⟨f,hf⟩:=choose_lt each
   by_cases h0 : len = 0
   · subst h0
     exact ⟨[],⟨_,_,rfl,by omega,.inl rfl⟩,(fun r hr=>by cases hr),by simp⟩
   obtain ⟨b,off,spot⟩:=a
   have hz:=(hf 0 J2).1 0 _ rfl
   have hspot : spot = none:=by simpa [Addr.add] using World.cell?_spot hz
   subst hspot
   have hblt : b < w.heap.size:=World.block_lt_of_cell? _ _ hz
   have hgl : ((List.range len).map f).length = len:=J60
   refine ⟨(List.range len).map f,⟨_,cap,by rw [hgl],by omega,.inr ⟨b,off,rfl,hblt,fun i r j u hi hj=>?_⟩⟩,?_,by simp;omega⟩
   · have hi' : i < len:=by
       exact K153
     rw [List.getElem?_map,List.getElem?_range hi'] at hi
     simp at hi
     subst hi
     have:=(hf i hi').1 j u hj
     simp only [Addr.add_lit] at this
     exact this
   · intro r hr
     obtain ⟨i,hi,rfl⟩:=List.mem_map.1 hr
     exact (hf i (List.mem_range.1 hi)).2
end
open Go.RowKit
open Go.Maps (Keyed)
theorem kLaw : Keyed Tryz.prog 24:=Keyed.of_law (deep_law_laid (m:=3) J3 J9 (of_decide_eq_true J3) J3 J3)
theorem kType : Tryz.prog.keyType 24 = true:=J3
theorem kCells : Tryz.prog.cellsOf 24 = 2:=J3
theorem kInt : Tryz.prog.cellsOf 3 = 1:=J3
theorem kSize : ∃ m,Tryz.prog.types.size = m + 1:=⟨Tryz.prog.types.size - 1,by have : 0 < Tryz.prog.types.size:=of_decide_eq_true J3;omega⟩
def plc (r c : Int) : Value:=.agg #[.int .i64 r,.int .i64 c]
def kl (r c : Int) : Lit:=.string (keyBytes [.int .i64 r,.int .i64 c])
theorem wf_i64 {n : Int} (h : I64 n) : (Lit.int .i64 n).wf = true:=WalkArith.wf_i64 (by unfold I64 at h;omega)
theorem key_mk (r c : Int) (hr : I64 r) (hc : I64 c) : keyOf Tryz.prog 24 (plc r c) = some (kl r c):=by
 obtain ⟨m,hm⟩:=kSize
 unfold keyOf plc
 simp only [Tryz.underlying24]
 rw [if_pos (by simp [kType,Value.formed,Tryz.underlying24,kCells]),hm]
 unfold Program.keyLits
 simp only [Tryz.underlying24,Value.cells]
 rw [if_pos (by rw [kCells];simp)]
 simp [Program.keyLits,kInt,Tryz.underlying3,wf_i64 hr,wf_i64 hc,kl]
theorem kl_inj {r c r' c' : Int} (hr : I64 r) (hc : I64 c) (hr' : I64 r') (hc' : I64 c') (h : kl r c = kl r' c') : r = r' ∧ c = c':=by
 have h1:=key_mk r c hr hc
 have h2:=key_mk r' c' hr' hc'
 rw [← h] at h2
 have:=kLaw.inj h1 h2
 unfold plc at this
 simp at this
 exact this
def hR (v : Value) : Option (DataW Value × List MemPlace):=some (.held v,[])
def RelD (D : DataW Value) (M : Bov) : Prop:=∀ r c,I64 r → I64 c → D.atKey (kl r c) (.held V.blank.dat) = .held (M r c).dat ∧ (Maps.has D (kl r c) = true ↔ (M r c).k ≠ 0)
def MapB (W : World) (g n : Nat) (M : Bov) : Prop:=∃ D,W.ownsMap Tryz.prog 24 hR g n D ∧ RelD D M
theorem rel_empty : RelD (.map []) bz:=fun r c _ _=>⟨rfl,by simp [Maps.has,bz,V.k]⟩
theorem rel_put {D : DataW Value} {M : Bov} (h : RelD D M) (hD : Maps.IsMap D) (r c : Int) (hr : I64 r) (hc : I64 c) (v : V) (hv : v.k ≠ 0) : RelD (D.put (kl r c) (.held v.dat)) (bput M r c v):=by
 have hk:=kLaw.key (key_mk r c hr hc)
 intro r' c' hr' hc'
 by_cases e : r' = r ∧ c' = c
 · obtain ⟨rfl,rfl⟩:=e
   rw [Maps.atKey_put_same hD hk,Maps.has_put_same hD hk]
   unfold bput
   simp [hv]
 · have hne : kl r' c' ≠ kl r c:=fun he=>e (kl_inj hr' hc' hr hc he)
   rw [Maps.atKey_put_other hne,Maps.has_put_other hne]
   unfold bput
   rw [if_neg e]
   exact h r' c' hr' hc'
theorem rel_del {D : DataW Value} {M : Bov} (h : RelD D M) (r c : Int) (hr : I64 r) (hc : I64 c) : RelD (D.del (kl r c)) (bput M r c .blank):=by
 intro r' c' hr' hc'
 by_cases e : r' = r ∧ c' = c
 · obtain ⟨rfl,rfl⟩:=e
   rw [Maps.atKey_del_same,Maps.has_del_same]
   unfold bput
   simp [V.k]
 · have hne : kl r' c' ≠ kl r c:=fun he=>e (kl_inj hr' hc' hr hc he)
   rw [Maps.atKey_del_other hne,Maps.has_del_other hne]
   unfold bput
   rw [if_neg e]
   exact h r' c' hr' hc'
structure ExtS (S : Nat → Prop) (w w' : World) : Prop where
 os : w'.os = w.os
 tape : w'.tape = w.tape
 output : w'.output = w.output
 size : w.heap.size ≤ w'.heap.size
 block : ∀ k,k < w.heap.size → ¬ S k → w'.heap[k]? = w.heap[k]?
theorem ExtS.refl (S : Nat → Prop) (w : World) : ExtS S w w:=⟨rfl,rfl,rfl,Nat.le_refl _,fun _ _ _=>rfl⟩
theorem ExtS.trans {S : Nat → Prop} {x y z : World} (h : ExtS S x y) (k : ExtS S y z) : ExtS S x z :=
 ⟨k.os.trans h.os,k.tape.trans h.tape,k.output.trans h.output,Nat.le_trans h.size k.size,fun i hi hs=>(k.block i (llL hi h.size) hs).trans (h.block i hi hs)⟩
theorem Ext.toS {w w' : World} (h : Ext w w') (S : Nat → Prop) : ExtS S w w':=⟨h.os,h.tape,h.output,h.size,fun k hk _=>h.block k hk⟩
theorem ExtS.ext {S : Nat → Prop} {w0 w w' : World} (h : ExtS S w w') (e : Ext w0 w) (hS : ∀ k,S k → w0.heap.size ≤ k) : Ext w0 w' :=
 ⟨h.os.trans e.os,h.tape.trans e.tape,h.output.trans e.output,Nat.le_trans e.size h.size,fun k hk=>(h.block k (llL hk e.size) (fun hs=>by have:=hS k hs;omega)).trans (e.block k hk)⟩
theorem ExtS.mono {S S' : Nat → Prop} {w w' : World} (h : ExtS S w w') (hs : ∀ k,S k → S' k) : ExtS S' w w':=⟨h.os,h.tape,h.output,h.size,fun k hk hn=>h.block k hk (fun h'=>hn (hs k h'))⟩
theorem cell_of_heap {w w' : World} {k : Nat} (h : w'.heap[k]? = w.heap[k]?) (o : Nat) : w'.cell? ⟨k,o,none⟩ = w.cell? ⟨k,o,none⟩ ∧ w'.frozen? ⟨k,o,none⟩ = w.frozen? ⟨k,o,none⟩:=by
 unfold World.cell? World.frozen?
 simp only [h,and_self]
structure Brd (W : World) (b : Nat) (g : Option Nat) (n : Nat) (M : Bov) : Prop where
 lt : b < W.heap.size
 cell : W.cell? ⟨b,0,none⟩ = some (.map g)
 fz : W.frozen? ⟨b,0,none⟩ = false
 ne : g ≠ some b
 ok : BdOk M
 map : match g with | none=>M = bz | some g=>MapB W g n M
theorem MapB.lt {W : World} {g n : Nat} {M : Bov} (h : MapB W g n M) : g < W.heap.size:=by obtain ⟨D,h,_⟩:=h;exact h.lt
theorem MapB.keep {W W' : World} {g n : Nat} {M : Bov} (h : MapB W g n M) (e : W'.heap[g]? = W.heap[g]?) : MapB W' g n M:=by
 obtain ⟨D,⟨es,clock,hb,r⟩,hR⟩:=h
 exact ⟨D,⟨es,clock,e.trans hb,r⟩,hR⟩
theorem Brd.keep {W W' : World} {b n : Nat} {g : Option Nat} {M : Bov} (h : Brd W b g n M) {S : Nat → Prop} (e : ExtS S W W') (hb : ¬ S b) (hg : ∀ k,g = some k → ¬ S k) : Brd W' b g n M:=by
 have k:=cell_of_heap (e.block b h.lt hb) 0
 refine ⟨llL h.lt e.size,k.1.trans h.cell,k.2.trans h.fz,h.ne,h.ok,?_⟩
 cases g with
 | none=>exact h.map
 | some g=>exact MapB.keep h.map (e.block g (MapB.lt h.map) (hg g rfl))
theorem Brd.ext {W W' : World} {b n : Nat} {g : Option Nat} {M : Bov} (h : Brd W b g n M) (e : Ext W W') : Brd W' b g n M:=h.keep (e.toS (fun _=>False)) (fun h=>h) (fun _ _ h=>h)
structure DBr (W : World) (d : Nat) (p : Option Addr) (c : Nat) (L : List Kn) : Prop where
 lt : d < W.heap.size
 cell : W.cell? ⟨d,0,none⟩ = some (.slice p L.length c)
 fz : W.frozen? ⟨d,0,none⟩ = false
 rd : RdKn W (.slice p L.length c) L
 far : ∀ a,p = some a → a.block < W.heap.size ∧ a.block ≠ d
theorem DBr.ext {W W' : World} {d c : Nat} {p : Option Addr} {L : List Kn} (h : DBr W d p c L) (e : Ext W W') : DBr W' d p c L :=
 ⟨llL h.lt e.size,(e.cell.1 d 0 h.lt).trans h.cell,(e.cell.2 d 0 h.lt).trans h.fz,h.rd.ext e,fun a ha=>⟨llL (h.far a ha).1 e.size,(h.far a ha).2⟩⟩
theorem DBr.keep {W W' : World} {d c : Nat} {p : Option Addr} {L : List Kn} (h : DBr W d p c L) {S : Nat → Prop} (e : ExtS S W W') (hd : ¬ S d) (hp : ∀ a,p = some a → L ≠ [] → ¬ S a.block) : DBr W' d p c L:=by
 have k:=cell_of_heap (e.block d h.lt hd) 0
 exact ⟨llL h.lt e.size,k.1.trans h.cell,k.2.trans h.fz,h.rd.keep e.size (fun a ha hL=>e.block _ (h.far a ha).1 (hp a ha hL)),fun a ha=>⟨llL (h.far a ha).1 e.size,(h.far a ha).2⟩⟩
theorem at_step {r c : Int} {x : Kn} {l : List Kn} (h1 : isAt x r c = false) (h2 : aft x r c = false) : atI r c (x :: l) = atI r c l + 1 ∧ atB r c (x :: l) = atB r c l:=by
 constructor
 · rw [atI,h1,h2];rfl
 · rw [atB,h1,h2];rfl
theorem at_here {r c : Int} {x : Kn} {l : List Kn} (h1 : isAt x r c = true) : atI r c (x :: l) = 0 ∧ atB r c (x :: l) = true:=by
 constructor
 · rw [atI,h1];rfl
 · rw [atB,h1];rfl
theorem at_past {r c : Int} {x : Kn} {l : List Kn} (h1 : isAt x r c = false) (h2 : aft x r c = true) : atI r c (x :: l) = 0 ∧ atB r c (x :: l) = false:=by
 constructor
 · rw [atI,h1,h2];rfl
 · rw [atB,h1,h2];rfl
theorem drop_at {L : List Kn} {i : Nat} {x : Kn} (h : L[i]? = some x) : L.drop i = x :: L.drop (i + 1):=by
 obtain ⟨hi,rfl⟩:=List.getElem?_eq_some_iff.1 h
 exact List.drop_eq_getElem_cons hi
theorem at_any (W : World) (d cp : Nat) (p : Option Addr) (L : List Kn) (h : DBr W d p cp L) (hl : L.length ≤ 100000) (r c : Int) :
   Calls Tryz.prog 32 #[.pointer (some ⟨d,0,none⟩),.int .i64 r,.int .i64 c] W fun e w'=>e = .returned (.tuple #[.int .i64 (atI r c L),.bool (atB r c L)]) ∧ Ext W w':=by
 obtain ⟨n,hn⟩ : ∃ n,L.length = n:=⟨_,rfl⟩
 have HD : Hid (DBr W d p cp L ∧ L.length = n):=⟨h,hn⟩
 have hn2 : n ≤ 100000:=J2
 have dc:=h.cell
 rw [hn] at dc
 clear h hl hn
 go_enter func32,ntmps32
 go_wp2_with fail
 go_loopw [8] (fun iv wr=>∃ i : Nat,iv = .int .i64 (i : Int) ∧ i ≤ n ∧ atI r c L = i + atI r c (L.drop i) ∧ atB r c L = atB r c (L.drop i) ∧ Ext W wr) (fun iv _=>n - (intOf iv).toNat)
 case atStart=>exact ⟨0,rfl,Nat.zero_le _,by simp,rfl,Ext.refl _⟩
 case round =>
   obtain ⟨i,rfl,hi,h1,h2,hE⟩:=hrel
   have HA : Hid (atI r c L = i + atI r c (L.drop i) ∧ atB r c L = atB r c (L.drop i) ∧ Ext W wr):=⟨h1,h2,hE⟩
   have dc:=(hE.cell.1 d 0 HD.out.1.lt).trans dc
   clear h1 h2 hE
   by_cases hlt : i < n
   · have hltI : (i : Int) < (n : Int):=J2
     obtain ⟨x,hx⟩ : ∃ x,L[i]? = some x:=⟨_,gEq (by rw [HD.out.2];exact hlt)⟩
     have hrd:=HD.out.1.rd.ext HA.out.2.2
     rw [HD.out.2] at hrd
     obtain ⟨gb,off,rfl,hgb,c0,c1,c2,c3,c4,c5⟩:=hrd.at hx
     have HX : Hid (L.drop i = x :: L.drop (i + 1)):=drop_at hx
     have HI : Hid (i < n):=hlt
     have WI : Hid (wrap64 ((i : Int) + 1) = ((i + 1 : Nat) : Int)):=by show _ = _;unfold wrap64;omega
     clear hrd hx hlt
     by_cases hr : x.r = r
     · have t1 : (x.r == r) = true:=by simpa using hr
       have g1 : decide (x.r > r) = false:=J6
       by_cases hc : x.c = c
       · have t2 : (x.c == c) = true:=J64
         have HL : Hid (isAt x r c = true):=(isAt_iff _ _ _).2 ⟨hr,hc⟩
         clear hr hc g1
         go_wp2_with fail
         go_ret2
         refine ⟨?_,HA.out.2.2.alloc _⟩
         rw [HA.out.1,HA.out.2.1,HX.out,(at_here HL.out).1,(at_here HL.out).2]
         rfl
       · have t2 : (x.c == c) = false:=J64
         have HL : Hid (isAt x r c = false):=(isAt_no _ _ _).2 (fun h=>hc h.2)
         by_cases hg : x.c > c
         · have g2 : decide (x.c > c) = true:=by simpa using hg
           have HM : Hid (aft x r c = true):=(aft_iff _ _ _).2 (.inr ⟨hr,hg⟩)
           have hg3 : x.c > c:=hg
           have hr3 : ¬ x.r > r:=J2
           clear hr hc hg
           exact K112
         · have g2 : decide (x.c > c) = false:=by simpa using hg
           have HM : Hid (aft x r c = false):=(aft_no _ _ _).2 J2
           have hr3 : ¬ x.r > r:=J2
           have hg3 : ¬ x.c > c:=hg
           clear hr hc hg
           exact K69
     · have t1 : (x.r == r) = false:=by simpa using hr
       have HL : Hid (isAt x r c = false):=(isAt_no _ _ _).2 (fun h=>hr h.1)
       by_cases hg : x.r > r
       · have g1 : decide (x.r > r) = true:=by simpa using hg
         have HM : Hid (aft x r c = true):=(aft_iff _ _ _).2 (.inl hg)
         clear hr
         exact K112
       · have g1 : decide (x.r > r) = false:=by simpa using hg
         have HM : Hid (aft x r c = false):=(aft_no _ _ _).2 J2
         clear hr
         exact K69
   · have hltI : ¬ (i : Int) < (n : Int):=J2
     have HJ : Hid (i = n):=by show _ = _;omega
     clear hlt
     go_wp2_with fail
     go_ret2
     refine ⟨?_,HA.out.2.2⟩
     have h0 : L.drop i = []:=List.drop_eq_nil_of_le (by rw [HD.out.2,HJ.out];exact Nat.le_refl _)
     rw [HA.out.1,HA.out.2.1,h0,HJ.out]
     rfl
theorem wpList_sl {P : Program} (w : World) {ops : Array Oper} {rest : List Oper} {o : Oper} {a : Act} {Q : Exit → Act → World → Prop} (hg : o.guard = none) (x : Operand) (t : TypeId) (lo hi : Option Operand) (hop : o.op = Op.slice t x lo hi none)
   (xv v : Value) (lv hv : Option Value) (hx : a.eval x = xv) (hl : lo.map a.eval = lv) (hh : hi.map a.eval = hv) (hrun : (Instr.sliceAt t xv lv hv none).run P w = .ok v w) (hK : wpList P ops Q rest (a.put o.dst v) w) : wpList P ops Q (o :: rest) a w:=by
 refine wpList_plain hg fun K' hK'=>?_
 unfold Oper.wp
 simp [execOp,hop,hx,hl,hh,hrun,Result.andThen]
 exact hK' _ _ hK
theorem elemK : Tryz.prog.elem 22 = 35:=J3
theorem sizeK (w : World) : (sizeOf 35).run Tryz.prog w = .ok 6 w:=J3
theorem RdKn.sub {W : World} {p : Option Addr} {n c : Nat} {l : List Kn} (h : RdKn W (.slice p n c) l) (i j : Nat) (hij : i ≤ j) (hj : j ≤ l.length) : RdKn W (.slice (if c = i then p else p.map (·.add (i * 6))) (j - i) (c - i)) ((l.take j).drop i):=by
 have hl : ((l.take j).drop i).length = j - i:=J6
 have hnc : n ≤ c:=by obtain ⟨p',c',h1,h2,_⟩:=h;cases h1;exact h2
 have hn:=h.len
 by_cases hc : c = i
 · have h0 : (l.take j).drop i = []:=List.eq_nil_of_length_eq_zero (by rw [hl];omega)
   rw [if_pos hc]
   exact ⟨p,c - i,by rw [hl],by rw [hl];omega,.inl h0⟩
 · rw [if_neg hc]
   cases p with
   | none =>
     obtain ⟨p',c',h1,h2,h3⟩:=h
     cases h1
     rcases h3 with h3 | ⟨b,off,h4,_⟩
     · exact ⟨none,c - i,by rw [hl];rfl,by rw [hl];omega,.inl (by rw [h3];simp)⟩
     · cases h4
   | some a =>
     obtain ⟨p',c',h1,h2,h3⟩:=h
     cases h1
     rcases h3 with h3 | ⟨b,off,h4,h5,h6⟩
     · exact ⟨_,c - i,by rw [hl],by rw [hl];omega,.inl (by rw [h3];simp)⟩
     · cases h4
       have:=RdKn.part (W:=W) (b:=b) (off:=off) (n:=l.length) (c:=c) (l:=l) ⟨_,c,rfl,h2,.inr ⟨b,off,rfl,h5,h6⟩⟩ i j hij hj
       simp only [Option.map_some,Addr.add_lit]
       exact this
theorem sl_lo (p : Option Addr) (n c i : Nat) (h : i ≤ n) : ∃ p',(∀ w,(Instr.sliceAt 22 (.slice p n c) (some (.int .i64 (i : Int))) none none).run Tryz.prog w = .ok (.slice p' (n - i) (c - i)) w) ∧ (∀ W l,RdKn W (.slice p n c) l → RdKn W (.slice p' (n - i) (c - i)) (l.drop i)):=by
 refine ⟨if c = i then p else p.map (·.add (i * 6)),fun w=>?_,fun W l hr=>?_⟩
 · have hu : Tryz.prog.underlying 22 = some (.slice (Tryz.prog.elem 22)):=by rw [elemK];exact Tryz.underlying22
   rw [run_sliceAt_slice _ _ _ _ _ _ hu,run_slice_l _ _ _ _ _ hu .i64 (i : Int) J2 J2,elemK,sizeK]
   simp [Result.andThen,sliced]
 · have hn:=hr.len
   have:=hr.sub i l.length J2 nrf
   rw [List.take_length,← hn] at this
   exact this
theorem sl_hi (p : Option Addr) (n c i : Nat) (h : i ≤ n) (hc : n ≤ c) : ∃ p',(∀ w,(Instr.sliceAt 22 (.slice p n c) none (some (.int .i64 (i : Int))) none).run Tryz.prog w = .ok (.slice p' i c) w) ∧ (∀ W l,RdKn W (.slice p n c) l → RdKn W (.slice p' i c) (l.take i)):=by
 refine ⟨if c = 0 then p else p.map (·.add (0 * 6)),fun w=>?_,fun W l hr=>?_⟩
 · have hu : Tryz.prog.underlying 22 = some (.slice (Tryz.prog.elem 22)):=by rw [elemK];exact Tryz.underlying22
   rw [run_sliceAt_slice _ _ _ _ _ _ hu,run_slice_h _ _ _ _ _ hu .i64 (i : Int) J2 J2,elemK,sizeK]
   simp [Result.andThen,sliced]
 · have hn:=hr.len
   have:=hr.sub 0 i J2 J2
   simpa using this
def DPut (W : World) (d : Nat) (L : List Kn) (e : Ending) (w' : World) : Prop :=
 e = .returned (.tuple #[]) ∧ ∃ p c,DBr w' d p c L ∧ (∀ a,p = some a → W.heap.size ≤ a.block) ∧ ExtB d W w'
theorem top6 {W : World} {x : Kn} {T : TypeId} : ∀ j u,(cK x)[j]? = some u → (W.alloc (.cells #[.int .i64 x.r,.int .i64 x.c,.int .i64 x.v.k,.int .i64 x.v.n,.string x.v.s,.int .i64 x.v.e] T)).cell? ⟨W.heap.size,j,none⟩ = some u:=by
 intro j u hu
 match j,hu with
 | 0,hu=>simp [cK] at hu;subst hu;simp [go_sem]
 | 1,hu=>simp [cK] at hu;subst hu;simp [go_sem]
 | 2,hu=>simp [cK] at hu;subst hu;simp [go_sem]
 | 3,hu=>simp [cK] at hu;subst hu;simp [go_sem]
 | 4,hu=>simp [cK] at hu;subst hu;simp [go_sem]
 | 5,hu=>simp [cK] at hu;subst hu;simp [go_sem]
 | j + 6,hu=>simp [cK] at hu
theorem Ext.Bd {d : Nat} {W w : World} (h : Ext W w) (u : Value) : ExtB d W (w.setCell ⟨d,0,none⟩ u):=by
 refine (h.toB d).trans ⟨rfl,rfl,rfl,by simp [World.setCell],fun k _ hk=>?_⟩
 exact Below.heap_setCell _ _ _ _ hk
theorem dput_end {W w : World} {d cp base n : Nat} {p : Option Addr} {L L' : List Kn} {v : Value} (hD : DBr W d p cp L) (e : Ext W w) (o : w.ownsRow base 35 6 v n (L'.flatMap cK)) (hn : n = L'.length) (hb : W.heap.size ≤ base) :
   DPut W d L' (.returned (.tuple #[])) (w.setCell ⟨d,0,none⟩ v):=by
 subst hn
 have hD':=hD.ext e
 obtain ⟨p',c',rfl,hc⟩:=own_form o
 have hfar : ∀ a,p' = some a → base ≤ a.block ∧ a.block < w.heap.size:=fun a ha=>by
   subst ha
   exact o.lt a.block rfl
 have hne : ∀ a,p' = some a → a.block ≠ d:=fun a ha h=>by have:=(hfar a ha).1;have:=hD.lt;omega
 refine ⟨rfl,p',c',⟨by simpa [World.setCell] using hD'.lt,wSa _ ⟨d,0,none⟩ _ (by rw [hD'.cell]),by rw [wFz];exact hD'.fz,?_,fun a ha=>⟨by simpa [World.setCell] using (hfar a ha).2,hne a ha⟩⟩,fun a ha=>Nat.le_trans hb (hfar a ha).1,e.Bd _⟩
 exact (own_rdK o rfl).keep (by simp [World.setCell]) (fun a ha _=>Below.heap_setCell _ _ _ _ (hne a ha))
theorem own_newK {T : TypeId} {k b : Nat} (w W : World) (hb : b = W.heap.size) (h : w.heap.size ≤ W.heap.size) : (W.alloc (.cells #[] T)).ownsRow w.heap.size T k (.slice (some ⟨b,0,none⟩) 0 0) 0 []:=by subst hb;exact own_new w W h
theorem kn_app {ops : Array Oper} {rest : List Oper} {o : Oper} {a : Act} {Q : Exit → Act → World → Prop} (W WA : World) (s x : Operand) (ov va : Value) (l m : List Kn) (N K base : Nat) (hgd : o.guard = none)
   (ho : o.op = .call { callee:=.builtin .append,args:=#[s,x],argTypes:=#[22,22] }) (hs : a.eval s = ov) (hx : a.eval x = va) (hN : l.length = N) (hK : m.length = K)
   (hB : WA.ownsRow base 35 6 ov N (l.flatMap cK)) (hR : RdKn WA va m) (e : Ext W WA) (hb : W.heap.size ≤ base) (hb2 : base ≤ WA.heap.size) (hl : N + K ≤ 10000)
   (h : ∀ pv c W',W'.ownsRow base 35 6 (.slice pv (N + K) c) (N + K) ((l ++ m).flatMap cK) → Ext W W' → WA.grownBy W' ov.ownBlock → wpList Tryz.prog ops Q rest (a.put o.dst (.slice pv (N + K) c)) W') :
   wpList Tryz.prog ops Q (o :: rest) a WA:=by
 subst hN hK
 refine own_app eltK WA W s x ov va l.length m.length (l.flatMap cK) (m.flatMap cK) base hgd ho hs hx hB hR.row (cK_one m) J28 J2 e hb hb2 ?_
 intro v' W' k1 k2 k3
 obtain ⟨pv,c,rfl,_⟩:=own_form k1
 refine h pv c W' ?_ k2 k3
 rw [List.flatMap_append]
 exact k1
theorem RdKn.one {W : World} {g : Nat} {x : Kn} (hg : g < W.heap.size) (h : ∀ j u,(cK x)[j]? = some u → W.cell? ⟨g,j,none⟩ = some u) : RdKn W (.slice (some ⟨g,0,none⟩) 1 1) [x]:=by
 refine ⟨_,1,rfl,Nat.le_refl _,.inr ⟨g,0,rfl,hg,fun i y j u hi hj=>?_⟩⟩
 cases i with
 | zero=>simp at hi;subst hi;simpa using h j u hj
 | succ i=>simp at hi
theorem dput_out (W : World) (d cp : Nat) (p : Option Addr) (L : List Kn) (h : DBr W d p cp L) (r c k nn : Int) (s : ByteArray) (e : Int) (hi : inB r c = false) :
   Calls Tryz.prog 27 #[.pointer (some ⟨d,0,none⟩),.int .i64 r,.int .i64 c,.agg #[.int .i64 k,.int .i64 nn,.string s,.int .i64 e]] W fun e w'=>e = .returned (.tuple #[]) ∧ DBr w' d p cp L ∧ Ext W w':=by
 have c1:=fun W=>rin_any r c W
 rw [hi] at c1
 have HD : Hid (DBr W d p cp L):=h
 clear h hi
 go_enter func27,ntmps27
 go_wp2_with fail
 refine (c1 _).mono ?_
 rintro e w1 ⟨rfl,rfl⟩
 go_wp2_with fail
 refine bodyPost_ret (v:=.tuple #[]) J41 rfl ?_
 exact ⟨rfl,HD.out.ext (xr.alloc _),xr.alloc _⟩
theorem dput_sb (W : World) (d cp : Nat) (p : Option Addr) (L : List Kn) (h : DBr W d p cp L) (hl : L.length ≤ 1000) (r c k nn : Int) (s : ByteArray) (e : Int) (hi : inB r c = true) (v : V) (hv : nm k nn s e = v) (hs : atB r c L = true) (hk : v.k = 0) :
   Calls Tryz.prog 27 #[.pointer (some ⟨d,0,none⟩),.int .i64 r,.int .i64 c,.agg #[.int .i64 k,.int .i64 nn,.string s,.int .i64 e]] W (DPut W d (putL L r c v)):=by
 have c1:=fun W=>rin_any r c W
 have hput : putL L r c v = L.take (atI r c L) ++ [] ++ (L.drop (atI r c L)).drop 1:=by
   unfold putL newL
   rw [if_pos hi,hs,if_pos hk]
   simp
 rw [hi] at c1
 have c2:=fun W'=>rnormal_any k nn s e W'
 rw [hv,dat_eq] at c2
 have c3:=fun W' (e : Ext W W')=>at_any W' d cp p L (h.ext e) J2 r c
 obtain ⟨n,hn⟩ : ∃ n,L.length = n:=⟨_,rfl⟩
 have hin : atI r c L ≤ n:=J101
 have hlt : atI r c L < n:=by rw [← hn];exact atB_lt hs
 rw [hput]
 generalize atI r c L = i at *
 rw [hs] at c3
 have hD:=h
 have hcp : n ≤ cp:=by obtain ⟨_,_,h1,h2,_⟩:=h.rd;cases h1;omega
 obtain ⟨p1,hr1,hp1⟩:=sl_lo p n cp i hin
 obtain ⟨p3,hr3,hp3⟩:=sl_hi p n cp i hin hcp
 obtain ⟨p2,hr2,hp2⟩:=sl_lo p1 (n - i) (cp - i) 1 J2
 have HD : Hid (DBr W d p cp L ∧ L.length = n):=⟨h,hn⟩
 have HP : Hid ((∀ W l,RdKn W (.slice p n cp) l → RdKn W (.slice p2 (n - i - 1) (cp - i - 1)) ((l.drop i).drop 1)) ∧ (∀ W l,RdKn W (.slice p n cp) l → RdKn W (.slice p3 i cp) (l.take i))):=⟨(fun W l h=>hp2 W _ (hp1 W l h)),hp3⟩
 have HR1 : Hid _:=hr1
 have HR3 : Hid _:=hr3
 have HR2 : Hid _:=hr2
 have HN : Hid (i ≤ n ∧ n ≤ 1000 ∧ n ≤ cp ∧ i < n):=⟨hin,by omega,hcp,hlt⟩
 obtain ⟨vk,vn,vs,ve,q1,q2,q3,q4⟩ : ∃ vk vn vs ve,v.k = vk ∧ v.n = vn ∧ v.s = vs ∧ v.e = ve:=⟨_,_,_,_,rfl,rfl,rfl,rfl⟩
 have HVV : Hid (v.k = vk ∧ v.n = vn ∧ v.s = vs ∧ v.e = ve):=⟨q1,q2,q3,q4⟩
 rw [q1,q2,q3,q4] at c2
 rw [q1] at hk
 have k0 : (vk != 0) = false:=J102
 clear h hi hv hk hs hD hp1 hp3 hr1 hr3 hin hcp hn hl hput q1 q2 q3 q4 hp2 hr2 hlt
 go_enter func27,ntmps27
 go_wp2_with fail
 refine (c1 _).mono ?_
 rintro e w1 ⟨rfl,rfl⟩
 go_wp2_with fail
 refine (c2 _).mono ?_
 rintro e w1 ⟨rfl,E1⟩
 have B1:=blk_top (b:=W.heap.size) J60 E1
 have X1 : Hid (Ext W w1):=(xr.alloc _).trans E1
 have D0:=B1
 obtain ⟨b0z,⟨b0_0,b0_1,b0_2,b0_3⟩,b0f0,b0f1,b0f2,b0f3⟩:=D0
 clear c1 c2 E1
 go_wp2_with fail
 refine (c3 _ (by exact (((X1.out.setCell J60 _).setCell J60 _).setCell J60 _).setCell J60 _)).mono ?_
 rintro e w2 ⟨rfl,E2⟩
 have X2 : Hid (Ext W w2):=((((X1.out.setCell J60 _).setCell J60 _).setCell J60 _).setCell J60 _).trans E2
 have B2:=(B1.set _ _ _ _).ext E2
 have dc:=(HD.out.1.ext X2.out).cell
 rw [HD.out.2] at dc
 have df:=(HD.out.1.ext X2.out).fz
 have dl:=(HD.out.1.ext X2.out).lt
 have D2:=B2
 obtain ⟨zV,⟨v0,v1,v2,v3⟩,g0,g1,g2,g3⟩:=D2
 clear E2 b0z b0_0 b0_1 b0_2 b0_3 b0f0 b0f1 b0f2 b0f3 B1 X1 c3
 have HX3 : Hid (Ext W (w2.alloc (.cells #[] 35))):=X2.out.alloc _
 have HO3 : Hid ((w2.alloc (.cells #[] 35)).ownsRow w2.heap.size 35 6 (.slice (some ⟨w2.heap.size,0,none⟩) 0 0) 0 (([] : List Kn).flatMap cK)):=own_newK w2 w2 rfl nrf
 have HRD : Hid (∀ W',Ext W W' → RdKn W' (.slice p n cp) L):=fun W' e=>by
   exact K111
 have HK3 : Hid (RdKn (w2.alloc (.cells #[] 35)) (.slice p3 i cp) (L.take i)):=HP.out.2 _ L (HRD.out _ HX3.out)
 have HL3 : Hid ((L.take i).length = i):=by
   exact K102
 have HS3 : Hid (w2.heap.size ≤ (w2.alloc (.cells #[] 35)).heap.size ∧ W.heap.size ≤ w2.heap.size):=⟨by simp,X2.out.size⟩
 go_upto_region 8 with (first
   | (refine wpList_sl _ rfl _ _ _ _ rfl (.slice p n cp) _ (some (.int .i64 (i : Int))) none J25 J25 J25 (HR1.out _) ?_)
   | (refine wpList_sl _ rfl _ _ _ _ rfl (.slice p n cp) _ none (some (.int .i64 (i : Int))) J25 J25 J25 (HR3.out _) ?_)
   | (refine wpList_sl _ rfl _ _ _ _ rfl (.slice p1 (n - i) (cp - i)) _ (some (.int .i64 ((1 : Nat) : Int))) none J25 J25 J25 (HR2.out _) ?_)
   | (at_builtin;refine kn_app W _ _ _ _ _ [] (L.take i) 0 i w2.heap.size rfl rfl J25 J25 rfl HL3.out HO3.out HK3.out HX3.out HS3.out.2 HS3.out.1 (by have:=HN.out;omega) ?_;intro pv4 c4 w4 o4 e4 g4;have H4 : Hid (w4.ownsRow w2.heap.size 35 6 (.slice pv4 i c4) i ((L.take i).flatMap cK) ∧ Ext W w4 ∧ w2.heap.size ≤ w4.heap.size):=⟨(by simpa using o4),e4,Nat.le_trans J60 g4.size⟩;have B4:=(B2.al (.cells #[] 35)).grown g4 (by intro q;simp [Value.ownBlock] at q;omega);have dc4:=(HD.out.1.ext e4).cell;rw [HD.out.2] at dc4;have df4:=(HD.out.1.ext e4).fz;clear o4 e4 g4))
 clear dc df dl zV v0 v1 v2 v3 g0 g1 g2 g3 B2 HO3 HK3 HX3 HR1 HR3 HR2
 obtain ⟨zV,⟨v0,v1,v2,v3⟩,g0,g1,g2,g3⟩:=B4
 have HLB : Hid (((L.drop i).drop 1).length = (n - i - 1)):=by
   exact K137
 go_wp2_with (at_builtin;refine kn_app W _ _ _ _ _ (L.take i) ((L.drop i).drop 1) i (n - i - 1) w2.heap.size rfl rfl J25 J25 HL3.out HLB.out H4.out.1 (HP.out.1 _ L (HRD.out _ H4.out.2.1)) H4.out.2.1 HS3.out.2 H4.out.2.2 (by have:=HN.out;omega) ?_;intro pv6 c6 w6 o6 e6 g6;have H6 : Hid (w6.ownsRow w2.heap.size 35 6 (.slice pv6 (i + (n - i - 1)) c6) (i + (n - i - 1)) ((L.take i ++ ((L.drop i).drop 1)).flatMap cK) ∧ Ext W w6):=⟨o6,e6⟩;have dc6:=(HD.out.1.ext e6).cell;rw [HD.out.2] at dc6;have df6:=(HD.out.1.ext e6).fz;clear o6 e6 g6)
 exact K106
theorem dput_sv (W : World) (d cp : Nat) (p : Option Addr) (L : List Kn) (h : DBr W d p cp L) (hl : L.length ≤ 1000) (r c k nn : Int) (s : ByteArray) (e : Int) (hi : inB r c = true) (v : V) (hv : nm k nn s e = v) (hs : atB r c L = true) (hk : v.k ≠ 0) :
   Calls Tryz.prog 27 #[.pointer (some ⟨d,0,none⟩),.int .i64 r,.int .i64 c,.agg #[.int .i64 k,.int .i64 nn,.string s,.int .i64 e]] W (DPut W d (putL L r c v)):=by
 have c1:=fun W=>rin_any r c W
 have hput : putL L r c v = L.take (atI r c L) ++ [⟨r,c,v.rw⟩] ++ (L.drop (atI r c L)).drop 1:=by
   unfold putL newL
   rw [if_pos hi,hs,if_neg hk]
   simp
 rw [hi] at c1
 have c2:=fun W'=>rnormal_any k nn s e W'
 rw [hv,dat_eq] at c2
 have c3:=fun W' (e : Ext W W')=>at_any W' d cp p L (h.ext e) J2 r c
 obtain ⟨n,hn⟩ : ∃ n,L.length = n:=⟨_,rfl⟩
 have hin : atI r c L ≤ n:=J101
 have hlt : atI r c L < n:=by rw [← hn];exact atB_lt hs
 rw [hput]
 generalize atI r c L = i at *
 rw [hs] at c3
 have hD:=h
 have hcp : n ≤ cp:=by obtain ⟨_,_,h1,h2,_⟩:=h.rd;cases h1;omega
 obtain ⟨p1,hr1,hp1⟩:=sl_lo p n cp i hin
 obtain ⟨p3,hr3,hp3⟩:=sl_hi p n cp i hin hcp
 obtain ⟨p2,hr2,hp2⟩:=sl_lo p1 (n - i) (cp - i) 1 J2
 have HD : Hid (DBr W d p cp L ∧ L.length = n):=⟨h,hn⟩
 have HP : Hid ((∀ W l,RdKn W (.slice p n cp) l → RdKn W (.slice p2 (n - i - 1) (cp - i - 1)) ((l.drop i).drop 1)) ∧ (∀ W l,RdKn W (.slice p n cp) l → RdKn W (.slice p3 i cp) (l.take i))):=⟨(fun W l h=>hp2 W _ (hp1 W l h)),hp3⟩
 have HR1 : Hid _:=hr1
 have HR3 : Hid _:=hr3
 have HR2 : Hid _:=hr2
 have HN : Hid (i ≤ n ∧ n ≤ 1000 ∧ n ≤ cp ∧ i < n):=⟨hin,by omega,hcp,hlt⟩
 obtain ⟨vk,vn,vs,ve,q1,q2,q3,q4⟩ : ∃ vk vn vs ve,v.k = vk ∧ v.n = vn ∧ v.s = vs ∧ v.e = ve:=⟨_,_,_,_,rfl,rfl,rfl,rfl⟩
 have HVV : Hid (v.k = vk ∧ v.n = vn ∧ v.s = vs ∧ v.e = ve):=⟨q1,q2,q3,q4⟩
 rw [q1,q2,q3,q4] at c2
 rw [q1] at hk
 have k0 : (vk != 0) = true:=J102
 clear h hi hv hk hs hD hp1 hp3 hr1 hr3 hin hcp hn hl hput q1 q2 q3 q4 hp2 hr2 hlt
 go_enter func27,ntmps27
 go_wp2_with fail
 refine (c1 _).mono ?_
 rintro e w1 ⟨rfl,rfl⟩
 go_wp2_with fail
 refine (c2 _).mono ?_
 rintro e w1 ⟨rfl,E1⟩
 have B1:=blk_top (b:=W.heap.size) J60 E1
 have X1 : Hid (Ext W w1):=(xr.alloc _).trans E1
 have D0:=B1
 obtain ⟨b0z,⟨b0_0,b0_1,b0_2,b0_3⟩,b0f0,b0f1,b0f2,b0f3⟩:=D0
 clear c1 c2 E1
 go_wp2_with fail
 refine (c3 _ (by exact (((X1.out.setCell J60 _).setCell J60 _).setCell J60 _).setCell J60 _)).mono ?_
 rintro e w2 ⟨rfl,E2⟩
 have X2 : Hid (Ext W w2):=((((X1.out.setCell J60 _).setCell J60 _).setCell J60 _).setCell J60 _).trans E2
 have B2:=(B1.set _ _ _ _).ext E2
 have dc:=(HD.out.1.ext X2.out).cell
 rw [HD.out.2] at dc
 have df:=(HD.out.1.ext X2.out).fz
 have dl:=(HD.out.1.ext X2.out).lt
 have D2:=B2
 obtain ⟨zV,⟨v0,v1,v2,v3⟩,g0,g1,g2,g3⟩:=D2
 clear E2 b0z b0_0 b0_1 b0_2 b0_3 b0f0 b0f1 b0f2 b0f3 B1 X1 c3
 have HX3 : Hid (Ext W (w2.alloc (.cells #[] 35))):=X2.out.alloc _
 have HO3 : Hid ((w2.alloc (.cells #[] 35)).ownsRow w2.heap.size 35 6 (.slice (some ⟨w2.heap.size,0,none⟩) 0 0) 0 (([] : List Kn).flatMap cK)):=own_newK w2 w2 rfl nrf
 have HRD : Hid (∀ W',Ext W W' → RdKn W' (.slice p n cp) L):=fun W' e=>by
   exact K111
 have HK3 : Hid (RdKn (w2.alloc (.cells #[] 35)) (.slice p3 i cp) (L.take i)):=HP.out.2 _ L (HRD.out _ HX3.out)
 have HL3 : Hid ((L.take i).length = i):=by
   exact K102
 have HS3 : Hid (w2.heap.size ≤ (w2.alloc (.cells #[] 35)).heap.size ∧ W.heap.size ≤ w2.heap.size):=⟨by simp,X2.out.size⟩
 go_upto_region 8 with (first
   | (refine wpList_sl _ rfl _ _ _ _ rfl (.slice p n cp) _ (some (.int .i64 (i : Int))) none J25 J25 J25 (HR1.out _) ?_)
   | (refine wpList_sl _ rfl _ _ _ _ rfl (.slice p n cp) _ none (some (.int .i64 (i : Int))) J25 J25 J25 (HR3.out _) ?_)
   | (refine wpList_sl _ rfl _ _ _ _ rfl (.slice p1 (n - i) (cp - i)) _ (some (.int .i64 ((1 : Nat) : Int))) none J25 J25 J25 (HR2.out _) ?_)
   | (at_builtin;refine kn_app W _ _ _ _ _ [] (L.take i) 0 i w2.heap.size rfl rfl J25 J25 rfl HL3.out HO3.out HK3.out HX3.out HS3.out.2 HS3.out.1 (by have:=HN.out;omega) ?_;intro pv4 c4 w4 o4 e4 g4;have H4 : Hid (w4.ownsRow w2.heap.size 35 6 (.slice pv4 i c4) i ((L.take i).flatMap cK) ∧ Ext W w4 ∧ w2.heap.size ≤ w4.heap.size):=⟨(by simpa using o4),e4,Nat.le_trans J60 g4.size⟩;have B4:=(B2.al (.cells #[] 35)).grown g4 (by intro q;simp [Value.ownBlock] at q;omega);have dc4:=(HD.out.1.ext e4).cell;rw [HD.out.2] at dc4;have df4:=(HD.out.1.ext e4).fz;clear o4 e4 g4))
 clear dc df dl zV v0 v1 v2 v3 g0 g1 g2 g3 B2 HO3 HK3 HX3 HR1 HR3 HR2
 obtain ⟨zV,⟨v0,v1,v2,v3⟩,g0,g1,g2,g3⟩:=B4
 have HLB : Hid (((L.drop i).drop 1).length = (n - i - 1)):=by
   exact K137
 have HO4 : Hid ((w4.alloc (.cells #[.int .i64 r,.int .i64 c,.int .i64 vk,.int .i64 vn,.string vs,.int .i64 ve] 35)).ownsRow w2.heap.size 35 6 (.slice pv4 i c4) i ((L.take i).flatMap cK)):=ownsRow_ext H4.out.1 (xr.alloc _)
 have HK4 : Hid (RdKn (w4.alloc (.cells #[.int .i64 r,.int .i64 c,.int .i64 vk,.int .i64 vn,.string vs,.int .i64 ve] 35)) (.slice (some ⟨w4.heap.size,0,none⟩) 1 1) [⟨r,c,⟨vk,vn,vs,ve⟩⟩]):=RdKn.one (x:=⟨r,c,⟨vk,vn,vs,ve⟩⟩) J60 (top6 (x:=⟨r,c,⟨vk,vn,vs,ve⟩⟩))
 have HX4 : Hid (Ext W (w4.alloc (.cells #[.int .i64 r,.int .i64 c,.int .i64 vk,.int .i64 vn,.string vs,.int .i64 ve] 35)) ∧ w2.heap.size ≤ (w4.alloc (.cells #[.int .i64 r,.int .i64 c,.int .i64 vk,.int .i64 vn,.string vs,.int .i64 ve] 35)).heap.size):=⟨H4.out.2.1.alloc _,Nat.le_trans H4.out.2.2 J60⟩
 go_wp2_with (first | (at_builtin;refine kn_app W _ _ _ (.slice pv4 i c4) (.slice (some ⟨w4.heap.size,0,none⟩) 1 1) (L.take i) [⟨r,c,⟨vk,vn,vs,ve⟩⟩] i 1 w2.heap.size rfl rfl J25 J25 HL3.out rfl HO4.out HK4.out HX4.out.1 HS3.out.2 HX4.out.2 (by have:=HN.out;omega) ?_;intro pv5 c5 w5 o5 e5 g5;have H5 : Hid (w5.ownsRow w2.heap.size 35 6 (.slice pv5 (i + 1) c5) (i + 1) ((L.take i ++ ([⟨r,c,⟨vk,vn,vs,ve⟩⟩] : List Kn)).flatMap cK) ∧ Ext W w5 ∧ w2.heap.size ≤ w5.heap.size):=⟨o5,e5,Nat.le_trans HX4.out.2 g5.size⟩;have dc5:=(HD.out.1.ext e5).cell;rw [HD.out.2] at dc5;have df5:=(HD.out.1.ext e5).fz;clear o5 e5 g5 zV v0 v1 v2 v3 g0 g1 g2 g3 dc4 df4) | (at_builtin;refine kn_app W _ _ _ (.slice pv5 (i + 1) c5) _ (L.take i ++ ([⟨r,c,⟨vk,vn,vs,ve⟩⟩] : List Kn)) ((L.drop i).drop 1) (i + 1) (n - i - 1) w2.heap.size rfl rfl J25 J25 (by rw [List.length_append,HL3.out];rfl) HLB.out H5.out.1 (HP.out.1 _ L (HRD.out _ H5.out.2.1)) H5.out.2.1 HS3.out.2 H5.out.2.2 (by have:=HN.out;omega) ?_;intro pv6 c6 w6 o6 e6 g6;have H6 : Hid (w6.ownsRow w2.heap.size 35 6 (.slice pv6 (i + 1 + (n - i - 1)) c6) (i + 1 + (n - i - 1)) ((L.take i ++ ([⟨r,c,⟨vk,vn,vs,ve⟩⟩] : List Kn) ++ ((L.drop i).drop 1)).flatMap cK) ∧ Ext W w6):=⟨o6,e6⟩;have dc6:=(HD.out.1.ext e6).cell;rw [HD.out.2] at dc6;have df6:=(HD.out.1.ext e6).fz;clear o6 e6 g6))
 exact K70
theorem dput_nb (W : World) (d cp : Nat) (p : Option Addr) (L : List Kn) (h : DBr W d p cp L) (hl : L.length ≤ 1000) (r c k nn : Int) (s : ByteArray) (e : Int) (hi : inB r c = true) (v : V) (hv : nm k nn s e = v) (hs : atB r c L = false) (hk : v.k = 0) :
   Calls Tryz.prog 27 #[.pointer (some ⟨d,0,none⟩),.int .i64 r,.int .i64 c,.agg #[.int .i64 k,.int .i64 nn,.string s,.int .i64 e]] W (DPut W d (putL L r c v)):=by
 have c1:=fun W=>rin_any r c W
 have hput : putL L r c v = L.take (atI r c L) ++ [] ++ L.drop (atI r c L):=by
   unfold putL newL
   rw [if_pos hi,hs,if_pos hk]
   simp
 rw [hi] at c1
 have c2:=fun W'=>rnormal_any k nn s e W'
 rw [hv,dat_eq] at c2
 have c3:=fun W' (e : Ext W W')=>at_any W' d cp p L (h.ext e) J2 r c
 obtain ⟨n,hn⟩ : ∃ n,L.length = n:=⟨_,rfl⟩
 have hin : atI r c L ≤ n:=J101
 rw [hput]
 generalize atI r c L = i at *
 rw [hs] at c3
 have hD:=h
 have hcp : n ≤ cp:=by obtain ⟨_,_,h1,h2,_⟩:=h.rd;cases h1;omega
 obtain ⟨p1,hr1,hp1⟩:=sl_lo p n cp i hin
 obtain ⟨p3,hr3,hp3⟩:=sl_hi p n cp i hin hcp
 have HD : Hid (DBr W d p cp L ∧ L.length = n):=⟨h,hn⟩
 have HP : Hid ((∀ W l,RdKn W (.slice p n cp) l → RdKn W (.slice p1 (n - i) (cp - i)) (l.drop i)) ∧ (∀ W l,RdKn W (.slice p n cp) l → RdKn W (.slice p3 i cp) (l.take i))):=⟨hp1,hp3⟩
 have HR1 : Hid _:=hr1
 have HR3 : Hid _:=hr3
 have HN : Hid (i ≤ n ∧ n ≤ 1000 ∧ n ≤ cp):=⟨hin,by omega,hcp⟩
 obtain ⟨vk,vn,vs,ve,q1,q2,q3,q4⟩ : ∃ vk vn vs ve,v.k = vk ∧ v.n = vn ∧ v.s = vs ∧ v.e = ve:=⟨_,_,_,_,rfl,rfl,rfl,rfl⟩
 have HVV : Hid (v.k = vk ∧ v.n = vn ∧ v.s = vs ∧ v.e = ve):=⟨q1,q2,q3,q4⟩
 rw [q1,q2,q3,q4] at c2
 rw [q1] at hk
 have k0 : (vk != 0) = false:=J102
 clear h hi hv hk hs hD hp1 hp3 hr1 hr3 hin hcp hn hl hput q1 q2 q3 q4
 go_enter func27,ntmps27
 go_wp2_with fail
 refine (c1 _).mono ?_
 rintro e w1 ⟨rfl,rfl⟩
 go_wp2_with fail
 refine (c2 _).mono ?_
 rintro e w1 ⟨rfl,E1⟩
 have B1:=blk_top (b:=W.heap.size) J60 E1
 have X1 : Hid (Ext W w1):=(xr.alloc _).trans E1
 have D0:=B1
 obtain ⟨b0z,⟨b0_0,b0_1,b0_2,b0_3⟩,b0f0,b0f1,b0f2,b0f3⟩:=D0
 clear c1 c2 E1
 go_wp2_with fail
 refine (c3 _ (by exact (((X1.out.setCell J60 _).setCell J60 _).setCell J60 _).setCell J60 _)).mono ?_
 rintro e w2 ⟨rfl,E2⟩
 have X2 : Hid (Ext W w2):=((((X1.out.setCell J60 _).setCell J60 _).setCell J60 _).setCell J60 _).trans E2
 have B2:=(B1.set _ _ _ _).ext E2
 have dc:=(HD.out.1.ext X2.out).cell
 rw [HD.out.2] at dc
 have df:=(HD.out.1.ext X2.out).fz
 have dl:=(HD.out.1.ext X2.out).lt
 have D2:=B2
 obtain ⟨zV,⟨v0,v1,v2,v3⟩,g0,g1,g2,g3⟩:=D2
 clear E2 b0z b0_0 b0_1 b0_2 b0_3 b0f0 b0f1 b0f2 b0f3 B1 X1 c3
 have HX3 : Hid (Ext W (w2.alloc (.cells #[] 35))):=X2.out.alloc _
 have HO3 : Hid ((w2.alloc (.cells #[] 35)).ownsRow w2.heap.size 35 6 (.slice (some ⟨w2.heap.size,0,none⟩) 0 0) 0 (([] : List Kn).flatMap cK)):=own_newK w2 w2 rfl nrf
 have HRD : Hid (∀ W',Ext W W' → RdKn W' (.slice p n cp) L):=fun W' e=>by
   exact K111
 have HK3 : Hid (RdKn (w2.alloc (.cells #[] 35)) (.slice p3 i cp) (L.take i)):=HP.out.2 _ L (HRD.out _ HX3.out)
 have HL3 : Hid ((L.take i).length = i):=by
   exact K102
 have HS3 : Hid (w2.heap.size ≤ (w2.alloc (.cells #[] 35)).heap.size ∧ W.heap.size ≤ w2.heap.size):=⟨by simp,X2.out.size⟩
 go_upto_region 8 with (first
   | (refine wpList_sl _ rfl _ _ _ _ rfl (.slice p n cp) _ (some (.int .i64 (i : Int))) none J25 J25 J25 (HR1.out _) ?_)
   | (refine wpList_sl _ rfl _ _ _ _ rfl (.slice p n cp) _ none (some (.int .i64 (i : Int))) J25 J25 J25 (HR3.out _) ?_)
   | (at_builtin;refine kn_app W _ _ _ _ _ [] (L.take i) 0 i w2.heap.size rfl rfl J25 J25 rfl HL3.out HO3.out HK3.out HX3.out HS3.out.2 HS3.out.1 (by have:=HN.out;omega) ?_;intro pv4 c4 w4 o4 e4 g4;have H4 : Hid (w4.ownsRow w2.heap.size 35 6 (.slice pv4 i c4) i ((L.take i).flatMap cK) ∧ Ext W w4 ∧ w2.heap.size ≤ w4.heap.size):=⟨(by simpa using o4),e4,Nat.le_trans J60 g4.size⟩;have B4:=(B2.al (.cells #[] 35)).grown g4 (by intro q;simp [Value.ownBlock] at q;omega);have dc4:=(HD.out.1.ext e4).cell;rw [HD.out.2] at dc4;have df4:=(HD.out.1.ext e4).fz;clear o4 e4 g4))
 clear dc df dl zV v0 v1 v2 v3 g0 g1 g2 g3 B2 HO3 HK3 HX3 HR1 HR3
 obtain ⟨zV,⟨v0,v1,v2,v3⟩,g0,g1,g2,g3⟩:=B4
 have HLB : Hid ((L.drop i).length = (n - i)):=by
   exact K137
 go_wp2_with (at_builtin;refine kn_app W _ _ _ _ _ (L.take i) (L.drop i) i (n - i) w2.heap.size rfl rfl J25 J25 HL3.out HLB.out H4.out.1 (HP.out.1 _ L (HRD.out _ H4.out.2.1)) H4.out.2.1 HS3.out.2 H4.out.2.2 (by have:=HN.out;omega) ?_;intro pv6 c6 w6 o6 e6 g6;have H6 : Hid (w6.ownsRow w2.heap.size 35 6 (.slice pv6 (i + (n - i)) c6) (i + (n - i)) ((L.take i ++ (L.drop i)).flatMap cK) ∧ Ext W w6):=⟨o6,e6⟩;have dc6:=(HD.out.1.ext e6).cell;rw [HD.out.2] at dc6;have df6:=(HD.out.1.ext e6).fz;clear o6 e6 g6)
 exact K106
theorem dput_nv (W : World) (d cp : Nat) (p : Option Addr) (L : List Kn) (h : DBr W d p cp L) (hl : L.length ≤ 1000) (r c k nn : Int) (s : ByteArray) (e : Int) (hi : inB r c = true) (v : V) (hv : nm k nn s e = v) (hs : atB r c L = false) (hk : v.k ≠ 0) :
   Calls Tryz.prog 27 #[.pointer (some ⟨d,0,none⟩),.int .i64 r,.int .i64 c,.agg #[.int .i64 k,.int .i64 nn,.string s,.int .i64 e]] W (DPut W d (putL L r c v)):=by
 have c1:=fun W=>rin_any r c W
 have hput : putL L r c v = L.take (atI r c L) ++ [⟨r,c,v.rw⟩] ++ L.drop (atI r c L):=by
   unfold putL newL
   rw [if_pos hi,hs,if_neg hk]
   simp
 rw [hi] at c1
 have c2:=fun W'=>rnormal_any k nn s e W'
 rw [hv,dat_eq] at c2
 have c3:=fun W' (e : Ext W W')=>at_any W' d cp p L (h.ext e) J2 r c
 obtain ⟨n,hn⟩ : ∃ n,L.length = n:=⟨_,rfl⟩
 have hin : atI r c L ≤ n:=J101
 rw [hput]
 generalize atI r c L = i at *
 rw [hs] at c3
 have hD:=h
 have hcp : n ≤ cp:=by obtain ⟨_,_,h1,h2,_⟩:=h.rd;cases h1;omega
 obtain ⟨p1,hr1,hp1⟩:=sl_lo p n cp i hin
 obtain ⟨p3,hr3,hp3⟩:=sl_hi p n cp i hin hcp
 have HD : Hid (DBr W d p cp L ∧ L.length = n):=⟨h,hn⟩
 have HP : Hid ((∀ W l,RdKn W (.slice p n cp) l → RdKn W (.slice p1 (n - i) (cp - i)) (l.drop i)) ∧ (∀ W l,RdKn W (.slice p n cp) l → RdKn W (.slice p3 i cp) (l.take i))):=⟨hp1,hp3⟩
 have HR1 : Hid _:=hr1
 have HR3 : Hid _:=hr3
 have HN : Hid (i ≤ n ∧ n ≤ 1000 ∧ n ≤ cp):=⟨hin,by omega,hcp⟩
 obtain ⟨vk,vn,vs,ve,q1,q2,q3,q4⟩ : ∃ vk vn vs ve,v.k = vk ∧ v.n = vn ∧ v.s = vs ∧ v.e = ve:=⟨_,_,_,_,rfl,rfl,rfl,rfl⟩
 have HVV : Hid (v.k = vk ∧ v.n = vn ∧ v.s = vs ∧ v.e = ve):=⟨q1,q2,q3,q4⟩
 rw [q1,q2,q3,q4] at c2
 rw [q1] at hk
 have k0 : (vk != 0) = true:=J102
 clear h hi hv hk hs hD hp1 hp3 hr1 hr3 hin hcp hn hl hput q1 q2 q3 q4
 go_enter func27,ntmps27
 go_wp2_with fail
 refine (c1 _).mono ?_
 rintro e w1 ⟨rfl,rfl⟩
 go_wp2_with fail
 refine (c2 _).mono ?_
 rintro e w1 ⟨rfl,E1⟩
 have B1:=blk_top (b:=W.heap.size) J60 E1
 have X1 : Hid (Ext W w1):=(xr.alloc _).trans E1
 have D0:=B1
 obtain ⟨b0z,⟨b0_0,b0_1,b0_2,b0_3⟩,b0f0,b0f1,b0f2,b0f3⟩:=D0
 clear c1 c2 E1
 go_wp2_with fail
 refine (c3 _ (by exact (((X1.out.setCell J60 _).setCell J60 _).setCell J60 _).setCell J60 _)).mono ?_
 rintro e w2 ⟨rfl,E2⟩
 have X2 : Hid (Ext W w2):=((((X1.out.setCell J60 _).setCell J60 _).setCell J60 _).setCell J60 _).trans E2
 have B2:=(B1.set _ _ _ _).ext E2
 have dc:=(HD.out.1.ext X2.out).cell
 rw [HD.out.2] at dc
 have df:=(HD.out.1.ext X2.out).fz
 have dl:=(HD.out.1.ext X2.out).lt
 have D2:=B2
 obtain ⟨zV,⟨v0,v1,v2,v3⟩,g0,g1,g2,g3⟩:=D2
 clear E2 b0z b0_0 b0_1 b0_2 b0_3 b0f0 b0f1 b0f2 b0f3 B1 X1 c3
 have HX3 : Hid (Ext W (w2.alloc (.cells #[] 35))):=X2.out.alloc _
 have HO3 : Hid ((w2.alloc (.cells #[] 35)).ownsRow w2.heap.size 35 6 (.slice (some ⟨w2.heap.size,0,none⟩) 0 0) 0 (([] : List Kn).flatMap cK)):=own_newK w2 w2 rfl nrf
 have HRD : Hid (∀ W',Ext W W' → RdKn W' (.slice p n cp) L):=fun W' e=>by
   exact K111
 have HK3 : Hid (RdKn (w2.alloc (.cells #[] 35)) (.slice p3 i cp) (L.take i)):=HP.out.2 _ L (HRD.out _ HX3.out)
 have HL3 : Hid ((L.take i).length = i):=by
   exact K102
 have HS3 : Hid (w2.heap.size ≤ (w2.alloc (.cells #[] 35)).heap.size ∧ W.heap.size ≤ w2.heap.size):=⟨by simp,X2.out.size⟩
 go_upto_region 8 with (first
   | (refine wpList_sl _ rfl _ _ _ _ rfl (.slice p n cp) _ (some (.int .i64 (i : Int))) none J25 J25 J25 (HR1.out _) ?_)
   | (refine wpList_sl _ rfl _ _ _ _ rfl (.slice p n cp) _ none (some (.int .i64 (i : Int))) J25 J25 J25 (HR3.out _) ?_)
   | (at_builtin;refine kn_app W _ _ _ _ _ [] (L.take i) 0 i w2.heap.size rfl rfl J25 J25 rfl HL3.out HO3.out HK3.out HX3.out HS3.out.2 HS3.out.1 (by have:=HN.out;omega) ?_;intro pv4 c4 w4 o4 e4 g4;have H4 : Hid (w4.ownsRow w2.heap.size 35 6 (.slice pv4 i c4) i ((L.take i).flatMap cK) ∧ Ext W w4 ∧ w2.heap.size ≤ w4.heap.size):=⟨(by simpa using o4),e4,Nat.le_trans J60 g4.size⟩;have B4:=(B2.al (.cells #[] 35)).grown g4 (by intro q;simp [Value.ownBlock] at q;omega);have dc4:=(HD.out.1.ext e4).cell;rw [HD.out.2] at dc4;have df4:=(HD.out.1.ext e4).fz;clear o4 e4 g4))
 clear dc df dl zV v0 v1 v2 v3 g0 g1 g2 g3 B2 HO3 HK3 HX3 HR1 HR3
 obtain ⟨zV,⟨v0,v1,v2,v3⟩,g0,g1,g2,g3⟩:=B4
 have HLB : Hid ((L.drop i).length = (n - i)):=by
   exact K137
 have HO4 : Hid ((w4.alloc (.cells #[.int .i64 r,.int .i64 c,.int .i64 vk,.int .i64 vn,.string vs,.int .i64 ve] 35)).ownsRow w2.heap.size 35 6 (.slice pv4 i c4) i ((L.take i).flatMap cK)):=ownsRow_ext H4.out.1 (xr.alloc _)
 have HK4 : Hid (RdKn (w4.alloc (.cells #[.int .i64 r,.int .i64 c,.int .i64 vk,.int .i64 vn,.string vs,.int .i64 ve] 35)) (.slice (some ⟨w4.heap.size,0,none⟩) 1 1) [⟨r,c,⟨vk,vn,vs,ve⟩⟩]):=RdKn.one (x:=⟨r,c,⟨vk,vn,vs,ve⟩⟩) J60 (top6 (x:=⟨r,c,⟨vk,vn,vs,ve⟩⟩))
 have HX4 : Hid (Ext W (w4.alloc (.cells #[.int .i64 r,.int .i64 c,.int .i64 vk,.int .i64 vn,.string vs,.int .i64 ve] 35)) ∧ w2.heap.size ≤ (w4.alloc (.cells #[.int .i64 r,.int .i64 c,.int .i64 vk,.int .i64 vn,.string vs,.int .i64 ve] 35)).heap.size):=⟨H4.out.2.1.alloc _,Nat.le_trans H4.out.2.2 J60⟩
 go_wp2_with (first | (at_builtin;refine kn_app W _ _ _ (.slice pv4 i c4) (.slice (some ⟨w4.heap.size,0,none⟩) 1 1) (L.take i) [⟨r,c,⟨vk,vn,vs,ve⟩⟩] i 1 w2.heap.size rfl rfl J25 J25 HL3.out rfl HO4.out HK4.out HX4.out.1 HS3.out.2 HX4.out.2 (by have:=HN.out;omega) ?_;intro pv5 c5 w5 o5 e5 g5;have H5 : Hid (w5.ownsRow w2.heap.size 35 6 (.slice pv5 (i + 1) c5) (i + 1) ((L.take i ++ ([⟨r,c,⟨vk,vn,vs,ve⟩⟩] : List Kn)).flatMap cK) ∧ Ext W w5 ∧ w2.heap.size ≤ w5.heap.size):=⟨o5,e5,Nat.le_trans HX4.out.2 g5.size⟩;have dc5:=(HD.out.1.ext e5).cell;rw [HD.out.2] at dc5;have df5:=(HD.out.1.ext e5).fz;clear o5 e5 g5 zV v0 v1 v2 v3 g0 g1 g2 g3 dc4 df4) | (at_builtin;refine kn_app W _ _ _ (.slice pv5 (i + 1) c5) _ (L.take i ++ ([⟨r,c,⟨vk,vn,vs,ve⟩⟩] : List Kn)) (L.drop i) (i + 1) (n - i) w2.heap.size rfl rfl J25 J25 (by rw [List.length_append,HL3.out];rfl) HLB.out H5.out.1 (HP.out.1 _ L (HRD.out _ H5.out.2.1)) H5.out.2.1 HS3.out.2 H5.out.2.2 (by have:=HN.out;omega) ?_;intro pv6 c6 w6 o6 e6 g6;have H6 : Hid (w6.ownsRow w2.heap.size 35 6 (.slice pv6 (i + 1 + (n - i)) c6) (i + 1 + (n - i)) ((L.take i ++ ([⟨r,c,⟨vk,vn,vs,ve⟩⟩] : List Kn) ++ (L.drop i)).flatMap cK) ∧ Ext W w6):=⟨o6,e6⟩;have dc6:=(HD.out.1.ext e6).cell;rw [HD.out.2] at dc6;have df6:=(HD.out.1.ext e6).fz;clear o6 e6 g6))
 exact K70
theorem dput_any (W : World) (d cp : Nat) (p : Option Addr) (L : List Kn) (h : DBr W d p cp L) (hl : L.length ≤ 1000) (r c k nn : Int) (s : ByteArray) (e : Int) :
   Calls Tryz.prog 27 #[.pointer (some ⟨d,0,none⟩),.int .i64 r,.int .i64 c,.agg #[.int .i64 k,.int .i64 nn,.string s,.int .i64 e]] W fun e' w'=>e' = .returned (.tuple #[]) ∧ ∃ p' c',DBr w' d p' c' (putL L r c (nm k nn s e)) ∧ (p' = p ∨ ∀ a,p' = some a → W.heap.size ≤ a.block) ∧ ExtB d W w':=by
 cases hi : inB r c with
 | false =>
   have hp : putL L r c (nm k nn s e) = L:=by unfold putL;rw [hi];rfl
   rw [hp]
   refine (dput_out W d cp p L h r c k nn s e hi).mono ?_
   rintro e' w' ⟨h1,h2,h3⟩
   exact ⟨h1,p,cp,h2,.inl rfl,h3.toB d⟩
 | true =>
   have key : Calls Tryz.prog 27 #[.pointer (some ⟨d,0,none⟩),.int .i64 r,.int .i64 c,.agg #[.int .i64 k,.int .i64 nn,.string s,.int .i64 e]] W (DPut W d (putL L r c (nm k nn s e))):=by
     by_cases hk : (nm k nn s e).k = 0
     · cases hs : atB r c L with
       | true=>exact dput_sb W d cp p L h hl r c k nn s e hi _ rfl hs hk
       | false=>exact dput_nb W d cp p L h hl r c k nn s e hi _ rfl hs hk
     · cases hs : atB r c L with
       | true=>exact dput_sv W d cp p L h hl r c k nn s e hi _ rfl hs hk
       | false=>exact dput_nv W d cp p L h hl r c k nn s e hi _ rfl hs hk
   refine key.mono ?_
   rintro e' w' ⟨h1,p',c',h2,h3,h4⟩
   exact ⟨h1,p',c',h2,.inr h3,h4⟩
theorem zeroV (W : World) : (zeroValue 33).run Tryz.prog W = .ok V.blank.dat W:=J3
theorem new_any (W : World) : Calls Tryz.prog 26 #[] W fun e w'=>e = .returned (.pointer (some ⟨W.heap.size,0,none⟩)) ∧ Brd w' W.heap.size none 0 bz ∧ Ext W w':=by
 go_enter func26,ntmps26
 go_wp2_with fail
 go_ret
 refine ⟨rfl,⟨by simp,by simp [go_sem],by simp [go_sem],by simp,bz_ok,rfl⟩,xr.alloc _⟩
theorem wpList_look {P : Program} (w : World) {ops : Array Oper} {rest : List Oper} {o : Oper} {a : Act} {Q : Exit → Act → World → Prop} (hg : o.guard = none) (m x : Operand) (t : TypeId) (hop : o.op = Op.lookup t m x false)
   (mv xv v : Value) (hm : a.eval m = mv) (hx : a.eval x = xv) (hrun : (Instr.lookup t mv xv false).run P w = .ok v w) (hK : wpList P ops Q rest (a.put o.dst v) w) : wpList P ops Q (o :: rest) a w:=by
 refine wpList_plain hg fun K' hK'=>?_
 unfold Oper.wp
 simp [execOp,hop,hm,hx,hrun,Result.andThen]
 exact hK' _ _ hK
theorem Brd.look {W : World} {b n : Nat} {g : Option Nat} {M : Bov} (h : Brd W b g n M) (r c : Int) (hr : I64 r) (hc : I64 c) : (Instr.lookup 64 (.map g) (.agg #[.int .i64 r,.int .i64 c]) false).run Tryz.prog W = .ok (M r c).dat W:=by
 cases g with
 | none =>
   have hm : M = bz:=h.map
   subst hm
   exact Maps.look_nil false kLaw Tryz.underlying64 (zeroV W) (key_mk r c hr hc)
 | some g =>
   obtain ⟨D,h1,h2⟩:=(show MapB W g n M from h.map)
   obtain ⟨v,ps,h3,h4⟩:=h1.lookup kLaw Tryz.underlying64 (zeroV W) (zd:=.held V.blank.dat) (zp:=[]) rfl (key_mk r c hr hc)
   rw [(h2 r c hr hc).1] at h4
   unfold hR at h4
   simp at h4
   rw [← h4.1]
   exact h3
theorem get_any (W : World) (b n : Nat) (g : Option Nat) (M : Bov) (h : Brd W b g n M) (r c : Int) (hr : I64 r) (hc : I64 c) :
   Calls Tryz.prog 10 #[.pointer (some ⟨b,0,none⟩),.int .i64 r,.int .i64 c] W fun e w'=>e = .returned (M r c).dat ∧ Ext W w':=by
 have h1:=fun W' (e : Ext W W')=>(h.ext e).look r c hr hc
 have h2:=fun W' (e : Ext W W')=>(h.ext e).cell
 have hrun:=h1 _ ((Ext.refl W).alloc (.cells #[.int .i64 0,.int .i64 0,.string ⟨#[]⟩,.int .i64 0] 33))
 have hcell:=h2 _ ((Ext.refl W).alloc (.cells #[.int .i64 0,.int .i64 0,.string ⟨#[]⟩,.int .i64 0] 33))
 clear h1 h2
 rw [dat_eq] at hrun ⊢
 generalize M r c = v at *
 clear h hr hc
 have Hrun : Hid _:=hrun
 clear hrun
 go_enter func10,ntmps10
 go_wp2_with (at_lookup;refine wpList_look _ rfl _ _ _ rfl _ _ _ rfl rfl Hrun.out ?_)
 exact finB (blk_top (w:=W) rfl xr) rfl (xr.alloc _) (fun g0 g1 g2 g3=>by simp [results,results10,go_sem]) (fun h=>⟨rfl,h⟩)
theorem MapB.mono {W : World} {g n m : Nat} {M : Bov} (h : MapB W g n M) (e : n ≤ m) : MapB W g m M:=by
 obtain ⟨D,h1,h2⟩:=h
 exact ⟨D,h1.mono e,h2⟩
theorem Brd.mono {W : World} {b n m : Nat} {g : Option Nat} {M : Bov} (h : Brd W b g n M) (e : n ≤ m) : Brd W b g m M:=by
 refine ⟨h.lt,h.cell,h.fz,h.ne,h.ok,?_⟩
 have:=h.map
 cases g with
 | none=>exact this
 | some g=>exact MapB.mono this e
theorem step_delete {P : Program} {ops : Array Oper} {o : Oper} {a : Act} {w : World} {K : Act → World → Prop} {Q : Exit → Act → World → Prop} {E : Prop}
   (hg : o.guard = none) (m x : Operand) (t k : TypeId) (hop : o.op = Op.call { callee:=Callee.builtin Builtin.delete,args:=#[m,x],argTypes:=#[t,k] }) (mv xv : Value) (hm : a.eval m = mv) (hx : a.eval x = xv) (w' : World)
   (hrun : (Builtin.delete_ #[t,k] o.type #[mv,xv]).run P w = .ok (.tuple #[]) w') (hK : K (a.put o.dst (.tuple #[])) w') : if Region.wanted o (yielded ops a.tmps) = true then Oper.wp P o a w K Q else E:=by
 have hw : Region.wanted o (yielded ops a.tmps) = true:=by simp [Region.wanted,hg]
 rw [if_pos hw]
 unfold Oper.wp
 simp [execOp,hop,resolve,invoke,builtin,hm,hx,hrun,Result.andThen]
 exact hK
theorem step_update {P : Program} {ops : Array Oper} {o : Oper} {a : Act} {w : World} {K : Act → World → Prop} {Q : Exit → Act → World → Prop} {E : Prop}
   (hg : o.guard = none) (m x v : Operand) (t : TypeId) (hop : o.op = Op.mapUpdate t m x v) (mv xv vv : Value) (hm : a.eval m = mv) (hx : a.eval x = xv) (hv : a.eval v = vv) (w' : World)
   (hrun : (Instr.mapUpdate t mv xv vv).run P w = .ok () w') (hK : K (a.put o.dst undef) w') : if Region.wanted o (yielded ops a.tmps) = true then Oper.wp P o a w K Q else E:=by
 have hw : Region.wanted o (yielded ops a.tmps) = true:=by simp [Region.wanted,hg]
 rw [if_pos hw]
 unfold Oper.wp
 simp [execOp,hop,hm,hx,hv,hrun,Result.andThen]
 exact hK
theorem grown_extS {W W2 w9 : World} {g : Nat} {S : Nat → Prop} (X : Ext W W2) (h : W2.grownBy w9 (some g)) (hS : S g) : ExtS S W w9 :=
 ⟨h.os.trans X.os,h.tape.trans X.tape,h.output.trans X.output,Nat.le_trans X.size h.size,fun k hk hs=>(h.block k (llL hk X.size) (fun e=>by cases e;exact hs hS)).trans (X.block k hk)⟩
theorem eq_map1 (g : Nat) (W : World) : (binOp .eql 64 (.map (some g)) (.map none)).run Tryz.prog W = .ok (.bool false) W:=by
 have h:=Tryz.underlying64
 exact K61
theorem eq_map0 (W : World) : (binOp .eql 64 (.map none) (.map none)).run Tryz.prog W = .ok (.bool true) W:=by
 have h:=Tryz.underlying64
 exact K61
theorem grown_drew {W2 w9 : World} {row : Option Nat} (h : W2.drew.grownBy w9 row) : W2.grownBy w9 row:=⟨h.os,h.tape,h.output,h.size,h.block⟩
theorem grown_extT {W W2 w9 : World} {g : Nat} {S : Nat → Prop} (X : ExtS S W W2) (h : W2.grownBy w9 (some g)) (hS : S g ∨ W.heap.size ≤ g) : ExtS S W w9 :=
 ⟨h.os.trans X.os,h.tape.trans X.tape,h.output.trans X.output,Nat.le_trans X.size h.size,fun k hk hs=>(h.block k (llL hk X.size) (fun e=>by
   cases e
   rcases hS with hS | hS
   · exact hs hS
   · omega)).trans (X.block k hk hs)⟩
theorem Brd.turn {W2 w9 : World} {b g n n' : Nat} {M M' : Bov} (h : Brd W2 b (some g) n M) (hg : W2.grownBy w9 (some g)) (hm : MapB w9 g n' M') (ok : BdOk M') : Brd w9 b (some g) n' M':=by
 have hne : some b ≠ some g:=fun e=>h.ne e.symm
 have k:=cell_of_heap (hg.block b h.lt hne) 0
 exact ⟨llL h.lt hg.size,k.1.trans h.cell,k.2.trans h.fz,h.ne,ok,hm⟩
theorem bput_ok {M : Bov} (h : BdOk M) {r c : Int} (hi : inB r c = true) {v : V} (hv : v.ok) : BdOk (bput M r c v):=by
 have:=bset_ok h r c v hv
 unfold bset at this
 rwa [if_pos hi] at this
theorem in_i {r c : Int} (h : inB r c = true) : I64 r ∧ I64 c:=by simp [inB] at h;exact ⟨⟨by omega,by omega⟩,⟨by omega,by omega⟩⟩
def PutQ (W : World) (b n : Nat) (g : Option Nat) (M : Bov) (e : Ending) (w' : World) : Prop :=
 e = .returned (.tuple #[]) ∧ ∃ g',Brd w' b g' (n + 1) M ∧ (g' = g ∨ (g = none ∧ ∃ q,g' = some q ∧ W.heap.size ≤ q)) ∧ ExtS (fun k=>k = b ∨ g = some k) W w'
theorem put_out (W : World) (b n : Nat) (g : Option Nat) (M : Bov) (h : Brd W b g n M) (r c k nn : Int) (s : ByteArray) (e : Int) (hi : inB r c = false) :
   Calls Tryz.prog 22 #[.pointer (some ⟨b,0,none⟩),.int .i64 r,.int .i64 c,.agg #[.int .i64 k,.int .i64 nn,.string s,.int .i64 e]] W (PutQ W b n g M):=by
 have c1:=fun W=>in_any r c W
 rw [hi] at c1
 have H : Hid (Brd W b g n M):=h
 clear h hi
 go_enter func22,ntmps22
 go_wp2_with fail
 refine (c1 _).mono ?_
 rintro e w1 ⟨rfl,rfl⟩
 go_wp2_with fail
 refine bodyPost_ret (v:=.tuple #[]) J42 rfl ?_
 exact ⟨rfl,g,(H.out.ext (xr.alloc _)).mono (Nat.le_succ _),.inl rfl,(xr.alloc _).toS _⟩
theorem put_del0 (W : World) (b n : Nat) (M : Bov) (h : Brd W b none n M) (r c k nn : Int) (s : ByteArray) (e : Int) (hi : inB r c = true) (hv : nm k nn s e = .blank) (hN : Nm W) :
   Calls Tryz.prog 22 #[.pointer (some ⟨b,0,none⟩),.int .i64 r,.int .i64 c,.agg #[.int .i64 k,.int .i64 nn,.string s,.int .i64 e]] W (PutQ W b n none (bput M r c .blank)):=by
 have c1:=fun W=>in_any r c W
 rw [hi] at c1
 have HI : Hid (inB r c = true):=hi
 have c2:=fun W' (e1 : Ext W W')=>vnormal_any k nn s e W' (hN.ext e1)
 rw [hv] at c2
 simp only [V.dat] at c2
 have H : Hid (Brd W b none n M):=h
 clear hv
 clear h hi hN
 go_enter func22,ntmps22
 go_wp2_with fail
 refine (c1 _).mono ?_
 rintro e w1 ⟨rfl,rfl⟩
 go_wp2_with fail
 refine (c2 _ (xr.alloc _)).mono ?_
 rintro e w1 ⟨rfl,E1⟩
 have B1:=blk_top (b:=W.heap.size) J60 E1
 have X1 : Hid (Ext W w1):=(xr.alloc _).trans E1
 have D0:=B1
 obtain ⟨b0z,⟨b0_0,b0_1,b0_2,b0_3⟩,b0f0,b0f1,b0f2,b0f3⟩:=D0
 clear c1 c2 E1
 go_wp2_with fail
 obtain ⟨W2,hW2⟩ : ∃ W2,W2 = (((((w1.setCell ⟨W.heap.size,0,none⟩ (.int .i64 0)).setCell ⟨W.heap.size,1,none⟩ (.int .i64 0)).setCell ⟨W.heap.size,2,none⟩ (.string ⟨#[]⟩)).setCell ⟨W.heap.size,3,none⟩ (.int .i64 0)).alloc (.cells #[.int .i64 r,.int .i64 c] 24)):=⟨_,rfl⟩
 have X2 : Ext W W2:=by
   exact K80
 have BV : Blk W2 W.heap.size (.int .i64 0) (.int .i64 0) (.string ⟨#[]⟩) (.int .i64 0):=by
   exact K175
 have BP : W2.cell? ⟨w1.heap.size,0,none⟩ = some (.int .i64 r) ∧ W2.cell? ⟨w1.heap.size,1,none⟩ = some (.int .i64 c) ∧ w1.heap.size < W2.heap.size ∧ W.heap.size ≤ w1.heap.size ∧ W2.heap.size = w1.heap.size + 1:=by
   exact K73
 rw [← hW2]
 clear hW2 b0_0 b0_1 b0_2 b0_3 b0f0 b0f1 b0f2 b0f3 b0z BV B1 X1
 have hB2:=H.out.ext X2
 clear H
 obtain ⟨iR,iC⟩:=in_i HI.out
 obtain ⟨p0,p1,p2,p3,p4⟩:=BP
 have HR : Hid (∀ ty,(Builtin.delete_ #[64,24] ty #[.map none,.agg #[.int .i64 r,.int .i64 c]]).run Tryz.prog W2.drew = .ok (.tuple #[]) W2.drew):=fun ty=>Maps.drop_nil kLaw Tryz.underlying64 (key_mk r c iR iC) ty
 have HQ : Hid (PutQ W b n none (bput M r c .blank) (.returned (.tuple #[])) W2.drew):=by
   refine ⟨rfl,none,?_,.inl rfl,X2.drew.toS _⟩
   have hm : M = bz:=hB2.map
   subst hm
   have e : bput bz r c .blank = bz:=by funext r' c';unfold bput bz;split <;> rfl
   rw [e]
   exact (hB2.ext xr.drew).mono (Nat.le_succ _)
 obtain ⟨w9,hw9⟩ : ∃ w9,w9 = W2.drew:=⟨_,rfl⟩
 have HB : Hid (w9.cell? ⟨b,0,none⟩ = some (.map none) ∧ w9.cell? ⟨w1.heap.size,0,none⟩ = some (.int .i64 r) ∧ w9.cell? ⟨w1.heap.size,1,none⟩ = some (.int .i64 c)):=by rw [hw9];exact ⟨hB2.cell,p0,p1⟩
 rw [← hw9] at HQ
 have HR2 : Hid (∀ ty,(Builtin.delete_ #[64,24] ty #[.map none,.agg #[.int .i64 r,.int .i64 c]]).run Tryz.prog W2.drew = .ok (.tuple #[]) w9):=by rw [hw9];exact HR.out
 clear hw9 HR
 have HA : Hid (W2.drew.cell? ⟨b,0,none⟩ = some (.map none) ∧ W2.drew.cell? ⟨w1.heap.size,0,none⟩ = some (.int .i64 r) ∧ W2.drew.cell? ⟨w1.heap.size,1,none⟩ = some (.int .i64 c)):=⟨hB2.cell,p0,p1⟩
 clear hB2 p0 p1 p3 iR iC HI X2 p4
 generalize w1.heap.size = P2 at *
 refine wp_region_held_drew (S:=(fun W3=>W3.cell? ⟨b,0,none⟩ = some (.map none) ∧ W3.cell? ⟨P2,0,none⟩ = some (.int .i64 r) ∧ W3.cell? ⟨P2,1,none⟩ = some (.int .i64 c))) J3 ?_ (fun hHeld0=>?_)
 · (first | exact HA.out | exact HB.out)
 exact K20
theorem put_del1 (W : World) (b n : Nat) (g : Nat) (M : Bov) (h : Brd W b (some g) n M) (r c k nn : Int) (s : ByteArray) (e : Int) (hi : inB r c = true) (hv : nm k nn s e = .blank) (hN : Nm W) :
   Calls Tryz.prog 22 #[.pointer (some ⟨b,0,none⟩),.int .i64 r,.int .i64 c,.agg #[.int .i64 k,.int .i64 nn,.string s,.int .i64 e]] W (PutQ W b n (some g) (bput M r c .blank)):=by
 have c1:=fun W=>in_any r c W
 rw [hi] at c1
 have HI : Hid (inB r c = true):=hi
 have c2:=fun W' (e1 : Ext W W')=>vnormal_any k nn s e W' (hN.ext e1)
 rw [hv] at c2
 simp only [V.dat] at c2
 have H : Hid (Brd W b (some g) n M):=h
 clear hv
 clear h hi hN
 go_enter func22,ntmps22
 go_wp2_with fail
 refine (c1 _).mono ?_
 rintro e w1 ⟨rfl,rfl⟩
 go_wp2_with fail
 refine (c2 _ (xr.alloc _)).mono ?_
 rintro e w1 ⟨rfl,E1⟩
 have B1:=blk_top (b:=W.heap.size) J60 E1
 have X1 : Hid (Ext W w1):=(xr.alloc _).trans E1
 have D0:=B1
 obtain ⟨b0z,⟨b0_0,b0_1,b0_2,b0_3⟩,b0f0,b0f1,b0f2,b0f3⟩:=D0
 clear c1 c2 E1
 go_wp2_with fail
 obtain ⟨W2,hW2⟩ : ∃ W2,W2 = (((((w1.setCell ⟨W.heap.size,0,none⟩ (.int .i64 0)).setCell ⟨W.heap.size,1,none⟩ (.int .i64 0)).setCell ⟨W.heap.size,2,none⟩ (.string ⟨#[]⟩)).setCell ⟨W.heap.size,3,none⟩ (.int .i64 0)).alloc (.cells #[.int .i64 r,.int .i64 c] 24)):=⟨_,rfl⟩
 have X2 : Ext W W2:=by
   exact K80
 have BV : Blk W2 W.heap.size (.int .i64 0) (.int .i64 0) (.string ⟨#[]⟩) (.int .i64 0):=by
   exact K175
 have BP : W2.cell? ⟨w1.heap.size,0,none⟩ = some (.int .i64 r) ∧ W2.cell? ⟨w1.heap.size,1,none⟩ = some (.int .i64 c) ∧ w1.heap.size < W2.heap.size ∧ W.heap.size ≤ w1.heap.size ∧ W2.heap.size = w1.heap.size + 1:=by
   exact K73
 rw [← hW2]
 clear hW2 b0_0 b0_1 b0_2 b0_3 b0f0 b0f1 b0f2 b0f3 b0z BV B1 X1
 have hB2:=H.out.ext X2
 clear H
 obtain ⟨iR,iC⟩:=in_i HI.out
 obtain ⟨p0,p1,p2,p3,p4⟩:=BP
 obtain ⟨D,own,rel⟩:=(show MapB W2 g n M from hB2.map)
 obtain ⟨w9,hrun,own9,turn⟩ : ∃ w9,(∀ ty,(Builtin.delete_ #[64,24] ty #[.map (some g),.agg #[.int .i64 r,.int .i64 c]]).run Tryz.prog W2.drew = .ok (.tuple #[]) w9) ∧ w9.ownsMap Tryz.prog 24 hR g n (D.del (kl r c)) ∧ W2.drew.mapTurned w9 g:=by
   obtain ⟨w9,h1,h2,h3⟩:=World.ownsMap.drop (w:=W2.drew) own kLaw Tryz.underlying64 (key_mk r c iR iC) 0
   exact ⟨w9,fun _=>h1,h2,h3⟩
 have HR2 : Hid (∀ ty,(Builtin.delete_ #[64,24] ty #[.map (some g),.agg #[.int .i64 r,.int .i64 c]]).run Tryz.prog W2.drew = .ok (.tuple #[]) w9):=hrun
 have tg : W2.grownBy w9 (some g):=grown_drew turn.grown
 have gW : g < W2.heap.size:=own.lt
 have HQ : Hid (PutQ W b n (some g) (bput M r c .blank) (.returned (.tuple #[])) w9) :=
   ⟨rfl,some g,hB2.turn tg (MapB.mono ⟨_,own9,rel_del rel r c iR iC⟩ (Nat.le_succ _)) (bput_ok hB2.ok HI.out trivial),.inl rfl,grown_extS X2 tg (.inr rfl)⟩
 have hpg : w1.heap.size ≠ g:=by
   intro e
   obtain ⟨es,clock,hb,_⟩:=own
   rw [← e] at hb
   unfold World.cell? at p0
   simp only [hb] at p0
   cases p0
 have HB : Hid (w9.cell? ⟨b,0,none⟩ = some (.map (some g)) ∧ w9.cell? ⟨w1.heap.size,0,none⟩ = some (.int .i64 r) ∧ w9.cell? ⟨w1.heap.size,1,none⟩ = some (.int .i64 c)):=by
   have kp:=fun o=>cell_of_heap (tg.block w1.heap.size p2 (fun e=>hpg (Option.some.inj e))) o
   have kb:=cell_of_heap (tg.block b hB2.lt (fun e=>hB2.ne e.symm)) 0
   exact ⟨kb.1.trans hB2.cell,(kp 0).1.trans p0,(kp 1).1.trans p1⟩
 clear hrun own9 turn tg hpg own rel gW
 have HA : Hid (W2.drew.cell? ⟨b,0,none⟩ = some (.map (some g)) ∧ W2.drew.cell? ⟨w1.heap.size,0,none⟩ = some (.int .i64 r) ∧ W2.drew.cell? ⟨w1.heap.size,1,none⟩ = some (.int .i64 c)):=⟨hB2.cell,p0,p1⟩
 clear hB2 p0 p1 p3 iR iC HI X2 p4
 generalize w1.heap.size = P2 at *
 refine wp_region_held_drew (S:=(fun W3=>W3.cell? ⟨b,0,none⟩ = some (.map (some g)) ∧ W3.cell? ⟨P2,0,none⟩ = some (.int .i64 r) ∧ W3.cell? ⟨P2,1,none⟩ = some (.int .i64 c))) J3 ?_ (fun hHeld0=>?_)
 · (first | exact HA.out | exact HB.out)
 exact K20
theorem put_set (W : World) (b n : Nat) (g : Nat) (M : Bov) (h : Brd W b (some g) n M) (hn : n < 1000000) (r c k nn : Int) (s : ByteArray) (e : Int) (hi : inB r c = true) (v : V) (hv : nm k nn s e = v) (hk : v.k ≠ 0) (ok : v.ok) (hN : Nm W) :
   Calls Tryz.prog 22 #[.pointer (some ⟨b,0,none⟩),.int .i64 r,.int .i64 c,.agg #[.int .i64 k,.int .i64 nn,.string s,.int .i64 e]] W (PutQ W b n (some g) (bput M r c v)):=by
 have c1:=fun W=>in_any r c W
 rw [hi] at c1
 have HI : Hid (inB r c = true):=hi
 have c2:=fun W' (e1 : Ext W W')=>vnormal_any k nn s e W' (hN.ext e1)
 rw [hv,dat_eq] at c2
 have H : Hid (Brd W b (some g) n M):=h
 have HK : Hid (v.k ≠ 0 ∧ v.ok ∧ n < 1000000):=⟨hk,ok,hn⟩
 have k0 : (v.k == 0) = false:=J102
 obtain ⟨vk,vn,vs,ve,hvv⟩ : ∃ vk vn vs ve,v.k = vk ∧ v.n = vn ∧ v.s = vs ∧ v.e = ve:=⟨_,_,_,_,rfl,rfl,rfl,rfl⟩
 have HV : Hid (v.k = vk ∧ v.n = vn ∧ v.s = vs ∧ v.e = ve):=hvv
 obtain ⟨q1,q2,q3,q4⟩:=hvv
 rw [q1,q2,q3,q4] at c2
 rw [q1] at k0
 clear hv hk ok hn q1 q2 q3 q4
 clear h hi hN
 go_enter func22,ntmps22
 go_wp2_with fail
 refine (c1 _).mono ?_
 rintro e w1 ⟨rfl,rfl⟩
 go_wp2_with fail
 refine (c2 _ (xr.alloc _)).mono ?_
 rintro e w1 ⟨rfl,E1⟩
 have B1:=blk_top (b:=W.heap.size) J60 E1
 have X1 : Hid (Ext W w1):=(xr.alloc _).trans E1
 have D0:=B1
 obtain ⟨b0z,⟨b0_0,b0_1,b0_2,b0_3⟩,b0f0,b0f1,b0f2,b0f3⟩:=D0
 clear c1 c2 E1
 obtain ⟨W2,hW2⟩ : ∃ W2,W2 = (((((w1.setCell ⟨W.heap.size,0,none⟩ (.int .i64 vk)).setCell ⟨W.heap.size,1,none⟩ (.int .i64 vn)).setCell ⟨W.heap.size,2,none⟩ (.string vs)).setCell ⟨W.heap.size,3,none⟩ (.int .i64 ve)).alloc (.cells #[.int .i64 r,.int .i64 c] 24)):=⟨_,rfl⟩
 have X2 : Ext W W2:=by
   exact K80
 have BV : Blk W2 W.heap.size (.int .i64 vk) (.int .i64 vn) (.string vs) (.int .i64 ve):=by
   exact K175
 have BP : W2.cell? ⟨w1.heap.size,0,none⟩ = some (.int .i64 r) ∧ W2.cell? ⟨w1.heap.size,1,none⟩ = some (.int .i64 c) ∧ w1.heap.size < W2.heap.size ∧ W.heap.size ≤ w1.heap.size ∧ W2.heap.size = w1.heap.size + 1:=by
   exact K73
 have hB2:=H.out.ext X2
 clear H
 have bc:=hB2.cell
 have bf:=hB2.fz
 rw [hW2] at bc bf
 have qm:=eq_map1 g
 go_wp2_with fail
 clear qm
 rw [← hW2]
 clear hW2 bc bf b0_0 b0_1 b0_2 b0_3 b0f0 b0f1 b0f2 b0f3 b0z B1 X1
 obtain ⟨iR,iC⟩:=in_i HI.out
 obtain ⟨p0,p1,p2,p3,p4⟩:=BP
 obtain ⟨zV,⟨v0,v1,v2,v3⟩,_⟩:=BV
 obtain ⟨D,own,rel⟩:=(show MapB W2 g n M from hB2.map)
 obtain ⟨w9,hrun,own9,turn⟩:=World.ownsMap.store (w:=W2.drew) (n:=n) own kLaw Tryz.underlying64 (by have:=HK.out.2.2;unfold maxLen;omega) (val:=.agg #[.int .i64 vk,.int .i64 vn,.string vs,.int .i64 ve]) (d:=.held (.agg #[.int .i64 vk,.int .i64 vn,.string vs,.int .i64 ve])) (ps:=[]) (key_mk r c iR iC) rfl
 have HR2 : Hid ((Instr.mapUpdate 64 (.map (some g)) (.agg #[.int .i64 r,.int .i64 c]) (.agg #[.int .i64 vk,.int .i64 vn,.string vs,.int .i64 ve])).run Tryz.prog W2.drew = .ok () w9):=hrun
 have tg : W2.grownBy w9 (some g):=grown_drew turn.grown
 have HQ : Hid (PutQ W b n (some g) (bput M r c v) (.returned (.tuple #[])) w9):=by
   obtain ⟨h1,h2,h3⟩:=HK.out
   obtain ⟨q1,q2,q3,q4⟩:=HV.out
   have hd : v.dat = .agg #[.int .i64 vk,.int .i64 vn,.string vs,.int .i64 ve]:=by rw [dat_eq,q1,q2,q3,q4]
   rw [← hd] at own9
   exact ⟨rfl,some g,hB2.turn tg ⟨_,own9,rel_put rel own.isMap r c iR iC v h1⟩ (bput_ok hB2.ok HI.out h2),.inl rfl,grown_extS X2 tg (.inr rfl)⟩
 have hne : ∀ k u,k < W2.heap.size → W2.cell? ⟨k,0,none⟩ = some u → some k ≠ some g:=by
   exact K142
 have kk:=fun k u (h1 : k < W2.heap.size) (h2 : W2.cell? ⟨k,0,none⟩ = some u) o=>(cell_of_heap (tg.block k h1 (hne k u h1 h2)) o).1
 have HB : Hid (w9.cell? ⟨b,0,none⟩ = some (.map (some g)) ∧ w9.cell? ⟨w1.heap.size,0,none⟩ = some (.int .i64 r) ∧ w9.cell? ⟨w1.heap.size,1,none⟩ = some (.int .i64 c) ∧ w9.cell? ⟨W.heap.size,0,none⟩ = some (.int .i64 vk) ∧ w9.cell? ⟨W.heap.size,1,none⟩ = some (.int .i64 vn) ∧ w9.cell? ⟨W.heap.size,2,none⟩ = some (.string vs) ∧ w9.cell? ⟨W.heap.size,3,none⟩ = some (.int .i64 ve)) :=
   ⟨(kk b _ hB2.lt hB2.cell 0).trans hB2.cell,(kk _ _ p2 p0 0).trans p0,(kk _ _ p2 p0 1).trans p1,(kk _ _ zV v0 0).trans v0,(kk _ _ zV v0 1).trans v1,(kk _ _ zV v0 2).trans v2,(kk _ _ zV v0 3).trans v3⟩
 have HA : Hid (W2.drew.cell? ⟨b,0,none⟩ = some (.map (some g)) ∧ W2.drew.cell? ⟨w1.heap.size,0,none⟩ = some (.int .i64 r) ∧ W2.drew.cell? ⟨w1.heap.size,1,none⟩ = some (.int .i64 c) ∧ W2.drew.cell? ⟨W.heap.size,0,none⟩ = some (.int .i64 vk) ∧ W2.drew.cell? ⟨W.heap.size,1,none⟩ = some (.int .i64 vn) ∧ W2.drew.cell? ⟨W.heap.size,2,none⟩ = some (.string vs) ∧ W2.drew.cell? ⟨W.heap.size,3,none⟩ = some (.int .i64 ve)):=⟨hB2.cell,p0,p1,v0,v1,v2,v3⟩
 clear hB2 p0 p1 p2 p3 p4 iR iC HI X2 hrun own9 turn tg own rel kk hne v0 v1 v2 v3 zV HK HV
 exact K13
theorem put_new (W : World) (b n : Nat) (M : Bov) (h : Brd W b none n M) (hn : n < 1000000) (r c k nn : Int) (s : ByteArray) (e : Int) (hi : inB r c = true) (v : V) (hv : nm k nn s e = v) (hk : v.k ≠ 0) (ok : v.ok) (hN : Nm W) :
   Calls Tryz.prog 22 #[.pointer (some ⟨b,0,none⟩),.int .i64 r,.int .i64 c,.agg #[.int .i64 k,.int .i64 nn,.string s,.int .i64 e]] W (PutQ W b n none (bput M r c v)):=by
 have c1:=fun W=>in_any r c W
 rw [hi] at c1
 have HI : Hid (inB r c = true):=hi
 have c2:=fun W' (e1 : Ext W W')=>vnormal_any k nn s e W' (hN.ext e1)
 rw [hv,dat_eq] at c2
 have H : Hid (Brd W b none n M):=h
 have HK : Hid (v.k ≠ 0 ∧ v.ok ∧ n < 1000000):=⟨hk,ok,hn⟩
 have k0 : (v.k == 0) = false:=J102
 obtain ⟨vk,vn,vs,ve,hvv⟩ : ∃ vk vn vs ve,v.k = vk ∧ v.n = vn ∧ v.s = vs ∧ v.e = ve:=⟨_,_,_,_,rfl,rfl,rfl,rfl⟩
 have HV : Hid (v.k = vk ∧ v.n = vn ∧ v.s = vs ∧ v.e = ve):=hvv
 obtain ⟨q1,q2,q3,q4⟩:=hvv
 rw [q1,q2,q3,q4] at c2
 rw [q1] at k0
 clear hv hk ok hn q1 q2 q3 q4
 clear h hi hN
 go_enter func22,ntmps22
 go_wp2_with fail
 refine (c1 _).mono ?_
 rintro e w1 ⟨rfl,rfl⟩
 go_wp2_with fail
 refine (c2 _ (xr.alloc _)).mono ?_
 rintro e w1 ⟨rfl,E1⟩
 have B1:=blk_top (b:=W.heap.size) J60 E1
 have X1 : Hid (Ext W w1):=(xr.alloc _).trans E1
 have D0:=B1
 obtain ⟨b0z,⟨b0_0,b0_1,b0_2,b0_3⟩,b0f0,b0f1,b0f2,b0f3⟩:=D0
 clear c1 c2 E1
 have hmm:=@run_makeMap Tryz.prog
 obtain ⟨W2,hW2⟩ : ∃ W2,W2 = (((((w1.setCell ⟨W.heap.size,0,none⟩ (.int .i64 vk)).setCell ⟨W.heap.size,1,none⟩ (.int .i64 vn)).setCell ⟨W.heap.size,2,none⟩ (.string vs)).setCell ⟨W.heap.size,3,none⟩ (.int .i64 ve)).alloc (.cells #[.int .i64 r,.int .i64 c] 24)):=⟨_,rfl⟩
 have X2 : Ext W W2:=by
   exact K80
 have BV : Blk W2 W.heap.size (.int .i64 vk) (.int .i64 vn) (.string vs) (.int .i64 ve):=by
   exact K175
 have BP : W2.cell? ⟨w1.heap.size,0,none⟩ = some (.int .i64 r) ∧ W2.cell? ⟨w1.heap.size,1,none⟩ = some (.int .i64 c) ∧ w1.heap.size < W2.heap.size ∧ W.heap.size ≤ w1.heap.size ∧ W2.heap.size = w1.heap.size + 1:=by
   exact K73
 have hB2:=H.out.ext X2
 clear H
 have bc:=hB2.cell
 have bf:=hB2.fz
 go_upto_region 5 with fail
 rw [← hW2]
 clear hW2 b0_0 b0_1 b0_2 b0_3 b0f0 b0f1 b0f2 b0f3 b0z B1 X1
 have qm:=eq_map0
 have HP : Hid _:=BP
 have HV2 : Hid _:=BV
 have HX2 : Hid _:=X2
 have HB2 : Hid _:=hB2
 clear BP BV X2
 have bc2:=(hB2.ext (xr.alloc (.map #[] 0))).cell
 have bf2:=(hB2.ext (xr.alloc (.map #[] 0))).fz
 clear hB2
 go_wp2_with fail
 clear qm bc bf bc2 bf2 hmm
 obtain ⟨p0,p1,p2,p3,p4⟩:=HP.out
 obtain ⟨zV,⟨v0,v1,v2,v3⟩,_⟩:=HV2.out
 obtain ⟨iR,iC⟩:=in_i HI.out
 have hB2:=HB2.out
 have X2:=HX2.out
 obtain ⟨g,hg⟩ : ∃ g,g = W2.heap.size:=⟨_,rfl⟩
 rw [← hg]
 obtain ⟨W4,hW4⟩ : ∃ W4,W4 = (W2.alloc (.map #[] 0)).setCell ⟨b,0,none⟩ (.map (some g)):=⟨_,rfl⟩
 rw [← hW4]
 have sz : W4.heap.size = W2.heap.size + 1:=by rw [hW4];simp [go_sem]
 have kq : ∀ k,k < W2.heap.size → k ≠ b → W4.heap[k]? = W2.heap[k]?:=by
   intro k hk hne
   rw [hW4,RowKit.Below.heap_setCell _ _ _ _ hne]
   exact ((Ext.refl W2).alloc (.map #[] 0)).block k hk
 have kg : W4.heap[g]? = some (.map #[] 0):=by
   have hne : g ≠ b:=by have:=hB2.lt;omega
   rw [hW4,RowKit.Below.heap_setCell _ _ _ _ hne,hg]
   exact (MapKept.heap_alloc W2 _).1
 have own : W4.ownsMap Tryz.prog 24 hR g 0 (.map []):=by
   have h0:=World.ownsMap_made W2 Tryz.prog 24 hR
   rw [← hg] at h0
   obtain ⟨es,clock,hb,rr⟩:=h0
   refine ⟨es,clock,?_,rr⟩
   rw [kg,← hb,hg]
   exact ((MapKept.heap_alloc W2 _).1).symm
 have hM : M = bz:=hB2.map
 have rel : RelD (.map []) M:=by rw [hM];exact rel_empty
 have hB4 : Brd W4 b (some g) 0 M:=by
   refine ⟨by have:=hB2.lt;omega,?_,?_,fun e=>by cases e;have:=hB2.lt;omega,hB2.ok,⟨_,own,rel⟩⟩
   · rw [hW4];exact wSa _ ⟨b,0,none⟩ _ (by rw [(hB2.ext (xr.alloc _)).cell])
   · rw [hW4,wFz];exact (hB2.ext (xr.alloc _)).fz
 have X4 : ExtS (fun k=>k = b ∨ none = some k) W W4:=by
   refine ⟨by rw [hW4];exact X2.os,by rw [hW4];exact X2.tape,by rw [hW4];exact X2.output,by have:=X2.size;omega,fun k hk hn=>?_⟩
   exact (kq k (llL hk X2.size) (fun e=>hn (.inl e))).trans (X2.block k hk)
 have hb0 : w1.heap.size ≠ b:=by
   intro e
   have:=hB2.cell
   rw [← e,p0] at this
   cases this
 have hb1 : W.heap.size ≠ b:=by
   intro e
   have:=hB2.cell
   rw [← e,v0] at this
   cases this
 have c1:=fun o=>(cell_of_heap (kq w1.heap.size p2 hb0) o).1
 have c2:=fun o=>(cell_of_heap (kq W.heap.size zV hb1) o).1
 have p0:=(c1 0).trans p0
 have p1:=(c1 1).trans p1
 have v0:=(c2 0).trans v0
 have v1:=(c2 1).trans v1
 have v2:=(c2 2).trans v2
 have v3:=(c2 3).trans v3
 have p2 : w1.heap.size < W4.heap.size:=J2
 have zV : W.heap.size < W4.heap.size:=J2
 have hge : W.heap.size ≤ g:=by rw [hg];exact X2.size
 have isM:=own.isMap
 clear hB2 c1 c2 hb0 hb1 kg kq sz hW4 hg X2
 obtain ⟨w9,hrun,own9,turn⟩:=World.ownsMap.store (w:=W4.drew) (n:=0) own kLaw Tryz.underlying64 (by have:=HK.out.2.2;unfold maxLen;omega) (val:=.agg #[.int .i64 vk,.int .i64 vn,.string vs,.int .i64 ve]) (d:=.held (.agg #[.int .i64 vk,.int .i64 vn,.string vs,.int .i64 ve])) (ps:=[]) (key_mk r c iR iC) rfl
 have HR2 : Hid ((Instr.mapUpdate 64 (.map (some g)) (.agg #[.int .i64 r,.int .i64 c]) (.agg #[.int .i64 vk,.int .i64 vn,.string vs,.int .i64 ve])).run Tryz.prog W4.drew = .ok () w9):=hrun
 have tg : W4.grownBy w9 (some g):=grown_drew turn.grown
 have HQ : Hid (PutQ W b n none (bput M r c v) (.returned (.tuple #[])) w9):=by
   obtain ⟨h1,h2,h3⟩:=HK.out
   obtain ⟨q1,q2,q3,q4⟩:=HV.out
   have hd : v.dat = .agg #[.int .i64 vk,.int .i64 vn,.string vs,.int .i64 ve]:=by rw [dat_eq,q1,q2,q3,q4]
   rw [← hd] at own9
   exact ⟨rfl,some g,(hB4.turn tg ⟨_,own9,rel_put rel isM r c iR iC v h1⟩ (bput_ok hB4.ok HI.out h2)).mono J2,.inr ⟨rfl,g,rfl,hge⟩,grown_extT X4 tg (.inr hge)⟩
 have hne : ∀ k u,k < W4.heap.size → W4.cell? ⟨k,0,none⟩ = some u → some k ≠ some g:=by
   exact K142
 have kk:=fun k u (h1 : k < W4.heap.size) (h2 : W4.cell? ⟨k,0,none⟩ = some u) o=>(cell_of_heap (tg.block k h1 (hne k u h1 h2)) o).1
 have HB : Hid (w9.cell? ⟨b,0,none⟩ = some (.map (some g)) ∧ w9.cell? ⟨w1.heap.size,0,none⟩ = some (.int .i64 r) ∧ w9.cell? ⟨w1.heap.size,1,none⟩ = some (.int .i64 c) ∧ w9.cell? ⟨W.heap.size,0,none⟩ = some (.int .i64 vk) ∧ w9.cell? ⟨W.heap.size,1,none⟩ = some (.int .i64 vn) ∧ w9.cell? ⟨W.heap.size,2,none⟩ = some (.string vs) ∧ w9.cell? ⟨W.heap.size,3,none⟩ = some (.int .i64 ve)) :=
   ⟨(kk b _ hB4.lt hB4.cell 0).trans hB4.cell,(kk _ _ p2 p0 0).trans p0,(kk _ _ p2 p0 1).trans p1,(kk _ _ zV v0 0).trans v0,(kk _ _ zV v0 1).trans v1,(kk _ _ zV v0 2).trans v2,(kk _ _ zV v0 3).trans v3⟩
 have HA : Hid (W4.drew.cell? ⟨b,0,none⟩ = some (.map (some g)) ∧ W4.drew.cell? ⟨w1.heap.size,0,none⟩ = some (.int .i64 r) ∧ W4.drew.cell? ⟨w1.heap.size,1,none⟩ = some (.int .i64 c) ∧ W4.drew.cell? ⟨W.heap.size,0,none⟩ = some (.int .i64 vk) ∧ W4.drew.cell? ⟨W.heap.size,1,none⟩ = some (.int .i64 vn) ∧ W4.drew.cell? ⟨W.heap.size,2,none⟩ = some (.string vs) ∧ W4.drew.cell? ⟨W.heap.size,3,none⟩ = some (.int .i64 ve)):=⟨hB4.cell,p0,p1,v0,v1,v2,v3⟩
 clear hB4 p0 p1 p2 p3 p4 iR iC HI X4 hrun own9 turn tg own rel kk hne isM hge hM HP HV2 HX2 HB2 v0 v1 v2 v3 zV HK HV
 exact K13
theorem put_any (W : World) (b n : Nat) (g : Option Nat) (M : Bov) (h : Brd W b g n M) (hn : n < 1000000) (r c k nn : Int) (s : ByteArray) (e : Int) (hi : I64 nn) (hN : Nm W) :
   Calls Tryz.prog 22 #[.pointer (some ⟨b,0,none⟩),.int .i64 r,.int .i64 c,.agg #[.int .i64 k,.int .i64 nn,.string s,.int .i64 e]] W (PutQ W b n g (bset M r c (nm k nn s e))):=by
 unfold bset
 cases hb : inB r c with
 | false=>exact put_out W b n g M h r c k nn s e hb
 | true =>
   rw [if_pos rfl]
   by_cases hk : (nm k nn s e).k = 0
   · have hv : nm k nn s e = .blank:=by
       revert hk
       generalize nm k nn s e = v
       cases v <;> simp [V.k]
     rw [hv]
     cases g with
     | none=>exact put_del0 W b n M h r c k nn s e hb hv hN
     | some g=>exact put_del1 W b n g M h r c k nn s e hb hv hN
   · cases g with
     | none=>exact put_new W b n M h hn r c k nn s e hb _ rfl hk (nm_ok k nn s e hi) hN
     | some g=>exact put_set W b n g M h hn r c k nn s e hb _ rfl hk (nm_ok k nn s e hi) hN
def mStep (M : Bov) (x : Kn) : Bov:=bset M x.r x.c x.v.v
def lStep (L : List Kn) (x : Kn) : List Kn:=putL L x.r x.c x.v.v
def bM (l : List Kn) : Bov:=l.foldl mStep bz
def bL (l : List Kn) : List Kn:=l.foldl lStep []
theorem bM_snoc (l : List Kn) (x : Kn) : bM (l ++ [x]) = bset (bM l) x.r x.c x.v.v:=by unfold bM;rw [List.foldl_append];rfl
theorem bL_snoc (l : List Kn) (x : Kn) : bL (l ++ [x]) = putL (bL l) x.r x.c x.v.v:=by unfold bL;rw [List.foldl_append];rfl
theorem bL_len (l : List Kn) : (bL l).length ≤ l.length:=by
 have : ∀ (l : List Kn) (L : List Kn),(l.foldl lStep L).length ≤ L.length + l.length:=by
   intro l
   induction l with
   | nil=>intro L;exact Nat.le_refl _
   | cons x l ih =>
     intro L
     have h1:=ih (lStep L x)
     have h2:=putL_len x.r x.c x.v.v L
     unfold lStep at h1
     simp only [List.foldl_cons,List.length_cons]
     unfold lStep
     omega
 have h:=this l []
 unfold bL
 simpa using h
theorem map_not_cell {W : World} {g n o : Nat} {M : Bov} {u : Value} (h : MapB W g n M) (hu : W.cell? ⟨g,o,none⟩ = some u) : False:=by
 obtain ⟨D,⟨es,clock,hb,_⟩,_⟩:=h
 unfold World.cell? at hu
 simp only [hb] at hu
 cases hu
structure BdI (W : World) (b d : Nat) (g : Option Nat) (p : Option Addr) (c n : Nat) (M : Bov) (L : List Kn) (wr : World) : Prop where
 e : Ext W wr
 br : Brd wr b g n M
 gl : ∀ k,g = some k → W.heap.size ≤ k
 db : DBr wr d p c L
 pl : ∀ a,p = some a → d < a.block
 hb : W.heap.size ≤ b
 bd : b < d
theorem BdI.ext {W wr w' : World} {b d c n : Nat} {g : Option Nat} {p : Option Addr} {M : Bov} {L : List Kn} (h : BdI W b d g p c n M L wr) (e : Ext wr w') : BdI W b d g p c n M L w' :=
 ⟨h.e.trans e,h.br.ext e,h.gl,h.db.ext e,h.pl,h.hb,h.bd⟩
theorem Brd.notMap {W : World} {b n o : Nat} {g : Option Nat} {M : Bov} (h : Brd W b g n M) {k : Nat} {u : Value} (hu : W.cell? ⟨k,o,none⟩ = some u) : g ≠ some k:=by
 intro e
 subst e
 exact map_not_cell h.map hu
theorem BdI.put {W wr w' : World} {b d c n : Nat} {g g' : Option Nat} {p : Option Addr} {M M' : Bov} {L : List Kn} (h : BdI W b d g p c n M L wr) (hB : Brd w' b g' (n + 1) M') (hg : g' = g ∨ (g = none ∧ ∃ q,g' = some q ∧ wr.heap.size ≤ q)) (e : ExtS (fun k=>k = b ∨ g = some k) wr w') : BdI W b d g' p c (n + 1) M' L w':=by
 have hS : ∀ k,(k = b ∨ g = some k) → W.heap.size ≤ k:=fun k hk=>by
   rcases hk with rfl | hk
   · exact h.hb
   · exact h.gl k hk
 refine ⟨e.ext h.e hS,hB,fun k hk=>?_,h.db.keep e (fun hd=>?_) (fun a ha hL hd=>?_),h.pl,h.hb,h.bd⟩
 · exact K135
 · rcases hd with hd | hd
   · have:=h.bd;omega
   · exact h.br.notMap h.db.cell hd
 · rcases hd with hd | hd
   · have:=h.pl a ha;have:=h.bd;omega
   · obtain ⟨x,hx⟩ : ∃ x,L[0]? = some x:=by
       cases L with
       | nil=>exact absurd rfl hL
       | cons x l=>exact ⟨x,rfl⟩
     obtain ⟨gb,off,hp,_,hc,_⟩:=h.db.rd.at hx
     rw [hp] at ha
     cases ha
     exact h.br.notMap hc hd
theorem BdI.dput {W wr w' : World} {b d c n c' : Nat} {g : Option Nat} {p p' : Option Addr} {M : Bov} {L L' : List Kn} (h : BdI W b d g p c n M L wr) (hD : DBr w' d p' c' L') (hp : p' = p ∨ ∀ a,p' = some a → wr.heap.size ≤ a.block) (e : ExtB d wr w') : BdI W b d g p' c' n M L' w':=by
 have eS : ExtS (fun k=>k = d) wr w':=⟨e.os,e.tape,e.output,e.size,fun k hk hn=>e.block k hk hn⟩
 refine ⟨e.ext h.e (by have:=h.hb;have:=h.bd;omega),h.br.keep eS (by have:=h.bd;omega) (fun k hk hd=>by subst hd;exact h.br.notMap h.db.cell hk),h.gl,hD,fun a ha=>?_,h.hb,h.bd⟩
 rcases hp with rfl | hp
 · exact h.pl a ha
 · have:=hp a ha;have:=h.db.lt;omega
def BoQ (W : World) (l : List Kn) (e : Ending) (w' : World) : Prop:=∃ d g p c,e = .returned (.tuple #[.pointer (some ⟨W.heap.size,0,none⟩),.pointer (some ⟨d,0,none⟩)]) ∧ BdI W W.heap.size d g p c 200 (bM (l.take 200)) (bL (l.take 200)) w'
theorem boards_any (W : World) (l : List Kn) (pp : Option Addr) (n cl : Nat) (hI : RdKn W (.slice pp n cl) l) (hk : KnI l) (hN : Nm W) :
   Calls Tryz.prog 8 #[.slice pp n cl] W (BoQ W l):=by
 have hn:=hI.len
 have cN:=fun W=>new_any W
 have HI : Hid (RdKn W (.slice pp n cl) l ∧ KnI l ∧ Nm W ∧ n = l.length):=⟨hI,hk,hN,hn⟩
 clear hI hk hN hn
 go_enter func8,ntmps8
 go_wp2_with fail
 refine (cN _).mono ?_
 rintro e w0 ⟨rfl,hB0,E0⟩
 have HZ : Hid (BdI W W.heap.size w0.heap.size none none 0 0 bz [] (w0.alloc (.cells #[.slice none 0 0] 31))):=by
   refine ⟨E0.alloc _,hB0.ext (xr.alloc _),fun k hk=>(by cases hk),⟨by simp,by simp [go_sem],by simp [go_sem],RdKn.nil _,fun a ha=>(by cases ha)⟩,fun a ha=>(by cases ha),Nat.le_refl _,hB0.lt⟩
 clear hB0 E0 cN
 go_wp2_with fail
 go_loopw [6] (fun iv wr=>∃ (j : Nat) (g : Option Nat) (pd : Option Addr) (cd : Nat),iv = .int .i64 (j : Int) ∧ j ≤ n ∧ j ≤ 200 ∧ BdI W W.heap.size w0.heap.size g pd cd j (bM (l.take j)) (bL (l.take j)) wr) (fun iv _=>200 - (intOf iv).toNat)
 case atStart=>exact ⟨0,_,_,_,rfl,Nat.zero_le _,Nat.zero_le _,HZ.out⟩
 case round =>
   clear HZ
   obtain ⟨j,g,pd,cd,rfl,hj,hj2,hS⟩:=hrel
   have HB0 : Hid (BdI W W.heap.size w0.heap.size g pd cd j (bM (l.take j)) (bL (l.take j)) wr):=hS
   clear hS
   by_cases hlt : j < n
   · have hltI : (j : Int) < (n : Int):=J2
     have t1 : decide ((j : Int) < (n : Int)) = true:=J103
     by_cases h200 : j < 200
     · have h200I : (j : Int) < 200:=J2
       obtain ⟨x,hx⟩ : ∃ x,l[j]? = some x:=⟨_,gEq (by rw [← HI.out.2.2.2];exact hlt)⟩
       have HX : Hid (l[j]? = some x ∧ I64 x.r ∧ I64 x.c ∧ I64 x.v.n):=⟨hx,HI.out.2.1 x (List.mem_of_getElem? hx)⟩
       obtain ⟨gb,off,rfl,hgb,c0,c1,c2,c3,c4,c5⟩:=HI.out.1.at hx
       have mkS : Hid (∀ W2,Ext W W2 → (fun W2=>W2.cell? ⟨gb,off + j * 6,none⟩ = some (.int .i64 x.r) ∧ W2.cell? ⟨gb,off + j * 6 + 1,none⟩ = some (.int .i64 x.c) ∧ W2.cell? ⟨gb,off + j * 6 + 2,none⟩ = some (.int .i64 x.v.k) ∧ W2.cell? ⟨gb,off + j * 6 + 3,none⟩ = some (.int .i64 x.v.n) ∧ W2.cell? ⟨gb,off + j * 6 + 4,none⟩ = some (.string x.v.s) ∧ W2.cell? ⟨gb,off + j * 6 + 5,none⟩ = some (.int .i64 x.v.e)) W2):=fun W2 e=>by
         have k:=fun o=>e.cell.1 gb o hgb
         exact ⟨(k _).trans c0,(k _).trans c1,(k _).trans c2,(k _).trans c3,(k _).trans c4,(k _).trans c5⟩
       have cP:=fun V (g : Option Nat) (h : BdI W W.heap.size w0.heap.size g pd cd j (bM (l.take j)) (bL (l.take j)) V)=>put_any V.drew W.heap.size j g (bM (l.take j)) (h.br.ext xr.drew) J2 x.r x.c x.v.k x.v.n x.v.s x.v.e HX.out.2.2.2 (HI.out.2.2.1.ext h.e.drew)
       have HLL : Hid ((bL (l.take j)).length ≤ 1000):=by
         show _ ≤ _
         have h1:=bL_len (l.take j)
         have h2 : (l.take j).length ≤ j:=J6
         omega
       have cD:=fun V (g : Option Nat) (h : BdI W W.heap.size w0.heap.size g pd cd (j + 1) (bset (bM (l.take j)) x.r x.c x.v.v) (bL (l.take j)) V)=>dput_any V.drew w0.heap.size cd pd (bL (l.take j)) (h.db.ext xr.drew) HLL.out x.r x.c x.v.k x.v.n x.v.s x.v.e
       have HT : Hid (l.take (j + 1) = l.take j ++ [x]):=by show _ = _;rw [List.take_add_one,hx];rfl
       have HJ : Hid (j < n ∧ j < 200):=⟨hlt,h200⟩
       clear c0 c1 c2 c3 c4 c5 hgb hx hlt h200 hj hj2
       go_wp2_with fail
       refine wp_region_held_drew (S:=(fun W2=>W2.cell? ⟨gb,off + j * 6,none⟩ = some (.int .i64 x.r) ∧ W2.cell? ⟨gb,off + j * 6 + 1,none⟩ = some (.int .i64 x.c) ∧ W2.cell? ⟨gb,off + j * 6 + 2,none⟩ = some (.int .i64 x.v.k) ∧ W2.cell? ⟨gb,off + j * 6 + 3,none⟩ = some (.int .i64 x.v.n) ∧ W2.cell? ⟨gb,off + j * 6 + 4,none⟩ = some (.string x.v.s) ∧ W2.cell? ⟨gb,off + j * 6 + 5,none⟩ = some (.int .i64 x.v.e))) J3 ?_ (fun hHeld0=>?_)
       · (first | exact mkS.out _ HB0.out.e.drew | exact mkS.out _ HB1.out.e | exact mkS.out _ HB1.out.e.drew | exact mkS.out _ HB2.out.e)
       refine tkI (i:=0) (oi:=⟨some 22,.move (.tmp 4),25,"law.go:38",#[],none⟩) ?_
       try simp only [Act.put,List.setIfInBounds_toArray,List.set_cons_zero,List.set_cons_succ]
       refine tkI (i:=1) (oi:=⟨some 23,.move (.tmp 0),22,"law.go:38",#[],none⟩) ?_
       try simp only [Act.put,List.setIfInBounds_toArray,List.set_cons_zero,List.set_cons_succ]
       refine tkI (i:=2) (oi:=⟨some 24,.move (.tmp 6),3,"law.go:38",#[],none⟩) ?_
       try simp only [Act.put,List.setIfInBounds_toArray,List.set_cons_zero,List.set_cons_succ]
       refine tkI (i:=3) (oi:=⟨some 25,.indexAddr 22 (.tmp 23) (.tmp 24),0,"law.go:38",#[⟨1,.data⟩,⟨2,.data⟩],none⟩) ?_
       try simp only [Act.put,List.setIfInBounds_toArray,List.set_cons_zero,List.set_cons_succ]
       refine tkI (i:=4) (oi:=⟨some 26,.fieldAddr 35 (.tmp 25) 0,0,"law.go:38",#[⟨3,.data⟩],none⟩) ?_
       try simp only [Act.put,List.setIfInBounds_toArray,List.set_cons_zero,List.set_cons_succ]
       refine tkI (i:=5) (oi:=⟨some 27,.load 3 (.tmp 26),3,"law.go:38",#[⟨4,.data⟩],none⟩) ?_
       try simp only [Act.put,List.setIfInBounds_toArray,List.set_cons_zero,List.set_cons_succ]
       refine tkI (i:=6) (oi:=⟨some 28,.move (.tmp 0),22,"law.go:38",#[],none⟩) ?_
       try simp only [Act.put,List.setIfInBounds_toArray,List.set_cons_zero,List.set_cons_succ]
       refine tkI (i:=7) (oi:=⟨some 29,.move (.tmp 6),3,"law.go:38",#[],none⟩) ?_
       try simp only [Act.put,List.setIfInBounds_toArray,List.set_cons_zero,List.set_cons_succ]
       refine tkI (i:=8) (oi:=⟨some 30,.indexAddr 22 (.tmp 28) (.tmp 29),0,"law.go:38",#[⟨6,.data⟩,⟨7,.data⟩],none⟩) ?_
       try simp only [Act.put,List.setIfInBounds_toArray,List.set_cons_zero,List.set_cons_succ]
       refine tkI (i:=9) (oi:=⟨some 31,.fieldAddr 35 (.tmp 30) 1,0,"law.go:38",#[⟨8,.data⟩],none⟩) ?_
       try simp only [Act.put,List.setIfInBounds_toArray,List.set_cons_zero,List.set_cons_succ]
       refine tkI (i:=10) (oi:=⟨some 32,.load 3 (.tmp 31),3,"law.go:38",#[⟨9,.data⟩],none⟩) ?_
       try simp only [Act.put,List.setIfInBounds_toArray,List.set_cons_zero,List.set_cons_succ]
       refine tkI (i:=11) (oi:=⟨some 33,.move (.tmp 0),22,"law.go:38",#[],none⟩) ?_
       try simp only [Act.put,List.setIfInBounds_toArray,List.set_cons_zero,List.set_cons_succ]
       refine tkI (i:=12) (oi:=⟨some 34,.move (.tmp 6),3,"law.go:38",#[],none⟩) ?_
       try simp only [Act.put,List.setIfInBounds_toArray,List.set_cons_zero,List.set_cons_succ]
       refine tkI (i:=13) (oi:=⟨some 35,.indexAddr 22 (.tmp 33) (.tmp 34),0,"law.go:38",#[⟨11,.data⟩,⟨12,.data⟩],none⟩) ?_
       try simp only [Act.put,List.setIfInBounds_toArray,List.set_cons_zero,List.set_cons_succ]
       refine tkI (i:=14) (oi:=⟨some 36,.fieldAddr 35 (.tmp 35) 2,0,"law.go:38",#[⟨13,.data⟩],none⟩) ?_
       try simp only [Act.put,List.setIfInBounds_toArray,List.set_cons_zero,List.set_cons_succ]
       refine tkI (i:=15) (oi:=⟨some 37,.load 33 (.tmp 36),33,"law.go:38",#[⟨14,.data⟩],none⟩) ?_
       try simp only [Act.put,List.setIfInBounds_toArray,List.set_cons_zero,List.set_cons_succ]
       refine wpAnyH_ready (rs:=[16]) J3 J60 ?_
       refine AllReadyH.cons (o:=⟨some 38,.call { callee:=.value (.func 22),args:=#[.tmp 22,.tmp 27,.tmp 32,.tmp 37],argTypes:=#[25,3,3,33] },0,"law.go:38",#[⟨0,.data⟩,⟨5,.data⟩,⟨10,.data⟩,⟨15,.data⟩],none⟩) rfl (fun K hK=>?_) AllReadyH.nil
       go_simp
       refine (cP _ _ HB0.out).mono ?_;rintro e w1 ⟨rfl,g1,hB1,hg1,S1⟩;have HB1 : Hid (BdI W W.heap.size w0.heap.size g1 pd cd (j + 1) (bset (bM (l.take j)) x.r x.c x.v.v) (bL (l.take j)) w1):=(HB0.out.ext xr.drew).put hB1 hg1 S1;clear hB1 hg1 S1
       try go_wp2_with fail
       refine hK.out _ _ ?_ (fun hHeld1=>?_)
       · (try dsimp only);(first | exact mkS.out _ HB0.out.e.drew | exact mkS.out _ HB1.out.e | exact mkS.out _ HB1.out.e.drew | exact mkS.out _ HB2.out.e)
       clear hK K hHeld0
       try simp only [Act.put,List.setIfInBounds_toArray,List.set_cons_zero,List.set_cons_succ]
       refine wpAnyH_done J3 ?_ _
       go_wp2_with fail
       refine wp_region_held_drew (S:=(fun W2=>W2.cell? ⟨gb,off + j * 6,none⟩ = some (.int .i64 x.r) ∧ W2.cell? ⟨gb,off + j * 6 + 1,none⟩ = some (.int .i64 x.c) ∧ W2.cell? ⟨gb,off + j * 6 + 2,none⟩ = some (.int .i64 x.v.k) ∧ W2.cell? ⟨gb,off + j * 6 + 3,none⟩ = some (.int .i64 x.v.n) ∧ W2.cell? ⟨gb,off + j * 6 + 4,none⟩ = some (.string x.v.s) ∧ W2.cell? ⟨gb,off + j * 6 + 5,none⟩ = some (.int .i64 x.v.e))) J3 ?_ (fun hHeld0=>?_)
       · (first | exact mkS.out _ HB0.out.e.drew | exact mkS.out _ HB1.out.e | exact mkS.out _ HB1.out.e.drew | exact mkS.out _ HB2.out.e)
       refine tkI (i:=0) (oi:=⟨some 39,.move (.tmp 5),26,"law.go:39",#[],none⟩) ?_
       try simp only [Act.put,List.setIfInBounds_toArray,List.set_cons_zero,List.set_cons_succ]
       refine tkI (i:=1) (oi:=⟨some 40,.move (.tmp 0),22,"law.go:39",#[],none⟩) ?_
       try simp only [Act.put,List.setIfInBounds_toArray,List.set_cons_zero,List.set_cons_succ]
       refine tkI (i:=2) (oi:=⟨some 41,.move (.tmp 6),3,"law.go:39",#[],none⟩) ?_
       try simp only [Act.put,List.setIfInBounds_toArray,List.set_cons_zero,List.set_cons_succ]
       refine tkI (i:=3) (oi:=⟨some 42,.indexAddr 22 (.tmp 40) (.tmp 41),0,"law.go:39",#[⟨1,.data⟩,⟨2,.data⟩],none⟩) ?_
       try simp only [Act.put,List.setIfInBounds_toArray,List.set_cons_zero,List.set_cons_succ]
       refine tkI (i:=4) (oi:=⟨some 43,.fieldAddr 35 (.tmp 42) 0,0,"law.go:39",#[⟨3,.data⟩],none⟩) ?_
       try simp only [Act.put,List.setIfInBounds_toArray,List.set_cons_zero,List.set_cons_succ]
       refine tkI (i:=5) (oi:=⟨some 44,.load 3 (.tmp 43),3,"law.go:39",#[⟨4,.data⟩],none⟩) ?_
       try simp only [Act.put,List.setIfInBounds_toArray,List.set_cons_zero,List.set_cons_succ]
       refine tkI (i:=6) (oi:=⟨some 45,.move (.tmp 0),22,"law.go:39",#[],none⟩) ?_
       try simp only [Act.put,List.setIfInBounds_toArray,List.set_cons_zero,List.set_cons_succ]
       refine tkI (i:=7) (oi:=⟨some 46,.move (.tmp 6),3,"law.go:39",#[],none⟩) ?_
       try simp only [Act.put,List.setIfInBounds_toArray,List.set_cons_zero,List.set_cons_succ]
       refine tkI (i:=8) (oi:=⟨some 47,.indexAddr 22 (.tmp 45) (.tmp 46),0,"law.go:39",#[⟨6,.data⟩,⟨7,.data⟩],none⟩) ?_
       try simp only [Act.put,List.setIfInBounds_toArray,List.set_cons_zero,List.set_cons_succ]
       refine tkI (i:=9) (oi:=⟨some 48,.fieldAddr 35 (.tmp 47) 1,0,"law.go:39",#[⟨8,.data⟩],none⟩) ?_
       try simp only [Act.put,List.setIfInBounds_toArray,List.set_cons_zero,List.set_cons_succ]
       refine tkI (i:=10) (oi:=⟨some 49,.load 3 (.tmp 48),3,"law.go:39",#[⟨9,.data⟩],none⟩) ?_
       try simp only [Act.put,List.setIfInBounds_toArray,List.set_cons_zero,List.set_cons_succ]
       refine tkI (i:=11) (oi:=⟨some 50,.move (.tmp 0),22,"law.go:39",#[],none⟩) ?_
       try simp only [Act.put,List.setIfInBounds_toArray,List.set_cons_zero,List.set_cons_succ]
       refine tkI (i:=12) (oi:=⟨some 51,.move (.tmp 6),3,"law.go:39",#[],none⟩) ?_
       try simp only [Act.put,List.setIfInBounds_toArray,List.set_cons_zero,List.set_cons_succ]
       refine tkI (i:=13) (oi:=⟨some 52,.indexAddr 22 (.tmp 50) (.tmp 51),0,"law.go:39",#[⟨11,.data⟩,⟨12,.data⟩],none⟩) ?_
       try simp only [Act.put,List.setIfInBounds_toArray,List.set_cons_zero,List.set_cons_succ]
       refine tkI (i:=14) (oi:=⟨some 53,.fieldAddr 35 (.tmp 52) 2,0,"law.go:39",#[⟨13,.data⟩],none⟩) ?_
       try simp only [Act.put,List.setIfInBounds_toArray,List.set_cons_zero,List.set_cons_succ]
       refine tkI (i:=15) (oi:=⟨some 54,.load 33 (.tmp 53),33,"law.go:39",#[⟨14,.data⟩],none⟩) ?_
       try simp only [Act.put,List.setIfInBounds_toArray,List.set_cons_zero,List.set_cons_succ]
       refine wpAnyH_ready (rs:=[16]) J3 J60 ?_
       refine AllReadyH.cons (o:=⟨some 55,.call { callee:=.value (.func 27),args:=#[.tmp 39,.tmp 44,.tmp 49,.tmp 54],argTypes:=#[26,3,3,33] },0,"law.go:39",#[⟨0,.data⟩,⟨5,.data⟩,⟨10,.data⟩,⟨15,.data⟩],none⟩) rfl (fun K hK=>?_) AllReadyH.nil
       go_simp
       refine (cD _ _ HB1.out).mono ?_;rintro e w2 ⟨rfl,p2,c2,hD2,hp2,E2⟩;have HB2 : Hid (BdI W W.heap.size w0.heap.size g1 p2 c2 (j + 1) (bset (bM (l.take j)) x.r x.c x.v.v) (putL (bL (l.take j)) x.r x.c x.v.v) w2):=(HB1.out.ext xr.drew).dput hD2 hp2 E2;clear hD2 hp2 E2
       try go_wp2_with fail
       refine hK.out _ _ ?_ (fun hHeld1=>?_)
       · (try dsimp only);(first | exact mkS.out _ HB0.out.e.drew | exact mkS.out _ HB1.out.e | exact mkS.out _ HB1.out.e.drew | exact mkS.out _ HB2.out.e)
       clear hK K hHeld0
       try simp only [Act.put,List.setIfInBounds_toArray,List.set_cons_zero,List.set_cons_succ]
       refine wpAnyH_done J3 ?_ _
       go_wp2_with fail
       go_roundw
       case rel=>exact ⟨j + 1,_,_,_,by go_num,HJ.out.1,HJ.out.2,by rw [HT.out,bM_snoc,bL_snoc];exact HB2.out⟩
       case measure=>exact (by show 200 - ((j : Int) + 1).toNat < 200 - ((j : Int)).toNat;have:=HJ.out;omega)
     · have h200I : ¬ (j : Int) < 200:=J2
       have HE : Hid (l.take j = l.take 200 ∧ j ≤ 200):=⟨by rw [show j = 200 by omega],hj2⟩
       clear hlt h200 hj hj2
       exact K105
   · have hltI : ¬ (j : Int) < (n : Int):=J2
     have t1 : decide ((j : Int) < (n : Int)) = false:=J103
     have HE : Hid (l.take j = l.take 200 ∧ j ≤ 200):=by
       have h1:=HI.out.2.2.2
       exact ⟨by rw [List.take_of_length_le J2,List.take_of_length_le J2],hj2⟩
     clear hlt hj hj2
     exact K105
end Go.Proofs.YtcfgbiaahangmaaGreatDoor
