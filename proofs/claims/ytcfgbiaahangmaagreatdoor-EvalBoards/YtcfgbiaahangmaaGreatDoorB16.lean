import Derived.Test.YtcfgbiaahangmaaGreatDoorB15
import Derived.Shelf.Strings.BuilderX
import Derived.Lib.Builder
import Derived.Laws.AppendOwn
import Derived.LoopN
set_option maxHeartbeats 1000000
set_option maxRecDepth 100000
namespace Go.Proofs.YtcfgbiaahangmaaGreatDoor
open Go.Proofs.Tryz
open Go.ChangeShapes Go.WideShapes Go.RowKit
open Go.Deep (choose_lt)
def cK (x : Kn) : List Value:=[.int .i64 x.r,.int .i64 x.c,.int .i64 x.v.k,.int .i64 x.v.n,.string x.v.s,.int .i64 x.v.e]
theorem cK_len (x : Kn) : (cK x).length = 6:=rfl
theorem cK_one (l : List Kn) : ∀ u ∈ l.flatMap cK,u.oneCell' = true:=by
 intro u hu
 obtain ⟨r,_,hu⟩:=List.mem_flatMap.1 hu
 simp [cK] at hu
 rcases hu with rfl | rfl | rfl | rfl | rfl | rfl <;> rfl
theorem eltK : Elt 22 35 6 56:=by
 refine ⟨Tryz.underlying22,?_,by decide⟩
 have h1 : (Tryz.prog.info? 35).isSome = true:=J3
 have h2 : (Tryz.prog.info? 35).bind (fun i=>i.zero) = some (.agg #[.int .i64 0,.int .i64 0,.int .i64 0,.int .i64 0,.string ⟨#[]⟩,.int .i64 0]):=J3
 have h3 : (Tryz.prog.info? 35).map (fun i=>(i.size,i.bytes)) = some (6,56):=J3
 cases h : Tryz.prog.info? 35 with
 | none=>rw [h] at h1;cases h1
 | some i =>
   exact K122
def RdKn (W : World) (v : Value) (l : List Kn) : Prop :=
 ∃ p c,v = .slice p l.length c ∧ l.length ≤ c ∧ (l = [] ∨ ∃ b off,p = some ⟨b,off,none⟩ ∧ b < W.heap.size ∧ ∀ i x j u,l[i]? = some x → (cK x)[j]? = some u → W.cell? ⟨b,off + i * 6 + j,none⟩ = some u)
theorem RdKn.len {W : World} {p : Option Addr} {n c : Nat} {l : List Kn} (h : RdKn W (.slice p n c) l) : n = l.length:=by
 obtain ⟨p',c',h1,_⟩:=h
 cases h1;rfl
theorem RdKn.form {W : World} {v : Value} {l : List Kn} (h : RdKn W v l) : ∃ p n c,v = .slice p n c ∧ n = l.length ∧ n ≤ c:=by
 exact K95
theorem RdKn.keep {W W' : World} {p : Option Addr} {n c : Nat} {l : List Kn} (h : RdKn W (.slice p n c) l) (hs : W.heap.size ≤ W'.heap.size) (hk : ∀ a,p = some a → l ≠ [] → W'.heap[a.block]? = W.heap[a.block]?) : RdKn W' (.slice p n c) l:=by
 obtain ⟨p',c',h1,h2,h3⟩:=h
 cases h1
 refine ⟨p,c,rfl,h2,?_⟩
 rcases h3 with h3 | ⟨b,off,rfl,h5,h6⟩
 · exact .inl h3
 · refine .inr ⟨b,off,rfl,llL h5 hs,fun i x j u hi hj=>?_⟩
   have:=h6 i x j u hi hj
   unfold World.cell? at this ⊢
   rw [show W'.heap[b]? = W.heap[b]? from hk _ rfl (fun e=>by rw [e] at hi;simp at hi)]
   exact this
theorem RdKn.ext {W W' : World} {v : Value} {l : List Kn} (h : RdKn W v l) (e : Ext W W') : RdKn W' v l:=by
 obtain ⟨p,c,h1,h2,h3⟩:=h
 refine ⟨p,c,h1,h2,?_⟩
 rcases h3 with h3 | ⟨b,off,h4,h5,h6⟩
 · exact .inl h3
 · exact .inr ⟨b,off,h4,llL h5 e.size,fun i x j u hi hj=>(e.cell.1 b _ h5).trans (h6 i x j u hi hj)⟩
theorem RdKn.nil (W : World) : RdKn W (.slice none 0 0) []:=⟨none,0,rfl,Nat.le_refl _,.inl rfl⟩
theorem RdKn.at {W : World} {p : Option Addr} {n c : Nat} {l : List Kn} (h : RdKn W (.slice p n c) l) {i : Nat} {x : Kn} (hi : l[i]? = some x) :
   ∃ b off,p = some ⟨b,off,none⟩ ∧ b < W.heap.size ∧ W.cell? ⟨b,off + i * 6,none⟩ = some (.int .i64 x.r) ∧ W.cell? ⟨b,off + i * 6 + 1,none⟩ = some (.int .i64 x.c) ∧ W.cell? ⟨b,off + i * 6 + 2,none⟩ = some (.int .i64 x.v.k) ∧ W.cell? ⟨b,off + i * 6 + 3,none⟩ = some (.int .i64 x.v.n) ∧ W.cell? ⟨b,off + i * 6 + 4,none⟩ = some (.string x.v.s) ∧ W.cell? ⟨b,off + i * 6 + 5,none⟩ = some (.int .i64 x.v.e):=by
 obtain ⟨p',c',h1,h2,h3⟩:=h
 cases h1
 rcases h3 with h3 | ⟨b,off,h4,h5,h6⟩
 · subst h3;simp at hi
 · exact ⟨b,off,h4,h5,h6 i x 0 _ hi rfl,h6 i x 1 _ hi rfl,h6 i x 2 _ hi rfl,h6 i x 3 _ hi rfl,h6 i x 4 _ hi rfl,h6 i x 5 _ hi rfl⟩
theorem RdKn.row {W : World} {v : Value} {l : List Kn} (h : RdKn W v l) : RowC W v l.length 6 (l.flatMap cK):=by
 obtain ⟨p,c,h1,h2,h3⟩:=h
 refine ⟨fm_len cK 6 cK_len l,p,c,h1,?_⟩
 rcases h3 with rfl | ⟨b,off,rfl,_,h6⟩
 · exact K134
 · refine .inr ⟨_,rfl,fun j u hu=>?_⟩
   obtain ⟨r,hr,hu⟩:=fm_get cK 6 cK_len J9 l j u hu
   have:=h6 _ r _ u hr hu
   rw [Addr.add_lit]
   rw [show off + j = off + j / 6 * 6 + j % 6 by omega]
   exact this
theorem own_rdK {W : World} {base : Nat} {v : Value} {l : List Kn} {n : Nat} (h : W.ownsRow base 35 6 v n (l.flatMap cK)) (hn : n = l.length) : RdKn W v l:=by
 subst hn
 rcases h.2 with ⟨rfl,h0⟩ | ⟨g,cap,cur,rfl,h2,h3,h4,h5⟩
 · have : l = []:=List.eq_nil_of_length_eq_zero h0
   subst this
   exact RdKn.nil W
 · have hg : g < W.heap.size:=(Array.getElem?_eq_some_iff.1 h3).1
   refine ⟨_,cap,rfl,h4,.inr ⟨g,0,rfl,hg,fun i x j u hi hj=>?_⟩⟩
   have hj6 : j < 6:=by have:=(List.getElem?_eq_some_iff.1 hj).1;exact this
   have k:=h.cells (g:=g) rfl (i * 6 + j) u (by rw [fm_at cK 6 cK_len l i x j hi hj6];exact hj)
   simp only [Addr.add_lit] at k
   rw [show 0 + i * 6 + j = 0 + (i * 6 + j) by omega]
   exact k
theorem RdKn.part {W : World} {b off n c : Nat} {l : List Kn} (h : RdKn W (.slice (some ⟨b,off,none⟩) n c) l) (i j : Nat) (hij : i ≤ j) (hj : j ≤ l.length) : RdKn W (.slice (some ⟨b,off + i * 6,none⟩) (j - i) (c - i)) ((l.take j).drop i):=by
 obtain ⟨p',c',h1,h2,h3⟩:=h
 cases h1
 have hl : ((l.take j).drop i).length = j - i:=J7
 refine ⟨_,c - i,by rw [hl],by rw [hl];omega,?_⟩
 rcases h3 with h3 | ⟨b',off',h4,h5,h6⟩
 · subst h3;exact .inl J58
 · cases h4
   refine .inr ⟨b,off + i * 6,rfl,h5,fun k x q u hk hq=>?_⟩
   have hx : l[i + k]? = some x:=by
     rw [List.getElem?_drop,List.getElem?_take] at hk
     split at hk
     · exact hk
     · cases hk
   have:=h6 _ x q u hx hq
   rw [show off + i * 6 + k * 6 + q = off + (i + k) * 6 + q by omega]
   exact this
theorem qc_known : Tryz.prog.cellsOf 35 = 6:=J3
section
variable {H : Type} {enc : TypeId × Value → H} {w : World} {base : Nat} {sp : Nat → Bool} {hd : Bool}
theorem open_kn {fuel : Nat} {cs : List Value} {x : DataW H × List MemPlace} (hl : cs.length = 6) (h : DataW.trod enc Tryz.prog w base sp hd fuel 35 cs = some x) :
   ∃ y : Kn,cs = cK y ∧ I64 y.r ∧ I64 y.c ∧ I64 y.v.n:=by
 obtain ⟨xs,n,rfl,_,hlen,hxl,hf⟩:=DataW.trod_struct Tryz.underlying35 h
 match cs,hl with
 | [c0,c1,c2,c3,c4,c5],_ =>
   have hx : ∀ i,i < 3 → ∃ y,xs[i]? = some y:=fun i hi=>⟨_,gEq (by rw [hxl];exact hi)⟩
   obtain ⟨y0,g0⟩:=hx 0 J9
   obtain ⟨y1,g1⟩:=hx 1 J9
   obtain ⟨y2,g2⟩:=hx 2 J9
   have f0:=(hf 0 _ rfl).trans g0
   have f1:=(hf 1 _ rfl).trans g1
   have f2:=(hf 2 _ rfl).trans g2
   simp [qc_int,qc_value] at f0 f1 f2
   obtain ⟨a0,e0,_,w0⟩:=DataW.trod_int Tryz.underlying3 f0
   obtain ⟨a1,e1,_,w1⟩:=DataW.trod_int Tryz.underlying3 f1
   obtain ⟨r,hr,wr⟩:=open_val rfl f2
   simp only [List.cons.injEq,and_true] at e0 e1 hr
   obtain ⟨rfl,rfl,rfl,rfl⟩:=hr
   subst e0 e1
   exact ⟨⟨a0,a1,r⟩,rfl,i64_of_wf w0,i64_of_wf w1,wr⟩
def KnI (l : List Kn) : Prop:=∀ x ∈ l,I64 x.r ∧ I64 x.c ∧ I64 x.v.n
theorem open_kns {fuel : Nat} {c : Value} {x : DataW H × List MemPlace} (h : DataW.trod enc Tryz.prog w base sp hd fuel 22 [c] = some x) :
   ∃ l,RdKn w c l ∧ KnI l ∧ l.length ≤ maxLen:=by
 rcases DataW.trod_slice Tryz.underlying22 h with ⟨e6,_⟩ | ⟨a,len,cap,elems,rest,n',hn',e6,_,hb,hl,hm,hel,hx,_,_⟩
 · simp only [List.cons.injEq,and_true] at e6
   subst e6
   exact ⟨[],RdKn.nil w,(fun r hr=>by cases hr),by simp⟩
 · simp only [List.cons.injEq,and_true] at e6
   subst e6
   rw [qc_known] at hx
   have each : ∀ i,i < len → ∃ y : Kn,(∀ j u,(cK y)[j]? = some u → w.cell? ((a.add (i * 6)).add j) = some u) ∧ I64 y.r ∧ I64 y.c ∧ I64 y.v.n:=by
     intro i hi
     have h0:=hx i hi
     rw [gEq (show i < elems.length by omega)] at h0
     obtain ⟨cs',h1,h2⟩:=Option.bind_eq_some_iff.1 h0
     obtain ⟨_,k1,k2⟩:=World.cells?_some h1
     obtain ⟨r,rfl,hr⟩:=open_kn (by simpa using k1) h2
     refine ⟨r,fun j u hu=>?_,hr⟩
     rw [← hu]
     refine k2 j ?_
     have:=(List.getElem?_eq_some_iff.1 hu).1
     rw [← k1];exact this
   obtain ⟨f,hf⟩:=choose_lt each
   by_cases h0 : len = 0
   · subst h0
     exact ⟨[],⟨_,_,rfl,by omega,.inl rfl⟩,(fun r hr=>by cases hr),by simp⟩
   obtain ⟨b,off,spot⟩:=a
   have hz:=(hf 0 J2).1 0 _ rfl
   have hspot : spot = none:=by simpa [Addr.add] using World.cell?_spot hz
   subst hspot
   have hblt : b < w.heap.size:=World.block_lt_of_cell? _ _ hz
   have hgl : ((List.range len).map f).length = len:=J58
   refine ⟨(List.range len).map f,⟨_,cap,by rw [hgl],by omega,.inr ⟨b,off,rfl,hblt,fun i r j u hi hj=>?_⟩⟩,?_,by simp;omega⟩
   · have hi' : i < len:=by
       have:=(List.getElem?_eq_some_iff.1 hi).1
       simpa using this
     rw [List.getElem?_map,List.getElem?_range hi'] at hi
     simp at hi
     subst hi
     have:=(hf i hi').1 j u hj
     simp only [Addr.add_lit] at this
     exact this
   · intro r hr
     obtain ⟨i,hi,rfl⟩:=List.mem_map.1 hr
     exact (hf i (List.mem_range.1 hi)).2
end
open Go.RowKit
theorem zeroV (W : World) : (zeroValue 33).run Tryz.prog W = .ok V.blank.dat W:=J3
theorem new_any (W : World) : Calls Tryz.prog 26 #[] W fun e w'=>e = .returned (.pointer (some ⟨W.heap.size,0,none⟩)) ∧ Brd w' W.heap.size none 0 bz ∧ Ext W w':=by
 go_enter func26,ntmps26
 go_wp2_with fail
 go_ret
 refine ⟨rfl,⟨by simp,by simp [go_sem],by simp [go_sem],by simp,bz_ok,rfl⟩,xr.alloc _⟩
theorem wpList_look {P : Program} (w : World) {ops : Array Oper} {rest : List Oper} {o : Oper} {a : Act} {Q : Exit → Act → World → Prop} (hg : o.guard = none) (m x : Operand) (t : TypeId) (hop : o.op = Op.lookup t m x false)
   (mv xv v : Value) (hm : a.eval m = mv) (hx : a.eval x = xv) (hrun : (Instr.lookup t mv xv false).run P w = .ok v w) (hK : wpList P ops Q rest (a.put o.dst v) w) : wpList P ops Q (o :: rest) a w:=by
 refine wpList_plain hg fun K' hK'=>?_
 unfold Oper.wp
 simp [execOp,hop,hm,hx,hrun,Result.andThen]
 exact hK' _ _ hK
theorem Brd.look {W : World} {b n : Nat} {g : Option Nat} {M : Bov} (h : Brd W b g n M) (r c : Int) (hr : I64 r) (hc : I64 c) : (Instr.lookup 64 (.map g) (.agg #[.int .i64 r,.int .i64 c]) false).run Tryz.prog W = .ok (M r c).dat W:=by
 cases g with
 | none =>
   have hm : M = bz:=h.map
   subst hm
   exact Maps.look_nil false kLaw Tryz.underlying64 (zeroV W) (key_mk r c hr hc)
 | some g =>
   obtain ⟨D,h1,h2⟩:=(show MapB W g n M from h.map)
   obtain ⟨v,ps,h3,h4⟩:=h1.lookup kLaw Tryz.underlying64 (zeroV W) (zd:=.held V.blank.dat) (zp:=[]) rfl (key_mk r c hr hc)
   rw [(h2 r c hr hc).1] at h4
   unfold hR at h4
   simp at h4
   rw [← h4.1]
   exact h3
theorem get_any (W : World) (b n : Nat) (g : Option Nat) (M : Bov) (h : Brd W b g n M) (r c : Int) (hr : I64 r) (hc : I64 c) :
   Calls Tryz.prog 10 #[.pointer (some ⟨b,0,none⟩),.int .i64 r,.int .i64 c] W fun e w'=>e = .returned (M r c).dat ∧ Ext W w':=by
 have h1:=fun W' (e : Ext W W')=>(h.ext e).look r c hr hc
 have h2:=fun W' (e : Ext W W')=>(h.ext e).cell
 have hrun:=h1 _ ((Ext.refl W).alloc (.cells #[.int .i64 0,.int .i64 0,.string ⟨#[]⟩,.int .i64 0] 33))
 have hcell:=h2 _ ((Ext.refl W).alloc (.cells #[.int .i64 0,.int .i64 0,.string ⟨#[]⟩,.int .i64 0] 33))
 clear h1 h2
 rw [dat_eq] at hrun ⊢
 generalize M r c = v at *
 clear h hr hc
 have Hrun : Hid _:=hrun
 clear hrun
 go_enter func10,ntmps10
 go_wp2_with (at_lookup;refine wpList_look _ rfl _ _ _ rfl _ _ _ rfl rfl Hrun.out ?_)
 exact finB (blk_top (w:=W) rfl xr) rfl (xr.alloc _) (fun g0 g1 g2 g3=>by simp [results,results10,go_sem]) (fun h=>⟨rfl,h⟩)
theorem MapB.mono {W : World} {g n m : Nat} {M : Bov} (h : MapB W g n M) (e : n ≤ m) : MapB W g m M:=by
 obtain ⟨D,h1,h2⟩:=h
 exact ⟨D,h1.mono e,h2⟩
theorem Brd.mono {W : World} {b n m : Nat} {g : Option Nat} {M : Bov} (h : Brd W b g n M) (e : n ≤ m) : Brd W b g m M:=by
 refine ⟨h.lt,h.cell,h.fz,h.ne,h.ok,?_⟩
 have:=h.map
 cases g with
 | none=>exact this
 | some g=>exact MapB.mono this e
theorem step_delete {P : Program} {ops : Array Oper} {o : Oper} {a : Act} {w : World} {K : Act → World → Prop} {Q : Exit → Act → World → Prop} {E : Prop}
   (hg : o.guard = none) (m x : Operand) (t k : TypeId) (hop : o.op = Op.call { callee:=Callee.builtin Builtin.delete,args:=#[m,x],argTypes:=#[t,k] }) (mv xv : Value) (hm : a.eval m = mv) (hx : a.eval x = xv) (w' : World)
   (hrun : (Builtin.delete_ #[t,k] o.type #[mv,xv]).run P w = .ok (.tuple #[]) w') (hK : K (a.put o.dst (.tuple #[])) w') : if Region.wanted o (yielded ops a.tmps) = true then Oper.wp P o a w K Q else E:=by
 have hw : Region.wanted o (yielded ops a.tmps) = true:=by simp [Region.wanted,hg]
 rw [if_pos hw]
 unfold Oper.wp
 simp [execOp,hop,resolve,invoke,builtin,hm,hx,hrun,Result.andThen]
 exact hK
theorem step_update {P : Program} {ops : Array Oper} {o : Oper} {a : Act} {w : World} {K : Act → World → Prop} {Q : Exit → Act → World → Prop} {E : Prop}
   (hg : o.guard = none) (m x v : Operand) (t : TypeId) (hop : o.op = Op.mapUpdate t m x v) (mv xv vv : Value) (hm : a.eval m = mv) (hx : a.eval x = xv) (hv : a.eval v = vv) (w' : World)
   (hrun : (Instr.mapUpdate t mv xv vv).run P w = .ok () w') (hK : K (a.put o.dst undef) w') : if Region.wanted o (yielded ops a.tmps) = true then Oper.wp P o a w K Q else E:=by
 have hw : Region.wanted o (yielded ops a.tmps) = true:=by simp [Region.wanted,hg]
 rw [if_pos hw]
 unfold Oper.wp
 simp [execOp,hop,hm,hx,hv,hrun,Result.andThen]
 exact hK
theorem grown_extS {W W2 w9 : World} {g : Nat} {S : Nat → Prop} (X : Ext W W2) (h : W2.grownBy w9 (some g)) (hS : S g) : ExtS S W w9 :=
 ⟨h.os.trans X.os,h.tape.trans X.tape,h.output.trans X.output,Nat.le_trans X.size h.size,fun k hk hs=>(h.block k (llL hk X.size) (fun e=>by cases e;exact hs hS)).trans (X.block k hk)⟩
theorem eq_map1 (g : Nat) (W : World) : (binOp .eql 64 (.map (some g)) (.map none)).run Tryz.prog W = .ok (.bool false) W:=by
 have h:=Tryz.underlying64
 exact K60
theorem eq_map0 (W : World) : (binOp .eql 64 (.map none) (.map none)).run Tryz.prog W = .ok (.bool true) W:=by
 have h:=Tryz.underlying64
 exact K60
theorem grown_drew {W2 w9 : World} {row : Option Nat} (h : W2.drew.grownBy w9 row) : W2.grownBy w9 row:=⟨h.os,h.tape,h.output,h.size,h.block⟩
theorem grown_extT {W W2 w9 : World} {g : Nat} {S : Nat → Prop} (X : ExtS S W W2) (h : W2.grownBy w9 (some g)) (hS : S g ∨ W.heap.size ≤ g) : ExtS S W w9 :=
 ⟨h.os.trans X.os,h.tape.trans X.tape,h.output.trans X.output,Nat.le_trans X.size h.size,fun k hk hs=>(h.block k (llL hk X.size) (fun e=>by
   cases e
   rcases hS with hS | hS
   · exact hs hS
   · omega)).trans (X.block k hk hs)⟩
theorem Brd.turn {W2 w9 : World} {b g n n' : Nat} {M M' : Bov} (h : Brd W2 b (some g) n M) (hg : W2.grownBy w9 (some g)) (hm : MapB w9 g n' M') (ok : BdOk M') : Brd w9 b (some g) n' M':=by
 have hne : some b ≠ some g:=fun e=>h.ne e.symm
 have k:=cell_of_heap (hg.block b h.lt hne) 0
 exact ⟨llL h.lt hg.size,k.1.trans h.cell,k.2.trans h.fz,h.ne,ok,hm⟩
theorem bput_ok {M : Bov} (h : BdOk M) {r c : Int} (hi : inB r c = true) {v : V} (hv : v.ok) : BdOk (bput M r c v):=by
 have:=bset_ok h r c v hv
 unfold bset at this
 rwa [if_pos hi] at this
theorem in_i {r c : Int} (h : inB r c = true) : I64 r ∧ I64 c:=by simp [inB] at h;exact ⟨⟨by omega,by omega⟩,⟨by omega,by omega⟩⟩
def PutQ (W : World) (b n : Nat) (g : Option Nat) (M : Bov) (e : Ending) (w' : World) : Prop :=
 e = .returned (.tuple #[]) ∧ ∃ g',Brd w' b g' (n + 1) M ∧ (g' = g ∨ (g = none ∧ ∃ q,g' = some q ∧ W.heap.size ≤ q)) ∧ ExtS (fun k=>k = b ∨ g = some k) W w'
theorem put_out (W : World) (b n : Nat) (g : Option Nat) (M : Bov) (h : Brd W b g n M) (r c k nn : Int) (s : ByteArray) (e : Int) (hi : inB r c = false) :
   Calls Tryz.prog 22 #[.pointer (some ⟨b,0,none⟩),.int .i64 r,.int .i64 c,.agg #[.int .i64 k,.int .i64 nn,.string s,.int .i64 e]] W (PutQ W b n g M):=by
 have c1:=fun W=>in_any r c W
 rw [hi] at c1
 have H : Hid (Brd W b g n M):=h
 clear h hi
 go_enter func22,ntmps22
 go_wp2_with fail
 refine (c1 _).mono ?_
 rintro e w1 ⟨rfl,rfl⟩
 go_wp2_with fail
 refine bodyPost_ret (v:=.tuple #[]) J40 rfl ?_
 exact ⟨rfl,g,(H.out.ext (xr.alloc _)).mono (Nat.le_succ _),.inl rfl,(xr.alloc _).toS _⟩
theorem put_del0 (W : World) (b n : Nat) (M : Bov) (h : Brd W b none n M) (r c k nn : Int) (s : ByteArray) (e : Int) (hi : inB r c = true) (hv : nm k nn s e = .blank) (hN : Nm W) :
   Calls Tryz.prog 22 #[.pointer (some ⟨b,0,none⟩),.int .i64 r,.int .i64 c,.agg #[.int .i64 k,.int .i64 nn,.string s,.int .i64 e]] W (PutQ W b n none (bput M r c .blank)):=by
 have c1:=fun W=>in_any r c W
 rw [hi] at c1
 have HI : Hid (inB r c = true):=hi
 have c2:=fun W' (e1 : Ext W W')=>vnormal_any k nn s e W' (hN.ext e1)
 rw [hv] at c2
 simp only [V.dat] at c2
 have H : Hid (Brd W b none n M):=h
 clear hv
 clear h hi hN
 go_enter func22,ntmps22
 go_wp2_with fail
 refine (c1 _).mono ?_
 rintro e w1 ⟨rfl,rfl⟩
 go_wp2_with fail
 refine (c2 _ (xr.alloc _)).mono ?_
 rintro e w1 ⟨rfl,E1⟩
 have B1:=blk_top (b:=W.heap.size) J58 E1
 have X1 : Hid (Ext W w1):=(xr.alloc _).trans E1
 have D0:=B1
 obtain ⟨b0z,⟨b0_0,b0_1,b0_2,b0_3⟩,b0f0,b0f1,b0f2,b0f3⟩:=D0
 clear c1 c2 E1
 go_wp2_with fail
 obtain ⟨W2,hW2⟩ : ∃ W2,W2 = (((((w1.setCell ⟨W.heap.size,0,none⟩ (.int .i64 0)).setCell ⟨W.heap.size,1,none⟩ (.int .i64 0)).setCell ⟨W.heap.size,2,none⟩ (.string ⟨#[]⟩)).setCell ⟨W.heap.size,3,none⟩ (.int .i64 0)).alloc (.cells #[.int .i64 r,.int .i64 c] 24)):=⟨_,rfl⟩
 have X2 : Ext W W2:=by
   exact K77
 have BV : Blk W2 W.heap.size (.int .i64 0) (.int .i64 0) (.string ⟨#[]⟩) (.int .i64 0):=by
   exact K160
 have BP : W2.cell? ⟨w1.heap.size,0,none⟩ = some (.int .i64 r) ∧ W2.cell? ⟨w1.heap.size,1,none⟩ = some (.int .i64 c) ∧ w1.heap.size < W2.heap.size ∧ W.heap.size ≤ w1.heap.size ∧ W2.heap.size = w1.heap.size + 1:=by
   exact K71
 rw [← hW2]
 clear hW2 b0_0 b0_1 b0_2 b0_3 b0f0 b0f1 b0f2 b0f3 b0z BV B1 X1
 have hB2:=H.out.ext X2
 clear H
 obtain ⟨iR,iC⟩:=in_i HI.out
 obtain ⟨p0,p1,p2,p3,p4⟩:=BP
 have HR : Hid (∀ ty,(Builtin.delete_ #[64,24] ty #[.map none,.agg #[.int .i64 r,.int .i64 c]]).run Tryz.prog W2.drew = .ok (.tuple #[]) W2.drew):=fun ty=>Maps.drop_nil kLaw Tryz.underlying64 (key_mk r c iR iC) ty
 have HQ : Hid (PutQ W b n none (bput M r c .blank) (.returned (.tuple #[])) W2.drew):=by
   refine ⟨rfl,none,?_,.inl rfl,X2.drew.toS _⟩
   have hm : M = bz:=hB2.map
   subst hm
   have e : bput bz r c .blank = bz:=by funext r' c';unfold bput bz;split <;> rfl
   rw [e]
   exact (hB2.ext xr.drew).mono (Nat.le_succ _)
 obtain ⟨w9,hw9⟩ : ∃ w9,w9 = W2.drew:=⟨_,rfl⟩
 have HB : Hid (w9.cell? ⟨b,0,none⟩ = some (.map none) ∧ w9.cell? ⟨w1.heap.size,0,none⟩ = some (.int .i64 r) ∧ w9.cell? ⟨w1.heap.size,1,none⟩ = some (.int .i64 c)):=by rw [hw9];exact ⟨hB2.cell,p0,p1⟩
 rw [← hw9] at HQ
 have HR2 : Hid (∀ ty,(Builtin.delete_ #[64,24] ty #[.map none,.agg #[.int .i64 r,.int .i64 c]]).run Tryz.prog W2.drew = .ok (.tuple #[]) w9):=by rw [hw9];exact HR.out
 clear hw9 HR
 have HA : Hid (W2.drew.cell? ⟨b,0,none⟩ = some (.map none) ∧ W2.drew.cell? ⟨w1.heap.size,0,none⟩ = some (.int .i64 r) ∧ W2.drew.cell? ⟨w1.heap.size,1,none⟩ = some (.int .i64 c)):=⟨hB2.cell,p0,p1⟩
 clear hB2 p0 p1 p3 iR iC HI X2 p4
 generalize w1.heap.size = P2 at *
 refine wp_region_held_drew (S:=(fun W3=>W3.cell? ⟨b,0,none⟩ = some (.map none) ∧ W3.cell? ⟨P2,0,none⟩ = some (.int .i64 r) ∧ W3.cell? ⟨P2,1,none⟩ = some (.int .i64 c))) J3 ?_ (fun hHeld0=>?_)
 · (first | exact HA.out | exact HB.out)
 exact K19
theorem put_del1 (W : World) (b n : Nat) (g : Nat) (M : Bov) (h : Brd W b (some g) n M) (r c k nn : Int) (s : ByteArray) (e : Int) (hi : inB r c = true) (hv : nm k nn s e = .blank) (hN : Nm W) :
   Calls Tryz.prog 22 #[.pointer (some ⟨b,0,none⟩),.int .i64 r,.int .i64 c,.agg #[.int .i64 k,.int .i64 nn,.string s,.int .i64 e]] W (PutQ W b n (some g) (bput M r c .blank)):=by
 have c1:=fun W=>in_any r c W
 rw [hi] at c1
 have HI : Hid (inB r c = true):=hi
 have c2:=fun W' (e1 : Ext W W')=>vnormal_any k nn s e W' (hN.ext e1)
 rw [hv] at c2
 simp only [V.dat] at c2
 have H : Hid (Brd W b (some g) n M):=h
 clear hv
 clear h hi hN
 go_enter func22,ntmps22
 go_wp2_with fail
 refine (c1 _).mono ?_
 rintro e w1 ⟨rfl,rfl⟩
 go_wp2_with fail
 refine (c2 _ (xr.alloc _)).mono ?_
 rintro e w1 ⟨rfl,E1⟩
 have B1:=blk_top (b:=W.heap.size) J58 E1
 have X1 : Hid (Ext W w1):=(xr.alloc _).trans E1
 have D0:=B1
 obtain ⟨b0z,⟨b0_0,b0_1,b0_2,b0_3⟩,b0f0,b0f1,b0f2,b0f3⟩:=D0
 clear c1 c2 E1
 go_wp2_with fail
 obtain ⟨W2,hW2⟩ : ∃ W2,W2 = (((((w1.setCell ⟨W.heap.size,0,none⟩ (.int .i64 0)).setCell ⟨W.heap.size,1,none⟩ (.int .i64 0)).setCell ⟨W.heap.size,2,none⟩ (.string ⟨#[]⟩)).setCell ⟨W.heap.size,3,none⟩ (.int .i64 0)).alloc (.cells #[.int .i64 r,.int .i64 c] 24)):=⟨_,rfl⟩
 have X2 : Ext W W2:=by
   exact K77
 have BV : Blk W2 W.heap.size (.int .i64 0) (.int .i64 0) (.string ⟨#[]⟩) (.int .i64 0):=by
   exact K160
 have BP : W2.cell? ⟨w1.heap.size,0,none⟩ = some (.int .i64 r) ∧ W2.cell? ⟨w1.heap.size,1,none⟩ = some (.int .i64 c) ∧ w1.heap.size < W2.heap.size ∧ W.heap.size ≤ w1.heap.size ∧ W2.heap.size = w1.heap.size + 1:=by
   exact K71
 rw [← hW2]
 clear hW2 b0_0 b0_1 b0_2 b0_3 b0f0 b0f1 b0f2 b0f3 b0z BV B1 X1
 have hB2:=H.out.ext X2
 clear H
 obtain ⟨iR,iC⟩:=in_i HI.out
 obtain ⟨p0,p1,p2,p3,p4⟩:=BP
 obtain ⟨D,own,rel⟩:=(show MapB W2 g n M from hB2.map)
 obtain ⟨w9,hrun,own9,turn⟩ : ∃ w9,(∀ ty,(Builtin.delete_ #[64,24] ty #[.map (some g),.agg #[.int .i64 r,.int .i64 c]]).run Tryz.prog W2.drew = .ok (.tuple #[]) w9) ∧ w9.ownsMap Tryz.prog 24 hR g n (D.del (kl r c)) ∧ W2.drew.mapTurned w9 g:=by
   obtain ⟨w9,h1,h2,h3⟩:=World.ownsMap.drop (w:=W2.drew) own kLaw Tryz.underlying64 (key_mk r c iR iC) 0
   exact ⟨w9,fun _=>h1,h2,h3⟩
 have HR2 : Hid (∀ ty,(Builtin.delete_ #[64,24] ty #[.map (some g),.agg #[.int .i64 r,.int .i64 c]]).run Tryz.prog W2.drew = .ok (.tuple #[]) w9):=hrun
 have tg : W2.grownBy w9 (some g):=grown_drew turn.grown
 have gW : g < W2.heap.size:=own.lt
 have HQ : Hid (PutQ W b n (some g) (bput M r c .blank) (.returned (.tuple #[])) w9) :=
   ⟨rfl,some g,hB2.turn tg (MapB.mono ⟨_,own9,rel_del rel r c iR iC⟩ (Nat.le_succ _)) (bput_ok hB2.ok HI.out trivial),.inl rfl,grown_extS X2 tg (.inr rfl)⟩
 have hpg : w1.heap.size ≠ g:=by
   intro e
   obtain ⟨es,clock,hb,_⟩:=own
   rw [← e] at hb
   unfold World.cell? at p0
   simp only [hb] at p0
   cases p0
 have HB : Hid (w9.cell? ⟨b,0,none⟩ = some (.map (some g)) ∧ w9.cell? ⟨w1.heap.size,0,none⟩ = some (.int .i64 r) ∧ w9.cell? ⟨w1.heap.size,1,none⟩ = some (.int .i64 c)):=by
   have kp:=fun o=>cell_of_heap (tg.block w1.heap.size p2 (fun e=>hpg (Option.some.inj e))) o
   have kb:=cell_of_heap (tg.block b hB2.lt (fun e=>hB2.ne e.symm)) 0
   exact ⟨kb.1.trans hB2.cell,(kp 0).1.trans p0,(kp 1).1.trans p1⟩
 clear hrun own9 turn tg hpg own rel gW
 have HA : Hid (W2.drew.cell? ⟨b,0,none⟩ = some (.map (some g)) ∧ W2.drew.cell? ⟨w1.heap.size,0,none⟩ = some (.int .i64 r) ∧ W2.drew.cell? ⟨w1.heap.size,1,none⟩ = some (.int .i64 c)):=⟨hB2.cell,p0,p1⟩
 clear hB2 p0 p1 p3 iR iC HI X2 p4
 generalize w1.heap.size = P2 at *
 refine wp_region_held_drew (S:=(fun W3=>W3.cell? ⟨b,0,none⟩ = some (.map (some g)) ∧ W3.cell? ⟨P2,0,none⟩ = some (.int .i64 r) ∧ W3.cell? ⟨P2,1,none⟩ = some (.int .i64 c))) J3 ?_ (fun hHeld0=>?_)
 · (first | exact HA.out | exact HB.out)
 exact K19
theorem put_set (W : World) (b n : Nat) (g : Nat) (M : Bov) (h : Brd W b (some g) n M) (hn : n < 1000000) (r c k nn : Int) (s : ByteArray) (e : Int) (hi : inB r c = true) (v : V) (hv : nm k nn s e = v) (hk : v.k ≠ 0) (ok : v.ok) (hN : Nm W) :
   Calls Tryz.prog 22 #[.pointer (some ⟨b,0,none⟩),.int .i64 r,.int .i64 c,.agg #[.int .i64 k,.int .i64 nn,.string s,.int .i64 e]] W (PutQ W b n (some g) (bput M r c v)):=by
 have c1:=fun W=>in_any r c W
 rw [hi] at c1
 have HI : Hid (inB r c = true):=hi
 have c2:=fun W' (e1 : Ext W W')=>vnormal_any k nn s e W' (hN.ext e1)
 rw [hv,dat_eq] at c2
 have H : Hid (Brd W b (some g) n M):=h
 have HK : Hid (v.k ≠ 0 ∧ v.ok ∧ n < 1000000):=⟨hk,ok,hn⟩
 have k0 : (v.k == 0) = false:=J82
 obtain ⟨vk,vn,vs,ve,hvv⟩ : ∃ vk vn vs ve,v.k = vk ∧ v.n = vn ∧ v.s = vs ∧ v.e = ve:=⟨_,_,_,_,rfl,rfl,rfl,rfl⟩
 have HV : Hid (v.k = vk ∧ v.n = vn ∧ v.s = vs ∧ v.e = ve):=hvv
 obtain ⟨q1,q2,q3,q4⟩:=hvv
 rw [q1,q2,q3,q4] at c2
 rw [q1] at k0
 clear hv hk ok hn q1 q2 q3 q4
 clear h hi hN
 go_enter func22,ntmps22
 go_wp2_with fail
 refine (c1 _).mono ?_
 rintro e w1 ⟨rfl,rfl⟩
 go_wp2_with fail
 refine (c2 _ (xr.alloc _)).mono ?_
 rintro e w1 ⟨rfl,E1⟩
 have B1:=blk_top (b:=W.heap.size) J58 E1
 have X1 : Hid (Ext W w1):=(xr.alloc _).trans E1
 have D0:=B1
 obtain ⟨b0z,⟨b0_0,b0_1,b0_2,b0_3⟩,b0f0,b0f1,b0f2,b0f3⟩:=D0
 clear c1 c2 E1
 obtain ⟨W2,hW2⟩ : ∃ W2,W2 = (((((w1.setCell ⟨W.heap.size,0,none⟩ (.int .i64 vk)).setCell ⟨W.heap.size,1,none⟩ (.int .i64 vn)).setCell ⟨W.heap.size,2,none⟩ (.string vs)).setCell ⟨W.heap.size,3,none⟩ (.int .i64 ve)).alloc (.cells #[.int .i64 r,.int .i64 c] 24)):=⟨_,rfl⟩
 have X2 : Ext W W2:=by
   exact K77
 have BV : Blk W2 W.heap.size (.int .i64 vk) (.int .i64 vn) (.string vs) (.int .i64 ve):=by
   exact K160
 have BP : W2.cell? ⟨w1.heap.size,0,none⟩ = some (.int .i64 r) ∧ W2.cell? ⟨w1.heap.size,1,none⟩ = some (.int .i64 c) ∧ w1.heap.size < W2.heap.size ∧ W.heap.size ≤ w1.heap.size ∧ W2.heap.size = w1.heap.size + 1:=by
   exact K71
 have hB2:=H.out.ext X2
 clear H
 have bc:=hB2.cell
 have bf:=hB2.fz
 rw [hW2] at bc bf
 have qm:=eq_map1 g
 go_wp2_with fail
 clear qm
 rw [← hW2]
 clear hW2 bc bf b0_0 b0_1 b0_2 b0_3 b0f0 b0f1 b0f2 b0f3 b0z B1 X1
 obtain ⟨iR,iC⟩:=in_i HI.out
 obtain ⟨p0,p1,p2,p3,p4⟩:=BP
 obtain ⟨zV,⟨v0,v1,v2,v3⟩,_⟩:=BV
 obtain ⟨D,own,rel⟩:=(show MapB W2 g n M from hB2.map)
 obtain ⟨w9,hrun,own9,turn⟩:=World.ownsMap.store (w:=W2.drew) (n:=n) own kLaw Tryz.underlying64 (by have:=HK.out.2.2;unfold maxLen;omega) (val:=.agg #[.int .i64 vk,.int .i64 vn,.string vs,.int .i64 ve]) (d:=.held (.agg #[.int .i64 vk,.int .i64 vn,.string vs,.int .i64 ve])) (ps:=[]) (key_mk r c iR iC) rfl
 have HR2 : Hid ((Instr.mapUpdate 64 (.map (some g)) (.agg #[.int .i64 r,.int .i64 c]) (.agg #[.int .i64 vk,.int .i64 vn,.string vs,.int .i64 ve])).run Tryz.prog W2.drew = .ok () w9):=hrun
 have tg : W2.grownBy w9 (some g):=grown_drew turn.grown
 have HQ : Hid (PutQ W b n (some g) (bput M r c v) (.returned (.tuple #[])) w9):=by
   obtain ⟨h1,h2,h3⟩:=HK.out
   obtain ⟨q1,q2,q3,q4⟩:=HV.out
   have hd : v.dat = .agg #[.int .i64 vk,.int .i64 vn,.string vs,.int .i64 ve]:=by rw [dat_eq,q1,q2,q3,q4]
   rw [← hd] at own9
   exact ⟨rfl,some g,hB2.turn tg ⟨_,own9,rel_put rel own.isMap r c iR iC v h1⟩ (bput_ok hB2.ok HI.out h2),.inl rfl,grown_extS X2 tg (.inr rfl)⟩
 have hne : ∀ k u,k < W2.heap.size → W2.cell? ⟨k,0,none⟩ = some u → some k ≠ some g:=by
   exact K132
 have kk:=fun k u (h1 : k < W2.heap.size) (h2 : W2.cell? ⟨k,0,none⟩ = some u) o=>(cell_of_heap (tg.block k h1 (hne k u h1 h2)) o).1
 have HB : Hid (w9.cell? ⟨b,0,none⟩ = some (.map (some g)) ∧ w9.cell? ⟨w1.heap.size,0,none⟩ = some (.int .i64 r) ∧ w9.cell? ⟨w1.heap.size,1,none⟩ = some (.int .i64 c) ∧ w9.cell? ⟨W.heap.size,0,none⟩ = some (.int .i64 vk) ∧ w9.cell? ⟨W.heap.size,1,none⟩ = some (.int .i64 vn) ∧ w9.cell? ⟨W.heap.size,2,none⟩ = some (.string vs) ∧ w9.cell? ⟨W.heap.size,3,none⟩ = some (.int .i64 ve)) :=
   ⟨(kk b _ hB2.lt hB2.cell 0).trans hB2.cell,(kk _ _ p2 p0 0).trans p0,(kk _ _ p2 p0 1).trans p1,(kk _ _ zV v0 0).trans v0,(kk _ _ zV v0 1).trans v1,(kk _ _ zV v0 2).trans v2,(kk _ _ zV v0 3).trans v3⟩
 have HA : Hid (W2.drew.cell? ⟨b,0,none⟩ = some (.map (some g)) ∧ W2.drew.cell? ⟨w1.heap.size,0,none⟩ = some (.int .i64 r) ∧ W2.drew.cell? ⟨w1.heap.size,1,none⟩ = some (.int .i64 c) ∧ W2.drew.cell? ⟨W.heap.size,0,none⟩ = some (.int .i64 vk) ∧ W2.drew.cell? ⟨W.heap.size,1,none⟩ = some (.int .i64 vn) ∧ W2.drew.cell? ⟨W.heap.size,2,none⟩ = some (.string vs) ∧ W2.drew.cell? ⟨W.heap.size,3,none⟩ = some (.int .i64 ve)):=⟨hB2.cell,p0,p1,v0,v1,v2,v3⟩
 clear hB2 p0 p1 p2 p3 p4 iR iC HI X2 hrun own9 turn tg own rel kk hne v0 v1 v2 v3 zV HK HV
 exact K12
theorem put_new (W : World) (b n : Nat) (M : Bov) (h : Brd W b none n M) (hn : n < 1000000) (r c k nn : Int) (s : ByteArray) (e : Int) (hi : inB r c = true) (v : V) (hv : nm k nn s e = v) (hk : v.k ≠ 0) (ok : v.ok) (hN : Nm W) :
   Calls Tryz.prog 22 #[.pointer (some ⟨b,0,none⟩),.int .i64 r,.int .i64 c,.agg #[.int .i64 k,.int .i64 nn,.string s,.int .i64 e]] W (PutQ W b n none (bput M r c v)):=by
 have c1:=fun W=>in_any r c W
 rw [hi] at c1
 have HI : Hid (inB r c = true):=hi
 have c2:=fun W' (e1 : Ext W W')=>vnormal_any k nn s e W' (hN.ext e1)
 rw [hv,dat_eq] at c2
 have H : Hid (Brd W b none n M):=h
 have HK : Hid (v.k ≠ 0 ∧ v.ok ∧ n < 1000000):=⟨hk,ok,hn⟩
 have k0 : (v.k == 0) = false:=J82
 obtain ⟨vk,vn,vs,ve,hvv⟩ : ∃ vk vn vs ve,v.k = vk ∧ v.n = vn ∧ v.s = vs ∧ v.e = ve:=⟨_,_,_,_,rfl,rfl,rfl,rfl⟩
 have HV : Hid (v.k = vk ∧ v.n = vn ∧ v.s = vs ∧ v.e = ve):=hvv
 obtain ⟨q1,q2,q3,q4⟩:=hvv
 rw [q1,q2,q3,q4] at c2
 rw [q1] at k0
 clear hv hk ok hn q1 q2 q3 q4
 clear h hi hN
 go_enter func22,ntmps22
 go_wp2_with fail
 refine (c1 _).mono ?_
 rintro e w1 ⟨rfl,rfl⟩
 go_wp2_with fail
 refine (c2 _ (xr.alloc _)).mono ?_
 rintro e w1 ⟨rfl,E1⟩
 have B1:=blk_top (b:=W.heap.size) J58 E1
 have X1 : Hid (Ext W w1):=(xr.alloc _).trans E1
 have D0:=B1
 obtain ⟨b0z,⟨b0_0,b0_1,b0_2,b0_3⟩,b0f0,b0f1,b0f2,b0f3⟩:=D0
 clear c1 c2 E1
 have hmm:=@run_makeMap Tryz.prog
 obtain ⟨W2,hW2⟩ : ∃ W2,W2 = (((((w1.setCell ⟨W.heap.size,0,none⟩ (.int .i64 vk)).setCell ⟨W.heap.size,1,none⟩ (.int .i64 vn)).setCell ⟨W.heap.size,2,none⟩ (.string vs)).setCell ⟨W.heap.size,3,none⟩ (.int .i64 ve)).alloc (.cells #[.int .i64 r,.int .i64 c] 24)):=⟨_,rfl⟩
 have X2 : Ext W W2:=by
   exact K77
 have BV : Blk W2 W.heap.size (.int .i64 vk) (.int .i64 vn) (.string vs) (.int .i64 ve):=by
   exact K160
 have BP : W2.cell? ⟨w1.heap.size,0,none⟩ = some (.int .i64 r) ∧ W2.cell? ⟨w1.heap.size,1,none⟩ = some (.int .i64 c) ∧ w1.heap.size < W2.heap.size ∧ W.heap.size ≤ w1.heap.size ∧ W2.heap.size = w1.heap.size + 1:=by
   exact K71
 have hB2:=H.out.ext X2
 clear H
 have bc:=hB2.cell
 have bf:=hB2.fz
 go_upto_region 5 with fail
 rw [← hW2]
 clear hW2 b0_0 b0_1 b0_2 b0_3 b0f0 b0f1 b0f2 b0f3 b0z B1 X1
 have qm:=eq_map0
 have HP : Hid _:=BP
 have HV2 : Hid _:=BV
 have HX2 : Hid _:=X2
 have HB2 : Hid _:=hB2
 clear BP BV X2
 have bc2:=(hB2.ext (xr.alloc (.map #[] 0))).cell
 have bf2:=(hB2.ext (xr.alloc (.map #[] 0))).fz
 clear hB2
 go_wp2_with fail
 clear qm bc bf bc2 bf2 hmm
 obtain ⟨p0,p1,p2,p3,p4⟩:=HP.out
 obtain ⟨zV,⟨v0,v1,v2,v3⟩,_⟩:=HV2.out
 obtain ⟨iR,iC⟩:=in_i HI.out
 have hB2:=HB2.out
 have X2:=HX2.out
 obtain ⟨g,hg⟩ : ∃ g,g = W2.heap.size:=⟨_,rfl⟩
 rw [← hg]
 obtain ⟨W4,hW4⟩ : ∃ W4,W4 = (W2.alloc (.map #[] 0)).setCell ⟨b,0,none⟩ (.map (some g)):=⟨_,rfl⟩
 rw [← hW4]
 have sz : W4.heap.size = W2.heap.size + 1:=by rw [hW4];simp [go_sem]
 have kq : ∀ k,k < W2.heap.size → k ≠ b → W4.heap[k]? = W2.heap[k]?:=by
   intro k hk hne
   rw [hW4,RowKit.Below.heap_setCell _ _ _ _ hne]
   exact ((Ext.refl W2).alloc (.map #[] 0)).block k hk
 have kg : W4.heap[g]? = some (.map #[] 0):=by
   have hne : g ≠ b:=by have:=hB2.lt;omega
   rw [hW4,RowKit.Below.heap_setCell _ _ _ _ hne,hg]
   exact (MapKept.heap_alloc W2 _).1
 have own : W4.ownsMap Tryz.prog 24 hR g 0 (.map []):=by
   have h0:=World.ownsMap_made W2 Tryz.prog 24 hR
   rw [← hg] at h0
   obtain ⟨es,clock,hb,rr⟩:=h0
   refine ⟨es,clock,?_,rr⟩
   rw [kg,← hb,hg]
   exact ((MapKept.heap_alloc W2 _).1).symm
 have hM : M = bz:=hB2.map
 have rel : RelD (.map []) M:=by rw [hM];exact rel_empty
 have hB4 : Brd W4 b (some g) 0 M:=by
   refine ⟨by have:=hB2.lt;omega,?_,?_,fun e=>by cases e;have:=hB2.lt;omega,hB2.ok,⟨_,own,rel⟩⟩
   · rw [hW4];exact wSa _ ⟨b,0,none⟩ _ (by rw [(hB2.ext (xr.alloc _)).cell])
   · rw [hW4,wFz];exact (hB2.ext (xr.alloc _)).fz
 have X4 : ExtS (fun k=>k = b ∨ none = some k) W W4:=by
   refine ⟨by rw [hW4];exact X2.os,by rw [hW4];exact X2.tape,by rw [hW4];exact X2.output,by have:=X2.size;omega,fun k hk hn=>?_⟩
   exact (kq k (llL hk X2.size) (fun e=>hn (.inl e))).trans (X2.block k hk)
 have hb0 : w1.heap.size ≠ b:=by
   intro e
   have:=hB2.cell
   rw [← e,p0] at this
   cases this
 have hb1 : W.heap.size ≠ b:=by
   intro e
   have:=hB2.cell
   rw [← e,v0] at this
   cases this
 have c1:=fun o=>(cell_of_heap (kq w1.heap.size p2 hb0) o).1
 have c2:=fun o=>(cell_of_heap (kq W.heap.size zV hb1) o).1
 have p0:=(c1 0).trans p0
 have p1:=(c1 1).trans p1
 have v0:=(c2 0).trans v0
 have v1:=(c2 1).trans v1
 have v2:=(c2 2).trans v2
 have v3:=(c2 3).trans v3
 have p2 : w1.heap.size < W4.heap.size:=J2
 have zV : W.heap.size < W4.heap.size:=J2
 have hge : W.heap.size ≤ g:=by rw [hg];exact X2.size
 have isM:=own.isMap
 clear hB2 c1 c2 hb0 hb1 kg kq sz hW4 hg X2
 obtain ⟨w9,hrun,own9,turn⟩:=World.ownsMap.store (w:=W4.drew) (n:=0) own kLaw Tryz.underlying64 (by have:=HK.out.2.2;unfold maxLen;omega) (val:=.agg #[.int .i64 vk,.int .i64 vn,.string vs,.int .i64 ve]) (d:=.held (.agg #[.int .i64 vk,.int .i64 vn,.string vs,.int .i64 ve])) (ps:=[]) (key_mk r c iR iC) rfl
 have HR2 : Hid ((Instr.mapUpdate 64 (.map (some g)) (.agg #[.int .i64 r,.int .i64 c]) (.agg #[.int .i64 vk,.int .i64 vn,.string vs,.int .i64 ve])).run Tryz.prog W4.drew = .ok () w9):=hrun
 have tg : W4.grownBy w9 (some g):=grown_drew turn.grown
 have HQ : Hid (PutQ W b n none (bput M r c v) (.returned (.tuple #[])) w9):=by
   obtain ⟨h1,h2,h3⟩:=HK.out
   obtain ⟨q1,q2,q3,q4⟩:=HV.out
   have hd : v.dat = .agg #[.int .i64 vk,.int .i64 vn,.string vs,.int .i64 ve]:=by rw [dat_eq,q1,q2,q3,q4]
   rw [← hd] at own9
   exact ⟨rfl,some g,(hB4.turn tg ⟨_,own9,rel_put rel isM r c iR iC v h1⟩ (bput_ok hB4.ok HI.out h2)).mono J2,.inr ⟨rfl,g,rfl,hge⟩,grown_extT X4 tg (.inr hge)⟩
 have hne : ∀ k u,k < W4.heap.size → W4.cell? ⟨k,0,none⟩ = some u → some k ≠ some g:=by
   exact K132
 have kk:=fun k u (h1 : k < W4.heap.size) (h2 : W4.cell? ⟨k,0,none⟩ = some u) o=>(cell_of_heap (tg.block k h1 (hne k u h1 h2)) o).1
 have HB : Hid (w9.cell? ⟨b,0,none⟩ = some (.map (some g)) ∧ w9.cell? ⟨w1.heap.size,0,none⟩ = some (.int .i64 r) ∧ w9.cell? ⟨w1.heap.size,1,none⟩ = some (.int .i64 c) ∧ w9.cell? ⟨W.heap.size,0,none⟩ = some (.int .i64 vk) ∧ w9.cell? ⟨W.heap.size,1,none⟩ = some (.int .i64 vn) ∧ w9.cell? ⟨W.heap.size,2,none⟩ = some (.string vs) ∧ w9.cell? ⟨W.heap.size,3,none⟩ = some (.int .i64 ve)) :=
   ⟨(kk b _ hB4.lt hB4.cell 0).trans hB4.cell,(kk _ _ p2 p0 0).trans p0,(kk _ _ p2 p0 1).trans p1,(kk _ _ zV v0 0).trans v0,(kk _ _ zV v0 1).trans v1,(kk _ _ zV v0 2).trans v2,(kk _ _ zV v0 3).trans v3⟩
 have HA : Hid (W4.drew.cell? ⟨b,0,none⟩ = some (.map (some g)) ∧ W4.drew.cell? ⟨w1.heap.size,0,none⟩ = some (.int .i64 r) ∧ W4.drew.cell? ⟨w1.heap.size,1,none⟩ = some (.int .i64 c) ∧ W4.drew.cell? ⟨W.heap.size,0,none⟩ = some (.int .i64 vk) ∧ W4.drew.cell? ⟨W.heap.size,1,none⟩ = some (.int .i64 vn) ∧ W4.drew.cell? ⟨W.heap.size,2,none⟩ = some (.string vs) ∧ W4.drew.cell? ⟨W.heap.size,3,none⟩ = some (.int .i64 ve)):=⟨hB4.cell,p0,p1,v0,v1,v2,v3⟩
 clear hB4 p0 p1 p2 p3 p4 iR iC HI X4 hrun own9 turn tg own rel kk hne isM hge hM HP HV2 HX2 HB2 v0 v1 v2 v3 zV HK HV
 exact K12
theorem put_any (W : World) (b n : Nat) (g : Option Nat) (M : Bov) (h : Brd W b g n M) (hn : n < 1000000) (r c k nn : Int) (s : ByteArray) (e : Int) (hi : I64 nn) (hN : Nm W) :
   Calls Tryz.prog 22 #[.pointer (some ⟨b,0,none⟩),.int .i64 r,.int .i64 c,.agg #[.int .i64 k,.int .i64 nn,.string s,.int .i64 e]] W (PutQ W b n g (bset M r c (nm k nn s e))):=by
 unfold bset
 cases hb : inB r c with
 | false=>exact put_out W b n g M h r c k nn s e hb
 | true =>
   rw [if_pos rfl]
   by_cases hk : (nm k nn s e).k = 0
   · have hv : nm k nn s e = .blank:=by
       revert hk
       generalize nm k nn s e = v
       cases v <;> simp [V.k]
     rw [hv]
     cases g with
     | none=>exact put_del0 W b n M h r c k nn s e hb hv hN
     | some g=>exact put_del1 W b n g M h r c k nn s e hb hv hN
   · cases g with
     | none=>exact put_new W b n M h hn r c k nn s e hb _ rfl hk (nm_ok k nn s e hi) hN
     | some g=>exact put_set W b n g M h hn r c k nn s e hb _ rfl hk (nm_ok k nn s e hi) hN
theorem byte_info : ∃ i,Tryz.prog.info? 5 = some i ∧ i.zero = some (.int .u8 0) ∧ i.size = 1 ∧ i.bytes = 1:=by
 exact K92
theorem txt_ne (c : UInt8) (r : List UInt8) (h : c ≠ 34) : txt (c :: r) = (txt r).map (fun x=>(c :: x.1,x.2 + 1)):=by
 cases r with
 | nil=>simp [txt,h]
 | cons d r=>rw [txt,if_neg h]
theorem txt_two (r : List UInt8) : txt (34 :: 34 :: r) = (txt r).map (fun x=>(34 :: x.1,x.2 + 2)):=by simp [txt]
theorem txt_end (r : List UInt8) (h : r.head? ≠ some 34) : txt (34 :: r) = some ([],1):=by
 cases r with
 | nil=>simp [txt]
 | cons d r=>rw [txt,if_pos rfl,if_neg J55]
def TxA (l : List UInt8) (k j : Nat) (acc : List UInt8) : Prop:=k + 1 ≤ j ∧ acc.length ≤ j ∧ txt (l.drop (k + 1)) = (txt (l.drop j)).map (fun x=>(acc ++ x.1,x.2 + (j - (k + 1))))
theorem TxA.start (l : List UInt8) (k : Nat) : TxA l k (k + 1) []:=by
 refine ⟨Nat.le_refl _,Nat.zero_le _,?_⟩
 cases txt (l.drop (k + 1)) <;> simp
theorem TxA.one {l : List UInt8} {k j : Nat} {acc : List UInt8} (h : TxA l k j acc) (hj : j < l.length) (hc : l[j] ≠ 34) : TxA l k (j + 1) (acc ++ [l[j]]):=by
 obtain ⟨h0,h1,h2⟩:=h
 refine ⟨by omega,by simp;omega,?_⟩
 rw [h2,List.drop_eq_getElem_cons hj,txt_ne _ _ hc]
 cases txt (l.drop (j + 1)) with
 | none=>rfl
 | some x=>simp;omega
theorem TxA.two {l : List UInt8} {k j : Nat} {acc : List UInt8} (h : TxA l k j acc) (hj : j + 1 < l.length) (hc : l[j] = 34) (hd : l[j + 1] = 34) : TxA l k (j + 1 + 1) (acc ++ [34]):=by
 obtain ⟨h0,h1,h2⟩:=h
 refine ⟨by omega,by simp;omega,?_⟩
 rw [h2,List.drop_eq_getElem_cons (by omega : j < l.length),List.drop_eq_getElem_cons hj,hc,hd,txt_two]
 cases txt (l.drop (j + 1 + 1)) with
 | none=>rfl
 | some x=>simp;omega
theorem TxA.none {l : List UInt8} {k j : Nat} {acc : List UInt8} (h : TxA l k j acc) (hj : l.length ≤ j) : txtR (l.drop k) = .error 4:=by
 have e:=h.2.2
 rw [List.drop_eq_nil_of_le hj] at e
 unfold txtR
 rw [List.tail_drop,e];rfl
theorem TxA.done {l : List UInt8} {k j : Nat} {acc : List UInt8} (h : TxA l k j acc) (hj : j < l.length) (hc : l[j] = 34) (hd : (l.drop (j + 1)).head? ≠ some 34) : txtR (l.drop k) = .ok (1,acc,0,0,j + 1 - k):=by
 obtain ⟨h0,h1,e⟩:=h
 rw [List.drop_eq_getElem_cons hj,hc,txt_end _ hd] at e
 unfold txtR
 rw [List.tail_drop,e]
 simp;omega
theorem new_top (w : World) (o : Obj) : (w.alloc o).heap[w.heap.size]? = some o:=by show (w.heap.push o)[w.heap.size]? = some o;simp
open Go.RowKit Go.Sort
instance : Inhabited Kn:=⟨⟨0,0,⟨0,0,⟨#[]⟩,0⟩⟩⟩
theorem closK (x y : Kn) (W : World) : Calls Tryz.prog 29 #[.agg #[.int .i64 x.r,.int .i64 x.c,.int .i64 x.v.k,.int .i64 x.v.n,.string x.v.s,.int .i64 x.v.e],.agg #[.int .i64 y.r,.int .i64 y.c,.int .i64 y.v.k,.int .i64 y.v.n,.string y.v.s,.int .i64 y.v.e]] W fun e w'=>e = .returned (.int .i64 (cmpK x y)) ∧ ∃ q os',w' = grow (W.drewN q) os':=by
 have hc1:=fun W'=>Tryz.cmp_Compare_int x.r y.r W'
 have hc2:=fun W'=>Tryz.cmp_Compare_int x.c y.c W'
 change ∀ W',Calls Tryz.prog 31 _ _ _ at hc1
 change ∀ W',Calls Tryz.prog 31 _ _ _ at hc2
 unfold cmpK
 generalize Lib.compareInt x.r y.r = a at hc1 ⊢
 generalize Lib.compareInt x.c y.c = b at hc2 ⊢
 have cO:=fun g W h0 h1=>cmpor_any a b g W h0 h1
 generalize (if a ≠ 0 then a else b) = r at cO ⊢
 obtain ⟨W2,hW2⟩ : ∃ W2,W2 = (W.alloc (.cells #[.int .i64 x.r,.int .i64 x.c,.int .i64 x.v.k,.int .i64 x.v.n,.string x.v.s,.int .i64 x.v.e] 35)).alloc (.cells #[.int .i64 y.r,.int .i64 y.c,.int .i64 y.v.k,.int .i64 y.v.n,.string y.v.s,.int .i64 y.v.e] 35):=⟨_,rfl⟩
 have mkS : Hid (∀ V,Ext W2 V → (fun V=>V.cell? ⟨W.heap.size,0,none⟩ = some (.int .i64 x.r) ∧ V.cell? ⟨W.heap.size,1,none⟩ = some (.int .i64 x.c) ∧ V.cell? ⟨W.heap.size + 1,0,none⟩ = some (.int .i64 y.r) ∧ V.cell? ⟨W.heap.size + 1,1,none⟩ = some (.int .i64 y.c)) V):=by
   intro V e
   have k1:=fun o=>e.cell.1 W.heap.size o (by rw [hW2];simp;omega)
   have k2:=fun o=>e.cell.1 (W.heap.size + 1) o (by rw [hW2];simp)
   have l1:=fun o=>(((Ext.refl (W.alloc (.cells #[.int .i64 x.r,.int .i64 x.c,.int .i64 x.v.k,.int .i64 x.v.n,.string x.v.s,.int .i64 x.v.e] 35))).alloc (.cells #[.int .i64 y.r,.int .i64 y.c,.int .i64 y.v.k,.int .i64 y.v.n,.string y.v.s,.int .i64 y.v.e] 35)).cell.1 W.heap.size o J58).trans (cell_of_row _ _ o _ _ (0,0) (new_top W _))
   have l2:=fun o=>cell_of_row _ _ o _ _ (0,0) (new_top (W.alloc (.cells #[.int .i64 x.r,.int .i64 x.c,.int .i64 x.v.k,.int .i64 x.v.n,.string x.v.s,.int .i64 x.v.e] 35)) (.cells #[.int .i64 y.r,.int .i64 y.c,.int .i64 y.v.k,.int .i64 y.v.n,.string y.v.s,.int .i64 y.v.e] 35))
   simp only [show (W.alloc (.cells #[.int .i64 x.r,.int .i64 x.c,.int .i64 x.v.k,.int .i64 x.v.n,.string x.v.s,.int .i64 x.v.e] 35)).heap.size = W.heap.size + 1 by simp] at l2
   rw [← hW2] at l1 l2
   exact ⟨(k1 _).trans (l1 _),(k1 _).trans (l1 _),(k2 _).trans (l2 _),(k2 _).trans (l2 _)⟩
 go_enter func29,ntmps29
 go_wp2_with fail
 rw [← hW2]
 have HW2 : Hid (W2 = (W.alloc (.cells #[.int .i64 x.r,.int .i64 x.c,.int .i64 x.v.k,.int .i64 x.v.n,.string x.v.s,.int .i64 x.v.e] 35)).alloc (.cells #[.int .i64 y.r,.int .i64 y.c,.int .i64 y.v.k,.int .i64 y.v.n,.string y.v.s,.int .i64 y.v.e] 35)):=hW2
 have o0 : ∀ (i : Nat) (u : Value),(#[.int .i64 a,.int .i64 b] : Array Value)[i]? = some u → ((W2.alloc (.cells #[.int .i64 a,.int .i64 b] 3)).drew).cell? ⟨W2.heap.size,i,none⟩ = some u:=fun i u h=>(cell_of_row _ _ i _ _ (0,0) (new_top W2 _)).trans h
 clear hW2
 generalize W.heap.size = A at mkS ⊢
 refine wp_region_held_drew (S:=(fun V=>V.cell? ⟨A,0,none⟩ = some (.int .i64 x.r) ∧ V.cell? ⟨A,1,none⟩ = some (.int .i64 x.c) ∧ V.cell? ⟨A + 1,0,none⟩ = some (.int .i64 y.r) ∧ V.cell? ⟨A + 1,1,none⟩ = some (.int .i64 y.c))) J3 ?_ (fun hHeld0=>?_)
 · (refine mkS.out _ ?_;((with_reducible (repeat (first | assumption | exact xr | apply Ext.drew | apply Ext.alloc)));done))
 refine tkI (i:=0) (oi:=⟨some 5,.fieldAddr 35 (.tmp 2) 0,0,"board.go:51",#[],none⟩) ?_
 try simp only [Act.put,List.setIfInBounds_toArray,List.set_cons_zero,List.set_cons_succ]
 refine tkI (i:=1) (oi:=⟨some 6,.load 3 (.tmp 5),3,"board.go:51",#[⟨0,.data⟩],none⟩) ?_
 try simp only [Act.put,List.setIfInBounds_toArray,List.set_cons_zero,List.set_cons_succ]
 refine tkI (i:=2) (oi:=⟨some 7,.fieldAddr 35 (.tmp 3) 0,0,"board.go:51",#[],none⟩) ?_
 try simp only [Act.put,List.setIfInBounds_toArray,List.set_cons_zero,List.set_cons_succ]
 refine tkI (i:=3) (oi:=⟨some 8,.load 3 (.tmp 7),3,"board.go:51",#[⟨2,.data⟩],none⟩) ?_
 try simp only [Act.put,List.setIfInBounds_toArray,List.set_cons_zero,List.set_cons_succ]
 refine tkI (i:=5) (oi:=⟨some 10,.fieldAddr 35 (.tmp 2) 1,0,"board.go:51",#[],none⟩) ?_
 try simp only [Act.put,List.setIfInBounds_toArray,List.set_cons_zero,List.set_cons_succ]
 refine tkI (i:=6) (oi:=⟨some 11,.load 3 (.tmp 10),3,"board.go:51",#[⟨5,.data⟩],none⟩) ?_
 try simp only [Act.put,List.setIfInBounds_toArray,List.set_cons_zero,List.set_cons_succ]
 refine tkI (i:=7) (oi:=⟨some 12,.fieldAddr 35 (.tmp 3) 1,0,"board.go:51",#[],none⟩) ?_
 try simp only [Act.put,List.setIfInBounds_toArray,List.set_cons_zero,List.set_cons_succ]
 refine tkI (i:=8) (oi:=⟨some 13,.load 3 (.tmp 12),3,"board.go:51",#[⟨7,.data⟩],none⟩) ?_
 try simp only [Act.put,List.setIfInBounds_toArray,List.set_cons_zero,List.set_cons_succ]
 refine wpAnyH_ready (rs:=[4]) J3 J58 ?_
 refine AllReadyH.cons (o:=⟨some 9,.call { callee:=.value (.func 31),args:=#[.tmp 6,.tmp 8],argTypes:=#[3,3] },3,"board.go:51",#[⟨1,.data⟩,⟨3,.data⟩],none⟩) rfl (fun K hK=>?_) AllReadyH.nil
 go_simp
 refine (hc1 _).mono ?_;rintro e x1 ⟨rfl,rfl⟩
 try go_wp2_with fail
 refine hK.out _ _ ?_ (fun hHeld1=>?_)
 · (try dsimp only);(refine mkS.out _ ?_;((with_reducible (repeat (first | assumption | exact xr | apply Ext.drew | apply Ext.alloc)));done))
 clear hK K hHeld0
 try simp only [Act.put,List.setIfInBounds_toArray,List.set_cons_zero,List.set_cons_succ]
 refine wpAnyH_ready (rs:=[9]) J3 J58 ?_
 refine AllReadyH.cons (o:=⟨some 14,.call { callee:=.value (.func 31),args:=#[.tmp 11,.tmp 13],argTypes:=#[3,3] },3,"board.go:51",#[⟨6,.data⟩,⟨8,.data⟩,⟨4,.chain⟩],none⟩) rfl (fun K hK=>?_) AllReadyH.nil
 go_simp
 refine (hc2 _).mono ?_;rintro e x2 ⟨rfl,rfl⟩
 try go_wp2_with fail
 refine hK.out _ _ ?_ (fun hHeld2=>?_)
 · (try dsimp only);(refine mkS.out _ ?_;((with_reducible (repeat (first | assumption | exact xr | apply Ext.drew | apply Ext.alloc)));done))
 clear hK K hHeld1
 try simp only [Act.put,List.setIfInBounds_toArray,List.set_cons_zero,List.set_cons_succ]
 refine wpAnyH_ready (rs:=[10]) J3 J58 ?_
 refine AllReadyH.cons (o:=⟨some 15,.buildSlice 101 2 #[(0,.tmp 9),(1,.tmp 14)],101,"board.go:51",#[⟨4,.data⟩,⟨9,.data⟩],none⟩) rfl (fun K hK=>?_) AllReadyH.nil
 go_simp
 skip
 try go_wp2_with fail
 refine hK.out _ _ ?_ (fun hHeld3=>?_)
 · (try dsimp only);(refine mkS.out _ ?_;((with_reducible (repeat (first | assumption | exact xr | apply Ext.drew | apply Ext.alloc)));done))
 clear hK K hHeld2
 try simp only [Act.put,List.setIfInBounds_toArray,List.set_cons_zero,List.set_cons_succ]
 refine wpAnyH_ready (rs:=[11]) J3 J58 ?_
 refine AllReadyH.cons (o:=⟨some 16,.call { callee:=.value (.func 30),args:=#[.tmp 15],argTypes:=#[101] },3,"board.go:51",#[⟨10,.data⟩,⟨9,.chain⟩],none⟩) rfl (fun K hK=>?_) AllReadyH.nil
 go_simp
 refine (cO W2.heap.size _ (o0 0 _ rfl) (o0 1 _ rfl)).mono ?_;rintro e x3 ⟨rfl,rfl⟩
 try go_wp2_with fail
 refine hK.out _ _ ?_ (fun hHeld4=>?_)
 · (try dsimp only);(refine mkS.out _ ?_;((with_reducible (repeat (first | assumption | exact xr | apply Ext.drew | apply Ext.alloc)));done))
 clear hK K hHeld3
 try simp only [Act.put,List.setIfInBounds_toArray,List.set_cons_zero,List.set_cons_succ]
 refine tkI (i:=12) (oi:=⟨some 4,.assign (.tmp 16),3,"board.go:51",#[⟨11,.data⟩,⟨11,.chain⟩,⟨0,.phase⟩,⟨1,.phase⟩,⟨2,.phase⟩,⟨3,.phase⟩,⟨4,.phase⟩,⟨5,.phase⟩,⟨6,.phase⟩,⟨7,.phase⟩,⟨8,.phase⟩,⟨9,.phase⟩,⟨10,.phase⟩,⟨11,.phase⟩],none⟩) ?_
 try simp only [Act.put,List.setIfInBounds_toArray,List.set_cons_zero,List.set_cons_succ]
 refine wpAnyH_done J3 ?_ _
 go_wp2_with fail
 go_ret
 refine ⟨rfl,1,#[.cells #[.int .i64 x.r,.int .i64 x.c,.int .i64 x.v.k,.int .i64 x.v.n,.string x.v.s,.int .i64 x.v.e] 35,.cells #[.int .i64 y.r,.int .i64 y.c,.int .i64 y.v.k,.int .i64 y.v.n,.string y.v.s,.int .i64 y.v.e] 35,.cells #[.int .i64 a,.int .i64 b] 3],?_⟩
 rw [HW2.out]
 rfl
theorem cK_one1' (x : Kn) : ∀ v ∈ cK x,v.oneCell' = true:=by
 intro u hu
 simp [cK] at hu
 rcases hu with rfl | rfl | rfl | rfl | rfl | rfl <;> rfl
theorem laysK (blk off size : Nat) (w : World) : CmpLays Tryz.prog 29 #[] cK 6 cmpK blk off size w :=
 fun _ _ _ _ x y=>closK x y _
theorem holds6 {w : World} {g : Nat} {cur : Array Value} {T : TypeId} (hg : w.heap[g]? = some (.cells cur T (0,0))) {l : List Kn} (hc : cur.toList.take (l.length * 6) = l.flatMap cK) : HoldsK cK 6 w g 0 l.toArray:=by
 intro j hj
 rw [size_flatK] at hj
 simp at hj
 rw [get_flatK cK 6 _ j (by simpa using hj),Nat.zero_add]
 refine ⟨?_,frozen_of_row w g _ cur _ hg⟩
 have hk : j / 6 < l.length:=J2
 have e0 : l.toArray[j / 6]! = l[j / 6]:=by rw [getElem!_pos _ _ (by simpa using hk)];simp
 have e1 : cur.toList[j]? = (l.flatMap cK)[j]?:=by rw [← hc,List.getElem?_take,if_pos J2]
 have e2:=fm_at cK 6 cK_len l (j / 6) l[j / 6] (j % 6) (gEq hk) (Nat.mod_lt _ J9)
 rw [show j / 6 * 6 + j % 6 = j by omega] at e2
 have h6 : j % 6 < (cK l[j / 6]).length:=by rw [cK_len];exact Nat.mod_lt _ J9
 rw [cell_of_row w g j cur _ (0,0) hg,← Array.getElem?_toList,e1,e2,e0,gEq h6,getElem!_pos (cK l[j / 6]) (j % 6) h6]
 rfl
theorem sort_heap6 {w : World} {g : Nat} {cur : Array Value} {T : TypeId} {fr : Nat × Nat} (hg : w.heap[g]? = some (.cells cur T fr)) (n : Nat) (d : Array Kn) (os : Array Obj) :
   (∃ cur',(sortWorldK cK 6 w g 0 n d os).heap[g]? = some (.cells cur' T fr) ∧ cur'.size = cur.size) ∧ ∀ k,k < w.heap.size → k ≠ g → (sortWorldK cK 6 w g 0 n d os).heap[k]? = w.heap[k]?:=by
 have hs : g < w.heap.size:=(Array.getElem?_eq_some_iff.1 hg).1
 constructor
 · refine ⟨putCells id 0 (flatK cK 6 d) cur,?_,by simp [putCells]⟩
   unfold sortWorldK grow putRowK putRow mapBlock Sort.ahead
   simp only []
   rw [Array.getElem?_append_left (by simpa using hs),Array.getElem?_modify,if_pos rfl,hg]
   rfl
 · intro k hk hne
   unfold sortWorldK grow putRowK putRow mapBlock Sort.ahead
   simp only []
   rw [Array.getElem?_append_left (by simpa using hk),Array.getElem?_modify,if_neg (Ne.symm hne)]
theorem sortK_any (w : World) (base : Nat) (g cap n : Nat) (l : List Kn) (hO : w.ownsRow base 35 6 (.slice (some ⟨g,0,none⟩) n cap) n (l.flatMap cK)) (hn : n = l.length) (hl : l.length ≤ 100000) :
   Calls Tryz.prog 28 #[.slice (some ⟨g,0,none⟩) n cap,.func (.func 29) #[] #[]] w fun e w'=>∃ d,e = .returned (.tuple #[]) ∧ d.Perm l ∧ d.Pairwise (fun s t=>ltOf cmpK t s = false) ∧ RdKn w' (.slice (some ⟨g,0,none⟩) n cap) d ∧ ∀ w0 : World,w0.heap.size ≤ base → Ext w0 w → Ext w0 w':=by
 subst hn
 rcases hO.2 with ⟨h,_⟩ | ⟨g',cap',cur,h,hb,hg,hnc,hcm,hcs,htk⟩
 · cases h
 · cases h
   have hlt : g < w.heap.size:=(Array.getElem?_eq_some_iff.1 hg).1
   have eg : ∀ args w,(callFunc 29 args).run Tryz.prog w = .ok (.enter 29 args) w:=enters_of func29 J3 rfl
   have hH:=holds6 hg htk
   have hcon:=AnyQ.slices_SortFunc Tryz.laysSort 6 Tryz.isAgg35 Tryz.sizeOf35 cK cK_len cK_one1' cmpK swo_cmpK 29 #[] g 0 cap l.toArray w eg (laysK g 0 _ w) hH hlt J7
   have es : l.toArray.size = l.length:=J58
   rw [es] at hcon
   refine hcon.mono ?_
   rintro e w' ⟨rfl,d,m,os,hp,hs,hw⟩
   have hsz : d.size = l.length:=by rw [hp.1];simp
   have hperm : d.toList.Perm l:=by
     have:=hp.2.2
     rw [← hsz] at this
     have e1 : d.extract 0 d.size = d:=J58
     have e2 : l.toArray.extract 0 d.size = l.toArray:=by rw [hsz,← es];simp
     rw [e1,e2] at this
     simpa using this
   obtain ⟨⟨cur',k1,k2⟩,k3⟩:=sort_heap6 hg m d os
   have hK:=SWK.holds (w0:=w) ⟨m,os,rfl⟩ hlt hH (dk:=d) (by simp [hsz]) (W:=sortWorldK cK 6 w g 0 m d os)
   rw [← hw] at k1 k3 hK
   refine ⟨d.toList,rfl,hperm,?_,own_rdK (base:=base) (n:=l.length) ⟨by rw [fm_len cK 6 cK_len];simp [hsz],.inr ⟨g,cap,cur',rfl,hb,k1,hnc,hcm,by rw [k2];exact hcs,?_⟩⟩ (by simp [hsz]),?_⟩
   · rw [List.pairwise_iff_getElem]
     intro i j hi hj hij
     have:=hs i j (Nat.zero_le _) hij (by simpa [hsz] using hj)
     simp at hi hj
     rw [getElem!_pos d i hi,getElem!_pos d j hj] at this
     simpa using this
   · refine List.ext_getElem? (fun j=>?_)
     by_cases hj : j < l.length * 6
     · have hlt6 : j / 6 < d.size:=J2
       have hd : d.toList[j / 6]? = some d[j / 6]!:=by rw [getElem!_pos d _ hlt6,Array.getElem?_toList,Array.getElem?_eq_getElem hlt6]
       have e2:=fm_at cK 6 cK_len d.toList (j / 6) d[j / 6]! (j % 6) hd (Nat.mod_lt _ J9)
       rw [show j / 6 * 6 + j % 6 = j by omega] at e2
       have h6 : j % 6 < (cK d[j / 6]!).length:=by rw [cK_len];exact Nat.mod_lt _ J9
       have hc:=HoldsK.cells hK cK_len hlt6 (j % 6) _ (gEq h6)
       rw [Addr.add_lit,show 0 + j / 6 * 6 + j % 6 = j by omega,cell_of_row w' g j cur' _ (0,0) k1] at hc
       rw [List.getElem?_take,if_pos hj,Array.getElem?_toList,hc,e2,gEq h6]
     · rw [List.getElem?_eq_none J7,List.getElem?_eq_none (by rw [fm_len cK 6 cK_len];simp [hsz];omega)]
   · intro w0 h1 h2
     have hsz2 : w.heap.size ≤ w'.heap.size:=by rw [hw];simp [sortWorldK,grow,putRowK,putRow,mapBlock,Sort.ahead]
     refine ⟨?_,?_,?_,Nat.le_trans h2.size hsz2,fun k hk=>(k3 k (llL hk h2.size) J2).trans (h2.block k hk)⟩
     · rw [hw];exact h2.os
     · rw [hw];exact h2.tape
     · rw [hw];exact h2.output
theorem ltk_of {d : List Kn} (h1 : d.Pairwise (fun s t=>ltOf cmpK t s = false)) (h2 : d.Pairwise (fun x y=>¬ (x.r = y.r ∧ x.c = y.c))) : d.Pairwise Ltk:=by
 refine (h1.and h2).imp (fun {x y} h=>?_)
 obtain ⟨h1,h2⟩:=h
 rw [lt_cmpK] at h1
 simp at h1
 unfold Ltk
 omega
structure LsA (M : Bov) (left : Lit → Bool) (A : List Kn) : Prop where
 m : ∀ x,x ∈ A ↔ (x.v = (M x.r x.c).rw ∧ (M x.r x.c).k ≠ 0 ∧ left (kl x.r x.c) = false)
 d : A.Pairwise (fun x y=>¬ (x.r = y.r ∧ x.c = y.c))
theorem ok_i {M : Bov} (hM : BdOk M) {r c : Int} (h : (M r c).k ≠ 0) : I64 r ∧ I64 c:=by
 cases hi : inB r c with
 | true=>exact in_i hi
 | false=>rw [hM.i r c hi] at h;exact absurd rfl h
theorem lsa_start {D : DataW Value} {M : Bov} (h : RelD D M) (hM : BdOk M) : LsA M (Maps.has D) []:=by
 refine ⟨fun x=>⟨fun hx=>(by cases hx),fun ⟨_,h2,h3⟩=>?_⟩,List.Pairwise.nil⟩
 obtain ⟨i1,i2⟩:=ok_i hM h2
 rw [(h x.r x.c i1 i2).2.2 h2] at h3
 cases h3
theorem lsa_step {M : Bov} (hM : BdOk M) {left : Lit → Bool} {A : List Kn} (h : LsA M left A) {r c : Int} (ir : I64 r) (ic : I64 c) (hl : left (kl r c) = true) (hk : (M r c).k ≠ 0) : LsA M (fun z=>left z && !z.sameKey (kl r c)) (A ++ [⟨r,c,(M r c).rw⟩]):=by
 have sk : ∀ {a b : Int},(kl a b).sameKey (kl r c) = true ↔ kl a b = kl r c:=fun {a b}=>by simp [kl,Lit.sameKey]
 refine ⟨fun x=>?_,?_⟩
 · rw [List.mem_append,h.m]
   constructor
   · rintro (⟨h1,h2,h3⟩ | hx)
     · exact ⟨h1,h2,by rw [h3];rfl⟩
     · simp at hx
       subst hx
       refine ⟨rfl,hk,?_⟩
       have : (kl r c).sameKey (kl r c) = true:=sk.2 rfl
       simp [this]
   · rintro ⟨h1,h2,h3⟩
     cases hq : left (kl x.r x.c) with
     | false=>exact .inl ⟨h1,h2,rfl⟩
     | true =>
       rw [hq] at h3
       simp at h3
       obtain ⟨i1,i2⟩:=ok_i hM h2
       obtain ⟨e1,e2⟩:=kl_inj i1 i2 ir ic (sk.1 h3)
       right
       rw [List.mem_singleton]
       exact kn_eq e1 e2 (by rw [h1,e1,e2])
 · rw [List.pairwise_append]
   refine ⟨h.d,List.pairwise_singleton _ _,fun x hx y hy=>?_⟩
   rw [List.mem_singleton] at hy
   subst hy
   rintro ⟨e1,e2⟩
   have:=((h.m x).1 hx).2.2
   rw [e1,e2] at this
   rw [this] at hl
   cases hl
theorem lsa_end {M : Bov} {left : Lit → Bool} {A d L : List Kn} (h : LsA M left A) (hl : ∀ kl,left kl = false) (hp : d.Perm A) (hs : d.Pairwise (fun s t=>ltOf cmpK t s = false)) (hL : LB L M) : d = L:=by
 have hd : d.Pairwise (fun x y=>¬ (x.r = y.r ∧ x.c = y.c)):=(hp.symm.pairwise h.d (fun {x y} hn he=>hn ⟨he.1.symm,he.2.symm⟩))
 refine lb_same (M:=M) ⟨ltk_of hs hd,fun x=>?_⟩ hL
 rw [hp.mem_iff,h.m]
 exact ⟨fun h=>⟨h.1,h.2.1⟩,fun g=>⟨g.1,g.2,hl _⟩⟩
theorem hR_inv (v : Value) (y : DataW Value × List MemPlace) (_ : hR v = some y) : ∃ c : Value,v = id c:=⟨v,rfl⟩
theorem key_inv' (key : Value) (l : Lit) (h : keyOf Tryz.prog 24 key = some l) : ∃ x : Int × Int,key = plc x.1 x.2:=by
 obtain ⟨r,c,h,_⟩:=key_inv h
 exact ⟨(r,c),h⟩
def RdB (B : Nat) (W : World) (v : Value) (l : List Bg) : Prop :=
 ∃ p c,v = .slice p l.length c ∧ l.length ≤ c ∧ (l = [] ∨ ∃ b off,p = some ⟨b,off,none⟩ ∧ b < B ∧ b < W.heap.size ∧ ∀ i a,l[i]? = some a → ∃ (lv : Value),
   W.cell? ⟨b,off + i * 4,none⟩ = some (.bool a.g.area) ∧ W.cell? ⟨b,off + i * 4 + 1,none⟩ = some (.int .i64 a.rows) ∧ W.cell? ⟨b,off + i * 4 + 2,none⟩ = some (.int .i64 a.cols) ∧ W.cell? ⟨b,off + i * 4 + 3,none⟩ = some lv ∧ RdV B W lv a.g.l)
theorem RdB.low {B : Nat} {W W' : World} {v : Value} {l : List Bg} (h : RdB B W v l) (e : Below B W W') : RdB B W' v l:=by
 obtain ⟨p,c,h1,h2,h3⟩:=h
 refine ⟨p,c,h1,h2,?_⟩
 rcases h3 with h3 | ⟨b,off,h3,h4,h5,h6⟩
 · exact .inl h3
 · refine .inr ⟨b,off,h3,h4,llL h5 e.size,fun i r hr=>?_⟩
   have k:=fun o=>Below.cell e (p:=⟨b,o,none⟩) h4
   obtain ⟨lv,k0,k1,k2,k3,k4⟩:=h6 i r hr
   exact ⟨lv,(k _).trans k0,(k _).trans k1,(k _).trans k2,(k _).trans k3,k4.low e⟩
theorem RdB.up {B B' : Nat} {W : World} {v : Value} {l : List Bg} (h : RdB B W v l) (e : B ≤ B') : RdB B' W v l:=by
 obtain ⟨p,c,h1,h2,h3⟩:=h
 refine ⟨p,c,h1,h2,?_⟩
 rcases h3 with h3 | ⟨b,off,h3,h4,h5,h6⟩
 · exact .inl h3
 · refine .inr ⟨b,off,h3,llL h4 e,h5,fun i r hr=>?_⟩
   obtain ⟨lv,k0,k1,k2,k3,k4⟩:=h6 i r hr
   exact ⟨lv,k0,k1,k2,k3,k4.up e⟩
theorem RdB.to {B : Nat} {W W' : World} {v : Value} {l : List Bg} (h : RdB B W v l) (hB : B ≤ W.heap.size) (e : Ext W W') : RdB W'.heap.size W' v l:=((h.up hB).low e).up e.size
theorem RdB.at {B : Nat} {W : World} {p : Option Addr} {c n : Nat} {l : List Bg} (h : RdB B W (.slice p n c) l) {i : Nat} {a : Bg} (hi : l[i]? = some a) :
   ∃ (b off : Nat) (lv : Value),p = some ⟨b,off,none⟩ ∧ b < B ∧ b < W.heap.size ∧
     (W.cell? ⟨b,off + i * 4,none⟩ = some (.bool a.g.area) ∧ W.cell? ⟨b,off + i * 4 + 1,none⟩ = some (.int .i64 a.rows) ∧ W.cell? ⟨b,off + i * 4 + 2,none⟩ = some (.int .i64 a.cols) ∧ W.cell? ⟨b,off + i * 4 + 3,none⟩ = some lv) ∧ RdV B W lv a.g.l:=by
 obtain ⟨p',c',h1,h2,h3⟩:=h
 cases h1
 rcases h3 with h3 | ⟨b,off,h3,h4,h5,h6⟩
 · subst h3;simp at hi
 · obtain ⟨lv,k0,k1,k2,k3,k4⟩:=h6 i _ hi
   exact ⟨b,off,lv,h3,h4,h5,⟨k0,k1,k2,k3⟩,k4⟩
theorem RdB.form {B : Nat} {W : World} {v : Value} {l : List Bg} (h : RdB B W v l) : ∃ p n c,v = .slice p n c ∧ n = l.length ∧ n ≤ c:=by
 exact K95
theorem RdB.len {B : Nat} {W : World} {p : Option Addr} {c n : Nat} {l : List Bg} (h : RdB B W (.slice p n c) l) : n = l.length:=by
 obtain ⟨p',c',h1,_⟩:=h
 cases h1;rfl
theorem RdB.toA {B : Nat} {W : World} {v : Value} {l : List Bg} (h : RdB B W v l) : RdA B W v (gsOf l):=by
 obtain ⟨p,c,h1,h2,h3⟩:=h
 have e : (gsOf l).length = l.length:=by simp [gsOf]
 refine ⟨p,c,by rw [e];exact h1,by rw [e];exact h2,?_⟩
 rcases h3 with h3 | ⟨b,off,h3,h4,h5,h6⟩
 · subst h3;exact .inl rfl
 · refine .inr ⟨b,off,h3,h4,h5,fun i r hr=>?_⟩
   unfold gsOf at hr
   rw [List.getElem?_map] at hr
   cases hx : l[i]? with
   | none=>rw [hx] at hr;cases hr
   | some a =>
     rw [hx] at hr
     simp at hr
     subst hr
     obtain ⟨lv,k0,k1,k2,k3,k4⟩:=h6 i a hx
     exact ⟨_,_,lv,k0,k1,k2,k3,k4⟩
structure FitB (W : World) (v : Value) (l : List Bg) : Prop where
 rd : RdB W.heap.size W v l
 i : AgI (gsOf l)
 s : (seen (gsOf l)).length ≤ 10000000000
 z : l.length ≤ 10000000000
 r : ∀ a ∈ l,I64 a.rows ∧ I64 a.cols
theorem FitB.ext {W W' : World} {v : Value} {l : List Bg} (h : FitB W v l) (e : Ext W W') : FitB W' v l:=⟨h.rd.to nrf e,h.i,h.s,h.z,h.r⟩
theorem FitB.ok {W : World} {v : Value} {l : List Bg} (h : FitB W v l) (i : Nat) : (sg l i).ok:=by
 unfold sg
 cases hx : l[i]? with
 | none=>exact ⟨by decide,by decide⟩
 | some a =>
   show (sgl a).ok
   unfold sgl
   split
   · exact K78
   · have:=h.i a.g (by unfold gsOf;exact List.mem_map.2 ⟨a,List.mem_of_getElem? hx,rfl⟩)
     exact K159
theorem xsingle_any (l : List Bg) (i : Nat) (a : Bg) (hi : l[i]? = some a) (p : Option Addr) (n c B : Nat) (W : World) (hN : Nm W) (h : RdB B W (.slice p n c) l) (hm : n ≤ 10000000000) :
   Calls Tryz.prog 200 #[.slice p n c,.int .i64 (i : Int)] W fun e w'=>e = .returned (sgl a).dat ∧ Ext W w':=by
 have hn:=h.len
 have hlt : i < n:=by rw [hn];exact (List.getElem?_eq_some_iff.1 hi).1
 obtain ⟨b,off,lv,rfl,hb,hbW,⟨k0,k1,k2,k3⟩,hV⟩:=h.at hi
 obtain ⟨p',n',c',rfl,hn',hc'⟩:=hV.form
 have hltI : (i : Int) < (n : Int):=J2
 have hmI : (n : Int) ≤ 10000000000:=J2
 have HV : Hid (RdV B W (.slice p' n' c') a.g.l):=hV
 clear h hi hn hlt hb hV hc' hm
 have c2:=fun W h=>err_any 2 W h
 rw [mkErr_is ⟨by decide,by decide⟩] at c2
 simp only [V.dat] at c2
 cases har : a.g.area with
 | true =>
   have H : Hid (sgl a = .err 2):=by show _ = _;unfold sgl;rw [har];rfl
   rw [har] at k0
   clear har hn'
   go_enter func200,ntmps200
   go_wp2_with fail
   refine (c2 _ (hN.ext (xr.alloc _))).mono ?_
   rintro e w1 ⟨rfl,E1⟩
   obtain ⟨z,⟨b0,b1,b2,b3⟩,f0,f1,f2,f3⟩:=blk_top (b:=W.heap.size) J58 E1
   go_wp2_with fail
   exact fin4 b0 b1 b2 b3 rfl J58 ((xr.alloc _).trans E1) (fun W g0 g1 g2 g3=>by simp [results,results200,go_sem,g0,g1,g2,g3]) (fun W h=>⟨by rw [H.out];rfl,h⟩)
 | false =>
   have H : Hid (sgl a = one1 a.g.l):=by show _ = _;unfold sgl;rw [har];rfl
   rw [har] at k0
   clear har c2
   cases hl : a.g.l with
   | nil =>
     have H1 : Hid (sgl a = .blank):=by show _ = _;rw [H.out,hl];rfl
     have e0 : n' = 0:=by rw [hn',hl];rfl
     subst e0
     clear hl hn' H
     go_enter func200,ntmps200
     go_wp2_with fail
     simp [bodyPost,results,results200,go_sem]
     exact ⟨by rw [H1.out];rfl,xr.alloc _⟩
   | cons r t =>
     have H1 : Hid (sgl a = nm r.k r.n r.s r.e):=by show _ = _;rw [H.out,hl];rfl
     have hV:=HV.out
     rw [hl] at hV
     obtain ⟨b',off',r',rfl,hr,hb',hbW',j0,j1,j2,j3⟩:=hV.at (i:=0) J58
     simp at hr
     subst hr
     simp only [Nat.zero_mul,Nat.add_zero] at j0 j1 j2 j3
     have e1 : ((n' : Int) == 0) = false:=by simp;rw [hn',hl];simp
     have e2 : (0 : Int) < (n' : Int):=by rw [hn',hl];simp only [List.length_cons];omega
     have c0:=fun W h=>vnormal_any r.k r.n r.s r.e W h
     obtain ⟨q0,q1,q2,q3,hq⟩:=dat4 (nm r.k r.n r.s r.e)
     rw [hq] at c0
     have HQ : Hid ((nm r.k r.n r.s r.e).dat = .agg #[.int .i64 q0,.int .i64 q1,.string q2,.int .i64 q3]):=hq
     clear hq hV hl hn' HV H hb'
     go_enter func200,ntmps200
     go_wp2_with fail
     refine (c0 _ (hN.ext (xr.alloc _))).mono ?_
     rintro e w1 ⟨rfl,E1⟩
     obtain ⟨z,⟨b0,b1,b2,b3⟩,f0,f1,f2,f3⟩:=blk_top (b:=W.heap.size) J58 E1
     go_wp2_with fail
     exact fin4 b0 b1 b2 b3 rfl J58 ((xr.alloc _).trans E1) (fun W g0 g1 g2 g3=>by simp [results,results200,go_sem,g0,g1,g2,g3]) (fun W h=>⟨by rw [H1.out,HQ.out],h⟩)
def pan (x : Int) : Ending:=.panicked [{ v:=.iface 162 (.int .i64 x),recovered:=false }]
def RzQ {α : Type} (f : α → Value) (r : R α) (e : Ending) : Prop:=match r with
 | .ok v=>e = .returned (f v)
 | .error x=>e = pan x
theorem xmust_ok (k n : Int) (s : ByteArray) (e : Int) (hk : (k == 4) = false) (W : World) :
   Calls Tryz.prog 242 #[.agg #[.int .i64 k,.int .i64 n,.string s,.int .i64 e]] W fun r w'=>r = .returned (.agg #[.int .i64 k,.int .i64 n,.string s,.int .i64 e]) ∧ Ext W w':=by
 go_enter func242,ntmps242
 go_wp2_with fail
 simp [bodyPost,results,results242,go_sem]
 exact (xr.alloc _).alloc _
theorem xmust_no (k n : Int) (s : ByteArray) (e : Int) (hk : (k == 4) = true) (W : World) :
   Calls Tryz.prog 242 #[.agg #[.int .i64 k,.int .i64 n,.string s,.int .i64 e]] W fun r w'=>r = pan e ∧ Ext W w':=by
 go_enter func242,ntmps242
 go_wp2_with fail
 exact ⟨rfl,rfl,((xr.alloc _).alloc _)⟩
theorem nuR_ok {v : V} {n : Int} (h : v.toNum = .num n) : nuR v = .ok n:=by unfold nuR;rw [h];rfl
theorem nuR_no {v : V} {e : Int} (h : v.toNum = .err e) : nuR v = .error e:=by unfold nuR;rw [h]
theorem nuR_can {v : V} {n : Int} (hv : v.ok) (h : nuR v = .ok n) : I64 n ∧ canB n = true:=by
 rcases toNum_cases v hv with ⟨m,hm,h2⟩ | ⟨e,he,_⟩
 · rw [nuR_ok hm] at h;cases h;exact h2
 · rw [nuR_no he] at h;cases h
theorem toBool_cases (v : V) : (∃ b,v.toBool = .tf b) ∨ (∃ e,v.toBool = .err e):=by
 cases v with
 | blank=>exact .inl ⟨_,rfl⟩
 | tf b=>exact .inl ⟨_,rfl⟩
 | num n=>exact .inl ⟨_,rfl⟩
 | err e=>exact .inr ⟨_,rfl⟩
 | text s =>
   show (∃ b,(if s.data.toList = trueL then V.tf true else if s.data.toList = falseL then V.tf false else V.err 2) = .tf b) ∨ (∃ e,(if s.data.toList = trueL then V.tf true else if s.data.toList = falseL then V.tf false else V.err 2) = .err e)
   split
   · exact .inl ⟨_,rfl⟩
   · split
     · exact .inl ⟨_,rfl⟩
     · exact .inr ⟨_,rfl⟩
structure At (W : World) (v : Value) (l : List Bg) (i : Nat) (a : Bg) : Prop where
 f : FitB W v l
 n : Nm W
 a : l[i]? = some a
theorem At.ext {W W' : World} {v : Value} {l : List Bg} {i : Nat} {a : Bg} (h : At W v l i a) (e : Ext W W') : At W' v l i a:=⟨h.f.ext e,h.n.ext e,h.a⟩
theorem At.sg {W : World} {v : Value} {l : List Bg} {i : Nat} {a : Bg} (h : At W v l i a) : sg l i = sgl a:=by unfold Go.Proofs.YtcfgbiaahangmaaGreatDoor.sg;rw [h.a]
theorem At.ok {W : World} {v : Value} {l : List Bg} {i : Nat} {a : Bg} (h : At W v l i a) : (sgl a).ok:=by rw [← h.sg];exact h.f.ok i
theorem At.one {W : World} {p : Option Addr} {n c : Nat} {l : List Bg} {i : Nat} {a : Bg} (h : At W (.slice p n c) l i a) :
   Calls Tryz.prog 200 #[.slice p n c,.int .i64 (i : Int)] W fun e w'=>e = .returned (.agg #[.int .i64 (sgl a).k,.int .i64 (sgl a).n,.string (sgl a).s,.int .i64 (sgl a).e]) ∧ Ext W w':=by
 have:=xsingle_any l i a h.a p n c _ W h.n h.f.rd (by rw [h.f.rd.len];exact h.f.z)
 rwa [dat_eq] at this
theorem teR_ok {v : V} {s : ByteArray} (h : v.toText = .text s) : teR v = .ok s:=by unfold teR;rw [h];rfl
theorem teR_no {v : V} {e : Int} (h : v.toText = .err e) : teR v = .error e:=by unfold teR;rw [h]
theorem trR_ok {v : V} {b : Bool} (h : v.toBool = .tf b) : trR v = .ok b:=by unfold trR;rw [h];cases b <;> rfl
theorem trR_no {v : V} {e : Int} (h : v.toBool = .err e) : trR v = .error e:=by unfold trR;rw [h]
theorem fld_n (k n : Int) (s : ByteArray) (e : Int) (W : World) : (Instr.field 33 (.agg #[.int .i64 k,.int .i64 n,.string s,.int .i64 e]) 1).run Tryz.prog W = .ok (.int .i64 n) W:=J3
theorem fld_s (k n : Int) (s : ByteArray) (e : Int) (W : World) : (Instr.field 33 (.agg #[.int .i64 k,.int .i64 n,.string s,.int .i64 e]) 2).run Tryz.prog W = .ok (.string s) W:=J3
theorem fld_k (k n : Int) (s : ByteArray) (e : Int) (W : World) : (Instr.field 33 (.agg #[.int .i64 k,.int .i64 n,.string s,.int .i64 e]) 0).run Tryz.prog W = .ok (.int .i64 k) W:=J3
theorem xnumber_any (l : List Bg) (i : Nat) (a : Bg) (p : Option Addr) (n c : Nat) (W : World) (h : At W (.slice p n c) l i a) :
   Calls Tryz.prog 190 #[.slice p n c,.int .i64 (i : Int)] W fun e w'=>RzQ (Value.int .i64) (nuR (sgl a)) e ∧ Ext W w':=by
 have c0:=h.one
 have hok:=h.ok
 have c1:=fun W hN=>vtonum_any (sgl a).k (sgl a).n (sgl a).s (sgl a).e W (nm_of _ hok).2 hN
 rw [(nm_of _ hok).1] at c1
 have HN : Hid (Nm W):=h.n
 generalize sgl a = v at *
 clear h
 generalize v.k = k0,v.n = n0,v.s = s0,v.e = e0 at c0 c1
 rcases toNum_cases v hok with ⟨x,hx,_⟩ | ⟨x,hx,_⟩
 · rw [nuR_ok hx]
   rw [hx] at c1
   simp only [V.dat] at c1
   clear hok hx
   have c2:=fun W=>xmust_ok 2 x ⟨#[]⟩ 0 rfl W
   have hf:=fld_n
   go_enter func190,ntmps190
   go_wp2_with fail
   refine c0.mono ?_
   rintro e w1 ⟨rfl,E1⟩
   have X1 : Hid (Ext W w1):=E1
   clear E1
   go_wp2_with fail
   refine (c1 _ (HN.out.ext X1.out)).mono ?_
   exact K90
 · rw [nuR_no hx]
   rw [hx] at c1
   simp only [V.dat] at c1
   clear hok hx
   have c2:=fun W=>xmust_no 4 0 ⟨#[]⟩ x rfl W
   have hf:=fld_n
   go_enter func190,ntmps190
   exact K179
theorem xtext_any (l : List Bg) (i : Nat) (a : Bg) (p : Option Addr) (n c : Nat) (W : World) (h : At W (.slice p n c) l i a) (hT : Tab W) :
   Calls Tryz.prog 197 #[.slice p n c,.int .i64 (i : Int)] W fun e w'=>RzQ (Value.string) (teR (sgl a)) e ∧ Ext W w':=by
 have c0:=h.one
 have hok:=h.ok
 have c1:=fun W hN hT=>vtotext_any (sgl a).k (sgl a).n (sgl a).s (sgl a).e W (nm_of _ hok).2 hT hN
 rw [(nm_of _ hok).1] at c1
 have HN : Hid (Nm W ∧ Tab W):=⟨h.n,hT⟩
 generalize sgl a = v at *
 clear h
 generalize v.k = k0,v.n = n0,v.s = s0,v.e = e0 at c0 c1
 rcases toText_cases v hok with ⟨x,hx,_⟩ | ⟨x,hx,_⟩
 · rw [teR_ok hx]
   rw [hx] at c1
   simp only [V.dat] at c1
   clear hok hx hT
   have c2:=fun W=>xmust_ok 3 0 x 0 rfl W
   have hf:=fld_s
   go_enter func197,ntmps197
   go_wp2_with fail
   refine c0.mono ?_
   rintro e w1 ⟨rfl,E1⟩
   have X1 : Hid (Ext W w1):=E1
   clear E1
   go_wp2_with fail
   refine (c1 _ (HN.out.1.ext X1.out) (HN.out.2.ext X1.out)).mono ?_
   exact K90
 · rw [teR_no hx]
   rw [hx] at c1
   simp only [V.dat] at c1
   clear hok hx hT
   have c2:=fun W=>xmust_no 4 0 ⟨#[]⟩ x rfl W
   have hf:=fld_s
   go_enter func197,ntmps197
   go_wp2_with fail
   refine c0.mono ?_
   rintro e w1 ⟨rfl,E1⟩
   have X1 : Hid (Ext W w1):=E1
   clear E1
   go_wp2_with fail
   refine (c1 _ (HN.out.1.ext X1.out) (HN.out.2.ext X1.out)).mono ?_
   exact K65
theorem xtruth_any (l : List Bg) (i : Nat) (a : Bg) (p : Option Addr) (n c : Nat) (W : World) (h : At W (.slice p n c) l i a) :
   Calls Tryz.prog 188 #[.slice p n c,.int .i64 (i : Int)] W fun e w'=>RzQ (Value.bool) (trR (sgl a)) e ∧ Ext W w':=by
 have c0:=h.one
 have hok:=h.ok
 have c1:=fun W hN=>vtobool_any (sgl a).k (sgl a).n (sgl a).s (sgl a).e W (nm_of _ hok).2 hN
 rw [(nm_of _ hok).1] at c1
 have HN : Hid (Nm W):=h.n
 generalize sgl a = v at *
 clear h
 generalize v.k = k0,v.n = n0,v.s = s0,v.e = e0 at c0 c1
 rcases toBool_cases v with ⟨x,hx⟩ | ⟨x,hx⟩
 · rw [trR_ok hx]
   rw [hx] at c1
   simp only [V.dat] at c1
   clear hok hx
   obtain ⟨y,hy⟩ : ∃ y : Int,(if x = true then (1 : Int) else 0) = y:=⟨_,rfl⟩
   have HY : Hid (((if x = true then (1 : Int) else 0) != 0) = x ∧ (if x = true then (1 : Int) else 0) = y):=⟨by cases x <;> rfl,hy⟩
   rw [hy] at c1
   clear hy
   have c2:=fun W=>xmust_ok 1 y ⟨#[]⟩ 0 rfl W
   have hf:=fld_n
   go_enter func188,ntmps188
   go_wp2_with fail
   refine c0.mono ?_
   rintro e w1 ⟨rfl,E1⟩
   have X1 : Hid (Ext W w1):=E1
   clear E1
   go_wp2_with fail
   refine (c1 _ (HN.out.ext X1.out)).mono ?_
   rintro e w2 ⟨rfl,E2⟩
   have X2 : Hid (Ext W w2):=X1.out.trans E2
   clear E2
   go_wp2_with fail
   refine (c2 _).mono ?_
   rintro e w3 ⟨rfl,E3⟩
   go_wp2_with fail
   go_ret
   exact ⟨ret_bool (by rw [← HY.out.2];exact HY.out.1),X2.out.trans E3⟩
 · rw [trR_no hx]
   rw [hx] at c1
   simp only [V.dat] at c1
   clear hok hx
   have c2:=fun W=>xmust_no 4 0 ⟨#[]⟩ x rfl W
   have hf:=fld_n
   go_enter func188,ntmps188
   exact K179
theorem whole_div (n : Int) : (n.tmod 10000 < 0 → n.tdiv 10000 - 1 = whN n) ∧ (¬ n.tmod 10000 < 0 → n.tdiv 10000 = whN n):=by
 unfold whN
 by_cases h : 0 ≤ n
 · rw [Int.tmod_eq_emod_of_nonneg h,Int.tdiv_eq_ediv_of_nonneg h]
   constructor <;> omega
 · obtain ⟨m,rfl⟩ : ∃ m : Int,n = -m:=⟨-n,by omega⟩
   rw [Int.neg_tmod,Int.neg_tdiv,Int.tmod_eq_emod_of_nonneg J2,Int.tdiv_eq_ediv_of_nonneg J2]
   constructor <;> omega
theorem xwhole_any (l : List Bg) (i : Nat) (a : Bg) (p : Option Addr) (n c : Nat) (W : World) (h : At W (.slice p n c) l i a) :
   Calls Tryz.prog 193 #[.slice p n c,.int .i64 (i : Int)] W fun e w'=>RzQ (Value.int .i64) (whR (sgl a)) e ∧ Ext W w':=by
 have c0:=xnumber_any l i a p n c W h
 have hok:=h.ok
 generalize sgl a = v at *
 clear h
 rcases toNum_cases v hok with ⟨x,hx,hI,_⟩ | ⟨x,hx,_⟩
 · have e1 : whR v = .ok (whN x):=by unfold whR;rw [nuR_ok hx];rfl
   rw [e1]
   rw [nuR_ok hx] at c0
   have C : Calls Tryz.prog 190 #[.slice p n c,.int .i64 (i : Int)] W fun e w'=>e = .returned (.int .i64 x) ∧ Ext W w':=c0
   have hw:=whole_div x
   have hb : -1000000000000000 ≤ x.tdiv 10000 ∧ x.tdiv 10000 ≤ 1000000000000000:=by
     obtain ⟨i1,i2⟩:=hI
     have:=whole_div x
     unfold whN at this
     by_cases hm : x.tmod 10000 < 0
     · have:=this.1 hm;omega
     · have:=this.2 hm;omega
   obtain ⟨q,hq⟩ : ∃ q,x.tdiv 10000 = q:=⟨_,rfl⟩
   obtain ⟨m,hm⟩ : ∃ m,x.tmod 10000 = m:=⟨_,rfl⟩
   rw [hq,hm] at hw
   rw [hq] at hb
   obtain ⟨b1,b2⟩:=hb
   clear c0 e1 hok hx hI
   by_cases hlt : m < 0
   · have HW : Hid (q - 1 = whN x):=hw.1 hlt
     have WK : wrap64 (q - 1) = q - 1:=J65
     exact K107
   · have HW : Hid (q = whN x):=hw.2 hlt
     exact K107
 · have e1 : whR v = .error x:=by unfold whR;rw [nuR_no hx];rfl
   rw [e1]
   rw [nuR_no hx] at c0
   have C : Calls Tryz.prog 190 #[.slice p n c,.int .i64 (i : Int)] W fun e w'=>e = pan x ∧ Ext W w':=c0
   clear c0 e1 hok hx
   go_enter func193,ntmps193
   exact K161
theorem xwhole_one (l : List Bg) (i : Nat) (p : Option Addr) (n c : Nat) (W : World) (h : FitB W (.slice p n c) l) (hN : Nm W) :
   Calls Tryz.prog 249 #[.slice p n c,.int .i64 (i : Int)] W fun e w'=>RzQ (Value.int .i64) (whO l i) e ∧ Ext W w':=by
 have hn:=h.rd.len
 have hl:=h.z
 by_cases hlt : l.length ≤ i
 · have e1 : whO l i = .ok 1:=by unfold whO;rw [if_pos hlt]
   rw [e1]
   have d1 : (i : Int) ≥ (n : Int):=J2
   have d2 : (n : Int) ≤ 10000000000:=J2
   clear e1 hlt hn hl h
   go_enter func249,ntmps249
   go_wp2_with fail
   go_ret
   exact ⟨rfl,Ext.refl _⟩
 · have hx : l[i]? = some l[i]:=gEq J2
   have e1 : whO l i = whR (sgl l[i]):=by unfold whO;rw [if_neg hlt];unfold sg;rw [hx]
   rw [e1]
   have c0:=xwhole_any l i _ p n c W ⟨h,hN,hx⟩
   have d1 : ¬ (i : Int) ≥ (n : Int):=J2
   have d2 : (n : Int) ≤ 10000000000:=J2
   generalize whR (sgl l[i]) = r at *
   clear e1 hlt hn hl h hx
   cases r with
   | ok x =>
     have C : Calls Tryz.prog 193 #[.slice p n c,.int .i64 (i : Int)] W fun e w'=>e = .returned (.int .i64 x) ∧ Ext W w':=c0
     clear c0
     go_enter func249,ntmps249
     go_wp2_with fail
     refine C.mono ?_
     rintro e w1 ⟨rfl,E1⟩
     go_wp2_with fail
     go_ret
     exact ⟨rfl,E1⟩
   | error x =>
     have C : Calls Tryz.prog 193 #[.slice p n c,.int .i64 (i : Int)] W fun e w'=>e = pan x ∧ Ext W w':=c0
     clear c0
     go_enter func249,ntmps249
     exact K161
theorem xtold_no (n : Int) (W : World) : Calls Tryz.prog 191 #[.int .i64 n,.bool false] W fun e w'=>e = pan 4 ∧ Ext W w':=by
 go_enter func191,ntmps191
 go_wp2_with fail
 exact ⟨rfl,rfl,xr.alloc _⟩
theorem xtold_ok (n : Int) (W : World) (hN : Nm W) : Calls Tryz.prog 191 #[.int .i64 n,.bool true] W fun e w'=>e = .returned (.agg #[.int .i64 (mkNum n).k,.int .i64 (mkNum n).n,.string (mkNum n).s,.int .i64 (mkNum n).e]) ∧ Ext W w':=by
 have c1:=fun W h=>vnum_any n W h
 rw [dat_eq] at c1
 generalize (mkNum n).k = q0,(mkNum n).n = q1,(mkNum n).s = q2,(mkNum n).e = q3 at *
 go_enter func191,ntmps191
 go_wp2_with fail
 refine (c1 _ (hN.ext (xr.alloc _))).mono ?_
 rintro e w1 ⟨rfl,E1⟩
 obtain ⟨z,⟨b0,b1,b2,b3⟩,f0,f1,f2,f3⟩:=blk_top (b:=W.heap.size) J58 E1
 go_wp2_with fail
 exact fin4 b0 b1 b2 b3 rfl J58 ((xr.alloc _).trans E1) (fun W g0 g1 g2 g3=>by simp [results,results191,go_sem,g0,g1,g2,g3]) (fun W h=>⟨rfl,h⟩)
theorem xsize_any (n : Int) (hn : I64 n) (hc : canB n = true) (W : World) : Calls Tryz.prog 189 #[.int .i64 n] W fun e w'=>e = .returned (.int .i64 (szN n)) ∧ w' = W:=by
 obtain ⟨h1,h2⟩:=hn
 have h3 : n ≠ -9223372036854775808:=by simpa [canB] using hc
 have WK : wrap64 (-n) = -n:=J65
 have HZ : Hid (szN n = max n (-n)):=by show _ = _;unfold szN;split <;> omega
 clear hc
 go_enter func189,ntmps189
 go_wp2_with fail
 go_ret
 exact ⟨ret_int HZ.out.symm,rfl⟩
def Rw.dat (r : Rw) : Value:=.agg #[.int .i64 r.k,.int .i64 r.n,.string r.s,.int .i64 r.e]
theorem sg_of {l : List Bg} {i : Nat} {a : Bg} (h : l[i]? = some a) : sg l i = sgl a:=by unfold sg;rw [h]
theorem xnumber_ok {l : List Bg} {i : Nat} {a : Bg} {p : Option Addr} {n c : Nat} {W : World} (hF : FitB W (.slice p n c) l) (hN : Nm W) (ha : l[i]? = some a) {x : Int} (hx : nuR (sgl a) = .ok x) (W' : World) (e : Ext W W') :
   Calls Tryz.prog 190 #[.slice p n c,.int .i64 (i : Int)] W' fun e w'=>e = .returned (.int .i64 x) ∧ Ext W' w':=by
 have:=xnumber_any l i a p n c W' ⟨hF.ext e,hN.ext e,ha⟩
 exact K117
theorem xnumber_no {l : List Bg} {i : Nat} {a : Bg} {p : Option Addr} {n c : Nat} {W : World} (hF : FitB W (.slice p n c) l) (hN : Nm W) (ha : l[i]? = some a) {x : Int} (hx : nuR (sgl a) = .error x) (W' : World) (e : Ext W W') :
   Calls Tryz.prog 190 #[.slice p n c,.int .i64 (i : Int)] W' fun e w'=>e = pan x ∧ Ext W' w':=by
 have:=xnumber_any l i a p n c W' ⟨hF.ext e,hN.ext e,ha⟩
 exact K117
theorem xtruth_ok {l : List Bg} {i : Nat} {a : Bg} {p : Option Addr} {n c : Nat} {W : World} (hF : FitB W (.slice p n c) l) (hN : Nm W) (ha : l[i]? = some a) {x : Bool} (hx : trR (sgl a) = .ok x) (W' : World) (e : Ext W W') :
   Calls Tryz.prog 188 #[.slice p n c,.int .i64 (i : Int)] W' fun e w'=>e = .returned (.bool x) ∧ Ext W' w':=by
 have:=xtruth_any l i a p n c W' ⟨hF.ext e,hN.ext e,ha⟩
 exact K117
theorem xtruth_no {l : List Bg} {i : Nat} {a : Bg} {p : Option Addr} {n c : Nat} {W : World} (hF : FitB W (.slice p n c) l) (hN : Nm W) (ha : l[i]? = some a) {x : Int} (hx : trR (sgl a) = .error x) (W' : World) (e : Ext W W') :
   Calls Tryz.prog 188 #[.slice p n c,.int .i64 (i : Int)] W' fun e w'=>e = pan x ∧ Ext W' w':=by
 have:=xtruth_any l i a p n c W' ⟨hF.ext e,hN.ext e,ha⟩
 exact K117
theorem xwhole_ok {l : List Bg} {i : Nat} {a : Bg} {p : Option Addr} {n c : Nat} {W : World} (hF : FitB W (.slice p n c) l) (hN : Nm W) (ha : l[i]? = some a) {x : Int} (hx : whR (sgl a) = .ok x) (W' : World) (e : Ext W W') :
   Calls Tryz.prog 193 #[.slice p n c,.int .i64 (i : Int)] W' fun e w'=>e = .returned (.int .i64 x) ∧ Ext W' w':=by
 have:=xwhole_any l i a p n c W' ⟨hF.ext e,hN.ext e,ha⟩
 exact K117
theorem xwhole_no {l : List Bg} {i : Nat} {a : Bg} {p : Option Addr} {n c : Nat} {W : World} (hF : FitB W (.slice p n c) l) (hN : Nm W) (ha : l[i]? = some a) {x : Int} (hx : whR (sgl a) = .error x) (W' : World) (e : Ext W W') :
   Calls Tryz.prog 193 #[.slice p n c,.int .i64 (i : Int)] W' fun e w'=>e = pan x ∧ Ext W' w':=by
 have:=xwhole_any l i a p n c W' ⟨hF.ext e,hN.ext e,ha⟩
 exact K117
theorem xtext_ok {l : List Bg} {i : Nat} {a : Bg} {p : Option Addr} {n c : Nat} {W : World} (hF : FitB W (.slice p n c) l) (hN : Nm W) (hT : Tab W) (ha : l[i]? = some a) {x : ByteArray} (hx : teR (sgl a) = .ok x) (W' : World) (e : Ext W W') :
   Calls Tryz.prog 197 #[.slice p n c,.int .i64 (i : Int)] W' fun e w'=>e = .returned (.string x) ∧ Ext W' w':=by
 exact K188
theorem xtext_no {l : List Bg} {i : Nat} {a : Bg} {p : Option Addr} {n c : Nat} {W : World} (hF : FitB W (.slice p n c) l) (hN : Nm W) (hT : Tab W) (ha : l[i]? = some a) {x : Int} (hx : teR (sgl a) = .error x) (W' : World) (e : Ext W W') :
   Calls Tryz.prog 197 #[.slice p n c,.int .i64 (i : Int)] W' fun e w'=>e = pan x ∧ Ext W' w':=by
 exact K188
theorem xone_ok {l : List Bg} {i : Nat} {p : Option Addr} {n c : Nat} {W : World} (hF : FitB W (.slice p n c) l) (hN : Nm W) {x : Int} (hx : whO l i = .ok x) (W' : World) (e : Ext W W') :
   Calls Tryz.prog 249 #[.slice p n c,.int .i64 (i : Int)] W' fun e w'=>e = .returned (.int .i64 x) ∧ Ext W' w':=by
 have:=xwhole_one l i p n c W' (hF.ext e) (hN.ext e)
 exact K117
theorem xone_no {l : List Bg} {i : Nat} {p : Option Addr} {n c : Nat} {W : World} (hF : FitB W (.slice p n c) l) (hN : Nm W) {x : Int} (hx : whO l i = .error x) (W' : World) (e : Ext W W') :
   Calls Tryz.prog 249 #[.slice p n c,.int .i64 (i : Int)] W' fun e w'=>e = pan x ∧ Ext W' w':=by
 have:=xwhole_one l i p n c W' (hF.ext e) (hN.ext e)
 exact K117
theorem xsingle_at {l : List Bg} {i : Nat} {a : Bg} {p : Option Addr} {n c : Nat} {W : World} (hF : FitB W (.slice p n c) l) (hN : Nm W) (ha : l[i]? = some a) (W' : World) (e : Ext W W') :
   Calls Tryz.prog 200 #[.slice p n c,.int .i64 (i : Int)] W' fun e w'=>e = .returned (.agg #[.int .i64 (sgl a).k,.int .i64 (sgl a).n,.string (sgl a).s,.int .i64 (sgl a).e]) ∧ Ext W' w':=At.one ⟨hF.ext e,hN.ext e,ha⟩
theorem bool_at (b : Bool) {W : World} (W' : World) (_ : Ext W W') : Calls Tryz.prog 67 #[.bool b] W' fun r w'=>r = .returned (.agg #[.int .i64 1,.int .i64 (if b then 1 else 0),.string ⟨#[]⟩,.int .i64 0]) ∧ Ext W' w':=vbool_any b W'
theorem xchosen_any (l : List Bg) (a0 a1 : Bg) (h0 : l[0]? = some a0) (h1 : l[1]? = some a1) (p : Option Addr) (n c : Nat) (W : World) (hF : FitB W (.slice p n c) l) (hN : Nm W) :
   Calls Tryz.prog 187 #[.slice p n c] W fun e w'=>RzQ Rw.dat (xIf l) e ∧ Ext W w':=by
 have hn:=hF.rd.len
 have hm:=hF.z
 have d2 : (n : Int) ≤ 10000000000:=J2
 cases ht : trR (sgl a0) with
 | error x =>
   have HX : xIf l = .error x:=by unfold xIf;rw [sg_of h0,ht]
   rw [HX]
   have c0:=xtruth_no hF hN h0 ht
   clear hn hm HX ht
   go_enter func187,ntmps187
   exact K28
 | ok t =>
   have c0:=xtruth_ok hF hN h0 ht
   cases t with
   | true =>
     have HX : xIf l = .ok (sgl a1).rw:=by unfold xIf;rw [sg_of h0,sg_of h1,ht];rfl
     rw [HX]
     have c1:=xsingle_at hF hN h1
     clear hn hm HX ht
     exact K21
   | false =>
     by_cases h3 : l.length < 3
     · have HX : xIf l = .ok (V.tf false).rw:=by unfold xIf;rw [sg_of h0,ht];simp [h3]
       rw [HX]
       have d1 : (n : Int) < 3:=J2
       have c1 : ∀ W',Ext W W' → Calls Tryz.prog 67 #[.bool false] W' fun r w'=>r = .returned (.agg #[.int .i64 1,.int .i64 0,.string ⟨#[]⟩,.int .i64 0]) ∧ Ext W' w':=fun W' e=>bool_at (W:=W) false W' e
       clear hn hm HX ht h3
       exact K21
     · have hx2 : l[2]? = some l[2]:=gEq J2
       have HX : xIf l = .ok (sgl l[2]).rw:=by unfold xIf;rw [sg_of h0,sg_of hx2,ht];simp [h3]
       rw [HX]
       have d1 : ¬ (n : Int) < 3:=J2
       have c1:=xsingle_at hF hN hx2
       generalize sgl l[2] = v2 at *
       clear hn hm HX ht h3 hx2
       exact K21
theorem xsound_any (l : List Bg) (a0 a1 : Bg) (h0 : l[0]? = some a0) (h1 : l[1]? = some a1) (p : Option Addr) (n c : Nat) (W : World) (hF : FitB W (.slice p n c) l) (hN : Nm W) :
   Calls Tryz.prog 201 #[.slice p n c] W fun e w'=>RzQ Rw.dat (xIfErr l) e ∧ Ext W w':=by
 have c0:=xsingle_at hF hN h0
 have c1:=xsingle_at hF hN h1
 have HX : xIfErr l = if (sgl a0).k = 4 then .ok (sgl a1).rw else .ok (sgl a0).rw:=by unfold xIfErr;rw [sg_of h0,sg_of h1]
 rw [HX]
 clear HX
 generalize sgl a0 = v0 at *
 generalize sgl a1 = v1 at *
 by_cases hk : v0.k = 4
 · rw [if_pos hk]
   have e0 : (v0.k != 4) = false:=by simp [hk]
   clear hk
   go_enter func201,ntmps201
   go_wp2_with fail
   refine (c0 _ (xr.alloc _)).mono ?_
   rintro e w1 ⟨rfl,E1⟩
   have B1 : Hid (Blk w1 W.heap.size (.int .i64 0) (.int .i64 0) (.string ⟨#[]⟩) (.int .i64 0) ∧ Ext W w1):=⟨blk_top J58 E1,(xr.alloc _).trans E1⟩
   clear E1
   go_wp2_with fail
   refine (c1 _ (B1.out.2.alloc _)).mono ?_
   rintro e w2 ⟨rfl,E2⟩
   have B2 : Hid (Blk w2 W.heap.size (.int .i64 0) (.int .i64 0) (.string ⟨#[]⟩) (.int .i64 0) ∧ Ext W w2):=⟨(B1.out.1.al _).ext E2,(B1.out.2.alloc _).trans E2⟩
   clear E2
   obtain ⟨z,⟨b0,b1,b2,b3⟩,f0,f1,f2,f3⟩:=B2.out.1
   go_wp2_with fail
   exact fin4 b0 b1 b2 b3 rfl J58 B2.out.2 (fun W g0 g1 g2 g3=>by simp [results,results201,go_sem,g0,g1,g2,g3]) (fun W h=>⟨rfl,h⟩)
 · rw [if_neg hk]
   have e0 : (v0.k != 4) = true:=by simp [hk]
   clear hk
   go_enter func201,ntmps201
   go_wp2_with fail
   refine (c0 _ (xr.alloc _)).mono ?_
   rintro e w1 ⟨rfl,E1⟩
   have B1 : Hid (Blk w1 W.heap.size (.int .i64 0) (.int .i64 0) (.string ⟨#[]⟩) (.int .i64 0) ∧ Ext W w1):=⟨blk_top J58 E1,(xr.alloc _).trans E1⟩
   clear E1
   obtain ⟨z,⟨b0,b1,b2,b3⟩,f0,f1,f2,f3⟩:=B1.out.1
   go_wp2_with fail
   have X2 : Ext W (((((w1.setCell ⟨W.heap.size,0,none⟩ (.int .i64 v0.k)).setCell ⟨W.heap.size,1,none⟩ (.int .i64 v0.n)).setCell ⟨W.heap.size,2,none⟩ (.string v0.s)).setCell ⟨W.heap.size,3,none⟩ (.int .i64 v0.e)).alloc (.cells #[.int .i64 v0.k,.int .i64 v0.n,.string v0.s,.int .i64 v0.e] 33)):=((((B1.out.2.setCell nrf _).setCell nrf _).setCell nrf _).setCell nrf _).alloc _
   exact finB (b:=W.heap.size) (w:=W) ((B1.out.1.set _ _ _ _).al _) rfl X2 (fun g0 g1 g2 g3=>by simp [results,results201,go_sem,g0,g1,g2,g3]) (fun h=>⟨rfl,h⟩)
theorem mod_at (a b : Int) (ha : I64 a) (hb : I64 b) {W : World} (W' : World) (_ : Ext W W') : Calls Tryz.prog 246 #[.int .i64 a,.int .i64 b] W' fun e w'=>e = .returned (.tuple #[.int .i64 (modV a b),.bool (modB a b)]) ∧ Ext W' w':=mod_any a b ha hb W'
theorem told_no (n : Int) {W : World} (W' : World) (_ : Ext W W') : Calls Tryz.prog 191 #[.int .i64 n,.bool false] W' fun e w'=>e = pan 4 ∧ Ext W' w':=xtold_no n W'
theorem told_ok (n : Int) {W : World} (hN : Nm W) (W' : World) (e : Ext W W') : Calls Tryz.prog 191 #[.int .i64 n,.bool true] W' fun e w'=>e = .returned (.agg #[.int .i64 (mkNum n).k,.int .i64 (mkNum n).n,.string (mkNum n).s,.int .i64 (mkNum n).e]) ∧ Ext W' w':=xtold_ok n W' (hN.ext e)
theorem xrest_any (l : List Bg) (a0 a1 : Bg) (h0 : l[0]? = some a0) (h1 : l[1]? = some a1) (p : Option Addr) (n c : Nat) (W : World) (hF : FitB W (.slice p n c) l) (hN : Nm W) :
   Calls Tryz.prog 194 #[.slice p n c] W fun e w'=>RzQ Rw.dat (xMod l) e ∧ Ext W w':=by
 have o0:=(At.mk hF hN h0).ok
 have o1:=(At.mk hF hN h1).ok
 cases ht : nuR (sgl a0) with
 | error x =>
   have HX : xMod l = .error x:=by unfold xMod;rw [sg_of h0,ht]
   rw [HX]
   have c0:=xnumber_no hF hN h0 ht
   clear HX ht
   go_enter func194,ntmps194
   exact K28
 | ok a =>
   have ia:=nuR_can o0 ht
   have c0:=xnumber_ok hF hN h0 ht
   cases hu : nuR (sgl a1) with
   | error x =>
     have HX : xMod l = .error x:=by unfold xMod;rw [sg_of h0,ht,sg_of h1,hu]
     rw [HX]
     have c1:=xnumber_no hF hN h1 hu
     clear HX ht hu ia
     go_enter func194,ntmps194
     exact K37
   | ok b =>
     have ib:=nuR_can o1 hu
     have c1:=xnumber_ok hF hN h1 hu
     have HX : xMod l = if b = 0 then .error 3 else (tolR (modB a b) (modV a b)).map V.rw:=by unfold xMod;rw [sg_of h0,ht,sg_of h1,hu]
     rw [HX]
     clear HX ht hu
     by_cases hb : b = 0
     · subst hb
       rw [if_pos rfl]
       clear ia ib
       go_enter func194,ntmps194
       exact K69
     · rw [if_neg hb]
       have e0 : (b == 0) = false:=by simp [hb]
       have c2:=mod_at a b ia.1 ib.1 (W:=W)
       clear ia ib hb
       generalize modV a b = y at *
       cases hB : modB a b with
       | false =>
         rw [hB] at c2
         have c3:=told_no y (W:=W)
         clear hB
         rw [show (tolR false y).map V.rw = .error 4 from rfl]
         go_enter func194,ntmps194
         exact K31
       | true =>
         rw [hB] at c2
         have c3:=told_ok y hN
         clear hB
         rw [show (tolR true y).map V.rw = .ok (mkNum y).rw from rfl]
         generalize mkNum y = v at *
         go_enter func194,ntmps194
         go_wp2_with fail
         refine (c0 _ (xr.alloc _)).mono ?_
         rintro e w1 ⟨rfl,E1⟩
         have B1 : Hid (Blk w1 W.heap.size (.int .i64 0) (.int .i64 0) (.string ⟨#[]⟩) (.int .i64 0) ∧ Ext W w1):=⟨blk_top J58 E1,(xr.alloc _).trans E1⟩
         clear E1
         go_wp2_with fail
         refine (c1 _ B1.out.2).mono ?_
         rintro e w2 ⟨rfl,E2⟩
         have B2 : Hid (Blk w2 W.heap.size (.int .i64 0) (.int .i64 0) (.string ⟨#[]⟩) (.int .i64 0) ∧ Ext W w2):=⟨B1.out.1.ext E2,B1.out.2.trans E2⟩
         clear E2
         go_wp2_with fail
         refine (c2 _ B2.out.2).mono ?_
         rintro e w3 ⟨rfl,E3⟩
         have B3 : Hid (Blk w3 W.heap.size (.int .i64 0) (.int .i64 0) (.string ⟨#[]⟩) (.int .i64 0) ∧ Ext W w3):=⟨B2.out.1.ext E3,B2.out.2.trans E3⟩
         clear E3
         go_wp2_with fail
         refine (c3 _ B3.out.2).mono ?_
         rintro e w4 ⟨rfl,E4⟩
         have B4 : Hid (Blk w4 W.heap.size (.int .i64 0) (.int .i64 0) (.string ⟨#[]⟩) (.int .i64 0) ∧ Ext W w4):=⟨B3.out.1.ext E4,B3.out.2.trans E4⟩
         clear E4
         obtain ⟨z,⟨b0,b1,b2,b3⟩,f0,f1,f2,f3⟩:=B4.out.1
         go_wp2_with fail
         exact fin4 b0 b1 b2 b3 rfl J58 B4.out.2 (fun W g0 g1 g2 g3=>by simp [results,results194,go_sem,g0,g1,g2,g3]) (fun W h=>⟨rfl,h⟩)
theorem text_at (s : ByteArray) {W : World} (hN : Nm W) (W' : World) (e : Ext W W') : Calls Tryz.prog 66 #[.string s] W' fun r w'=>r = .returned (.agg #[.int .i64 (mkText s).k,.int .i64 (mkText s).n,.string (mkText s).s,.int .i64 (mkText s).e]) ∧ Ext W' w':=by
 have:=vtext_any s W' (hN.ext e)
 rwa [dat_eq] at this
theorem teR_le {v : V} {s : ByteArray} (hv : v.ok) (h : teR v = .ok s) : s.size ≤ 300:=by
 rcases toText_cases v hv with ⟨m,hm,h2⟩ | ⟨e,he,_⟩
 · rw [teR_ok hm] at h;cases h;exact h2
 · rw [teR_no he] at h;cases h
theorem xleft_any (l : List Bg) (a0 : Bg) (h0 : l[0]? = some a0) (p : Option Addr) (n c : Nat) (W : World) (hF : FitB W (.slice p n c) l) (hN : Nm W) (hT : Tab W) :
   Calls Tryz.prog 198 #[.slice p n c] W fun e w'=>RzQ Rw.dat (xLeft l) e ∧ Ext W w':=by
 have o0:=(At.mk hF hN h0).ok
 cases ht : teR (sgl a0) with
 | error x =>
   have HX : xLeft l = .error x:=by unfold xLeft;rw [sg_of h0,ht]
   rw [HX]
   have c0:=xtext_no hF hN hT h0 ht
   clear HX ht
   go_enter func198,ntmps198
   exact K28
 | ok s =>
   have hs:=teR_le o0 ht
   have c0:=xtext_ok hF hN hT h0 ht
   cases hu : whO l 1 with
   | error x =>
     have HX : xLeft l = .error x:=by unfold xLeft;rw [sg_of h0,ht,hu]
     rw [HX]
     have c1:=xone_no hF hN hu
     clear HX ht hu
     go_enter func198,ntmps198
     exact K37
   | ok q =>
     have c1:=xone_ok hF hN hu
     have HX : xLeft l = if q < 0 then .error 2 else .ok (mkText (begB s q)).rw:=by unfold xLeft;rw [sg_of h0,ht,hu]
     rw [HX]
     clear HX ht hu
     by_cases hq : q < 0
     · rw [if_pos hq]
       go_enter func198,ntmps198
       exact K69
     · rw [if_neg hq]
       have hsI : (s.size : Int) ≤ 300:=J2
       obtain ⟨m,hm⟩ : ∃ m : Nat,min q (s.size : Int) = (m : Int):=⟨(min q (s.size : Int)).toNat,by omega⟩
       have hms : m ≤ s.size:=J2
       have HB : Hid (begB s q = s.extract 0 m):=by show _ = _;unfold begB;rw [hm];rfl
       have c2:=text_at (s.extract 0 m) hN
       rw [HB.out]
       generalize mkText (s.extract 0 m) = v at *
       clear hs
       go_enter func198,ntmps198
       go_wp2_with fail
       refine (c0 _ (xr.alloc _)).mono ?_
       rintro e w1 ⟨rfl,E1⟩
       have B1 : Hid (Blk w1 W.heap.size (.int .i64 0) (.int .i64 0) (.string ⟨#[]⟩) (.int .i64 0) ∧ Ext W w1):=⟨blk_top J58 E1,(xr.alloc _).trans E1⟩
       clear E1
       go_wp2_with fail
       refine (c1 _ B1.out.2).mono ?_
       rintro e w2 ⟨rfl,E2⟩
       have B2 : Hid (Blk w2 W.heap.size (.int .i64 0) (.int .i64 0) (.string ⟨#[]⟩) (.int .i64 0) ∧ Ext W w2):=⟨B1.out.1.ext E2,B1.out.2.trans E2⟩
       clear E2
       go_wp2_with fail
       refine (c2 _ B2.out.2).mono ?_
       rintro e w3 ⟨rfl,E3⟩
       have B3 : Hid (Blk w3 W.heap.size (.int .i64 0) (.int .i64 0) (.string ⟨#[]⟩) (.int .i64 0) ∧ Ext W w3):=⟨B2.out.1.ext E3,B2.out.2.trans E3⟩
       clear E3
       obtain ⟨z,⟨b0,b1,b2,b3⟩,f0,f1,f2,f3⟩:=B3.out.1
       go_wp2_with fail
       exact fin4 b0 b1 b2 b3 rfl J58 B3.out.2 (fun W g0 g1 g2 g3=>by simp [results,results198,go_sem,g0,g1,g2,g3]) (fun W h=>⟨rfl,h⟩)
end Go.Proofs.YtcfgbiaahangmaaGreatDoor
