import Derived.Shelf.Strings.BuilderX
import Derived.Lib.Builder
import Derived.Laws.AppendOwn
import Derived.Test.YtcfgbiaahangmaaGreatDoorC10
set_option maxHeartbeats 6000000
namespace Go.Proofs.YtcfgbiaahangmaaGreatDoor
open Go.Proofs.Tryz
open Go.RowKit
theorem byte_info:∃ i,Tryz.prog.info? 5 = some i∧i.zero = some (.int .u8 0)∧i.size = 1∧i.bytes = 1:=by
 exact K100
theorem txt_ne (c:UInt8) (r:List UInt8) (h:c≠34):txt (c :: r) = (txt r).map (fun x=>(c :: x.1,x.2+1)):=by
 cases r with
 | nil=>simp [txt,h]
 | cons d r=>rw [txt,if_neg h]
theorem txt_two (r:List UInt8):txt (34 :: 34 :: r) = (txt r).map (fun x=>(34 :: x.1,x.2+2)):=by simp [txt]
theorem txt_end (r:List UInt8) (h:r.head?≠some 34):txt (34 :: r) = some ([],1):=by
 cases r with
 | nil=>simp [txt]
 | cons d r=>rw [txt,if_pos rfl,if_neg J61]
def TxA (l:List UInt8) (k j:Nat) (acc:List UInt8):Prop:=k+1≤j∧acc.length≤j∧txt (l.drop (k+1)) = (txt (l.drop j)).map (fun x=>(acc ++ x.1,x.2+(j - (k+1))))
theorem TxA.start (l:List UInt8) (k:Nat):TxA l k (k+1) []:=by
 refine ⟨Nat.le_refl _,Nat.zero_le _,?_⟩
 cases txt (l.drop (k+1)) <;> simp
theorem TxA.one {l:List UInt8} {k j:Nat} {acc:List UInt8} (h:TxA l k j acc) (hj:j < l.length) (hc:l[j]≠34):TxA l k (j+1) (acc ++ [l[j]]):=by
 obtain ⟨h0,h1,h2⟩:=h
 refine ⟨by omega,by simp;omega,?_⟩
 rw [h2,List.drop_eq_getElem_cons hj,txt_ne _ _ hc]
 cases txt (l.drop (j+1)) with
 | none=>rfl
 | some x=>simp;omega
theorem TxA.two {l:List UInt8} {k j:Nat} {acc:List UInt8} (h:TxA l k j acc) (hj:j+1 < l.length) (hc:l[j] = 34) (hd:l[j+1] = 34):TxA l k (j+1+1) (acc ++ [34]):=by
 obtain ⟨h0,h1,h2⟩:=h
 refine ⟨by omega,by simp;omega,?_⟩
 rw [h2,List.drop_eq_getElem_cons (by omega:j < l.length),List.drop_eq_getElem_cons hj,hc,hd,txt_two]
 cases txt (l.drop (j+1+1)) with
 | none=>rfl
 | some x=>simp;omega
theorem TxA.none {l:List UInt8} {k j:Nat} {acc:List UInt8} (h:TxA l k j acc) (hj:l.length≤j):txtR (l.drop k) = .error 4:=by
 have e:=h.2.2
 rw [List.drop_eq_nil_of_le hj] at e
 unfold txtR
 rw [List.tail_drop,e];rfl
theorem TxA.done {l:List UInt8} {k j:Nat} {acc:List UInt8} (h:TxA l k j acc) (hj:j < l.length) (hc:l[j] = 34) (hd:(l.drop (j+1)).head?≠some 34):txtR (l.drop k) = .ok (1,acc,0,0,j+1 - k):=by
 obtain ⟨h0,h1,e⟩:=h
 rw [List.drop_eq_getElem_cons hj,hc,txt_end _ hd] at e
 unfold txtR
 rw [List.tail_drop,e]
 simp;omega
theorem new_top (w:World) (o:Obj):(w.alloc o).heap[w.heap.size]? = some o:=by show (w.heap.push o)[w.heap.size]? = some o;simp
def flatX (ps:List (T × Value)):List Value:=ps.flatMap fun p=>cellsT p.1 p.2
theorem flatX_append (a b:List (T × Value)):flatX (a ++ b) = flatX a ++ flatX b:=by unfold flatX;rw [List.flatMap_append]
theorem cellsT_length (t:T) (lv:Value):(cellsT t lv).length = 13:=rfl
theorem flatX_length (a:List (T × Value)):(flatX a).length = a.length * 13:=by
 induction a with
 | nil=>rfl
 | cons p r ih =>
   have:flatX (p :: r) = cellsT p.1 p.2 ++ flatX r:=rfl
   rw [this,List.length_append,ih,cellsT_length,List.length_cons];omega
theorem flatX_at:∀ (a:List (T × Value)) (i j:Nat) (p:T × Value) (u:Value),a[i]? = some p→(cellsT p.1 p.2)[j]? = some u→(flatX a)[i * 13+j]? = some u
 | [],_,_,_,_,h,_=>by simp at h
 | q :: r,0,j,p,u,h,hu=>by
   simp at h;subst h
   have:flatX (q :: r) = cellsT q.1 q.2 ++ flatX r:=rfl
   rw [this,Nat.zero_mul,Nat.zero_add,List.getElem?_append_left (List.getElem?_eq_some_iff.mp hu).1];exact hu
 | q :: r,i+1,j,p,u,h,hu=>by
   have ih:=flatX_at r i j p u J61 hu
   have:flatX (q :: r) = cellsT q.1 q.2 ++ flatX r:=rfl
   rw [this,List.getElem?_append_right J51,cellsT_length,show (i+1) * 13+j - 13 = i * 13+j by omega];exact ih
theorem info_x:∃ i,Tryz.prog.info? 43 = some i∧i.zero = some (.agg #[.int .i64 0,.int .i64 0,.string ⟨#[]⟩,.int .i64 0,.int .i64 0,.int .i64 0,.bool false,.bool false,.int .i64 0,.int .i64 0,.bool false,.bool false,.slice none 0 0])∧i.size = 13∧i.bytes = 112:=by
 have h2:(Tryz.prog.info? 43).bind (fun i=>i.zero) = some (.agg #[.int .i64 0,.int .i64 0,.string ⟨#[]⟩,.int .i64 0,.int .i64 0,.int .i64 0,.bool false,.bool false,.int .i64 0,.int .i64 0,.bool false,.bool false,.slice none 0 0]):=J3
 have h3:(Tryz.prog.info? 43).map (fun i=>(i.size,i.bytes)) = some (13,112):=J3
 cases h:Tryz.prog.info? 43 with
 | none=>rw [h] at h2;cases h2
 | some i =>
   rw [h] at h2 h3
   simp at h2 h3
   exact ⟨i,rfl,h2,h3.1,h3.2⟩
def OwX (w:World) (base:Nat) (v:Value) (ps:List (T × Value)):Prop:=w.ownsRow base 43 13 v ps.length (flatX ps)∧∀ p ∈ ps,IsL w (fun k=>base≤k∧v.ownBlock≠some k) p.2 p.1.l
theorem OwX.isL {w:World} {base:Nat} {v:Value} {ps:List (T × Value)} (h:OwX w base v ps):IsL w (base≤·) v (ps.map Prod.fst):=by
 obtain ⟨⟨_,h1⟩,h2⟩:=h
 rcases h1 with ⟨h1,h0⟩ | ⟨g,cap,cur,h1,h3,h4,h5,h6,h7,h8⟩
 · have:ps = []:=List.eq_nil_of_length_eq_zero h0
   subst this h1
   exact .nil
 · subst h1
   refine .mk g 0 cap ps.length _ (fun i=>match ps[i]? with | some p=>p.2 | none=>.slice none 0 0) J65 h5 h3 (heap_lt h4) ?_ ?_
   · intro i t j u hi hj
     rw [List.getElem?_map,Option.map_eq_some_iff] at hi
     obtain ⟨p,hp,rfl⟩:=hi
     simp only [hp] at hj
     have k:=flatX_at ps i j p u hp hj
     have hj13:i * 13+j < (flatX ps).length:=(List.getElem?_eq_some_iff.mp k).1
     rw [flatX_length] at hj13
     rw [cell_of_row w g _ cur _ (0,0) h4,Nat.zero_add,← Array.getElem?_toList]
     rw [← h8,List.getElem?_take,if_pos J2] at k
     exact k
   · intro i t hi
     rw [List.getElem?_map,Option.map_eq_some_iff] at hi
     obtain ⟨p,hp,rfl⟩:=hi
     simp only [hp]
     exact (h2 p (List.mem_of_getElem? hp)).mono (fun k hk _=>hk.1)
theorem OwX.far {w:World} {base:Nat} {v:Value} {ps:List (T × Value)} (h:OwX w base v ps) {b:Nat} (hb:b < base):v.ownBlock≠some b:=by
 rcases h.1.2 with ⟨h1,h2⟩ | ⟨g,cap,cur,h1,h2,h3⟩
 · rw [h1];simp [Value.ownBlock]
 · rw [h1];simp [Value.ownBlock];omega
theorem OwX.extB {b base:Nat} {w w':World} {v:Value} {ps:List (T × Value)} (h:OwX w base v ps) (e:ExtB b w w') (hb:b < base):OwX w' base v ps:=by
 refine ⟨⟨h.1.1,?_⟩,fun p hp=>(h.2 p hp).extB e J56⟩
 rcases h.1.2 with h2 | ⟨g,cap,cur,h1,h2,h3,h4⟩
 · exact .inl h2
 · exact .inr ⟨g,cap,cur,h1,h2,(e.block g (heap_lt h3) J2).trans h3,h4⟩
theorem OwX.one {W W':World} {base:Nat} {x:T} {pp:Option Addr} {ln cl:Nat} (hb:base≤W.heap.size) (hL:IsL W (base≤·) (.slice pp ln cl) x.l) (hW:W' = W.alloc (.cells #[.int .i64 x.k,.int .i64 x.n,.string (bs x.s),.int .i64 x.e,.int .i64 x.r.1,.int .i64 x.r.2.1,.bool x.r.2.2.1,.bool x.r.2.2.2,.int .i64 x.q.1,.int .i64 x.q.2.1,.bool x.q.2.2.1,.bool x.q.2.2.2,.slice pp ln cl] 43)):OwX W' base (.slice (some ⟨W.heap.size,0,none⟩) 1 1) [(x,.slice pp ln cl)]:=by
 subst hW
 refine ⟨⟨rfl,.inr ⟨W.heap.size,1,#[.int .i64 x.k,.int .i64 x.n,.string (bs x.s),.int .i64 x.e,.int .i64 x.r.1,.int .i64 x.r.2.1,.bool x.r.2.2.1,.bool x.r.2.2.2,.int .i64 x.q.1,.int .i64 x.q.2.1,.bool x.q.2.2.1,.bool x.q.2.2.2,.slice pp ln cl],rfl,hb,?_,Nat.le_refl _,by unfold maxLen;omega,rfl,rfl⟩⟩,?_⟩
 · show (W.heap.push _)[W.heap.size]? = _;simp
 · intro p hp
   simp at hp;subst hp
   exact (hL.mono (P':=fun k=>base≤k∧(Value.slice (some ⟨W.heap.size,0,none⟩) 1 1).ownBlock≠some k) (fun k hk hs=>⟨hk,by simp [Value.ownBlock];omega⟩)).ext (xr.alloc _)
theorem x_append {ops:Array Oper} {rest:List Oper} {o:Oper} {a:Act} {Q:Exit→Act→World→Prop} (W:World) (base:Nat) (s y:Operand) (v:Value) (b:Nat) (ps:List (T × Value)) (x:T) (pp:Option Addr) (ln cl:Nat) (hgd:o.guard = none)
   (ho:o.op = .call { callee:=.builtin .append,args:=#[s,y],argTypes:=#[41,41] })
   (hs:a.eval s = v) (hx:a.eval y = .slice (some ⟨b,0,none⟩) 1 1) (hB:OwX W base v ps) (hL:IsL W (fun k=>base≤k∧v.ownBlock≠some k) (.slice pp ln cl) x.l)
   (hR:∀ j u,(cellsT x (.slice pp ln cl))[j]? = some u→W.cell? ((⟨b,0,none⟩:Addr).add j) = some u) (hlen:ps.length≤100000) (hbase:base≤W.heap.size)
   (h:∀ v' W',OwX W' base v' (ps ++ [(x,.slice pp ln cl)])→W.grownBy W' v.ownBlock→(∃ g cap,v' = .slice (some ⟨g,0,none⟩) (ps.length+1) cap)→wpList Tryz.prog ops Q rest (a.put o.dst v') W'):wpList Tryz.prog ops Q (o :: rest) a W:=by
 obtain ⟨i,hi,hz,h1,h2⟩:=info_x
 refine wpList_append_own_at W hgd s y 41 ho base 43 i _ 13 112 Tryz.underlying41 hi hz h1 h2 rfl J9 v ps.length (flatX ps) hs hB.1 ⟨b,0,none⟩ 1 1 (cellsT x (.slice pp ln cl)) hx rfl hR ?_ J30 J2 hbase ?_
 · exact K136
 intro v' W' h3 h4 h5 h6
 have hsz:∀ k,k < W.heap.size→v.ownBlock≠some k→v'.ownBlock≠some k:=by
   intro k hk hv
   rcases h6 with h6 | h6
   · rw [h6];exact hv
   · rw [h6];simp;omega
 have hk:∀ (y:Value) (l:List T),IsL W (fun k=>base≤k∧v.ownBlock≠some k) y l→IsL W' (fun k=>base≤k∧v'.ownBlock≠some k) y l:=fun y l hy =>
   hy.keep h4.size (fun k hk hs=>h4.block k hs (fun e=>hk.2 e.symm)) (fun k hk hs=>⟨hk.1,hsz k hs hk.2⟩)
 have hO:OwX W' base v' (ps ++ [(x,.slice pp ln cl)]):=by
   refine ⟨?_,?_⟩
   · rw [List.length_append,flatX_append]
     exact h3
   · intro p hp
     rcases List.mem_append.1 hp with hp | hp
     · exact hk _ _ (hB.2 p hp)
     · simp at hp;subst hp;exact hk _ _ hL
 refine h v' W' hO h4 ?_
 exact K86
theorem Stt.grown {w0 W W':World} {b d base:Nat} {ts:List Tk} {v:Value} {ps:List (T × Value)} (hS:Stt w0 b W ts d) (h:W.grownBy W' v.ownBlock) (hB:OwX W base v ps) (hb:b < base) (h0:w0.heap.size≤base):Stt w0 b W' ts d:=by
 obtain ⟨h1,h2,h3,h4,h5',h6,h7,tb,off,c,h8,h9,h10,h11,h12⟩:=hS
 have k:=fun o=>(World.cell?_of_block (a:=⟨b,o,none⟩) (h.block b h3 (fun e=>hB.far hb e.symm)))
 have f:=fun o=>(World.frozen?_of_block (a:=⟨b,o,none⟩) (h.block b h3 (fun e=>hB.far hb e.symm)))
 refine ⟨⟨h.os.trans h1.os,h.tape.trans h1.tape,h.output.trans h1.output,Nat.le_trans h1.size h.size,fun i hi=>?_⟩,h2,llL h3 h.size,h4,h5',h6,h7,tb,off,c,h8,(k 0).trans h9,(f 0).trans h10,(k 1).trans h11,(f 1).trans h12⟩
 exact K167
def left (b:Nat) (w:World):Nat:=match w.cell? ⟨b,0,none⟩ with
 | some (.slice _ n _)=>n
 | _=>0
theorem Stt.left {w0 w:World} {b d:Nat} {ts:List Tk} (h:Stt w0 b w ts d):left b w = ts.length:=by
 obtain ⟨tb,off,cc,b0,_⟩:=h.get
 unfold Go.Proofs.YtcfgbiaahangmaaGreatDoor.left;rw [b0]
theorem IsL.two {P:Nat→Prop} {W:World} {x y:T} {lx ly:Value} (hx:IsL W P lx x.l) (hy:IsL W P ly y.l) (hP:P W.heap.size) :
   IsL (W.alloc (.cells #[.int .i64 x.k,.int .i64 x.n,.string (bs x.s),.int .i64 x.e,.int .i64 x.r.1,.int .i64 x.r.2.1,.bool x.r.2.2.1,.bool x.r.2.2.2,.int .i64 x.q.1,.int .i64 x.q.2.1,.bool x.q.2.2.1,.bool x.q.2.2.2,lx,.int .i64 y.k,.int .i64 y.n,.string (bs y.s),.int .i64 y.e,.int .i64 y.r.1,.int .i64 y.r.2.1,.bool y.r.2.2.1,.bool y.r.2.2.2,.int .i64 y.q.1,.int .i64 y.q.2.1,.bool y.q.2.2.1,.bool y.q.2.2.2,ly] 43)) P (.slice (some ⟨W.heap.size,0,none⟩) 2 2) [x,y]:=by
 refine .mk W.heap.size 0 2 2 [x,y] (fun i=>if i = 0 then lx else ly) rfl nrf hP J65 ?_ ?_
 · intro i t j u hi hj
   rw [cell_of_row _ _ _ _ _ (0,0) (new_top W _),Nat.zero_add,← Array.getElem?_toList]
   have e:(#[.int .i64 x.k,.int .i64 x.n,.string (bs x.s),.int .i64 x.e,.int .i64 x.r.1,.int .i64 x.r.2.1,.bool x.r.2.2.1,.bool x.r.2.2.2,.int .i64 x.q.1,.int .i64 x.q.2.1,.bool x.q.2.2.1,.bool x.q.2.2.2,lx,.int .i64 y.k,.int .i64 y.n,.string (bs y.s),.int .i64 y.e,.int .i64 y.r.1,.int .i64 y.r.2.1,.bool y.r.2.2.1,.bool y.r.2.2.2,.int .i64 y.q.1,.int .i64 y.q.2.1,.bool y.q.2.2.1,.bool y.q.2.2.2,ly]:Array Value).toList = cellsT x lx ++ cellsT y ly:=rfl
   rw [e]
   match i with
   | 0 =>
     exact K110
   | 1 =>
     simp at hi
     subst hi
     rw [List.getElem?_append_right J51,cellsT_length,show 1 * 13+j - 13 = j by omega]
     exact hj
   | i+2=>simp at hi
 · intro i t hi
   match i with
   | 0=>simp at hi;subst hi;exact hx.ext (xr.alloc _)
   | 1=>simp at hi;subst hi;exact hy.ext (xr.alloc _)
   | i+2=>simp at hi
open Go
section
variable {P:Program} {ops:Array Oper} {Q:Exit→Act→World→Prop} {md:Region.Mode} {B:Nat→Bool} {S:World→Prop}
def wpBar (P:Program) (md:Region.Mode) (ops:Array Oper) (Q:Exit→Act→World→Prop) (B:Nat→Bool) (S:World→Prop):Nat→Array Bool→Act→World→Prop
 | 0,l,a,w=>Region.ready md ops l = []∧Q .normal a w
 | n+1,l,a,w=>(Region.ready md ops l = []→Q .normal a w)∧∀ i ∈ Region.ready md ops l,wpOp P ops Q i (fun x v=>(B i = false→S v)∧wpBar P md ops Q B S n (l.setIfInBounds i true) x v) a w
theorem any_of_bar:∀ (n:Nat) (l:Array Bool) (a:Act) (w:World),wpBar P md ops Q B S n l a w→wpAny P md ops Q n l a w
 | 0,_,_,_,h=>h
 | n+1,_,_,_,h=>⟨h.1,fun i hi=>wpOp_mono (fun x v k=>any_of_bar n _ x v k.2) (h.2 i hi)⟩
def Waits (md:Region.Mode) (ops:Array Oper) (B:Nat→Bool) (i:Nat) (l:Array Bool):Prop :=
 ∀ j o,ops[j]? = some o→B j = true→∃ e ∈ o.after,Region.binds md e = true∧(e.on = i∨(l.getD e.on true = false∧∃ k,ops[e.on]? = some k∧∃ e' ∈ k.after,Region.binds md e' = true∧e'.on = i))
def waitsB (md:Region.Mode) (ops:Array Oper) (B:Nat→Bool) (i:Nat) (l:Array Bool):Bool :=
 (List.range ops.size).all fun j=>!B j || (match ops[j]? with
   | none=>true
   | some o=>o.after.any fun e=>Region.binds md e && (e.on == i || (!l.getD e.on true && (match ops[e.on]? with
     | none=>false
     | some k=>k.after.any fun e'=>Region.binds md e' && e'.on == i))))
theorem waits_of {i:Nat} {l:Array Bool} (h:waitsB md ops B i l = true):Waits md ops B i l:=by
 intro j o ho hb
 have hj:j < ops.size:=by
   rcases Nat.lt_or_ge j ops.size with h' | h'
   · exact h'
   · rw [Array.getElem?_eq_none h'] at ho;cases ho
 have h1:=List.all_eq_true.1 h j (List.mem_range.2 hj)
 rw [hb,ho] at h1
 simp only [Bool.not_true,Bool.false_or] at h1
 obtain ⟨e,he,h2⟩:=Array.any_eq_true'.1 h1
 simp only [Bool.and_eq_true,Bool.or_eq_true,beq_iff_eq,Bool.not_eq_true'] at h2
 refine ⟨e,he,h2.1,?_⟩
 rcases h2.2 with h3 | ⟨h3,h4⟩
 · exact .inl h3
 · cases hk:ops[e.on]? with
   | none=>rw [hk] at h4;cases h4
   | some k =>
     rw [hk] at h4
     obtain ⟨e',he',h5⟩:=Array.any_eq_true'.1 h4
     simp only [Bool.and_eq_true,beq_iff_eq] at h5
     exact .inr ⟨h3,k,rfl,e',he',h5.1,h5.2⟩
theorem lst {l:Array Bool} {k:Nat} (h:l.getD k false = true):¬ l.getD k true = false:=by
 rcases Nat.lt_or_ge k l.size with h' | h'
 · simp [h'] at h ⊢;exact h
 · simp [Array.getElem?_eq_none h'] at h
theorem bar_no {i j:Nat} {l:Array Bool} (hW:Waits md ops B i l) (hi:i ∈ Region.ready md ops l) (hj:j ∈ Region.ready md ops l):B j = false:=by
 obtain ⟨_,o,ho,hall⟩:=mem_ready.1 hj
 have hu:=(mem_ready.1 hi).1
 cases hb:B j
 · rfl
 · obtain ⟨e,he,hbe,h | ⟨h,_⟩⟩:=hW j o ho hb
   · exact absurd hu (lst (by rw [← h];exact hall e he hbe))
   · exact absurd h (lst (hall e he hbe))
theorem Waits.step {i j:Nat} {l:Array Bool} (hW:Waits md ops B i l) (hi:i ∈ Region.ready md ops l) (hj:j ∈ Region.ready md ops l):Waits md ops B i (l.setIfInBounds j true):=by
 intro k o ho hb
 obtain ⟨_,oj,hoj,hall⟩:=mem_ready.1 hj
 have hu:=(mem_ready.1 hi).1
 obtain ⟨e,he,hbe,h | ⟨h,m,hm,e',he',hb',h'⟩⟩:=hW k o ho hb
 · exact ⟨e,he,hbe,.inl h⟩
 · refine ⟨e,he,hbe,.inr ⟨?_,m,hm,e',he',hb',h'⟩⟩
   have hne:j≠e.on:=by
     intro hje
     rw [← hje,hoj] at hm
     obtain rfl:=Option.some.inj hm
     exact absurd hu (lst (by rw [← h'];exact hall e' he' hb'))
   rw [getD_set_ne true hne];exact h
theorem bar_first {i:Nat} {oi:Oper} {v:Value} (hi:ops[i]? = some oi) (hsel:∀ (j:Nat) (o:Oper) cs b,ops[j]? = some o→o.op≠.select cs b)
   (hQ:∀ c a w,Q (.panic c) (a.put oi.dst v) w→Q (.panic c) a w):∀ (n:Nat) (l:Array Bool) (a:Act) (w:World),
     (∀ j oj,ops[j]? = some oj→j≠i→l.getD j true = false→(∀ e ∈ oj.after,Region.binds md e = true→e.on≠i)→oi.apart ops oj = true) →
     Waits md ops B i l→i ∈ Region.ready md ops l→YieldsIf P ops S oi v a→S w →
     wpBar P md ops Q B S n (l.setIfInBounds i true) (a.put oi.dst v) w→wpBar P md ops Q B S (n+1) l a w:=by
 intro n
 induction n with
 | zero =>
   intro l a w _ _ hr hy hS H
   refine ⟨fun h=>(by rw [h] at hr;cases hr),fun j hj=>?_⟩
   by_cases hji:j = i
   · subst hji;exact hy.wpOp hi hS ⟨fun _=>hS,H⟩
   · have:=ready_mono hj hji
     rw [H.1] at this
     cases this
 | succ n ih =>
   intro l a w hfree hW hr hy hS H
   refine ⟨fun h=>(by rw [h] at hr;cases hr),fun j hj=>?_⟩
   by_cases hji:j = i
   · subst hji;exact hy.wpOp hi hS ⟨fun _=>hS,H⟩
   · have hB:=bar_no hW hr hj
     obtain ⟨hun,oj,hoj,hall⟩:=mem_ready.1 hj
     have hno:∀ e ∈ oj.after,Region.binds md e = true→e.on≠i:=fun e he hb heq=>absurd (mem_ready.1 hr).1 (lst (by rw [← heq];exact hall e he hb))
     have step:=wpOp_putIf hoj (hfree j oj hoj hji hun hno) (fun cs b=>hsel i oi cs b hi) (fun cs b=>hsel j oj cs b hoj) hQ hy (H.2 j (ready_mono hj hji))
     refine wpOp_mono (fun x u k=>?_) step
     have hSu:=k.2.1 hB
     refine ⟨fun _=>hSu,ih _ x u (fun m om hm hmi hmun hmno=>hfree m om hm hmi ?_ hmno) (hW.step hr hj) (ready_mono hr (Ne.symm hji)) k.1 hSu ?_⟩
     · by_cases hjm:j = m
       · subst hjm;exact hun
       · rw [getD_set_ne true hjm] at hmun;exact hmun
     · rw [Array.setIfInBounds_comm _ _ hji];exact k.2.2
theorem bar_take {i:Nat} {oi:Oper} {v:Value} {n:Nat} {l:Array Bool} {a:Act} {w:World} (hi:ops[i]? = some oi) (hs:Region.noSelect ops = true) (hf:Region.free md ops l i = true)
   (hr:(Region.ready md ops l).contains i = true) (hw:waitsB md ops B i l = true) (hQ:∀ c a w,Q (.panic c) (a.put oi.dst v) w→Q (.panic c) a w) (hy:YieldsIf P ops S oi v a) (hS:S w)
   (h:wpBar P md ops Q B S n (l.setIfInBounds i true) (a.put oi.dst v) w):wpBar P md ops Q B S (n+1) l a w :=
 bar_first hi (Region.noSelect_spec hs) hQ n l a w (Region.free_spec hi hf) (waits_of hw) (by simpa using hr) hy hS h
theorem bar_one {i:Nat} {o:Oper} {n:Nat} {l:Array Bool} {a:Act} {w:World} (hr:Region.ready md ops l = [i]) (ho:ops[i]? = some o)
   (h:∀ K:Act→World→Prop,Shut (∀ a w,(B i = false→S w)→wpBar P md ops Q B S n (l.setIfInBounds i true) a w→K a w)→if Region.wanted o (yielded ops a.tmps) = true then Oper.wp P o a w K Q else K (a.put o.dst undef) w) :
   wpBar P md ops Q B S (n+1) l a w:=by
 refine ⟨fun h0=>(by rw [hr] at h0;cases h0),fun j hj=>?_⟩
 rw [hr] at hj
 obtain rfl:j = i:=by simpa using hj
 exact wpOp_step ho fun K hK=>h K fun a w hS hW=>hK a w ⟨hS,hW⟩
theorem bar_done {l:Array Bool} {a:Act} {w:World} (hr:Region.ready md ops l = []) (h:Q .normal a w):∀ n,wpBar P md ops Q B S n l a w
 | 0=>⟨hr,h⟩
 | _+1=>⟨fun _=>h,by rw [hr];simp⟩
theorem bar_begin {id:Nat} {a:Act} {w:World} (hm:P.follows .mixedOrders = true) (h:wpBar P .any ops Q B S ops.size (Array.replicate ops.size false) a w.drew):(Code.region id ops true).wp P Q a w :=
 wp_region_any hm (any_of_bar _ _ _ _ h)
end
open Go
section
variable {P:Program} {ops:Array Oper} {Q:Exit→Act→World→Prop} {md:Region.Mode} {B:Nat→Bool} {S:World→Prop}
def Bars (P:Program) (md:Region.Mode) (ops:Array Oper) (Q:Exit→Act→World→Prop) (B:Nat→Bool) (S:World→Prop) (n:Nat) (l:Array Bool) (a:Act) (w:World) (rs:List Nat):Prop :=
 ∀ i ∈ rs,wpOp P ops Q i (fun x v=>(B i = false→S v)∧wpBar P md ops Q B S n (l.setIfInBounds i true) x v) a w
theorem Bars.nil {n:Nat} {l:Array Bool} {a:Act} {w:World}:Bars P md ops Q B S n l a w []:=fun _ h=>by cases h
theorem Bars.cons {n:Nat} {l:Array Bool} {a:Act} {w:World} {i:Nat} {o:Oper} {rs:List Nat} (ho:ops[i]? = some o)
   (h:∀ K:Act→World→Prop,Shut (∀ a w,(B i = false→S w)→wpBar P md ops Q B S n (l.setIfInBounds i true) a w→K a w)→if Region.wanted o (yielded ops a.tmps) = true then Oper.wp P o a w K Q else K (a.put o.dst undef) w)
   (hs:Bars P md ops Q B S n l a w rs):Bars P md ops Q B S n l a w (i :: rs):=fun j hj=>by
 rcases List.mem_cons.1 hj with rfl | hj
 · exact wpOp_step ho fun K hK=>h K fun a w hS hW=>hK a w ⟨hS,hW⟩
 · exact hs j hj
theorem bar_list {rs:List Nat} {n:Nat} {l:Array Bool} {a:Act} {w:World} (hr:Region.ready md ops l = rs) (hne:rs≠[]) (h:Bars P md ops Q B S n l a w rs):wpBar P md ops Q B S (n+1) l a w :=
 ⟨fun h0=>absurd (hr.symm.trans h0) hne,fun i hi=>h i (hr ▸ hi)⟩
theorem bar_takeL {i:Nat} {oi:Oper} {v:Value} {n:Nat} {l:Array Bool} {a:Act} {w:World} (hi:ops.toList[i]? = some oi) (hs:Region.noSelect ops = true) (hf:Region.free md ops l i = true)
   (hr:(Region.ready md ops l).contains i = true) (hw:waitsB md ops B i l = true) (hQ:∀ c a w,Q (.panic c) (a.put oi.dst v) w→Q (.panic c) a w) (hy:YieldsIf P ops S oi v a) (hS:S w)
   (h:wpBar P md ops Q B S n (l.setIfInBounds i true) (a.put oi.dst v) w):wpBar P md ops Q B S (n+1) l a w :=
 bar_take (by rw [← Array.getElem?_toList];exact hi) hs hf hr hw hQ hy hS h
end
open Go
theorem bar_cast {P:Program} {ops:Array Oper} {Q:Exit→Act→World→Prop} {md:Region.Mode} {B:Nat→Bool} {S:World→Prop} {n:Nat} {l:Array Bool} {a:Act} {w:World} (l':Array Bool) (hl:l = l') (h:wpBar P md ops Q B S n l' a w):wpBar P md ops Q B S n l a w:=hl ▸ h
open Go.RowKit
def mulB (a b:Int):Bool:=(canB a && canB b) && sgnB (ratN a b 10000)
def mulV (a b:Int):Int:=if canB a && canB b then sgnV (ratS a b 10000) (ratN a b 10000) else 0
def divB (a b:Int):Bool:=(canB a && canB b) && (b != 0 && sgnB (ratN a 10000 b))
def divV (a b:Int):Int:=if (canB a && canB b) && b != 0 then sgnV (ratS a 10000 b) (ratN a 10000 b) else 0
theorem mul_any (a b:Int) (ha:I64 a) (hb:I64 b) (w:World):Calls Tryz.prog 173 #[.int .i64 a,.int .i64 b] w fun e w'=>e = .returned (.tuple #[.int .i64 (mulV a b),.bool (mulB a b)])∧Ext w w':=by
 cases hc:(canB a && canB b)
 · have HC:Hid (mulB a b = false):=by show mulB a b = false;unfold mulB;rw [hc];rfl
   have HV:Hid (mulV a b = 0):=by show mulV a b = 0;unfold mulV;rw [hc];rfl
   go_enter func173,ntmps173
   exact K46
 · have HC:Hid (mulB a b = sgnB (ratN a b 10000)):=by show mulB a b = _;unfold mulB;rw [hc];rfl
   have HV:Hid (mulV a b = sgnV (ratS a b 10000) (ratN a b 10000)):=by show mulV a b = _;unfold mulV;rw [hc];rfl
   have cR:=fun W=>ratio_any a b 10000 ha hb ⟨by omega,by omega⟩ J2 W
   go_enter func173,ntmps173
   exact K88
theorem div_any (a b:Int) (ha:I64 a) (hb:I64 b) (w:World):Calls Tryz.prog 175 #[.int .i64 a,.int .i64 b] w fun e w'=>e = .returned (.tuple #[.int .i64 (divV a b),.bool (divB a b)])∧Ext w w':=by
 cases hc:(canB a && canB b)
 · have HC:Hid (divB a b = false):=by show divB a b = false;unfold divB;rw [hc];rfl
   have HV:Hid (divV a b = 0):=by show divV a b = 0;unfold divV;rw [hc];rfl
   go_enter func175,ntmps175
   exact K46
 by_cases hz:b = 0
 · have HC:Hid (divB a b = false):=by show divB a b = false;unfold divB;simp [hz]
   have HV:Hid (divV a b = 0):=by show divV a b = 0;unfold divV;simp [hz]
   have hz1:(b == 0) = true:=by simp [hz]
   clear hz
   go_enter func175,ntmps175
   exact K46
 · have hz1:(b == 0) = false:=by simp [hz]
   have hz2:(b != 0) = true:=by simp [hz]
   have HC:Hid (divB a b = sgnB (ratN a 10000 b)):=by show divB a b = _;unfold divB;rw [hc,hz2];rfl
   have HV:Hid (divV a b = sgnV (ratS a 10000 b) (ratN a 10000 b)):=by show divV a b = _;unfold divV;rw [hc,hz2];rfl
   have cR:=fun W=>ratio_any a 10000 b ha ⟨by omega,by omega⟩ hb hz W
   clear hz hz2
   go_enter func175,ntmps175
   exact K88
end Go.Proofs.YtcfgbiaahangmaaGreatDoor
