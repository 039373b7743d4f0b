import Derived.Test.YtcfgbiaahangmaaGreatDoorN22
set_option maxHeartbeats 6000000
namespace Go.Proofs.YtcfgbiaahangmaaGreatDoor
open Go.RowKit
theorem byte_info : ∃ i,Tryz.prog.info? 5 = some i ∧ i.zero = some (.int .u8 0) ∧ i.size = 1 ∧ i.bytes = 1:=by
 exact K97
theorem txt_ne (c : UInt8) (r : List UInt8) (h : c ≠ 34) : txt (c :: r) = (txt r).map (fun x=>(c :: x.1,x.2 + 1)):=by
 cases r with
 | nil=>simp [txt,h]
 | cons d r=>rw [txt,if_neg h]
theorem txt_two (r : List UInt8) : txt (34 :: 34 :: r) = (txt r).map (fun x=>(34 :: x.1,x.2 + 2)):=by simp [txt]
theorem txt_end (r : List UInt8) (h : r.head? ≠ some 34) : txt (34 :: r) = some ([],1):=by
 cases r with
 | nil=>simp [txt]
 | cons d r=>rw [txt,if_pos rfl,if_neg J55]
def TxA (l : List UInt8) (k j : Nat) (acc : List UInt8) : Prop:=k + 1 ≤ j ∧ acc.length ≤ j ∧ txt (l.drop (k + 1)) = (txt (l.drop j)).map (fun x=>(acc ++ x.1,x.2 + (j - (k + 1))))
theorem TxA.start (l : List UInt8) (k : Nat) : TxA l k (k + 1) []:=by
 refine ⟨Nat.le_refl _,Nat.zero_le _,?_⟩
 cases txt (l.drop (k + 1)) <;> simp
theorem TxA.one {l : List UInt8} {k j : Nat} {acc : List UInt8} (h : TxA l k j acc) (hj : j < l.length) (hc : l[j] ≠ 34) : TxA l k (j + 1) (acc ++ [l[j]]):=by
 obtain ⟨h0,h1,h2⟩:=h
 refine ⟨by omega,by simp;omega,?_⟩
 rw [h2,List.drop_eq_getElem_cons hj,txt_ne _ _ hc]
 cases txt (l.drop (j + 1)) with
 | none=>rfl
 | some x=>simp;omega
theorem TxA.two {l : List UInt8} {k j : Nat} {acc : List UInt8} (h : TxA l k j acc) (hj : j + 1 < l.length) (hc : l[j] = 34) (hd : l[j + 1] = 34) : TxA l k (j + 1 + 1) (acc ++ [34]):=by
 obtain ⟨h0,h1,h2⟩:=h
 refine ⟨by omega,by simp;omega,?_⟩
 rw [h2,List.drop_eq_getElem_cons (by omega : j < l.length),List.drop_eq_getElem_cons hj,hc,hd,txt_two]
 cases txt (l.drop (j + 1 + 1)) with
 | none=>rfl
 | some x=>simp;omega
theorem TxA.none {l : List UInt8} {k j : Nat} {acc : List UInt8} (h : TxA l k j acc) (hj : l.length ≤ j) : txtR (l.drop k) = .error 4:=by
 have e:=h.2.2
 rw [List.drop_eq_nil_of_le hj] at e
 unfold txtR
 rw [List.tail_drop,e];rfl
theorem TxA.done {l : List UInt8} {k j : Nat} {acc : List UInt8} (h : TxA l k j acc) (hj : j < l.length) (hc : l[j] = 34) (hd : (l.drop (j + 1)).head? ≠ some 34) : txtR (l.drop k) = .ok (1,acc,0,0,j + 1 - k):=by
 obtain ⟨h0,h1,e⟩:=h
 rw [List.drop_eq_getElem_cons hj,hc,txt_end _ hd] at e
 unfold txtR
 rw [List.tail_drop,e]
 simp;omega
theorem new_top (w : World) (o : Obj) : (w.alloc o).heap[w.heap.size]? = some o:=by show (w.heap.push o)[w.heap.size]? = some o;simp
def flatX (ps : List (T × Value)) : List Value:=ps.flatMap fun p=>cellsT p.1 p.2
theorem flatX_append (a b : List (T × Value)) : flatX (a ++ b) = flatX a ++ flatX b:=by unfold flatX;rw [List.flatMap_append]
theorem cellsT_length (t : T) (lv : Value) : (cellsT t lv).length = 13:=rfl
theorem flatX_length (a : List (T × Value)) : (flatX a).length = a.length * 13:=by
 induction a with
 | nil=>rfl
 | cons p r ih =>
   have : flatX (p :: r) = cellsT p.1 p.2 ++ flatX r:=rfl
   rw [this,List.length_append,ih,cellsT_length,List.length_cons];omega
theorem flatX_at : ∀ (a : List (T × Value)) (i j : Nat) (p : T × Value) (u : Value),a[i]? = some p → (cellsT p.1 p.2)[j]? = some u → (flatX a)[i * 13 + j]? = some u
 | [],_,_,_,_,h,_=>by simp at h
 | q :: r,0,j,p,u,h,hu=>by
   simp at h;subst h
   have : flatX (q :: r) = cellsT q.1 q.2 ++ flatX r:=rfl
   exact K151
 | q :: r,i + 1,j,p,u,h,hu=>by
   have ih:=flatX_at r i j p u J55 hu
   have : flatX (q :: r) = cellsT q.1 q.2 ++ flatX r:=rfl
   rw [this,List.getElem?_append_right (by rw [cellsT_length];omega),cellsT_length,show (i + 1) * 13 + j - 13 = i * 13 + j by omega];exact ih
theorem info_x : ∃ i,Tryz.prog.info? 43 = some i ∧ i.zero = some (.agg #[.int .i64 0,.int .i64 0,.string ⟨#[]⟩,.int .i64 0,.int .i64 0,.int .i64 0,.bool false,.bool false,.int .i64 0,.int .i64 0,.bool false,.bool false,.slice none 0 0]) ∧ i.size = 13 ∧ i.bytes = 112:=by
 have h2 : (Tryz.prog.info? 43).bind (fun i=>i.zero) = some (.agg #[.int .i64 0,.int .i64 0,.string ⟨#[]⟩,.int .i64 0,.int .i64 0,.int .i64 0,.bool false,.bool false,.int .i64 0,.int .i64 0,.bool false,.bool false,.slice none 0 0]):=J3
 have h3 : (Tryz.prog.info? 43).map (fun i=>(i.size,i.bytes)) = some (13,112):=J3
 cases h : Tryz.prog.info? 43 with
 | none=>rw [h] at h2;cases h2
 | some i =>
   exact K141
def OwX (w : World) (base : Nat) (v : Value) (ps : List (T × Value)) : Prop:=w.ownsRow base 43 13 v ps.length (flatX ps) ∧ ∀ p ∈ ps,IsL w (fun k=>base ≤ k ∧ v.ownBlock ≠ some k) p.2 p.1.l
theorem OwX.isL {w : World} {base : Nat} {v : Value} {ps : List (T × Value)} (h : OwX w base v ps) : IsL w (base ≤ ·) v (ps.map Prod.fst):=by
 obtain ⟨⟨_,h1⟩,h2⟩:=h
 rcases h1 with ⟨h1,h0⟩ | ⟨g,cap,cur,h1,h3,h4,h5,h6,h7,h8⟩
 · have : ps = []:=List.eq_nil_of_length_eq_zero h0
   subst this h1
   exact .nil
 · subst h1
   refine .mk g 0 cap ps.length _ (fun i=>match ps[i]? with | some p=>p.2 | none=>.slice none 0 0) J60 h5 h3 (heap_lt h4) ?_ ?_
   · exact K58
   · intro i t hi
     rw [List.getElem?_map,Option.map_eq_some_iff] at hi
     obtain ⟨p,hp,rfl⟩:=hi
     simp only [hp]
     exact (h2 p (List.mem_of_getElem? hp)).mono (fun k hk _=>hk.1)
theorem OwX.far {w : World} {base : Nat} {v : Value} {ps : List (T × Value)} (h : OwX w base v ps) {b : Nat} (hb : b < base) : v.ownBlock ≠ some b:=by
 rcases h.1.2 with ⟨h1,h2⟩ | ⟨g,cap,cur,h1,h2,h3⟩
 · rw [h1];simp [Value.ownBlock]
 · rw [h1];simp [Value.ownBlock];omega
theorem OwX.extB {b base : Nat} {w w' : World} {v : Value} {ps : List (T × Value)} (h : OwX w base v ps) (e : ExtB b w w') (hb : b < base) : OwX w' base v ps:=by
 refine ⟨⟨h.1.1,?_⟩,fun p hp=>(h.2 p hp).extB e J54⟩
 rcases h.1.2 with h2 | ⟨g,cap,cur,h1,h2,h3,h4⟩
 · exact .inl h2
 · exact .inr ⟨g,cap,cur,h1,h2,(e.block g (heap_lt h3) J2).trans h3,h4⟩
theorem OwX.one {W W' : World} {base : Nat} {x : T} {pp : Option Addr} {ln cl : Nat} (hb : base ≤ W.heap.size) (hL : IsL W (base ≤ ·) (.slice pp ln cl) x.l) (hW : W' = W.alloc (.cells #[.int .i64 x.k,.int .i64 x.n,.string (bs x.s),.int .i64 x.e,.int .i64 x.r.1,.int .i64 x.r.2.1,.bool x.r.2.2.1,.bool x.r.2.2.2,.int .i64 x.q.1,.int .i64 x.q.2.1,.bool x.q.2.2.1,.bool x.q.2.2.2,.slice pp ln cl] 43)) : OwX W' base (.slice (some ⟨W.heap.size,0,none⟩) 1 1) [(x,.slice pp ln cl)]:=by
 subst hW
 refine ⟨⟨rfl,.inr ⟨W.heap.size,1,#[.int .i64 x.k,.int .i64 x.n,.string (bs x.s),.int .i64 x.e,.int .i64 x.r.1,.int .i64 x.r.2.1,.bool x.r.2.2.1,.bool x.r.2.2.2,.int .i64 x.q.1,.int .i64 x.q.2.1,.bool x.q.2.2.1,.bool x.q.2.2.2,.slice pp ln cl],rfl,hb,?_,Nat.le_refl _,by unfold maxLen;omega,rfl,rfl⟩⟩,?_⟩
 · show (W.heap.push _)[W.heap.size]? = _;simp
 · intro p hp
   simp at hp;subst hp
   exact (hL.mono (P':=fun k=>base ≤ k ∧ (Value.slice (some ⟨W.heap.size,0,none⟩) 1 1).ownBlock ≠ some k) (fun k hk hs=>⟨hk,by simp [Value.ownBlock];omega⟩)).ext (xr.alloc _)
theorem x_append {ops : Array Oper} {rest : List Oper} {o : Oper} {a : Act} {Q : Exit → Act → World → Prop} (W : World) (base : Nat) (s y : Operand) (v : Value) (b : Nat) (ps : List (T × Value)) (x : T) (pp : Option Addr) (ln cl : Nat) (hgd : o.guard = none)
   (ho : o.op = .call { callee:=.builtin .append,args:=#[s,y],argTypes:=#[41,41] })
   (hs : a.eval s = v) (hx : a.eval y = .slice (some ⟨b,0,none⟩) 1 1) (hB : OwX W base v ps) (hL : IsL W (fun k=>base ≤ k ∧ v.ownBlock ≠ some k) (.slice pp ln cl) x.l)
   (hR : ∀ j u,(cellsT x (.slice pp ln cl))[j]? = some u → W.cell? ((⟨b,0,none⟩ : Addr).add j) = some u) (hlen : ps.length ≤ 100000) (hbase : base ≤ W.heap.size)
   (h : ∀ v' W',OwX W' base v' (ps ++ [(x,.slice pp ln cl)]) → W.grownBy W' v.ownBlock → (∃ g cap,v' = .slice (some ⟨g,0,none⟩) (ps.length + 1) cap) → wpList Tryz.prog ops Q rest (a.put o.dst v') W') : wpList Tryz.prog ops Q (o :: rest) a W:=by
 obtain ⟨i,hi,hz,h1,h2⟩:=info_x
 refine wpList_append_own_at W hgd s y 41 ho base 43 i _ 13 112 Tryz.underlying41 hi hz h1 h2 rfl J9 v ps.length (flatX ps) hs hB.1 ⟨b,0,none⟩ 1 1 (cellsT x (.slice pp ln cl)) hx rfl hR ?_ J28 J2 hbase ?_
 · exact K134
 intro v' W' h3 h4 h5 h6
 have hsz : ∀ k,k < W.heap.size → v.ownBlock ≠ some k → v'.ownBlock ≠ some k:=by
   intro k hk hv
   rcases h6 with h6 | h6
   · rw [h6];exact hv
   · rw [h6];simp;omega
 have hk : ∀ (y : Value) (l : List T),IsL W (fun k=>base ≤ k ∧ v.ownBlock ≠ some k) y l → IsL W' (fun k=>base ≤ k ∧ v'.ownBlock ≠ some k) y l:=fun y l hy =>
   hy.keep h4.size (fun k hk hs=>h4.block k hs (fun e=>hk.2 e.symm)) (fun k hk hs=>⟨hk.1,hsz k hs hk.2⟩)
 have hO : OwX W' base v' (ps ++ [(x,.slice pp ln cl)]):=by
   refine ⟨?_,?_⟩
   · rw [List.length_append,flatX_append]
     exact h3
   · intro p hp
     rcases List.mem_append.1 hp with hp | hp
     · exact hk _ _ (hB.2 p hp)
     · simp at hp;subst hp;exact hk _ _ hL
 refine h v' W' hO h4 ?_
 exact K83
theorem Stt.grown {w0 W W' : World} {b d base : Nat} {ts : List Tk} {v : Value} {ps : List (T × Value)} (hS : Stt w0 b W ts d) (h : W.grownBy W' v.ownBlock) (hB : OwX W base v ps) (hb : b < base) (h0 : w0.heap.size ≤ base) : Stt w0 b W' ts d:=by
 obtain ⟨h1,h2,h3,h4,h5',h6,h7,tb,off,c,h8,h9,h10,h11,h12⟩:=hS
 have k:=fun o=>(World.cell?_of_block (a:=⟨b,o,none⟩) (h.block b h3 (fun e=>hB.far hb e.symm)))
 have f:=fun o=>(World.frozen?_of_block (a:=⟨b,o,none⟩) (h.block b h3 (fun e=>hB.far hb e.symm)))
 refine ⟨⟨h.os.trans h1.os,h.tape.trans h1.tape,h.output.trans h1.output,Nat.le_trans h1.size h.size,fun i hi=>?_⟩,h2,llL h3 h.size,h4,h5',h6,h7,tb,off,c,h8,(k 0).trans h9,(f 0).trans h10,(k 1).trans h11,(f 1).trans h12⟩
 exact K164
def left (b : Nat) (w : World) : Nat:=match w.cell? ⟨b,0,none⟩ with
 | some (.slice _ n _)=>n
 | _=>0
theorem Stt.left {w0 w : World} {b d : Nat} {ts : List Tk} (h : Stt w0 b w ts d) : left b w = ts.length:=by
 obtain ⟨tb,off,cc,b0,_⟩:=h.get
 unfold Go.Proofs.YtcfgbiaahangmaaGreatDoor.left;rw [b0]
end Go.Proofs.YtcfgbiaahangmaaGreatDoor
