import Derived.Test.YtcfgbiaahangmaaGreatDoorN33
set_option maxHeartbeats 6000000
namespace Go.Proofs.YtcfgbiaahangmaaGreatDoor
open Go.RowKit
inductive Bd : T → Prop
 | mk (t : T) : t.l.length ≤ 20 → (∀ x ∈ t.l,Bd x) → Bd t
abbrev Rc:=Int × Int × Int × Int
def cellsR (q : Rc) : List Value:=[.int .i64 q.1,.int .i64 q.2.1,.int .i64 q.2.2.1,.int .i64 q.2.2.2]
def flatR (l : List Rc) : List Value:=l.flatMap cellsR
theorem flatR_append (a b : List Rc) : flatR (a ++ b) = flatR a ++ flatR b:=by unfold flatR;rw [List.flatMap_append]
theorem flatR_length (a : List Rc) : (flatR a).length = a.length * 4:=by
 induction a with
 | nil=>rfl
 | cons p r ih =>
   have : flatR (p :: r) = cellsR p ++ flatR r:=rfl
   rw [this,List.length_append,ih,List.length_cons]
   show 4 + _ = _
   omega
theorem flatR_one (a : List Rc) : ∀ u ∈ flatR a,u.oneCell' = true:=by
 intro u hu
 unfold flatR at hu
 obtain ⟨p,_,hp⟩:=List.mem_flatMap.1 hu
 simp [cellsR] at hp
 rcases hp with rfl | rfl | rfl | rfl <;> rfl
theorem flatR_at : ∀ (a : List Rc) (i j : Nat) (p : Rc) (u : Value),a[i]? = some p → (cellsR p)[j]? = some u → (flatR a)[i * 4 + j]? = some u
 | [],_,_,_,_,h,_=>by simp at h
 | q :: r,0,j,p,u,h,hu=>by
   simp at h;subst h
   have : flatR (q :: r) = cellsR q ++ flatR r:=rfl
   exact K151
 | q :: r,i + 1,j,p,u,h,hu=>by
   have ih:=flatR_at r i j p u J55 hu
   have : flatR (q :: r) = cellsR q ++ flatR r:=rfl
   have e4 : (cellsR q).length = 4:=rfl
   rw [this,List.getElem?_append_right (by rw [e4];omega),e4,show (i + 1) * 4 + j - 4 = i * 4 + j by omega];exact ih
theorem info_rc : ∃ i,Tryz.prog.info? 54 = some i ∧ i.zero = some (.agg #[.int .i64 0,.int .i64 0,.int .i64 0,.int .i64 0]) ∧ i.size = 4 ∧ i.bytes = 32:=by
 have h2 : (Tryz.prog.info? 54).bind (fun i=>i.zero) = some (.agg #[.int .i64 0,.int .i64 0,.int .i64 0,.int .i64 0]):=J3
 have h3 : (Tryz.prog.info? 54).map (fun i=>(i.size,i.bytes)) = some (4,32):=J3
 cases h : Tryz.prog.info? 54 with
 | none=>rw [h] at h2;cases h2
 | some i =>
   exact K141
def OwR (w : World) (base : Nat) (v : Value) (l : List Rc) : Prop:=w.ownsRow base 54 4 v l.length (flatR l)
theorem OwR.far {w : World} {base : Nat} {v : Value} {l : List Rc} (h : OwR w base v l) {b : Nat} (hb : b < base) : v.ownBlock ≠ some b:=by
 exact K79
theorem OwR.ext {w w' : World} {base : Nat} {v : Value} {l : List Rc} (h : OwR w base v l) (e : Ext w w') : OwR w' base v l:=by
 exact K68
theorem OwR.set {w : World} {base : Nat} {v : Value} {l : List Rc} (h : OwR w base v l) {p : Addr} (hp : p.block < base) (u : Value) : OwR (w.setCell p u) base v l:=by
 exact K100
theorem OwR.nil (w : World) (base : Nat) : OwR w base (.slice none 0 0) []:=⟨rfl,.inl ⟨rfl,rfl⟩⟩
def RdR (w : World) (v : Value) (l : List Rc) : Prop:=(v = .slice none 0 0 ∧ l = []) ∨ ∃ g c,v = .slice (some ⟨g,0,none⟩) l.length c ∧ g < w.heap.size ∧ ∀ j u,(flatR l)[j]? = some u → w.cell? ⟨g,j,none⟩ = some u
theorem RdR.ext {w w' : World} {v : Value} {l : List Rc} (h : RdR w v l) (e : Ext w w') : RdR w' v l:=by
 rcases h with h | ⟨g,c,h1,h2,h3⟩
 · exact .inl h
 · exact .inr ⟨g,c,h1,llL h2 e.sz,fun j u hj=>(e.cell.1 g j h2).trans (h3 j u hj)⟩
theorem OwR.rd {w : World} {base : Nat} {v : Value} {l : List Rc} (h : OwR w base v l) : RdR w v l:=by
 rcases h.2 with ⟨h1,h0⟩ | ⟨g,cap,cur,h1,h3,h4,h5,h6,h7,h8⟩
 · exact .inl ⟨h1,List.eq_nil_of_length_eq_zero h0⟩
 · refine .inr ⟨g,cap,h1,heap_lt h4,fun j u hj=>?_⟩
   have hj4 : j < (flatR l).length:=(List.getElem?_eq_some_iff.mp hj).1
   rw [flatR_length] at hj4
   rw [cell_of_row w g _ cur _ (0,0) h4,← Array.getElem?_toList]
   rw [← h8,List.getElem?_take,if_pos J2] at hj
   exact hj
theorem rc_append {ops : Array Oper} {rest : List Oper} {o : Oper} {a : Act} {Q : Exit → Act → World → Prop} (W : World) (base : Nat) (s x : Operand) (v : Value) (b c : Nat) (l m : List Rc) (hgd : o.guard = none)
   (ho : o.op = .call { callee:=.builtin .append,args:=#[s,x],argTypes:=#[50,50] })
   (hs : a.eval s = v) (hx : a.eval x = .slice (some ⟨b,0,none⟩) m.length c) (hB : OwR W base v l)
   (hR : ∀ j u,(flatR m)[j]? = some u → W.cell? ((⟨b,0,none⟩ : Addr).add j) = some u) (hlen : l.length + m.length ≤ 200000) (hbase : base ≤ W.heap.size)
   (h : ∀ v' W',OwR W' base v' (l ++ m) → W.grownBy W' v.ownBlock → (v' = .slice none 0 0 ↔ v = .slice none 0 0 ∧ m = []) → wpList Tryz.prog ops Q rest (a.put o.dst v') W') : wpList Tryz.prog ops Q (o :: rest) a W:=by
 obtain ⟨i,hi,hz,h1,h2⟩:=info_rc
 refine wpList_append_own_at W hgd s x 50 ho base 54 i _ 4 32 Tryz.underlying50 hi hz h1 h2 rfl J9 v l.length (flatR l) hs hB ⟨b,0,none⟩ m.length c (flatR m) hx (flatR_length m) hR (flatR_one m) J28 J2 hbase ?_
 intro v' W' h3 h4 h5 _
 rw [← flatR_append] at h3
 have h6 : OwR W' base v' (l ++ m):=by unfold OwR;rw [List.length_append];exact h3
 refine h v' W' h6 h4 (h5.trans ?_)
 rw [List.length_eq_zero_iff]
theorem ext_grownR {w W W' : World} {base : Nat} {v : Value} {l : List Rc} (h : W.grownBy W' v.ownBlock) (hB : OwR W base v l) (hE : Ext w W) (hb : w.heap.size ≤ base) : Ext w W' :=
 ⟨h.os.trans hE.os,h.tape.trans hE.tape,h.output.trans hE.output,Nat.le_trans hE.size h.size,fun k hk =>
   (h.block k (llL hk hE.size) (fun e=>hB.far (llL hk hb) e.symm)).trans (hE.block k hk)⟩
def VSt (W0 : World) (R : Nat) (w : World) (rs : List Rc) : Prop:=Ext W0 w ∧ W0.heap.size ≤ R ∧ R < w.heap.size ∧ (∃ v,w.cell? ⟨R,0,none⟩ = some v ∧ OwR w (R + 1) v rs) ∧ w.frozen? ⟨R,0,none⟩ = false
theorem VSt.ext {W0 w w' : World} {R : Nat} {rs : List Rc} (h : VSt W0 R w rs) (e : Ext w w') : VSt W0 R w' rs:=by
 obtain ⟨h1,h2,h3,⟨v,h4,h5⟩,h6⟩:=h
 exact ⟨h1.trans e,h2,llL h3 e.sz,⟨v,(e.cell.1 R 0 h3).trans h4,h5.ext e⟩,(e.cell.2 R 0 h3).trans h6⟩
theorem Blk13.keep {w w' : World} {g : Nat} {x0 x1 x2 x3 x4 x5 x6 x7 x8 x9 x10 x11 x12 : Value} (h : Blk13 w g x0 x1 x2 x3 x4 x5 x6 x7 x8 x9 x10 x11 x12) (hb : w'.heap[g]? = w.heap[g]?) : Blk13 w' g x0 x1 x2 x3 x4 x5 x6 x7 x8 x9 x10 x11 x12:=by
 obtain ⟨z,⟨k0,k1,k2,k3,k4,k5,k6,k7,k8,k9,k10,k11,k12⟩,f0,f1,f2,f3,f4,f5,f6,f7,f8,f9,f10,f11,f12⟩:=h
 have k:=fun o=>World.cell?_of_block (a:=⟨g,o,none⟩) hb
 have f:=fun o=>World.frozen?_of_block (a:=⟨g,o,none⟩) hb
 have hz : g < w'.heap.size:=by
   rcases Nat.lt_or_ge g w'.heap.size with h | h
   · exact h
   · rw [Array.getElem?_eq_none h] at hb;have:=(Array.getElem?_eq_none_iff.1 hb.symm);omega
 exact ⟨hz,⟨(k 0).trans k0,(k 1).trans k1,(k 2).trans k2,(k 3).trans k3,(k 4).trans k4,(k 5).trans k5,(k 6).trans k6,(k 7).trans k7,(k 8).trans k8,(k 9).trans k9,(k 10).trans k10,(k 11).trans k11,(k 12).trans k12⟩,(f 0).trans f0,(f 1).trans f1,(f 2).trans f2,(f 3).trans f3,(f 4).trans f4,(f 5).trans f5,(f 6).trans f6,(f 7).trans f7,(f 8).trans f8,(f 9).trans f9,(f 10).trans f10,(f 11).trans f11,(f 12).trans f12⟩
theorem flat_le {α β : Type} (f : α → List β) (l : List α) (j : Nat) (x : α) (h : l[j]? = some x) : ((l.take j).map f).flatten.length + (f x).length ≤ (l.map f).flatten.length:=by
 obtain ⟨hj,hx⟩:=List.getElem?_eq_some_iff.1 h
 have e : l = l.take j ++ x :: l.drop (j + 1):=by
   rw [← hx,← List.drop_eq_getElem_cons hj,List.take_append_drop]
 have e2 : (l.map f).flatten = ((l.take j).map f).flatten ++ (f x ++ ((l.drop (j + 1)).map f).flatten):=by
   conv=>lhs;rw [e]
   simp
 rw [e2,List.length_append,List.length_append]
 omega
theorem flat_take {α β : Type} (f : α → List β) (l : List α) (j : Nat) (x : α) (h : l[j]? = some x) : ((l.take (j + 1)).map f).flatten = ((l.take j).map f).flatten ++ f x:=by
 rw [List.take_add_one,h];simp
end Go.Proofs.YtcfgbiaahangmaaGreatDoor
