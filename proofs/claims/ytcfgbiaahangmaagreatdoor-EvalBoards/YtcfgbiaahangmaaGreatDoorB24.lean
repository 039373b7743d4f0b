import Derived.Test.YtcfgbiaahangmaaGreatDoorB23
set_option maxHeartbeats 6000000
namespace Go.Proofs.YtcfgbiaahangmaaGreatDoor
open Go.RowKit
def flatX (ps : List (T × Value)) : List Value:=ps.flatMap fun p=>cellsT p.1 p.2
theorem flatX_append (a b : List (T × Value)) : flatX (a ++ b) = flatX a ++ flatX b:=by unfold flatX;rw [List.flatMap_append]
theorem cellsT_length (t : T) (lv : Value) : (cellsT t lv).length = 13:=rfl
theorem flatX_length (a : List (T × Value)) : (flatX a).length = a.length * 13:=by
 induction a with
 | nil=>rfl
 | cons p r ih =>
   have : flatX (p :: r) = cellsT p.1 p.2 ++ flatX r:=rfl
   rw [this,List.length_append,ih,cellsT_length,List.length_cons];omega
theorem flatX_at : ∀ (a : List (T × Value)) (i j : Nat) (p : T × Value) (u : Value),a[i]? = some p → (cellsT p.1 p.2)[j]? = some u → (flatX a)[i * 13 + j]? = some u
 | [],_,_,_,_,h,_=>by simp at h
 | q :: r,0,j,p,u,h,hu=>by
   simp at h;subst h
   have : flatX (q :: r) = cellsT q.1 q.2 ++ flatX r:=rfl
   rw [this,Nat.zero_mul,Nat.zero_add,List.getElem?_append_left (List.getElem?_eq_some_iff.mp hu).1];exact hu
 | q :: r,i + 1,j,p,u,h,hu=>by
   have ih:=flatX_at r i j p u J55 hu
   have : flatX (q :: r) = cellsT q.1 q.2 ++ flatX r:=rfl
   rw [this,List.getElem?_append_right (by rw [cellsT_length];omega),cellsT_length,show (i + 1) * 13 + j - 13 = i * 13 + j by omega];exact ih
theorem info_x : ∃ i,Tryz.prog.info? 43 = some i ∧ i.zero = some (.agg #[.int .i64 0,.int .i64 0,.string ⟨#[]⟩,.int .i64 0,.int .i64 0,.int .i64 0,.bool false,.bool false,.int .i64 0,.int .i64 0,.bool false,.bool false,.slice none 0 0]) ∧ i.size = 13 ∧ i.bytes = 112:=by
 have h2 : (Tryz.prog.info? 43).bind (fun i=>i.zero) = some (.agg #[.int .i64 0,.int .i64 0,.string ⟨#[]⟩,.int .i64 0,.int .i64 0,.int .i64 0,.bool false,.bool false,.int .i64 0,.int .i64 0,.bool false,.bool false,.slice none 0 0]):=J3
 have h3 : (Tryz.prog.info? 43).map (fun i=>(i.size,i.bytes)) = some (13,112):=J3
 cases h : Tryz.prog.info? 43 with
 | none=>rw [h] at h2;cases h2
 | some i =>
   rw [h] at h2 h3
   simp at h2 h3
   exact ⟨i,rfl,h2,h3.1,h3.2⟩
def OwX (w : World) (base : Nat) (v : Value) (ps : List (T × Value)) : Prop:=w.ownsRow base 43 13 v ps.length (flatX ps) ∧ ∀ p ∈ ps,IsL w (fun k=>base ≤ k ∧ v.ownBlock ≠ some k) p.2 p.1.l
theorem OwX.isL {w : World} {base : Nat} {v : Value} {ps : List (T × Value)} (h : OwX w base v ps) : IsL w (base ≤ ·) v (ps.map Prod.fst):=by
 obtain ⟨⟨_,h1⟩,h2⟩:=h
 rcases h1 with ⟨h1,h0⟩ | ⟨g,cap,cur,h1,h3,h4,h5,h6,h7,h8⟩
 · have : ps = []:=List.eq_nil_of_length_eq_zero h0
   subst this h1
   exact .nil
 · subst h1
   refine .mk g 0 cap ps.length _ (fun i=>match ps[i]? with | some p=>p.2 | none=>.slice none 0 0) J58 h5 h3 (heap_lt h4) ?_ ?_
   · intro i t j u hi hj
     rw [List.getElem?_map,Option.map_eq_some_iff] at hi
     obtain ⟨p,hp,rfl⟩:=hi
     simp only [hp] at hj
     have k:=flatX_at ps i j p u hp hj
     have hj13 : i * 13 + j < (flatX ps).length:=(List.getElem?_eq_some_iff.mp k).1
     rw [flatX_length] at hj13
     rw [cell_of_row w g _ cur _ (0,0) h4,Nat.zero_add,← Array.getElem?_toList]
     rw [← h8,List.getElem?_take,if_pos J2] at k
     exact k
   · intro i t hi
     rw [List.getElem?_map,Option.map_eq_some_iff] at hi
     obtain ⟨p,hp,rfl⟩:=hi
     simp only [hp]
     exact (h2 p (List.mem_of_getElem? hp)).mono (fun k hk _=>hk.1)
theorem OwX.far {w : World} {base : Nat} {v : Value} {ps : List (T × Value)} (h : OwX w base v ps) {b : Nat} (hb : b < base) : v.ownBlock ≠ some b:=by
 rcases h.1.2 with ⟨h1,h2⟩ | ⟨g,cap,cur,h1,h2,h3⟩
 · rw [h1];simp [Value.ownBlock]
 · rw [h1];simp [Value.ownBlock];omega
theorem OwX.extB {b base : Nat} {w w' : World} {v : Value} {ps : List (T × Value)} (h : OwX w base v ps) (e : ExtB b w w') (hb : b < base) : OwX w' base v ps:=by
 refine ⟨⟨h.1.1,?_⟩,fun p hp=>(h.2 p hp).extB e (fun k hk=>by omega)⟩
 rcases h.1.2 with h2 | ⟨g,cap,cur,h1,h2,h3,h4⟩
 · exact .inl h2
 · exact .inr ⟨g,cap,cur,h1,h2,(e.block g (heap_lt h3) J2).trans h3,h4⟩
theorem OwX.one {W W' : World} {base : Nat} {x : T} {pp : Option Addr} {ln cl : Nat} (hb : base ≤ W.heap.size) (hL : IsL W (base ≤ ·) (.slice pp ln cl) x.l) (hW : W' = W.alloc (.cells #[.int .i64 x.k,.int .i64 x.n,.string (bs x.s),.int .i64 x.e,.int .i64 x.r.1,.int .i64 x.r.2.1,.bool x.r.2.2.1,.bool x.r.2.2.2,.int .i64 x.q.1,.int .i64 x.q.2.1,.bool x.q.2.2.1,.bool x.q.2.2.2,.slice pp ln cl] 43)) : OwX W' base (.slice (some ⟨W.heap.size,0,none⟩) 1 1) [(x,.slice pp ln cl)]:=by
 subst hW
 refine ⟨⟨rfl,.inr ⟨W.heap.size,1,#[.int .i64 x.k,.int .i64 x.n,.string (bs x.s),.int .i64 x.e,.int .i64 x.r.1,.int .i64 x.r.2.1,.bool x.r.2.2.1,.bool x.r.2.2.2,.int .i64 x.q.1,.int .i64 x.q.2.1,.bool x.q.2.2.1,.bool x.q.2.2.2,.slice pp ln cl],rfl,hb,?_,Nat.le_refl _,by unfold maxLen;omega,rfl,rfl⟩⟩,?_⟩
 · show (W.heap.push _)[W.heap.size]? = _;simp
 · intro p hp
   simp at hp;subst hp
   exact (hL.mono (P':=fun k=>base ≤ k ∧ (Value.slice (some ⟨W.heap.size,0,none⟩) 1 1).ownBlock ≠ some k) (fun k hk hs=>⟨hk,by simp [Value.ownBlock];omega⟩)).ext (xr.alloc _)
theorem Stt.grown {w0 W W' : World} {b d base : Nat} {ts : List Tk} {v : Value} {ps : List (T × Value)} (hS : Stt w0 b W ts d) (h : W.grownBy W' v.ownBlock) (hB : OwX W base v ps) (hb : b < base) (h0 : w0.heap.size ≤ base) : Stt w0 b W' ts d:=by
 obtain ⟨h1,h2,h3,h4,h5',h6,h7,tb,off,c,h8,h9,h10,h11,h12⟩:=hS
 have k:=fun o=>(World.cell?_of_block (a:=⟨b,o,none⟩) (h.block b h3 (fun e=>hB.far hb e.symm)))
 have f:=fun o=>(World.frozen?_of_block (a:=⟨b,o,none⟩) (h.block b h3 (fun e=>hB.far hb e.symm)))
 refine ⟨⟨h.os.trans h1.os,h.tape.trans h1.tape,h.output.trans h1.output,Nat.le_trans h1.size h.size,fun i hi=>?_⟩,h2,llL h3 h.size,h4,h5',h6,h7,tb,off,c,h8,(k 0).trans h9,(f 0).trans h10,(k 1).trans h11,(f 1).trans h12⟩
 exact K151
def left (b : Nat) (w : World) : Nat:=match w.cell? ⟨b,0,none⟩ with
 | some (.slice _ n _)=>n
 | _=>0
theorem Stt.left {w0 w : World} {b d : Nat} {ts : List Tk} (h : Stt w0 b w ts d) : left b w = ts.length:=by
 obtain ⟨tb,off,cc,b0,_⟩:=h.get
 unfold Go.Proofs.YtcfgbiaahangmaaGreatDoor.left;rw [b0]
end Go.Proofs.YtcfgbiaahangmaaGreatDoor
