import Derived.Test.YtcfgbiaahangmaaGreatDoorC30
set_option maxHeartbeats 6000000
set_option maxRecDepth 100000
namespace Go.Proofs.YtcfgbiaahangmaaGreatDoor
open Go.Proofs.Tryz
open Go.RowKit
def OwnQ (w:World) (t:T) (e:Ending) (w':World):Prop:=∃ lv,e = .returned (aggX t lv)∧IsL w' (w.heap.size≤·) lv t.l∧Ext w w'
def OwnC (t:T):Prop:=∀ (W:World) (P:Nat→Prop) (pp:Option Addr) (ln cl:Nat),IsL W P (.slice pp ln cl) t.l→Calls Tryz.prog 15 #[.agg #[.int .i64 t.k,.int .i64 t.n,.string (bs t.s),.int .i64 t.e,.int .i64 t.r.1,.int .i64 t.r.2.1,.bool t.r.2.2.1,.bool t.r.2.2.2,.int .i64 t.q.1,.int .i64 t.q.2.1,.bool t.q.2.2.1,.bool t.q.2.2.2,.slice pp ln cl]] W (OwnQ W t)
theorem endO {fn:Func} {a:Act} {w W:World} {g:Nat} {t:T} {lv:Value} {P:Nat→Prop} (B:BlkX W g t lv) (hd:a.defers = []) (hL:IsL W P lv t.l) (hP:∀ k,P k→w.heap.size≤k) (hE:Ext w W)
   (hr:W.cell? ⟨g,0,none⟩ = some (.int .i64 t.k)→W.cell? ⟨g,1,none⟩ = some (.int .i64 t.n)→W.cell? ⟨g,2,none⟩ = some (.string (bs t.s))→W.cell? ⟨g,3,none⟩ = some (.int .i64 t.e)→W.cell? ⟨g,4,none⟩ = some (.int .i64 t.r.1)→W.cell? ⟨g,5,none⟩ = some (.int .i64 t.r.2.1)→W.cell? ⟨g,6,none⟩ = some (.bool t.r.2.2.1)→W.cell? ⟨g,7,none⟩ = some (.bool t.r.2.2.2)→W.cell? ⟨g,8,none⟩ = some (.int .i64 t.q.1)→W.cell? ⟨g,9,none⟩ = some (.int .i64 t.q.2.1)→W.cell? ⟨g,10,none⟩ = some (.bool t.q.2.2.1)→W.cell? ⟨g,11,none⟩ = some (.bool t.q.2.2.2)→W.cell? ⟨g,12,none⟩ = some lv→(results fn a.tmps).run Tryz.prog W = .ok (aggX t lv) W) :
   bodyPost Tryz.prog fn (OwnQ w t) .ret a W:=by
 obtain ⟨z,⟨k0,k1,k2,k3,k4,k5,k6,k7,k8,k9,k10,k11,k12⟩,f⟩:=B
 exact bodyPost_ret (hr k0 k1 k2 k3 k4 k5 k6 k7 k8 k9 k10 k11 k12) hd ⟨lv,rfl,hL.mono (fun k hk _=>hP k hk),hE⟩
theorem OwX.zero {W W':World} {base g:Nat} (hW:W' = W.alloc (.cells #[] 43)) (hg:g = W.heap.size) (hb:base≤g):OwX W' base (.slice (some ⟨g,0,none⟩) 0 0) []:=by
 subst hW hg
 refine ⟨⟨rfl,.inr ⟨W.heap.size,0,#[],rfl,hb,?_,Nat.le_refl _,Nat.zero_le _,rfl,rfl⟩⟩,fun p hp=>by cases hp⟩
 show (W.heap.push _)[W.heap.size]? = _;simp
theorem OwX.ext {w w':World} {base:Nat} {v:Value} {ps:List (T × Value)} (h:OwX w base v ps) (e:Ext w w'):OwX w' base v ps:=by
 refine ⟨⟨h.1.1,?_⟩,fun p hp=>(h.2 p hp).ext e⟩
 rcases h.1.2 with h2 | ⟨g,cap,cur,h1,h2,h3,h4⟩
 · exact .inl h2
 · exact .inr ⟨g,cap,cur,h1,h2,(e.block g (heap_lt h3)).trans h3,h4⟩
theorem ext_grown {w W W':World} {base:Nat} {v:Value} {ps:List (T × Value)} (h:W.grownBy W' v.ownBlock) (hB:OwX W base v ps) (hE:Ext w W) (hb:w.heap.size≤base):Ext w W' :=
 ⟨h.os.trans hE.os,h.tape.trans hE.tape,h.output.trans hE.output,Nat.le_trans hE.size h.size,fun k hk =>
   (h.block k (llL hk hE.size) (fun e=>hB.far (llL hk hb) e.symm)).trans (hE.block k hk)⟩
theorem BlkX.grown {W W':World} {base g:Nat} {v lv:Value} {t:T} {ps:List (T × Value)} (B:BlkX W g t lv) (h:W.grownBy W' v.ownBlock) (hB:OwX W base v ps) (hg:g < base):BlkX W' g t lv:=by
 exact K33
theorem own_step (t:T) (hl:t.l.length≤100000) (ih:∀ x ∈ t.l,OwnC x):OwnC t:=by
 intro W P pp ln cl hL
 have hln:ln = t.l.length:=by
   obtain ⟨p,c,h1,_⟩:=hL.form
   cases h1;rfl
 have HI:Hid (IsL W P (.slice pp ln cl) t.l):=hL
 have HLN:Hid (ln = t.l.length):=hln
 have HIH:Hid (∀ x ∈ t.l,OwnC x):=ih
 have hl2:ln≤100000:=J2
 clear hL hln ih hl
 go_enter func15,ntmps15
 go_wp2_with fail
 go_loopw [3,4] (fun xv iv wr=>∃ (j g cap:Nat) (ps:List (T × Value)),j≤ln∧xv = .slice (some ⟨g,0,none⟩) j cap∧iv = .int .i64 (j:Int)∧ps.length = j∧OwX wr (W.heap.size+1+1) (.slice (some ⟨g,0,none⟩) ps.length cap) ps∧ps.map Prod.fst = t.l.take j∧BlkX wr W.heap.size t (.slice pp ln cl)∧BlkX wr (W.heap.size+1) tz (.slice none 0 0)∧Ext W wr) (fun _ iv _=>ln - (intOf iv).toNat)
 case atStart=>exact ⟨0,W.heap.size+1+1,0,[],Nat.zero_le _,rfl,rfl,rfl,OwX.zero rfl J65 nrf,by simp,blk13_top rfl ((xr.alloc _).alloc _),BlkX.top J65 (xr.alloc _),((xr.alloc _).alloc _).alloc _⟩
 case round =>
   obtain ⟨j,g,cap,ps,hj,rfl,rfl,hpl,hO,hps,hB,hB2,hE⟩:=hrel
   have HO:Hid (OwX wr (W.heap.size+1+1) (.slice (some ⟨g,0,none⟩) ps.length cap) ps∧ps.map Prod.fst = t.l.take j∧Ext W wr∧ps.length = j):=⟨hO,hps,hE,hpl⟩
   have HB:Hid (BlkX wr W.heap.size t (.slice pp ln cl)∧BlkX wr (W.heap.size+1) tz (.slice none 0 0)):=⟨hB,hB2⟩
   obtain ⟨qz,⟨k0,k1,k2,k3,k4,k5,k6,k7,k8,k9,k10,k11,k12⟩,f0,f1,f2,f3,f4,f5,f6,f7,f8,f9,f10,f11,f12⟩:=hB
   have hwr:W.heap.size+1 < wr.heap.size:=hB2.1
   clear hE hps hO hpl hB2 f0 f1 f2 f3 f4 f5 f6 f7 f8 f9 f10 f11
   by_cases hlt:j < ln
   · have hltI:(j:Int) < (ln:Int):=J2
     have hI:=HI.out.ext HO.out.2.2.1
     obtain ⟨gb,off,x,lv,hpp,hx1,hA1,hgb,hA2,hLx,hce⟩:=hI.at (i:=j) J55
     clear hA1 hA2
     subst hpp
     obtain ⟨pp,cl',hlv,hcl⟩:=hLx.form
     obtain ⟨ln',hln'⟩:∃ ln',x.l.length = ln':=⟨_,rfl⟩
     rw [hln'] at hlv
     subst hlv
     have HX1:Hid (t.l[j]? = some x):=hx1
     have HC:Hid (Calls Tryz.prog 15 #[.agg #[.int .i64 x.k,.int .i64 x.n,.string (bs x.s),.int .i64 x.e,.int .i64 x.r.1,.int .i64 x.r.2.1,.bool x.r.2.2.1,.bool x.r.2.2.2,.int .i64 x.q.1,.int .i64 x.q.2.1,.bool x.q.2.2.1,.bool x.q.2.2.2,.slice pp ln' cl']] wr (OwnQ wr x)):=HIH.out x (List.mem_of_getElem? hx1) wr P pp ln' cl' hLx
     have e0:wr.cell? ⟨gb,off+j * 13,none⟩ = some (.int .i64 x.k):=hce 0 _ rfl
     have e1:wr.cell? ⟨gb,off+j * 13+1,none⟩ = some (.int .i64 x.n):=hce 1 _ rfl
     have e2:wr.cell? ⟨gb,off+j * 13+2,none⟩ = some (.string (bs x.s)):=hce 2 _ rfl
     have e3:wr.cell? ⟨gb,off+j * 13+3,none⟩ = some (.int .i64 x.e):=hce 3 _ rfl
     have e4:wr.cell? ⟨gb,off+j * 13+4,none⟩ = some (.int .i64 x.r.1):=hce 4 _ rfl
     have e5:wr.cell? ⟨gb,off+j * 13+5,none⟩ = some (.int .i64 x.r.2.1):=hce 5 _ rfl
     have e6:wr.cell? ⟨gb,off+j * 13+6,none⟩ = some (.bool x.r.2.2.1):=hce 6 _ rfl
     have e7:wr.cell? ⟨gb,off+j * 13+7,none⟩ = some (.bool x.r.2.2.2):=hce 7 _ rfl
     have e8:wr.cell? ⟨gb,off+j * 13+8,none⟩ = some (.int .i64 x.q.1):=hce 8 _ rfl
     have e9:wr.cell? ⟨gb,off+j * 13+9,none⟩ = some (.int .i64 x.q.2.1):=hce 9 _ rfl
     have e10:wr.cell? ⟨gb,off+j * 13+10,none⟩ = some (.bool x.q.2.2.1):=hce 10 _ rfl
     have e11:wr.cell? ⟨gb,off+j * 13+11,none⟩ = some (.bool x.q.2.2.2):=hce 11 _ rfl
     have e12:wr.cell? ⟨gb,off+j * 13+12,none⟩ = some (.slice pp ln' cl'):=hce 12 _ rfl
     clear hI hx1 hLx hce hcl hln'
     go_wp2_with fail
     refine HC.out.mono ?_
     rintro e w3 ⟨lv,rfl,hL,E3⟩
     obtain ⟨qq,cm,hlv,hcm⟩:=hL.form
     obtain ⟨lm,hlm⟩:∃ lm,x.l.length = lm:=⟨_,rfl⟩
     rw [hlm] at hlv
     subst hlv
     have hgw:g < wr.heap.size:=by
       rcases HO.out.1.1.2 with ⟨q1,_⟩ | ⟨g',cap',cur,q1,_,q3,_⟩
       · cases q1
       · cases q1;exact heap_lt q3
     have HL3:Hid (IsL w3 (fun k=>W.heap.size+1+1≤k∧(Value.slice (some ⟨g,0,none⟩) ps.length cap).ownBlock≠some k) (.slice qq lm cm) x.l):=hL.mono (fun k hk hs=>⟨by omega,by simp [Value.ownBlock];omega⟩)
     have HO3:Hid (OwX w3 (W.heap.size+1+1) (.slice (some ⟨g,0,none⟩) ps.length cap) ps∧Ext W w3∧BlkX w3 W.heap.size t (.slice (some ⟨gb,off,none⟩) ln cl)∧BlkX w3 (W.heap.size+1) tz (.slice none 0 0)):=⟨HO.out.1.ext E3,HO.out.2.2.1.trans E3,HB.out.1.ext E3,HB.out.2.ext E3⟩
     have hw3:W.heap.size+1 < w3.heap.size:=HO3.out.2.2.2.1
     clear hL hcm hlm E3 hgw f12 k0 k1 k2 k3 k4 k5 k6 k7 k8 k9 k10 k11 k12 e0 e1 e2 e3 e4 e5 e6 e7 e8 e9 e10 e11 e12
     unfold aggX
     go_wp2_with (at_builtin;refine x_append _ (W.heap.size+1+1) _ _ _ w3.heap.size ps x qq lm cm rfl rfl J26 J26 (by rw [← HO.out.2.2.2];exact HO3.out.1.ext (xr.alloc _)) (by rw [← HO.out.2.2.2];exact HL3.out.ext (xr.alloc _)) ?cR (by rw [HO.out.2.2.2];omega) J6 ?_)
     case cR =>
       intro j u hu
       rw [Addr.add_lit,cell_of_row _ _ _ _ _ (0,0) (new_top w3 _),Nat.zero_add]
       rw [← hu,← Array.getElem?_toList];rfl
     intro v' w4 k1 k2 g4 cap4 hv4
     subst hv4
     have HB4:Hid (OwX (w3.alloc (.cells #[.int .i64 x.k,.int .i64 x.n,.string (bs x.s),.int .i64 x.e,.int .i64 x.r.1,.int .i64 x.r.2.1,.bool x.r.2.2.1,.bool x.r.2.2.2,.int .i64 x.q.1,.int .i64 x.q.2.1,.bool x.q.2.2.1,.bool x.q.2.2.2,.slice qq lm cm] 43)) (W.heap.size+1+1) (.slice (some ⟨g,0,none⟩) ps.length cap) ps):=HO3.out.1.ext (xr.alloc _)
     rw [← HO.out.2.2.2] at k2
     have HG:Hid (OwX w4 (W.heap.size+1+1) (.slice (some ⟨g4,0,none⟩) (ps.length+1) cap4) (ps ++ [(x,.slice qq lm cm)])∧Ext W w4∧BlkX w4 W.heap.size t (.slice (some ⟨gb,off,none⟩) ln cl)∧BlkX w4 (W.heap.size+1) tz (.slice none 0 0)) :=
       ⟨k1,ext_grown k2 HB4.out (HO3.out.2.1.alloc _) J2,(HO3.out.2.2.1.ext (xr.alloc _)).grown k2 HB4.out J2,(HO3.out.2.2.2.ext (xr.alloc _)).grown k2 HB4.out J2⟩
     clear k1 k2 HB4
     go_wp2_with fail
     go_roundw
     case rel =>
       refine ⟨j+1,g4,cap4,ps ++ [(x,.slice qq lm cm)],by omega,by rw [HO.out.2.2.2],by go_num,by rw [List.length_append,HO.out.2.2.2];rfl,?_,?_,HG.out.2.2.1,HG.out.2.2.2,HG.out.2.1⟩
       · rw [List.length_append];exact HG.out.1
       · rw [List.map_append,HO.out.2.1,List.take_add_one,HX1.out];rfl
     case measure=>show ln - ((j:Int)+1).toNat < ln - ((j:Int)).toNat;omega
   · have hltI:¬ (j:Int) < (ln:Int):=J2
     have hjl:j = ln:=J2
     have HT:Hid (t.l.take j = t.l):=J127
     clear hlt hjl
     obtain ⟨qy,⟨y0,y1,y2,y3,y4,y5,y6,y7,y8,y9,y10,y11,y12⟩,g0,g1,g2,g3,g4,g5,g6,g7,g8,g9,g10,g11,g12⟩:=HB.out.2
     go_wp2_with fail
     have hLL:=HO.out.1.isL
     rw [HO.out.2.1,HT.out,HO.out.2.2.2] at hLL
     have HLL:Hid (IsL wr (W.heap.size+1+1≤·) (.slice (some ⟨g,0,none⟩) j cap) t.l):=hLL
     clear hLL
     show bodyPost Tryz.prog _ _ _ _ (putX (wr.setCell ⟨W.heap.size,12,none⟩ (.slice (some ⟨g,0,none⟩) j cap)) (W.heap.size+1) t (.slice (some ⟨g,0,none⟩) j cap))
     have hB6:BlkX (wr.setCell ⟨W.heap.size,12,none⟩ (.slice (some ⟨g,0,none⟩) j cap)) (W.heap.size+1) tz (.slice none 0 0):=Blk13.far1 HB.out.2 J2 12 _
     have hL6:IsL (wr.setCell ⟨W.heap.size,12,none⟩ (.slice (some ⟨g,0,none⟩) j cap)) (W.heap.size+1+1≤·) (.slice (some ⟨g,0,none⟩) j cap) t.l:=HLL.out.keep (by simp [World.setCell]) (fun k hk _=>Below.heap_setCell _ _ _ _ J6) (fun _ h _=>h)
     have hE6:Ext W (wr.setCell ⟨W.heap.size,12,none⟩ (.slice (some ⟨g,0,none⟩) j cap)):=HO.out.2.2.1.setCell nrf _
     generalize wr.setCell ⟨W.heap.size,12,none⟩ (.slice (some ⟨g,0,none⟩) j cap) = W6 at hB6 hL6 hE6 ⊢
     exact endO (hB6.put t _) rfl (putX_L hL6 J56) J56 (putX_E hE6 J2 _ _) (fun h0 h1 h2 h3 h4 h5 h6 h7 h8 h9 h10 h11 h12=>by simp [results,results15,go_sem,h0,h1,h2,h3,h4,h5,h6,h7,h8,h9,h10,h11,h12,aggX])
theorem own_any (n:Nat) (t:T) (h:Hr n t):OwnC t:=by
 induction n generalizing t with
 | zero=>cases h
 | succ n ih=>exact own_step t h.1 (fun x hx=>ih x (h.2 x hx))
def OwY (w:World) (base:Nat) (v:Value) (ps:List (T × Value)):Prop:=w.ownsRow base 43 13 v ps.length (flatX ps)
theorem OwY.far {w:World} {base:Nat} {v:Value} {ps:List (T × Value)} (h:OwY w base v ps) {b:Nat} (hb:b < base):v.ownBlock≠some b:=by
 exact K129
theorem OwY.extB {b base:Nat} {w w':World} {v:Value} {ps:List (T × Value)} (h:OwY w base v ps) (e:ExtB b w w') (hb:b < base):OwY w' base v ps:=by
 refine ⟨h.1,?_⟩
 rcases h.2 with h2 | ⟨g,cap,cur,h1,h2,h3,h4⟩
 · exact .inl h2
 · exact .inr ⟨g,cap,cur,h1,h2,(e.block g (heap_lt h3) J2).trans h3,h4⟩
theorem OwY.set {w:World} {base:Nat} {v:Value} {ps:List (T × Value)} (h:OwY w base v ps) {p:Addr} (hp:p.block < base) (u:Value):OwY (w.setCell p u) base v ps:=by
 refine ⟨h.1,?_⟩
 rcases h.2 with h2 | ⟨g,cap,cur,h1,h2,h3,h4⟩
 · exact .inl h2
 · exact .inr ⟨g,cap,cur,h1,h2,(Below.heap_setCell _ _ _ _ J2).trans h3,h4⟩
theorem OwY.nil (w:World) (base:Nat):OwY w base (.slice none 0 0) []:=⟨rfl,.inl ⟨rfl,rfl⟩⟩
theorem OwY.form {w:World} {base:Nat} {v:Value} {ps:List (T × Value)} (h:OwY w base v ps):∃ p c,v = .slice p ps.length c:=by
 rcases h.2 with ⟨h1,h0⟩ | ⟨g,cap,cur,h1,_⟩
 · exact ⟨none,0,by rw [h1,h0]⟩
 · exact ⟨_,_,h1⟩
theorem grownBY {b:Nat} {w W W':World} {base:Nat} {v:Value} {ps:List (T × Value)} (h:W.grownBy W' v.ownBlock) (hB:OwY W base v ps) (hE:ExtB b w W) (hb:w.heap.size≤base):ExtB b w W':=by
 refine ⟨h.os.trans hE.os,h.tape.trans hE.tape,h.output.trans hE.output,Nat.le_trans hE.size h.size,fun k hk hkb=>?_⟩
 exact (h.block k (llL hk hE.size) (fun e=>hB.far (llL hk hb) e.symm)).trans (hE.block k hk hkb)
theorem BlkX.grownY {W W':World} {base g:Nat} {v lv:Value} {t:T} {ps:List (T × Value)} (B:BlkX W g t lv) (h:W.grownBy W' v.ownBlock) (hB:OwY W base v ps) (hg:g < base):BlkX W' g t lv:=by
 exact K33
theorem Rp.grownY {w0 W W':World} {b base:Nat} {ts:List Tk} {d pa why:Int} {v:Value} {ps:List (T × Value)} (hS:Rp w0 b W ts d pa why) (h:W.grownBy W' v.ownBlock) (hB:OwY W base v ps) (hb:b < base) (h0:w0.heap.size≤base):Rp w0 b W' ts d pa why:=by
 obtain ⟨h1,h2,h3,h4,h5,h6,h7,tb,off,c,n,i,all,g1,g2,g3,g4,g5,g6⟩:=hS
 obtain ⟨hz,⟨b0,b1,b2,b3,b4⟩,f0,f1,f2,f3,f4⟩:=g6
 have k:=fun o=>(World.cell?_of_block (a:=⟨b,o,none⟩) (h.block b hz (fun e=>hB.far hb e.symm)))
 have f:=fun o=>(World.frozen?_of_block (a:=⟨b,o,none⟩) (h.block b hz (fun e=>hB.far hb e.symm)))
 refine ⟨⟨h.os.trans h1.os,h.tape.trans h1.tape,h.output.trans h1.output,Nat.le_trans h1.size h.size,fun i hi=>?_⟩,h2,h3,h4,h5,h6,h7,tb,off,c,n,i,all,g1,g2,g3,g4,g5,llL hz h.size,⟨(k 0).trans b0,(k 1).trans b1,(k 2).trans b2,(k 3).trans b3,(k 4).trans b4⟩,(f 0).trans f0,(f 1).trans f1,(f 2).trans f2,(f 3).trans f3,(f 4).trans f4⟩
 exact K167
theorem y_append {ops:Array Oper} {rest:List Oper} {o:Oper} {a:Act} {Q:Exit→Act→World→Prop} (W:World) (base:Nat) (s y:Operand) (v:Value) (b:Nat) (ps:List (T × Value)) (x:T) (pp:Option Addr) (ln cl:Nat) (hgd:o.guard = none)
   (ho:o.op = .call { callee:=.builtin .append,args:=#[s,y],argTypes:=#[41,41] })
   (hs:a.eval s = v) (hx:a.eval y = .slice (some ⟨b,0,none⟩) 1 1) (hB:OwY W base v ps)
   (hR:∀ j u,(cellsT x (.slice pp ln cl))[j]? = some u→W.cell? ((⟨b,0,none⟩:Addr).add j) = some u) (hlen:ps.length≤100000) (hbase:base≤W.heap.size)
   (h:∀ v' W',OwY W' base v' (ps ++ [(x,.slice pp ln cl)])→W.grownBy W' v.ownBlock→(∃ g cap,v' = .slice (some ⟨g,0,none⟩) (ps.length+1) cap)→(∀ k,k < W.heap.size→v.ownBlock≠some k→v'.ownBlock≠some k)→wpList Tryz.prog ops Q rest (a.put o.dst v') W'):wpList Tryz.prog ops Q (o :: rest) a W:=by
 obtain ⟨i,hi,hz,h1,h2⟩:=info_x
 refine wpList_append_own_at W hgd s y 41 ho base 43 i _ 13 112 Tryz.underlying41 hi hz h1 h2 rfl J9 v ps.length (flatX ps) hs hB ⟨b,0,none⟩ 1 1 (cellsT x (.slice pp ln cl)) hx rfl hR ?_ J30 J2 hbase ?_
 · exact K136
 intro v' W' h3 h4 h5 h6
 have hsz:∀ k,k < W.heap.size→v.ownBlock≠some k→v'.ownBlock≠some k:=by
   intro k hk hv
   rcases h6 with h6 | h6
   · rw [h6];exact hv
   · rw [h6];simp;omega
 have hO:OwY W' base v' (ps ++ [(x,.slice pp ln cl)]):=by
   unfold OwY
   rw [List.length_append,flatX_append]
   exact h3
 refine h v' W' hO h4 ?_ hsz
 exact K86
theorem own_up {W W':World} {base:Nat} {v v' y:Value} {l:List T} (h4:W.grownBy W' v.ownBlock) (hsz:∀ k,k < W.heap.size→v.ownBlock≠some k→v'.ownBlock≠some k) (hy:IsL W (fun k=>base≤k∧v.ownBlock≠some k) y l):IsL W' (fun k=>base≤k∧v'.ownBlock≠some k) y l :=
 hy.keep h4.size (fun k hk hs=>h4.block k hs (fun e=>hk.2 e.symm)) (fun k hk hs=>⟨hk.1,hsz k hs hk.2⟩)
def muR (b:Nat) (w:World):Nat:=leftR b w+(match w.cell? ⟨b,4,none⟩ with
 | some (.int _ y)=>if y = 0 then 1 else 0
 | _=>0)
theorem Rp.mu {w0 W:World} {b:Nat} {ts:List Tk} {d pa why:Int} (h:Rp w0 b W ts d pa why):muR b W = ts.length+(if why = 0 then 1 else 0):=by
 unfold muR
 rw [h.left]
 obtain ⟨h1,h2,h3,h4,h5,h6,h7,tb,off,c,n,i,all,g1,g2,g3,g4,g5,g6⟩:=h
 rw [g6.2.1.2.2.2.2]
theorem rknown_none (s:List UInt8) (W:World) (h:kno s = none):Calls Tryz.prog 54 #[.string (bs s)] W fun e w'=>e = .returned (.tuple #[.int .i64 0,.int .i64 0,.bool false])∧w' = W:=by
 exact K160
theorem rknown_some (s:List UInt8) (W:World) (a m:Nat) (h:kno s = some (a,m)):Calls Tryz.prog 54 #[.string (bs s)] W fun e w'=>e = .returned (.tuple #[.int .i64 (a:Int),.int .i64 (m:Int),.bool true])∧w' = W:=by
 exact K160
theorem word_true (w0:World) (b n:Nat) (hX:ExC w0 b n n) (W:World) (ts:List Tk) (d:Nat) (pa:Int) (h:Rp w0 b W ts d pa 0) (hts:ts.length≤n+1) (hd4:d≤40) (hk:(hd ts).1 = 2) (hw:(hd ts).2.2.1 = wTrue) :
   Calls Tryz.prog 120 #[.pointer (some ⟨b,0,none⟩),.string (bs (hd ts).2.2.1)] W (RX w0 b W ts.length (d - 1) d (wrd (frm (O n)) d ts)):=by
 have HR:Hid (Rp w0 b W ts d pa 0):=h
 have HN:Hid (ts.length≤n+1∧d≤40∧w0.heap.size≤W.heap.size):=⟨hts,hd4,h.1.sz⟩
 have HX:Hid (ExC w0 b n n):=hX
 have hbW:b < W.heap.size:=h.lt.1
 have hgW:W.heap.size≠b:=J2
 have HT:Hid (Nz ts.tail∧ts.tail.length+1 = ts.length∧nx ts = ts.tail):=⟨(h.2.2.1.tail J11).1,(h.2.2.1.tail J11).2,nx_tail h.2.2.1 J11⟩
 have cP:=fun V=>rparse_rf (hd ts).2.2.1 V (h.2.2.2.2.1 _ (hd_mem h.2.2.1.pos)).1
 have HXX:Hid (wrd (frm (O n)) d ts = .ok (tBool 1,ts.tail)):=by
   show _ = _
   unfold wrd one
   rw [tk1_ok hd4]
   rw [if_pos hw]
 have e1:((bs (hd ts).2.2.1).toList == [84,82,85,69]) = true:=J128
 have e2:((bs (hd ts).2.2.1).toList == [70,65,76,83,69]) = false:=J128
 clear hw
 clear hts hd4 hX h hk
 obtain ⟨s,hs⟩:∃ s,(hd ts).2.2.1 = s:=⟨_,rfl⟩
 have HSS:Hid ((hd ts).2.2.1 = s):=hs
 rw [hs] at cP e1 e2 ⊢
 clear hs
 generalize bs s = q at *
 go_enter func120,ntmps120
 go_wp2_with fail
 refine (rnext_any (HR.out.ext (xr.alloc _))).mono ?_
 rintro e w2 ⟨rfl,R2,X2⟩
 have H2:Hid (Rp w0 b w2 (nx ts) d pa 0∧ExtB b W w2∧BlkX w2 W.heap.size tz (.slice none 0 0)):=⟨R2,(Ext.toB ((Ext.refl W).alloc _) b).trans X2,(BlkX.top rfl xr).extB X2 hgW⟩
 skip
 have HB0:=H2.out.2.2
 obtain ⟨qa,⟨la0,la1,la2,la3,la4,la5,la6,la7,la8,la9,la10,la11,la12⟩,ga0,ga1,ga2,ga3,ga4,ga5,ga6,ga7,ga8,ga9,ga10,ga11,ga12⟩:=HB0
 clear R2 X2
 go_wp2_with fail
 show bodyPost Tryz.prog _ _ _ _ (putX w2 W.heap.size (tBool 1) (.slice none 0 0))
 have R3:=H2.out.1
 rw [HT.out.2.2] at R3
 rw [HXX.out]
 exact endR (H2.out.2.2.put (tBool 1) (.slice none 0 0)) rfl ⟨putX_B H2.out.2.1 nrf _ _,⟨_,rfl,.nil⟩,pa,putX_R R3 hgW HN.out.2.2 _ _⟩ J15
theorem word_false (w0:World) (b n:Nat) (hX:ExC w0 b n n) (W:World) (ts:List Tk) (d:Nat) (pa:Int) (h:Rp w0 b W ts d pa 0) (hts:ts.length≤n+1) (hd4:d≤40) (hk:(hd ts).1 = 2) (hw:(hd ts).2.2.1 = wFalse) :
   Calls Tryz.prog 120 #[.pointer (some ⟨b,0,none⟩),.string (bs (hd ts).2.2.1)] W (RX w0 b W ts.length (d - 1) d (wrd (frm (O n)) d ts)):=by
 have HR:Hid (Rp w0 b W ts d pa 0):=h
 have HN:Hid (ts.length≤n+1∧d≤40∧w0.heap.size≤W.heap.size):=⟨hts,hd4,h.1.sz⟩
 have HX:Hid (ExC w0 b n n):=hX
 have hbW:b < W.heap.size:=h.lt.1
 have hgW:W.heap.size≠b:=J2
 have HT:Hid (Nz ts.tail∧ts.tail.length+1 = ts.length∧nx ts = ts.tail):=⟨(h.2.2.1.tail J11).1,(h.2.2.1.tail J11).2,nx_tail h.2.2.1 J11⟩
 have cP:=fun V=>rparse_rf (hd ts).2.2.1 V (h.2.2.2.2.1 _ (hd_mem h.2.2.1.pos)).1
 have HXX:Hid (wrd (frm (O n)) d ts = .ok (tBool 0,ts.tail)):=by
   show _ = _
   unfold wrd one
   rw [tk1_ok hd4]
   rw [if_neg (by rw [hw];decide),if_pos hw]
 have e1:((bs (hd ts).2.2.1).toList == [84,82,85,69]) = false:=J128
 have e2:((bs (hd ts).2.2.1).toList == [70,65,76,83,69]) = true:=J128
 clear hw
 clear hts hd4 hX h hk
 obtain ⟨s,hs⟩:∃ s,(hd ts).2.2.1 = s:=⟨_,rfl⟩
 have HSS:Hid ((hd ts).2.2.1 = s):=hs
 rw [hs] at cP e1 e2 ⊢
 clear hs
 generalize bs s = q at *
 go_enter func120,ntmps120
 go_wp2_with fail
 refine (rnext_any (HR.out.ext (xr.alloc _))).mono ?_
 rintro e w2 ⟨rfl,R2,X2⟩
 have H2:Hid (Rp w0 b w2 (nx ts) d pa 0∧ExtB b W w2∧BlkX w2 W.heap.size tz (.slice none 0 0)):=⟨R2,(Ext.toB ((Ext.refl W).alloc _) b).trans X2,(BlkX.top rfl xr).extB X2 hgW⟩
 skip
 have HB0:=H2.out.2.2
 obtain ⟨qa,⟨la0,la1,la2,la3,la4,la5,la6,la7,la8,la9,la10,la11,la12⟩,ga0,ga1,ga2,ga3,ga4,ga5,ga6,ga7,ga8,ga9,ga10,ga11,ga12⟩:=HB0
 clear R2 X2
 go_wp2_with fail
 show bodyPost Tryz.prog _ _ _ _ (putX w2 W.heap.size (tBool 0) (.slice none 0 0))
 have R3:=H2.out.1
 rw [HT.out.2.2] at R3
 rw [HXX.out]
 exact endR (H2.out.2.2.put (tBool 0) (.slice none 0 0)) rfl ⟨putX_B H2.out.2.1 nrf _ _,⟨_,rfl,.nil⟩,pa,putX_R R3 hgW HN.out.2.2 _ _⟩ J15
theorem word_ref (w0:World) (b n:Nat) (hX:ExC w0 b n n) (W:World) (ts:List Tk) (d:Nat) (pa:Int) (h:Rp w0 b W ts d pa 0) (hts:ts.length≤n+1) (hd4:d≤40) (hk:(hd ts).1 = 2) (ho:okP (hd ts).2.2.1 = true) :
   Calls Tryz.prog 120 #[.pointer (some ⟨b,0,none⟩),.string (bs (hd ts).2.2.1)] W (RX w0 b W ts.length (d - 1) d (wrd (frm (O n)) d ts)):=by
 have HR:Hid (Rp w0 b W ts d pa 0):=h
 have HN:Hid (ts.length≤n+1∧d≤40∧w0.heap.size≤W.heap.size):=⟨hts,hd4,h.1.sz⟩
 have HX:Hid (ExC w0 b n n):=hX
 have hbW:b < W.heap.size:=h.lt.1
 have hgW:W.heap.size≠b:=J2
 have HT:Hid (Nz ts.tail∧ts.tail.length+1 = ts.length∧nx ts = ts.tail):=⟨(h.2.2.1.tail J11).1,(h.2.2.1.tail J11).2,nx_tail h.2.2.1 J11⟩
 have cP:=fun V=>rparse_rf (hd ts).2.2.1 V (h.2.2.2.2.1 _ (hd_mem h.2.2.1.pos)).1
 obtain ⟨hk1,hk2,hk3⟩:=kno_ok ho
 have HXX:Hid (wrd (frm (O n)) d ts = .ok (tRef (rfP (hd ts).2.2.1),ts.tail)):=by
   show _ = _
   unfold wrd refr
   rw [tk1_ok hd4,if_neg hk2,if_neg hk3,hk1,if_pos ⟨hk,ho⟩]
 have e1:((bs (hd ts).2.2.1).toList == [84,82,85,69]) = false:=by rw [bs_tl];simpa [wTrue] using hk2
 have e2:((bs (hd ts).2.2.1).toList == [70,65,76,83,69]) = false:=by rw [bs_tl];simpa [wFalse] using hk3
 have HPF:Hid (prf (hd ts).2.2.1 = rfP (hd ts).2.2.1):=if_pos ho
 rw [ho] at cP
 clear ho hk1 hk2 hk3
 clear hts hd4 hX h hk
 obtain ⟨s,hs⟩:∃ s,(hd ts).2.2.1 = s:=⟨_,rfl⟩
 have HSS:Hid ((hd ts).2.2.1 = s):=hs
 rw [hs] at cP e1 e2 HXX HPF ⊢
 clear hs
 have es:(bs s).data.toList = s:=rfl
 obtain ⟨r,hr⟩:∃ r,prf s = r:=⟨_,rfl⟩
 have HRF:Hid (prf s = r):=hr
 rw [hr] at cP
 clear hr es
 generalize bs s = q at *
 go_enter func120,ntmps120
 go_wp2_with fail
 refine (cP _).mono ?_
 rintro e w1 ⟨rfl,E1⟩
 have hw1:W.heap.size+1≤w1.heap.size:=by have:=E1.size;simp at this;omega
 have E3:Ext w1 (w1.alloc (.cells #[.int .i64 r.1,.int .i64 r.2.1,.bool r.2.2.1,.bool r.2.2.2] 40)):=xr.alloc _
 have B3:=blk_top (b:=w1.heap.size) rfl (Ext.refl (w1.alloc (.cells #[.int .i64 r.1,.int .i64 r.2.1,.bool r.2.2.1,.bool r.2.2.2] 40)))
 have HV:Hid (BlkX (w1.alloc (.cells #[.int .i64 r.1,.int .i64 r.2.1,.bool r.2.2.1,.bool r.2.2.2] 40)) W.heap.size tz (.slice none 0 0)∧Ext W (w1.alloc (.cells #[.int .i64 r.1,.int .i64 r.2.1,.bool r.2.2.1,.bool r.2.2.2] 40))∧Blk (w1.alloc (.cells #[.int .i64 r.1,.int .i64 r.2.1,.bool r.2.2.1,.bool r.2.2.2] 40)) w1.heap.size (.int .i64 r.1) (.int .i64 r.2.1) (.bool r.2.2.1) (.bool r.2.2.2)):=⟨(BlkX.top rfl E1).ext E3,((xr.alloc _).trans E1).trans E3,B3⟩
 clear E1 E3 B3 cP
 go_wp2_with fail
 refine (rnext_any (HR.out.ext HV.out.2.1)).mono ?_
 rintro e w2 ⟨rfl,R2,X2⟩
 have H2:Hid (Rp w0 b w2 (nx ts) d pa 0∧ExtB b W w2∧BlkX w2 W.heap.size tz (.slice none 0 0)):=⟨R2,(Ext.toB HV.out.2.1 b).trans X2,(HV.out.1).extB X2 hgW⟩
 obtain ⟨zr,⟨p0,p1,p2,p3⟩,zrf⟩:=HV.out.2.2.extB X2 J2
 clear zrf
 have HB0:=H2.out.2.2
 obtain ⟨qa,⟨la0,la1,la2,la3,la4,la5,la6,la7,la8,la9,la10,la11,la12⟩,ga0,ga1,ga2,ga3,ga4,ga5,ga6,ga7,ga8,ga9,ga10,ga11,ga12⟩:=HB0
 clear R2 X2
 go_wp2_with fail
 show bodyPost Tryz.prog _ _ _ _ (putX w2 W.heap.size (tRef r) (.slice none 0 0))
 have R3:=H2.out.1
 rw [HT.out.2.2] at R3
 rw [HXX.out,← HPF.out,HRF.out]
 exact endR (H2.out.2.2.put (tRef r) (.slice none 0 0)) rfl ⟨putX_B H2.out.2.1 nrf _ _,⟨_,rfl,.nil⟩,pa,putX_R R3 hgW HN.out.2.2 _ _⟩ J15
theorem word_none (w0:World) (b n:Nat) (hX:ExC w0 b n n) (W:World) (ts:List Tk) (d:Nat) (pa:Int) (h:Rp w0 b W ts d pa 0) (hts:ts.length≤n+1) (hd4:d≤40) (hk:(hd ts).1 = 2) (ho:okP (hd ts).2.2.1 = false) (h1:(hd ts).2.2.1≠wTrue) (h2:(hd ts).2.2.1≠wFalse) (h3:kno (hd ts).2.2.1 = none) :
   Calls Tryz.prog 120 #[.pointer (some ⟨b,0,none⟩),.string (bs (hd ts).2.2.1)] W (RX w0 b W ts.length (d - 1) d (wrd (frm (O n)) d ts)):=by
 have HR:Hid (Rp w0 b W ts d pa 0):=h
 have HN:Hid (ts.length≤n+1∧d≤40∧w0.heap.size≤W.heap.size):=⟨hts,hd4,h.1.sz⟩
 have HX:Hid (ExC w0 b n n):=hX
 have hbW:b < W.heap.size:=h.lt.1
 have hgW:W.heap.size≠b:=J2
 have HT:Hid (Nz ts.tail∧ts.tail.length+1 = ts.length∧nx ts = ts.tail):=⟨(h.2.2.1.tail J11).1,(h.2.2.1.tail J11).2,nx_tail h.2.2.1 J11⟩
 have cP:=fun V=>rparse_rf (hd ts).2.2.1 V (h.2.2.2.2.1 _ (hd_mem h.2.2.1.pos)).1
 have HXX:Hid (∃ f,wrd (frm (O n)) d ts = .error f):=by
   show ∃ f,_
   unfold wrd refr
   rw [if_neg h1,if_neg h2,h3,if_neg (by rintro ⟨_,h⟩;rw [ho] at h;cases h)]
   exact ⟨_,rfl⟩
 have e1:((bs (hd ts).2.2.1).toList == [84,82,85,69]) = false:=by rw [bs_tl];simpa [wTrue] using h1
 have e2:((bs (hd ts).2.2.1).toList == [70,65,76,83,69]) = false:=by rw [bs_tl];simpa [wFalse] using h2
 have cK:=fun V=>rknown_none (hd ts).2.2.1 V h3
 rw [ho] at cP
 clear ho h1 h2 h3
 clear hts hd4 hX h hk
 obtain ⟨s,hs⟩:∃ s,(hd ts).2.2.1 = s:=⟨_,rfl⟩
 have HSS:Hid ((hd ts).2.2.1 = s):=hs
 rw [hs] at cP e1 e2 cK ⊢
 clear hs
 have es:(bs s).data.toList = s:=rfl
 obtain ⟨r,hr⟩:∃ r,prf s = r:=⟨_,rfl⟩
 have HRF:Hid (prf s = r):=hr
 rw [hr] at cP
 clear hr es
 generalize bs s = q at *
 go_enter func120,ntmps120
 go_wp2_with fail
 refine (cP _).mono ?_
 rintro e w1 ⟨rfl,E1⟩
 have hw1:W.heap.size+1≤w1.heap.size:=by have:=E1.size;simp at this;omega
 have E3:Ext w1 (w1.alloc (.cells #[.int .i64 r.1,.int .i64 r.2.1,.bool r.2.2.1,.bool r.2.2.2] 40)):=xr.alloc _
 have B3:=blk_top (b:=w1.heap.size) rfl (Ext.refl (w1.alloc (.cells #[.int .i64 r.1,.int .i64 r.2.1,.bool r.2.2.1,.bool r.2.2.2] 40)))
 have HV:Hid (BlkX (w1.alloc (.cells #[.int .i64 r.1,.int .i64 r.2.1,.bool r.2.2.1,.bool r.2.2.2] 40)) W.heap.size tz (.slice none 0 0)∧Ext W (w1.alloc (.cells #[.int .i64 r.1,.int .i64 r.2.1,.bool r.2.2.1,.bool r.2.2.2] 40))∧Blk (w1.alloc (.cells #[.int .i64 r.1,.int .i64 r.2.1,.bool r.2.2.1,.bool r.2.2.2] 40)) w1.heap.size (.int .i64 r.1) (.int .i64 r.2.1) (.bool r.2.2.1) (.bool r.2.2.2)):=⟨(BlkX.top rfl E1).ext E3,((xr.alloc _).trans E1).trans E3,B3⟩
 clear E1 E3 B3 cP
 go_wp2_with fail
 refine (cK _).mono ?_
 rintro e wk ⟨rfl,rfl⟩
 go_wp2_with fail
 refine (rbad_any (HR.out.ext HV.out.2.1) 4).mono ?_
 rintro e w2 ⟨rfl,R2,X2⟩
 have H2:Hid (ExtB b W w2∧BlkX w2 W.heap.size tz (.slice none 0 0)∧∃ pa' why',why'≠0∧Rp w0 b w2 ts d pa' why'):=⟨(HV.out.2.1.toB b).trans X2,HV.out.1.extB X2 hgW,_,_,by decide,R2⟩
 have HB0:=H2.out.2.1
 obtain ⟨qa,⟨la0,la1,la2,la3,la4,la5,la6,la7,la8,la9,la10,la11,la12⟩,ga0,ga1,ga2,ga3,ga4,ga5,ga6,ga7,ga8,ga9,ga10,ga11,ga12⟩:=HB0
 clear R2 X2
 go_wp2_with fail
 show bodyPost Tryz.prog _ _ _ _ (putX w2 W.heap.size tz (.slice none 0 0))
 obtain ⟨f,hf⟩:=HXX.out
 obtain ⟨pa',why',z1,z2⟩:=H2.out.2.2
 exact endR (H2.out.2.1.put tz (.slice none 0 0)) rfl (RY.back ⟨putX_B H2.out.1 nrf _ _,.inr ⟨f,ts,d,pa',why',hf,by omega,Int.le_refl _,z1,Nat.le_refl _,putX_R z2 hgW HN.out.2.2 _ _⟩⟩) J15
theorem word_call (w0:World) (b n:Nat) (hX:ExC w0 b n n) (W:World) (ts:List Tk) (d:Nat) (pa:Int) (h:Rp w0 b W ts d pa 0) (hts:ts.length≤n+1) (hd4:d≤40) (hk:(hd ts).1 = 2) (a m:Nat) (hkn:kno (hd ts).2.2.1 = some (a,m)) :
   Calls Tryz.prog 120 #[.pointer (some ⟨b,0,none⟩),.string (bs (hd ts).2.2.1)] W (RX w0 b W ts.length (d - 1) d (wrd (frm (O n)) d ts)):=by
 have HR:Hid (Rp w0 b W ts d pa 0):=h
 have HN:Hid (ts.length≤n+1∧d≤40∧w0.heap.size≤W.heap.size):=⟨hts,hd4,h.1.sz⟩
 have HX:Hid (ExC w0 b n n):=hX
 have hbW:b < W.heap.size:=h.lt.1
 have hgW:W.heap.size≠b:=J2
 have HT:Hid (Nz ts.tail∧ts.tail.length+1 = ts.length∧nx ts = ts.tail):=⟨(h.2.2.1.tail J11).1,(h.2.2.1.tail J11).2,nx_tail h.2.2.1 J11⟩
 have cP:=fun V=>rparse_rf (hd ts).2.2.1 V (h.2.2.2.2.1 _ (hd_mem h.2.2.1.pos)).1
 obtain ⟨ka,kb,kc,h1,h2,ho⟩:=kno_bd hkn
 simp only at ka kb kc
 have hbrk:wrd (frm (O n)) d ts = brk (call (frm (O n)) (hd ts).2.2.1 a m) d ts.tail:=by
   unfold wrd
   rw [if_neg h1,if_neg h2,hkn]
   show (match tk1 d ts with | .error e=>(.error e:Rs) | .ok ts1=>brk (call (frm (O n)) (hd ts).2.2.1 a m) d ts1) = _
   rw [tk1_ok hd4]
 have HNO:Hid (isSg [40] ts.tail = false→∃ f,wrd (frm (O n)) d ts = .error f):=by
   intro h40
   rw [hbrk]
   unfold brk pass1
   rw [h40]
   exact ⟨_,rfl⟩
 have hyes:isSg [40] ts.tail = true→wrd (frm (O n)) d ts = match args (frm (O n)) a m (d+1) ts.tail.tail with | .error e=>.error e | .ok (l,us)=>if isSg [41] us = true then .ok (tCall (hd ts).2.2.1 l,us.tail) else .error (ft us false):=by
   intro h40
   rw [hbrk]
   unfold brk pass1 call
   rw [h40,if_pos rfl,tk1_ok hd4]
   dsimp only
   cases args (frm (O n)) a m (d+1) ts.tail.tail with
   | error e=>rfl
   | ok q =>
     obtain ⟨l,us⟩:=q
     dsimp only
     rw [tk1_ok hd4]
     cases isSg [41] us <;> rfl
 have HWR:Hid ((isSg [40] ts.tail = true→(∃ f,args (frm (O n)) a m (d+1) ts.tail.tail = .error f)→∃ f,wrd (frm (O n)) d ts = .error f)∧(∀ l us,isSg [40] ts.tail = true→args (frm (O n)) a m (d+1) ts.tail.tail = .ok (l,us)→isSg [41] us = true→wrd (frm (O n)) d ts = .ok (tCall (hd ts).2.2.1 l,us.tail))∧(∀ l us,isSg [40] ts.tail = true→args (frm (O n)) a m (d+1) ts.tail.tail = .ok (l,us)→isSg [41] us = false→∃ f,wrd (frm (O n)) d ts = .error f)):=by
   refine ⟨fun q1 q2=>?_,fun l us q1 q2 q3=>?_,fun l us q1 q2 q3=>?_⟩
   · obtain ⟨f,hf⟩:=q2
     rw [hyes q1,hf]
     exact ⟨_,rfl⟩
   · rw [hyes q1,q2]
     show (if isSg [41] us = true then _ else _) = _
     rw [if_pos q3]
   · rw [hyes q1,q2]
     refine ⟨ft us false,?_⟩
     show (if isSg [41] us = true then _ else _) = _
     rw [if_neg (by rw [q3];decide)]
 have HT2:Hid (isSg [40] ts.tail = true→Nz ts.tail.tail∧ts.tail.tail.length+1 = ts.tail.length∧nx ts.tail = ts.tail.tail∧ts.tail.tail.length≤n):=by
   intro h40
   have z:=HT.out.1.tail (by rw [(isSg_k h40).1];decide)
   exact ⟨z.1,z.2,nx_tail HT.out.1 (by rw [(isSg_k h40).1];decide),by have:=HT.out.2.1;have:=z.2;omega⟩
 have HAD:Hid (d+1≤40→isSg [40] ts.tail = true→Eqv (args (frm (O n)) a m (d+1) ts.tail.tail) (docA (frm (O n)) a m (d+1) ts.tail.tail)):=fun q1 q2=>args_doc (frm_sh (O_sh n)) q1 kb (HT2.out q2).1 (HT2.out q2).2.2.2
 have HDP:Hid (40 < d+1→isSg [40] ts.tail = true→∃ f,wrd (frm (O n)) d ts = .error f):=by
   intro q1 q2
   refine HWR.out.1 q2 ?_
   obtain ⟨f,hf⟩:=LvK_deep n (d+1) 1 q1 ts.tail.tail
   have hf2:frm (O n) (d+1) ts.tail.tail = .error f:=hf
   unfold args argm
   rw [hf2]
   exact ⟨_,rfl⟩
 have HAM:Hid (1≤a∧a≤m∧m≤20):=⟨ka,kb,kc⟩
 have e1:((bs (hd ts).2.2.1).toList == [84,82,85,69]) = false:=by rw [bs_tl];simpa [wTrue] using h1
 have e2:((bs (hd ts).2.2.1).toList == [70,65,76,83,69]) = false:=by rw [bs_tl];simpa [wFalse] using h2
 have cK:=fun V=>rknown_some (hd ts).2.2.1 V a m hkn
 rw [ho] at cP
 have ham:a≤20:=J2
 have hmm:m≤20:=kc
 clear ho h1 h2 hkn hbrk hyes ka kb kc
 clear hts hd4 hX h hk
 obtain ⟨s,hs⟩:∃ s,(hd ts).2.2.1 = s:=⟨_,rfl⟩
 have HSS:Hid ((hd ts).2.2.1 = s):=hs
 rw [hs] at cP e1 e2 cK ⊢
 clear hs
 have es:(bs s).data.toList = s:=rfl
 obtain ⟨r,hr⟩:∃ r,prf s = r:=⟨_,rfl⟩
 have HRF:Hid (prf s = r):=hr
 rw [hr] at cP
 clear hr es
 go_enter func120,ntmps120
 go_wp2_with fail
 refine (cP _).mono ?_
 rintro e w1 ⟨rfl,E1⟩
 have hw1:W.heap.size+1≤w1.heap.size:=by have:=E1.size;simp at this;omega
 have E3:Ext w1 (w1.alloc (.cells #[.int .i64 r.1,.int .i64 r.2.1,.bool r.2.2.1,.bool r.2.2.2] 40)):=xr.alloc _
 have B3:=blk_top (b:=w1.heap.size) rfl (Ext.refl (w1.alloc (.cells #[.int .i64 r.1,.int .i64 r.2.1,.bool r.2.2.1,.bool r.2.2.2] 40)))
 have HV:Hid (BlkX (w1.alloc (.cells #[.int .i64 r.1,.int .i64 r.2.1,.bool r.2.2.1,.bool r.2.2.2] 40)) W.heap.size tz (.slice none 0 0)∧Ext W (w1.alloc (.cells #[.int .i64 r.1,.int .i64 r.2.1,.bool r.2.2.1,.bool r.2.2.2] 40))∧Blk (w1.alloc (.cells #[.int .i64 r.1,.int .i64 r.2.1,.bool r.2.2.1,.bool r.2.2.2] 40)) w1.heap.size (.int .i64 r.1) (.int .i64 r.2.1) (.bool r.2.2.1) (.bool r.2.2.2)):=⟨(BlkX.top rfl E1).ext E3,((xr.alloc _).trans E1).trans E3,B3⟩
 clear E1 E3 B3 cP
 go_wp2_with fail
 refine (cK _).mono ?_
 rintro e wk ⟨rfl,rfl⟩
 clear cK
 go_wp2_with fail
 refine (rnext_any (HR.out.ext HV.out.2.1)).mono ?_
 rintro e w2 ⟨rfl,R2,X2⟩
 rw [HT.out.2.2] at R2
 have H2:Hid (Rp w0 b w2 ts.tail d pa 0∧ExtB b W w2∧BlkX w2 W.heap.size tz (.slice none 0 0)):=⟨R2,(HV.out.2.1.toB b).trans X2,HV.out.1.extB X2 hgW⟩
 clear R2 X2 HV HRF
 go_wp2_with fail
 refine (rwant_any H2.out.1 ⟨#[40]⟩).mono ?_
 rintro e w3 ⟨rfl,X3,D3⟩
 obtain ⟨us,pa3,why,R3,HS3⟩:∃ us pa3 why,Rp w0 b w3 us d pa3 why∧Hid ((why = 0∧us = ts.tail.tail∧isSg [40] ts.tail = true)∨(why≠0∧us = ts.tail∧∃ f,wrd (frm (O n)) d ts = .error f)):=by
   rcases D3 with ⟨q1,q2⟩ | ⟨q1,pa',why',q2,q3⟩
   · unfold sgn at q1
     split at q1
     · rename_i h3
       have hc:isSg [40] ts.tail = true:=J124
       exact ⟨_,_,0,q2,.inl ⟨rfl,(HT2.out hc).2.2.1,hc⟩⟩
     · cases q1
   · refine ⟨_,_,why',q3,.inr ⟨q2,rfl,HNO.out ?_⟩⟩
     cases hc:isSg [40] ts.tail with
     | false=>rfl
     | true=>exact absurd (by unfold sgn;rw [if_pos ⟨rfl,(isSg_k hc).1⟩];exact (isSg_k hc).2) q1
 have H3:Hid (Rp w0 b w3 us d pa3 why∧ExtB b W w3∧BlkX w3 W.heap.size tz (.slice none 0 0)):=⟨R3,H2.out.2.1.trans X3,H2.out.2.2.extB X3 hgW⟩
 have HUL:Hid (us.length≤ts.length):=by
   show _≤_
   have z:=HT.out.2.1
   rcases HS3.out with ⟨_,hu,hc⟩ | ⟨_,hu,_⟩
   · rw [hu];have:=(HT2.out hc).2.1;omega
   · rw [hu];omega
 obtain ⟨g0,g1,g2,g3,g4,g5,g6,tb,off,cc,nn,ii,all,u1,u2,u3,u4,u5,u6⟩:=R3
 obtain ⟨hz,⟨b0,b1,b2,b3,b4⟩,f0,f1,f2,f3,f4⟩:=u6
 clear g0 g1 g2 g3 g4 g5 g6 u1 u2 u3 u4 u5
 clear X3 D3 H2
 go_upto_if 54 with fail
 go_cut [] (fun wx=>∃ us D pa' why,Rp w0 b wx us D pa' why∧us.length≤ts.length∧BlkX wx W.heap.size tz (.slice none 0 0)∧ExtB b W wx∧((why = 0∧D = (d:Int)+1∧d+1≤40∧us = ts.tail.tail∧isSg [40] ts.tail = true)∨(why≠0∧(d:Int)≤D∧D≤(d:Int)+1∧∃ f,wrd (frm (O n)) d ts = .error f)))
 case first =>
   by_cases hw:why = 0
   · have w0':(why == 0) = true:=by rw [hw];rfl
     have HW0:Hid (why = 0):=hw
     clear hw
     go_wp2_with fail
     refine (rdown_any H3.out.1 (by have:=HN.out.2.1;omega)).mono ?_
     rintro e w4 ⟨rfl,X4,D4⟩
     have HD4:Hid ((d+1≤(40:Int)∧Rp w0 b w4 us ((d:Int)+1) pa3 why)∨(40 < (d:Int)+1∧∃ pa' why',why'≠0∧Rp w0 b w4 us ((d:Int)+1) pa' why')):=D4
     have HX4:Hid (ExtB b w3 w4):=X4
     clear X4 D4 b0 b1 b2 b3 b4 f0 f1 f2 f3 f4 hz
     go_wp2_with fail
     go_meet
     case rel =>
       rcases HS3.out with ⟨_,hu,hc⟩ | ⟨hne,_⟩
       · rcases HD4.out with ⟨q1,q2⟩ | ⟨q1,pa',why',q2,q3⟩
         · exact ⟨us,_,pa3,why,q2,HUL.out,H3.out.2.2.extB HX4.out hgW,H3.out.2.1.trans HX4.out,.inl ⟨HW0.out,rfl,by omega,hu,hc⟩⟩
         · exact ⟨us,_,pa',why',q3,HUL.out,H3.out.2.2.extB HX4.out hgW,H3.out.2.1.trans HX4.out,.inr ⟨q2,by omega,by omega,HDP.out J2 hc⟩⟩
       · exact absurd HW0.out hne
   · have w0':(why == 0) = false:=J122
     have HW0:Hid (why≠0):=hw
     clear hw
     go_wp2_with fail
     go_meet
     case rel =>
       rcases HS3.out with ⟨h0,_⟩ | ⟨hne,_,hr⟩
       · exact absurd h0 HW0.out
       · exact ⟨us,_,pa3,why,H3.out.1,HUL.out,H3.out.2.2,H3.out.2.1,.inr ⟨hne,by omega,by omega,hr⟩⟩
 case rest =>
   clear b0 b1 b2 b3 b4 f0 f1 f2 f3 f4 hz
   obtain ⟨us0,D0,pa0,why0,j1,j2,j3,j4,j5⟩:=hcut
   have HJ:Hid (Rp w0 b wc us0 D0 pa0 why0∧us0.length≤ts.length∧BlkX wc W.heap.size tz (.slice none 0 0)∧ExtB b W wc):=⟨j1,j2,j3,j4⟩
   have HJ5:Hid ((why0 = 0∧D0 = (d:Int)+1∧d+1≤40∧us0 = ts.tail.tail∧isSg [40] ts.tail = true)∨(why0≠0∧(d:Int)≤D0∧D0≤(d:Int)+1∧∃ f,wrd (frm (O n)) d ts = .error f)):=j5
   have hXW:W.heap.size < wc.heap.size:=j3.1
   clear j1 j2 j3 j4 j5 H3 HS3 HUL
   have hXb:wc.heap.size≠b:=J2
   go_wp2_with fail
   go_loopw [11] (fun mv wr=>∃ (more:Bool) (us:List Tk) (D pa' why:Int) (v:Value) (ps:List (T × Value)),mv = .bool more∧BlkX wr wc.heap.size (tCall s []) v∧BlkX wr W.heap.size tz (.slice none 0 0)∧ExtB b W wr∧Rp w0 b wr us D pa' why∧us.length≤ts.length∧OwY wr (wc.heap.size+1) v ps∧ps.length≤20∧((more = true∧why = 0∧D = (d:Int)+1∧d+1≤40∧ps.length < m∧us.length≤n∧(∀ p ∈ ps,IsL wr (fun k=>wc.heap.size+1≤k∧v.ownBlock≠some k) p.2 p.1.l)∧(∃ f,us.length≤f∧docA (frm (O n)) a m (d+1) ts.tail.tail = chk a (docL (frm (O n)) m (d+1) f (ps.map Prod.fst) us))∧isSg [40] ts.tail = true)∨(more = false∧why = 0∧D = (d:Int)+1∧d+1≤40∧(∀ p ∈ ps,IsL wr (fun k=>wc.heap.size+1≤k∧v.ownBlock≠some k) p.2 p.1.l)∧docA (frm (O n)) a m (d+1) ts.tail.tail = chk a (.ok (ps.map Prod.fst,us))∧isSg [40] ts.tail = true)∨(why≠0∧(d:Int)≤D∧D≤(d:Int)+1∧∃ f,wrd (frm (O n)) d ts = .error f))) (fun _ wr=>muR b wr)
   case atStart =>
     have E4:Ext wc (wc.alloc (.cells #[.int .i64 8,.int .i64 0,.string (bs s),.int .i64 0,.int .i64 0,.int .i64 0,.bool false,.bool false,.int .i64 0,.int .i64 0,.bool false,.bool false,.slice none 0 0] 43)):=xr.alloc _
     refine ⟨true,us0,D0,pa0,why0,.slice none 0 0,[],rfl,?_,HJ.out.2.2.1.ext E4,HJ.out.2.2.2.alloc _,HJ.out.1.ext E4,HJ.out.2.1,OwY.nil _ _,by simp,?_⟩
     · exact blk13_top rfl xr
     · rcases HJ5.out with ⟨z1,z2,z3,z4,z5⟩ | z
       · refine .inl ⟨rfl,z1,z2,z3,by have:=HAM.out;show 0 < m;omega,by rw [z4];exact (HT2.out z5).2.2.2,fun p hp=>by simp at hp,⟨us0.length,Nat.le_refl _,?_⟩,z5⟩
         rw [z4];rfl
       · exact .inr (.inr z)
   case round =>
     clear HJ HJ5
     generalize wc.heap.size = X at *
     obtain ⟨more,us,D,pa',why,v,ps,rfl,i1,i2,i3,i4,i5,i6,i7,i8⟩:=hrel
     have HO:Hid (BlkX wr X (tCall s []) v∧BlkX wr W.heap.size tz (.slice none 0 0)∧ExtB b W wr∧Rp w0 b wr us D pa' why∧us.length≤ts.length∧OwY wr (X+1) v ps∧ps.length≤20):=⟨i1,i2,i3,i4,i5,i6,i7⟩
     have HRp:Hid (Rp w0 b wr us D pa' why):=i4
     have hXr:X < wr.heap.size:=i1.1
     cases more with
     | false =>
       have HST:Hid ((why = 0∧D = (d:Int)+1∧d+1≤40∧(∀ p ∈ ps,IsL wr (fun k=>X+1≤k∧v.ownBlock≠some k) p.2 p.1.l)∧docA (frm (O n)) a m (d+1) ts.tail.tail = chk a (.ok (ps.map Prod.fst,us))∧isSg [40] ts.tail = true)∨(why≠0∧(d:Int)≤D∧D≤(d:Int)+1∧∃ f,wrd (frm (O n)) d ts = .error f)):=by
         rcases i8 with ⟨z,_⟩ | ⟨_,z⟩ | z
         · cases z
         · exact .inl z
         · exact .inr z
       clear i1 i2 i3 i5 i6 i7 i8
       exact K0
     | true =>
       by_cases hw:why = 0
       · have w0':(why == 0) = true:=by rw [hw];rfl
         have HGA:Hid (D = (d:Int)+1∧d+1≤40∧ps.length < m∧us.length≤n∧(∀ p ∈ ps,IsL wr (fun k=>X+1≤k∧v.ownBlock≠some k) p.2 p.1.l)∧(∃ f,us.length≤f∧docA (frm (O n)) a m (d+1) ts.tail.tail = chk a (docL (frm (O n)) m (d+1) f (ps.map Prod.fst) us))∧isSg [40] ts.tail = true):=by
           rcases i8 with ⟨_,_,z⟩ | ⟨z,_⟩ | ⟨z,_⟩
           · exact z
           · cases z
           · exact absurd hw z
         have HW0:Hid (why = 0):=hw
         have e4:((d+1:Nat):Int) = D:=by have:=HGA.out.1;omega
         have i9:=i4
         rw [hw,← e4] at i9
         have c3:=rargument_any w0 b n HX.out wr us (d+1) pa' i9 HGA.out.2.2.2.1 HGA.out.2.1
         clear i9 e4
         clear hw i1 i2 i3 i5 i6 i7 i8
         obtain ⟨g0,g1,g2,g3,g4,g5,g6,tb,off,cc,nn,ii,all,u1,u2,u3,u4,u5,u6⟩:=i4
         obtain ⟨hz,⟨b0,b1,b2,b3,b4⟩,f0,f1,f2,f3,f4⟩:=u6
         clear g0 g1 g2 g3 g4 g5 g6 u1 u2 u3 u4 u5
         go_wp2_with fail
         refine c3.mono ?_
         intro e w4 h4
         obtain ⟨y,qq,lm,cm,rfl,hY⟩:=h4.form
         obtain ⟨ts2,d2,pa2,why2,R4,hd2,hd3,HY⟩:=hY.state
         have H4:Hid (BlkX w4 X (tCall s []) v∧BlkX w4 W.heap.size tz (.slice none 0 0)∧ExtB b W w4∧Rp w0 b w4 ts2 d2 pa2 why2∧OwY w4 (X+1) v ps∧ps.length≤20∧ExtB b wr w4):=⟨HO.out.1.extB hY.1 hXb,HO.out.2.1.extB hY.1 hgW,HO.out.2.2.1.trans hY.1,R4,HO.out.2.2.2.2.2.1.extB hY.1 J2,HO.out.2.2.2.2.2.2,hY.1⟩
         have HDD:Hid ((d:Int)≤d2∧d2≤(d:Int)+1):=⟨by omega,by omega⟩
         have hw4:X < w4.heap.size:=H4.out.1.1
         obtain ⟨pv,cv,hv⟩:=H4.out.2.2.2.2.1.form
         obtain ⟨pl,hpl⟩:∃ pl,ps.length = pl:=⟨_,rfl⟩
         have HPL:Hid (ps.length = pl):=hpl
         have hpl20:pl < m:=by have:=HGA.out.2.2.1;omega
         rw [hpl] at hv
         subst hv
         have HB0:=H4.out.1
         obtain ⟨zx,⟨x0,x1,x2,x3,x4,x5,x6,x7,x8,x9,x10,x11,x12⟩,xf0,xf1,xf2,xf3,xf4,xf5,xf6,xf7,xf8,xf9,xf10,xf11,xf12⟩:=HB0
         clear h4 hY c3 R4 hd2 hd3 hpl b0 b1 b2 b3 b4 f0 f1 f2 f3 f4 hz
         have E5:Ext w4 ((w4.alloc (.cells #[.int .i64 y.k,.int .i64 y.n,.string (bs y.s),.int .i64 y.e,.int .i64 y.r.1,.int .i64 y.r.2.1,.bool y.r.2.2.1,.bool y.r.2.2.2,.int .i64 y.q.1,.int .i64 y.q.2.1,.bool y.q.2.2.1,.bool y.q.2.2.2,.slice qq lm cm] 43)).alloc (.cells #[.int .i64 y.k,.int .i64 y.n,.string (bs y.s),.int .i64 y.e,.int .i64 y.r.1,.int .i64 y.r.2.1,.bool y.r.2.2.1,.bool y.r.2.2.2,.int .i64 y.q.1,.int .i64 y.q.2.1,.bool y.q.2.2.1,.bool y.q.2.2.2,.slice qq lm cm] 43)):=(xr.alloc _).alloc _
         have HB4:Hid (OwY ((w4.alloc (.cells #[.int .i64 y.k,.int .i64 y.n,.string (bs y.s),.int .i64 y.e,.int .i64 y.r.1,.int .i64 y.r.2.1,.bool y.r.2.2.1,.bool y.r.2.2.2,.int .i64 y.q.1,.int .i64 y.q.2.1,.bool y.q.2.2.1,.bool y.q.2.2.2,.slice qq lm cm] 43)).alloc (.cells #[.int .i64 y.k,.int .i64 y.n,.string (bs y.s),.int .i64 y.e,.int .i64 y.r.1,.int .i64 y.r.2.1,.bool y.r.2.2.1,.bool y.r.2.2.2,.int .i64 y.q.1,.int .i64 y.q.2.1,.bool y.q.2.2.1,.bool y.q.2.2.2,.slice qq lm cm] 43)) (X+1) (.slice pv pl cv) ps):=H4.out.2.2.2.2.1.extB (E5.toB b) J2
         have HE5:Hid (Ext w4 ((w4.alloc (.cells #[.int .i64 y.k,.int .i64 y.n,.string (bs y.s),.int .i64 y.e,.int .i64 y.r.1,.int .i64 y.r.2.1,.bool y.r.2.2.1,.bool y.r.2.2.2,.int .i64 y.q.1,.int .i64 y.q.2.1,.bool y.q.2.2.1,.bool y.q.2.2.2,.slice qq lm cm] 43)).alloc (.cells #[.int .i64 y.k,.int .i64 y.n,.string (bs y.s),.int .i64 y.e,.int .i64 y.r.1,.int .i64 y.r.2.1,.bool y.r.2.2.1,.bool y.r.2.2.2,.int .i64 y.q.1,.int .i64 y.q.2.1,.bool y.q.2.2.1,.bool y.q.2.2.2,.slice qq lm cm] 43))):=E5
         clear E5
         unfold aggX
         go_wp2_with (at_builtin;refine y_append _ (X+1) _ _ _ (w4.heap.size+1) ps y qq lm cm rfl rfl J26 (by first | rfl | (simp;rfl)) HB4.out ?cR (by rw [HPL.out];omega) J6 ?_)
         case cR =>
           intro j u hu
           have e9:(w4.alloc (.cells #[.int .i64 y.k,.int .i64 y.n,.string (bs y.s),.int .i64 y.e,.int .i64 y.r.1,.int .i64 y.r.2.1,.bool y.r.2.2.1,.bool y.r.2.2.2,.int .i64 y.q.1,.int .i64 y.q.2.1,.bool y.q.2.2.1,.bool y.q.2.2.2,.slice qq lm cm] 43)).heap.size = w4.heap.size+1:=J65
           rw [Addr.add_lit,← e9,cell_of_row _ _ _ _ _ (0,0) (new_top _ _),Nat.zero_add]
           rw [← hu,← Array.getElem?_toList];rfl
         intro v' w5 k1 k2 g5 cap5 hv5 k4
         subst hv5
         have HE6:=HE5.out
         have HIL:Hid (∀ z l,IsL w4 (fun k=>X+1≤k∧(Value.slice pv pl cv).ownBlock≠some k) z l→IsL w5 (fun k=>X+1≤k∧(Value.slice (some ⟨g5,0,none⟩) (ps.length+1) cap5).ownBlock≠some k) z l):=fun z l hz=>own_up k2 (fun k hk hv=>k4 k (by simp at hk;omega) hv) (hz.ext HE6)
         have HG:Hid (BlkX w5 X (tCall s []) (.slice pv pl cv)∧BlkX w5 W.heap.size tz (.slice none 0 0)∧ExtB b W w5∧Rp w0 b w5 ts2 d2 pa2 why2∧OwY w5 (X+1) (.slice (some ⟨g5,0,none⟩) (ps.length+1) cap5) (ps ++ [(y,.slice qq lm cm)])):=⟨(H4.out.1.ext HE6).grownY k2 HB4.out J2,(H4.out.2.1.ext HE6).grownY k2 HB4.out J2,grownBY k2 HB4.out (H4.out.2.2.1.trans (HE6.toB b)) J2,(H4.out.2.2.2.1.ext HE6).grownY k2 HB4.out J2 (by have:=HN.out.2.2;omega),k1⟩
         have HGD:Hid ((why2 = 0∧d2 = (d:Int)+1∧(∀ p ∈ ps ++ [(y,Value.slice qq lm cm)],IsL w5 (fun k=>X+1≤k∧(Value.slice (some ⟨g5,0,none⟩) (ps.length+1) cap5).ownBlock≠some k) p.2 p.1.l)∧ts2.length < us.length∧Nz ts2∧(pl+1 < m∧isSg [44] ts2 = true→∃ f,ts2.tail.length≤f∧docA (frm (O n)) a m (d+1) ts.tail.tail = chk a (docL (frm (O n)) m (d+1) f ((ps ++ [(y,Value.slice qq lm cm)]).map Prod.fst) ts2.tail))∧(¬ (pl+1 < m∧isSg [44] ts2 = true)→docA (frm (O n)) a m (d+1) ts.tail.tail = chk a (.ok ((ps ++ [(y,Value.slice qq lm cm)]).map Prod.fst,ts2))))∨(why2≠0∧(∃ f,wrd (frm (O n)) d ts = .error f)∧ts2.length≤us.length)):=by
           obtain ⟨z1,z2,z3,z4,z5,⟨f,z6,z7⟩,z8⟩:=HGA.out
           obtain ⟨f,rfl⟩:∃ k,f = k+1:=⟨f - 1,by have:=HRp.out.2.2.1.pos;omega⟩
           unfold docL at z7
           rcases HY.out with ⟨y1,y2,y3,y4⟩ | ⟨y1,⟨g,y2⟩,y3⟩
           · rw [y3] at z7
             dsimp only at z7
             rw [List.length_map,HPL.out] at z7
             have s2:=argm_sh (frm_sh (O_sh n)) (d+1) us HRp.out.2.2.1 z4 _ _ y3
             have s3:=s2.2
             have em:(ps ++ [(y,Value.slice qq lm cm)]).map Prod.fst = ps.map Prod.fst ++ [y]:=by rw [List.map_append];rfl
             refine .inl ⟨y1,by omega,?_,s3,s2.1,fun hc=>?_,fun hc=>?_⟩
             · intro p hp
               rcases List.mem_append.1 hp with hp | hp
               · exact HIL.out _ _ ((z5 p hp).extB H4.out.2.2.2.2.2.2 J56)
               · simp at hp;subst hp
                 refine HIL.out _ _ (y4.mono (fun k hk hs=>⟨by omega,?_⟩))
                 rcases HO.out.2.2.2.2.2.1.2 with ⟨q1,_⟩ | ⟨g',cap',cur,q1,_,q3,_⟩
                 · cases q1;simp [Value.ownBlock]
                 · cases q1;simp [Value.ownBlock];have:=heap_lt q3;omega
             · rw [if_pos hc] at z7
               rw [em]
               exact ⟨f,by have:=(s2.1.tail (by rw [(isSg_k hc.2).1];decide)).2;omega,z7⟩
             · rw [if_neg hc] at z7
               rw [em]
               exact z7
           · rw [y2] at z7
             exact .inr ⟨y1,HWR.out.1 z8 ((HAD.out z2 z8).err (e:=g) (by rw [z7];rfl)),y3⟩
         have hl5:(ps ++ [(y,Value.slice qq lm cm)]).length = pl+1:=by rw [List.length_append,HPL.out];rfl
         have HL5:Hid ((ps ++ [(y,Value.slice qq lm cm)]).length = pl+1):=hl5
         have hpl5:ps.length = pl:=HPL.out
         rw [hpl5] at HG HGD HIL
         rw [hpl5]
         have hw5:X < w5.heap.size:=HG.out.1.1
         have HB7:=HG.out.1
         clear zx x0 x1 x2 x3 x4 x5 x6 x7 x8 x9 x10 x11 x12 xf0 xf1 xf2 xf3 xf4 xf5 xf6 xf7 xf8 xf9 xf10 xf11 xf12
         obtain ⟨zx,⟨x0,x1,x2,x3,x4,x5,x6,x7,x8,x9,x10,x11,x12⟩,xf0,xf1,xf2,xf3,xf4,xf5,xf6,xf7,xf8,xf9,xf10,xf11,xf12⟩:=HB7
         clear k1 k2 k4 HE6 hl5 hpl5 HB4 HE5 HIL H4
         have HS:Hid (BlkX (w5.setCell ⟨X,12,none⟩ (.slice (some ⟨g5,0,none⟩) (pl+1) cap5)) X (tCall s []) (.slice (some ⟨g5,0,none⟩) (pl+1) cap5)∧BlkX (w5.setCell ⟨X,12,none⟩ (.slice (some ⟨g5,0,none⟩) (pl+1) cap5)) W.heap.size tz (.slice none 0 0)∧ExtB b W (w5.setCell ⟨X,12,none⟩ (.slice (some ⟨g5,0,none⟩) (pl+1) cap5))∧Rp w0 b (w5.setCell ⟨X,12,none⟩ (.slice (some ⟨g5,0,none⟩) (pl+1) cap5)) ts2 d2 pa2 why2∧OwY (w5.setCell ⟨X,12,none⟩ (.slice (some ⟨g5,0,none⟩) (pl+1) cap5)) (X+1) (.slice (some ⟨g5,0,none⟩) (pl+1) cap5) (ps ++ [(y,.slice qq lm cm)])):=⟨Blk13.put12 HG.out.1 _,Blk13.far1 HG.out.2.1 J2 12 _,HG.out.2.2.1.set (.inr (by show W.heap.size≤X;omega)) _,HG.out.2.2.2.1.far J2 (by have:=HN.out.2.2;omega) _,HG.out.2.2.2.2.set (by show X < X+1;omega) _⟩
         have HIS:Hid (∀ z l,IsL w5 (fun k=>X+1≤k∧(Value.slice (some ⟨g5,0,none⟩) (pl+1) cap5).ownBlock≠some k) z l→IsL (w5.setCell ⟨X,12,none⟩ (.slice (some ⟨g5,0,none⟩) (pl+1) cap5)) (fun k=>X+1≤k∧(Value.slice (some ⟨g5,0,none⟩) (pl+1) cap5).ownBlock≠some k) z l):=fun z l hz=>hz.keep (by simp [World.setCell]) (fun k hk _=>Below.heap_setCell _ _ _ _ J6) (fun _ h _=>h)
         have cC:=rcomma_any HS.out.2.2.2.1
         by_cases hlm:pl+1 < m
         · have hlmI:(pl:Int)+1 < (m:Int):=J2
           have HLM:Hid (pl+1 < m):=hlm
           clear hlm
           go_wp2_with fail
           refine cC.mono ?_
           rintro e w7 ⟨X7,D7⟩
           clear cC
           have H7:Hid (BlkX w7 X (tCall s []) (.slice (some ⟨g5,0,none⟩) (pl+1) cap5)∧BlkX w7 W.heap.size tz (.slice none 0 0)∧ExtB b W w7∧OwY w7 (X+1) (.slice (some ⟨g5,0,none⟩) (pl+1) cap5) (ps ++ [(y,.slice qq lm cm)])):=⟨HS.out.1.extB X7 hXb,HS.out.2.1.extB X7 hgW,HS.out.2.2.1.trans X7,HS.out.2.2.2.2.extB X7 J2⟩
           have HI7:Hid (∀ z l,IsL w5 (fun k=>X+1≤k∧(Value.slice (some ⟨g5,0,none⟩) (pl+1) cap5).ownBlock≠some k) z l→IsL w7 (fun k=>X+1≤k∧(Value.slice (some ⟨g5,0,none⟩) (pl+1) cap5).ownBlock≠some k) z l):=fun z l hz=>(HIS.out z l hz).extB X7 J56
           clear X7 zx x0 x1 x2 x3 x4 x5 x6 x7 x8 x9 x10 x11 x12 xf0 xf1 xf2 xf3 xf4 xf5 xf6 xf7 xf8 xf9 xf10 xf11 xf12
           rcases D7 with ⟨q1,rfl,q3⟩ | ⟨q1,rfl,q3⟩
           · have HQ:Hid (sgn ts2 why2 = [44]∧Rp w0 b w7 (nx ts2) d2 pa2 why2):=⟨q1,q3⟩
             clear q1 q3
             go_wp2_with fail
             go_roundw
             case rel =>
               have q1:=HQ.out.1
               unfold sgn at q1
               split at q1
               · rename_i h3
                 have hc:isSg [44] ts2 = true:=J124
                 rcases HGD.out with ⟨z1,z2,z3,z4,z5,z6,_⟩ | ⟨z1,_⟩
                 · have hn:=nx_tail z5 J48
                   have q3:=HQ.out.2
                   rw [hn] at q3
                   have tl:=(z5.tail J48).2
                   have u1:=HO.out.2.2.2.2.1
                   have u2:=HGA.out.2.2.2.1
                   exact ⟨true,ts2.tail,d2,pa2,why2,_,ps ++ [(y,.slice qq lm cm)],rfl,H7.out.1,H7.out.2.1,H7.out.2.2.1,q3,by omega,H7.out.2.2.2,by rw [HL5.out];omega,.inl ⟨rfl,z1,z2,HGA.out.2.1,by rw [HL5.out];exact HLM.out,by omega,fun p hp=>HI7.out _ _ (z3 p hp),z6 ⟨HLM.out,hc⟩,HGA.out.2.2.2.2.2.2⟩⟩
                 · exact absurd h3.1 z1
               · cases q1
             case measure =>
               have q1:=HQ.out.1
               unfold sgn at q1
               split at q1
               · rename_i h3
                 rcases HGD.out with ⟨z1,z2,z3,z4,z5,z6,_⟩ | ⟨z1,_⟩
                 · have hn:=nx_tail z5 J48
                   have tl:=(z5.tail J48).2
                   rw [HQ.out.2.mu,HRp.out.mu,if_pos HW0.out,hn]
                   split <;> omega
                 · exact absurd h3.1 z1
               · cases q1
           · have HQ:Hid (sgn ts2 why2≠[44]∧Rp w0 b w7 ts2 d2 pa2 why2):=⟨q1,q3⟩
             clear q1 q3
             go_wp2_with fail
             go_roundw
             case rel =>
               have u1:=HO.out.2.2.2.2.1
               rcases HGD.out with ⟨z1,z2,z3,z4,z5,_,z6⟩ | ⟨z1,z2,z3⟩
               · exact ⟨false,ts2,d2,pa2,why2,_,ps ++ [(y,.slice qq lm cm)],rfl,H7.out.1,H7.out.2.1,H7.out.2.2.1,HQ.out.2,by omega,H7.out.2.2.2,by rw [HL5.out];omega,.inr (.inl ⟨rfl,z1,z2,HGA.out.2.1,fun p hp=>HI7.out _ _ (z3 p hp),z6 (fun hc=>HQ.out.1 (by unfold sgn;rw [if_pos ⟨z1,(isSg_k hc.2).1⟩];exact (isSg_k hc.2).2)),HGA.out.2.2.2.2.2.2⟩)⟩
               · exact ⟨false,ts2,d2,pa2,why2,_,ps ++ [(y,.slice qq lm cm)],rfl,H7.out.1,H7.out.2.1,H7.out.2.2.1,HQ.out.2,by omega,H7.out.2.2.2,by rw [HL5.out];omega,.inr (.inr ⟨z1,HDD.out.1,HDD.out.2,z2⟩)⟩
             case measure =>
               rw [HQ.out.2.mu,HRp.out.mu,if_pos HW0.out]
               exact K150
         · have hlmI:¬ (pl:Int)+1 < (m:Int):=J2
           have HLM:Hid (¬ pl+1 < m):=hlm
           clear hlm cC
           go_wp2_with fail
           go_roundw
           case rel =>
             have u1:=HO.out.2.2.2.2.1
             rcases HGD.out with ⟨z1,z2,z3,z4,z5,_,z6⟩ | ⟨z1,z2,z3⟩
             · exact ⟨false,ts2,d2,pa2,why2,_,ps ++ [(y,.slice qq lm cm)],rfl,HS.out.1,HS.out.2.1,HS.out.2.2.1,HS.out.2.2.2.1,by omega,HS.out.2.2.2.2,by rw [HL5.out];omega,.inr (.inl ⟨rfl,z1,z2,HGA.out.2.1,fun p hp=>HIS.out _ _ (z3 p hp),z6 (fun hc=>HLM.out hc.1),HGA.out.2.2.2.2.2.2⟩)⟩
             · exact ⟨false,ts2,d2,pa2,why2,_,ps ++ [(y,.slice qq lm cm)],rfl,HS.out.1,HS.out.2.1,HS.out.2.2.1,HS.out.2.2.2.1,by omega,HS.out.2.2.2.2,by rw [HL5.out];omega,.inr (.inr ⟨z1,HDD.out.1,HDD.out.2,z2⟩)⟩
           case measure =>
             rw [HS.out.2.2.2.1.mu,HRp.out.mu,if_pos HW0.out]
             exact K150
       · have w0':(why == 0) = false:=J122
         have HST:Hid ((why = 0∧D = (d:Int)+1∧d+1≤40∧(∀ p ∈ ps,IsL wr (fun k=>X+1≤k∧v.ownBlock≠some k) p.2 p.1.l)∧docA (frm (O n)) a m (d+1) ts.tail.tail = chk a (.ok (ps.map Prod.fst,us))∧isSg [40] ts.tail = true)∨(why≠0∧(d:Int)≤D∧D≤(d:Int)+1∧∃ f,wrd (frm (O n)) d ts = .error f)):=by
           rcases i8 with ⟨_,z,_⟩ | ⟨z,_⟩ | z
           · exact absurd z hw
           · cases z
           · exact .inr z
         clear i1 i2 i3 i5 i6 i7 i8 hw
         exact K0
theorem word_all (w0:World) (b n:Nat) (hX:ExC w0 b n n):WdC w0 b n:=by
 intro W ts d pa h hts hd4 hk
 by_cases h1:(hd ts).2.2.1 = wTrue
 · exact word_true w0 b n hX W ts d pa h hts hd4 hk h1
 by_cases h2:(hd ts).2.2.1 = wFalse
 · exact word_false w0 b n hX W ts d pa h hts hd4 hk h2
 cases ho:okP (hd ts).2.2.1 with
 | true=>exact word_ref w0 b n hX W ts d pa h hts hd4 hk ho
 | false =>
   cases hkn:kno (hd ts).2.2.1 with
   | none=>exact word_none w0 b n hX W ts d pa h hts hd4 hk ho h1 h2 hkn
   | some q =>
     obtain ⟨a,m⟩:=q
     exact word_call w0 b n hX W ts d pa h hts hd4 hk a m hkn
theorem reader_all (w0:World) (b n:Nat):ExC w0 b n n:=exp_all w0 b n (prefix_all w0 b (fun n _ hX=>word_all w0 b n hX) n) n nrf
def kindN (c:UInt8):Int:=if dgB c then 1 else if letB c then 2 else 0
theorem qkind_any (c:UInt8) (w:World):Calls Tryz.prog 115 #[.int .u8 (c.toNat:Int)] w fun e w'=>e = .returned (.int .i64 (kindN c))∧w' = w:=by
 by_cases h1:(48:Int)≤c.toNat∧(c.toNat:Int)≤57
 · have H:Hid (kindN c = 1):=by show _ = _;unfold kindN;rw [if_pos];unfold dgB;simp;omega
   obtain ⟨g1,g2⟩:=h1
   exact K51
 have hd:dgB c = false:=by unfold dgB;simp;omega
 by_cases h2:(97:Int)≤c.toNat∧(c.toNat:Int)≤122
 · have H:Hid (kindN c = 2):=by show _ = _;unfold kindN;rw [hd,lt_yes (.inr h2)];rfl
   obtain ⟨g1,g2⟩:=h2
   have g3:(48:Int)≤c.toNat:=J2
   have g4:¬ (c.toNat:Int)≤57:=J2
   clear h1 hd
   exact K51
 by_cases h3:(65:Int)≤c.toNat∧(c.toNat:Int)≤90
 · have H:Hid (kindN c = 2):=by show _ = _;unfold kindN;rw [hd,lt_yes (.inl h3)];rfl
   obtain ⟨g1,g2⟩:=h3
   have g3:(48:Int)≤c.toNat:=J2
   have g4:¬ (c.toNat:Int)≤57:=J2
   have g5:¬ (97:Int)≤c.toNat:=J2
   clear h1 h2 hd
   exact K51
 have hl:=lt_no h3 h2
 by_cases h4:(c.toNat:Int) = 36
 · have H:Hid (kindN c = 2):=by show _ = _;unfold kindN;rw [hd,hl,h4];rfl
   clear h1 h2 h3 hd hl
   rw [h4]
   exact K51
 · have t4:((c.toNat:Int) == 36) = false:=J104
   have H:Hid (kindN c = 0):=by show _ = _;unfold kindN;rw [hd,hl,t4];rfl
   clear hd hl
   by_cases g1:(48:Int)≤c.toNat
   · have g2:¬ (c.toNat:Int)≤57:=J2
     by_cases g3:(97:Int)≤c.toNat
     · have g4:¬ (c.toNat:Int)≤122:=J2
       have g5:(65:Int)≤c.toNat:=J2
       have g6:¬ (c.toNat:Int)≤90:=J2
       clear h1 h2 h3
       exact K51
     · by_cases g5:(65:Int)≤c.toNat
       · have g6:¬ (c.toNat:Int)≤90:=J2
         clear h1 h2 h3
         exact K51
       · clear h1 h2 h3
         exact K51
   · have g3:¬ (97:Int)≤c.toNat:=J2
     have g5:¬ (65:Int)≤c.toNat:=J2
     clear h1 h2 h3
     exact K51
theorem pre_takew (p l:List UInt8):p.isPrefixOf l = (decide (p.length≤l.length) && (l.take p.length == p)):=by
 rw [Bool.eq_iff_iff,List.isPrefixOf_iff_prefix,List.prefix_iff_eq_take]
 simp
 constructor
 · intro h;exact ⟨by have:=congrArg List.length h;simp at this;omega,h.symm⟩
 · intro h;exact h.2.symm
theorem qis_any (s t:ByteArray) (k:Nat) (w:World) (hk:k≤s.size) (hs:s.size≤300) (ht:t.size≤10) :
   Calls Tryz.prog 118 #[.string s,.int .i64 (k:Int),.string t] w fun e w'=>e = .returned (.bool (t.data.toList.isPrefixOf (s.data.toList.drop k)))∧w' = w:=by
 have hl:=size_list s
 have hlt:=size_list t
 have hp:=pre_takew t.data.toList (s.data.toList.drop k)
 by_cases h:k+t.size≤s.size
 · have hI:(k:Int)+(t.size:Int)≤(s.size:Int):=J2
   have e1:(s.extract k (k+t.size)).toList = (s.data.toList.drop k).take t.data.toList.length:=by
     rw [sub_bs,ByteArray.toList_eq,hlt];rfl
   have H:Hid (t.data.toList.isPrefixOf (s.data.toList.drop k) = ((s.extract k (k+t.size)).toList == t.toList)):=by
     show _ = _
     rw [hp,e1,ByteArray.toList_eq,decide_eq_true J6];rfl
   obtain ⟨m,hm⟩:∃ m,k+t.size = m:=⟨_,rfl⟩
   have m0:(k:Int)+(t.size:Int) = (m:Int):=J2
   have m1:k≤m:=J2
   have m2:m≤s.size:=J2
   rw [hm] at H
   clear hp e1 hl hlt h hm hI
   have hI:(m:Int)≤(s.size:Int):=J2
   rw [H.out]
   go_enter func118,ntmps118
   exact K102
 · have hI:¬ (k:Int)+(t.size:Int)≤(s.size:Int):=J2
   have H:Hid (t.data.toList.isPrefixOf (s.data.toList.drop k) = false):=by
     show _ = _
     rw [hp,decide_eq_false J6];rfl
   clear hp hl hlt h
   rw [H.out]
   go_enter func118,ntmps118
   exact K102
theorem kind_one (c:UInt8):(kindN c == 1) = dgB c:=by
 unfold kindN;cases dgB c
 · cases letB c <;> rfl
 · rfl
theorem qdigits_any (s:ByteArray) (k:Nat) (w:World) (hk:k≤s.size) (hs:s.size≤300) :
   Calls Tryz.prog 163 #[.string s,.int .i64 (k:Int)] w fun e w'=>e = .returned (.int .i64 ((k+run dgB (s.data.toList.drop k):Nat):Int))∧w' = w:=by
 have hl:=size_list s
 have HS:Hid (s.data.toList.length = s.size):=hl
 clear hl
 go_enter func163,ntmps163
 go_wp2
 go_loop [1] (fun i=>∃ j:Nat,j≤s.size∧i = .int .i64 j∧k+run dgB (s.data.toList.drop k) = j+run dgB (s.data.toList.drop j)) (fun i=>s.size - (intOf i).toNat)
 case atStart=>exact ⟨k,hk,rfl,rfl⟩
 case round =>
   obtain ⟨j,hj,rfl,ha⟩:=hrel
   have HA:Hid (k+run dgB (s.data.toList.drop k) = j+run dgB (s.data.toList.drop j)):=ha
   clear ha hk
   by_cases hlt:j < s.size
   · have HT:Hid (run dgB (s.data.toList.drop j) = if dgB s[j] then run dgB (s.data.toList.drop (j+1))+1 else 0):=run_at dgB s.data.toList j (by have:=HS.out;omega)
     have c1:=fun W=>qkind_any s[j] W
     have k1:=kind_one s[j]
     cases hp:dgB s[j]
     · rw [hp] at k1
       have HP:Hid (dgB s[j] = false):=hp
       clear hp
       go_wp2_with fail
       refine (c1 _).mono ?_
       rintro e w1 ⟨rfl,rfl⟩
       go_wp2_with fail
       go_ret
       refine ⟨ret_int ?_,rfl⟩
       rw [HA.out,HT.out,HP.out];simp
     · rw [hp] at k1
       have HP:Hid (dgB s[j] = true):=hp
       clear hp
       go_wp2_with fail
       refine (c1 _).mono ?_
       rintro e w1 ⟨rfl,rfl⟩
       go_wp2_with fail
       go_round
       case rel=>exact ⟨j+1,by omega,by go_num,by rw [HA.out,HT.out,HP.out];simp;omega⟩
       case measure=>simp [intOf];omega
   · have HT:Hid (run dgB (s.data.toList.drop j) = 0):=run_off dgB s.data.toList j (by have:=HS.out;omega)
     go_wp2_with fail
     go_ret
     refine ⟨ret_int ?_,rfl⟩
     have h1:=HA.out
     have h2:=HT.out
     omega
def RxR (r:Except Int Wd) (k:Nat) (e:Ending):Prop :=
 match r with
 | .ok x=>e = .returned (.tuple #[.agg #[.int .i64 x.1,.int .i64 (k:Int),.string (bs x.2.1),.int .i64 x.2.2.1,.int .i64 x.2.2.2.1],.int .i64 ((k+x.2.2.2.2:Nat):Int),.int .i64 0])
 | .error c=>e = .returned (.tuple #[.agg #[.int .i64 0,.int .i64 0,.string ⟨#[]⟩,.int .i64 0,.int .i64 0],.int .i64 (k:Int),.int .i64 c])
theorem rx_fin (x:Wd) (k:Nat) (i:Int) (hi:i = ((k+x.2.2.2.2:Nat):Int)) :
   RxR (.ok x) k (.returned (.tuple #[.agg #[.int .i64 x.1,.int .i64 (k:Int),.string (bs x.2.1),.int .i64 x.2.2.1,.int .i64 x.2.2.2.1],.int .i64 i,.int .i64 0])):=by subst hi;rfl
theorem qnumber_any (s:ByteArray) (k:Nat) (w:World) (hk:k≤s.size) (hs:s.size≤300) :
   Calls Tryz.prog 116 #[.string s,.int .i64 (k:Int)] w fun e w'=>RxR (nuRL (s.data.toList.drop k)) k e∧Ext w w':=by
 have hl:=size_list s
 obtain ⟨l,hll⟩:∃ l,s.data.toList.drop k = l:=⟨_,rfl⟩
 have hlen:l.length = s.size - k:=by rw [← hll];simp [hl]
 have c1:=fun W=>qdigits_any s k W hk hs
 have hr:=runL_le dgB l
 rw [hll] at c1 ⊢
 have hn:=numE_le l
 have hng:=numE_ge l
 obtain ⟨m,hm⟩:∃ m,k+numE l = m:=⟨_,rfl⟩
 have m1:k≤m:=J2
 have m2:m≤s.size:=J2
 obtain ⟨q,hq⟩:∃ q,s.extract k m = q:=⟨_,rfl⟩
 have hqs:q.size≤300:=by rw [← hq,ByteArray.size_extract];omega
 have hqq:q.data.toList = l.take (numE l):=by rw [← hq,← hm,sub_bs,hll];rfl
 have c3:=fun W=>rparse_any q W J30
 rw [hqq] at c3
 have H0:Hid (rdK (l.take (numE l)) = 0→nuRL l = .error 4):=numR_0
 have H2:Hid (rdK (l.take (numE l)) = 2→nuRL l = .error 2):=numR_2
 have H1:Hid (rdK (l.take (numE l)) = 1→nuRL l = .ok (0,[],rdV (l.take (numE l)),0,numE l)):=numR_1
 have HM:Hid (k+numE l = m):=hm
 have HK:Hid (rdK (l.take (numE l)) = 0∨rdK (l.take (numE l)) = 1∨rdK (l.take (numE l)) = 2):=rdK_three _
 obtain ⟨K,hK⟩:∃ K,rdK (l.take (numE l)) = K:=⟨_,rfl⟩
 obtain ⟨V,hV⟩:∃ V,rdV (l.take (numE l)) = V:=⟨_,rfl⟩
 rw [hK] at c3 H0 H1 H2 HK
 rw [hV] at c3 H1
 obtain ⟨n1,hn1⟩:∃ n1,run dgB l = n1:=⟨_,rfl⟩
 obtain ⟨e1,he1⟩:∃ e1,k+n1 = e1:=⟨_,rfl⟩
 rw [hn1] at c1 hr hng
 rw [he1] at c1
 have e1a:k≤e1:=J2
 have e1b:e1≤s.size:=J2
 have hdr:s.data.toList.drop e1 = l.drop n1:=by rw [← hll,List.drop_drop];congr 1;omega
 have c2:=fun W=>qis_any s ⟨#[46]⟩ e1 W e1b hs J9
 rw [hdr] at c2
 have hdot:((⟨#[46]⟩:ByteArray).data.toList.isPrefixOf (l.drop n1)) = decide (l[n1]? = some 46):=by
   show List.isPrefixOf [46] (l.drop n1) = _
   rw [Bool.eq_iff_iff]
   rw [← List.head?_drop]
   cases l.drop n1 with
   | nil=>simp
   | cons c r=>simp [List.isPrefixOf];exact eq_comm
 rw [hdot] at c2
 have hE:numE l = if l[n1]? = some 46∧0 < run dgB (l.drop (n1+1)) then n1+1+run dgB (l.drop (n1+1)) else n1:=by unfold numE;rw [hn1]
 have wk:wrap64 ((e1:Int)+1) = ((e1+1:Nat):Int):=J72
 by_cases h1:l[n1]? = some 46
 · rw [decide_eq_true h1] at c2
   have hb:e1+1≤s.size:=by have:=(List.getElem?_eq_some_iff.mp h1).1;clear hE wk hdot;omega
   have c4:=fun W=>qdigits_any s (e1+1) W hb hs
   have hdd:s.data.toList.drop (e1+1) = l.drop (n1+1):=by rw [← hll,List.drop_drop];congr 1;omega
   rw [hdd] at c4
   by_cases h2:0 < run dgB (l.drop (n1+1))
   · rw [if_pos ⟨h1,h2⟩] at hE
     have hme:e1+1+run dgB (l.drop (n1+1)) = m:=J2
     rw [hme] at c4
     have g1:(e1:Int)+1 < (m:Int):=J2
     clear h1 h2 hdd hme hb
     clear hr hn hng hm hqq hK hV hn1 he1 hE hlen hl hll hk hdr hdot
     go_enter func116,ntmps116
     rcases HK.out with k0 | k0 | k0
     · subst k0
       have R0:Hid (nuRL l = .error 4):=H0.out rfl
       exact K188
     · subst k0
       have R0:Hid (nuRL l = .ok (0,[],V,0,numE l)):=H1.out rfl
       clear H0 H1 H2 HK
       go_wp2_with fail
       refine (c1 _).mono ?_
       rintro e w1 ⟨rfl,rfl⟩
       go_wp2_with fail
       refine (c2 _).mono ?_
       rintro e w2 ⟨rfl,rfl⟩
       go_wp2_with fail
       refine (c4 _).mono ?_
       rintro e w2 ⟨rfl,rfl⟩
       go_wp2_with fail
       refine (c4 _).mono ?_
       exact K34
     · subst k0
       have R0:Hid (nuRL l = .error 2):=H2.out rfl
       exact K188
   · rw [if_neg (fun h=>h2 h.2)] at hE
     have hme:m = e1:=J2
     have hme2:e1+1+run dgB (l.drop (n1+1)) = e1+1:=J2
     rw [hme2] at c4
     subst hme
     have g1:¬ (m:Int)+1 < (m:Int)+1:=J2
     clear h1 h2 hdd hme2 hb
     clear hr hn hng hm hqq hK hV hn1 hE hlen hl hll hk hdr hdot
     go_enter func116,ntmps116
     rcases HK.out with k0 | k0 | k0
     · subst k0
       have R0:Hid (nuRL l = .error 4):=H0.out rfl
       exact K193
     · subst k0
       have R0:Hid (nuRL l = .ok (0,[],V,0,numE l)):=H1.out rfl
       clear H0 H1 H2 HK
       go_wp2_with fail
       refine (c1 _).mono ?_
       rintro e w1 ⟨rfl,rfl⟩
       go_wp2_with fail
       refine (c2 _).mono ?_
       rintro e w2 ⟨rfl,rfl⟩
       go_wp2_with fail
       refine (c4 _).mono ?_
       exact K34
     · subst k0
       have R0:Hid (nuRL l = .error 2):=H2.out rfl
       exact K193
 · rw [decide_eq_false h1] at c2
   rw [if_neg (fun h=>h1 h.1)] at hE
   have hme:m = e1:=J2
   subst hme
   clear h1
   clear hr hn hng hm hqq hK hV hn1 hE hlen hl hll hk hdr hdot
   go_enter func116,ntmps116
   rcases HK.out with k0 | k0 | k0
   · subst k0
     have R0:Hid (nuRL l = .error 4):=H0.out rfl
     exact K201
   · subst k0
     have R0:Hid (nuRL l = .ok (0,[],V,0,numE l)):=H1.out rfl
     clear H0 H1 H2 HK
     go_wp2_with fail
     refine (c1 _).mono ?_
     rintro e w1 ⟨rfl,rfl⟩
     go_wp2_with fail
     refine (c2 _).mono ?_
     exact K34
   · subst k0
     have R0:Hid (nuRL l = .error 2):=H2.out rfl
     exact K201
def OwB (w:World) (base:Nat) (v:Value) (l:List UInt8):Prop:=(∃ g cap,v = .slice (some ⟨g,0,none⟩) l.length cap)∧w.ownsRow base 5 1 v l.length (Lib.byteCells l)
theorem OwB.alloc {w:World} {base:Nat} {v:Value} {l:List UInt8} (h:OwB w base v l) (o:Obj):OwB (w.alloc o) base v l:=⟨h.1,h.2.alloc o⟩
theorem OwB.conv {w:World} {base:Nat} {v:Value} {l:List UInt8} (h:OwB w base v l):(convert 189 9 v).run Tryz.prog w = .ok (.string (bs l)) w:=by
 obtain ⟨⟨g,cap,rfl⟩,h2⟩:=h
 exact run_convert_bytes_back w 189 9 5 ⟨g,0,none⟩ cap l Tryz.underlying189 Tryz.underlying5 Tryz.underlying9 (fun j hj=>h2.cells (g:=g) rfl j _ (by rw [gEq (by rw [Lib.byteCells_length];exact hj)];simp [Lib.byteCells]))
theorem owb_new (W:World) (base:Nat) (h:base≤W.heap.size):OwB (W.alloc (.cells #[] 5)) base (.slice (some ⟨W.heap.size,0,none⟩) 0 0) [] :=
 ⟨⟨_,_,rfl⟩,World.ownsRow_made W #[] 0 h J30 J65⟩
theorem ob_append {ops:Array Oper} {rest:List Oper} {o:Oper} {a:Act} {Q:Exit→Act→World→Prop} (w W:World) (base:Nat) (hbase:base = w.heap.size) (s x:Operand) (v:Value) (b:Nat) (l:List UInt8) (c:UInt8) (hgd:o.guard = none)
   (ho:o.op = .call { callee:=.builtin .append,args:=#[s,x],argTypes:=#[189,189] })
   (hs:a.eval s = v) (hx:a.eval x = .slice (some ⟨b,0,none⟩) 1 1) (hB:OwB W base v l) (hR:W.cell? ⟨b,0,none⟩ = some (.int .u8 (c.toNat:Int))) (hlen:l.length≤100000) (hE:Ext w W)
   (h:∀ v' W',OwB W' base v' (l ++ [c])→Ext w W'→wpList Tryz.prog ops Q rest (a.put o.dst v') W'):wpList Tryz.prog ops Q (o :: rest) a W:=by
 subst hbase
 obtain ⟨i,hi,hz,h1,h2⟩:=byte_info
 refine wpList_append_own_at W hgd s x 189 ho w.heap.size 5 i _ 1 1 Tryz.underlying189 hi hz h1 h2 rfl J9 v l.length (Lib.byteCells l) hs hB.2 ⟨b,0,none⟩ 1 1 [.int .u8 (c.toNat:Int)] hx rfl ?_ ?_ J30 J2 hE.size ?_
 · intro j u hj
   match j,hj with
   | 0,hj=>simp at hj;subst hj;rw [Addr.add_lit];exact hR
 · intro u hu;simp at hu;subst hu;rfl
 · intro v' W' h3 h4 _ _
   have e:Lib.byteCells l ++ [.int .u8 (c.toNat:Int)] = Lib.byteCells (l ++ [c]):=by simp [Lib.byteCells]
   rw [e] at h3
   have e2:(l ++ [c]).length = l.length+1:=J65
   refine h v' W' ⟨?_,by rw [e2];exact h3⟩ ⟨h4.os.trans hE.os,h4.tape.trans hE.tape,h4.output.trans hE.output,Nat.le_trans hE.size h4.size,fun k hk=>?_⟩
   · rw [e2]
     exact K86
   · refine (h4.block k (llL hk hE.size) (fun e=>?_)).trans (hE.block k hk)
     have:=(hB.2.lt k e.symm).1
     omega
theorem qtext_any (s:ByteArray) (k:Nat) (w:World) (hk:k < s.size) (hs:s.size≤300) :
   Calls Tryz.prog 117 #[.string s,.int .i64 (k:Int)] w fun e w'=>RxR (txtR (s.data.toList.drop k)) k e∧Ext w w':=by
 have hl:=size_list s
 obtain ⟨l,hll⟩:∃ l,s.data.toList = l:=⟨_,rfl⟩
 have HL:Hid (l.length = s.size):=by show _ = _;rw [← hll];exact hl
 have HA:Hid (∀ i (h:i < s.size) (h':i < l.length),l[i] = s[i]):=by intro i h h';subst hll;rfl
 have cI:∀ i W,i≤s.size→Calls Tryz.prog 118 #[.string s,.int .i64 (i:Int),.string ⟨#[34]⟩] W fun e w'=>e = .returned (.bool (decide ((l.drop i).head? = some 34)))∧w' = W:=by
   intro i W hi
   have h:=qis_any s ⟨#[34]⟩ i W hi hs J9
   rw [hll] at h
   have hdot:((⟨#[34]⟩:ByteArray).data.toList.isPrefixOf (l.drop i)) = decide ((l.drop i).head? = some 34):=by
     show List.isPrefixOf [34] (l.drop i) = _
     rw [Bool.eq_iff_iff]
     cases l.drop i with
     | nil=>simp
     | cons c r=>simp [List.isPrefixOf];exact eq_comm
   rwa [hdot] at h
 have HI:Hid (∀ i W,i≤s.size→Calls Tryz.prog 118 #[.string s,.int .i64 (i:Int),.string ⟨#[34]⟩] W fun e w'=>e = .returned (.bool (decide ((l.drop i).head? = some 34)))∧w' = W):=cI
 rw [hll]
 clear hl hll cI
 go_enter func117,ntmps117
 go_wp2_with fail
 go_loopw [7,8] (fun v i wr=>∃ (j:Nat) (acc:List UInt8),j≤s.size∧i = .int .i64 (j:Int)∧TxA l k j acc∧OwB wr (w.heap.size+1) v acc∧Ext (w.alloc (.cells #[.int .i64 0,.int .i64 0,.string ⟨#[]⟩,.int .i64 0,.int .i64 0] 91)) wr) (fun _ i _=>s.size - (intOf i).toNat)
 case atStart=>exact ⟨k+1,[],hk,by go_num,TxA.start l k,by have:=owb_new (w.alloc (.cells #[.int .i64 0,.int .i64 0,.string ⟨#[]⟩,.int .i64 0,.int .i64 0] 91)) _ nrf;simpa using this,xr.alloc _⟩
 case round =>
   obtain ⟨j,acc,hj,rfl,hT,hO,hE⟩:=hrel
   obtain ⟨⟨g,cap,rfl⟩,hO2⟩:=hO
   have HT:Hid (TxA l k j acc):=hT
   have HO:Hid (OwB wr (w.heap.size+1) (.slice (some ⟨g,0,none⟩) acc.length cap) acc):=⟨⟨g,cap,rfl⟩,hO2⟩
   have HE:Hid (Ext (w.alloc (.cells #[.int .i64 0,.int .i64 0,.string ⟨#[]⟩,.int .i64 0,.int .i64 0] 91)) wr):=hE
   have HC:Hid (acc.length≤1000):=by have:=hT.2.1;show _≤_;omega
   have HJ:Hid (k+1≤j):=hT.1
   clear hT hO2 hE
   by_cases hlt:j < s.size
   · have hltI:(j:Int) < (s.size:Int):=J2
     have wk:wrap64 ((j:Int)+1) = ((j+1:Nat):Int):=J72
     have hb:=byte_ne (c:=s[j]) 34 J2
     by_cases h1:s[j] = 34
     · have tb:(((s[j]).toNat:Int) != 34) = false:=by rw [bne,show (34:Int) = ((34:Nat):Int) from rfl,hb,h1];rfl
       have c1:=fun W=>HI.out (j+1) W hlt
       by_cases h2:(l.drop (j+1)).head? = some 34
       · rw [decide_eq_true h2] at c1
         have hlt2:j+1 < l.length:=by
           rw [List.head?_drop] at h2;exact (List.getElem?_eq_some_iff.mp h2).1
         have HX:Hid (TxA l k (j+1+1) (acc ++ [34])):=by
           rw [List.head?_drop,gEq hlt2] at h2
           exact HT.out.two hlt2 J64 (Option.some.inj h2)
         have hlt3:(j:Int)+1 < (s.size:Int):=by have:=HL.out;omega
         have HB:Hid (j+1+1≤s.size):=by have:=HL.out;show _≤_;omega
         clear hb h1 h2 hlt2
         go_wp2_with fail
         refine (c1 _).mono ?_
         rintro e w1 ⟨rfl,rfl⟩
         go_wp2_with (at_builtin;refine ob_append (w.alloc (.cells #[.int .i64 0,.int .i64 0,.string ⟨#[]⟩,.int .i64 0,.int .i64 0] 91)) _ (w.heap.size+1) J65 _ _ _ _ acc 34 rfl rfl J26 J26 (HO.out.alloc _) J65 (by have:=HC.out;omega) (HE.out.alloc _) ?_)
         intro v' w2 k1 k2
         have HO2:Hid (OwB w2 (w.heap.size+1) v' (acc ++ [34])∧Ext (w.alloc (.cells #[.int .i64 0,.int .i64 0,.string ⟨#[]⟩,.int .i64 0,.int .i64 0] 91)) w2):=⟨k1,k2⟩
         clear k1 k2
         go_wp2_with fail
         go_roundw
         case rel=>exact ⟨j+1+1,acc ++ [34],HB.out,by go_num,HX.out,HO2.out.1,HO2.out.2⟩
         case measure=>simp [intOf];omega
       · rw [decide_eq_false h2] at c1
         have HX:Hid (txtR (l.drop k) = .ok (1,acc,0,0,j+1 - k)):=HT.out.done (by have:=HL.out;omega) J64 h2
         have CV:Hid (∀ v,v = Value.slice (some ⟨g,0,none⟩) acc.length cap→(convert 189 9 v).run Tryz.prog wr = .ok (.string (bs acc)) wr):=by rintro v rfl;exact HO.out.conv
         clear hb h1 h2
         go_wp2_with fail
         refine (c1 _).mono ?_
         rintro e w1 ⟨rfl,rfl⟩
         have hcv:=CV.out _ rfl
         obtain ⟨q,hq⟩:∃ q,bs acc = q:=⟨_,rfl⟩
         rw [hq] at hcv
         have HQ:Hid (bs acc = q):=hq
         have B3:=blk5_top rfl HE.out
         have X3:=((Ext.refl w).alloc _).trans HE.out
         have D3:=B3
         obtain ⟨_,⟨b0,b1,b2,b3,b4⟩,f0,f1,f2,f3,f4⟩:=D3
         clear hq
         go_wp2_with fail
         refine fin5 _ (B3.set _ _ _ _ _) rfl J0 (fun g0 g1 g2 g3 g4=>by simp [results,results117,go_sem,g0,g1,g2,g3,g4];rfl) (fun h=>⟨?_,h⟩)
         rw [HX.out]
         rw [← HQ.out]
         exact rx_fin (1,acc,0,0,j+1 - k) k _ (by have:=HJ.out;simp;omega)
     · have tb:(((s[j]).toNat:Int) != 34) = true:=by rw [bne,show (34:Int) = ((34:Nat):Int) from rfl,hb];simpa using h1
       have HX:Hid (TxA l k (j+1) (acc ++ [s[j]])):=by
         have h3:j < l.length:=by have:=HL.out;omega
         have:=HT.out.one h3 J64
         rwa [HA.out j hlt] at this
       clear hb h1
       go_wp2_with (at_builtin;refine ob_append (w.alloc (.cells #[.int .i64 0,.int .i64 0,.string ⟨#[]⟩,.int .i64 0,.int .i64 0] 91)) _ (w.heap.size+1) J65 _ _ _ _ acc s[j] rfl rfl J26 J26 (HO.out.alloc _) J65 (by have:=HC.out;omega) (HE.out.alloc _) ?_)
       intro v' w2 k1 k2
       have HO2:Hid (OwB w2 (w.heap.size+1) v' (acc ++ [s[j]])∧Ext (w.alloc (.cells #[.int .i64 0,.int .i64 0,.string ⟨#[]⟩,.int .i64 0,.int .i64 0] 91)) w2):=⟨k1,k2⟩
       clear k1 k2
       go_wp2_with fail
       go_roundw
       case rel=>exact ⟨j+1,acc ++ [s[j]],by omega,by go_num,HX.out,HO2.out.1,HO2.out.2⟩
       case measure=>simp [intOf];omega
   · have hltI:¬ (j:Int) < (s.size:Int):=J2
     have HX:Hid (txtR (l.drop k) = .error 4):=HT.out.none (by have:=HL.out;omega)
     have B3:=blk5_top rfl HE.out
     have X3:=((Ext.refl w).alloc _).trans HE.out
     have D3:=B3
     obtain ⟨_,⟨b0,b1,b2,b3,b4⟩,f0,f1,f2,f3,f4⟩:=D3
     go_wp2_with fail
     refine fin5 _ (B3.set _ _ _ _ _) rfl J0 (fun g0 g1 g2 g3 g4=>by simp [results,results117,go_sem,g0,g1,g2,g3,g4];rfl) (fun h=>⟨?_,h⟩)
     rw [HX.out]
     exact rfl
end Go.Proofs.YtcfgbiaahangmaaGreatDoor
