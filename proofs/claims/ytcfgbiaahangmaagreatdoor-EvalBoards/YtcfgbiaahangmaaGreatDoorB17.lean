import Derived.Test.YtcfgbiaahangmaaGreatDoorB16
import Derived.Lib.OwnKind
import Derived.Lib.AppendStr
import Derived.Lib.AppendIntMem
import Derived.Lib.UnsafeStr
import Derived.Recover
set_option maxHeartbeats 2000000
set_option maxRecDepth 100000
namespace Go.Proofs.YtcfgbiaahangmaaGreatDoor
open Go.Proofs.Tryz
open Go.RowKit
def ArQ (W : World) (b : Bg) (e : Ending) (w' : World) : Prop:=∃ p' n' c',e = .returned (.agg #[.bool true,.int .i64 b.rows,.int .i64 b.cols,.slice p' n' c']) ∧ RdV w'.heap.size w' (.slice p' n' c') b.g.l ∧ Ext W w'
theorem rd_to {W W' : World} {v : Value} {l : List Rw} (h : RdV W.heap.size W v l) (e : Ext W W') : RdV W'.heap.size W' v l:=(h.low e).up e.size
theorem one_rd {W w' : World} {v : V} {T : TypeId} {b : Nat} (hb : b = W.heap.size) (E : Ext (W.alloc (.cells #[.int .i64 v.k,.int .i64 v.n,.string v.s,.int .i64 v.e] T)) w') : RdV w'.heap.size w' (.slice (some ⟨b,0,none⟩) 1 1) [v.rw]:=by
 obtain ⟨z,⟨k0,k1,k2,k3⟩,_⟩:=blk_top (b:=b) hb E
 refine ⟨_,_,rfl,Nat.le_refl _,.inr ⟨b,0,rfl,z,z,fun i r hr=>?_⟩⟩
 match i,hr with
 | 0,hr=>simp at hr;subst hr;exact ⟨k0,k1,k2,k3⟩
theorem xarea_any (l : List Bg) (i : Nat) (a : Bg) (ha : l[i]? = some a) (p : Option Addr) (n c : Nat) (W : World) (hF : FitB W (.slice p n c) l) (hN : Nm W) :
   Calls Tryz.prog 250 #[.slice p n c,.int .i64 (i : Int)] W (ArQ W (arOf a)):=by
 have hn:=hF.rd.len
 have hm:=hF.z
 have hlt : i < l.length:=(List.getElem?_eq_some_iff.1 ha).1
 have d1 : (i : Int) < (n : Int):=J2
 have d2 : (n : Int) ≤ 10000000000:=J2
 have c0:=xsingle_at hF hN ha
 have HF : Hid (FitB W (.slice p n c) l):=hF
 obtain ⟨b,off,lv,rfl,hb,hbW,⟨k0,k1,k2,k3⟩,hV⟩:=hF.rd.at ha
 obtain ⟨p',n',c',rfl,hn',hc'⟩:=hV.form
 have HV : Hid (RdV W.heap.size W (.slice p' n' c') a.g.l):=hV
 clear hF hn hm hlt hV hn' hc' hb
 cases har : a.g.area with
 | true =>
   have HX : arOf a = a:=by unfold arOf;rw [har];rfl
   rw [har] at k0
   rw [HX]
   clear HX har c0
   go_enter func250,ntmps250
   go_wp2_with fail
   simp [bodyPost,results,results250,go_sem]
   exact ⟨p',n',c',rfl,rd_to HV.out (xr.alloc _),xr.alloc _⟩
 | false =>
   have HX : arOf a = ⟨⟨true,[(sgl a).rw]⟩,1,1⟩:=by unfold arOf;rw [har];rfl
   rw [har] at k0
   rw [HX]
   generalize sgl a = v at *
   clear HX har
   go_enter func250,ntmps250
   go_wp2_with fail
   refine (c0 _ (xr.alloc _)).mono ?_
   rintro e w1 ⟨rfl,E1⟩
   have B1:=blk_top (b:=W.heap.size) J58 E1
   have HB : Hid (Blk w1 W.heap.size (.bool false) (.int .i64 0) (.int .i64 0) (.slice none 0 0) ∧ Ext W w1):=⟨B1,(xr.alloc _).trans E1⟩
   obtain ⟨z,⟨b0,b1,b2,b3⟩,f0,f1,f2,f3⟩:=B1
   clear E1 c0 k0 k1 k2 k3 HV hbW
   go_wp2_with fail
   have X2 : Ext W (((((w1.setCell ⟨W.heap.size,0,none⟩ (.bool true)).setCell ⟨W.heap.size,1,none⟩ (.int .i64 1)).setCell ⟨W.heap.size,2,none⟩ (.int .i64 1)).setCell ⟨W.heap.size,3,none⟩ (.slice (some ⟨w1.heap.size,0,none⟩) 1 1)).alloc (.cells #[.int .i64 v.k,.int .i64 v.n,.string v.s,.int .i64 v.e] 33)):=((((HB.out.2.setCell nrf _).setCell nrf _).setCell nrf _).setCell nrf _).alloc _
   exact finB (b:=W.heap.size) (w:=W) ((HB.out.1.set _ _ _ _).al _) rfl X2 (fun g0 g1 g2 g3=>by simp [results,results250,go_sem,g0,g1,g2,g3]) (fun h=>⟨_,_,_,rfl,one_rd J58 xr,h⟩)
theorem xarea_at {l : List Bg} {i : Nat} {a : Bg} {p : Option Addr} {n c : Nat} {W : World} (hF : FitB W (.slice p n c) l) (hN : Nm W) (ha : l[i]? = some a) (W' : World) (e : Ext W W') :
   Calls Tryz.prog 250 #[.slice p n c,.int .i64 (i : Int)] W' (ArQ W' (arOf a)):=xarea_any l i a ha p n c W' (hF.ext e) (hN.ext e)
theorem whR_bd {v : V} {x : Int} (hv : v.ok) (h : whR v = .ok x) : -1000000000000000 ≤ x ∧ x ≤ 1000000000000000:=by
 unfold whR at h
 cases hn : nuR v with
 | error e=>rw [hn] at h;cases h
 | ok n =>
   rw [hn] at h
   obtain ⟨⟨h1,h2⟩,_⟩:=nuR_can hv hn
   cases h
   unfold whN
   omega
theorem xpicked_any (l : List Bg) (a0 a1 : Bg) (h0 : l[0]? = some a0) (h1 : l[1]? = some a1) (p : Option Addr) (n c : Nat) (W : World) (hF : FitB W (.slice p n c) l) (hN : Nm W) :
   Calls Tryz.prog 199 #[.slice p n c] W fun e w'=>RzQ Rw.dat (xIndex l) e ∧ Ext W w':=by
 have o1:=(At.mk hF hN h1).ok
 cases ht : whR (sgl a1) with
 | error x =>
   have HX : xIndex l = .error x:=by unfold xIndex;rw [sg_of h1,ht]
   rw [HX]
   have c0:=xwhole_no hF hN h1 ht
   clear HX ht
   go_enter func199,ntmps199
   exact K28
 | ok row =>
   have c0:=xwhole_ok hF hN h1 ht
   have br:=whR_bd o1 ht
   cases hu : whO l 2 with
   | error x =>
     have HX : xIndex l = .error x:=by unfold xIndex;rw [sg_of h1,ht,hu]
     rw [HX]
     have c1:=xone_no hF hN hu
     clear HX ht hu
     go_enter func199,ntmps199
     go_wp2_with fail
     refine (c0 _ (xr.alloc _)).mono ?_
     rintro e w1 ⟨rfl,E1⟩
     have B1 : Hid (Ext W w1):=(xr.alloc _).trans E1
     clear E1
     go_wp2_with fail
     refine (c1 _ B1.out).mono ?_
     rintro e w2 ⟨rfl,E2⟩
     exact ⟨rfl,rfl,B1.out.trans E2⟩
   | ok col =>
     have c1:=xone_ok hF hN hu
     have bc : -1000000000000000 ≤ col ∧ col ≤ 1000000000000000:=by
       unfold whO at hu
       split at hu
       · cases hu;omega
       · exact whR_bd (hF.ok 2) hu
     have c2:=xarea_at hF hN h0
     have HX : xIndex l = pkR (arOf a0) row col:=by unfold xIndex;rw [sg_of h1,ht,hu,h0]
     rw [HX]
     have hR:=hF.r a0 (List.mem_of_getElem? h0)
     have hL : (arOf a0).g.l.length ≤ 10000000000 ∧ I64 (arOf a0).rows ∧ I64 (arOf a0).cols:=by
       unfold arOf
       split
       · rename_i har
         refine ⟨?_,hR⟩
         have h3:=seen_le (l:=gsOf l) (j:=0) (a:=a0.g) (by unfold gsOf;rw [List.getElem?_map,h0];rfl)
         have h4 : (seen1 a0.g).length = a0.g.l.length:=by unfold seen1;rw [if_pos har];simp
         have:=hF.s
         omega
       · refine ⟨?_,⟨?_,?_⟩,⟨?_,?_⟩⟩ <;> simp
     generalize arOf a0 = b at *
     obtain ⟨⟨ar,bl⟩,R,C⟩:=b
     simp only [] at hL HX
     obtain ⟨hL,⟨r1,r2⟩,⟨s1,s2⟩⟩:=hL
     have HP : pkR ⟨⟨ar,bl⟩,R,C⟩ row col = if row < 1 ∨ row > R ∨ col < 1 ∨ col > C ∨ col > (bl.length : Int) then .error 1 else if row - 1 > ((bl.length : Int) - col) / C then .error 1 else match bl[((row - 1) * C + col - 1).toNat]? with | some r=>.ok r | none=>.error 1:=rfl
     rw [HP]
     clear HX HP ht hu hR o1 hF hN h0 h1
     obtain ⟨m,hm⟩ : ∃ m,bl.length = m:=⟨_,rfl⟩
     rw [hm] at hL ⊢
     have HL : Hid (bl.length = m):=hm
     have C2 : ∀ W',Ext W W' → Calls Tryz.prog 250 #[.slice p n c,.int .i64 0] W' fun e w'=>∃ p' c',e = .returned (.agg #[.bool true,.int .i64 R,.int .i64 C,.slice p' m c']) ∧ RdV w'.heap.size w' (.slice p' m c') bl ∧ Ext W' w':=fun W' e=>(c2 W' e).mono (fun e w' h=>by
       obtain ⟨p',n',c',h1,h2,h3⟩:=h
       have h4:=h2.len
       simp only [] at h4
       rw [hm] at h4
       subst h4
       exact ⟨p',c',h1,h2,h3⟩)
     clear c2 hm
     obtain ⟨b1,b2⟩:=br
     obtain ⟨b3,b4⟩:=bc
     have mI : (m : Int) ≤ 10000000000:=J2
     by_cases t1 : row < 1
     · rw [if_pos (.inl t1)]
       exact K5
     by_cases t2 : row > R
     · rw [if_pos (.inr (.inl t2))]
       exact K5
     by_cases t3 : col < 1
     · rw [if_pos (.inr (.inr (.inl t3)))]
       exact K5
     by_cases t4 : col > C
     · rw [if_pos (.inr (.inr (.inr (.inl t4))))]
       exact K5
     by_cases t5 : col > (m : Int)
     · rw [if_pos (.inr (.inr (.inr (.inr (t5)))))]
       exact K5
     rw [if_neg J2]
     have u1 : 1 ≤ C:=J2
     have u2 : 0 ≤ (m : Int) - col:=J2
     have ht : ((m : Int) - col).tdiv C = ((m : Int) - col) / C:=Int.tdiv_eq_ediv_of_nonneg u2
     have u3 : 0 ≤ ((m : Int) - col) / C:=Int.ediv_nonneg u2 J2
     have u4 : ((m : Int) - col) / C ≤ (m : Int) - col:=Int.ediv_le_self C u2
     have HM : Hid (row - 1 ≤ ((m : Int) - col) / C → (row - 1) * C ≤ (m : Int) - col):=fun h=>Int.le_trans (Int.mul_le_mul_of_nonneg_right h J2) (Int.ediv_mul_le _ J2)
     generalize ((m : Int) - col) / C = q at *
     have e0 : (C == 0) = false:=J7
     have wk1 : wrap64 (row - 1) = row - 1:=J65
     have wk2 : wrap64 ((m : Int) - col) = (m : Int) - col:=J65
     by_cases t6 : row - 1 > q
     · rw [if_pos t6]
       exact K5
     · rw [if_neg t6]
       have v1:=HM.out J2
       have v2 : 0 ≤ (row - 1) * C:=Int.mul_nonneg J2 J2
       obtain ⟨M,hM⟩ : ∃ M,(row - 1) * C = M:=⟨_,rfl⟩
       rw [hM] at v1 v2 ⊢
       obtain ⟨j,hj⟩ : ∃ j : Nat,M + col - 1 = (j : Int):=⟨(M + col - 1).toNat,by omega⟩
       have hjm : j < m:=J2
       have hjI : (j : Int) < (m : Int):=J2
       have wk3 : wrap64 M = M:=J65
       have wk4 : wrap64 (M + col) = M + col:=J65
       have wk5 : wrap64 (M + col - 1) = (j : Int):=by rw [hj];unfold wrap64;omega
       have hjr : ∃ r,bl[j]? = some r:=⟨bl[j]'(by have:=HL.out;omega),gEq _⟩
       obtain ⟨r,hr⟩:=hjr
       rw [show (M + col - 1).toNat = j by omega,hr]
       have HJ : Hid (bl[j]? = some r ∧ j < bl.length):=⟨hr,by have:=HL.out;omega⟩
       clear HM HL hr
       go_enter func199,ntmps199
       go_wp2_with fail
       refine (c0 _ (xr.alloc _)).mono ?_
       rintro e w1 ⟨rfl,E1⟩
       have B1 : Hid (Blk w1 W.heap.size (.int .i64 0) (.int .i64 0) (.string ⟨#[]⟩) (.int .i64 0) ∧ Ext W w1):=⟨blk_top J58 E1,(xr.alloc _).trans E1⟩
       clear E1
       go_wp2_with fail
       refine (c1 _ B1.out.2).mono ?_
       rintro e w2 ⟨rfl,E2⟩
       have B2 : Hid (Blk w2 W.heap.size (.int .i64 0) (.int .i64 0) (.string ⟨#[]⟩) (.int .i64 0) ∧ Ext W w2):=⟨B1.out.1.ext E2,B1.out.2.trans E2⟩
       clear E2
       go_wp2_with fail
       refine (C2 _ B2.out.2).mono ?_
       rintro e w3 ⟨p',c',rfl,hV,E3⟩
       have B3 : Hid ((Blk w3 W.heap.size (.int .i64 0) (.int .i64 0) (.string ⟨#[]⟩) (.int .i64 0) ∧ Ext W w3) ∧ RdV w3.heap.size w3 (.slice p' m c') bl):=⟨⟨B2.out.1.ext E3,B2.out.2.trans E3⟩,hV⟩
       clear E3 hV
       obtain ⟨bb,off,r',rfl,hr',hbb,hbW,k0,k1,k2,k3⟩:=B3.out.2.at HJ.out.2
       rw [HJ.out.1] at hr'
       cases hr'
       obtain ⟨z,⟨g0,g1,g2,g3⟩,f0,f1,f2,f3⟩:=B3.out.1.1
       clear hbb
       go_wp2_with fail
       have X2 : Ext W (((((w3.setCell ⟨W.heap.size,0,none⟩ (.int .i64 r.k)).setCell ⟨W.heap.size,1,none⟩ (.int .i64 r.n)).setCell ⟨W.heap.size,2,none⟩ (.string r.s)).setCell ⟨W.heap.size,3,none⟩ (.int .i64 r.e)).alloc (.cells #[.bool true,.int .i64 R,.int .i64 C,.slice (some ⟨bb,off,none⟩) m c'] 113)):=((((B3.out.1.2.setCell nrf _).setCell nrf _).setCell nrf _).setCell nrf _).alloc _
       exact finB (b:=W.heap.size) (w:=W) ((B3.out.1.1.set _ _ _ _).al _) rfl X2 (fun g0 g1 g2 g3=>by simp [results,results199,go_sem,g0,g1,g2,g3]) (fun h=>⟨rfl,h⟩)
theorem sb_info : ∃ j,Tryz.prog.info? 225 = some j ∧ j.size = 2:=by
 have h : (Tryz.prog.info? 225).map (fun i=>i.size) = some 2:=J3
 obtain ⟨j,h1,h2⟩:=Option.map_eq_some_iff.1 h
 exact ⟨j,h1,h2⟩
theorem sb_byte : ∃ i,Tryz.prog.info? 5 = some i ∧ i.zero = some (.int .u8 0) ∧ i.size = 1 ∧ i.bytes = 1:=by
 exact K92
theorem sb_used (b : Nat) (w : World) (h0 : w.cell? ⟨b,0,none⟩ = some (.pointer (some ⟨b,0,none⟩))) :
   Calls Tryz.prog 271 #[.pointer (some ⟨b,0,none⟩)] w fun e w'=>e = .returned (.tuple #[]) ∧ w' = w:=by
 obtain ⟨j,hj,_⟩:=sb_info
 go_enter func271,ntmps271
 go_wp2
 rw [Lib.run_neq_ptr_same w _ Tryz.underlying223 hj]
 go_wp2
 go_end0
 exact ⟨rfl,rfl⟩
def BuS (w0 : World) (b : Nat) (l : List UInt8) (W : World) : Prop:=Ext w0 W ∧ Lib.IsBuilder 225 5 w0.heap.size b (Lib.byteCells l) W
def OkS9 (b : Nat) (w w' : World) : Prop:=Lib.OthersKept 5 (some b) w w' ∧ w.heap.size ≤ w'.heap.size
theorem OkS9.trans {b : Nat} {x y z : World} (h : OkS9 b x y) (k : OkS9 b y z) : OkS9 b x z:=⟨h.1.trans k.1,Nat.le_trans h.2 k.2⟩
theorem OkS9.refl (b : Nat) (w : World) : OkS9 b w w:=⟨Lib.OthersKept.refl _ _ _,Nat.le_refl _⟩
theorem Ext.toKS {w w' : World} (h : Ext w w') (b : Nat) : OkS9 b w w' :=
 ⟨fun k _ hk _ _=>(h.block k (Array.getElem?_eq_some_iff.1 hk).1).trans hk,h.size⟩
theorem BuS.ext {w0 W W' : World} {b : Nat} {l : List UInt8} (h : BuS w0 b l W) (e : Ext W W') : BuS w0 b l W':=by
 refine ⟨h.1.trans e,?_⟩
 have one : ∀ p,Lib.BuilderAt 225 5 w0.heap.size b p (Lib.byteCells l) W → Lib.BuilderAt 225 5 w0.heap.size b p (Lib.byteCells l) W':=by
   rintro p ⟨hB,v,hb,hown,hne⟩
   refine ⟨hB,v,(e.block b (Array.getElem?_eq_some_iff.1 hb).1).trans hb,⟨hown.1,?_⟩,hne⟩
   rcases hown.2 with h | ⟨g,cap,cur,hv,hbg,hg,rest⟩
   · exact .inl h
   · exact .inr ⟨g,cap,cur,hv,hbg,(e.block g (Array.getElem?_eq_some_iff.1 hg).1).trans hg,rest⟩
 exact h.2.imp (one _) (one _)
theorem sb_lies : liesAt Tryz.prog Tryz.prog.depth 225 (2 / Tryz.prog.cellsOf 225) 0 225 1 = true:=J3
theorem scheck_new (b : Nat) (w : World) (h0 : w.cell? ⟨b,0,none⟩ = some (.pointer none)) (hsh : w.shape? b = some (225,2)) (hfz : w.frozen? ⟨b,0,none⟩ = false) :
   Calls Tryz.prog 271 #[.pointer (some ⟨b,0,none⟩)] w fun e w'=>e = .returned (.tuple #[]) ∧ w' = w.setCell ⟨b,0,none⟩ (.pointer (some ⟨b,0,none⟩)):=by
 obtain ⟨j,hj,hjs⟩:=sb_info
 have q1:=Lib.run_to_unsafe (P:=Tryz.prog) w ⟨b,0,none⟩ Tryz.underlying223 Tryz.underlying257 hj J2 hsh (Nat.zero_lt_succ 1)
 have q3:=Lib.run_from_unsafe (P:=Tryz.prog) w ⟨b,0,none⟩ Tryz.underlying257 Tryz.underlying223 hj hsh sb_lies
 have q2:=run_callFunc_extern (P:=Tryz.prog) func283 J3 J3 J3 (e:=Extern.AbiNoEscape.same) J3 #[.pointer (some ⟨b,0,none⟩)] w
 rw [Lib.run_noEscape] at q2
 go_enter func271,ntmps271
 go_wp2
 go_end0
 exact ⟨rfl,rfl⟩
theorem scheck_any (B b : Nat) (l : List Value) (w : World) (h : Lib.IsBuilder 225 5 B b l w) :
   Calls Tryz.prog 271 #[.pointer (some ⟨b,0,none⟩)] w fun e w'=>e = .returned (.tuple #[]) ∧ Lib.BuilderAt 225 5 B b (.pointer (some ⟨b,0,none⟩)) l w' ∧ Below B w w' ∧ Lib.OthersKept 5 (some b) w w':=by
 rcases h with h | h
 · refine (scheck_new b w h.cell0 h.shape h.frozen0).mono ?_
   rintro e w' ⟨rfl,rfl⟩
   exact ⟨rfl,h.used _,(Below.refl B w).setCell (p:=⟨b,0,none⟩) h.1 _,(Lib.OthersKept.refl _ _ w).setCell ⟨b,0,none⟩ rfl _⟩
 · refine (sb_used b w h.cell0).mono ?_
   rintro e w' ⟨rfl,rfl⟩
   exact ⟨rfl,h,Below.refl B _,Lib.OthersKept.refl _ _ _⟩
theorem swrite_any (w0 : World) (b : Nat) (l : List UInt8) (s : ByteArray) (w : World) (hBu : BuS w0 b l w) (hlen : l.length ≤ 100000000) (hs : s.size ≤ 100000000) :
   Calls Tryz.prog 240 #[.pointer (some ⟨b,0,none⟩),.string s] w fun e w'=>e = .returned (.tuple #[.int .i64 s.size,.nilIface]) ∧ BuS w0 b (l ++ s.data.toList) w' ∧ OkS9 b w w':=by
 obtain ⟨i,hi,hz,h1,h2⟩:=sb_byte
 obtain ⟨hE0,h⟩:=hBu
 have HE0 : Hid (Ext w0 w):=hE0
 have hBw : w0.heap.size ≤ w.heap.size:=hE0.size
 obtain ⟨B,hBdef⟩ : ∃ B,w0.heap.size = B:=⟨_,rfl⟩
 rw [hBdef] at h hBw
 have HB0 : Hid (w0.heap.size = B):=hBdef
 clear hBdef hE0
 have c0:=fun W h=>scheck_any B b (Lib.byteCells l) W h
 have hbl : (Lib.byteCells l).length = l.length:=by simp [Lib.byteCells]
 have hbs : Hid (Lib.byteCells (l ++ s.data.toList) = Lib.byteCells l ++ Lib.strCells s):=by show _ = _;simp [Lib.byteCells,Lib.strCells]
 rw [← hbl] at hlen
 clear hbl
 obtain ⟨bl,hbl⟩ : ∃ bl,Lib.byteCells l = bl:=⟨_,rfl⟩
 rw [hbl] at h c0 hbs hlen
 clear hbl
 go_enter func240,ntmps240
 go_wp2_with fail
 refine (c0 _ h).mono ?_
 rintro e w1 ⟨rfl,⟨hB,v,hb,hown,hne⟩,hw1,hk1⟩
 have d0 : w1.cell? ⟨b,0,none⟩ = some (.pointer (some ⟨b,0,none⟩)):=J83
 have d1 : w1.cell? ⟨b,1,none⟩ = some v:=J83
 have hlt : b < w1.heap.size:=Lib.BuilderAt.lt ⟨hB,v,hb,hown,hne⟩
 have HO : Hid (w1.ownsRow B 5 1 v bl.length bl):=hown
 have HS:=hw1.size
 go_wp2_with (at_builtin;refine Lib.wpList_append_own_string _ rfl _ _ 189 9 rfl B 5 i Tryz.underlying189 Tryz.underlying9 hi hz h1 h2 _ _ _ rfl HO.out s rfl ?c3 ?c4 ?c5 ?_)
 case c3=>unfold maxLen;omega
 case c4=>omega
 case c5=>omega
 intro v' w2 hown' hg _
 have hb2 : w2.heap[b]? = some (.cells #[.pointer (some ⟨b,0,none⟩),v] 225 (0,0)):=by
   rw [hg.block b hlt (fun e=>hne e.symm)]
   exact hb
 have d2 : w2.cell? ⟨b,0,none⟩ = some (.pointer (some ⟨b,0,none⟩)):=by rw [Lib.cell_of_heap hb2];rfl
 have d3 : w2.cell? ⟨b,1,none⟩ = some v:=by rw [Lib.cell_of_heap hb2];rfl
 have f3 : w2.frozen? ⟨b,1,none⟩ = false:=Lib.frozen_of_heap hb2 1
 obtain ⟨ao,n',cap,rfl⟩ : ∃ ao n' cap,v' = .slice ao n' cap:=by
   rcases hown'.2 with ⟨hv,_⟩ | ⟨g,cap,cur,hv,_⟩
   · exact ⟨_,_,_,hv⟩
   · exact ⟨_,_,_,hv⟩
 go_wp2
 go_ret2
 have hbel : Below B w (w2.setCell ⟨b,1,none⟩ (.slice ao n' cap)):=(hw1.grown hg J2 (fun k hk=>(hown.lt k hk).1)).setCell (p:=⟨b,1,none⟩) hB _
 refine ⟨rfl,⟨?_,?_⟩,?_,hbel.size⟩
 · show Below w0.heap.size w0 _
   rw [HB0.out]
   have:=HE0.out
   unfold Ext at this
   rw [HB0.out] at this
   exact Below.trans this hbel
 · rw [HB0.out,hbs.out]
   exact .inr (Lib.BuilderAt.put hB hb2 (by simpa [Lib.strCells_length] using hown') J9)
 · exact (hk1.grown hg (Lib.ownsRow_kind hown)).setCell ⟨b,1,none⟩ rfl _
theorem text_any (x : V) (a : Bool) (W : World) (hT : Tab W) (hN : Nm W) (hx : x.ok) : Calls Tryz.prog 237 #[x.dat,.bool a] W fun e w'=>e = .returned (texF x a).dat ∧ Ext W w':=by
 have c0:=fun W t h=>vtotext_any x.k x.n x.s x.e W (nm_of x hx).2 t h
 rw [(nm_of x hx).1] at c0
 have H : Hid (texF x a = x.toText):=rfl
 rw [dat_eq x]
 obtain ⟨q0,q1,q2,q3,hq⟩:=dat4 x.toText
 rw [hq] at c0
 have HQ : Hid (x.toText.dat = .agg #[.int .i64 q0,.int .i64 q1,.string q2,.int .i64 q3]):=hq
 clear hq hx
 generalize x.k = xk at *
 generalize x.n = xn at *
 generalize x.s = xs at *
 generalize x.e = xe at *
 go_enter func237,ntmps237
 go_wp2_with fail
 refine (c0 _ (hT.ext ((xr.alloc _).alloc _)) (hN.ext ((xr.alloc _).alloc _))).mono ?_
 rintro e w1 ⟨rfl,E1⟩
 obtain ⟨z,⟨k0,k1,k2,k3⟩,f0,f1,f2,f3⟩:=blk_top (b:=W.heap.size + 1) J58 E1
 go_wp2_with fail
 exact fin4 k0 k1 k2 k3 rfl J58 (((xr.alloc _).alloc _).trans E1) (fun W g0 g1 g2 g3=>by simp [results,results237,go_sem,g0,g1,g2,g3]) (fun W h=>⟨by rw [H.out,HQ.out],h⟩)
theorem turn_text (w0 : World) (hT : Tab w0) (hN : Nm w0) : TurnC w0 (.func (.func 237) #[] #[]) texF :=
 ⟨237,rfl,enters_of func237 J3 rfl,fun W x a e h=>text_any x a W (hT.ext e) (hN.ext e) h⟩
theorem texF_okk (x : V) (a : Bool) (h : x.ok) : (texF x a).ok:=toText_ok x h
theorem blen_any (w0 : World) (b : Nat) (l : List UInt8) (w : World) (h : BuS w0 b l w) :
   Calls Tryz.prog 239 #[.pointer (some ⟨b,0,none⟩)] w fun e w'=>e = .returned (.int .i64 (l.length : Int)) ∧ w' = w:=by
 obtain ⟨p,hB,v,hb,hown,hne⟩ : ∃ p,Lib.BuilderAt 225 5 w0.heap.size b p (Lib.byteCells l) w:=by
   rcases h.2 with h | h
   · exact ⟨_,h⟩
   · exact ⟨_,h⟩
 have hl : (Lib.byteCells l).length = l.length:=by simp [Lib.byteCells]
 rw [hl] at hown
 obtain ⟨ao,cap,rfl⟩ : ∃ ao cap,v = .slice ao l.length cap:=by
   rcases hown.2 with ⟨hv,h0⟩ | ⟨g,cap,cur,hv,_⟩
   · exact ⟨none,0,by rw [hv,h0]⟩
   · exact ⟨_,_,hv⟩
 have d1 : w.cell? ⟨b,1,none⟩ = some (.slice ao l.length cap):=J83
 clear h hl hown hne hb hB
 go_enter func239,ntmps239
 exact K23
theorem catF_le (l : List V) (a : List UInt8) (h : ∀ v ∈ l,v.s.size ≤ 300) (ha : a.length ≤ 600) : (catF a l).length ≤ 600:=by
 induction l generalizing a with
 | nil=>exact ha
 | cons v l ih =>
   show (catF (if a.length ≤ 300 then a ++ v.s.data.toList else a) l).length ≤ 600
   refine ih _ (fun u hu=>h u (by simp [hu])) ?_
   split
   · have:=h v J58
     rw [List.length_append,size_list];omega
   · exact ha
theorem ok_s (v : V) (h : v.ok) : v.s.size ≤ 300:=by
 cases v with
 | text s=>exact h
 | _=>exact Nat.zero_le _
structure Cat (w0 : World) (g : Nat) (l : List V) (W : World) : Prop where
 b : BuS w0 g (catF [] l) W
 o : ∀ v ∈ l,v.s.size ≤ 300
theorem BuS.env {w0 W W' : World} {g hi : Nat} {l : List UInt8} (h : BuS w0 g l W) (e : Env hi W W') (hg : g < hi) (hh : w0.heap.size ≤ hi) : BuS w0 g l W':=by
 refine ⟨Below.trans h.1 (e.1.mono hh),?_⟩
 have one : ∀ p,Lib.BuilderAt 225 5 w0.heap.size g p (Lib.byteCells l) W → Lib.BuilderAt 225 5 w0.heap.size g p (Lib.byteCells l) W':=by
   rintro p ⟨hB,v,hb,hown,hne⟩
   refine ⟨hB,v,(e.1.block g hg).trans hb,⟨hown.1,?_⟩,hne⟩
   rcases hown.2 with h | ⟨q,cap,cur,hv,hbg,hq,rest⟩
   · exact .inl h
   · exact .inr ⟨q,cap,cur,hv,hbg,(e.2 q ⟨cur,(0,0),hq⟩).trans hq,rest⟩
 exact h.2.imp (one _) (one _)
theorem Ext.between2 {W V1 V2 : World} (e1 : Ext W V1) (e2 : Ext W V2) (hs : V1.heap.size ≤ V2.heap.size) : Below W.heap.size V1 V2 :=
 ⟨e2.os.trans e1.os.symm,e2.tape.trans e1.tape.symm,e2.output.trans e1.output.symm,hs,fun k hk=>(e2.block k hk).trans (e1.block k hk).symm⟩
theorem OkS9.mid {w0 W W' : World} {g hi : Nat} (h : OkS9 g W W') (e : Ext w0 W) (e' : Ext w0 W') (hg : g < hi) : Mid w0.heap.size hi W W' :=
 ⟨Ext.between2 e e' h.2,fun k hk hs hr=>by
   have hk2 : W.heap[k]? = some W.heap[k]:=Array.getElem?_eq_getElem hs
   rw [hk2]
   exact h.1 k _ hk2 (by intro q;cases q;omega) (fun c fz q=>hr ⟨c,fz,by rw [hk2,q]⟩)⟩
theorem cat1_any (w0 : World) (g : Nat) (l : List V) (W : World) (x : V) (h : Cat w0 g l W) (hx : x.ok) :
   Calls Tryz.prog 238 (encV x ++ #[.pointer (some ⟨g,0,none⟩)]) W fun e w'=>e = .returned (.tuple #[]) ∧ Cat w0 g (l ++ [x]) w' ∧ OkS9 g W w':=by
 have hs:=ok_s x hx
 have hle:=catF_le l [] h.o J58
 have HO : Hid (∀ v ∈ l ++ [x],v.s.size ≤ 300):=by
   intro v hv
   rcases List.mem_append.1 hv with hv | hv
   · exact h.o v hv
   · simp at hv;subst hv;exact hs
 have HC : Hid (catF [] (l ++ [x]) = if (catF [] l).length ≤ 300 then catF [] l ++ x.s.data.toList else catF [] l):=catF_app [] l x
 rw [show encV x = #[x.dat] from rfl,dat_eq x]
 obtain ⟨L,hL⟩ : ∃ L,catF [] l = L:=⟨_,rfl⟩
 have HB : Hid (BuS w0 g L W):=by rw [← hL];exact h.b
 rw [hL] at HC hle
 have cL:=fun V (q : BuS w0 g L V)=>blen_any w0 g L V q
 have cW:=fun V (q : BuS w0 g L V)=>swrite_any w0 g L x.s V q J2 J2
 clear h hx hL
 generalize x.k = xk at *
 generalize x.n = xn at *
 generalize x.e = xe at *
 obtain ⟨xs,hxs⟩ : ∃ q,x.s = q:=⟨_,rfl⟩
 rw [hxs] at cW HC hs ⊢
 clear hxs
 by_cases hc : L.length ≤ 300
 · have hd : decide ((L.length : Int) ≤ 300) = true:=J7
   have hI : (L.length : Int) ≤ 300:=J2
   rw [if_pos hc] at HC
   clear hc hle hs
   go_enter func238,ntmps238
   go_wp2_with fail
   refine (cL _ (HB.out.ext (xr.alloc _))).mono ?_
   rintro e w1 ⟨rfl,rfl⟩
   go_wp2_with fail
   refine (cW _ (HB.out.ext (xr.alloc _))).mono ?_
   rintro e w2 ⟨rfl,B2,O2⟩
   have HO2 : Hid (OkS9 g W w2):=(((Ext.refl W).alloc _).toKS g).trans O2
   have HB2 : Hid (BuS w0 g (L ++ xs.data.toList) w2):=B2
   clear B2 O2
   go_wp2_with fail
   go_end0
   exact ⟨rfl,⟨by rw [HC.out];exact HB2.out,HO.out⟩,HO2.out⟩
 · have hd : decide ((L.length : Int) ≤ 300) = false:=J7
   have hI : ¬ (L.length : Int) ≤ 300:=J2
   rw [if_neg hc] at HC
   clear hc hle hs cW
   go_enter func238,ntmps238
   go_wp2_with fail
   refine (cL _ (HB.out.ext (xr.alloc _))).mono ?_
   rintro e w1 ⟨rfl,rfl⟩
   go_wp2_with fail
   go_end0
   have O2 : ∀ o,OkS9 g W (W.alloc o):=fun o=>((Ext.refl W).alloc o).toKS g
   exact ⟨rfl,⟨by rw [HC.out];exact HB.out.ext (xr.alloc _),HO.out⟩,O2 _⟩
theorem ent_cat1 : ∀ args W,(callFunc 238 args).run Tryz.prog W = .ok (.enter 238 args) W:=enters_of func238 J3 rfl
theorem cat_fn (w0 wb : World) (hw : Ext w0 wb) (g hi : Nat) (hg : g < hi) (hh : wb.heap.size ≤ hi) : FnC w0 hi (.func (.func 238) #[] #[.pointer (some ⟨g,0,none⟩)]) encV V.ok (fun l W=>Cat wb g l W):=by
 refine ⟨_,_,rfl,ent_cat1,?_,?_⟩
 · intro l W W' h hs e
   exact ⟨h.b.env e hg hh,h.o⟩
 · intro l W x h hs e hl hx
   exact (cat1_any wb g l W x h hx).mono (fun e' w' q=>⟨q.1,q.2.1,q.2.2.mid e (hw.trans q.2.1.b.1) hg⟩)
theorem fcat_any (gs : List Ag) (w0 : World) (p : Option Addr) (n c : Nat) (hF : Fit w0 (.slice p n c) gs) (hT : Tab w0) (hN : Nm w0) :
   Calls Tryz.prog 186 #[.slice p n c] w0 fun e w'=>e = .returned (fCat gs).dat ∧ Ext w0 w':=by
 have HF : Hid (Fit w0 (.slice p n c) gs ∧ Tab w0 ∧ Nm w0):=⟨hF,hT,hN⟩
 obtain ⟨wb,hwb⟩ : ∃ wb,w0.alloc (.cells #[.int .i64 0,.int .i64 0,.string ⟨#[]⟩,.int .i64 0] 33) = wb:=⟨_,rfl⟩
 have hzb : wb.heap.size = w0.heap.size + 1:=by rw [← hwb];simp
 have HWB : Hid (Ext w0 wb ∧ Blk wb w0.heap.size (.int .i64 0) (.int .i64 0) (.string ⟨#[]⟩) (.int .i64 0)):=by
   rw [← hwb]
   exact ⟨xr.alloc _,blk_top rfl xr⟩
 have HFN : Hid (FnC w0 (w0.heap.size + 2) (.func (.func 238) #[] #[.pointer (some ⟨w0.heap.size + 1,0,none⟩)]) encV V.ok (fun l W=>Cat wb (w0.heap.size + 1) l W)):=cat_fn w0 wb HWB.out.1 _ _ J2 J2
 have HZB : Hid (wb.heap.size = w0.heap.size + 1):=hzb
 have HWE : Hid (w0.alloc (.cells #[.int .i64 0,.int .i64 0,.string ⟨#[]⟩,.int .i64 0] 33) = wb):=hwb
 clear hzb hwb
 clear hF hT hN
 go_enter func186,ntmps186
 go_wp2_with fail
 rw [HWE.out]
 generalize hW3 : wb.alloc _ = W3
 have z3 : W3.heap.size = w0.heap.size + 2:=by rw [← hW3];simp;have:=HZB.out;omega
 have Eb : Ext wb W3:=by rw [← hW3];exact xr.alloc _
 have E3 : Ext w0 W3:=HWB.out.1.trans Eb
 have HC : Cat wb (w0.heap.size + 1) [] W3:=by
   refine ⟨⟨Eb,?_⟩,(fun v hv=>by cases hv)⟩
   rw [← hW3,← HZB.out]
   exact Lib.fresh_isBuilder _ _ wb
 refine (through_any w0 gs _ _ texF (fun l W=>Cat wb (w0.heap.size + 1) l W) W3 p n c (turn_text w0 HF.out.2.1 HF.out.2.2) (by rw [z3];exact HFN.out) texF_okk (HF.out.1.rd.low (Below.mono E3 nrf)) HF.out.1.i HF.out.1.s HF.out.1.l HC E3 HF.out.2.2).mono ?_
 rintro e w4 ⟨rfl,T4,X4⟩
 have HX4 : Hid (Ext w0 w4):=X4
 have HB4 : Hid (Blk w4 w0.heap.size (.int .i64 0) (.int .i64 0) (.string ⟨#[]⟩) (.int .i64 0)):=HWB.out.2.ext T4.b.1
 obtain ⟨c0z,⟨c0_0,c0_1,c0_2,c0_3⟩,c0f0,c0f1,c0f2,c0f3⟩:=HB4.out
 have HBu : Hid (BuS wb (w0.heap.size + 1) (catF [] (got texF (seen gs))) w4):=T4.b
 have HR : Hid (fCat gs = if (bad texF (seen gs)).k = 4 then bad texF (seen gs) else mkText (bs (allC (got texF (seen gs))))):=rfl
 have HTX : Hid (mkText (bs (catF [] (got texF (seen gs)))) = mkText (bs (allC (got texF (seen gs))))):=cat_text _
 have HD : Hid ((bad texF (seen gs)).dat = .agg #[.int .i64 (bad texF (seen gs)).k,.int .i64 (bad texF (seen gs)).n,.string (bad texF (seen gs)).s,.int .i64 (bad texF (seen gs)).e]):=dat_eq _
 have hD:=dat_eq (bad texF (seen gs))
 obtain ⟨zk,hzk⟩ : ∃ r,(bad texF (seen gs)).k = r:=⟨_,rfl⟩
 obtain ⟨zn,hzn⟩ : ∃ r,(bad texF (seen gs)).n = r:=⟨_,rfl⟩
 obtain ⟨zs',hzs⟩ : ∃ r,(bad texF (seen gs)).s = r:=⟨_,rfl⟩
 obtain ⟨ze,hze⟩ : ∃ r,(bad texF (seen gs)).e = r:=⟨_,rfl⟩
 rw [hzk,hzn,hzs,hze] at HD hD
 rw [hzk] at HR
 rw [hD]
 clear hzk hzn hzs hze hD hW3 z3 E3 Eb HC X4 T4 HFN HWE
 by_cases h4 : zk = 4
 · have e4 : (zk == 4) = true:=J77
   have HZ : Hid (fCat gs = bad texF (seen gs)):=by show _ = _;rw [HR.out,if_pos h4]
   clear h4 HR
   go_wp2_with fail
   exact finB ((HB4.out.set _ _ _ _).al _) rfl (((((HX4.out.setCell J58 _).setCell J58 _).setCell J58 _).setCell J58 _).alloc _) (fun g0 g1 g2 g3=>by simp [results,results186,go_sem,g0,g1,g2,g3]) (fun h=>⟨by rw [HZ.out,HD.out],h⟩)
 · have e4 : (zk == 4) = false:=J77
   have HZ : Hid (fCat gs = mkText (bs (catF [] (got texF (seen gs))))):=by show _ = _;rw [HR.out,if_neg h4,HTX.out]
   clear h4 HR HTX
   obtain ⟨T,hTT⟩ : ∃ T,catF [] (got texF (seen gs)) = T:=⟨_,rfl⟩
   rw [hTT] at HBu HZ
   have cN:=fun W h=>vtext_any (bs T) W h
   obtain ⟨q0,q1,q2,q3,hq⟩:=dat4 (mkText (bs T))
   rw [hq] at cN
   have HQ : Hid ((mkText (bs T)).dat = .agg #[.int .i64 q0,.int .i64 q1,.string q2,.int .i64 q3]):=hq
   have CS : Hid (∀ V,Ext w4 V → Calls Tryz.prog 241 #[.pointer (some ⟨w0.heap.size + 1,0,none⟩)] V fun e w'=>e = .returned (.string (bs T)) ∧ Below wb.heap.size V w'):=fun V e=>Tryz.Builder_String_any wb.heap.size (w0.heap.size + 1) T V (HBu.out.ext e).2 (Nat.le_trans HBu.out.1.size e.size)
   clear hq hTT
   generalize bs T = bT at *
   go_wp2_with fail
   refine (CS.out _ (xr.alloc _)).mono ?_
   rintro e w5 ⟨rfl,E5⟩
   have HE5 : Hid (Ext wb w5):=Below.trans (HBu.out.1.alloc _) E5
   have HB5 : Hid (Blk w5 w0.heap.size (.int .i64 0) (.int .i64 0) (.string ⟨#[]⟩) (.int .i64 0)):=HWB.out.2.ext HE5.out
   clear c0z c0_0 c0_1 c0_2 c0_3 c0f0 c0f1 c0f2 c0f3 E5
   go_wp2_with fail
   refine (cN _ (HF.out.2.2.ext (HWB.out.1.trans HE5.out))).mono ?_
   rintro e w6 ⟨rfl,E6⟩
   have HB6 : Hid (Blk w6 w0.heap.size (.int .i64 0) (.int .i64 0) (.string ⟨#[]⟩) (.int .i64 0)):=HB5.out.ext E6
   have HX6 : Hid (Ext w0 w6):=(HWB.out.1.trans HE5.out).trans E6
   clear E6
   obtain ⟨c0z,⟨c0_0,c0_1,c0_2,c0_3⟩,c0f0,c0f1,c0f2,c0f3⟩:=HB6.out
   go_wp2_with fail
   exact finB (HB6.out.set _ _ _ _) rfl ((((HX6.out.setCell J58 _).setCell J58 _).setCell J58 _).setCell J58 _) (fun g0 g1 g2 g3=>by simp [results,results186,go_sem,g0,g1,g2,g3]) (fun h=>⟨by rw [HZ.out,HQ.out],h⟩)
theorem FitB.fit {W : World} {v : Value} {l : List Bg} (h : FitB W v l) : Fit W v (gsOf l):=⟨h.rd.toA,h.i,h.s,by have:=h.z;simpa [gsOf] using this⟩
structure Rdy (W : World) (v : Value) (l : List Bg) : Prop where
 f : FitB W v l
 n : Nm W
 t : Tab W
theorem Rdy.ext {W W' : World} {v : Value} {l : List Bg} (h : Rdy W v l) (e : Ext W W') : Rdy W' v l:=⟨h.f.ext e,h.n.ext e,h.t.ext e⟩
theorem root_at (a : Int) (ha : I64 a) {W : World} (W' : World) (_ : Ext W W') : Calls Tryz.prog 196 #[.int .i64 a] W' fun e w'=>e = .returned (.tuple #[.int .i64 (rootV a),.bool (rootB a)]) ∧ Ext W' w':=by
 unfold rootV rootB
 by_cases h : 0 ≤ a
 · obtain ⟨m,rfl⟩ : ∃ m : Nat,a = (m : Int):=⟨a.toNat,by omega⟩
   rw [if_pos h]
   refine (root_any m (by have:=ha.2;omega) W').mono ?_
   rintro e w' ⟨⟨r,rfl,hr,_⟩,E⟩
   have h2 : r = rtN (m * 10000):=hr.one (rt_is _)
   refine ⟨?_,E⟩
   rw [h2]
   simp
 · rw [if_neg h]
   refine (root_no a J2 W').mono ?_
   rintro e w' ⟨rfl,E⟩
   refine ⟨?_,E⟩
   simp [h]
theorem round_at (a d : Int) (ha : I64 a) {W : World} (W' : World) (_ : Ext W W') : Calls Tryz.prog 192 #[.int .i64 a,.int .i64 d] W' fun e w'=>e = .returned (.tuple #[.int .i64 (rndV a d),.bool (rndB a d)]) ∧ Ext W' w':=round_any a d ha W'
theorem floor_at (a : Int) (ha : I64 a) {W : World} (W' : World) (_ : Ext W W') : Calls Tryz.prog 195 #[.int .i64 a] W' fun e w'=>e = .returned (.tuple #[.int .i64 (floorV a),.bool (floorB a)]) ∧ Ext W' w':=floor_any a ha W'
theorem num_at (n : Int) {W : World} (hN : Nm W) (W' : World) (e : Ext W W') : Calls Tryz.prog 38 #[.int .i64 n] W' fun r w'=>r = .returned (.agg #[.int .i64 (mkNum n).k,.int .i64 (mkNum n).n,.string (mkNum n).s,.int .i64 (mkNum n).e]) ∧ Ext W' w':=by
 have:=vnum_any n W' (hN.ext e)
 rwa [dat_eq] at this
theorem size_at (n : Int) (hn : I64 n) (hc : canB n = true) {W : World} (W' : World) (_ : Ext W W') : Calls Tryz.prog 189 #[.int .i64 n] W' fun r w'=>r = .returned (.int .i64 (szN n)) ∧ Ext W' w':=(xsize_any n hn hc W').mono (fun e w' h=>⟨h.1,by rw [h.2];exact xr⟩)
theorem xc_SUM (s : ByteArray) (hs : s.data.toList = [83,85,77]) (l : List Bg) (p : Option Addr) (n c : Nat) (W : World) (hR : Rdy W (.slice p n c) l) :
   Calls Tryz.prog 137 #[.slice p n c,.string s] W fun e w'=>RzQ Rw.dat (xCall [83,85,77] l) e ∧ Ext W w':=by
 have HX : xCall [83,85,77] l = .ok (fSum (gsOf l)).rw:=rfl
 rw [HX]
 clear HX
 have c0 : ∀ W',Ext W W' → Calls Tryz.prog 179 #[.slice p n c] W' fun e w'=>e = .returned (.agg #[.int .i64 (fSum (gsOf l)).k,.int .i64 (fSum (gsOf l)).n,.string (fSum (gsOf l)).s,.int .i64 (fSum (gsOf l)).e]) ∧ Ext W' w':=fun W' e=>by
   have:=fsum_any (gsOf l) W' p n c (hR.f.ext e).fit (hR.n.ext e)
   rwa [dat_eq] at this
 generalize fSum (gsOf l) = v at *
 clear hR
 have hl : s.toList = [83,85,77]:=J84
 have e0 : (s.toList == [83,85,77]) = true:=J85
 exact K164
theorem xc_COUNT (s : ByteArray) (hs : s.data.toList = [67,79,85,78,84]) (l : List Bg) (p : Option Addr) (n c : Nat) (W : World) (hR : Rdy W (.slice p n c) l) :
   Calls Tryz.prog 137 #[.slice p n c,.string s] W fun e w'=>RzQ Rw.dat (xCall [67,79,85,78,84] l) e ∧ Ext W w':=by
 have HX : xCall [67,79,85,78,84] l = .ok (fCount (gsOf l)).rw:=rfl
 rw [HX]
 clear HX
 have c0 : ∀ W',Ext W W' → Calls Tryz.prog 180 #[.slice p n c] W' fun e w'=>e = .returned (.agg #[.int .i64 (fCount (gsOf l)).k,.int .i64 (fCount (gsOf l)).n,.string (fCount (gsOf l)).s,.int .i64 (fCount (gsOf l)).e]) ∧ Ext W' w':=fun W' e=>by
   have:=fcount_any (gsOf l) W' p n c (hR.f.ext e).fit (hR.n.ext e)
   rwa [dat_eq] at this
 generalize fCount (gsOf l) = v at *
 clear hR
 have hl : s.toList = [67,79,85,78,84]:=J84
 have e0 : (s.toList == [83,85,77]) = false:=J85
 have e1 : (s.toList == [67,79,85,78,84]) = true:=J85
 exact K164
theorem xc_MIN (s : ByteArray) (hs : s.data.toList = [77,73,78]) (l : List Bg) (p : Option Addr) (n c : Nat) (W : World) (hR : Rdy W (.slice p n c) l) :
   Calls Tryz.prog 137 #[.slice p n c,.string s] W fun e w'=>RzQ Rw.dat (xCall [77,73,78] l) e ∧ Ext W w':=by
 have HX : xCall [77,73,78] l = .ok (fBest ltB (gsOf l)).rw:=rfl
 rw [HX]
 clear HX
 have c0 : ∀ W',Ext W W' → Calls Tryz.prog 181 #[.slice p n c] W' fun e w'=>e = .returned (.agg #[.int .i64 (fBest ltB (gsOf l)).k,.int .i64 (fBest ltB (gsOf l)).n,.string (fBest ltB (gsOf l)).s,.int .i64 (fBest ltB (gsOf l)).e]) ∧ Ext W' w':=fun W' e=>by
   have:=fmin_any (gsOf l) W' p n c (hR.f.ext e).fit (hR.n.ext e)
   rwa [dat_eq] at this
 generalize fBest ltB (gsOf l) = v at *
 clear hR
 have hl : s.toList = [77,73,78]:=J84
 have e0 : (s.toList == [83,85,77]) = false:=J85
 have e1 : (s.toList == [67,79,85,78,84]) = false:=J85
 have e2 : (s.toList == [77,73,78]) = true:=J85
 exact K164
theorem xc_MAX (s : ByteArray) (hs : s.data.toList = [77,65,88]) (l : List Bg) (p : Option Addr) (n c : Nat) (W : World) (hR : Rdy W (.slice p n c) l) :
   Calls Tryz.prog 137 #[.slice p n c,.string s] W fun e w'=>RzQ Rw.dat (xCall [77,65,88] l) e ∧ Ext W w':=by
 have HX : xCall [77,65,88] l = .ok (fBest gtB (gsOf l)).rw:=rfl
 rw [HX]
 clear HX
 have c0 : ∀ W',Ext W W' → Calls Tryz.prog 182 #[.slice p n c] W' fun e w'=>e = .returned (.agg #[.int .i64 (fBest gtB (gsOf l)).k,.int .i64 (fBest gtB (gsOf l)).n,.string (fBest gtB (gsOf l)).s,.int .i64 (fBest gtB (gsOf l)).e]) ∧ Ext W' w':=fun W' e=>by
   have:=fmax_any (gsOf l) W' p n c (hR.f.ext e).fit (hR.n.ext e)
   rwa [dat_eq] at this
 generalize fBest gtB (gsOf l) = v at *
 clear hR
 have hl : s.toList = [77,65,88]:=J84
 have e0 : (s.toList == [83,85,77]) = false:=J85
 have e1 : (s.toList == [67,79,85,78,84]) = false:=J85
 have e2 : (s.toList == [77,73,78]) = false:=J85
 have e3 : (s.toList == [77,65,88]) = true:=J85
 exact K164
theorem xc_AVERAGE (s : ByteArray) (hs : s.data.toList = [65,86,69,82,65,71,69]) (l : List Bg) (p : Option Addr) (n c : Nat) (W : World) (hR : Rdy W (.slice p n c) l) :
   Calls Tryz.prog 137 #[.slice p n c,.string s] W fun e w'=>RzQ Rw.dat (xCall [65,86,69,82,65,71,69] l) e ∧ Ext W w':=by
 have HX : xCall [65,86,69,82,65,71,69] l = .ok (fMean (gsOf l)).rw:=rfl
 rw [HX]
 clear HX
 have c0 : ∀ W',Ext W W' → Calls Tryz.prog 183 #[.slice p n c] W' fun e w'=>e = .returned (.agg #[.int .i64 (fMean (gsOf l)).k,.int .i64 (fMean (gsOf l)).n,.string (fMean (gsOf l)).s,.int .i64 (fMean (gsOf l)).e]) ∧ Ext W' w':=fun W' e=>by
   have:=favg_any (gsOf l) W' p n c (hR.f.ext e).fit (hR.n.ext e)
   rwa [dat_eq] at this
 generalize fMean (gsOf l) = v at *
 clear hR
 have hl : s.toList = [65,86,69,82,65,71,69]:=J84
 have e0 : (s.toList == [83,85,77]) = false:=J85
 have e1 : (s.toList == [67,79,85,78,84]) = false:=J85
 have e2 : (s.toList == [77,73,78]) = false:=J85
 have e3 : (s.toList == [77,65,88]) = false:=J85
 have e4 : (s.toList == [65,86,69,82,65,71,69]) = true:=J85
 exact K164
theorem xc_AND (s : ByteArray) (hs : s.data.toList = [65,78,68]) (l : List Bg) (p : Option Addr) (n c : Nat) (W : World) (hR : Rdy W (.slice p n c) l) :
   Calls Tryz.prog 137 #[.slice p n c,.string s] W fun e w'=>RzQ Rw.dat (xCall [65,78,68] l) e ∧ Ext W w':=by
 have HX : xCall [65,78,68] l = .ok (fAnd (gsOf l)).rw:=rfl
 rw [HX]
 clear HX
 have c0 : ∀ W',Ext W W' → Calls Tryz.prog 184 #[.slice p n c] W' fun e w'=>e = .returned (.agg #[.int .i64 (fAnd (gsOf l)).k,.int .i64 (fAnd (gsOf l)).n,.string (fAnd (gsOf l)).s,.int .i64 (fAnd (gsOf l)).e]) ∧ Ext W' w':=fun W' e=>by
   have:=fand_any (gsOf l) W' p n c (hR.f.ext e).fit (hR.n.ext e)
   rwa [dat_eq] at this
 generalize fAnd (gsOf l) = v at *
 clear hR
 have hl : s.toList = [65,78,68]:=J84
 have e0 : (s.toList == [83,85,77]) = false:=J85
 have e1 : (s.toList == [67,79,85,78,84]) = false:=J85
 have e2 : (s.toList == [77,73,78]) = false:=J85
 have e3 : (s.toList == [77,65,88]) = false:=J85
 have e4 : (s.toList == [65,86,69,82,65,71,69]) = false:=J85
 have e5 : (s.toList == [65,78,68]) = true:=J85
 exact K164
theorem xc_OR (s : ByteArray) (hs : s.data.toList = [79,82]) (l : List Bg) (p : Option Addr) (n c : Nat) (W : World) (hR : Rdy W (.slice p n c) l) :
   Calls Tryz.prog 137 #[.slice p n c,.string s] W fun e w'=>RzQ Rw.dat (xCall [79,82] l) e ∧ Ext W w':=by
 have HX : xCall [79,82] l = .ok (fOr (gsOf l)).rw:=rfl
 rw [HX]
 clear HX
 have c0 : ∀ W',Ext W W' → Calls Tryz.prog 185 #[.slice p n c] W' fun e w'=>e = .returned (.agg #[.int .i64 (fOr (gsOf l)).k,.int .i64 (fOr (gsOf l)).n,.string (fOr (gsOf l)).s,.int .i64 (fOr (gsOf l)).e]) ∧ Ext W' w':=fun W' e=>by
   have:=for_any (gsOf l) W' p n c (hR.f.ext e).fit (hR.n.ext e)
   rwa [dat_eq] at this
 generalize fOr (gsOf l) = v at *
 clear hR
 have hl : s.toList = [79,82]:=J84
 have e0 : (s.toList == [83,85,77]) = false:=J85
 have e1 : (s.toList == [67,79,85,78,84]) = false:=J85
 have e2 : (s.toList == [77,73,78]) = false:=J85
 have e3 : (s.toList == [77,65,88]) = false:=J85
 have e4 : (s.toList == [65,86,69,82,65,71,69]) = false:=J85
 have e5 : (s.toList == [65,78,68]) = false:=J85
 have e6 : (s.toList == [79,82]) = true:=J85
 exact K164
theorem xc_CONCAT (s : ByteArray) (hs : s.data.toList = [67,79,78,67,65,84]) (l : List Bg) (p : Option Addr) (n c : Nat) (W : World) (hR : Rdy W (.slice p n c) l) :
   Calls Tryz.prog 137 #[.slice p n c,.string s] W fun e w'=>RzQ Rw.dat (xCall [67,79,78,67,65,84] l) e ∧ Ext W w':=by
 have HX : xCall [67,79,78,67,65,84] l = .ok (fCat (gsOf l)).rw:=rfl
 rw [HX]
 clear HX
 have c0 : ∀ W',Ext W W' → Calls Tryz.prog 186 #[.slice p n c] W' fun e w'=>e = .returned (.agg #[.int .i64 (fCat (gsOf l)).k,.int .i64 (fCat (gsOf l)).n,.string (fCat (gsOf l)).s,.int .i64 (fCat (gsOf l)).e]) ∧ Ext W' w':=fun W' e=>by
   have:=fcat_any (gsOf l) W' p n c (hR.f.ext e).fit (hR.t.ext e) (hR.n.ext e)
   rwa [dat_eq] at this
 generalize fCat (gsOf l) = v at *
 clear hR
 have hl : s.toList = [67,79,78,67,65,84]:=J84
 have e0 : (s.toList == [83,85,77]) = false:=J85
 have e1 : (s.toList == [67,79,85,78,84]) = false:=J85
 have e2 : (s.toList == [77,73,78]) = false:=J85
 have e3 : (s.toList == [77,65,88]) = false:=J85
 have e4 : (s.toList == [65,86,69,82,65,71,69]) = false:=J85
 have e5 : (s.toList == [65,78,68]) = false:=J85
 have e6 : (s.toList == [79,82]) = false:=J85
 have e7 : (s.toList == [67,79,78,67,65,84]) = true:=J85
 exact K164
theorem xc_IF (s : ByteArray) (hs : s.data.toList = [73,70]) (l : List Bg) (a0 : Bg) (h0 : l[0]? = some a0) (a1 : Bg) (h1 : l[1]? = some a1) (p : Option Addr) (n c : Nat) (W : World) (hR : Rdy W (.slice p n c) l) :
   Calls Tryz.prog 137 #[.slice p n c,.string s] W fun e w'=>RzQ Rw.dat (xCall [73,70] l) e ∧ Ext W w':=by
 have HX : xCall [73,70] l = xIf l:=rfl
 rw [HX]
 clear HX
 have c0 : ∀ W',Ext W W' → Calls Tryz.prog 187 #[.slice p n c] W' fun e w'=>RzQ Rw.dat (xIf l) e ∧ Ext W' w':=fun W' e=>xchosen_any l a0 a1 h0 h1 p n c W' (hR.f.ext e) (hR.n.ext e)
 generalize xIf l = r at *
 clear hR h0 h1
 have hl : s.toList = [73,70]:=J84
 have e0 : (s.toList == [83,85,77]) = false:=J85
 have e1 : (s.toList == [67,79,85,78,84]) = false:=J85
 have e2 : (s.toList == [77,73,78]) = false:=J85
 have e3 : (s.toList == [77,65,88]) = false:=J85
 have e4 : (s.toList == [65,86,69,82,65,71,69]) = false:=J85
 have e5 : (s.toList == [65,78,68]) = false:=J85
 have e6 : (s.toList == [79,82]) = false:=J85
 have e7 : (s.toList == [67,79,78,67,65,84]) = false:=J85
 have e8 : (s.toList == [73,70]) = true:=J85
 clear hs hl
 cases r with
 | ok r =>
   have C : ∀ W',Ext W W' → Calls Tryz.prog 187 #[.slice p n c] W' fun e w'=>e = .returned (.agg #[.int .i64 r.k,.int .i64 r.n,.string r.s,.int .i64 r.e]) ∧ Ext W' w':=c0
   exact K169
 | error x =>
   have C : ∀ W',Ext W W' → Calls Tryz.prog 187 #[.slice p n c] W' fun e w'=>e = pan x ∧ Ext W' w':=c0
   exact K168
theorem xc_NOT (s : ByteArray) (hs : s.data.toList = [78,79,84]) (l : List Bg) (a0 : Bg) (h0 : l[0]? = some a0) (p : Option Addr) (n c : Nat) (W : World) (hR : Rdy W (.slice p n c) l) :
   Calls Tryz.prog 137 #[.slice p n c,.string s] W fun e w'=>RzQ Rw.dat (xCall [78,79,84] l) e ∧ Ext W w':=by
 have hl : s.toList = [78,79,84]:=J84
 have e0 : (s.toList == [83,85,77]) = false:=J85
 have e1 : (s.toList == [67,79,85,78,84]) = false:=J85
 have e2 : (s.toList == [77,73,78]) = false:=J85
 have e3 : (s.toList == [77,65,88]) = false:=J85
 have e4 : (s.toList == [65,86,69,82,65,71,69]) = false:=J85
 have e5 : (s.toList == [65,78,68]) = false:=J85
 have e6 : (s.toList == [79,82]) = false:=J85
 have e7 : (s.toList == [67,79,78,67,65,84]) = false:=J85
 have e8 : (s.toList == [73,70]) = false:=J85
 have e9 : (s.toList == [78,79,84]) = true:=J85
 clear hs hl
 cases ht : trR (sgl a0) with
 | error x =>
   have HX : xCall [78,79,84] l = .error x:=by show xNot l = _;unfold xNot;rw [sg_of h0,ht]
   rw [HX]
   have c0:=xtruth_no hR.f hR.n h0 ht
   clear HX ht hR h0
   go_enter func137,ntmps137
   exact K28
 | ok t =>
   have HX : xCall [78,79,84] l = .ok (V.tf (!t)).rw:=by show xNot l = _;unfold xNot;rw [sg_of h0,ht]
   rw [HX]
   have c0:=xtruth_ok hR.f hR.n h0 ht
   clear HX ht hR h0
   cases t with
   | true =>
     have c1 : ∀ W',Ext W W' → Calls Tryz.prog 67 #[.bool false] W' fun r w'=>r = .returned (.agg #[.int .i64 1,.int .i64 0,.string ⟨#[]⟩,.int .i64 0]) ∧ Ext W' w':=fun W' e=>bool_at (W:=W) false W' e
     exact K10
   | false =>
     have c1 : ∀ W',Ext W W' → Calls Tryz.prog 67 #[.bool true] W' fun r w'=>r = .returned (.agg #[.int .i64 1,.int .i64 1,.string ⟨#[]⟩,.int .i64 0]) ∧ Ext W' w':=fun W' e=>bool_at (W:=W) true W' e
     exact K10
theorem xc_ABS (s : ByteArray) (hs : s.data.toList = [65,66,83]) (l : List Bg) (a0 : Bg) (h0 : l[0]? = some a0) (p : Option Addr) (n c : Nat) (W : World) (hR : Rdy W (.slice p n c) l) :
   Calls Tryz.prog 137 #[.slice p n c,.string s] W fun e w'=>RzQ Rw.dat (xCall [65,66,83] l) e ∧ Ext W w':=by
 have hl : s.toList = [65,66,83]:=J84
 have e0 : (s.toList == [83,85,77]) = false:=J85
 have e1 : (s.toList == [67,79,85,78,84]) = false:=J85
 have e2 : (s.toList == [77,73,78]) = false:=J85
 have e3 : (s.toList == [77,65,88]) = false:=J85
 have e4 : (s.toList == [65,86,69,82,65,71,69]) = false:=J85
 have e5 : (s.toList == [65,78,68]) = false:=J85
 have e6 : (s.toList == [79,82]) = false:=J85
 have e7 : (s.toList == [67,79,78,67,65,84]) = false:=J85
 have e8 : (s.toList == [73,70]) = false:=J85
 have e9 : (s.toList == [78,79,84]) = false:=J85
 have e10 : (s.toList == [65,66,83]) = true:=J85
 clear hs hl
 have o0:=(At.mk hR.f hR.n h0).ok
 cases ht : nuR (sgl a0) with
 | error x =>
   have HX : xCall [65,66,83] l = .error x:=by show xAbs l = _;unfold xAbs;rw [sg_of h0,ht]
   exact K170
 | ok a =>
   have HX : xCall [65,66,83] l = .ok (mkNum (szN a)).rw:=by show xAbs l = _;unfold xAbs;rw [sg_of h0,ht]
   rw [HX]
   obtain ⟨i1,i2⟩:=nuR_can o0 ht
   have c0:=xnumber_ok hR.f hR.n h0 ht
   have c1:=size_at a i1 i2 (W:=W)
   have c2:=num_at (szN a) hR.n
   generalize mkNum (szN a) = v at *
   generalize szN a = y at *
   clear HX ht hR h0 o0 i1 i2
   exact K13
theorem xc_ROUND (s : ByteArray) (hs : s.data.toList = [82,79,85,78,68]) (l : List Bg) (a0 : Bg) (h0 : l[0]? = some a0) (a1 : Bg) (h1 : l[1]? = some a1) (p : Option Addr) (n c : Nat) (W : World) (hR : Rdy W (.slice p n c) l) :
   Calls Tryz.prog 137 #[.slice p n c,.string s] W fun e w'=>RzQ Rw.dat (xCall [82,79,85,78,68] l) e ∧ Ext W w':=by
 have hl : s.toList = [82,79,85,78,68]:=J84
 have e0 : (s.toList == [83,85,77]) = false:=J85
 have e1 : (s.toList == [67,79,85,78,84]) = false:=J85
 have e2 : (s.toList == [77,73,78]) = false:=J85
 have e3 : (s.toList == [77,65,88]) = false:=J85
 have e4 : (s.toList == [65,86,69,82,65,71,69]) = false:=J85
 have e5 : (s.toList == [65,78,68]) = false:=J85
 have e6 : (s.toList == [79,82]) = false:=J85
 have e7 : (s.toList == [67,79,78,67,65,84]) = false:=J85
 have e8 : (s.toList == [73,70]) = false:=J85
 have e9 : (s.toList == [78,79,84]) = false:=J85
 have e10 : (s.toList == [65,66,83]) = false:=J85
 have e11 : (s.toList == [82,79,85,78,68]) = true:=J85
 clear hs hl
 have o0:=(At.mk hR.f hR.n h0).ok
 cases ht : nuR (sgl a0) with
 | error x =>
   have HX : xCall [82,79,85,78,68] l = .error x:=by show xRound l = _;unfold xRound;rw [sg_of h0,ht]
   exact K170
 | ok a =>
   obtain ⟨i1,i2⟩:=nuR_can o0 ht
   have c0:=xnumber_ok hR.f hR.n h0 ht
   cases hu : whR (sgl a1) with
   | error x =>
     have HX : xCall [82,79,85,78,68] l = .error x:=J86
     rw [HX]
     have c1:=xwhole_no hR.f hR.n h1 hu
     clear HX ht hR h0 o0 hu h1
     go_enter func137,ntmps137
     exact K37
   | ok d =>
     have HX : xCall [82,79,85,78,68] l = (tolR (rndB a d) (rndV a d)).map V.rw:=J86
     rw [HX]
     have c1:=xwhole_ok hR.f hR.n h1 hu
     have c2:=round_at a d i1 (W:=W)
     have hN:=hR.n
     clear HX ht hR h0 o0 i1 i2 hu h1
     generalize rndV a d = y at *
     cases hB : rndB a d with
     | false =>
       rw [hB] at c2
       have c3:=told_no y (W:=W)
       clear hB
       rw [show (tolR false y).map V.rw = .error 4 from rfl]
       go_enter func137,ntmps137
       exact K31
     | true =>
       rw [hB] at c2
       have c3:=told_ok y hN
       clear hB
       rw [show (tolR true y).map V.rw = .ok (mkNum y).rw from rfl]
       generalize mkNum y = v at *
       go_enter func137,ntmps137
       go_wp2_with fail
       refine (c0 _ (xr.alloc _)).mono ?_
       rintro e w1 ⟨rfl,E1⟩
       have B1 : Hid (Blk w1 W.heap.size (.int .i64 0) (.int .i64 0) (.string ⟨#[]⟩) (.int .i64 0) ∧ Ext W w1):=⟨blk_top J58 E1,(xr.alloc _).trans E1⟩
       clear E1
       go_wp2_with fail
       refine (c1 _ B1.out.2).mono ?_
       rintro e w2 ⟨rfl,E2⟩
       have B2 : Hid (Blk w2 W.heap.size (.int .i64 0) (.int .i64 0) (.string ⟨#[]⟩) (.int .i64 0) ∧ Ext W w2):=⟨B1.out.1.ext E2,B1.out.2.trans E2⟩
       clear E2
       go_wp2_with fail
       refine (c2 _ B2.out.2).mono ?_
       rintro e w3 ⟨rfl,E3⟩
       have B3 : Hid (Blk w3 W.heap.size (.int .i64 0) (.int .i64 0) (.string ⟨#[]⟩) (.int .i64 0) ∧ Ext W w3):=⟨B2.out.1.ext E3,B2.out.2.trans E3⟩
       clear E3
       go_wp2_with fail
       refine (c3 _ B3.out.2).mono ?_
       rintro e w4 ⟨rfl,E4⟩
       have B4 : Hid (Blk w4 W.heap.size (.int .i64 0) (.int .i64 0) (.string ⟨#[]⟩) (.int .i64 0) ∧ Ext W w4):=⟨B3.out.1.ext E4,B3.out.2.trans E4⟩
       clear E4
       obtain ⟨z,⟨b0,b1,b2,b3⟩,f0,f1,f2,f3⟩:=B4.out.1
       go_wp2_with fail
       exact fin4 b0 b1 b2 b3 rfl J58 B4.out.2 J5 (fun W h=>⟨rfl,h⟩)
theorem xc_MOD (s : ByteArray) (hs : s.data.toList = [77,79,68]) (l : List Bg) (a0 : Bg) (h0 : l[0]? = some a0) (a1 : Bg) (h1 : l[1]? = some a1) (p : Option Addr) (n c : Nat) (W : World) (hR : Rdy W (.slice p n c) l) :
   Calls Tryz.prog 137 #[.slice p n c,.string s] W fun e w'=>RzQ Rw.dat (xCall [77,79,68] l) e ∧ Ext W w':=by
 have HX : xCall [77,79,68] l = xMod l:=rfl
 rw [HX]
 clear HX
 have c0 : ∀ W',Ext W W' → Calls Tryz.prog 194 #[.slice p n c] W' fun e w'=>RzQ Rw.dat (xMod l) e ∧ Ext W' w':=fun W' e=>xrest_any l a0 a1 h0 h1 p n c W' (hR.f.ext e) (hR.n.ext e)
 generalize xMod l = r at *
 clear hR h0 h1
 have hl : s.toList = [77,79,68]:=J84
 have e0 : (s.toList == [83,85,77]) = false:=J85
 have e1 : (s.toList == [67,79,85,78,84]) = false:=J85
 have e2 : (s.toList == [77,73,78]) = false:=J85
 have e3 : (s.toList == [77,65,88]) = false:=J85
 have e4 : (s.toList == [65,86,69,82,65,71,69]) = false:=J85
 have e5 : (s.toList == [65,78,68]) = false:=J85
 have e6 : (s.toList == [79,82]) = false:=J85
 have e7 : (s.toList == [67,79,78,67,65,84]) = false:=J85
 have e8 : (s.toList == [73,70]) = false:=J85
 have e9 : (s.toList == [78,79,84]) = false:=J85
 have e10 : (s.toList == [65,66,83]) = false:=J85
 have e11 : (s.toList == [82,79,85,78,68]) = false:=J85
 have e12 : (s.toList == [77,79,68]) = true:=J85
 clear hs hl
 cases r with
 | ok r =>
   have C : ∀ W',Ext W W' → Calls Tryz.prog 194 #[.slice p n c] W' fun e w'=>e = .returned (.agg #[.int .i64 r.k,.int .i64 r.n,.string r.s,.int .i64 r.e]) ∧ Ext W' w':=c0
   exact K169
 | error x =>
   have C : ∀ W',Ext W W' → Calls Tryz.prog 194 #[.slice p n c] W' fun e w'=>e = pan x ∧ Ext W' w':=c0
   exact K168
theorem xc_FLOOR (s : ByteArray) (hs : s.data.toList = [70,76,79,79,82]) (l : List Bg) (a0 : Bg) (h0 : l[0]? = some a0) (p : Option Addr) (n c : Nat) (W : World) (hR : Rdy W (.slice p n c) l) :
   Calls Tryz.prog 137 #[.slice p n c,.string s] W fun e w'=>RzQ Rw.dat (xCall [70,76,79,79,82] l) e ∧ Ext W w':=by
 have hl : s.toList = [70,76,79,79,82]:=J84
 have e0 : (s.toList == [83,85,77]) = false:=J85
 have e1 : (s.toList == [67,79,85,78,84]) = false:=J85
 have e2 : (s.toList == [77,73,78]) = false:=J85
 have e3 : (s.toList == [77,65,88]) = false:=J85
 have e4 : (s.toList == [65,86,69,82,65,71,69]) = false:=J85
 have e5 : (s.toList == [65,78,68]) = false:=J85
 have e6 : (s.toList == [79,82]) = false:=J85
 have e7 : (s.toList == [67,79,78,67,65,84]) = false:=J85
 have e8 : (s.toList == [73,70]) = false:=J85
 have e9 : (s.toList == [78,79,84]) = false:=J85
 have e10 : (s.toList == [65,66,83]) = false:=J85
 have e11 : (s.toList == [82,79,85,78,68]) = false:=J85
 have e12 : (s.toList == [77,79,68]) = false:=J85
 have e13 : (s.toList == [70,76,79,79,82]) = true:=J85
 clear hs hl
 have o0:=(At.mk hR.f hR.n h0).ok
 cases ht : nuR (sgl a0) with
 | error x =>
   have HX : xCall [70,76,79,79,82] l = .error x:=by show xFloor l = _;unfold xFloor;rw [sg_of h0,ht]
   exact K170
 | ok a =>
   have HX : xCall [70,76,79,79,82] l = (tolR (floorB a) (floorV a)).map V.rw:=by show xFloor l = _;unfold xFloor;rw [sg_of h0,ht]
   rw [HX]
   obtain ⟨i1,i2⟩:=nuR_can o0 ht
   have c0:=xnumber_ok hR.f hR.n h0 ht
   have c1:=floor_at a i1 (W:=W)
   have hN:=hR.n
   clear HX ht hR h0 o0 i1 i2
   generalize floorV a = y at *
   cases hB : floorB a with
   | false =>
     exact K35
   | true =>
     exact K180
theorem xc_SQRT (s : ByteArray) (hs : s.data.toList = [83,81,82,84]) (l : List Bg) (a0 : Bg) (h0 : l[0]? = some a0) (p : Option Addr) (n c : Nat) (W : World) (hR : Rdy W (.slice p n c) l) :
   Calls Tryz.prog 137 #[.slice p n c,.string s] W fun e w'=>RzQ Rw.dat (xCall [83,81,82,84] l) e ∧ Ext W w':=by
 have hl : s.toList = [83,81,82,84]:=J84
 have e0 : (s.toList == [83,85,77]) = false:=J85
 have e1 : (s.toList == [67,79,85,78,84]) = false:=J85
 have e2 : (s.toList == [77,73,78]) = false:=J85
 have e3 : (s.toList == [77,65,88]) = false:=J85
 have e4 : (s.toList == [65,86,69,82,65,71,69]) = false:=J85
 have e5 : (s.toList == [65,78,68]) = false:=J85
 have e6 : (s.toList == [79,82]) = false:=J85
 have e7 : (s.toList == [67,79,78,67,65,84]) = false:=J85
 have e8 : (s.toList == [73,70]) = false:=J85
 have e9 : (s.toList == [78,79,84]) = false:=J85
 have e10 : (s.toList == [65,66,83]) = false:=J85
 have e11 : (s.toList == [82,79,85,78,68]) = false:=J85
 have e12 : (s.toList == [77,79,68]) = false:=J85
 have e13 : (s.toList == [70,76,79,79,82]) = false:=J85
 have e14 : (s.toList == [83,81,82,84]) = true:=J85
 clear hs hl
 have o0:=(At.mk hR.f hR.n h0).ok
 cases ht : nuR (sgl a0) with
 | error x =>
   have HX : xCall [83,81,82,84] l = .error x:=by show xSqrt l = _;unfold xSqrt;rw [sg_of h0,ht]
   exact K170
 | ok a =>
   have HX : xCall [83,81,82,84] l = (tolR (rootB a) (rootV a)).map V.rw:=by show xSqrt l = _;unfold xSqrt;rw [sg_of h0,ht]
   rw [HX]
   obtain ⟨i1,i2⟩:=nuR_can o0 ht
   have c0:=xnumber_ok hR.f hR.n h0 ht
   have c1:=root_at a i1 (W:=W)
   have hN:=hR.n
   clear HX ht hR h0 o0 i1 i2
   generalize rootV a = y at *
   cases hB : rootB a with
   | false =>
     exact K35
   | true =>
     exact K180
theorem xc_LEN (s : ByteArray) (hs : s.data.toList = [76,69,78]) (l : List Bg) (a0 : Bg) (h0 : l[0]? = some a0) (p : Option Addr) (n c : Nat) (W : World) (hR : Rdy W (.slice p n c) l) :
   Calls Tryz.prog 137 #[.slice p n c,.string s] W fun e w'=>RzQ Rw.dat (xCall [76,69,78] l) e ∧ Ext W w':=by
 have hl : s.toList = [76,69,78]:=J84
 have e0 : (s.toList == [83,85,77]) = false:=J85
 have e1 : (s.toList == [67,79,85,78,84]) = false:=J85
 have e2 : (s.toList == [77,73,78]) = false:=J85
 have e3 : (s.toList == [77,65,88]) = false:=J85
 have e4 : (s.toList == [65,86,69,82,65,71,69]) = false:=J85
 have e5 : (s.toList == [65,78,68]) = false:=J85
 have e6 : (s.toList == [79,82]) = false:=J85
 have e7 : (s.toList == [67,79,78,67,65,84]) = false:=J85
 have e8 : (s.toList == [73,70]) = false:=J85
 have e9 : (s.toList == [78,79,84]) = false:=J85
 have e10 : (s.toList == [65,66,83]) = false:=J85
 have e11 : (s.toList == [82,79,85,78,68]) = false:=J85
 have e12 : (s.toList == [77,79,68]) = false:=J85
 have e13 : (s.toList == [70,76,79,79,82]) = false:=J85
 have e14 : (s.toList == [83,81,82,84]) = false:=J85
 have e15 : (s.toList == [76,69,78]) = true:=J85
 clear hs hl
 have o0:=(At.mk hR.f hR.n h0).ok
 cases ht : teR (sgl a0) with
 | error x =>
   have HX : xCall [76,69,78] l = .error x:=by show xLen l = _;unfold xLen;rw [sg_of h0,ht]
   rw [HX]
   have c0:=xtext_no hR.f hR.n hR.t h0 ht
   clear HX ht hR h0 o0
   go_enter func137,ntmps137
   exact K28
 | ok q =>
   have HX : xCall [76,69,78] l = .ok (mkNum ((q.size : Int) * 10000)).rw:=by show xLen l = _;unfold xLen;rw [sg_of h0,ht]
   rw [HX]
   have hq:=teR_le o0 ht
   have hqI : (q.size : Int) ≤ 300:=J2
   have c0:=xtext_ok hR.f hR.n hR.t h0 ht
   have c1:=num_at ((q.size : Int) * 10000) hR.n
   clear HX ht hR h0 o0 hq
   generalize mkNum ((q.size : Int) * 10000) = v at *
   exact K10
theorem xc_LEFT (s : ByteArray) (hs : s.data.toList = [76,69,70,84]) (l : List Bg) (a0 : Bg) (h0 : l[0]? = some a0) (p : Option Addr) (n c : Nat) (W : World) (hR : Rdy W (.slice p n c) l) :
   Calls Tryz.prog 137 #[.slice p n c,.string s] W fun e w'=>RzQ Rw.dat (xCall [76,69,70,84] l) e ∧ Ext W w':=by
 have HX : xCall [76,69,70,84] l = xLeft l:=rfl
 rw [HX]
 clear HX
 have c0 : ∀ W',Ext W W' → Calls Tryz.prog 198 #[.slice p n c] W' fun e w'=>RzQ Rw.dat (xLeft l) e ∧ Ext W' w':=fun W' e=>xleft_any l a0 h0 p n c W' (hR.f.ext e) (hR.n.ext e) (hR.t.ext e)
 generalize xLeft l = r at *
 clear hR h0
 have hl : s.toList = [76,69,70,84]:=J84
 have e0 : (s.toList == [83,85,77]) = false:=J85
 have e1 : (s.toList == [67,79,85,78,84]) = false:=J85
 have e2 : (s.toList == [77,73,78]) = false:=J85
 have e3 : (s.toList == [77,65,88]) = false:=J85
 have e4 : (s.toList == [65,86,69,82,65,71,69]) = false:=J85
 have e5 : (s.toList == [65,78,68]) = false:=J85
 have e6 : (s.toList == [79,82]) = false:=J85
 have e7 : (s.toList == [67,79,78,67,65,84]) = false:=J85
 have e8 : (s.toList == [73,70]) = false:=J85
 have e9 : (s.toList == [78,79,84]) = false:=J85
 have e10 : (s.toList == [65,66,83]) = false:=J85
 have e11 : (s.toList == [82,79,85,78,68]) = false:=J85
 have e12 : (s.toList == [77,79,68]) = false:=J85
 have e13 : (s.toList == [70,76,79,79,82]) = false:=J85
 have e14 : (s.toList == [83,81,82,84]) = false:=J85
 have e15 : (s.toList == [76,69,78]) = false:=J85
 have e16 : (s.toList == [76,69,70,84]) = true:=J85
 clear hs hl
 cases r with
 | ok r =>
   have C : ∀ W',Ext W W' → Calls Tryz.prog 198 #[.slice p n c] W' fun e w'=>e = .returned (.agg #[.int .i64 r.k,.int .i64 r.n,.string r.s,.int .i64 r.e]) ∧ Ext W' w':=c0
   exact K169
 | error x =>
   have C : ∀ W',Ext W W' → Calls Tryz.prog 198 #[.slice p n c] W' fun e w'=>e = pan x ∧ Ext W' w':=c0
   exact K168
theorem xc_INDEX (s : ByteArray) (hs : s.data.toList = [73,78,68,69,88]) (l : List Bg) (a0 : Bg) (h0 : l[0]? = some a0) (a1 : Bg) (h1 : l[1]? = some a1) (p : Option Addr) (n c : Nat) (W : World) (hR : Rdy W (.slice p n c) l) :
   Calls Tryz.prog 137 #[.slice p n c,.string s] W fun e w'=>RzQ Rw.dat (xCall [73,78,68,69,88] l) e ∧ Ext W w':=by
 have HX : xCall [73,78,68,69,88] l = xIndex l:=rfl
 rw [HX]
 clear HX
 have c0 : ∀ W',Ext W W' → Calls Tryz.prog 199 #[.slice p n c] W' fun e w'=>RzQ Rw.dat (xIndex l) e ∧ Ext W' w':=fun W' e=>xpicked_any l a0 a1 h0 h1 p n c W' (hR.f.ext e) (hR.n.ext e)
 generalize xIndex l = r at *
 clear hR h0 h1
 have hl : s.toList = [73,78,68,69,88]:=J84
 have e0 : (s.toList == [83,85,77]) = false:=J85
 have e1 : (s.toList == [67,79,85,78,84]) = false:=J85
 have e2 : (s.toList == [77,73,78]) = false:=J85
 have e3 : (s.toList == [77,65,88]) = false:=J85
 have e4 : (s.toList == [65,86,69,82,65,71,69]) = false:=J85
 have e5 : (s.toList == [65,78,68]) = false:=J85
 have e6 : (s.toList == [79,82]) = false:=J85
 have e7 : (s.toList == [67,79,78,67,65,84]) = false:=J85
 have e8 : (s.toList == [73,70]) = false:=J85
 have e9 : (s.toList == [78,79,84]) = false:=J85
 have e10 : (s.toList == [65,66,83]) = false:=J85
 have e11 : (s.toList == [82,79,85,78,68]) = false:=J85
 have e12 : (s.toList == [77,79,68]) = false:=J85
 have e13 : (s.toList == [70,76,79,79,82]) = false:=J85
 have e14 : (s.toList == [83,81,82,84]) = false:=J85
 have e15 : (s.toList == [76,69,78]) = false:=J85
 have e16 : (s.toList == [76,69,70,84]) = false:=J85
 have e17 : (s.toList == [73,78,68,69,88]) = true:=J85
 clear hs hl
 cases r with
 | ok r =>
   have C : ∀ W',Ext W W' → Calls Tryz.prog 199 #[.slice p n c] W' fun e w'=>e = .returned (.agg #[.int .i64 r.k,.int .i64 r.n,.string r.s,.int .i64 r.e]) ∧ Ext W' w':=c0
   exact K169
 | error x =>
   have C : ∀ W',Ext W W' → Calls Tryz.prog 199 #[.slice p n c] W' fun e w'=>e = pan x ∧ Ext W' w':=c0
   exact K168
theorem xc_ISERROR (s : ByteArray) (hs : s.data.toList = [73,83,69,82,82,79,82]) (l : List Bg) (a0 : Bg) (h0 : l[0]? = some a0) (p : Option Addr) (n c : Nat) (W : World) (hR : Rdy W (.slice p n c) l) :
   Calls Tryz.prog 137 #[.slice p n c,.string s] W fun e w'=>RzQ Rw.dat (xCall [73,83,69,82,82,79,82] l) e ∧ Ext W w':=by
 have HX : xCall [73,83,69,82,82,79,82] l = .ok (V.tf ((sgl a0).k == 4)).rw:=by show xIsErr l = _;unfold xIsErr;rw [sg_of h0]
 rw [HX]
 clear HX
 have c0:=xsingle_at hR.f hR.n h0
 have hf:=fld_k
 generalize sgl a0 = v at *
 cases hk : (v.k == 4) with
 | true =>
   have c1 : ∀ W',Ext W W' → Calls Tryz.prog 67 #[.bool true] W' fun r w'=>r = .returned (.agg #[.int .i64 1,.int .i64 1,.string ⟨#[]⟩,.int .i64 0]) ∧ Ext W' w':=fun W' e=>bool_at (W:=W) true W' e
   exact K163
 | false =>
   have c1 : ∀ W',Ext W W' → Calls Tryz.prog 67 #[.bool false] W' fun r w'=>r = .returned (.agg #[.int .i64 1,.int .i64 0,.string ⟨#[]⟩,.int .i64 0]) ∧ Ext W' w':=fun W' e=>bool_at (W:=W) false W' e
   exact K163
theorem xc_IFERROR (s : ByteArray) (hs : s.data.toList = [73,70,69,82,82,79,82]) (l : List Bg) (a0 : Bg) (h0 : l[0]? = some a0) (a1 : Bg) (h1 : l[1]? = some a1) (p : Option Addr) (n c : Nat) (W : World) (hR : Rdy W (.slice p n c) l) :
   Calls Tryz.prog 137 #[.slice p n c,.string s] W fun e w'=>RzQ Rw.dat (xCall [73,70,69,82,82,79,82] l) e ∧ Ext W w':=by
 have HX : xCall [73,70,69,82,82,79,82] l = xIfErr l:=rfl
 rw [HX]
 clear HX
 have c0 : ∀ W',Ext W W' → Calls Tryz.prog 201 #[.slice p n c] W' fun e w'=>RzQ Rw.dat (xIfErr l) e ∧ Ext W' w':=fun W' e=>xsound_any l a0 a1 h0 h1 p n c W' (hR.f.ext e) (hR.n.ext e)
 generalize xIfErr l = r at *
 clear hR h0 h1
 have hl : s.toList = [73,70,69,82,82,79,82]:=J84
 have e0 : (s.toList == [83,85,77]) = false:=J85
 have e1 : (s.toList == [67,79,85,78,84]) = false:=J85
 have e2 : (s.toList == [77,73,78]) = false:=J85
 have e3 : (s.toList == [77,65,88]) = false:=J85
 have e4 : (s.toList == [65,86,69,82,65,71,69]) = false:=J85
 have e5 : (s.toList == [65,78,68]) = false:=J85
 have e6 : (s.toList == [79,82]) = false:=J85
 have e7 : (s.toList == [67,79,78,67,65,84]) = false:=J85
 have e8 : (s.toList == [73,70]) = false:=J85
 have e9 : (s.toList == [78,79,84]) = false:=J85
 have e10 : (s.toList == [65,66,83]) = false:=J85
 have e11 : (s.toList == [82,79,85,78,68]) = false:=J85
 have e12 : (s.toList == [77,79,68]) = false:=J85
 have e13 : (s.toList == [70,76,79,79,82]) = false:=J85
 have e14 : (s.toList == [83,81,82,84]) = false:=J85
 have e15 : (s.toList == [76,69,78]) = false:=J85
 have e16 : (s.toList == [76,69,70,84]) = false:=J85
 have e17 : (s.toList == [73,78,68,69,88]) = false:=J85
 have e18 : (s.toList == [73,83,69,82,82,79,82]) = false:=J85
 have e19 : (s.toList == [73,70,69,82,82,79,82]) = true:=J85
 clear hs hl
 cases r with
 | ok r =>
   have C : ∀ W',Ext W W' → Calls Tryz.prog 201 #[.slice p n c] W' fun e w'=>e = .returned (.agg #[.int .i64 r.k,.int .i64 r.n,.string r.s,.int .i64 r.e]) ∧ Ext W' w':=c0
   exact K169
 | error x =>
   have C : ∀ W',Ext W W' → Calls Tryz.prog 201 #[.slice p n c] W' fun e w'=>e = pan x ∧ Ext W' w':=c0
   exact K168
theorem known_any (s : ByteArray) (w : World) :
   Calls Tryz.prog 63 #[.string s] w fun e w'=>e = .returned (.tuple #[.int .i64 (knA s.data.toList),.int .i64 (knB s.data.toList),.bool (kno s.data.toList).isSome]) ∧ w' = w:=by
 have hs:=ByteArray.toList_eq s
 obtain ⟨l,hl⟩ : ∃ l,s.data.toList = l:=⟨_,rfl⟩
 rw [hl] at hs ⊢
 clear hl
 by_cases h0 : l = [83,85,77]
 · subst h0
   have e0 : (s.toList == [83,85,77]) = true:=J87
   clear hs 
   exact K165
 have e0 : (s.toList == [83,85,77]) = false:=J88
 by_cases h1 : l = [67,79,85,78,84]
 · subst h1
   have e1 : (s.toList == [67,79,85,78,84]) = true:=J87
   clear hs h0
   exact K165
 have e1 : (s.toList == [67,79,85,78,84]) = false:=J89
 by_cases h2 : l = [77,73,78]
 · subst h2
   have e2 : (s.toList == [77,73,78]) = true:=J87
   clear hs h0 h1
   exact K165
 have e2 : (s.toList == [77,73,78]) = false:=J90
 by_cases h3 : l = [77,65,88]
 · subst h3
   have e3 : (s.toList == [77,65,88]) = true:=J87
   clear hs h0 h1 h2
   exact K165
 have e3 : (s.toList == [77,65,88]) = false:=J91
 by_cases h4 : l = [65,86,69,82,65,71,69]
 · subst h4
   have e4 : (s.toList == [65,86,69,82,65,71,69]) = true:=J87
   clear hs h0 h1 h2 h3
   exact K165
 have e4 : (s.toList == [65,86,69,82,65,71,69]) = false:=J92
 by_cases h5 : l = [65,78,68]
 · subst h5
   have e5 : (s.toList == [65,78,68]) = true:=J87
   clear hs h0 h1 h2 h3 h4
   exact K165
 have e5 : (s.toList == [65,78,68]) = false:=J93
 by_cases h6 : l = [79,82]
 · subst h6
   have e6 : (s.toList == [79,82]) = true:=J87
   clear hs h0 h1 h2 h3 h4 h5
   exact K165
 have e6 : (s.toList == [79,82]) = false:=J94
 by_cases h7 : l = [67,79,78,67,65,84]
 · subst h7
   have e7 : (s.toList == [67,79,78,67,65,84]) = true:=J87
   clear hs h0 h1 h2 h3 h4 h5 h6
   exact K165
 have e7 : (s.toList == [67,79,78,67,65,84]) = false:=J95
 by_cases h8 : l = [73,70]
 · subst h8
   have e8 : (s.toList == [73,70]) = true:=J87
   clear hs h0 h1 h2 h3 h4 h5 h6 h7
   exact K165
 have e8 : (s.toList == [73,70]) = false:=J96
 by_cases h9 : l = [73,78,68,69,88]
 · subst h9
   have e9 : (s.toList == [73,78,68,69,88]) = true:=J87
   clear hs h0 h1 h2 h3 h4 h5 h6 h7 h8
   exact K165
 have e9 : (s.toList == [73,78,68,69,88]) = false:=J97
 by_cases h10 : l = [82,79,85,78,68]
 · subst h10
   have e10 : (s.toList == [82,79,85,78,68]) = true:=J87
   clear hs h0 h1 h2 h3 h4 h5 h6 h7 h8 h9
   exact K165
 have e10 : (s.toList == [82,79,85,78,68]) = false:=J98
 by_cases h11 : l = [77,79,68]
 · subst h11
   have e11 : (s.toList == [77,79,68]) = true:=J87
   clear hs h0 h1 h2 h3 h4 h5 h6 h7 h8 h9 h10
   exact K165
 have e11 : (s.toList == [77,79,68]) = false:=by rw [hs];simpa using h11
 by_cases h12 : l = [73,70,69,82,82,79,82]
 · subst h12
   have e12 : (s.toList == [73,70,69,82,82,79,82]) = true:=J87
   clear hs h0 h1 h2 h3 h4 h5 h6 h7 h8 h9 h10 h11
   exact K165
 have e12 : (s.toList == [73,70,69,82,82,79,82]) = false:=by rw [hs];simpa using h12
 by_cases h13 : l = [76,69,70,84]
 · subst h13
   have e13 : (s.toList == [76,69,70,84]) = true:=J87
   clear hs h0 h1 h2 h3 h4 h5 h6 h7 h8 h9 h10 h11 h12
   exact K165
 have e13 : (s.toList == [76,69,70,84]) = false:=by rw [hs];simpa using h13
 by_cases h14 : l = [78,79,84]
 · subst h14
   have e14 : (s.toList == [78,79,84]) = true:=J87
   clear hs h0 h1 h2 h3 h4 h5 h6 h7 h8 h9 h10 h11 h12 h13
   exact K165
 have e14 : (s.toList == [78,79,84]) = false:=by rw [hs];simpa using h14
 by_cases h15 : l = [65,66,83]
 · subst h15
   have e15 : (s.toList == [65,66,83]) = true:=J87
   clear hs h0 h1 h2 h3 h4 h5 h6 h7 h8 h9 h10 h11 h12 h13 h14
   exact K165
 have e15 : (s.toList == [65,66,83]) = false:=by rw [hs];simpa using h15
 by_cases h16 : l = [70,76,79,79,82]
 · subst h16
   have e16 : (s.toList == [70,76,79,79,82]) = true:=J87
   clear hs h0 h1 h2 h3 h4 h5 h6 h7 h8 h9 h10 h11 h12 h13 h14 h15
   exact K165
 have e16 : (s.toList == [70,76,79,79,82]) = false:=by rw [hs];simpa using h16
 by_cases h17 : l = [83,81,82,84]
 · subst h17
   have e17 : (s.toList == [83,81,82,84]) = true:=J87
   clear hs h0 h1 h2 h3 h4 h5 h6 h7 h8 h9 h10 h11 h12 h13 h14 h15 h16
   exact K165
 have e17 : (s.toList == [83,81,82,84]) = false:=by rw [hs];simpa using h17
 by_cases h18 : l = [76,69,78]
 · subst h18
   have e18 : (s.toList == [76,69,78]) = true:=J87
   clear hs h0 h1 h2 h3 h4 h5 h6 h7 h8 h9 h10 h11 h12 h13 h14 h15 h16 h17
   exact K165
 have e18 : (s.toList == [76,69,78]) = false:=by rw [hs];simpa using h18
 by_cases h19 : l = [73,83,69,82,82,79,82]
 · subst h19
   have e19 : (s.toList == [73,83,69,82,82,79,82]) = true:=J87
   clear hs h0 h1 h2 h3 h4 h5 h6 h7 h8 h9 h10 h11 h12 h13 h14 h15 h16 h17 h18
   exact K165
 have e19 : (s.toList == [73,83,69,82,82,79,82]) = false:=by rw [hs];simpa using h19
 have HK : Hid (kno l = none):=J99
 clear hs h0 h1 h2 h3 h4 h5 h6 h7 h8 h9 h10 h11 h12 h13 h14 h15 h16 h17 h18 h19
 go_enter func63,ntmps63
 go_wp2_with fail
 go_ret3
 unfold knA knB
 rw [HK.out]
 exact ⟨rfl,rfl⟩
theorem rknown_any (s : ByteArray) (w : World) :
   Calls Tryz.prog 54 #[.string s] w fun e w'=>e = .returned (.tuple #[.int .i64 (knA s.data.toList),.int .i64 (knB s.data.toList),.bool (kno s.data.toList).isSome]) ∧ w' = w:=by
 have hs:=ByteArray.toList_eq s
 obtain ⟨l,hl⟩ : ∃ l,s.data.toList = l:=⟨_,rfl⟩
 rw [hl] at hs ⊢
 clear hl
 by_cases h0 : l = [83,85,77]
 · subst h0
   have e0 : (s.toList == [83,85,77]) = true:=J87
   clear hs 
   exact K166
 have e0 : (s.toList == [83,85,77]) = false:=J88
 by_cases h1 : l = [67,79,85,78,84]
 · subst h1
   have e1 : (s.toList == [67,79,85,78,84]) = true:=J87
   clear hs h0
   exact K166
 have e1 : (s.toList == [67,79,85,78,84]) = false:=J89
 by_cases h2 : l = [77,73,78]
 · subst h2
   have e2 : (s.toList == [77,73,78]) = true:=J87
   clear hs h0 h1
   exact K166
 have e2 : (s.toList == [77,73,78]) = false:=J90
 by_cases h3 : l = [77,65,88]
 · subst h3
   have e3 : (s.toList == [77,65,88]) = true:=J87
   clear hs h0 h1 h2
   exact K166
 have e3 : (s.toList == [77,65,88]) = false:=J91
 by_cases h4 : l = [65,86,69,82,65,71,69]
 · subst h4
   have e4 : (s.toList == [65,86,69,82,65,71,69]) = true:=J87
   clear hs h0 h1 h2 h3
   exact K166
 have e4 : (s.toList == [65,86,69,82,65,71,69]) = false:=J92
 by_cases h5 : l = [65,78,68]
 · subst h5
   have e5 : (s.toList == [65,78,68]) = true:=J87
   clear hs h0 h1 h2 h3 h4
   exact K166
 have e5 : (s.toList == [65,78,68]) = false:=J93
 by_cases h6 : l = [79,82]
 · subst h6
   have e6 : (s.toList == [79,82]) = true:=J87
   clear hs h0 h1 h2 h3 h4 h5
   exact K166
 have e6 : (s.toList == [79,82]) = false:=J94
 by_cases h7 : l = [67,79,78,67,65,84]
 · subst h7
   have e7 : (s.toList == [67,79,78,67,65,84]) = true:=J87
   clear hs h0 h1 h2 h3 h4 h5 h6
   exact K166
 have e7 : (s.toList == [67,79,78,67,65,84]) = false:=J95
 by_cases h8 : l = [73,70]
 · subst h8
   have e8 : (s.toList == [73,70]) = true:=J87
   clear hs h0 h1 h2 h3 h4 h5 h6 h7
   exact K166
 have e8 : (s.toList == [73,70]) = false:=J96
 by_cases h9 : l = [73,78,68,69,88]
 · subst h9
   have e9 : (s.toList == [73,78,68,69,88]) = true:=J87
   clear hs h0 h1 h2 h3 h4 h5 h6 h7 h8
   exact K166
 have e9 : (s.toList == [73,78,68,69,88]) = false:=J97
 by_cases h10 : l = [82,79,85,78,68]
 · subst h10
   have e10 : (s.toList == [82,79,85,78,68]) = true:=J87
   clear hs h0 h1 h2 h3 h4 h5 h6 h7 h8 h9
   exact K166
 have e10 : (s.toList == [82,79,85,78,68]) = false:=J98
 by_cases h11 : l = [77,79,68]
 · subst h11
   have e11 : (s.toList == [77,79,68]) = true:=J87
   clear hs h0 h1 h2 h3 h4 h5 h6 h7 h8 h9 h10
   exact K166
 have e11 : (s.toList == [77,79,68]) = false:=by rw [hs];simpa using h11
 by_cases h12 : l = [73,70,69,82,82,79,82]
 · subst h12
   have e12 : (s.toList == [73,70,69,82,82,79,82]) = true:=J87
   clear hs h0 h1 h2 h3 h4 h5 h6 h7 h8 h9 h10 h11
   exact K166
 have e12 : (s.toList == [73,70,69,82,82,79,82]) = false:=by rw [hs];simpa using h12
 by_cases h13 : l = [76,69,70,84]
 · subst h13
   have e13 : (s.toList == [76,69,70,84]) = true:=J87
   clear hs h0 h1 h2 h3 h4 h5 h6 h7 h8 h9 h10 h11 h12
   exact K166
 have e13 : (s.toList == [76,69,70,84]) = false:=by rw [hs];simpa using h13
 by_cases h14 : l = [78,79,84]
 · subst h14
   have e14 : (s.toList == [78,79,84]) = true:=J87
   clear hs h0 h1 h2 h3 h4 h5 h6 h7 h8 h9 h10 h11 h12 h13
   exact K166
 have e14 : (s.toList == [78,79,84]) = false:=by rw [hs];simpa using h14
 by_cases h15 : l = [65,66,83]
 · subst h15
   have e15 : (s.toList == [65,66,83]) = true:=J87
   clear hs h0 h1 h2 h3 h4 h5 h6 h7 h8 h9 h10 h11 h12 h13 h14
   exact K166
 have e15 : (s.toList == [65,66,83]) = false:=by rw [hs];simpa using h15
 by_cases h16 : l = [70,76,79,79,82]
 · subst h16
   have e16 : (s.toList == [70,76,79,79,82]) = true:=J87
   clear hs h0 h1 h2 h3 h4 h5 h6 h7 h8 h9 h10 h11 h12 h13 h14 h15
   exact K166
 have e16 : (s.toList == [70,76,79,79,82]) = false:=by rw [hs];simpa using h16
 by_cases h17 : l = [83,81,82,84]
 · subst h17
   have e17 : (s.toList == [83,81,82,84]) = true:=J87
   clear hs h0 h1 h2 h3 h4 h5 h6 h7 h8 h9 h10 h11 h12 h13 h14 h15 h16
   exact K166
 have e17 : (s.toList == [83,81,82,84]) = false:=by rw [hs];simpa using h17
 by_cases h18 : l = [76,69,78]
 · subst h18
   have e18 : (s.toList == [76,69,78]) = true:=J87
   clear hs h0 h1 h2 h3 h4 h5 h6 h7 h8 h9 h10 h11 h12 h13 h14 h15 h16 h17
   exact K166
 have e18 : (s.toList == [76,69,78]) = false:=by rw [hs];simpa using h18
 by_cases h19 : l = [73,83,69,82,82,79,82]
 · subst h19
   have e19 : (s.toList == [73,83,69,82,82,79,82]) = true:=J87
   clear hs h0 h1 h2 h3 h4 h5 h6 h7 h8 h9 h10 h11 h12 h13 h14 h15 h16 h17 h18
   exact K166
 have e19 : (s.toList == [73,83,69,82,82,79,82]) = false:=by rw [hs];simpa using h19
 have HK : Hid (kno l = none):=J99
 clear hs h0 h1 h2 h3 h4 h5 h6 h7 h8 h9 h10 h11 h12 h13 h14 h15 h16 h17 h18 h19
 go_enter func54,ntmps54
 go_wp2_with fail
 go_ret3
 unfold knA knB
 rw [HK.out]
 exact ⟨rfl,rfl⟩
theorem xcatch_idle (p : Addr) (w : World) :
   CallsD Tryz.prog 136 #[.pointer (some p)] .returning w fun e u' w'=>e = .returned (.tuple #[]) ∧ u' = .returning ∧ w' = w:=by
 refine callsD_of_wpS func136 rfl fun c₀ cs hu=>?_
 apply wpS_seq
 apply wpS_region
 simp [wpOpsS,go_sem,recoverD,hu,ntmps136,Exit.thenS]
 refine wpS_of_wp ?_
 simp only [Array.replicate_succ,Array.replicate_zero,List.push_toArray,List.append_toArray,List.nil_append,List.cons_append,List.setIfInBounds_toArray,List.set_cons_zero,List.set_cons_succ]
 go_wp2
 cases c₀
 simp_all [bodyPostS,results,results136]
theorem xassert (x : Int) (W : World) : (Instr.typeAssert (.iface 162 (.int .i64 x)) 20 162 false).run Tryz.prog W = .ok (.int .i64 x) W:=J3
theorem xcatch_fault (b : Nat) (x : Int) (w0 w : World) (hE : Ext w0 w) (hb : w0.heap.size ≤ b) (B : Blk w b (.int .i64 0) (.int .i64 0) (.string ⟨#[]⟩) (.int .i64 0)) (hN : Nm w) :
   CallsD Tryz.prog 136 #[.pointer (some ⟨b,0,none⟩)] (.panicking [{ v:=.iface 162 (.int .i64 x),recovered:=false }]) w fun e u' w'=>e = .returned (.tuple #[]) ∧ u' = .panicking [{ v:=.iface 162 (.int .i64 x),recovered:=true }] ∧ Ext w0 w' ∧ Blk w' b (.int .i64 (mkErr x).k) (.int .i64 (mkErr x).n) (.string (mkErr x).s) (.int .i64 (mkErr x).e):=by
 have HE : Hid (Ext w0 w ∧ w0.heap.size ≤ b ∧ Nm w ∧ Blk w b (.int .i64 0) (.int .i64 0) (.string ⟨#[]⟩) (.int .i64 0)):=⟨hE,hb,hN,B⟩
 have c0:=fun W h=>err_any x W h
 rw [dat_eq] at c0
 generalize mkErr x = v at *
 clear hE hb hN B
 have hta:=xassert x
 refine callsD_of_wpS func136 rfl fun c₀ cs hu=>?_
 apply wpS_seq
 apply wpS_region
 simp [wpOpsS,go_sem,recoverD,hu,ntmps136,Exit.thenS]
 refine wpS_of_wp ?_
 simp only [Array.replicate_succ,Array.replicate_zero,List.push_toArray,List.append_toArray,List.nil_append,List.cons_append,List.setIfInBounds_toArray,List.set_cons_zero,List.set_cons_succ]
 go_wp2_with fail
 refine (c0 _ HE.out.2.2.1).mono ?_
 rintro e w1 ⟨rfl,E1⟩
 have HB : Hid (Blk w1 b (.int .i64 0) (.int .i64 0) (.string ⟨#[]⟩) (.int .i64 0) ∧ Ext w0 w1):=⟨HE.out.2.2.2.ext E1,HE.out.1.trans E1⟩
 clear E1
 obtain ⟨z,⟨b0,b1,b2,b3⟩,f0,f1,f2,f3⟩:=HB.out.1
 go_wp2_with fail
 exact ⟨rfl,_,rfl,.tuple #[],results_none rfl _ _ _,rfl,rfl,(((HB.out.2.setCell HE.out.2.1 _).setCell HE.out.2.1 _).setCell HE.out.2.1 _).setCell HE.out.2.1 _,HB.out.1.set _ _ _ _⟩
def ansW : R Rw → Rw
 | .ok r=>r
 | .error x=>(mkErr x).rw
theorem xanswer_any (s : ByteArray) (p : Option Addr) (n c : Nat) (W : World) (hN : Nm W) (r : R Rw)
   (hC : ∀ W',Ext W W' → Calls Tryz.prog 137 #[.slice p n c,.string s] W' fun e w'=>RzQ Rw.dat r e ∧ Ext W' w') :
   Calls Tryz.prog 101 #[.string s,.slice p n c] W fun e w'=>e = .returned (ansW r).dat ∧ Ext W w':=by
 have hmf : ∀ (fn : Fn) (first cap : Array Value) (w : World),(Instr.makeFunc fn first cap).run Tryz.prog w = .ok (.func fn first cap) w:=fun _ _ _ _=>rfl
 have HN : Hid (Nm W):=hN
 clear hN
 cases r with
 | error x =>
   have C : ∀ W',Ext W W' → Calls Tryz.prog 137 #[.slice p n c,.string s] W' fun e w'=>e = pan x ∧ Ext W' w':=hC
   clear hC
   go_enter_defers func101,ntmps101
   go_wp2_with fail
   refine (C _ (xr.alloc _)).mono ?_
   rintro e w1 ⟨rfl,E1⟩
   have B1:=blk_top (b:=W.heap.size) J58 E1
   have X1 : Ext W w1:=(xr.alloc _).trans E1
   refine leaves_cons (f:=136) (args:=#[.pointer (some ⟨W.heap.size,0,none⟩)]) J58 J17 ?_
   refine (xcatch_fault W.heap.size x W w1 X1 nrf B1 (HN.out.ext X1)).mono ?_
   rintro e u' w2 ⟨rfl,rfl,E2,B2⟩
   obtain ⟨z,⟨d0,d1,d2,d3⟩,_⟩:=B2
   simp [Leaves,settle,results,results101,go_sem,d0,d1,d2,d3]
   exact ⟨rfl,E2⟩
 | ok q =>
   have C : ∀ W',Ext W W' → Calls Tryz.prog 137 #[.slice p n c,.string s] W' fun e w'=>e = .returned (.agg #[.int .i64 q.k,.int .i64 q.n,.string q.s,.int .i64 q.e]) ∧ Ext W' w':=hC
   clear hC
   go_enter_defers func101,ntmps101
   go_wp2_with fail
   refine (C _ (xr.alloc _)).mono ?_
   rintro e w1 ⟨rfl,E1⟩
   have B1 : Hid (Blk w1 W.heap.size (.int .i64 0) (.int .i64 0) (.string ⟨#[]⟩) (.int .i64 0) ∧ Ext W w1):=⟨blk_top J58 E1,(xr.alloc _).trans E1⟩
   clear E1
   obtain ⟨z,⟨b0,b1,b2,b3⟩,f0,f1,f2,f3⟩:=B1.out.1
   go_wp2_with fail
   have X2 : Ext W ((((w1.setCell ⟨W.heap.size,0,none⟩ (.int .i64 q.k)).setCell ⟨W.heap.size,1,none⟩ (.int .i64 q.n)).setCell ⟨W.heap.size,2,none⟩ (.string q.s)).setCell ⟨W.heap.size,3,none⟩ (.int .i64 q.e)):=(((B1.out.2.setCell nrf _).setCell nrf _).setCell nrf _).setCell nrf _
   have B2:=B1.out.1.set (.int .i64 q.k) (.int .i64 q.n) (.string q.s) (.int .i64 q.e)
   generalize (((w1.setCell ⟨W.heap.size,0,none⟩ (.int .i64 q.k)).setCell ⟨W.heap.size,1,none⟩ (.int .i64 q.n)).setCell ⟨W.heap.size,2,none⟩ (.string q.s)).setCell ⟨W.heap.size,3,none⟩ (.int .i64 q.e) = w2 at *
   refine leaves_cons (f:=136) (args:=#[.pointer (some ⟨W.heap.size,0,none⟩)]) J58 J17 ?_
   refine (xcatch_idle ⟨W.heap.size,0,none⟩ w2).mono ?_
   rintro e u' w3 ⟨rfl,rfl,rfl⟩
   obtain ⟨z',⟨d0,d1,d2,d3⟩,_⟩:=B2
   simp [Leaves,settle,results,results101,go_sem,d0,d1,d2,d3]
   exact ⟨rfl,X2⟩
theorem okN_is {q : List UInt8} {n : Nat} (h : okN q n = true) : (kno q).isSome = true ∧ knA q ≤ n ∧ (n : Int) ≤ knB q:=by
 unfold okN at h
 simp at h
 exact ⟨h.1.1,h.1.2,h.2⟩
theorem at_some {l : List Bg} {i : Nat} (h : i < l.length) : ∃ a,l[i]? = some a:=⟨_,gEq h⟩
theorem xdisp (s : ByteArray) (q : List UInt8) (hq : s.data.toList = q) (l : List Bg) (hk : okN q l.length = true) (p : Option Addr) (n c : Nat) (W : World) (hR : Rdy W (.slice p n c) l) :
   ∀ W',Ext W W' → Calls Tryz.prog 137 #[.slice p n c,.string s] W' fun e w'=>RzQ Rw.dat (xCall q l) e ∧ Ext W' w':=by
 intro W' e
 have hR':=hR.ext e
 obtain ⟨k1,k2,k3⟩:=okN_is hk
 by_cases e0 : q = [83,85,77]
 · subst e0
   exact xc_SUM s hq l p n c W' hR'
 by_cases e1 : q = [67,79,85,78,84]
 · subst e1
   exact xc_COUNT s hq l p n c W' hR'
 by_cases e2 : q = [77,73,78]
 · subst e2
   exact xc_MIN s hq l p n c W' hR'
 by_cases e3 : q = [77,65,88]
 · subst e3
   exact xc_MAX s hq l p n c W' hR'
 by_cases e4 : q = [65,86,69,82,65,71,69]
 · subst e4
   exact xc_AVERAGE s hq l p n c W' hR'
 by_cases e5 : q = [65,78,68]
 · subst e5
   exact xc_AND s hq l p n c W' hR'
 by_cases e6 : q = [79,82]
 · subst e6
   exact xc_OR s hq l p n c W' hR'
 by_cases e7 : q = [67,79,78,67,65,84]
 · subst e7
   exact xc_CONCAT s hq l p n c W' hR'
 by_cases e8 : q = [73,70]
 · subst e8
   have hk2 : knA [73,70] = 2:=rfl
   rw [hk2] at k2
   obtain ⟨a0,h0⟩:=at_some (l:=l) (i:=0) J2
   obtain ⟨a1,h1⟩:=at_some (l:=l) (i:=1) J2
   exact xc_IF s hq l a0 h0 a1 h1 p n c W' hR'
 by_cases e9 : q = [78,79,84]
 · subst e9
   have hk2 : knA [78,79,84] = 1:=rfl
   rw [hk2] at k2
   obtain ⟨a0,h0⟩:=at_some (l:=l) (i:=0) J2
   exact xc_NOT s hq l a0 h0 p n c W' hR'
 by_cases e10 : q = [65,66,83]
 · subst e10
   have hk2 : knA [65,66,83] = 1:=rfl
   rw [hk2] at k2
   obtain ⟨a0,h0⟩:=at_some (l:=l) (i:=0) J2
   exact xc_ABS s hq l a0 h0 p n c W' hR'
 by_cases e11 : q = [82,79,85,78,68]
 · subst e11
   have hk2 : knA [82,79,85,78,68] = 2:=rfl
   rw [hk2] at k2
   obtain ⟨a0,h0⟩:=at_some (l:=l) (i:=0) J2
   obtain ⟨a1,h1⟩:=at_some (l:=l) (i:=1) J2
   exact xc_ROUND s hq l a0 h0 a1 h1 p n c W' hR'
 by_cases e12 : q = [77,79,68]
 · subst e12
   have hk2 : knA [77,79,68] = 2:=rfl
   rw [hk2] at k2
   obtain ⟨a0,h0⟩:=at_some (l:=l) (i:=0) J2
   obtain ⟨a1,h1⟩:=at_some (l:=l) (i:=1) J2
   exact xc_MOD s hq l a0 h0 a1 h1 p n c W' hR'
 by_cases e13 : q = [70,76,79,79,82]
 · subst e13
   have hk2 : knA [70,76,79,79,82] = 1:=rfl
   rw [hk2] at k2
   obtain ⟨a0,h0⟩:=at_some (l:=l) (i:=0) J2
   exact xc_FLOOR s hq l a0 h0 p n c W' hR'
 by_cases e14 : q = [83,81,82,84]
 · subst e14
   have hk2 : knA [83,81,82,84] = 1:=rfl
   rw [hk2] at k2
   obtain ⟨a0,h0⟩:=at_some (l:=l) (i:=0) J2
   exact xc_SQRT s hq l a0 h0 p n c W' hR'
 by_cases e15 : q = [76,69,78]
 · subst e15
   have hk2 : knA [76,69,78] = 1:=rfl
   rw [hk2] at k2
   obtain ⟨a0,h0⟩:=at_some (l:=l) (i:=0) J2
   exact xc_LEN s hq l a0 h0 p n c W' hR'
 by_cases e16 : q = [76,69,70,84]
 · subst e16
   have hk2 : knA [76,69,70,84] = 1:=rfl
   rw [hk2] at k2
   obtain ⟨a0,h0⟩:=at_some (l:=l) (i:=0) J2
   exact xc_LEFT s hq l a0 h0 p n c W' hR'
 by_cases e17 : q = [73,78,68,69,88]
 · subst e17
   have hk2 : knA [73,78,68,69,88] = 2:=rfl
   rw [hk2] at k2
   obtain ⟨a0,h0⟩:=at_some (l:=l) (i:=0) J2
   obtain ⟨a1,h1⟩:=at_some (l:=l) (i:=1) J2
   exact xc_INDEX s hq l a0 h0 a1 h1 p n c W' hR'
 by_cases e18 : q = [73,83,69,82,82,79,82]
 · subst e18
   have hk2 : knA [73,83,69,82,82,79,82] = 1:=rfl
   rw [hk2] at k2
   obtain ⟨a0,h0⟩:=at_some (l:=l) (i:=0) J2
   exact xc_ISERROR s hq l a0 h0 p n c W' hR'
 by_cases e19 : q = [73,70,69,82,82,79,82]
 · subst e19
   have hk2 : knA [73,70,69,82,82,79,82] = 2:=rfl
   rw [hk2] at k2
   obtain ⟨a0,h0⟩:=at_some (l:=l) (i:=0) J2
   obtain ⟨a1,h1⟩:=at_some (l:=l) (i:=1) J2
   exact xc_IFERROR s hq l a0 h0 a1 h1 p n c W' hR'
 exact absurd k1 (by simp [kno,kn1,kn2,kn3,kn4,kn5,e0,e1,e2,e3,e4,e5,e6,e7,e8,e9,e10,e11,e12,e13,e14,e15,e16,e17,e18,e19])
theorem ansW_v (r : R Rw) : nm (ansW r).k (ansW r).n (ansW r).s (ansW r).e = ansV r:=by
 cases r with
 | ok q=>rfl
 | error x=>exact (nm_of (mkErr x) (mkErr_ok x)).1
theorem fnV_no {q : List UInt8} {l : List Bg} (h : okN q l.length = false) : fnV q l = .err 2:=by unfold fnV;rw [h];rfl
theorem fnV_ok {q : List UInt8} {l : List Bg} (h : okN q l.length = true) : fnV q l = ansV (xCall q l):=by unfold fnV;rw [h];rfl
theorem xcall_any (s : ByteArray) (l : List Bg) (p : Option Addr) (n c : Nat) (W : World) (hR : Rdy W (.slice p n c) l) :
   Calls Tryz.prog 70 #[.string s,.slice p n c] W fun e w'=>e = .returned (fnV s.data.toList l).dat ∧ Ext W w':=by
 have c0:=fun W=>known_any s W
 have cE:=fun W h=>err_any 2 W h
 rw [mkErr_is ⟨by decide,by decide⟩] at cE
 simp only [V.dat] at cE
 have hn:=hR.f.rd.len
 have hz:=hR.f.z
 have nI : (n : Int) ≤ 10000000000:=J2
 have HN : Hid (Nm W):=hR.n
 obtain ⟨q,hq⟩ : ∃ q,s.data.toList = q:=⟨_,rfl⟩
 rw [hq] at c0 ⊢
 cases hok : okN q l.length with
 | true =>
   obtain ⟨t1,t2,t3⟩:=okN_is hok
   have cA : ∀ W',Ext W W' → Calls Tryz.prog 101 #[.string s,.slice p n c] W' fun e w'=>e = .returned (ansW (xCall q l)).dat ∧ Ext W' w':=fun W' e =>
     xanswer_any s p n c W' (hR.n.ext e) (xCall q l) (fun W'' e'=>xdisp s q hq l hok p n c W' (hR.ext e) W'' e')
   rw [fnV_ok hok,← ansW_v]
   generalize ansW (xCall q l) = r at *
   have cA' : ∀ W',Ext W W' → Calls Tryz.prog 101 #[.string s,.slice p n c] W' fun e w'=>e = .returned (.agg #[.int .i64 r.k,.int .i64 r.n,.string r.s,.int .i64 r.e]) ∧ Ext W' w':=cA
   have cN:=fun W h=>vnormal_any r.k r.n r.s r.e W h
   rw [dat_eq] at cN ⊢
   generalize nm r.k r.n r.s r.e = v at *
   rw [t1] at c0
   have d2 : ¬ (n : Int) < knA q:=J2
   have d3 : ¬ (n : Int) > knB q:=J2
   generalize knA q = ka at *
   generalize knB q = kb at *
   clear cA cE hR hok t1 t2 t3 hq hn hz
   go_enter func70,ntmps70
   go_wp2_with fail
   refine (c0 _).mono ?_
   rintro e w1 ⟨rfl,rfl⟩
   go_wp2_with fail
   refine (cA' _ (xr.alloc _)).mono ?_
   rintro e w2 ⟨rfl,E2⟩
   have B2 : Hid (Blk w2 W.heap.size (.int .i64 0) (.int .i64 0) (.string ⟨#[]⟩) (.int .i64 0) ∧ Ext W w2):=⟨blk_top J58 E2,(xr.alloc _).trans E2⟩
   clear E2
   go_wp2_with fail
   refine (cN _ (HN.out.ext B2.out.2)).mono ?_
   rintro e w3 ⟨rfl,E3⟩
   have B3 : Hid (Blk w3 W.heap.size (.int .i64 0) (.int .i64 0) (.string ⟨#[]⟩) (.int .i64 0) ∧ Ext W w3):=⟨B2.out.1.ext E3,B2.out.2.trans E3⟩
   clear E3
   obtain ⟨z,⟨b0,b1,b2,b3⟩,f0,f1,f2,f3⟩:=B3.out.1
   go_wp2_with fail
   exact fin4 b0 b1 b2 b3 rfl J58 B3.out.2 (fun W g0 g1 g2 g3=>by simp [results,results70,go_sem,g0,g1,g2,g3]) (fun W h=>⟨rfl,h⟩)
 | false =>
   rw [fnV_no hok]
   have hbad : (kno q).isSome = false ∨ ((kno q).isSome = true ∧ (n : Int) < knA q) ∨ ((kno q).isSome = true ∧ ¬ (n : Int) < knA q ∧ (n : Int) > knB q):=by
     cases h1 : (kno q).isSome
     · exact .inl rfl
     · unfold okN at hok
       rw [h1] at hok
       simp at hok
       by_cases h2 : (n : Int) < knA q
       · exact .inr (.inl ⟨rfl,h2⟩)
       · have:=hok J2
         exact .inr (.inr ⟨rfl,h2,by omega⟩)
   generalize knA q = ka at *
   generalize knB q = kb at *
   generalize (kno q).isSome = kb0 at *
   clear hR hok hq hn hz
   rcases hbad with rfl | ⟨rfl,d2⟩ | ⟨rfl,d2,d3⟩
   all_goals
     go_enter func70,ntmps70
     go_wp2_with fail
     refine (c0 _).mono ?_
     rintro e w1 ⟨rfl,rfl⟩
     go_wp2_with fail
     refine (cE _ (HN.out.ext (xr.alloc _))).mono ?_
     rintro e w2 ⟨rfl,E2⟩
     have B2 : Hid (Blk w2 W.heap.size (.int .i64 0) (.int .i64 0) (.string ⟨#[]⟩) (.int .i64 0) ∧ Ext W w2):=⟨blk_top J58 E2,(xr.alloc _).trans E2⟩
     clear E2
     obtain ⟨z,⟨b0,b1,b2,b3⟩,f0,f1,f2,f3⟩:=B2.out.1
     go_wp2_with fail
     exact fin4 b0 b1 b2 b3 rfl J58 B2.out.2 (fun W g0 g1 g2 g3=>by simp [results,results70,go_sem,g0,g1,g2,g3]) (fun W h=>⟨rfl,h⟩)
end Go.Proofs.YtcfgbiaahangmaaGreatDoor
