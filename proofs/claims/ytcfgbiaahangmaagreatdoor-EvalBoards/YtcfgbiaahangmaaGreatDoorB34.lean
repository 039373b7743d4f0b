import Derived.Test.YtcfgbiaahangmaaGreatDoorB33
import Derived.ProofKit
import Derived.OpenShut
import Derived.Deep.DeepHandedRow
import Derived.Stop.LaidErr
import Derived.MakeChecks
set_option maxHeartbeats 6000000
set_option maxRecDepth 100000
namespace Go.Proofs.YtcfgbiaahangmaaGreatDoor
open Go.Proofs.Tryz
open Go.RowKit
def RFormQ (w : World) (l : List UInt8) (e : Ending) (w' : World) : Prop:=∃ (x : T) (lv : Value) (pa pe : Int),e = .returned (.tuple #[aggX x lv,.int .i64 pa,.int .i64 pe]) ∧ IsL w' (w.heap.size ≤ ·) lv x.l ∧ Ext w w' ∧ (if (parR l).2.2 = 0 then x = (parR l).1 ∧ pa = 0 ∧ pe = 0 else x = tz ∧ pe ≠ 0)
theorem prs_cases (ts : List Tk) : (∃ x ts1,LvK (O ts.length) 1 0 ts = .ok (x,ts1) ∧ (hd ts1).1 = 5 ∧ prs ts = (x,0,0)) ∨ (∃ x ts1,LvK (O ts.length) 1 0 ts = .ok (x,ts1) ∧ (hd ts1).1 ≠ 5 ∧ (prs ts).2.2 ≠ 0) ∨ (∃ f,LvK (O ts.length) 1 0 ts = .error f ∧ (prs ts).2.2 ≠ 0):=by
 have e : LvK (O ts.length) 1 0 ts = frm (O ts.length) 0 ts:=rfl
 rw [e]
 unfold prs
 cases frm (O ts.length) 0 ts with
 | error f =>
   refine .inr (.inr ⟨f,rfl,?_⟩)
   show cd f.2 ≠ 0
   unfold cd
   split <;> decide
 | ok q =>
   obtain ⟨x,ts1⟩:=q
   by_cases h5 : (hd ts1).1 = 5
   · exact .inl ⟨x,ts1,rfl,h5,if_pos h5⟩
   · refine .inr (.inl ⟨x,ts1,rfl,h5,?_⟩)
     show (if (hd ts1).1 = 5 then (x,0,0) else (tz,(hd ts1).2.1,4) : T × Int × Int).2.2 ≠ 0
     rw [if_neg h5]
     exact (by decide : (4 : Int) ≠ 0)
theorem rformula_bad (s : ByteArray) (w : World) (l : List UInt8) (hl : s.data.toList = l) (hs : s.size ≤ maxLen) (h0 : (lexR l).2.2 ≠ 0) : Calls Tryz.prog 23 #[.string s] w (RFormQ w l):=by
 have c1:=qwords_any s (w.alloc (.cells #[.int .i64 0,.int .i64 0,.string ⟨#[]⟩,.int .i64 0,.int .i64 0,.int .i64 0,.bool false,.bool false,.int .i64 0,.int .i64 0,.bool false,.bool false,.slice none 0 0] 43)) hs
 rw [hl] at c1
 have HPR : Hid (parR l = (tz,(lexR l).2.1,(lexR l).2.2)):=by show _ = _;unfold parR;rw [if_neg h0]
 have hne : ((lexR l).2.2 != 0) = true:=by simpa using h0
 have hne2 : ((lexR l).2.2 == 0) = false:=by simpa using h0
 unfold WordsQ at c1
 obtain ⟨pa,hpa⟩ : ∃ pa,(lexR l).2.1 = pa:=⟨_,rfl⟩
 obtain ⟨pe,hpe⟩ : ∃ pe,(lexR l).2.2 = pe:=⟨_,rfl⟩
 rw [hpa,hpe] at c1 HPR
 rw [hpe] at hne hne2
 have HP0 : Hid (pe ≠ 0):=by rw [hpe] at h0;exact h0
 clear hpa hpe h0 hl
 go_enter func23,ntmps23
 go_wp2_with fail
 refine c1.mono ?_
 rintro e w1 ⟨v,rfl,hR,E1⟩
 have HB : Hid (BlkX w1 w.heap.size tz (.slice none 0 0) ∧ Ext w w1):=⟨BlkX.top rfl E1,((Ext.refl w).alloc _).trans E1⟩
 have HB0:=HB.out.1
 obtain ⟨qa,⟨la0,la1,la2,la3,la4,la5,la6,la7,la8,la9,la10,la11,la12⟩,ga0,ga1,ga2,ga3,ga4,ga5,ga6,ga7,ga8,ga9,ga10,ga11,ga12⟩:=HB0
 clear c1 hR E1
 go_wp2_with fail
 have HB9:=HB.out.1
 have HX9:=HB.out.2
 show bodyPost Tryz.prog _ _ _ _ (putX w1 w.heap.size (tz) (.slice none 0 0))
 obtain ⟨z,⟨k0,k1,k2,k3,k4,k5,k6,k7,k8,k9,k10,k11,k12⟩,ff⟩:=HB9.put (tz) (.slice none 0 0)
 have HE9:=putX_E HX9 (Nat.le_refl w.heap.size) (tz) (.slice none 0 0)
 refine bodyPost_ret (v:=.tuple #[aggX (tz) (.slice none 0 0),.int .i64 pa,.int .i64 pe]) J27 rfl ?_
 refine ⟨tz,_,pa,pe,rfl,.nil,HE9,?_⟩
 rw [HPR.out]
 show (if pe = 0 then _ else _)
 rw [if_neg HP0.out]
 exact ⟨rfl,HP0.out⟩
theorem rformula_ok (s : ByteArray) (w : World) (l : List UInt8) (hl : s.data.toList = l) (hs : s.size ≤ maxLen) (h0 : (lexR l).2.2 = 0) : Calls Tryz.prog 23 #[.string s] w (RFormQ w l):=by
 have c1:=qwords_any s (w.alloc (.cells #[.int .i64 0,.int .i64 0,.string ⟨#[]⟩,.int .i64 0,.int .i64 0,.int .i64 0,.bool false,.bool false,.int .i64 0,.int .i64 0,.bool false,.bool false,.slice none 0 0] 43)) hs
 rw [hl] at c1
 obtain ⟨ts,hl300,hW,hlex⟩:=lexR_cases l |>.resolve_right (by rintro ⟨p,c,h1,h2,_⟩;rw [h1] at h0;simp only [] at h0;omega)
 have HPR : Hid (parR l = prs ts):=by show _ = _;unfold parR;rw [if_pos h0,hlex]
 have HTS : Hid (Nz ts ∧ (∀ t ∈ ts,Kd t) ∧ ts.length ≤ 400):=⟨W_nz hW,fun t ht=>⟨Nat.le_trans (W_len l.length l 0 ts nrf hW t ht) hl300,W_kd l.length l 0 ts nrf hW t ht⟩,by have:=(W_count l.length l 0 ts nrf hW).1;omega⟩
 unfold WordsQ at c1
 rw [hlex] at c1
 clear hl300 hW hlex h0 hl
 go_enter func23,ntmps23
 go_wp2_with fail
 refine c1.mono ?_
 rintro e w1 ⟨v,rfl,hR,E1⟩
 obtain ⟨tp,tc,hv,htc⟩:=hR.form
 obtain ⟨tb,off,t0,htp,_⟩:=(hv ▸ hR).at (k:=0) (by have:=HTS.out.1.pos;omega)
 subst htp
 obtain ⟨tn,htn⟩ : ∃ tn,ts.length = tn:=⟨_,rfl⟩
 rw [htn] at hv
 subst hv
 have hw1 : w.heap.size + 1 ≤ w1.heap.size:=by have:=E1.size;simp at this;omega
 have HB : Hid (BlkX w1 w.heap.size tz (.slice none 0 0) ∧ Ext w w1 ∧ RdT w1 (.slice (some ⟨tb,off,none⟩) tn tc) ts ∧ ts.length = tn):=⟨BlkX.top rfl E1,((Ext.refl w).alloc _).trans E1,hR,htn⟩
 clear c1 hR E1 htc htn
 go_wp2_with fail
 have E2 : Ext w1 (w1.alloc (.cells #[.slice (some ⟨tb,off,none⟩) tn tc,.int .i64 0,.int .i64 0,.int .i64 0,.int .i64 0] 88)):=xr.alloc _
 have hz2 : w1.heap.size < (w1.alloc (.cells #[.slice (some ⟨tb,off,none⟩) tn tc,.int .i64 0,.int .i64 0,.int .i64 0,.int .i64 0] 88)).heap.size:=J58
 have R2 : Rp w1 w1.heap.size (w1.alloc (.cells #[.slice (some ⟨tb,off,none⟩) tn tc,.int .i64 0,.int .i64 0,.int .i64 0,.int .i64 0] 88)) ts ((0 : Nat) : Int) 0 0:=⟨E2,Nat.le_refl _,HTS.out.1,HTS.out.2.2,HTS.out.2.1,by decide,by decide,tb,off,tc,tn,0,ts,HB.out.2.2.1,HB.out.2.2.2,by have:=HTS.out.2.2;have:=HB.out.2.2.2;omega,by have:=HTS.out.1.pos;have:=HB.out.2.2.2;omega,rfl,blk5_top rfl xr⟩
 have c2:=reader_all w1 w1.heap.size ts.length (w1.alloc (.cells #[.slice (some ⟨tb,off,none⟩) tn tc,.int .i64 0,.int .i64 0,.int .i64 0,.int .i64 0] 88)) ts 0 0 1 R2 nrf J2 J2 J2
 have H2 : Hid (BlkX (w1.alloc (.cells #[.slice (some ⟨tb,off,none⟩) tn tc,.int .i64 0,.int .i64 0,.int .i64 0,.int .i64 0] 88)) w.heap.size tz (.slice none 0 0) ∧ Ext w (w1.alloc (.cells #[.slice (some ⟨tb,off,none⟩) tn tc,.int .i64 0,.int .i64 0,.int .i64 0,.int .i64 0] 88))):=⟨HB.out.1.ext E2,HB.out.2.1.trans E2⟩
 clear R2 E2
 generalize (w1.alloc (.cells #[.slice (some ⟨tb,off,none⟩) tn tc,.int .i64 0,.int .i64 0,.int .i64 0,.int .i64 0] 88)) = W2 at *
 refine c2.mono ?_
 intro e w3 h3
 obtain ⟨x,p,ln,c,rfl,hY⟩:=h3.form
 obtain ⟨us,d2,pa2,why2,R3,hd2,hd3,HY⟩:=hY.state J9
 have H3 : Hid (BlkX w3 w.heap.size tz (.slice none 0 0) ∧ Ext w w3 ∧ Rp w1 w1.heap.size w3 us d2 pa2 why2 ∧ w.heap.size + 1 ≤ W2.heap.size):=⟨H2.out.1.extB hY.1 J2,hY.1.ext H2.out.2 J2,R3,by omega⟩
 have hw3 : w1.heap.size < w3.heap.size:=R3.lt.1
 clear h3 hY c2 hd2 hd3 R3
 unfold aggX
 have E4 : Ext w3 (w3.alloc (.cells #[.int .i64 x.k,.int .i64 x.n,.string (bs x.s),.int .i64 x.e,.int .i64 x.r.1,.int .i64 x.r.2.1,.bool x.r.2.2.1,.bool x.r.2.2.2,.int .i64 x.q.1,.int .i64 x.q.2.1,.bool x.q.2.2.1,.bool x.q.2.2.2,.slice p ln c] 43)):=xr.alloc _
 have B4 : BlkX (w3.alloc (.cells #[.int .i64 x.k,.int .i64 x.n,.string (bs x.s),.int .i64 x.e,.int .i64 x.r.1,.int .i64 x.r.2.1,.bool x.r.2.2.1,.bool x.r.2.2.2,.int .i64 x.q.1,.int .i64 x.q.2.1,.bool x.q.2.2.1,.bool x.q.2.2.2,.slice p ln c] 43)) w3.heap.size x (.slice p ln c):=blk13_top rfl xr
 have H4 : Hid (BlkX (w3.alloc (.cells #[.int .i64 x.k,.int .i64 x.n,.string (bs x.s),.int .i64 x.e,.int .i64 x.r.1,.int .i64 x.r.2.1,.bool x.r.2.2.1,.bool x.r.2.2.2,.int .i64 x.q.1,.int .i64 x.q.2.1,.bool x.q.2.2.1,.bool x.q.2.2.2,.slice p ln c] 43)) w.heap.size tz (.slice none 0 0) ∧ Ext w (w3.alloc (.cells #[.int .i64 x.k,.int .i64 x.n,.string (bs x.s),.int .i64 x.e,.int .i64 x.r.1,.int .i64 x.r.2.1,.bool x.r.2.2.1,.bool x.r.2.2.2,.int .i64 x.q.1,.int .i64 x.q.2.1,.bool x.q.2.2.1,.bool x.q.2.2.2,.slice p ln c] 43)) ∧ Rp w1 w1.heap.size (w3.alloc (.cells #[.int .i64 x.k,.int .i64 x.n,.string (bs x.s),.int .i64 x.e,.int .i64 x.r.1,.int .i64 x.r.2.1,.bool x.r.2.2.1,.bool x.r.2.2.2,.int .i64 x.q.1,.int .i64 x.q.2.1,.bool x.q.2.2.1,.bool x.q.2.2.2,.slice p ln c] 43)) us d2 pa2 why2 ∧ BlkX (w3.alloc (.cells #[.int .i64 x.k,.int .i64 x.n,.string (bs x.s),.int .i64 x.e,.int .i64 x.r.1,.int .i64 x.r.2.1,.bool x.r.2.2.1,.bool x.r.2.2.2,.int .i64 x.q.1,.int .i64 x.q.2.1,.bool x.q.2.2.1,.bool x.q.2.2.2,.slice p ln c] 43)) w3.heap.size x (.slice p ln c) ∧ Ext w3 (w3.alloc (.cells #[.int .i64 x.k,.int .i64 x.n,.string (bs x.s),.int .i64 x.e,.int .i64 x.r.1,.int .i64 x.r.2.1,.bool x.r.2.2.1,.bool x.r.2.2.2,.int .i64 x.q.1,.int .i64 x.q.2.1,.bool x.q.2.2.1,.bool x.q.2.2.2,.slice p ln c] 43))):=⟨H3.out.1.ext E4,H3.out.2.1.trans E4,H3.out.2.2.1.ext E4,B4,E4⟩
 have c3:=rt_any H4.out.2.2.1
 unfold tkA at c3
 have kf0:=fun W=>tkf0 (hd us) W
 obtain ⟨u,hu⟩ : ∃ u,hd us = u:=⟨_,rfl⟩
 have HU : Hid (hd us = u):=hu
 rw [hu] at c3 kf0
 clear E4 B4 hu
 go_wp2_with fail
 refine c3.mono ?_
 rintro e w5 ⟨rfl,E5⟩
 have H5 : Hid (BlkX w5 w.heap.size tz (.slice none 0 0) ∧ Ext w w5 ∧ Rp w1 w1.heap.size w5 us d2 pa2 why2 ∧ BlkX w5 w3.heap.size x (.slice p ln c) ∧ Ext w3 w5):=⟨H4.out.1.ext E5,H4.out.2.1.trans E5,H4.out.2.2.1.ext E5,H4.out.2.2.2.1.ext E5,H4.out.2.2.2.2.trans E5⟩
 have hw5 : w3.heap.size < w5.heap.size:=H5.out.2.2.2.1.1
 clear c3 E5
 by_cases h5 : u.1 = 5
 · have n5 : (u.1 != 5) = false:=by rw [h5];rfl
   have H55 : Hid (u.1 = 5):=h5
   clear h5
   by_cases hw : why2 = 0
   · have w0' : (why2 != 0) = false:=by rw [hw];rfl
     have HW : Hid (why2 = 0):=hw
     have HB0:=H5.out.1
     obtain ⟨qa,⟨la0,la1,la2,la3,la4,la5,la6,la7,la8,la9,la10,la11,la12⟩,ga0,ga1,ga2,ga3,ga4,ga5,ga6,ga7,ga8,ga9,ga10,ga11,ga12⟩:=HB0
     have HB1:=H5.out.2.2.2.1
     obtain ⟨qc,⟨lc0,lc1,lc2,lc3,lc4,lc5,lc6,lc7,lc8,lc9,lc10,lc11,lc12⟩,gc0,gc1,gc2,gc3,gc4,gc5,gc6,gc7,gc8,gc9,gc10,gc11,gc12⟩:=HB1
     have HR5:=H5.out.2.2.1
     obtain ⟨g0,g1,g2,g3,g4,g5,g6,tb,off,cc,nn,ii,all,u1,u2,u3,u4,u5,u6⟩:=HR5
     obtain ⟨hz,⟨b0,b1,b2,b3,b4⟩,f0,f1,f2,f3,f4⟩:=u6
     clear g0 g1 g2 g3 g4 g5 g6 u1 u2 u3 u4 u5
     clear hw
     go_wp2_with fail
     have HB9:=H5.out.1
     have HX9:=H5.out.2.1
     show bodyPost Tryz.prog _ _ _ _ (putX w5 w.heap.size (x) (.slice p ln c))
     obtain ⟨z,⟨k0,k1,k2,k3,k4,k5,k6,k7,k8,k9,k10,k11,k12⟩,ff⟩:=HB9.put (x) (.slice p ln c)
     have HE9:=putX_E HX9 (Nat.le_refl w.heap.size) (x) (.slice p ln c)
     refine bodyPost_ret (v:=.tuple #[aggX (x) (.slice p ln c),.int .i64 0,.int .i64 0]) J27 rfl ?_
     have hpr : prs ts = (x,0,0) ∧ IsL w3 (W2.heap.size ≤ ·) (.slice p ln c) x.l:=by
       rcases HY.out with ⟨_,_,y3,y4⟩ | ⟨y1,_⟩
       · rcases prs_cases ts with ⟨x',ts1,q1,q2,q3⟩ | ⟨x',ts1,q1,q2,_⟩ | ⟨f,q1,_⟩
         · rw [y3] at q1;cases q1;exact ⟨q3,y4⟩
         · rw [y3] at q1;cases q1;exact absurd (by rw [HU.out];exact H55.out) q2
         · rw [y3] at q1;cases q1
       · exact absurd HW.out y1
     refine ⟨x,_,0,0,rfl,?_,HE9,?_⟩
     · exact ((hpr.2.ext H5.out.2.2.2.2).keep J32 (fun j hj hs=>putX_heap _ _ _ _ _ (by have:=H3.out.2.2.2;omega)) (fun j hj _=>hj)).mono (fun j hj _=>by have:=H3.out.2.2.2;omega)
     · rw [HPR.out,hpr.1]
       exact ⟨rfl,rfl,rfl⟩
   · have w0' : (why2 != 0) = true:=J105
     have HW : Hid (why2 ≠ 0):=hw
     have HB0:=H5.out.1
     obtain ⟨qa,⟨la0,la1,la2,la3,la4,la5,la6,la7,la8,la9,la10,la11,la12⟩,ga0,ga1,ga2,ga3,ga4,ga5,ga6,ga7,ga8,ga9,ga10,ga11,ga12⟩:=HB0
     have HR5:=H5.out.2.2.1
     obtain ⟨g0,g1,g2,g3,g4,g5,g6,tb,off,cc,nn,ii,all,u1,u2,u3,u4,u5,u6⟩:=HR5
     obtain ⟨hz,⟨b0,b1,b2,b3,b4⟩,f0,f1,f2,f3,f4⟩:=u6
     clear g0 g1 g2 g3 g4 g5 g6 u1 u2 u3 u4 u5
     clear hw
     go_wp2_with fail
     go_region
     go_wp2_with fail
     have HB9:=H5.out.1
     have HX9:=H5.out.2.1
     show bodyPost Tryz.prog _ _ _ _ (putX w5 w.heap.size tz (.slice none 0 0)).drew
     obtain ⟨z,⟨k0,k1,k2,k3,k4,k5,k6,k7,k8,k9,k10,k11,k12⟩,ff⟩:=(HB9.put tz (.slice none 0 0)).ext xr.drew
     have HE9:=putX_E HX9 (Nat.le_refl w.heap.size) tz (.slice none 0 0)
     refine bodyPost_ret (v:=.tuple #[aggX tz (.slice none 0 0),.int .i64 pa2,.int .i64 why2]) J27 rfl ?_
     have hpr : (prs ts).2.2 ≠ 0:=by
       rcases HY.out with ⟨y1,_⟩ | ⟨_,⟨f,y2⟩,_⟩
       · exact absurd y1 HW.out
       · exact K102
     refine ⟨tz,_,pa2,why2,rfl,.nil,HE9.drew,?_⟩
     rw [HPR.out,if_neg hpr]
     exact ⟨rfl,HW.out⟩
 · have n5 : (u.1 != 5) = true:=by simpa using h5
   have H55 : Hid (u.1 ≠ 5):=h5
   clear h5
   go_wp2_with fail
   refine (rbad_any H5.out.2.2.1 4).mono ?_
   rintro e w6 ⟨rfl,R6,X6⟩
   obtain ⟨pa6,hpa6⟩ : ∃ pa6,(if why2 = 0 then (hd us).2.1 else pa2) = pa6:=⟨_,rfl⟩
   obtain ⟨why6,hwhy6⟩ : ∃ why6,(if why2 = 0 then (4 : Int) else why2) = why6:=⟨_,rfl⟩
   have hwn : why6 ≠ 0:=by rw [← hwhy6];split <;> omega
   rw [hpa6,hwhy6] at R6
   have H6 : Hid (BlkX w6 w.heap.size tz (.slice none 0 0) ∧ Ext w w6):=⟨H5.out.1.extB X6 J2,X6.ext H5.out.2.1 J2⟩
   have w0' : (why6 != 0) = true:=by simpa using hwn
   have HW : Hid (why6 ≠ 0):=hwn
   have HB0:=H6.out.1
   obtain ⟨qa,⟨la0,la1,la2,la3,la4,la5,la6,la7,la8,la9,la10,la11,la12⟩,ga0,ga1,ga2,ga3,ga4,ga5,ga6,ga7,ga8,ga9,ga10,ga11,ga12⟩:=HB0
   have HR6:=R6
   obtain ⟨g0,g1,g2,g3,g4,g5,g6,tb,off,cc,nn,ii,all,u1,u2,u3,u4,u5,u6⟩:=HR6
   obtain ⟨hz,⟨b0,b1,b2,b3,b4⟩,f0,f1,f2,f3,f4⟩:=u6
   clear g0 g1 g2 g3 g4 g5 g6 u1 u2 u3 u4 u5
   clear hwn R6 X6 hpa6 hwhy6
   go_wp2_with fail
   go_region
   go_wp2_with fail
   have HB9:=H6.out.1
   have HX9:=H6.out.2
   show bodyPost Tryz.prog _ _ _ _ (putX w6 w.heap.size tz (.slice none 0 0)).drew
   obtain ⟨z,⟨k0,k1,k2,k3,k4,k5,k6,k7,k8,k9,k10,k11,k12⟩,ff⟩:=(HB9.put tz (.slice none 0 0)).ext xr.drew
   have HE9:=putX_E HX9 (Nat.le_refl w.heap.size) tz (.slice none 0 0)
   refine bodyPost_ret (v:=.tuple #[aggX tz (.slice none 0 0),.int .i64 pa6,.int .i64 why6]) J27 rfl ?_
   have hpr : (prs ts).2.2 ≠ 0:=by
     rcases HY.out with ⟨_,_,y3,y4⟩ | ⟨_,⟨f,y2⟩,_⟩
     · rcases prs_cases ts with ⟨x',ts1,q1,q2,q3⟩ | ⟨x',ts1,q1,q2,q3⟩ | ⟨f,q1,_⟩
       · rw [y3] at q1;cases q1;exact absurd (by rw [← HU.out];exact q2) H55.out
       · exact q3
       · rw [y3] at q1;cases q1
     · exact K102
   refine ⟨tz,_,pa6,why6,rfl,.nil,HE9.drew,?_⟩
   rw [HPR.out,if_neg hpr]
   exact ⟨rfl,HW.out⟩
theorem rformula_any (s : ByteArray) (w : World) (hs : s.size ≤ maxLen) : Calls Tryz.prog 23 #[.string s] w (RFormQ w s.data.toList):=by
 by_cases h0 : (lexR s.data.toList).2.2 = 0
 · exact rformula_ok s w _ rfl hs h0
 · exact rformula_bad s w _ rfl hs h0
theorem eq_val (k n : Int) (s : ByteArray) (e : Int) (w : World) : Sem.run Tryz.prog (Op.equalIn 10000 33 (.agg #[.int .i64 k,.int .i64 n,.string s,.int .i64 e]) (.agg #[.int .i64 k,.int .i64 n,.string s,.int .i64 e])) w = .ok true w:=by
 have u3:=Tryz.underlying3
 have a3:=Tryz.isAgg3
 have z3:=Tryz.sizeOf3
 have u9:=Tryz.underlying9
 have u2:=Tryz.underlying2
 have hS : Tryz.prog.underlying 33 = some (.struct (Tryz.prog.fieldsOf 33)):=J3
 have hp : Tryz.prog.stoodInHeld 33 = false:=J3
 rw [show (10000 : Nat) = 9999 + 1 from rfl,run_equalIn_agg w 9999 33 _ _ hS hp]
 simp only [Program.fieldsOf,Tryz.underlying33]
 go_simp
theorem gd_val (x y : Array Value) (op : BinOp) (a b : Operand) (w : World) : (eqGuard op 33 a b (.agg x) (.agg y)).run Tryz.prog w = .ok () w:=run_eqGuard_agg w op 33 a b x y J3
def tA : T:=tBin [43] (tRef (1,1,false,false)) (tNum 10000)
theorem par_A : parR [65,49,43,49] = (tA,0,0):=J3
theorem hr_A : Hr 3 tA:=⟨by show 2 ≤ 100000;decide,by
 intro x hx
 simp [tA,tBin,T.l] at hx
 rcases hx with rfl | rfl
 · exact ⟨by show 0 ≤ 100000;decide,by intro y hy;cases hy⟩
 · exact ⟨by show 0 ≤ 100000;decide,by intro y hy;cases hy⟩⟩
theorem wf_A : Wf tA:=by
 have z : I64 0:=I64.z
 refine .mk _ ⟨by decide,by decide⟩ z J9 z z z z z ?_
 intro x hx
 simp [tA,tBin,T.l] at hx
 rcases hx with rfl | rfl
 · exact .mk _ ⟨by decide,by decide⟩ z J9 z ⟨by decide,by decide⟩ ⟨by decide,by decide⟩ z z (by intro y hy;cases hy)
 · exact .mk _ z ⟨by decide,by decide⟩ J9 z z z z z (by intro y hy;cases hy)
theorem well_A : wellT 3 tA = true:=J3
theorem ev_A1 : expV 3 (bset bz 1 1 (.num 20000)) tA = .num 30000:=by
 unfold expV
 rw [well_A,if_pos rfl]
 kernel_rfl
theorem ev_A0 : evT 3 bz tA = .num 10000:=J3
theorem formA_any (W : World) : Calls Tryz.prog 23 #[.string ⟨#[65,49,43,49]⟩] W fun e w'=>∃ p c,e = .returned (.tuple #[.agg #[.int .i64 7,.int .i64 0,.string ⟨#[43]⟩,.int .i64 0,.int .i64 0,.int .i64 0,.bool false,.bool false,.int .i64 0,.int .i64 0,.bool false,.bool false,.slice p 2 c],.int .i64 0,.int .i64 0]) ∧ IsL w' (W.heap.size ≤ ·) (.slice p 2 c) tA.l ∧ Ext W w':=by
 refine (rformula_any ⟨#[65,49,43,49]⟩ W J9).mono ?_
 rintro e w' ⟨x,lv,pa,pe,rfl,hL,hE,hq⟩
 rw [show (⟨#[65,49,43,49]⟩ : ByteArray).data.toList = [65,49,43,49] from rfl,par_A] at hq
 rw [if_pos rfl] at hq
 obtain ⟨rfl,rfl,rfl⟩:=hq
 obtain ⟨p,c,rfl,_⟩:=hL.form
 exact ⟨p,c,rfl,hL,hE⟩
theorem lives15_any (W : World) (hN : Nm W) (hT : Tab W) : Calls Tryz.prog 12 #[] W fun e w'=>e = .returned (.bool true) ∧ Ext W w':=by
 have qE:=eq_val
 have qG:=gd_val
 have cN : ∀ n W,canB n = true → Calls Tryz.prog 33 #[.int .i64 n] W fun r w'=>r = .returned (.agg #[.int .i64 2,.int .i64 n,.string ⟨#[]⟩,.int .i64 0]) ∧ Ext W w':=fun n W h=>by
   have:=rnum_any n W
   rwa [mkNum_is h] at this
 have cB:=fun W=>new_any W
 have cF:=fun W=>formA_any W
 have cP:=fun (V : World) (b : Nat) (h : Brd V b none 0 bz) (hn : Nm V)=>put_any V b 0 none bz h J9 1 1 2 20000 ⟨#[]⟩ 0 ⟨by decide,by decide⟩ hn
 rw [show nm 2 20000 ⟨#[]⟩ 0 = .num 20000 from rfl] at cP
 have cE:=fun (V : World) (b : Nat) (g : Option Nat) (p : Option Addr) (c : Nat) (h : Brd V b g 1 (bset bz 1 1 (.num 20000))) (e : Nm V) (f : Tab V) (hI : IsL V (fun _=>True) (.slice p 2 c) tA.l)=>exp_any b g 1 (bset bz 1 1 (.num 20000)) h.ok 3 tA wf_A hr_A V p 2 c ⟨h,e,f⟩ hI
 rw [ev_A1] at cE
 have cZ:=fun (V : World) (p : Option Addr) (c : Nat) (e : Nm V) (f : Tab V) (hI : IsL V (fun _=>True) (.slice p 2 c) tA.l)=>eexp_nil 3 tA wf_A hr_A well_A V p 2 c e f hI
 rw [ev_A0] at cZ
 simp only [V.k,V.n,V.s,V.e,tA,tBin,T.k,T.n,T.s,T.e,T.r,T.q,rz,bs] at cE cZ
 have HN : Hid (Nm W ∧ Tab W):=⟨hN,hT⟩
 clear hN hT
 go_enter func12,ntmps12
 go_wp2_with fail
 refine (cB _).mono ?_
 rintro e w1 ⟨rfl,hB1,E1⟩
 have H1 : Hid (Brd w1 W.heap.size none 0 bz ∧ Ext W w1):=⟨hB1,E1⟩
 clear hB1 E1
 go_wp2_with fail
 refine (cF _).mono ?_
 rintro e w2 ⟨p,c,rfl,hL2,E2⟩
 have H2 : Hid (Brd w2 W.heap.size none 0 bz ∧ Ext W w2 ∧ IsL w2 (w1.heap.size ≤ ·) (.slice p 2 c) tA.l ∧ W.heap.size < w1.heap.size):=⟨H1.out.1.ext E2,H1.out.2.trans E2,hL2,H1.out.1.lt⟩
 clear hL2 E2 cF cB
 go_wp2_with fail
 refine (cN _ _ J9).mono ?_
 rintro e w3 ⟨rfl,E3⟩
 have F3 : Hid (Blk13 w3 w2.heap.size (.int .i64 7) (.int .i64 0) (.string ⟨#[43]⟩) (.int .i64 0) (.int .i64 0) (.int .i64 0) (.bool false) (.bool false) (.int .i64 0) (.int .i64 0) (.bool false) (.bool false) (.slice p 2 c)):=(blk13_top rfl xr).ext E3
 have H3 : Hid (Brd w3 W.heap.size none 0 bz ∧ Ext W w3 ∧ IsL w3 (w1.heap.size ≤ ·) (.slice p 2 c) tA.l ∧ W.heap.size < w2.heap.size):=⟨H2.out.1.ext ((xr.alloc _).trans E3),(H2.out.2.1.alloc _).trans E3,H2.out.2.2.1.ext ((xr.alloc _).trans E3),H2.out.1.lt⟩
 clear E3
 go_wp2_with fail
 refine (cP _ _ H3.out.1 (HN.out.1.ext H3.out.2.1)).mono ?_
 rintro e w4 ⟨rfl,g,hB4,_,S4⟩
 have X4 : Hid (Ext W w4):=S4.ext H3.out.2.1 (fun k hk=>by rcases hk with rfl | hk;exact Nat.le_refl _;cases hk)
 have hk4 : w4.heap[w2.heap.size]? = w3.heap[w2.heap.size]?:=S4.block _ F3.out.1 (fun hk=>by rcases hk with hk | hk;(have:=H3.out.2.2.2;omega);cases hk)
 have k4:=fun o=>cell_of_heap hk4 o
 obtain ⟨zz,⟨a0,a1,a2,a3,a4,a5,a6,a7,a8,a9,a10,a11,a12⟩,_⟩:=F3.out
 have L4 : Hid (IsL w4 (fun _=>True) (.slice p 2 c) tA.l ∧ Brd w4 W.heap.size g 1 (bset bz 1 1 (.num 20000)) ∧ w2.heap.size < w4.heap.size):=⟨H3.out.2.2.1.keep S4.size (fun k hk hs=>S4.block k hs (fun hq=>by rcases hq with hq | hq;(have:=H2.out.2.2.2;omega);cases hq)) (fun _ _ _=>trivial),hB4,llL zz S4.size⟩
 have b0:=(k4 0).1.trans a0
 have b1:=(k4 1).1.trans a1
 have b2:=(k4 2).1.trans a2
 have b3:=(k4 3).1.trans a3
 have b4:=(k4 4).1.trans a4
 have b5:=(k4 5).1.trans a5
 have b6:=(k4 6).1.trans a6
 have b7:=(k4 7).1.trans a7
 have b8:=(k4 8).1.trans a8
 have b9:=(k4 9).1.trans a9
 have b10:=(k4 10).1.trans a10
 have b11:=(k4 11).1.trans a11
 have b12:=(k4 12).1.trans a12
 clear a0 a1 a2 a3 a4 a5 a6 a7 a8 a9 a10 a11 a12
 clear S4 hB4 hk4 k4 F3 cP zz
 go_wp2_with fail
 refine (cE _ _ _ _ _ L4.out.2.1 (HN.out.1.ext X4.out) (HN.out.2.ext X4.out) L4.out.1).mono ?_
 rintro e w5 ⟨rfl,E5⟩
 have X5 : Hid (Ext W w5 ∧ IsL w5 (fun _=>True) (.slice p 2 c) tA.l):=⟨X4.out.trans E5,L4.out.1.ext E5⟩
 have c0:=(E5.cell.1 _ 0 L4.out.2.2).trans b0
 have c1:=(E5.cell.1 _ 1 L4.out.2.2).trans b1
 have c2:=(E5.cell.1 _ 2 L4.out.2.2).trans b2
 have c3:=(E5.cell.1 _ 3 L4.out.2.2).trans b3
 have c4:=(E5.cell.1 _ 4 L4.out.2.2).trans b4
 have c5:=(E5.cell.1 _ 5 L4.out.2.2).trans b5
 have c6:=(E5.cell.1 _ 6 L4.out.2.2).trans b6
 have c7:=(E5.cell.1 _ 7 L4.out.2.2).trans b7
 have c8:=(E5.cell.1 _ 8 L4.out.2.2).trans b8
 have c9:=(E5.cell.1 _ 9 L4.out.2.2).trans b9
 have c10:=(E5.cell.1 _ 10 L4.out.2.2).trans b10
 have c11:=(E5.cell.1 _ 11 L4.out.2.2).trans b11
 have c12:=(E5.cell.1 _ 12 L4.out.2.2).trans b12
 clear b0 b1 b2 b3 b4 b5 b6 b7 b8 b9 b10 b11 b12
 have z5:=llL L4.out.2.2 E5.size
 clear E5 cE
 go_wp2_with fail
 refine (cN _ _ J9).mono ?_
 rintro e w6 ⟨rfl,E6⟩
 have X6 : Hid (Ext W w6 ∧ IsL w6 (fun _=>True) (.slice p 2 c) tA.l):=⟨X5.out.1.trans E6,X5.out.2.ext E6⟩
 have d0:=(E6.cell.1 _ 0 z5).trans c0
 have d1:=(E6.cell.1 _ 1 z5).trans c1
 have d2:=(E6.cell.1 _ 2 z5).trans c2
 have d3:=(E6.cell.1 _ 3 z5).trans c3
 have d4:=(E6.cell.1 _ 4 z5).trans c4
 have d5:=(E6.cell.1 _ 5 z5).trans c5
 have d6:=(E6.cell.1 _ 6 z5).trans c6
 have d7:=(E6.cell.1 _ 7 z5).trans c7
 have d8:=(E6.cell.1 _ 8 z5).trans c8
 have d9:=(E6.cell.1 _ 9 z5).trans c9
 have d10:=(E6.cell.1 _ 10 z5).trans c10
 have d11:=(E6.cell.1 _ 11 z5).trans c11
 have d12:=(E6.cell.1 _ 12 z5).trans c12
 clear c0 c1 c2 c3 c4 c5 c6 c7 c8 c9 c10 c11 c12
 clear E6
 go_wp2_with fail
 refine (cZ _ _ _ (HN.out.1.ext X6.out.1) (HN.out.2.ext X6.out.1) X6.out.2).mono ?_
 rintro e w7 ⟨rfl,E7⟩
 have X7 : Hid (Ext W w7):=X6.out.1.trans E7
 clear E7 cZ d0 d1 d2 d3 d4 d5 d6 d7 d8 d9 d10 d11 d12
 go_wp2_with fail
 refine (cN _ _ J9).mono ?_
 rintro e w8 ⟨rfl,E8⟩
 have X8 : Hid (Ext W w8):=X7.out.trans E8
 clear E8 cN
 go_wp2_with fail
 go_ret
 exact ⟨rfl,X8.out⟩
theorem eq_kn (r c k n : Int) (s : ByteArray) (e : Int) (w : World) : Sem.run Tryz.prog (Op.equalIn 10000 35 (.agg #[.int .i64 r,.int .i64 c,.int .i64 k,.int .i64 n,.string s,.int .i64 e]) (.agg #[.int .i64 r,.int .i64 c,.int .i64 k,.int .i64 n,.string s,.int .i64 e])) w = .ok true w:=by
 have u3:=Tryz.underlying3
 have a3:=Tryz.isAgg3
 have z3:=Tryz.sizeOf3
 have u9:=Tryz.underlying9
 have u2:=Tryz.underlying2
 have zV:=Tryz.sizeOf33
 have aV:=Tryz.isAgg33
 have hS : Tryz.prog.underlying 35 = some (.struct (Tryz.prog.fieldsOf 35)):=J3
 have hp : Tryz.prog.stoodInHeld 35 = false:=J3
 have hT : Tryz.prog.underlying 33 = some (.struct (Tryz.prog.fieldsOf 33)):=J3
 have hq : Tryz.prog.stoodInHeld 33 = false:=J3
 have hV : ∀ w,Sem.run Tryz.prog (Op.equalIn 9999 33 (.agg #[.int .i64 k,.int .i64 n,.string s,.int .i64 e]) (.agg #[.int .i64 k,.int .i64 n,.string s,.int .i64 e])) w = .ok true w:=fun w=>by
   rw [show (9999 : Nat) = 9998 + 1 from rfl,run_equalIn_agg w 9998 33 _ _ hT hq]
   simp only [Program.fieldsOf,Tryz.underlying33]
   go_simp
 rw [show (10000 : Nat) = 9999 + 1 from rfl,run_equalIn_agg w 9999 35 _ _ hS hp]
 simp only [Program.fieldsOf,Tryz.underlying35]
 go_simp
theorem gd_kn (x y : Array Value) (op : BinOp) (a b : Operand) (w : World) : (eqGuard op 35 a b (.agg x) (.agg y)).run Tryz.prog w = .ok () w:=run_eqGuard_agg w op 35 a b x y J3
theorem i_of {n : Int} (h : (Lit.int .i64 n).wf = true) : I64 n:=by
 have : IntKind.i64.min ≤ n ∧ n ≤ IntKind.i64.max:=by simpa [Lit.wf] using h
 exact ⟨this.1,this.2⟩
theorem walk_evalBoards (l0 : List Kn) (pp0 : Option Addr) (ln0 cl0 : Nat) (Lp Lq : Int) (w : World) (rd0 : RdKn w (.slice pp0 ln0 cl0) l0) (ki0 : KnI l0) (wp : (Lit.int .i64 Lp).wf = true) (wq : (Lit.int .i64 Lq).wf = true) (hN : Nm w) (hT : Tab w) :
   Calls Tryz.prog 3 #[.slice pp0 ln0 cl0,.agg #[.int .i64 Lp,.int .i64 Lq]] w fun e w'=>e = .returned (.bool true) ∧ Ext w w':=by
 have cB:=fun V (e : Ext w V)=>boards_any V l0 pp0 ln0 cl0 (rd0.ext e) ki0 (hN.ext e)
 have cV:=fun V (e : Ext w V)=>lives15_any V (hN.ext e) (hT.ext e)
 have HI : Hid (I64 Lp ∧ I64 Lq):=⟨i_of wp,i_of wq⟩
 clear rd0 ki0 hN hT wp wq
 obtain ⟨W0,hW0⟩ : ∃ W0,W0 = w.alloc (.cells #[.int .i64 Lp,.int .i64 Lq] 24):=⟨_,rfl⟩
 have H0 : Hid (Ext w W0 ∧ ∀ V,Ext W0 V → V.cell? ⟨w.heap.size,0,none⟩ = some (.int .i64 Lp) ∧ V.cell? ⟨w.heap.size,1,none⟩ = some (.int .i64 Lq)):=by
   rw [hW0]
   refine ⟨xr.alloc _,fun V e=>?_⟩
   have k:=fun o=>(e.cell.1 w.heap.size o J58).trans (cell_of_row _ _ o _ _ (0,0) (new_top w _))
   exact ⟨k 0,k 1⟩
 go_enter func3,ntmps3
 go_wp2_with fail
 rw [← hW0]
 clear hW0
 refine (cB _ H0.out.1).mono ?_
 rintro e w1 ⟨d,g,p,c,rfl,hB⟩
 have HB : Hid (BdI W0 W0.heap.size d g p c 200 (bM (l0.take 200)) (bL (l0.take 200)) w1):=hB
 have HL : Hid (LB (bL (l0.take 200)) (bM (l0.take 200)) ∧ (bL (l0.take 200)).length ≤ 100000):=⟨bLB _,by
   have h1:=bL_len (l0.take 200)
   have h2 : (l0.take 200).length ≤ 200:=J7
   omega⟩
 clear hB cB
 generalize bM (l0.take 200) = M at HB HL
 generalize bL (l0.take 200) = LL at HB HL
 generalize W0.heap.size = BB at HB ⊢
 generalize hEB : w.heap.size = EB at *
 clear hEB
 obtain ⟨n,hn⟩ : ∃ n,LL.length = n:=⟨_,rfl⟩
 have H1 : Hid (∀ V,Ext w1 V → Ext w V ∧ (V.cell? ⟨EB,0,none⟩ = some (.int .i64 Lp) ∧ V.cell? ⟨EB,1,none⟩ = some (.int .i64 Lq)) ∧ Brd V BB g 200 M ∧ DBr V d p c LL):=fun V e=>⟨(H0.out.1.trans HB.out.e).trans e,H0.out.2 V (HB.out.e.trans e),HB.out.br.ext e,HB.out.db.ext e⟩
 have cA:=allB_any w1 BB g M LL HB.out.br HL.out.1
 rw [hn] at cA
 have HNN : Hid (LL.length = n ∧ n ≤ 100000):=⟨hn,by rw [← hn];exact HL.out.2⟩
 have hn2 : n ≤ 100000:=HNN.out.2
 clear HB H0 hn
 go_wp2_with fail
 refine cA.mono ?_
 rintro e w2 ⟨p2,c2,rfl,hrd,E2⟩
 have H2 : Hid (Ext w1 w2 ∧ RdKn w2 (.slice p2 n c2) LL):=⟨E2,hrd⟩
 have dc:=(H1.out w2 E2).2.2.2.cell
 rw [HNN.out.1] at dc
 clear E2 hrd cA
 go_wp2_with fail
 go_loopw [8] (fun iv wr=>∃ i : Nat,iv = .int .i64 (i : Int) ∧ i ≤ n ∧ Ext w2 wr) (fun iv _=>n - (intOf iv).toNat)
 case atStart=>exact ⟨0,rfl,Nat.zero_le _,Ext.refl _⟩
 case round =>
   clear dc
   obtain ⟨i,rfl,hi,hE⟩:=hrel
   have HE : Hid (Ext w2 wr ∧ Ext w1 wr):=⟨hE,H2.out.1.trans hE⟩
   clear hE
   by_cases hlt : i < n
   · have hltI : (i : Int) < (n : Int):=J2
     obtain ⟨x,hx⟩ : ∃ x,LL[i]? = some x:=⟨_,gEq (by rw [HNN.out.1];exact hlt)⟩
     have hxm:=(HL.out.1.m x).1 (List.mem_of_getElem? hx)
     have hxi:=ok_i (H1.out w1 xr).2.2.1.ok hxm.2
     have cG:=fun V (e : Ext wr V)=>get_any V BB 200 g M ((H1.out V (HE.out.2.trans e)).2.2.1) x.r x.c hxi.1 hxi.2
     rw [show (M x.r x.c).dat = .agg #[.int .i64 x.v.k,.int .i64 x.v.n,.string x.v.s,.int .i64 x.v.e] by rw [dat_eq,hxm.1];rfl] at cG
     obtain ⟨gb,off,rfl,hgb,c0,c1,c2',c3,c4,c5⟩:=(H2.out.2.ext HE.out.1).at hx
     have hrd:=(H1.out wr HE.out.2).2.2.2.rd
     rw [HNN.out.1] at hrd
     obtain ⟨gd,ofd,rfl,hgd,d0,d1,d2',d3,d4,d5⟩:=hrd.at hx
     have dc:=(H1.out wr HE.out.2).2.2.2.cell
     have dlt:=(H1.out wr HE.out.2).2.2.2.lt
     rw [HNN.out.1] at dc
     have mkS : Hid (∀ V,Ext wr V → (fun V=>(V.cell? ⟨d,0,none⟩ = some (.slice (some ⟨gd,ofd,none⟩) n c) ∧ V.cell? ⟨gb,off + i * 6,none⟩ = some (.int .i64 x.r) ∧ V.cell? ⟨gb,off + i * 6 + 1,none⟩ = some (.int .i64 x.c) ∧ V.cell? ⟨gb,off + i * 6 + 2,none⟩ = some (.int .i64 x.v.k) ∧ V.cell? ⟨gb,off + i * 6 + 3,none⟩ = some (.int .i64 x.v.n) ∧ V.cell? ⟨gb,off + i * 6 + 4,none⟩ = some (.string x.v.s) ∧ V.cell? ⟨gb,off + i * 6 + 5,none⟩ = some (.int .i64 x.v.e) ∧ V.cell? ⟨gd,ofd + i * 6,none⟩ = some (.int .i64 x.r) ∧ V.cell? ⟨gd,ofd + i * 6 + 1,none⟩ = some (.int .i64 x.c) ∧ V.cell? ⟨gd,ofd + i * 6 + 2,none⟩ = some (.int .i64 x.v.k) ∧ V.cell? ⟨gd,ofd + i * 6 + 3,none⟩ = some (.int .i64 x.v.n) ∧ V.cell? ⟨gd,ofd + i * 6 + 4,none⟩ = some (.string x.v.s) ∧ V.cell? ⟨gd,ofd + i * 6 + 5,none⟩ = some (.int .i64 x.v.e)) ∧ Ext wr V) V):=by
       intro V e
       have k:=fun o=>e.cell.1 gb o hgb
       have k':=fun o=>e.cell.1 gd o hgd
       exact ⟨⟨(e.cell.1 d 0 dlt).trans dc,(k _).trans c0,(k _).trans c1,(k _).trans c2',(k _).trans c3,(k _).trans c4,(k _).trans c5,(k' _).trans d0,(k' _).trans d1,(k' _).trans d2',(k' _).trans d3,(k' _).trans d4,(k' _).trans d5⟩,e⟩
     have HJ : Hid (i < n):=hlt
     have WJ : Hid (wrap64 ((i : Int) + 1) = ((i + 1 : Nat) : Int)):=by show _ = _;unfold wrap64;omega
     have qE:=eq_val
     have qG:=gd_val
     have qK:=eq_kn
     have qH:=gd_kn
     clear hrd hx hxm hxi c0 c1 c2' c3 c4 c5 d0 d1 d2' d3 d4 d5 hgb hgd hi hlt dc dlt
     go_upto_region 10 with fail
     refine wp_region_held_drew (S:=(fun V=>(V.cell? ⟨d,0,none⟩ = some (.slice (some ⟨gd,ofd,none⟩) n c) ∧ V.cell? ⟨gb,off + i * 6,none⟩ = some (.int .i64 x.r) ∧ V.cell? ⟨gb,off + i * 6 + 1,none⟩ = some (.int .i64 x.c) ∧ V.cell? ⟨gb,off + i * 6 + 2,none⟩ = some (.int .i64 x.v.k) ∧ V.cell? ⟨gb,off + i * 6 + 3,none⟩ = some (.int .i64 x.v.n) ∧ V.cell? ⟨gb,off + i * 6 + 4,none⟩ = some (.string x.v.s) ∧ V.cell? ⟨gb,off + i * 6 + 5,none⟩ = some (.int .i64 x.v.e) ∧ V.cell? ⟨gd,ofd + i * 6,none⟩ = some (.int .i64 x.r) ∧ V.cell? ⟨gd,ofd + i * 6 + 1,none⟩ = some (.int .i64 x.c) ∧ V.cell? ⟨gd,ofd + i * 6 + 2,none⟩ = some (.int .i64 x.v.k) ∧ V.cell? ⟨gd,ofd + i * 6 + 3,none⟩ = some (.int .i64 x.v.n) ∧ V.cell? ⟨gd,ofd + i * 6 + 4,none⟩ = some (.string x.v.s) ∧ V.cell? ⟨gd,ofd + i * 6 + 5,none⟩ = some (.int .i64 x.v.e)) ∧ Ext wr V)) J3 ?_ (fun hHeld0=>?_)
     · (refine mkS.out _ ?_;((with_reducible (repeat (first | assumption | exact HX1.out | exact xr | apply Ext.drew)));done))
     refine tkI (i:=0) (oi:=⟨some 32,.move (.tmp 7),22,"law.go:55",#[],none⟩) ?_
     try simp only [Act.put,List.setIfInBounds_toArray,List.set_cons_zero,List.set_cons_succ]
     refine tkI (i:=1) (oi:=⟨some 33,.move (.tmp 8),3,"law.go:55",#[],none⟩) ?_
     try simp only [Act.put,List.setIfInBounds_toArray,List.set_cons_zero,List.set_cons_succ]
     refine tkI (i:=2) (oi:=⟨some 34,.indexAddr 22 (.tmp 32) (.tmp 33),0,"law.go:55",#[⟨0,.data⟩,⟨1,.data⟩],none⟩) ?_
     try simp only [Act.put,List.setIfInBounds_toArray,List.set_cons_zero,List.set_cons_succ]
     refine tkI (i:=3) (oi:=⟨some 35,.load 35 (.tmp 34),35,"law.go:55",#[⟨2,.data⟩],none⟩) ?_
     try simp only [Act.put,List.setIfInBounds_toArray,List.set_cons_zero,List.set_cons_succ]
     refine tkI (i:=4) (oi:=⟨some 36,.move (.tmp 6),26,"law.go:55",#[],none⟩) ?_
     try simp only [Act.put,List.setIfInBounds_toArray,List.set_cons_zero,List.set_cons_succ]
     refine tkI (i:=5) (oi:=⟨some 37,.nilCheck (.tmp 36),0,"law.go:55",#[⟨4,.data⟩],none⟩) ?_
     try simp only [Act.put,List.setIfInBounds_toArray,List.set_cons_zero,List.set_cons_succ]
     refine tkI (i:=6) (oi:=⟨some 38,.fieldAddr 31 (.tmp 37) 0,0,"law.go:55",#[⟨5,.data⟩],none⟩) ?_
     try simp only [Act.put,List.setIfInBounds_toArray,List.set_cons_zero,List.set_cons_succ]
     refine tkI (i:=7) (oi:=⟨some 39,.load 22 (.tmp 38),22,"law.go:55",#[⟨6,.data⟩],none⟩) ?_
     try simp only [Act.put,List.setIfInBounds_toArray,List.set_cons_zero,List.set_cons_succ]
     refine tkI (i:=8) (oi:=⟨some 40,.move (.tmp 8),3,"law.go:55",#[],none⟩) ?_
     try simp only [Act.put,List.setIfInBounds_toArray,List.set_cons_zero,List.set_cons_succ]
     refine tkI (i:=9) (oi:=⟨some 41,.indexAddr 22 (.tmp 39) (.tmp 40),0,"law.go:55",#[⟨7,.data⟩,⟨8,.data⟩],none⟩) ?_
     try simp only [Act.put,List.setIfInBounds_toArray,List.set_cons_zero,List.set_cons_succ]
     refine tkI (i:=10) (oi:=⟨some 42,.load 35 (.tmp 41),35,"law.go:55",#[⟨9,.data⟩],none⟩) ?_
     try simp only [Act.put,List.setIfInBounds_toArray,List.set_cons_zero,List.set_cons_succ]
     refine tkI (i:=11) (oi:=⟨some 43,.binOp .neq 35 (.tmp 35) (.tmp 42) 35,4,"law.go:55",#[⟨3,.data⟩,⟨10,.data⟩],none⟩) ?_
     try simp only [Act.put,List.setIfInBounds_toArray,List.set_cons_zero,List.set_cons_succ]
     refine tkI (i:=12) (oi:=⟨some 44,.move (.tmp 43),4,"law.go:55",#[⟨11,.data⟩],none⟩) ?_
     try simp only [Act.put,List.setIfInBounds_toArray,List.set_cons_zero,List.set_cons_succ]
     refine tkI (i:=13) (oi:=⟨some 45,.move (.tmp 5),25,"law.go:55",#[⟨12,.guard⟩],some (12,false)⟩) ?_
     try simp only [Act.put,List.setIfInBounds_toArray,List.set_cons_zero,List.set_cons_succ]
     refine tkI (i:=14) (oi:=⟨some 46,.move (.tmp 7),22,"law.go:55",#[⟨12,.guard⟩],some (12,false)⟩) ?_
     try simp only [Act.put,List.setIfInBounds_toArray,List.set_cons_zero,List.set_cons_succ]
     refine tkI (i:=15) (oi:=⟨some 47,.move (.tmp 8),3,"law.go:55",#[⟨12,.guard⟩],some (12,false)⟩) ?_
     try simp only [Act.put,List.setIfInBounds_toArray,List.set_cons_zero,List.set_cons_succ]
     refine tkI (i:=16) (oi:=⟨some 48,.indexAddr 22 (.tmp 46) (.tmp 47),0,"law.go:55",#[⟨14,.data⟩,⟨15,.data⟩,⟨12,.guard⟩],some (12,false)⟩) ?_
     try simp only [Act.put,List.setIfInBounds_toArray,List.set_cons_zero,List.set_cons_succ]
     refine tkI (i:=17) (oi:=⟨some 49,.fieldAddr 35 (.tmp 48) 0,0,"law.go:55",#[⟨16,.data⟩,⟨12,.guard⟩],some (12,false)⟩) ?_
     try simp only [Act.put,List.setIfInBounds_toArray,List.set_cons_zero,List.set_cons_succ]
     refine tkI (i:=18) (oi:=⟨some 50,.load 3 (.tmp 49),3,"law.go:55",#[⟨17,.data⟩,⟨12,.guard⟩],some (12,false)⟩) ?_
     try simp only [Act.put,List.setIfInBounds_toArray,List.set_cons_zero,List.set_cons_succ]
     refine tkI (i:=19) (oi:=⟨some 51,.move (.tmp 7),22,"law.go:55",#[⟨12,.guard⟩],some (12,false)⟩) ?_
     try simp only [Act.put,List.setIfInBounds_toArray,List.set_cons_zero,List.set_cons_succ]
     refine tkI (i:=20) (oi:=⟨some 52,.move (.tmp 8),3,"law.go:55",#[⟨12,.guard⟩],some (12,false)⟩) ?_
     try simp only [Act.put,List.setIfInBounds_toArray,List.set_cons_zero,List.set_cons_succ]
     refine tkI (i:=21) (oi:=⟨some 53,.indexAddr 22 (.tmp 51) (.tmp 52),0,"law.go:55",#[⟨19,.data⟩,⟨20,.data⟩,⟨12,.guard⟩],some (12,false)⟩) ?_
     try simp only [Act.put,List.setIfInBounds_toArray,List.set_cons_zero,List.set_cons_succ]
     refine tkI (i:=22) (oi:=⟨some 54,.fieldAddr 35 (.tmp 53) 1,0,"law.go:55",#[⟨21,.data⟩,⟨12,.guard⟩],some (12,false)⟩) ?_
     try simp only [Act.put,List.setIfInBounds_toArray,List.set_cons_zero,List.set_cons_succ]
     refine tkI (i:=23) (oi:=⟨some 55,.load 3 (.tmp 54),3,"law.go:55",#[⟨22,.data⟩,⟨12,.guard⟩],some (12,false)⟩) ?_
     try simp only [Act.put,List.setIfInBounds_toArray,List.set_cons_zero,List.set_cons_succ]
     refine tkI (i:=25) (oi:=⟨some 57,.move (.tmp 7),22,"law.go:55",#[⟨12,.guard⟩],some (12,false)⟩) ?_
     try simp only [Act.put,List.setIfInBounds_toArray,List.set_cons_zero,List.set_cons_succ]
     refine tkI (i:=26) (oi:=⟨some 58,.move (.tmp 8),3,"law.go:55",#[⟨12,.guard⟩],some (12,false)⟩) ?_
     try simp only [Act.put,List.setIfInBounds_toArray,List.set_cons_zero,List.set_cons_succ]
     refine tkI (i:=27) (oi:=⟨some 59,.indexAddr 22 (.tmp 57) (.tmp 58),0,"law.go:55",#[⟨25,.data⟩,⟨26,.data⟩,⟨12,.guard⟩],some (12,false)⟩) ?_
     try simp only [Act.put,List.setIfInBounds_toArray,List.set_cons_zero,List.set_cons_succ]
     refine tkI (i:=28) (oi:=⟨some 60,.fieldAddr 35 (.tmp 59) 2,0,"law.go:55",#[⟨27,.data⟩,⟨12,.guard⟩],some (12,false)⟩) ?_
     try simp only [Act.put,List.setIfInBounds_toArray,List.set_cons_zero,List.set_cons_succ]
     refine tkI (i:=29) (oi:=⟨some 61,.load 33 (.tmp 60),33,"law.go:55",#[⟨28,.data⟩,⟨12,.guard⟩],some (12,false)⟩) ?_
     try simp only [Act.put,List.setIfInBounds_toArray,List.set_cons_zero,List.set_cons_succ]
     refine wpAnyH_ready (rs:=[24]) J3 J58 ?_
     refine AllReadyH.cons (o:=⟨some 56,.call { callee:=.value (.func 10),args:=#[.tmp 45,.tmp 50,.tmp 55],argTypes:=#[25,3,3] },33,"law.go:55",#[⟨13,.data⟩,⟨18,.data⟩,⟨23,.data⟩,⟨12,.chain⟩,⟨12,.guard⟩],some (12,false)⟩) rfl (fun K hK=>?_) AllReadyH.nil
     go_simp
     refine (cG _ (Ext.drew xr)).mono ?_;rintro e x1 ⟨rfl,G1⟩;have HX1 : Hid (Ext wr x1):=Ext.trans (Ext.drew xr) G1;clear G1
     try go_wp2_with fail
     refine hK.out _ _ ?_ (fun hHeld1=>?_)
     · (try dsimp only);(refine mkS.out _ ?_;((with_reducible (repeat (first | assumption | exact HX1.out | exact xr | apply Ext.drew)));done))
     clear hK K hHeld0
     try simp only [Act.put,List.setIfInBounds_toArray,List.set_cons_zero,List.set_cons_succ]
     refine tkI (i:=30) (oi:=⟨some 62,.binOp .neq 33 (.tmp 56) (.tmp 61) 33,4,"law.go:55",#[⟨24,.data⟩,⟨29,.data⟩,⟨12,.guard⟩],some (12,false)⟩) ?_
     try simp only [Act.put,List.setIfInBounds_toArray,List.set_cons_zero,List.set_cons_succ]
     refine tkI (i:=31) (oi:=⟨some 63,.pick (.tmp 44) (.const (.bool true)) (.tmp 62),4,"law.go:55",#[⟨12,.data⟩,⟨30,.data⟩],none⟩) ?_
     try simp only [Act.put,List.setIfInBounds_toArray,List.set_cons_zero,List.set_cons_succ]
     refine wpAnyH_done J3 ?_ _
     go_wp2_with fail
     go_roundw
     case rel=>exact ⟨i + 1,by go_num,HJ.out,HE.out.1.trans HX1.out⟩
     case measure=>exact (by show n - ((i : Int) + 1).toNat < n - ((i : Int)).toNat;have:=HJ.out;omega)
   · have hltI : ¬ (i : Int) < (n : Int):=J2
     have cG:=fun V (e : Ext wr V)=>get_any V BB 200 g M ((H1.out V (HE.out.2.trans e)).2.2.1) Lp Lq HI.out.1 HI.out.2
     have cD:=fun V (e : Ext wr V)=>dget_any V d c p LL ((H1.out V (HE.out.2.trans e)).2.2.2) HL.out.2 Lp Lq
     rw [lb_get HL.out.1] at cD
     simp only [dat_eq] at cG
     simp only [V.rw] at cD
     generalize M Lp Lq = v at *
     obtain ⟨vk,vn,vs,ve,q1,q2,q3,q4⟩ : ∃ vk vn vs ve,v.k = vk ∧ v.n = vn ∧ v.s = vs ∧ v.e = ve:=⟨_,_,_,_,rfl,rfl,rfl,rfl⟩
     rw [q1,q2,q3,q4] at cG cD
     have mkS : Hid (∀ V,Ext wr V → (fun V=>(V.cell? ⟨EB,0,none⟩ = some (.int .i64 Lp) ∧ V.cell? ⟨EB,1,none⟩ = some (.int .i64 Lq)) ∧ Ext wr V) V):=fun V e=>⟨(H1.out V (HE.out.2.trans e)).2.1,e⟩
     have qE:=eq_val
     have qG:=gd_val
     clear hlt hi q1 q2 q3 q4 v
     go_upto_region 12 with fail
     refine wp_region_held_drew (S:=(fun V=>(V.cell? ⟨EB,0,none⟩ = some (.int .i64 Lp) ∧ V.cell? ⟨EB,1,none⟩ = some (.int .i64 Lq)) ∧ Ext wr V)) J3 ?_ (fun hHeld0=>?_)
     · (refine mkS.out _ ?_;((with_reducible (repeat (first | assumption | exact HX1.out | exact HX2.out | exact HX3.out | exact xr | apply Ext.drew)));done))
     refine tkI (i:=0) (oi:=⟨some 64,.move (.tmp 5),25,"law.go:59",#[],none⟩) ?_
     try simp only [Act.put,List.setIfInBounds_toArray,List.set_cons_zero,List.set_cons_succ]
     refine tkI (i:=1) (oi:=⟨some 65,.fieldAddr 24 (.tmp 3) 0,0,"law.go:59",#[],none⟩) ?_
     try simp only [Act.put,List.setIfInBounds_toArray,List.set_cons_zero,List.set_cons_succ]
     refine tkI (i:=2) (oi:=⟨some 66,.load 3 (.tmp 65),3,"law.go:59",#[⟨1,.data⟩],none⟩) ?_
     try simp only [Act.put,List.setIfInBounds_toArray,List.set_cons_zero,List.set_cons_succ]
     refine tkI (i:=3) (oi:=⟨some 67,.fieldAddr 24 (.tmp 3) 1,0,"law.go:59",#[],none⟩) ?_
     try simp only [Act.put,List.setIfInBounds_toArray,List.set_cons_zero,List.set_cons_succ]
     refine tkI (i:=4) (oi:=⟨some 68,.load 3 (.tmp 67),3,"law.go:59",#[⟨3,.data⟩],none⟩) ?_
     try simp only [Act.put,List.setIfInBounds_toArray,List.set_cons_zero,List.set_cons_succ]
     refine tkI (i:=6) (oi:=⟨some 70,.move (.tmp 6),26,"law.go:59",#[],none⟩) ?_
     try simp only [Act.put,List.setIfInBounds_toArray,List.set_cons_zero,List.set_cons_succ]
     refine tkI (i:=7) (oi:=⟨some 71,.fieldAddr 24 (.tmp 3) 0,0,"law.go:59",#[],none⟩) ?_
     try simp only [Act.put,List.setIfInBounds_toArray,List.set_cons_zero,List.set_cons_succ]
     refine tkI (i:=8) (oi:=⟨some 72,.load 3 (.tmp 71),3,"law.go:59",#[⟨7,.data⟩],none⟩) ?_
     try simp only [Act.put,List.setIfInBounds_toArray,List.set_cons_zero,List.set_cons_succ]
     refine tkI (i:=9) (oi:=⟨some 73,.fieldAddr 24 (.tmp 3) 1,0,"law.go:59",#[],none⟩) ?_
     try simp only [Act.put,List.setIfInBounds_toArray,List.set_cons_zero,List.set_cons_succ]
     refine tkI (i:=10) (oi:=⟨some 74,.load 3 (.tmp 73),3,"law.go:59",#[⟨9,.data⟩],none⟩) ?_
     try simp only [Act.put,List.setIfInBounds_toArray,List.set_cons_zero,List.set_cons_succ]
     refine wpAnyH_ready (rs:=[5]) J3 J58 ?_
     refine AllReadyH.cons (o:=⟨some 69,.call { callee:=.value (.func 10),args:=#[.tmp 64,.tmp 66,.tmp 68],argTypes:=#[25,3,3] },33,"law.go:59",#[⟨0,.data⟩,⟨2,.data⟩,⟨4,.data⟩],none⟩) rfl (fun K hK=>?_) AllReadyH.nil
     go_simp
     refine (cG _ (Ext.drew xr)).mono ?_;rintro e x1 ⟨rfl,G1⟩;have HX1 : Hid (Ext wr x1):=Ext.trans (Ext.drew xr) G1;clear G1
     try go_wp2_with fail
     refine hK.out _ _ ?_ (fun hHeld1=>?_)
     · (try dsimp only);(refine mkS.out _ ?_;((with_reducible (repeat (first | assumption | exact HX1.out | exact HX2.out | exact HX3.out | exact xr | apply Ext.drew)));done))
     clear hK K hHeld0
     try simp only [Act.put,List.setIfInBounds_toArray,List.set_cons_zero,List.set_cons_succ]
     refine wpAnyH_ready (rs:=[11]) J3 J58 ?_
     refine AllReadyH.cons (o:=⟨some 75,.call { callee:=.value (.func 11),args:=#[.tmp 70,.tmp 72,.tmp 74],argTypes:=#[26,3,3] },33,"law.go:59",#[⟨6,.data⟩,⟨8,.data⟩,⟨10,.data⟩,⟨5,.chain⟩],none⟩) rfl (fun K hK=>?_) AllReadyH.nil
     go_simp
     refine (cD _ HX1.out).mono ?_;rintro e x2 ⟨rfl,G2⟩;have HX2 : Hid (Ext wr x2):=HX1.out.trans G2;clear G2
     try go_wp2_with fail
     refine hK.out _ _ ?_ (fun hHeld2=>?_)
     · (try dsimp only);(refine mkS.out _ ?_;((with_reducible (repeat (first | assumption | exact HX1.out | exact HX2.out | exact HX3.out | exact xr | apply Ext.drew)));done))
     clear hK K hHeld1
     try simp only [Act.put,List.setIfInBounds_toArray,List.set_cons_zero,List.set_cons_succ]
     refine tkI (i:=12) (oi:=⟨some 76,.binOp .eql 33 (.tmp 69) (.tmp 75) 33,4,"law.go:59",#[⟨5,.data⟩,⟨11,.data⟩],none⟩) ?_
     try simp only [Act.put,List.setIfInBounds_toArray,List.set_cons_zero,List.set_cons_succ]
     refine tkI (i:=13) (oi:=⟨some 77,.move (.tmp 76),4,"law.go:59",#[⟨12,.data⟩,⟨11,.chain⟩],none⟩) ?_
     try simp only [Act.put,List.setIfInBounds_toArray,List.set_cons_zero,List.set_cons_succ]
     refine wpAnyH_ready (rs:=[14]) J3 J58 ?_
     refine AllReadyH.cons (o:=⟨some 78,.call { callee:=.value (.func 12),args:=#[],argTypes:=#[] },4,"law.go:59",#[⟨13,.chain⟩,⟨13,.guard⟩],some (13,true)⟩) rfl (fun K hK=>?_) AllReadyH.nil
     go_simp
     refine (cV _ (H1.out _ (HE.out.2.trans HX2.out)).1).mono ?_;rintro e x3 ⟨rfl,G3⟩;have HX3 : Hid (Ext wr x3):=HX2.out.trans G3;clear G3
     try go_wp2_with fail
     refine hK.out _ _ ?_ (fun hHeld3=>?_)
     · (try dsimp only);(refine mkS.out _ ?_;((with_reducible (repeat (first | assumption | exact HX1.out | exact HX2.out | exact HX3.out | exact xr | apply Ext.drew)));done))
     clear hK K hHeld2
     try simp only [Act.put,List.setIfInBounds_toArray,List.set_cons_zero,List.set_cons_succ]
     refine tkI (i:=15) (oi:=⟨some 79,.pick (.tmp 77) (.tmp 78) (.const (.bool false)),4,"law.go:59",#[⟨13,.data⟩,⟨14,.data⟩],none⟩) ?_
     try simp only [Act.put,List.setIfInBounds_toArray,List.set_cons_zero,List.set_cons_succ]
     refine tkI (i:=16) (oi:=⟨some 4,.assign (.tmp 79),4,"law.go:59",#[⟨15,.data⟩,⟨14,.chain⟩,⟨0,.phase⟩,⟨1,.phase⟩,⟨2,.phase⟩,⟨3,.phase⟩,⟨4,.phase⟩,⟨5,.phase⟩,⟨6,.phase⟩,⟨7,.phase⟩,⟨8,.phase⟩,⟨9,.phase⟩,⟨10,.phase⟩,⟨11,.phase⟩,⟨12,.phase⟩,⟨13,.phase⟩,⟨14,.phase⟩,⟨15,.phase⟩],none⟩) ?_
     try simp only [Act.put,List.setIfInBounds_toArray,List.set_cons_zero,List.set_cons_succ]
     refine wpAnyH_done J3 ?_ _
     go_wp2_with fail
     go_ret
     exact ⟨rfl,(H1.out _ (HE.out.2.trans HX3.out)).1⟩
open Go.ChangeShapes Go.WideShapes Go.ChangeAt Go.RowKit
theorem ownK : ownKnob Tryz.prog.godebug = none:=J3
def flat : Nat → DataW Unit → List Value
 | _ + 1,.lit (.int k z)=>[.int k z]
 | _ + 1,.lit (.string l)=>[.string ⟨l.toArray⟩]
 | n + 1,.agg ds=>ds.flatMap (flat n)
 | _,_=>[]
def layIn (cs : List Value) : Obj → Obj
 | .cells _ t frozen=>.cells cs.toArray t frozen
 | o=>o
theorem gNames : Tryz.prog.globalNamed "cadastre/value.names" = some 0:=J3
theorem gNamesType : (Tryz.prog.globals[0]?).map (·.type) = some 130:=J3
theorem cellsNames : Tryz.prog.cellsOf 130 = 6:=J3
theorem cellsStr : Tryz.prog.cellsOf 9 = 1:=J3
theorem names_of {W : World} {rest : List (String × DataW Unit)} (h : laidMet Tryz.prog (("cadastre/value.names",Rows.laid_cadastre_value_names) :: rest) W) : Nm W:=by
 obtain ⟨ps,⟨g',t',cs,fuel,p,q,hg',ht',hvar,hd,_,_⟩,_⟩:=h
 obtain rfl:=Option.some.inj (gNames.symm.trans hg')
 obtain rfl:=Option.some.inj (gNamesType.symm.trans ht')
 have hcell:=World.var?_cell gNames hvar
 have hsz : 0 < W.heap.size:=by
   have h0:=hvar
   simp only [World.var?,gNames,Option.bind_some] at h0
   cases hb : W.heap[0]? with
   | none=>rw [hb] at h0;cases h0
   | some o=>exact (Array.getElem?_eq_some_iff.1 hb).1
 cases fuel with
 | zero=>simp [DataW.trod] at hd
 | succ fuel =>
   simp only [DataW.trod,Tryz.underlying130,cellsStr,cellsNames,Nat.mul_one] at hd
   split at hd
   · obtain ⟨xs,hm,hx⟩:=Option.map_eq_some_iff.1 hd
     have hxs : xs.map (·.1) = ([.lit (.string []),.lit (.string [35,82,69,70,33]),.lit (.string [35,86,65,76,85,69,33]),.lit (.string [35,68,73,86,47,48,33]),.lit (.string [35,78,85,77,33]),.lit (.string [35,67,89,67,76,69,33])] : List (DataW Unit)):=by
       have:=congrArg Prod.fst hx
       simpa [Rows.laid_cadastre_value_names] using this
     have key : ∀ (i : Nat) (l : List UInt8),i < 6 → (xs.map (·.1))[i]? = some (DataW.lit (.string l)) → W.cell? ⟨0,i,none⟩ = some (.string ⟨l.toArray⟩):=by
       intro i l hi hl
       obtain ⟨b,hb,hf⟩:=Lib.mapM_at hm i i (by simp [hi])
       obtain ⟨s,hc,rfl,_⟩:=DataW.trod_string Tryz.underlying9 hf
       have h1 : cs.toList[i]? = some (.string s):=by
         have:=congrArg (·[0]?) hc
         simpa [List.getElem?_take,List.getElem?_drop] using this
       have h2 : (xs.map (·.1))[i]? = some (DataW.lit (.string s.data.toList) : DataW Unit):=by simp [hb]
       rw [hl] at h2
       simp only [Option.some.injEq,DataW.lit.injEq,Lit.string.injEq] at h2
       rw [hcell i,h2]
       simpa using h1
     rw [hxs] at key
     exact ⟨hsz,key 0 _ J9 rfl,key 1 _ J9 rfl,key 2 _ J9 rfl,key 3 _ J9 rfl,key 4 _ J9 rfl,key 5 _ J9 rfl⟩
   · cases hd
def laidListE : List (String × DataW Unit):=Rows.evalTidiedRow.laid
def layAllE (h : Array Obj) : Array Obj:=[(5,flat 4 Rows.laid_math_bits_deBruijn32tab),(6,flat 4 Rows.laid_math_bits_deBruijn64tab),(4,flat 4 Rows.laid_internal_strconv_uint64pow10),(8,flat 4 Rows.laid_unicode_utf8_acceptRanges),(0,flat 4 Rows.laid_cadastre_value_names),(7,flat 4 Rows.laid_unicode_utf8_first)].foldl (fun h x=>h.modify x.1 (layIn x.2)) h
noncomputable def laidWorldE (os : Os) : World :=
 { World.holding Tryz.prog os ⟨#[],#[],[]⟩ with heap:=layAllE (World.holding Tryz.prog os ⟨#[],#[],[]⟩).heap }
theorem nm_ofE {W : World} (h : laidMetH Tryz.prog laidListE W) : Nm W:=by
 rw [MakeChecks.laidMetH_plain _ _ _ J3] at h
 exact names_of (laidMet.tail (laidMet.tail (laidMet.tail (laidMet.tail (show laidMet Tryz.prog (_ :: _ :: _ :: _ :: _ :: _) W from h)))))
theorem gPow : Tryz.prog.globalNamed "internal/strconv.uint64pow10" = some 4:=J3
theorem gPowType : (Tryz.prog.globals[4]?).map (·.type) = some 271:=J3
theorem cellsPow : Tryz.prog.cellsOf 271 = 20:=J3
theorem cellsU64 : Tryz.prog.cellsOf 129 = 1:=J3
theorem tab_ofE {W : World} (h : laidMetH Tryz.prog laidListE W) : Tab W:=by
 rw [MakeChecks.laidMetH_plain _ _ _ J3] at h
 exact Lib.tabIs_of_head gPow gPowType Tryz.underlying271 Tryz.underlying129 cellsU64 cellsPow (laidMet.tail (laidMet.tail (show laidMet Tryz.prog (_ :: _ :: _ :: _) W from h)))
end Go.Proofs.YtcfgbiaahangmaaGreatDoor
