import Derived.Test.YtcfgbiaahangmaaGreatDoorSfCB
import Derived.Test.YtcfgbiaahangmaaGreatDoorC20
set_option maxHeartbeats 6000000
set_option maxRecDepth 100000
namespace Go.Proofs.YtcfgbiaahangmaaGreatDoor
open Go.Proofs.Tryz
open Go.RowKit
theorem vcompare_any (ka na:Int) (sa:ByteArray) (ea kb nb:Int) (sb:ByteArray) (eb:Int) (w:World) (hN:Nm w) :
   Calls Tryz.prog 99 #[.agg #[.int .i64 ka,.int .i64 na,.string sa,.int .i64 ea],.agg #[.int .i64 kb,.int .i64 nb,.string sb,.int .i64 eb]] w fun r w' =>
     r = .returned (.tuple #[.int .i64 (cmpV (nm ka na sa ea) (nm kb nb sb eb)),(cmpE (nm ka na sa ea) (nm kb nb sb eb)).dat])∧Ext w w':=by
 have c1:=fun W h=>vnormal_any ka na sa ea W h
 have c2:=fun W h=>vnormal_any kb nb sb eb W h
 generalize nm ka na sa ea = a at c1 ⊢
 generalize nm kb nb sb eb = b at c2 ⊢
 rw [dat_eq] at c1 c2
 have H1:Hid (a.k = 4→cmpV a b = 0∧(cmpE a b).dat = .agg #[.int .i64 4,.int .i64 a.n,.string a.s,.int .i64 a.e]):=fun ha=>⟨(cmp_ea b ha).1,by rw [(cmp_ea b ha).2,dat_eq,ha]⟩
 have H2:Hid (a.k≠4→b.k = 4→cmpV a b = 0∧(cmpE a b).dat = .agg #[.int .i64 4,.int .i64 b.n,.string b.s,.int .i64 b.e]):=fun ha hb=>⟨(cmp_eb ha hb).1,by rw [(cmp_eb ha hb).2,dat_eq,hb]⟩
 have H3:Hid (a.k≠4→b.k≠4→cmpE a b = .blank∧cmpV a b = or3 (sg3 (rk (bk0 b.k a.k)) (rk (bk0 a.k b.k))) (sg3 (if a.k = 0 then 0 else a.n) (if b.k = 0 then 0 else b.n)) (Lib.compareBytes (bkS a.k a.s).data.toList (bkS b.k b.s).data.toList)):=fun ha hb=>cmp_n ha hb
 generalize a.k = pk at *
 generalize a.n = pn at *
 generalize a.s = ps at *
 generalize a.e = pe at *
 generalize b.k = qk at *
 generalize b.n = qn at *
 generalize b.s = qs at *
 generalize b.e = qe at *
 generalize cmpV a b = I at *
 generalize cmpE a b = J at *
 clear a b
 go_enter func99,ntmps99
 go_upto_region 1 with fail
 obtain ⟨W0,hW0⟩:∃ W0,W0 = ((w.alloc (.cells #[.int .i64 ka,.int .i64 na,.string sa,.int .i64 ea] 33)).alloc (.cells #[.int .i64 kb,.int .i64 nb,.string sb,.int .i64 eb] 33)).alloc (.cells #[.int .i64 0,.int .i64 0,.string ⟨#[]⟩,.int .i64 0] 33):=⟨_,rfl⟩
 rw [← hW0]
 have XW:Ext w W0:=by rw [hW0];exact ((xr.alloc _).alloc _).alloc _
 have hK:Hid (∀ W,Ext W0 W→Blk W w.heap.size (.int .i64 ka) (.int .i64 na) (.string sa) (.int .i64 ea)∧Blk W (w.heap.size+1) (.int .i64 kb) (.int .i64 nb) (.string sb) (.int .i64 eb)∧Blk W (w.heap.size+1+1) (.int .i64 0) (.int .i64 0) (.string ⟨#[]⟩) (.int .i64 0)):=by
   exact K121
 clear hW0
 go_cut [] (fun wx=>Ext w wx∧Blk wx w.heap.size (.int .i64 pk) (.int .i64 pn) (.string ps) (.int .i64 pe)∧Blk wx (w.heap.size+1) (.int .i64 qk) (.int .i64 qn) (.string qs) (.int .i64 qe)∧Blk wx (w.heap.size+1+1) (.int .i64 0) (.int .i64 0) (.string ⟨#[]⟩) (.int .i64 0))
 case first =>
   clear H1 H2 H3
   have mkS:Hid (∀ W,Ext W0 W→(W.cell? ⟨w.heap.size,0,none⟩ = some (.int .i64 ka)∧W.cell? ⟨w.heap.size,1,none⟩ = some (.int .i64 na)∧W.cell? ⟨w.heap.size,2,none⟩ = some (.string sa)∧W.cell? ⟨w.heap.size,3,none⟩ = some (.int .i64 ea))∧(W.cell? ⟨w.heap.size+1,0,none⟩ = some (.int .i64 kb)∧W.cell? ⟨w.heap.size+1,1,none⟩ = some (.int .i64 nb)∧W.cell? ⟨w.heap.size+1,2,none⟩ = some (.string sb)∧W.cell? ⟨w.heap.size+1,3,none⟩ = some (.int .i64 eb))∧Ext W0 W):=by
     show ∀ W,_
     intro W h
     exact ⟨(hK.out W h).1.2.1,(hK.out W h).2.1.2.1,h⟩
   refine bar_begin (B:=fun i=>i == 4 || i == 5) (S:=fun W=>(W.cell? ⟨w.heap.size,0,none⟩ = some (.int .i64 ka)∧W.cell? ⟨w.heap.size,1,none⟩ = some (.int .i64 na)∧W.cell? ⟨w.heap.size,2,none⟩ = some (.string sa)∧W.cell? ⟨w.heap.size,3,none⟩ = some (.int .i64 ea))∧(W.cell? ⟨w.heap.size+1,0,none⟩ = some (.int .i64 kb)∧W.cell? ⟨w.heap.size+1,1,none⟩ = some (.int .i64 nb)∧W.cell? ⟨w.heap.size+1,2,none⟩ = some (.string sb)∧W.cell? ⟨w.heap.size+1,3,none⟩ = some (.int .i64 eb))∧Ext W0 W) J3 ?_
   have hS0:=mkS.out (World.drew W0) xr.drew
   refine bar_take (i:=0) (v:=?va0) rfl J3 J3 J3 J3 (fun _ _ _ h=>h) (Or.inl ⟨by rfl,?hya0⟩) hS0 ?resta0
   case hya0=>(intro W hSW;(try dsimp only at hSW);go_simp;with_reducible rfl)
   simp only [Act.put,List.setIfInBounds_toArray]
   refine bar_take (i:=2) (v:=?va2) rfl J3 J3 J3 J3 (fun _ _ _ h=>h) (Or.inl ⟨by rfl,?hya2⟩) hS0 ?resta2
   case hya2=>(intro W hSW;(try dsimp only at hSW);go_simp;with_reducible rfl)
   simp only [Act.put]
   refine bar_one (i:=1) J3 rfl (fun KK hKK=>?_)
   go_simp
   go_wp2_with (go_at_call 47;refine Calls.mono (c1 _ (hN.ext (XW.trans xr.drew))) ?_;rintro e w5 ⟨rfl,E5⟩)
   have X5:Ext W0 w5:=Ext.trans xr.drew E5
   refine hKK.out _ _ (fun _=>mkS.out _ X5) ?_
   clear hKK KK hS0
   refine bar_one (i:=3) J3 rfl (fun KK hKK=>?_)
   go_simp
   go_wp2_with (go_at_call 47;refine Calls.mono (c2 _ (hN.ext (XW.trans X5))) ?_;rintro e w6 ⟨rfl,E6⟩)
   have X6:Ext W0 w6:=X5.trans E6
   refine hKK.out _ _ (fun _=>mkS.out _ X6) ?_
   clear hKK KK mkS
   obtain ⟨A6,B6,R6⟩:=hK.out w6 X6
   have A7:=A6
   have B7:=B6
   obtain ⟨az,⟨a0,a1,a2,a3⟩,af0,af1,af2,af3⟩:=A7
   obtain ⟨bz,⟨b0,b1,b2,b3⟩,bf0,bf1,bf2,bf3⟩:=B7
   have X7:Ext w w6:=XW.trans X6
   refine bar_one (i:=4) J3 rfl (fun KK hKK=>?_)
   go_simp
   refine hKK.out _ _ (fun h=>absurd h J9) ?_
   clear hKK KK
   refine bar_one (i:=5) J3 rfl (fun KK hKK=>?_)
   exact K207
 case rest =>
   obtain ⟨X,A,B,R⟩:=hcut
   have A':=A
   have B':=B
   obtain ⟨az,⟨a0,a1,a2,a3⟩,af0,af1,af2,af3⟩:=A'
   obtain ⟨bz,⟨b0,b1,b2,b3⟩,bf0,bf1,bf2,bf3⟩:=B'
   clear c1 c2 hK XW hN
   by_cases ha:pk = 4
   · obtain ⟨rfl,H⟩:=H1.out ha
     have H:Hid (J.dat = _):=H
     subst ha
     have c:=fun W h=>firsterr_a 4 pn ps pe qk qn qs qe wc.heap.size W h J9
     go_wp2_with fail
     refine (c _ two_alloc).mono ?_
     rintro r w2 ⟨rfl,E2⟩
     have X2:Ext w w2:=Ext.trans J4 E2
     have R2:=(R.ext (xr.alloc _)).ext E2
     have R3:=R2
     obtain ⟨rz,⟨r0,r1,r2,r3⟩,rf0,rf1,rf2,rf3⟩:=R3
     clear H1 H2 H3
     exact K44
   · by_cases hb:qk = 4
     · obtain ⟨rfl,H⟩:=H2.out ha hb
       have H:Hid (J.dat = _):=H
       subst hb
       have c:=fun W h=>firsterr_b pk pn ps pe 4 qn qs qe wc.heap.size W h J49 J9
       clear H1 H2 H3 ha
       go_wp2_with fail
       refine (c _ two_alloc).mono ?_
       rintro r w2 ⟨rfl,E2⟩
       have X2:Ext w w2:=Ext.trans J4 E2
       have R2:=(R.ext (xr.alloc _)).ext E2
       have R3:=R2
       obtain ⟨rz,⟨r0,r1,r2,r3⟩,rf0,rf1,rf2,rf3⟩:=R3
       exact K44
     · obtain ⟨rfl,H⟩:=H3.out ha hb
       have H:Hid (I = _):=H
       have c:=fun W h=>firsterr_n pk pn ps pe qk qn qs qe wc.heap.size W h J49 (by simpa using hb)
       clear H1 H2 H3 ha hb
       go_wp2_with fail
       refine (c _ two_alloc).mono ?_
       rintro r w2 ⟨rfl,E2⟩
       have X2:Ext w w2:=Ext.trans J4 E2
       have R2:=(R.ext (xr.alloc _)).ext E2
       have A2:=(A.ext (xr.alloc _)).ext E2
       have B2:=(B.ext (xr.alloc _)).ext E2
       clear A B R X E2 c az a0 a1 a2 a3 af0 af1 af2 af3 bz b0 b1 b2 b3 bf0 bf1 bf2 bf3
       go_wp2_with fail
       have d1:=fun W=>blankas_any qk pk pn ps pe W
       have d2:=fun W=>blankas_any pk qk qn qs qe W
       generalize bk0 qk pk = xk at *
       generalize bk0 pk qk = yk at *
       generalize (if pk = 0 then 0 else pn) = xn at *
       generalize (if qk = 0 then 0 else qn) = yn at *
       generalize (if pk = 0 then 0 else pe) = xe at *
       generalize (if qk = 0 then 0 else qe) = ye at *
       generalize bkS pk ps = xs at *
       generalize bkS qk qs = ys at *
       have hK:Hid (∀ W,Ext w2 W→Ext w W∧Blk W w.heap.size (.int .i64 pk) (.int .i64 pn) (.string ps) (.int .i64 pe)∧Blk W (w.heap.size+1) (.int .i64 qk) (.int .i64 qn) (.string qs) (.int .i64 qe)∧Blk W (w.heap.size+1+1) (.int .i64 0) (.int .i64 0) (.string ⟨#[]⟩) (.int .i64 0)):=fun W h=>⟨X2.trans h,A2.ext h,B2.ext h,R2.ext h⟩
       clear A2 B2 X2 R2
       go_cut [] (fun wx=>Ext w wx∧Blk wx w.heap.size (.int .i64 xk) (.int .i64 xn) (.string xs) (.int .i64 xe)∧Blk wx (w.heap.size+1) (.int .i64 yk) (.int .i64 yn) (.string ys) (.int .i64 ye)∧Blk wx (w.heap.size+1+1) (.int .i64 0) (.int .i64 0) (.string ⟨#[]⟩) (.int .i64 0))
       case first =>
         clear H
         have mkS:Hid (∀ W,Ext w2 W→(W.cell? ⟨w.heap.size,0,none⟩ = some (.int .i64 pk)∧W.cell? ⟨w.heap.size,1,none⟩ = some (.int .i64 pn)∧W.cell? ⟨w.heap.size,2,none⟩ = some (.string ps)∧W.cell? ⟨w.heap.size,3,none⟩ = some (.int .i64 pe))∧(W.cell? ⟨w.heap.size+1,0,none⟩ = some (.int .i64 qk)∧W.cell? ⟨w.heap.size+1,1,none⟩ = some (.int .i64 qn)∧W.cell? ⟨w.heap.size+1,2,none⟩ = some (.string qs)∧W.cell? ⟨w.heap.size+1,3,none⟩ = some (.int .i64 qe))∧Ext w2 W):=by
           show ∀ W,_
           intro W h
           exact ⟨(hK.out W h).2.1.2.1,(hK.out W h).2.2.1.2.1,h⟩
         refine bar_begin (B:=fun i=>i == 8 || i == 9) (S:=fun W=>(W.cell? ⟨w.heap.size,0,none⟩ = some (.int .i64 pk)∧W.cell? ⟨w.heap.size,1,none⟩ = some (.int .i64 pn)∧W.cell? ⟨w.heap.size,2,none⟩ = some (.string ps)∧W.cell? ⟨w.heap.size,3,none⟩ = some (.int .i64 pe))∧(W.cell? ⟨w.heap.size+1,0,none⟩ = some (.int .i64 qk)∧W.cell? ⟨w.heap.size+1,1,none⟩ = some (.int .i64 qn)∧W.cell? ⟨w.heap.size+1,2,none⟩ = some (.string qs)∧W.cell? ⟨w.heap.size+1,3,none⟩ = some (.int .i64 qe))∧Ext w2 W) J3 ?_
         have hS0:=mkS.out (World.drew (w2.alloc (.cells #[.int .i64 0,.int .i64 0,.string ⟨#[]⟩,.int .i64 0] 33))) (xr.alloc _).drew
         refine bar_take (i:=0) (v:=?v0) rfl J3 J3 J3 J3 (fun _ _ _ h=>h) (Or.inl ⟨by rfl,?hy0⟩) hS0 ?rest0
         case hy0=>(intro W hSW;(try dsimp only at hSW);go_simp;with_reducible rfl)
         simp only [Act.put,List.setIfInBounds_toArray]
         refine bar_take (i:=1) (v:=?v1) rfl J3 J3 J3 J3 (fun _ _ _ h=>h) (Or.inl ⟨by rfl,?hy1⟩) hS0 ?rest1
         case hy1=>(intro W hSW;(try dsimp only at hSW);go_simp;with_reducible rfl)
         simp only [Act.put]
         refine bar_take (i:=2) (v:=?v2) rfl J3 J3 J3 J3 (fun _ _ _ h=>h) (Or.inl ⟨by rfl,?hy2⟩) hS0 ?rest2
         case hy2=>(intro W hSW;(try dsimp only at hSW);go_simp;with_reducible rfl)
         simp only [Act.put]
         refine bar_take (i:=4) (v:=?v4) rfl J3 J3 J3 J3 (fun _ _ _ h=>h) (Or.inl ⟨by rfl,?hy4⟩) hS0 ?rest4
         case hy4=>(intro W hSW;(try dsimp only at hSW);go_simp;with_reducible rfl)
         simp only [Act.put]
         refine bar_take (i:=5) (v:=?v5) rfl J3 J3 J3 J3 (fun _ _ _ h=>h) (Or.inl ⟨by rfl,?hy5⟩) hS0 ?rest5
         case hy5=>(intro W hSW;(try dsimp only at hSW);go_simp;with_reducible rfl)
         simp only [Act.put]
         refine bar_take (i:=6) (v:=?v6) rfl J3 J3 J3 J3 (fun _ _ _ h=>h) (Or.inl ⟨by rfl,?hy6⟩) hS0 ?rest6
         case hy6=>(intro W hSW;(try dsimp only at hSW);go_simp;with_reducible rfl)
         simp only [Act.put]
         refine bar_one (i:=3) J3 rfl (fun KK hKK=>?_)
         go_simp
         go_wp2_with (go_at_call 132;refine Calls.mono (d1 _) ?_;rintro e w5 ⟨rfl,E5⟩)
         have X5:Ext w2 w5:=Ext.trans (xr.alloc _).drew E5
         refine hKK.out _ _ (fun _=>mkS.out _ X5) ?_
         clear hKK KK hS0
         refine bar_one (i:=7) J3 rfl (fun KK hKK=>?_)
         go_simp
         go_wp2_with (go_at_call 132;refine Calls.mono (d2 _) ?_;rintro e w6 ⟨rfl,E6⟩)
         have X6:Ext w2 w6:=X5.trans E6
         refine hKK.out _ _ (fun _=>mkS.out _ X6) ?_
         clear hKK KK mkS
         obtain ⟨N6,A6,B6,R6⟩:=hK.out w6 X6
         have A7:=A6
         have B7:=B6
         obtain ⟨az,⟨a0,a1,a2,a3⟩,af0,af1,af2,af3⟩:=A7
         obtain ⟨bz,⟨b0,b1,b2,b3⟩,bf0,bf1,bf2,bf3⟩:=B7
         refine bar_one (i:=8) J3 rfl (fun KK hKK=>?_)
         go_simp
         refine hKK.out _ _ (fun h=>absurd h J9) ?_
         clear hKK KK
         refine bar_one (i:=9) J3 rfl (fun KK hKK=>?_)
         exact K207
       case rest =>
         obtain ⟨X3,A3,B3,R3⟩:=hcut
         clear hK d1 d2
         have H:Hid (I = or3 (sg3 (rk xk) (rk yk)) (sg3 xn yn) (Lib.compareBytes xs.data.toList ys.data.toList)):=H
         have e1:=fun W=>rank_any xk W
         have e2:=fun W=>rank_any yk W
         have e3:=fun W=>Tryz.cmp_Compare_int (rk xk) (rk yk) W
         have e4:=fun W=>cmp64_any xn yn W
         have e5:=fun W=>Tryz.strings_Compare xs ys W
         have e6:=fun L W h0 h1 h2=>or_any (sg3 (rk xk) (rk yk)) (sg3 xn yn) (Lib.compareBytes xs.data.toList ys.data.toList) L W h0 h1 h2
         rw [show Lib.compareInt (rk xk) (rk yk) = sg3 (rk xk) (rk yk) from rfl] at e3
         generalize or3 (sg3 (rk xk) (rk yk)) (sg3 xn yn) (Lib.compareBytes xs.data.toList ys.data.toList) = o at *
         generalize sg3 (rk xk) (rk yk) = c1 at *
         generalize sg3 xn yn = c2 at *
         generalize Lib.compareBytes xs.data.toList ys.data.toList = c3 at *
         generalize rk xk = k1 at *
         generalize rk yk = k2 at *
         have mkS:Hid (∀ W,(Blk W w.heap.size (.int .i64 xk) (.int .i64 xn) (.string xs) (.int .i64 xe)∧Blk W (w.heap.size+1) (.int .i64 yk) (.int .i64 yn) (.string ys) (.int .i64 ye))→(W.cell? ⟨w.heap.size,0,none⟩ = some (.int .i64 xk)∧W.cell? ⟨w.heap.size,1,none⟩ = some (.int .i64 xn)∧W.cell? ⟨w.heap.size,2,none⟩ = some (.string xs)∧W.cell? ⟨w.heap.size,3,none⟩ = some (.int .i64 xe))∧(W.cell? ⟨w.heap.size+1,0,none⟩ = some (.int .i64 yk)∧W.cell? ⟨w.heap.size+1,1,none⟩ = some (.int .i64 yn)∧W.cell? ⟨w.heap.size+1,2,none⟩ = some (.string ys)∧W.cell? ⟨w.heap.size+1,3,none⟩ = some (.int .i64 ye))):=by
           show ∀ W,_
           intro W h
           exact ⟨h.1.2.1,h.2.2.1⟩
         have R4:=R3
         obtain ⟨rz,⟨r0,r1,r2,r3⟩,rf0,rf1,rf2,rf3⟩:=R4
         go_upto_region 6 with fail
         go_region_held3 (fun W=>(W.cell? ⟨w.heap.size,0,none⟩ = some (.int .i64 xk)∧W.cell? ⟨w.heap.size,1,none⟩ = some (.int .i64 xn)∧W.cell? ⟨w.heap.size,2,none⟩ = some (.string xs)∧W.cell? ⟨w.heap.size,3,none⟩ = some (.int .i64 xe))∧(W.cell? ⟨w.heap.size+1,0,none⟩ = some (.int .i64 yk)∧W.cell? ⟨w.heap.size+1,1,none⟩ = some (.int .i64 yn)∧W.cell? ⟨w.heap.size+1,2,none⟩ = some (.string ys)∧W.cell? ⟨w.heap.size+1,3,none⟩ = some (.int .i64 ye)))
           ((refine mkS.out _ ?_;refine ⟨?_,?_⟩ <;> ((with_reducible (repeat' (first | assumption | apply Blk.set | apply Blk.far | apply Blk.al | apply Blk.dr)));all_goals omega)))
           (first
             | (go_at_call 133;have q1:=F1;refine Calls.mono (e2 _) ?_;rintro e w' ⟨rfl,rfl⟩)
             | (go_at_call 133;refine Calls.mono (e1 _) ?_;rintro e w' ⟨rfl,rfl⟩;have F1:True:=trivial)
             | (go_at_call 31;refine Calls.mono (e3 _) ?_;rintro e w' ⟨rfl,rfl⟩)
             | (go_at_call 134;refine Calls.mono (e4 _) ?_;rintro e w' ⟨rfl,rfl⟩)
             | (go_at_call 135;refine Calls.mono (e5 _) ?_;rintro e w' ⟨rfl,rfl⟩)
             | (go_at_call 30;refine Calls.mono (e6 _ _ J17 J17 J17) ?_;rintro e w' ⟨rfl,rfl⟩))
         all_goals
           go_wp2_with fail
           apply finBi o (b:=w.heap.size+1+1) (w:=w)
           case B=>((with_reducible (repeat' (first | assumption | apply Blk.set | apply Blk.far | apply Blk.al | apply Blk.dr)));all_goals omega)
           case hd=>rfl
           case E=>((with_reducible (repeat' (first | assumption | exact xr | apply Ext.alloc | apply Ext.drew | apply Ext.drewN | apply Ext.setCell)));all_goals (first | omega | (simp;done) | (simp;omega)))
           case hr=>intro g0 g1 g2 g3;simp [results,results99,go_sem,g0,g1,g2,g3]
           case hQ=>exact fun h=>⟨by rw [H.out];rfl,h⟩
theorem holds_eq (n:Int) (W:World):Calls Tryz.prog 100 #[.string ⟨#[61]⟩,.int .i64 n] W fun e w'=>e = .returned (.bool (cmB [61] n))∧w' = W:=by
 exact K200
theorem holds_ne (n:Int) (W:World):Calls Tryz.prog 100 #[.string ⟨#[60,62]⟩,.int .i64 n] W fun e w'=>e = .returned (.bool (cmB [60,62] n))∧w' = W:=by
 exact K200
theorem holds_lt (n:Int) (W:World):Calls Tryz.prog 100 #[.string ⟨#[60]⟩,.int .i64 n] W fun e w'=>e = .returned (.bool (cmB [60] n))∧w' = W:=by
 exact K200
theorem holds_le (n:Int) (W:World):Calls Tryz.prog 100 #[.string ⟨#[60,61]⟩,.int .i64 n] W fun e w'=>e = .returned (.bool (cmB [60,61] n))∧w' = W:=by
 exact K200
theorem holds_gt (n:Int) (W:World):Calls Tryz.prog 100 #[.string ⟨#[62]⟩,.int .i64 n] W fun e w'=>e = .returned (.bool (cmB [62] n))∧w' = W:=by
 exact K200
theorem holds_ge (n:Int) (W:World):Calls Tryz.prog 100 #[.string ⟨#[62,61]⟩,.int .i64 n] W fun e w'=>e = .returned (.bool (cmB [62,61] n))∧w' = W:=by
 exact K200
theorem joined_43 (a b:V) (ha:a.ok) (hb:b.ok) (W:World) (hN:Nm W) (_:Tab W) :
   Calls Tryz.prog 69 #[.string ⟨#[43]⟩,.agg #[.int .i64 a.k,.int .i64 a.n,.string a.s,.int .i64 a.e],.agg #[.int .i64 b.k,.int .i64 b.n,.string b.s,.int .i64 b.e]] W fun e w'=>e = .returned (.agg #[.int .i64 (binV [43] a b).k,.int .i64 (binV [43] a b).n,.string (binV [43] a b).s,.int .i64 (binV [43] a b).e])∧Ext W w':=by
 have na:=(nm_of a ha).1
 have nb:=(nm_of b hb).1
 have cA:=fun W' (e:Ext W W')=>arith_any 43 a.k a.n a.s a.e b.k b.n b.s b.e W' (ok_n ha) (ok_n hb) (hN.ext e)
 rw [na,nb] at cA
 have HB:binV [43] a b = arith 43 a b:=rfl
 rw [HB]
 simp only [dat_eq] at cA
 generalize arith 43 a b = v at *
 exact K9
theorem joined_45 (a b:V) (ha:a.ok) (hb:b.ok) (W:World) (hN:Nm W) (_:Tab W) :
   Calls Tryz.prog 69 #[.string ⟨#[45]⟩,.agg #[.int .i64 a.k,.int .i64 a.n,.string a.s,.int .i64 a.e],.agg #[.int .i64 b.k,.int .i64 b.n,.string b.s,.int .i64 b.e]] W fun e w'=>e = .returned (.agg #[.int .i64 (binV [45] a b).k,.int .i64 (binV [45] a b).n,.string (binV [45] a b).s,.int .i64 (binV [45] a b).e])∧Ext W w':=by
 have na:=(nm_of a ha).1
 have nb:=(nm_of b hb).1
 have cA:=fun W' (e:Ext W W')=>arith_any 45 a.k a.n a.s a.e b.k b.n b.s b.e W' (ok_n ha) (ok_n hb) (hN.ext e)
 rw [na,nb] at cA
 have HB:binV [45] a b = arith 45 a b:=rfl
 rw [HB]
 simp only [dat_eq] at cA
 generalize arith 45 a b = v at *
 exact K9
theorem joined_42 (a b:V) (ha:a.ok) (hb:b.ok) (W:World) (hN:Nm W) (_:Tab W) :
   Calls Tryz.prog 69 #[.string ⟨#[42]⟩,.agg #[.int .i64 a.k,.int .i64 a.n,.string a.s,.int .i64 a.e],.agg #[.int .i64 b.k,.int .i64 b.n,.string b.s,.int .i64 b.e]] W fun e w'=>e = .returned (.agg #[.int .i64 (binV [42] a b).k,.int .i64 (binV [42] a b).n,.string (binV [42] a b).s,.int .i64 (binV [42] a b).e])∧Ext W w':=by
 have na:=(nm_of a ha).1
 have nb:=(nm_of b hb).1
 have cA:=fun W' (e:Ext W W')=>arith_any 42 a.k a.n a.s a.e b.k b.n b.s b.e W' (ok_n ha) (ok_n hb) (hN.ext e)
 rw [na,nb] at cA
 have HB:binV [42] a b = arith 42 a b:=rfl
 rw [HB]
 simp only [dat_eq] at cA
 generalize arith 42 a b = v at *
 exact K9
theorem joined_47 (a b:V) (ha:a.ok) (hb:b.ok) (W:World) (hN:Nm W) (_:Tab W) :
   Calls Tryz.prog 69 #[.string ⟨#[47]⟩,.agg #[.int .i64 a.k,.int .i64 a.n,.string a.s,.int .i64 a.e],.agg #[.int .i64 b.k,.int .i64 b.n,.string b.s,.int .i64 b.e]] W fun e w'=>e = .returned (.agg #[.int .i64 (binV [47] a b).k,.int .i64 (binV [47] a b).n,.string (binV [47] a b).s,.int .i64 (binV [47] a b).e])∧Ext W w':=by
 have na:=(nm_of a ha).1
 have nb:=(nm_of b hb).1
 have cA:=fun W' (e:Ext W W')=>arith_any 47 a.k a.n a.s a.e b.k b.n b.s b.e W' (ok_n ha) (ok_n hb) (hN.ext e)
 rw [na,nb] at cA
 have HB:binV [47] a b = arith 47 a b:=rfl
 rw [HB]
 simp only [dat_eq] at cA
 generalize arith 47 a b = v at *
 exact K9
theorem joined_38 (a b:V) (ha:a.ok) (hb:b.ok) (W:World) (hN:Nm W) (hT:Tab W) :
   Calls Tryz.prog 69 #[.string ⟨#[38]⟩,.agg #[.int .i64 a.k,.int .i64 a.n,.string a.s,.int .i64 a.e],.agg #[.int .i64 b.k,.int .i64 b.n,.string b.s,.int .i64 b.e]] W fun e w'=>e = .returned (.agg #[.int .i64 (binV [38] a b).k,.int .i64 (binV [38] a b).n,.string (binV [38] a b).s,.int .i64 (binV [38] a b).e])∧Ext W w':=by
 have na:=(nm_of a ha).1
 have nb:=(nm_of b hb).1
 have cA:=fun W' (e:Ext W W')=>vjoin_any a.k a.n a.s a.e b.k b.n b.s b.e W' (ok_n ha) (ok_n hb) (hN.ext e) (hT.ext e)
 rw [na,nb] at cA
 have HB:binV [38] a b = join a b:=rfl
 rw [HB]
 simp only [dat_eq] at cA
 generalize join a b = v at *
 obtain ⟨vk,vn,vs,ve,hv⟩:∃ vk vn vs ve,vk = v.k∧vn = v.n∧vs = v.s∧ve = v.e:=⟨_,_,_,_,rfl,rfl,rfl,rfl⟩
 rw [← hv.1,← hv.2.1,← hv.2.2.1,← hv.2.2.2] at cA ⊢
 clear na nb ha hb HB hv hN v
 obtain ⟨ak,an,sa,ae,bk,bn,sb,be,hl⟩:∃ ak an sa ae bk bn sb be,ak = a.k∧an = a.n∧sa = a.s∧ae = a.e∧bk = b.k∧bn = b.n∧sb = b.s∧be = b.e:=⟨_,_,_,_,_,_,_,_,rfl,rfl,rfl,rfl,rfl,rfl,rfl,rfl⟩
 obtain ⟨h1,h2,h3,h4,h5,h6,h7,h8⟩:=hl
 rw [← h1,← h2,← h3,← h4,← h5,← h6,← h7,← h8] at cA ⊢
 clear h1 h2 h3 h4 h5 h6 h7 h8 a b
 go_enter func69,ntmps69
 go_wp2_with fail
 refine (cA _ J1).mono ?_
 rintro e w1 ⟨rfl,E1⟩
 have E2:=E1
 have X1:Hid (Ext W w1):=Ext.trans J1 E1
 have D:=blk_top (b:=W.heap.size+1+1) J65 E2
 have D':=D
 obtain ⟨b0z,⟨b0_0,b0_1,b0_2,b0_3⟩,b0f0,b0f1,b0f2,b0f3⟩:=D'
 go_wp2_with fail
 exact finB ((D.set _ _ _ _)) rfl ((((X1.out.setCell J6 _).setCell J6 _).setCell J6 _).setCell J6 _) J8 (fun h=>⟨rfl,h⟩)
theorem joined_eq_e (a b:V) (ha:a.ok) (hb:b.ok) (hk:(cmpE a b).k = 4) (W:World) (hN:Nm W) (_:Tab W) :
   Calls Tryz.prog 69 #[.string ⟨#[61]⟩,.agg #[.int .i64 a.k,.int .i64 a.n,.string a.s,.int .i64 a.e],.agg #[.int .i64 b.k,.int .i64 b.n,.string b.s,.int .i64 b.e]] W fun e w'=>e = .returned (.agg #[.int .i64 (binV [61] a b).k,.int .i64 (binV [61] a b).n,.string (binV [61] a b).s,.int .i64 (binV [61] a b).e])∧Ext W w':=by
 have na:=(nm_of a ha).1
 have nb:=(nm_of b hb).1
 have cA:=fun W' (e:Ext W W')=>vcompare_any a.k a.n a.s a.e b.k b.n b.s b.e W' (hN.ext e)
 rw [na,nb] at cA
 have HB:binV [61] a b = cmpE a b:=J113
 exact K3
theorem joined_eq_o (a b:V) (ha:a.ok) (hb:b.ok) (hk:(cmpE a b).k≠4) (W:World) (hN:Nm W) (_:Tab W) :
   Calls Tryz.prog 69 #[.string ⟨#[61]⟩,.agg #[.int .i64 a.k,.int .i64 a.n,.string a.s,.int .i64 a.e],.agg #[.int .i64 b.k,.int .i64 b.n,.string b.s,.int .i64 b.e]] W fun e w'=>e = .returned (.agg #[.int .i64 (binV [61] a b).k,.int .i64 (binV [61] a b).n,.string (binV [61] a b).s,.int .i64 (binV [61] a b).e])∧Ext W w':=by
 have na:=(nm_of a ha).1
 have nb:=(nm_of b hb).1
 have cA:=fun W' (e:Ext W W')=>vcompare_any a.k a.n a.s a.e b.k b.n b.s b.e W' (hN.ext e)
 rw [na,nb] at cA
 have HB:binV [61] a b = .tf (cmB [61] (cmpV a b)):=J114
 rw [HB]
 simp only [dat_eq] at cA
 generalize cmpV a b = o at *
 generalize cmpE a b = v at *
 obtain ⟨vk,vn,vs,ve,hv⟩:∃ vk vn vs ve,vk = v.k∧vn = v.n∧vs = v.s∧ve = v.e:=⟨_,_,_,_,rfl,rfl,rfl,rfl⟩
 rw [← hv.1,← hv.2.1,← hv.2.2.1,← hv.2.2.2] at cA
 rw [← hv.1] at hk
 have k4:(vk == 4) = false:=J96
 have cH:=fun W'=>holds_eq o W'
 exact K2
theorem joined_ne_e (a b:V) (ha:a.ok) (hb:b.ok) (hk:(cmpE a b).k = 4) (W:World) (hN:Nm W) (_:Tab W) :
   Calls Tryz.prog 69 #[.string ⟨#[60,62]⟩,.agg #[.int .i64 a.k,.int .i64 a.n,.string a.s,.int .i64 a.e],.agg #[.int .i64 b.k,.int .i64 b.n,.string b.s,.int .i64 b.e]] W fun e w'=>e = .returned (.agg #[.int .i64 (binV [60,62] a b).k,.int .i64 (binV [60,62] a b).n,.string (binV [60,62] a b).s,.int .i64 (binV [60,62] a b).e])∧Ext W w':=by
 have na:=(nm_of a ha).1
 have nb:=(nm_of b hb).1
 have cA:=fun W' (e:Ext W W')=>vcompare_any a.k a.n a.s a.e b.k b.n b.s b.e W' (hN.ext e)
 rw [na,nb] at cA
 have HB:binV [60,62] a b = cmpE a b:=J113
 exact K3
theorem joined_ne_o (a b:V) (ha:a.ok) (hb:b.ok) (hk:(cmpE a b).k≠4) (W:World) (hN:Nm W) (_:Tab W) :
   Calls Tryz.prog 69 #[.string ⟨#[60,62]⟩,.agg #[.int .i64 a.k,.int .i64 a.n,.string a.s,.int .i64 a.e],.agg #[.int .i64 b.k,.int .i64 b.n,.string b.s,.int .i64 b.e]] W fun e w'=>e = .returned (.agg #[.int .i64 (binV [60,62] a b).k,.int .i64 (binV [60,62] a b).n,.string (binV [60,62] a b).s,.int .i64 (binV [60,62] a b).e])∧Ext W w':=by
 have na:=(nm_of a ha).1
 have nb:=(nm_of b hb).1
 have cA:=fun W' (e:Ext W W')=>vcompare_any a.k a.n a.s a.e b.k b.n b.s b.e W' (hN.ext e)
 rw [na,nb] at cA
 have HB:binV [60,62] a b = .tf (cmB [60,62] (cmpV a b)):=J114
 rw [HB]
 simp only [dat_eq] at cA
 generalize cmpV a b = o at *
 generalize cmpE a b = v at *
 obtain ⟨vk,vn,vs,ve,hv⟩:∃ vk vn vs ve,vk = v.k∧vn = v.n∧vs = v.s∧ve = v.e:=⟨_,_,_,_,rfl,rfl,rfl,rfl⟩
 rw [← hv.1,← hv.2.1,← hv.2.2.1,← hv.2.2.2] at cA
 rw [← hv.1] at hk
 have k4:(vk == 4) = false:=J96
 have cH:=fun W'=>holds_ne o W'
 exact K2
theorem joined_lt_e (a b:V) (ha:a.ok) (hb:b.ok) (hk:(cmpE a b).k = 4) (W:World) (hN:Nm W) (_:Tab W) :
   Calls Tryz.prog 69 #[.string ⟨#[60]⟩,.agg #[.int .i64 a.k,.int .i64 a.n,.string a.s,.int .i64 a.e],.agg #[.int .i64 b.k,.int .i64 b.n,.string b.s,.int .i64 b.e]] W fun e w'=>e = .returned (.agg #[.int .i64 (binV [60] a b).k,.int .i64 (binV [60] a b).n,.string (binV [60] a b).s,.int .i64 (binV [60] a b).e])∧Ext W w':=by
 have na:=(nm_of a ha).1
 have nb:=(nm_of b hb).1
 have cA:=fun W' (e:Ext W W')=>vcompare_any a.k a.n a.s a.e b.k b.n b.s b.e W' (hN.ext e)
 rw [na,nb] at cA
 have HB:binV [60] a b = cmpE a b:=J113
 exact K3
theorem joined_lt_o (a b:V) (ha:a.ok) (hb:b.ok) (hk:(cmpE a b).k≠4) (W:World) (hN:Nm W) (_:Tab W) :
   Calls Tryz.prog 69 #[.string ⟨#[60]⟩,.agg #[.int .i64 a.k,.int .i64 a.n,.string a.s,.int .i64 a.e],.agg #[.int .i64 b.k,.int .i64 b.n,.string b.s,.int .i64 b.e]] W fun e w'=>e = .returned (.agg #[.int .i64 (binV [60] a b).k,.int .i64 (binV [60] a b).n,.string (binV [60] a b).s,.int .i64 (binV [60] a b).e])∧Ext W w':=by
 have na:=(nm_of a ha).1
 have nb:=(nm_of b hb).1
 have cA:=fun W' (e:Ext W W')=>vcompare_any a.k a.n a.s a.e b.k b.n b.s b.e W' (hN.ext e)
 rw [na,nb] at cA
 have HB:binV [60] a b = .tf (cmB [60] (cmpV a b)):=J114
 rw [HB]
 simp only [dat_eq] at cA
 generalize cmpV a b = o at *
 generalize cmpE a b = v at *
 obtain ⟨vk,vn,vs,ve,hv⟩:∃ vk vn vs ve,vk = v.k∧vn = v.n∧vs = v.s∧ve = v.e:=⟨_,_,_,_,rfl,rfl,rfl,rfl⟩
 rw [← hv.1,← hv.2.1,← hv.2.2.1,← hv.2.2.2] at cA
 rw [← hv.1] at hk
 have k4:(vk == 4) = false:=J96
 have cH:=fun W'=>holds_lt o W'
 exact K2
theorem joined_le_e (a b:V) (ha:a.ok) (hb:b.ok) (hk:(cmpE a b).k = 4) (W:World) (hN:Nm W) (_:Tab W) :
   Calls Tryz.prog 69 #[.string ⟨#[60,61]⟩,.agg #[.int .i64 a.k,.int .i64 a.n,.string a.s,.int .i64 a.e],.agg #[.int .i64 b.k,.int .i64 b.n,.string b.s,.int .i64 b.e]] W fun e w'=>e = .returned (.agg #[.int .i64 (binV [60,61] a b).k,.int .i64 (binV [60,61] a b).n,.string (binV [60,61] a b).s,.int .i64 (binV [60,61] a b).e])∧Ext W w':=by
 have na:=(nm_of a ha).1
 have nb:=(nm_of b hb).1
 have cA:=fun W' (e:Ext W W')=>vcompare_any a.k a.n a.s a.e b.k b.n b.s b.e W' (hN.ext e)
 rw [na,nb] at cA
 have HB:binV [60,61] a b = cmpE a b:=J113
 exact K3
theorem joined_le_o (a b:V) (ha:a.ok) (hb:b.ok) (hk:(cmpE a b).k≠4) (W:World) (hN:Nm W) (_:Tab W) :
   Calls Tryz.prog 69 #[.string ⟨#[60,61]⟩,.agg #[.int .i64 a.k,.int .i64 a.n,.string a.s,.int .i64 a.e],.agg #[.int .i64 b.k,.int .i64 b.n,.string b.s,.int .i64 b.e]] W fun e w'=>e = .returned (.agg #[.int .i64 (binV [60,61] a b).k,.int .i64 (binV [60,61] a b).n,.string (binV [60,61] a b).s,.int .i64 (binV [60,61] a b).e])∧Ext W w':=by
 have na:=(nm_of a ha).1
 have nb:=(nm_of b hb).1
 have cA:=fun W' (e:Ext W W')=>vcompare_any a.k a.n a.s a.e b.k b.n b.s b.e W' (hN.ext e)
 rw [na,nb] at cA
 have HB:binV [60,61] a b = .tf (cmB [60,61] (cmpV a b)):=J114
 rw [HB]
 simp only [dat_eq] at cA
 generalize cmpV a b = o at *
 generalize cmpE a b = v at *
 obtain ⟨vk,vn,vs,ve,hv⟩:∃ vk vn vs ve,vk = v.k∧vn = v.n∧vs = v.s∧ve = v.e:=⟨_,_,_,_,rfl,rfl,rfl,rfl⟩
 rw [← hv.1,← hv.2.1,← hv.2.2.1,← hv.2.2.2] at cA
 rw [← hv.1] at hk
 have k4:(vk == 4) = false:=J96
 have cH:=fun W'=>holds_le o W'
 exact K2
theorem joined_gt_e (a b:V) (ha:a.ok) (hb:b.ok) (hk:(cmpE a b).k = 4) (W:World) (hN:Nm W) (_:Tab W) :
   Calls Tryz.prog 69 #[.string ⟨#[62]⟩,.agg #[.int .i64 a.k,.int .i64 a.n,.string a.s,.int .i64 a.e],.agg #[.int .i64 b.k,.int .i64 b.n,.string b.s,.int .i64 b.e]] W fun e w'=>e = .returned (.agg #[.int .i64 (binV [62] a b).k,.int .i64 (binV [62] a b).n,.string (binV [62] a b).s,.int .i64 (binV [62] a b).e])∧Ext W w':=by
 have na:=(nm_of a ha).1
 have nb:=(nm_of b hb).1
 have cA:=fun W' (e:Ext W W')=>vcompare_any a.k a.n a.s a.e b.k b.n b.s b.e W' (hN.ext e)
 rw [na,nb] at cA
 have HB:binV [62] a b = cmpE a b:=J113
 exact K3
theorem joined_gt_o (a b:V) (ha:a.ok) (hb:b.ok) (hk:(cmpE a b).k≠4) (W:World) (hN:Nm W) (_:Tab W) :
   Calls Tryz.prog 69 #[.string ⟨#[62]⟩,.agg #[.int .i64 a.k,.int .i64 a.n,.string a.s,.int .i64 a.e],.agg #[.int .i64 b.k,.int .i64 b.n,.string b.s,.int .i64 b.e]] W fun e w'=>e = .returned (.agg #[.int .i64 (binV [62] a b).k,.int .i64 (binV [62] a b).n,.string (binV [62] a b).s,.int .i64 (binV [62] a b).e])∧Ext W w':=by
 have na:=(nm_of a ha).1
 have nb:=(nm_of b hb).1
 have cA:=fun W' (e:Ext W W')=>vcompare_any a.k a.n a.s a.e b.k b.n b.s b.e W' (hN.ext e)
 rw [na,nb] at cA
 have HB:binV [62] a b = .tf (cmB [62] (cmpV a b)):=J114
 rw [HB]
 simp only [dat_eq] at cA
 generalize cmpV a b = o at *
 generalize cmpE a b = v at *
 obtain ⟨vk,vn,vs,ve,hv⟩:∃ vk vn vs ve,vk = v.k∧vn = v.n∧vs = v.s∧ve = v.e:=⟨_,_,_,_,rfl,rfl,rfl,rfl⟩
 rw [← hv.1,← hv.2.1,← hv.2.2.1,← hv.2.2.2] at cA
 rw [← hv.1] at hk
 have k4:(vk == 4) = false:=J96
 have cH:=fun W'=>holds_gt o W'
 exact K2
theorem joined_ge_e (a b:V) (ha:a.ok) (hb:b.ok) (hk:(cmpE a b).k = 4) (W:World) (hN:Nm W) (_:Tab W) :
   Calls Tryz.prog 69 #[.string ⟨#[62,61]⟩,.agg #[.int .i64 a.k,.int .i64 a.n,.string a.s,.int .i64 a.e],.agg #[.int .i64 b.k,.int .i64 b.n,.string b.s,.int .i64 b.e]] W fun e w'=>e = .returned (.agg #[.int .i64 (binV [62,61] a b).k,.int .i64 (binV [62,61] a b).n,.string (binV [62,61] a b).s,.int .i64 (binV [62,61] a b).e])∧Ext W w':=by
 have na:=(nm_of a ha).1
 have nb:=(nm_of b hb).1
 have cA:=fun W' (e:Ext W W')=>vcompare_any a.k a.n a.s a.e b.k b.n b.s b.e W' (hN.ext e)
 rw [na,nb] at cA
 have HB:binV [62,61] a b = cmpE a b:=J113
 exact K3
theorem joined_ge_o (a b:V) (ha:a.ok) (hb:b.ok) (hk:(cmpE a b).k≠4) (W:World) (hN:Nm W) (_:Tab W) :
   Calls Tryz.prog 69 #[.string ⟨#[62,61]⟩,.agg #[.int .i64 a.k,.int .i64 a.n,.string a.s,.int .i64 a.e],.agg #[.int .i64 b.k,.int .i64 b.n,.string b.s,.int .i64 b.e]] W fun e w'=>e = .returned (.agg #[.int .i64 (binV [62,61] a b).k,.int .i64 (binV [62,61] a b).n,.string (binV [62,61] a b).s,.int .i64 (binV [62,61] a b).e])∧Ext W w':=by
 have na:=(nm_of a ha).1
 have nb:=(nm_of b hb).1
 have cA:=fun W' (e:Ext W W')=>vcompare_any a.k a.n a.s a.e b.k b.n b.s b.e W' (hN.ext e)
 rw [na,nb] at cA
 have HB:binV [62,61] a b = .tf (cmB [62,61] (cmpV a b)):=J114
 rw [HB]
 simp only [dat_eq] at cA
 generalize cmpV a b = o at *
 generalize cmpE a b = v at *
 obtain ⟨vk,vn,vs,ve,hv⟩:∃ vk vn vs ve,vk = v.k∧vn = v.n∧vs = v.s∧ve = v.e:=⟨_,_,_,_,rfl,rfl,rfl,rfl⟩
 rw [← hv.1,← hv.2.1,← hv.2.2.1,← hv.2.2.2] at cA
 rw [← hv.1] at hk
 have k4:(vk == 4) = false:=J96
 have cH:=fun W'=>holds_ge o W'
 exact K2
theorem joined_any (q:List UInt8) (hq:bnd q≠0) (a b:V) (ha:a.ok) (hb:b.ok) (W:World) (hN:Nm W) (hT:Tab W) :
   Calls Tryz.prog 69 #[.string (bs q),.agg #[.int .i64 a.k,.int .i64 a.n,.string a.s,.int .i64 a.e],.agg #[.int .i64 b.k,.int .i64 b.n,.string b.s,.int .i64 b.e]] W fun e w'=>e = .returned (.agg #[.int .i64 (binV q a b).k,.int .i64 (binV q a b).n,.string (binV q a b).s,.int .i64 (binV q a b).e])∧Ext W w':=by
 unfold bnd at hq
 by_cases h1:q ∈ bd1
 · simp only [bd1,List.mem_cons,List.not_mem_nil,or_false] at h1
   by_cases hk:(cmpE a b).k = 4
   · rcases h1 with rfl | rfl | rfl | rfl | rfl | rfl
     · exact joined_eq_e a b ha hb hk W hN hT
     · exact joined_ne_e a b ha hb hk W hN hT
     · exact joined_lt_e a b ha hb hk W hN hT
     · exact joined_le_e a b ha hb hk W hN hT
     · exact joined_gt_e a b ha hb hk W hN hT
     · exact joined_ge_e a b ha hb hk W hN hT
   · rcases h1 with rfl | rfl | rfl | rfl | rfl | rfl
     · exact joined_eq_o a b ha hb hk W hN hT
     · exact joined_ne_o a b ha hb hk W hN hT
     · exact joined_lt_o a b ha hb hk W hN hT
     · exact joined_le_o a b ha hb hk W hN hT
     · exact joined_gt_o a b ha hb hk W hN hT
     · exact joined_ge_o a b ha hb hk W hN hT
 · rw [if_neg h1] at hq
   by_cases h2:q = [38]
   · subst h2;exact joined_38 a b ha hb W hN hT
   rw [if_neg h2] at hq
   by_cases h3:q = [43]∨q = [45]
   · rcases h3 with rfl | rfl
     · exact joined_43 a b ha hb W hN hT
     · exact joined_45 a b ha hb W hN hT
   rw [if_neg h3] at hq
   by_cases h4:q = [42]∨q = [47]
   · rcases h4 with rfl | rfl
     · exact joined_42 a b ha hb W hN hT
     · exact joined_47 a b ha hb W hN hT
   rw [if_neg h4] at hq
   exact absurd rfl hq
theorem reckon_0 (b:Nat) (g:Option Nat) (n:Nat) (M:Bov) (m:Nat) (t:T) (hk:t.k = 0) (W:World) (pp:Option Addr) (ln cl:Nat) (hE:Ent W b g n M) :
   Calls Tryz.prog 37 #[.pointer (some ⟨b,0,none⟩),.agg #[.int .i64 t.k,.int .i64 t.n,.string (bs t.s),.int .i64 t.e,.int .i64 t.r.1,.int .i64 t.r.2.1,.bool t.r.2.2.1,.bool t.r.2.2.2,.int .i64 t.q.1,.int .i64 t.q.2.1,.bool t.q.2.2.1,.bool t.q.2.2.2,.slice pp ln cl]] W fun e w'=>e = .returned (.agg #[.int .i64 (evT (m+1) M t).k,.int .i64 (evT (m+1) M t).n,.string (evT (m+1) M t).s,.int .i64 (evT (m+1) M t).e])∧Ext W w':=by
 have HV:Hid (evT (m+1) M t = mkNum t.n):=by
   show _ = _
   rw [evT,if_pos hk]
 rw [HV.out,hk]
 have cA:=fun W' (e:Ext W W')=>vnum_any t.n W' (hE.n.ext e)
 simp only [dat_eq] at cA
 clear hE HV hk
 generalize hv:(mkNum t.n) = v at *
 exact K10
theorem reckon_1 (b:Nat) (g:Option Nat) (n:Nat) (M:Bov) (m:Nat) (t:T) (hk:t.k = 1) (W:World) (pp:Option Addr) (ln cl:Nat) (hE:Ent W b g n M) :
   Calls Tryz.prog 37 #[.pointer (some ⟨b,0,none⟩),.agg #[.int .i64 t.k,.int .i64 t.n,.string (bs t.s),.int .i64 t.e,.int .i64 t.r.1,.int .i64 t.r.2.1,.bool t.r.2.2.1,.bool t.r.2.2.2,.int .i64 t.q.1,.int .i64 t.q.2.1,.bool t.q.2.2.1,.bool t.q.2.2.2,.slice pp ln cl]] W fun e w'=>e = .returned (.agg #[.int .i64 (evT (m+1) M t).k,.int .i64 (evT (m+1) M t).n,.string (evT (m+1) M t).s,.int .i64 (evT (m+1) M t).e])∧Ext W w':=by
 have HV:Hid (evT (m+1) M t = mkText (bs t.s)):=by
   show _ = _
   rw [evT,if_neg J11,if_pos hk]
 rw [HV.out,hk]
 have cA:=fun W' (e:Ext W W')=>vtext_any (bs t.s) W' (hE.n.ext e)
 simp only [dat_eq] at cA
 clear hE HV hk
 generalize hv:(mkText (bs t.s)) = v at *
 exact K10
theorem reckon_2 (b:Nat) (g:Option Nat) (n:Nat) (M:Bov) (m:Nat) (t:T) (hk:t.k = 2) (W:World) (pp:Option Addr) (ln cl:Nat) (_:Ent W b g n M) :
   Calls Tryz.prog 37 #[.pointer (some ⟨b,0,none⟩),.agg #[.int .i64 t.k,.int .i64 t.n,.string (bs t.s),.int .i64 t.e,.int .i64 t.r.1,.int .i64 t.r.2.1,.bool t.r.2.2.1,.bool t.r.2.2.2,.int .i64 t.q.1,.int .i64 t.q.2.1,.bool t.q.2.2.1,.bool t.q.2.2.2,.slice pp ln cl]] W fun e w'=>e = .returned (.agg #[.int .i64 (evT (m+1) M t).k,.int .i64 (evT (m+1) M t).n,.string (evT (m+1) M t).s,.int .i64 (evT (m+1) M t).e])∧Ext W w':=by
 have HV:Hid (evT (m+1) M t = V.tf (t.n == 1)):=by
   show _ = _
   rw [evT,if_neg J11,if_neg J11,if_pos hk]
 rw [HV.out,hk]
 have cA:=fun W' (_:Ext W W')=>vbool_any (t.n == 1) W'
 simp only [dat_eq] at cA
 clear HV hk
 generalize hv:(V.tf (t.n == 1)) = v at *
 exact K10
theorem reckon_3 (b:Nat) (g:Option Nat) (n:Nat) (M:Bov) (m:Nat) (t:T) (hk:t.k = 3) (W:World) (pp:Option Addr) (ln cl:Nat) (hE:Ent W b g n M) :
   Calls Tryz.prog 37 #[.pointer (some ⟨b,0,none⟩),.agg #[.int .i64 t.k,.int .i64 t.n,.string (bs t.s),.int .i64 t.e,.int .i64 t.r.1,.int .i64 t.r.2.1,.bool t.r.2.2.1,.bool t.r.2.2.2,.int .i64 t.q.1,.int .i64 t.q.2.1,.bool t.q.2.2.1,.bool t.q.2.2.2,.slice pp ln cl]] W fun e w'=>e = .returned (.agg #[.int .i64 (evT (m+1) M t).k,.int .i64 (evT (m+1) M t).n,.string (evT (m+1) M t).s,.int .i64 (evT (m+1) M t).e])∧Ext W w':=by
 have HV:Hid (evT (m+1) M t = mkErr t.e):=by
   show _ = _
   rw [evT,if_neg J11,if_neg J11,if_neg J11,if_pos hk]
 rw [HV.out,hk]
 have cA:=fun W' (e:Ext W W')=>err_any t.e W' (hE.n.ext e)
 simp only [dat_eq] at cA
 clear hE HV hk
 generalize hv:(mkErr t.e) = v at *
 exact K10
theorem reckon_4 (b:Nat) (g:Option Nat) (n:Nat) (M:Bov) (m:Nat) (t:T) (hk:t.k = 4) (hi:I64 t.r.1∧I64 t.r.2.1) (W:World) (pp:Option Addr) (ln cl:Nat) (hE:Ent W b g n M) :
   Calls Tryz.prog 37 #[.pointer (some ⟨b,0,none⟩),.agg #[.int .i64 t.k,.int .i64 t.n,.string (bs t.s),.int .i64 t.e,.int .i64 t.r.1,.int .i64 t.r.2.1,.bool t.r.2.2.1,.bool t.r.2.2.2,.int .i64 t.q.1,.int .i64 t.q.2.1,.bool t.q.2.2.1,.bool t.q.2.2.2,.slice pp ln cl]] W fun e w'=>e = .returned (.agg #[.int .i64 (evT (m+1) M t).k,.int .i64 (evT (m+1) M t).n,.string (evT (m+1) M t).s,.int .i64 (evT (m+1) M t).e])∧Ext W w':=by
 have HV:Hid (evT (m+1) M t = M t.r.1 t.r.2.1):=by
   show _ = _
   rw [evT,if_neg J11,if_neg J11,if_neg J11,if_neg J11,if_pos hk]
 rw [HV.out,hk]
 have cA:=fun W' (e:Ext W W')=>get_any W' b n g M (hE.b.ext e) t.r.1 t.r.2.1 hi.1 hi.2
 simp only [dat_eq] at cA
 clear hE HV hi hk
 generalize hv:(M t.r.1 t.r.2.1) = v at *
 exact K10
theorem reckon_6 (b:Nat) (g:Option Nat) (n:Nat) (M:Bov) (m:Nat) (t x:T) (hk:t.k = 6) (hl:t.l = [x]) (hx:RkC b g n M m x) (ok:(evT m M x).ok) (W:World) (pp:Option Addr) (ln cl:Nat) (hE:Ent W b g n M) (hI:IsL W (fun _=>True) (.slice pp ln cl) t.l) :
   Calls Tryz.prog 37 #[.pointer (some ⟨b,0,none⟩),.agg #[.int .i64 t.k,.int .i64 t.n,.string (bs t.s),.int .i64 t.e,.int .i64 t.r.1,.int .i64 t.r.2.1,.bool t.r.2.2.1,.bool t.r.2.2.2,.int .i64 t.q.1,.int .i64 t.q.2.1,.bool t.q.2.2.1,.bool t.q.2.2.2,.slice pp ln cl]] W fun e w'=>e = .returned (.agg #[.int .i64 (evT (m+1) M t).k,.int .i64 (evT (m+1) M t).n,.string (evT (m+1) M t).s,.int .i64 (evT (m+1) M t).e])∧Ext W w':=by
 have HV:Hid (evT (m+1) M t = (evT m M x).neg):=by
   show _ = _
   rw [evT,if_neg J11,if_neg J11,if_neg J11,if_neg J11,if_neg J11,if_pos hk,hl]
 rw [HV.out,hk]
 have nx:=(nm_of _ ok).1
 have ix:=ok_n ok
 obtain ⟨gb,off,x',lv,rfl,hx1,hln,hgb,_,hLx,hce⟩:=hI.at (i:=0) J57
 obtain rfl:x' = x:=by rw [hl] at hx1;simpa using hx1.symm
 obtain ⟨pp',cl',hlv,_⟩:=hLx.form
 obtain ⟨ln',hln'⟩:∃ ln',x'.l.length = ln':=⟨_,rfl⟩
 rw [hln'] at hlv
 subst hlv
 have h1:ln = 1:=by rw [hln,hl];rfl
 subst h1
 have e0:W.cell? ⟨gb,off,none⟩ = some (.int .i64 x'.k):=hce 0 _ rfl
 have e1:W.cell? ⟨gb,off+1,none⟩ = some (.int .i64 x'.n):=hce 1 _ rfl
 have e2:W.cell? ⟨gb,off+2,none⟩ = some (.string (bs x'.s)):=hce 2 _ rfl
 have e3:W.cell? ⟨gb,off+3,none⟩ = some (.int .i64 x'.e):=hce 3 _ rfl
 have e4:W.cell? ⟨gb,off+4,none⟩ = some (.int .i64 x'.r.1):=hce 4 _ rfl
 have e5:W.cell? ⟨gb,off+5,none⟩ = some (.int .i64 x'.r.2.1):=hce 5 _ rfl
 have e6:W.cell? ⟨gb,off+6,none⟩ = some (.bool x'.r.2.2.1):=hce 6 _ rfl
 have e7:W.cell? ⟨gb,off+7,none⟩ = some (.bool x'.r.2.2.2):=hce 7 _ rfl
 have e8:W.cell? ⟨gb,off+8,none⟩ = some (.int .i64 x'.q.1):=hce 8 _ rfl
 have e9:W.cell? ⟨gb,off+9,none⟩ = some (.int .i64 x'.q.2.1):=hce 9 _ rfl
 have e10:W.cell? ⟨gb,off+10,none⟩ = some (.bool x'.q.2.2.1):=hce 10 _ rfl
 have e11:W.cell? ⟨gb,off+11,none⟩ = some (.bool x'.q.2.2.2):=hce 11 _ rfl
 have e12:W.cell? ⟨gb,off+12,none⟩ = some (.slice pp' ln' cl'):=hce 12 _ rfl
 have cA:=fun W' (e:Ext W W')=>hx W' pp' ln' cl' (hE.ext e) (hLx.ext e)
 generalize evT m M x' = u at *
 have cN:=fun W' (e:Ext W W')=>vneg_any u.k u.n u.s u.e W' ix (hE.n.ext e)
 rw [nx] at cN
 simp only [dat_eq] at cN
 generalize u.neg = v at *
 obtain ⟨uk,un,us,ue,hu⟩:∃ uk un us ue,u.k = uk∧u.n = un∧u.s = us∧u.e = ue:=⟨_,_,_,_,rfl,rfl,rfl,rfl⟩
 obtain ⟨vk,vn,vs,ve,hv⟩:∃ vk vn vs ve,v.k = vk∧v.n = vn∧v.s = vs∧v.e = ve:=⟨_,_,_,_,rfl,rfl,rfl,rfl⟩
 obtain ⟨q1,q2,q3,q4⟩:=hv
 obtain ⟨p1,p2,p3,p4⟩:=hu
 rw [p1,p2,p3,p4] at cA cN
 rw [q1,q2,q3,q4] at cN ⊢
 clear hE HV hk hl hI hx nx ix ok q1 q2 q3 q4 p1 p2 p3 p4 hln hln' hx1 hLx hce u v
 go_enter func37,ntmps37
 go_wp2_with fail
 refine (cA _ ((xr.alloc _).alloc _)).mono ?_
 rintro e w1 ⟨rfl,E1⟩
 have X1:Hid (Ext W w1):=((xr.alloc _).alloc _).trans E1
 have D1:=blk_top (b:=W.heap.size+1) J65 E1
 clear E1 cA e0 e1 e2 e3 e4 e5 e6 e7 e8 e9 e10 e11 e12
 go_wp2_with fail
 refine (cN _ X1.out).mono ?_
 rintro e w2 ⟨rfl,E2⟩
 have X2:Hid (Ext W w2):=X1.out.trans E2
 have D:=D1.ext E2
 have D':=D
 obtain ⟨b0z,⟨b0_0,b0_1,b0_2,b0_3⟩,b0f0,b0f1,b0f2,b0f3⟩:=D'
 clear E2 cN
 go_wp2_with fail
 exact finB ((D.set _ _ _ _)) rfl ((((X2.out.setCell J65 _).setCell J65 _).setCell J65 _).setCell J65 _) J21 (fun h=>⟨rfl,h⟩)
def Rks (W:World) (EB RB:Nat) (t:T) (lv:Value) (V:World):Prop:=Ext W V∧BlkX V EB t lv∧∃ x0 x1 x2 x3,Blk V RB x0 x1 x2 x3
theorem Rks.ext {W V V':World} {EB RB:Nat} {t:T} {lv:Value} (h:Rks W EB RB t lv V) (e:Ext V V'):Rks W EB RB t lv V':=by
 obtain ⟨h1,h2,x0,x1,x2,x3,h3⟩:=h
 exact ⟨h1.trans e,h2.ext e,x0,x1,x2,x3,h3.ext e⟩
theorem Rks.put {W V:World} {EB RB:Nat} {t:T} {lv:Value} (h:Rks W EB RB t lv V) (hne:RB≠EB) (hR:W.heap.size≤RB) (y0 y1 y2 y3:Value):Rks W EB RB t lv ((((V.setCell ⟨RB,0,none⟩ y0).setCell ⟨RB,1,none⟩ y1).setCell ⟨RB,2,none⟩ y2).setCell ⟨RB,3,none⟩ y3):=by
 obtain ⟨h1,h2,x0,x1,x2,x3,h3⟩:=h
 exact ⟨(((h1.setCell hR _).setCell hR _).setCell hR _).setCell hR _,Blk13.far1 (Blk13.far1 (Blk13.far1 (Blk13.far1 h2 hne _ _) hne _ _) hne _ _) hne _ _,_,_,_,_,h3.set _ _ _ _⟩
theorem reckon_7 (b:Nat) (g:Option Nat) (n:Nat) (M:Bov) (m:Nat) (t x y:T) (hk:t.k = 7) (hl:t.l = [x,y]) (hb:bnd t.s≠0) (hx:RkC b g n M m x) (hy:RkC b g n M m y) (okx:(evT m M x).ok) (oky:(evT m M y).ok) (W:World) (pp:Option Addr) (ln cl:Nat) (hE:Ent W b g n M) (hI:IsL W (fun _=>True) (.slice pp ln cl) t.l) :
   Calls Tryz.prog 37 #[.pointer (some ⟨b,0,none⟩),.agg #[.int .i64 t.k,.int .i64 t.n,.string (bs t.s),.int .i64 t.e,.int .i64 t.r.1,.int .i64 t.r.2.1,.bool t.r.2.2.1,.bool t.r.2.2.2,.int .i64 t.q.1,.int .i64 t.q.2.1,.bool t.q.2.2.1,.bool t.q.2.2.2,.slice pp ln cl]] W fun e w'=>e = .returned (.agg #[.int .i64 (evT (m+1) M t).k,.int .i64 (evT (m+1) M t).n,.string (evT (m+1) M t).s,.int .i64 (evT (m+1) M t).e])∧Ext W w':=by
 have HV:Hid (evT (m+1) M t = binV t.s (evT m M x) (evT m M y)):=by
   show _ = _
   rw [evT,if_neg J11,if_neg J11,if_neg J11,if_neg J11,if_neg J11,if_neg J11,if_pos hk,hl]
 rw [HV.out]
 have cJ:=fun W' (e:Ext W W')=>joined_any t.s hb (evT m M x) (evT m M y) okx oky W' (hE.n.ext e) (hE.t.ext e)
 obtain ⟨gb,off,x',lvx,rfl,hx1,hln,hgb,_,hLx,hcx⟩:=hI.at (i:=0) J57
 obtain rfl:x' = x:=by rw [hl] at hx1;simpa using hx1.symm
 obtain ⟨gb',off',y',lvy,hpy,hy1,hln2,_,_,hLy,hcy⟩:=hI.at (i:=1) J57
 obtain rfl:y' = y:=by rw [hl] at hy1;simpa using hy1.symm
 cases hpy
 obtain ⟨ppx,clx,hlvx,_⟩:=hLx.form
 obtain ⟨lnx,hlnx⟩:∃ lnx,x'.l.length = lnx:=⟨_,rfl⟩
 rw [hlnx] at hlvx
 subst hlvx
 obtain ⟨ppy,cly,hlvy,_⟩:=hLy.form
 obtain ⟨lny,hlny⟩:∃ lny,y'.l.length = lny:=⟨_,rfl⟩
 rw [hlny] at hlvy
 subst hlvy
 have h1:ln = 2:=by rw [hln,hl];rfl
 subst h1
 have cX:=fun W' (e:Ext W W')=>hx W' ppx lnx clx (hE.ext e) (hLx.ext e)
 have cY:=fun W' (e:Ext W W')=>hy W' ppy lny cly (hE.ext e) (hLy.ext e)
 generalize evT m M x' = u at *
 generalize evT m M y' = v at *
 generalize binV t.s u v = z at *
 obtain ⟨uk,un,us,ue,p1,p2,p3,p4⟩:∃ uk un us ue,u.k = uk∧u.n = un∧u.s = us∧u.e = ue:=⟨_,_,_,_,rfl,rfl,rfl,rfl⟩
 obtain ⟨vk,vn,vs,ve,q1,q2,q3,q4⟩:∃ vk vn vs ve,v.k = vk∧v.n = vn∧v.s = vs∧v.e = ve:=⟨_,_,_,_,rfl,rfl,rfl,rfl⟩
 obtain ⟨zk,zn,zs,ze,r1,r2,r3,r4⟩:∃ zk zn zs ze,z.k = zk∧z.n = zn∧z.s = zs∧z.e = ze:=⟨_,_,_,_,rfl,rfl,rfl,rfl⟩
 rw [p1,p2,p3,p4] at cX cJ
 rw [q1,q2,q3,q4] at cY cJ
 rw [r1,r2,r3,r4] at cJ ⊢
 have mkS:Hid (∀ EB RB V,Rks W EB RB t (.slice (some ⟨gb,off,none⟩) 2 cl) V→(fun V=>(V.cell? ⟨EB,12,none⟩ = some (.slice (some ⟨gb,off,none⟩) 2 cl)∧V.cell? ⟨EB,2,none⟩ = some (.string (bs t.s))∧V.cell? ⟨gb,off,none⟩ = some (.int .i64 x'.k)∧V.cell? ⟨gb,off+1,none⟩ = some (.int .i64 x'.n)∧V.cell? ⟨gb,off+2,none⟩ = some (.string (bs x'.s))∧V.cell? ⟨gb,off+3,none⟩ = some (.int .i64 x'.e)∧V.cell? ⟨gb,off+4,none⟩ = some (.int .i64 x'.r.1)∧V.cell? ⟨gb,off+5,none⟩ = some (.int .i64 x'.r.2.1)∧V.cell? ⟨gb,off+6,none⟩ = some (.bool x'.r.2.2.1)∧V.cell? ⟨gb,off+7,none⟩ = some (.bool x'.r.2.2.2)∧V.cell? ⟨gb,off+8,none⟩ = some (.int .i64 x'.q.1)∧V.cell? ⟨gb,off+9,none⟩ = some (.int .i64 x'.q.2.1)∧V.cell? ⟨gb,off+10,none⟩ = some (.bool x'.q.2.2.1)∧V.cell? ⟨gb,off+11,none⟩ = some (.bool x'.q.2.2.2)∧V.cell? ⟨gb,off+12,none⟩ = some (.slice ppx lnx clx)∧V.cell? ⟨gb,off+13,none⟩ = some (.int .i64 y'.k)∧V.cell? ⟨gb,off+14,none⟩ = some (.int .i64 y'.n)∧V.cell? ⟨gb,off+15,none⟩ = some (.string (bs y'.s))∧V.cell? ⟨gb,off+16,none⟩ = some (.int .i64 y'.e)∧V.cell? ⟨gb,off+17,none⟩ = some (.int .i64 y'.r.1)∧V.cell? ⟨gb,off+18,none⟩ = some (.int .i64 y'.r.2.1)∧V.cell? ⟨gb,off+19,none⟩ = some (.bool y'.r.2.2.1)∧V.cell? ⟨gb,off+20,none⟩ = some (.bool y'.r.2.2.2)∧V.cell? ⟨gb,off+21,none⟩ = some (.int .i64 y'.q.1)∧V.cell? ⟨gb,off+22,none⟩ = some (.int .i64 y'.q.2.1)∧V.cell? ⟨gb,off+23,none⟩ = some (.bool y'.q.2.2.1)∧V.cell? ⟨gb,off+24,none⟩ = some (.bool y'.q.2.2.2)∧V.cell? ⟨gb,off+25,none⟩ = some (.slice ppy lny cly))∧Rks W EB RB t (.slice (some ⟨gb,off,none⟩) 2 cl) V) V):=by
   intro EB RB V hV
   have hV':=hV
   obtain ⟨hX,hB,_⟩:=hV
   have k:=fun o=>hX.cell.1 gb o hgb
   have a:=fun j u (h:(cellsT x' (.slice ppx lnx clx))[j]? = some u)=>(k _).trans (hcx j u h)
   have b:=fun j u (h:(cellsT y' (.slice ppy lny cly))[j]? = some u)=>(k _).trans (hcy j u h)
   simp only [Nat.zero_mul,Nat.add_zero,Nat.one_mul,Nat.add_assoc] at a b
   exact ⟨⟨hB.2.1.2.2.2.2.2.2.2.2.2.2.2.2,hB.2.1.2.2.1,a 0 _ rfl,a 1 _ rfl,a 2 _ rfl,a 3 _ rfl,a 4 _ rfl,a 5 _ rfl,a 6 _ rfl,a 7 _ rfl,a 8 _ rfl,a 9 _ rfl,a 10 _ rfl,a 11 _ rfl,a 12 _ rfl,b 0 _ rfl,b 1 _ rfl,b 2 _ rfl,b 3 _ rfl,b 4 _ rfl,b 5 _ rfl,b 6 _ rfl,b 7 _ rfl,b 8 _ rfl,b 9 _ rfl,b 10 _ rfl,b 11 _ rfl,b 12 _ rfl⟩,hV'⟩
 obtain ⟨W0,hW0⟩:∃ W0,W0 = (W.alloc (.cells #[.int .i64 t.k,.int .i64 t.n,.string (bs t.s),.int .i64 t.e,.int .i64 t.r.1,.int .i64 t.r.2.1,.bool t.r.2.2.1,.bool t.r.2.2.2,.int .i64 t.q.1,.int .i64 t.q.2.1,.bool t.q.2.2.1,.bool t.q.2.2.2,.slice (some ⟨gb,off,none⟩) 2 cl] 43)).alloc (.cells #[.int .i64 0,.int .i64 0,.string ⟨#[]⟩,.int .i64 0] 33):=⟨_,rfl⟩
 have HR0:Hid (Rks W W.heap.size (W.heap.size+1) t (.slice (some ⟨gb,off,none⟩) 2 cl) W0):=by
   exact K158
 have HNE:Hid (W.heap.size+1≠W.heap.size∧W.heap.size≤W.heap.size+1):=⟨by omega,by omega⟩
 rw [hk] at hW0
 rw [hk]
 clear hE HV hl hI hx hy okx oky hb p1 p2 p3 p4 q1 q2 q3 q4 r1 r2 r3 r4 hln hln2 hlnx hlny hx1 hy1 hLx hLy hcx hcy
 go_enter func37,ntmps37
 go_wp2_with fail
 rw [← hW0]
 clear hW0 hk
 replace mkS:Hid (∀ V,Rks W W.heap.size (W.heap.size+1) t (.slice (some ⟨gb,off,none⟩) 2 cl) V→_):=fun V h=>mkS.out W.heap.size (W.heap.size+1) V h
 generalize W.heap.size+1 = RB at *
 generalize hEB:W.heap.size = EB at *
 have HNE2:Hid (RB≠EB∧W.heap.size≤RB):=⟨HNE.out.1,by rw [hEB];exact HNE.out.2⟩
 clear hEB HNE
 refine wp_region_held_drew (S:=(fun V=>(V.cell? ⟨EB,12,none⟩ = some (.slice (some ⟨gb,off,none⟩) 2 cl)∧V.cell? ⟨EB,2,none⟩ = some (.string (bs t.s))∧V.cell? ⟨gb,off,none⟩ = some (.int .i64 x'.k)∧V.cell? ⟨gb,off+1,none⟩ = some (.int .i64 x'.n)∧V.cell? ⟨gb,off+2,none⟩ = some (.string (bs x'.s))∧V.cell? ⟨gb,off+3,none⟩ = some (.int .i64 x'.e)∧V.cell? ⟨gb,off+4,none⟩ = some (.int .i64 x'.r.1)∧V.cell? ⟨gb,off+5,none⟩ = some (.int .i64 x'.r.2.1)∧V.cell? ⟨gb,off+6,none⟩ = some (.bool x'.r.2.2.1)∧V.cell? ⟨gb,off+7,none⟩ = some (.bool x'.r.2.2.2)∧V.cell? ⟨gb,off+8,none⟩ = some (.int .i64 x'.q.1)∧V.cell? ⟨gb,off+9,none⟩ = some (.int .i64 x'.q.2.1)∧V.cell? ⟨gb,off+10,none⟩ = some (.bool x'.q.2.2.1)∧V.cell? ⟨gb,off+11,none⟩ = some (.bool x'.q.2.2.2)∧V.cell? ⟨gb,off+12,none⟩ = some (.slice ppx lnx clx)∧V.cell? ⟨gb,off+13,none⟩ = some (.int .i64 y'.k)∧V.cell? ⟨gb,off+14,none⟩ = some (.int .i64 y'.n)∧V.cell? ⟨gb,off+15,none⟩ = some (.string (bs y'.s))∧V.cell? ⟨gb,off+16,none⟩ = some (.int .i64 y'.e)∧V.cell? ⟨gb,off+17,none⟩ = some (.int .i64 y'.r.1)∧V.cell? ⟨gb,off+18,none⟩ = some (.int .i64 y'.r.2.1)∧V.cell? ⟨gb,off+19,none⟩ = some (.bool y'.r.2.2.1)∧V.cell? ⟨gb,off+20,none⟩ = some (.bool y'.r.2.2.2)∧V.cell? ⟨gb,off+21,none⟩ = some (.int .i64 y'.q.1)∧V.cell? ⟨gb,off+22,none⟩ = some (.int .i64 y'.q.2.1)∧V.cell? ⟨gb,off+23,none⟩ = some (.bool y'.q.2.2.1)∧V.cell? ⟨gb,off+24,none⟩ = some (.bool y'.q.2.2.2)∧V.cell? ⟨gb,off+25,none⟩ = some (.slice ppy lny cly))∧Rks W EB RB t (.slice (some ⟨gb,off,none⟩) 2 cl) V)) J3 ?_ (fun hHeld0=>?_)
 · (refine mkS.out _ ?_;((with_reducible (repeat (first | assumption | exact HR0.out | exact HR1.out | exact HR2.out | exact HR3.out | exact HR3.out.put HNE2.out.1 HNE2.out.2 _ _ _ _ | (refine Rks.ext ?_ (Ext.drew xr)) | (refine Rks.ext ?_ (Ext.alloc xr _)))));done))
 refine tkI (i:=0) (oi:=⟨some 56,.fieldAddr 43 (.tmp 3) 2,0, "eval.go:47",#[],none⟩) ?_
 try go_frame
 refine tkI (i:=1) (oi:=⟨some 57,.load 9 (.tmp 56),9, "eval.go:47",#[⟨0,.data⟩],none⟩) ?_
 try go_frame
 refine tkI (i:=2) (oi:=⟨some 58,.move (.tmp 0),25, "eval.go:47",#[],none⟩) ?_
 try go_frame
 refine tkI (i:=3) (oi:=⟨some 59,.fieldAddr 43 (.tmp 3) 6,0, "eval.go:47",#[],none⟩) ?_
 try go_frame
 refine tkI (i:=4) (oi:=⟨some 60,.load 41 (.tmp 59),41, "eval.go:47",#[⟨3,.data⟩],none⟩) ?_
 try go_frame
 refine tkI (i:=5) (oi:=⟨some 61,.indexAddr 41 (.tmp 60) (.const (.int .i64 0)),0, "eval.go:47",#[⟨4,.data⟩],none⟩) ?_
 try go_frame
 refine tkI (i:=6) (oi:=⟨some 62,.load 43 (.tmp 61),43, "eval.go:47",#[⟨5,.data⟩],none⟩) ?_
 try go_frame
 refine tkI (i:=8) (oi:=⟨some 64,.move (.tmp 0),25, "eval.go:47",#[],none⟩) ?_
 try go_frame
 refine tkI (i:=9) (oi:=⟨some 65,.fieldAddr 43 (.tmp 3) 6,0, "eval.go:47",#[],none⟩) ?_
 try go_frame
 refine tkI (i:=10) (oi:=⟨some 66,.load 41 (.tmp 65),41, "eval.go:47",#[⟨9,.data⟩],none⟩) ?_
 try go_frame
 refine tkI (i:=11) (oi:=⟨some 67,.indexAddr 41 (.tmp 66) (.const (.int .i64 1)),0, "eval.go:47",#[⟨10,.data⟩],none⟩) ?_
 try go_frame
 refine tkI (i:=12) (oi:=⟨some 68,.load 43 (.tmp 67),43, "eval.go:47",#[⟨11,.data⟩],none⟩) ?_
 try go_frame
 refine wpAnyH_ready (rs:=[7]) J3 J65 ?_
 refine AllReadyH.cons (o:=⟨some 63,.call { callee:=.value (.func 37),args:=#[.tmp 58,.tmp 62],argTypes:=#[25,43] },33, "eval.go:47",#[⟨2,.data⟩,⟨6,.data⟩],none⟩) rfl (fun K hK=>?_) AllReadyH.nil
 go_simp
 refine (cX _ (HR0.out.1.drew)).mono ?_;rintro e w1 ⟨rfl,E1⟩;have HR1:Hid (Rks W EB RB t (.slice (some ⟨gb,off,none⟩) 2 cl) w1):=HR0.out.ext (xr.drew.trans E1)
 try go_wp2_with fail
 refine hK.out _ _ ?_ (fun hHeld1=>?_)
 · (try dsimp only);(refine mkS.out _ ?_;((with_reducible (repeat (first | assumption | exact HR0.out | exact HR1.out | exact HR2.out | exact HR3.out | exact HR3.out.put HNE2.out.1 HNE2.out.2 _ _ _ _ | (refine Rks.ext ?_ (Ext.drew xr)) | (refine Rks.ext ?_ (Ext.alloc xr _)))));done))
 clear hK K hHeld0
 try go_frame
 refine wpAnyH_ready (rs:=[13]) J3 J65 ?_
 refine AllReadyH.cons (o:=⟨some 69,.call { callee:=.value (.func 37),args:=#[.tmp 64,.tmp 68],argTypes:=#[25,43] },33, "eval.go:47",#[⟨8,.data⟩,⟨12,.data⟩,⟨7,.chain⟩],none⟩) rfl (fun K hK=>?_) AllReadyH.nil
 go_simp
 refine (cY _ HR1.out.1).mono ?_;rintro e w2 ⟨rfl,E2⟩;have HR2:Hid (Rks W EB RB t (.slice (some ⟨gb,off,none⟩) 2 cl) w2):=HR1.out.ext E2
 try go_wp2_with fail
 refine hK.out _ _ ?_ (fun hHeld2=>?_)
 · (try dsimp only);(refine mkS.out _ ?_;((with_reducible (repeat (first | assumption | exact HR0.out | exact HR1.out | exact HR2.out | exact HR3.out | exact HR3.out.put HNE2.out.1 HNE2.out.2 _ _ _ _ | (refine Rks.ext ?_ (Ext.drew xr)) | (refine Rks.ext ?_ (Ext.alloc xr _)))));done))
 clear hK K hHeld1
 try go_frame
 refine wpAnyH_ready (rs:=[14]) J3 J65 ?_
 refine AllReadyH.cons (o:=⟨some 70,.call { callee:=.value (.func 69),args:=#[.tmp 57,.tmp 63,.tmp 69],argTypes:=#[9,33,33] },33, "eval.go:47",#[⟨1,.data⟩,⟨7,.data⟩,⟨13,.data⟩,⟨13,.chain⟩],none⟩) rfl (fun K hK=>?_) AllReadyH.nil
 go_simp
 refine (cJ _ HR2.out.1).mono ?_;rintro e w3 ⟨rfl,E3⟩;have HR3:Hid (Rks W EB RB t (.slice (some ⟨gb,off,none⟩) 2 cl) w3):=HR2.out.ext E3;obtain ⟨z0,z1,z2,z3,zz,⟨b0_0,b0_1,b0_2,b0_3⟩,b0f0,b0f1,b0f2,b0f3⟩:=HR3.out.2.2
 try go_wp2_with fail
 refine hK.out _ _ ?_ (fun hHeld3=>?_)
 · (try dsimp only);(refine mkS.out _ ?_;((with_reducible (repeat (first | assumption | exact HR0.out | exact HR1.out | exact HR2.out | exact HR3.out | exact HR3.out.put HNE2.out.1 HNE2.out.2 _ _ _ _ | (refine Rks.ext ?_ (Ext.drew xr)) | (refine Rks.ext ?_ (Ext.alloc xr _)))));done))
 clear hK K hHeld2
 try go_frame
 refine wpAnyH_ready (rs:=[15]) J3 J65 ?_
 refine AllReadyH.cons (o:=⟨none,.store 33 (.tmp 4) (.tmp 70),0, "eval.go:47",#[⟨14,.data⟩,⟨14,.chain⟩,⟨0,.phase⟩,⟨1,.phase⟩,⟨2,.phase⟩,⟨3,.phase⟩,⟨4,.phase⟩,⟨5,.phase⟩,⟨6,.phase⟩,⟨7,.phase⟩,⟨8,.phase⟩,⟨9,.phase⟩,⟨10,.phase⟩,⟨11,.phase⟩,⟨12,.phase⟩,⟨13,.phase⟩,⟨14,.phase⟩],none⟩) rfl (fun K hK=>?_) AllReadyH.nil
 go_simp
 skip
 try go_wp2_with fail
 refine hK.out _ _ ?_ (fun hHeld4=>?_)
 · (try dsimp only);(refine mkS.out _ ?_;((with_reducible (repeat (first | assumption | exact HR0.out | exact HR1.out | exact HR2.out | exact HR3.out | exact HR3.out.put HNE2.out.1 HNE2.out.2 _ _ _ _ | (refine Rks.ext ?_ (Ext.drew xr)) | (refine Rks.ext ?_ (Ext.alloc xr _)))));done))
 clear hK K hHeld3
 exact K83
theorem reckon_8 (b:Nat) (g:Option Nat) (n:Nat) (M:Bov) (m:Nat) (t:T) (hk:t.k = 8) (hl:t.l.length≤20) (hx:∀ x ∈ t.l,x.k≠5→RkC b g n M m x) (hr:∀ x ∈ t.l,x.k = 5→inB x.r.1 x.r.2.1 = true∧inB x.q.1 x.q.2.1 = true) (hO:∀ x ∈ t.l,argOk m M x)
   (W:World) (pp:Option Addr) (ln cl:Nat) (hE:Ent W b g n M) (hI:IsL W (fun _=>True) (.slice pp ln cl) t.l) :
   Calls Tryz.prog 37 #[.pointer (some ⟨b,0,none⟩),.agg #[.int .i64 t.k,.int .i64 t.n,.string (bs t.s),.int .i64 t.e,.int .i64 t.r.1,.int .i64 t.r.2.1,.bool t.r.2.2.1,.bool t.r.2.2.2,.int .i64 t.q.1,.int .i64 t.q.2.1,.bool t.q.2.2.1,.bool t.q.2.2.2,.slice pp ln cl]] W fun e w'=>e = .returned (.agg #[.int .i64 (evT (m+1) M t).k,.int .i64 (evT (m+1) M t).n,.string (evT (m+1) M t).s,.int .i64 (evT (m+1) M t).e])∧Ext W w':=by
 have HV:Hid (evT (m+1) M t = fnV t.s (t.l.map (argX m M))):=by
   show _ = _
   rw [evT,if_neg J11,if_neg J11,if_neg J11,if_neg J11,if_neg J11,if_neg J11,if_neg J11]
   rfl
 rw [HV.out]
 have cA:∀ W',Ext W W'→Calls Tryz.prog 71 #[.pointer (some ⟨b,0,none⟩),.slice pp ln cl] W' fun e w'=>∃ p1 n1 c1,e = .returned (.slice p1 n1 c1)∧RdB w'.heap.size w' (.slice p1 n1 c1) (t.l.map (argX m M))∧Ext W' w':=fun W' e=>by
   refine (earguments_any b g n M m t.l hl hx hr W' pp ln cl (hE.ext e) (hI.ext e)).mono ?_
   rintro e w' ⟨lv,he,hlv,E⟩
   obtain ⟨p1,n1,c1,rfl,_,_⟩:=hlv.form
   exact ⟨p1,n1,c1,he,hlv,E⟩
 have hAg:AgI (gsOf (t.l.map (argX m M))):=by
   intro a ha
   unfold gsOf at ha
   simp at ha
   obtain ⟨x,hm,e⟩:=ha
   exact (hO x hm).1 a (by rw [← e];simp)
 have hse:(seen (gsOf (t.l.map (argX m M)))).length≤10000000000:=args_seen (fun a ha=>by simp at ha;obtain ⟨x,hm,e⟩:=ha;rw [← e];exact (hO x hm).2.1) J50
 have hro:∀ a ∈ t.l.map (argX m M),I64 a.rows∧I64 a.cols:=fun a ha=>by simp at ha;obtain ⟨x,hm,e⟩:=ha;rw [← e];exact (hO x hm).2.2
 have hle:(t.l.map (argX m M)).length≤10000000000:=J6
 generalize t.l.map (argX m M) = L at *
 have cC:=fun (W':World) (p:Option Addr) (n c:Nat) (h:RdB W'.heap.size W' (.slice p n c) L) (e:Ext W W')=>xcall_any (bs t.s) L p n c W' ⟨⟨h,hAg,hse,hle,hro⟩,hE.n.ext e,hE.t.ext e⟩
 simp only [bs_list,dat_eq] at cC
 generalize fnV t.s L = z at *
 obtain ⟨zk,zn,zs,ze,r1,r2,r3,r4⟩:∃ zk zn zs ze,z.k = zk∧z.n = zn∧z.s = zs∧z.e = ze:=⟨_,_,_,_,rfl,rfl,rfl,rfl⟩
 rw [r1,r2,r3,r4] at cC ⊢
 have mkS:Hid (∀ EB RB V,Rks W EB RB t (.slice pp ln cl) V→(fun V=>(V.cell? ⟨EB,12,none⟩ = some (.slice pp ln cl)∧V.cell? ⟨EB,2,none⟩ = some (.string (bs t.s)))∧Rks W EB RB t (.slice pp ln cl) V) V):=by
   intro EB RB V hV
   exact ⟨⟨hV.2.1.2.1.2.2.2.2.2.2.2.2.2.2.2.2,hV.2.1.2.1.2.2.1⟩,hV⟩
 obtain ⟨W0,hW0⟩:∃ W0,W0 = (W.alloc (.cells #[.int .i64 t.k,.int .i64 t.n,.string (bs t.s),.int .i64 t.e,.int .i64 t.r.1,.int .i64 t.r.2.1,.bool t.r.2.2.1,.bool t.r.2.2.2,.int .i64 t.q.1,.int .i64 t.q.2.1,.bool t.q.2.2.1,.bool t.q.2.2.2,.slice pp ln cl] 43)).alloc (.cells #[.int .i64 0,.int .i64 0,.string ⟨#[]⟩,.int .i64 0] 33):=⟨_,rfl⟩
 have HR0:Hid (Rks W W.heap.size (W.heap.size+1) t (.slice pp ln cl) W0):=by
   exact K158
 have HNE:Hid (W.heap.size+1≠W.heap.size∧W.heap.size≤W.heap.size+1):=⟨by omega,by omega⟩
 rw [hk] at hW0
 rw [hk]
 clear hE HV hl hI hx hr hO hAg hse hle hro r1 r2 r3 r4
 go_enter func37,ntmps37
 go_wp2_with fail
 rw [← hW0]
 clear hW0 hk
 replace mkS:Hid (∀ V,Rks W W.heap.size (W.heap.size+1) t (.slice pp ln cl) V→_):=fun V h=>mkS.out W.heap.size (W.heap.size+1) V h
 generalize W.heap.size+1 = RB at *
 generalize hEB:W.heap.size = EB at *
 have HNE2:Hid (RB≠EB∧W.heap.size≤RB):=⟨HNE.out.1,by rw [hEB];exact HNE.out.2⟩
 clear hEB HNE
 refine wp_region_held_drew (S:=(fun V=>(V.cell? ⟨EB,12,none⟩ = some (.slice pp ln cl)∧V.cell? ⟨EB,2,none⟩ = some (.string (bs t.s)))∧Rks W EB RB t (.slice pp ln cl) V)) J3 ?_ (fun hHeld0=>?_)
 · (refine mkS.out _ ?_;((with_reducible (repeat (first | assumption | exact HR0.out | exact HR1.out | exact HR3.out | exact HR3.out.put HNE2.out.1 HNE2.out.2 _ _ _ _ | (refine Rks.ext ?_ (Ext.drew xr)) | (refine Rks.ext ?_ (Ext.alloc xr _)))));done))
 refine tkI (i:=0) (oi:=⟨some 7,.fieldAddr 43 (.tmp 3) 2,0, "eval.go:49",#[],none⟩) ?_
 try go_frame
 refine tkI (i:=1) (oi:=⟨some 8,.load 9 (.tmp 7),9, "eval.go:49",#[⟨0,.data⟩],none⟩) ?_
 try go_frame
 refine tkI (i:=2) (oi:=⟨some 9,.move (.tmp 0),25, "eval.go:49",#[],none⟩) ?_
 try go_frame
 refine tkI (i:=3) (oi:=⟨some 10,.fieldAddr 43 (.tmp 3) 6,0, "eval.go:49",#[],none⟩) ?_
 try go_frame
 refine tkI (i:=4) (oi:=⟨some 11,.load 41 (.tmp 10),41, "eval.go:49",#[⟨3,.data⟩],none⟩) ?_
 try go_frame
 refine wpAnyH_ready (rs:=[5]) J3 J65 ?_
 refine AllReadyH.cons (o:=⟨some 12,.call { callee:=.value (.func 71),args:=#[.tmp 9,.tmp 11],argTypes:=#[25,41] },107, "eval.go:49",#[⟨2,.data⟩,⟨4,.data⟩],none⟩) rfl (fun K hK=>?_) AllReadyH.nil
 go_simp
 refine (cA _ HR0.out.1.drew).mono ?_;rintro e w1 ⟨p1,n1,c1,rfl,hlv,E1⟩;have HL:Hid (RdB w1.heap.size w1 (.slice p1 n1 c1) L):=hlv;have HR1:Hid (Rks W EB RB t (.slice pp ln cl) w1):=HR0.out.ext (xr.drew.trans E1);clear hlv E1
 try go_wp2_with fail
 refine hK.out _ _ ?_ (fun hHeld1=>?_)
 · (try dsimp only);(refine mkS.out _ ?_;((with_reducible (repeat (first | assumption | exact HR0.out | exact HR1.out | exact HR3.out | exact HR3.out.put HNE2.out.1 HNE2.out.2 _ _ _ _ | (refine Rks.ext ?_ (Ext.drew xr)) | (refine Rks.ext ?_ (Ext.alloc xr _)))));done))
 clear hK K hHeld0
 try go_frame
 refine wpAnyH_ready (rs:=[6]) J3 J65 ?_
 refine AllReadyH.cons (o:=⟨some 13,.call { callee:=.value (.func 70),args:=#[.tmp 8,.tmp 12],argTypes:=#[9,107] },33, "eval.go:49",#[⟨1,.data⟩,⟨5,.data⟩,⟨5,.chain⟩],none⟩) rfl (fun K hK=>?_) AllReadyH.nil
 go_simp
 refine (cC _ p1 n1 c1 HL.out HR1.out.1).mono ?_;rintro e w3 ⟨rfl,E3⟩;have HR3:Hid (Rks W EB RB t (.slice pp ln cl) w3):=HR1.out.ext E3;obtain ⟨z0,z1,z2,z3,zz,⟨b0_0,b0_1,b0_2,b0_3⟩,b0f0,b0f1,b0f2,b0f3⟩:=HR3.out.2.2
 try go_wp2_with fail
 refine hK.out _ _ ?_ (fun hHeld2=>?_)
 · (try dsimp only);(refine mkS.out _ ?_;((with_reducible (repeat (first | assumption | exact HR0.out | exact HR1.out | exact HR3.out | exact HR3.out.put HNE2.out.1 HNE2.out.2 _ _ _ _ | (refine Rks.ext ?_ (Ext.drew xr)) | (refine Rks.ext ?_ (Ext.alloc xr _)))));done))
 clear hK K hHeld1
 try go_frame
 refine wpAnyH_ready (rs:=[7]) J3 J65 ?_
 refine AllReadyH.cons (o:=⟨none,.store 33 (.tmp 4) (.tmp 13),0, "eval.go:49",#[⟨6,.data⟩,⟨6,.chain⟩,⟨0,.phase⟩,⟨1,.phase⟩,⟨2,.phase⟩,⟨3,.phase⟩,⟨4,.phase⟩,⟨5,.phase⟩,⟨6,.phase⟩],none⟩) rfl (fun K hK=>?_) AllReadyH.nil
 go_simp
 skip
 try go_wp2_with fail
 refine hK.out _ _ ?_ (fun hHeld3=>?_)
 · (try dsimp only);(refine mkS.out _ ?_;((with_reducible (repeat (first | assumption | exact HR0.out | exact HR1.out | exact HR3.out | exact HR3.out.put HNE2.out.1 HNE2.out.2 _ _ _ _ | (refine Rks.ext ?_ (Ext.drew xr)) | (refine Rks.ext ?_ (Ext.alloc xr _)))));done))
 clear hK K hHeld2
 exact K83
theorem reckon_any (b:Nat) (g:Option Nat) (n:Nat) (M:Bov) (hM:BdOk M) (m:Nat):∀ t,Wf t→wellT m t = true→RkC b g n M m t:=by
 induction m with
 | zero=>intro t _ h;cases h
 | succ m ih =>
   intro t hW hw W pp ln cl hE hI
   have hwx:∀ x ∈ t.l,Wf x:=by cases hW;assumption
   unfold wellT at hw
   by_cases h0:t.k = 0
   · exact reckon_0 b g n M m t h0 W pp ln cl hE
   rw [if_neg h0] at hw
   by_cases h1:t.k = 1
   · exact reckon_1 b g n M m t h1 W pp ln cl hE
   rw [if_neg h1] at hw
   by_cases h2:t.k = 2
   · exact reckon_2 b g n M m t h2 W pp ln cl hE
   rw [if_neg h2] at hw
   by_cases h3:t.k = 3
   · exact reckon_3 b g n M m t h3 W pp ln cl hE
   rw [if_neg h3] at hw
   by_cases h4:t.k = 4
   · rw [if_pos h4] at hw
     exact reckon_4 b g n M m t h4 (in_i hw) W pp ln cl hE
   rw [if_neg h4] at hw
   by_cases h6:t.k = 6
   · rw [if_pos h6] at hw
     simp at hw
     obtain ⟨hl,ha⟩:=hw
     obtain ⟨x,hx⟩:∃ x,t.l = [x]:=List.length_eq_one_iff.1 hl
     have hm:x ∈ t.l:=by rw [hx];simp
     exact reckon_6 b g n M m t x h6 hx (ih x (hwx x hm) (ha x hm)) (evT_ok hM m x (hwx x hm) (ha x hm)) W pp ln cl hE hI
   rw [if_neg h6] at hw
   by_cases h7:t.k = 7
   · rw [if_pos h7] at hw
     simp at hw
     obtain ⟨⟨hb,hl⟩,ha⟩:=hw
     obtain ⟨x,y,hx⟩:∃ x y,t.l = [x,y]:=by
       match hq:t.l,hl with
       | [x,y],_=>exact ⟨x,y,rfl⟩
     have hm:x ∈ t.l:=by rw [hx];simp
     have hn:y ∈ t.l:=by rw [hx];simp
     exact reckon_7 b g n M m t x y h7 hx hb (ih x (hwx x hm) (ha x hm)) (ih y (hwx y hn) (ha y hn)) (evT_ok hM m x (hwx x hm) (ha x hm)) (evT_ok hM m y (hwx y hn) (ha y hn)) W pp ln cl hE hI
   rw [if_neg h7] at hw
   by_cases h8:t.k = 8
   · rw [if_pos h8] at hw
     simp at hw
     obtain ⟨⟨⟨_,_⟩,hB⟩,hall⟩:=hw
     have hB':=knB_20 t.s
     have hr:∀ x ∈ t.l,x.k = 5→inB x.r.1 x.r.2.1 = true∧inB x.q.1 x.q.2.1 = true:=fun x hm hk=>by have:=hall x hm;rw [if_pos hk] at this;simpa using this
     have hv:∀ x ∈ t.l,x.k≠5→wellT m x = true:=fun x hm hk=>by have:=hall x hm;rwa [if_neg hk] at this
     exact reckon_8 b g n M m t h8 J2 (fun x hm hk=>ih x (hwx x hm) (hv x hm hk)) hr (fun x hm=>argX_ok hM (hr x hm) (fun hk=>evT_ok hM m x (hwx x hm) (hv x hm hk))) W pp ln cl hE hI
   rw [if_neg h8] at hw
   cases hw
end Go.Proofs.YtcfgbiaahangmaaGreatDoor
