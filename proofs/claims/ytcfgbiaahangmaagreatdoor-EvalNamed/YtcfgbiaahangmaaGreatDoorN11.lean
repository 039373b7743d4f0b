import Derived.Test.YtcfgbiaahangmaaGreatDoorN10
set_option maxHeartbeats 1000000
set_option maxRecDepth 100000
namespace Go.Proofs.YtcfgbiaahangmaaGreatDoor
open Go.Proofs.Tryz
open Go.RowKit
theorem truthname_any (k n : Int) (s : ByteArray) (e : Int) (b : Bool) (hb : (n == 0) = !b) (w : World) : Calls Tryz.prog 225 #[.agg #[.int .i64 k,.int .i64 n,.string s,.int .i64 e]] w fun r w'=>r = .returned (.string (bs (if b then trueL else falseL))) ∧ Ext w w':=by
 cases b
 all_goals
   simp only [Bool.not_true,Bool.not_false] at hb
   go_enter func225,ntmps225
   go_wp2_with fail
   go_ret
   exact ⟨rfl,xr.alloc _⟩
theorem vshow_any (k n : Int) (s : ByteArray) (e : Int) (w : World) (hn : I64 n) (hT : Tab w) (hN : Nm w) :
   Calls Tryz.prog 176 #[.agg #[.int .i64 k,.int .i64 n,.string s,.int .i64 e]] w fun r w'=>r = .returned (.string (nm k n s e).shown) ∧ Ext w w':=by
 have c0:=fun W h=>vnormal_any k n s e W h
 have ok:=nm_ok k n s e hn
 clear hn
 generalize nm k n s e = v at c0 ok ⊢
 cases v with
 | blank =>
   exact K65
 | tf b =>
   simp only [V.dat] at c0
   cases b with
   | false =>
     simp only [Bool.false_eq_true,if_false] at c0
     have c1:=fun W=>truthname_any 1 0 ⟨#[]⟩ 0 false J9 W
     exact K52
   | true =>
     simp only [if_true] at c0
     have c1:=fun W=>truthname_any 1 1 ⟨#[]⟩ 0 true J9 W
     exact K52
 | num n =>
   simp only [V.dat] at c0
   have c1:=fun W h=>print_any n ok.1 W h
   have H : Hid ((V.num n).shown = ⟨(printL n).toArray⟩):=rfl
   generalize (⟨(printL n).toArray⟩ : ByteArray) = q at *
   clear ok
   go_enter func176,ntmps176
   go_wp2_with fail
   refine (c0 _ (hN.ext J0)).mono ?_
   rintro r w1 ⟨rfl,E1⟩
   have X1 : Ext w w1:=Ext.trans J0 E1
   have B0_1:=blk_top (b:=w.heap.size) J60 E1
   have D0:=B0_1
   obtain ⟨b0z,⟨b0_0,b0_1,b0_2,b0_3⟩,b0f0,b0f1,b0f2,b0f3⟩:=D0
   go_wp2_with fail
   refine (c1 _ (hT.ext J0)).mono ?_
   rintro r w2 ⟨rfl,E2⟩
   have X2 : Ext w w2:=Ext.trans J0 E2
   go_wp2_with fail
   go_ret
   exact ⟨by rw [H.out];rfl,J0⟩
 | text s =>
   exact K65
 | err e =>
   simp only [V.dat] at c0
   have c1:=fun W h=>errname_any e W h
   have H : Hid ((V.err e).shown = bs (errName e)):=rfl
   generalize bs (errName e) = q at *
   clear ok hT
   go_enter func176,ntmps176
   go_wp2_with fail
   refine (c0 _ (hN.ext J0)).mono ?_
   rintro r w1 ⟨rfl,E1⟩
   have X1 : Ext w w1:=Ext.trans J0 E1
   have B0_1:=blk_top (b:=w.heap.size) J60 E1
   have D0:=B0_1
   obtain ⟨b0z,⟨b0_0,b0_1,b0_2,b0_3⟩,b0f0,b0f1,b0f2,b0f3⟩:=D0
   go_wp2_with fail
   refine (c1 _ (hN.ext J0)).mono ?_
   rintro r w2 ⟨rfl,rfl⟩
   go_wp2_with fail
   go_ret
   exact ⟨by rw [H.out];rfl,J0⟩
theorem vtotext_any (k n : Int) (s : ByteArray) (e : Int) (w : World) (hn : I64 n) (hT : Tab w) (hN : Nm w) :
   Calls Tryz.prog 131 #[.agg #[.int .i64 k,.int .i64 n,.string s,.int .i64 e]] w fun r w'=>r = .returned ((nm k n s e).toText.dat) ∧ Ext w w':=by
 have c0:=fun W h=>vnormal_any k n s e W h
 have ok:=nm_ok k n s e hn
 clear hn
 generalize nm k n s e = v at c0 ok ⊢
 cases v with
 | blank =>
   simp only [V.dat] at c0
   have c1:=fun W h t=>vshow_any 0 0 ⟨#[]⟩ 0 W ⟨by decide,by decide⟩ t h
   rw [nm_blank] at c1
   have hz:=shown_size (V.blank) ok
   have c2:=fun W h=>vtext_any (V.blank).shown W h
   rw [mkText_is hz] at c2
   simp only [V.dat] at c2
   have H : Hid ((V.blank).toText = .text (V.blank).shown):=rfl
   generalize (V.blank).shown = q at *
   exact K8
 | tf b =>
   simp only [V.dat] at c0
   cases b with
   | false =>
     simp only [Bool.false_eq_true,if_false] at c0
     have c1:=fun W h t=>vshow_any 1 0 ⟨#[]⟩ 0 W ⟨by decide,by decide⟩ t h
     rw [show nm 1 0 ⟨#[]⟩ 0 = .tf false from rfl] at c1
     have hz:=shown_size (V.tf false) ok
     have c2:=fun W h=>vtext_any (V.tf false).shown W h
     rw [mkText_is hz] at c2
     simp only [V.dat] at c2
     have H : Hid ((V.tf false).toText = .text (V.tf false).shown):=rfl
     generalize (V.tf false).shown = q at *
     exact K8
   | true =>
     simp only [if_true] at c0
     have c1:=fun W h t=>vshow_any 1 1 ⟨#[]⟩ 0 W ⟨by decide,by decide⟩ t h
     rw [show nm 1 1 ⟨#[]⟩ 0 = .tf true from rfl] at c1
     have hz:=shown_size (V.tf true) ok
     have c2:=fun W h=>vtext_any (V.tf true).shown W h
     rw [mkText_is hz] at c2
     simp only [V.dat] at c2
     have H : Hid ((V.tf true).toText = .text (V.tf true).shown):=rfl
     generalize (V.tf true).shown = q at *
     exact K8
 | num n =>
   simp only [V.dat] at c0
   have c1:=fun W h t=>vshow_any 2 n ⟨#[]⟩ 0 W ok.1 t h
   rw [nm_num ok.2] at c1
   have hz:=shown_size (V.num n) ok
   have c2:=fun W h=>vtext_any (V.num n).shown W h
   rw [mkText_is hz] at c2
   simp only [V.dat] at c2
   have H : Hid ((V.num n).toText = .text (V.num n).shown):=rfl
   generalize (V.num n).shown = q at *
   exact K8
 | text s =>
   simp only [V.dat] at c0
   have c1:=fun W h t=>vshow_any 3 0 s 0 W ⟨by decide,by decide⟩ t h
   rw [nm_text ok] at c1
   have hz:=shown_size (V.text s) ok
   have c2:=fun W h=>vtext_any (V.text s).shown W h
   rw [mkText_is hz] at c2
   simp only [V.dat] at c2
   have H : Hid ((V.text s).toText = .text (V.text s).shown):=rfl
   generalize (V.text s).shown = q at *
   exact K8
 | err e =>
   simp only [V.dat] at c0
   clear ok hT
   go_enter func131,ntmps131
   go_wp2_with fail
   refine (c0 _ (hN.ext J0)).mono ?_
   rintro r w1 ⟨rfl,E1⟩
   have X1 : Ext w w1:=Ext.trans J0 E1
   have B0_1:=blk_top (b:=w.heap.size) J60 ((xr.alloc _).trans E1)
   have B1_1:=blk_top (b:=w.heap.size + 1) J60 E1
   have D0:=B0_1
   obtain ⟨b0z,⟨b0_0,b0_1,b0_2,b0_3⟩,b0f0,b0f1,b0f2,b0f3⟩:=D0
   have D1:=B1_1
   obtain ⟨b1z,⟨b1_0,b1_1,b1_2,b1_3⟩,b1f0,b1f1,b1f2,b1f3⟩:=D1
   go_wp2_with fail
   exact finB ((B1_1.far (c:=w.heap.size) J60 _ _ _ _).set _ _ _ _) rfl J0 J26 (fun h=>⟨rfl,h⟩)
theorem truK_cases (s : ByteArray) : (truK s = true ∧ (V.text s).toBool = truR s) ∨ (truK s = false ∧ (V.text s).toBool = .err 2):=by
 have e : (V.text s).toBool = if s.data.toList = trueL then .tf true else if s.data.toList = falseL then .tf false else .err 2:=rfl
 rw [e]
 unfold truK truR
 by_cases h : s.data.toList = trueL
 · left;rw [if_pos h,if_pos h];simp [h]
 · by_cases g : s.data.toList = falseL
   · left;rw [if_neg h,if_pos g,if_neg h,if_pos g];simp [g]
   · right;rw [if_neg h,if_neg g];simp [h,g]
theorem vtobool_any (k n : Int) (s : ByteArray) (e : Int) (w : World) (hn : I64 n) (hN : Nm w) :
   Calls Tryz.prog 243 #[.agg #[.int .i64 k,.int .i64 n,.string s,.int .i64 e]] w fun r w'=>r = .returned ((nm k n s e).toBool.dat) ∧ Ext w w':=by
 have c0:=fun W h=>vnormal_any k n s e W h
 have ok:=nm_ok k n s e hn
 clear hn
 generalize nm k n s e = v at c0 ok ⊢
 cases v with
 | blank =>
   simp only [V.dat] at c0
   exact K199
 | tf b =>
   simp only [V.dat] at c0
   cases b with
   | false =>
     simp only [Bool.false_eq_true,if_false] at c0
     exact K199
   | true =>
     simp only [if_true] at c0
     have c1:=fun W=>vbool_any true W
     simp only [V.dat,if_true] at c1
     exact K18
 | num n =>
   simp only [V.dat] at c0
   obtain ⟨q0,q1,q2,q3,hq⟩:=dat4 (V.tf (n != 0))
   have c1:=fun W=>vbool_any (n != 0) W
   rw [hq] at c1
   have H : Hid ((V.num n).toBool.dat = .agg #[.int .i64 q0,.int .i64 q1,.string q2,.int .i64 q3]):=hq
   clear hq ok
   go_enter func243,ntmps243
   go_wp2_with fail
   refine (c0 _ (hN.ext J0)).mono ?_
   rintro r w1 ⟨rfl,E1⟩
   have X1 : Ext w w1:=Ext.trans J0 E1
   have B0_1:=blk_top (b:=w.heap.size) J60 ((xr.alloc _).trans E1)
   have B1_1:=blk_top (b:=w.heap.size + 1) J60 E1
   have D0:=B0_1
   obtain ⟨b0z,⟨b0_0,b0_1,b0_2,b0_3⟩,b0f0,b0f1,b0f2,b0f3⟩:=D0
   have D1:=B1_1
   obtain ⟨b1z,⟨b1_0,b1_1,b1_2,b1_3⟩,b1f0,b1f1,b1f2,b1f3⟩:=D1
   go_wp2_with fail
   refine (c1 _).mono ?_
   rintro r w2 ⟨rfl,E2⟩
   have X2 : Ext w w2:=Ext.trans J0 E2
   have B1_2:=(B1_1.far (c:=w.heap.size) J60 _ _ _ _).ext E2
   have D1:=B1_2
   obtain ⟨b1z,⟨b1_0,b1_1,b1_2,b1_3⟩,b1f0,b1f1,b1f2,b1f3⟩:=D1
   go_wp2_with fail
   exact finB (B1_2.set _ _ _ _) rfl J0 J23 (fun h=>⟨by rw [H.out],h⟩)
 | text s =>
   simp only [V.dat] at c0
   have c1:=fun W=>truth_any s W
   have c2:=fun W h=>err_any 2 W h
   rw [mkErr_is ⟨by decide,by decide⟩] at c2
   simp only [V.dat] at c2
   have hk:=truK_cases s
   clear ok
   obtain ⟨q0,q1,q2,q3,hq⟩:=dat4 (truR s)
   rw [hq] at c1
   rcases hk with ⟨h1,h2⟩ | ⟨h1,h2⟩
   · rw [h1] at c1
     have H : Hid ((V.text s).toBool.dat = .agg #[.int .i64 q0,.int .i64 q1,.string q2,.int .i64 q3]):=by show _ = _;rw [h2];exact hq
     clear hq h1 h2 c2
     go_enter func243,ntmps243
     go_wp2_with fail
     refine (c0 _ (hN.ext J0)).mono ?_
     rintro r w1 ⟨rfl,E1⟩
     have X1 : Ext w w1:=Ext.trans J0 E1
     have B0_1:=blk_top (b:=w.heap.size) J60 ((xr.alloc _).trans E1)
     have B1_1:=blk_top (b:=w.heap.size + 1) J60 E1
     have D0:=B0_1
     obtain ⟨b0z,⟨b0_0,b0_1,b0_2,b0_3⟩,b0f0,b0f1,b0f2,b0f3⟩:=D0
     have D1:=B1_1
     obtain ⟨b1z,⟨b1_0,b1_1,b1_2,b1_3⟩,b1f0,b1f1,b1f2,b1f3⟩:=D1
     go_wp2_with fail
     refine (c1 _).mono ?_
     rintro r w2 ⟨rfl,E2⟩
     have X2 : Ext w w2:=Ext.trans J0 E2
     have B1_2:=(B1_1.far (c:=w.heap.size) J60 _ _ _ _).ext E2
     have D1:=B1_2
     obtain ⟨b1z,⟨b1_0,b1_1,b1_2,b1_3⟩,b1f0,b1f1,b1f2,b1f3⟩:=D1
     go_wp2_with fail
     exact finB ((B1_2.set _ _ _ _).ext (xr.alloc _)) rfl J0 J23 (fun h=>⟨by rw [H.out],h⟩)
   · rw [h1] at c1
     have H : Hid ((V.text s).toBool = .err 2):=h2
     clear hq h1 h2
     go_enter func243,ntmps243
     go_wp2_with fail
     refine (c0 _ (hN.ext J0)).mono ?_
     rintro r w1 ⟨rfl,E1⟩
     have X1 : Ext w w1:=Ext.trans J0 E1
     have B0_1:=blk_top (b:=w.heap.size) J60 ((xr.alloc _).trans E1)
     have B1_1:=blk_top (b:=w.heap.size + 1) J60 E1
     have D0:=B0_1
     obtain ⟨b0z,⟨b0_0,b0_1,b0_2,b0_3⟩,b0f0,b0f1,b0f2,b0f3⟩:=D0
     have D1:=B1_1
     obtain ⟨b1z,⟨b1_0,b1_1,b1_2,b1_3⟩,b1f0,b1f1,b1f2,b1f3⟩:=D1
     go_wp2_with fail
     refine (c1 _).mono ?_
     rintro r w2 ⟨rfl,E2⟩
     have X2 : Ext w w2:=Ext.trans J0 E2
     have B1_2:=(B1_1.far (c:=w.heap.size) J60 _ _ _ _).ext E2
     have D1:=B1_2
     obtain ⟨b1z,⟨b1_0,b1_1,b1_2,b1_3⟩,b1f0,b1f1,b1f2,b1f3⟩:=D1
     go_wp2_with fail
     refine (c2 _ (hN.ext J0)).mono ?_
     rintro r w3 ⟨rfl,E3⟩
     have X3 : Ext w w3:=Ext.trans J0 E3
     have B1_3:=(B1_2.ext (xr.alloc _)).ext E3
     have D1:=B1_3
     obtain ⟨b1z,⟨b1_0,b1_1,b1_2,b1_3⟩,b1f0,b1f1,b1f2,b1f3⟩:=D1
     go_wp2_with fail
     exact finB (B1_3.set _ _ _ _) rfl J0 J23 (fun h=>⟨by rw [H.out];rfl,h⟩)
 | err e =>
   simp only [V.dat] at c0
   clear ok
   go_enter func243,ntmps243
   go_wp2_with fail
   refine (c0 _ (hN.ext J0)).mono ?_
   rintro r w1 ⟨rfl,E1⟩
   have X1 : Ext w w1:=Ext.trans J0 E1
   have B0_1:=blk_top (b:=w.heap.size) J60 ((xr.alloc _).trans E1)
   have B1_1:=blk_top (b:=w.heap.size + 1) J60 E1
   have D0:=B0_1
   obtain ⟨b0z,⟨b0_0,b0_1,b0_2,b0_3⟩,b0f0,b0f1,b0f2,b0f3⟩:=D0
   have D1:=B1_1
   obtain ⟨b1z,⟨b1_0,b1_1,b1_2,b1_3⟩,b1f0,b1f1,b1f2,b1f3⟩:=D1
   go_wp2_with fail
   exact finB ((B1_1.far (c:=w.heap.size) J60 _ _ _ _).set _ _ _ _) rfl J0 J23 (fun h=>⟨rfl,h⟩)
theorem vneg_any (k n : Int) (s : ByteArray) (e : Int) (w : World) (hn : I64 n) (hN : Nm w) :
   Calls Tryz.prog 68 #[.agg #[.int .i64 k,.int .i64 n,.string s,.int .i64 e]] w fun r w'=>r = .returned (nm k n s e).neg.dat ∧ Ext w w':=by
 have c0:=fun W h=>vtonum_any k n s e W hn h
 have ok:=toNum_cases (nm k n s e) (nm_ok k n s e hn)
 clear hn
 unfold V.neg
 generalize (nm k n s e).toNum = v at c0 ok ⊢
 rcases ok with ⟨m,rfl,im,cm⟩ | ⟨x,rfl,_⟩
 · have c1:=fun W h=>vnum_any (-m) W h
   rw [mkNum_is (neg_can m im cm).2] at c1
   simp only [V.dat] at c0 c1
   obtain ⟨i1,i2⟩:=im
   have i3 : m ≠ -9223372036854775808:=by simpa [canB] using cm
   clear cm
   go_enter func68,ntmps68
   go_wp2_with fail
   refine (c0 _ (hN.ext J0)).mono ?_
   rintro r w1 ⟨rfl,E1⟩
   have X1 : Ext w w1:=Ext.trans J0 E1
   have B0_1:=blk_top (b:=w.heap.size) J60 ((xr.alloc _).trans E1)
   have B1_1:=blk_top (b:=w.heap.size + 1) J60 E1
   have D0:=B0_1
   obtain ⟨b0z,⟨b0_0,b0_1,b0_2,b0_3⟩,b0f0,b0f1,b0f2,b0f3⟩:=D0
   have D1:=B1_1
   obtain ⟨b1z,⟨b1_0,b1_1,b1_2,b1_3⟩,b1f0,b1f1,b1f2,b1f3⟩:=D1
   go_wp2_with fail
   refine (c1 _ (hN.ext J0)).mono ?_
   rintro r w2 ⟨rfl,E2⟩
   have X2 : Ext w w2:=Ext.trans J0 E2
   have B1_2:=(B1_1.far (c:=w.heap.size) J60 _ _ _ _).ext E2
   have D1:=B1_2
   obtain ⟨b1z,⟨b1_0,b1_1,b1_2,b1_3⟩,b1f0,b1f1,b1f2,b1f3⟩:=D1
   go_wp2_with fail
   exact finB (B1_2.set _ _ _ _) rfl J0 (fun g0 g1 g2 g3=>by simp [results,results68,go_sem,g0,g1,g2,g3]) (fun h=>⟨rfl,h⟩)
 · simp only [V.dat] at c0
   go_enter func68,ntmps68
   go_wp2_with fail
   refine (c0 _ (hN.ext J0)).mono ?_
   rintro r w1 ⟨rfl,E1⟩
   have X1 : Ext w w1:=Ext.trans J0 E1
   have B0_1:=blk_top (b:=w.heap.size) J60 ((xr.alloc _).trans E1)
   have B1_1:=blk_top (b:=w.heap.size + 1) J60 E1
   have D0:=B0_1
   obtain ⟨b0z,⟨b0_0,b0_1,b0_2,b0_3⟩,b0f0,b0f1,b0f2,b0f3⟩:=D0
   have D1:=B1_1
   obtain ⟨b1z,⟨b1_0,b1_1,b1_2,b1_3⟩,b1f0,b1f1,b1f2,b1f3⟩:=D1
   go_wp2_with fail
   exact finB ((B1_1.far (c:=w.heap.size) J60 _ _ _ _).set _ _ _ _) rfl J0 (fun g0 g1 g2 g3=>by simp [results,results68,go_sem,g0,g1,g2,g3]) (fun h=>⟨rfl,h⟩)
theorem I64.z : I64 0:=⟨by decide,by decide⟩
theorem nm_of (x : V) (h : x.ok) : nm x.k x.n x.s x.e = x ∧ I64 x.n:=by
 cases x with
 | blank=>exact ⟨rfl,by decide,by decide⟩
 | tf b=>cases b <;> exact ⟨rfl,by decide,by decide⟩
 | num n=>exact ⟨mkNum_is h.2,h.1⟩
 | text s=>exact ⟨mkText_is h,I64.z⟩
 | err e=>exact ⟨mkErr_is h,I64.z⟩
theorem number_any (x : V) (a : Bool) (W : World) (hN : Nm W) (hx : x.ok) : Calls Tryz.prog 263 #[x.dat,.bool a] W fun e w'=>e = .returned (numF x a).dat ∧ Ext W w':=by
 cases a with
 | false =>
   have c0:=fun W h=>vtonum_any x.k x.n x.s x.e W (nm_of x hx).2 h
   rw [(nm_of x hx).1] at c0
   have H : Hid (numF x false = x.toNum):=rfl
   rw [dat_eq x]
   obtain ⟨q0,q1,q2,q3,hq⟩:=dat4 x.toNum
   rw [hq] at c0
   have HQ : Hid (x.toNum.dat = .agg #[.int .i64 q0,.int .i64 q1,.string q2,.int .i64 q3]):=hq
   clear hq hx
   generalize x.k = xk at *
   generalize x.n = xn at *
   generalize x.s = xs at *
   generalize x.e = xe at *
   go_enter func263,ntmps263
   go_wp2_with fail
   refine (c0 _ (hN.ext ((xr.alloc _).alloc _))).mono ?_
   rintro e w1 ⟨rfl,E1⟩
   obtain ⟨z,⟨k0,k1,k2,k3⟩,f0,f1,f2,f3⟩:=blk_top (b:=W.heap.size + 1) J60 E1
   go_wp2_with fail
   exact fin4 k0 k1 k2 k3 rfl J60 (((xr.alloc _).alloc _).trans E1) (fun W g0 g1 g2 g3=>by simp [results,results263,go_sem,g0,g1,g2,g3]) (fun W h=>⟨by rw [H.out,HQ.out],h⟩)
 | true =>
   clear hN
   have X2 : Hid (∀ o1 o2,Ext W ((W.alloc o1).alloc o2)):=fun o1 o2=>(xr.alloc _).alloc _
   cases x with
   | blank =>
     exact K55
   | tf b =>
     clear hx
     simp only [V.dat,numF,if_true]
     generalize (if b = true then (1 : Int) else 0) = bn
     go_enter func263,ntmps263
     go_wp2_with fail
     simp [bodyPost,results,results263,go_sem]
     exact X2.out _ _
   | num n =>
     exact K55
   | text s =>
     exact K55
   | err e =>
     exact K55
theorem truthB (x : V) (a : Bool) (W : World) (hN : Nm W) (hx : x.ok) (hc : a = false ∨ (x.k ≠ 0 ∧ x.k ≠ 3)) : Calls Tryz.prog 267 #[x.dat,.bool a] W fun e w'=>e = .returned x.toBool.dat ∧ Ext W w':=by
 have c0:=fun W h=>vtobool_any x.k x.n x.s x.e W (nm_of x hx).2 h
 rw [(nm_of x hx).1] at c0
 rw [dat_eq x]
 obtain ⟨q0,q1,q2,q3,hq⟩:=dat4 x.toBool
 rw [hq] at c0 ⊢
 clear hq hx
 generalize x.k = xk at *
 generalize x.n = xn at *
 generalize x.s = xs at *
 generalize x.e = xe at *
 cases a with
 | false =>
   clear hc
   exact K57
 | true =>
   have hh : xk ≠ 0 ∧ xk ≠ 3:=hc.resolve_left J60
   have e0 : (xk == 0) = false:=by simpa using hh.1
   have e3 : (xk == 3) = false:=by simpa using hh.2
   clear hc hh
   exact K57
theorem ftruth_any (x : V) (a : Bool) (W : World) (hN : Nm W) (hx : x.ok) : Calls Tryz.prog 267 #[x.dat,.bool a] W fun e w'=>e = .returned (truF x a).dat ∧ Ext W w':=by
 cases a with
 | false=>exact truthB x false W hN hx (.inl rfl)
 | true =>
   have X2 : Hid (∀ o1 o2,Ext W ((W.alloc o1).alloc o2)):=fun o1 o2=>(xr.alloc _).alloc _
   cases x with
   | tf b=>exact truthB _ true W hN hx (.inr ⟨by simp [V.k],by simp [V.k]⟩)
   | num n=>exact truthB _ true W hN hx (.inr ⟨by simp [V.k],by simp [V.k]⟩)
   | err e=>exact truthB _ true W hN hx (.inr ⟨by simp [V.k],by simp [V.k]⟩)
   | blank =>
     exact K114
   | text s =>
     exact K114
def TurnC (w0 : World) (v : Value) (f : V → Bool → V) : Prop:=∃ K,v = .func (.func K) #[] #[] ∧ (∀ args W,(callFunc K args).run Tryz.prog W = .ok (.enter K args) W) ∧
 ∀ W x a,Ext w0 W → x.ok → Calls Tryz.prog K #[x.dat,.bool a] W fun e w'=>e = .returned (f x a).dat ∧ Ext W w'
theorem turn_number (w0 : World) (hN : Nm w0) : TurnC w0 (.func (.func 263) #[] #[]) numF :=
 ⟨263,rfl,enters_of func263 J3 rfl,fun W x a e h=>number_any x a W (hN.ext e) h⟩
theorem turn_truth (w0 : World) (hN : Nm w0) : TurnC w0 (.func (.func 267) #[] #[]) truF :=
 ⟨267,rfl,enters_of func267 J3 rfl,fun W x a e h=>ftruth_any x a W (hN.ext e) h⟩
def encV (x : V) : Array Value:=#[x.dat]
theorem bad_snoc (f : V → Bool → V) (l : List (V × Bool)) (p : V × Bool) : bad f (l ++ [p]) = if (bad f l).k = 4 then bad f l else if (f p.1 p.2).k = 4 then f p.1 p.2 else .blank:=bad_app f l [p]
theorem got_snoc (f : V → Bool → V) (l : List (V × Bool)) (p : V × Bool) : got f (l ++ [p]) = if goes (f p.1 p.2) then got f l ++ [f p.1 p.2] else got f l:=by
 rw [got_app]
 show got f l ++ (if goes (f p.1 p.2) then [f p.1 p.2] else []) = _
 split
 · rfl
 · simp
structure Thr (w0 : World) (hi g : Nat) (tv sv : Value) (f : V → Bool → V) (P : List V → World → Prop) (l : List (V × Bool)) (W : World) : Prop where
 p : P (got f l) W
 t : W.cell? ⟨g,0,none⟩ = some tv
 s : W.cell? ⟨g + 1,0,none⟩ = some sv
 b : Blk W (g + 2) (.int .i64 (bad f l).k) (.int .i64 (bad f l).n) (.string (bad f l).s) (.int .i64 (bad f l).e)
 ot : Own4 W g
 os : Own4 W (g + 1)
 ob : Own4 W (g + 2)
theorem Blk.cells {W W' : World} {b : Nat} {x0 x1 x2 x3 : Value} (h : Blk W b x0 x1 x2 x3) (hs : W.heap.size ≤ W'.heap.size) (e : ∀ o,W'.cell? ⟨b,o,none⟩ = W.cell? ⟨b,o,none⟩ ∧ W'.frozen? ⟨b,o,none⟩ = W.frozen? ⟨b,o,none⟩) : Blk W' b x0 x1 x2 x3:=by
 obtain ⟨z,⟨k0,k1,k2,k3⟩,f0,f1,f2,f3⟩:=h
 exact ⟨llL z hs,⟨(e 0).1.trans k0,(e 1).1.trans k1,(e 2).1.trans k2,(e 3).1.trans k3⟩,(e 0).2.trans f0,(e 1).2.trans f1,(e 2).2.trans f2,(e 3).2.trans f3⟩
theorem Own4.env {hi : Nat} {w w' : World} {b : Nat} (h : Own4 w b) (m : Env hi w w') (hb : b < hi) : Own4 w' b ∧ ∀ o,w'.cell? ⟨b,o,none⟩ = w.cell? ⟨b,o,none⟩ ∧ w'.frozen? ⟨b,o,none⟩ = w.frozen? ⟨b,o,none⟩:=by
 have e:=m.1.block b hb
 exact K113
theorem Thr.env {w0 : World} {hi g : Nat} {tv sv : Value} {f : V → Bool → V} {P : List V → World → Prop} {l : List (V × Bool)} {W W' : World} (hP : ∀ l W W',P l W → hi ≤ W.heap.size → Env hi W W' → P l W') (hg : hi ≤ g)
   (h : Thr w0 hi g tv sv f P l W) (hs : g + 3 ≤ W.heap.size) (e : Env (g + 3) W W') : Thr w0 hi g tv sv f P l W':=by
 obtain ⟨p,t,s,b,ot,os,ob⟩:=h
 obtain ⟨ot',et⟩:=ot.env e J2
 obtain ⟨os',es⟩:=os.env e J2
 obtain ⟨ob',eb⟩:=ob.env e J2
 exact ⟨hP _ _ _ p J2 (e.down J2),(et 0).1.trans t,(es 0).1.trans s,b.cells e.1.size eb,ot',os',ob'⟩
theorem Thr.mid {w0 : World} {hi g : Nat} {tv sv : Value} {f : V → Bool → V} {P : List V → World → Prop} {l l' : List (V × Bool)} {W W' : World} (hg : hi ≤ g)
   (h : Thr w0 hi g tv sv f P l W) (m : Mid w0.heap.size hi W W') (hp : P (got f l') W') (hb : bad f l' = bad f l) : Thr w0 hi g tv sv f P l' W':=by
 obtain ⟨p,t,s,b,ot,os,ob⟩:=h
 obtain ⟨ot',et⟩:=ot.mid m J2
 obtain ⟨os',es⟩:=os.mid m J2
 obtain ⟨ob',eb⟩:=ob.mid m J2
 exact ⟨hp,(et 0).1.trans t,(es 0).1.trans s,by rw [hb];exact b.cells m.1.size eb,ot',os',ob'⟩
theorem Own4.set {w : World} {b : Nat} (h : Own4 w b) (q : Addr) (v : Value) : Own4 (w.setCell q v) b:=by
 refine ⟨by simpa [World.setCell] using h.1,fun r=>h.2 ?_⟩
 obtain ⟨c,fz,r⟩:=r
 by_cases hq : b = q.block
 · subst hq
   simp only [World.setCell,Array.getElem?_modify,if_true] at r
   obtain ⟨o,ho,r⟩:=Option.map_eq_some_iff.1 r
   cases o with
   | cells cs t fr=>cases r;exact ⟨_,_,ho⟩
   | _=>cases r
 · rw [Below.heap_setCell _ _ _ _ hq] at r
   exact ⟨c,fz,r⟩
def RdB (B : Nat) (W : World) (v : Value) (l : List Bg) : Prop :=
 ∃ p c,v = .slice p l.length c ∧ l.length ≤ c ∧ (l = [] ∨ ∃ b off,p = some ⟨b,off,none⟩ ∧ b < B ∧ b < W.heap.size ∧ ∀ i a,l[i]? = some a → ∃ (lv : Value),
   W.cell? ⟨b,off + i * 4,none⟩ = some (.bool a.g.area) ∧ W.cell? ⟨b,off + i * 4 + 1,none⟩ = some (.int .i64 a.rows) ∧ W.cell? ⟨b,off + i * 4 + 2,none⟩ = some (.int .i64 a.cols) ∧ W.cell? ⟨b,off + i * 4 + 3,none⟩ = some lv ∧ RdV B W lv a.g.l)
theorem RdB.low {B : Nat} {W W' : World} {v : Value} {l : List Bg} (h : RdB B W v l) (e : Below B W W') : RdB B W' v l:=by
 obtain ⟨p,c,h1,h2,h3⟩:=h
 refine ⟨p,c,h1,h2,?_⟩
 rcases h3 with h3 | ⟨b,off,h3,h4,h5,h6⟩
 · exact .inl h3
 · refine .inr ⟨b,off,h3,h4,llL h5 e.size,fun i r hr=>?_⟩
   have k:=fun o=>Below.cell e (p:=⟨b,o,none⟩) h4
   obtain ⟨lv,k0,k1,k2,k3,k4⟩:=h6 i r hr
   exact ⟨lv,(k _).trans k0,(k _).trans k1,(k _).trans k2,(k _).trans k3,k4.low e⟩
theorem RdB.up {B B' : Nat} {W : World} {v : Value} {l : List Bg} (h : RdB B W v l) (e : B ≤ B') : RdB B' W v l:=by
 obtain ⟨p,c,h1,h2,h3⟩:=h
 refine ⟨p,c,h1,h2,?_⟩
 rcases h3 with h3 | ⟨b,off,h3,h4,h5,h6⟩
 · exact .inl h3
 · refine .inr ⟨b,off,h3,llL h4 e,h5,fun i r hr=>?_⟩
   obtain ⟨lv,k0,k1,k2,k3,k4⟩:=h6 i r hr
   exact ⟨lv,k0,k1,k2,k3,k4.up e⟩
theorem RdB.to {B : Nat} {W W' : World} {v : Value} {l : List Bg} (h : RdB B W v l) (hB : B ≤ W.heap.size) (e : Ext W W') : RdB W'.heap.size W' v l:=((h.up hB).low e).up e.size
theorem RdB.at {B : Nat} {W : World} {p : Option Addr} {c n : Nat} {l : List Bg} (h : RdB B W (.slice p n c) l) {i : Nat} {a : Bg} (hi : l[i]? = some a) :
   ∃ (b off : Nat) (lv : Value),p = some ⟨b,off,none⟩ ∧ b < B ∧ b < W.heap.size ∧
     (W.cell? ⟨b,off + i * 4,none⟩ = some (.bool a.g.area) ∧ W.cell? ⟨b,off + i * 4 + 1,none⟩ = some (.int .i64 a.rows) ∧ W.cell? ⟨b,off + i * 4 + 2,none⟩ = some (.int .i64 a.cols) ∧ W.cell? ⟨b,off + i * 4 + 3,none⟩ = some lv) ∧ RdV B W lv a.g.l:=by
 obtain ⟨p',c',h1,h2,h3⟩:=h
 cases h1
 rcases h3 with h3 | ⟨b,off,h3,h4,h5,h6⟩
 · subst h3;simp at hi
 · obtain ⟨lv,k0,k1,k2,k3,k4⟩:=h6 i _ hi
   exact ⟨b,off,lv,h3,h4,h5,⟨k0,k1,k2,k3⟩,k4⟩
theorem RdB.form {B : Nat} {W : World} {v : Value} {l : List Bg} (h : RdB B W v l) : ∃ p n c,v = .slice p n c ∧ n = l.length ∧ n ≤ c:=by
 exact K101
theorem RdB.len {B : Nat} {W : World} {p : Option Addr} {c n : Nat} {l : List Bg} (h : RdB B W (.slice p n c) l) : n = l.length:=by
 obtain ⟨p',c',h1,_⟩:=h
 cases h1;rfl
theorem RdB.toA {B : Nat} {W : World} {v : Value} {l : List Bg} (h : RdB B W v l) : RdA B W v (gsOf l):=by
 obtain ⟨p,c,h1,h2,h3⟩:=h
 have e : (gsOf l).length = l.length:=by simp [gsOf]
 refine ⟨p,c,by rw [e];exact h1,by rw [e];exact h2,?_⟩
 rcases h3 with h3 | ⟨b,off,h3,h4,h5,h6⟩
 · subst h3;exact .inl rfl
 · refine .inr ⟨b,off,h3,h4,h5,fun i r hr=>?_⟩
   unfold gsOf at hr
   rw [List.getElem?_map] at hr
   cases hx : l[i]? with
   | none=>rw [hx] at hr;cases hr
   | some a =>
     rw [hx] at hr
     simp at hr
     subst hr
     obtain ⟨lv,k0,k1,k2,k3,k4⟩:=h6 i a hx
     exact ⟨_,_,lv,k0,k1,k2,k3,k4⟩
structure FitB (W : World) (v : Value) (l : List Bg) : Prop where
 rd : RdB W.heap.size W v l
 i : AgI (gsOf l)
 s : (seen (gsOf l)).length ≤ 10000000000
 z : l.length ≤ 10000000000
 r : ∀ a ∈ l,I64 a.rows ∧ I64 a.cols
theorem FitB.ext {W W' : World} {v : Value} {l : List Bg} (h : FitB W v l) (e : Ext W W') : FitB W' v l:=⟨h.rd.to nrf e,h.i,h.s,h.z,h.r⟩
theorem FitB.ok {W : World} {v : Value} {l : List Bg} (h : FitB W v l) (i : Nat) : (sg l i).ok:=by
 unfold sg
 cases hx : l[i]? with
 | none=>exact ⟨by decide,by decide⟩
 | some a =>
   show (sgl a).ok
   unfold sgl
   split
   · exact K81
   · have:=h.i a.g (by unfold gsOf;exact List.mem_map.2 ⟨a,List.mem_of_getElem? hx,rfl⟩)
     exact K173
theorem xsingle_any (l : List Bg) (i : Nat) (a : Bg) (hi : l[i]? = some a) (p : Option Addr) (n c B : Nat) (W : World) (hN : Nm W) (h : RdB B W (.slice p n c) l) (hm : n ≤ 10000000000) :
   Calls Tryz.prog 200 #[.slice p n c,.int .i64 (i : Int)] W fun e w'=>e = .returned (sgl a).dat ∧ Ext W w':=by
 have hn:=h.len
 have hlt : i < n:=by rw [hn];exact (List.getElem?_eq_some_iff.1 hi).1
 obtain ⟨b,off,lv,rfl,hb,hbW,⟨k0,k1,k2,k3⟩,hV⟩:=h.at hi
 obtain ⟨p',n',c',rfl,hn',hc'⟩:=hV.form
 have hltI : (i : Int) < (n : Int):=J2
 have hmI : (n : Int) ≤ 10000000000:=J2
 have HV : Hid (RdV B W (.slice p' n' c') a.g.l):=hV
 clear h hi hn hlt hb hV hc' hm
 have c2:=fun W h=>err_any 2 W h
 rw [mkErr_is ⟨by decide,by decide⟩] at c2
 simp only [V.dat] at c2
 cases har : a.g.area with
 | true =>
   have H : Hid (sgl a = .err 2):=by show _ = _;unfold sgl;rw [har];rfl
   rw [har] at k0
   clear har hn'
   go_enter func200,ntmps200
   go_wp2_with fail
   refine (c2 _ (hN.ext (xr.alloc _))).mono ?_
   rintro e w1 ⟨rfl,E1⟩
   obtain ⟨z,⟨b0,b1,b2,b3⟩,f0,f1,f2,f3⟩:=blk_top (b:=W.heap.size) J60 E1
   go_wp2_with fail
   exact fin4 b0 b1 b2 b3 rfl J60 ((xr.alloc _).trans E1) (fun W g0 g1 g2 g3=>by simp [results,results200,go_sem,g0,g1,g2,g3]) (fun W h=>⟨by rw [H.out];rfl,h⟩)
 | false =>
   have H : Hid (sgl a = one1 a.g.l):=by show _ = _;unfold sgl;rw [har];rfl
   rw [har] at k0
   clear har c2
   cases hl : a.g.l with
   | nil =>
     have H1 : Hid (sgl a = .blank):=by show _ = _;rw [H.out,hl];rfl
     have e0 : n' = 0:=by rw [hn',hl];rfl
     subst e0
     clear hl hn' H
     go_enter func200,ntmps200
     go_wp2_with fail
     simp [bodyPost,results,results200,go_sem]
     exact ⟨by rw [H1.out];rfl,xr.alloc _⟩
   | cons r t =>
     have H1 : Hid (sgl a = nm r.k r.n r.s r.e):=by show _ = _;rw [H.out,hl];rfl
     have hV:=HV.out
     rw [hl] at hV
     obtain ⟨b',off',r',rfl,hr,hb',hbW',j0,j1,j2,j3⟩:=hV.at (i:=0) J60
     simp at hr
     subst hr
     simp only [Nat.zero_mul,Nat.add_zero] at j0 j1 j2 j3
     have e1 : ((n' : Int) == 0) = false:=by simp;rw [hn',hl];simp
     have e2 : (0 : Int) < (n' : Int):=by rw [hn',hl];simp only [List.length_cons];omega
     have c0:=fun W h=>vnormal_any r.k r.n r.s r.e W h
     obtain ⟨q0,q1,q2,q3,hq⟩:=dat4 (nm r.k r.n r.s r.e)
     rw [hq] at c0
     have HQ : Hid ((nm r.k r.n r.s r.e).dat = .agg #[.int .i64 q0,.int .i64 q1,.string q2,.int .i64 q3]):=hq
     clear hq hV hl hn' HV H hb'
     go_enter func200,ntmps200
     go_wp2_with fail
     refine (c0 _ (hN.ext (xr.alloc _))).mono ?_
     rintro e w1 ⟨rfl,E1⟩
     obtain ⟨z,⟨b0,b1,b2,b3⟩,f0,f1,f2,f3⟩:=blk_top (b:=W.heap.size) J60 E1
     go_wp2_with fail
     exact fin4 b0 b1 b2 b3 rfl J60 ((xr.alloc _).trans E1) (fun W g0 g1 g2 g3=>by simp [results,results200,go_sem,g0,g1,g2,g3]) (fun W h=>⟨by rw [H1.out,HQ.out],h⟩)
def pan (x : Int) : Ending:=.panicked [{ v:=.iface 162 (.int .i64 x),recovered:=false }]
def RzQ {α : Type} (f : α → Value) (r : R α) (e : Ending) : Prop:=match r with
 | .ok v=>e = .returned (f v)
 | .error x=>e = pan x
theorem xmust_ok (k n : Int) (s : ByteArray) (e : Int) (hk : (k == 4) = false) (W : World) :
   Calls Tryz.prog 242 #[.agg #[.int .i64 k,.int .i64 n,.string s,.int .i64 e]] W fun r w'=>r = .returned (.agg #[.int .i64 k,.int .i64 n,.string s,.int .i64 e]) ∧ Ext W w':=by
 go_enter func242,ntmps242
 go_wp2_with fail
 simp [bodyPost,results,results242,go_sem]
 exact (xr.alloc _).alloc _
theorem xmust_no (k n : Int) (s : ByteArray) (e : Int) (hk : (k == 4) = true) (W : World) :
   Calls Tryz.prog 242 #[.agg #[.int .i64 k,.int .i64 n,.string s,.int .i64 e]] W fun r w'=>r = pan e ∧ Ext W w':=by
 go_enter func242,ntmps242
 go_wp2_with fail
 exact ⟨rfl,rfl,((xr.alloc _).alloc _)⟩
theorem nuR_ok {v : V} {n : Int} (h : v.toNum = .num n) : nuR v = .ok n:=by unfold nuR;rw [h];rfl
theorem nuR_no {v : V} {e : Int} (h : v.toNum = .err e) : nuR v = .error e:=by unfold nuR;rw [h]
theorem nuR_can {v : V} {n : Int} (hv : v.ok) (h : nuR v = .ok n) : I64 n ∧ canB n = true:=by
 rcases toNum_cases v hv with ⟨m,hm,h2⟩ | ⟨e,he,_⟩
 · rw [nuR_ok hm] at h;cases h;exact h2
 · rw [nuR_no he] at h;cases h
theorem toBool_cases (v : V) : (∃ b,v.toBool = .tf b) ∨ (∃ e,v.toBool = .err e):=by
 cases v with
 | blank=>exact .inl ⟨_,rfl⟩
 | tf b=>exact .inl ⟨_,rfl⟩
 | num n=>exact .inl ⟨_,rfl⟩
 | err e=>exact .inr ⟨_,rfl⟩
 | text s =>
   show (∃ b,(if s.data.toList = trueL then V.tf true else if s.data.toList = falseL then V.tf false else V.err 2) = .tf b) ∨ (∃ e,(if s.data.toList = trueL then V.tf true else if s.data.toList = falseL then V.tf false else V.err 2) = .err e)
   split
   · exact .inl ⟨_,rfl⟩
   · split
     · exact .inl ⟨_,rfl⟩
     · exact .inr ⟨_,rfl⟩
structure At (W : World) (v : Value) (l : List Bg) (i : Nat) (a : Bg) : Prop where
 f : FitB W v l
 n : Nm W
 a : l[i]? = some a
theorem At.ext {W W' : World} {v : Value} {l : List Bg} {i : Nat} {a : Bg} (h : At W v l i a) (e : Ext W W') : At W' v l i a:=⟨h.f.ext e,h.n.ext e,h.a⟩
theorem At.sg {W : World} {v : Value} {l : List Bg} {i : Nat} {a : Bg} (h : At W v l i a) : sg l i = sgl a:=by unfold Go.Proofs.YtcfgbiaahangmaaGreatDoor.sg;rw [h.a]
theorem At.ok {W : World} {v : Value} {l : List Bg} {i : Nat} {a : Bg} (h : At W v l i a) : (sgl a).ok:=by rw [← h.sg];exact h.f.ok i
theorem At.one {W : World} {p : Option Addr} {n c : Nat} {l : List Bg} {i : Nat} {a : Bg} (h : At W (.slice p n c) l i a) :
   Calls Tryz.prog 200 #[.slice p n c,.int .i64 (i : Int)] W fun e w'=>e = .returned (.agg #[.int .i64 (sgl a).k,.int .i64 (sgl a).n,.string (sgl a).s,.int .i64 (sgl a).e]) ∧ Ext W w':=by
 have:=xsingle_any l i a h.a p n c _ W h.n h.f.rd (by rw [h.f.rd.len];exact h.f.z)
 rwa [dat_eq] at this
theorem teR_ok {v : V} {s : ByteArray} (h : v.toText = .text s) : teR v = .ok s:=by unfold teR;rw [h];rfl
theorem teR_no {v : V} {e : Int} (h : v.toText = .err e) : teR v = .error e:=by unfold teR;rw [h]
theorem trR_ok {v : V} {b : Bool} (h : v.toBool = .tf b) : trR v = .ok b:=by unfold trR;rw [h];cases b <;> rfl
theorem trR_no {v : V} {e : Int} (h : v.toBool = .err e) : trR v = .error e:=by unfold trR;rw [h]
theorem fld_n (k n : Int) (s : ByteArray) (e : Int) (W : World) : (Instr.field 33 (.agg #[.int .i64 k,.int .i64 n,.string s,.int .i64 e]) 1).run Tryz.prog W = .ok (.int .i64 n) W:=J3
theorem fld_s (k n : Int) (s : ByteArray) (e : Int) (W : World) : (Instr.field 33 (.agg #[.int .i64 k,.int .i64 n,.string s,.int .i64 e]) 2).run Tryz.prog W = .ok (.string s) W:=J3
theorem fld_k (k n : Int) (s : ByteArray) (e : Int) (W : World) : (Instr.field 33 (.agg #[.int .i64 k,.int .i64 n,.string s,.int .i64 e]) 0).run Tryz.prog W = .ok (.int .i64 k) W:=J3
theorem xnumber_any (l : List Bg) (i : Nat) (a : Bg) (p : Option Addr) (n c : Nat) (W : World) (h : At W (.slice p n c) l i a) :
   Calls Tryz.prog 190 #[.slice p n c,.int .i64 (i : Int)] W fun e w'=>RzQ (Value.int .i64) (nuR (sgl a)) e ∧ Ext W w':=by
 have c0:=h.one
 have hok:=h.ok
 have c1:=fun W hN=>vtonum_any (sgl a).k (sgl a).n (sgl a).s (sgl a).e W (nm_of _ hok).2 hN
 rw [(nm_of _ hok).1] at c1
 have HN : Hid (Nm W):=h.n
 generalize sgl a = v at *
 clear h
 generalize v.k = k0,v.n = n0,v.s = s0,v.e = e0 at c0 c1
 rcases toNum_cases v hok with ⟨x,hx,_⟩ | ⟨x,hx,_⟩
 · rw [nuR_ok hx]
   rw [hx] at c1
   simp only [V.dat] at c1
   clear hok hx
   have c2:=fun W=>xmust_ok 2 x ⟨#[]⟩ 0 rfl W
   have hf:=fld_n
   go_enter func190,ntmps190
   go_wp2_with fail
   refine c0.mono ?_
   rintro e w1 ⟨rfl,E1⟩
   have X1 : Hid (Ext W w1):=E1
   clear E1
   go_wp2_with fail
   refine (c1 _ (HN.out.ext X1.out)).mono ?_
   exact K95
 · rw [nuR_no hx]
   rw [hx] at c1
   simp only [V.dat] at c1
   clear hok hx
   have c2:=fun W=>xmust_no 4 0 ⟨#[]⟩ x rfl W
   have hf:=fld_n
   go_enter func190,ntmps190
   exact K194
theorem xtext_any (l : List Bg) (i : Nat) (a : Bg) (p : Option Addr) (n c : Nat) (W : World) (h : At W (.slice p n c) l i a) (hT : Tab W) :
   Calls Tryz.prog 197 #[.slice p n c,.int .i64 (i : Int)] W fun e w'=>RzQ (Value.string) (teR (sgl a)) e ∧ Ext W w':=by
 have c0:=h.one
 have hok:=h.ok
 have c1:=fun W hN hT=>vtotext_any (sgl a).k (sgl a).n (sgl a).s (sgl a).e W (nm_of _ hok).2 hT hN
 rw [(nm_of _ hok).1] at c1
 have HN : Hid (Nm W ∧ Tab W):=⟨h.n,hT⟩
 generalize sgl a = v at *
 clear h
 generalize v.k = k0,v.n = n0,v.s = s0,v.e = e0 at c0 c1
 rcases toText_cases v hok with ⟨x,hx,_⟩ | ⟨x,hx,_⟩
 · rw [teR_ok hx]
   rw [hx] at c1
   simp only [V.dat] at c1
   clear hok hx hT
   have c2:=fun W=>xmust_ok 3 0 x 0 rfl W
   have hf:=fld_s
   go_enter func197,ntmps197
   go_wp2_with fail
   refine c0.mono ?_
   rintro e w1 ⟨rfl,E1⟩
   have X1 : Hid (Ext W w1):=E1
   clear E1
   go_wp2_with fail
   refine (c1 _ (HN.out.1.ext X1.out) (HN.out.2.ext X1.out)).mono ?_
   exact K95
 · rw [teR_no hx]
   rw [hx] at c1
   simp only [V.dat] at c1
   clear hok hx hT
   have c2:=fun W=>xmust_no 4 0 ⟨#[]⟩ x rfl W
   have hf:=fld_s
   go_enter func197,ntmps197
   go_wp2_with fail
   refine c0.mono ?_
   rintro e w1 ⟨rfl,E1⟩
   have X1 : Hid (Ext W w1):=E1
   clear E1
   go_wp2_with fail
   refine (c1 _ (HN.out.1.ext X1.out) (HN.out.2.ext X1.out)).mono ?_
   exact K66
theorem xtruth_any (l : List Bg) (i : Nat) (a : Bg) (p : Option Addr) (n c : Nat) (W : World) (h : At W (.slice p n c) l i a) :
   Calls Tryz.prog 188 #[.slice p n c,.int .i64 (i : Int)] W fun e w'=>RzQ (Value.bool) (trR (sgl a)) e ∧ Ext W w':=by
 have c0:=h.one
 have hok:=h.ok
 have c1:=fun W hN=>vtobool_any (sgl a).k (sgl a).n (sgl a).s (sgl a).e W (nm_of _ hok).2 hN
 rw [(nm_of _ hok).1] at c1
 have HN : Hid (Nm W):=h.n
 generalize sgl a = v at *
 clear h
 generalize v.k = k0,v.n = n0,v.s = s0,v.e = e0 at c0 c1
 rcases toBool_cases v with ⟨x,hx⟩ | ⟨x,hx⟩
 · rw [trR_ok hx]
   rw [hx] at c1
   simp only [V.dat] at c1
   clear hok hx
   obtain ⟨y,hy⟩ : ∃ y : Int,(if x = true then (1 : Int) else 0) = y:=⟨_,rfl⟩
   have HY : Hid (((if x = true then (1 : Int) else 0) != 0) = x ∧ (if x = true then (1 : Int) else 0) = y):=⟨by cases x <;> rfl,hy⟩
   rw [hy] at c1
   clear hy
   have c2:=fun W=>xmust_ok 1 y ⟨#[]⟩ 0 rfl W
   have hf:=fld_n
   go_enter func188,ntmps188
   go_wp2_with fail
   refine c0.mono ?_
   rintro e w1 ⟨rfl,E1⟩
   have X1 : Hid (Ext W w1):=E1
   clear E1
   go_wp2_with fail
   refine (c1 _ (HN.out.ext X1.out)).mono ?_
   rintro e w2 ⟨rfl,E2⟩
   have X2 : Hid (Ext W w2):=X1.out.trans E2
   clear E2
   go_wp2_with fail
   refine (c2 _).mono ?_
   rintro e w3 ⟨rfl,E3⟩
   go_wp2_with fail
   go_ret
   exact ⟨ret_bool (by rw [← HY.out.2];exact HY.out.1),X2.out.trans E3⟩
 · rw [trR_no hx]
   rw [hx] at c1
   simp only [V.dat] at c1
   clear hok hx
   have c2:=fun W=>xmust_no 4 0 ⟨#[]⟩ x rfl W
   have hf:=fld_n
   go_enter func188,ntmps188
   exact K194
theorem whole_div (n : Int) : (n.tmod 10000 < 0 → n.tdiv 10000 - 1 = whN n) ∧ (¬ n.tmod 10000 < 0 → n.tdiv 10000 = whN n):=by
 unfold whN
 by_cases h : 0 ≤ n
 · rw [Int.tmod_eq_emod_of_nonneg h,Int.tdiv_eq_ediv_of_nonneg h]
   constructor <;> omega
 · obtain ⟨m,rfl⟩ : ∃ m : Int,n = -m:=⟨-n,by omega⟩
   rw [Int.neg_tmod,Int.neg_tdiv,Int.tmod_eq_emod_of_nonneg J2,Int.tdiv_eq_ediv_of_nonneg J2]
   constructor <;> omega
theorem xwhole_any (l : List Bg) (i : Nat) (a : Bg) (p : Option Addr) (n c : Nat) (W : World) (h : At W (.slice p n c) l i a) :
   Calls Tryz.prog 193 #[.slice p n c,.int .i64 (i : Int)] W fun e w'=>RzQ (Value.int .i64) (whR (sgl a)) e ∧ Ext W w':=by
 have c0:=xnumber_any l i a p n c W h
 have hok:=h.ok
 generalize sgl a = v at *
 clear h
 rcases toNum_cases v hok with ⟨x,hx,hI,_⟩ | ⟨x,hx,_⟩
 · have e1 : whR v = .ok (whN x):=by unfold whR;rw [nuR_ok hx];rfl
   rw [e1]
   rw [nuR_ok hx] at c0
   have C : Calls Tryz.prog 190 #[.slice p n c,.int .i64 (i : Int)] W fun e w'=>e = .returned (.int .i64 x) ∧ Ext W w':=c0
   have hw:=whole_div x
   have hb : -1000000000000000 ≤ x.tdiv 10000 ∧ x.tdiv 10000 ≤ 1000000000000000:=by
     obtain ⟨i1,i2⟩:=hI
     have:=whole_div x
     unfold whN at this
     by_cases hm : x.tmod 10000 < 0
     · have:=this.1 hm;omega
     · have:=this.2 hm;omega
   obtain ⟨q,hq⟩ : ∃ q,x.tdiv 10000 = q:=⟨_,rfl⟩
   obtain ⟨m,hm⟩ : ∃ m,x.tmod 10000 = m:=⟨_,rfl⟩
   rw [hq,hm] at hw
   rw [hq] at hb
   obtain ⟨b1,b2⟩:=hb
   clear c0 e1 hok hx hI
   by_cases hlt : m < 0
   · have HW : Hid (q - 1 = whN x):=hw.1 hlt
     have WK : wrap64 (q - 1) = q - 1:=J67
     exact K115
   · have HW : Hid (q = whN x):=hw.2 hlt
     exact K115
 · have e1 : whR v = .error x:=by unfold whR;rw [nuR_no hx];rfl
   rw [e1]
   rw [nuR_no hx] at c0
   have C : Calls Tryz.prog 190 #[.slice p n c,.int .i64 (i : Int)] W fun e w'=>e = pan x ∧ Ext W w':=c0
   clear c0 e1 hok hx
   go_enter func193,ntmps193
   exact K174
theorem xwhole_one (l : List Bg) (i : Nat) (p : Option Addr) (n c : Nat) (W : World) (h : FitB W (.slice p n c) l) (hN : Nm W) :
   Calls Tryz.prog 249 #[.slice p n c,.int .i64 (i : Int)] W fun e w'=>RzQ (Value.int .i64) (whO l i) e ∧ Ext W w':=by
 have hn:=h.rd.len
 have hl:=h.z
 by_cases hlt : l.length ≤ i
 · have e1 : whO l i = .ok 1:=by unfold whO;rw [if_pos hlt]
   rw [e1]
   have d1 : (i : Int) ≥ (n : Int):=J2
   have d2 : (n : Int) ≤ 10000000000:=J2
   clear e1 hlt hn hl h
   go_enter func249,ntmps249
   go_wp2_with fail
   go_ret
   exact ⟨rfl,Ext.refl _⟩
 · have hx : l[i]? = some l[i]:=gEq J2
   have e1 : whO l i = whR (sgl l[i]):=by unfold whO;rw [if_neg hlt];unfold sg;rw [hx]
   rw [e1]
   have c0:=xwhole_any l i _ p n c W ⟨h,hN,hx⟩
   have d1 : ¬ (i : Int) ≥ (n : Int):=J2
   have d2 : (n : Int) ≤ 10000000000:=J2
   generalize whR (sgl l[i]) = r at *
   clear e1 hlt hn hl h hx
   cases r with
   | ok x =>
     have C : Calls Tryz.prog 193 #[.slice p n c,.int .i64 (i : Int)] W fun e w'=>e = .returned (.int .i64 x) ∧ Ext W w':=c0
     clear c0
     go_enter func249,ntmps249
     go_wp2_with fail
     refine C.mono ?_
     rintro e w1 ⟨rfl,E1⟩
     go_wp2_with fail
     go_ret
     exact ⟨rfl,E1⟩
   | error x =>
     have C : Calls Tryz.prog 193 #[.slice p n c,.int .i64 (i : Int)] W fun e w'=>e = pan x ∧ Ext W w':=c0
     clear c0
     go_enter func249,ntmps249
     exact K174
theorem xtold_no (n : Int) (W : World) : Calls Tryz.prog 191 #[.int .i64 n,.bool false] W fun e w'=>e = pan 4 ∧ Ext W w':=by
 go_enter func191,ntmps191
 go_wp2_with fail
 exact ⟨rfl,rfl,xr.alloc _⟩
theorem xtold_ok (n : Int) (W : World) (hN : Nm W) : Calls Tryz.prog 191 #[.int .i64 n,.bool true] W fun e w'=>e = .returned (.agg #[.int .i64 (mkNum n).k,.int .i64 (mkNum n).n,.string (mkNum n).s,.int .i64 (mkNum n).e]) ∧ Ext W w':=by
 have c1:=fun W h=>vnum_any n W h
 rw [dat_eq] at c1
 generalize (mkNum n).k = q0,(mkNum n).n = q1,(mkNum n).s = q2,(mkNum n).e = q3 at *
 go_enter func191,ntmps191
 go_wp2_with fail
 refine (c1 _ (hN.ext (xr.alloc _))).mono ?_
 rintro e w1 ⟨rfl,E1⟩
 obtain ⟨z,⟨b0,b1,b2,b3⟩,f0,f1,f2,f3⟩:=blk_top (b:=W.heap.size) J60 E1
 go_wp2_with fail
 exact fin4 b0 b1 b2 b3 rfl J60 ((xr.alloc _).trans E1) (fun W g0 g1 g2 g3=>by simp [results,results191,go_sem,g0,g1,g2,g3]) (fun W h=>⟨rfl,h⟩)
theorem xsize_any (n : Int) (hn : I64 n) (hc : canB n = true) (W : World) : Calls Tryz.prog 189 #[.int .i64 n] W fun e w'=>e = .returned (.int .i64 (szN n)) ∧ w' = W:=by
 obtain ⟨h1,h2⟩:=hn
 have h3 : n ≠ -9223372036854775808:=by simpa [canB] using hc
 have WK : wrap64 (-n) = -n:=J67
 have HZ : Hid (szN n = max n (-n)):=by show _ = _;unfold szN;split <;> omega
 clear hc
 go_enter func189,ntmps189
 go_wp2_with fail
 go_ret
 exact ⟨ret_int HZ.out.symm,rfl⟩
def Rw.dat (r : Rw) : Value:=.agg #[.int .i64 r.k,.int .i64 r.n,.string r.s,.int .i64 r.e]
theorem sg_of {l : List Bg} {i : Nat} {a : Bg} (h : l[i]? = some a) : sg l i = sgl a:=by unfold sg;rw [h]
theorem xnumber_ok {l : List Bg} {i : Nat} {a : Bg} {p : Option Addr} {n c : Nat} {W : World} (hF : FitB W (.slice p n c) l) (hN : Nm W) (ha : l[i]? = some a) {x : Int} (hx : nuR (sgl a) = .ok x) (W' : World) (e : Ext W W') :
   Calls Tryz.prog 190 #[.slice p n c,.int .i64 (i : Int)] W' fun e w'=>e = .returned (.int .i64 x) ∧ Ext W' w':=by
 have:=xnumber_any l i a p n c W' ⟨hF.ext e,hN.ext e,ha⟩
 exact K125
theorem xnumber_no {l : List Bg} {i : Nat} {a : Bg} {p : Option Addr} {n c : Nat} {W : World} (hF : FitB W (.slice p n c) l) (hN : Nm W) (ha : l[i]? = some a) {x : Int} (hx : nuR (sgl a) = .error x) (W' : World) (e : Ext W W') :
   Calls Tryz.prog 190 #[.slice p n c,.int .i64 (i : Int)] W' fun e w'=>e = pan x ∧ Ext W' w':=by
 have:=xnumber_any l i a p n c W' ⟨hF.ext e,hN.ext e,ha⟩
 exact K125
theorem xtruth_ok {l : List Bg} {i : Nat} {a : Bg} {p : Option Addr} {n c : Nat} {W : World} (hF : FitB W (.slice p n c) l) (hN : Nm W) (ha : l[i]? = some a) {x : Bool} (hx : trR (sgl a) = .ok x) (W' : World) (e : Ext W W') :
   Calls Tryz.prog 188 #[.slice p n c,.int .i64 (i : Int)] W' fun e w'=>e = .returned (.bool x) ∧ Ext W' w':=by
 have:=xtruth_any l i a p n c W' ⟨hF.ext e,hN.ext e,ha⟩
 exact K125
theorem xtruth_no {l : List Bg} {i : Nat} {a : Bg} {p : Option Addr} {n c : Nat} {W : World} (hF : FitB W (.slice p n c) l) (hN : Nm W) (ha : l[i]? = some a) {x : Int} (hx : trR (sgl a) = .error x) (W' : World) (e : Ext W W') :
   Calls Tryz.prog 188 #[.slice p n c,.int .i64 (i : Int)] W' fun e w'=>e = pan x ∧ Ext W' w':=by
 have:=xtruth_any l i a p n c W' ⟨hF.ext e,hN.ext e,ha⟩
 exact K125
theorem xwhole_ok {l : List Bg} {i : Nat} {a : Bg} {p : Option Addr} {n c : Nat} {W : World} (hF : FitB W (.slice p n c) l) (hN : Nm W) (ha : l[i]? = some a) {x : Int} (hx : whR (sgl a) = .ok x) (W' : World) (e : Ext W W') :
   Calls Tryz.prog 193 #[.slice p n c,.int .i64 (i : Int)] W' fun e w'=>e = .returned (.int .i64 x) ∧ Ext W' w':=by
 have:=xwhole_any l i a p n c W' ⟨hF.ext e,hN.ext e,ha⟩
 exact K125
theorem xwhole_no {l : List Bg} {i : Nat} {a : Bg} {p : Option Addr} {n c : Nat} {W : World} (hF : FitB W (.slice p n c) l) (hN : Nm W) (ha : l[i]? = some a) {x : Int} (hx : whR (sgl a) = .error x) (W' : World) (e : Ext W W') :
   Calls Tryz.prog 193 #[.slice p n c,.int .i64 (i : Int)] W' fun e w'=>e = pan x ∧ Ext W' w':=by
 have:=xwhole_any l i a p n c W' ⟨hF.ext e,hN.ext e,ha⟩
 exact K125
theorem xtext_ok {l : List Bg} {i : Nat} {a : Bg} {p : Option Addr} {n c : Nat} {W : World} (hF : FitB W (.slice p n c) l) (hN : Nm W) (hT : Tab W) (ha : l[i]? = some a) {x : ByteArray} (hx : teR (sgl a) = .ok x) (W' : World) (e : Ext W W') :
   Calls Tryz.prog 197 #[.slice p n c,.int .i64 (i : Int)] W' fun e w'=>e = .returned (.string x) ∧ Ext W' w':=by
 exact K203
theorem xtext_no {l : List Bg} {i : Nat} {a : Bg} {p : Option Addr} {n c : Nat} {W : World} (hF : FitB W (.slice p n c) l) (hN : Nm W) (hT : Tab W) (ha : l[i]? = some a) {x : Int} (hx : teR (sgl a) = .error x) (W' : World) (e : Ext W W') :
   Calls Tryz.prog 197 #[.slice p n c,.int .i64 (i : Int)] W' fun e w'=>e = pan x ∧ Ext W' w':=by
 exact K203
theorem xone_ok {l : List Bg} {i : Nat} {p : Option Addr} {n c : Nat} {W : World} (hF : FitB W (.slice p n c) l) (hN : Nm W) {x : Int} (hx : whO l i = .ok x) (W' : World) (e : Ext W W') :
   Calls Tryz.prog 249 #[.slice p n c,.int .i64 (i : Int)] W' fun e w'=>e = .returned (.int .i64 x) ∧ Ext W' w':=by
 have:=xwhole_one l i p n c W' (hF.ext e) (hN.ext e)
 exact K125
theorem xone_no {l : List Bg} {i : Nat} {p : Option Addr} {n c : Nat} {W : World} (hF : FitB W (.slice p n c) l) (hN : Nm W) {x : Int} (hx : whO l i = .error x) (W' : World) (e : Ext W W') :
   Calls Tryz.prog 249 #[.slice p n c,.int .i64 (i : Int)] W' fun e w'=>e = pan x ∧ Ext W' w':=by
 have:=xwhole_one l i p n c W' (hF.ext e) (hN.ext e)
 exact K125
theorem xsingle_at {l : List Bg} {i : Nat} {a : Bg} {p : Option Addr} {n c : Nat} {W : World} (hF : FitB W (.slice p n c) l) (hN : Nm W) (ha : l[i]? = some a) (W' : World) (e : Ext W W') :
   Calls Tryz.prog 200 #[.slice p n c,.int .i64 (i : Int)] W' fun e w'=>e = .returned (.agg #[.int .i64 (sgl a).k,.int .i64 (sgl a).n,.string (sgl a).s,.int .i64 (sgl a).e]) ∧ Ext W' w':=At.one ⟨hF.ext e,hN.ext e,ha⟩
theorem bool_at (b : Bool) {W : World} (W' : World) (_ : Ext W W') : Calls Tryz.prog 67 #[.bool b] W' fun r w'=>r = .returned (.agg #[.int .i64 1,.int .i64 (if b then 1 else 0),.string ⟨#[]⟩,.int .i64 0]) ∧ Ext W' w':=vbool_any b W'
theorem xchosen_any (l : List Bg) (a0 a1 : Bg) (h0 : l[0]? = some a0) (h1 : l[1]? = some a1) (p : Option Addr) (n c : Nat) (W : World) (hF : FitB W (.slice p n c) l) (hN : Nm W) :
   Calls Tryz.prog 187 #[.slice p n c] W fun e w'=>RzQ Rw.dat (xIf l) e ∧ Ext W w':=by
 have hn:=hF.rd.len
 have hm:=hF.z
 have d2 : (n : Int) ≤ 10000000000:=J2
 cases ht : trR (sgl a0) with
 | error x =>
   have HX : xIf l = .error x:=by unfold xIf;rw [sg_of h0,ht]
   rw [HX]
   have c0:=xtruth_no hF hN h0 ht
   clear hn hm HX ht
   go_enter func187,ntmps187
   exact K28
 | ok t =>
   have c0:=xtruth_ok hF hN h0 ht
   cases t with
   | true =>
     have HX : xIf l = .ok (sgl a1).rw:=by unfold xIf;rw [sg_of h0,sg_of h1,ht];rfl
     rw [HX]
     have c1:=xsingle_at hF hN h1
     clear hn hm HX ht
     exact K22
   | false =>
     by_cases h3 : l.length < 3
     · have HX : xIf l = .ok (V.tf false).rw:=by unfold xIf;rw [sg_of h0,ht];simp [h3]
       rw [HX]
       have d1 : (n : Int) < 3:=J2
       have c1 : ∀ W',Ext W W' → Calls Tryz.prog 67 #[.bool false] W' fun r w'=>r = .returned (.agg #[.int .i64 1,.int .i64 0,.string ⟨#[]⟩,.int .i64 0]) ∧ Ext W' w':=fun W' e=>bool_at (W:=W) false W' e
       clear hn hm HX ht h3
       exact K22
     · have hx2 : l[2]? = some l[2]:=gEq J2
       have HX : xIf l = .ok (sgl l[2]).rw:=by unfold xIf;rw [sg_of h0,sg_of hx2,ht];simp [h3]
       rw [HX]
       have d1 : ¬ (n : Int) < 3:=J2
       have c1:=xsingle_at hF hN hx2
       generalize sgl l[2] = v2 at *
       clear hn hm HX ht h3 hx2
       exact K22
theorem xsound_any (l : List Bg) (a0 a1 : Bg) (h0 : l[0]? = some a0) (h1 : l[1]? = some a1) (p : Option Addr) (n c : Nat) (W : World) (hF : FitB W (.slice p n c) l) (hN : Nm W) :
   Calls Tryz.prog 201 #[.slice p n c] W fun e w'=>RzQ Rw.dat (xIfErr l) e ∧ Ext W w':=by
 have c0:=xsingle_at hF hN h0
 have c1:=xsingle_at hF hN h1
 have HX : xIfErr l = if (sgl a0).k = 4 then .ok (sgl a1).rw else .ok (sgl a0).rw:=by unfold xIfErr;rw [sg_of h0,sg_of h1]
 rw [HX]
 clear HX
 generalize sgl a0 = v0 at *
 generalize sgl a1 = v1 at *
 by_cases hk : v0.k = 4
 · rw [if_pos hk]
   have e0 : (v0.k != 4) = false:=by simp [hk]
   clear hk
   go_enter func201,ntmps201
   go_wp2_with fail
   refine (c0 _ (xr.alloc _)).mono ?_
   rintro e w1 ⟨rfl,E1⟩
   have B1 : Hid (Blk w1 W.heap.size (.int .i64 0) (.int .i64 0) (.string ⟨#[]⟩) (.int .i64 0) ∧ Ext W w1):=⟨blk_top J60 E1,(xr.alloc _).trans E1⟩
   clear E1
   go_wp2_with fail
   refine (c1 _ (B1.out.2.alloc _)).mono ?_
   rintro e w2 ⟨rfl,E2⟩
   have B2 : Hid (Blk w2 W.heap.size (.int .i64 0) (.int .i64 0) (.string ⟨#[]⟩) (.int .i64 0) ∧ Ext W w2):=⟨(B1.out.1.al _).ext E2,(B1.out.2.alloc _).trans E2⟩
   clear E2
   obtain ⟨z,⟨b0,b1,b2,b3⟩,f0,f1,f2,f3⟩:=B2.out.1
   go_wp2_with fail
   exact fin4 b0 b1 b2 b3 rfl J60 B2.out.2 (fun W g0 g1 g2 g3=>by simp [results,results201,go_sem,g0,g1,g2,g3]) (fun W h=>⟨rfl,h⟩)
 · rw [if_neg hk]
   have e0 : (v0.k != 4) = true:=by simp [hk]
   clear hk
   go_enter func201,ntmps201
   go_wp2_with fail
   refine (c0 _ (xr.alloc _)).mono ?_
   rintro e w1 ⟨rfl,E1⟩
   have B1 : Hid (Blk w1 W.heap.size (.int .i64 0) (.int .i64 0) (.string ⟨#[]⟩) (.int .i64 0) ∧ Ext W w1):=⟨blk_top J60 E1,(xr.alloc _).trans E1⟩
   clear E1
   obtain ⟨z,⟨b0,b1,b2,b3⟩,f0,f1,f2,f3⟩:=B1.out.1
   go_wp2_with fail
   have X2 : Ext W (((((w1.setCell ⟨W.heap.size,0,none⟩ (.int .i64 v0.k)).setCell ⟨W.heap.size,1,none⟩ (.int .i64 v0.n)).setCell ⟨W.heap.size,2,none⟩ (.string v0.s)).setCell ⟨W.heap.size,3,none⟩ (.int .i64 v0.e)).alloc (.cells #[.int .i64 v0.k,.int .i64 v0.n,.string v0.s,.int .i64 v0.e] 33)):=((((B1.out.2.setCell nrf _).setCell nrf _).setCell nrf _).setCell nrf _).alloc _
   exact finB (b:=W.heap.size) (w:=W) ((B1.out.1.set _ _ _ _).al _) rfl X2 (fun g0 g1 g2 g3=>by simp [results,results201,go_sem,g0,g1,g2,g3]) (fun h=>⟨rfl,h⟩)
theorem mod_at (a b : Int) (ha : I64 a) (hb : I64 b) {W : World} (W' : World) (_ : Ext W W') : Calls Tryz.prog 246 #[.int .i64 a,.int .i64 b] W' fun e w'=>e = .returned (.tuple #[.int .i64 (modV a b),.bool (modB a b)]) ∧ Ext W' w':=mod_any a b ha hb W'
theorem told_no (n : Int) {W : World} (W' : World) (_ : Ext W W') : Calls Tryz.prog 191 #[.int .i64 n,.bool false] W' fun e w'=>e = pan 4 ∧ Ext W' w':=xtold_no n W'
theorem told_ok (n : Int) {W : World} (hN : Nm W) (W' : World) (e : Ext W W') : Calls Tryz.prog 191 #[.int .i64 n,.bool true] W' fun e w'=>e = .returned (.agg #[.int .i64 (mkNum n).k,.int .i64 (mkNum n).n,.string (mkNum n).s,.int .i64 (mkNum n).e]) ∧ Ext W' w':=xtold_ok n W' (hN.ext e)
theorem xrest_any (l : List Bg) (a0 a1 : Bg) (h0 : l[0]? = some a0) (h1 : l[1]? = some a1) (p : Option Addr) (n c : Nat) (W : World) (hF : FitB W (.slice p n c) l) (hN : Nm W) :
   Calls Tryz.prog 194 #[.slice p n c] W fun e w'=>RzQ Rw.dat (xMod l) e ∧ Ext W w':=by
 have o0:=(At.mk hF hN h0).ok
 have o1:=(At.mk hF hN h1).ok
 cases ht : nuR (sgl a0) with
 | error x =>
   have HX : xMod l = .error x:=by unfold xMod;rw [sg_of h0,ht]
   rw [HX]
   have c0:=xnumber_no hF hN h0 ht
   clear HX ht
   go_enter func194,ntmps194
   exact K28
 | ok a =>
   have ia:=nuR_can o0 ht
   have c0:=xnumber_ok hF hN h0 ht
   cases hu : nuR (sgl a1) with
   | error x =>
     have HX : xMod l = .error x:=by unfold xMod;rw [sg_of h0,ht,sg_of h1,hu]
     rw [HX]
     have c1:=xnumber_no hF hN h1 hu
     clear HX ht hu ia
     go_enter func194,ntmps194
     exact K38
   | ok b =>
     have ib:=nuR_can o1 hu
     have c1:=xnumber_ok hF hN h1 hu
     have HX : xMod l = if b = 0 then .error 3 else (tolR (modB a b) (modV a b)).map V.rw:=by unfold xMod;rw [sg_of h0,ht,sg_of h1,hu]
     rw [HX]
     clear HX ht hu
     by_cases hb : b = 0
     · subst hb
       rw [if_pos rfl]
       clear ia ib
       go_enter func194,ntmps194
       exact K71
     · rw [if_neg hb]
       have e0 : (b == 0) = false:=by simp [hb]
       have c2:=mod_at a b ia.1 ib.1 (W:=W)
       clear ia ib hb
       generalize modV a b = y at *
       cases hB : modB a b with
       | false =>
         rw [hB] at c2
         have c3:=told_no y (W:=W)
         clear hB
         rw [show (tolR false y).map V.rw = .error 4 from rfl]
         go_enter func194,ntmps194
         exact K32
       | true =>
         rw [hB] at c2
         have c3:=told_ok y hN
         clear hB
         rw [show (tolR true y).map V.rw = .ok (mkNum y).rw from rfl]
         generalize mkNum y = v at *
         go_enter func194,ntmps194
         go_wp2_with fail
         refine (c0 _ (xr.alloc _)).mono ?_
         rintro e w1 ⟨rfl,E1⟩
         have B1 : Hid (Blk w1 W.heap.size (.int .i64 0) (.int .i64 0) (.string ⟨#[]⟩) (.int .i64 0) ∧ Ext W w1):=⟨blk_top J60 E1,(xr.alloc _).trans E1⟩
         clear E1
         go_wp2_with fail
         refine (c1 _ B1.out.2).mono ?_
         rintro e w2 ⟨rfl,E2⟩
         have B2 : Hid (Blk w2 W.heap.size (.int .i64 0) (.int .i64 0) (.string ⟨#[]⟩) (.int .i64 0) ∧ Ext W w2):=⟨B1.out.1.ext E2,B1.out.2.trans E2⟩
         clear E2
         go_wp2_with fail
         refine (c2 _ B2.out.2).mono ?_
         rintro e w3 ⟨rfl,E3⟩
         have B3 : Hid (Blk w3 W.heap.size (.int .i64 0) (.int .i64 0) (.string ⟨#[]⟩) (.int .i64 0) ∧ Ext W w3):=⟨B2.out.1.ext E3,B2.out.2.trans E3⟩
         clear E3
         go_wp2_with fail
         refine (c3 _ B3.out.2).mono ?_
         rintro e w4 ⟨rfl,E4⟩
         have B4 : Hid (Blk w4 W.heap.size (.int .i64 0) (.int .i64 0) (.string ⟨#[]⟩) (.int .i64 0) ∧ Ext W w4):=⟨B3.out.1.ext E4,B3.out.2.trans E4⟩
         clear E4
         obtain ⟨z,⟨b0,b1,b2,b3⟩,f0,f1,f2,f3⟩:=B4.out.1
         go_wp2_with fail
         exact fin4 b0 b1 b2 b3 rfl J60 B4.out.2 (fun W g0 g1 g2 g3=>by simp [results,results194,go_sem,g0,g1,g2,g3]) (fun W h=>⟨rfl,h⟩)
theorem text_at (s : ByteArray) {W : World} (hN : Nm W) (W' : World) (e : Ext W W') : Calls Tryz.prog 66 #[.string s] W' fun r w'=>r = .returned (.agg #[.int .i64 (mkText s).k,.int .i64 (mkText s).n,.string (mkText s).s,.int .i64 (mkText s).e]) ∧ Ext W' w':=by
 have:=vtext_any s W' (hN.ext e)
 rwa [dat_eq] at this
theorem teR_le {v : V} {s : ByteArray} (hv : v.ok) (h : teR v = .ok s) : s.size ≤ 300:=by
 rcases toText_cases v hv with ⟨m,hm,h2⟩ | ⟨e,he,_⟩
 · rw [teR_ok hm] at h;cases h;exact h2
 · rw [teR_no he] at h;cases h
theorem xleft_any (l : List Bg) (a0 : Bg) (h0 : l[0]? = some a0) (p : Option Addr) (n c : Nat) (W : World) (hF : FitB W (.slice p n c) l) (hN : Nm W) (hT : Tab W) :
   Calls Tryz.prog 198 #[.slice p n c] W fun e w'=>RzQ Rw.dat (xLeft l) e ∧ Ext W w':=by
 have o0:=(At.mk hF hN h0).ok
 cases ht : teR (sgl a0) with
 | error x =>
   have HX : xLeft l = .error x:=by unfold xLeft;rw [sg_of h0,ht]
   rw [HX]
   have c0:=xtext_no hF hN hT h0 ht
   clear HX ht
   go_enter func198,ntmps198
   exact K28
 | ok s =>
   have hs:=teR_le o0 ht
   have c0:=xtext_ok hF hN hT h0 ht
   cases hu : whO l 1 with
   | error x =>
     have HX : xLeft l = .error x:=by unfold xLeft;rw [sg_of h0,ht,hu]
     rw [HX]
     have c1:=xone_no hF hN hu
     clear HX ht hu
     go_enter func198,ntmps198
     exact K38
   | ok q =>
     have c1:=xone_ok hF hN hu
     have HX : xLeft l = if q < 0 then .error 2 else .ok (mkText (begB s q)).rw:=by unfold xLeft;rw [sg_of h0,ht,hu]
     rw [HX]
     clear HX ht hu
     by_cases hq : q < 0
     · rw [if_pos hq]
       go_enter func198,ntmps198
       exact K71
     · rw [if_neg hq]
       have hsI : (s.size : Int) ≤ 300:=J2
       obtain ⟨m,hm⟩ : ∃ m : Nat,min q (s.size : Int) = (m : Int):=⟨(min q (s.size : Int)).toNat,by omega⟩
       have hms : m ≤ s.size:=J2
       have HB : Hid (begB s q = s.extract 0 m):=by show _ = _;unfold begB;rw [hm];rfl
       have c2:=text_at (s.extract 0 m) hN
       rw [HB.out]
       generalize mkText (s.extract 0 m) = v at *
       clear hs
       go_enter func198,ntmps198
       go_wp2_with fail
       refine (c0 _ (xr.alloc _)).mono ?_
       rintro e w1 ⟨rfl,E1⟩
       have B1 : Hid (Blk w1 W.heap.size (.int .i64 0) (.int .i64 0) (.string ⟨#[]⟩) (.int .i64 0) ∧ Ext W w1):=⟨blk_top J60 E1,(xr.alloc _).trans E1⟩
       clear E1
       go_wp2_with fail
       refine (c1 _ B1.out.2).mono ?_
       rintro e w2 ⟨rfl,E2⟩
       have B2 : Hid (Blk w2 W.heap.size (.int .i64 0) (.int .i64 0) (.string ⟨#[]⟩) (.int .i64 0) ∧ Ext W w2):=⟨B1.out.1.ext E2,B1.out.2.trans E2⟩
       clear E2
       go_wp2_with fail
       refine (c2 _ B2.out.2).mono ?_
       rintro e w3 ⟨rfl,E3⟩
       have B3 : Hid (Blk w3 W.heap.size (.int .i64 0) (.int .i64 0) (.string ⟨#[]⟩) (.int .i64 0) ∧ Ext W w3):=⟨B2.out.1.ext E3,B2.out.2.trans E3⟩
       clear E3
       obtain ⟨z,⟨b0,b1,b2,b3⟩,f0,f1,f2,f3⟩:=B3.out.1
       go_wp2_with fail
       exact fin4 b0 b1 b2 b3 rfl J60 B3.out.2 (fun W g0 g1 g2 g3=>by simp [results,results198,go_sem,g0,g1,g2,g3]) (fun W h=>⟨rfl,h⟩)
def ArQ (W : World) (b : Bg) (e : Ending) (w' : World) : Prop:=∃ p' n' c',e = .returned (.agg #[.bool true,.int .i64 b.rows,.int .i64 b.cols,.slice p' n' c']) ∧ RdV w'.heap.size w' (.slice p' n' c') b.g.l ∧ Ext W w'
theorem rd_to {W W' : World} {v : Value} {l : List Rw} (h : RdV W.heap.size W v l) (e : Ext W W') : RdV W'.heap.size W' v l:=(h.low e).up e.size
theorem one_rd {W w' : World} {v : V} {T : TypeId} {b : Nat} (hb : b = W.heap.size) (E : Ext (W.alloc (.cells #[.int .i64 v.k,.int .i64 v.n,.string v.s,.int .i64 v.e] T)) w') : RdV w'.heap.size w' (.slice (some ⟨b,0,none⟩) 1 1) [v.rw]:=by
 obtain ⟨z,⟨k0,k1,k2,k3⟩,_⟩:=blk_top (b:=b) hb E
 refine ⟨_,_,rfl,Nat.le_refl _,.inr ⟨b,0,rfl,z,z,fun i r hr=>?_⟩⟩
 match i,hr with
 | 0,hr=>simp at hr;subst hr;exact ⟨k0,k1,k2,k3⟩
theorem xarea_any (l : List Bg) (i : Nat) (a : Bg) (ha : l[i]? = some a) (p : Option Addr) (n c : Nat) (W : World) (hF : FitB W (.slice p n c) l) (hN : Nm W) :
   Calls Tryz.prog 250 #[.slice p n c,.int .i64 (i : Int)] W (ArQ W (arOf a)):=by
 have hn:=hF.rd.len
 have hm:=hF.z
 have hlt : i < l.length:=(List.getElem?_eq_some_iff.1 ha).1
 have d1 : (i : Int) < (n : Int):=J2
 have d2 : (n : Int) ≤ 10000000000:=J2
 have c0:=xsingle_at hF hN ha
 have HF : Hid (FitB W (.slice p n c) l):=hF
 obtain ⟨b,off,lv,rfl,hb,hbW,⟨k0,k1,k2,k3⟩,hV⟩:=hF.rd.at ha
 obtain ⟨p',n',c',rfl,hn',hc'⟩:=hV.form
 have HV : Hid (RdV W.heap.size W (.slice p' n' c') a.g.l):=hV
 clear hF hn hm hlt hV hn' hc' hb
 cases har : a.g.area with
 | true =>
   have HX : arOf a = a:=by unfold arOf;rw [har];rfl
   rw [har] at k0
   rw [HX]
   clear HX har c0
   go_enter func250,ntmps250
   go_wp2_with fail
   simp [bodyPost,results,results250,go_sem]
   exact ⟨p',n',c',rfl,rd_to HV.out (xr.alloc _),xr.alloc _⟩
 | false =>
   have HX : arOf a = ⟨⟨true,[(sgl a).rw]⟩,1,1⟩:=by unfold arOf;rw [har];rfl
   rw [har] at k0
   rw [HX]
   generalize sgl a = v at *
   clear HX har
   go_enter func250,ntmps250
   go_wp2_with fail
   refine (c0 _ (xr.alloc _)).mono ?_
   rintro e w1 ⟨rfl,E1⟩
   have B1:=blk_top (b:=W.heap.size) J60 E1
   have HB : Hid (Blk w1 W.heap.size (.bool false) (.int .i64 0) (.int .i64 0) (.slice none 0 0) ∧ Ext W w1):=⟨B1,(xr.alloc _).trans E1⟩
   obtain ⟨z,⟨b0,b1,b2,b3⟩,f0,f1,f2,f3⟩:=B1
   clear E1 c0 k0 k1 k2 k3 HV hbW
   go_wp2_with fail
   have X2 : Ext W (((((w1.setCell ⟨W.heap.size,0,none⟩ (.bool true)).setCell ⟨W.heap.size,1,none⟩ (.int .i64 1)).setCell ⟨W.heap.size,2,none⟩ (.int .i64 1)).setCell ⟨W.heap.size,3,none⟩ (.slice (some ⟨w1.heap.size,0,none⟩) 1 1)).alloc (.cells #[.int .i64 v.k,.int .i64 v.n,.string v.s,.int .i64 v.e] 33)):=((((HB.out.2.setCell nrf _).setCell nrf _).setCell nrf _).setCell nrf _).alloc _
   exact finB (b:=W.heap.size) (w:=W) ((HB.out.1.set _ _ _ _).al _) rfl X2 (fun g0 g1 g2 g3=>by simp [results,results250,go_sem,g0,g1,g2,g3]) (fun h=>⟨_,_,_,rfl,one_rd J60 xr,h⟩)
theorem xarea_at {l : List Bg} {i : Nat} {a : Bg} {p : Option Addr} {n c : Nat} {W : World} (hF : FitB W (.slice p n c) l) (hN : Nm W) (ha : l[i]? = some a) (W' : World) (e : Ext W W') :
   Calls Tryz.prog 250 #[.slice p n c,.int .i64 (i : Int)] W' (ArQ W' (arOf a)):=xarea_any l i a ha p n c W' (hF.ext e) (hN.ext e)
theorem whR_bd {v : V} {x : Int} (hv : v.ok) (h : whR v = .ok x) : -1000000000000000 ≤ x ∧ x ≤ 1000000000000000:=by
 unfold whR at h
 cases hn : nuR v with
 | error e=>rw [hn] at h;cases h
 | ok n =>
   rw [hn] at h
   obtain ⟨⟨h1,h2⟩,_⟩:=nuR_can hv hn
   cases h
   unfold whN
   omega
theorem xpicked_any (l : List Bg) (a0 a1 : Bg) (h0 : l[0]? = some a0) (h1 : l[1]? = some a1) (p : Option Addr) (n c : Nat) (W : World) (hF : FitB W (.slice p n c) l) (hN : Nm W) :
   Calls Tryz.prog 199 #[.slice p n c] W fun e w'=>RzQ Rw.dat (xIndex l) e ∧ Ext W w':=by
 have o1:=(At.mk hF hN h1).ok
 cases ht : whR (sgl a1) with
 | error x =>
   have HX : xIndex l = .error x:=by unfold xIndex;rw [sg_of h1,ht]
   rw [HX]
   have c0:=xwhole_no hF hN h1 ht
   clear HX ht
   go_enter func199,ntmps199
   exact K28
 | ok row =>
   have c0:=xwhole_ok hF hN h1 ht
   have br:=whR_bd o1 ht
   cases hu : whO l 2 with
   | error x =>
     have HX : xIndex l = .error x:=by unfold xIndex;rw [sg_of h1,ht,hu]
     rw [HX]
     have c1:=xone_no hF hN hu
     clear HX ht hu
     go_enter func199,ntmps199
     go_wp2_with fail
     refine (c0 _ (xr.alloc _)).mono ?_
     rintro e w1 ⟨rfl,E1⟩
     have B1 : Hid (Ext W w1):=(xr.alloc _).trans E1
     clear E1
     go_wp2_with fail
     refine (c1 _ B1.out).mono ?_
     rintro e w2 ⟨rfl,E2⟩
     exact ⟨rfl,rfl,B1.out.trans E2⟩
   | ok col =>
     have c1:=xone_ok hF hN hu
     have bc : -1000000000000000 ≤ col ∧ col ≤ 1000000000000000:=by
       unfold whO at hu
       split at hu
       · cases hu;omega
       · exact whR_bd (hF.ok 2) hu
     have c2:=xarea_at hF hN h0
     have HX : xIndex l = pkR (arOf a0) row col:=by unfold xIndex;rw [sg_of h1,ht,hu,h0]
     rw [HX]
     have hR:=hF.r a0 (List.mem_of_getElem? h0)
     have hL : (arOf a0).g.l.length ≤ 10000000000 ∧ I64 (arOf a0).rows ∧ I64 (arOf a0).cols:=by
       unfold arOf
       split
       · rename_i har
         refine ⟨?_,hR⟩
         have h3:=seen_le (l:=gsOf l) (j:=0) (a:=a0.g) (by unfold gsOf;rw [List.getElem?_map,h0];rfl)
         have h4 : (seen1 a0.g).length = a0.g.l.length:=by unfold seen1;rw [if_pos har];simp
         have:=hF.s
         omega
       · refine ⟨?_,⟨?_,?_⟩,⟨?_,?_⟩⟩ <;> simp
     generalize arOf a0 = b at *
     obtain ⟨⟨ar,bl⟩,R,C⟩:=b
     simp only [] at hL HX
     obtain ⟨hL,⟨r1,r2⟩,⟨s1,s2⟩⟩:=hL
     have HP : pkR ⟨⟨ar,bl⟩,R,C⟩ row col = if row < 1 ∨ row > R ∨ col < 1 ∨ col > C ∨ col > (bl.length : Int) then .error 1 else if row - 1 > ((bl.length : Int) - col) / C then .error 1 else match bl[((row - 1) * C + col - 1).toNat]? with | some r=>.ok r | none=>.error 1:=rfl
     rw [HP]
     clear HX HP ht hu hR o1 hF hN h0 h1
     obtain ⟨m,hm⟩ : ∃ m,bl.length = m:=⟨_,rfl⟩
     rw [hm] at hL ⊢
     have HL : Hid (bl.length = m):=hm
     have C2 : ∀ W',Ext W W' → Calls Tryz.prog 250 #[.slice p n c,.int .i64 0] W' fun e w'=>∃ p' c',e = .returned (.agg #[.bool true,.int .i64 R,.int .i64 C,.slice p' m c']) ∧ RdV w'.heap.size w' (.slice p' m c') bl ∧ Ext W' w':=fun W' e=>(c2 W' e).mono (fun e w' h=>by
       obtain ⟨p',n',c',h1,h2,h3⟩:=h
       have h4:=h2.len
       simp only [] at h4
       rw [hm] at h4
       subst h4
       exact ⟨p',c',h1,h2,h3⟩)
     clear c2 hm
     obtain ⟨b1,b2⟩:=br
     obtain ⟨b3,b4⟩:=bc
     have mI : (m : Int) ≤ 10000000000:=J2
     by_cases t1 : row < 1
     · rw [if_pos (.inl t1)]
       exact K6
     by_cases t2 : row > R
     · rw [if_pos (.inr (.inl t2))]
       exact K6
     by_cases t3 : col < 1
     · rw [if_pos (.inr (.inr (.inl t3)))]
       exact K6
     by_cases t4 : col > C
     · rw [if_pos (.inr (.inr (.inr (.inl t4))))]
       exact K6
     by_cases t5 : col > (m : Int)
     · rw [if_pos (.inr (.inr (.inr (.inr (t5)))))]
       exact K6
     rw [if_neg J2]
     have u1 : 1 ≤ C:=J2
     have u2 : 0 ≤ (m : Int) - col:=J2
     have ht : ((m : Int) - col).tdiv C = ((m : Int) - col) / C:=Int.tdiv_eq_ediv_of_nonneg u2
     have u3 : 0 ≤ ((m : Int) - col) / C:=Int.ediv_nonneg u2 J2
     have u4 : ((m : Int) - col) / C ≤ (m : Int) - col:=Int.ediv_le_self C u2
     have HM : Hid (row - 1 ≤ ((m : Int) - col) / C → (row - 1) * C ≤ (m : Int) - col):=fun h=>Int.le_trans (Int.mul_le_mul_of_nonneg_right h J2) (Int.ediv_mul_le _ J2)
     generalize ((m : Int) - col) / C = q at *
     have e0 : (C == 0) = false:=J6
     have wk1 : wrap64 (row - 1) = row - 1:=J67
     have wk2 : wrap64 ((m : Int) - col) = (m : Int) - col:=J67
     by_cases t6 : row - 1 > q
     · rw [if_pos t6]
       exact K6
     · rw [if_neg t6]
       have v1:=HM.out J2
       have v2 : 0 ≤ (row - 1) * C:=Int.mul_nonneg J2 J2
       obtain ⟨M,hM⟩ : ∃ M,(row - 1) * C = M:=⟨_,rfl⟩
       rw [hM] at v1 v2 ⊢
       obtain ⟨j,hj⟩ : ∃ j : Nat,M + col - 1 = (j : Int):=⟨(M + col - 1).toNat,by omega⟩
       have hjm : j < m:=J2
       have hjI : (j : Int) < (m : Int):=J2
       have wk3 : wrap64 M = M:=J67
       have wk4 : wrap64 (M + col) = M + col:=J67
       have wk5 : wrap64 (M + col - 1) = (j : Int):=by rw [hj];unfold wrap64;omega
       have hjr : ∃ r,bl[j]? = some r:=⟨bl[j]'(by have:=HL.out;omega),gEq _⟩
       obtain ⟨r,hr⟩:=hjr
       rw [show (M + col - 1).toNat = j by omega,hr]
       have HJ : Hid (bl[j]? = some r ∧ j < bl.length):=⟨hr,by have:=HL.out;omega⟩
       clear HM HL hr
       go_enter func199,ntmps199
       go_wp2_with fail
       refine (c0 _ (xr.alloc _)).mono ?_
       rintro e w1 ⟨rfl,E1⟩
       have B1 : Hid (Blk w1 W.heap.size (.int .i64 0) (.int .i64 0) (.string ⟨#[]⟩) (.int .i64 0) ∧ Ext W w1):=⟨blk_top J60 E1,(xr.alloc _).trans E1⟩
       clear E1
       go_wp2_with fail
       refine (c1 _ B1.out.2).mono ?_
       rintro e w2 ⟨rfl,E2⟩
       have B2 : Hid (Blk w2 W.heap.size (.int .i64 0) (.int .i64 0) (.string ⟨#[]⟩) (.int .i64 0) ∧ Ext W w2):=⟨B1.out.1.ext E2,B1.out.2.trans E2⟩
       clear E2
       go_wp2_with fail
       refine (C2 _ B2.out.2).mono ?_
       rintro e w3 ⟨p',c',rfl,hV,E3⟩
       have B3 : Hid ((Blk w3 W.heap.size (.int .i64 0) (.int .i64 0) (.string ⟨#[]⟩) (.int .i64 0) ∧ Ext W w3) ∧ RdV w3.heap.size w3 (.slice p' m c') bl):=⟨⟨B2.out.1.ext E3,B2.out.2.trans E3⟩,hV⟩
       clear E3 hV
       obtain ⟨bb,off,r',rfl,hr',hbb,hbW,k0,k1,k2,k3⟩:=B3.out.2.at HJ.out.2
       rw [HJ.out.1] at hr'
       cases hr'
       obtain ⟨z,⟨g0,g1,g2,g3⟩,f0,f1,f2,f3⟩:=B3.out.1.1
       clear hbb
       go_wp2_with fail
       have X2 : Ext W (((((w3.setCell ⟨W.heap.size,0,none⟩ (.int .i64 r.k)).setCell ⟨W.heap.size,1,none⟩ (.int .i64 r.n)).setCell ⟨W.heap.size,2,none⟩ (.string r.s)).setCell ⟨W.heap.size,3,none⟩ (.int .i64 r.e)).alloc (.cells #[.bool true,.int .i64 R,.int .i64 C,.slice (some ⟨bb,off,none⟩) m c'] 113)):=((((B3.out.1.2.setCell nrf _).setCell nrf _).setCell nrf _).setCell nrf _).alloc _
       exact finB (b:=W.heap.size) (w:=W) ((B3.out.1.1.set _ _ _ _).al _) rfl X2 (fun g0 g1 g2 g3=>by simp [results,results199,go_sem,g0,g1,g2,g3]) (fun h=>⟨rfl,h⟩)
end Go.Proofs.YtcfgbiaahangmaaGreatDoor
