import Derived.Test.YtcfgbiaahangmaaGreatDoorB13
set_option maxHeartbeats 1000000
set_option maxRecDepth 100000
namespace Go.Proofs.YtcfgbiaahangmaaGreatDoor
open Go.Proofs.Tryz
open Go.RowKit
def truR (s : ByteArray) : V:=if s.data.toList = trueL then .tf true else if s.data.toList = falseL then .tf false else .blank
def truK (s : ByteArray) : Bool:=decide (s.data.toList = trueL) || decide (s.data.toList = falseL)
theorem truth_any (s : ByteArray) (w : World) : Calls Tryz.prog 272 #[.string s] w fun r w'=>r = .returned (.tuple #[(truR s).dat,.bool (truK s)]) ∧ Ext w w':=by
 by_cases h : s.data.toList = trueL
 · have c1:=fun W=>vbool_any true W
   simp only [V.dat,if_true] at c1
   have H : Hid (truR s = .tf true ∧ truK s = true):=by show _ ∧ _;unfold truR truK;rw [if_pos h];simp [h]
   have h1 : (s.toList == [84,82,85,69]) = true:=by rw [ByteArray.toList_eq,h];decide
   clear h
   exact K49
 · have h1 : (s.toList == [84,82,85,69]) = false:=by rw [ByteArray.toList_eq];simpa [trueL] using h
   by_cases g : s.data.toList = falseL
   · have c1:=fun W=>vbool_any false W
     simp only [V.dat,Bool.false_eq_true,if_false] at c1
     have H : Hid (truR s = .tf false ∧ truK s = true):=by show _ ∧ _;unfold truR truK;rw [if_neg h,if_pos g];simp [g]
     have h2 : (s.toList == [70,65,76,83,69]) = true:=by rw [ByteArray.toList_eq,g];decide
     clear h g
     exact K49
   · have H : Hid (truR s = .blank ∧ truK s = false):=by show _ ∧ _;unfold truR truK;rw [if_neg h,if_neg g];simp [h,g]
     have h2 : (s.toList == [70,65,76,83,69]) = false:=by rw [ByteArray.toList_eq];simpa [falseL] using g
     clear h g
     go_enter func272,ntmps272
     go_wp2_with fail
     simp [bodyPost,results,results272,go_sem]
     rw [H.out.1,H.out.2]
     exact ⟨⟨rfl,rfl⟩,(xr.alloc _)⟩
theorem truthname_any (k n : Int) (s : ByteArray) (e : Int) (b : Bool) (hb : (n == 0) = !b) (w : World) : Calls Tryz.prog 225 #[.agg #[.int .i64 k,.int .i64 n,.string s,.int .i64 e]] w fun r w'=>r = .returned (.string (bs (if b then trueL else falseL))) ∧ Ext w w':=by
 cases b
 all_goals
   simp only [Bool.not_true,Bool.not_false] at hb
   go_enter func225,ntmps225
   go_wp2_with fail
   go_ret
   exact ⟨rfl,xr.alloc _⟩
theorem vshow_any (k n : Int) (s : ByteArray) (e : Int) (w : World) (hn : I64 n) (hT : Tab w) (hN : Nm w) :
   Calls Tryz.prog 176 #[.agg #[.int .i64 k,.int .i64 n,.string s,.int .i64 e]] w fun r w'=>r = .returned (.string (nm k n s e).shown) ∧ Ext w w':=by
 have c0:=fun W h=>vnormal_any k n s e W h
 have ok:=nm_ok k n s e hn
 clear hn
 generalize nm k n s e = v at c0 ok ⊢
 cases v with
 | blank =>
   exact K64
 | tf b =>
   simp only [V.dat] at c0
   cases b with
   | false =>
     simp only [Bool.false_eq_true,if_false] at c0
     have c1:=fun W=>truthname_any 1 0 ⟨#[]⟩ 0 false J9 W
     exact K51
   | true =>
     simp only [if_true] at c0
     have c1:=fun W=>truthname_any 1 1 ⟨#[]⟩ 0 true J9 W
     exact K51
 | num n =>
   simp only [V.dat] at c0
   have c1:=fun W h=>print_any n ok.1 W h
   have H : Hid ((V.num n).shown = ⟨(printL n).toArray⟩):=rfl
   generalize (⟨(printL n).toArray⟩ : ByteArray) = q at *
   clear ok
   go_enter func176,ntmps176
   go_wp2_with fail
   refine (c0 _ (hN.ext J0)).mono ?_
   rintro r w1 ⟨rfl,E1⟩
   have X1 : Ext w w1:=Ext.trans J0 E1
   have B0_1:=blk_top (b:=w.heap.size) J58 E1
   have D0:=B0_1
   obtain ⟨b0z,⟨b0_0,b0_1,b0_2,b0_3⟩,b0f0,b0f1,b0f2,b0f3⟩:=D0
   go_wp2_with fail
   refine (c1 _ (hT.ext J0)).mono ?_
   rintro r w2 ⟨rfl,E2⟩
   have X2 : Ext w w2:=Ext.trans J0 E2
   go_wp2_with fail
   go_ret
   exact ⟨by rw [H.out];rfl,J0⟩
 | text s =>
   exact K64
 | err e =>
   simp only [V.dat] at c0
   have c1:=fun W h=>errname_any e W h
   have H : Hid ((V.err e).shown = bs (errName e)):=rfl
   generalize bs (errName e) = q at *
   clear ok hT
   go_enter func176,ntmps176
   go_wp2_with fail
   refine (c0 _ (hN.ext J0)).mono ?_
   rintro r w1 ⟨rfl,E1⟩
   have X1 : Ext w w1:=Ext.trans J0 E1
   have B0_1:=blk_top (b:=w.heap.size) J58 E1
   have D0:=B0_1
   obtain ⟨b0z,⟨b0_0,b0_1,b0_2,b0_3⟩,b0f0,b0f1,b0f2,b0f3⟩:=D0
   go_wp2_with fail
   refine (c1 _ (hN.ext J0)).mono ?_
   rintro r w2 ⟨rfl,rfl⟩
   go_wp2_with fail
   go_ret
   exact ⟨by rw [H.out];rfl,J0⟩
theorem vtotext_any (k n : Int) (s : ByteArray) (e : Int) (w : World) (hn : I64 n) (hT : Tab w) (hN : Nm w) :
   Calls Tryz.prog 131 #[.agg #[.int .i64 k,.int .i64 n,.string s,.int .i64 e]] w fun r w'=>r = .returned ((nm k n s e).toText.dat) ∧ Ext w w':=by
 have c0:=fun W h=>vnormal_any k n s e W h
 have ok:=nm_ok k n s e hn
 clear hn
 generalize nm k n s e = v at c0 ok ⊢
 cases v with
 | blank =>
   simp only [V.dat] at c0
   have c1:=fun W h t=>vshow_any 0 0 ⟨#[]⟩ 0 W ⟨by decide,by decide⟩ t h
   rw [nm_blank] at c1
   have hz:=shown_size (V.blank) ok
   have c2:=fun W h=>vtext_any (V.blank).shown W h
   rw [mkText_is hz] at c2
   simp only [V.dat] at c2
   have H : Hid ((V.blank).toText = .text (V.blank).shown):=rfl
   generalize (V.blank).shown = q at *
   exact K7
 | tf b =>
   simp only [V.dat] at c0
   cases b with
   | false =>
     simp only [Bool.false_eq_true,if_false] at c0
     have c1:=fun W h t=>vshow_any 1 0 ⟨#[]⟩ 0 W ⟨by decide,by decide⟩ t h
     rw [show nm 1 0 ⟨#[]⟩ 0 = .tf false from rfl] at c1
     have hz:=shown_size (V.tf false) ok
     have c2:=fun W h=>vtext_any (V.tf false).shown W h
     rw [mkText_is hz] at c2
     simp only [V.dat] at c2
     have H : Hid ((V.tf false).toText = .text (V.tf false).shown):=rfl
     generalize (V.tf false).shown = q at *
     exact K7
   | true =>
     simp only [if_true] at c0
     have c1:=fun W h t=>vshow_any 1 1 ⟨#[]⟩ 0 W ⟨by decide,by decide⟩ t h
     rw [show nm 1 1 ⟨#[]⟩ 0 = .tf true from rfl] at c1
     have hz:=shown_size (V.tf true) ok
     have c2:=fun W h=>vtext_any (V.tf true).shown W h
     rw [mkText_is hz] at c2
     simp only [V.dat] at c2
     have H : Hid ((V.tf true).toText = .text (V.tf true).shown):=rfl
     generalize (V.tf true).shown = q at *
     exact K7
 | num n =>
   simp only [V.dat] at c0
   have c1:=fun W h t=>vshow_any 2 n ⟨#[]⟩ 0 W ok.1 t h
   rw [nm_num ok.2] at c1
   have hz:=shown_size (V.num n) ok
   have c2:=fun W h=>vtext_any (V.num n).shown W h
   rw [mkText_is hz] at c2
   simp only [V.dat] at c2
   have H : Hid ((V.num n).toText = .text (V.num n).shown):=rfl
   generalize (V.num n).shown = q at *
   exact K7
 | text s =>
   simp only [V.dat] at c0
   have c1:=fun W h t=>vshow_any 3 0 s 0 W ⟨by decide,by decide⟩ t h
   rw [nm_text ok] at c1
   have hz:=shown_size (V.text s) ok
   have c2:=fun W h=>vtext_any (V.text s).shown W h
   rw [mkText_is hz] at c2
   simp only [V.dat] at c2
   have H : Hid ((V.text s).toText = .text (V.text s).shown):=rfl
   generalize (V.text s).shown = q at *
   exact K7
 | err e =>
   simp only [V.dat] at c0
   clear ok hT
   go_enter func131,ntmps131
   go_wp2_with fail
   refine (c0 _ (hN.ext J0)).mono ?_
   rintro r w1 ⟨rfl,E1⟩
   have X1 : Ext w w1:=Ext.trans J0 E1
   have B0_1:=blk_top (b:=w.heap.size) J58 ((xr.alloc _).trans E1)
   have B1_1:=blk_top (b:=w.heap.size + 1) J58 E1
   have D0:=B0_1
   obtain ⟨b0z,⟨b0_0,b0_1,b0_2,b0_3⟩,b0f0,b0f1,b0f2,b0f3⟩:=D0
   have D1:=B1_1
   obtain ⟨b1z,⟨b1_0,b1_1,b1_2,b1_3⟩,b1f0,b1f1,b1f2,b1f3⟩:=D1
   go_wp2_with fail
   exact finB ((B1_1.far (c:=w.heap.size) J58 _ _ _ _).set _ _ _ _) rfl J0 J26 (fun h=>⟨rfl,h⟩)
theorem truK_cases (s : ByteArray) : (truK s = true ∧ (V.text s).toBool = truR s) ∨ (truK s = false ∧ (V.text s).toBool = .err 2):=by
 have e : (V.text s).toBool = if s.data.toList = trueL then .tf true else if s.data.toList = falseL then .tf false else .err 2:=rfl
 rw [e]
 unfold truK truR
 by_cases h : s.data.toList = trueL
 · left;rw [if_pos h,if_pos h];simp [h]
 · by_cases g : s.data.toList = falseL
   · left;rw [if_neg h,if_pos g,if_neg h,if_pos g];simp [g]
   · right;rw [if_neg h,if_neg g];simp [h,g]
theorem vtobool_any (k n : Int) (s : ByteArray) (e : Int) (w : World) (hn : I64 n) (hN : Nm w) :
   Calls Tryz.prog 243 #[.agg #[.int .i64 k,.int .i64 n,.string s,.int .i64 e]] w fun r w'=>r = .returned ((nm k n s e).toBool.dat) ∧ Ext w w':=by
 have c0:=fun W h=>vnormal_any k n s e W h
 have ok:=nm_ok k n s e hn
 clear hn
 generalize nm k n s e = v at c0 ok ⊢
 cases v with
 | blank =>
   simp only [V.dat] at c0
   exact K184
 | tf b =>
   simp only [V.dat] at c0
   cases b with
   | false =>
     simp only [Bool.false_eq_true,if_false] at c0
     exact K184
   | true =>
     simp only [if_true] at c0
     have c1:=fun W=>vbool_any true W
     simp only [V.dat,if_true] at c1
     exact K17
 | num n =>
   simp only [V.dat] at c0
   obtain ⟨q0,q1,q2,q3,hq⟩:=dat4 (V.tf (n != 0))
   have c1:=fun W=>vbool_any (n != 0) W
   rw [hq] at c1
   have H : Hid ((V.num n).toBool.dat = .agg #[.int .i64 q0,.int .i64 q1,.string q2,.int .i64 q3]):=hq
   clear hq ok
   go_enter func243,ntmps243
   go_wp2_with fail
   refine (c0 _ (hN.ext J0)).mono ?_
   rintro r w1 ⟨rfl,E1⟩
   have X1 : Ext w w1:=Ext.trans J0 E1
   have B0_1:=blk_top (b:=w.heap.size) J58 ((xr.alloc _).trans E1)
   have B1_1:=blk_top (b:=w.heap.size + 1) J58 E1
   have D0:=B0_1
   obtain ⟨b0z,⟨b0_0,b0_1,b0_2,b0_3⟩,b0f0,b0f1,b0f2,b0f3⟩:=D0
   have D1:=B1_1
   obtain ⟨b1z,⟨b1_0,b1_1,b1_2,b1_3⟩,b1f0,b1f1,b1f2,b1f3⟩:=D1
   go_wp2_with fail
   refine (c1 _).mono ?_
   rintro r w2 ⟨rfl,E2⟩
   have X2 : Ext w w2:=Ext.trans J0 E2
   have B1_2:=(B1_1.far (c:=w.heap.size) J58 _ _ _ _).ext E2
   have D1:=B1_2
   obtain ⟨b1z,⟨b1_0,b1_1,b1_2,b1_3⟩,b1f0,b1f1,b1f2,b1f3⟩:=D1
   go_wp2_with fail
   exact finB (B1_2.set _ _ _ _) rfl J0 J23 (fun h=>⟨by rw [H.out],h⟩)
 | text s =>
   simp only [V.dat] at c0
   have c1:=fun W=>truth_any s W
   have c2:=fun W h=>err_any 2 W h
   rw [mkErr_is ⟨by decide,by decide⟩] at c2
   simp only [V.dat] at c2
   have hk:=truK_cases s
   clear ok
   obtain ⟨q0,q1,q2,q3,hq⟩:=dat4 (truR s)
   rw [hq] at c1
   rcases hk with ⟨h1,h2⟩ | ⟨h1,h2⟩
   · rw [h1] at c1
     have H : Hid ((V.text s).toBool.dat = .agg #[.int .i64 q0,.int .i64 q1,.string q2,.int .i64 q3]):=by show _ = _;rw [h2];exact hq
     clear hq h1 h2 c2
     go_enter func243,ntmps243
     go_wp2_with fail
     refine (c0 _ (hN.ext J0)).mono ?_
     rintro r w1 ⟨rfl,E1⟩
     have X1 : Ext w w1:=Ext.trans J0 E1
     have B0_1:=blk_top (b:=w.heap.size) J58 ((xr.alloc _).trans E1)
     have B1_1:=blk_top (b:=w.heap.size + 1) J58 E1
     have D0:=B0_1
     obtain ⟨b0z,⟨b0_0,b0_1,b0_2,b0_3⟩,b0f0,b0f1,b0f2,b0f3⟩:=D0
     have D1:=B1_1
     obtain ⟨b1z,⟨b1_0,b1_1,b1_2,b1_3⟩,b1f0,b1f1,b1f2,b1f3⟩:=D1
     go_wp2_with fail
     refine (c1 _).mono ?_
     rintro r w2 ⟨rfl,E2⟩
     have X2 : Ext w w2:=Ext.trans J0 E2
     have B1_2:=(B1_1.far (c:=w.heap.size) J58 _ _ _ _).ext E2
     have D1:=B1_2
     obtain ⟨b1z,⟨b1_0,b1_1,b1_2,b1_3⟩,b1f0,b1f1,b1f2,b1f3⟩:=D1
     go_wp2_with fail
     exact finB ((B1_2.set _ _ _ _).ext (xr.alloc _)) rfl J0 J23 (fun h=>⟨by rw [H.out],h⟩)
   · rw [h1] at c1
     have H : Hid ((V.text s).toBool = .err 2):=h2
     clear hq h1 h2
     go_enter func243,ntmps243
     go_wp2_with fail
     refine (c0 _ (hN.ext J0)).mono ?_
     rintro r w1 ⟨rfl,E1⟩
     have X1 : Ext w w1:=Ext.trans J0 E1
     have B0_1:=blk_top (b:=w.heap.size) J58 ((xr.alloc _).trans E1)
     have B1_1:=blk_top (b:=w.heap.size + 1) J58 E1
     have D0:=B0_1
     obtain ⟨b0z,⟨b0_0,b0_1,b0_2,b0_3⟩,b0f0,b0f1,b0f2,b0f3⟩:=D0
     have D1:=B1_1
     obtain ⟨b1z,⟨b1_0,b1_1,b1_2,b1_3⟩,b1f0,b1f1,b1f2,b1f3⟩:=D1
     go_wp2_with fail
     refine (c1 _).mono ?_
     rintro r w2 ⟨rfl,E2⟩
     have X2 : Ext w w2:=Ext.trans J0 E2
     have B1_2:=(B1_1.far (c:=w.heap.size) J58 _ _ _ _).ext E2
     have D1:=B1_2
     obtain ⟨b1z,⟨b1_0,b1_1,b1_2,b1_3⟩,b1f0,b1f1,b1f2,b1f3⟩:=D1
     go_wp2_with fail
     refine (c2 _ (hN.ext J0)).mono ?_
     rintro r w3 ⟨rfl,E3⟩
     have X3 : Ext w w3:=Ext.trans J0 E3
     have B1_3:=(B1_2.ext (xr.alloc _)).ext E3
     have D1:=B1_3
     obtain ⟨b1z,⟨b1_0,b1_1,b1_2,b1_3⟩,b1f0,b1f1,b1f2,b1f3⟩:=D1
     go_wp2_with fail
     exact finB (B1_3.set _ _ _ _) rfl J0 J23 (fun h=>⟨by rw [H.out];rfl,h⟩)
 | err e =>
   simp only [V.dat] at c0
   clear ok
   go_enter func243,ntmps243
   go_wp2_with fail
   refine (c0 _ (hN.ext J0)).mono ?_
   rintro r w1 ⟨rfl,E1⟩
   have X1 : Ext w w1:=Ext.trans J0 E1
   have B0_1:=blk_top (b:=w.heap.size) J58 ((xr.alloc _).trans E1)
   have B1_1:=blk_top (b:=w.heap.size + 1) J58 E1
   have D0:=B0_1
   obtain ⟨b0z,⟨b0_0,b0_1,b0_2,b0_3⟩,b0f0,b0f1,b0f2,b0f3⟩:=D0
   have D1:=B1_1
   obtain ⟨b1z,⟨b1_0,b1_1,b1_2,b1_3⟩,b1f0,b1f1,b1f2,b1f3⟩:=D1
   go_wp2_with fail
   exact finB ((B1_1.far (c:=w.heap.size) J58 _ _ _ _).set _ _ _ _) rfl J0 J23 (fun h=>⟨rfl,h⟩)
theorem vneg_any (k n : Int) (s : ByteArray) (e : Int) (w : World) (hn : I64 n) (hN : Nm w) :
   Calls Tryz.prog 68 #[.agg #[.int .i64 k,.int .i64 n,.string s,.int .i64 e]] w fun r w'=>r = .returned (nm k n s e).neg.dat ∧ Ext w w':=by
 have c0:=fun W h=>vtonum_any k n s e W hn h
 have ok:=toNum_cases (nm k n s e) (nm_ok k n s e hn)
 clear hn
 unfold V.neg
 generalize (nm k n s e).toNum = v at c0 ok ⊢
 rcases ok with ⟨m,rfl,im,cm⟩ | ⟨x,rfl,_⟩
 · have c1:=fun W h=>vnum_any (-m) W h
   rw [mkNum_is (neg_can m im cm).2] at c1
   simp only [V.dat] at c0 c1
   obtain ⟨i1,i2⟩:=im
   have i3 : m ≠ -9223372036854775808:=by simpa [canB] using cm
   clear cm
   go_enter func68,ntmps68
   go_wp2_with fail
   refine (c0 _ (hN.ext J0)).mono ?_
   rintro r w1 ⟨rfl,E1⟩
   have X1 : Ext w w1:=Ext.trans J0 E1
   have B0_1:=blk_top (b:=w.heap.size) J58 ((xr.alloc _).trans E1)
   have B1_1:=blk_top (b:=w.heap.size + 1) J58 E1
   have D0:=B0_1
   obtain ⟨b0z,⟨b0_0,b0_1,b0_2,b0_3⟩,b0f0,b0f1,b0f2,b0f3⟩:=D0
   have D1:=B1_1
   obtain ⟨b1z,⟨b1_0,b1_1,b1_2,b1_3⟩,b1f0,b1f1,b1f2,b1f3⟩:=D1
   go_wp2_with fail
   refine (c1 _ (hN.ext J0)).mono ?_
   rintro r w2 ⟨rfl,E2⟩
   have X2 : Ext w w2:=Ext.trans J0 E2
   have B1_2:=(B1_1.far (c:=w.heap.size) J58 _ _ _ _).ext E2
   have D1:=B1_2
   obtain ⟨b1z,⟨b1_0,b1_1,b1_2,b1_3⟩,b1f0,b1f1,b1f2,b1f3⟩:=D1
   go_wp2_with fail
   exact finB (B1_2.set _ _ _ _) rfl J0 (fun g0 g1 g2 g3=>by simp [results,results68,go_sem,g0,g1,g2,g3]) (fun h=>⟨rfl,h⟩)
 · simp only [V.dat] at c0
   go_enter func68,ntmps68
   go_wp2_with fail
   refine (c0 _ (hN.ext J0)).mono ?_
   rintro r w1 ⟨rfl,E1⟩
   have X1 : Ext w w1:=Ext.trans J0 E1
   have B0_1:=blk_top (b:=w.heap.size) J58 ((xr.alloc _).trans E1)
   have B1_1:=blk_top (b:=w.heap.size + 1) J58 E1
   have D0:=B0_1
   obtain ⟨b0z,⟨b0_0,b0_1,b0_2,b0_3⟩,b0f0,b0f1,b0f2,b0f3⟩:=D0
   have D1:=B1_1
   obtain ⟨b1z,⟨b1_0,b1_1,b1_2,b1_3⟩,b1f0,b1f1,b1f2,b1f3⟩:=D1
   go_wp2_with fail
   exact finB ((B1_1.far (c:=w.heap.size) J58 _ _ _ _).set _ _ _ _) rfl J0 (fun g0 g1 g2 g3=>by simp [results,results68,go_sem,g0,g1,g2,g3]) (fun h=>⟨rfl,h⟩)
theorem I64.z : I64 0:=⟨by decide,by decide⟩
theorem nm_of (x : V) (h : x.ok) : nm x.k x.n x.s x.e = x ∧ I64 x.n:=by
 cases x with
 | blank=>exact ⟨rfl,by decide,by decide⟩
 | tf b=>cases b <;> exact ⟨rfl,by decide,by decide⟩
 | num n=>exact ⟨mkNum_is h.2,h.1⟩
 | text s=>exact ⟨mkText_is h,I64.z⟩
 | err e=>exact ⟨mkErr_is h,I64.z⟩
theorem number_any (x : V) (a : Bool) (W : World) (hN : Nm W) (hx : x.ok) : Calls Tryz.prog 263 #[x.dat,.bool a] W fun e w'=>e = .returned (numF x a).dat ∧ Ext W w':=by
 cases a with
 | false =>
   have c0:=fun W h=>vtonum_any x.k x.n x.s x.e W (nm_of x hx).2 h
   rw [(nm_of x hx).1] at c0
   have H : Hid (numF x false = x.toNum):=rfl
   rw [dat_eq x]
   obtain ⟨q0,q1,q2,q3,hq⟩:=dat4 x.toNum
   rw [hq] at c0
   have HQ : Hid (x.toNum.dat = .agg #[.int .i64 q0,.int .i64 q1,.string q2,.int .i64 q3]):=hq
   clear hq hx
   generalize x.k = xk at *
   generalize x.n = xn at *
   generalize x.s = xs at *
   generalize x.e = xe at *
   go_enter func263,ntmps263
   go_wp2_with fail
   refine (c0 _ (hN.ext ((xr.alloc _).alloc _))).mono ?_
   rintro e w1 ⟨rfl,E1⟩
   obtain ⟨z,⟨k0,k1,k2,k3⟩,f0,f1,f2,f3⟩:=blk_top (b:=W.heap.size + 1) J58 E1
   go_wp2_with fail
   exact fin4 k0 k1 k2 k3 rfl J58 (((xr.alloc _).alloc _).trans E1) (fun W g0 g1 g2 g3=>by simp [results,results263,go_sem,g0,g1,g2,g3]) (fun W h=>⟨by rw [H.out,HQ.out],h⟩)
 | true =>
   clear hN
   have X2 : Hid (∀ o1 o2,Ext W ((W.alloc o1).alloc o2)):=fun o1 o2=>(xr.alloc _).alloc _
   cases x with
   | blank =>
     exact K55
   | tf b =>
     clear hx
     simp only [V.dat,numF,if_true]
     generalize (if b = true then (1 : Int) else 0) = bn
     go_enter func263,ntmps263
     go_wp2_with fail
     simp [bodyPost,results,results263,go_sem]
     exact X2.out _ _
   | num n =>
     exact K55
   | text s =>
     exact K55
   | err e =>
     exact K55
theorem truthB (x : V) (a : Bool) (W : World) (hN : Nm W) (hx : x.ok) (hc : a = false ∨ (x.k ≠ 0 ∧ x.k ≠ 3)) : Calls Tryz.prog 267 #[x.dat,.bool a] W fun e w'=>e = .returned x.toBool.dat ∧ Ext W w':=by
 have c0:=fun W h=>vtobool_any x.k x.n x.s x.e W (nm_of x hx).2 h
 rw [(nm_of x hx).1] at c0
 rw [dat_eq x]
 obtain ⟨q0,q1,q2,q3,hq⟩:=dat4 x.toBool
 rw [hq] at c0 ⊢
 clear hq hx
 generalize x.k = xk at *
 generalize x.n = xn at *
 generalize x.s = xs at *
 generalize x.e = xe at *
 cases a with
 | false =>
   clear hc
   exact K57
 | true =>
   have hh : xk ≠ 0 ∧ xk ≠ 3:=hc.resolve_left J58
   have e0 : (xk == 0) = false:=by simpa using hh.1
   have e3 : (xk == 3) = false:=by simpa using hh.2
   clear hc hh
   exact K57
theorem ftruth_any (x : V) (a : Bool) (W : World) (hN : Nm W) (hx : x.ok) : Calls Tryz.prog 267 #[x.dat,.bool a] W fun e w'=>e = .returned (truF x a).dat ∧ Ext W w':=by
 cases a with
 | false=>exact truthB x false W hN hx (.inl rfl)
 | true =>
   have X2 : Hid (∀ o1 o2,Ext W ((W.alloc o1).alloc o2)):=fun o1 o2=>(xr.alloc _).alloc _
   cases x with
   | tf b=>exact truthB _ true W hN hx (.inr ⟨by simp [V.k],by simp [V.k]⟩)
   | num n=>exact truthB _ true W hN hx (.inr ⟨by simp [V.k],by simp [V.k]⟩)
   | err e=>exact truthB _ true W hN hx (.inr ⟨by simp [V.k],by simp [V.k]⟩)
   | blank =>
     exact K106
   | text s =>
     exact K106
def TurnC (w0 : World) (v : Value) (f : V → Bool → V) : Prop:=∃ K,v = .func (.func K) #[] #[] ∧ (∀ args W,(callFunc K args).run Tryz.prog W = .ok (.enter K args) W) ∧
 ∀ W x a,Ext w0 W → x.ok → Calls Tryz.prog K #[x.dat,.bool a] W fun e w'=>e = .returned (f x a).dat ∧ Ext W w'
theorem turn_number (w0 : World) (hN : Nm w0) : TurnC w0 (.func (.func 263) #[] #[]) numF :=
 ⟨263,rfl,enters_of func263 J3 rfl,fun W x a e h=>number_any x a W (hN.ext e) h⟩
theorem turn_truth (w0 : World) (hN : Nm w0) : TurnC w0 (.func (.func 267) #[] #[]) truF :=
 ⟨267,rfl,enters_of func267 J3 rfl,fun W x a e h=>ftruth_any x a W (hN.ext e) h⟩
def encV (x : V) : Array Value:=#[x.dat]
theorem bad_snoc (f : V → Bool → V) (l : List (V × Bool)) (p : V × Bool) : bad f (l ++ [p]) = if (bad f l).k = 4 then bad f l else if (f p.1 p.2).k = 4 then f p.1 p.2 else .blank:=bad_app f l [p]
theorem got_snoc (f : V → Bool → V) (l : List (V × Bool)) (p : V × Bool) : got f (l ++ [p]) = if goes (f p.1 p.2) then got f l ++ [f p.1 p.2] else got f l:=by
 rw [got_app]
 show got f l ++ (if goes (f p.1 p.2) then [f p.1 p.2] else []) = _
 split
 · rfl
 · simp
structure Thr (w0 : World) (hi g : Nat) (tv sv : Value) (f : V → Bool → V) (P : List V → World → Prop) (l : List (V × Bool)) (W : World) : Prop where
 p : P (got f l) W
 t : W.cell? ⟨g,0,none⟩ = some tv
 s : W.cell? ⟨g + 1,0,none⟩ = some sv
 b : Blk W (g + 2) (.int .i64 (bad f l).k) (.int .i64 (bad f l).n) (.string (bad f l).s) (.int .i64 (bad f l).e)
 ot : Own4 W g
 os : Own4 W (g + 1)
 ob : Own4 W (g + 2)
theorem Blk.cells {W W' : World} {b : Nat} {x0 x1 x2 x3 : Value} (h : Blk W b x0 x1 x2 x3) (hs : W.heap.size ≤ W'.heap.size) (e : ∀ o,W'.cell? ⟨b,o,none⟩ = W.cell? ⟨b,o,none⟩ ∧ W'.frozen? ⟨b,o,none⟩ = W.frozen? ⟨b,o,none⟩) : Blk W' b x0 x1 x2 x3:=by
 obtain ⟨z,⟨k0,k1,k2,k3⟩,f0,f1,f2,f3⟩:=h
 exact ⟨llL z hs,⟨(e 0).1.trans k0,(e 1).1.trans k1,(e 2).1.trans k2,(e 3).1.trans k3⟩,(e 0).2.trans f0,(e 1).2.trans f1,(e 2).2.trans f2,(e 3).2.trans f3⟩
theorem Own4.env {hi : Nat} {w w' : World} {b : Nat} (h : Own4 w b) (m : Env hi w w') (hb : b < hi) : Own4 w' b ∧ ∀ o,w'.cell? ⟨b,o,none⟩ = w.cell? ⟨b,o,none⟩ ∧ w'.frozen? ⟨b,o,none⟩ = w.frozen? ⟨b,o,none⟩:=by
 have e:=m.1.block b hb
 exact K105
theorem Thr.env {w0 : World} {hi g : Nat} {tv sv : Value} {f : V → Bool → V} {P : List V → World → Prop} {l : List (V × Bool)} {W W' : World} (hP : ∀ l W W',P l W → hi ≤ W.heap.size → Env hi W W' → P l W') (hg : hi ≤ g)
   (h : Thr w0 hi g tv sv f P l W) (hs : g + 3 ≤ W.heap.size) (e : Env (g + 3) W W') : Thr w0 hi g tv sv f P l W':=by
 obtain ⟨p,t,s,b,ot,os,ob⟩:=h
 obtain ⟨ot',et⟩:=ot.env e J2
 obtain ⟨os',es⟩:=os.env e J2
 obtain ⟨ob',eb⟩:=ob.env e J2
 exact ⟨hP _ _ _ p J2 (e.down J2),(et 0).1.trans t,(es 0).1.trans s,b.cells e.1.size eb,ot',os',ob'⟩
theorem Thr.mid {w0 : World} {hi g : Nat} {tv sv : Value} {f : V → Bool → V} {P : List V → World → Prop} {l l' : List (V × Bool)} {W W' : World} (hg : hi ≤ g)
   (h : Thr w0 hi g tv sv f P l W) (m : Mid w0.heap.size hi W W') (hp : P (got f l') W') (hb : bad f l' = bad f l) : Thr w0 hi g tv sv f P l' W':=by
 obtain ⟨p,t,s,b,ot,os,ob⟩:=h
 obtain ⟨ot',et⟩:=ot.mid m J2
 obtain ⟨os',es⟩:=os.mid m J2
 obtain ⟨ob',eb⟩:=ob.mid m J2
 exact ⟨hp,(et 0).1.trans t,(es 0).1.trans s,by rw [hb];exact b.cells m.1.size eb,ot',os',ob'⟩
theorem Own4.set {w : World} {b : Nat} (h : Own4 w b) (q : Addr) (v : Value) : Own4 (w.setCell q v) b:=by
 refine ⟨by simpa [World.setCell] using h.1,fun r=>h.2 ?_⟩
 obtain ⟨c,fz,r⟩:=r
 by_cases hq : b = q.block
 · subst hq
   simp only [World.setCell,Array.getElem?_modify,if_true] at r
   obtain ⟨o,ho,r⟩:=Option.map_eq_some_iff.1 r
   cases o with
   | cells cs t fr=>cases r;exact ⟨_,_,ho⟩
   | _=>cases r
 · rw [Below.heap_setCell _ _ _ _ hq] at r
   exact ⟨c,fz,r⟩
theorem Own4.at {w w' : World} {b : Nat} {c : Array Value} {T : TypeId} (hb : b = w.heap.size) (hT : T ≠ 5) (e : Ext (w.alloc (.cells c T)) w') : Own4 w' b:=by subst hb;exact Own4.new hT e
theorem Env.set {hi : Nat} {w w' : World} (h : Env hi w w') {b : Nat} (hb : hi ≤ b) (ho : ¬ RowB w b) (o : Nat) (v : Value) : Env hi w (w'.setCell ⟨b,o,none⟩ v) :=
 ⟨h.1.setCell (p:=⟨b,o,none⟩) hb v,fun k hk=>by rw [Below.heap_setCell _ _ _ _ (fun e=>ho (by subst e;exact hk))];exact h.2 k hk⟩
theorem Mid.set {lo hi : Nat} {w w' : World} (h : Mid lo hi w w') {b : Nat} (hb : lo ≤ b) (hb' : b < hi) (o : Nat) (v : Value) : Mid lo hi w (w'.setCell ⟨b,o,none⟩ v) :=
 ⟨h.1.setCell (p:=⟨b,o,none⟩) hb v,fun k h1 h2 h3=>by rw [Below.heap_setCell _ _ _ _ (by show k ≠ b;omega)];exact h.2 k h1 h2 h3⟩
theorem not_row {w w' : World} {b : Nat} (e : Ext w w') (h : Own4 w b) : Own4 w' b :=
 ⟨llL h.1 e.size,fun r=>h.2 ((RowB.same (e.block b h.1)).1 r)⟩
def put4 (w : World) (b : Nat) (x0 x1 x2 x3 : Value) : World:=(((w.setCell ⟨b,0,none⟩ x0).setCell ⟨b,1,none⟩ x1).setCell ⟨b,2,none⟩ x2).setCell ⟨b,3,none⟩ x3
theorem Thr.put {w0 : World} {hi g : Nat} {tv sv : Value} {f : V → Bool → V} {P : List V → World → Prop} {l l' : List (V × Bool)} {W W' : World} (hg : hi ≤ g) (hP : ∀ l W W',P l W → hi ≤ W.heap.size → Env hi W W' → P l W')
   (h : Thr w0 hi g tv sv f P l W) (hz : g + 3 ≤ W.heap.size) (e : Ext W W') (hp : got f l' = got f l) (y : V) (hb : bad f l' = y) : Thr w0 hi g tv sv f P l' (put4 W' (g + 2) (.int .i64 y.k) (.int .i64 y.n) (.string y.s) (.int .i64 y.e)):=by
 obtain ⟨p,t,s,b,ot,os,ob⟩:=h
 have c1:=e.cell.1 g 0 J2
 have c2:=e.cell.1 (g + 1) 0 J2
 refine ⟨?_,?_,?_,?_,?_,?_,?_⟩
 · rw [hp]
   exact hP _ _ _ p J2 (((((e.env J2).set J2 ob.2 _ _).set J2 ob.2 _ _).set J2 ob.2 _ _).set J2 ob.2 _ _)
 · unfold put4
   iterate 4 rw [wFa _ _ _ _ (by show g + 2 ≠ g;omega)]
   exact c1.trans t
 · unfold put4
   iterate 4 rw [wFa _ _ _ _ (by show g + 2 ≠ g + 1;omega)]
   exact c2.trans s
 · rw [hb]
   exact (b.ext e).set _ _ _ _
 · exact ((((not_row e ot).set _ _).set _ _).set _ _).set _ _
 · exact ((((not_row e os).set _ _).set _ _).set _ _).set _ _
 · exact ((((not_row e ob).set _ _).set _ _).set _ _).set _ _
theorem thr1_any (w0 : World) (hi g : Nat) (tv sv : Value) (f : V → Bool → V) (P : List V → World → Prop) (hT : TurnC w0 tv f) (hS : FnC w0 hi sv encV V.ok P) (hf : ∀ x a,x.ok → (f x a).ok) (hg : hi ≤ g) (hg0 : w0.heap.size ≤ g)
   (l : List (V × Bool)) (W : World) (x : V × Bool) (h : Thr w0 hi g tv sv f P l W) (hz : g + 3 ≤ W.heap.size) (hE : Ext w0 W) (hl : l.length ≤ 20000000000) (hx : okS x) :
   Calls Tryz.prog 270 (encS x ++ #[.pointer (some ⟨g,0,none⟩),.pointer (some ⟨g + 1,0,none⟩),.pointer (some ⟨g + 2,0,none⟩)]) W fun e w'=>e = .returned (.tuple #[]) ∧ Thr w0 hi g tv sv f P (l ++ [x]) w' ∧ Mid w0.heap.size (g + 3) W w':=by
 obtain ⟨v,a⟩:=x
 obtain ⟨Kt,rfl,entT,cT⟩:=hT
 obtain ⟨Ks,cs,rfl,entS,stS,cS⟩:=hS
 have ht:=h.t
 have hs:=h.s
 obtain ⟨zb,⟨b0,b1,b2,b3⟩,f0,f1,f2,f3⟩:=h.b
 have HT : Hid (Thr w0 hi g (.func (.func Kt) #[] #[]) (.func (.func Ks) #[] cs) f P l W):=h
 have CT : Hid (∀ V,Ext w0 V → Calls Tryz.prog Kt #[.agg #[.int .i64 v.k,.int .i64 v.n,.string v.s,.int .i64 v.e],.bool a] V fun e w'=>e = .returned (f v a).dat ∧ Ext V w'):=fun V e=>by have:=cT V v a e hx;rw [dat_eq v] at this;exact this
 have hy:=hf v a hx
 have hgl : (got f l).length ≤ 20000000000:=Nat.le_trans (got_len f l) hl
 have CS : Hid (∀ V,Ext W V → Calls Tryz.prog Ks (#[.agg #[.int .i64 (f v a).k,.int .i64 (f v a).n,.string (f v a).s,.int .i64 (f v a).e]] ++ cs) V fun e w'=>e = .returned (.tuple #[]) ∧ P (got f l ++ [f v a]) w' ∧ Mid w0.heap.size hi V w'):=fun V e=>by
   have:=cS (got f l) V (f v a) (stS _ _ _ h.p J2 (e.env J2)) (Nat.le_trans J2 e.size) (hE.trans e) hgl hy
   unfold encV at this
   rw [dat_eq (f v a)] at this
   exact this
 have HE : Hid (Ext w0 W ∧ g + 3 ≤ W.heap.size ∧ hi ≤ g ∧ w0.heap.size ≤ g):=⟨hE,hz,hg,hg0⟩
 have ST : Hid (∀ l W W',P l W → hi ≤ W.heap.size → Env hi W W' → P l W'):=stS
 have HB : Hid (bad f (l ++ [(v,a)]) = if (bad f l).k = 4 then bad f l else if (f v a).k = 4 then f v a else .blank):=bad_snoc f l (v,a)
 have HG : Hid (got f (l ++ [(v,a)]) = if goes (f v a) then got f l ++ [f v a] else got f l):=got_snoc f l (v,a)
 have HK : Hid (bad f l = .blank ∨ (bad f l).k = 4):=bad_kind f l
 rw [show encS (v,a) = #[v.dat,.bool a] from rfl,dat_eq v]
 rw [dat_eq (f v a)] at CT
 have hz2 : g < W.heap.size:=J2
 have hz3 : g + 1 < W.heap.size:=J2
 clear h cT cS stS hf hg hg0 hE hl hx hy hgl hz
 obtain ⟨vk,hvk⟩ : ∃ y,v.k = y:=⟨_,rfl⟩
 obtain ⟨vn,hvn⟩ : ∃ y,v.n = y:=⟨_,rfl⟩
 obtain ⟨vs,hvs⟩ : ∃ y,v.s = y:=⟨_,rfl⟩
 obtain ⟨ve,hve⟩ : ∃ y,v.e = y:=⟨_,rfl⟩
 rw [hvk,hvn,hvs,hve] at CT ⊢
 clear hvk hvn hvs hve
 obtain ⟨y,hy⟩ : ∃ y,f v a = y:=⟨_,rfl⟩
 rw [hy] at CT CS HB HG
 obtain ⟨z,hzz⟩ : ∃ z,bad f l = z:=⟨_,rfl⟩
 rw [hzz] at b0 b1 b2 b3 HB HK
 have HZ : Hid (bad f l = z):=hzz
 clear hy hzz
 obtain ⟨yk,hyk⟩ : ∃ q,y.k = q:=⟨_,rfl⟩
 obtain ⟨yn,hyn⟩ : ∃ q,y.n = q:=⟨_,rfl⟩
 obtain ⟨ys,hys⟩ : ∃ q,y.s = q:=⟨_,rfl⟩
 obtain ⟨ye,hye⟩ : ∃ q,y.e = q:=⟨_,rfl⟩
 have HY : Hid (y.k = yk ∧ y.n = yn ∧ y.s = ys ∧ y.e = ye):=⟨hyk,hyn,hys,hye⟩
 rw [hyk,hyn,hys,hye] at CT CS
 clear hyk hyn hys hye
 go_enter func270,ntmps270
 go_wp2_with fail
 refine (CT.out _ (HE.out.1.alloc _)).mono ?_
 rintro e w1 ⟨rfl,E1⟩
 have X1 : Hid (Ext W w1):=(xr.alloc _).trans E1
 have B1:=blk_top (b:=W.heap.size) J58 E1
 obtain ⟨c0z,⟨c0_0,c0_1,c0_2,c0_3⟩,c0f0,c0f1,c0f2,c0f3⟩:=B1
 have e1:=X1.out.cell
 have d1:=(e1.1 (g + 1) 0 hz3).trans hs
 have d20:=(e1.1 (g + 2) 0 zb).trans b0
 have d21:=(e1.1 (g + 2) 1 zb).trans b1
 have d22:=(e1.1 (g + 2) 2 zb).trans b2
 have d23:=(e1.1 (g + 2) 3 zb).trans b3
 have g20:=(e1.2 (g + 2) 0 zb).trans f0
 have g21:=(e1.2 (g + 2) 1 zb).trans f1
 have g22:=(e1.2 (g + 2) 2 zb).trans f2
 have g23:=(e1.2 (g + 2) 3 zb).trans f3
 have zc : g + 1 < w1.heap.size:=llL hz3 X1.out.size
 have zd : g + 2 < w1.heap.size:=llL zb X1.out.size
 have X2 : Hid (Ext W (put4 w1 W.heap.size (.int .i64 yk) (.int .i64 yn) (.string ys) (.int .i64 ye))):=(((X1.out.setCell nrf _).setCell nrf _).setCell nrf _).setCell nrf _
 clear E1 e1 ht hs b0 b1 b2 b3 f0 f1 f2 f3
 have nG1 : g + 1 ≠ W.heap.size:=J2
 have nG2 : g + 2 ≠ W.heap.size:=J2
 by_cases h0 : yk = 0
 · have e0 : (yk == 0) = true:=by simpa using h0
   have H2 : Hid (got f (l ++ [(v,a)]) = got f l ∧ bad f (l ++ [(v,a)]) = bad f l):=by
     have hk : y.k = 0:=HY.out.1.trans h0
     refine ⟨by rw [HG.out,if_neg J49],?_⟩
     rw [HB.out,HZ.out]
     rcases HK.out with k | k
     · rw [k,if_neg J9,if_neg J11]
     · rw [if_pos k]
   clear h0
   exact K74
 have e0 : (yk == 0) = false:=by simpa using h0
 by_cases h4 : yk = 4
 · have e4 : (yk != 4) = false:=J77
   by_cases hz4 : z.k = 4
   · have ez : (z.k == 0) = false:=by rw [hz4];rfl
     have H2 : Hid (got f (l ++ [(v,a)]) = got f l ∧ bad f (l ++ [(v,a)]) = bad f l):=by
       have hk : y.k = 4:=HY.out.1.trans h4
       refine ⟨by rw [HG.out,if_neg J49],?_⟩
       rw [HB.out,HZ.out,if_pos hz4]
     clear h0 h4 hz4
     generalize z.k = zk at *
     exact K74
   · have hz0 : z = .blank:=HK.out.resolve_right hz4
     have ez : (z.k == 0) = true:=by rw [hz0];rfl
     have H2 : Hid (got f (l ++ [(v,a)]) = got f l ∧ bad f (l ++ [(v,a)]) = y):=by
       have hk : y.k = 4:=HY.out.1.trans h4
       refine ⟨by rw [HG.out,if_neg J49],?_⟩
       rw [HB.out,if_neg hz4,if_pos hk]
     clear h0 h4 hz4 hz0
     generalize z.k = zk at *
     generalize z.n = zn at *
     generalize z.s = zs' at *
     generalize z.e = ze at *
     go_wp2_with fail
     go_end0
     refine ⟨rfl,?_,?_⟩
     · have q:=HT.out.put HE.out.2.2.1 ST.out HE.out.2.1 X2.out H2.out.1 y H2.out.2
       rw [HY.out.1,HY.out.2.1,HY.out.2.2.1,HY.out.2.2.2] at q
       exact q
     · exact ((((X2.out.mid HE.out.1.size _).set (by have:=HE.out;omega) J2 _ _).set (by have:=HE.out;omega) J2 _ _).set (by have:=HE.out;omega) J2 _ _).set (by have:=HE.out;omega) J2 _ _
 · have e4 : (yk != 4) = true:=J77
   have H2 : Hid (got f (l ++ [(v,a)]) = got f l ++ [y] ∧ bad f (l ++ [(v,a)]) = bad f l):=by
     have hk : ¬ y.k = 4:=by rw [HY.out.1];exact h4
     have hk0 : ¬ y.k = 0:=by rw [HY.out.1];exact h0
     refine ⟨by rw [HG.out,if_pos (by simp [goes,hk,hk0])],?_⟩
     rw [HB.out,HZ.out]
     rcases HK.out with k | k
     · rw [k,if_neg J9,if_neg hk]
     · rw [if_pos k]
   clear h0 h4
   go_wp2_with fail
   refine (CS.out _ X2.out).mono ?_
   rintro e w3 ⟨rfl,p3,m3⟩
   have M3 : Hid (Mid w0.heap.size hi W w3):=(X2.out.mid HE.out.1.size hi).trans m3
   have P3 : Hid (P (got f l ++ [y]) w3):=p3
   clear p3 m3
   go_wp2_with fail
   go_end0
   refine ⟨rfl,?_,?_⟩
   · exact HT.out.mid HE.out.2.2.1 M3.out (by rw [H2.out.1];exact P3.out) H2.out.2
   · exact M3.out.wide (by have:=HE.out;omega)
theorem ent_thr1 : ∀ args W,(callFunc 270 args).run Tryz.prog W = .ok (.enter 270 args) W:=enters_of func270 J3 rfl
theorem thr_fn (w0 : World) (hi g : Nat) (tv sv : Value) (f : V → Bool → V) (P : List V → World → Prop) (hT : TurnC w0 tv f) (hS : FnC w0 hi sv encV V.ok P) (hf : ∀ x a,x.ok → (f x a).ok) (hg : hi ≤ g) (hg0 : w0.heap.size ≤ g) :
   FnC w0 (g + 3) (.func (.func 270) #[] #[.pointer (some ⟨g,0,none⟩),.pointer (some ⟨g + 1,0,none⟩),.pointer (some ⟨g + 2,0,none⟩)]) encS okS (fun l W=>Thr w0 hi g tv sv f P l W):=by
 refine ⟨_,_,rfl,ent_thr1,?_,?_⟩
 · intro l W W' h hs e
   obtain ⟨_,_,_,_,st,_⟩:=hS
   exact h.env st hg hs e
 · intro l W x h hs e hl hx
   exact thr1_any w0 hi g tv sv f P hT hS hf hg hg0 l W x h hs e hl hx
theorem through_any (w0 : World) (gs : List Ag) (tv sv : Value) (f : V → Bool → V) (P : List V → World → Prop) (W : World) (p : Option Addr) (n c : Nat) (hT : TurnC w0 tv f) (hS : FnC w0 W.heap.size sv encV V.ok P) (hf : ∀ x a,x.ok → (f x a).ok)
   (hA : RdA w0.heap.size W (.slice p n c) gs) (hI : AgI gs) (hlen : (seen gs).length ≤ 10000000000) (hal : gs.length ≤ 10000000000) (hP : P [] W) (hE : Ext w0 W) (hN : Nm w0) :
   Calls Tryz.prog 236 #[.slice p n c,tv,sv] W fun e w'=>e = .returned (bad f (seen gs)).dat ∧ P (got f (seen gs)) w' ∧ Ext w0 w':=by
 obtain ⟨Kt,et⟩ : ∃ Kt,tv = .func (.func Kt) #[] #[]:=by obtain ⟨K,h,_⟩:=hT;exact ⟨K,h⟩
 obtain ⟨Ks,cs,es⟩ : ∃ Ks cs,sv = .func (.func Ks) #[] cs:=by obtain ⟨K,cs,h,_⟩:=hS;exact ⟨K,cs,h⟩
 subst et es
 have stS : ∀ l W1 W',P l W1 → W.heap.size ≤ W1.heap.size → Env W.heap.size W1 W' → P l W':=by obtain ⟨_,_,_,_,st,_⟩:=hS;exact st
 have HF : Hid (FnC w0 (W.heap.size + 3) (.func (.func 270) #[] #[.pointer (some ⟨W.heap.size,0,none⟩),.pointer (some ⟨W.heap.size + 1,0,none⟩),.pointer (some ⟨W.heap.size + 2,0,none⟩)]) encS okS (fun l V=>Thr w0 W.heap.size W.heap.size (.func (.func Kt) #[] #[]) (.func (.func Ks) #[] cs) f P l V)):=thr_fn w0 W.heap.size W.heap.size _ _ f P hT hS hf nrf hE.size
 have H0 : Hid (RdA w0.heap.size W (.slice p n c) gs ∧ AgI gs ∧ (seen gs).length ≤ 10000000000 ∧ gs.length ≤ 10000000000 ∧ P [] W ∧ Ext w0 W ∧ Nm w0):=⟨hA,hI,hlen,hal,hP,hE,hN⟩
 have ST : Hid (∀ l W1 W',P l W1 → W.heap.size ≤ W1.heap.size → Env W.heap.size W1 W' → P l W'):=stS
 clear hT hS hf hA hI hlen hal hP hE hN stS
 go_enter func236,ntmps236
 go_wp2_with fail
 generalize hW3 : ((W.alloc _).alloc _).alloc _ = W3
 have z1 : ∀ o,(W.alloc o).heap.size = W.heap.size + 1:=fun o=>by simp
 have z2 : ∀ o o',((W.alloc o).alloc o').heap.size = W.heap.size + 2:=fun o o'=>by simp
 have z3 : W3.heap.size = W.heap.size + 3:=J78
 have E3 : Ext W W3:=J79
 have HT : Thr w0 W.heap.size W.heap.size (.func (.func Kt) #[] #[]) (.func (.func Ks) #[] cs) f P [] W3:=by
   refine ⟨ST.out _ _ _ H0.out.2.2.2.2.1 nrf (E3.env nrf),?_,?_,?_,?_,?_,?_⟩
   · rw [← hW3];simp [go_sem]
   · rw [← hW3];simp [go_sem]
   · rw [← hW3];exact blk_top (by rw [z2]) xr
   · rw [← hW3];exact Own4.new J9 ((xr.alloc _).alloc _)
   · rw [← hW3];exact Own4.at (by rw [z1]) J9 (xr.alloc _)
   · rw [← hW3];exact Own4.at (by rw [z2]) J9 xr
 refine (each_any w0 (W.heap.size + 3) gs _ _ W3 p n c (H0.out.1.low (Below.mono E3 H0.out.2.2.2.2.2.1.size)) H0.out.2.1 H0.out.2.2.1 H0.out.2.2.2.1 HF.out HT J2 (H0.out.2.2.2.2.2.1.trans E3) H0.out.2.2.2.2.2.2).mono ?_
 rintro e w4 ⟨rfl,T4,M4⟩
 have X4 : Hid (Ext w0 w4):=M4.ext (H0.out.2.2.2.2.2.1.trans E3)
 have P4 : Hid (P (got f (seen gs)) w4):=T4.p
 have HB : Hid (Blk w4 (W.heap.size + 2) (.int .i64 (bad f (seen gs)).k) (.int .i64 (bad f (seen gs)).n) (.string (bad f (seen gs)).s) (.int .i64 (bad f (seen gs)).e) ∧ Own4 w4 (W.heap.size + 2) ∧ w0.heap.size ≤ W.heap.size):=⟨T4.b,T4.ob,H0.out.2.2.2.2.2.1.size⟩
 obtain ⟨c0z,⟨c0_0,c0_1,c0_2,c0_3⟩,c0f0,c0f1,c0f2,c0f3⟩:=T4.b
 have HD : Hid ((bad f (seen gs)).dat = .agg #[.int .i64 (bad f (seen gs)).k,.int .i64 (bad f (seen gs)).n,.string (bad f (seen gs)).s,.int .i64 (bad f (seen gs)).e]):=dat_eq _
 generalize (bad f (seen gs)).k = zk at *
 generalize (bad f (seen gs)).n = zn at *
 generalize (bad f (seen gs)).s = zs' at *
 generalize (bad f (seen gs)).e = ze at *
 have PZ : Hid (w4.heap.size = w4.heap.size ∧ W.heap.size ≤ w4.heap.size):=⟨rfl,Nat.le_trans J2 M4.1.size⟩
 clear hW3 z1 z2 z3 E3 HT T4 M4 HF
 go_wp2_with fail
 have hb : W.heap.size ≤ W.heap.size + 2:=J2
 have hb0 : w0.heap.size ≤ W.heap.size + 2:=Nat.le_trans HB.out.2.2 hb
 exact finB (w:=w0) (HB.out.1.set _ _ _ _) rfl ((((X4.out.setCell (p:=⟨W.heap.size + 2,0,none⟩) hb0 _).setCell (p:=⟨W.heap.size + 2,1,none⟩) hb0 _).setCell (p:=⟨W.heap.size + 2,2,none⟩) hb0 _).setCell (p:=⟨W.heap.size + 2,3,none⟩) hb0 _)
   (fun g0 g1 g2 g3=>by simp [results,results236,go_sem,g0,g1,g2,g3])
   (fun h=>⟨by rw [HD.out],ST.out _ _ _ P4.out PZ.out.2 ((((((Ext.refl w4).env PZ.out.2).set hb HB.out.2.1.2 _ _).set hb HB.out.2.1.2 _ _).set hb HB.out.2.1.2 _ _).set hb HB.out.2.1.2 _ _),h⟩)
structure Tot (g : Nat) (l : List V) (W : World) : Prop where
 z : g + 1 < W.heap.size
 s0 : W.cell? ⟨g,0,none⟩ = some (.int .i64 (hiOf (sumN l)))
 s1 : W.cell? ⟨g,1,none⟩ = some (.int .u64 (loOf (sumN l)))
 c0 : W.cell? ⟨g + 1,0,none⟩ = some (.int .i64 (l.length : Int))
 f0 : W.frozen? ⟨g,0,none⟩ = false
 f1 : W.frozen? ⟨g,1,none⟩ = false
 f2 : W.frozen? ⟨g + 1,0,none⟩ = false
theorem Env.at {hi : Nat} {w w' : World} (h : Env hi w w') {b : Nat} (hb : b < hi) (o : Nat) : w'.cell? ⟨b,o,none⟩ = w.cell? ⟨b,o,none⟩ ∧ w'.frozen? ⟨b,o,none⟩ = w.frozen? ⟨b,o,none⟩ :=
 ⟨Below.cell h.1 (p:=⟨b,o,none⟩) hb,Below.frozen h.1 (p:=⟨b,o,none⟩) hb⟩
theorem Tot.env {g hi : Nat} {l : List V} {W W' : World} (h : Tot g l W) (e : Env hi W W') (hg : g + 2 ≤ hi) : Tot g l W':=by
 obtain ⟨z,s0,s1,c0,f0,f1,f2⟩:=h
 have k0:=e.at (b:=g) J2
 have k1:=e.at (b:=g + 1) J2
 exact ⟨llL z e.1.size,(k0 0).1.trans s0,(k0 1).1.trans s1,(k1 0).1.trans c0,(k0 0).2.trans f0,(k0 1).2.trans f1,(k1 0).2.trans f2⟩
theorem Tot.put {g : Nat} {l : List V} {W : World} {x : V} (h : Tot g l W) (wk : wrap64 ((l.length : Int) + 1) = ((l.length + 1 : Nat) : Int)) :
   Tot g (l ++ [x]) (((W.setCell ⟨g,0,none⟩ (.int .i64 (hiOf (sumN l + x.n)))).setCell ⟨g,1,none⟩ (.int .u64 (loOf (sumN l + x.n)))).setCell ⟨g + 1,0,none⟩ (.int .i64 (wrap64 ((l.length : Int) + 1)))):=by
 obtain ⟨z,s0,s1,c0,f0,f1,f2⟩:=h
 have es : sumN (l ++ [x]) = sumN l + x.n:=by rw [sumN_app];simp [sumN]
 have el : (l ++ [x]).length = l.length + 1:=J58
 have e0:=wSa W ⟨g,0,none⟩ (.int .i64 (hiOf (sumN l + x.n))) (by rw [s0])
 have j1 : (W.setCell ⟨g,0,none⟩ (.int .i64 (hiOf (sumN l + x.n)))).cell? ⟨g,1,none⟩ = some (.int .u64 (loOf (sumN l))):=by rw [wO _ _ _ _ J58];exact s1
 have e1:=wSa _ ⟨g,1,none⟩ (.int .u64 (loOf (sumN l + x.n))) (by rw [j1])
 have j2 : ((W.setCell ⟨g,0,none⟩ (.int .i64 (hiOf (sumN l + x.n)))).setCell ⟨g,1,none⟩ (.int .u64 (loOf (sumN l + x.n)))).cell? ⟨g + 1,0,none⟩ = some (.int .i64 (l.length : Int)):=by
   rw [wFa _ _ _ _ J58,wFa _ _ _ _ J58];exact c0
 have e2:=wSa _ ⟨g + 1,0,none⟩ (.int .i64 (wrap64 ((l.length : Int) + 1))) (by rw [j2])
 refine ⟨by simpa [World.setCell] using z,?_,?_,?_,?_,?_,?_⟩
 · rw [es,wFa _ _ _ _ J58,wO _ _ _ _ J58];exact e0
 · rw [es,wFa _ _ _ _ J58];exact e1
 · rw [el,← wk];exact e2
 · simpa [go_sem] using f0
 · simpa [go_sem] using f1
 · simpa [go_sem] using f2
theorem tot1_any (w0 : World) (g : Nat) (hg : w0.heap.size ≤ g) (l : List V) (W : World) (x : V) (h : Tot g l W) (hE : Ext w0 W) (hl : l.length ≤ 20000000000) (hx : x.ok) :
   Calls Tryz.prog 264 (encV x ++ #[.pointer (some ⟨g,0,none⟩),.pointer (some ⟨g + 1,0,none⟩)]) W fun e w'=>e = .returned (.tuple #[]) ∧ Tot g (l ++ [x]) w' ∧ Mid w0.heap.size (g + 2) W w':=by
 have H : Hid (Tot g l W):=h
 have hn:=(nm_of x hx).2
 have cP:=fun W=>plus_acc (sumN l) x.n hn W
 have WK : Hid (wrap64 ((l.length : Int) + 1) = ((l.length + 1 : Nat) : Int)):=wrap_1 _ J2
 obtain ⟨z,s0,s1,c0,f0,f1,f2⟩:=h
 have H0 : Hid (w0.heap.size ≤ g ∧ Ext w0 W):=⟨hg,hE⟩
 rw [show encV x = #[x.dat] from rfl,dat_eq x]
 have zg : g < W.heap.size:=J2
 have HP:=fun (w1 : World) (e : Env (g + 2) W w1)=>(H.out.env e nrf).put (x:=x) WK.out
 clear hg hE hx hn hl
 obtain ⟨a0,ha0⟩ : ∃ q,hiOf (sumN l) = q:=⟨_,rfl⟩
 obtain ⟨a1,ha1⟩ : ∃ q,loOf (sumN l) = q:=⟨_,rfl⟩
 obtain ⟨b0,hb0⟩ : ∃ q,hiOf (sumN l + x.n) = q:=⟨_,rfl⟩
 obtain ⟨b1,hb1⟩ : ∃ q,loOf (sumN l + x.n) = q:=⟨_,rfl⟩
 rw [ha0] at s0
 rw [ha1] at s1
 rw [ha0,ha1,hb0,hb1] at cP
 rw [hb0,hb1] at HP
 have HQ : Hid (∀ w1,Env (g + 2) W w1 → Tot g (l ++ [x]) (((w1.setCell ⟨g,0,none⟩ (.int .i64 b0)).setCell ⟨g,1,none⟩ (.int .u64 b1)).setCell ⟨g + 1,0,none⟩ (.int .i64 (wrap64 ((l.length : Int) + 1))))):=HP
 clear ha0 ha1 hb0 hb1 HP
 obtain ⟨xk,hxk⟩ : ∃ q,x.k = q:=⟨_,rfl⟩
 obtain ⟨xn,hxn⟩ : ∃ q,x.n = q:=⟨_,rfl⟩
 obtain ⟨xs,hxs⟩ : ∃ q,x.s = q:=⟨_,rfl⟩
 obtain ⟨xe,hxe⟩ : ∃ q,x.e = q:=⟨_,rfl⟩
 rw [hxk,hxn,hxs,hxe]
 rw [hxn] at cP
 clear hxk hxn hxs hxe
 go_enter func264,ntmps264
 go_wp2_with fail
 refine (cP _).mono ?_
 rintro e w1 ⟨rfl,E1⟩
 have X1 : Hid (Ext W w1):=(xr.alloc _).trans E1
 have e1:=X1.out.cell
 have d0:=(e1.1 g 0 zg).trans s0
 have d1:=(e1.1 g 1 zg).trans s1
 have d2:=(e1.1 (g + 1) 0 z).trans c0
 have q0:=(e1.2 g 0 zg).trans f0
 have q1:=(e1.2 g 1 zg).trans f1
 have q2:=(e1.2 (g + 1) 0 z).trans f2
 have zc : g + 1 < w1.heap.size:=llL z X1.out.size
 clear E1 e1 s0 s1 c0 f0 f1 f2 cP
 go_wp2_with fail
 go_end0
 refine ⟨rfl,HQ.out w1 (X1.out.env J2),?_⟩
 exact (((X1.out.mid H0.out.2.size _).set H0.out.1 J2 _ _).set H0.out.1 J2 _ _).set (by have:=H0.out.1;omega) J2 _ _
theorem ent_tot1 : ∀ args W,(callFunc 264 args).run Tryz.prog W = .ok (.enter 264 args) W:=enters_of func264 J3 rfl
theorem tot_fn (w0 : World) (g hi : Nat) (hg : w0.heap.size ≤ g) (hh : g + 2 ≤ hi) : FnC w0 hi (.func (.func 264) #[] #[.pointer (some ⟨g,0,none⟩),.pointer (some ⟨g + 1,0,none⟩)]) encV V.ok (fun l W=>Tot g l W):=by
 refine ⟨_,_,rfl,ent_tot1,?_,?_⟩
 · intro l W W' h hs e
   exact h.env e hh
 · intro l W x h hs e hl hx
   exact (tot1_any w0 g hg l W x h e hl hx).mono (fun e w' q=>⟨q.1,q.2.1,q.2.2.wide hh⟩)
theorem numF_okk (x : V) (a : Bool) (h : x.ok) : (numF x a).ok:=by
 rcases numF_ok x a h with k | ⟨e,k,h1⟩ | ⟨n,k,h1⟩
 · cases hv : numF x a with
   | blank=>trivial
   | _=>rw [hv] at k;simp [V.k] at k
 · rw [k];exact h1
 · rw [k];exact h1
theorem FnC.keep {w0 : World} {g : Nat} {v : Value} {α : Type} {enc : α → Array Value} {ok : α → Prop} {P : List α → World → Prop} (h : FnC w0 (g + 2) v enc ok P) (x0 x1 x2 x3 : Value) :
   FnC w0 (g + 3) v enc ok (fun l W=>P l W ∧ Blk W (g + 2) x0 x1 x2 x3 ∧ Own4 W (g + 2)):=by
 obtain ⟨K,cs,rfl,ent,st,ca⟩:=h
 refine ⟨K,cs,rfl,ent,?_,?_⟩
 · intro l W W' ⟨p,b,o⟩ hs e
   obtain ⟨o',eb⟩:=o.env e J2
   exact ⟨st _ _ _ p J2 (e.down J2),b.cells e.1.size eb,o'⟩
 · intro l W x ⟨p,b,o⟩ hs e hl hx
   refine (ca l W x p J2 e hl hx).mono ?_
   rintro e w' ⟨h1,h2,h3⟩
   obtain ⟨o',eb⟩:=o.mid h3 nrf
   exact ⟨h1,⟨h2,b.cells h3.1.size eb,o'⟩,h3.wide J2⟩
def RetT (w0 : World) (cs : List (Nat × Nat × Value)) (V : World) : Prop:=Ext w0 V ∧ ∀ q ∈ cs,w0.heap.size ≤ q.1 ∧ V.cell? ⟨q.1,q.2.1,none⟩ = some q.2.2 ∧ V.frozen? ⟨q.1,q.2.1,none⟩ = false
theorem RetT.ext {w0 V V' : World} {cs : List (Nat × Nat × Value)} (h : RetT w0 cs V) (e : Ext V V') : RetT w0 cs V' :=
 ⟨h.1.trans e,fun q hq=>by
   obtain ⟨h1,h2,h3⟩:=h.2 q hq
   have z:=World.block_lt_of_cell? _ _ h2
   exact ⟨h1,(e.cell.1 _ _ z).trans h2,(e.cell.2 _ _ z).trans h3⟩⟩
theorem RetT.drew {w0 V : World} {cs : List (Nat × Nat × Value)} (h : RetT w0 cs V) : RetT w0 cs V.drew:=h.ext xr.drew
theorem RetT.drewN {w0 V : World} {cs : List (Nat × Nat × Value)} {n : Nat} (h : RetT w0 cs V) : RetT w0 cs (V.drewN n):=h.ext (xr.drewN n)
theorem RetT.set {w0 V : World} {cs : List (Nat × Nat × Value)} {b o : Nat} {v : Value} (h : RetT w0 cs V) (hm : (b,o,v) ∈ cs) : RetT w0 cs (V.setCell ⟨b,o,none⟩ v):=by
 obtain ⟨m1,m2,m3⟩:=h.2 _ hm
 refine ⟨h.1.setCell m1 _,fun q hq=>?_⟩
 obtain ⟨h1,h2,h3⟩:=h.2 q hq
 refine ⟨h1,?_,by simpa [go_sem] using h3⟩
 by_cases hc : q.1 = b ∧ q.2.1 = o
 · obtain ⟨rfl,rfl⟩:=hc
   have : some q.2.2 = some v:=h2.symm.trans m2
   rw [wSa _ _ _ (by rw [h2])]
   exact this.symm
 · rw [wO _ _ _ _ (by simp;intro e1 e2;exact hc ⟨e1.symm,e2.symm⟩)]
   exact h2
theorem RetT.put {w0 V : World} {cs : List (Nat × Nat × Value)} {b : Nat} {o0 o1 o2 o3 : Value} (h : RetT w0 cs V) (hb : w0.heap.size ≤ b) (hn : ∀ q ∈ cs,b ≠ q.1) (B : Blk V b o0 o1 o2 o3) (x0 x1 x2 x3 : Value) :
   RetT w0 (cs ++ [(b,0,x0),(b,1,x1),(b,2,x2),(b,3,x3)]) (put4 V b x0 x1 x2 x3):=by
 obtain ⟨_,⟨k0,k1,k2,k3⟩,f0,f1,f2,f3⟩:=B.set x0 x1 x2 x3
 refine ⟨(((h.1.setCell hb _).setCell hb _).setCell hb _).setCell hb _,fun q hq=>?_⟩
 rcases List.mem_append.1 hq with hq | hq
 · obtain ⟨h1,h2,h3⟩:=h.2 q hq
   have:=hn q hq
   refine ⟨h1,?_,?_⟩
   · unfold put4
     iterate 4 rw [wFa _ _ _ _ this]
     exact h2
   · unfold put4
     simpa [go_sem] using h3
 · simp only [List.mem_cons,List.not_mem_nil,or_false] at hq
   rcases hq with rfl | rfl | rfl | rfl
   · exact ⟨hb,k0,f0⟩
   · exact ⟨hb,k1,f1⟩
   · exact ⟨hb,k2,f2⟩
   · exact ⟨hb,k3,f3⟩
def Zer (W : World) (b : Nat) : Prop:=Blk W b (.int .i64 0) (.int .i64 0) (.string ⟨#[]⟩) (.int .i64 0) ∧ Own4 W b
theorem total_any (w0 : World) (gs : List Ag) (p : Option Addr) (n c : Nat) (hA : RdA w0.heap.size w0 (.slice p n c) gs) (hI : AgI gs) (hlen : (seen gs).length ≤ 10000000000) (hal : gs.length ≤ 10000000000) (hN : Nm w0) :
   Calls Tryz.prog 228 #[.slice p n c] w0 fun e w'=>e = .returned (.tuple #[.agg #[.int .i64 (hiOf (sumN (got numF (seen gs)))),.int .u64 (loOf (sumN (got numF (seen gs))))],.int .i64 ((got numF (seen gs)).length : Int),(bad numF (seen gs)).dat]) ∧ Ext w0 w':=by
 have HF : Hid (FnC w0 (w0.heap.size + 3) (.func (.func 264) #[] #[.pointer (some ⟨w0.heap.size,0,none⟩),.pointer (some ⟨w0.heap.size + 1,0,none⟩)]) encV V.ok (fun l W=>Tot w0.heap.size l W ∧ Zer W (w0.heap.size + 2))):=(tot_fn w0 w0.heap.size _ nrf nrf).keep _ _ _ _
 have H0 : Hid (RdA w0.heap.size w0 (.slice p n c) gs ∧ AgI gs ∧ (seen gs).length ≤ 10000000000 ∧ gs.length ≤ 10000000000 ∧ Nm w0):=⟨hA,hI,hlen,hal,hN⟩
 clear hA hI hlen hal hN
 go_enter func228,ntmps228
 go_wp2_with fail
 generalize hW3 : ((w0.alloc _).alloc _).alloc _ = W3
 have z3 : W3.heap.size = w0.heap.size + 3:=J78
 have E3 : Ext w0 W3:=J79
 have HT : Tot w0.heap.size [] W3:=by
   refine ⟨by omega,?_,?_,?_,?_,?_,?_⟩
   all_goals (rw [← hW3];simp [go_sem,sumN];try decide)
 have B3 : Blk W3 (w0.heap.size + 2) (.int .i64 0) (.int .i64 0) (.string ⟨#[]⟩) (.int .i64 0):=by rw [← hW3];exact blk_top J58 xr
 have O3 : Own4 W3 (w0.heap.size + 2):=by rw [← hW3];exact Own4.at J58 J9 xr
 refine (through_any w0 gs _ _ numF (fun l W=>Tot w0.heap.size l W ∧ Zer W (w0.heap.size + 2)) W3 p n c (turn_number w0 H0.out.2.2.2.2) (by rw [z3];exact HF.out) numF_okk (H0.out.1.low (Below.mono E3 nrf)) H0.out.2.1 H0.out.2.2.1 H0.out.2.2.2.1 ⟨HT,B3,O3⟩ E3 H0.out.2.2.2.2).mono ?_
 rintro e w4 ⟨rfl,⟨T4,B4,O4⟩,X4⟩
 obtain ⟨c0z,⟨c0_0,c0_1,c0_2,c0_3⟩,c0f0,c0f1,c0f2,c0f3⟩:=B4
 have HB4 : Hid (Blk w4 (w0.heap.size + 2) (.int .i64 0) (.int .i64 0) (.string ⟨#[]⟩) (.int .i64 0)):=⟨c0z,⟨c0_0,c0_1,c0_2,c0_3⟩,c0f0,c0f1,c0f2,c0f3⟩
 obtain ⟨tz,t0,t1,t2,g0,g1,g2⟩:=T4
 have HD : Hid ((bad numF (seen gs)).dat = .agg #[.int .i64 (bad numF (seen gs)).k,.int .i64 (bad numF (seen gs)).n,.string (bad numF (seen gs)).s,.int .i64 (bad numF (seen gs)).e]):=dat_eq _
 have hD:=dat_eq (bad numF (seen gs))
 obtain ⟨A0,hA0⟩ : ∃ q,hiOf (sumN (got numF (seen gs))) = q:=⟨_,rfl⟩
 obtain ⟨A1,hA1⟩ : ∃ q,loOf (sumN (got numF (seen gs))) = q:=⟨_,rfl⟩
 obtain ⟨C0,hC0⟩ : ∃ q : Int,((got numF (seen gs)).length : Int) = q:=⟨_,rfl⟩
 obtain ⟨zk,hzk⟩ : ∃ q,(bad numF (seen gs)).k = q:=⟨_,rfl⟩
 obtain ⟨zn,hzn⟩ : ∃ q,(bad numF (seen gs)).n = q:=⟨_,rfl⟩
 obtain ⟨zs',hzs⟩ : ∃ q,(bad numF (seen gs)).s = q:=⟨_,rfl⟩
 obtain ⟨ze,hze⟩ : ∃ q,(bad numF (seen gs)).e = q:=⟨_,rfl⟩
 have HR : Hid (hiOf (sumN (got numF (seen gs))) = A0 ∧ loOf (sumN (got numF (seen gs))) = A1 ∧ ((got numF (seen gs)).length : Int) = C0):=⟨hA0,hA1,hC0⟩
 rw [hzk,hzn,hzs,hze] at HD hD
 rw [hA0] at t0
 rw [hA1] at t1
 rw [hC0] at t2
 rw [hD]
 clear hA0 hA1 hC0 hzk hzn hzs hze hW3 z3 E3 HT B3 O3 O4 hD
 have HR4 : Hid (RetT w0 [(w0.heap.size,0,.int .i64 A0),(w0.heap.size,1,.int .u64 A1),(w0.heap.size + 1,0,.int .i64 C0)] w4):=by
   refine ⟨X4,fun q hq=>?_⟩
   simp only [List.mem_cons,List.not_mem_nil,or_false] at hq
   rcases hq with rfl | rfl | rfl
   · exact ⟨Nat.le_refl _,t0,g0⟩
   · exact ⟨Nat.le_refl _,t1,g1⟩
   · exact ⟨Nat.le_succ _,t2,g2⟩
 clear X4
 have tz0 : w0.heap.size < w4.heap.size:=J2
 go_wp2_with fail
 generalize hW5 : World.setCell _ ⟨w0.heap.size + 1 + 1,3,none⟩ _ = W5
 have HR5 : RetT w0 [(w0.heap.size,0,.int .i64 A0),(w0.heap.size,1,.int .u64 A1),(w0.heap.size + 1,0,.int .i64 C0),(w0.heap.size + 2,0,.int .i64 zk),(w0.heap.size + 2,1,.int .i64 zn),(w0.heap.size + 2,2,.string zs'),(w0.heap.size + 2,3,.int .i64 ze)] W5:=by
   rw [← hW5]
   exact HR4.out.put (b:=w0.heap.size + 2) J2 (by intro q hq;simp only [List.mem_cons,List.not_mem_nil,or_false] at hq;rcases hq with rfl | rfl | rfl <;> (show w0.heap.size + 2 ≠ _;omega)) HB4.out _ _ _ _
 clear hW5 tz0 tz g0 g1 g2 t0 t1 t2 c0z c0_0 c0_1 c0_2 c0_3 c0f0 c0f1 c0f2 c0f3 HB4 HR4 HF
 have mkS : Hid (∀ V,RetT w0 [(w0.heap.size,0,.int .i64 A0),(w0.heap.size,1,.int .u64 A1),(w0.heap.size + 1,0,.int .i64 C0),(w0.heap.size + 2,0,.int .i64 zk),(w0.heap.size + 2,1,.int .i64 zn),(w0.heap.size + 2,2,.string zs'),(w0.heap.size + 2,3,.int .i64 ze)] V →
     (((V.cell? ⟨w0.heap.size,0,none⟩ = some (.int .i64 A0) ∧ V.cell? ⟨w0.heap.size,1,none⟩ = some (.int .u64 A1) ∧ V.cell? ⟨w0.heap.size + 1,0,none⟩ = some (.int .i64 C0) ∧ V.cell? ⟨w0.heap.size + 2,0,none⟩ = some (.int .i64 zk) ∧ V.cell? ⟨w0.heap.size + 2,1,none⟩ = some (.int .i64 zn) ∧ V.cell? ⟨w0.heap.size + 2,2,none⟩ = some (.string zs') ∧ V.cell? ⟨w0.heap.size + 2,3,none⟩ = some (.int .i64 ze)) ∧
      (V.frozen? ⟨w0.heap.size,0,none⟩ = false ∧ V.frozen? ⟨w0.heap.size,1,none⟩ = false ∧ V.frozen? ⟨w0.heap.size + 1,0,none⟩ = false ∧ V.frozen? ⟨w0.heap.size + 2,0,none⟩ = false ∧ V.frozen? ⟨w0.heap.size + 2,1,none⟩ = false ∧ V.frozen? ⟨w0.heap.size + 2,2,none⟩ = false ∧ V.frozen? ⟨w0.heap.size + 2,3,none⟩ = false)) ∧
      RetT w0 [(w0.heap.size,0,.int .i64 A0),(w0.heap.size,1,.int .u64 A1),(w0.heap.size + 1,0,.int .i64 C0),(w0.heap.size + 2,0,.int .i64 zk),(w0.heap.size + 2,1,.int .i64 zn),(w0.heap.size + 2,2,.string zs'),(w0.heap.size + 2,3,.int .i64 ze)] V)):=by
   intro V h
   exact ⟨⟨⟨(h.2 (_,_,_) J58).2.1,(h.2 (_,_,_) J58).2.1,(h.2 (_,_,_) J58).2.1,(h.2 (_,_,_) J58).2.1,(h.2 (_,_,_) J58).2.1,(h.2 (_,_,_) J58).2.1,(h.2 (_,_,_) J58).2.1⟩,
     (h.2 (_,_,.int .i64 A0) J58).2.2,(h.2 (_,_,.int .u64 A1) J58).2.2,(h.2 (_,_,.int .i64 C0) J58).2.2,(h.2 (_,_,.int .i64 zk) J58).2.2,(h.2 (_,_,.int .i64 zn) J58).2.2,(h.2 (_,_,.string zs') J58).2.2,(h.2 (_,_,.int .i64 ze) J58).2.2⟩,h⟩
 have X5 : Hid (Ext w0 W5):=HR5.1
 obtain ⟨⟨⟨k0,k1,k2,k3,k4,k5,k6⟩,f0,f1,f2,f3,f4,f5,f6⟩,_⟩:=mkS.out _ HR5
 have zz : w0.heap.size + 2 < W5.heap.size:=World.block_lt_of_cell? _ _ k3
 have zz1 : w0.heap.size + 1 < W5.heap.size:=World.block_lt_of_cell? _ _ k2
 have zz0 : w0.heap.size < W5.heap.size:=World.block_lt_of_cell? _ _ k0
 clear HR5
 have HR6 : Hid (RetT w0 [(w0.heap.size,0,.int .i64 A0),(w0.heap.size,1,.int .u64 A1),(w0.heap.size + 1,0,.int .i64 C0),(w0.heap.size + 2,0,.int .i64 zk),(w0.heap.size + 2,1,.int .i64 zn),(w0.heap.size + 2,2,.string zs'),(w0.heap.size + 2,3,.int .i64 ze)] W5):=by
   refine ⟨X5.out,fun q hq=>?_⟩
   simp only [List.mem_cons,List.not_mem_nil,or_false] at hq
   rcases hq with rfl | rfl | rfl | rfl | rfl | rfl | rfl
   · exact ⟨Nat.le_refl _,k0,f0⟩
   · exact ⟨Nat.le_refl _,k1,f1⟩
   · exact ⟨Nat.le_succ _,k2,f2⟩
   · exact ⟨by show _ ≤ _ + 2;omega,k3,f3⟩
   · exact ⟨by show _ ≤ _ + 2;omega,k4,f4⟩
   · exact ⟨by show _ ≤ _ + 2;omega,k5,f5⟩
   · exact ⟨by show _ ≤ _ + 2;omega,k6,f6⟩
 go_region
 all_goals
   go_wp2_with fail
   clear k0 k1 k2 k3 k4 k5 k6 f0 f1 f2 f3 f4 f5 f6 zz zz1 zz0
   generalize hW6 : World.drew _ = W6
   have R6:=mkS.out W6 (by rw [← hW6];with_reducible repeat (first | exact HR6.out | apply RetT.drewN | apply RetT.drew | (refine RetT.set ?_ J58)))
   obtain ⟨⟨⟨k0,k1,k2,k3,k4,k5,k6⟩,_⟩,R6⟩:=R6
   refine bodyPost_ret (v:=.tuple #[.agg #[.int .i64 A0,.int .u64 A1],.int .i64 C0,.agg #[.int .i64 zk,.int .i64 zn,.string zs',.int .i64 ze]]) (by simp [results,results228,go_sem,k0,k1,k2,k3,k4,k5,k6]) rfl ⟨?_,R6.1⟩
   rw [HR.out.1,HR.out.2.1,HR.out.2.2,HD.out]
end Go.Proofs.YtcfgbiaahangmaaGreatDoor
