import Derived.Test.YtcfgbiaahangmaaGreatDoorC12
set_option maxHeartbeats 1000000
set_option maxRecDepth 100000
namespace Go.Proofs.YtcfgbiaahangmaaGreatDoor
open Go.Proofs.Tryz
open Go.RowKit
theorem numK_cases (s:ByteArray):(numK s = true∧numR s = readV s)∨(numK s = false∧readV s = .err 2):=by
 unfold numK numR readV
 rcases rdK_cases s.data.toList with h | h | h <;> rw [h]
 · exact .inr ⟨rfl,rfl⟩
 · exact .inl ⟨rfl,rfl⟩
 · exact .inl ⟨rfl,rfl⟩
theorem vtonum_any (k n:Int) (s:ByteArray) (e:Int) (w:World) (hn:I64 n) (hN:Nm w) :
   Calls Tryz.prog 96 #[.agg #[.int .i64 k,.int .i64 n,.string s,.int .i64 e]] w fun r w'=>r = .returned ((nm k n s e).toNum.dat)∧Ext w w':=by
 have c0:=fun W h=>vnormal_any k n s e W h
 have ok:=nm_ok k n s e hn
 clear hn
 generalize nm k n s e = v at c0 ok ⊢
 cases v with
 | blank =>
   simp only [V.dat] at c0
   have c1:=fun W h=>vnum_any 0 W h
   rw [mkNum_is J9] at c1
   exact K12
 | tf b =>
   simp only [V.dat] at c0
   cases b with
   | false =>
     simp only [Bool.false_eq_true,if_false] at c0
     have c1:=fun W h=>vnum_any 0 W h
     rw [mkNum_is J9] at c1
     exact K12
   | true =>
     simp only [if_true] at c0
     have c1:=fun W h=>vnum_any 10000 W h
     rw [mkNum_is J9] at c1
     exact K12
 | num n =>
   simp only [V.dat] at c0
   have c1:=fun W h=>vnum_any n W h
   rw [mkNum_is ok.2] at c1
   exact K12
 | text s =>
   simp only [V.dat] at c0
   have c1:=fun W h=>numeral_any s W (Nat.le_trans ok J9) h
   have c2:=fun W h=>err_any 2 W h
   rw [mkErr_is ⟨by decide,by decide⟩] at c2
   simp only [V.dat] at c2
   have hk:=numK_cases s
   clear ok
   rcases hk with ⟨h1,h2⟩ | ⟨h1,h2⟩
   · rw [h1] at c1
     obtain ⟨q0,q1,q2,q3,hq⟩:=dat4 (numR s)
     rw [hq] at c1
     have H:Hid ((V.text s).toNum.dat = .agg #[.int .i64 q0,.int .i64 q1,.string q2,.int .i64 q3]):=by show (readV s).dat = _;rw [← h2];exact hq
     clear hq h1 h2 c2
     go_enter func96,ntmps96
     go_wp2_with fail
     refine (c0 _ (hN.ext J0)).mono ?_
     rintro r w1 ⟨rfl,E1⟩
     have X1:Ext w w1:=Ext.trans J0 E1
     have B0_1:=blk_top (b:=w.heap.size) J65 ((xr.alloc _).trans E1)
     have B1_1:=blk_top (b:=w.heap.size+1) J65 E1
     have D0:=B0_1
     obtain ⟨b0z,⟨b0_0,b0_1,b0_2,b0_3⟩,b0f0,b0f1,b0f2,b0f3⟩:=D0
     have D1:=B1_1
     obtain ⟨b1z,⟨b1_0,b1_1,b1_2,b1_3⟩,b1f0,b1f1,b1f2,b1f3⟩:=D1
     go_wp2_with fail
     refine (c1 _ (hN.ext J0)).mono ?_
     rintro r w2 ⟨rfl,E2⟩
     have X2:Ext w w2:=Ext.trans J0 E2
     have B1_2:=(B1_1.far (c:=w.heap.size) J65 _ _ _ _).ext E2
     have D1:=B1_2
     obtain ⟨b1z,⟨b1_0,b1_1,b1_2,b1_3⟩,b1f0,b1f1,b1f2,b1f3⟩:=D1
     go_wp2_with fail
     exact finB ((B1_2.set _ _ _ _).ext (xr.alloc _)) rfl J0 J24 (fun h=>⟨by rw [H.out],h⟩)
   · rw [h1] at c1
     obtain ⟨q0,q1,q2,q3,hq⟩:=dat4 (numR s)
     rw [hq] at c1
     have H:Hid ((V.text s).toNum = .err 2):=h2
     clear hq h1 h2
     go_enter func96,ntmps96
     go_wp2_with fail
     refine (c0 _ (hN.ext J0)).mono ?_
     rintro r w1 ⟨rfl,E1⟩
     have X1:Ext w w1:=Ext.trans J0 E1
     have B0_1:=blk_top (b:=w.heap.size) J65 ((xr.alloc _).trans E1)
     have B1_1:=blk_top (b:=w.heap.size+1) J65 E1
     have D0:=B0_1
     obtain ⟨b0z,⟨b0_0,b0_1,b0_2,b0_3⟩,b0f0,b0f1,b0f2,b0f3⟩:=D0
     have D1:=B1_1
     obtain ⟨b1z,⟨b1_0,b1_1,b1_2,b1_3⟩,b1f0,b1f1,b1f2,b1f3⟩:=D1
     go_wp2_with fail
     refine (c1 _ (hN.ext J0)).mono ?_
     rintro r w2 ⟨rfl,E2⟩
     have X2:Ext w w2:=Ext.trans J0 E2
     have B1_2:=(B1_1.far (c:=w.heap.size) J65 _ _ _ _).ext E2
     have D1:=B1_2
     obtain ⟨b1z,⟨b1_0,b1_1,b1_2,b1_3⟩,b1f0,b1f1,b1f2,b1f3⟩:=D1
     go_wp2_with fail
     refine (c2 _ (hN.ext J0)).mono ?_
     rintro r w3 ⟨rfl,E3⟩
     have X3:Ext w w3:=Ext.trans J0 E3
     have B1_3:=(B1_2.ext (xr.alloc _)).ext E3
     have D1:=B1_3
     obtain ⟨b1z,⟨b1_0,b1_1,b1_2,b1_3⟩,b1f0,b1f1,b1f2,b1f3⟩:=D1
     go_wp2_with fail
     exact finB (B1_3.set _ _ _ _) rfl J0 J24 (fun h=>⟨by rw [H.out];rfl,h⟩)
 | err e =>
   simp only [V.dat] at c0
   clear ok
   go_enter func96,ntmps96
   go_wp2_with fail
   refine (c0 _ (hN.ext J0)).mono ?_
   rintro r w1 ⟨rfl,E1⟩
   have X1:Ext w w1:=Ext.trans J0 E1
   have B0_1:=blk_top (b:=w.heap.size) J65 ((xr.alloc _).trans E1)
   have B1_1:=blk_top (b:=w.heap.size+1) J65 E1
   have D0:=B0_1
   obtain ⟨b0z,⟨b0_0,b0_1,b0_2,b0_3⟩,b0f0,b0f1,b0f2,b0f3⟩:=D0
   have D1:=B1_1
   obtain ⟨b1z,⟨b1_0,b1_1,b1_2,b1_3⟩,b1f0,b1f1,b1f2,b1f3⟩:=D1
   go_wp2_with fail
   exact finB ((B1_1.far (c:=w.heap.size) J65 _ _ _ _).set _ _ _ _) rfl J0 J24 (fun h=>⟨rfl,h⟩)
theorem told_add (a b:Int) (ha:I64 a) (hb:I64 b) (B:Nat) (w:World) (hN:Nm w) (hB:B < w.heap.size) (hc:w.cell? ⟨B,0,none⟩ = some (.func (.func 171) #[] #[])) :
   Calls Tryz.prog 218 #[.int .i64 a,.int .i64 b,.pointer (some ⟨B,0,none⟩)] w fun r w'=>r = .returned (toldR (addB a b) (addV a b)).dat∧Ext w w':=by
 have c1:=fun W=>add_any a b ha hb W
 have c2:=fun W h=>vnum_any (addV a b) W h
 have c3:=fun W h=>err_any 4 W h
 rw [mkErr_is ⟨by decide,by decide⟩] at c3
 simp only [V.dat] at c3
 cases hz:addB a b
 · rw [hz] at c1
   clear hz ha hb c2
   generalize addV a b = n at *
   exact K17
 · rw [hz] at c1
   obtain ⟨q0,q1,q2,q3,hq⟩:=dat4 (mkNum (addV a b))
   rw [hq] at c2
   have H:Hid ((toldR true (addV a b)).dat = .agg #[.int .i64 q0,.int .i64 q1,.string q2,.int .i64 q3]):=hq
   clear hq hz ha hb c3
   generalize addV a b = n at *
   exact K15
theorem told_sub (a b:Int) (ha:I64 a) (hb:I64 b) (B:Nat) (w:World) (hN:Nm w) (hB:B < w.heap.size) (hc:w.cell? ⟨B,0,none⟩ = some (.func (.func 172) #[] #[])) :
   Calls Tryz.prog 218 #[.int .i64 a,.int .i64 b,.pointer (some ⟨B,0,none⟩)] w fun r w'=>r = .returned (toldR (subB a b) (subV a b)).dat∧Ext w w':=by
 have c1:=fun W=>sub_any a b ha hb W
 have c2:=fun W h=>vnum_any (subV a b) W h
 have c3:=fun W h=>err_any 4 W h
 rw [mkErr_is ⟨by decide,by decide⟩] at c3
 simp only [V.dat] at c3
 cases hz:subB a b
 · rw [hz] at c1
   clear hz ha hb c2
   generalize subV a b = n at *
   exact K17
 · rw [hz] at c1
   obtain ⟨q0,q1,q2,q3,hq⟩:=dat4 (mkNum (subV a b))
   rw [hq] at c2
   have H:Hid ((toldR true (subV a b)).dat = .agg #[.int .i64 q0,.int .i64 q1,.string q2,.int .i64 q3]):=hq
   clear hq hz ha hb c3
   generalize subV a b = n at *
   exact K15
theorem told_mul (a b:Int) (ha:I64 a) (hb:I64 b) (B:Nat) (w:World) (hN:Nm w) (hB:B < w.heap.size) (hc:w.cell? ⟨B,0,none⟩ = some (.func (.func 173) #[] #[])) :
   Calls Tryz.prog 218 #[.int .i64 a,.int .i64 b,.pointer (some ⟨B,0,none⟩)] w fun r w'=>r = .returned (toldR (mulB a b) (mulV a b)).dat∧Ext w w':=by
 have c1:=fun W=>mul_any a b ha hb W
 have c2:=fun W h=>vnum_any (mulV a b) W h
 have c3:=fun W h=>err_any 4 W h
 rw [mkErr_is ⟨by decide,by decide⟩] at c3
 simp only [V.dat] at c3
 cases hz:mulB a b
 · rw [hz] at c1
   clear hz ha hb c2
   generalize mulV a b = n at *
   exact K17
 · rw [hz] at c1
   obtain ⟨q0,q1,q2,q3,hq⟩:=dat4 (mkNum (mulV a b))
   rw [hq] at c2
   have H:Hid ((toldR true (mulV a b)).dat = .agg #[.int .i64 q0,.int .i64 q1,.string q2,.int .i64 q3]):=hq
   clear hq hz ha hb c3
   generalize mulV a b = n at *
   exact K15
theorem told_div (a b:Int) (ha:I64 a) (hb:I64 b) (B:Nat) (w:World) (hN:Nm w) (hB:B < w.heap.size) (hc:w.cell? ⟨B,0,none⟩ = some (.func (.func 175) #[] #[])) :
   Calls Tryz.prog 218 #[.int .i64 a,.int .i64 b,.pointer (some ⟨B,0,none⟩)] w fun r w'=>r = .returned (toldR (divB a b) (divV a b)).dat∧Ext w w':=by
 have c1:=fun W=>div_any a b ha hb W
 have c2:=fun W h=>vnum_any (divV a b) W h
 have c3:=fun W h=>err_any 4 W h
 rw [mkErr_is ⟨by decide,by decide⟩] at c3
 simp only [V.dat] at c3
 cases hz:divB a b
 · rw [hz] at c1
   clear hz ha hb c2
   generalize divV a b = n at *
   exact K17
 · rw [hz] at c1
   obtain ⟨q0,q1,q2,q3,hq⟩:=dat4 (mkNum (divV a b))
   rw [hq] at c2
   have H:Hid ((toldR true (divV a b)).dat = .agg #[.int .i64 q0,.int .i64 q1,.string q2,.int .i64 q3]):=hq
   clear hq hz ha hb c3
   generalize divV a b = n at *
   exact K15
theorem div_zero (a b:Int) (hb0:b = 0) (B:Nat) (w:World) (hN:Nm w) :
   Calls Tryz.prog 224 #[.int .i64 a,.int .i64 b,.pointer (some ⟨B,0,none⟩)] w fun r w'=>r = .returned (reckon 47 a b).dat∧Ext w w':=by
 subst hb0
 have c3:=fun W h=>err_any 3 W h
 rw [mkErr_is ⟨by decide,by decide⟩] at c3
 simp only [V.dat] at c3
 go_enter func224,ntmps224
 go_wp2_with fail
 refine (c3 _ (hN.ext J0)).mono ?_
 rintro r w1 ⟨rfl,E1⟩
 have X1:Ext w w1:=Ext.trans J0 E1
 have B0_1:=blk_top (b:=w.heap.size) J65 E1
 have D0:=B0_1
 obtain ⟨b0z,⟨b0_0,b0_1,b0_2,b0_3⟩,b0f0,b0f1,b0f2,b0f3⟩:=D0
 go_wp2_with fail
 exact finB (B0_1.set _ _ _ _) rfl J0 (fun g0 g1 g2 g3=>by simp [results,results224,go_sem,g0,g1,g2,g3]) (fun h=>⟨rfl,h⟩)
theorem div_more (a b:Int) (ha:I64 a) (hb:I64 b) (hb0:b≠0) (B C:Nat) (w:World) (hN:Nm w) (hB:B < w.heap.size) (hC:C < w.heap.size) (hc:w.cell? ⟨B,0,none⟩ = some (.func (.func 218) #[] #[.pointer (some ⟨C,0,none⟩)])) (hd:w.cell? ⟨C,0,none⟩ = some (.func (.func 175) #[] #[])) :
   Calls Tryz.prog 224 #[.int .i64 a,.int .i64 b,.pointer (some ⟨B,0,none⟩)] w fun r w'=>r = .returned (reckon 47 a b).dat∧Ext w w':=by
 have c1:=fun W h (E:Ext w W)=>told_div a b ha hb C W h (llL hC E.sz) ((E.cell.1 C 0 hC).trans hd)
 have hz:(b == 0) = false:=by simpa using hb0
 obtain ⟨q0,q1,q2,q3,hq⟩:=dat4 (toldR (divB a b) (divV a b))
 rw [hq] at c1
 have H:Hid ((reckon 47 a b).dat = .agg #[.int .i64 q0,.int .i64 q1,.string q2,.int .i64 q3]):=by show (reckon 47 a b).dat = _;rw [← hq];unfold reckon;rw [if_neg J9,if_neg J9,if_neg J9,if_neg hb0]
 clear hq ha hb hd hb0
 go_enter func224,ntmps224
 go_wp2_with fail
 refine (c1 _ (hN.ext J0) J0).mono ?_
 rintro r w1 ⟨rfl,E1⟩
 obtain ⟨b0z,⟨b0_0,b0_1,b0_2,b0_3⟩,b0f0,b0f1,b0f2,b0f3⟩:=blk_top (b:=w.heap.size) J65 E1
 have B0_1:=blk_top (b:=w.heap.size) J65 E1
 have X1:Ext w w1:=Ext.trans J0 E1
 go_wp2_with fail
 exact finB (B0_1.set _ _ _ _) rfl J0 (fun g0 g1 g2 g3=>by simp [results,results224,go_sem,g0,g1,g2,g3]) (fun h=>⟨by rw [H.out],h⟩)
theorem told_mk (F:Nat) (w:World):Calls Tryz.prog 170 #[.func (.func F) #[] #[]] w fun r w'=>∃ B,r = .returned (.func (.func 218) #[] #[.pointer (some ⟨B,0,none⟩)])∧w.heap.size≤B∧B < w'.heap.size∧w'.cell? ⟨B,0,none⟩ = some (.func (.func F) #[] #[])∧Ext w w':=by
 have hmf:∀ (fn:Fn) (first cap:Array Value) (w:World),(Instr.makeFunc fn first cap).run Tryz.prog w = .ok (.func fn first cap) w:=fun _ _ _ _=>rfl
 go_enter func170,ntmps170
 exact K163
theorem divided_mk (C:Nat) (w:World):Calls Tryz.prog 174 #[.func (.func 218) #[] #[.pointer (some ⟨C,0,none⟩)]] w fun r w'=>∃ B,r = .returned (.func (.func 224) #[] #[.pointer (some ⟨B,0,none⟩)])∧w.heap.size≤B∧B < w'.heap.size∧w'.cell? ⟨B,0,none⟩ = some (.func (.func 218) #[] #[.pointer (some ⟨C,0,none⟩)])∧Ext w w':=by
 have hmf:∀ (fn:Fn) (first cap:Array Value) (w:World),(Instr.makeFunc fn first cap).run Tryz.prog w = .ok (.func fn first cap) w:=fun _ _ _ _=>rfl
 go_enter func174,ntmps174
 exact K163
def Same (lo:Nat) (w W:World):Prop:=w.heap.size≤W.heap.size∧∀ b o,lo≤b→b < w.heap.size→W.cell? ⟨b,o,none⟩ = w.cell? ⟨b,o,none⟩
theorem Same.refl (lo:Nat) (w:World):Same lo w w:=⟨Nat.le_refl _,fun _ _ _ _=>rfl⟩
theorem Same.ext {lo:Nat} {w W W':World} (h:Same lo w W) (e:Ext W W'):Same lo w W':=⟨Nat.le_trans h.1 e.sz,fun b o hl hb=>(e.cell.1 b o (llL hb h.1)).trans (h.2 b o hl hb)⟩
theorem Same.set {lo:Nat} {w W:World} {p:Addr} {v:Value} (h:Same lo w W) (hc:p.block < lo):Same lo w (W.setCell p v):=by
 refine ⟨by simpa [World.setCell] using h.1,fun b o hl hb=>?_⟩
 rw [wFa _ _ _ _ (by show p.block≠b;omega)]
 exact h.2 b o hl hb
theorem Same.al {lo:Nat} {w W:World} (o:Obj) (h:Same lo w W):Same lo w (W.alloc o):=h.ext (xr.alloc _)
theorem Same.dr {lo:Nat} {w W:World} (h:Same lo w W):Same lo w W.drew:=h.ext (xr.drew)
def Does (op:Int) (G B lo:Nat) (w:World):Prop:=∀ W x y,Same lo w W→I64 x→I64 y→Nm W→Calls Tryz.prog G #[.int .i64 x,.int .i64 y,.pointer (some ⟨B,0,none⟩)] W fun r w'=>r = .returned (reckon op x y).dat∧Ext W w'
theorem operator_add (w:World):Calls Tryz.prog 129 #[.int .u8 43] w fun r w'=>∃ B,r = .returned (.func (.func 218) #[] #[.pointer (some ⟨B,0,none⟩)])∧Ext w w'∧Does 43 218 B w.heap.size w':=by
 have c:=fun W=>told_mk 171 W
 go_enter func129,ntmps129
 go_wp2_with fail
 refine (c _).mono ?_
 rintro r w1 ⟨B,rfl,hl,hB,hc,E1⟩
 go_wp2_with fail
 go_ret
 exact ⟨B,rfl,E1,fun W x y E hx hy hN=>told_add x y hx hy B W hN (llL hB E.1) ((E.2 B 0 hl hB).trans hc)⟩
theorem operator_sub (w:World):Calls Tryz.prog 129 #[.int .u8 45] w fun r w'=>∃ B,r = .returned (.func (.func 218) #[] #[.pointer (some ⟨B,0,none⟩)])∧Ext w w'∧Does 45 218 B w.heap.size w':=by
 have c:=fun W=>told_mk 172 W
 go_enter func129,ntmps129
 go_wp2_with fail
 refine (c _).mono ?_
 rintro r w1 ⟨B,rfl,hl,hB,hc,E1⟩
 go_wp2_with fail
 go_ret
 exact ⟨B,rfl,E1,fun W x y E hx hy hN=>told_sub x y hx hy B W hN (llL hB E.1) ((E.2 B 0 hl hB).trans hc)⟩
theorem operator_mul (w:World):Calls Tryz.prog 129 #[.int .u8 42] w fun r w'=>∃ B,r = .returned (.func (.func 218) #[] #[.pointer (some ⟨B,0,none⟩)])∧Ext w w'∧Does 42 218 B w.heap.size w':=by
 have c:=fun W=>told_mk 173 W
 go_enter func129,ntmps129
 go_wp2_with fail
 refine (c _).mono ?_
 rintro r w1 ⟨B,rfl,hl,hB,hc,E1⟩
 go_wp2_with fail
 go_ret
 exact ⟨B,rfl,E1,fun W x y E hx hy hN=>told_mul x y hx hy B W hN (llL hB E.1) ((E.2 B 0 hl hB).trans hc)⟩
theorem operator_div (w:World):Calls Tryz.prog 129 #[.int .u8 47] w fun r w'=>∃ B,r = .returned (.func (.func 224) #[] #[.pointer (some ⟨B,0,none⟩)])∧Ext w w'∧Does 47 224 B w.heap.size w':=by
 have c:=fun W=>told_mk 175 W
 have d:=fun C W=>divided_mk C W
 go_enter func129,ntmps129
 go_wp2_with fail
 refine (c _).mono ?_
 rintro r w1 ⟨C,rfl,hlC,hC,hc,E1⟩
 go_wp2_with fail
 refine (d C _).mono ?_
 rintro r w2 ⟨B,rfl,hlB,hB,hd,E2⟩
 go_wp2_with fail
 go_ret
 refine ⟨B,rfl,E1.trans E2,fun W x y E hx hy hN=>?_⟩
 by_cases h0:y = 0
 · exact div_zero x y h0 B W hN
 · have hC2:=llL hC E2.sz
   exact div_more x y hx hy h0 B C W hN (llL hB E.1) (llL hC2 E.1) ((E.2 B 0 (Nat.le_trans E1.sz hlB) hB).trans hd) ((E.2 C 0 hlC hC2).trans ((E2.cell.1 C 0 hC).trans hc))
theorem operator_no (op:Int) (w:World) (h:opB op = false):Calls Tryz.prog 129 #[.int .u8 op] w fun r w'=>r = .returned .nilFunc∧w' = w:=by
 have n1:op≠43:=J98
 have n2:op≠45:=J98
 have n3:op≠42:=J98
 have n4:op≠47:=J98
 clear h
 go_enter func129,ntmps129
 exact K29
theorem two_alloc {w:World} {ak an:Int} {sa:ByteArray} {ae bk bn:Int} {sb:ByteArray} {be:Int} {T:TypeId} :
   Two (w.alloc (.cells #[.int .i64 ak,.int .i64 an,.string sa,.int .i64 ae,.int .i64 bk,.int .i64 bn,.string sb,.int .i64 be] T)) w.heap.size ak an sa ae bk bn sb be:=by
 unfold Two;simp [go_sem]
def NE (v:V):Prop:=(∃ n,v = .num n∧I64 n∧canB n = true)∨(∃ e,v = .err e∧1≤e∧e≤5)
theorem ar_ea (op:Int) {a:V} (h:NE a) (k:a.k = 4) (b:V):arith2 op a b = a:=by
 exact K175
theorem ar_eb (op:Int) {a b:V} (h:NE a) (g:NE b) (k:a.k≠4) (l:b.k = 4):arith2 op a b = b:=by
 exact K120
theorem ar_n (op:Int) {a b:V} (h:NE a) (g:NE b) (k:a.k≠4) (l:b.k≠4):arith2 op a b = reckon op a.n b.n∧I64 a.n∧I64 b.n:=by
 rcases h with ⟨n,rfl,i,_⟩ | ⟨e,rfl,_⟩
 · rcases g with ⟨m,rfl,j,_⟩ | ⟨e,rfl,_⟩
   · exact ⟨rfl,i,j⟩
   · simp [V.k] at l
 · simp [V.k] at k
theorem eq_nil (fn:Fn) (a b:Array Value) (W:World):(binOp .eql 154 (.func fn a b) .nilFunc).run Tryz.prog W = .ok (.bool false) W:=by
 have h:=Tryz.underlying154
 exact K62
theorem eq_nil2 (W:World):(binOp .eql 154 .nilFunc .nilFunc).run Tryz.prog W = .ok (.bool true) W:=by
 have h:=Tryz.underlying154
 exact K62
theorem arith_told (op:Int) (ka na:Int) (sa:ByteArray) (ea kb nb:Int) (sb:ByteArray) (eb:Int) (w:World) (hna:I64 na) (hnb:I64 nb) (hN:Nm w)
   (co:∀ W,Calls Tryz.prog 129 #[.int .u8 op] W fun r w'=>∃ B,r = .returned (.func (.func 218) #[] #[.pointer (some ⟨B,0,none⟩)])∧Ext W w'∧Does op 218 B W.heap.size w') :
   Calls Tryz.prog 97 #[.int .u8 op,.agg #[.int .i64 ka,.int .i64 na,.string sa,.int .i64 ea],.agg #[.int .i64 kb,.int .i64 nb,.string sb,.int .i64 eb]] w fun r w' =>
     r = .returned (arith2 op (nm ka na sa ea).toNum (nm kb nb sb eb).toNum).dat∧Ext w w':=by
 have c1:=fun W h=>vtonum_any ka na sa ea W hna h
 have c2:=fun W h=>vtonum_any kb nb sb eb W hnb h
 have n1:=toNum_cases (nm ka na sa ea) (nm_ok _ _ _ _ hna)
 have n2:=toNum_cases (nm kb nb sb eb) (nm_ok _ _ _ _ hnb)
 have e0:=fun fn a b W=>eq_nil fn a b W
 generalize (nm ka na sa ea).toNum = a at c1 n1 ⊢
 generalize (nm kb nb sb eb).toNum = b at c2 n2 ⊢
 rw [dat_eq] at c1 c2
 have H1:Hid (a.k = 4→(arith2 op a b).dat = .agg #[.int .i64 4,.int .i64 a.n,.string a.s,.int .i64 a.e]):=fun h=>by rw [ar_ea op n1 h b,dat_eq,h]
 have H2:Hid (a.k≠4→b.k = 4→(arith2 op a b).dat = .agg #[.int .i64 4,.int .i64 b.n,.string b.s,.int .i64 b.e]):=fun h g=>by rw [ar_eb op n1 n2 h g,dat_eq,g]
 have H3:Hid (a.k≠4→b.k≠4→arith2 op a b = reckon op a.n b.n∧I64 a.n∧I64 b.n):=fun h g=>ar_n op n1 n2 h g
 clear n1 n2 hna hnb
 generalize a.k = pk at *
 generalize a.n = pn at *
 generalize a.s = ps at *
 generalize a.e = pe at *
 generalize b.k = qk at *
 generalize b.n = qn at *
 generalize b.s = qs at *
 generalize b.e = qe at *
 generalize arith2 op a b = J at *
 clear a b
 go_enter func97,ntmps97
 go_wp2_with fail
 refine (co _).mono ?_
 rintro r w1 ⟨B,rfl,E1,hD⟩
 have hD:Hid (Does op 218 B (w.heap.size+1+1+1) w1):=by show Does _ _ _ _ _;simpa using hD
 exact K1
theorem arith_div (op:Int) (ka na:Int) (sa:ByteArray) (ea kb nb:Int) (sb:ByteArray) (eb:Int) (w:World) (hna:I64 na) (hnb:I64 nb) (hN:Nm w)
   (co:∀ W,Calls Tryz.prog 129 #[.int .u8 op] W fun r w'=>∃ B,r = .returned (.func (.func 224) #[] #[.pointer (some ⟨B,0,none⟩)])∧Ext W w'∧Does op 224 B W.heap.size w') :
   Calls Tryz.prog 97 #[.int .u8 op,.agg #[.int .i64 ka,.int .i64 na,.string sa,.int .i64 ea],.agg #[.int .i64 kb,.int .i64 nb,.string sb,.int .i64 eb]] w fun r w' =>
     r = .returned (arith2 op (nm ka na sa ea).toNum (nm kb nb sb eb).toNum).dat∧Ext w w':=by
 have c1:=fun W h=>vtonum_any ka na sa ea W hna h
 have c2:=fun W h=>vtonum_any kb nb sb eb W hnb h
 have n1:=toNum_cases (nm ka na sa ea) (nm_ok _ _ _ _ hna)
 have n2:=toNum_cases (nm kb nb sb eb) (nm_ok _ _ _ _ hnb)
 have e0:=fun fn a b W=>eq_nil fn a b W
 generalize (nm ka na sa ea).toNum = a at c1 n1 ⊢
 generalize (nm kb nb sb eb).toNum = b at c2 n2 ⊢
 rw [dat_eq] at c1 c2
 have H1:Hid (a.k = 4→(arith2 op a b).dat = .agg #[.int .i64 4,.int .i64 a.n,.string a.s,.int .i64 a.e]):=fun h=>by rw [ar_ea op n1 h b,dat_eq,h]
 have H2:Hid (a.k≠4→b.k = 4→(arith2 op a b).dat = .agg #[.int .i64 4,.int .i64 b.n,.string b.s,.int .i64 b.e]):=fun h g=>by rw [ar_eb op n1 n2 h g,dat_eq,g]
 have H3:Hid (a.k≠4→b.k≠4→arith2 op a b = reckon op a.n b.n∧I64 a.n∧I64 b.n):=fun h g=>ar_n op n1 n2 h g
 clear n1 n2 hna hnb
 generalize a.k = pk at *
 generalize a.n = pn at *
 generalize a.s = ps at *
 generalize a.e = pe at *
 generalize b.k = qk at *
 generalize b.n = qn at *
 generalize b.s = qs at *
 generalize b.e = qe at *
 generalize arith2 op a b = J at *
 clear a b
 go_enter func97,ntmps97
 go_wp2_with fail
 refine (co _).mono ?_
 rintro r w1 ⟨B,rfl,E1,hD⟩
 have hD:Hid (Does op 224 B (w.heap.size+1+1+1) w1):=by show Does _ _ _ _ _;simpa using hD
 exact K1
theorem opB_cases (op:Int) (h:opB op = true):op = 43∨op = 45∨op = 42∨op = 47:=by
 unfold opB at h
 simp at h
 omega
theorem arith_yes (op:Int) (h:opB op = true) (ka na:Int) (sa:ByteArray) (ea kb nb:Int) (sb:ByteArray) (eb:Int) (w:World) (hna:I64 na) (hnb:I64 nb) (hN:Nm w) :
   Calls Tryz.prog 97 #[.int .u8 op,.agg #[.int .i64 ka,.int .i64 na,.string sa,.int .i64 ea],.agg #[.int .i64 kb,.int .i64 nb,.string sb,.int .i64 eb]] w fun r w' =>
     r = .returned (arith op (nm ka na sa ea) (nm kb nb sb eb)).dat∧Ext w w':=by
 unfold arith
 rw [if_pos h]
 rcases opB_cases op h with rfl | rfl | rfl | rfl
 · exact arith_told 43 ka na sa ea kb nb sb eb w hna hnb hN operator_add
 · exact arith_told 45 ka na sa ea kb nb sb eb w hna hnb hN operator_sub
 · exact arith_told 42 ka na sa ea kb nb sb eb w hna hnb hN operator_mul
 · exact arith_div 47 ka na sa ea kb nb sb eb w hna hnb hN operator_div
theorem arith_no (op:Int) (h:opB op = false) (ka na:Int) (sa:ByteArray) (ea kb nb:Int) (sb:ByteArray) (eb:Int) (w:World) (hN:Nm w) :
   Calls Tryz.prog 97 #[.int .u8 op,.agg #[.int .i64 ka,.int .i64 na,.string sa,.int .i64 ea],.agg #[.int .i64 kb,.int .i64 nb,.string sb,.int .i64 eb]] w fun r w' =>
     r = .returned (arith op (nm ka na sa ea) (nm kb nb sb eb)).dat∧Ext w w':=by
 have H:Hid (arith op (nm ka na sa ea) (nm kb nb sb eb) = .err 2):=by show arith _ _ _ = _;unfold arith;rw [h];rfl
 have c1:=fun W=>operator_no op W h
 have c2:=fun W h=>err_any 2 W h
 have e0:=fun W=>eq_nil2 W
 rw [mkErr_is ⟨by decide,by decide⟩] at c2
 simp only [V.dat] at c2
 generalize arith op (nm ka na sa ea) (nm kb nb sb eb) = J at *
 clear h
 go_enter func97,ntmps97
 go_wp2_with fail
 refine (c1 _).mono ?_
 rintro r w1 ⟨rfl,rfl⟩
 go_wp2_with fail
 refine (c2 _ (hN.ext (((xr.alloc _).alloc _).alloc _))).mono ?_
 rintro r w2 ⟨rfl,E2⟩
 have R2:=blk_top (b:=w.heap.size+1+1) J65 E2
 have X2:Ext w w2:=Ext.trans (((xr.alloc _).alloc _).alloc _) E2
 have R3:=R2
 obtain ⟨rz,⟨r0,r1,r2,r3⟩,rf0,rf1,rf2,rf3⟩:=R3
 go_wp2_with fail
 exact finB (R2.set _ _ _ _) rfl ((((X2.setCell J6 _).setCell J6 _).setCell J6 _).setCell J6 _) (fun g0 g1 g2 g3=>by simp [results,results97,go_sem,g0,g1,g2,g3]) (fun h=>⟨by rw [H.out];rfl,h⟩)
theorem arith_any (op:Int) (ka na:Int) (sa:ByteArray) (ea kb nb:Int) (sb:ByteArray) (eb:Int) (w:World) (hna:I64 na) (hnb:I64 nb) (hN:Nm w) :
   Calls Tryz.prog 97 #[.int .u8 op,.agg #[.int .i64 ka,.int .i64 na,.string sa,.int .i64 ea],.agg #[.int .i64 kb,.int .i64 nb,.string sb,.int .i64 eb]] w fun r w' =>
     r = .returned (arith op (nm ka na sa ea) (nm kb nb sb eb)).dat∧Ext w w':=by
 cases h:opB op
 · exact arith_no op h ka na sa ea kb nb sb eb w hN
 · exact arith_yes op h ka na sa ea kb nb sb eb w hna hnb hN
def truR (s:ByteArray):V:=if s.data.toList = trueL then .tf true else if s.data.toList = falseL then .tf false else .blank
def truK (s:ByteArray):Bool:=decide (s.data.toList = trueL) || decide (s.data.toList = falseL)
theorem truth_any (s:ByteArray) (w:World):Calls Tryz.prog 272 #[.string s] w fun r w'=>r = .returned (.tuple #[(truR s).dat,.bool (truK s)])∧Ext w w':=by
 by_cases h:s.data.toList = trueL
 · have c1:=fun W=>vbool_any true W
   simp only [V.dat,if_true] at c1
   have H:Hid (truR s = .tf true∧truK s = true):=by show _∧_;unfold truR truK;rw [if_pos h];simp [h]
   have h1:(s.toList == [84,82,85,69]) = true:=J99
   clear h
   exact K52
 · have h1:(s.toList == [84,82,85,69]) = false:=J100
   by_cases g:s.data.toList = falseL
   · have c1:=fun W=>vbool_any false W
     simp only [V.dat,Bool.false_eq_true,if_false] at c1
     have H:Hid (truR s = .tf false∧truK s = true):=by show _∧_;unfold truR truK;rw [if_neg h,if_pos g];simp [g]
     have h2:(s.toList == [70,65,76,83,69]) = true:=J101
     clear h g
     exact K52
   · have H:Hid (truR s = .blank∧truK s = false):=by show _∧_;unfold truR truK;rw [if_neg h,if_neg g];simp [h,g]
     have h2:(s.toList == [70,65,76,83,69]) = false:=J102
     clear h g
     go_enter func272,ntmps272
     go_wp2_with fail
     simp [bodyPost,results,results272,go_sem]
     rw [H.out.1,H.out.2]
     exact ⟨⟨rfl,rfl⟩,(xr.alloc _)⟩
theorem truthname_any (k n:Int) (s:ByteArray) (e:Int) (b:Bool) (hb:(n == 0) = !b) (w:World):Calls Tryz.prog 225 #[.agg #[.int .i64 k,.int .i64 n,.string s,.int .i64 e]] w fun r w'=>r = .returned (.string (bs (if b then trueL else falseL)))∧Ext w w':=by
 cases b
 all_goals
   simp only [Bool.not_true,Bool.not_false] at hb
   go_enter func225,ntmps225
   go_wp2_with fail
   go_ret
   exact ⟨rfl,xr.alloc _⟩
theorem vshow_any (k n:Int) (s:ByteArray) (e:Int) (w:World) (hn:I64 n) (hT:Tab w) (hN:Nm w) :
   Calls Tryz.prog 176 #[.agg #[.int .i64 k,.int .i64 n,.string s,.int .i64 e]] w fun r w'=>r = .returned (.string (nm k n s e).shown)∧Ext w w':=by
 have c0:=fun W h=>vnormal_any k n s e W h
 have ok:=nm_ok k n s e hn
 clear hn
 generalize nm k n s e = v at c0 ok ⊢
 cases v with
 | blank =>
   exact K67
 | tf b =>
   simp only [V.dat] at c0
   cases b with
   | false =>
     simp only [Bool.false_eq_true,if_false] at c0
     have c1:=fun W=>truthname_any 1 0 ⟨#[]⟩ 0 false J9 W
     exact K54
   | true =>
     simp only [if_true] at c0
     have c1:=fun W=>truthname_any 1 1 ⟨#[]⟩ 0 true J9 W
     exact K54
 | num n =>
   simp only [V.dat] at c0
   have c1:=fun W h=>print_any n ok.1 W h
   have H:Hid ((V.num n).shown = ⟨(printL n).toArray⟩):=rfl
   generalize (⟨(printL n).toArray⟩:ByteArray) = q at *
   clear ok
   go_enter func176,ntmps176
   go_wp2_with fail
   refine (c0 _ (hN.ext J0)).mono ?_
   rintro r w1 ⟨rfl,E1⟩
   have X1:Ext w w1:=Ext.trans J0 E1
   have B0_1:=blk_top (b:=w.heap.size) J65 E1
   have D0:=B0_1
   obtain ⟨b0z,⟨b0_0,b0_1,b0_2,b0_3⟩,b0f0,b0f1,b0f2,b0f3⟩:=D0
   go_wp2_with fail
   refine (c1 _ (hT.ext J0)).mono ?_
   rintro r w2 ⟨rfl,E2⟩
   have X2:Ext w w2:=Ext.trans J0 E2
   go_wp2_with fail
   go_ret
   exact ⟨by rw [H.out];rfl,J0⟩
 | text s =>
   exact K67
 | err e =>
   simp only [V.dat] at c0
   have c1:=fun W h=>errname_any e W h
   have H:Hid ((V.err e).shown = bs (errName e)):=rfl
   generalize bs (errName e) = q at *
   clear ok hT
   go_enter func176,ntmps176
   go_wp2_with fail
   refine (c0 _ (hN.ext J0)).mono ?_
   rintro r w1 ⟨rfl,E1⟩
   have X1:Ext w w1:=Ext.trans J0 E1
   have B0_1:=blk_top (b:=w.heap.size) J65 E1
   have D0:=B0_1
   obtain ⟨b0z,⟨b0_0,b0_1,b0_2,b0_3⟩,b0f0,b0f1,b0f2,b0f3⟩:=D0
   go_wp2_with fail
   refine (c1 _ (hN.ext J0)).mono ?_
   rintro r w2 ⟨rfl,rfl⟩
   go_wp2_with fail
   go_ret
   exact ⟨by rw [H.out];rfl,J0⟩
theorem vtotext_any (k n:Int) (s:ByteArray) (e:Int) (w:World) (hn:I64 n) (hT:Tab w) (hN:Nm w) :
   Calls Tryz.prog 131 #[.agg #[.int .i64 k,.int .i64 n,.string s,.int .i64 e]] w fun r w'=>r = .returned ((nm k n s e).toText.dat)∧Ext w w':=by
 have c0:=fun W h=>vnormal_any k n s e W h
 have ok:=nm_ok k n s e hn
 clear hn
 generalize nm k n s e = v at c0 ok ⊢
 cases v with
 | blank =>
   simp only [V.dat] at c0
   have c1:=fun W h t=>vshow_any 0 0 ⟨#[]⟩ 0 W ⟨by decide,by decide⟩ t h
   rw [nm_blank] at c1
   have hz:=shown_size (V.blank) ok
   have c2:=fun W h=>vtext_any (V.blank).shown W h
   rw [mkText_is hz] at c2
   simp only [V.dat] at c2
   have H:Hid ((V.blank).toText = .text (V.blank).shown):=rfl
   generalize (V.blank).shown = q at *
   exact K7
 | tf b =>
   simp only [V.dat] at c0
   cases b with
   | false =>
     simp only [Bool.false_eq_true,if_false] at c0
     have c1:=fun W h t=>vshow_any 1 0 ⟨#[]⟩ 0 W ⟨by decide,by decide⟩ t h
     rw [show nm 1 0 ⟨#[]⟩ 0 = .tf false from rfl] at c1
     have hz:=shown_size (V.tf false) ok
     have c2:=fun W h=>vtext_any (V.tf false).shown W h
     rw [mkText_is hz] at c2
     simp only [V.dat] at c2
     have H:Hid ((V.tf false).toText = .text (V.tf false).shown):=rfl
     generalize (V.tf false).shown = q at *
     exact K7
   | true =>
     simp only [if_true] at c0
     have c1:=fun W h t=>vshow_any 1 1 ⟨#[]⟩ 0 W ⟨by decide,by decide⟩ t h
     rw [show nm 1 1 ⟨#[]⟩ 0 = .tf true from rfl] at c1
     have hz:=shown_size (V.tf true) ok
     have c2:=fun W h=>vtext_any (V.tf true).shown W h
     rw [mkText_is hz] at c2
     simp only [V.dat] at c2
     have H:Hid ((V.tf true).toText = .text (V.tf true).shown):=rfl
     generalize (V.tf true).shown = q at *
     exact K7
 | num n =>
   simp only [V.dat] at c0
   have c1:=fun W h t=>vshow_any 2 n ⟨#[]⟩ 0 W ok.1 t h
   rw [nm_num ok.2] at c1
   have hz:=shown_size (V.num n) ok
   have c2:=fun W h=>vtext_any (V.num n).shown W h
   rw [mkText_is hz] at c2
   simp only [V.dat] at c2
   have H:Hid ((V.num n).toText = .text (V.num n).shown):=rfl
   generalize (V.num n).shown = q at *
   exact K7
 | text s =>
   simp only [V.dat] at c0
   have c1:=fun W h t=>vshow_any 3 0 s 0 W ⟨by decide,by decide⟩ t h
   rw [nm_text ok] at c1
   have hz:=shown_size (V.text s) ok
   have c2:=fun W h=>vtext_any (V.text s).shown W h
   rw [mkText_is hz] at c2
   simp only [V.dat] at c2
   have H:Hid ((V.text s).toText = .text (V.text s).shown):=rfl
   generalize (V.text s).shown = q at *
   exact K7
 | err e =>
   simp only [V.dat] at c0
   clear ok hT
   go_enter func131,ntmps131
   go_wp2_with fail
   refine (c0 _ (hN.ext J0)).mono ?_
   rintro r w1 ⟨rfl,E1⟩
   have X1:Ext w w1:=Ext.trans J0 E1
   have B0_1:=blk_top (b:=w.heap.size) J65 ((xr.alloc _).trans E1)
   have B1_1:=blk_top (b:=w.heap.size+1) J65 E1
   have D0:=B0_1
   obtain ⟨b0z,⟨b0_0,b0_1,b0_2,b0_3⟩,b0f0,b0f1,b0f2,b0f3⟩:=D0
   have D1:=B1_1
   obtain ⟨b1z,⟨b1_0,b1_1,b1_2,b1_3⟩,b1f0,b1f1,b1f2,b1f3⟩:=D1
   go_wp2_with fail
   exact finB ((B1_1.far (c:=w.heap.size) J65 _ _ _ _).set _ _ _ _) rfl J0 J27 (fun h=>⟨rfl,h⟩)
theorem truK_cases (s:ByteArray):(truK s = true∧(V.text s).toBool = truR s)∨(truK s = false∧(V.text s).toBool = .err 2):=by
 have e:(V.text s).toBool = if s.data.toList = trueL then .tf true else if s.data.toList = falseL then .tf false else .err 2:=rfl
 rw [e]
 unfold truK truR
 by_cases h:s.data.toList = trueL
 · left;rw [if_pos h,if_pos h];simp [h]
 · by_cases g:s.data.toList = falseL
   · left;rw [if_neg h,if_pos g,if_neg h,if_pos g];simp [g]
   · right;rw [if_neg h,if_neg g];simp [h,g]
theorem vtobool_any (k n:Int) (s:ByteArray) (e:Int) (w:World) (hn:I64 n) (hN:Nm w) :
   Calls Tryz.prog 243 #[.agg #[.int .i64 k,.int .i64 n,.string s,.int .i64 e]] w fun r w'=>r = .returned ((nm k n s e).toBool.dat)∧Ext w w':=by
 have c0:=fun W h=>vnormal_any k n s e W h
 have ok:=nm_ok k n s e hn
 clear hn
 generalize nm k n s e = v at c0 ok ⊢
 cases v with
 | blank =>
   simp only [V.dat] at c0
   exact K206
 | tf b =>
   simp only [V.dat] at c0
   cases b with
   | false =>
     simp only [Bool.false_eq_true,if_false] at c0
     exact K206
   | true =>
     simp only [if_true] at c0
     have c1:=fun W=>vbool_any true W
     simp only [V.dat,if_true] at c1
     exact K18
 | num n =>
   simp only [V.dat] at c0
   obtain ⟨q0,q1,q2,q3,hq⟩:=dat4 (V.tf (n != 0))
   have c1:=fun W=>vbool_any (n != 0) W
   rw [hq] at c1
   have H:Hid ((V.num n).toBool.dat = .agg #[.int .i64 q0,.int .i64 q1,.string q2,.int .i64 q3]):=hq
   clear hq ok
   go_enter func243,ntmps243
   go_wp2_with fail
   refine (c0 _ (hN.ext J0)).mono ?_
   rintro r w1 ⟨rfl,E1⟩
   have X1:Ext w w1:=Ext.trans J0 E1
   have B0_1:=blk_top (b:=w.heap.size) J65 ((xr.alloc _).trans E1)
   have B1_1:=blk_top (b:=w.heap.size+1) J65 E1
   have D0:=B0_1
   obtain ⟨b0z,⟨b0_0,b0_1,b0_2,b0_3⟩,b0f0,b0f1,b0f2,b0f3⟩:=D0
   have D1:=B1_1
   obtain ⟨b1z,⟨b1_0,b1_1,b1_2,b1_3⟩,b1f0,b1f1,b1f2,b1f3⟩:=D1
   go_wp2_with fail
   refine (c1 _).mono ?_
   rintro r w2 ⟨rfl,E2⟩
   have X2:Ext w w2:=Ext.trans J0 E2
   have B1_2:=(B1_1.far (c:=w.heap.size) J65 _ _ _ _).ext E2
   have D1:=B1_2
   obtain ⟨b1z,⟨b1_0,b1_1,b1_2,b1_3⟩,b1f0,b1f1,b1f2,b1f3⟩:=D1
   go_wp2_with fail
   exact finB (B1_2.set _ _ _ _) rfl J0 J23 (fun h=>⟨by rw [H.out],h⟩)
 | text s =>
   simp only [V.dat] at c0
   have c1:=fun W=>truth_any s W
   have c2:=fun W h=>err_any 2 W h
   rw [mkErr_is ⟨by decide,by decide⟩] at c2
   simp only [V.dat] at c2
   have hk:=truK_cases s
   clear ok
   obtain ⟨q0,q1,q2,q3,hq⟩:=dat4 (truR s)
   rw [hq] at c1
   rcases hk with ⟨h1,h2⟩ | ⟨h1,h2⟩
   · rw [h1] at c1
     have H:Hid ((V.text s).toBool.dat = .agg #[.int .i64 q0,.int .i64 q1,.string q2,.int .i64 q3]):=by show _ = _;rw [h2];exact hq
     clear hq h1 h2 c2
     go_enter func243,ntmps243
     go_wp2_with fail
     refine (c0 _ (hN.ext J0)).mono ?_
     rintro r w1 ⟨rfl,E1⟩
     have X1:Ext w w1:=Ext.trans J0 E1
     have B0_1:=blk_top (b:=w.heap.size) J65 ((xr.alloc _).trans E1)
     have B1_1:=blk_top (b:=w.heap.size+1) J65 E1
     have D0:=B0_1
     obtain ⟨b0z,⟨b0_0,b0_1,b0_2,b0_3⟩,b0f0,b0f1,b0f2,b0f3⟩:=D0
     have D1:=B1_1
     obtain ⟨b1z,⟨b1_0,b1_1,b1_2,b1_3⟩,b1f0,b1f1,b1f2,b1f3⟩:=D1
     go_wp2_with fail
     refine (c1 _).mono ?_
     rintro r w2 ⟨rfl,E2⟩
     have X2:Ext w w2:=Ext.trans J0 E2
     have B1_2:=(B1_1.far (c:=w.heap.size) J65 _ _ _ _).ext E2
     have D1:=B1_2
     obtain ⟨b1z,⟨b1_0,b1_1,b1_2,b1_3⟩,b1f0,b1f1,b1f2,b1f3⟩:=D1
     go_wp2_with fail
     exact finB ((B1_2.set _ _ _ _).ext (xr.alloc _)) rfl J0 J23 (fun h=>⟨by rw [H.out],h⟩)
   · rw [h1] at c1
     have H:Hid ((V.text s).toBool = .err 2):=h2
     clear hq h1 h2
     go_enter func243,ntmps243
     go_wp2_with fail
     refine (c0 _ (hN.ext J0)).mono ?_
     rintro r w1 ⟨rfl,E1⟩
     have X1:Ext w w1:=Ext.trans J0 E1
     have B0_1:=blk_top (b:=w.heap.size) J65 ((xr.alloc _).trans E1)
     have B1_1:=blk_top (b:=w.heap.size+1) J65 E1
     have D0:=B0_1
     obtain ⟨b0z,⟨b0_0,b0_1,b0_2,b0_3⟩,b0f0,b0f1,b0f2,b0f3⟩:=D0
     have D1:=B1_1
     obtain ⟨b1z,⟨b1_0,b1_1,b1_2,b1_3⟩,b1f0,b1f1,b1f2,b1f3⟩:=D1
     go_wp2_with fail
     refine (c1 _).mono ?_
     rintro r w2 ⟨rfl,E2⟩
     have X2:Ext w w2:=Ext.trans J0 E2
     have B1_2:=(B1_1.far (c:=w.heap.size) J65 _ _ _ _).ext E2
     have D1:=B1_2
     obtain ⟨b1z,⟨b1_0,b1_1,b1_2,b1_3⟩,b1f0,b1f1,b1f2,b1f3⟩:=D1
     go_wp2_with fail
     refine (c2 _ (hN.ext J0)).mono ?_
     rintro r w3 ⟨rfl,E3⟩
     have X3:Ext w w3:=Ext.trans J0 E3
     have B1_3:=(B1_2.ext (xr.alloc _)).ext E3
     have D1:=B1_3
     obtain ⟨b1z,⟨b1_0,b1_1,b1_2,b1_3⟩,b1f0,b1f1,b1f2,b1f3⟩:=D1
     go_wp2_with fail
     exact finB (B1_3.set _ _ _ _) rfl J0 J23 (fun h=>⟨by rw [H.out];rfl,h⟩)
 | err e =>
   simp only [V.dat] at c0
   clear ok
   go_enter func243,ntmps243
   go_wp2_with fail
   refine (c0 _ (hN.ext J0)).mono ?_
   rintro r w1 ⟨rfl,E1⟩
   have X1:Ext w w1:=Ext.trans J0 E1
   have B0_1:=blk_top (b:=w.heap.size) J65 ((xr.alloc _).trans E1)
   have B1_1:=blk_top (b:=w.heap.size+1) J65 E1
   have D0:=B0_1
   obtain ⟨b0z,⟨b0_0,b0_1,b0_2,b0_3⟩,b0f0,b0f1,b0f2,b0f3⟩:=D0
   have D1:=B1_1
   obtain ⟨b1z,⟨b1_0,b1_1,b1_2,b1_3⟩,b1f0,b1f1,b1f2,b1f3⟩:=D1
   go_wp2_with fail
   exact finB ((B1_1.far (c:=w.heap.size) J65 _ _ _ _).set _ _ _ _) rfl J0 J23 (fun h=>⟨rfl,h⟩)
theorem vneg_any (k n:Int) (s:ByteArray) (e:Int) (w:World) (hn:I64 n) (hN:Nm w) :
   Calls Tryz.prog 68 #[.agg #[.int .i64 k,.int .i64 n,.string s,.int .i64 e]] w fun r w'=>r = .returned (nm k n s e).neg.dat∧Ext w w':=by
 have c0:=fun W h=>vtonum_any k n s e W hn h
 have ok:=toNum_cases (nm k n s e) (nm_ok k n s e hn)
 clear hn
 unfold V.neg
 generalize (nm k n s e).toNum = v at c0 ok ⊢
 rcases ok with ⟨m,rfl,im,cm⟩ | ⟨x,rfl,_⟩
 · have c1:=fun W h=>vnum_any (-m) W h
   rw [mkNum_is (neg_can m im cm).2] at c1
   simp only [V.dat] at c0 c1
   obtain ⟨i1,i2⟩:=im
   have i3:m≠-9223372036854775808:=by simpa [canB] using cm
   clear cm
   go_enter func68,ntmps68
   go_wp2_with fail
   refine (c0 _ (hN.ext J0)).mono ?_
   rintro r w1 ⟨rfl,E1⟩
   have X1:Ext w w1:=Ext.trans J0 E1
   have B0_1:=blk_top (b:=w.heap.size) J65 ((xr.alloc _).trans E1)
   have B1_1:=blk_top (b:=w.heap.size+1) J65 E1
   have D0:=B0_1
   obtain ⟨b0z,⟨b0_0,b0_1,b0_2,b0_3⟩,b0f0,b0f1,b0f2,b0f3⟩:=D0
   have D1:=B1_1
   obtain ⟨b1z,⟨b1_0,b1_1,b1_2,b1_3⟩,b1f0,b1f1,b1f2,b1f3⟩:=D1
   go_wp2_with fail
   refine (c1 _ (hN.ext J0)).mono ?_
   rintro r w2 ⟨rfl,E2⟩
   have X2:Ext w w2:=Ext.trans J0 E2
   have B1_2:=(B1_1.far (c:=w.heap.size) J65 _ _ _ _).ext E2
   have D1:=B1_2
   obtain ⟨b1z,⟨b1_0,b1_1,b1_2,b1_3⟩,b1f0,b1f1,b1f2,b1f3⟩:=D1
   go_wp2_with fail
   exact finB (B1_2.set _ _ _ _) rfl J0 (fun g0 g1 g2 g3=>by simp [results,results68,go_sem,g0,g1,g2,g3]) (fun h=>⟨rfl,h⟩)
 · simp only [V.dat] at c0
   go_enter func68,ntmps68
   go_wp2_with fail
   refine (c0 _ (hN.ext J0)).mono ?_
   rintro r w1 ⟨rfl,E1⟩
   have X1:Ext w w1:=Ext.trans J0 E1
   have B0_1:=blk_top (b:=w.heap.size) J65 ((xr.alloc _).trans E1)
   have B1_1:=blk_top (b:=w.heap.size+1) J65 E1
   have D0:=B0_1
   obtain ⟨b0z,⟨b0_0,b0_1,b0_2,b0_3⟩,b0f0,b0f1,b0f2,b0f3⟩:=D0
   have D1:=B1_1
   obtain ⟨b1z,⟨b1_0,b1_1,b1_2,b1_3⟩,b1f0,b1f1,b1f2,b1f3⟩:=D1
   go_wp2_with fail
   exact finB ((B1_1.far (c:=w.heap.size) J65 _ _ _ _).set _ _ _ _) rfl J0 (fun g0 g1 g2 g3=>by simp [results,results68,go_sem,g0,g1,g2,g3]) (fun h=>⟨rfl,h⟩)
end Go.Proofs.YtcfgbiaahangmaaGreatDoor
