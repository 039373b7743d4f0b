import Derived.Test.YtcfgbiaahangmaaGreatDoorC11
import Derived.Lib.Bytealg
set_option maxHeartbeats 1000000
namespace Go.Proofs.YtcfgbiaahangmaaGreatDoor
open Go.Proofs.Tryz
open Go.RowKit
inductive V where
 | blank
 | tf (b:Bool)
 | num (n:Int)
 | text (s:ByteArray)
 | err (e:Int)
def V.dat:V→Value
 | .blank=>.agg #[.int .i64 0,.int .i64 0,.string ⟨#[]⟩,.int .i64 0]
 | .tf b=>.agg #[.int .i64 1,.int .i64 (if b then 1 else 0),.string ⟨#[]⟩,.int .i64 0]
 | .num n=>.agg #[.int .i64 2,.int .i64 n,.string ⟨#[]⟩,.int .i64 0]
 | .text s=>.agg #[.int .i64 3,.int .i64 0,.string s,.int .i64 0]
 | .err e=>.agg #[.int .i64 4,.int .i64 0,.string ⟨#[]⟩,.int .i64 e]
def V.ok:V→Prop
 | .num n=>I64 n∧canB n = true
 | .text s=>s.size≤300
 | .err e=>1≤e∧e≤5
 | _=>True
def mkErr (e:Int):V:=.err (if 1≤e∧e≤5 then e else 2)
def mkNum (n:Int):V:=if canB n then .num n else .err 4
def mkText (s:ByteArray):V:=if s.size≤300 then .text s else .err 2
def nm (k n:Int) (s:ByteArray) (e:Int):V :=
 if k = 1 then .tf (n != 0) else if k = 2 then mkNum n else if k = 3 then mkText s else if k = 4 then mkErr e else .blank
theorem mkErr_ok (e:Int):(mkErr e).ok:=by unfold mkErr;show 1≤_∧_≤(5:Int);split <;> omega
theorem mkErr_is {e:Int} (h:1≤e∧e≤5):mkErr e = .err e:=by unfold mkErr;rw [if_pos h]
theorem mkNum_ok (n:Int) (h:I64 n):(mkNum n).ok:=by
 unfold mkNum;split
 · exact ⟨h,by assumption⟩
 · exact K79
theorem mkNum_is {n:Int} (h:canB n = true):mkNum n = .num n:=by unfold mkNum;rw [if_pos h]
theorem mkText_ok (s:ByteArray):(mkText s).ok:=by
 unfold mkText;split
 · assumption
 · exact K79
theorem mkText_is {s:ByteArray} (h:s.size≤300):mkText s = .text s:=by unfold mkText;rw [if_pos h]
theorem nm_ok (k n:Int) (s:ByteArray) (e:Int) (hn:I64 n):(nm k n s e).ok:=by
 unfold nm
 split
 · trivial
 · split
   · exact mkNum_ok n hn
   · split
     · exact mkText_ok s
     · split
       · exact mkErr_ok e
       · trivial
theorem nm_blank:nm 0 0 ⟨#[]⟩ 0 = .blank:=rfl
theorem nm_tf (b:Bool):nm 1 (if b then 1 else 0) ⟨#[]⟩ 0 = .tf b:=by cases b <;> rfl
theorem nm_num {n:Int} (h:canB n = true):nm 2 n ⟨#[]⟩ 0 = .num n:=mkNum_is h
theorem nm_text {s:ByteArray} (h:s.size≤300):nm 3 0 s 0 = .text s:=mkText_is h
theorem nm_err {e:Int} (h:1≤e∧e≤5):nm 4 0 ⟨#[]⟩ e = .err e:=mkErr_is h
def trueL:List UInt8:=[84,82,85,69]
def falseL:List UInt8:=[70,65,76,83,69]
def errName (e:Int):List UInt8 :=
 if e = 1 then [35,82,69,70,33] else if e = 2 then [35,86,65,76,85,69,33] else if e = 3 then [35,68,73,86,47,48,33] else if e = 4 then [35,78,85,77,33] else if e = 5 then [35,67,89,67,76,69,33] else []
def V.shown:V→ByteArray
 | .blank=>⟨#[]⟩
 | .tf b=>bs (if b then trueL else falseL)
 | .num n=>bs (printL n)
 | .text s=>s
 | .err e=>bs (errName e)
def readV (s:ByteArray):V:=if rdK s.data.toList = 1 then .num (rdV s.data.toList) else if rdK s.data.toList = 2 then .err 4 else .err 2
def V.toNum:V→V
 | .blank=>.num 0
 | .tf b=>.num (if b then 10000 else 0)
 | .text s=>readV s
 | v=>v
def V.toText:V→V
 | .err e=>.err e
 | v=>.text v.shown
def V.toBool:V→V
 | .blank=>.tf false
 | .num n=>.tf (n != 0)
 | .text s=>if s.data.toList = trueL then .tf true else if s.data.toList = falseL then .tf false else .err 2
 | v=>v
def V.neg (v:V):V:=match v.toNum with
 | .num n=>.num (-n)
 | u=>u
def toldR (b:Bool) (v:Int):V:=if b then mkNum v else .err 4
def reckon (op:Int) (x y:Int):V :=
 if op = 43 then toldR (addB x y) (addV x y) else if op = 45 then toldR (subB x y) (subV x y) else if op = 42 then toldR (mulB x y) (mulV x y) else if y = 0 then .err 3 else toldR (divB x y) (divV x y)
def opB (op:Int):Bool:=op == 43 || op == 45 || op == 42 || op == 47
def arith2 (op:Int):V→V→V
 | .err e,_=>.err e
 | _,.err e=>.err e
 | .num x,.num y=>reckon op x y
 | _,_=>.blank
def arith (op:Int) (a b:V):V:=if opB op then arith2 op a.toNum b.toNum else .err 2
def join2:V→V→V
 | .err e,_=>.err e
 | _,.err e=>.err e
 | .text s,.text t=>mkText (s ++ t)
 | _,_=>.blank
def join (a b:V):V:=join2 a.toText b.toText
def nameE (l:List UInt8):Int:=if l = errName 1 then 1 else if l = errName 2 then 2 else if l = errName 3 then 3 else if l = errName 4 then 4 else if l = errName 5 then 5 else 0
def lit (s:ByteArray):V :=
 if s.data.toList = [] then .blank
 else if s.data.toList.head? = some 39 then mkText (bs (s.data.toList.drop 1))
 else if rdK s.data.toList = 1 then .num (rdV s.data.toList)
 else if rdK s.data.toList = 2 then .err 4
 else if s.data.toList = trueL then .tf true
 else if s.data.toList = falseL then .tf false
 else if nameE s.data.toList≠0 then .err (nameE s.data.toList)
 else mkText s
def sg3 (x y:Int):Int:=if x < y then -1 else if x > y then 1 else 0
def V.zeroOf:V→V
 | .num _=>.num 0
 | .text _=>.text ⟨#[]⟩
 | .tf _=>.tf false
 | v=>v
def asBy (o v:V):V:=match v with
 | .blank=>o.zeroOf
 | v=>v
def rankV:V→Int
 | .num _=>1
 | .text _=>2
 | .tf _=>3
 | _=>0
def ord:V→V→Int
 | .num x,.num y=>sg3 x y
 | .text s,.text t=>Lib.compareBytes s.data.toList t.data.toList
 | .tf a,.tf b=>sg3 (if a then 1 else 0) (if b then 1 else 0)
 | a,b=>sg3 (rankV a) (rankV b)
def cmpV:V→V→Int
 | .err _,_=>0
 | _,.err _=>0
 | a,b=>ord (asBy b a) (asBy a b)
def cmpE:V→V→V
 | .err e,_=>.err e
 | _,.err e=>.err e
 | _,_=>.blank
theorem rdK_cases (l:List UInt8):rdK l = 0∨rdK l = 1∨rdK l = 2:=by unfold rdK;split <;> (try split) <;> simp
theorem rdV_can (l:List UInt8):I64 (rdV l)∧canB (rdV l) = true:=by
 unfold rdV I64 canB
 split
 · rename_i h
   simp at h
   split <;> simp <;> omega
 · simp
theorem print_len (n:Int) (h:I64 n):(printL n).length≤25:=by
 obtain ⟨h1,h2⟩:=h
 cases hc:canB n
 · have:printL n = [110,111,110,101]:=by unfold printL;rw [hc];rfl
   rw [this];decide
 · rw [print_sgn n hc]
   obtain ⟨k,hk,hl⟩:=frac_back (n.natAbs % 10000) (Nat.mod_lt _ J9)
   have hd:=dec_len (n.natAbs / 10000) 14 J2
   have hb:(bodyL n.natAbs).length≤20:=by
     unfold bodyL;rw [List.length_append]
     split
     · simp;omega
     · simp;omega
   unfold sgnL;split
   · simp;omega
   · omega
theorem shown_size (v:V) (h:v.ok):v.shown.size≤300:=by
 cases v with
 | blank=>decide
 | tf b=>cases b <;> decide
 | num n=>show (bs (printL n)).size≤300;rw [bs_size];exact Nat.le_trans (print_len n h.1) J9
 | text s=>exact h
 | err e =>
   show (bs (errName e)).size≤300;rw [bs_size];unfold errName
   repeat (first | (split;decide) | decide)
theorem readV_ok (s:ByteArray):(readV s).ok:=by
 unfold readV;split
 · exact rdV_can _
 · split <;> exact ⟨by decide,by decide⟩
theorem toNum_ok (v:V) (h:v.ok):v.toNum.ok:=by
 cases v with
 | blank=>exact ⟨⟨by decide,by decide⟩,by decide⟩
 | tf b=>cases b <;> exact ⟨⟨by decide,by decide⟩,by decide⟩
 | num n=>exact h
 | text s=>exact readV_ok s
 | err e=>exact h
theorem toText_ok (v:V) (h:v.ok):v.toText.ok:=by
 cases v with
 | err e=>exact h
 | blank=>exact shown_size .blank h
 | tf b=>exact shown_size (.tf b) h
 | num n=>exact shown_size (.num n) h
 | text s=>exact h
theorem toNum_cases (v:V) (h:v.ok):(∃ n,v.toNum = .num n∧I64 n∧canB n = true)∨(∃ e,v.toNum = .err e∧1≤e∧e≤5):=by
 have k:=toNum_ok v h
 cases v with
 | blank=>exact .inl ⟨_,rfl,k⟩
 | tf b=>exact .inl ⟨_,rfl,k⟩
 | num n=>exact .inl ⟨_,rfl,k⟩
 | text s =>
   show (∃ n,readV s = .num n∧_)∨(∃ e,readV s = .err e∧_)
   unfold readV
   split
   · exact .inl ⟨_,rfl,rdV_can _⟩
   · split
     · exact .inr ⟨_,rfl,by decide,by decide⟩
     · exact .inr ⟨_,rfl,by decide,by decide⟩
 | err e=>exact .inr ⟨_,rfl,h⟩
theorem toText_cases (v:V) (h:v.ok):(∃ s,v.toText = .text s∧s.size≤300)∨(∃ e,v.toText = .err e∧1≤e∧e≤5):=by
 cases v with
 | err e=>exact .inr ⟨_,rfl,h⟩
 | blank=>exact .inl ⟨_,rfl,shown_size .blank h⟩
 | tf b=>exact .inl ⟨_,rfl,shown_size (.tf b) h⟩
 | num n=>exact .inl ⟨_,rfl,shown_size (.num n) h⟩
 | text s=>exact .inl ⟨_,rfl,h⟩
theorem neg_can (n:Int) (h:I64 n) (c:canB n = true):I64 (-n)∧canB (-n) = true:=by
 obtain ⟨_,_⟩:=h
 have:n≠-9223372036854775808:=by simpa [canB] using c
 refine ⟨⟨by omega,by omega⟩,?_⟩
 unfold canB;simp;omega
def Nm (w:World):Prop:=0 < w.heap.size ∧
 w.cell? ⟨0,0,none⟩ = some (.string ⟨#[]⟩)∧w.cell? ⟨0,1,none⟩ = some (.string ⟨#[35,82,69,70,33]⟩)∧w.cell? ⟨0,2,none⟩ = some (.string ⟨#[35,86,65,76,85,69,33]⟩) ∧
 w.cell? ⟨0,3,none⟩ = some (.string ⟨#[35,68,73,86,47,48,33]⟩)∧w.cell? ⟨0,4,none⟩ = some (.string ⟨#[35,78,85,77,33]⟩)∧w.cell? ⟨0,5,none⟩ = some (.string ⟨#[35,67,89,67,76,69,33]⟩)
theorem Nm.ext {w w':World} (h:Nm w) (e:Ext w w'):Nm w':=by
 exact K99
theorem err_none {e:Int} (h:¬ (1≤e∧e≤5)):errName e = []:=by
 unfold errName
 repeat (first | (rw [if_neg J2]) | rfl)
theorem errname_any (e:Int) (w:World) (hN:Nm w):Calls Tryz.prog 65 #[.int .i64 e] w fun r w'=>r = .returned (.string (bs (errName e)))∧w' = w:=by
 obtain ⟨hs,h0,h1,h2,h3,h4,h5⟩:=hN
 by_cases h:0≤e∧e < 6
 · have hh:e = 0∨e = 1∨e = 2∨e = 3∨e = 4∨e = 5:=J2
   rcases hh with rfl | rfl | rfl | rfl | rfl | rfl
   all_goals
     clear h
     go_enter func65,ntmps65
     exact K29
 · have H:Hid (errName e = []):=err_none J2
   by_cases hn:e < 0
   · exact K152
   · have hg:6≤e:=J2
     exact K152
theorem err_any (e:Int) (w:World) (hN:Nm w):Calls Tryz.prog 36 #[.int .i64 e] w fun r w'=>r = .returned (mkErr e).dat∧Ext w w':=by
 have c:=fun W h=>errname_any e W h
 by_cases h:1≤e∧e≤5
 · have H:Hid (mkErr e = .err e):=mkErr_is h
   have hz:(bs (errName e)).toList.isEmpty = false:=by
     have hh:e = 1∨e = 2∨e = 3∨e = 4∨e = 5:=J2
     rw [ByteArray.toList_eq]
     rcases hh with rfl | rfl | rfl | rfl | rfl <;> decide
   exact K82
 · have H:Hid (mkErr e = .err 2):=by show mkErr e = _;unfold mkErr;rw [if_neg h]
   have hz:(bs (errName e)).toList.isEmpty = true:=by rw [ByteArray.toList_eq,err_none h];decide
   exact K82
theorem rerr_any (e:Int) (w:World):Calls Tryz.prog 39 #[.int .i64 e] w fun r w'=>r = .returned (mkErr e).dat∧Ext w w':=by
 by_cases h:e < 1
 · exact K195
 · by_cases g:e > 5
   · exact K195
   · have H:Hid (mkErr e = .err e):=mkErr_is ⟨by omega,by omega⟩
     go_enter func39,ntmps39
     go_wp2_with fail
     simp [bodyPost,results,results39,go_sem]
     exact K85
theorem vnum_any (n:Int) (w:World) (hN:Nm w):Calls Tryz.prog 38 #[.int .i64 n] w fun r w'=>r = .returned (mkNum n).dat∧Ext w w':=by
 have c:=fun W=>can_any n W
 have c2:=fun W h=>err_any 4 W h
 rw [mkErr_is ⟨by decide,by decide⟩] at c2
 simp only [V.dat] at c2
 cases hc:canB n
 · have H:Hid (mkNum n = .err 4):=by show mkNum n = _;unfold mkNum;rw [hc];rfl
   rw [hc] at c
   clear hc
   go_enter func38,ntmps38
   go_wp2_with fail
   refine (c _).mono ?_
   rintro r w1 ⟨rfl,rfl⟩
   go_wp2_with fail
   refine (c2 _ (hN.ext (xr.alloc _))).mono ?_
   rintro r w1 ⟨rfl,E1⟩
   obtain ⟨z,⟨k0,k1,k2,k3⟩,f0,f1,f2,f3⟩:=keep4 E1
   go_wp2_with fail
   exact fin4 k0 k1 k2 k3 rfl nrf ((xr.alloc _).trans E1) (fun W g0 g1 g2 g3=>by simp [results,results38,go_sem,g0,g1,g2,g3]) (fun W h=>⟨by rw [H.out];rfl,h⟩)
 · have H:Hid (mkNum n = .num n):=mkNum_is hc
   rw [hc] at c
   clear hc
   go_enter func38,ntmps38
   go_wp2_with fail
   refine (c _).mono ?_
   rintro r w1 ⟨rfl,rfl⟩
   go_wp2_with fail
   simp [bodyPost,results,results38,go_sem]
   exact K85
theorem rnum_any (n:Int) (w:World):Calls Tryz.prog 33 #[.int .i64 n] w fun r w'=>r = .returned (mkNum n).dat∧Ext w w':=by
 have c:=fun W=>rcan_any n W
 have c2:=fun W=>rerr_any 4 W
 rw [mkErr_is ⟨by decide,by decide⟩] at c2
 simp only [V.dat] at c2
 cases hc:canB n
 · have H:Hid (mkNum n = .err 4):=by show mkNum n = _;unfold mkNum;rw [hc];rfl
   rw [hc] at c
   clear hc
   go_enter func33,ntmps33
   go_wp2_with fail
   refine (c _).mono ?_
   rintro r w1 ⟨rfl,rfl⟩
   go_wp2_with fail
   refine (c2 _).mono ?_
   rintro r w1 ⟨rfl,E1⟩
   obtain ⟨z,⟨k0,k1,k2,k3⟩,f0,f1,f2,f3⟩:=keep4 E1
   go_wp2_with fail
   exact fin4 k0 k1 k2 k3 rfl nrf ((xr.alloc _).trans E1) (fun W g0 g1 g2 g3=>by simp [results,results33,go_sem,g0,g1,g2,g3]) (fun W h=>⟨by rw [H.out];rfl,h⟩)
 · have H:Hid (mkNum n = .num n):=mkNum_is hc
   rw [hc] at c
   clear hc
   go_enter func33,ntmps33
   go_wp2_with fail
   refine (c _).mono ?_
   rintro r w1 ⟨rfl,rfl⟩
   go_wp2_with fail
   simp [bodyPost,results,results33,go_sem]
   exact K85
theorem vtext_any (s:ByteArray) (w:World) (hN:Nm w):Calls Tryz.prog 66 #[.string s] w fun r w'=>r = .returned (mkText s).dat∧Ext w w':=by
 have c2:=fun W h=>err_any 2 W h
 rw [mkErr_is ⟨by decide,by decide⟩] at c2
 simp only [V.dat] at c2
 by_cases hs:s.size≤300
 · have H:Hid (mkText s = .text s):=mkText_is hs
   have hd:decide (((s.size:Nat):Int) > 300) = false:=J6
   go_enter func66,ntmps66
   go_wp2_with fail
   simp [bodyPost,results,results66,go_sem]
   exact K85
 · have H:Hid (mkText s = .err 2):=by show mkText s = _;unfold mkText;rw [if_neg hs]
   have hd:decide (((s.size:Nat):Int) > 300) = true:=J6
   have hs':300 < s.size:=J2
   clear hs
   go_enter func66,ntmps66
   go_wp2_with fail
   refine (c2 _ (hN.ext (xr.alloc _))).mono ?_
   rintro r w1 ⟨rfl,E1⟩
   obtain ⟨z,⟨k0,k1,k2,k3⟩,f0,f1,f2,f3⟩:=keep4 E1
   go_wp2_with fail
   exact fin4 k0 k1 k2 k3 rfl nrf ((xr.alloc _).trans E1) (fun W g0 g1 g2 g3=>by simp [results,results66,go_sem,g0,g1,g2,g3]) (fun W h=>⟨by rw [H.out];rfl,h⟩)
theorem rtext_any (s:ByteArray) (w:World):Calls Tryz.prog 42 #[.string s] w fun r w'=>r = .returned (mkText s).dat∧Ext w w':=by
 have c2:=fun W=>rerr_any 2 W
 rw [mkErr_is ⟨by decide,by decide⟩] at c2
 simp only [V.dat] at c2
 by_cases hs:s.size≤300
 · have H:Hid (mkText s = .text s):=mkText_is hs
   have hd:decide (((s.size:Nat):Int) > 300) = false:=J6
   go_enter func42,ntmps42
   go_wp2_with fail
   simp [bodyPost,results,results42,go_sem]
   exact K85
 · have H:Hid (mkText s = .err 2):=by show mkText s = _;unfold mkText;rw [if_neg hs]
   have hd:decide (((s.size:Nat):Int) > 300) = true:=J6
   have hs':300 < s.size:=J2
   clear hs
   go_enter func42,ntmps42
   go_wp2_with fail
   refine (c2 _).mono ?_
   rintro r w1 ⟨rfl,E1⟩
   obtain ⟨z,⟨k0,k1,k2,k3⟩,f0,f1,f2,f3⟩:=keep4 E1
   go_wp2_with fail
   exact fin4 k0 k1 k2 k3 rfl nrf ((xr.alloc _).trans E1) (fun W g0 g1 g2 g3=>by simp [results,results42,go_sem,g0,g1,g2,g3]) (fun W h=>⟨by rw [H.out];rfl,h⟩)
theorem vbool_any (b:Bool) (w:World):Calls Tryz.prog 67 #[.bool b] w fun r w'=>r = .returned (V.tf b).dat∧Ext w w':=by
 cases b
 all_goals
   go_enter func67,ntmps67
   go_wp2_with fail
   simp [bodyPost,results,results67,go_sem]
   exact ⟨rfl,xr.alloc _⟩
theorem rbool_any (b:Bool) (w:World):Calls Tryz.prog 41 #[.bool b] w fun r w'=>r = .returned (V.tf b).dat∧Ext w w':=by
 cases b
 all_goals
   go_enter func41,ntmps41
   go_wp2_with fail
   simp [bodyPost,results,results41,go_sem]
   exact ⟨rfl,xr.alloc _⟩
theorem dat4 (v:V):∃ (k n:Int) (s:ByteArray) (e:Int),v.dat = .agg #[.int .i64 k,.int .i64 n,.string s,.int .i64 e]:=by
 cases v <;> exact ⟨_,_,_,_,rfl⟩
theorem vnormal_any (k n:Int) (s:ByteArray) (e:Int) (w:World) (hN:Nm w) :
   Calls Tryz.prog 47 #[.agg #[.int .i64 k,.int .i64 n,.string s,.int .i64 e]] w fun r w'=>r = .returned (nm k n s e).dat∧Ext w w':=by
 have c1:=fun W=>vbool_any (n != 0) W
 have c2:=fun W h=>vnum_any n W h
 have c3:=fun W h=>vtext_any s W h
 have c4:=fun W h=>err_any e W h
 by_cases h1:k = 1
 · subst h1
   obtain ⟨q0,q1,q2,q3,hq⟩:=dat4 (V.tf (n != 0))
   rw [hq] at c1
   have H:Hid ((nm 1 n s e).dat = .agg #[.int .i64 q0,.int .i64 q1,.string q2,.int .i64 q3]):=hq
   clear hq
   go_enter func47,ntmps47
   go_wp2_with fail
   refine (c1 _).mono ?_
   exact K40
 · skip
   by_cases h2:k = 2
   · subst h2
     obtain ⟨q0,q1,q2,q3,hq⟩:=dat4 (mkNum n)
     rw [hq] at c2
     have H:Hid ((nm 2 n s e).dat = .agg #[.int .i64 q0,.int .i64 q1,.string q2,.int .i64 q3]):=hq
     clear hq h1
     go_enter func47,ntmps47
     go_wp2_with fail
     refine (c2 _ (hN.ext ((xr.alloc _).alloc _))).mono ?_
     exact K40
   · skip
     by_cases h3:k = 3
     · subst h3
       obtain ⟨q0,q1,q2,q3,hq⟩:=dat4 (mkText s)
       rw [hq] at c3
       have H:Hid ((nm 3 n s e).dat = .agg #[.int .i64 q0,.int .i64 q1,.string q2,.int .i64 q3]):=hq
       clear hq h1 h2
       go_enter func47,ntmps47
       go_wp2_with fail
       refine (c3 _ (hN.ext ((xr.alloc _).alloc _))).mono ?_
       exact K40
     · skip
       by_cases h4:k = 4
       · subst h4
         obtain ⟨q0,q1,q2,q3,hq⟩:=dat4 (mkErr e)
         rw [hq] at c4
         have H:Hid ((nm 4 n s e).dat = .agg #[.int .i64 q0,.int .i64 q1,.string q2,.int .i64 q3]):=hq
         clear hq h1 h2 h3
         go_enter func47,ntmps47
         go_wp2_with fail
         refine (c4 _ (hN.ext ((xr.alloc _).alloc _))).mono ?_
         exact K40
       · have H:Hid (nm k n s e = .blank):=J92
         clear c1 c2 c3 c4
         go_enter func47,ntmps47
         go_wp2_with fail
         simp [bodyPost,results,results47,go_sem]
         exact ⟨by rw [H.out];rfl,((xr.alloc _).alloc _)⟩
theorem rnormal_any (k n:Int) (s:ByteArray) (e:Int) (w:World) :
   Calls Tryz.prog 19 #[.agg #[.int .i64 k,.int .i64 n,.string s,.int .i64 e]] w fun r w'=>r = .returned (nm k n s e).dat∧Ext w w':=by
 have c1:=fun W=>rbool_any (n != 0) W
 have c2:=fun W=>rnum_any n W
 have c3:=fun W=>rtext_any s W
 have c4:=fun W=>rerr_any e W
 by_cases h1:k = 1
 · subst h1
   obtain ⟨q0,q1,q2,q3,hq⟩:=dat4 (V.tf (n != 0))
   rw [hq] at c1
   have H:Hid ((nm 1 n s e).dat = .agg #[.int .i64 q0,.int .i64 q1,.string q2,.int .i64 q3]):=hq
   clear hq
   go_enter func19,ntmps19
   go_wp2_with fail
   refine (c1 _).mono ?_
   exact K41
 · skip
   by_cases h2:k = 2
   · subst h2
     obtain ⟨q0,q1,q2,q3,hq⟩:=dat4 (mkNum n)
     rw [hq] at c2
     have H:Hid ((nm 2 n s e).dat = .agg #[.int .i64 q0,.int .i64 q1,.string q2,.int .i64 q3]):=hq
     clear hq h1
     go_enter func19,ntmps19
     go_wp2_with fail
     refine (c2 _).mono ?_
     exact K41
   · skip
     by_cases h3:k = 3
     · subst h3
       obtain ⟨q0,q1,q2,q3,hq⟩:=dat4 (mkText s)
       rw [hq] at c3
       have H:Hid ((nm 3 n s e).dat = .agg #[.int .i64 q0,.int .i64 q1,.string q2,.int .i64 q3]):=hq
       clear hq h1 h2
       go_enter func19,ntmps19
       go_wp2_with fail
       refine (c3 _).mono ?_
       exact K41
     · skip
       by_cases h4:k = 4
       · subst h4
         obtain ⟨q0,q1,q2,q3,hq⟩:=dat4 (mkErr e)
         rw [hq] at c4
         have H:Hid ((nm 4 n s e).dat = .agg #[.int .i64 q0,.int .i64 q1,.string q2,.int .i64 q3]):=hq
         clear hq h1 h2 h3
         go_enter func19,ntmps19
         go_wp2_with fail
         refine (c4 _).mono ?_
         exact K41
       · have H:Hid (nm k n s e = .blank):=J92
         clear c1 c2 c3 c4
         go_enter func19,ntmps19
         go_wp2_with fail
         simp [bodyPost,results,results19,go_sem]
         exact ⟨by rw [H.out];rfl,((xr.alloc _).alloc _)⟩
def numR (s:ByteArray):V:=if rdK s.data.toList = 1 then .num (rdV s.data.toList) else if rdK s.data.toList = 2 then .err 4 else .blank
def numK (s:ByteArray):Bool:=rdK s.data.toList == 1 || rdK s.data.toList == 2
theorem numeral_any (s:ByteArray) (w:World) (hs:s.size≤maxLen) (hN:Nm w) :
   Calls Tryz.prog 128 #[.string s] w fun r w'=>r = .returned (.tuple #[(numR s).dat,.bool (numK s)])∧Ext w w':=by
 have c1:=fun W=>parse_any s W hs
 have c2:=fun W h=>vnum_any (rdV s.data.toList) W h
 have c3:=fun W h=>err_any 4 W h
 rw [mkNum_is (rdV_can _).2] at c2
 rw [mkErr_is ⟨by decide,by decide⟩] at c3
 simp only [V.dat] at c2 c3
 rcases rdK_cases s.data.toList with h | h | h
 · have H:Hid (numR s = .blank∧numK s = false):=J93
   rw [h] at c1
   clear h hs
   generalize rdV s.data.toList = n at *
   go_enter func128,ntmps128
   go_wp2_with fail
   refine (c1 _).mono ?_
   rintro r w1 ⟨rfl,E1⟩
   obtain ⟨z,⟨k0,k1,k2,k3⟩,f0,f1,f2,f3⟩:=blk_top (b:=w.heap.size) J65 (E1)
   go_wp2_with fail
   exact fin4b false k0 k1 k2 k3 rfl J65 ((xr.alloc _).trans E1) J38 (fun W h=>⟨by rw [H.out.1,H.out.2];rfl,h⟩)
 · have H:Hid (numR s = .num (rdV s.data.toList)∧numK s = true):=J93
   rw [h] at c1
   clear h hs
   generalize rdV s.data.toList = n at *
   go_enter func128,ntmps128
   go_wp2_with fail
   refine (c1 _).mono ?_
   rintro r w1 ⟨rfl,E1⟩
   go_wp2_with fail
   refine (c2 _ (hN.ext ((xr.alloc _).trans E1))).mono ?_
   exact K81
 · have H:Hid (numR s = .err 4∧numK s = true):=J93
   rw [h] at c1
   clear h hs
   generalize rdV s.data.toList = n at *
   go_enter func128,ntmps128
   go_wp2_with fail
   refine (c1 _).mono ?_
   rintro r w1 ⟨rfl,E1⟩
   go_wp2_with fail
   refine (c3 _ (hN.ext ((xr.alloc _).trans E1))).mono ?_
   exact K81
def Two (W:World) (L:Nat) (ak an:Int) (sa:ByteArray) (ae bk bn:Int) (sb:ByteArray) (be:Int):Prop :=
 W.cell? ⟨L,0,none⟩ = some (.int .i64 ak)∧W.cell? ⟨L,1,none⟩ = some (.int .i64 an)∧W.cell? ⟨L,2,none⟩ = some (.string sa)∧W.cell? ⟨L,3,none⟩ = some (.int .i64 ae) ∧
 W.cell? ⟨L,4,none⟩ = some (.int .i64 bk)∧W.cell? ⟨L,5,none⟩ = some (.int .i64 bn)∧W.cell? ⟨L,6,none⟩ = some (.string sb)∧W.cell? ⟨L,7,none⟩ = some (.int .i64 be)∧L < W.heap.size
theorem firsterr_a (ak an:Int) (sa:ByteArray) (ae bk bn:Int) (sb:ByteArray) (be:Int) (L:Nat) (w:World) (h:Two w L ak an sa ae bk bn sb be) (ha:(ak == 4) = true) :
   Calls Tryz.prog 130 #[.slice (some ⟨L,0,none⟩) 2 2] w fun e w'=>e = .returned (.tuple #[.agg #[.int .i64 ak,.int .i64 an,.string sa,.int .i64 ae],.bool true])∧Ext w w':=by
 obtain ⟨h0,h1,h2,h3,h4,h5,h6,h7,hL⟩:=h
 go_enter func130,ntmps130
 go_wp2
 refine wp_loop_rounds 3 ?_
 rw [rounds_succ]
 go_wp2
 simp [bodyPost,results,results130,go_sem]
 exact (xr.alloc _).alloc _
theorem firsterr_b (ak an:Int) (sa:ByteArray) (ae bk bn:Int) (sb:ByteArray) (be:Int) (L:Nat) (w:World) (h:Two w L ak an sa ae bk bn sb be) (ha:(ak == 4) = false) (hb:(bk == 4) = true) :
   Calls Tryz.prog 130 #[.slice (some ⟨L,0,none⟩) 2 2] w fun e w'=>e = .returned (.tuple #[.agg #[.int .i64 bk,.int .i64 bn,.string sb,.int .i64 be],.bool true])∧Ext w w':=by
 obtain ⟨h0,h1,h2,h3,h4,h5,h6,h7,hL⟩:=h
 go_enter func130,ntmps130
 go_wp2
 refine wp_loop_rounds 3 ?_
 exact K137
theorem firsterr_n (ak an:Int) (sa:ByteArray) (ae bk bn:Int) (sb:ByteArray) (be:Int) (L:Nat) (w:World) (h:Two w L ak an sa ae bk bn sb be) (ha:(ak == 4) = false) (hb:(bk == 4) = false) :
   Calls Tryz.prog 130 #[.slice (some ⟨L,0,none⟩) 2 2] w fun e w'=>e = .returned (.tuple #[.agg #[.int .i64 0,.int .i64 0,.string ⟨#[]⟩,.int .i64 0],.bool false])∧Ext w w':=by
 obtain ⟨h0,h1,h2,h3,h4,h5,h6,h7,hL⟩:=h
 go_enter func130,ntmps130
 go_wp2
 refine wp_loop_rounds 3 ?_
 rw [rounds_succ]
 go_wp2
 exact K137
def rk (k:Int):Int:=if k = 2 then 1 else if k = 3 then 2 else if k = 1 then 3 else 0
theorem rank_any (k:Int) (w:World):Calls Tryz.prog 133 #[.int .i64 k] w fun e w'=>e = .returned (.int .i64 (rk k))∧w' = w:=by
 by_cases h2:k = 2
 · subst h2
   go_enter func133,ntmps133
   exact K102
 · by_cases h3:k = 3
   · subst h3
     clear h2
     go_enter func133,ntmps133
     exact K102
   · by_cases h1:k = 1
     · subst h1
       clear h2 h3
       go_enter func133,ntmps133
       exact K102
     · have H:Hid (rk k = 0):=by show rk k = 0;unfold rk;rw [if_neg h2,if_neg h3,if_neg h1]
       go_enter func133,ntmps133
       go_wp2
       exact K56
theorem isnan_any (x:Int) (w:World):Calls Tryz.prog 177 #[.int .i64 x] w fun e w'=>e = .returned (.bool false)∧w' = w:=by
 have h:(x != x) = false:=J65
 go_enter func177,ntmps177
 exact K102
theorem cmp64_any (x y:Int) (w:World):Calls Tryz.prog 134 #[.int .i64 x,.int .i64 y] w fun e w'=>e = .returned (.int .i64 (sg3 x y))∧w' = w:=by
 have c1:=fun W=>isnan_any x W
 have c2:=fun W=>isnan_any y W
 have hc:x < y∨(¬ x < y∧y < x)∨(¬ x < y∧¬ y < x):=J2
 rcases hc with h | ⟨h,g⟩ | ⟨h,g⟩
 · have H:Hid (sg3 x y = -1):=by show sg3 x y = _;unfold sg3;rw [if_pos h]
   exact K184
 · have H:Hid (sg3 x y = 1):=by show sg3 x y = _;unfold sg3;rw [if_neg h,if_pos g]
   have g':x > y:=g
   exact K184
 · have H:Hid (sg3 x y = 0):=by show sg3 x y = _;unfold sg3;rw [if_neg h,if_neg g]
   exact K184
def or3 (x y z:Int):Int:=if x≠0 then x else if y≠0 then y else z
theorem or_any (x y z:Int) (L:Nat) (w:World) (h0:w.cell? ⟨L,0,none⟩ = some (.int .i64 x)) (h1:w.cell? ⟨L,1,none⟩ = some (.int .i64 y)) (h2:w.cell? ⟨L,2,none⟩ = some (.int .i64 z)) :
   Calls Tryz.prog 30 #[.slice (some ⟨L,0,none⟩) 3 3] w fun e w'=>e = .returned (.int .i64 (or3 x y z))∧w' = w:=by
 by_cases hx:x = 0
 · by_cases hy:y = 0
   · by_cases hz:z = 0
     · subst hx hy hz
       go_enter func30,ntmps30
       go_wp2
       refine wp_loop_rounds 4 ?_
       repeat (rw [rounds_succ];go_wp2)
       go_ret
       exact ⟨rfl,rfl⟩
     · have H:Hid (or3 x y z = z):=by show or3 x y z = z;unfold or3;rw [if_neg J2,if_neg J2]
       have hz':(z != 0) = true:=by simpa using hz
       subst hx hy
       clear hz
       exact K194
   · have H:Hid (or3 x y z = y):=by show or3 x y z = y;unfold or3;rw [if_neg J2,if_pos hy]
     have hy':(y != 0) = true:=by simpa using hy
     subst hx
     clear hy
     exact K194
 · have H:Hid (or3 x y z = x):=by show or3 x y z = x;unfold or3;rw [if_pos hx]
   have hx':(x != 0) = true:=by simpa using hx
   clear hx
   exact K194
def bk0 (k ak:Int):Int:=if ak = 0 then k else ak
def bkS (ak:Int) (s:ByteArray):ByteArray:=if ak = 0 then ⟨#[]⟩ else s
theorem blankas_any (k ak an:Int) (sa:ByteArray) (ae:Int) (w:World):Calls Tryz.prog 132 #[.int .i64 k,.agg #[.int .i64 ak,.int .i64 an,.string sa,.int .i64 ae]] w fun e w' =>
   e = .returned (.agg #[.int .i64 (bk0 k ak),.int .i64 (if ak = 0 then 0 else an),.string (bkS ak sa),.int .i64 (if ak = 0 then 0 else ae)])∧Ext w w':=by
 by_cases h:ak = 0
 · subst h
   have H:Hid (bk0 k 0 = k∧bkS 0 sa = ⟨#[]⟩):=⟨rfl,rfl⟩
   simp only [if_true]
   exact K119
 · have H:Hid (bk0 k ak = ak∧bkS ak sa = sa):=by show _∧_;unfold bk0 bkS;rw [if_neg h,if_neg h];exact ⟨rfl,rfl⟩
   simp only [h,if_false]
   exact K119
def V.k:V→Int
 | .blank=>0
 | .tf _=>1
 | .num _=>2
 | .text _=>3
 | .err _=>4
def V.n:V→Int
 | .tf b=>if b then 1 else 0
 | .num n=>n
 | _=>0
def V.s:V→ByteArray
 | .text s=>s
 | _=>⟨#[]⟩
def V.e:V→Int
 | .err e=>e
 | _=>0
theorem dat_eq (v:V):v.dat = .agg #[.int .i64 v.k,.int .i64 v.n,.string v.s,.int .i64 v.e]:=by cases v <;> rfl
theorem cmp_ea {a:V} (b:V) (h:a.k = 4):cmpV a b = 0∧cmpE a b = a:=by cases a <;> first | (cases b <;> exact ⟨rfl,rfl⟩) | (simp [V.k] at h)
theorem cmp_eb {a b:V} (h:a.k≠4) (g:b.k = 4):cmpV a b = 0∧cmpE a b = b:=by
 cases b <;> first | (simp [V.k] at g;done) | (cases a <;> first | exact ⟨rfl,rfl⟩ | (simp [V.k] at h))
theorem cmp_n {a b:V} (h:a.k≠4) (g:b.k≠4):cmpE a b = .blank ∧
   cmpV a b = or3 (sg3 (rk (bk0 b.k a.k)) (rk (bk0 a.k b.k))) (sg3 (if a.k = 0 then 0 else a.n) (if b.k = 0 then 0 else b.n)) (Lib.compareBytes (bkS a.k a.s).data.toList (bkS b.k b.s).data.toList):=by
 cases a <;> cases b <;> first | (exfalso;revert h g;simp [V.k];done) | skip
 all_goals
   refine ⟨rfl,?_⟩
   simp only [cmpV,asBy,V.zeroOf,ord,V.k,V.n,V.s,bk0,bkS,rk,rankV]
   simp [Lib.compareBytes]
   try (first | rfl | decide | (unfold or3 sg3;simp;done))
structure Rw where
 k:Int
 n:Int
 s:ByteArray
 e:Int
def Rw.v (r:Rw):V:=nm r.k r.n r.s r.e
structure Ag where
 area:Bool
 l:List Rw
def one1:List Rw→V
 | []=>.blank
 | r :: _=>r.v
def seen1 (a:Ag):List (V × Bool):=if a.area then a.l.map (fun r=>(r.v,true)) else [(one1 a.l,false)]
def seen (l:List Ag):List (V × Bool):=l.flatMap seen1
def numF (v:V) (area:Bool):V:=if area then (match v with | .tf _=>.blank | .text _=>.blank | u=>u) else v.toNum
def truF (v:V) (area:Bool):V:=if area then (match v with | .blank=>.blank | .text _=>.blank | u=>u.toBool) else v.toBool
def texF (v:V) (_:Bool):V:=v.toText
def goes (v:V):Bool:=!(v.k == 0) && !(v.k == 4)
def got (f:V→Bool→V):List (V × Bool)→List V
 | []=>[]
 | p :: l=>if goes (f p.1 p.2) then f p.1 p.2 :: got f l else got f l
def bad (f:V→Bool→V):List (V × Bool)→V
 | []=>.blank
 | p :: l=>if (f p.1 p.2).k = 4 then f p.1 p.2 else bad f l
def sumN:List V→Int
 | []=>0
 | v :: l=>v.n+sumN l
def bestF (p:Int→Int→Bool) (b:Int):List V→Int
 | []=>b
 | v :: l=>bestF p (if p v.n b then v.n else b) l
def bestN (p:Int→Int→Bool):List V→Int
 | []=>0
 | v :: l=>bestF p v.n l
def ltB (a b:Int):Bool:=decide (a < b)
def gtB (a b:Int):Bool:=decide (a > b)
def truN:List V→Nat
 | []=>0
 | v :: l=>(if v.n = 0 then 0 else 1)+truN l
def catF (a:List UInt8):List V→List UInt8
 | []=>a
 | v :: l=>catF (if a.length≤300 then a ++ v.s.data.toList else a) l
def allC:List V→List UInt8
 | []=>[]
 | v :: l=>v.s.data.toList ++ allC l
def meanQ (x n:Int):Int:=(2 * absI x+n) / (2 * n)
def meanB (x n:Int):Bool:=decide (1≤n) && decide (meanQ x n≤9223372036854775807)
def meanV (x n:Int):Int:=if meanB x n then (if x < 0 then -meanQ x n else meanQ x n) else 0
def orBad (b v:V):V:=if b.k = 4 then b else v
def fSum (l:List Ag):V:=orBad (bad numF (seen l)) (toldR (toldB (sumN (got numF (seen l)))) (toldV (sumN (got numF (seen l)))))
def fCount (l:List Ag):V:=mkNum (((got numF (seen l)).length:Int) * 10000)
def fBest (p:Int→Int→Bool) (l:List Ag):V:=orBad (bad numF (seen l)) (mkNum (bestN p (got numF (seen l))))
def fMean (l:List Ag):V:=orBad (bad numF (seen l)) (if (got numF (seen l)).length = 0 then .err 3 else toldR (meanB (sumN (got numF (seen l))) (got numF (seen l)).length) (meanV (sumN (got numF (seen l))) (got numF (seen l)).length))
def fTruth (b:Bool) (l:List Ag):V:=orBad (bad truF (seen l)) (if (got truF (seen l)).length = 0 then .err 2 else .tf b)
def fAnd (l:List Ag):V:=fTruth (decide (truN (got truF (seen l)) = (got truF (seen l)).length)) l
def fOr (l:List Ag):V:=fTruth (decide (0 < truN (got truF (seen l)))) l
def fCat (l:List Ag):V:=orBad (bad texF (seen l)) (mkText (bs (allC (got texF (seen l)))))
theorem got_app (f:V→Bool→V) (a b:List (V × Bool)):got f (a ++ b) = got f a ++ got f b:=by
 induction a with
 | nil=>rfl
 | cons p a ih =>
   show (if goes (f p.1 p.2) then f p.1 p.2 :: got f (a ++ b) else got f (a ++ b)) = (if goes (f p.1 p.2) then f p.1 p.2 :: got f a else got f a) ++ got f b
   split
   · rw [ih];rfl
   · exact ih
theorem bad_app (f:V→Bool→V) (a b:List (V × Bool)):bad f (a ++ b) = if (bad f a).k = 4 then bad f a else bad f b:=by
 induction a with
 | nil=>rfl
 | cons p a ih =>
   show (if (f p.1 p.2).k = 4 then f p.1 p.2 else bad f (a ++ b)) = if (if (f p.1 p.2).k = 4 then f p.1 p.2 else bad f a).k = 4 then (if (f p.1 p.2).k = 4 then f p.1 p.2 else bad f a) else bad f b
   by_cases h:(f p.1 p.2).k = 4
   · simp only [h,if_true]
   · simp only [h,if_false];exact ih
theorem bad_kind (f:V→Bool→V) (l:List (V × Bool)):bad f l = .blank∨(bad f l).k = 4:=by
 induction l with
 | nil=>exact .inl rfl
 | cons p l ih =>
   by_cases h:(f p.1 p.2).k = 4
   · exact .inr (by simp only [bad,h,if_true])
   · simp only [bad,h,if_false];exact ih
theorem got_len (f:V→Bool→V) (l:List (V × Bool)):(got f l).length≤l.length:=by
 induction l with
 | nil=>exact Nat.le_refl _
 | cons p l ih =>
   unfold got
   split
   · simp;exact ih
   · simp;omega
theorem sumN_app (a b:List V):sumN (a ++ b) = sumN a+sumN b:=by
 induction a with
 | nil=>simp [sumN]
 | cons v a ih=>simp only [List.cons_append,sumN,ih];omega
theorem truN_app (a b:List V):truN (a ++ b) = truN a+truN b:=by
 induction a with
 | nil=>simp [truN]
 | cons v a ih=>simp only [List.cons_append,truN,ih];omega
theorem truN_le (a:List V):truN a≤a.length:=by
 induction a with
 | nil=>exact Nat.le_refl _
 | cons v a ih=>simp only [truN,List.length_cons];split <;> omega
theorem bestF_app (p:Int→Int→Bool) (b:Int) (l:List V) (v:V):bestF p b (l ++ [v]) = if p v.n (bestF p b l) then v.n else bestF p b l:=by
 induction l generalizing b with
 | nil=>rfl
 | cons u l ih=>exact ih _
theorem bestN_app (p:Int→Int→Bool) (l:List V) (v:V):bestN p (l ++ [v]) = if l.length = 0 then v.n else if p v.n (bestN p l) then v.n else bestN p l:=by
 cases l with
 | nil=>rfl
 | cons u l =>
   rw [if_neg J65]
   exact bestF_app p u.n l v
theorem catF_app (a:List UInt8) (l:List V) (v:V):catF a (l ++ [v]) = if (catF a l).length≤300 then catF a l ++ v.s.data.toList else catF a l:=by
 induction l generalizing a with
 | nil=>rfl
 | cons u l ih=>exact ih _
theorem catF_long (a:List UInt8) (l:List V) (h:300 < a.length):catF a l = a:=by
 induction l with
 | nil=>rfl
 | cons v l ih=>show catF (if a.length≤300 then _ else a) l = a;rw [if_neg J2];exact ih
theorem catF_all (a:List UInt8) (l:List V):catF a l = a ++ allC l∨(300 < (catF a l).length∧300 < (a ++ allC l).length):=by
 induction l generalizing a with
 | nil=>exact .inl (by simp [catF,allC])
 | cons v l ih =>
   by_cases h:a.length≤300
   · have e:catF a (v :: l) = catF (a ++ v.s.data.toList) l:=by show catF (if a.length≤300 then _ else a) l = _;rw [if_pos h]
     rw [e]
     have:=ih (a ++ v.s.data.toList)
     simpa only [allC,List.append_assoc] using this
   · refine .inr ⟨?_,?_⟩
     · rw [catF_long a _ J2];omega
     · rw [List.length_append];omega
theorem bs_len (l:List UInt8):(bs l).size = l.length:=by show l.toArray.size = _;simp
theorem cat_text (l:List V):mkText (bs (catF [] l)) = mkText (bs (allC l)):=by
 rcases catF_all [] l with h | ⟨h1,h2⟩
 · rw [h];rfl
 · unfold mkText
   rw [bs_len,bs_len,if_neg J2,if_neg (by simpa using h2)]
theorem numF_ok (v:V) (a:Bool) (h:v.ok):(numF v a).k = 0∨(∃ e,numF v a = .err e∧1≤e∧e≤5)∨∃ n,numF v a = .num n∧I64 n∧canB n = true:=by
 cases a with
 | false =>
   rcases toNum_cases v h with ⟨n,hn,h2⟩ | ⟨e,he,h2⟩
   · exact .inr (.inr ⟨n,hn,h2⟩)
   · exact .inr (.inl ⟨e,he,h2⟩)
 | true =>
   cases v with
   | blank=>exact .inl rfl
   | tf b=>exact .inl rfl
   | num n=>exact .inr (.inr ⟨n,rfl,h⟩)
   | text s=>exact .inl rfl
   | err e=>exact .inr (.inl ⟨e,rfl,h⟩)
def AllN (l:List V):Prop:=∀ v ∈ l,∃ n,v = .num n∧I64 n∧canB n = true
def OkS (l:List (V × Bool)):Prop:=∀ p ∈ l,p.1.ok
theorem got_nums (l:List (V × Bool)) (h:OkS l):AllN (got numF l):=by
 induction l with
 | nil=>intro v hv;exact absurd hv (by simp [got])
 | cons p l ih =>
   have ih:=ih (fun q hq=>h q (by simp [hq]))
   unfold got
   split
   · rename_i g
     intro v hv
     rcases List.mem_cons.1 hv with rfl | hv
     · rcases numF_ok p.1 p.2 (h p J65) with k | ⟨e,k,_⟩ | k
       · simp [goes,k] at g
       · simp [goes,k,V.k] at g
       · exact k
     · exact ih v hv
   · exact ih
def AgI (l:List Ag):Prop:=∀ a ∈ l,∀ r ∈ a.l,I64 r.n
theorem seen_ok (l:List Ag) (h:AgI l):OkS (seen l):=by
 intro p hp
 obtain ⟨a,ha,hp⟩:=List.mem_flatMap.1 hp
 unfold seen1 at hp
 split at hp
 · obtain ⟨r,hr,rfl⟩:=List.mem_map.1 hp
   exact nm_ok _ _ _ _ (h a ha r hr)
 · simp at hp
   subst hp
   have:=h a ha
   cases hl:a.l with
   | nil=>trivial
   | cons r t=>exact nm_ok _ _ _ _ (this r J57)
theorem sum_le {l:List V} {c:Int} (h:∀ v ∈ l,v.n≤c):sumN l≤l.length * c:=by
 exact K75
theorem le_sum {l:List V} {c:Int} (h:∀ v ∈ l,c≤v.n):l.length * c≤sumN l:=by
 exact K75
theorem neg_mod (n b:Int) (hb:0 < b):(-n) % b = if n % b = 0 then 0 else b - n % b:=by
 have h1:=Int.emod_add_mul_ediv n b
 have h2:=Int.emod_nonneg n (show b≠0 by omega)
 have h3:=Int.emod_lt_of_pos n hb
 generalize n % b = r at *
 generalize n / b = q at *
 split
 · rename_i h
   have:-n = b * (-q):=by rw [Int.mul_neg];omega
   rw [this,Int.mul_emod_right]
 · have:-n = (b - r)+b * (-q - 1):=by rw [Int.mul_sub,Int.mul_neg,Int.mul_one];omega
   rw [this,Int.add_mul_emod_self_left,Int.emod_eq_of_lt J2 J2]
def fm (a b:Int):Int:=if 0 < b then a % b else -((-a) % (-b))
theorem tmod_pos (a b:Int) (ha:0≤a):a.tmod b = a % b:=Int.tmod_eq_emod_of_nonneg ha
theorem tmod_neg' (a b:Int) (ha:a < 0):a.tmod b = -((-a) % b):=by
 have:=Int.tmod_eq_emod_of_nonneg (a:=-a) (b:=b) J2
 rw [Int.neg_tmod] at this
 omega
theorem emod_negb (a b:Int):a % (-b) = a % b:=Int.emod_neg a b
theorem fm_ways (a b:Int) (hb:b≠0):(a.tmod b = 0→fm a b = 0)∧((a.tmod b < 0∧b < 0)∨(0 < a.tmod b∧0 < b)→fm a b = a.tmod b)∧((a.tmod b < 0∧0 < b)∨(0 < a.tmod b∧b < 0)→fm a b = a.tmod b+b)∧(a.tmod b < b∨b < 0)∧(a.tmod b < -b∨0 < b)∧(-b < a.tmod b∨b < 0)∧(b < a.tmod b∨0 < b):=by
 unfold fm
 by_cases ha:0≤a
 · rw [tmod_pos a b ha]
   by_cases hp:0 < b
   · have h2:=Int.emod_nonneg a hb
     have h3:=Int.emod_lt_of_pos a hp
     rw [if_pos hp]
     generalize a % b = r at *
     refine ⟨fun h=>?_,fun h=>?_,fun h=>?_,?_,?_,?_,?_⟩ <;> omega
   · have e:a % b = a % (-b):=(emod_negb a b).symm
     have n:=neg_mod a (-b) J2
     have h2:=Int.emod_nonneg a (show -b≠0 by omega)
     have h3:=Int.emod_lt_of_pos a (show 0 < -b by omega)
     rw [e,n]
     rw [if_neg hp]
     generalize a % (-b) = r at *
     exact K172
 · rw [tmod_neg' a b J2]
   by_cases hp:0 < b
   · have n:=neg_mod (-a) b hp
     rw [Int.neg_neg] at n
     have h2:=Int.emod_nonneg (-a) hb
     have h3:=Int.emod_lt_of_pos (-a) hp
     rw [n]
     rw [if_pos hp]
     generalize (-a) % b = r at *
     exact K172
   · have e:(-a) % b = (-a) % (-b):=(emod_negb (-a) b).symm
     have h2:=Int.emod_nonneg (-a) (show -b≠0 by omega)
     have h3:=Int.emod_lt_of_pos (-a) (show 0 < -b by omega)
     rw [e]
     rw [if_neg hp]
     generalize (-a) % (-b) = r at *
     refine ⟨fun h=>?_,fun h=>?_,fun h=>?_,?_,?_,?_,?_⟩ <;> omega
theorem fm_bd (a b:Int) (hb:b≠0):(0 < b→0≤fm a b∧fm a b < b)∧(b < 0→b < fm a b∧fm a b≤0):=by
 unfold fm
 constructor
 · intro h
   simp only [h,if_true]
   exact ⟨Int.emod_nonneg a hb,Int.emod_lt_of_pos a h⟩
 · intro h
   have h2:=Int.emod_nonneg (-a) (show -b≠0 by omega)
   have h3:=Int.emod_lt_of_pos (-a) (show 0 < -b by omega)
   rw [if_neg J2]
   omega
def modB (a b:Int):Bool:=(canB a && canB b) && b != 0
def modV (a b:Int):Int:=if modB a b then fm a b else 0
theorem modB_yes {a b:Int} (h:(canB a && canB b) = true) (hz:b≠0):modB a b = true:=by unfold modB;rw [h];simp [hz]
theorem modV_yes {a b:Int} (h:(canB a && canB b) = true) (hz:b≠0):modV a b = fm a b:=by unfold modV;rw [modB_yes h hz];rfl
theorem modB_no {a b:Int} (h:(canB a && canB b) = false):modB a b = false:=by unfold modB;rw [h];rfl
theorem modV_no {a b:Int} (h:(canB a && canB b) = false):modV a b = 0:=by unfold modV;rw [modB_no h];rfl
theorem modB_nought (a:Int):modB a 0 = false:=by unfold modB;simp
theorem modV_nought (a:Int):modV a 0 = 0:=by unfold modV;rw [modB_nought];rfl
theorem mod_go (a b m:Int) (ha:I64 a) (hb:I64 b) (hc:(canB a && canB b) = true) (hz:b≠0) (hm:a.tmod b = m) (r:Int)
   (hr:(m = 0∧r = 0)∨(m < 0∧b < 0∧r = m)∨(0 < m∧0 < b∧r = m)∨(m < 0∧0 < b∧r = m+b)∨(0 < m∧b < 0∧r = m+b))
   (m1:-9223372036854775808≤m) (m2:m≤9223372036854775807) (w:World) :
   Calls Tryz.prog 246 #[.int .i64 a,.int .i64 b] w fun e w'=>e = .returned (.tuple #[.int .i64 r,.bool true])∧Ext w w':=by
 have hz1:(b == 0) = false:=by simp [hz]
 have hz3:¬ b = 0:=hz
 obtain ⟨a1,a2⟩:=ha;obtain ⟨b1,b2⟩:=hb
 clear hz
 rcases hr with ⟨h1,h3⟩ | ⟨h1,h2,h3⟩ | ⟨h1,h2,h3⟩ | ⟨h1,h2,h3⟩ | ⟨h1,h2,h3⟩
 all_goals
   have H3:Hid (r = _):=h3
   clear h3
 · subst h1
   exact K36
 all_goals
   have k1:(m != 0) = true:=J6
   have k2:¬ m = 0:=J2
 · have k3:decide (m < 0) = true:=J6
   have k4:decide (b < 0) = true:=J6
   exact K36
 · have k3:decide (m < 0) = false:=J6
   have k4:decide (b < 0) = false:=J6
   exact K36
 · have k3:decide (m < 0) = true:=J6
   have k4:decide (b < 0) = false:=J6
   exact K36
 · have k3:decide (m < 0) = false:=J6
   have k4:decide (b < 0) = true:=J6
   exact K36
theorem mod_any (a b:Int) (ha:I64 a) (hb:I64 b) (w:World):Calls Tryz.prog 246 #[.int .i64 a,.int .i64 b] w fun e w'=>e = .returned (.tuple #[.int .i64 (modV a b),.bool (modB a b)])∧Ext w w':=by
 cases hc:(canB a && canB b)
 · have HC:Hid (modB a b = false):=modB_no hc
   have HV:Hid (modV a b = 0):=modV_no hc
   go_enter func246,ntmps246
   exact K46
 by_cases hz:b = 0
 · subst hz
   have HC:Hid (modB a 0 = false):=modB_nought a
   have HV:Hid (modV a 0 = 0):=modV_nought a
   go_enter func246,ntmps246
   go_wp2_with (go_at_call 219;refine Calls.mono (numbers_2 a 0 w.heap.size _ J17 J17) ?_;rintro e w' ⟨rfl,rfl⟩)
   go_ret2
   exact ⟨ret_ib HV.out.symm HC.out.symm,xr.alloc _⟩
 · rw [modB_yes hc hz,modV_yes hc hz]
   obtain ⟨f1,f2,f3,f4,f5,f6,f7⟩:=fm_ways a b hz
   have hb':=hb
   obtain ⟨b1,b2⟩:=hb'
   refine mod_go a b (a.tmod b) ha hb hc hz rfl (fm a b) ?_ J2 J2 w
   generalize a.tmod b = m at *
   by_cases k0:m = 0
   · exact Or.inl ⟨k0,f1 k0⟩
   refine Or.inr ?_
   by_cases k1:m < 0
   · by_cases k2:b < 0
     · exact Or.inl ⟨k1,k2,f2 (Or.inl ⟨k1,k2⟩)⟩
     · exact Or.inr (Or.inr (Or.inl ⟨k1,by omega,f3 (Or.inl ⟨k1,by omega⟩)⟩))
   · by_cases k2:b < 0
     · exact Or.inr (Or.inr (Or.inr ⟨by omega,k2,f3 (Or.inr ⟨by omega,k2⟩)⟩))
     · exact Or.inr (Or.inl ⟨by omega,by omega,f2 (Or.inr ⟨by omega,by omega⟩)⟩)
theorem ten_le {k:Nat} (h:k < 18):10 ^ k≤100000000000000000:=Nat.pow_le_pow_right (n:=10) J2 (show k≤17 by omega)
theorem ten_le' {k:Nat} (h:k≤18):10 ^ k≤1000000000000000000:=Nat.pow_le_pow_right (n:=10) J2 h
theorem power_any (n:Nat) (hn:n≤18) (w:World):Calls Tryz.prog 244 #[.int .i64 n] w fun e w'=>e = .returned (.int .i64 ((10 ^ n:Nat):Int))∧w' = w:=by
 go_enter func244,ntmps244
 go_wp2
 go_loop [3,5] (fun p i=>∃ k:Nat,k≤n∧i = .int .i64 k∧p = .int .i64 ((10 ^ k:Nat):Int)) (fun _ i=>n - (intOf i).toNat)
 case atStart=>exact ⟨0,Nat.zero_le _,rfl,rfl⟩
 case round =>
   obtain ⟨k,hk,rfl,rfl⟩:=hrel
   by_cases hlt:k < n
   · have hb:=ten_le (k:=k) J2
     have HS:Hid (10 ^ (k+1) = 10 ^ k * 10):=Nat.pow_succ 10 k
     obtain ⟨P,hP⟩:∃ P,P = 10 ^ k:=⟨_,rfl⟩
     rw [← hP] at hb ⊢
     have HP:Hid (P = 10 ^ k):=hP
     clear hP
     have i1:(P:Int)≤100000000000000000:=J2
     clear hb
     go_wp2
     go_round
     case rel=>exact ⟨k+1,by omega,by go_num,congrArg (Value.int .i64) (by rw [HS.out,← HP.out];omega)⟩
     case measure=>simp [intOf];omega
   · go_wp2
     go_ret
     have:k = n:=J2
     subst this
     exact ⟨rfl,rfl⟩
def floorB (a:Int):Bool:=canB a && subB a (a % 10000)
def floorV (a:Int):Int:=if canB a then subV a (a % 10000) else 0
theorem mod1_bd (a:Int):I64 (a % 10000):=⟨by omega,by omega⟩
theorem modB_one (a:Int):modB a 10000 = canB a:=by
 unfold modB
 have:canB 10000 = true:=J9
 rw [this]
 simp
theorem modV_one (a:Int) (h:canB a = true):modV a 10000 = a % 10000:=by
 unfold modV fm
 rw [modB_one,h]
 rfl
theorem floor_any (a:Int) (ha:I64 a) (w:World):Calls Tryz.prog 195 #[.int .i64 a] w fun e w'=>e = .returned (.tuple #[.int .i64 (floorV a),.bool (floorB a)])∧Ext w w':=by
 have c1:=fun W=>mod_any a 10000 ha ⟨by omega,by omega⟩ W
 have c2:=fun W=>sub_any a (a % 10000) ha (mod1_bd a) W
 rw [modB_one] at c1
 cases hc:canB a
 · have HC:Hid (floorB a = false):=by show floorB a = false;unfold floorB;rw [hc];rfl
   have HV:Hid (floorV a = 0):=by show floorV a = 0;unfold floorV;rw [hc];rfl
   rw [hc] at c1
   generalize modV a 10000 = m at *
   go_enter func195,ntmps195
   go_wp2_with fail
   refine (c1 _).mono ?_
   rintro e w1 ⟨rfl,E1⟩
   go_wp2
   go_ret2
   exact ⟨ret_ib HV.out.symm HC.out.symm,E1⟩
 · have HC:Hid (floorB a = subB a (a % 10000)):=by show floorB a = _;unfold floorB;rw [hc];rfl
   have HV:Hid (floorV a = subV a (a % 10000)):=by show floorV a = _;unfold floorV;rw [hc];rfl
   rw [hc,modV_one a hc] at c1
   generalize a % 10000 = m at *
   go_enter func195,ntmps195
   go_wp2_with fail
   refine (c1 _).mono ?_
   rintro e w1 ⟨rfl,E1⟩
   go_wp2_with fail
   refine (c2 _).mono ?_
   rintro e w2 ⟨rfl,E2⟩
   go_wp2
   go_ret2
   exact ⟨ret_ib HV.out.symm HC.out.symm,E1.trans E2⟩
end Go.Proofs.YtcfgbiaahangmaaGreatDoor
