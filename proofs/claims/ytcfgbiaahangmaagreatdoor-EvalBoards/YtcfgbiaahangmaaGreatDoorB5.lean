import Derived.Test.YtcfgbiaahangmaaGreatDoorB4
import Derived.Lib.Bytealg
set_option maxHeartbeats 1000000
namespace Go.Proofs.YtcfgbiaahangmaaGreatDoor
open Go.Proofs.Tryz
open Go.RowKit
theorem zs_add (i j : Nat) : zs i ++ zs j = zs (i + j):=by simp [zs]
theorem take_zs (i j : Nat) (h : j ≤ i) : (zs i).take j = zs j:=by simp [zs,List.take_replicate];omega
theorem four_pad (f : List UInt8) (j k : Nat) (h : f.length + k = 4) : four (f ++ zs j) = f ++ zs k:=by
 unfold four
 rw [List.append_assoc,zs_add,List.take_append,List.take_of_length_le J2,take_zs _ _ J2,show 4 - f.length = k by omega]
theorem rnd_pad (f : List UInt8) (j : Nat) (h : f.length ≤ 4) : rndN (f ++ zs j) = 0:=by
 rw [fifth_get,if_neg]
 rintro ⟨h1,h2⟩
 rw [List.getD_eq_getElem?_getD,List.getElem?_append,if_neg J2] at h2
 rw [List.length_append,len_zs] at h1
 rw [gEq (by rw [len_zs];omega),zs_get] at h2
 exact absurd h2 J9
theorem size_plain (c : UInt8) (x : List UInt8) (h : dgB c = true) : minusB (c :: x) = false ∧ sizeL (c :: x) = c :: x:=by
 have hc : c ≠ 45:=by intro e;subst e;exact absurd h J9
 have : minusB (c :: x) = false:=by
   show ((some c : Option UInt8) == some 45) = false
   simpa using hc
 exact ⟨this,by unfold sizeL;rw [this];rfl⟩
theorem size_plain' (A x : List UInt8) (h : A.all dgB = true) (h1 : 1 ≤ A.length) : minusB (A ++ x) = false ∧ sizeL (A ++ x) = A ++ x:=by
 cases A with
 | nil=>simp at h1
 | cons c A=>rw [List.all_cons,Bool.and_eq_true] at h;exact size_plain c _ h.1
theorem size_minus (x : List UInt8) : minusB (45 :: x) = true ∧ sizeL (45 :: x) = x:=⟨rfl,rfl⟩
def sgnL (neg : Bool) (x : List UInt8) : List UInt8:=if neg then 45 :: x else x
theorem sgn_parts (neg : Bool) (A x : List UInt8) (h : A.all dgB = true) (h1 : 1 ≤ A.length) : minusB (sgnL neg (A ++ x)) = neg ∧ sizeL (sgnL neg (A ++ x)) = A ++ x:=by
 cases neg
 · exact size_plain' A x h h1
 · exact size_minus _
theorem num_bare (neg : Bool) (A : List UInt8) (hA : okD A = true) : numB (sgnL neg A) = true ∧ numN (sgnL neg A) = nv A [] ∧ minusB (sgnL neg A) = neg:=by
 have a:=okD_bd hA
 have a1 : 1 ≤ A.length:=((ok_iff A).1 hA).1.1
 obtain ⟨m,z⟩:=sgn_parts neg A [] a.2 a1
 rw [List.append_nil] at m z
 obtain ⟨d1,d2,d3⟩:=dot_no a.2
 refine ⟨?_,?_,m⟩
 · unfold numB;rw [z,d1,d2,hA];rfl
 · unfold numN;rw [z,d2,d3]
theorem nv_pad (i j q r : Nat) (hr : r < 10000) : nv (zs i ++ Lib.decDigits q) (fracL r ++ zs j) = q * 10000 + r:=by
 obtain ⟨k,hk,hl⟩:=frac_back r hr
 unfold nv
 rw [four_pad _ _ k hl,rnd_pad _ _ J2,← hk,List.append_assoc,val_append,val_zs,val_append,dec_val,F4_val r hr]
 simp [F4]
theorem nv_bare (q : Nat) : nv (Lib.decDigits q) [] = q * 10000:=by
 have:=nv_pad 0 0 q 0 J2
 rw [frac_zero] at this
 simpa [zs] using this
theorem print_sgn (a : Int) (h : canB a = true) : printL a = sgnL (decide (a < 0)) (bodyL a.natAbs):=by
 unfold printL sgnL
 rw [h,if_pos rfl]
 by_cases hn : a < 0
 · simp [hn]
 · simp [hn]
def mulB (a b : Int) : Bool:=(canB a && canB b) && sgnB (ratN a b 10000)
def mulV (a b : Int) : Int:=if canB a && canB b then sgnV (ratS a b 10000) (ratN a b 10000) else 0
def divB (a b : Int) : Bool:=(canB a && canB b) && (b != 0 && sgnB (ratN a 10000 b))
def divV (a b : Int) : Int:=if (canB a && canB b) && b != 0 then sgnV (ratS a 10000 b) (ratN a 10000 b) else 0
theorem mul_any (a b : Int) (ha : I64 a) (hb : I64 b) (w : World) : Calls Tryz.prog 173 #[.int .i64 a,.int .i64 b] w fun e w'=>e = .returned (.tuple #[.int .i64 (mulV a b),.bool (mulB a b)]) ∧ Ext w w':=by
 cases hc : (canB a && canB b)
 · have HC : Hid (mulB a b = false):=by show mulB a b = false;unfold mulB;rw [hc];rfl
   have HV : Hid (mulV a b = 0):=by show mulV a b = 0;unfold mulV;rw [hc];rfl
   go_enter func173,ntmps173
   exact K43
 · have HC : Hid (mulB a b = sgnB (ratN a b 10000)):=by show mulB a b = _;unfold mulB;rw [hc];rfl
   have HV : Hid (mulV a b = sgnV (ratS a b 10000) (ratN a b 10000)):=by show mulV a b = _;unfold mulV;rw [hc];rfl
   have cR:=fun W=>ratio_any a b 10000 ha hb ⟨by omega,by omega⟩ J2 W
   go_enter func173,ntmps173
   exact K81
theorem div_any (a b : Int) (ha : I64 a) (hb : I64 b) (w : World) : Calls Tryz.prog 175 #[.int .i64 a,.int .i64 b] w fun e w'=>e = .returned (.tuple #[.int .i64 (divV a b),.bool (divB a b)]) ∧ Ext w w':=by
 cases hc : (canB a && canB b)
 · have HC : Hid (divB a b = false):=by show divB a b = false;unfold divB;rw [hc];rfl
   have HV : Hid (divV a b = 0):=by show divV a b = 0;unfold divV;rw [hc];rfl
   go_enter func175,ntmps175
   exact K43
 by_cases hz : b = 0
 · have HC : Hid (divB a b = false):=by show divB a b = false;unfold divB;simp [hz]
   have HV : Hid (divV a b = 0):=by show divV a b = 0;unfold divV;simp [hz]
   have hz1 : (b == 0) = true:=by simp [hz]
   clear hz
   go_enter func175,ntmps175
   exact K43
 · have hz1 : (b == 0) = false:=by simp [hz]
   have hz2 : (b != 0) = true:=by simp [hz]
   have HC : Hid (divB a b = sgnB (ratN a 10000 b)):=by show divB a b = _;unfold divB;rw [hc,hz2];rfl
   have HV : Hid (divV a b = sgnV (ratS a 10000 b) (ratN a 10000 b)):=by show divV a b = _;unfold divV;rw [hc,hz2];rfl
   have cR:=fun W=>ratio_any a 10000 b ha ⟨by omega,by omega⟩ hb hz W
   clear hz hz2
   go_enter func175,ntmps175
   exact K81
inductive V where
 | blank
 | tf (b : Bool)
 | num (n : Int)
 | text (s : ByteArray)
 | err (e : Int)
def V.dat : V → Value
 | .blank=>.agg #[.int .i64 0,.int .i64 0,.string ⟨#[]⟩,.int .i64 0]
 | .tf b=>.agg #[.int .i64 1,.int .i64 (if b then 1 else 0),.string ⟨#[]⟩,.int .i64 0]
 | .num n=>.agg #[.int .i64 2,.int .i64 n,.string ⟨#[]⟩,.int .i64 0]
 | .text s=>.agg #[.int .i64 3,.int .i64 0,.string s,.int .i64 0]
 | .err e=>.agg #[.int .i64 4,.int .i64 0,.string ⟨#[]⟩,.int .i64 e]
def V.ok : V → Prop
 | .num n=>I64 n ∧ canB n = true
 | .text s=>s.size ≤ 300
 | .err e=>1 ≤ e ∧ e ≤ 5
 | _=>True
def mkErr (e : Int) : V:=.err (if 1 ≤ e ∧ e ≤ 5 then e else 2)
def mkNum (n : Int) : V:=if canB n then .num n else .err 4
def mkText (s : ByteArray) : V:=if s.size ≤ 300 then .text s else .err 2
def nm (k n : Int) (s : ByteArray) (e : Int) : V :=
 if k = 1 then .tf (n != 0) else if k = 2 then mkNum n else if k = 3 then mkText s else if k = 4 then mkErr e else .blank
theorem mkErr_ok (e : Int) : (mkErr e).ok:=by unfold mkErr;show 1 ≤ _ ∧ _ ≤ (5 : Int);split <;> omega
theorem mkErr_is {e : Int} (h : 1 ≤ e ∧ e ≤ 5) : mkErr e = .err e:=by unfold mkErr;rw [if_pos h]
theorem mkNum_ok (n : Int) (h : I64 n) : (mkNum n).ok:=by
 unfold mkNum;split
 · exact ⟨h,by assumption⟩
 · exact K78
theorem mkNum_is {n : Int} (h : canB n = true) : mkNum n = .num n:=by unfold mkNum;rw [if_pos h]
theorem mkText_ok (s : ByteArray) : (mkText s).ok:=by
 unfold mkText;split
 · assumption
 · exact K78
theorem mkText_is {s : ByteArray} (h : s.size ≤ 300) : mkText s = .text s:=by unfold mkText;rw [if_pos h]
theorem nm_ok (k n : Int) (s : ByteArray) (e : Int) (hn : I64 n) : (nm k n s e).ok:=by
 unfold nm
 split
 · trivial
 · split
   · exact mkNum_ok n hn
   · split
     · exact mkText_ok s
     · split
       · exact mkErr_ok e
       · trivial
theorem nm_blank : nm 0 0 ⟨#[]⟩ 0 = .blank:=rfl
theorem nm_num {n : Int} (h : canB n = true) : nm 2 n ⟨#[]⟩ 0 = .num n:=mkNum_is h
theorem nm_text {s : ByteArray} (h : s.size ≤ 300) : nm 3 0 s 0 = .text s:=mkText_is h
def trueL : List UInt8:=[84,82,85,69]
def falseL : List UInt8:=[70,65,76,83,69]
def errName (e : Int) : List UInt8 :=
 if e = 1 then [35,82,69,70,33] else if e = 2 then [35,86,65,76,85,69,33] else if e = 3 then [35,68,73,86,47,48,33] else if e = 4 then [35,78,85,77,33] else if e = 5 then [35,67,89,67,76,69,33] else []
def V.shown : V → ByteArray
 | .blank=>⟨#[]⟩
 | .tf b=>bs (if b then trueL else falseL)
 | .num n=>bs (printL n)
 | .text s=>s
 | .err e=>bs (errName e)
def readV (s : ByteArray) : V:=if rdK s.data.toList = 1 then .num (rdV s.data.toList) else if rdK s.data.toList = 2 then .err 4 else .err 2
def V.toNum : V → V
 | .blank=>.num 0
 | .tf b=>.num (if b then 10000 else 0)
 | .text s=>readV s
 | v=>v
def V.toText : V → V
 | .err e=>.err e
 | v=>.text v.shown
def V.toBool : V → V
 | .blank=>.tf false
 | .num n=>.tf (n != 0)
 | .text s=>if s.data.toList = trueL then .tf true else if s.data.toList = falseL then .tf false else .err 2
 | v=>v
def V.neg (v : V) : V:=match v.toNum with
 | .num n=>.num (-n)
 | u=>u
def toldR (b : Bool) (v : Int) : V:=if b then mkNum v else .err 4
def reckon (op : Int) (x y : Int) : V :=
 if op = 43 then toldR (addB x y) (addV x y) else if op = 45 then toldR (subB x y) (subV x y) else if op = 42 then toldR (mulB x y) (mulV x y) else if y = 0 then .err 3 else toldR (divB x y) (divV x y)
def opB (op : Int) : Bool:=op == 43 || op == 45 || op == 42 || op == 47
def arith2 (op : Int) : V → V → V
 | .err e,_=>.err e
 | _,.err e=>.err e
 | .num x,.num y=>reckon op x y
 | _,_=>.blank
def arith (op : Int) (a b : V) : V:=if opB op then arith2 op a.toNum b.toNum else .err 2
def join2 : V → V → V
 | .err e,_=>.err e
 | _,.err e=>.err e
 | .text s,.text t=>mkText (s ++ t)
 | _,_=>.blank
def join (a b : V) : V:=join2 a.toText b.toText
def nameE (l : List UInt8) : Int:=if l = errName 1 then 1 else if l = errName 2 then 2 else if l = errName 3 then 3 else if l = errName 4 then 4 else if l = errName 5 then 5 else 0
def lit (s : ByteArray) : V :=
 if s.data.toList = [] then .blank
 else if s.data.toList.head? = some 39 then mkText (bs (s.data.toList.drop 1))
 else if rdK s.data.toList = 1 then .num (rdV s.data.toList)
 else if rdK s.data.toList = 2 then .err 4
 else if s.data.toList = trueL then .tf true
 else if s.data.toList = falseL then .tf false
 else if nameE s.data.toList ≠ 0 then .err (nameE s.data.toList)
 else mkText s
def sg3 (x y : Int) : Int:=if x < y then -1 else if x > y then 1 else 0
def V.zeroOf : V → V
 | .num _=>.num 0
 | .text _=>.text ⟨#[]⟩
 | .tf _=>.tf false
 | v=>v
def asBy (o v : V) : V:=match v with
 | .blank=>o.zeroOf
 | v=>v
def rankV : V → Int
 | .num _=>1
 | .text _=>2
 | .tf _=>3
 | _=>0
def ord : V → V → Int
 | .num x,.num y=>sg3 x y
 | .text s,.text t=>Lib.compareBytes s.data.toList t.data.toList
 | .tf a,.tf b=>sg3 (if a then 1 else 0) (if b then 1 else 0)
 | a,b=>sg3 (rankV a) (rankV b)
def cmpV : V → V → Int
 | .err _,_=>0
 | _,.err _=>0
 | a,b=>ord (asBy b a) (asBy a b)
def cmpE : V → V → V
 | .err e,_=>.err e
 | _,.err e=>.err e
 | _,_=>.blank
theorem rdK_cases (l : List UInt8) : rdK l = 0 ∨ rdK l = 1 ∨ rdK l = 2:=by unfold rdK;split <;> (try split) <;> simp
theorem rdV_can (l : List UInt8) : I64 (rdV l) ∧ canB (rdV l) = true:=by
 unfold rdV I64 canB
 split
 · rename_i h
   simp at h
   split <;> simp <;> omega
 · simp
theorem print_len (n : Int) (h : I64 n) : (printL n).length ≤ 25:=by
 obtain ⟨h1,h2⟩:=h
 cases hc : canB n
 · have : printL n = [110,111,110,101]:=by unfold printL;rw [hc];rfl
   rw [this];decide
 · rw [print_sgn n hc]
   obtain ⟨k,hk,hl⟩:=frac_back (n.natAbs % 10000) (Nat.mod_lt _ J9)
   have hd:=dec_len (n.natAbs / 10000) 14 J2
   have hb : (bodyL n.natAbs).length ≤ 20:=by
     unfold bodyL;rw [List.length_append]
     split
     · simp;omega
     · simp;omega
   unfold sgnL;split
   · simp;omega
   · omega
theorem shown_size (v : V) (h : v.ok) : v.shown.size ≤ 300:=by
 cases v with
 | blank=>decide
 | tf b=>cases b <;> decide
 | num n=>show (bs (printL n)).size ≤ 300;rw [bs_size];exact Nat.le_trans (print_len n h.1) J9
 | text s=>exact h
 | err e =>
   show (bs (errName e)).size ≤ 300;rw [bs_size];unfold errName
   repeat (first | (split;decide) | decide)
theorem readV_ok (s : ByteArray) : (readV s).ok:=by
 unfold readV;split
 · exact rdV_can _
 · split <;> exact ⟨by decide,by decide⟩
theorem toNum_ok (v : V) (h : v.ok) : v.toNum.ok:=by
 cases v with
 | blank=>exact ⟨⟨by decide,by decide⟩,by decide⟩
 | tf b=>cases b <;> exact ⟨⟨by decide,by decide⟩,by decide⟩
 | num n=>exact h
 | text s=>exact readV_ok s
 | err e=>exact h
theorem toText_ok (v : V) (h : v.ok) : v.toText.ok:=by
 cases v with
 | err e=>exact h
 | blank=>exact shown_size .blank h
 | tf b=>exact shown_size (.tf b) h
 | num n=>exact shown_size (.num n) h
 | text s=>exact h
theorem toNum_cases (v : V) (h : v.ok) : (∃ n,v.toNum = .num n ∧ I64 n ∧ canB n = true) ∨ (∃ e,v.toNum = .err e ∧ 1 ≤ e ∧ e ≤ 5):=by
 have k:=toNum_ok v h
 cases v with
 | blank=>exact .inl ⟨_,rfl,k⟩
 | tf b=>exact .inl ⟨_,rfl,k⟩
 | num n=>exact .inl ⟨_,rfl,k⟩
 | text s =>
   show (∃ n,readV s = .num n ∧ _) ∨ (∃ e,readV s = .err e ∧ _)
   unfold readV
   split
   · exact .inl ⟨_,rfl,rdV_can _⟩
   · split
     · exact .inr ⟨_,rfl,by decide,by decide⟩
     · exact .inr ⟨_,rfl,by decide,by decide⟩
 | err e=>exact .inr ⟨_,rfl,h⟩
theorem toText_cases (v : V) (h : v.ok) : (∃ s,v.toText = .text s ∧ s.size ≤ 300) ∨ (∃ e,v.toText = .err e ∧ 1 ≤ e ∧ e ≤ 5):=by
 cases v with
 | err e=>exact .inr ⟨_,rfl,h⟩
 | blank=>exact .inl ⟨_,rfl,shown_size .blank h⟩
 | tf b=>exact .inl ⟨_,rfl,shown_size (.tf b) h⟩
 | num n=>exact .inl ⟨_,rfl,shown_size (.num n) h⟩
 | text s=>exact .inl ⟨_,rfl,h⟩
theorem neg_can (n : Int) (h : I64 n) (c : canB n = true) : I64 (-n) ∧ canB (-n) = true:=by
 obtain ⟨_,_⟩:=h
 have : n ≠ -9223372036854775808:=by simpa [canB] using c
 refine ⟨⟨by omega,by omega⟩,?_⟩
 unfold canB;simp;omega
theorem keep4 {w w1 : World} {a b c d : Value} {T : TypeId} (E : Ext (w.alloc (.cells #[a,b,c,d] T)) w1) : w.heap.size < w1.heap.size ∧
   (w1.cell? ⟨w.heap.size,0,none⟩ = some a ∧ w1.cell? ⟨w.heap.size,1,none⟩ = some b ∧ w1.cell? ⟨w.heap.size,2,none⟩ = some c ∧ w1.cell? ⟨w.heap.size,3,none⟩ = some d) ∧
   (w1.frozen? ⟨w.heap.size,0,none⟩ = false ∧ w1.frozen? ⟨w.heap.size,1,none⟩ = false ∧ w1.frozen? ⟨w.heap.size,2,none⟩ = false ∧ w1.frozen? ⟨w.heap.size,3,none⟩ = false):=by
 have hs : w.heap.size < (w.alloc (.cells #[a,b,c,d] T)).heap.size:=J58
 have k:=fun o=>E.cell.1 w.heap.size o hs
 have f:=fun o=>E.cell.2 w.heap.size o hs
 refine ⟨llL hs E.sz,⟨(k 0).trans ?_,(k 1).trans ?_,(k 2).trans ?_,(k 3).trans ?_⟩,(f 0).trans ?_,(f 1).trans ?_,(f 2).trans ?_,(f 3).trans ?_⟩
 all_goals simp [go_sem]
theorem fin4g (v : Value) {fn : Func} {Q : Ending → World → Prop} {a : Act} {w w1 : World} {b : Nat} {o0 o1 o2 o3 x0 x1 x2 x3 : Value}
   (k0 : w1.cell? ⟨b,0,none⟩ = some o0) (k1 : w1.cell? ⟨b,1,none⟩ = some o1) (k2 : w1.cell? ⟨b,2,none⟩ = some o2) (k3 : w1.cell? ⟨b,3,none⟩ = some o3)
   (hd : a.defers = []) (hb : w.heap.size ≤ b) (E : Ext w w1)
   (hr : ∀ W : World,W.cell? ⟨b,0,none⟩ = some x0 → W.cell? ⟨b,1,none⟩ = some x1 → W.cell? ⟨b,2,none⟩ = some x2 → W.cell? ⟨b,3,none⟩ = some x3 → (results fn a.tmps).run Tryz.prog W = .ok v W)
   (hQ : ∀ W,Ext w W → Q (.returned v) W) :
   bodyPost Tryz.prog fn Q .ret a ((((w1.setCell ⟨b,0,none⟩ x0).setCell ⟨b,1,none⟩ x1).setCell ⟨b,2,none⟩ x2).setCell ⟨b,3,none⟩ x3):=by
 have e0:=wSa w1 ⟨b,0,none⟩ x0 (by rw [k0])
 have j1 : (w1.setCell ⟨b,0,none⟩ x0).cell? ⟨b,1,none⟩ = some o1:=J70
 have e1:=wSa _ ⟨b,1,none⟩ x1 (by rw [j1])
 have j2 : ((w1.setCell ⟨b,0,none⟩ x0).setCell ⟨b,1,none⟩ x1).cell? ⟨b,2,none⟩ = some o2:=by rw [wO _ _ _ _ J58,wO _ _ _ _ J58];exact k2
 have e2:=wSa _ ⟨b,2,none⟩ x2 (by rw [j2])
 have j3 : (((w1.setCell ⟨b,0,none⟩ x0).setCell ⟨b,1,none⟩ x1).setCell ⟨b,2,none⟩ x2).cell? ⟨b,3,none⟩ = some o3:=by
   rw [wO _ _ _ _ J58,wO _ _ _ _ J58,wO _ _ _ _ J58];exact k3
 have e3:=wSa _ ⟨b,3,none⟩ x3 (by rw [j3])
 refine bodyPost_ret (hr _ ?_ ?_ ?_ e3) hd (hQ _ ((((E.setCell hb _).setCell hb _).setCell hb _).setCell hb _))
 · rw [wO _ _ _ _ J58,wO _ _ _ _ J58,wO _ _ _ _ J58];exact e0
 · rw [wO _ _ _ _ J58,wO _ _ _ _ J58];exact e1
 · rw [wO _ _ _ _ J58];exact e2
theorem fin4 {fn : Func} {Q : Ending → World → Prop} {a : Act} {w w1 : World} {b : Nat} {o0 o1 o2 o3 x0 x1 x2 x3 : Value}
   (k0 : w1.cell? ⟨b,0,none⟩ = some o0) (k1 : w1.cell? ⟨b,1,none⟩ = some o1) (k2 : w1.cell? ⟨b,2,none⟩ = some o2) (k3 : w1.cell? ⟨b,3,none⟩ = some o3)
   (hd : a.defers = []) (hb : w.heap.size ≤ b) (E : Ext w w1)
   (hr : ∀ W : World,W.cell? ⟨b,0,none⟩ = some x0 → W.cell? ⟨b,1,none⟩ = some x1 → W.cell? ⟨b,2,none⟩ = some x2 → W.cell? ⟨b,3,none⟩ = some x3 → (results fn a.tmps).run Tryz.prog W = .ok (.agg #[x0,x1,x2,x3]) W)
   (hQ : ∀ W,Ext w W → Q (.returned (.agg #[x0,x1,x2,x3])) W) :
   bodyPost Tryz.prog fn Q .ret a ((((w1.setCell ⟨b,0,none⟩ x0).setCell ⟨b,1,none⟩ x1).setCell ⟨b,2,none⟩ x2).setCell ⟨b,3,none⟩ x3):=fin4g _ k0 k1 k2 k3 hd hb E hr hQ
theorem fin4b (t : Bool) {fn : Func} {Q : Ending → World → Prop} {a : Act} {w w1 : World} {b : Nat} {o0 o1 o2 o3 x0 x1 x2 x3 : Value}
   (k0 : w1.cell? ⟨b,0,none⟩ = some o0) (k1 : w1.cell? ⟨b,1,none⟩ = some o1) (k2 : w1.cell? ⟨b,2,none⟩ = some o2) (k3 : w1.cell? ⟨b,3,none⟩ = some o3)
   (hd : a.defers = []) (hb : w.heap.size ≤ b) (E : Ext w w1)
   (hr : ∀ W : World,W.cell? ⟨b,0,none⟩ = some x0 → W.cell? ⟨b,1,none⟩ = some x1 → W.cell? ⟨b,2,none⟩ = some x2 → W.cell? ⟨b,3,none⟩ = some x3 → (results fn a.tmps).run Tryz.prog W = .ok (.tuple #[.agg #[x0,x1,x2,x3],.bool t]) W)
   (hQ : ∀ W,Ext w W → Q (.returned (.tuple #[.agg #[x0,x1,x2,x3],.bool t])) W) :
   bodyPost Tryz.prog fn Q .ret a ((((w1.setCell ⟨b,0,none⟩ x0).setCell ⟨b,1,none⟩ x1).setCell ⟨b,2,none⟩ x2).setCell ⟨b,3,none⟩ x3):=fin4g _ k0 k1 k2 k3 hd hb E hr hQ
def Blk (W : World) (b : Nat) (x0 x1 x2 x3 : Value) : Prop:=b < W.heap.size ∧
 (W.cell? ⟨b,0,none⟩ = some x0 ∧ W.cell? ⟨b,1,none⟩ = some x1 ∧ W.cell? ⟨b,2,none⟩ = some x2 ∧ W.cell? ⟨b,3,none⟩ = some x3) ∧
 (W.frozen? ⟨b,0,none⟩ = false ∧ W.frozen? ⟨b,1,none⟩ = false ∧ W.frozen? ⟨b,2,none⟩ = false ∧ W.frozen? ⟨b,3,none⟩ = false)
theorem blk_top {w w1 : World} {x0 x1 x2 x3 : Value} {T : TypeId} {b : Nat} (hb : b = w.heap.size) (E : Ext (w.alloc (.cells #[x0,x1,x2,x3] T)) w1) : Blk w1 b x0 x1 x2 x3:=by subst hb;exact keep4 E
theorem Blk.ext {w w' : World} {b : Nat} {x0 x1 x2 x3 : Value} (h : Blk w b x0 x1 x2 x3) (e : Ext w w') : Blk w' b x0 x1 x2 x3:=by
 obtain ⟨z,⟨k0,k1,k2,k3⟩,f0,f1,f2,f3⟩:=h
 have k:=fun o=>e.cell.1 b o z
 have f:=fun o=>e.cell.2 b o z
 exact ⟨llL z e.sz,⟨(k 0).trans k0,(k 1).trans k1,(k 2).trans k2,(k 3).trans k3⟩,(f 0).trans f0,(f 1).trans f1,(f 2).trans f2,(f 3).trans f3⟩
theorem Blk.far1 {w : World} {b c : Nat} {x0 x1 x2 x3 : Value} (h : Blk w b x0 x1 x2 x3) (hc : c ≠ b) (o : Nat) (v : Value) : Blk (w.setCell ⟨c,o,none⟩ v) b x0 x1 x2 x3:=by
 obtain ⟨z,⟨k0,k1,k2,k3⟩,f0,f1,f2,f3⟩:=h
 refine ⟨by simpa [World.setCell] using z,⟨?_,?_,?_,?_⟩,?_,?_,?_,?_⟩
 · rw [wFa _ _ _ _ hc];exact k0
 · rw [wFa _ _ _ _ hc];exact k1
 · rw [wFa _ _ _ _ hc];exact k2
 · rw [wFa _ _ _ _ hc];exact k3
 · rw [wFz];exact f0
 · rw [wFz];exact f1
 · rw [wFz];exact f2
 · rw [wFz];exact f3
theorem Blk.far {w : World} {b c : Nat} {x0 x1 x2 x3 : Value} (h : Blk w b x0 x1 x2 x3) (hc : c ≠ b) (y0 y1 y2 y3 : Value) :
   Blk ((((w.setCell ⟨c,0,none⟩ y0).setCell ⟨c,1,none⟩ y1).setCell ⟨c,2,none⟩ y2).setCell ⟨c,3,none⟩ y3) b x0 x1 x2 x3:=(((h.far1 hc _ _).far1 hc _ _).far1 hc _ _).far1 hc _ _
theorem Blk.set {w1 : World} {b : Nat} {o0 o1 o2 o3 : Value} (h : Blk w1 b o0 o1 o2 o3) (x0 x1 x2 x3 : Value) :
   Blk ((((w1.setCell ⟨b,0,none⟩ x0).setCell ⟨b,1,none⟩ x1).setCell ⟨b,2,none⟩ x2).setCell ⟨b,3,none⟩ x3) b x0 x1 x2 x3:=by
 obtain ⟨z,⟨k0,k1,k2,k3⟩,f0,f1,f2,f3⟩:=h
 have e0:=wSa w1 ⟨b,0,none⟩ x0 (by rw [k0])
 have j1 : (w1.setCell ⟨b,0,none⟩ x0).cell? ⟨b,1,none⟩ = some o1:=J70
 have e1:=wSa _ ⟨b,1,none⟩ x1 (by rw [j1])
 have j2 : ((w1.setCell ⟨b,0,none⟩ x0).setCell ⟨b,1,none⟩ x1).cell? ⟨b,2,none⟩ = some o2:=by rw [wO _ _ _ _ J58,wO _ _ _ _ J58];exact k2
 have e2:=wSa _ ⟨b,2,none⟩ x2 (by rw [j2])
 have j3 : (((w1.setCell ⟨b,0,none⟩ x0).setCell ⟨b,1,none⟩ x1).setCell ⟨b,2,none⟩ x2).cell? ⟨b,3,none⟩ = some o3:=by
   rw [wO _ _ _ _ J58,wO _ _ _ _ J58,wO _ _ _ _ J58];exact k3
 have e3:=wSa _ ⟨b,3,none⟩ x3 (by rw [j3])
 refine ⟨by simpa [World.setCell] using z,⟨?_,?_,?_,e3⟩,?_,?_,?_,?_⟩
 · rw [wO _ _ _ _ J58,wO _ _ _ _ J58,wO _ _ _ _ J58];exact e0
 · rw [wO _ _ _ _ J58,wO _ _ _ _ J58];exact e1
 · rw [wO _ _ _ _ J58];exact e2
 · simp only [wFz];exact f0
 · simp only [wFz];exact f1
 · simp only [wFz];exact f2
 · simp only [wFz];exact f3
theorem Blk.dr {w : World} {b : Nat} {x0 x1 x2 x3 : Value} (h : Blk w b x0 x1 x2 x3) : Blk w.drew b x0 x1 x2 x3:=h.ext (Ext.drew xr)
theorem Blk.al {w : World} {b : Nat} {x0 x1 x2 x3 : Value} (o : Obj) (h : Blk w b x0 x1 x2 x3) : Blk (w.alloc o) b x0 x1 x2 x3:=h.ext (Ext.alloc xr _)
theorem finB {fn : Func} {Q : Ending → World → Prop} {a : Act} {w W : World} {b : Nat} {x0 x1 x2 x3 : Value}
   (B : Blk W b x0 x1 x2 x3) (hd : a.defers = []) (E : Ext w W)
   (hr : W.cell? ⟨b,0,none⟩ = some x0 → W.cell? ⟨b,1,none⟩ = some x1 → W.cell? ⟨b,2,none⟩ = some x2 → W.cell? ⟨b,3,none⟩ = some x3 → (results fn a.tmps).run Tryz.prog W = .ok (.agg #[x0,x1,x2,x3]) W)
   (hQ : Ext w W → Q (.returned (.agg #[x0,x1,x2,x3])) W) : bodyPost Tryz.prog fn Q .ret a W :=
 bodyPost_ret (hr B.2.1.1 B.2.1.2.1 B.2.1.2.2.1 B.2.1.2.2.2) hd (hQ E)
theorem finBb (t : Bool) {fn : Func} {Q : Ending → World → Prop} {a : Act} {w W : World} {b : Nat} {x0 x1 x2 x3 : Value}
   (B : Blk W b x0 x1 x2 x3) (hd : a.defers = []) (E : Ext w W)
   (hr : W.cell? ⟨b,0,none⟩ = some x0 → W.cell? ⟨b,1,none⟩ = some x1 → W.cell? ⟨b,2,none⟩ = some x2 → W.cell? ⟨b,3,none⟩ = some x3 → (results fn a.tmps).run Tryz.prog W = .ok (.tuple #[.agg #[x0,x1,x2,x3],.bool t]) W)
   (hQ : Ext w W → Q (.returned (.tuple #[.agg #[x0,x1,x2,x3],.bool t])) W) : bodyPost Tryz.prog fn Q .ret a W :=
 bodyPost_ret (hr B.2.1.1 B.2.1.2.1 B.2.1.2.2.1 B.2.1.2.2.2) hd (hQ E)
theorem finBi (i : Int) {fn : Func} {Q : Ending → World → Prop} {a : Act} {w W : World} {b : Nat} {x0 x1 x2 x3 : Value}
   (B : Blk W b x0 x1 x2 x3) (hd : a.defers = []) (E : Ext w W)
   (hr : W.cell? ⟨b,0,none⟩ = some x0 → W.cell? ⟨b,1,none⟩ = some x1 → W.cell? ⟨b,2,none⟩ = some x2 → W.cell? ⟨b,3,none⟩ = some x3 → (results fn a.tmps).run Tryz.prog W = .ok (.tuple #[.int .i64 i,.agg #[x0,x1,x2,x3]]) W)
   (hQ : Ext w W → Q (.returned (.tuple #[.int .i64 i,.agg #[x0,x1,x2,x3]])) W) : bodyPost Tryz.prog fn Q .ret a W :=
 bodyPost_ret (hr B.2.1.1 B.2.1.2.1 B.2.1.2.2.1 B.2.1.2.2.2) hd (hQ E)
theorem Blk.put0 {w : World} {b : Nat} {x0 x1 x2 x3 : Value} (h : Blk w b x0 x1 x2 x3) (v : Value) : Blk (w.setCell ⟨b,0,none⟩ v) b v x1 x2 x3:=by
 obtain ⟨z,⟨k0,k1,k2,k3⟩,f0,f1,f2,f3⟩:=h
 refine ⟨by simpa [World.setCell] using z,⟨wSa _ ⟨b,0,none⟩ _ (by rw [k0]),?_,?_,?_⟩,?_,?_,?_,?_⟩
 · exact K124
 · exact K135
 · exact K136
 · rw [wFz];exact f0
 · rw [wFz];exact f1
 · rw [wFz];exact f2
 · rw [wFz];exact f3
theorem Blk.put1 {w : World} {b : Nat} {x0 x1 x2 x3 : Value} (h : Blk w b x0 x1 x2 x3) (v : Value) : Blk (w.setCell ⟨b,1,none⟩ v) b x0 v x2 x3:=by
 obtain ⟨z,⟨k0,k1,k2,k3⟩,f0,f1,f2,f3⟩:=h
 refine ⟨by simpa [World.setCell] using z,⟨?_,wSa _ ⟨b,1,none⟩ _ (by rw [k1]),?_,?_⟩,?_,?_,?_,?_⟩
 · exact K125
 · exact K135
 · exact K136
 · rw [wFz];exact f0
 · rw [wFz];exact f1
 · rw [wFz];exact f2
 · rw [wFz];exact f3
def Nm (w : World) : Prop:=0 < w.heap.size ∧
 w.cell? ⟨0,0,none⟩ = some (.string ⟨#[]⟩) ∧ w.cell? ⟨0,1,none⟩ = some (.string ⟨#[35,82,69,70,33]⟩) ∧ w.cell? ⟨0,2,none⟩ = some (.string ⟨#[35,86,65,76,85,69,33]⟩) ∧
 w.cell? ⟨0,3,none⟩ = some (.string ⟨#[35,68,73,86,47,48,33]⟩) ∧ w.cell? ⟨0,4,none⟩ = some (.string ⟨#[35,78,85,77,33]⟩) ∧ w.cell? ⟨0,5,none⟩ = some (.string ⟨#[35,67,89,67,76,69,33]⟩)
theorem Nm.ext {w w' : World} (h : Nm w) (e : Ext w w') : Nm w':=by
 exact K91
theorem err_none {e : Int} (h : ¬ (1 ≤ e ∧ e ≤ 5)) : errName e = []:=by
 unfold errName
 repeat (first | (rw [if_neg J2]) | rfl)
theorem errname_any (e : Int) (w : World) (hN : Nm w) : Calls Tryz.prog 65 #[.int .i64 e] w fun r w'=>r = .returned (.string (bs (errName e))) ∧ w' = w:=by
 obtain ⟨hs,h0,h1,h2,h3,h4,h5⟩:=hN
 by_cases h : 0 ≤ e ∧ e < 6
 · have hh : e = 0 ∨ e = 1 ∨ e = 2 ∨ e = 3 ∨ e = 4 ∨ e = 5:=J2
   rcases hh with rfl | rfl | rfl | rfl | rfl | rfl
   all_goals
     clear h
     go_enter func65,ntmps65
     exact K23
 · have H : Hid (errName e = []):=err_none J2
   by_cases hn : e < 0
   · exact K139
   · have hg : 6 ≤ e:=J2
     exact K139
theorem err_any (e : Int) (w : World) (hN : Nm w) : Calls Tryz.prog 36 #[.int .i64 e] w fun r w'=>r = .returned (mkErr e).dat ∧ Ext w w':=by
 have c:=fun W h=>errname_any e W h
 by_cases h : 1 ≤ e ∧ e ≤ 5
 · have H : Hid (mkErr e = .err e):=mkErr_is h
   have hz : (bs (errName e)).toList.isEmpty = false:=by
     have hh : e = 1 ∨ e = 2 ∨ e = 3 ∨ e = 4 ∨ e = 5:=J2
     rw [ByteArray.toList_eq]
     rcases hh with rfl | rfl | rfl | rfl | rfl <;> decide
   exact K76
 · have H : Hid (mkErr e = .err 2):=by show mkErr e = _;unfold mkErr;rw [if_neg h]
   have hz : (bs (errName e)).toList.isEmpty = true:=by rw [ByteArray.toList_eq,err_none h];decide
   exact K76
theorem rerr_any (e : Int) (w : World) : Calls Tryz.prog 39 #[.int .i64 e] w fun r w'=>r = .returned (mkErr e).dat ∧ Ext w w':=by
 by_cases h : e < 1
 · exact K178
 · by_cases g : e > 5
   · exact K178
   · have H : Hid (mkErr e = .err e):=mkErr_is ⟨by omega,by omega⟩
     go_enter func39,ntmps39
     go_wp2_with fail
     simp [bodyPost,results,results39,go_sem]
     exact K79
theorem vnum_any (n : Int) (w : World) (hN : Nm w) : Calls Tryz.prog 38 #[.int .i64 n] w fun r w'=>r = .returned (mkNum n).dat ∧ Ext w w':=by
 have c:=fun W=>can_any n W
 have c2:=fun W h=>err_any 4 W h
 rw [mkErr_is ⟨by decide,by decide⟩] at c2
 simp only [V.dat] at c2
 cases hc : canB n
 · have H : Hid (mkNum n = .err 4):=by show mkNum n = _;unfold mkNum;rw [hc];rfl
   rw [hc] at c
   clear hc
   go_enter func38,ntmps38
   go_wp2_with fail
   refine (c _).mono ?_
   rintro r w1 ⟨rfl,rfl⟩
   go_wp2_with fail
   refine (c2 _ (hN.ext (xr.alloc _))).mono ?_
   rintro r w1 ⟨rfl,E1⟩
   obtain ⟨z,⟨k0,k1,k2,k3⟩,f0,f1,f2,f3⟩:=keep4 E1
   go_wp2_with fail
   exact fin4 k0 k1 k2 k3 rfl nrf ((xr.alloc _).trans E1) (fun W g0 g1 g2 g3=>by simp [results,results38,go_sem,g0,g1,g2,g3]) (fun W h=>⟨by rw [H.out];rfl,h⟩)
 · have H : Hid (mkNum n = .num n):=mkNum_is hc
   rw [hc] at c
   clear hc
   go_enter func38,ntmps38
   go_wp2_with fail
   refine (c _).mono ?_
   rintro r w1 ⟨rfl,rfl⟩
   go_wp2_with fail
   simp [bodyPost,results,results38,go_sem]
   exact K79
theorem rnum_any (n : Int) (w : World) : Calls Tryz.prog 33 #[.int .i64 n] w fun r w'=>r = .returned (mkNum n).dat ∧ Ext w w':=by
 have c:=fun W=>rcan_any n W
 have c2:=fun W=>rerr_any 4 W
 rw [mkErr_is ⟨by decide,by decide⟩] at c2
 simp only [V.dat] at c2
 cases hc : canB n
 · have H : Hid (mkNum n = .err 4):=by show mkNum n = _;unfold mkNum;rw [hc];rfl
   rw [hc] at c
   clear hc
   go_enter func33,ntmps33
   go_wp2_with fail
   refine (c _).mono ?_
   rintro r w1 ⟨rfl,rfl⟩
   go_wp2_with fail
   refine (c2 _).mono ?_
   rintro r w1 ⟨rfl,E1⟩
   obtain ⟨z,⟨k0,k1,k2,k3⟩,f0,f1,f2,f3⟩:=keep4 E1
   go_wp2_with fail
   exact fin4 k0 k1 k2 k3 rfl nrf ((xr.alloc _).trans E1) (fun W g0 g1 g2 g3=>by simp [results,results33,go_sem,g0,g1,g2,g3]) (fun W h=>⟨by rw [H.out];rfl,h⟩)
 · have H : Hid (mkNum n = .num n):=mkNum_is hc
   rw [hc] at c
   clear hc
   go_enter func33,ntmps33
   go_wp2_with fail
   refine (c _).mono ?_
   rintro r w1 ⟨rfl,rfl⟩
   go_wp2_with fail
   simp [bodyPost,results,results33,go_sem]
   exact K79
theorem vtext_any (s : ByteArray) (w : World) (hN : Nm w) : Calls Tryz.prog 66 #[.string s] w fun r w'=>r = .returned (mkText s).dat ∧ Ext w w':=by
 have c2:=fun W h=>err_any 2 W h
 rw [mkErr_is ⟨by decide,by decide⟩] at c2
 simp only [V.dat] at c2
 by_cases hs : s.size ≤ 300
 · have H : Hid (mkText s = .text s):=mkText_is hs
   have hd : decide (((s.size : Nat) : Int) > 300) = false:=J7
   go_enter func66,ntmps66
   go_wp2_with fail
   simp [bodyPost,results,results66,go_sem]
   exact K79
 · have H : Hid (mkText s = .err 2):=by show mkText s = _;unfold mkText;rw [if_neg hs]
   have hd : decide (((s.size : Nat) : Int) > 300) = true:=J7
   have hs' : 300 < s.size:=J2
   clear hs
   go_enter func66,ntmps66
   go_wp2_with fail
   refine (c2 _ (hN.ext (xr.alloc _))).mono ?_
   rintro r w1 ⟨rfl,E1⟩
   obtain ⟨z,⟨k0,k1,k2,k3⟩,f0,f1,f2,f3⟩:=keep4 E1
   go_wp2_with fail
   exact fin4 k0 k1 k2 k3 rfl nrf ((xr.alloc _).trans E1) (fun W g0 g1 g2 g3=>by simp [results,results66,go_sem,g0,g1,g2,g3]) (fun W h=>⟨by rw [H.out];rfl,h⟩)
theorem rtext_any (s : ByteArray) (w : World) : Calls Tryz.prog 42 #[.string s] w fun r w'=>r = .returned (mkText s).dat ∧ Ext w w':=by
 have c2:=fun W=>rerr_any 2 W
 rw [mkErr_is ⟨by decide,by decide⟩] at c2
 simp only [V.dat] at c2
 by_cases hs : s.size ≤ 300
 · have H : Hid (mkText s = .text s):=mkText_is hs
   have hd : decide (((s.size : Nat) : Int) > 300) = false:=J7
   go_enter func42,ntmps42
   go_wp2_with fail
   simp [bodyPost,results,results42,go_sem]
   exact K79
 · have H : Hid (mkText s = .err 2):=by show mkText s = _;unfold mkText;rw [if_neg hs]
   have hd : decide (((s.size : Nat) : Int) > 300) = true:=J7
   have hs' : 300 < s.size:=J2
   clear hs
   go_enter func42,ntmps42
   go_wp2_with fail
   refine (c2 _).mono ?_
   rintro r w1 ⟨rfl,E1⟩
   obtain ⟨z,⟨k0,k1,k2,k3⟩,f0,f1,f2,f3⟩:=keep4 E1
   go_wp2_with fail
   exact fin4 k0 k1 k2 k3 rfl nrf ((xr.alloc _).trans E1) (fun W g0 g1 g2 g3=>by simp [results,results42,go_sem,g0,g1,g2,g3]) (fun W h=>⟨by rw [H.out];rfl,h⟩)
theorem vbool_any (b : Bool) (w : World) : Calls Tryz.prog 67 #[.bool b] w fun r w'=>r = .returned (V.tf b).dat ∧ Ext w w':=by
 cases b
 all_goals
   go_enter func67,ntmps67
   go_wp2_with fail
   simp [bodyPost,results,results67,go_sem]
   exact ⟨rfl,xr.alloc _⟩
theorem rbool_any (b : Bool) (w : World) : Calls Tryz.prog 41 #[.bool b] w fun r w'=>r = .returned (V.tf b).dat ∧ Ext w w':=by
 cases b
 all_goals
   go_enter func41,ntmps41
   go_wp2_with fail
   simp [bodyPost,results,results41,go_sem]
   exact ⟨rfl,xr.alloc _⟩
theorem dat4 (v : V) : ∃ (k n : Int) (s : ByteArray) (e : Int),v.dat = .agg #[.int .i64 k,.int .i64 n,.string s,.int .i64 e]:=by
 cases v <;> exact ⟨_,_,_,_,rfl⟩
theorem vnormal_any (k n : Int) (s : ByteArray) (e : Int) (w : World) (hN : Nm w) :
   Calls Tryz.prog 47 #[.agg #[.int .i64 k,.int .i64 n,.string s,.int .i64 e]] w fun r w'=>r = .returned (nm k n s e).dat ∧ Ext w w':=by
 have c1:=fun W=>vbool_any (n != 0) W
 have c2:=fun W h=>vnum_any n W h
 have c3:=fun W h=>vtext_any s W h
 have c4:=fun W h=>err_any e W h
 by_cases h1 : k = 1
 · subst h1
   obtain ⟨q0,q1,q2,q3,hq⟩:=dat4 (V.tf (n != 0))
   rw [hq] at c1
   have H : Hid ((nm 1 n s e).dat = .agg #[.int .i64 q0,.int .i64 q1,.string q2,.int .i64 q3]):=hq
   clear hq
   go_enter func47,ntmps47
   go_wp2_with fail
   refine (c1 _).mono ?_
   exact K38
 · skip
   by_cases h2 : k = 2
   · subst h2
     obtain ⟨q0,q1,q2,q3,hq⟩:=dat4 (mkNum n)
     rw [hq] at c2
     have H : Hid ((nm 2 n s e).dat = .agg #[.int .i64 q0,.int .i64 q1,.string q2,.int .i64 q3]):=hq
     clear hq h1
     go_enter func47,ntmps47
     go_wp2_with fail
     refine (c2 _ (hN.ext ((xr.alloc _).alloc _))).mono ?_
     exact K38
   · skip
     by_cases h3 : k = 3
     · subst h3
       obtain ⟨q0,q1,q2,q3,hq⟩:=dat4 (mkText s)
       rw [hq] at c3
       have H : Hid ((nm 3 n s e).dat = .agg #[.int .i64 q0,.int .i64 q1,.string q2,.int .i64 q3]):=hq
       clear hq h1 h2
       go_enter func47,ntmps47
       go_wp2_with fail
       refine (c3 _ (hN.ext ((xr.alloc _).alloc _))).mono ?_
       exact K38
     · skip
       by_cases h4 : k = 4
       · subst h4
         obtain ⟨q0,q1,q2,q3,hq⟩:=dat4 (mkErr e)
         rw [hq] at c4
         have H : Hid ((nm 4 n s e).dat = .agg #[.int .i64 q0,.int .i64 q1,.string q2,.int .i64 q3]):=hq
         clear hq h1 h2 h3
         go_enter func47,ntmps47
         go_wp2_with fail
         refine (c4 _ (hN.ext ((xr.alloc _).alloc _))).mono ?_
         exact K38
       · have H : Hid (nm k n s e = .blank):=J71
         clear c1 c2 c3 c4
         go_enter func47,ntmps47
         go_wp2_with fail
         simp [bodyPost,results,results47,go_sem]
         exact ⟨by rw [H.out];rfl,((xr.alloc _).alloc _)⟩
theorem rnormal_any (k n : Int) (s : ByteArray) (e : Int) (w : World) :
   Calls Tryz.prog 19 #[.agg #[.int .i64 k,.int .i64 n,.string s,.int .i64 e]] w fun r w'=>r = .returned (nm k n s e).dat ∧ Ext w w':=by
 have c1:=fun W=>rbool_any (n != 0) W
 have c2:=fun W=>rnum_any n W
 have c3:=fun W=>rtext_any s W
 have c4:=fun W=>rerr_any e W
 by_cases h1 : k = 1
 · subst h1
   obtain ⟨q0,q1,q2,q3,hq⟩:=dat4 (V.tf (n != 0))
   rw [hq] at c1
   have H : Hid ((nm 1 n s e).dat = .agg #[.int .i64 q0,.int .i64 q1,.string q2,.int .i64 q3]):=hq
   clear hq
   go_enter func19,ntmps19
   go_wp2_with fail
   refine (c1 _).mono ?_
   exact K39
 · skip
   by_cases h2 : k = 2
   · subst h2
     obtain ⟨q0,q1,q2,q3,hq⟩:=dat4 (mkNum n)
     rw [hq] at c2
     have H : Hid ((nm 2 n s e).dat = .agg #[.int .i64 q0,.int .i64 q1,.string q2,.int .i64 q3]):=hq
     clear hq h1
     go_enter func19,ntmps19
     go_wp2_with fail
     refine (c2 _).mono ?_
     exact K39
   · skip
     by_cases h3 : k = 3
     · subst h3
       obtain ⟨q0,q1,q2,q3,hq⟩:=dat4 (mkText s)
       rw [hq] at c3
       have H : Hid ((nm 3 n s e).dat = .agg #[.int .i64 q0,.int .i64 q1,.string q2,.int .i64 q3]):=hq
       clear hq h1 h2
       go_enter func19,ntmps19
       go_wp2_with fail
       refine (c3 _).mono ?_
       exact K39
     · skip
       by_cases h4 : k = 4
       · subst h4
         obtain ⟨q0,q1,q2,q3,hq⟩:=dat4 (mkErr e)
         rw [hq] at c4
         have H : Hid ((nm 4 n s e).dat = .agg #[.int .i64 q0,.int .i64 q1,.string q2,.int .i64 q3]):=hq
         clear hq h1 h2 h3
         go_enter func19,ntmps19
         go_wp2_with fail
         refine (c4 _).mono ?_
         exact K39
       · have H : Hid (nm k n s e = .blank):=J71
         clear c1 c2 c3 c4
         go_enter func19,ntmps19
         go_wp2_with fail
         simp [bodyPost,results,results19,go_sem]
         exact ⟨by rw [H.out];rfl,((xr.alloc _).alloc _)⟩
def numR (s : ByteArray) : V:=if rdK s.data.toList = 1 then .num (rdV s.data.toList) else if rdK s.data.toList = 2 then .err 4 else .blank
def numK (s : ByteArray) : Bool:=rdK s.data.toList == 1 || rdK s.data.toList == 2
theorem numeral_any (s : ByteArray) (w : World) (hs : s.size ≤ maxLen) (hN : Nm w) :
   Calls Tryz.prog 128 #[.string s] w fun r w'=>r = .returned (.tuple #[(numR s).dat,.bool (numK s)]) ∧ Ext w w':=by
 have c1:=fun W=>parse_any s W hs
 have c2:=fun W h=>vnum_any (rdV s.data.toList) W h
 have c3:=fun W h=>err_any 4 W h
 rw [mkNum_is (rdV_can _).2] at c2
 rw [mkErr_is ⟨by decide,by decide⟩] at c3
 simp only [V.dat] at c2 c3
 rcases rdK_cases s.data.toList with h | h | h
 · have H : Hid (numR s = .blank ∧ numK s = false):=J72
   rw [h] at c1
   clear h hs
   generalize rdV s.data.toList = n at *
   go_enter func128,ntmps128
   go_wp2_with fail
   refine (c1 _).mono ?_
   rintro r w1 ⟨rfl,E1⟩
   obtain ⟨z,⟨k0,k1,k2,k3⟩,f0,f1,f2,f3⟩:=blk_top (b:=w.heap.size) J58 (E1)
   go_wp2_with fail
   exact fin4b false k0 k1 k2 k3 rfl J58 ((xr.alloc _).trans E1) J36 (fun W h=>⟨by rw [H.out.1,H.out.2];rfl,h⟩)
 · have H : Hid (numR s = .num (rdV s.data.toList) ∧ numK s = true):=J72
   rw [h] at c1
   clear h hs
   generalize rdV s.data.toList = n at *
   go_enter func128,ntmps128
   go_wp2_with fail
   refine (c1 _).mono ?_
   rintro r w1 ⟨rfl,E1⟩
   go_wp2_with fail
   refine (c2 _ (hN.ext ((xr.alloc _).trans E1))).mono ?_
   exact K75
 · have H : Hid (numR s = .err 4 ∧ numK s = true):=J72
   rw [h] at c1
   clear h hs
   generalize rdV s.data.toList = n at *
   go_enter func128,ntmps128
   go_wp2_with fail
   refine (c1 _).mono ?_
   rintro r w1 ⟨rfl,E1⟩
   go_wp2_with fail
   refine (c3 _ (hN.ext ((xr.alloc _).trans E1))).mono ?_
   exact K75
def Two (W : World) (L : Nat) (ak an : Int) (sa : ByteArray) (ae bk bn : Int) (sb : ByteArray) (be : Int) : Prop :=
 W.cell? ⟨L,0,none⟩ = some (.int .i64 ak) ∧ W.cell? ⟨L,1,none⟩ = some (.int .i64 an) ∧ W.cell? ⟨L,2,none⟩ = some (.string sa) ∧ W.cell? ⟨L,3,none⟩ = some (.int .i64 ae) ∧
 W.cell? ⟨L,4,none⟩ = some (.int .i64 bk) ∧ W.cell? ⟨L,5,none⟩ = some (.int .i64 bn) ∧ W.cell? ⟨L,6,none⟩ = some (.string sb) ∧ W.cell? ⟨L,7,none⟩ = some (.int .i64 be) ∧ L < W.heap.size
theorem firsterr_a (ak an : Int) (sa : ByteArray) (ae bk bn : Int) (sb : ByteArray) (be : Int) (L : Nat) (w : World) (h : Two w L ak an sa ae bk bn sb be) (ha : (ak == 4) = true) :
   Calls Tryz.prog 130 #[.slice (some ⟨L,0,none⟩) 2 2] w fun e w'=>e = .returned (.tuple #[.agg #[.int .i64 ak,.int .i64 an,.string sa,.int .i64 ae],.bool true]) ∧ Ext w w':=by
 obtain ⟨h0,h1,h2,h3,h4,h5,h6,h7,hL⟩:=h
 go_enter func130,ntmps130
 go_wp2
 refine wp_loop_rounds 3 ?_
 rw [rounds_succ]
 go_wp2
 simp [bodyPost,results,results130,go_sem]
 exact (xr.alloc _).alloc _
theorem firsterr_b (ak an : Int) (sa : ByteArray) (ae bk bn : Int) (sb : ByteArray) (be : Int) (L : Nat) (w : World) (h : Two w L ak an sa ae bk bn sb be) (ha : (ak == 4) = false) (hb : (bk == 4) = true) :
   Calls Tryz.prog 130 #[.slice (some ⟨L,0,none⟩) 2 2] w fun e w'=>e = .returned (.tuple #[.agg #[.int .i64 bk,.int .i64 bn,.string sb,.int .i64 be],.bool true]) ∧ Ext w w':=by
 obtain ⟨h0,h1,h2,h3,h4,h5,h6,h7,hL⟩:=h
 go_enter func130,ntmps130
 go_wp2
 refine wp_loop_rounds 3 ?_
 exact K126
theorem firsterr_n (ak an : Int) (sa : ByteArray) (ae bk bn : Int) (sb : ByteArray) (be : Int) (L : Nat) (w : World) (h : Two w L ak an sa ae bk bn sb be) (ha : (ak == 4) = false) (hb : (bk == 4) = false) :
   Calls Tryz.prog 130 #[.slice (some ⟨L,0,none⟩) 2 2] w fun e w'=>e = .returned (.tuple #[.agg #[.int .i64 0,.int .i64 0,.string ⟨#[]⟩,.int .i64 0],.bool false]) ∧ Ext w w':=by
 obtain ⟨h0,h1,h2,h3,h4,h5,h6,h7,hL⟩:=h
 go_enter func130,ntmps130
 go_wp2
 refine wp_loop_rounds 3 ?_
 rw [rounds_succ]
 go_wp2
 exact K126
def rk (k : Int) : Int:=if k = 2 then 1 else if k = 3 then 2 else if k = 1 then 3 else 0
theorem rank_any (k : Int) (w : World) : Calls Tryz.prog 133 #[.int .i64 k] w fun e w'=>e = .returned (.int .i64 (rk k)) ∧ w' = w:=by
 by_cases h2 : k = 2
 · subst h2
   go_enter func133,ntmps133
   exact K94
 · by_cases h3 : k = 3
   · subst h3
     clear h2
     go_enter func133,ntmps133
     exact K94
   · by_cases h1 : k = 1
     · subst h1
       clear h2 h3
       go_enter func133,ntmps133
       exact K94
     · have H : Hid (rk k = 0):=by show rk k = 0;unfold rk;rw [if_neg h2,if_neg h3,if_neg h1]
       go_enter func133,ntmps133
       go_wp2
       exact K53
theorem isnan_any (x : Int) (w : World) : Calls Tryz.prog 177 #[.int .i64 x] w fun e w'=>e = .returned (.bool false) ∧ w' = w:=by
 have h : (x != x) = false:=J58
 go_enter func177,ntmps177
 exact K94
theorem cmp64_any (x y : Int) (w : World) : Calls Tryz.prog 134 #[.int .i64 x,.int .i64 y] w fun e w'=>e = .returned (.int .i64 (sg3 x y)) ∧ w' = w:=by
 have c1:=fun W=>isnan_any x W
 have c2:=fun W=>isnan_any y W
 have hc : x < y ∨ (¬ x < y ∧ y < x) ∨ (¬ x < y ∧ ¬ y < x):=J2
 rcases hc with h | ⟨h,g⟩ | ⟨h,g⟩
 · have H : Hid (sg3 x y = -1):=by show sg3 x y = _;unfold sg3;rw [if_pos h]
   exact K167
 · have H : Hid (sg3 x y = 1):=by show sg3 x y = _;unfold sg3;rw [if_neg h,if_pos g]
   have g' : x > y:=g
   exact K167
 · have H : Hid (sg3 x y = 0):=by show sg3 x y = _;unfold sg3;rw [if_neg h,if_neg g]
   exact K167
def or3 (x y z : Int) : Int:=if x ≠ 0 then x else if y ≠ 0 then y else z
theorem or_any (x y z : Int) (L : Nat) (w : World) (h0 : w.cell? ⟨L,0,none⟩ = some (.int .i64 x)) (h1 : w.cell? ⟨L,1,none⟩ = some (.int .i64 y)) (h2 : w.cell? ⟨L,2,none⟩ = some (.int .i64 z)) :
   Calls Tryz.prog 30 #[.slice (some ⟨L,0,none⟩) 3 3] w fun e w'=>e = .returned (.int .i64 (or3 x y z)) ∧ w' = w:=by
 by_cases hx : x = 0
 · by_cases hy : y = 0
   · by_cases hz : z = 0
     · subst hx hy hz
       go_enter func30,ntmps30
       go_wp2
       refine wp_loop_rounds 4 ?_
       repeat (rw [rounds_succ];go_wp2)
       go_ret
       exact ⟨rfl,rfl⟩
     · have H : Hid (or3 x y z = z):=by show or3 x y z = z;unfold or3;rw [if_neg J2,if_neg J2]
       have hz' : (z != 0) = true:=by simpa using hz
       subst hx hy
       clear hz
       exact K177
   · have H : Hid (or3 x y z = y):=by show or3 x y z = y;unfold or3;rw [if_neg J2,if_pos hy]
     have hy' : (y != 0) = true:=by simpa using hy
     subst hx
     clear hy
     exact K177
 · have H : Hid (or3 x y z = x):=by show or3 x y z = x;unfold or3;rw [if_pos hx]
   have hx' : (x != 0) = true:=by simpa using hx
   clear hx
   exact K177
def bk0 (k ak : Int) : Int:=if ak = 0 then k else ak
def bkS (ak : Int) (s : ByteArray) : ByteArray:=if ak = 0 then ⟨#[]⟩ else s
theorem blankas_any (k ak an : Int) (sa : ByteArray) (ae : Int) (w : World) : Calls Tryz.prog 132 #[.int .i64 k,.agg #[.int .i64 ak,.int .i64 an,.string sa,.int .i64 ae]] w fun e w' =>
   e = .returned (.agg #[.int .i64 (bk0 k ak),.int .i64 (if ak = 0 then 0 else an),.string (bkS ak sa),.int .i64 (if ak = 0 then 0 else ae)]) ∧ Ext w w':=by
 by_cases h : ak = 0
 · subst h
   have H : Hid (bk0 k 0 = k ∧ bkS 0 sa = ⟨#[]⟩):=⟨rfl,rfl⟩
   simp only [if_true]
   exact K108
 · have H : Hid (bk0 k ak = ak ∧ bkS ak sa = sa):=by show _ ∧ _;unfold bk0 bkS;rw [if_neg h,if_neg h];exact ⟨rfl,rfl⟩
   simp only [h,if_false]
   exact K108
def V.k : V → Int
 | .blank=>0
 | .tf _=>1
 | .num _=>2
 | .text _=>3
 | .err _=>4
def V.n : V → Int
 | .tf b=>if b then 1 else 0
 | .num n=>n
 | _=>0
def V.s : V → ByteArray
 | .text s=>s
 | _=>⟨#[]⟩
def V.e : V → Int
 | .err e=>e
 | _=>0
theorem dat_eq (v : V) : v.dat = .agg #[.int .i64 v.k,.int .i64 v.n,.string v.s,.int .i64 v.e]:=by cases v <;> rfl
theorem cmp_ea {a : V} (b : V) (h : a.k = 4) : cmpV a b = 0 ∧ cmpE a b = a:=by cases a <;> first | (cases b <;> exact ⟨rfl,rfl⟩) | (simp [V.k] at h)
theorem cmp_eb {a b : V} (h : a.k ≠ 4) (g : b.k = 4) : cmpV a b = 0 ∧ cmpE a b = b:=by
 cases b <;> first | (simp [V.k] at g;done) | (cases a <;> first | exact ⟨rfl,rfl⟩ | (simp [V.k] at h))
theorem cmp_n {a b : V} (h : a.k ≠ 4) (g : b.k ≠ 4) : cmpE a b = .blank ∧
   cmpV a b = or3 (sg3 (rk (bk0 b.k a.k)) (rk (bk0 a.k b.k))) (sg3 (if a.k = 0 then 0 else a.n) (if b.k = 0 then 0 else b.n)) (Lib.compareBytes (bkS a.k a.s).data.toList (bkS b.k b.s).data.toList):=by
 cases a <;> cases b <;> first | (exfalso;revert h g;simp [V.k];done) | skip
 all_goals
   refine ⟨rfl,?_⟩
   simp only [cmpV,asBy,V.zeroOf,ord,V.k,V.n,V.s,bk0,bkS,rk,rankV]
   simp [Lib.compareBytes]
   try (first | rfl | decide | (unfold or3 sg3;simp;done))
end Go.Proofs.YtcfgbiaahangmaaGreatDoor
