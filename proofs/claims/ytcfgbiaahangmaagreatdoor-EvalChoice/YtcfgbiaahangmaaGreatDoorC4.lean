import Derived.Test.YtcfgbiaahangmaaGreatDoorC2
import Derived.Test.YtcfgbiaahangmaaGreatDoorSfC
import Derived.Lib.LaidTab
import Derived.Lib.TrimByte
import Derived.Sort.Grow
import Derived.Laws.BytesArg
import Derived.Lib.BitFns
import Derived.Lib.Mul64
import Derived.Laws.Bits64b
import Derived.Deep.Light
set_option maxHeartbeats 1000000
set_option maxRecDepth 100000
namespace Go.Proofs.YtcfgbiaahangmaaGreatDoor
open Go.Proofs.Tryz
open Go.RowKit
theorem index_dot (l:List UInt8):(dotB l = true→Lib.indexByte l 46 = (cutA l).length∧l = cutA l ++ 46 :: cutB l)∧(dotB l = false→Lib.indexByte l 46 = -1∧cutA l = l∧cutB l = []):=by
 induction l with
 | nil=>simp [dotB,cutA,cutB,Lib.indexByte]
 | cons c l ih =>
   by_cases hc:c = 46
   · subst hc;simp [dotB,cutA,cutB,Lib.indexByte]
   · have hn:(c == 46) = false:=J69
     have hm:(c != 46) = true:=J69
     have e1:dotB (c :: l) = dotB l:=by simp [dotB,hn]
     have e2:cutA (c :: l) = c :: cutA l:=by simp [cutA,hm]
     have e3:cutB (c :: l) = cutB l:=by simp [cutB,hm]
     rw [e1,e2,e3]
     refine ⟨fun h=>?_,fun h=>?_⟩
     · obtain ⟨i1,i2⟩:=ih.1 h
       refine ⟨?_,by rw [List.cons_append,← i2]⟩
       rw [Lib.indexByte,hn,i1];simp
     · obtain ⟨i1,i2,i3⟩:=ih.2 h
       refine ⟨?_,by rw [i2],i3⟩
       rw [Lib.indexByte,hn,i1];simp
theorem mkL (s:ByteArray) (l:List UInt8) (h:s.data.toList = l):s = ⟨l.toArray⟩:=by rw [← h,Lib.mk_data]
theorem ret_ssb {a b c d:ByteArray} {x y:Bool} (h:a = c) (h':b = d) (g:x = y):Ending.returned (.tuple #[.string a,.string b,.bool x]) = .returned (.tuple #[.string c,.string d,.bool y]):=by rw [h,h',g]
theorem ret_s {a b:ByteArray} (h:a = b):Ending.returned (.string a) = .returned (.string b):=by rw [h]
theorem cut_ahead (s:ByteArray) (A B:List UInt8) (c:UInt8) (k:Nat) (h:s.data.toList = A ++ c :: B) (hk:A.length = k):s.extract 0 k = ⟨A.toArray⟩:=by
 apply mkL;rw [Lib.extract_data,h,← hk];simp
theorem cut_behind (s:ByteArray) (A B:List UInt8) (c:UInt8) (k:Nat) (h:s.data.toList = A ++ c :: B) (hk:A.length = k):s.extract (k+1) s.size = ⟨B.toArray⟩:=by
 apply mkL;rw [Lib.extract_data,← size_list,h,← hk]
 have e:A ++ c :: B = (A ++ [c]) ++ B:=J65
 rw [e,List.drop_append_of_le_length J65,List.drop_of_length_le J65,List.nil_append,List.take_of_length_le J6]
theorem lcut_any (s:ByteArray) (w:World) (hs:s.size≤maxLen) :
   Calls Tryz.prog 254 #[.string s,.string ⟨#[46]⟩] w fun e w'=>e = .returned (.tuple #[.string ⟨(cutA s.data.toList).toArray⟩,.string ⟨(cutB s.data.toList).toArray⟩,.bool (dotB s.data.toList)])∧∃ n,w' = w.drewN n:=by
 unfold maxLen at hs
 have hl:=size_list s
 obtain ⟨hi,hj⟩:=index_dot s.data.toList
 cases hd:dotB s.data.toList
 · obtain ⟨i1,i2,i3⟩:=hj hd
   have H2:Hid (cutA s.data.toList = s.data.toList):=i2
   have H3:Hid (cutB s.data.toList = []):=i3
   clear hi hj i2 i3 hd
   go_enter func254,ntmps254
   go_wp2_with (go_at_call 274;refine (Tryz.stringslite_Index_one s 46 _).mono ?_;rintro e w' ⟨rfl,rfl⟩;rw [i1])
   go_ret3
   exact ⟨ret_ssb (by rw [H2.out,Lib.mk_data]) (by rw [H3.out]) rfl,0,rfl⟩
 · obtain ⟨i1,i2⟩:=hi hd
   have H2:Hid (s.data.toList = cutA s.data.toList ++ 46 :: cutB s.data.toList):=i2
   have hk:(cutA s.data.toList).length < s.size:=by rw [← hl];have:=congrArg List.length i2;simp at this;omega
   generalize hkk:(cutA s.data.toList).length = k at *
   clear hi hj i2 hd
   go_enter func254,ntmps254
   go_wp2_with (go_at_call 274;refine (Tryz.stringslite_Index_one s 46 _).mono ?_;rintro e w' ⟨rfl,rfl⟩;rw [i1])
   have c1:(0:Int)≤↑k:=J2
   have c2:(↑k:Int)≤↑s.size:=J2
   have c3:(0:Int)≤↑k+1:=J2
   have c4:(↑k+1:Int)≤↑s.size:=J2
   go_region
   go_wp2
   go_ret3
   exact ⟨ret_ssb (cut_ahead s _ _ _ _ H2.out hkk) (cut_behind s _ _ _ _ H2.out hkk) rfl,1,rfl⟩
theorem cut_any (s:ByteArray) (w:World) (hs:s.size≤maxLen) :
   Calls Tryz.prog 215 #[.string s,.string ⟨#[46]⟩] w fun e w'=>e = .returned (.tuple #[.string ⟨(cutA s.data.toList).toArray⟩,.string ⟨(cutB s.data.toList).toArray⟩,.bool (dotB s.data.toList)])∧∃ n,w' = w.drewN n:=by
 have c:=fun W=>lcut_any s W hs
 go_enter func215,ntmps215
 go_wp2_with fail
 refine (c _).mono ?_
 rintro e w' ⟨rfl,n,rfl⟩
 go_wp2
 go_ret3
 exact ⟨rfl,n,rfl⟩
theorem four_len (b:List UInt8):(four b).length = 4:=by simp [four,zs]
theorem four_all (b:List UInt8) (h:b.all dgB = true):(four b).all dgB = true:=by
 rw [List.all_eq_true]
 intro x hx
 have:=List.mem_of_mem_take hx
 rw [List.mem_append] at this
 rcases this with h1 | h1
 · exact List.all_eq_true.1 h x h1
 · exact List.all_eq_true.1 (all_zs 5) x h1
theorem app_list (a b:ByteArray):(a ++ b).data.toList = a.data.toList ++ b.data.toList:=by rw [ByteArray.data_append,Array.toList_append]
theorem add_one (V:Nat) (hV:V≤9223372036854775807):addV V 1 = whV (V+1)∧addB V 1 = whB (V+1):=by
 have hb:addB V 1 = whB (V+1):=by
   unfold addB canB fitB whB
   rw [Bool.eq_iff_iff]
   simp
   omega
 refine ⟨?_,hb⟩
 unfold addV whV
 rw [hb]
 unfold whB
 by_cases h:V+1≤9223372036854775807
 · simp [h]
 · simp [h]
theorem parts_any (a b:ByteArray) (w:World) (ha:a.size≤40) (hb:b.size≤40) (da:a.data.toList.all dgB = true) (db:b.data.toList.all dgB = true) :
   Calls Tryz.prog 217 #[.string a,.string b] w fun e w'=>e = .returned (.tuple #[.int .i64 (whV (nv a.data.toList b.data.toList)),.bool (whB (nv a.data.toList b.data.toList))])∧Ext w w':=by
 have e0:(b ++ (⟨#[48,48,48,48,48]⟩:ByteArray)).data.toList = b.data.toList ++ zs 5:=app_list _ _
 have e1:(a ++ (b ++ (⟨#[48,48,48,48,48]⟩:ByteArray)).extract 0 4).data.toList = a.data.toList ++ four b.data.toList:=by
   rw [app_list,Lib.extract_data,e0];rfl
 have hz:(b ++ (⟨#[48,48,48,48,48]⟩:ByteArray)).size = b.size+5:=by rw [ByteArray.size_append];rfl
 have hz4:4 < (b ++ (⟨#[48,48,48,48,48]⟩:ByteArray)).size:=J2
 have e2:(b ++ (⟨#[48,48,48,48,48]⟩:ByteArray))[4] = fifth b.data.toList:=by
   unfold fifth;rw [← e0]
   have:=get_list _ 4 hz4
   rw [← this,List.getD_eq_getElem?_getD,gEq (by rw [size_list];exact hz4)];rfl
 have c:=fun W=>whole_any (a ++ (b ++ (⟨#[48,48,48,48,48]⟩:ByteArray)).extract 0 4) W (by rw [← size_list,e1,List.length_append,four_len,size_list];omega) (by rw [e1,List.all_append,da,four_all _ db];rfl)
 rw [e1] at c
 have HN:Hid (nv a.data.toList b.data.toList = val (a.data.toList ++ four b.data.toList)+(if 53≤(fifth b.data.toList).toNat then 1 else 0)):=rfl
 rw [← e2] at HN
 clear e0 e1 e2 da db
 generalize val (a.data.toList ++ four b.data.toList) = V at *
 generalize nv a.data.toList b.data.toList = N at *
 by_cases hV:V≤9223372036854775807
 · rw [(wh_yes hV).1,(wh_yes hV).2] at c
   have cA:=fun W=>add_any V 1 ⟨by omega,by omega⟩ ⟨by omega,by omega⟩ W
   by_cases h5:(53:Int)≤(b ++ (⟨#[48,48,48,48,48]⟩:ByteArray))[4].toNat
   · go_enter func217,ntmps217
     go_wp2_with fail
     refine (c _).mono ?_
     rintro e w' ⟨rfl,rfl⟩
     go_wp2_with fail
     refine (cA _).mono ?_
     rintro e w1 ⟨rfl,E1⟩
     go_wp2_with fail
     go_ret2
     refine ⟨ret_ib ?_ ?_,E1⟩
     all_goals
       have hN:N = V+1:=by have:=HN.out;rw [if_pos J2] at this;exact this
       rw [hN]
     · exact (add_one V hV).1
     · exact (add_one V hV).2
   · go_enter func217,ntmps217
     go_wp2_with fail
     refine (c _).mono ?_
     rintro e w' ⟨rfl,rfl⟩
     go_wp2_with fail
     go_ret2
     refine ⟨ret_ib ?_ ?_,Ext.refl _⟩
     all_goals
       have hN:N = V:=by have:=HN.out;rw [if_neg J2] at this;exact this
       rw [hN]
     · exact (wh_yes hV).1.symm
     · exact (wh_yes hV).2.symm
 · rw [(wh_no J2).1,(wh_no J2).2] at c
   go_enter func217,ntmps217
   go_wp2_with fail
   refine (c _).mono ?_
   rintro e w' ⟨rfl,rfl⟩
   go_wp2_with fail
   go_ret2
   refine ⟨ret_ib ?_ ?_,Ext.refl _⟩
   all_goals have hN:9223372036854775807 < N:=by have:=HN.out;omega
   · exact (wh_no hN).1.symm
   · exact (wh_no hN).2.symm
theorem pre_minus (l:List UInt8):Lib.hasPrefix l [45] = minusB l∧Lib.trimPrefix l [45] = sizeL l:=by
 cases l with
 | nil=>exact ⟨rfl,rfl⟩
 | cons c l =>
   have e:Lib.hasPrefix (c :: l) [45] = minusB (c :: l):=by
     simp [Lib.hasPrefix,minusB,List.isPrefixOf]
     by_cases h:c = 45
     · subst h;rfl
     · have h1:(45 == c) = false:=by simpa using fun e=>h e.symm
       have h2:(c == 45) = false:=by simpa using h
       rw [h1,h2]
   refine ⟨e,?_⟩
   unfold Lib.trimPrefix sizeL
   rw [e]
   rfl
theorem okD_bd {l:List UInt8} (h:okD l = true):l.length≤40∧l.all dgB = true:=by
 unfold okD at h;rw [Bool.and_eq_true] at h;exact ⟨by have:=h.1;simp at this;omega,h.2⟩
theorem no_num {l:List UInt8} (h:numB l = false):rdV l = 0∧rdK l = 0:=by unfold rdV rdK;rw [h];exact ⟨rfl,rfl⟩
theorem num_great {l:List UInt8} (h:numB l = true) (g:9223372036854775807 < numN l):rdV l = 0∧rdK l = 2:=by
 unfold rdV rdK;rw [h];have:decide (numN l≤9223372036854775807) = false:=by simp;omega
 rw [this];exact ⟨rfl,by rw [if_pos rfl,if_neg J2]⟩
theorem num_is {l:List UInt8} (h:numB l = true) (g:numN l≤9223372036854775807):rdV l = (if minusB l then -(numN l:Int) else numN l)∧rdK l = 1:=by
 unfold rdV rdK;rw [h];have:decide (numN l≤9223372036854775807) = true:=by simp;omega
 rw [this];exact ⟨rfl,by rw [if_pos rfl,if_pos g]⟩
theorem cut_short (l:List UInt8):(cutA l).length≤l.length∧(cutB l).length≤l.length∧(dotB l = false→cutB l = []):=by
 obtain ⟨h1,h2⟩:=index_dot l
 cases hd:dotB l
 · obtain ⟨_,a,b⟩:=h2 hd
   rw [a,b];simp
 · obtain ⟨_,a⟩:=h1 hd
   have:=congrArg List.length a
   simp at this
   exact ⟨by omega,by omega,fun h=>by cases h⟩
theorem parse_any (s:ByteArray) (w:World) (hs:s.size≤maxLen) :
   Calls Tryz.prog 169 #[.string s] w fun e w'=>e = .returned (.tuple #[.int .i64 (rdV s.data.toList),.int .i64 (rdK s.data.toList)])∧Ext w w':=by
 unfold maxLen at hs
 have hl:=size_list s
 obtain ⟨p1,p2⟩:=pre_minus s.data.toList
 have c1:=fun W=>Tryz.strings_CutPrefix s ⟨#[45]⟩ W
 simp only [p1,p2] at c1
 clear p1 p2
 have hr:(sizeL s.data.toList).length≤s.size:=by
   rw [← hl];unfold sizeL;split
   · simp
   · exact Nat.le_refl _
 have hA:Hid (numB s.data.toList = (okD (cutA (sizeL s.data.toList)) && (!dotB (sizeL s.data.toList) || okD (cutB (sizeL s.data.toList))))):=rfl
 have hN:Hid (numN s.data.toList = nv (cutA (sizeL s.data.toList)) (cutB (sizeL s.data.toList))):=rfl
 obtain ⟨k1,k2,k3⟩:=cut_short (sizeL s.data.toList)
 have c2:=fun W=>cut_any ⟨(sizeL s.data.toList).toArray⟩ W (by unfold maxLen;rw [← size_list];show (sizeL s.data.toList).length≤_;omega)
 simp only at c2
 have c3:=fun W=>digits_any ⟨(cutA (sizeL s.data.toList)).toArray⟩ W (by unfold maxLen;rw [← size_list];show (cutA (sizeL s.data.toList)).length≤_;omega)
 have c4:=fun W=>digits_any ⟨(cutB (sizeL s.data.toList)).toArray⟩ W (by unfold maxLen;rw [← size_list];show (cutB (sizeL s.data.toList)).length≤_;omega)
 simp only at c3 c4
 have c5:okD (cutA (sizeL s.data.toList)) = true→(dotB (sizeL s.data.toList) = false∨okD (cutB (sizeL s.data.toList)) = true)→∀ W,Calls Tryz.prog 217 #[.string ⟨(cutA (sizeL s.data.toList)).toArray⟩,.string ⟨(cutB (sizeL s.data.toList)).toArray⟩] W fun e w'=>e = .returned (.tuple #[.int .i64 (whV (numN s.data.toList)),.bool (whB (numN s.data.toList))])∧Ext W w':=by
   intro h1 h2 W
   have hb:(cutB (sizeL s.data.toList)).length≤40∧(cutB (sizeL s.data.toList)).all dgB = true:=by
     rcases h2 with h2 | h2
     · rw [k3 h2];exact ⟨by simp,rfl⟩
     · exact okD_bd h2
   rw [hN.out]
   exact parts_any _ _ W (by rw [← size_list];exact (okD_bd h1).1) (by rw [← size_list];exact hb.1) (okD_bd h1).2 hb.2
 generalize cutA (sizeL s.data.toList) = A at *
 generalize cutB (sizeL s.data.toList) = B at *
 generalize dotB (sizeL s.data.toList) = D at *
 generalize sizeL s.data.toList = R at *
 generalize hoa:okD A = oa at *
 generalize hob:okD B = ob at *
 clear hoa hob k1 k2 k3 hr
 have HG:=fun h g=>@num_great s.data.toList h g
 have HI:=fun h g=>@num_is s.data.toList h g
 have HZ:=fun h=>@no_num s.data.toList h
 generalize hnn:numN s.data.toList = N at *
 generalize hmm:minusB s.data.toList = M at *
 have HGh:Hid (numB s.data.toList = true→9223372036854775807 < N→rdV s.data.toList = 0∧rdK s.data.toList = 2):=HG
 have HIh:Hid (numB s.data.toList = true→N≤9223372036854775807→rdV s.data.toList = (if M then -(N:Int) else N)∧rdK s.data.toList = 1):=HI
 have HZh:Hid (numB s.data.toList = false→rdV s.data.toList = 0∧rdK s.data.toList = 0):=HZ
 clear HG HI HZ hnn hmm hN hl
 have hdec:(oa = false∨(oa = true∧D = true∧ob = false))∨(oa = true∧(D = false∨ob = true)):=by
   cases oa <;> cases D <;> cases ob <;> simp
 rcases hdec with hdec | ⟨hoa,hdob⟩
 · have hz:numB s.data.toList = false:=by
     rw [hA.out];rcases hdec with h | ⟨h1,h2,h3⟩
     · rw [h];rfl
     · rw [h1,h2,h3];rfl
   obtain ⟨z1,z2⟩:=HZh.out hz
   rw [z1,z2]
   clear c5 HGh HIh HZh hA hz
   rcases hdec with h | ⟨h1,h2,h3⟩
   · subst h
     go_enter func169,ntmps169
     go_wp2_with fail
     refine (c1 _).mono ?_
     rintro e w' ⟨rfl,rfl⟩
     go_wp2_with fail
     refine (c2 _).mono ?_
     rintro e w2 ⟨rfl,n2,rfl⟩
     go_wp2_with fail
     refine (c3 _).mono ?_
     rintro e w3 ⟨rfl,rfl⟩
     go_wp2_with fail
     go_ret2
     exact ⟨ret_ii rfl rfl,xr.drewN _⟩
   · subst h1;subst h2;subst h3
     go_enter func169,ntmps169
     go_wp2_with fail
     refine (c1 _).mono ?_
     rintro e w' ⟨rfl,rfl⟩
     go_wp2_with fail
     refine (c2 _).mono ?_
     rintro e w2 ⟨rfl,n2,rfl⟩
     go_wp2_with fail
     refine (c3 _).mono ?_
     rintro e w3 ⟨rfl,rfl⟩
     go_wp2_with fail
     refine (c4 _).mono ?_
     rintro e w4 ⟨rfl,rfl⟩
     go_wp2_with fail
     go_ret2
     exact ⟨ret_ii rfl rfl,xr.drewN _⟩
 · have hz:numB s.data.toList = true:=by
     rw [hA.out,hoa];rcases hdob with h | h
     · rw [h];rfl
     · rw [h];simp
   have c6:=c5 hoa hdob
   have HG2:=HGh.out hz
   have HI2:=HIh.out hz
   subst hoa
   clear c5 HGh HIh HZh hA hz
   by_cases hN:N≤9223372036854775807
   · obtain ⟨z1,z2⟩:=HI2 hN
     rw [z1,z2]
     rw [(wh_yes hN).1,(wh_yes hN).2] at c6
     have hN1:(N:Int)≤9223372036854775807:=J2
     clear HG2 HI2 z1 z2 hN
     cases D
     · cases M
       all_goals
         exact K189
     · obtain rfl:ob = true:=by rcases hdob with h | h;cases h;exact h
       cases M
       all_goals
         exact K55
   · obtain ⟨z1,z2⟩:=HG2 J2
     rw [z1,z2]
     rw [(wh_no J2).1,(wh_no J2).2] at c6
     clear HG2 HI2 z1 z2 hN
     cases D
     · exact K189
     · obtain rfl:ob = true:=by rcases hdob with h | h;cases h;exact h
       exact K55
def Tab (w:World):Prop:=Lib.TabIs Tryz.prog w "internal/strconv.uint64pow10" .u64 Lib.pow10Tab
theorem var_ext {P:Program} {w w':World} {n:String} {cs:Array Value} (h:w.var? P n = some cs) (e:Ext w w'):w'.var? P n = some cs:=by
 unfold World.var? at h ⊢
 cases hg:P.globalNamed n with
 | none=>rw [hg] at h;cases h
 | some g =>
   rw [hg] at h
   simp only [Option.bind_some] at h ⊢
   by_cases hb:g < w.heap.size
   · rw [e.block g hb];exact h
   · rw [show w.heap[g]? = none from by simp;omega] at h;cases h
theorem Tab.ext {w w':World} (h:Tab w) (e:Ext w w'):Tab w':=var_ext h e
theorem ext_grow (w:World) (k:Nat) (os:Array Obj):Ext w (Sort.grow (w.drewN k) os) :=
 ((Ext.refl w).drewN k).trans ⟨rfl,rfl,rfl,by simp [Sort.grow],fun i hi=>by show (w.heap ++ os)[i]? = w.heap[i]?;exact Array.getElem?_append_left hi⟩
def fracL (r:Nat):List UInt8:=Lib.trimRightB ((Lib.decDigits (10000+r)).drop 1) 48
def bodyL (n:Nat):List UInt8:=Lib.decDigits (n / 10000) ++ (if fracL (n % 10000) = [] then [] else 46 :: fracL (n % 10000))
def printL (a:Int):List UInt8:=if canB a then (if a < 0 then 45 :: bodyL a.natAbs else bodyL a.natAbs) else [110,111,110,101]
theorem dec_size (u k:Nat) (h:u < 10 ^ (k+1)):1≤(⟨(Lib.decDigits u).toArray⟩:ByteArray).size∧(⟨(Lib.decDigits u).toArray⟩:ByteArray).size≤k+1:=by
 rw [← size_list];exact dec_len u k h
theorem trim_len (l:List UInt8) (c:UInt8):(Lib.trimRightB l c).length≤l.length:=by
 unfold Lib.trimRightB
 rw [List.length_reverse]
 have:=List.dropWhile_sublist (fun x=>x == c) (l:=l.reverse)
 simpa using this.length_le
theorem ext_one (l:List UInt8):((⟨l.toArray⟩:ByteArray).extract 1 (⟨l.toArray⟩:ByteArray).size).data.toList = l.drop 1:=by
 rw [Lib.extract_data,← size_list]
 exact List.take_of_length_le J65
theorem print_any (a:Int) (ha:I64 a) (w:World) (hT:Tab w) :
   Calls Tryz.prog 226 #[.int .i64 a] w fun e w'=>e = .returned (.string ⟨(printL a).toArray⟩)∧Ext w w':=by
 obtain ⟨h1,h2⟩:=ha
 by_cases hc:canB a = false
 · have H:Hid (printL a = [110,111,110,101]):=by show printL a = _;unfold printL;rw [hc];rfl
   have c:=fun W=>can_any a W
   rw [hc] at c
   go_enter func226,ntmps226
   go_wp2_with fail
   refine (c _).mono ?_
   rintro e w' ⟨rfl,rfl⟩
   go_wp2_with fail
   go_ret
   exact ⟨ret_s (by rw [H.out]),Ext.refl _⟩
 · have hc:canB a = true:=J69
   have hc':a≠-9223372036854775808:=by simpa [canB] using hc
   have c:=fun W=>can_any a W
   rw [hc] at c
   obtain ⟨m,hm⟩:∃ m:Nat,m = a.natAbs:=⟨_,rfl⟩
   have i1:Lib.itoa ((m:Int) / 10000) = Lib.decDigits (m / 10000):=by unfold Lib.itoa;rw [if_neg J2];congr 1
   have i2:Lib.itoa (10000+(m:Int) % 10000) = Lib.decDigits (10000+m % 10000):=by unfold Lib.itoa;rw [if_neg J2];congr 1
   have c1:=fun W hW=>Tryz.strconv_FormatInt_10 ((m:Int) / 10000) J2 J2 W hW
   have c2:=fun W hW=>Tryz.strconv_FormatInt_10 (10000+(m:Int) % 10000) J2 J2 W hW
   rw [i1] at c1
   rw [i2] at c2
   obtain ⟨q1,q2⟩:=dec_size (m / 10000) 14 J2
   obtain ⟨r1,r2⟩:=dec_size (10000+m % 10000) 4 J2
   have f2:(fracL (m % 10000)).length≤5:=Nat.le_trans (trim_len _ _) (by rw [List.length_drop];rw [← size_list] at r2;simp at r2 ⊢;omega)
   have c3:=fun W=>Tryz.strings_TrimRight_one ((⟨(Lib.decDigits (10000+m % 10000)).toArray⟩:ByteArray).extract 1 (⟨(Lib.decDigits (10000+m % 10000)).toArray⟩:ByteArray).size) 48 J9 W (by rw [ByteArray.size_extract];omega)
   rw [ext_one] at c3
   have f3:(⟨(fracL (m % 10000)).toArray⟩:ByteArray).size≤5:=by rw [← size_list];exact f2
   have c4:∀ W,Calls Tryz.prog 262 #[.string ((⟨(Lib.decDigits (10000+m % 10000)).toArray⟩:ByteArray).extract 1 (⟨(Lib.decDigits (10000+m % 10000)).toArray⟩:ByteArray).size),.string ⟨#[48]⟩] W fun e w'=>e = .returned (.string ⟨(fracL (m % 10000)).toArray⟩)∧w' = W:=c3
   have HE1:Hid (fracL (m % 10000) = []→bodyL m = Lib.decDigits (m / 10000)):=by show _→_;intro h;unfold bodyL;rw [if_pos h,List.append_nil]
   have HE2:Hid (fracL (m % 10000)≠[]→bodyL m = Lib.decDigits (m / 10000) ++ 46 :: fracL (m % 10000)):=by show _→_;intro h;unfold bodyL;rw [if_neg h]
   have HE3:Hid ((⟨(fracL (m % 10000)).toArray⟩:ByteArray).toList.isEmpty = decide (fracL (m % 10000) = [])):=by show _ = _;rw [ByteArray.toList_eq];show (fracL (m % 10000)).isEmpty = _;cases fracL (m % 10000) <;> simp
   clear c3 f2 i1 i2
   obtain ⟨q,hq⟩:∃ q:ByteArray,q = ⟨(Lib.decDigits (m / 10000)).toArray⟩:=⟨_,rfl⟩
   obtain ⟨r,hr⟩:∃ r:ByteArray,r = ⟨(Lib.decDigits (10000+m % 10000)).toArray⟩:=⟨_,rfl⟩
   obtain ⟨f,hf⟩:∃ f:ByteArray,f = ⟨(fracL (m % 10000)).toArray⟩:=⟨_,rfl⟩
   rw [← hq] at q1 q2 c1
   rw [← hr] at r1 r2 c2 c4
   rw [← hf] at f3 c4 HE3
   have HQ:Hid (q.data.toList = Lib.decDigits (m / 10000)):=by show _ = _;rw [hq]
   have HF:Hid (f.data.toList = fracL (m % 10000)):=by show _ = _;rw [hf]
   clear hq hr hf
   by_cases hn:a < 0
   · have H:Hid (printL a = 45 :: bodyL m):=by show printL a = _;unfold printL;rw [hc,if_pos rfl,if_pos hn,hm]
     have hm1:(m:Int)≤9223372036854775807:=J2
     have hm0:(0:Int)≤m:=J2
     obtain rfl:a = -(m:Int):=by omega
     exact K26
   · have H:Hid (printL a = bodyL m):=by show printL a = _;unfold printL;rw [hc,if_pos rfl,if_neg hn,hm]
     obtain rfl:a = (m:Int):=by omega
     exact K26
theorem trim_no (l:List UInt8):Lib.trimRightB (l ++ [48]) 48 = Lib.trimRightB l 48:=by
 unfold Lib.trimRightB;simp
theorem trim_yes (l:List UInt8) (c:UInt8) (h:c≠48):Lib.trimRightB (l ++ [c]) 48 = l ++ [c]:=by
 unfold Lib.trimRightB;simp [h]
theorem snoc_of (l:List UInt8) (h:l≠[]):∃ r c,l = r ++ [c]:=⟨l.dropLast,l.getLast h,(List.dropLast_concat_getLast h).symm⟩
theorem trim_back (l:List UInt8):∃ k,l = Lib.trimRightB l 48 ++ zs k:=by
 induction hn:l.length generalizing l with
 | zero=>exact ⟨0,by rw [List.length_eq_zero_iff.1 hn];rfl⟩
 | succ n ih =>
   obtain ⟨r,c,rfl⟩:=snoc_of l (fun h=>by rw [h] at hn;cases hn)
   by_cases hc:c = 48
   · subst hc
     obtain ⟨k,hk⟩:=ih r (by simpa using hn)
     refine ⟨k+1,?_⟩
     rw [trim_no]
     conv=>lhs;rw [hk]
     simp [zs,List.replicate_succ']
   · exact ⟨0,by rw [trim_yes _ _ hc];simp [zs]⟩
def F4 (r:Nat):List UInt8:=[UInt8.ofNat (48+r / 1000),UInt8.ofNat (48+r / 100 % 10),UInt8.ofNat (48+r / 10 % 10),UInt8.ofNat (48+r % 10)]
theorem dec_step {u:Nat} (h:¬ u < 10):Lib.decDigits u = Lib.decDigits (u / 10) ++ [UInt8.ofNat (48+u % 10)]:=by rw [Lib.decDigits,dif_neg h]
theorem dec_one {u:Nat} (h:u < 10):Lib.decDigits u = [UInt8.ofNat (48+u)]:=by rw [Lib.decDigits,dif_pos h]
theorem dec_frac (r:Nat) (h:r < 10000):Lib.decDigits (10000+r) = 49 :: F4 r:=by
 rw [dec_step J2,dec_step (u:=(10000+r) / 10) J2,dec_step (u:=(10000+r) / 10 / 10) J2,dec_step (u:=(10000+r) / 10 / 10 / 10) J2,dec_one (u:=(10000+r) / 10 / 10 / 10 / 10) J2]
 unfold F4
 rw [show (10000+r) / 10 / 10 / 10 / 10 = 1 by omega,show (10000+r) / 10 / 10 / 10 % 10 = r / 1000 by omega,show (10000+r) / 10 / 10 % 10 = r / 100 % 10 by omega,show (10000+r) / 10 % 10 = r / 10 % 10 by omega,show (10000+r) % 10 = r % 10 by omega]
 rfl
theorem frac_eq (r:Nat) (h:r < 10000):fracL r = Lib.trimRightB (F4 r) 48:=by unfold fracL;rw [dec_frac r h];rfl
theorem F4_val (r:Nat) (h:r < 10000):val (F4 r) = r:=by
 unfold F4 val
 simp only [List.foldl_cons,List.foldl_nil]
 rw [(dg_ofNat (d:=r / 1000) J2).2,(dg_ofNat (d:=r / 100 % 10) J2).2,(dg_ofNat (d:=r / 10 % 10) J2).2,(dg_ofNat (d:=r % 10) J2).2]
 omega
theorem frac_back (r:Nat) (h:r < 10000):∃ k,F4 r = fracL r ++ zs k∧(fracL r).length+k = 4:=by
 obtain ⟨k,hk⟩:=trim_back (F4 r)
 rw [← frac_eq r h] at hk
 refine ⟨k,hk,?_⟩
 have:=congrArg List.length hk
 simp [F4,zs] at this
 omega
theorem frac_zero:fracL 0 = []:=by rw [frac_eq 0 J9];decide
structure Guess (K n1 n0 y1 y0 q r:Nat):Prop where
 eq:q * y1+r = n1
 up:r * K+n0 < q * y0+y1 * K+y0
theorem guess_start {K n1 n0 y1 y0:Nat} (hy:0 < y1) (h0:n0 < K):Guess K n1 n0 y1 y0 (n1 / y1) (n1 - n1 / y1 * y1):=by
 have h1:n1 / y1 * y1≤n1:=Nat.div_mul_le_self n1 y1
 have h2:n1 % y1 < y1:=Nat.mod_lt _ hy
 have h3:n1 - n1 / y1 * y1 = n1 % y1:=by have:=Nat.div_add_mod n1 y1;rw [Nat.mul_comm] at this;omega
 refine ⟨by omega,?_⟩
 rw [h3]
 have h4:(n1 % y1+1) * K≤y1 * K:=Nat.mul_le_mul h2 nrf
 rw [Nat.add_mul,Nat.one_mul] at h4
 omega
theorem guess_lt {K n1 n0 y1 y0 q r:Nat} (g:Guess K n1 n0 y1 y0 q r) (hn:n1 < y1 * K+y0) (h0:n0 < K) (h:K≤q):r * K+n0 < q * y0:=by
 obtain ⟨e,u⟩:=g
 have hA:K * y1≤q * y1:=Nat.mul_le_mul h nrf
 have hB:K * y0≤q * y0:=Nat.mul_le_mul h nrf
 have hr:r+1≤y0:=by rw [Nat.mul_comm K y1] at hA;omega
 have hC:(r+1) * K≤y0 * K:=Nat.mul_le_mul hr nrf
 rw [Nat.add_mul,Nat.one_mul,Nat.mul_comm y0 K] at hC
 omega
theorem guess_step {K n1 n0 y1 y0 q r:Nat} (g:Guess K n1 n0 y1 y0 q r) (hn:n1 < y1 * K+y0) (h0:n0 < K)
   (h:K≤q∨r * K+n0 < q * y0):0 < q∧Guess K n1 n0 y1 y0 (q - 1) (r+y1):=by
 have hlt:r * K+n0 < q * y0:=by
   rcases h with h | h
   · exact guess_lt g hn h0 h
   · exact h
 obtain ⟨e,u⟩:=g
 have hq:0 < q:=by
   rcases Nat.eq_zero_or_pos q with rfl | h
   · simp at hlt
   · exact h
 obtain ⟨k,rfl⟩:∃ k,q = k+1:=⟨q - 1,by omega⟩
 refine ⟨hq,?_,?_⟩
 · simp only [Nat.add_sub_cancel];rw [Nat.add_mul] at e;omega
 · simp only [Nat.add_sub_cancel]
   rw [Nat.add_mul,Nat.one_mul] at hlt
   rw [Nat.add_mul]
   omega
theorem guess_end {K n1 n0 y1 y0 q r:Nat} (g:Guess K n1 n0 y1 y0 q r) (h:q * y0≤r * K+n0) :
   q = (n1 * K+n0) / (y1 * K+y0):=by
 obtain ⟨e,u⟩:=g
 have h1:q * (y1 * K+y0) = q * y1 * K+q * y0:=by rw [Nat.mul_add,Nat.mul_assoc]
 have h2:(q+1) * (y1 * K+y0) = q * (y1 * K+y0)+(y1 * K+y0):=by rw [Nat.add_mul,Nat.one_mul]
 have h3:n1 * K = q * y1 * K+r * K:=by rw [← e,Nat.add_mul]
 symm
 apply Nat.div_eq_of_lt_le
 · rw [h1];omega
 · rw [h2,h1];omega
theorem guess_break {K n1 n0 y1 y0 q r:Nat} (g:Guess K n1 n0 y1 y0 q r) (hn:n1 < y1 * K+y0) (hy0:y0 < K) (hr:K≤r) :
   q = (n1 * K+n0) / (y1 * K+y0):=by
 refine guess_end g ?_
 obtain ⟨e,u⟩:=g
 have hq:q < K:=by
   rcases Nat.lt_or_ge q K with h | h
   · exact h
   · have hA:K * y1≤q * y1:=Nat.mul_le_mul h nrf
     rw [Nat.mul_comm K y1] at hA
     omega
 have:q * y0≤r * K:=Nat.mul_le_mul J2 J2
 omega
theorem guess_small {n1 n0 y1 y0 q r:Nat} (g:Guess 4294967296 n1 n0 y1 y0 q r) (hy:2147483648≤y1) (hy1:y1 < 4294967296) (hy0:y0 < 4294967296) (hn:n1 < y1 * 4294967296+y0):q≤4294967298:=by
 obtain ⟨e,u⟩:=g
 rcases Nat.lt_or_ge 4294967298 q with h | h
 · exfalso
   have hA:4294967299 * y1≤q * y1:=Nat.mul_le_mul h nrf
   omega
 · exact h
theorem maskN (a:Nat) (ha:a < 18446744073709551616):bits .and .u64 (a:Int) 4294967295 = ((a % 4294967296:Nat):Int):=by
 have h:=bits_and_u64_nat a 4294967295 ha J2
 have e:a &&& 4294967295 = a % 4294967296:=Nat.and_two_pow_sub_one_eq_mod a 32
 rw [e] at h
 exact h
theorem divN (a:Nat):(a:Int) / 4294967296 = ((a / 4294967296:Nat):Int):=J2
theorem mulN (a b:Nat):(a:Int) * (b:Int) = ((a * b:Nat):Int):=(Int.natCast_mul a b).symm
theorem addN (a b:Nat):(a:Int)+(b:Int) = ((a+b:Nat):Int):=(Int.natCast_add a b).symm
theorem wrapN (a:Nat) (ha:a < 18446744073709551616):IntKind.u64.wrap (a:Int) = (a:Int):=by rw [IntKind.wrap_u64];omega
theorem wrapM (a:Nat):IntKind.u64.wrap (a:Int) = ((a % 18446744073709551616:Nat):Int):=by rw [IntKind.wrap_u64];omega
theorem mul64N (x y:Nat) (hx:x < 18446744073709551616) (hy:y < 18446744073709551616) (w:World) :
   Calls Tryz.prog 247 #[.int .u64 x,.int .u64 y] w fun e w'=>e = .returned (.tuple #[.int .u64 ((x * y / 18446744073709551616:Nat):Int),.int .u64 ((x * y % 18446744073709551616:Nat):Int)])∧w' = w:=by
 obtain ⟨bd,bt,bw,hhi⟩:=Lib.mul64_hi x y hx hy
 have ba:=Lib.half_mul_le (a:=x / 4294967296) (b:=y / 4294967296) J2 J2
 have bb:=Lib.half_mul_le (a:=x / 4294967296) (b:=y % 4294967296) J2 J2
 have bc:=Lib.half_mul_le (a:=x % 4294967296) (b:=y / 4294967296) J2 J2
 have ba':x / 4294967296 * (y / 4294967296) < 18446744073709551616:=J2
 have bb':x / 4294967296 * (y % 4294967296) < 18446744073709551616:=J2
 have bc':x % 4294967296 * (y / 4294967296) < 18446744073709551616:=J2
 have bh1:x / 4294967296 * (y / 4294967296)+(x / 4294967296 * (y % 4294967296)+x % 4294967296 * (y % 4294967296) / 4294967296) / 4294967296 < 18446744073709551616:=J2
 have bh:x / 4294967296 * (y / 4294967296)+(x / 4294967296 * (y % 4294967296)+x % 4294967296 * (y % 4294967296) / 4294967296) / 4294967296+((x / 4294967296 * (y % 4294967296)+x % 4294967296 * (y % 4294967296) / 4294967296) % 4294967296+x % 4294967296 * (y / 4294967296)) / 4294967296 < 18446744073709551616:=J2
 go_enter func247,ntmps247
 go_wp2
 simp only [maskN x hx,maskN y hy,divN,mulN,addN,wrapN _ bd,wrapN _ bb',wrapN _ bt,maskN _ bt,wrapN _ bc',wrapN _ bw,wrapN _ ba',wrapN _ bh1,wrapN _ bh,wrapM (x * y)]
 rw [hhi]
 go_ret2
 exact ⟨rfl,rfl⟩
theorem tab_fin:∀ n:Fin 256,0 < n.val→∃ t:Fin 9,1≤t.val∧((Lib.len8tab[n.val]?).getD 0).toNat = t.val∧2 ^ (t.val - 1)≤n.val∧n.val < 2 ^ t.val:=J71
theorem tab_at (y:Nat) (h:y < Lib.len8tab.size) (h0:0 < y):∃ t:Nat,t≤8∧1≤t∧(Lib.len8tab[y]'h).toNat = t∧2 ^ (t - 1)≤y∧y < 2 ^ t:=by
 have hs:Lib.len8tab.size = 256:=Lib.len8tab_size
 obtain ⟨t,h1,h2,h3,h4⟩:=tab_fin ⟨y,by omega⟩ h0
 refine ⟨t.val,by omega,h1,?_,h3,h4⟩
 rw [← h2]
 simp only [getElem?_pos Lib.len8tab y h,Option.getD_some]
theorem len_close (x K t:Nat) (ht:1≤t) (hk:K+t≤64) (h1:2 ^ (t - 1)≤x / 2 ^ K) (h2:x / 2 ^ K < 2 ^ t) :
   9223372036854775808≤x * 2 ^ (64 - (K+t))∧x * 2 ^ (64 - (K+t)) < 18446744073709551616:=by
 have p:0 < 2 ^ K:=Nat.pow_pos J2
 rw [Nat.le_div_iff_mul_le p] at h1
 rw [Nat.div_lt_iff_lt_mul p] at h2
 have q:0 < 2 ^ (64 - (K+t)):=Nat.pow_pos J2
 have e1:2 ^ (t - 1) * 2 ^ K * 2 ^ (64 - (K+t)) = 9223372036854775808:=by
   rw [← Nat.pow_add,← Nat.pow_add,show t - 1+K+(64 - (K+t)) = 63 from by omega]
 have e2:2 ^ t * 2 ^ K * 2 ^ (64 - (K+t)) = 18446744073709551616:=by
   rw [← Nat.pow_add,← Nat.pow_add,show t+K+(64 - (K+t)) = 64 from by omega]
 exact ⟨by rw [← e1];exact Nat.mul_le_mul h1 nrf,by rw [← e2];exact Nat.mul_lt_mul_of_lt_of_le h2 nrf q⟩
def Len (x n:Nat):Prop:=1≤n∧n≤64∧9223372036854775808≤x * 2 ^ (64 - n)∧x * 2 ^ (64 - n) < 18446744073709551616
theorem wrap_add (K t:Nat) (hK:K≤56) (ht:t≤8):wrap64 ((K:Int)+wrap64 (t:Int)) = ((K+t:Nat):Int):=J72
theorem len_way (x K y:Nat) (h:y < Lib.len8tab.size) (hK:K≤56) (hy:y = x / 2 ^ K) (h0:0 < y):∃ n:Nat,Len x n∧wrap64 ((K:Int)+wrap64 ((Lib.len8tab[y]'h).toNat:Int)) = (n:Int):=by
 obtain ⟨t,a,b,c,d,e⟩:=tab_at y h h0
 rw [c]
 rw [hy] at d e
 have:=len_close x K t b J2 d e
 exact ⟨K+t,⟨by omega,by omega,this⟩,wrap_add K t hK a⟩
theorem len_int (x y:Int) (K:Nat) (h:y.toNat < Lib.len8tab.size) (hK:K≤56) (hy:y.toNat = x.toNat / 2 ^ K) (h0:0 < y) :
   ∃ m:Nat,wrap64 ((K:Int)+wrap64 ((Lib.len8tab[y.toNat]'h).toNat:Int)) = (m:Int)∧Len x.toNat m:=by
 obtain ⟨n,a,b⟩:=len_way x.toNat K y.toNat h hK hy J2
 exact ⟨n,b,a⟩
theorem len_int0 (x:Int) (h:x.toNat < Lib.len8tab.size) (h0:0 < x) :
   ∃ m:Nat,wrap64 (wrap64 ((Lib.len8tab[x.toNat]'h).toNat:Int)) = (m:Int)∧Len x.toNat m:=by
 obtain ⟨t,a,b,c,d,e⟩:=tab_at x.toNat h J2
 rw [c]
 have:=len_close x.toNat 0 t b J2 (by simpa using d) (by simpa using e)
 rw [Nat.zero_add] at this
 exact ⟨t,by unfold wrap64;clear this d e;omega,⟨b,by omega,this⟩⟩
theorem p56 (x:Int) (h:0≤x):(x / 4294967296 / 65536 / 256).toNat = x.toNat / 2 ^ 56:=by show _ = x.toNat / 72057594037927936;omega
theorem p48 (x:Int) (h:0≤x):(x / 4294967296 / 65536).toNat = x.toNat / 2 ^ 48:=by show _ = x.toNat / 281474976710656;omega
theorem p40 (x:Int) (h:0≤x):(x / 4294967296 / 256).toNat = x.toNat / 2 ^ 40:=by show _ = x.toNat / 1099511627776;omega
theorem p32 (x:Int) (h:0≤x):(x / 4294967296).toNat = x.toNat / 2 ^ 32:=by show _ = x.toNat / 4294967296;omega
theorem p24 (x:Int) (h:0≤x):(x / 65536 / 256).toNat = x.toNat / 2 ^ 24:=by show _ = x.toNat / 16777216;omega
theorem p16 (x:Int) (h:0≤x):(x / 65536).toNat = x.toNat / 2 ^ 16:=by show _ = x.toNat / 65536;omega
theorem p8 (x:Int) (h:0≤x):(x / 256).toNat = x.toNat / 2 ^ 8:=by show _ = x.toNat / 256;omega
theorem len64_any (x:Int) (w:World) (h0:0≤x) (h1:x≤18446744073709551615) :
   Calls Tryz.prog 95 #[.int .u64 x] w fun e w'=>∃ n:Int,e = .returned (.int .i64 n)∧(0 < x→∃ m:Nat,n = m∧Len x.toNat m)∧w' = w:=by
 go_enter func95,ntmps95
 go_wp2
 all_goals first
   | (go_ret;refine ⟨_,rfl,fun hp=>?_,rfl⟩;go_light)
   | (exfalso;go_light;have hs:=Lib.len8tab_size;omega)
 all_goals first
   | exact len_int x _ 56 _ J9 (p56 x h0) J2
   | exact len_int x _ 48 _ J9 (p48 x h0) J2
   | exact len_int x _ 40 _ J9 (p40 x h0) J2
   | exact len_int x _ 32 _ J9 (p32 x h0) J2
   | exact len_int x _ 24 _ J9 (p24 x h0) J2
   | exact len_int x _ 16 _ J9 (p16 x h0) J2
   | exact len_int x _ 8 _ J9 (p8 x h0) J2
   | exact len_int0 x _ hp
theorem lead_any (x:Nat) (w:World) (h0:0 < x) (h1:x < 18446744073709551616) :
   Calls Tryz.prog 275 #[.int .u64 x] w fun e w'=>∃ s:Nat,e = .returned (.int .i64 s)∧s≤63∧9223372036854775808≤x * 2 ^ s∧x * 2 ^ s < 18446744073709551616∧w' = w:=by
 go_enter func275,ntmps275
 go_wp2_with fail
 refine (len64_any (x:Int) _ J2 J2).mono ?_
 rintro e w' ⟨n,rfl,hn,rfl⟩
 obtain ⟨m,rfl,g1,g2,g3,g4⟩:=hn J2
 clear hn
 rw [Int.toNat_natCast] at g3 g4
 generalize hs:64 - m = s at *
 have hms:(m:Int) = 64 - (s:Int):=J2
 have hb:s≤63:=J2
 clear hs
 rw [hms]
 clear hms g1 g2
 go_wp2
 go_ret
 exact ⟨s,ret_int J2,hb,g3,g4,rfl⟩
theorem div_done (K N y p U L1 L0:Nat) (hp:0 < p) (hy:0 < y) (hN:N * p = (U * K+L1) * K+L0) :
   (U * K+L1) / (y * p) * K+((U * K+L1) % (y * p) * K+L0) / (y * p) = N / y∧((U * K+L1) % (y * p) * K+L0) % (y * p) / p = N % y:=by
 have hY:0 < y * p:=Nat.mul_pos hy hp
 generalize hYe:y * p = Y at *
 have a:=Nat.div_add_mod (U * K+L1) Y
 generalize hQ1:(U * K+L1) / Y = Q1 at *
 generalize hV:(U * K+L1) % Y = V at *
 have b:=Nat.div_add_mod (V * K+L0) Y
 have c:=Nat.mod_lt (V * K+L0) hY
 generalize hQ0:(V * K+L0) / Y = Q0 at *
 generalize hT:(V * K+L0) % Y = T at *
 have d:N * p = T+Y * (Q1 * K+Q0):=by
   rw [hN,← a,Nat.add_mul,Nat.mul_add,Nat.mul_assoc]
   omega
 have e1:N * p / Y = Q1 * K+Q0:=by rw [d,Nat.add_mul_div_left _ _ hY,Nat.div_eq_of_lt c,Nat.zero_add]
 have e2:N * p % Y = T:=by rw [d,Nat.add_mul_mod_self_left,Nat.mod_eq_of_lt c]
 rw [← hYe,Nat.mul_div_mul_right _ _ hp] at e1
 rw [← hYe,Nat.mul_mod_mul_right] at e2
 exact ⟨e1.symm,by rw [← e2,Nat.mul_div_cancel _ hp]⟩
theorem shift_words (hi lo s:Nat) (hs:s≤63) :
   (hi * 18446744073709551616+lo) * 2 ^ s = (hi * 2 ^ s+lo / 2 ^ (64 - s)) * 18446744073709551616+lo * 2 ^ s % 18446744073709551616:=by
 have e:2 ^ (64 - s) * 2 ^ s = 18446744073709551616:=by rw [← Nat.pow_add,show 64 - s+s = 64 from by omega]
 have f:lo * 2 ^ s / 18446744073709551616 = lo / 2 ^ (64 - s):=by rw [← e,Nat.mul_div_mul_right _ _ (Nat.pow_pos J2)]
 have g:=Nat.div_add_mod (lo * 2 ^ s) 18446744073709551616
 rw [f] at g
 rw [Nat.add_mul,Nat.add_mul,Nat.mul_right_comm]
 omega
theorem lo_small (lo s:Nat) (hs:s≤63) (hlo:lo < 18446744073709551616):lo / 2 ^ (64 - s) < 2 ^ s:=by
 rw [Nat.div_lt_iff_lt_mul (Nat.pow_pos J2),← Nat.pow_add,show s+(64 - s) = 64 from by omega]
 exact hlo
theorem or_words (hi lo s:Nat) (hs:s≤63) (hlo:lo < 18446744073709551616) (hhi:hi * 2 ^ s < 18446744073709551616) :
   bits .or .u64 (IntKind.u64.wrap ((hi:Int) * 2 ^ s)) ((lo:Int) / 2 ^ (64 - s)) = ((hi * 2 ^ s+lo / 2 ^ (64 - s):Nat):Int):=by
 have b:=lo_small lo s hs hlo
 have c:hi * 2 ^ s+lo / 2 ^ (64 - s) = hi * 2 ^ s ||| lo / 2 ^ (64 - s):=by rw [Nat.mul_comm];exact Nat.two_pow_add_eq_or_of_lt b hi
 have e1:IntKind.u64.wrap ((hi:Int) * 2 ^ s) = ((hi * 2 ^ s:Nat):Int):=by
   have:((hi:Int) * 2 ^ s) = ((hi * 2 ^ s:Nat):Int):=J65
   rw [this];exact wrapN _ hhi
 have e2:(lo:Int) / 2 ^ (64 - s) = ((lo / 2 ^ (64 - s):Nat):Int):=J65
 have d:lo / 2 ^ (64 - s) < 18446744073709551616:=Nat.lt_of_le_of_lt (Nat.div_le_self _ _) hlo
 rw [e1,e2,c]
 exact bits_or_u64_nat _ _ hhi d
end Go.Proofs.YtcfgbiaahangmaaGreatDoor
