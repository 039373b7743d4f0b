import Derived.Test.YtcfgbiaahangmaaGreatDoorB1
import Derived.Test.YtcfgbiaahangmaaGreatDoorSfB
import Derived.Lib.LaidTab
import Derived.Lib.TrimByte
import Derived.Sort.Grow
import Derived.Laws.BytesArg
import Derived.Lib.BitFns
set_option maxHeartbeats 1000000
namespace Go.Proofs.YtcfgbiaahangmaaGreatDoor
open Go.Proofs.Tryz
open Go.RowKit
theorem index_dot (l : List UInt8) : (dotB l = true → Lib.indexByte l 46 = (cutA l).length ∧ l = cutA l ++ 46 :: cutB l) ∧ (dotB l = false → Lib.indexByte l 46 = -1 ∧ cutA l = l ∧ cutB l = []):=by
 induction l with
 | nil=>simp [dotB,cutA,cutB,Lib.indexByte]
 | cons c l ih =>
   by_cases hc : c = 46
   · subst hc;simp [dotB,cutA,cutB,Lib.indexByte]
   · have hn : (c == 46) = false:=J62
     have hm : (c != 46) = true:=J62
     have e1 : dotB (c :: l) = dotB l:=by simp [dotB,hn]
     have e2 : cutA (c :: l) = c :: cutA l:=by simp [cutA,hm]
     have e3 : cutB (c :: l) = cutB l:=by simp [cutB,hm]
     rw [e1,e2,e3]
     refine ⟨fun h=>?_,fun h=>?_⟩
     · obtain ⟨i1,i2⟩:=ih.1 h
       refine ⟨?_,by rw [List.cons_append,← i2]⟩
       rw [Lib.indexByte,hn,i1];simp
     · obtain ⟨i1,i2,i3⟩:=ih.2 h
       refine ⟨?_,by rw [i2],i3⟩
       rw [Lib.indexByte,hn,i1];simp
theorem mkL (s : ByteArray) (l : List UInt8) (h : s.data.toList = l) : s = ⟨l.toArray⟩:=by rw [← h,Lib.mk_data]
theorem ret_ssb {a b c d : ByteArray} {x y : Bool} (h : a = c) (h' : b = d) (g : x = y) : Ending.returned (.tuple #[.string a,.string b,.bool x]) = .returned (.tuple #[.string c,.string d,.bool y]):=by rw [h,h',g]
theorem ret_s {a b : ByteArray} (h : a = b) : Ending.returned (.string a) = .returned (.string b):=by rw [h]
theorem cut_ahead (s : ByteArray) (A B : List UInt8) (c : UInt8) (k : Nat) (h : s.data.toList = A ++ c :: B) (hk : A.length = k) : s.extract 0 k = ⟨A.toArray⟩:=by
 apply mkL;rw [Lib.extract_data,h,← hk];simp
theorem cut_behind (s : ByteArray) (A B : List UInt8) (c : UInt8) (k : Nat) (h : s.data.toList = A ++ c :: B) (hk : A.length = k) : s.extract (k + 1) s.size = ⟨B.toArray⟩:=by
 apply mkL;rw [Lib.extract_data,← size_list,h,← hk]
 have e : A ++ c :: B = (A ++ [c]) ++ B:=J58
 rw [e,List.drop_append_of_le_length J58,List.drop_of_length_le J58,List.nil_append,List.take_of_length_le J7]
theorem lcut_any (s : ByteArray) (w : World) (hs : s.size ≤ maxLen) :
   Calls Tryz.prog 254 #[.string s,.string ⟨#[46]⟩] w fun e w'=>e = .returned (.tuple #[.string ⟨(cutA s.data.toList).toArray⟩,.string ⟨(cutB s.data.toList).toArray⟩,.bool (dotB s.data.toList)]) ∧ ∃ n,w' = w.drewN n:=by
 unfold maxLen at hs
 have hl:=size_list s
 obtain ⟨hi,hj⟩:=index_dot s.data.toList
 cases hd : dotB s.data.toList
 · obtain ⟨i1,i2,i3⟩:=hj hd
   have H2 : Hid (cutA s.data.toList = s.data.toList):=i2
   have H3 : Hid (cutB s.data.toList = []):=i3
   clear hi hj i2 i3 hd
   go_enter func254,ntmps254
   go_wp2_with (go_at_call 274;refine (Tryz.stringslite_Index_one s 46 _).mono ?_;rintro e w' ⟨rfl,rfl⟩;rw [i1])
   go_ret3
   exact ⟨ret_ssb (by rw [H2.out,Lib.mk_data]) (by rw [H3.out]) rfl,0,rfl⟩
 · obtain ⟨i1,i2⟩:=hi hd
   have H2 : Hid (s.data.toList = cutA s.data.toList ++ 46 :: cutB s.data.toList):=i2
   have hk : (cutA s.data.toList).length < s.size:=by rw [← hl];have:=congrArg List.length i2;simp at this;omega
   generalize hkk : (cutA s.data.toList).length = k at *
   clear hi hj i2 hd
   go_enter func254,ntmps254
   go_wp2_with (go_at_call 274;refine (Tryz.stringslite_Index_one s 46 _).mono ?_;rintro e w' ⟨rfl,rfl⟩;rw [i1])
   have c1 : (0 : Int) ≤ ↑k:=J2
   have c2 : (↑k : Int) ≤ ↑s.size:=J2
   have c3 : (0 : Int) ≤ ↑k + 1:=J2
   have c4 : (↑k + 1 : Int) ≤ ↑s.size:=J2
   go_region
   go_wp2
   go_ret3
   exact ⟨ret_ssb (cut_ahead s _ _ _ _ H2.out hkk) (cut_behind s _ _ _ _ H2.out hkk) rfl,1,rfl⟩
theorem cut_any (s : ByteArray) (w : World) (hs : s.size ≤ maxLen) :
   Calls Tryz.prog 215 #[.string s,.string ⟨#[46]⟩] w fun e w'=>e = .returned (.tuple #[.string ⟨(cutA s.data.toList).toArray⟩,.string ⟨(cutB s.data.toList).toArray⟩,.bool (dotB s.data.toList)]) ∧ ∃ n,w' = w.drewN n:=by
 have c:=fun W=>lcut_any s W hs
 go_enter func215,ntmps215
 go_wp2_with fail
 refine (c _).mono ?_
 rintro e w' ⟨rfl,n,rfl⟩
 go_wp2
 go_ret3
 exact ⟨rfl,n,rfl⟩
theorem four_len (b : List UInt8) : (four b).length = 4:=by simp [four,zs]
theorem four_all (b : List UInt8) (h : b.all dgB = true) : (four b).all dgB = true:=by
 rw [List.all_eq_true]
 intro x hx
 have:=List.mem_of_mem_take hx
 rw [List.mem_append] at this
 rcases this with h1 | h1
 · exact List.all_eq_true.1 h x h1
 · exact List.all_eq_true.1 (all_zs 5) x h1
theorem app_list (a b : ByteArray) : (a ++ b).data.toList = a.data.toList ++ b.data.toList:=by rw [ByteArray.data_append,Array.toList_append]
theorem add_one (V : Nat) (hV : V ≤ 9223372036854775807) : addV V 1 = whV (V + 1) ∧ addB V 1 = whB (V + 1):=by
 have hb : addB V 1 = whB (V + 1):=by
   unfold addB canB fitB whB
   rw [Bool.eq_iff_iff]
   simp
   omega
 refine ⟨?_,hb⟩
 unfold addV whV
 rw [hb]
 unfold whB
 by_cases h : V + 1 ≤ 9223372036854775807
 · simp [h]
 · simp [h]
theorem parts_any (a b : ByteArray) (w : World) (ha : a.size ≤ 40) (hb : b.size ≤ 40) (da : a.data.toList.all dgB = true) (db : b.data.toList.all dgB = true) :
   Calls Tryz.prog 217 #[.string a,.string b] w fun e w'=>e = .returned (.tuple #[.int .i64 (whV (nv a.data.toList b.data.toList)),.bool (whB (nv a.data.toList b.data.toList))]) ∧ Ext w w':=by
 have e0 : (b ++ (⟨#[48,48,48,48,48]⟩ : ByteArray)).data.toList = b.data.toList ++ zs 5:=app_list _ _
 have e1 : (a ++ (b ++ (⟨#[48,48,48,48,48]⟩ : ByteArray)).extract 0 4).data.toList = a.data.toList ++ four b.data.toList:=by
   rw [app_list,Lib.extract_data,e0];rfl
 have hz : (b ++ (⟨#[48,48,48,48,48]⟩ : ByteArray)).size = b.size + 5:=by rw [ByteArray.size_append];rfl
 have hz4 : 4 < (b ++ (⟨#[48,48,48,48,48]⟩ : ByteArray)).size:=J2
 have e2 : (b ++ (⟨#[48,48,48,48,48]⟩ : ByteArray))[4] = fifth b.data.toList:=by
   unfold fifth;rw [← e0]
   have:=get_list _ 4 hz4
   rw [← this,List.getD_eq_getElem?_getD,gEq (by rw [size_list];exact hz4)];rfl
 have c:=fun W=>whole_any (a ++ (b ++ (⟨#[48,48,48,48,48]⟩ : ByteArray)).extract 0 4) W (by rw [← size_list,e1,List.length_append,four_len,size_list];omega) (by rw [e1,List.all_append,da,four_all _ db];rfl)
 rw [e1] at c
 have HN : Hid (nv a.data.toList b.data.toList = val (a.data.toList ++ four b.data.toList) + (if 53 ≤ (fifth b.data.toList).toNat then 1 else 0)):=rfl
 rw [← e2] at HN
 clear e0 e1 e2 da db
 generalize val (a.data.toList ++ four b.data.toList) = V at *
 generalize nv a.data.toList b.data.toList = N at *
 by_cases hV : V ≤ 9223372036854775807
 · rw [(wh_yes hV).1,(wh_yes hV).2] at c
   have cA:=fun W=>add_any V 1 ⟨by omega,by omega⟩ ⟨by omega,by omega⟩ W
   by_cases h5 : (53 : Int) ≤ (b ++ (⟨#[48,48,48,48,48]⟩ : ByteArray))[4].toNat
   · go_enter func217,ntmps217
     go_wp2_with fail
     refine (c _).mono ?_
     rintro e w' ⟨rfl,rfl⟩
     go_wp2_with fail
     refine (cA _).mono ?_
     rintro e w1 ⟨rfl,E1⟩
     go_wp2_with fail
     go_ret2
     refine ⟨ret_ib ?_ ?_,E1⟩
     all_goals
       have hN : N = V + 1:=by have:=HN.out;rw [if_pos J2] at this;exact this
       rw [hN]
     · exact (add_one V hV).1
     · exact (add_one V hV).2
   · go_enter func217,ntmps217
     go_wp2_with fail
     refine (c _).mono ?_
     rintro e w' ⟨rfl,rfl⟩
     go_wp2_with fail
     go_ret2
     refine ⟨ret_ib ?_ ?_,Ext.refl _⟩
     all_goals
       have hN : N = V:=by have:=HN.out;rw [if_neg J2] at this;exact this
       rw [hN]
     · exact (wh_yes hV).1.symm
     · exact (wh_yes hV).2.symm
 · rw [(wh_no J2).1,(wh_no J2).2] at c
   go_enter func217,ntmps217
   go_wp2_with fail
   refine (c _).mono ?_
   rintro e w' ⟨rfl,rfl⟩
   go_wp2_with fail
   go_ret2
   refine ⟨ret_ib ?_ ?_,Ext.refl _⟩
   all_goals have hN : 9223372036854775807 < N:=by have:=HN.out;omega
   · exact (wh_no hN).1.symm
   · exact (wh_no hN).2.symm
theorem pre_minus (l : List UInt8) : Lib.hasPrefix l [45] = minusB l ∧ Lib.trimPrefix l [45] = sizeL l:=by
 cases l with
 | nil=>exact ⟨rfl,rfl⟩
 | cons c l =>
   have e : Lib.hasPrefix (c :: l) [45] = minusB (c :: l):=by
     simp [Lib.hasPrefix,minusB,List.isPrefixOf]
     by_cases h : c = 45
     · subst h;rfl
     · have h1 : (45 == c) = false:=by simpa using fun e=>h e.symm
       have h2 : (c == 45) = false:=by simpa using h
       rw [h1,h2]
   refine ⟨e,?_⟩
   unfold Lib.trimPrefix sizeL
   rw [e]
   rfl
theorem okD_bd {l : List UInt8} (h : okD l = true) : l.length ≤ 40 ∧ l.all dgB = true:=by
 unfold okD at h;rw [Bool.and_eq_true] at h;exact ⟨by have:=h.1;simp at this;omega,h.2⟩
theorem no_num {l : List UInt8} (h : numB l = false) : rdV l = 0 ∧ rdK l = 0:=by unfold rdV rdK;rw [h];exact ⟨rfl,rfl⟩
theorem num_great {l : List UInt8} (h : numB l = true) (g : 9223372036854775807 < numN l) : rdV l = 0 ∧ rdK l = 2:=by
 unfold rdV rdK;rw [h];have : decide (numN l ≤ 9223372036854775807) = false:=by simp;omega
 rw [this];exact ⟨rfl,by rw [if_pos rfl,if_neg J2]⟩
theorem num_is {l : List UInt8} (h : numB l = true) (g : numN l ≤ 9223372036854775807) : rdV l = (if minusB l then -(numN l : Int) else numN l) ∧ rdK l = 1:=by
 unfold rdV rdK;rw [h];have : decide (numN l ≤ 9223372036854775807) = true:=by simp;omega
 rw [this];exact ⟨rfl,by rw [if_pos rfl,if_pos g]⟩
theorem cut_short (l : List UInt8) : (cutA l).length ≤ l.length ∧ (cutB l).length ≤ l.length ∧ (dotB l = false → cutB l = []):=by
 obtain ⟨h1,h2⟩:=index_dot l
 cases hd : dotB l
 · obtain ⟨_,a,b⟩:=h2 hd
   rw [a,b];simp
 · obtain ⟨_,a⟩:=h1 hd
   have:=congrArg List.length a
   simp at this
   exact ⟨by omega,by omega,fun h=>by cases h⟩
theorem parse_any (s : ByteArray) (w : World) (hs : s.size ≤ maxLen) :
   Calls Tryz.prog 169 #[.string s] w fun e w'=>e = .returned (.tuple #[.int .i64 (rdV s.data.toList),.int .i64 (rdK s.data.toList)]) ∧ Ext w w':=by
 unfold maxLen at hs
 have hl:=size_list s
 obtain ⟨p1,p2⟩:=pre_minus s.data.toList
 have c1:=fun W=>Tryz.strings_CutPrefix s ⟨#[45]⟩ W
 simp only [p1,p2] at c1
 clear p1 p2
 have hr : (sizeL s.data.toList).length ≤ s.size:=by
   rw [← hl];unfold sizeL;split
   · simp
   · exact Nat.le_refl _
 have hA : Hid (numB s.data.toList = (okD (cutA (sizeL s.data.toList)) && (!dotB (sizeL s.data.toList) || okD (cutB (sizeL s.data.toList))))):=rfl
 have hN : Hid (numN s.data.toList = nv (cutA (sizeL s.data.toList)) (cutB (sizeL s.data.toList))):=rfl
 obtain ⟨k1,k2,k3⟩:=cut_short (sizeL s.data.toList)
 have c2:=fun W=>cut_any ⟨(sizeL s.data.toList).toArray⟩ W (by unfold maxLen;rw [← size_list];show (sizeL s.data.toList).length ≤ _;omega)
 simp only at c2
 have c3:=fun W=>digits_any ⟨(cutA (sizeL s.data.toList)).toArray⟩ W (by unfold maxLen;rw [← size_list];show (cutA (sizeL s.data.toList)).length ≤ _;omega)
 have c4:=fun W=>digits_any ⟨(cutB (sizeL s.data.toList)).toArray⟩ W (by unfold maxLen;rw [← size_list];show (cutB (sizeL s.data.toList)).length ≤ _;omega)
 simp only at c3 c4
 have c5 : okD (cutA (sizeL s.data.toList)) = true → (dotB (sizeL s.data.toList) = false ∨ okD (cutB (sizeL s.data.toList)) = true) → ∀ W,Calls Tryz.prog 217 #[.string ⟨(cutA (sizeL s.data.toList)).toArray⟩,.string ⟨(cutB (sizeL s.data.toList)).toArray⟩] W fun e w'=>e = .returned (.tuple #[.int .i64 (whV (numN s.data.toList)),.bool (whB (numN s.data.toList))]) ∧ Ext W w':=by
   intro h1 h2 W
   have hb : (cutB (sizeL s.data.toList)).length ≤ 40 ∧ (cutB (sizeL s.data.toList)).all dgB = true:=by
     rcases h2 with h2 | h2
     · rw [k3 h2];exact ⟨by simp,rfl⟩
     · exact okD_bd h2
   rw [hN.out]
   exact parts_any _ _ W (by rw [← size_list];exact (okD_bd h1).1) (by rw [← size_list];exact hb.1) (okD_bd h1).2 hb.2
 generalize cutA (sizeL s.data.toList) = A at *
 generalize cutB (sizeL s.data.toList) = B at *
 generalize dotB (sizeL s.data.toList) = D at *
 generalize sizeL s.data.toList = R at *
 generalize hoa : okD A = oa at *
 generalize hob : okD B = ob at *
 clear hoa hob k1 k2 k3 hr
 have HG:=fun h g=>@num_great s.data.toList h g
 have HI:=fun h g=>@num_is s.data.toList h g
 have HZ:=fun h=>@no_num s.data.toList h
 generalize hnn : numN s.data.toList = N at *
 generalize hmm : minusB s.data.toList = M at *
 have HGh : Hid (numB s.data.toList = true → 9223372036854775807 < N → rdV s.data.toList = 0 ∧ rdK s.data.toList = 2):=HG
 have HIh : Hid (numB s.data.toList = true → N ≤ 9223372036854775807 → rdV s.data.toList = (if M then -(N : Int) else N) ∧ rdK s.data.toList = 1):=HI
 have HZh : Hid (numB s.data.toList = false → rdV s.data.toList = 0 ∧ rdK s.data.toList = 0):=HZ
 clear HG HI HZ hnn hmm hN hl
 have hdec : (oa = false ∨ (oa = true ∧ D = true ∧ ob = false)) ∨ (oa = true ∧ (D = false ∨ ob = true)):=by
   cases oa <;> cases D <;> cases ob <;> simp
 rcases hdec with hdec | ⟨hoa,hdob⟩
 · have hz : numB s.data.toList = false:=by
     rw [hA.out];rcases hdec with h | ⟨h1,h2,h3⟩
     · rw [h];rfl
     · rw [h1,h2,h3];rfl
   obtain ⟨z1,z2⟩:=HZh.out hz
   rw [z1,z2]
   clear c5 HGh HIh HZh hA hz
   rcases hdec with h | ⟨h1,h2,h3⟩
   · subst h
     go_enter func169,ntmps169
     go_wp2_with fail
     refine (c1 _).mono ?_
     rintro e w' ⟨rfl,rfl⟩
     go_wp2_with fail
     refine (c2 _).mono ?_
     rintro e w2 ⟨rfl,n2,rfl⟩
     go_wp2_with fail
     refine (c3 _).mono ?_
     rintro e w3 ⟨rfl,rfl⟩
     go_wp2_with fail
     go_ret2
     exact ⟨ret_ii rfl rfl,xr.drewN _⟩
   · subst h1;subst h2;subst h3
     go_enter func169,ntmps169
     go_wp2_with fail
     refine (c1 _).mono ?_
     rintro e w' ⟨rfl,rfl⟩
     go_wp2_with fail
     refine (c2 _).mono ?_
     rintro e w2 ⟨rfl,n2,rfl⟩
     go_wp2_with fail
     refine (c3 _).mono ?_
     rintro e w3 ⟨rfl,rfl⟩
     go_wp2_with fail
     refine (c4 _).mono ?_
     rintro e w4 ⟨rfl,rfl⟩
     go_wp2_with fail
     go_ret2
     exact ⟨ret_ii rfl rfl,xr.drewN _⟩
 · have hz : numB s.data.toList = true:=by
     rw [hA.out,hoa];rcases hdob with h | h
     · rw [h];rfl
     · rw [h];simp
   have c6:=c5 hoa hdob
   have HG2:=HGh.out hz
   have HI2:=HIh.out hz
   subst hoa
   clear c5 HGh HIh HZh hA hz
   by_cases hN : N ≤ 9223372036854775807
   · obtain ⟨z1,z2⟩:=HI2 hN
     rw [z1,z2]
     rw [(wh_yes hN).1,(wh_yes hN).2] at c6
     have hN1 : (N : Int) ≤ 9223372036854775807:=J2
     clear HG2 HI2 z1 z2 hN
     cases D
     · cases M
       all_goals
         exact K172
     · obtain rfl : ob = true:=by rcases hdob with h | h;cases h;exact h
       cases M
       all_goals
         exact K52
   · obtain ⟨z1,z2⟩:=HG2 J2
     rw [z1,z2]
     rw [(wh_no J2).1,(wh_no J2).2] at c6
     clear HG2 HI2 z1 z2 hN
     cases D
     · exact K172
     · obtain rfl : ob = true:=by rcases hdob with h | h;cases h;exact h
       exact K52
def Tab (w : World) : Prop:=Lib.TabIs Tryz.prog w "internal/strconv.uint64pow10" .u64 Lib.pow10Tab
theorem var_ext {P : Program} {w w' : World} {n : String} {cs : Array Value} (h : w.var? P n = some cs) (e : Ext w w') : w'.var? P n = some cs:=by
 unfold World.var? at h ⊢
 cases hg : P.globalNamed n with
 | none=>rw [hg] at h;cases h
 | some g =>
   rw [hg] at h
   simp only [Option.bind_some] at h ⊢
   by_cases hb : g < w.heap.size
   · rw [e.block g hb];exact h
   · rw [show w.heap[g]? = none from by simp;omega] at h;cases h
theorem Tab.ext {w w' : World} (h : Tab w) (e : Ext w w') : Tab w':=var_ext h e
theorem ext_grow (w : World) (k : Nat) (os : Array Obj) : Ext w (Sort.grow (w.drewN k) os) :=
 ((Ext.refl w).drewN k).trans ⟨rfl,rfl,rfl,by simp [Sort.grow],fun i hi=>by show (w.heap ++ os)[i]? = w.heap[i]?;exact Array.getElem?_append_left hi⟩
def fracL (r : Nat) : List UInt8:=Lib.trimRightB ((Lib.decDigits (10000 + r)).drop 1) 48
def bodyL (n : Nat) : List UInt8:=Lib.decDigits (n / 10000) ++ (if fracL (n % 10000) = [] then [] else 46 :: fracL (n % 10000))
def printL (a : Int) : List UInt8:=if canB a then (if a < 0 then 45 :: bodyL a.natAbs else bodyL a.natAbs) else [110,111,110,101]
theorem dec_size (u k : Nat) (h : u < 10 ^ (k + 1)) : 1 ≤ (⟨(Lib.decDigits u).toArray⟩ : ByteArray).size ∧ (⟨(Lib.decDigits u).toArray⟩ : ByteArray).size ≤ k + 1:=by
 rw [← size_list];exact dec_len u k h
theorem trim_len (l : List UInt8) (c : UInt8) : (Lib.trimRightB l c).length ≤ l.length:=by
 unfold Lib.trimRightB
 rw [List.length_reverse]
 have:=List.dropWhile_sublist (fun x=>x == c) (l:=l.reverse)
 simpa using this.length_le
theorem ext_one (l : List UInt8) : ((⟨l.toArray⟩ : ByteArray).extract 1 (⟨l.toArray⟩ : ByteArray).size).data.toList = l.drop 1:=by
 rw [Lib.extract_data,← size_list]
 exact List.take_of_length_le J58
theorem print_any (a : Int) (ha : I64 a) (w : World) (hT : Tab w) :
   Calls Tryz.prog 226 #[.int .i64 a] w fun e w'=>e = .returned (.string ⟨(printL a).toArray⟩) ∧ Ext w w':=by
 obtain ⟨h1,h2⟩:=ha
 by_cases hc : canB a = false
 · have H : Hid (printL a = [110,111,110,101]):=by show printL a = _;unfold printL;rw [hc];rfl
   have c:=fun W=>can_any a W
   rw [hc] at c
   go_enter func226,ntmps226
   go_wp2_with fail
   refine (c _).mono ?_
   rintro e w' ⟨rfl,rfl⟩
   go_wp2_with fail
   go_ret
   exact ⟨ret_s (by rw [H.out]),Ext.refl _⟩
 · have hc : canB a = true:=J62
   have hc' : a ≠ -9223372036854775808:=by simpa [canB] using hc
   have c:=fun W=>can_any a W
   rw [hc] at c
   obtain ⟨m,hm⟩ : ∃ m : Nat,m = a.natAbs:=⟨_,rfl⟩
   have i1 : Lib.itoa ((m : Int) / 10000) = Lib.decDigits (m / 10000):=by unfold Lib.itoa;rw [if_neg J2];congr 1
   have i2 : Lib.itoa (10000 + (m : Int) % 10000) = Lib.decDigits (10000 + m % 10000):=by unfold Lib.itoa;rw [if_neg J2];congr 1
   have c1:=fun W hW=>Tryz.strconv_FormatInt_10 ((m : Int) / 10000) J2 J2 W hW
   have c2:=fun W hW=>Tryz.strconv_FormatInt_10 (10000 + (m : Int) % 10000) J2 J2 W hW
   rw [i1] at c1
   rw [i2] at c2
   obtain ⟨q1,q2⟩:=dec_size (m / 10000) 14 J2
   obtain ⟨r1,r2⟩:=dec_size (10000 + m % 10000) 4 J2
   have f2 : (fracL (m % 10000)).length ≤ 5:=Nat.le_trans (trim_len _ _) (by rw [List.length_drop];rw [← size_list] at r2;simp at r2 ⊢;omega)
   have c3:=fun W=>Tryz.strings_TrimRight_one ((⟨(Lib.decDigits (10000 + m % 10000)).toArray⟩ : ByteArray).extract 1 (⟨(Lib.decDigits (10000 + m % 10000)).toArray⟩ : ByteArray).size) 48 J9 W (by rw [ByteArray.size_extract];omega)
   rw [ext_one] at c3
   have f3 : (⟨(fracL (m % 10000)).toArray⟩ : ByteArray).size ≤ 5:=by rw [← size_list];exact f2
   have c4 : ∀ W,Calls Tryz.prog 262 #[.string ((⟨(Lib.decDigits (10000 + m % 10000)).toArray⟩ : ByteArray).extract 1 (⟨(Lib.decDigits (10000 + m % 10000)).toArray⟩ : ByteArray).size),.string ⟨#[48]⟩] W fun e w'=>e = .returned (.string ⟨(fracL (m % 10000)).toArray⟩) ∧ w' = W:=c3
   have HE1 : Hid (fracL (m % 10000) = [] → bodyL m = Lib.decDigits (m / 10000)):=by show _ → _;intro h;unfold bodyL;rw [if_pos h,List.append_nil]
   have HE2 : Hid (fracL (m % 10000) ≠ [] → bodyL m = Lib.decDigits (m / 10000) ++ 46 :: fracL (m % 10000)):=by show _ → _;intro h;unfold bodyL;rw [if_neg h]
   have HE3 : Hid ((⟨(fracL (m % 10000)).toArray⟩ : ByteArray).toList.isEmpty = decide (fracL (m % 10000) = [])):=by show _ = _;rw [ByteArray.toList_eq];show (fracL (m % 10000)).isEmpty = _;cases fracL (m % 10000) <;> simp
   clear c3 f2 i1 i2
   obtain ⟨q,hq⟩ : ∃ q : ByteArray,q = ⟨(Lib.decDigits (m / 10000)).toArray⟩:=⟨_,rfl⟩
   obtain ⟨r,hr⟩ : ∃ r : ByteArray,r = ⟨(Lib.decDigits (10000 + m % 10000)).toArray⟩:=⟨_,rfl⟩
   obtain ⟨f,hf⟩ : ∃ f : ByteArray,f = ⟨(fracL (m % 10000)).toArray⟩:=⟨_,rfl⟩
   rw [← hq] at q1 q2 c1
   rw [← hr] at r1 r2 c2 c4
   rw [← hf] at f3 c4 HE3
   have HQ : Hid (q.data.toList = Lib.decDigits (m / 10000)):=by show _ = _;rw [hq]
   have HF : Hid (f.data.toList = fracL (m % 10000)):=by show _ = _;rw [hf]
   clear hq hr hf
   by_cases hn : a < 0
   · have H : Hid (printL a = 45 :: bodyL m):=by show printL a = _;unfold printL;rw [hc,if_pos rfl,if_pos hn,hm]
     have hm1 : (m : Int) ≤ 9223372036854775807:=J2
     have hm0 : (0 : Int) ≤ m:=J2
     obtain rfl : a = -(m : Int):=by omega
     exact K26
   · have H : Hid (printL a = bodyL m):=by show printL a = _;unfold printL;rw [hc,if_pos rfl,if_neg hn,hm]
     obtain rfl : a = (m : Int):=by omega
     exact K26
def bs (l : List UInt8) : ByteArray:=⟨l.toArray⟩
theorem bs_list (l : List UInt8) : (bs l).data.toList = l:=rfl
theorem bs_size (l : List UInt8) : (bs l).size = l.length:=by simp [bs,ByteArray.size]
theorem trim_no (l : List UInt8) : Lib.trimRightB (l ++ [48]) 48 = Lib.trimRightB l 48:=by
 unfold Lib.trimRightB;simp
theorem trim_yes (l : List UInt8) (c : UInt8) (h : c ≠ 48) : Lib.trimRightB (l ++ [c]) 48 = l ++ [c]:=by
 unfold Lib.trimRightB;simp [h]
theorem snoc_of (l : List UInt8) (h : l ≠ []) : ∃ r c,l = r ++ [c]:=⟨l.dropLast,l.getLast h,(List.dropLast_concat_getLast h).symm⟩
theorem trim_back (l : List UInt8) : ∃ k,l = Lib.trimRightB l 48 ++ zs k:=by
 induction hn : l.length generalizing l with
 | zero=>exact ⟨0,by rw [List.length_eq_zero_iff.1 hn];rfl⟩
 | succ n ih =>
   obtain ⟨r,c,rfl⟩:=snoc_of l (fun h=>by rw [h] at hn;cases hn)
   by_cases hc : c = 48
   · subst hc
     obtain ⟨k,hk⟩:=ih r (by simpa using hn)
     refine ⟨k + 1,?_⟩
     rw [trim_no]
     conv=>lhs;rw [hk]
     simp [zs,List.replicate_succ']
   · exact ⟨0,by rw [trim_yes _ _ hc];simp [zs]⟩
def F4 (r : Nat) : List UInt8:=[UInt8.ofNat (48 + r / 1000),UInt8.ofNat (48 + r / 100 % 10),UInt8.ofNat (48 + r / 10 % 10),UInt8.ofNat (48 + r % 10)]
theorem dec_step {u : Nat} (h : ¬ u < 10) : Lib.decDigits u = Lib.decDigits (u / 10) ++ [UInt8.ofNat (48 + u % 10)]:=by rw [Lib.decDigits,dif_neg h]
theorem dec_one {u : Nat} (h : u < 10) : Lib.decDigits u = [UInt8.ofNat (48 + u)]:=by rw [Lib.decDigits,dif_pos h]
theorem dec_frac (r : Nat) (h : r < 10000) : Lib.decDigits (10000 + r) = 49 :: F4 r:=by
 rw [dec_step J2,dec_step (u:=(10000 + r) / 10) J2,dec_step (u:=(10000 + r) / 10 / 10) J2,dec_step (u:=(10000 + r) / 10 / 10 / 10) J2,dec_one (u:=(10000 + r) / 10 / 10 / 10 / 10) J2]
 unfold F4
 rw [show (10000 + r) / 10 / 10 / 10 / 10 = 1 by omega,show (10000 + r) / 10 / 10 / 10 % 10 = r / 1000 by omega,show (10000 + r) / 10 / 10 % 10 = r / 100 % 10 by omega,show (10000 + r) / 10 % 10 = r / 10 % 10 by omega,show (10000 + r) % 10 = r % 10 by omega]
 rfl
theorem frac_eq (r : Nat) (h : r < 10000) : fracL r = Lib.trimRightB (F4 r) 48:=by unfold fracL;rw [dec_frac r h];rfl
theorem F4_val (r : Nat) (h : r < 10000) : val (F4 r) = r:=by
 unfold F4 val
 simp only [List.foldl_cons,List.foldl_nil]
 rw [(dg_ofNat (d:=r / 1000) J2).2,(dg_ofNat (d:=r / 100 % 10) J2).2,(dg_ofNat (d:=r / 10 % 10) J2).2,(dg_ofNat (d:=r % 10) J2).2]
 omega
theorem frac_back (r : Nat) (h : r < 10000) : ∃ k,F4 r = fracL r ++ zs k ∧ (fracL r).length + k = 4:=by
 obtain ⟨k,hk⟩:=trim_back (F4 r)
 rw [← frac_eq r h] at hk
 refine ⟨k,hk,?_⟩
 have:=congrArg List.length hk
 simp [F4,zs] at this
 omega
theorem frac_zero : fracL 0 = []:=by rw [frac_eq 0 J9];decide
structure Guess (K n1 n0 y1 y0 q r : Nat) : Prop where
 eq : q * y1 + r = n1
 up : r * K + n0 < q * y0 + y1 * K + y0
theorem guess_start {K n1 n0 y1 y0 : Nat} (hy : 0 < y1) (h0 : n0 < K) : Guess K n1 n0 y1 y0 (n1 / y1) (n1 - n1 / y1 * y1):=by
 have h1 : n1 / y1 * y1 ≤ n1:=Nat.div_mul_le_self n1 y1
 have h2 : n1 % y1 < y1:=Nat.mod_lt _ hy
 have h3 : n1 - n1 / y1 * y1 = n1 % y1:=by have:=Nat.div_add_mod n1 y1;rw [Nat.mul_comm] at this;omega
 refine ⟨by omega,?_⟩
 rw [h3]
 have h4 : (n1 % y1 + 1) * K ≤ y1 * K:=Nat.mul_le_mul h2 nrf
 rw [Nat.add_mul,Nat.one_mul] at h4
 omega
theorem guess_lt {K n1 n0 y1 y0 q r : Nat} (g : Guess K n1 n0 y1 y0 q r) (hn : n1 < y1 * K + y0) (h0 : n0 < K) (h : K ≤ q) : r * K + n0 < q * y0:=by
 obtain ⟨e,u⟩:=g
 have hA : K * y1 ≤ q * y1:=Nat.mul_le_mul h nrf
 have hB : K * y0 ≤ q * y0:=Nat.mul_le_mul h nrf
 have hr : r + 1 ≤ y0:=by rw [Nat.mul_comm K y1] at hA;omega
 have hC : (r + 1) * K ≤ y0 * K:=Nat.mul_le_mul hr nrf
 rw [Nat.add_mul,Nat.one_mul,Nat.mul_comm y0 K] at hC
 omega
theorem guess_step {K n1 n0 y1 y0 q r : Nat} (g : Guess K n1 n0 y1 y0 q r) (hn : n1 < y1 * K + y0) (h0 : n0 < K)
   (h : K ≤ q ∨ r * K + n0 < q * y0) : 0 < q ∧ Guess K n1 n0 y1 y0 (q - 1) (r + y1):=by
 have hlt : r * K + n0 < q * y0:=by
   rcases h with h | h
   · exact guess_lt g hn h0 h
   · exact h
 obtain ⟨e,u⟩:=g
 have hq : 0 < q:=by
   rcases Nat.eq_zero_or_pos q with rfl | h
   · simp at hlt
   · exact h
 obtain ⟨k,rfl⟩ : ∃ k,q = k + 1:=⟨q - 1,by omega⟩
 refine ⟨hq,?_,?_⟩
 · simp only [Nat.add_sub_cancel];rw [Nat.add_mul] at e;omega
 · simp only [Nat.add_sub_cancel]
   rw [Nat.add_mul,Nat.one_mul] at hlt
   rw [Nat.add_mul]
   omega
theorem guess_end {K n1 n0 y1 y0 q r : Nat} (g : Guess K n1 n0 y1 y0 q r) (h : q * y0 ≤ r * K + n0) :
   q = (n1 * K + n0) / (y1 * K + y0):=by
 obtain ⟨e,u⟩:=g
 have h1 : q * (y1 * K + y0) = q * y1 * K + q * y0:=by rw [Nat.mul_add,Nat.mul_assoc]
 have h2 : (q + 1) * (y1 * K + y0) = q * (y1 * K + y0) + (y1 * K + y0):=by rw [Nat.add_mul,Nat.one_mul]
 have h3 : n1 * K = q * y1 * K + r * K:=by rw [← e,Nat.add_mul]
 symm
 apply Nat.div_eq_of_lt_le
 · rw [h1];omega
 · rw [h2,h1];omega
theorem guess_break {K n1 n0 y1 y0 q r : Nat} (g : Guess K n1 n0 y1 y0 q r) (hn : n1 < y1 * K + y0) (hy0 : y0 < K) (hr : K ≤ r) :
   q = (n1 * K + n0) / (y1 * K + y0):=by
 refine guess_end g ?_
 obtain ⟨e,u⟩:=g
 have hq : q < K:=by
   rcases Nat.lt_or_ge q K with h | h
   · exact h
   · have hA : K * y1 ≤ q * y1:=Nat.mul_le_mul h nrf
     rw [Nat.mul_comm K y1] at hA
     omega
 have : q * y0 ≤ r * K:=Nat.mul_le_mul J2 J2
 omega
theorem guess_small {n1 n0 y1 y0 q r : Nat} (g : Guess 4294967296 n1 n0 y1 y0 q r) (hy : 2147483648 ≤ y1) (hy1 : y1 < 4294967296) (hy0 : y0 < 4294967296) (hn : n1 < y1 * 4294967296 + y0) : q ≤ 4294967298:=by
 obtain ⟨e,u⟩:=g
 rcases Nat.lt_or_ge 4294967298 q with h | h
 · exfalso
   have hA : 4294967299 * y1 ≤ q * y1:=Nat.mul_le_mul h nrf
   omega
 · exact h
end Go.Proofs.YtcfgbiaahangmaaGreatDoor
