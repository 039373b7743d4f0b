import Derived.Test.YtcfgbiaahangmaaGreatDoorC1
import Derived.WalkLawsBesides
set_option maxHeartbeats 1000000
namespace Go.Proofs.YtcfgbiaahangmaaGreatDoor
open Go.Proofs.Tryz
open Go.RowKit
def addB (a b:Int):Bool:=(canB a && canB b) && fitB (a+b)
def addV (a b:Int):Int:=if addB a b then a+b else 0
def subB (a b:Int):Bool:=(canB a && canB b) && fitB (a - b)
def subV (a b:Int):Int:=if subB a b then a - b else 0
theorem addB_no {a b:Int} (h:(canB a && canB b) = false):addB a b = false:=by unfold addB;rw [h];rfl
theorem addV_no {a b:Int} (h:(canB a && canB b) = false):addV a b = 0:=by unfold addV;rw [addB_no h];rfl
theorem subB_no {a b:Int} (h:(canB a && canB b) = false):subB a b = false:=by unfold subB;rw [h];rfl
theorem subV_no {a b:Int} (h:(canB a && canB b) = false):subV a b = 0:=by unfold subV;rw [subB_no h];rfl
theorem addB_yes {a b:Int} (ha:I64 a) (hb:I64 b) (h:(canB a && canB b) = true):toldB (a+b) = addB a b:=by
 obtain ⟨_,_⟩:=ha;obtain ⟨_,_⟩:=hb
 unfold addB;rw [h,toldB_eq _ J2];simp
theorem addV_yes {a b:Int} (ha:I64 a) (hb:I64 b) (h:(canB a && canB b) = true):toldV (a+b) = addV a b:=by
 have:=addB_yes ha hb h
 obtain ⟨_,_⟩:=ha;obtain ⟨_,_⟩:=hb
 unfold addV;rw [← this,toldV_eq _ J2,toldB_eq _ J2]
theorem subB_yes {a b:Int} (ha:I64 a) (hb:I64 b) (h:(canB a && canB b) = true):toldB (a - b) = subB a b:=by
 obtain ⟨_,_⟩:=ha;obtain ⟨_,_⟩:=hb
 unfold subB;rw [h,toldB_eq _ J2];simp
theorem subV_yes {a b:Int} (ha:I64 a) (hb:I64 b) (h:(canB a && canB b) = true):toldV (a - b) = subV a b:=by
 have:=subB_yes ha hb h
 obtain ⟨_,_⟩:=ha;obtain ⟨_,_⟩:=hb
 unfold subV;rw [← this,toldV_eq _ J2,toldB_eq _ J2]
theorem add_any (a b:Int) (ha:I64 a) (hb:I64 b) (w:World):Calls Tryz.prog 171 #[.int .i64 a,.int .i64 b] w fun e w'=>e = .returned (.tuple #[.int .i64 (addV a b),.bool (addB a b)])∧Ext w w':=by
 cases hc:(canB a && canB b)
 · have HC:=addB_no hc
   have HV:=addV_no hc
   go_enter func171,ntmps171
   exact K107
 · have HB:Hid (toldB (a+b) = addB a b):=addB_yes ha hb hc
   have HV:Hid (toldV (a+b) = addV a b):=addV_yes ha hb hc
   have P0:=fun W=>plus_acc 0 a ha W
   have z1:hiOf 0 = 0:=J9
   have z2:loOf 0 = 0:=J9
   simp only [z1,z2,Int.zero_add] at P0
   clear z1 z2
   go_enter func171,ntmps171
   go_wp2_with (go_at_call 219;refine Calls.mono (numbers_2 a b w.heap.size _ J17 J17) ?_;rintro e w' ⟨rfl,rfl⟩)
   refine (P0 _).mono ?_
   rintro e w1 ⟨rfl,E1⟩
   go_wp2_with fail
   refine (plus_acc a b hb _).mono ?_
   rintro e w2 ⟨rfl,E2⟩
   go_wp2_with fail
   refine (told_acc (a+b) _).mono ?_
   exact K142
theorem sub_any (a b:Int) (ha:I64 a) (hb:I64 b) (w:World):Calls Tryz.prog 172 #[.int .i64 a,.int .i64 b] w fun e w'=>e = .returned (.tuple #[.int .i64 (subV a b),.bool (subB a b)])∧Ext w w':=by
 cases hc:(canB a && canB b)
 · have HC:=subB_no hc
   have HV:=subV_no hc
   go_enter func172,ntmps172
   exact K107
 · have HB:Hid (toldB (a - b) = subB a b):=subB_yes ha hb hc
   have HV:Hid (toldV (a - b) = subV a b):=subV_yes ha hb hc
   have P0:=fun W=>plus_acc 0 a ha W
   have z1:hiOf 0 = 0:=J9
   have z2:loOf 0 = 0:=J9
   simp only [z1,z2,Int.zero_add] at P0
   clear z1 z2
   go_enter func172,ntmps172
   go_wp2_with (go_at_call 219;refine Calls.mono (numbers_2 a b w.heap.size _ J17 J17) ?_;rintro e w' ⟨rfl,rfl⟩)
   refine (P0 _).mono ?_
   rintro e w1 ⟨rfl,E1⟩
   go_wp2_with fail
   refine (less_acc a b hb _).mono ?_
   rintro e w2 ⟨rfl,E2⟩
   go_wp2_with fail
   refine (told_acc (a - b) _).mono ?_
   exact K142
theorem size_list (s:ByteArray):s.data.toList.length = s.size:=(Lib.size_eq s).symm
theorem get_list (s:ByteArray) (k:Nat) (h:k < s.size):s.data.toList[k]'(by rw [size_list];exact h) = s[k]:=rfl
theorem all_take (l:List UInt8) (k:Nat) (h:k < l.length):(l.take (k+1)).all dgB = ((l.take k).all dgB && dgB l[k]):=by
 rw [List.take_succ_eq_append_getElem h,List.all_append];simp
theorem okD_no (l:List UInt8) (h:l.length = 0∨40 < l.length):okD l = false:=by
 unfold okD;rw [Bool.and_eq_false_iff];left;simp;omega
theorem okD_bad (l:List UInt8) (k:Nat) (hk:k < l.length) (h:dgB l[k] = false):okD l = false:=by
 unfold okD;rw [Bool.and_eq_false_iff];right
 rw [List.all_eq_false];exact ⟨l[k],List.getElem_mem hk,by simpa using h⟩
theorem okD_yes (l:List UInt8) (h1:1≤l.length) (h2:l.length≤40) (h:l.all dgB = true):okD l = true:=by
 unfold okD;rw [h];simp;omega
theorem dg_no {c:UInt8} (h:(c.toNat:Int) < 48∨(57:Int) < c.toNat):dgB c = false:=by unfold dgB;simp;omega
theorem dg_yes {c:UInt8} (h:¬ (c.toNat:Int) < 48) (h':¬ (57:Int) < c.toNat):dgB c = true:=by unfold dgB;simp;omega
theorem digits_any (s:ByteArray) (w:World) (hs:s.size≤maxLen) :
   Calls Tryz.prog 216 #[.string s] w fun e w'=>e = .returned (.bool (okD s.data.toList))∧w' = w:=by
 unfold maxLen at hs
 have hl:=size_list s
 by_cases h0:s.size = 0
 · have H:Hid (okD s.data.toList = false):=okD_no _ J2
   have he:s.toList.isEmpty = true:=by rw [ByteArray.toList_eq];exact List.isEmpty_iff.2 (List.length_eq_zero_iff.1 J2)
   go_enter func216,ntmps216
   go_wp2
   exact K156
 have he:s.toList.isEmpty = false:=by rw [ByteArray.toList_eq];exact Bool.eq_false_iff.2 fun h=>h0 (by rw [← hl,List.isEmpty_iff.1 h];rfl)
 by_cases h1:40 < s.size
 · have H:Hid (okD s.data.toList = false):=okD_no _ J2
   go_enter func216,ntmps216
   go_wp2
   exact K156
 have HY:Hid (s.data.toList.all dgB = true→okD s.data.toList = true):=okD_yes _ J2 J2
 go_enter func216,ntmps216
 go_wp2
 go_loop [13] (fun i=>∃ k:Nat,k≤s.size∧i = .int .i64 k∧(s.data.toList.take k).all dgB = true) (fun i=>s.size - (intOf i).toNat)
 case atStart=>exact ⟨0,Nat.zero_le _,rfl,rfl⟩
 case round =>
   obtain ⟨k,hk,rfl,ha⟩:=hrel
   have HA:Hid ((s.data.toList.take k).all dgB = true):=ha
   clear ha
   by_cases hlt:k < s.size
   · have HT:Hid ((s.data.toList.take (k+1)).all dgB = ((s.data.toList.take k).all dgB && dgB s[k])):=all_take s.data.toList k J2
     have HB:Hid (dgB s[k] = false→okD s.data.toList = false):=okD_bad s.data.toList k J2
     by_cases c1:(s[k].toNat:Int) < 48
     · go_wp2
       go_ret
       exact ⟨ret_bool (HB.out (dg_no (.inl c1))).symm,rfl⟩
     by_cases c2:(57:Int) < s[k].toNat
     · go_wp2
       go_ret
       exact ⟨ret_bool (HB.out (dg_no (.inr c2))).symm,rfl⟩
     · have HD:Hid (dgB s[k] = true):=dg_yes c1 c2
       go_wp2
       go_round
       case rel=>exact ⟨k+1,by omega,by go_num,by rw [HT.out,HA.out,HD.out];rfl⟩
       case measure=>simp [intOf];omega
   · go_wp2
     go_ret
     exact ⟨ret_bool (HY.out (by have:=HA.out;rwa [List.take_of_length_le J2] at this)).symm,rfl⟩
theorem dig_at (l:List UInt8) (h:l.all dgB = true) (k:Nat) (hk:k < l.length):48≤l[k].toNat∧l[k].toNat≤57 :=
 dg_bd (List.all_eq_true.1 h _ (List.getElem_mem hk))
def whV (n:Nat):Int:=if n≤9223372036854775807 then n else 0
def whB (n:Nat):Bool:=decide (n≤9223372036854775807)
theorem wh_no {n:Nat} (h:9223372036854775807 < n):whV n = 0∧whB n = false:=⟨by unfold whV;rw [if_neg J2],by unfold whB;simp;omega⟩
theorem wh_yes {n:Nat} (h:n≤9223372036854775807):whV n = n∧whB n = true:=⟨by unfold whV;rw [if_pos h],by unfold whB;simp;omega⟩
theorem whole_any (s:ByteArray) (w:World) (hs:s.size≤100) (ha:s.data.toList.all dgB = true) :
   Calls Tryz.prog 255 #[.string s] w fun e w'=>e = .returned (.tuple #[.int .i64 (whV (val s.data.toList)),.bool (whB (val s.data.toList))])∧w' = w:=by
 have hl:=size_list s
 have HA:Hid (∀ k (h:k < s.size),48≤s[k].toNat∧s[k].toNat≤57):=fun k h=>dig_at s.data.toList ha k J2
 have HM:Hid (∀ k,val (s.data.toList.take k)≤val s.data.toList):=val_mono _
 clear ha
 go_enter func255,ntmps255
 go_wp2
 go_loop [4,9] (fun n i=>∃ k:Nat,k≤s.size∧i = .int .i64 k∧∃ v:Nat,v = val (s.data.toList.take k)∧v≤9223372036854775807∧n = .int .i64 v) (fun _ i=>s.size - (intOf i).toNat)
 case atStart=>exact ⟨0,Nat.zero_le _,rfl,0,rfl,by omega,rfl⟩
 case round =>
   obtain ⟨k,hk,rfl,v,hv,hv',rfl⟩:=hrel
   have HV:Hid (v = val (s.data.toList.take k)):=hv
   clear hv
   have hv2:(v:Int)≤9223372036854775807:=J2
   by_cases hlt:k < s.size
   · have HT:Hid (val (s.data.toList.take (k+1)) = val (s.data.toList.take k) * 10+(s[k].toNat - 48)):=val_take_succ s.data.toList k J2
     obtain ⟨d1,d2⟩:=HA.out k hlt
     have d3:(48:Int)≤s[k].toNat:=J2
     have d4:(s[k].toNat:Int)≤57:=J2
     clear hv'
     by_cases g:(9223372036854775807 - ((s[k].toNat:Int) - 48)) / 10 < (v:Int)
     · have HG:Hid (9223372036854775807 < val s.data.toList):=by
         show _ < _;have:=HM.out (k+1);rw [HT.out,← HV.out] at this;omega
       go_wp2
       go_ret2
       exact ⟨ret_ib (wh_no HG.out).1.symm (wh_no HG.out).2.symm,rfl⟩
     · have g2:10 * (v:Int)+((s[k].toNat:Int) - 48)≤9223372036854775807:=J2
       go_wp2
       go_round
       case rel=>exact ⟨k+1,by omega,by go_num,10 * v+(s[k].toNat - 48),by rw [HT.out,← HV.out];omega,by omega,by go_num⟩
       case measure=>simp [intOf];omega
   · go_wp2
     go_ret2
     have e:v = val s.data.toList:=by rw [HV.out,List.take_of_length_le J2]
     rw [← e]
     exact ⟨ret_ib (wh_yes hv').1.symm (wh_yes hv').2.symm,rfl⟩
end Go.Proofs.YtcfgbiaahangmaaGreatDoor
