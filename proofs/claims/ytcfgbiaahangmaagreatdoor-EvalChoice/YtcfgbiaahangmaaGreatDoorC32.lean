import Derived.Test.YtcfgbiaahangmaaGreatDoorC31
import Derived.Test.YtcfgbiaahangmaaGreatDoorC27
import Derived.ProofKit
import Derived.Deep.DeepHandedRow
import Derived.Stop.LaidErr
import Derived.MakeChecks
set_option maxHeartbeats 6000000
set_option maxRecDepth 100000
namespace Go.Proofs.YtcfgbiaahangmaaGreatDoor
open Go.Proofs.Tryz
open Go.RowKit
theorem kind_two (c:UInt8) (h:dgB c = false):(kindN c == 2) = letB c:=by
 unfold kindN;rw [h];cases letB c <;> rfl
theorem kind_pos (c:UInt8):decide (0 < kindN c) = (letB c || dgB c):=by
 unfold kindN;cases dgB c <;> cases letB c <;> rfl
theorem err_first {l:List UInt8} {x:Int × List UInt8} (h:errT l = some x):l.head? = some 35:=by
 unfold errT at h
 have h1:=List.find?_some h
 have h2:=List.mem_of_find?_eq_some h
 obtain ⟨t,rfl⟩:=List.isPrefixOf_iff_prefix.mp h1
 simp [errsL] at h2;rcases h2 with rfl | rfl | rfl | rfl | rfl <;> rfl
def sg12:List UInt8:=[60,62,61,43,45,42,47,38,40,41,44,58]
theorem sg_two {l p:List UInt8} (hp:p = [60,62]∨p = [60,61]∨p = [62,61]) (h:p.isPrefixOf l = true):sgR l = .ok (3,l.take 2,0,0,2):=by
 obtain ⟨t,rfl⟩:=List.isPrefixOf_iff_prefix.mp h
 rcases hp with rfl | rfl | rfl <;> rfl
theorem sg_one {c:UInt8} {r:List UInt8} (h1:List.isPrefixOf [60,62] (c :: r) = false) (h2:List.isPrefixOf [60,61] (c :: r) = false) (h3:List.isPrefixOf [62,61] (c :: r) = false) :
   sgR (c :: r) = if c ∈ sg12 then .ok (3,[c],0,0,1) else .error 4:=by
 unfold sgR sgT sgsL
 simp only [List.find?_cons,h1,h2,h3]
 simp only [List.isPrefixOf_cons_cons,List.isPrefixOf_nil_left,Bool.and_true,List.find?_nil]
 unfold sg12
 simp only [List.mem_cons,List.not_mem_nil,or_false]
 by_cases g0:c = 60
 · subst g0;rfl
 by_cases g1:c = 62
 · subst g1;rfl
 by_cases g2:c = 61
 · subst g2;rfl
 by_cases g3:c = 43
 · subst g3;rfl
 by_cases g4:c = 45
 · subst g4;rfl
 by_cases g5:c = 42
 · subst g5;rfl
 by_cases g6:c = 47
 · subst g6;rfl
 by_cases g7:c = 38
 · subst g7;rfl
 by_cases g8:c = 40
 · subst g8;rfl
 by_cases g9:c = 41
 · subst g9;rfl
 by_cases g10:c = 44
 · subst g10;rfl
 by_cases g11:c = 58
 · subst g11;rfl
 have e:∀ d:UInt8,c≠d→(d == c) = false:=fun d h=>by simpa using fun e:d = c=>h e.symm
 rw [e 60 g0,e 62 g1,e 61 g2,e 43 g3,e 45 g4,e 42 g5,e 47 g6,e 38 g7,e 40 g8,e 41 g9,e 44 g10,e 58 g11,if_neg (by simp [g0,g1,g2,g3,g4,g5,g6,g7,g8,g9,g10,g11])]
theorem nxt_err {c:UInt8} {r:List UInt8} (h1:dgB c = false) (h2:c≠34) (h3:letB c = false) {x:Int × List UInt8} (h:errT (c :: r) = some x):nxt (c :: r) = .ok (4,[],0,x.1,x.2.length):=by
 have hc:=err_first h
 simp at hc
 rw [nxt_cons,h1,if_neg J65,if_neg h2,h3,if_neg J65,if_pos hc];unfold errR;rw [h]
theorem nxt_sg {c:UInt8} {r:List UInt8} (h1:dgB c = false) (h2:c≠34) (h3:letB c = false) (h:errT (c :: r) = none):nxt (c :: r) = sgR (c :: r):=by
 rw [nxt_cons,h1,if_neg J65,if_neg h2,h3,if_neg J65]
 by_cases hc:c = 35
 · rw [if_pos hc];unfold errR;rw [h];subst hc;rfl
 · rw [if_neg hc]
theorem sg12_0 (W:World):(Instr.index 9 (.string ⟨#[60,62,61,43,45,42,47,38,40,41,44,58]⟩) (.int .i64 0)).run Tryz.prog W = .ok (.int .u8 60) W:=J3
theorem sg12_1 (W:World):(Instr.index 9 (.string ⟨#[60,62,61,43,45,42,47,38,40,41,44,58]⟩) (.int .i64 1)).run Tryz.prog W = .ok (.int .u8 62) W:=J3
theorem sg12_2 (W:World):(Instr.index 9 (.string ⟨#[60,62,61,43,45,42,47,38,40,41,44,58]⟩) (.int .i64 2)).run Tryz.prog W = .ok (.int .u8 61) W:=J3
theorem sg12_3 (W:World):(Instr.index 9 (.string ⟨#[60,62,61,43,45,42,47,38,40,41,44,58]⟩) (.int .i64 3)).run Tryz.prog W = .ok (.int .u8 43) W:=J3
theorem sg12_4 (W:World):(Instr.index 9 (.string ⟨#[60,62,61,43,45,42,47,38,40,41,44,58]⟩) (.int .i64 4)).run Tryz.prog W = .ok (.int .u8 45) W:=J3
theorem sg12_5 (W:World):(Instr.index 9 (.string ⟨#[60,62,61,43,45,42,47,38,40,41,44,58]⟩) (.int .i64 5)).run Tryz.prog W = .ok (.int .u8 42) W:=J3
theorem sg12_6 (W:World):(Instr.index 9 (.string ⟨#[60,62,61,43,45,42,47,38,40,41,44,58]⟩) (.int .i64 6)).run Tryz.prog W = .ok (.int .u8 47) W:=J3
theorem sg12_7 (W:World):(Instr.index 9 (.string ⟨#[60,62,61,43,45,42,47,38,40,41,44,58]⟩) (.int .i64 7)).run Tryz.prog W = .ok (.int .u8 38) W:=J3
theorem sg12_8 (W:World):(Instr.index 9 (.string ⟨#[60,62,61,43,45,42,47,38,40,41,44,58]⟩) (.int .i64 8)).run Tryz.prog W = .ok (.int .u8 40) W:=J3
theorem sg12_9 (W:World):(Instr.index 9 (.string ⟨#[60,62,61,43,45,42,47,38,40,41,44,58]⟩) (.int .i64 9)).run Tryz.prog W = .ok (.int .u8 41) W:=J3
theorem sg12_10 (W:World):(Instr.index 9 (.string ⟨#[60,62,61,43,45,42,47,38,40,41,44,58]⟩) (.int .i64 10)).run Tryz.prog W = .ok (.int .u8 44) W:=J3
theorem sg12_11 (W:World):(Instr.index 9 (.string ⟨#[60,62,61,43,45,42,47,38,40,41,44,58]⟩) (.int .i64 11)).run Tryz.prog W = .ok (.int .u8 58) W:=J3
theorem sg12_at (j:Nat) (p:UInt8) (h:sg12[j]? = some p) (W:World):(Instr.index 9 (.string ⟨#[60,62,61,43,45,42,47,38,40,41,44,58]⟩) (.int .i64 (j:Int))).run Tryz.prog W = .ok (.int .u8 (p.toNat:Int)) W:=by
 have hj:j < 12:=(List.getElem?_eq_some_iff.mp h).1
 have hh:j = 0∨j = 1∨j = 2∨j = 3∨j = 4∨j = 5∨j = 6∨j = 7∨j = 8∨j = 9∨j = 10∨j = 11:=J2
 rcases hh with rfl | rfl | rfl | rfl | rfl | rfl | rfl | rfl | rfl | rfl | rfl | rfl
 · simp [sg12] at h;subst h;exact sg12_0 W
 · simp [sg12] at h;subst h;exact sg12_1 W
 · simp [sg12] at h;subst h;exact sg12_2 W
 · simp [sg12] at h;subst h;exact sg12_3 W
 · simp [sg12] at h;subst h;exact sg12_4 W
 · simp [sg12] at h;subst h;exact sg12_5 W
 · simp [sg12] at h;subst h;exact sg12_6 W
 · simp [sg12] at h;subst h;exact sg12_7 W
 · simp [sg12] at h;subst h;exact sg12_8 W
 · simp [sg12] at h;subst h;exact sg12_9 W
 · simp [sg12] at h;subst h;exact sg12_10 W
 · simp [sg12] at h;subst h;exact sg12_11 W
theorem qerrname_at (i:Nat) (x:Int × List UInt8) (hx:errsL[i]? = some x) (w:World):Calls Tryz.prog 119 #[.int .i64 ((i+1:Nat):Int)] w fun r w'=>r = .returned (.string (bs x.2))∧w' = w:=by
 have hi:i < 5:=(List.getElem?_eq_some_iff.mp hx).1
 have hh:i = 0∨i = 1∨i = 2∨i = 3∨i = 4:=J2
 rcases hh with rfl | rfl | rfl | rfl | rfl
 all_goals
   simp [errsL] at hx
   subst hx
   clear hi
   go_enter func119,ntmps119
   exact K29
theorem qword_any (s:ByteArray) (k:Nat) (w:World) (hk:k < s.size) (hs:s.size≤300) :
   Calls Tryz.prog 82 #[.string s,.int .i64 (k:Int)] w fun e w'=>RxR (nxt (s.data.toList.drop k)) k e∧Ext w w':=by
 have hl:=size_list s
 have hkI:(k:Int) < (s.size:Int):=J2
 obtain ⟨l,hll⟩:∃ l,s.data.toList.drop k = l:=⟨_,rfl⟩
 have hc:l = s[k] :: s.data.toList.drop (k+1):=by rw [← hll,List.drop_eq_getElem_cons (by rw [hl];exact hk)];rfl
 have hn:nxt l = if dgB s[k] then nuRL l else if s[k] = 34 then txtR l else if letB s[k] then wdR l else if s[k] = 35 then errR l else sgR l:=by
   rw [hc];exact nxt_cons _ _
 have d1:=fun W=>qkind_any s[k] W
 have k1:=kind_one s[k]
 have k2:=kind_two s[k]
 obtain ⟨K,hK⟩:∃ K,kindN s[k] = K:=⟨_,rfl⟩
 rw [hK] at d1 k1 k2
 have b1:=byte_ne (c:=s[k]) 34 J2
 have c1:=fun W=>qnumber_any s k W (Nat.le_of_lt hk) hs
 have c2:=fun W=>qtext_any s k W hk hs
 rw [hll] at c1 c2 ⊢
 cases h1:dgB s[k]
 case true =>
   rw [h1] at k1 hn
   simp only [if_true] at hn
   clear h1 b1 k2 hK hl hll hc
   have HN:Hid (nxt l = nuRL l):=hn
   clear hn
   cases hr:nuRL l with
   | ok x =>
     have HR:Hid (nuRL l = .ok x):=hr
     obtain ⟨x0,x1,x2,x3,x4⟩:=x
     have C:∀ W,Calls Tryz.prog 116 #[.string s,.int .i64 (k:Int)] W fun e w'=>e = .returned (.tuple #[.agg #[.int .i64 x0,.int .i64 (k:Int),.string (bs x1),.int .i64 x2,.int .i64 x3],.int .i64 ((k+x4:Nat):Int),.int .i64 0])∧Ext W w':=by rw [hr] at c1;exact c1
     exact K38
   | error c =>
     have HR:Hid (nuRL l = .error c):=hr
     have C:∀ W,Calls Tryz.prog 116 #[.string s,.int .i64 (k:Int)] W fun e w'=>e = .returned (.tuple #[.agg #[.int .i64 0,.int .i64 0,.string ⟨#[]⟩,.int .i64 0,.int .i64 0],.int .i64 (k:Int),.int .i64 c])∧Ext W w':=by rw [hr] at c1;exact c1
     exact K53
 rw [h1] at k1 hn
 simp only [Bool.false_eq_true,if_false] at hn
 replace k2:=k2 h1
 by_cases h2:s[k] = 34
 · rw [if_pos h2] at hn
   have t1:(((s[k]).toNat:Int) == 34) = true:=by rw [show (34:Int) = ((34:Nat):Int) from rfl,b1,h2];rfl
   clear h1 h2 b1 k2 hK hl hll hc
   have HN:Hid (nxt l = txtR l):=hn
   clear hn
   cases hr:txtR l with
   | ok x =>
     have HR:Hid (txtR l = .ok x):=hr
     obtain ⟨x0,x1,x2,x3,x4⟩:=x
     have C:∀ W,Calls Tryz.prog 117 #[.string s,.int .i64 (k:Int)] W fun e w'=>e = .returned (.tuple #[.agg #[.int .i64 x0,.int .i64 (k:Int),.string (bs x1),.int .i64 x2,.int .i64 x3],.int .i64 ((k+x4:Nat):Int),.int .i64 0])∧Ext W w':=by rw [hr] at c2;exact c2
     exact K38
   | error c =>
     have HR:Hid (txtR l = .error c):=hr
     have C:∀ W,Calls Tryz.prog 117 #[.string s,.int .i64 (k:Int)] W fun e w'=>e = .returned (.tuple #[.agg #[.int .i64 0,.int .i64 0,.string ⟨#[]⟩,.int .i64 0,.int .i64 0],.int .i64 (k:Int),.int .i64 c])∧Ext W w':=by rw [hr] at c2;exact c2
     exact K53
 rw [if_neg h2] at hn
 have t1:(((s[k]).toNat:Int) == 34) = false:=by rw [show (34:Int) = ((34:Nat):Int) from rfl,b1];simpa using h2
 cases h3:letB s[k]
 case true =>
   rw [h3] at k2 hn
   simp only [if_true] at hn
   have HN:Hid (nxt l = .ok (2,l.take (run inW l),0,0,run inW l)):=hn
   have HL:Hid (s.data.toList.length = s.size):=hl
   have HD:Hid (s.data.toList.drop k = l):=hll
   clear h1 h2 h3 b1 hK hl hll hc hn c1 c2
   go_enter func82,ntmps82
   go_wp2_with fail
   refine (d1 _).mono ?_
   rintro e w1 ⟨rfl,rfl⟩
   go_wp2_with fail
   refine (d1 _).mono ?_
   rintro e w1 ⟨rfl,rfl⟩
   go_wp2_with fail
   go_loopw [7] (fun i wr=>∃ j:Nat,k≤j∧j≤s.size∧i = .int .i64 (j:Int)∧k+run inW l = j+run inW (s.data.toList.drop j)∧wr = w.alloc (.cells #[.int .i64 0,.int .i64 0,.string ⟨#[]⟩,.int .i64 0,.int .i64 0] 91)) (fun i _=>s.size - (intOf i).toNat)
   case atStart=>exact ⟨k,Nat.le_refl _,Nat.le_of_lt hk,rfl,by rw [HD.out],rfl⟩
   case round =>
     obtain ⟨j,hkj,hj,rfl,ha,rfl⟩:=hrel
     have HA:Hid (k+run inW l = j+run inW (s.data.toList.drop j)):=ha
     clear ha
     by_cases hlt:j < s.size
     · have hltI:(j:Int) < (s.size:Int):=J2
       have HT:Hid (run inW (s.data.toList.drop j) = if inW s[j] then run inW (s.data.toList.drop (j+1))+1 else 0):=run_at inW s.data.toList j (by have:=HL.out;omega)
       have e1:=fun W=>qkind_any s[j] W
       have p1:=kind_pos s[j]
       obtain ⟨N,hN⟩:∃ N,kindN s[j] = N:=⟨_,rfl⟩
       rw [hN] at e1 p1
       have b2:=byte_ne (c:=s[j]) 95 J2
       have b3:(((s[j]).toNat:Int) == 95) = (s[j] == 95):=by rw [show (95:Int) = ((95:Nat):Int) from rfl,b2];rfl
       have wk:wrap64 ((j:Int)+1) = ((j+1:Nat):Int):=J72
       cases hp:(letB s[j] || dgB s[j])
       · rw [hp] at p1
         have q1:¬ (0:Int) < N:=by simpa using p1
         cases hu:(s[j] == 95)
         · have HP:Hid (inW s[j] = false):=by show _ = _;unfold inW;rw [hp,hu];rfl
           rw [hu] at b3
           clear hp hu hN b2
           go_wp2_with fail
           refine (e1 _).mono ?_
           rintro e w1 ⟨rfl,rfl⟩
           go_wp2_with fail
           refine fin5 _ (blk5_top rfl xr) rfl (xr.alloc _) J13 (fun h=>⟨?_,h⟩)
           have hm:j = k+run inW l:=by have h1:=HA.out;have h2:=HT.out;rw [HP.out] at h2;simp at h2;omega
           exact K169
         · have HP:Hid (inW s[j] = true):=by show _ = _;unfold inW;rw [hp,hu];rfl
           rw [hu] at b3
           clear hp hu hN b2
           exact K89
       · rw [hp] at p1
         have q1:(0:Int) < N:=by simpa using p1
         have HP:Hid (inW s[j] = true):=by show _ = _;unfold inW;rw [hp];rfl
         clear hp hN b2 b3
         exact K89
     · have hltI:¬ (j:Int) < (s.size:Int):=J2
       have HT:Hid (run inW (s.data.toList.drop j) = 0):=run_off inW s.data.toList j (by have:=HL.out;omega)
       have hjs:j≤s.size:=hj
       go_wp2_with fail
       refine fin5 _ (blk5_top rfl xr) rfl (xr.alloc _) J13 (fun h=>⟨?_,h⟩)
       have hm:j = k+run inW l:=by have h1:=HA.out;have h2:=HT.out;omega
       exact K169
 rw [h3] at k2
 have HE:Hid (∀ x,errT l = some x→nxt l = .ok (4,[],0,x.1,x.2.length)):=by intro x hx;rw [hc] at hx ⊢;exact nxt_err h1 h2 h3 hx
 have HS:Hid (errT l = none→nxt l = sgR l):=by intro hx;rw [hc] at hx ⊢;exact nxt_sg h1 h2 h3 hx
 have HC:Hid (∃ r,l = s[k] :: r):=⟨_,hc⟩
 have HD:Hid (s.data.toList.drop k = l):=hll
 have cI:∀ t:ByteArray,t.size≤10→∀ W,Calls Tryz.prog 118 #[.string s,.int .i64 (k:Int),.string t] W fun e w'=>e = .returned (.bool (t.data.toList.isPrefixOf l))∧w' = W:=by
   intro t ht W
   have h:=qis_any s t k W (Nat.le_of_lt hk) hs ht
   rwa [hll] at h
 have HI:Hid (∀ t:ByteArray,t.size≤10→∀ W,Calls Tryz.prog 118 #[.string s,.int .i64 (k:Int),.string t] W fun e w'=>e = .returned (.bool (t.data.toList.isPrefixOf l))∧w' = W):=cI
 clear h1 h2 h3 b1 hK hl hll hc hn c1 c2 cI
 go_enter func82,ntmps82
 go_wp2_with fail
 refine (d1 _).mono ?_
 rintro e w1 ⟨rfl,rfl⟩
 go_wp2_with fail
 refine (d1 _).mono ?_
 rintro e w1 ⟨rfl,rfl⟩
 go_wp2_with fail
 go_loopw [8] (fun i wr=>∃ j:Nat,j≤5∧i = .int .i64 ((j+1:Nat):Int)∧(errsL.take j).find? (fun x=>x.2.isPrefixOf l) = none∧wr = w.alloc (.cells #[.int .i64 0,.int .i64 0,.string ⟨#[]⟩,.int .i64 0,.int .i64 0] 91)) (fun i _=>6 - (intOf i).toNat)
 case atStart=>exact ⟨0,by omega,rfl,rfl,rfl⟩
 case round =>
   obtain ⟨j,hj,rfl,hf,rfl⟩:=hrel
   have HF:Hid ((errsL.take j).find? (fun x=>x.2.isPrefixOf l) = none):=hf
   clear hf
   by_cases hlt:j < 5
   · obtain ⟨x,hx⟩:∃ x,errsL[j]? = some x:=⟨_,gEq (by simp [errsL];omega)⟩
     have e1:=fun W=>qerrname_at j x hx W
     have HY:Hid (x.1 = (j:Int)+1∧(bs x.2).size≤10):=by
       have hh:j = 0∨j = 1∨j = 2∨j = 3∨j = 4:=J2
       rcases hh with rfl | rfl | rfl | rfl | rfl <;> (simp [errsL] at hx;subst hx;exact ⟨rfl,by decide⟩)
     have HX:Hid (errsL[j]? = some x):=hx
     have hxs:(bs x.2).size≤10:=HY.out.2
     have HZ:Hid ((bs x.2).size = x.2.length):=bs_size _
     have e2:=fun W=>HI.out (bs x.2) hxs W
     rw [bs_list] at e2
     obtain ⟨t,ht⟩:∃ t,x.2.isPrefixOf l = t:=⟨_,rfl⟩
     rw [ht] at e2
     have HT:Hid (x.2.isPrefixOf l = t):=ht
     clear hx ht
     generalize hb:bs x.2 = b at e1 e2 hxs HZ
     clear hb
     have hl1:((j+1:Nat):Int)≤5:=J2
     cases t
     · go_wp2_with fail
       refine (e1 _).mono ?_
       rintro e w1 ⟨rfl,rfl⟩
       go_wp2_with fail
       refine (e2 _).mono ?_
       rintro e w1 ⟨rfl,rfl⟩
       go_wp2_with fail
       go_roundw
       case rel=>exact ⟨j+1,by omega,by go_num,find_on HF.out HX.out HT.out,trivial⟩
       case measure=>simp [intOf];omega
     · go_wp2_with fail
       refine (e1 _).mono ?_
       rintro e w1 ⟨rfl,rfl⟩
       go_wp2_with fail
       refine (e2 _).mono ?_
       rintro e w1 ⟨rfl,rfl⟩
       go_wp2_with fail
       refine (e1 _).mono ?_
       rintro e w1 ⟨rfl,rfl⟩
       go_wp2_with fail
       refine fin5 _ (blk5_top rfl xr) rfl (xr.alloc _) J13 (fun h=>⟨?_,h⟩)
       rw [HE.out x (by unfold errT;exact find_here HF.out HX.out HT.out),HY.out.1,← HZ.out]
       exact rx_fin (4,[],0,(j:Int)+1,b.size) k _ J65
   · have hl1:¬ ((j+1:Nat):Int)≤5:=J2
     have HR:Hid (nxt l = sgR l):=HS.out (by unfold errT;exact find_end HF.out (by simp [errsL];omega))
     have s1:=HI.out ⟨#[60,62]⟩ J9
     have s2:=HI.out ⟨#[60,61]⟩ J9
     have s3:=HI.out ⟨#[62,61]⟩ J9
     have ht2:∀ p,(p = [60,62]∨p = [60,61]∨p = [62,61])→List.isPrefixOf p l = true→k+2≤s.size:=by
       intro p hp h
       have h4:=(List.isPrefixOf_iff_prefix.mp h).length_le
       have h5:=congrArg List.length HD.out
       rw [List.length_drop,size_list] at h5
       rcases hp with rfl | rfl | rfl <;> (simp at h4;omega)
     clear HE HS
     cases g1:List.isPrefixOf [60,62] l
     case true =>
       have HW:Hid (sgR l = .ok (3,l.take 2,0,0,2)):=sg_two (.inl rfl) g1
       have hm:k+2≤s.size:=ht2 _ (.inl rfl) g1
       replace s1:∀ W,Calls Tryz.prog 118 #[.string s,.int .i64 (k:Int),.string ⟨#[60,62]⟩] W fun e w'=>e = .returned (.bool true)∧w' = W:=by intro W;have:=s1 W;rwa [show (⟨#[60,62]⟩:ByteArray).data.toList = [60,62] from rfl,g1] at this
       clear g1 ht2 s2 s3
       go_wp2_with fail
       refine (s1 _).mono ?_
       exact K65
     replace s1:∀ W,Calls Tryz.prog 118 #[.string s,.int .i64 (k:Int),.string ⟨#[60,62]⟩] W fun e w'=>e = .returned (.bool false)∧w' = W:=by intro W;have:=s1 W;rwa [show (⟨#[60,62]⟩:ByteArray).data.toList = [60,62] from rfl,g1] at this
     cases g2:List.isPrefixOf [60,61] l
     case true =>
       have HW:Hid (sgR l = .ok (3,l.take 2,0,0,2)):=sg_two (.inr (.inl rfl)) g2
       have hm:k+2≤s.size:=ht2 _ (.inr (.inl rfl)) g2
       replace s2:∀ W,Calls Tryz.prog 118 #[.string s,.int .i64 (k:Int),.string ⟨#[60,61]⟩] W fun e w'=>e = .returned (.bool true)∧w' = W:=by intro W;have:=s2 W;rwa [show (⟨#[60,61]⟩:ByteArray).data.toList = [60,61] from rfl,g2] at this
       clear g1 g2 ht2 s3
       go_wp2_with fail
       refine (s1 _).mono ?_
       rintro e w1 ⟨rfl,rfl⟩
       go_wp2_with fail
       refine (s2 _).mono ?_
       exact K65
     replace s2:∀ W,Calls Tryz.prog 118 #[.string s,.int .i64 (k:Int),.string ⟨#[60,61]⟩] W fun e w'=>e = .returned (.bool false)∧w' = W:=by intro W;have:=s2 W;rwa [show (⟨#[60,61]⟩:ByteArray).data.toList = [60,61] from rfl,g2] at this
     cases g3:List.isPrefixOf [62,61] l
     case true =>
       have HW:Hid (sgR l = .ok (3,l.take 2,0,0,2)):=sg_two (.inr (.inr rfl)) g3
       have hm:k+2≤s.size:=ht2 _ (.inr (.inr rfl)) g3
       replace s3:∀ W,Calls Tryz.prog 118 #[.string s,.int .i64 (k:Int),.string ⟨#[62,61]⟩] W fun e w'=>e = .returned (.bool true)∧w' = W:=by intro W;have:=s3 W;rwa [show (⟨#[62,61]⟩:ByteArray).data.toList = [62,61] from rfl,g3] at this
       clear g1 g2 g3 ht2
       go_wp2_with fail
       refine (s1 _).mono ?_
       rintro e w1 ⟨rfl,rfl⟩
       go_wp2_with fail
       refine (s2 _).mono ?_
       rintro e w1 ⟨rfl,rfl⟩
       go_wp2_with fail
       refine (s3 _).mono ?_
       exact K65
     replace s3:∀ W,Calls Tryz.prog 118 #[.string s,.int .i64 (k:Int),.string ⟨#[62,61]⟩] W fun e w'=>e = .returned (.bool false)∧w' = W:=by intro W;have:=s3 W;rwa [show (⟨#[62,61]⟩:ByteArray).data.toList = [62,61] from rfl,g3] at this
     have HW:Hid (sgR l = if s[k] ∈ sg12 then .ok (3,[s[k]],0,0,1) else .error 4):=by
       obtain ⟨r,hr⟩:=HC.out
       rw [hr] at g1 g2 g3 ⊢
       exact sg_one g1 g2 g3
     have HO:Hid (bs [s[k]] = s.extract k (k+1)):=by
       obtain ⟨r,hr⟩:=HC.out
       show _ = _;rw [sub_bs,HD.out,hr];rfl
     clear g1 g2 g3 ht2
     go_wp2_with fail
     refine (s1 _).mono ?_
     rintro e w1 ⟨rfl,rfl⟩
     go_wp2_with fail
     refine (s2 _).mono ?_
     rintro e w1 ⟨rfl,rfl⟩
     go_wp2_with fail
     refine (s3 _).mono ?_
     rintro e w1 ⟨rfl,rfl⟩
     go_wp2_with fail
     go_loopw [9] (fun i wr=>∃ j:Nat,j≤12∧i = .int .i64 (j:Int)∧(∀ i (h:i < j) p,sg12[i]? = some p→s[k]≠p)∧Ext w wr∧Blk5 wr w.heap.size (.int .i64 0) (.int .i64 0) (.string ⟨#[]⟩) (.int .i64 0) (.int .i64 0)) (fun i _=>12 - (intOf i).toNat)
     case atStart=>exact ⟨0,by omega,rfl,fun i h=>by omega,xr.alloc _,blk5_top rfl xr⟩
     case round =>
       obtain ⟨i,hi,rfl,hf,hX,hB⟩:=hrel
       have HF2:Hid (∀ m (h:m < i) p,sg12[m]? = some p→s[k]≠p):=hf
       have HX:Hid (Ext w wr):=hX
       have HB:Hid (Blk5 wr w.heap.size (.int .i64 0) (.int .i64 0) (.string ⟨#[]⟩) (.int .i64 0) (.int .i64 0)):=hB
       clear hf hX hB
       by_cases hlt2:i < 12
       · have hl2:(i:Int) < 12:=J2
         obtain ⟨p,hp⟩:∃ p,sg12[i]? = some p:=⟨_,gEq (by simp [sg12];omega)⟩
         have hix:=fun W=>sg12_at i p hp W
         have HP:Hid (sg12[i]? = some p):=hp
         clear hp
         have wk:wrap64 ((i:Int)+1) = ((i+1:Nat):Int):=J72
         by_cases he:s[k] = p
         · have te:(((s[k]).toNat:Int) == (p.toNat:Int)) = true:=by rw [he];simp
           have HE:Hid (s[k] = p):=he
           clear he
           go_upto_region 20 with fail
           go_quiet (fail)
           have X3:Ext w (wr.drewN nq):=HX.out.drewN _
           have B3:=HB.out.ext ((Ext.refl wr).drewN nq)
           have D3:=B3
           obtain ⟨_,⟨b0,b1,b2,b3,b4⟩,f0,f1,f2,f3,f4⟩:=D3
           generalize wr.drewN nq = w3 at *
           go_wp2_with fail
           refine fin5 _ (B3.set _ _ _ _ _) rfl J0 J13 (fun h=>⟨?_,h⟩)
           rw [HR.out,HW.out,if_pos (by rw [HE.out];exact List.mem_of_getElem? HP.out),← HO.out]
           exact rx_fin (3,[s[k]],0,0,1) k _ J65
         · have te:(((s[k]).toNat:Int) == (p.toNat:Int)) = false:=by
             simp;intro h;exact he (UInt8.toNat_inj.mp J2)
           have HE:Hid (s[k]≠p):=he
           clear he
           go_upto_region 20 with fail
           go_quiet (fail)
           go_wp2_with fail
           go_roundw
           case rel =>
             refine ⟨i+1,by omega,by go_num,fun m h p' hp'=>?_,HX.out.drewN _,HB.out.ext ((Ext.refl wr).drewN _)⟩
             by_cases hm:m = i
             · subst hm
               have e:=HP.out
               rw [hp'] at e
               cases e
               exact HE.out
             · exact HF2.out m J2 p' hp'
           case measure=>simp [intOf];omega
       · have hl2:¬ (i:Int) < 12:=J2
         have B3:=HB.out
         have X3:=HX.out
         have D3:=B3
         obtain ⟨_,⟨b0,b1,b2,b3,b4⟩,f0,f1,f2,f3,f4⟩:=D3
         go_wp2_with fail
         refine fin5 _ (B3.set _ _ _ _ _) rfl J0 J13 (fun h=>⟨?_,h⟩)
         have hno:s[k] ∉ sg12:=by
           intro hm
           obtain ⟨m,hm1,hm2⟩:=List.getElem_of_mem hm
           exact HF2.out m (by simp [sg12] at hm1;omega) s[k] (by rw [gEq hm1,hm2]) rfl
         rw [HR.out,HW.out,if_neg hno]
         exact rfl
theorem owt_new (W:World) (base:Nat) (h:base≤W.heap.size):OwT (W.alloc (.cells #[] 91)) base (.slice (some ⟨W.heap.size,0,none⟩) 0 0) [] :=
 World.ownsRow_made W #[] 0 h J30 J65
theorem W_spz (l:List UInt8) (j:Nat) (h:j < l.length) (hc:l[j] = 32):W j (l.drop j) = W (j+1) (l.drop (j+1)):=by
 rw [List.drop_eq_getElem_cons h,hc,W_blank]
theorem qwords_any (s:ByteArray) (w:World) (hs:s.size≤maxLen) :
   Calls Tryz.prog 48 #[.string s] w (WordsQ w s.data.toList):=by
 unfold maxLen at hs
 have hl:=size_list s
 by_cases h:300 < s.size
 · have hI:(300:Int) < (s.size:Int):=J2
   have HX:Hid (lexR s.data.toList = ([],0,2)):=by show _ = _;unfold lexR;rw [if_pos J2]
   go_enter func48,ntmps48
   go_wp2_with fail
   go_ret3
   unfold WordsQ
   rw [HX.out]
   exact ⟨_,rfl,RdT.nil _,Ext.refl _⟩
 have hI:¬ (300:Int) < (s.size:Int):=J2
 have hs3:s.size≤300:=J2
 obtain ⟨l,hll⟩:∃ l,s.data.toList = l:=⟨_,rfl⟩
 have HL:Hid (l.length = s.size):=by show _ = _;rw [← hll];exact hl
 have HG:Hid (∀ i (h:i < s.size) (h':i < l.length),l[i] = s[i]):=by intro i h h';subst hll;rfl
 have cN:=fun k W h=>qword_any s k W h hs3
 have HN:Hid (∀ k W (h:k < s.size),Calls Tryz.prog 82 #[.string s,.int .i64 (k:Int)] W fun e w'=>RxR (nxt (l.drop k)) k e∧Ext W w'):=by intro k W h;have:=cN k W h;rwa [hll] at this
 have HR:Hid (∀ ts,W 0 l = .ok ts→lexR l = (ts,0,0)):=by intro ts h;unfold lexR;rw [if_neg (by rw [← hll];omega),h]
 have HF:Hid (∀ p c,W 0 l = .error (p,c)→lexR l = ([],(p:Int),c)):=by intro p c h;unfold lexR;rw [if_neg (by rw [← hll];omega),h]
 rw [hll]
 clear hl hll cN h hs
 go_enter func48,ntmps48
 go_wp2_with fail
 go_loopw [5,6] (fun v x wr=>∃ (j:Nat) (acc:List Tk),x = .int .i64 (j:Int)∧j≤s.size∧W 0 l = (W j (l.drop j)).map (fun ts=>acc ++ ts)∧acc.length≤j∧OwT wr w.heap.size v acc∧Ext w wr) (fun _ x _=>s.size - (intOf x).toNat)
 case atStart=>exact ⟨0,[],rfl,Nat.zero_le _,map_nil _,Nat.le_refl _,owt_new w _ nrf,xr.alloc _⟩
 case round =>
   obtain ⟨j,acc,rfl,hj,hW,ha,hO,hE⟩:=hrel
   have HW:Hid (W 0 l = (W j (l.drop j)).map (fun ts=>acc ++ ts)):=hW
   have HA:Hid (acc.length≤j):=ha
   have HO:Hid (OwT wr w.heap.size u5 acc∧Ext w wr):=⟨hO,hE⟩
   clear hW ha hO hE
   by_cases hlt:j < s.size
   · have hltI:(j:Int) < (s.size:Int):=J2
     have wk:wrap64 ((j:Int)+1) = ((j+1:Nat):Int):=J72
     have hb:=byte_ne (c:=s[j]) 32 J2
     by_cases h1:s[j] = 32
     · have tb:(((s[j]).toNat:Int) == 32) = true:=by rw [show (32:Int) = ((32:Nat):Int) from rfl,hb,h1];rfl
       have HX:Hid (W 0 l = (W (j+1) (l.drop (j+1))).map (fun ts=>acc ++ ts)):=by
         show _ = _;rw [HW.out,W_spz l j (by have:=HL.out;omega) (by rw [HG.out j hlt];exact h1)]
       clear hb h1
       go_wp2_with fail
       go_roundw
       case rel=>exact ⟨j+1,acc,by go_num,by omega,HX.out,by have:=HA.out;omega,HO.out.1,HO.out.2⟩
       case measure=>simp [intOf];omega
     have tb:(((s[j]).toNat:Int) == 32) = false:=by rw [show (32:Int) = ((32:Nat):Int) from rfl,hb];simpa using h1
     have hW2:=W_at l j (by have:=HL.out;omega) (by rw [HG.out j hlt];exact h1)
     have c1:=HN.out j wr hlt
     cases hx:nxt (l.drop j) with
     | error c =>
       have HX:Hid (lexR l = ([],(j:Int),c)):=HF.out j c (by rw [HW.out,hW2,hx];rfl)
       have hc0:(c != 0) = true:=by
         have:=nxt_code hx
         rcases this with rfl | rfl <;> rfl
       have C:Calls Tryz.prog 82 #[.string s,.int .i64 (j:Int)] wr fun e w'=>e = .returned (.tuple #[.agg #[.int .i64 0,.int .i64 0,.string ⟨#[]⟩,.int .i64 0,.int .i64 0],.int .i64 (j:Int),.int .i64 c])∧Ext wr w':=by rw [hx] at c1;exact c1
       clear hx c1 hW2 hb h1
       go_wp2_with fail
       refine C.mono ?_
       rintro e w1 ⟨rfl,E1⟩
       have HE1:Hid (Ext w w1):=HO.out.2.trans E1
       clear E1
       go_wp2_with fail
       go_ret3
       unfold WordsQ
       rw [HX.out]
       exact ⟨_,rfl,RdT.nil _,HE1.out.alloc _⟩
     | ok x =>
       have hpos:=nxt_pos hx
       have HX:Hid (W 0 l = (W (j+x.2.2.2.2) (l.drop (j+x.2.2.2.2))).map (fun ts=>acc ++ [tkOf x j] ++ ts)):=by
         show _ = _
         rw [HW.out,hW2,hx]
         simp only []
         cases W (j+x.2.2.2.2) (l.drop (j+x.2.2.2.2)) <;> simp [Except.map]
       have hmS:j+x.2.2.2.2≤s.size:=by have:=hpos.2;have:=HL.out;simp at *;omega
       have hmJ:1≤x.2.2.2.2:=hpos.1
       have C:Calls Tryz.prog 82 #[.string s,.int .i64 (j:Int)] wr fun e w'=>e = .returned (.tuple #[.agg #[.int .i64 x.1,.int .i64 (j:Int),.string (bs x.2.1),.int .i64 x.2.2.1,.int .i64 x.2.2.2.1],.int .i64 ((j+x.2.2.2.2:Nat):Int),.int .i64 0])∧Ext wr w':=by rw [hx] at c1;exact c1
       obtain ⟨x0,x1,x2,x3,x4⟩:=x
       simp only [] at C HX hmS hmJ
       obtain ⟨m,hm⟩:∃ m,j+x4 = m:=⟨_,rfl⟩
       obtain ⟨q1,hq1⟩:∃ q1,bs x1 = q1:=⟨_,rfl⟩
       rw [hm] at C HX hmS
       rw [hq1] at C
       have HJ:Hid (j < m∧m≤s.size):=⟨by omega,hmS⟩
       have HQ:Hid (bs x1 = q1):=hq1
       have HA2:Hid (acc.length≤100000):=by have:=HA.out;show _≤_;omega
       clear hx c1 hpos hm hq1 hmJ hW2 hb h1
       go_wp2_with fail
       refine C.mono ?_
       rintro e w1 ⟨rfl,E1⟩
       have HO1:Hid (OwT w1 w.heap.size u5 acc∧Ext w w1):=⟨HO.out.1.ext E1,HO.out.2.trans E1⟩
       clear E1
       go_wp2_with (at_builtin;refine tk_append _ w.heap.size _ _ _ _ acc (x0,(j:Int),x1,x2,x3) rfl rfl J26 J26 (HO1.out.1.ext ((xr.alloc _).alloc _)) ?cR HA2.out (by have:=HO1.out.2.sz;simp;omega) ?_)
       case cR=>exact new_tk J65 HQ.out
       intro v' w2 k1 k2 g cap hv
       have hE2:=grown_ext k2 (HO1.out.1.ext ((xr.alloc _).alloc _)) ((HO1.out.2.alloc _).alloc _) nrf
       have HO2:Hid (OwT w2 w.heap.size v' (acc ++ [(x0,(j:Int),x1,x2,x3)])∧Ext w w2):=⟨k1,hE2⟩
       clear k1 k2 hE2
       subst hv
       go_wp2_with fail
       go_roundw
       case rel =>
         have h4:=HJ.out
         have h7:=HA.out
         exact ⟨m,acc ++ [(x0,(j:Int),x1,x2,x3)],rfl,h4.2,HX.out,by simp;omega,HO2.out.1,HO2.out.2⟩
       case measure=>have h4:=HJ.out;simp [intOf];omega
   · have hltI:¬ (j:Int) < (s.size:Int):=J2
     have hjs:j = s.size:=J2
     have HX:Hid (lexR l = (acc ++ [endT s.size],0,0)):=HR.out _ (by rw [HW.out,List.drop_eq_nil_of_le (by have:=HL.out;omega),W_nil,hjs];rfl)
     have HA2:Hid (acc.length≤100000):=by have:=HA.out;show _≤_;omega
     clear hjs
     go_wp2_with (at_builtin;refine tk_append _ w.heap.size _ _ _ _ acc (endT s.size) rfl rfl J26 J26 (HO.out.1.ext (xr.alloc _)) ?cR HA2.out (by have:=HO.out.2.sz;simp;omega) ?_)
     case cR=>exact fun _ _ h=>h
     intro v' w2 k1 k2 g cap hv
     have hE2:=grown_ext k2 (HO.out.1.ext (xr.alloc _)) (HO.out.2.alloc _) nrf
     have HO2:Hid (OwT w2 w.heap.size v' (acc ++ [endT s.size])∧Ext w w2):=⟨k1,hE2⟩
     clear k1 k2 hE2
     subst hv
     go_wp2_with fail
     go_ret3
     unfold WordsQ
     rw [HX.out]
     exact ⟨_,rfl,HO2.out.1.rd,HO2.out.2⟩
def RFormQ (w:World) (l:List UInt8) (e:Ending) (w':World):Prop:=∃ (x:T) (lv:Value) (pa pe:Int),e = .returned (.tuple #[aggX x lv,.int .i64 pa,.int .i64 pe])∧IsL w' (w.heap.size≤·) lv x.l∧Ext w w'∧(if (parR l).2.2 = 0 then x = (parR l).1∧pa = 0∧pe = 0 else x = tz∧pe≠0)
theorem prs_cases (ts:List Tk):(∃ x ts1,LvK (O ts.length) 1 0 ts = .ok (x,ts1)∧(hd ts1).1 = 5∧prs ts = (x,0,0))∨(∃ x ts1,LvK (O ts.length) 1 0 ts = .ok (x,ts1)∧(hd ts1).1≠5∧(prs ts).2.2≠0)∨(∃ f,LvK (O ts.length) 1 0 ts = .error f∧(prs ts).2.2≠0):=by
 have e:LvK (O ts.length) 1 0 ts = frm (O ts.length) 0 ts:=rfl
 rw [e]
 unfold prs
 cases frm (O ts.length) 0 ts with
 | error f =>
   refine .inr (.inr ⟨f,rfl,?_⟩)
   show cd f.2≠0
   unfold cd
   split <;> decide
 | ok q =>
   obtain ⟨x,ts1⟩:=q
   by_cases h5:(hd ts1).1 = 5
   · exact .inl ⟨x,ts1,rfl,h5,if_pos h5⟩
   · refine .inr (.inl ⟨x,ts1,rfl,h5,?_⟩)
     show (if (hd ts1).1 = 5 then (x,0,0) else (tz,(hd ts1).2.1,4):T × Int × Int).2.2≠0
     rw [if_neg h5]
     exact (by decide:(4:Int)≠0)
theorem rformula_bad (s:ByteArray) (w:World) (l:List UInt8) (hl:s.data.toList = l) (hs:s.size≤maxLen) (h0:(lexR l).2.2≠0):Calls Tryz.prog 23 #[.string s] w (RFormQ w l):=by
 have c1:=qwords_any s (w.alloc (.cells #[.int .i64 0,.int .i64 0,.string ⟨#[]⟩,.int .i64 0,.int .i64 0,.int .i64 0,.bool false,.bool false,.int .i64 0,.int .i64 0,.bool false,.bool false,.slice none 0 0] 43)) hs
 rw [hl] at c1
 have HPR:Hid (parR l = (tz,(lexR l).2.1,(lexR l).2.2)):=by show _ = _;unfold parR;rw [if_neg h0]
 have hne:((lexR l).2.2 != 0) = true:=J103
 have hne2:((lexR l).2.2 == 0) = false:=J103
 unfold WordsQ at c1
 obtain ⟨pa,hpa⟩:∃ pa,(lexR l).2.1 = pa:=⟨_,rfl⟩
 obtain ⟨pe,hpe⟩:∃ pe,(lexR l).2.2 = pe:=⟨_,rfl⟩
 rw [hpa,hpe] at c1 HPR
 rw [hpe] at hne hne2
 have HP0:Hid (pe≠0):=by rw [hpe] at h0;exact h0
 clear hpa hpe h0 hl
 go_enter func23,ntmps23
 go_wp2_with fail
 refine c1.mono ?_
 rintro e w1 ⟨v,rfl,hR,E1⟩
 have HB:Hid (BlkX w1 w.heap.size tz (.slice none 0 0)∧Ext w w1):=⟨BlkX.top rfl E1,((Ext.refl w).alloc _).trans E1⟩
 have HB0:=HB.out.1
 obtain ⟨qa,⟨la0,la1,la2,la3,la4,la5,la6,la7,la8,la9,la10,la11,la12⟩,ga0,ga1,ga2,ga3,ga4,ga5,ga6,ga7,ga8,ga9,ga10,ga11,ga12⟩:=HB0
 clear c1 hR E1
 go_wp2_with fail
 have HB9:=HB.out.1
 have HX9:=HB.out.2
 show bodyPost Tryz.prog _ _ _ _ (putX w1 w.heap.size (tz) (.slice none 0 0))
 obtain ⟨z,⟨k0,k1,k2,k3,k4,k5,k6,k7,k8,k9,k10,k11,k12⟩,ff⟩:=HB9.put (tz) (.slice none 0 0)
 have HE9:=putX_E HX9 (Nat.le_refl w.heap.size) (tz) (.slice none 0 0)
 refine bodyPost_ret (v:=.tuple #[aggX (tz) (.slice none 0 0),.int .i64 pa,.int .i64 pe]) J28 rfl ?_
 refine ⟨tz,_,pa,pe,rfl,.nil,HE9,?_⟩
 rw [HPR.out]
 show (if pe = 0 then _ else _)
 rw [if_neg HP0.out]
 exact ⟨rfl,HP0.out⟩
theorem rformula_ok (s:ByteArray) (w:World) (l:List UInt8) (hl:s.data.toList = l) (hs:s.size≤maxLen) (h0:(lexR l).2.2 = 0):Calls Tryz.prog 23 #[.string s] w (RFormQ w l):=by
 have c1:=qwords_any s (w.alloc (.cells #[.int .i64 0,.int .i64 0,.string ⟨#[]⟩,.int .i64 0,.int .i64 0,.int .i64 0,.bool false,.bool false,.int .i64 0,.int .i64 0,.bool false,.bool false,.slice none 0 0] 43)) hs
 rw [hl] at c1
 obtain ⟨ts,hl300,hW,hlex⟩:=lexR_cases l |>.resolve_right (by rintro ⟨p,c,h1,h2,_⟩;rw [h1] at h0;simp only [] at h0;omega)
 have HPR:Hid (parR l = prs ts):=by show _ = _;unfold parR;rw [if_pos h0,hlex]
 have HTS:Hid (Nz ts∧(∀ t ∈ ts,Kd t)∧ts.length≤400):=⟨W_nz hW,fun t ht=>⟨Nat.le_trans (W_len l.length l 0 ts nrf hW t ht) hl300,W_kd l.length l 0 ts nrf hW t ht⟩,by have:=(W_count l.length l 0 ts nrf hW).1;omega⟩
 unfold WordsQ at c1
 rw [hlex] at c1
 clear hl300 hW hlex h0 hl
 go_enter func23,ntmps23
 go_wp2_with fail
 refine c1.mono ?_
 rintro e w1 ⟨v,rfl,hR,E1⟩
 obtain ⟨tp,tc,hv,htc⟩:=hR.form
 obtain ⟨tb,off,t0,htp,_⟩:=(hv ▸ hR).at (k:=0) (by have:=HTS.out.1.pos;omega)
 subst htp
 obtain ⟨tn,htn⟩:∃ tn,ts.length = tn:=⟨_,rfl⟩
 rw [htn] at hv
 subst hv
 have hw1:w.heap.size+1≤w1.heap.size:=by have:=E1.size;simp at this;omega
 have HB:Hid (BlkX w1 w.heap.size tz (.slice none 0 0)∧Ext w w1∧RdT w1 (.slice (some ⟨tb,off,none⟩) tn tc) ts∧ts.length = tn):=⟨BlkX.top rfl E1,((Ext.refl w).alloc _).trans E1,hR,htn⟩
 clear c1 hR E1 htc htn
 go_wp2_with fail
 have E2:Ext w1 (w1.alloc (.cells #[.slice (some ⟨tb,off,none⟩) tn tc,.int .i64 0,.int .i64 0,.int .i64 0,.int .i64 0] 88)):=xr.alloc _
 have hz2:w1.heap.size < (w1.alloc (.cells #[.slice (some ⟨tb,off,none⟩) tn tc,.int .i64 0,.int .i64 0,.int .i64 0,.int .i64 0] 88)).heap.size:=J65
 have R2:Rp w1 w1.heap.size (w1.alloc (.cells #[.slice (some ⟨tb,off,none⟩) tn tc,.int .i64 0,.int .i64 0,.int .i64 0,.int .i64 0] 88)) ts ((0:Nat):Int) 0 0:=⟨E2,Nat.le_refl _,HTS.out.1,HTS.out.2.2,HTS.out.2.1,by decide,by decide,tb,off,tc,tn,0,ts,HB.out.2.2.1,HB.out.2.2.2,by have:=HTS.out.2.2;have:=HB.out.2.2.2;omega,by have:=HTS.out.1.pos;have:=HB.out.2.2.2;omega,rfl,blk5_top rfl xr⟩
 have c2:=reader_all w1 w1.heap.size ts.length (w1.alloc (.cells #[.slice (some ⟨tb,off,none⟩) tn tc,.int .i64 0,.int .i64 0,.int .i64 0,.int .i64 0] 88)) ts 0 0 1 R2 nrf J2 J2 J2
 have H2:Hid (BlkX (w1.alloc (.cells #[.slice (some ⟨tb,off,none⟩) tn tc,.int .i64 0,.int .i64 0,.int .i64 0,.int .i64 0] 88)) w.heap.size tz (.slice none 0 0)∧Ext w (w1.alloc (.cells #[.slice (some ⟨tb,off,none⟩) tn tc,.int .i64 0,.int .i64 0,.int .i64 0,.int .i64 0] 88))):=⟨HB.out.1.ext E2,HB.out.2.1.trans E2⟩
 clear R2 E2
 generalize (w1.alloc (.cells #[.slice (some ⟨tb,off,none⟩) tn tc,.int .i64 0,.int .i64 0,.int .i64 0,.int .i64 0] 88)) = W2 at *
 refine c2.mono ?_
 intro e w3 h3
 obtain ⟨x,p,ln,c,rfl,hY⟩:=h3.form
 obtain ⟨us,d2,pa2,why2,R3,hd2,hd3,HY⟩:=hY.state J9
 have H3:Hid (BlkX w3 w.heap.size tz (.slice none 0 0)∧Ext w w3∧Rp w1 w1.heap.size w3 us d2 pa2 why2∧w.heap.size+1≤W2.heap.size):=⟨H2.out.1.extB hY.1 J2,hY.1.ext H2.out.2 J2,R3,by omega⟩
 have hw3:w1.heap.size < w3.heap.size:=R3.lt.1
 clear h3 hY c2 hd2 hd3 R3
 unfold aggX
 have E4:Ext w3 (w3.alloc (.cells #[.int .i64 x.k,.int .i64 x.n,.string (bs x.s),.int .i64 x.e,.int .i64 x.r.1,.int .i64 x.r.2.1,.bool x.r.2.2.1,.bool x.r.2.2.2,.int .i64 x.q.1,.int .i64 x.q.2.1,.bool x.q.2.2.1,.bool x.q.2.2.2,.slice p ln c] 43)):=xr.alloc _
 have B4:BlkX (w3.alloc (.cells #[.int .i64 x.k,.int .i64 x.n,.string (bs x.s),.int .i64 x.e,.int .i64 x.r.1,.int .i64 x.r.2.1,.bool x.r.2.2.1,.bool x.r.2.2.2,.int .i64 x.q.1,.int .i64 x.q.2.1,.bool x.q.2.2.1,.bool x.q.2.2.2,.slice p ln c] 43)) w3.heap.size x (.slice p ln c):=blk13_top rfl xr
 have H4:Hid (BlkX (w3.alloc (.cells #[.int .i64 x.k,.int .i64 x.n,.string (bs x.s),.int .i64 x.e,.int .i64 x.r.1,.int .i64 x.r.2.1,.bool x.r.2.2.1,.bool x.r.2.2.2,.int .i64 x.q.1,.int .i64 x.q.2.1,.bool x.q.2.2.1,.bool x.q.2.2.2,.slice p ln c] 43)) w.heap.size tz (.slice none 0 0)∧Ext w (w3.alloc (.cells #[.int .i64 x.k,.int .i64 x.n,.string (bs x.s),.int .i64 x.e,.int .i64 x.r.1,.int .i64 x.r.2.1,.bool x.r.2.2.1,.bool x.r.2.2.2,.int .i64 x.q.1,.int .i64 x.q.2.1,.bool x.q.2.2.1,.bool x.q.2.2.2,.slice p ln c] 43))∧Rp w1 w1.heap.size (w3.alloc (.cells #[.int .i64 x.k,.int .i64 x.n,.string (bs x.s),.int .i64 x.e,.int .i64 x.r.1,.int .i64 x.r.2.1,.bool x.r.2.2.1,.bool x.r.2.2.2,.int .i64 x.q.1,.int .i64 x.q.2.1,.bool x.q.2.2.1,.bool x.q.2.2.2,.slice p ln c] 43)) us d2 pa2 why2∧BlkX (w3.alloc (.cells #[.int .i64 x.k,.int .i64 x.n,.string (bs x.s),.int .i64 x.e,.int .i64 x.r.1,.int .i64 x.r.2.1,.bool x.r.2.2.1,.bool x.r.2.2.2,.int .i64 x.q.1,.int .i64 x.q.2.1,.bool x.q.2.2.1,.bool x.q.2.2.2,.slice p ln c] 43)) w3.heap.size x (.slice p ln c)∧Ext w3 (w3.alloc (.cells #[.int .i64 x.k,.int .i64 x.n,.string (bs x.s),.int .i64 x.e,.int .i64 x.r.1,.int .i64 x.r.2.1,.bool x.r.2.2.1,.bool x.r.2.2.2,.int .i64 x.q.1,.int .i64 x.q.2.1,.bool x.q.2.2.1,.bool x.q.2.2.2,.slice p ln c] 43))):=⟨H3.out.1.ext E4,H3.out.2.1.trans E4,H3.out.2.2.1.ext E4,B4,E4⟩
 have c3:=rt_any H4.out.2.2.1
 unfold tkA at c3
 have kf0:=fun W=>tkf0 (hd us) W
 obtain ⟨u,hu⟩:∃ u,hd us = u:=⟨_,rfl⟩
 have HU:Hid (hd us = u):=hu
 rw [hu] at c3 kf0
 clear E4 B4 hu
 go_wp2_with fail
 refine c3.mono ?_
 rintro e w5 ⟨rfl,E5⟩
 have H5:Hid (BlkX w5 w.heap.size tz (.slice none 0 0)∧Ext w w5∧Rp w1 w1.heap.size w5 us d2 pa2 why2∧BlkX w5 w3.heap.size x (.slice p ln c)∧Ext w3 w5):=⟨H4.out.1.ext E5,H4.out.2.1.trans E5,H4.out.2.2.1.ext E5,H4.out.2.2.2.1.ext E5,H4.out.2.2.2.2.trans E5⟩
 have hw5:w3.heap.size < w5.heap.size:=H5.out.2.2.2.1.1
 clear c3 E5
 by_cases h5:u.1 = 5
 · have n5:(u.1 != 5) = false:=by rw [h5];rfl
   have H55:Hid (u.1 = 5):=h5
   clear h5
   by_cases hw:why2 = 0
   · have w0':(why2 != 0) = false:=by rw [hw];rfl
     have HW:Hid (why2 = 0):=hw
     have HB0:=H5.out.1
     obtain ⟨qa,⟨la0,la1,la2,la3,la4,la5,la6,la7,la8,la9,la10,la11,la12⟩,ga0,ga1,ga2,ga3,ga4,ga5,ga6,ga7,ga8,ga9,ga10,ga11,ga12⟩:=HB0
     have HB1:=H5.out.2.2.2.1
     obtain ⟨qc,⟨lc0,lc1,lc2,lc3,lc4,lc5,lc6,lc7,lc8,lc9,lc10,lc11,lc12⟩,gc0,gc1,gc2,gc3,gc4,gc5,gc6,gc7,gc8,gc9,gc10,gc11,gc12⟩:=HB1
     have HR5:=H5.out.2.2.1
     obtain ⟨g0,g1,g2,g3,g4,g5,g6,tb,off,cc,nn,ii,all,u1,u2,u3,u4,u5,u6⟩:=HR5
     obtain ⟨hz,⟨b0,b1,b2,b3,b4⟩,f0,f1,f2,f3,f4⟩:=u6
     clear g0 g1 g2 g3 g4 g5 g6 u1 u2 u3 u4 u5
     clear hw
     go_wp2_with fail
     have HB9:=H5.out.1
     have HX9:=H5.out.2.1
     show bodyPost Tryz.prog _ _ _ _ (putX w5 w.heap.size (x) (.slice p ln c))
     obtain ⟨z,⟨k0,k1,k2,k3,k4,k5,k6,k7,k8,k9,k10,k11,k12⟩,ff⟩:=HB9.put (x) (.slice p ln c)
     have HE9:=putX_E HX9 (Nat.le_refl w.heap.size) (x) (.slice p ln c)
     refine bodyPost_ret (v:=.tuple #[aggX (x) (.slice p ln c),.int .i64 0,.int .i64 0]) J28 rfl ?_
     have hpr:prs ts = (x,0,0)∧IsL w3 (W2.heap.size≤·) (.slice p ln c) x.l:=by
       rcases HY.out with ⟨_,_,y3,y4⟩ | ⟨y1,_⟩
       · rcases prs_cases ts with ⟨x',ts1,q1,q2,q3⟩ | ⟨x',ts1,q1,q2,_⟩ | ⟨f,q1,_⟩
         · rw [y3] at q1;cases q1;exact ⟨q3,y4⟩
         · rw [y3] at q1;cases q1;exact absurd (by rw [HU.out];exact H55.out) q2
         · rw [y3] at q1;cases q1
       · exact absurd HW.out y1
     refine ⟨x,_,0,0,rfl,?_,HE9,?_⟩
     · exact ((hpr.2.ext H5.out.2.2.2.2).keep J29 (fun j hj hs=>putX_heap _ _ _ _ _ (by have:=H3.out.2.2.2;omega)) (fun j hj _=>hj)).mono (fun j hj _=>by have:=H3.out.2.2.2;omega)
     · rw [HPR.out,hpr.1]
       exact ⟨rfl,rfl,rfl⟩
   · have w0':(why2 != 0) = true:=J122
     have HW:Hid (why2≠0):=hw
     have HB0:=H5.out.1
     obtain ⟨qa,⟨la0,la1,la2,la3,la4,la5,la6,la7,la8,la9,la10,la11,la12⟩,ga0,ga1,ga2,ga3,ga4,ga5,ga6,ga7,ga8,ga9,ga10,ga11,ga12⟩:=HB0
     have HR5:=H5.out.2.2.1
     obtain ⟨g0,g1,g2,g3,g4,g5,g6,tb,off,cc,nn,ii,all,u1,u2,u3,u4,u5,u6⟩:=HR5
     obtain ⟨hz,⟨b0,b1,b2,b3,b4⟩,f0,f1,f2,f3,f4⟩:=u6
     clear g0 g1 g2 g3 g4 g5 g6 u1 u2 u3 u4 u5
     clear hw
     go_wp2_with fail
     go_region
     go_wp2_with fail
     have HB9:=H5.out.1
     have HX9:=H5.out.2.1
     show bodyPost Tryz.prog _ _ _ _ (putX w5 w.heap.size tz (.slice none 0 0)).drew
     obtain ⟨z,⟨k0,k1,k2,k3,k4,k5,k6,k7,k8,k9,k10,k11,k12⟩,ff⟩:=(HB9.put tz (.slice none 0 0)).ext xr.drew
     have HE9:=putX_E HX9 (Nat.le_refl w.heap.size) tz (.slice none 0 0)
     refine bodyPost_ret (v:=.tuple #[aggX tz (.slice none 0 0),.int .i64 pa2,.int .i64 why2]) J28 rfl ?_
     have hpr:(prs ts).2.2≠0:=by
       rcases HY.out with ⟨y1,_⟩ | ⟨_,⟨f,y2⟩,_⟩
       · exact absurd y1 HW.out
       · exact K112
     refine ⟨tz,_,pa2,why2,rfl,.nil,HE9.drew,?_⟩
     rw [HPR.out,if_neg hpr]
     exact ⟨rfl,HW.out⟩
 · have n5:(u.1 != 5) = true:=by simpa using h5
   have H55:Hid (u.1≠5):=h5
   clear h5
   go_wp2_with fail
   refine (rbad_any H5.out.2.2.1 4).mono ?_
   rintro e w6 ⟨rfl,R6,X6⟩
   obtain ⟨pa6,hpa6⟩:∃ pa6,(if why2 = 0 then (hd us).2.1 else pa2) = pa6:=⟨_,rfl⟩
   obtain ⟨why6,hwhy6⟩:∃ why6,(if why2 = 0 then (4:Int) else why2) = why6:=⟨_,rfl⟩
   have hwn:why6≠0:=by rw [← hwhy6];split <;> omega
   rw [hpa6,hwhy6] at R6
   have H6:Hid (BlkX w6 w.heap.size tz (.slice none 0 0)∧Ext w w6):=⟨H5.out.1.extB X6 J2,X6.ext H5.out.2.1 J2⟩
   have w0':(why6 != 0) = true:=by simpa using hwn
   have HW:Hid (why6≠0):=hwn
   have HB0:=H6.out.1
   obtain ⟨qa,⟨la0,la1,la2,la3,la4,la5,la6,la7,la8,la9,la10,la11,la12⟩,ga0,ga1,ga2,ga3,ga4,ga5,ga6,ga7,ga8,ga9,ga10,ga11,ga12⟩:=HB0
   have HR6:=R6
   obtain ⟨g0,g1,g2,g3,g4,g5,g6,tb,off,cc,nn,ii,all,u1,u2,u3,u4,u5,u6⟩:=HR6
   obtain ⟨hz,⟨b0,b1,b2,b3,b4⟩,f0,f1,f2,f3,f4⟩:=u6
   clear g0 g1 g2 g3 g4 g5 g6 u1 u2 u3 u4 u5
   clear hwn R6 X6 hpa6 hwhy6
   go_wp2_with fail
   go_region
   go_wp2_with fail
   have HB9:=H6.out.1
   have HX9:=H6.out.2
   show bodyPost Tryz.prog _ _ _ _ (putX w6 w.heap.size tz (.slice none 0 0)).drew
   obtain ⟨z,⟨k0,k1,k2,k3,k4,k5,k6,k7,k8,k9,k10,k11,k12⟩,ff⟩:=(HB9.put tz (.slice none 0 0)).ext xr.drew
   have HE9:=putX_E HX9 (Nat.le_refl w.heap.size) tz (.slice none 0 0)
   refine bodyPost_ret (v:=.tuple #[aggX tz (.slice none 0 0),.int .i64 pa6,.int .i64 why6]) J28 rfl ?_
   have hpr:(prs ts).2.2≠0:=by
     rcases HY.out with ⟨_,_,y3,y4⟩ | ⟨_,⟨f,y2⟩,_⟩
     · rcases prs_cases ts with ⟨x',ts1,q1,q2,q3⟩ | ⟨x',ts1,q1,q2,q3⟩ | ⟨f,q1,_⟩
       · rw [y3] at q1;cases q1;exact absurd (by rw [← HU.out];exact q2) H55.out
       · exact q3
       · rw [y3] at q1;cases q1
     · exact K112
   refine ⟨tz,_,pa6,why6,rfl,.nil,HE9.drew,?_⟩
   rw [HPR.out,if_neg hpr]
   exact ⟨rfl,HW.out⟩
theorem rformula_any (s:ByteArray) (w:World) (hs:s.size≤maxLen):Calls Tryz.prog 23 #[.string s] w (RFormQ w s.data.toList):=by
 by_cases h0:(lexR s.data.toList).2.2 = 0
 · exact rformula_ok s w _ rfl hs h0
 · exact rformula_bad s w _ rfl hs h0
theorem eq_val (k n:Int) (s:ByteArray) (e:Int) (w:World):Sem.run Tryz.prog (Op.equalIn 10000 33 (.agg #[.int .i64 k,.int .i64 n,.string s,.int .i64 e]) (.agg #[.int .i64 k,.int .i64 n,.string s,.int .i64 e])) w = .ok true w:=by
 have u3:=Tryz.underlying3
 have a3:=Tryz.isAgg3
 have z3:=Tryz.sizeOf3
 have u9:=Tryz.underlying9
 have u2:=Tryz.underlying2
 have hS:Tryz.prog.underlying 33 = some (.struct (Tryz.prog.fieldsOf 33)):=J3
 have hp:Tryz.prog.stoodInHeld 33 = false:=J3
 rw [show (10000:Nat) = 9999+1 from rfl,run_equalIn_agg w 9999 33 _ _ hS hp]
 simp only [Program.fieldsOf,Tryz.underlying33]
 go_simp
theorem gd_val (x y:Array Value) (op:BinOp) (a b:Operand) (w:World):(eqGuard op 33 a b (.agg x) (.agg y)).run Tryz.prog w = .ok () w:=run_eqGuard_agg w op 33 a b x y J3
def tA:T:=tBin [43] (tRef (1,1,false,false)) (tNum 10000)
theorem par_A:parR [65,49,43,49] = (tA,0,0):=J3
theorem hr_A:Hr 3 tA:=⟨by show 2≤100000;decide,by
 intro x hx
 simp [tA,tBin,T.l] at hx
 rcases hx with rfl | rfl
 · exact ⟨by show 0≤100000;decide,by intro y hy;cases hy⟩
 · exact ⟨by show 0≤100000;decide,by intro y hy;cases hy⟩⟩
theorem wf_A:Wf tA:=by
 have z:I64 0:=I64.z
 refine .mk _ ⟨by decide,by decide⟩ z J9 z z z z z ?_
 intro x hx
 simp [tA,tBin,T.l] at hx
 rcases hx with rfl | rfl
 · exact .mk _ ⟨by decide,by decide⟩ z J9 z ⟨by decide,by decide⟩ ⟨by decide,by decide⟩ z z (by intro y hy;cases hy)
 · exact .mk _ z ⟨by decide,by decide⟩ J9 z z z z z (by intro y hy;cases hy)
theorem well_A:wellT 3 tA = true:=J3
theorem ev_A1:expV 3 (bset bz 1 1 (.num 20000)) tA = .num 30000:=by
 unfold expV
 rw [well_A,if_pos rfl]
 kernel_rfl
theorem ev_A0:evT 3 bz tA = .num 10000:=J3
theorem formA_any (W:World):Calls Tryz.prog 23 #[.string ⟨#[65,49,43,49]⟩] W fun e w'=>∃ p c,e = .returned (.tuple #[.agg #[.int .i64 7,.int .i64 0,.string ⟨#[43]⟩,.int .i64 0,.int .i64 0,.int .i64 0,.bool false,.bool false,.int .i64 0,.int .i64 0,.bool false,.bool false,.slice p 2 c],.int .i64 0,.int .i64 0])∧IsL w' (W.heap.size≤·) (.slice p 2 c) tA.l∧Ext W w':=by
 refine (rformula_any ⟨#[65,49,43,49]⟩ W J9).mono ?_
 rintro e w' ⟨x,lv,pa,pe,rfl,hL,hE,hq⟩
 rw [show (⟨#[65,49,43,49]⟩:ByteArray).data.toList = [65,49,43,49] from rfl,par_A] at hq
 rw [if_pos rfl] at hq
 obtain ⟨rfl,rfl,rfl⟩:=hq
 obtain ⟨p,c,rfl,_⟩:=hL.form
 exact ⟨p,c,rfl,hL,hE⟩
theorem lives15_any (W:World) (hN:Nm W) (hT:Tab W):Calls Tryz.prog 12 #[] W fun e w'=>e = .returned (.bool true)∧Ext W w':=by
 have qE:=eq_val
 have qG:=gd_val
 have cN:∀ n W,canB n = true→Calls Tryz.prog 33 #[.int .i64 n] W fun r w'=>r = .returned (.agg #[.int .i64 2,.int .i64 n,.string ⟨#[]⟩,.int .i64 0])∧Ext W w':=fun n W h=>by
   have:=rnum_any n W
   rwa [mkNum_is h] at this
 have cB:=fun W=>new_any W
 have cF:=fun W=>formA_any W
 have cP:=fun (V:World) (b:Nat) (h:Brd V b none 0 bz) (hn:Nm V)=>put_any V b 0 none bz h J9 1 1 2 20000 ⟨#[]⟩ 0 ⟨by decide,by decide⟩ hn
 rw [show nm 2 20000 ⟨#[]⟩ 0 = .num 20000 from rfl] at cP
 have cE:=fun (V:World) (b:Nat) (g:Option Nat) (p:Option Addr) (c:Nat) (h:Brd V b g 1 (bset bz 1 1 (.num 20000))) (e:Nm V) (f:Tab V) (hI:IsL V (fun _=>True) (.slice p 2 c) tA.l)=>exp_any b g 1 (bset bz 1 1 (.num 20000)) h.ok 3 tA wf_A hr_A V p 2 c ⟨h,e,f⟩ hI
 rw [ev_A1] at cE
 have cZ:=fun (V:World) (p:Option Addr) (c:Nat) (e:Nm V) (f:Tab V) (hI:IsL V (fun _=>True) (.slice p 2 c) tA.l)=>eexp_nil 3 tA wf_A hr_A well_A V p 2 c e f hI
 rw [ev_A0] at cZ
 simp only [V.k,V.n,V.s,V.e,tA,tBin,T.k,T.n,T.s,T.e,T.r,T.q,rz,bs] at cE cZ
 have HN:Hid (Nm W∧Tab W):=⟨hN,hT⟩
 clear hN hT
 go_enter func12,ntmps12
 go_wp2_with fail
 refine (cB _).mono ?_
 rintro e w1 ⟨rfl,hB1,E1⟩
 have H1:Hid (Brd w1 W.heap.size none 0 bz∧Ext W w1):=⟨hB1,E1⟩
 clear hB1 E1
 go_wp2_with fail
 refine (cF _).mono ?_
 rintro e w2 ⟨p,c,rfl,hL2,E2⟩
 have H2:Hid (Brd w2 W.heap.size none 0 bz∧Ext W w2∧IsL w2 (w1.heap.size≤·) (.slice p 2 c) tA.l∧W.heap.size < w1.heap.size):=⟨H1.out.1.ext E2,H1.out.2.trans E2,hL2,H1.out.1.lt⟩
 clear hL2 E2 cF cB
 go_wp2_with fail
 refine (cN _ _ J9).mono ?_
 rintro e w3 ⟨rfl,E3⟩
 have F3:Hid (Blk13 w3 w2.heap.size (.int .i64 7) (.int .i64 0) (.string ⟨#[43]⟩) (.int .i64 0) (.int .i64 0) (.int .i64 0) (.bool false) (.bool false) (.int .i64 0) (.int .i64 0) (.bool false) (.bool false) (.slice p 2 c)):=(blk13_top rfl xr).ext E3
 have H3:Hid (Brd w3 W.heap.size none 0 bz∧Ext W w3∧IsL w3 (w1.heap.size≤·) (.slice p 2 c) tA.l∧W.heap.size < w2.heap.size):=⟨H2.out.1.ext ((xr.alloc _).trans E3),(H2.out.2.1.alloc _).trans E3,H2.out.2.2.1.ext ((xr.alloc _).trans E3),H2.out.1.lt⟩
 clear E3
 go_wp2_with fail
 refine (cP _ _ H3.out.1 (HN.out.1.ext H3.out.2.1)).mono ?_
 rintro e w4 ⟨rfl,g,hB4,_,S4⟩
 have X4:Hid (Ext W w4):=S4.ext H3.out.2.1 (fun k hk=>by rcases hk with rfl | hk;exact Nat.le_refl _;cases hk)
 have hk4:w4.heap[w2.heap.size]? = w3.heap[w2.heap.size]?:=S4.block _ F3.out.1 (fun hk=>by rcases hk with hk | hk;(have:=H3.out.2.2.2;omega);cases hk)
 have k4:=fun o=>cell_of_heap hk4 o
 obtain ⟨zz,⟨a0,a1,a2,a3,a4,a5,a6,a7,a8,a9,a10,a11,a12⟩,_⟩:=F3.out
 have L4:Hid (IsL w4 (fun _=>True) (.slice p 2 c) tA.l∧Brd w4 W.heap.size g 1 (bset bz 1 1 (.num 20000))∧w2.heap.size < w4.heap.size):=⟨H3.out.2.2.1.keep S4.size (fun k hk hs=>S4.block k hs (fun hq=>by rcases hq with hq | hq;(have:=H2.out.2.2.2;omega);cases hq)) (fun _ _ _=>trivial),hB4,llL zz S4.size⟩
 have b0:=(k4 0).1.trans a0
 have b1:=(k4 1).1.trans a1
 have b2:=(k4 2).1.trans a2
 have b3:=(k4 3).1.trans a3
 have b4:=(k4 4).1.trans a4
 have b5:=(k4 5).1.trans a5
 have b6:=(k4 6).1.trans a6
 have b7:=(k4 7).1.trans a7
 have b8:=(k4 8).1.trans a8
 have b9:=(k4 9).1.trans a9
 have b10:=(k4 10).1.trans a10
 have b11:=(k4 11).1.trans a11
 have b12:=(k4 12).1.trans a12
 clear a0 a1 a2 a3 a4 a5 a6 a7 a8 a9 a10 a11 a12
 clear S4 hB4 hk4 k4 F3 cP zz
 go_wp2_with fail
 refine (cE _ _ _ _ _ L4.out.2.1 (HN.out.1.ext X4.out) (HN.out.2.ext X4.out) L4.out.1).mono ?_
 rintro e w5 ⟨rfl,E5⟩
 have X5:Hid (Ext W w5∧IsL w5 (fun _=>True) (.slice p 2 c) tA.l):=⟨X4.out.trans E5,L4.out.1.ext E5⟩
 have c0:=(E5.cell.1 _ 0 L4.out.2.2).trans b0
 have c1:=(E5.cell.1 _ 1 L4.out.2.2).trans b1
 have c2:=(E5.cell.1 _ 2 L4.out.2.2).trans b2
 have c3:=(E5.cell.1 _ 3 L4.out.2.2).trans b3
 have c4:=(E5.cell.1 _ 4 L4.out.2.2).trans b4
 have c5:=(E5.cell.1 _ 5 L4.out.2.2).trans b5
 have c6:=(E5.cell.1 _ 6 L4.out.2.2).trans b6
 have c7:=(E5.cell.1 _ 7 L4.out.2.2).trans b7
 have c8:=(E5.cell.1 _ 8 L4.out.2.2).trans b8
 have c9:=(E5.cell.1 _ 9 L4.out.2.2).trans b9
 have c10:=(E5.cell.1 _ 10 L4.out.2.2).trans b10
 have c11:=(E5.cell.1 _ 11 L4.out.2.2).trans b11
 have c12:=(E5.cell.1 _ 12 L4.out.2.2).trans b12
 clear b0 b1 b2 b3 b4 b5 b6 b7 b8 b9 b10 b11 b12
 have z5:=llL L4.out.2.2 E5.size
 clear E5 cE
 go_wp2_with fail
 refine (cN _ _ J9).mono ?_
 rintro e w6 ⟨rfl,E6⟩
 have X6:Hid (Ext W w6∧IsL w6 (fun _=>True) (.slice p 2 c) tA.l):=⟨X5.out.1.trans E6,X5.out.2.ext E6⟩
 have d0:=(E6.cell.1 _ 0 z5).trans c0
 have d1:=(E6.cell.1 _ 1 z5).trans c1
 have d2:=(E6.cell.1 _ 2 z5).trans c2
 have d3:=(E6.cell.1 _ 3 z5).trans c3
 have d4:=(E6.cell.1 _ 4 z5).trans c4
 have d5:=(E6.cell.1 _ 5 z5).trans c5
 have d6:=(E6.cell.1 _ 6 z5).trans c6
 have d7:=(E6.cell.1 _ 7 z5).trans c7
 have d8:=(E6.cell.1 _ 8 z5).trans c8
 have d9:=(E6.cell.1 _ 9 z5).trans c9
 have d10:=(E6.cell.1 _ 10 z5).trans c10
 have d11:=(E6.cell.1 _ 11 z5).trans c11
 have d12:=(E6.cell.1 _ 12 z5).trans c12
 clear c0 c1 c2 c3 c4 c5 c6 c7 c8 c9 c10 c11 c12
 clear E6
 go_wp2_with fail
 refine (cZ _ _ _ (HN.out.1.ext X6.out.1) (HN.out.2.ext X6.out.1) X6.out.2).mono ?_
 rintro e w7 ⟨rfl,E7⟩
 have X7:Hid (Ext W w7):=X6.out.1.trans E7
 clear E7 cZ d0 d1 d2 d3 d4 d5 d6 d7 d8 d9 d10 d11 d12
 go_wp2_with fail
 refine (cN _ _ J9).mono ?_
 rintro e w8 ⟨rfl,E8⟩
 have X8:Hid (Ext W w8):=X7.out.trans E8
 clear E8 cN
 go_wp2_with fail
 go_ret
 exact ⟨rfl,X8.out⟩
theorem small15_any (W:World) (t:T) (pp:Option Addr) (ln cl:Nat) (hI:IsL W (fun _=>True) (.slice pp ln cl) t.l):Calls Tryz.prog 13 #[.agg #[.int .i64 t.k,.int .i64 t.n,.string (bs t.s),.int .i64 t.e,.int .i64 t.r.1,.int .i64 t.r.2.1,.bool t.r.2.2.1,.bool t.r.2.2.2,.int .i64 t.q.1,.int .i64 t.q.2.1,.bool t.q.2.2.1,.bool t.q.2.2.2,.slice pp ln cl]] W fun e w'=>∃ ok:Bool,e = .returned (.bool ok)∧Ext W w'∧(ok = true→Hr 401 t∧szT 401 t≤300):=by
 have cS:=fun W' (e:Ext W W')=>small_any 401 J9 t W' (fun _=>True) pp ln cl 300 J9 J9 (hI.ext e)
 rw [show (401:Int) - ((401:Nat):Int) = 0 from rfl] at cS
 clear hI
 go_enter func13,ntmps13
 go_wp2_with fail
 refine (cS _ (xr.alloc _)).mono ?_
 rintro e w1 ⟨m,ok,rfl,E1,_,_,_,h1⟩
 have H1:Hid (Ext W w1∧(ok = true→Hr 401 t∧szT 401 t≤300)):=⟨(xr.alloc _).trans E1,fun h=>⟨(h1 h).2.1,by have h2:=(h1 h).1;have h3:=(h1 h).2.2;omega⟩⟩
 clear E1 h1 cS
 go_wp2_with fail
 go_ret
 exact ⟨ok,rfl,H1.out⟩
theorem ron_any (r0 r1:Int) (r2 r3:Bool) (w:World):Calls Tryz.prog 52 #[.agg #[.int .i64 r0,.int .i64 r1,.bool r2,.bool r3]] w fun e w'=>e = .returned (.bool (inB r0 r1))∧Ext w w':=by
 have c1:=fun W=>rin_any r0 r1 W
 obtain ⟨bb,hbb⟩:∃ bb,inB r0 r1 = bb:=⟨_,rfl⟩
 rw [hbb] at c1 ⊢
 clear hbb
 go_enter func52,ntmps52
 exact K144
theorem rwell_leaf (P:Nat→Prop) (n:Nat) (t:T) (hk6:t.k≠6) (hk7:t.k≠7) (hk8:t.k≠8):ATr 24 P (wellT (n+1)) t:=by
 intro W pp ln cl _
 by_cases hk:t.k = 0
 · have e0:(t.k == 0) = true:=J76
   have HX:Hid (wellT (n+1) t = decide (0≤t.n)):=J115
   clear hk hk6 hk7 hk8
   exact K204
 have k0:=hk
 clear hk
 by_cases hk:t.k = 1
 · have e0:(t.k == 0) = false:=J76
   have e1:(t.k == 1) = true:=J76
   have HX:Hid (wellT (n+1) t = decide (t.s.length≤300)):=J115
   have HB:Hid ((bs t.s).size = t.s.length):=bs_size _
   generalize bs t.s = q at *
   clear hk hk6 hk7 hk8 k0
   go_enter func24,ntmps24
   exact K165
 have k1:=hk
 clear hk
 by_cases hk:t.k = 2
 · have e0:(t.k == 0) = false:=J76
   have e1:(t.k == 1) = false:=J76
   have e2:(t.k == 2) = true:=J76
   have HX:Hid (wellT (n+1) t = (t.n == 0 || t.n == 1)):=J115
   clear hk hk6 hk7 hk8 k0 k1
   cases hn:(t.n == 0)
   · rw [hn] at HX
     exact K204
   · rw [hn] at HX
     exact K204
 have k2:=hk
 clear hk
 by_cases hk:t.k = 3
 · have e0:(t.k == 0) = false:=J76
   have e1:(t.k == 1) = false:=J76
   have e2:(t.k == 2) = false:=J76
   have e3:(t.k == 3) = true:=J76
   have HX:Hid (wellT (n+1) t = (decide (1≤t.e) && decide (t.e≤5))):=J115
   clear hk hk6 hk7 hk8 k0 k1 k2
   by_cases h1:1≤t.e
   · have d1:decide (1≤t.e) = true:=J75
     rw [d1] at HX
     exact K204
   · have d1:decide (1≤t.e) = false:=J75
     rw [d1] at HX
     exact K204
 have k3:=hk
 clear hk
 by_cases hk:t.k = 4
 · have e0:(t.k == 0) = false:=J76
   have e1:(t.k == 1) = false:=J76
   have e2:(t.k == 2) = false:=J76
   have e3:(t.k == 3) = false:=J76
   have e4:(t.k == 4) = true:=J76
   have HX:Hid (wellT (n+1) t = inB t.r.1 t.r.2.1):=J115
   have c1:=fun W=>ron_any t.r.1 t.r.2.1 t.r.2.2.1 t.r.2.2.2 W
   clear hk hk6 hk7 hk8 k0 k1 k2 k3
   go_enter func24,ntmps24
   go_wp2_with fail
   refine (c1 _).mono ?_
   exact K76
 have k4:=hk
 clear hk
 have HX:Hid (wellT (n+1) t = false):=J116
 have e0:(t.k == 0) = false:=by simpa using k0
 have e1:(t.k == 1) = false:=by simpa using k1
 have e2:(t.k == 2) = false:=by simpa using k2
 have e3:(t.k == 3) = false:=by simpa using k3
 have e4:(t.k == 4) = false:=by simpa using k4
 have e6:(t.k == 6) = false:=by simpa using hk6
 have e7:(t.k == 7) = false:=by simpa using hk7
 have e8:(t.k == 8) = false:=by simpa using hk8
 clear hk6 hk7 hk8 k0 k1 k2 k3 k4
 exact K204
theorem allx_take9 {l:List T} {g:T→Bool} {j:Nat} {x:T} (h:l[j]? = some x):(l.take (j+1)).all g = ((l.take j).all g && g x):=by
 rw [List.take_add_one,h,List.all_append];simp
theorem rwell_neg (P:Nat→Prop) (n:Nat) (t:T) (hk:t.k = 6) (hl:t.l.length≤100000) (hx:∀ x ∈ t.l,ATr 24 P (wellT n) x):ATr 24 P (wellT (n+1)) t:=by
 intro W pp ln cl h
 have hln:t.l.length = ln:=by
   exact K93
 have hl2:ln≤100000:=J2
 have e0:(t.k == 0) = false:=J76
 have e1:(t.k == 1) = false:=J76
 have e2:(t.k == 2) = false:=J76
 have e3:(t.k == 3) = false:=J76
 have e4:(t.k == 4) = false:=J76
 have e6:(t.k == 6) = true:=J76
 have e7:(t.k == 7) = false:=J76
 have e8:(t.k == 8) = false:=J76
 have HX:Hid (wellT (n+1) t = (ln == 1 && t.l.all (wellT n))):=J129
 have HI:Hid (IsL W P (.slice pp ln cl) t.l):=h
 have HLN:Hid (t.l.length = ln):=hln
 have HXX:Hid (∀ x ∈ t.l,ATr 24 P (wellT n) x):=hx
 clear hk hl hx h hln
 by_cases h1:ln = 1
 · have d1:¬ (ln:Int) < 1:=J2
   have d2:¬ 1 < (ln:Int):=J2
   have HX:Hid (wellT (n+1) t = t.l.all (wellT n)):=by show _ = _;rw [HX.out,h1];rfl
   clear h1
   go_enter func24,ntmps24
   exact K5
 · have HX:Hid (wellT (n+1) t = false):=by show _ = _;rw [HX.out];simp [h1]
   rcases Nat.lt_or_gt_of_ne h1 with h2 | h2
   · have d1:(ln:Int) < 1:=J2
     exact K161
   · have d1:¬ (ln:Int) < 1:=J2
     have d2:1 < (ln:Int):=J2
     exact K161
theorem rwell_bin (P:Nat→Prop) (n:Nat) (t:T) (hk:t.k = 7) (hl:t.l.length≤100000) (hx:∀ x ∈ t.l,ATr 24 P (wellT n) x):ATr 24 P (wellT (n+1)) t:=by
 intro W pp ln cl h
 have hln:t.l.length = ln:=by
   exact K93
 have hl2:ln≤100000:=J2
 have e0:(t.k == 0) = false:=J76
 have e1:(t.k == 1) = false:=J76
 have e2:(t.k == 2) = false:=J76
 have e3:(t.k == 3) = false:=J76
 have e4:(t.k == 4) = false:=J76
 have e6:(t.k == 6) = false:=J76
 have e7:(t.k == 7) = true:=J76
 have e8:(t.k == 8) = false:=J76
 have HX:Hid (wellT (n+1) t = (bnd t.s != 0 && ln == 2 && t.l.all (wellT n))):=J129
 have HI:Hid (IsL W P (.slice pp ln cl) t.l):=h
 have HLN:Hid (t.l.length = ln):=hln
 have HXX:Hid (∀ x ∈ t.l,ATr 24 P (wellT n) x):=hx
 have cB:=fun W=>rpow8_any (bs t.s) W
 have es:(bs t.s).data.toList = t.s:=rfl
 rw [es] at cB
 obtain ⟨bb,hbb⟩:∃ bb,bnd t.s = bb:=⟨_,rfl⟩
 rw [hbb] at cB HX
 clear hk hl hx h hln es hbb
 by_cases h0:bb = 0
 · have b1:((bb:Int) == 0) = true:=by rw [h0];rfl
   have HX:Hid (wellT (n+1) t = false):=by show _ = _;rw [HX.out,h0];rfl
   clear h0
   exact K198
 have b1:((bb:Int) == 0) = false:=J6
 have HX:Hid (wellT (n+1) t = (ln == 2 && t.l.all (wellT n))):=by
   show _ = _
   have h1:(bb != 0) = true:=J103
   rw [HX.out,h1];rfl
 clear h0
 by_cases h1:ln = 2
 · have d1:¬ (ln:Int) < 2:=J2
   have d2:¬ 2 < (ln:Int):=J2
   have HX:Hid (wellT (n+1) t = t.l.all (wellT n)):=by show _ = _;rw [HX.out,h1];rfl
   clear h1
   go_enter func24,ntmps24
   go_wp2_with fail
   refine (cB _).mono ?_
   rintro e w1 ⟨rfl,rfl⟩
   exact K5
 · have HX:Hid (wellT (n+1) t = false):=by show _ = _;rw [HX.out];simp [h1]
   rcases Nat.lt_or_gt_of_ne h1 with h2 | h2
   · have d1:(ln:Int) < 2:=J2
     clear h1 h2
     exact K198
   · have d1:¬ (ln:Int) < 2:=J2
     have d2:2 < (ln:Int):=J2
     clear h1 h2
     exact K198
theorem rwell_call (P:Nat→Prop) (n:Nat) (t:T) (hk:t.k = 8) (hl:t.l.length≤100000) (hx:∀ x ∈ t.l,ATr 24 P (wellT n) x):ATr 24 P (wellT (n+1)) t:=by
 intro W pp ln cl h
 have hln:t.l.length = ln:=by
   exact K93
 have hl2:ln≤100000:=J2
 have e0:(t.k == 0) = false:=J76
 have e1:(t.k == 1) = false:=J76
 have e2:(t.k == 2) = false:=J76
 have e3:(t.k == 3) = false:=J76
 have e4:(t.k == 4) = false:=J76
 have e6:(t.k == 6) = false:=J76
 have e7:(t.k == 7) = false:=J76
 have e8:(t.k == 8) = true:=J76
 have HX:Hid (wellT (n+1) t = ((kno t.s).isSome && decide (knA t.s≤(ln:Int)) && decide ((ln:Int)≤knB t.s) && t.l.all (argT n))):=J129
 have HI:Hid (IsL W P (.slice pp ln cl) t.l):=h
 have HLN:Hid (t.l.length = ln):=hln
 have HXX:Hid (∀ x ∈ t.l,ATr 24 P (wellT n) x):=hx
 have cK:=fun W=>rknown_any (bs t.s) W
 have es:(bs t.s).data.toList = t.s:=rfl
 rw [es] at cK
 obtain ⟨ka,hka⟩:∃ ka,knA t.s = ka:=⟨_,rfl⟩
 obtain ⟨kb,hkb⟩:∃ kb,knB t.s = kb:=⟨_,rfl⟩
 obtain ⟨ks,hks⟩:∃ ks,(kno t.s).isSome = ks:=⟨_,rfl⟩
 rw [hka,hkb,hks] at cK HX
 clear hk hl hx h hln es hka hkb hks
 cases ks
 · have HX:Hid (wellT (n+1) t = false):=by show _ = _;rw [HX.out];rfl
   exact K199
 have HX:Hid (wellT (n+1) t = (decide (ka≤(ln:Int)) && decide ((ln:Int)≤kb) && t.l.all (argT n))):=by show _ = _;rw [HX.out,Bool.true_and]
 by_cases h1:(ln:Int) < ka
 · have HX:Hid (wellT (n+1) t = false):=by
     show _ = _
     have:decide (ka≤(ln:Int)) = false:=J6
     rw [HX.out,this];rfl
   exact K199
 by_cases h2:kb < (ln:Int)
 · have HX:Hid (wellT (n+1) t = false):=by
     show _ = _
     have:decide ((ln:Int)≤kb) = false:=J6
     rw [HX.out,this];simp
   exact K199
 have HX:Hid (wellT (n+1) t = t.l.all (argT n)):=by
   show _ = _
   have k1:decide (ka≤(ln:Int)) = true:=J6
   have k2:decide ((ln:Int)≤kb) = true:=J6
   rw [HX.out,k1,k2];rfl
 go_enter func24,ntmps24
 go_wp2_with fail
 refine (cK _).mono ?_
 rintro e w1 ⟨rfl,rfl⟩
 go_wp2_with fail
 clear h1 h2 cK
 go_loopw [8] (fun iv wr=>∃ j:Nat,j≤ln∧iv = .int .i64 (j:Int)∧(t.l.take j).all (argT n) = true∧BlkX wr W.heap.size t (.slice pp ln cl)∧Ext W wr) (fun iv _=>ln - (intOf iv).toNat)
 case atStart=>exact ⟨0,Nat.zero_le _,rfl,rfl,blk13_top rfl xr,xr.alloc _⟩
 case round =>
   obtain ⟨j,hj,rfl,hg,hB,hE⟩:=hrel
   have HE:Hid (Ext W wr∧(t.l.take j).all (argT n) = true):=⟨hE,hg⟩
   have HBX:Hid (BlkX wr W.heap.size t (.slice pp ln cl)):=hB
   obtain ⟨qz,⟨k0,k1,k2,k3,k4,k5,k6,k7,k8,k9,k10,k11,k12⟩,gz⟩:=hB
   clear hE hg gz
   by_cases hlt:j < ln
   · have hltI:(j:Int) < (ln:Int):=J2
     have hI:=HI.out.ext HE.out.1
     obtain ⟨gb,off,x,lv,hpp,hx1,hA1,hgb,hA2,hLx,hce⟩:=hI.at (i:=j) (by rw [HLN.out];exact hlt)
     clear hA1 hA2
     subst hpp
     obtain ⟨pp,cl',hlv,hcl⟩:=hLx.form
     obtain ⟨ln',hln'⟩:∃ ln',x.l.length = ln':=⟨_,rfl⟩
     rw [hln'] at hlv
     subst hlv
     have HX1:Hid (t.l[j]? = some x):=hx1
     have HLX:Hid (IsL wr P (.slice pp ln' cl') x.l):=hLx
     have HCW:Hid (∀ W',Ext wr W'→Calls Tryz.prog 24 #[.agg #[.int .i64 x.k,.int .i64 x.n,.string (bs x.s),.int .i64 x.e,.int .i64 x.r.1,.int .i64 x.r.2.1,.bool x.r.2.2.1,.bool x.r.2.2.2,.int .i64 x.q.1,.int .i64 x.q.2.1,.bool x.q.2.2.1,.bool x.q.2.2.2,.slice pp ln' cl']] W' fun e w'=>e = .returned (.bool (wellT n x))∧Ext W' w'):=fun W' e=>HXX.out x (List.mem_of_getElem? hx1) W' pp ln' cl' (hLx.ext e)
     have e0_:wr.cell? ⟨gb,off+j * 13,none⟩ = some (.int .i64 x.k):=hce 0 _ rfl
     have e1_:wr.cell? ⟨gb,off+j * 13+1,none⟩ = some (.int .i64 x.n):=hce 1 _ rfl
     have e2_:wr.cell? ⟨gb,off+j * 13+2,none⟩ = some (.string (bs x.s)):=hce 2 _ rfl
     have e3_:wr.cell? ⟨gb,off+j * 13+3,none⟩ = some (.int .i64 x.e):=hce 3 _ rfl
     have e4_:wr.cell? ⟨gb,off+j * 13+4,none⟩ = some (.int .i64 x.r.1):=hce 4 _ rfl
     have e5_:wr.cell? ⟨gb,off+j * 13+5,none⟩ = some (.int .i64 x.r.2.1):=hce 5 _ rfl
     have e6_:wr.cell? ⟨gb,off+j * 13+6,none⟩ = some (.bool x.r.2.2.1):=hce 6 _ rfl
     have e7_:wr.cell? ⟨gb,off+j * 13+7,none⟩ = some (.bool x.r.2.2.2):=hce 7 _ rfl
     have e8_:wr.cell? ⟨gb,off+j * 13+8,none⟩ = some (.int .i64 x.q.1):=hce 8 _ rfl
     have e9_:wr.cell? ⟨gb,off+j * 13+9,none⟩ = some (.int .i64 x.q.2.1):=hce 9 _ rfl
     have e10_:wr.cell? ⟨gb,off+j * 13+10,none⟩ = some (.bool x.q.2.2.1):=hce 10 _ rfl
     have e11_:wr.cell? ⟨gb,off+j * 13+11,none⟩ = some (.bool x.q.2.2.2):=hce 11 _ rfl
     have e12_:wr.cell? ⟨gb,off+j * 13+12,none⟩ = some (.slice pp ln' cl'):=hce 12 _ rfl
     clear hI hx1 hLx hce hcl hln'
     by_cases k5:x.k = 5
     · have c1:=fun W=>ron_any x.r.1 x.r.2.1 x.r.2.2.1 x.r.2.2.2 W
       have c2:=fun W=>ron_any x.q.1 x.q.2.1 x.q.2.2.1 x.q.2.2.2 W
       have HY:Hid (argT n x = (inB x.r.1 x.r.2.1 && inB x.q.1 x.q.2.1)):=by show _ = _;unfold argT;rw [if_pos k5]
       have x5:(x.k == 5) = true:=by rw [k5];rfl
       clear k5
       cases h1:inB x.r.1 x.r.2.1
       · rw [h1] at c1 HY
         clear h1
         have HG:Hid ((argT n) x = false):=HY.out
         go_wp2_with fail
         refine (c1 _).mono ?_
         rintro e w1 ⟨rfl,E1⟩
         have HE1:Hid (Ext W w1):=(HE.out.1.alloc _).trans E1
         clear E1 k0 k1 k2 k3 k4 k5 k6 k7 k8 k9 k10 k11 k12 e0_ e1_ e2_ e3_ e4_ e5_ e6_ e7_ e8_ e9_ e10_ e11_ e12_
         exact K205
       · rw [h1] at c1 HY
         clear h1
         go_wp2_with fail
         refine (c1 _).mono ?_
         rintro e w1 ⟨rfl,E1⟩
         have HE1:Hid (Ext W w1):=(HE.out.1.alloc _).trans E1
         have HB1:Hid (BlkX w1 W.heap.size t (.slice (some ⟨gb,off,none⟩) ln cl)):=HBX.out.ext ((xr.alloc _).trans E1)
         obtain ⟨qx,⟨x0,x1,x2,x3,x4,x5,x6,x7,x8,x9,x10,x11,x12⟩,gx⟩:=blk13_top (b:=wr.heap.size) rfl E1
         clear E1 gx k0 k1 k2 k3 k4 k5 k6 k7 k8 k9 k10 k11 k12 e0_ e1_ e2_ e3_ e4_ e5_ e6_ e7_ e8_ e9_ e10_ e11_ e12_
         cases h2:inB x.q.1 x.q.2.1
         · rw [h2] at c2 HY
           clear h2
           have HG:Hid ((argT n) x = false):=HY.out
           go_wp2_with fail
           refine (c2 _).mono ?_
           rintro e w2 ⟨rfl,E2⟩
           have HE2:Hid (Ext W w2):=HE1.out.trans E2
           clear E2
           have HR:Hid (t.l.all (argT n) = false):=by
             exact K68
           go_wp2_with fail
           go_ret
           exact ⟨ret_bool J47,HE2.out⟩
         · rw [h2] at c2 HY
           clear h2
           have HG:Hid ((argT n) x = true):=HY.out
           go_wp2_with fail
           refine (c2 _).mono ?_
           rintro e w2 ⟨rfl,E2⟩
           have HE2:Hid (Ext W w2):=HE1.out.trans E2
           have HB2:Hid (BlkX w2 W.heap.size t (.slice (some ⟨gb,off,none⟩) ln cl)):=HB1.out.ext E2
           clear E2
           have HR:Hid ((t.l.take (j+1)).all (argT n) = true):=J131
           go_wp2_with fail
           go_roundw
           case rel=>exact ⟨j+1,by omega,by go_num,HR.out,HB2.out,HE2.out⟩
           case measure=>show ln - ((j:Int)+1).toNat < ln - ((j:Int)).toNat;omega
     · have x5:(x.k == 5) = false:=by simpa using k5
       have HK5:Hid (¬ x.k = 5):=k5
       clear k5
       go_wp2_with fail
       refine (HCW.out _ (xr.alloc _)).mono ?_
       rintro e w1 ⟨rfl,E1⟩
       have HE1:Hid (Ext W w1):=(HE.out.1.alloc _).trans E1
       have HB1:Hid (BlkX w1 W.heap.size t (.slice (some ⟨gb,off,none⟩) ln cl)):=HBX.out.ext ((xr.alloc _).trans E1)
       clear E1 k0 k1 k2 k3 k4 k5 k6 k7 k8 k9 k10 k11 k12 e0_ e1_ e2_ e3_ e4_ e5_ e6_ e7_ e8_ e9_ e10_ e11_ e12_
       cases hgx:wellT n x
       · have HG:Hid ((argT n) x = false):=J132
         clear hgx
         exact K205
       · have HG:Hid ((argT n) x = true):=J132
         clear hgx
         have HR:Hid ((t.l.take (j+1)).all (argT n) = true):=J131
         go_wp2_with fail
         go_roundw
         case rel=>exact ⟨j+1,by omega,by go_num,HR.out,HB1.out,HE1.out⟩
         case measure=>show ln - ((j:Int)+1).toNat < ln - ((j:Int)).toNat;omega
   · have hltI:¬ (j:Int) < (ln:Int):=J2
     have HR:Hid (t.l.all (argT n) = true):=by
       exact K78
     go_wp2_with fail
     go_ret
     exact ⟨ret_bool J63,HE.out.1⟩
theorem rwell_any (P:Nat→Prop) (n:Nat) (t:T) (h:Hr n t):ATr 24 P (wellT n) t:=by
 induction n generalizing t with
 | zero=>cases h
 | succ n ih =>
   have hx:∀ x ∈ t.l,ATr 24 P (wellT n) x:=fun x hx=>ih x (h.2 x hx)
   by_cases k6:t.k = 6
   · exact rwell_neg P n t k6 h.1 hx
   by_cases k7:t.k = 7
   · exact rwell_bin P n t k7 h.1 hx
   by_cases k8:t.k = 8
   · exact rwell_call P n t k8 h.1 hx
   exact rwell_leaf P n t k6 k7 k8
open Go.ChangeShapes Go.WideShapes Go.ChangeAt Go.RowKit
theorem ownK:ownKnob Tryz.prog.godebug = none:=J3
def flat:Nat→DataW Unit→List Value
 | _+1,.lit (.int k z)=>[.int k z]
 | _+1,.lit (.string l)=>[.string ⟨l.toArray⟩]
 | n+1,.agg ds=>ds.flatMap (flat n)
 | _,_=>[]
def layIn (cs:List Value):Obj→Obj
 | .cells _ t frozen=>.cells cs.toArray t frozen
 | o=>o
theorem gNames:Tryz.prog.globalNamed "cadastre/value.names" = some 0:=J3
theorem gNamesType:(Tryz.prog.globals[0]?).map (·.type) = some 130:=J3
theorem cellsNames:Tryz.prog.cellsOf 130 = 6:=J3
theorem cellsStr:Tryz.prog.cellsOf 9 = 1:=J3
theorem names_of {W:World} {rest:List (String × DataW Unit)} (h:laidMet Tryz.prog (("cadastre/value.names",Rows.laid_cadastre_value_names) :: rest) W):Nm W:=by
 obtain ⟨ps,⟨g',t',cs,fuel,p,q,hg',ht',hvar,hd,_,_⟩,_⟩:=h
 obtain rfl:=Option.some.inj (gNames.symm.trans hg')
 obtain rfl:=Option.some.inj (gNamesType.symm.trans ht')
 have hcell:=World.var?_cell gNames hvar
 have hsz:0 < W.heap.size:=by
   have h0:=hvar
   simp only [World.var?,gNames,Option.bind_some] at h0
   cases hb:W.heap[0]? with
   | none=>rw [hb] at h0;cases h0
   | some o=>exact (Array.getElem?_eq_some_iff.1 hb).1
 cases fuel with
 | zero=>simp [DataW.trod] at hd
 | succ fuel =>
   simp only [DataW.trod,Tryz.underlying130,cellsStr,cellsNames,Nat.mul_one] at hd
   split at hd
   · obtain ⟨xs,hm,hx⟩:=Option.map_eq_some_iff.1 hd
     have hxs:xs.map (·.1) = ([.lit (.string []),.lit (.string [35,82,69,70,33]),.lit (.string [35,86,65,76,85,69,33]),.lit (.string [35,68,73,86,47,48,33]),.lit (.string [35,78,85,77,33]),.lit (.string [35,67,89,67,76,69,33])]:List (DataW Unit)):=by
       have:=congrArg Prod.fst hx
       simpa [Rows.laid_cadastre_value_names] using this
     have key:∀ (i:Nat) (l:List UInt8),i < 6→(xs.map (·.1))[i]? = some (DataW.lit (.string l))→W.cell? ⟨0,i,none⟩ = some (.string ⟨l.toArray⟩):=by
       intro i l hi hl
       obtain ⟨b,hb,hf⟩:=Lib.mapM_at hm i i (by simp [hi])
       obtain ⟨s,hc,rfl,_⟩:=DataW.trod_string Tryz.underlying9 hf
       have h1:cs.toList[i]? = some (.string s):=by
         have:=congrArg (·[0]?) hc
         simpa [List.getElem?_take,List.getElem?_drop] using this
       have h2:(xs.map (·.1))[i]? = some (DataW.lit (.string s.data.toList):DataW Unit):=by simp [hb]
       rw [hl] at h2
       simp only [Option.some.injEq,DataW.lit.injEq,Lit.string.injEq] at h2
       rw [hcell i,h2]
       simpa using h1
     rw [hxs] at key
     exact ⟨hsz,key 0 _ J9 rfl,key 1 _ J9 rfl,key 2 _ J9 rfl,key 3 _ J9 rfl,key 4 _ J9 rfl,key 5 _ J9 rfl⟩
   · cases hd
def laidListE:List (String × DataW Unit):=Rows.evalTidiedRow.laid
def layAllE (h:Array Obj):Array Obj:=[(5,flat 4 Rows.laid_math_bits_deBruijn32tab),(6,flat 4 Rows.laid_math_bits_deBruijn64tab),(4,flat 4 Rows.laid_internal_strconv_uint64pow10),(8,flat 4 Rows.laid_unicode_utf8_acceptRanges),(0,flat 4 Rows.laid_cadastre_value_names),(7,flat 4 Rows.laid_unicode_utf8_first)].foldl (fun h x=>h.modify x.1 (layIn x.2)) h
noncomputable def laidWorldE (os:Os):World :=
 { World.holding Tryz.prog os ⟨#[],#[],[]⟩ with heap:=layAllE (World.holding Tryz.prog os ⟨#[],#[],[]⟩).heap }
theorem nm_ofE {W:World} (h:laidMetH Tryz.prog laidListE W):Nm W:=by
 rw [MakeChecks.laidMetH_plain _ _ _ J3] at h
 exact names_of (laidMet.tail (laidMet.tail (laidMet.tail (laidMet.tail (show laidMet Tryz.prog (_ :: _ :: _ :: _ :: _ :: _) W from h)))))
theorem gPow:Tryz.prog.globalNamed "internal/strconv.uint64pow10" = some 4:=J3
theorem gPowType:(Tryz.prog.globals[4]?).map (·.type) = some 271:=J3
theorem cellsPow:Tryz.prog.cellsOf 271 = 20:=J3
theorem cellsU64:Tryz.prog.cellsOf 129 = 1:=J3
theorem tab_ofE {W:World} (h:laidMetH Tryz.prog laidListE W):Tab W:=by
 rw [MakeChecks.laidMetH_plain _ _ _ J3] at h
 exact Lib.tabIs_of_head gPow gPowType Tryz.underlying271 Tryz.underlying129 cellsU64 cellsPow (laidMet.tail (laidMet.tail (show laidMet Tryz.prog (_ :: _ :: _ :: _) W from h)))
end Go.Proofs.YtcfgbiaahangmaaGreatDoor
