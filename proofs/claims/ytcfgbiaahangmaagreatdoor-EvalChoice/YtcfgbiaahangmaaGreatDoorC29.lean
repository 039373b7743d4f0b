import Derived.Test.YtcfgbiaahangmaaGreatDoorC26
import Derived.Test.YtcfgbiaahangmaaGreatDoorC28
set_option maxHeartbeats 6000000
set_option maxRecDepth 100000
namespace Go.Proofs.YtcfgbiaahangmaaGreatDoor
open Go.Proofs.Tryz
open Go.RowKit
theorem bs_tl (x:List UInt8):(bs x).toList = x:=by rw [ByteArray.toList_eq];rfl
def Kd (t:Tk):Prop:=t.2.2.1.length≤300∧0≤t.1∧t.1≤5∧(t.1 = 5→t.2.2.1 = [])
def Rp (w0:World) (b:Nat) (W:World) (ts:List Tk) (d pa why:Int):Prop :=
 Ext w0 W∧w0.heap.size≤b∧Nz ts∧ts.length≤400∧(∀ t ∈ ts,Kd t)∧-1000≤d∧d≤1000 ∧
 ∃ (tb off c n i:Nat) (all:List Tk),RdT w0 (.slice (some ⟨tb,off,none⟩) n c) all∧all.length = n∧n≤400∧i < n∧all.drop i = ts∧Blk5 W b (.slice (some ⟨tb,off,none⟩) n c) (.int .i64 (i:Int)) (.int .i64 d) (.int .i64 pa) (.int .i64 why)
theorem Rp.ext {w0 W W':World} {b:Nat} {ts:List Tk} {d pa why:Int} (h:Rp w0 b W ts d pa why) (e:Ext W W'):Rp w0 b W' ts d pa why:=by
 obtain ⟨h1,h2,h3,h4,h5,h6,h7,tb,off,c,n,i,all,g1,g2,g3,g4,g5,g6⟩:=h
 exact ⟨h1.trans e,h2,h3,h4,h5,h6,h7,tb,off,c,n,i,all,g1,g2,g3,g4,g5,g6.ext e⟩
def tkA (t:Tk):Value:=.agg #[.int .i64 t.1,.int .i64 t.2.1,.string (bs t.2.2.1),.int .i64 t.2.2.2.1,.int .i64 t.2.2.2.2]
theorem tkf0 (t:Tk) (W:World):(Instr.field 91 (.agg #[.int .i64 t.1,.int .i64 t.2.1,.string (bs t.2.2.1),.int .i64 t.2.2.2.1,.int .i64 t.2.2.2.2]) 0).run Tryz.prog W = .ok (.int .i64 t.1) W:=J3
theorem tkf1 (t:Tk) (W:World):(Instr.field 91 (.agg #[.int .i64 t.1,.int .i64 t.2.1,.string (bs t.2.2.1),.int .i64 t.2.2.2.1,.int .i64 t.2.2.2.2]) 1).run Tryz.prog W = .ok (.int .i64 t.2.1) W:=J3
theorem tkf2 (t:Tk) (W:World):(Instr.field 91 (.agg #[.int .i64 t.1,.int .i64 t.2.1,.string (bs t.2.2.1),.int .i64 t.2.2.2.1,.int .i64 t.2.2.2.2]) 2).run Tryz.prog W = .ok (.string (bs t.2.2.1)) W:=J3
theorem rt_any {w0 W:World} {b:Nat} {ts:List Tk} {d pa why:Int} (h:Rp w0 b W ts d pa why):Calls Tryz.prog 50 #[.pointer (some ⟨b,0,none⟩)] W fun e w'=>e = .returned (tkA (hd ts))∧Ext W w':=by
 obtain ⟨h1,h2,h3,h4,h5,h6,h7,tb,off,c,n,i,all,g1,g2,g3,g4,g5,g6⟩:=h
 obtain ⟨p,c',e1,e2⟩:=g1.form
 obtain ⟨b',off',t,e3,e4,_,e6⟩:=g1.at (k:=i) J2
 cases e3
 have ht:hd ts = t:=by rw [← g5];unfold hd;rw [List.headD_eq_head?_getD,List.head?_drop,e4];rfl
 rw [ht]
 have htb:tb < w0.heap.size:=by
   exact K166
 have hc:=e6 W h1
 obtain ⟨c0,c1,c2,c3,c4⟩:=hc
 have hin:(i:Int) < (n:Int):=J2
 obtain ⟨hz,⟨b0,b1,b2,b3,b4⟩,f0,f1,f2,f3,f4⟩:=g6
 have HW:Hid (tb < W.heap.size∧Ext w0 W):=⟨llL htb h1.sz,h1⟩
 have htW:tb < W.heap.size:=HW.out.1
 clear h1 h2 h3 h4 h5 h6 h7 g1 g2 g4 g5 e1 e2 e4 e6 ht htb
 go_enter func50,ntmps50
 go_wp2_with fail
 go_region
 go_wp2_with fail
 have B9:=blk5_top (b:=W.heap.size) rfl ((Ext.refl (W.alloc (.cells #[.int .i64 t.1,.int .i64 t.2.1,.string (bs t.2.2.1),.int .i64 t.2.2.2.1,.int .i64 t.2.2.2.2] 91))).drew)
 have E9:Ext W (W.alloc (.cells #[.int .i64 t.1,.int .i64 t.2.1,.string (bs t.2.2.1),.int .i64 t.2.2.2.1,.int .i64 t.2.2.2.2] 91)).drew:=(xr.alloc _).drew
 generalize (W.alloc (.cells #[.int .i64 t.1,.int .i64 t.2.1,.string (bs t.2.2.1),.int .i64 t.2.2.2.1,.int .i64 t.2.2.2.2] 91)).drew = W9 at *
 refine fin5 _ B9 rfl E9 (fun g0 g1 g2 g3 g4=>by simp [results,results50,go_sem,g0,g1,g2,g3,g4];rfl) (fun h=>⟨rfl,h⟩)
def nx (ts:List Tk):List Tk:=if 2≤ts.length then ts.tail else ts
theorem nx_tail {ts:List Tk} (h:Nz ts) (h5:(hd ts).1≠5):nx ts = ts.tail:=by
 have:=(h.tail h5).2
 have h2:=(h.tail h5).1.pos
 exact if_pos J2
theorem nx_nz {ts:List Tk} (h:Nz ts):Nz (nx ts):=by
 unfold nx
 split
 · rename_i h2
   obtain ⟨pre,t,rfl,h1⟩:=h
   cases pre with
   | nil=>simp at h2
   | cons a r=>exact ⟨r,t,rfl,h1⟩
 · exact h
theorem rnext_any {w0 W:World} {b:Nat} {ts:List Tk} {d pa why:Int} (h:Rp w0 b W ts d pa why):Calls Tryz.prog 85 #[.pointer (some ⟨b,0,none⟩)] W fun e w'=>e = .returned (.tuple #[])∧Rp w0 b w' (nx ts) d pa why∧ExtB b W w':=by
 obtain ⟨h1,h2,h3,h4,h5,h6,h7,tb,off,c,n,i,all,g1,g2,g3,g4,g5,g6⟩:=h
 have hlen:ts.length = n - i:=by rw [← g5,List.length_drop,g2]
 have hB:Blk5 W b (.slice (some ⟨tb,off,none⟩) n c) (.int .i64 (i:Int)) (.int .i64 d) (.int .i64 pa) (.int .i64 why):=g6
 have HB:Hid (Blk5 W b (.slice (some ⟨tb,off,none⟩) n c) (.int .i64 (i:Int)) (.int .i64 d) (.int .i64 pa) (.int .i64 why)):=g6
 obtain ⟨hz,⟨b0,b1,b2,b3,b4⟩,f0,f1,f2,f3,f4⟩:=hB
 have HR:Hid (Rp w0 b W ts d pa why):=⟨h1,h2,h3,h4,h5,h6,h7,tb,off,c,n,i,all,g1,g2,g3,g4,g5,g6⟩
 have HG:Hid (RdT w0 (.slice (some ⟨tb,off,none⟩) n c) all∧all.length = n∧n≤400∧i < n∧all.drop i = ts∧ts.length = n - i∧w0.heap.size≤b∧Ext w0 W):=⟨g1,g2,g3,g4,g5,hlen,h2,h1⟩
 have hin:i < n:=g4
 have hn4:n≤400:=g3
 clear h1 h2 h3 h4 h5 h6 h7 g1 g2 g3 g4 g5 g6 hlen
 by_cases hc:(i:Int) < (n:Int) - 1
 · go_enter func85,ntmps85
   go_wp2_with fail
   go_region
   go_wp2_with fail
   go_end0
   refine ⟨rfl,?_,?_⟩
   · obtain ⟨q1,q2,q3,q4,q5,q6,q7,q8⟩:=HG.out
     obtain ⟨r1,r2,r3,r4,r5,r6,r7,_⟩:=HR.out
     have hnx:nx ts = all.drop (i+1):=by
       have:nx ts = ts.tail:=if_pos J2
       rw [this,← q5,List.tail_drop]
     rw [hnx]
     refine ⟨?_,q7,?_,?_,?_,r6,r7,tb,off,c,n,i+1,all,q1,q2,q3,by omega,rfl,?_⟩
     · exact (q8.setCell q7 _).drew
     · rw [← hnx];exact nx_nz r3
     · rw [List.length_drop];omega
     · intro t ht;exact r5 t (by rw [← q5];rw [← List.tail_drop] at ht;exact List.mem_of_mem_tail ht)
     · exact ((HB.out.put1 _).ext xr).dr
   · exact ((ExtB.refl b W).set (.inl rfl) _).drew
 · go_enter func85,ntmps85
   go_wp2_with fail
   go_region
   go_wp2_with fail
   go_end0
   refine ⟨rfl,?_,?_⟩
   · have hnx:nx ts = ts:=if_neg (by have:=HG.out.2.2.2.2.2.1;omega)
     rw [hnx]
     exact HR.out.ext xr.drew
   · exact (ExtB.refl b W).drew
theorem rbad_any {w0 W:World} {b:Nat} {ts:List Tk} {d pa why:Int} (h:Rp w0 b W ts d pa why) (f:Int):Calls Tryz.prog 51 #[.pointer (some ⟨b,0,none⟩),.int .i64 f] W fun e w'=>e = .returned (.tuple #[])∧Rp w0 b w' ts d (if why = 0 then (hd ts).2.1 else pa) (if why = 0 then f else why)∧ExtB b W w':=by
 have HR:Hid (Rp w0 b W ts d pa why):=h
 have c1:=fun V e=>rt_any (h.ext (W':=V) e)
 obtain ⟨h1,h2,h3,h4,h5,h6,h7,tb,off,c,n,i,all,g1,g2,g3,g4,g5,g6⟩:=h
 have HB:Hid (Blk5 W b (.slice (some ⟨tb,off,none⟩) n c) (.int .i64 (i:Int)) (.int .i64 d) (.int .i64 pa) (.int .i64 why)):=g6
 have HG:Hid (w0.heap.size≤b∧Nz ts∧ts.length≤400∧(∀ t ∈ ts,Kd t)∧(-1000≤d∧d≤1000)∧RdT w0 (.slice (some ⟨tb,off,none⟩) n c) all∧all.length = n∧n≤400∧i < n∧all.drop i = ts):=⟨h2,h3,h4,h5,⟨h6,h7⟩,g1,g2,g3,g4,g5⟩
 obtain ⟨hz,⟨b0,b1,b2,b3,b4⟩,f0,f1,f2,f3,f4⟩:=g6
 clear h1 h2 h3 h4 h5 h6 h7 g1 g2 g3 g4 g5
 by_cases hw:why = 0
 · have w0':(why == 0) = true:=by rw [hw];rfl
   rw [if_pos hw,if_pos hw]
   unfold tkA at c1
   have kf1:=fun W=>tkf1 (hd ts) W
   obtain ⟨ta,hta⟩:∃ ta,(hd ts).2.1 = ta:=⟨_,rfl⟩
   rw [hta] at c1 kf1 ⊢
   clear hw hta
   go_enter func51,ntmps51
   go_wp2_with fail
   refine (c1 _ xr).mono ?_
   rintro e w1 ⟨rfl,E1⟩
   have HB1:Hid (Blk5 w1 b (.slice (some ⟨tb,off,none⟩) n c) (.int .i64 (i:Int)) (.int .i64 d) (.int .i64 pa) (.int .i64 why)∧Ext w0 w1∧Ext W w1):=⟨HB.out.ext E1,HR.out.1.trans E1,E1⟩
   clear E1 b0 b1 b2 b3 b4 f0 f1 f2 f3 f4
   obtain ⟨hz1,⟨b0,b1,b2,b3,b4⟩,f0,f1,f2,f3,f4⟩:=HB1.out.1
   go_wp2_with fail
   go_end0
   obtain ⟨q1,q2,q3,q4,⟨q5,q6⟩,q7⟩:=HG.out
   refine ⟨rfl,⟨(HB1.out.2.1.setCell q1 _).setCell q1 _,q1,q2,q3,q4,q5,q6,tb,off,c,n,i,all,q7.1,q7.2.1,q7.2.2.1,q7.2.2.2.1,q7.2.2.2.2,(HB1.out.1.put3 _).put4 _⟩,((HB1.out.2.2.toB b).set (.inl rfl) _).set (.inl rfl) _⟩
 · have w0':(why == 0) = false:=J122
   rw [if_neg hw,if_neg hw]
   clear hw c1
   go_enter func51,ntmps51
   go_wp2_with fail
   go_end0
   exact ⟨rfl,HR.out,ExtB.refl b W⟩
def sgn (ts:List Tk) (why:Int):List UInt8:=if why = 0∧(hd ts).1 = 3 then (hd ts).2.2.1 else []
theorem rsign_any {w0 W:World} {b:Nat} {ts:List Tk} {d pa why:Int} (h:Rp w0 b W ts d pa why):Calls Tryz.prog 84 #[.pointer (some ⟨b,0,none⟩)] W fun e w'=>e = .returned (.string (bs (sgn ts why)))∧Ext W w':=by
 have c1:=fun V e=>rt_any (h.ext (W':=V) e)
 unfold tkA at c1
 obtain ⟨h1,h2,h3,h4,h5,h6,h7,tb,off,c,n,i,all,g1,g2,g3,g4,g5,g6⟩:=h
 obtain ⟨hz,⟨b0,b1,b2,b3,b4⟩,f0,f1,f2,f3,f4⟩:=g6
 clear h1 h2 h3 h4 h5 h6 h7 g1 g2 g3 g4 g5
 by_cases hw:why = 0
 · have w0':(why == 0) = true:=by rw [hw];rfl
   by_cases hk:(hd ts).1 = 3
   · have k3:((hd ts).1 == 3) = true:=J76
     have HX:Hid (sgn ts why = (hd ts).2.2.1):=if_pos ⟨hw,hk⟩
     clear hw hk
     have kf0:=fun W=>tkf0 (hd ts) W
     have kf2:=fun W=>tkf2 (hd ts) W
     generalize hd ts = t at *
     go_enter func84,ntmps84
     go_wp2_with fail
     refine (c1 _ xr).mono ?_
     rintro e w1 ⟨rfl,E1⟩
     have HE1:Hid (Ext W w1):=E1
     clear E1
     go_wp2_with fail
     refine (c1 _ HE1.out).mono ?_
     rintro e w2 ⟨rfl,E2⟩
     have HE2:Hid (Ext W w2):=HE1.out.trans E2
     clear E2
     go_wp2_with fail
     go_ret
     exact ⟨ret_s (by rw [HX.out]),HE2.out⟩
   · have k3:((hd ts).1 == 3) = false:=J96
     have HX:Hid (sgn ts why = []):=if_neg (fun h=>hk h.2)
     clear hw hk
     have kf0:=fun W=>tkf0 (hd ts) W
     have kf2:=fun W=>tkf2 (hd ts) W
     generalize hd ts = t at *
     go_enter func84,ntmps84
     go_wp2_with fail
     refine (c1 _ xr).mono ?_
     rintro e w1 ⟨rfl,E1⟩
     have HE1:Hid (Ext W w1):=E1
     clear E1
     go_wp2_with fail
     go_ret
     exact ⟨ret_s J46,HE1.out⟩
 · have w0':(why == 0) = false:=J122
   have HX:Hid (sgn ts why = []):=if_neg (fun h=>hw h.1)
   clear hw c1
   go_enter func84,ntmps84
   go_wp2_with fail
   go_ret
   exact ⟨ret_s J46,Ext.refl _⟩
def RpW (w0:World) (b:Nat) (W:World) (s:List UInt8) (ts:List Tk) (d pa why:Int) (e:Ending) (w':World):Prop:=e = .returned (.tuple #[])∧ExtB b W w' ∧
 ((sgn ts why = s∧Rp w0 b w' (nx ts) d pa why)∨(sgn ts why≠s∧∃ pa' why',why'≠0∧Rp w0 b w' ts d pa' why'))
theorem rwant_any {w0 W:World} {b:Nat} {ts:List Tk} {d pa why:Int} (h:Rp w0 b W ts d pa why) (s:ByteArray):Calls Tryz.prog 122 #[.pointer (some ⟨b,0,none⟩),.string s] W (RpW w0 b W s.data.toList ts d pa why):=by
 have HR:Hid (Rp w0 b W ts d pa why):=h
 have c1:=rsign_any h
 have hq:((bs (sgn ts why)).toList == s.toList) = decide (sgn ts why = s.data.toList):=by
   rw [bs_tl,ByteArray.toList_eq]
   by_cases hh:sgn ts why = s.data.toList <;> simp [hh]
 obtain ⟨sg,hsg⟩:∃ sg,sgn ts why = sg:=⟨_,rfl⟩
 rw [hsg] at c1 hq
 have HS:Hid (sgn ts why = sg):=hsg
 generalize bs sg = q at *
 clear h hsg
 by_cases he:sg = s.data.toList
 · rw [decide_eq_true he] at hq
   have HE:Hid (sg = s.data.toList):=he
   clear he
   go_enter func122,ntmps122
   go_wp2_with fail
   refine c1.mono ?_
   rintro e w1 ⟨rfl,E1⟩
   have HE1:Hid (Ext W w1):=E1
   clear E1 c1
   go_wp2_with fail
   refine (rnext_any (HR.out.ext HE1.out)).mono ?_
   rintro e w2 ⟨rfl,R2,X2⟩
   have H2:Hid (Rp w0 b w2 (nx ts) d pa why∧ExtB b W w2):=⟨R2,(HE1.out.toB b).trans X2⟩
   clear R2 X2
   go_wp2_with fail
   go_end0
   exact ⟨rfl,H2.out.2,.inl ⟨HS.out.trans HE.out,H2.out.1⟩⟩
 · rw [decide_eq_false he] at hq
   have HE:Hid (sg≠s.data.toList):=he
   clear he
   go_enter func122,ntmps122
   go_wp2_with fail
   refine c1.mono ?_
   rintro e w1 ⟨rfl,E1⟩
   have HE1:Hid (Ext W w1):=E1
   clear E1 c1
   go_wp2_with fail
   refine (rbad_any (HR.out.ext HE1.out) 4).mono ?_
   rintro e w2 ⟨rfl,R2,X2⟩
   have H2:Hid (ExtB b W w2∧∃ pa' why',why'≠0∧Rp w0 b w2 ts d pa' why'):=⟨(HE1.out.toB b).trans X2,_,_,by split <;> omega,R2⟩
   clear R2 X2
   go_wp2_with fail
   go_end0
   exact ⟨rfl,H2.out.1,.inr ⟨by rw [HS.out];exact HE.out,H2.out.2⟩⟩
def RpD (w0:World) (b:Nat) (W:World) (ts:List Tk) (d pa why:Int) (e:Ending) (w':World):Prop:=e = .returned (.tuple #[])∧ExtB b W w' ∧
 ((d+1≤40∧Rp w0 b w' ts (d+1) pa why)∨(40 < d+1∧∃ pa' why',why'≠0∧Rp w0 b w' ts (d+1) pa' why'))
theorem rdown_any {w0 W:World} {b:Nat} {ts:List Tk} {d pa why:Int} (h:Rp w0 b W ts d pa why) (hd9:d≤900):Calls Tryz.prog 121 #[.pointer (some ⟨b,0,none⟩)] W (RpD w0 b W ts d pa why):=by
 obtain ⟨h1,h2,h3,h4,h5,h6,h7,tb,off,c,n,i,all,g1,g2,g3,g4,g5,g6⟩:=h
 have HB:Hid (Blk5 W b (.slice (some ⟨tb,off,none⟩) n c) (.int .i64 (i:Int)) (.int .i64 d) (.int .i64 pa) (.int .i64 why)):=g6
 have HR:Hid (Rp w0 b (W.setCell ⟨b,2,none⟩ (.int .i64 (d+1))) ts (d+1) pa why∧ExtB b W (W.setCell ⟨b,2,none⟩ (.int .i64 (d+1)))):=⟨⟨h1.setCell h2 _,h2,h3,h4,h5,by omega,by omega,tb,off,c,n,i,all,g1,g2,g3,g4,g5,g6.put2 _⟩,(ExtB.refl b W).set (.inl rfl) _⟩
 have HB2:Hid (Blk5 (W.setCell ⟨b,2,none⟩ (.int .i64 (d+1))) b (.slice (some ⟨tb,off,none⟩) n c) (.int .i64 (i:Int)) (.int .i64 (d+1)) (.int .i64 pa) (.int .i64 why)):=g6.put2 _
 obtain ⟨hz,⟨b0,b1,b2,b3,b4⟩,f0,f1,f2,f3,f4⟩:=g6
 clear h1 h2 h3 h4 h5 g1 g2 g3 g4 g5
 by_cases hc:40 < d+1
 · go_enter func121,ntmps121
   go_wp2_with fail
   refine (rbad_any HR.out.1 2).mono ?_
   rintro e w2 ⟨rfl,R2,X2⟩
   have H2:Hid (ExtB b W w2∧∃ pa' why',why'≠0∧Rp w0 b w2 ts (d+1) pa' why'):=⟨HR.out.2.trans X2,_,_,by split <;> omega,R2⟩
   clear R2 X2
   go_wp2_with fail
   go_end0
   exact ⟨rfl,H2.out.1,.inr ⟨hc,H2.out.2⟩⟩
 · go_enter func121,ntmps121
   go_wp2_with fail
   go_end0
   exact ⟨rfl,HR.out.2,Or.inl (And.intro J2 HR.out.1)⟩
def RX (w0:World) (b:Nat) (W:World) (L:Nat) (lo d:Int) (r:Rs) (e:Ending) (w':World):Prop :=
 ExtB b W w'∧match r with
 | .ok a=>(∃ lv,e = .returned (aggX a.1 lv)∧IsL w' (W.heap.size≤·) lv a.1.l)∧∃ pa,Rp w0 b w' a.2 d pa 0
 | .error _=>(∃ x p l c,e = .returned (aggX x (.slice p l c)))∧∃ ts d' pa why,lo≤d'∧d'≤d∧why≠0∧ts.length≤L∧Rp w0 b w' ts d' pa why
theorem RX.cases {w0 W w':World} {b L:Nat} {lo d:Int} {r:Rs} {e:Ending} (h:RX w0 b W L lo d r e w') :
   (∃ f x p l c ts d' pa why,r = .error f∧e = .returned (aggX x (.slice p l c))∧lo≤d'∧d'≤d∧why≠0∧ts.length≤L∧Rp w0 b w' ts d' pa why∧ExtB b W w') ∨
   (∃ x ts p l c pa,r = .ok (x,ts)∧e = .returned (aggX x (.slice p l c))∧IsL w' (W.heap.size≤·) (.slice p l c) x.l∧Rp w0 b w' ts d pa 0∧ExtB b W w'):=by
 obtain ⟨h1,h2⟩:=h
 cases r with
 | error f =>
   obtain ⟨⟨x,p,l,c,he⟩,ts,d',pa,why,q1,q2,q3,q4,q5⟩:=h2
   exact .inl ⟨f,x,p,l,c,ts,d',pa,why,rfl,he,q1,q2,q3,q4,q5,h1⟩
 | ok a =>
   obtain ⟨⟨lv,he,hL⟩,pa,hR⟩:=h2
   obtain ⟨p,c,hf,_⟩:=hL.form
   subst hf
   exact .inr ⟨a.1,a.2,p,_,c,pa,rfl,he,hL,hR,h1⟩
theorem Rp.far {w0 W:World} {b g o:Nat} {ts:List Tk} {d pa why:Int} (h:Rp w0 b W ts d pa why) (hg:g≠b) (h0:w0.heap.size≤g) (u:Value):Rp w0 b (W.setCell ⟨g,o,none⟩ u) ts d pa why:=by
 obtain ⟨h1,h2,h3,h4,h5,h6,h7,tb,off,c,n,i,all,g1,g2,g3,g4,g5,g6⟩:=h
 exact ⟨h1.setCell h0 _,h2,h3,h4,h5,h6,h7,tb,off,c,n,i,all,g1,g2,g3,g4,g5,g6.far1 hg _ _⟩
theorem putX_R {w0 W:World} {b g:Nat} {ts:List Tk} {d pa why:Int} (h:Rp w0 b W ts d pa why) (hg:g≠b) (h0:w0.heap.size≤g) (t:T) (lv:Value):Rp w0 b (putX W g t lv) ts d pa why:=by
 unfold putX
 iterate 13 refine Rp.far ?_ hg h0 _
 exact h
def leftR (b:Nat) (w:World):Nat:=match w.cell? ⟨b,0,none⟩,w.cell? ⟨b,1,none⟩ with
 | some (.slice _ n _),some (.int _ i)=>n - i.toNat
 | _,_=>0
theorem Rp.left {w0 W:World} {b:Nat} {ts:List Tk} {d pa why:Int} (h:Rp w0 b W ts d pa why):leftR b W = ts.length:=by
 obtain ⟨h1,h2,h3,h4,h5,h6,h7,tb,off,c,n,i,all,g1,g2,g3,g4,g5,g6⟩:=h
 unfold leftR
 rw [g6.2.1.1,g6.2.1.2.1,← g5,List.length_drop,g2]
 simp
theorem Rp.lt {w0 W:World} {b:Nat} {ts:List Tk} {d pa why:Int} (h:Rp w0 b W ts d pa why):b < W.heap.size∧w0.heap.size≤b:=by
 obtain ⟨h1,h2,h3,h4,h5,h6,h7,tb,off,c,n,i,all,g1,g2,g3,g4,g5,g6⟩:=h
 exact ⟨g6.1,h2⟩
theorem endR {fn:Func} {a:Act} {W:World} {g:Nat} {t:T} {lv:Value} {Q:Ending→World→Prop} (B:BlkX W g t lv) (hd:a.defers = []) (hQ:Q (.returned (aggX t lv)) W)
   (hr:W.cell? ⟨g,0,none⟩ = some (.int .i64 t.k)→W.cell? ⟨g,1,none⟩ = some (.int .i64 t.n)→W.cell? ⟨g,2,none⟩ = some (.string (bs t.s))→W.cell? ⟨g,3,none⟩ = some (.int .i64 t.e)→W.cell? ⟨g,4,none⟩ = some (.int .i64 t.r.1)→W.cell? ⟨g,5,none⟩ = some (.int .i64 t.r.2.1)→W.cell? ⟨g,6,none⟩ = some (.bool t.r.2.2.1)→W.cell? ⟨g,7,none⟩ = some (.bool t.r.2.2.2)→W.cell? ⟨g,8,none⟩ = some (.int .i64 t.q.1)→W.cell? ⟨g,9,none⟩ = some (.int .i64 t.q.2.1)→W.cell? ⟨g,10,none⟩ = some (.bool t.q.2.2.1)→W.cell? ⟨g,11,none⟩ = some (.bool t.q.2.2.2)→W.cell? ⟨g,12,none⟩ = some lv→(results fn a.tmps).run Tryz.prog W = .ok (aggX t lv) W) :
   bodyPost Tryz.prog fn Q .ret a W:=by
 obtain ⟨z,⟨k0,k1,k2,k3,k4,k5,k6,k7,k8,k9,k10,k11,k12⟩,f⟩:=B
 exact bodyPost_ret (hr k0 k1 k2 k3 k4 k5 k6 k7 k8 k9 k10 k11 k12) hd hQ
def RY (w0:World) (b:Nat) (W:World) (L:Nat) (lo d:Int) (r:Rs) (x:T) (lv:Value) (w':World):Prop :=
 ExtB b W w'∧((∃ ts pa,r = .ok (x,ts)∧IsL w' (W.heap.size≤·) lv x.l∧Rp w0 b w' ts d pa 0)∨(∃ f ts d' pa why,r = .error f∧lo≤d'∧d'≤d∧why≠0∧ts.length≤L∧Rp w0 b w' ts d' pa why))
theorem RX.form {w0 W w':World} {b L:Nat} {lo d:Int} {r:Rs} {e:Ending} (h:RX w0 b W L lo d r e w'):∃ x p l c,e = .returned (aggX x (.slice p l c))∧RY w0 b W L lo d r x (.slice p l c) w':=by
 rcases h.cases with ⟨f,x,p,l,c,ts1,d',pa1,why,hr,he,q1,q2,q3,q4,R1,X1⟩ | ⟨x,ts1,p,l,c,pa1,hr,he,hL,R1,X1⟩
 · exact ⟨x,p,l,c,he,X1,.inr ⟨f,ts1,d',pa1,why,hr,q1,q2,q3,q4,R1⟩⟩
 · exact ⟨x,p,l,c,he,X1,.inl ⟨ts1,pa1,hr,hL,R1⟩⟩
theorem RY.back {w0 W w':World} {b L:Nat} {lo d:Int} {r:Rs} {x:T} {p:Option Addr} {l c:Nat} (h:RY w0 b W L lo d r x (.slice p l c) w'):RX w0 b W L lo d r (.returned (aggX x (.slice p l c))) w':=by
 obtain ⟨h1,⟨ts,pa,rfl,hL,hR⟩ | ⟨f,ts,d',pa,why,rfl,q1,q2,q3,q4,q5⟩⟩:=h
 · exact ⟨h1,⟨_,rfl,hL⟩,pa,hR⟩
 · exact ⟨h1,⟨x,p,l,c,rfl⟩,ts,d',pa,why,q1,q2,q3,q4,q5⟩
theorem RY.put {w0 W V w':World} {b L L':Nat} {lo d:Int} {r:Rs} {x:T} {lv:Value} (h:RY w0 b V L lo d r x lv w') (hV:ExtB b W V) (hs:W.heap.size < V.heap.size) (hg:W.heap.size≠b) (h0:w0.heap.size≤W.heap.size) (hL:L≤L') :
   RY w0 b W L' lo d r x lv (putX w' W.heap.size x lv):=by
 obtain ⟨h1,h2⟩:=h
 refine ⟨putX_B (hV.trans h1) nrf x lv,?_⟩
 rcases h2 with ⟨ts,pa,hr,hl,hR⟩ | ⟨f,ts,d',pa,why,hr,q1,q2,q3,q4,q5⟩
 · exact .inl ⟨ts,pa,hr,hl.keep J29 (fun j hj hs=>putX_heap _ _ _ _ _ J2) J52,putX_R hR hg h0 _ _⟩
 · exact .inr ⟨f,ts,d',pa,why,hr,q1,q2,q3,by omega,putX_R q5 hg h0 _ _⟩
theorem Rp.deep {w0 W:World} {b:Nat} {ts:List Tk} {d pa why:Int} (h:Rp w0 b W ts d pa why) (hd9:-900≤d):Rp w0 b (W.setCell ⟨b,2,none⟩ (.int .i64 (d - 1))) ts (d - 1) pa why:=by
 obtain ⟨h1,h2,h3,h4,h5,h6,h7,tb,off,c,n,i,all,g1,g2,g3,g4,g5,g6⟩:=h
 exact ⟨h1.setCell h2 _,h2,h3,h4,h5,by omega,by omega,tb,off,c,n,i,all,g1,g2,g3,g4,g5,g6.put2 _⟩
theorem Blk5.extB {b g:Nat} {w w':World} {x0 x1 x2 x3 x4:Value} (h:Blk5 w g x0 x1 x2 x3 x4) (e:ExtB b w w') (hg:g≠b):Blk5 w' g x0 x1 x2 x3 x4:=by
 obtain ⟨h1,⟨a0,a1,a2,a3,a4⟩,f0,f1,f2,f3,f4⟩:=h
 exact ⟨llL h1 e.size,⟨(e.cell h1 hg 0).1.trans a0,(e.cell h1 hg 1).1.trans a1,(e.cell h1 hg 2).1.trans a2,(e.cell h1 hg 3).1.trans a3,(e.cell h1 hg 4).1.trans a4⟩,(e.cell h1 hg 0).2.trans f0,(e.cell h1 hg 1).2.trans f1,(e.cell h1 hg 2).2.trans f2,(e.cell h1 hg 3).2.trans f3,(e.cell h1 hg 4).2.trans f4⟩
def PfC (w0:World) (b n:Nat):Prop:=∀ (W:World) (ts:List Tk) (d:Nat) (pa:Int),Rp w0 b W ts d pa 0→ts.length≤n→d≤40→Calls Tryz.prog 83 #[.pointer (some ⟨b,0,none⟩)] W (RX w0 b W ts.length (d - 1) d (O n d ts))
def ExC (w0:World) (b n m:Nat):Prop:=∀ (W:World) (ts:List Tk) (d:Nat) (pa:Int) (k:Nat),Rp w0 b W ts d pa 0→ts.length≤m→d≤40→1≤k→k≤5→Calls Tryz.prog 49 #[.pointer (some ⟨b,0,none⟩),.int .i64 (k:Int)] W (RX w0 b W ts.length (d - 1) d (LvK (O n) k d ts))
theorem exp_core (w0:World) (b n m L dn k:Nat) (lo d:Int) (W:World) (r0 R:Rs) (hW0:w0.heap.size≤W.heap.size) (hbW:b < W.heap.size) (hL:L≤m) (hm:m≤n) (hk5:1≤k∧k≤5)
   (c1:∀ V,Ext W V→Calls Tryz.prog 83 #[.pointer (some ⟨b,0,none⟩)] V (RX w0 b V L lo d r0)) (hE:∀ f,r0 = .error f→∃ f,R = .error f)
   (hO:∀ x ts1,r0 = .ok (x,ts1)→d = (dn:Int)∧dn≤40∧ts1.length≤L∧R = cl (O n) dn ts1.length k x ts1) (ih:(∃ a,r0 = .ok a)→lo≤d - 1∧∀ m',m' < m→ExC w0 b n m') :
   Calls Tryz.prog 49 #[.pointer (some ⟨b,0,none⟩),.int .i64 (k:Int)] W (RX w0 b W L lo d R):=by
 have HN:Hid (L≤m∧m≤n∧1≤k∧k≤5):=⟨hL,hm,hk5⟩
 have HIH:Hid ((∃ a,r0 = .ok a)→lo≤d - 1∧∀ m',m' < m→ExC w0 b n m'):=ih
 have HC1:Hid (∀ V,Ext W V→Calls Tryz.prog 83 #[.pointer (some ⟨b,0,none⟩)] V (RX w0 b V L lo d r0)):=c1
 have hgW:W.heap.size≠b:=J2
 have HW0:Hid (w0.heap.size≤W.heap.size):=hW0
 have HER:Hid (∀ f,r0 = .error f→∃ f,R = .error f):=hE
 have HOR:Hid (∀ x ts1,r0 = .ok (x,ts1)→d = (dn:Int)∧dn≤40∧ts1.length≤L∧R = cl (O n) dn ts1.length k x ts1):=hO
 have hk4:k≤5:=hk5.2
 clear hL hm hk5 ih c1 hE hO hW0
 go_enter func49,ntmps49
 go_wp2_with fail
 refine (HC1.out _ (xr.alloc _)).mono ?_
 intro e w1 h1
 obtain ⟨x,p,l,c,rfl,HJ⟩:∃ x p l c,e = .returned (aggX x (.slice p l c))∧Hid (∃ us d' pa why,Rp w0 b w1 us d' pa why∧us.length≤L∧((why = 0∧d' = (dn:Int)∧d = (dn:Int)∧(dn≤40∧∃ a,r0 = .ok a)∧IsL w1 (fun j=>W.heap.size+1≤j∧j≠w1.heap.size) (.slice p l c) x.l∧R = cl (O n) dn us.length k x us)∨(why≠0∧lo≤d'∧d'≤d∧∃ f,R = .error f))):=by
   rcases h1.cases with ⟨f,x,p,l,c,ts1,d',pa1,why,hr,he,q1,q2,q3,q4,R1,X1⟩ | ⟨x,ts1,p,l,c,pa1,hr,he,hL,R1,X1⟩
   · exact ⟨x,p,l,c,he,ts1,d',pa1,why,R1,q4,.inr ⟨q3,q1,q2,HER.out f hr⟩⟩
   · obtain ⟨o1,o2,o3,o4⟩:=HOR.out x ts1 hr
     exact ⟨x,p,l,c,he,ts1,d,pa1,0,R1,o3,.inl ⟨rfl,o1,o1,⟨o2,_,hr⟩,hL.mono (fun j hj hs=>⟨by simp at hj;exact hj,by omega⟩),o4⟩⟩
 have X1:=h1.1
 have hw1:W.heap.size+1≤w1.heap.size:=by have:=X1.size;simp at this;omega
 have HB:Hid (BlkX w1 W.heap.size tz (.slice none 0 0)∧ExtB b W w1∧W.heap.size+1≤w1.heap.size):=⟨(BlkX.top rfl xr).extB X1 hgW,((ExtB.refl b W).alloc _).trans X1,hw1⟩
 have hg1:w1.heap.size≠b:=J2
 clear h1 X1 HC1 HER HOR
 unfold aggX
 go_wp2_with fail
 go_loopw [6] (fun _ wr=>∃ x p l c us d' pa why,BlkX wr w1.heap.size x (.slice p l c)∧BlkX wr W.heap.size tz (.slice none 0 0)∧ExtB b W wr∧Rp w0 b wr us d' pa why∧us.length≤L∧((why = 0∧d' = (dn:Int)∧d = (dn:Int)∧(dn≤40∧∃ a,r0 = .ok a)∧IsL wr (fun j=>W.heap.size+1≤j∧j≠w1.heap.size) (.slice p l c) x.l∧R = cl (O n) dn us.length k x us)∨(why≠0∧lo≤d'∧d'≤d∧∃ f,R = .error f))) (fun _ wr=>leftR b wr)
 case atStart =>
   obtain ⟨us,d',pa,why,j1,j2,j3⟩:=HJ.out
   refine ⟨x,p,l,c,us,d',pa,why,blk13_top rfl xr,HB.out.1.ext (xr.alloc _),HB.out.2.1.alloc _,j1.ext (xr.alloc _),j2,?_⟩
   rcases j3 with ⟨a1,a2,a6,a3,a4,a5⟩ | j3
   · exact .inl ⟨a1,a2,a6,a3,a4.ext (xr.alloc _),a5⟩
   · exact .inr j3
 case round =>
   clear HJ
   obtain ⟨x,p,l,c,us,d',pa,why,i1,i2,i3,i4,i5,i6⟩:=hrel
   have HO:Hid (BlkX wr w1.heap.size x (.slice p l c)∧BlkX wr W.heap.size tz (.slice none 0 0)∧ExtB b W wr):=⟨i1,i2,i3⟩
   have HRp:Hid (Rp w0 b wr us d' pa why):=i4
   have HU:Hid (us.length≤L):=i5
   have hwz:w1.heap.size < wr.heap.size:=i1.1
   rcases i6 with ⟨rfl,rfl,hdd,hdn,iL,hRc⟩ | ⟨hne,i6⟩
   · have HD:Hid (dn≤40∧∃ a,r0 = .ok a):=hdn
     have HDD:Hid (d = (dn:Int)):=hdd
     have HLx:Hid (IsL wr (fun j=>W.heap.size+1≤j∧j≠w1.heap.size) (.slice p l c) x.l):=iL
     have HRC:Hid (R = cl (O n) dn us.length k x us):=hRc
     have cS:=fun V e=>rsign_any (HRp.out.ext (W':=V) e)
     obtain ⟨sg,hsg⟩:∃ sg,sgn us 0 = sg:=⟨_,rfl⟩
     rw [hsg] at cS
     have HSG:Hid (sgn us 0 = sg):=hsg
     have cB:=fun W=>rpow8_any (bs sg) W
     have es:(bs sg).data.toList = sg:=rfl
     rw [es] at cB
     obtain ⟨bb,hbb⟩:∃ bb,bnd sg = bb:=⟨_,rfl⟩
     rw [hbb] at cB
     have HBB:Hid (bnd sg = bb):=hbb
     have hb4:bb≤4:=by rw [← hbb];exact bnd_le4 sg
     obtain ⟨g0,g1,g2,g3,g4,g5,g6,tb,off,cc,nn,ii,all,u1,u2,u3,u4,u5,u6⟩:=i4
     obtain ⟨hz,⟨b0,b1,b2,b3,b4⟩,f0,f1,f2,f3,f4⟩:=u6
     clear i1 i2 i3 i5 iL hRc hdn hdd es hsg hbb g0 g1 g2 g3 g4 g5 g6 u1 u2 u3 u4 u5
     by_cases hbk:(k:Int)≤(bb:Int)
     · have HC3:Hid ((hd us).1 = 3∧(hd us).2.2.1 = sg∧k≤bnd sg):=by
         have e1:=HSG.out
         have e2:=HBB.out
         have e3:=HN.out.2.2.1
         unfold sgn at e1
         split at e1
         · rename_i h;exact ⟨h.2,e1,by omega⟩
         · subst e1;exact absurd e2 (by show ¬ bnd [] = bb;have:bnd [] = 0:=rfl;omega)
       have HT:Hid (Nz us.tail∧us.tail.length+1 = us.length):=tail_sh HRp.out.2.2.1 HC3.out.1
       have HNX:Hid (nx us = us.tail):=nx_tail HRp.out.2.2.1 (by rw [HC3.out.1];decide)
       go_wp2_with fail
       refine (cS _ xr).mono ?_
       rintro e wa ⟨rfl,Ea⟩
       have HEa:Hid (Ext wr wa):=Ea
       clear Ea b0 b1 b2 b3 b4 f0 f1 f2 f3 f4 hz
       go_wp2_with fail
       refine (cB _).mono ?_
       rintro e wb ⟨rfl,rfl⟩
       go_wp2_with fail
       refine (cS _ HEa.out).mono ?_
       rintro e w2 ⟨rfl,E2⟩
       have HE2:Hid (Ext wr w2):=HEa.out.trans E2
       clear E2 HEa
       go_wp2_with fail
       refine (rnext_any (HRp.out.ext HE2.out)).mono ?_
       rintro e w3 ⟨rfl,R3,X3⟩
       have H3:Hid (Rp w0 b w3 us.tail dn pa 0∧ExtB b wr w3):=⟨HNX.out ▸ R3,(HE2.out.toB b).trans X3⟩
       clear R3 X3 HE2
       go_wp2_with fail
       refine (cB _).mono ?_
       rintro e w3 ⟨rfl,rfl⟩
       go_wp2_with fail
       refine ((HIH.out HD.out.2).2 us.tail.length (by have:=HT.out.2;have:=HU.out;have:=HN.out.1;omega) w3 us.tail dn pa (bb+1) H3.out.1 nrf HD.out.1 J2 J2).mono ?_
       intro e w4 h4
       obtain ⟨y,p2,l2,c2,rfl,H4⟩:∃ y p2 l2 c2,e = .returned (aggX y (.slice p2 l2 c2))∧Hid (ExtB b wr w4∧∃ us2 d' pa why,Rp w0 b w4 us2 d' pa why∧us2.length < us.length∧((why = 0∧d' = (dn:Int)∧IsL w4 (w3.heap.size≤·) (.slice p2 l2 c2) y.l∧R = cl (O n) dn us2.length k (tBin sg x y) us2)∨(why≠0∧(dn:Int) - 1≤d'∧d'≤dn∧∃ f,R = .error f))):=by
         have t2:=HT.out.2
         have hRC:=HRC.out
         obtain ⟨g,hg⟩:∃ g,us.length = g+1:=⟨us.length - 1,by omega⟩
         rw [hg,cl,if_pos ⟨HC3.out.1,by rw [HC3.out.2.1];exact HC3.out.2.2⟩,HC3.out.2.1,HBB.out] at hRC
         rcases h4.cases with ⟨f,y,p2,l2,c2,ts1,d',pa1,why,hr,he,q1,q2,q3,q4,R1,X1⟩ | ⟨y,ts1,p2,l2,c2,pa1,hr,he,hL,R1,X1⟩
         · exact ⟨y,p2,l2,c2,he,H3.out.2.trans X1,ts1,d',pa1,why,R1,by omega,.inr ⟨q3,q1,q2,f,by rw [hRC,hr]⟩⟩
         · have n1:=HN.out
           have n2:=HU.out
           have s2:=LvK_sh (O_sh n) _ dn us.tail HT.out.1 J2 y ts1 hr
           have s3:=s2.2
           refine ⟨y,p2,l2,c2,he,H3.out.2.trans X1,ts1,dn,pa1,0,R1,by omega,.inl ⟨rfl,rfl,hL,?_⟩⟩
           rw [hRC,hr]
           exact cl_fuel (O_sh n) k dn g ts1.length _ ts1 s2.1 J2 J2 nrf
       have X4:=H4.out.1
       have HO4:Hid (BlkX w4 w1.heap.size x (.slice p l c)∧BlkX w4 W.heap.size tz (.slice none 0 0)∧ExtB b W w4∧IsL w4 (fun j=>W.heap.size+1≤j∧j≠w1.heap.size) (.slice p l c) x.l∧w1.heap.size < w4.heap.size):=⟨HO.out.1.extB X4 hg1,HO.out.2.1.extB X4 hgW,HO.out.2.2.trans X4,HLx.out.extB X4 J35,by have:=X4.size;omega⟩
       have hz4:w1.heap.size < w4.heap.size:=HO4.out.2.2.2.2
       have hz3:wr.heap.size≤w3.heap.size:=H3.out.2.size
       clear h4 X4
       have HB0:=HO4.out.1
       obtain ⟨qa,⟨la0,la1,la2,la3,la4,la5,la6,la7,la8,la9,la10,la11,la12⟩,ga0,ga1,ga2,ga3,ga4,ga5,ga6,ga7,ga8,ga9,ga10,ga11,ga12⟩:=HB0
       unfold aggX
       go_wp2_with fail
       clear la0 la1 la2 la3 la4 la5 la6 la7 la8 la9 la10 la11 la12 ga0 ga1 ga2 ga3 ga4 ga5 ga6 ga7 ga8 ga9 ga10 ga11 ga12 qa cS cB
       show (fun V=>(∃ x p l c us d' pa why,BlkX V w1.heap.size x (.slice p l c)∧BlkX V W.heap.size tz (.slice none 0 0)∧ExtB b W V∧Rp w0 b V us d' pa why∧us.length≤L∧((why = 0∧d' = (dn:Int)∧d = (dn:Int)∧(dn≤40∧∃ a,r0 = .ok a)∧IsL V (fun j=>W.heap.size+1≤j∧j≠w1.heap.size) (.slice p l c) x.l∧R = cl (O n) dn us.length k x us)∨(why≠0∧lo≤d'∧d'≤d∧∃ f,R = .error f)))∧leftR b V < leftR b wr) (((putX w4 w1.heap.size (tBin sg x y) (.slice (some ⟨w4.heap.size+1,0,none⟩) 2 2)).alloc (.cells #[.int .i64 y.k,.int .i64 y.n,.string (bs y.s),.int .i64 y.e,.int .i64 y.r.1,.int .i64 y.r.2.1,.bool y.r.2.2.1,.bool y.r.2.2.2,.int .i64 y.q.1,.int .i64 y.q.2.1,.bool y.q.2.2.1,.bool y.q.2.2.2,.slice p2 l2 c2] 43)).alloc (.cells #[.int .i64 x.k,.int .i64 x.n,.string (bs x.s),.int .i64 x.e,.int .i64 x.r.1,.int .i64 x.r.2.1,.bool x.r.2.2.1,.bool x.r.2.2.2,.int .i64 x.q.1,.int .i64 x.q.2.1,.bool x.q.2.2.1,.bool x.q.2.2.2,.slice p l c,.int .i64 y.k,.int .i64 y.n,.string (bs y.s),.int .i64 y.e,.int .i64 y.r.1,.int .i64 y.r.2.1,.bool y.r.2.2.1,.bool y.r.2.2.2,.int .i64 y.q.1,.int .i64 y.q.2.1,.bool y.q.2.2.1,.bool y.q.2.2.2,.slice p2 l2 c2] 43))
       obtain ⟨X4,us2,d2,pa2,why2,R2,hlt,hcase⟩:=H4.out
       obtain ⟨o1,o2,o3,o4,o5⟩:=HO4.out
       have hw0:=HW0.out
       have zs:=putX_size w4 w1.heap.size (tBin sg x y) (.slice (some ⟨w4.heap.size+1,0,none⟩) 2 2)
       have R6:=putX_R R2 hg1 J2 (tBin sg x y) (.slice (some ⟨w4.heap.size+1,0,none⟩) 2 2)
       have X6:=putX_B o3 (show W.heap.size≤w1.heap.size by omega) (tBin sg x y) (.slice (some ⟨w4.heap.size+1,0,none⟩) 2 2)
       have B6:BlkX (putX w4 w1.heap.size (tBin sg x y) (.slice (some ⟨w4.heap.size+1,0,none⟩) 2 2)) W.heap.size tz (.slice none 0 0):=Blk13.far o2 J2 _ _ _ _ _ _ _ _ _ _ _ _ _
       have A6:=o1.put (tBin sg x y) (.slice (some ⟨w4.heap.size+1,0,none⟩) 2 2)
       have L6:∀ v l',IsL w4 (fun j=>W.heap.size+1≤j∧j≠w1.heap.size) v l'→IsL (putX w4 w1.heap.size (tBin sg x y) (.slice (some ⟨w4.heap.size+1,0,none⟩) 2 2)) (fun j=>W.heap.size+1≤j∧j≠w1.heap.size) v l':=fun v l' hh=>hh.keep (by rw [zs];exact Nat.le_refl _) (fun j hj hs=>putX_heap _ _ _ _ _ hj.2) (fun j hj _=>hj)
       have hu:=HU.out
       have hm2:leftR b wr = us.length:=HRp.out.left
       generalize putX w4 w1.heap.size (tBin sg x y) (.slice (some ⟨w4.heap.size+1,0,none⟩) 2 2) = V6 at zs R6 X6 B6 A6 L6 ⊢
       refine ⟨⟨tBin sg x y,some ⟨w4.heap.size+1,0,none⟩,2,2,us2,d2,pa2,why2,A6.ext ((xr.alloc _).alloc _),B6.ext ((xr.alloc _).alloc _),(X6.alloc _).alloc _,R6.ext ((xr.alloc _).alloc _),by omega,?_⟩,?_⟩
       · rcases hcase with ⟨z1,z2,z3,z4⟩ | ⟨z1,z2,z3,z4⟩
         · have hx:=(L6 _ _ o4).ext (xr.alloc (.cells #[.int .i64 y.k,.int .i64 y.n,.string (bs y.s),.int .i64 y.e,.int .i64 y.r.1,.int .i64 y.r.2.1,.bool y.r.2.2.1,.bool y.r.2.2.2,.int .i64 y.q.1,.int .i64 y.q.2.1,.bool y.q.2.2.1,.bool y.q.2.2.2,.slice p2 l2 c2] 43))
           have hy:=(L6 _ _ (z3.mono (fun j hj _=>(⟨by omega,by omega⟩:W.heap.size+1≤j∧j≠w1.heap.size)))).ext (xr.alloc (.cells #[.int .i64 y.k,.int .i64 y.n,.string (bs y.s),.int .i64 y.e,.int .i64 y.r.1,.int .i64 y.r.2.1,.bool y.r.2.2.1,.bool y.r.2.2.2,.int .i64 y.q.1,.int .i64 y.q.2.1,.bool y.q.2.2.1,.bool y.q.2.2.2,.slice p2 l2 c2] 43))
           have e:(V6.alloc (.cells #[.int .i64 y.k,.int .i64 y.n,.string (bs y.s),.int .i64 y.e,.int .i64 y.r.1,.int .i64 y.r.2.1,.bool y.r.2.2.1,.bool y.r.2.2.2,.int .i64 y.q.1,.int .i64 y.q.2.1,.bool y.q.2.2.1,.bool y.q.2.2.2,.slice p2 l2 c2] 43)).heap.size = w4.heap.size+1:=by simp [zs]
           have hxy:=IsL.two hx hy ⟨by omega,by omega⟩
           rw [e] at hxy
           exact .inl ⟨z1,z2,HDD.out,HD.out,hxy,z4⟩
         · exact .inr ⟨z1,by have h9:=(HIH.out HD.out.2).1;have h8:=HDD.out;omega,by rw [HDD.out];exact z3,z4⟩
       · rw [(R6.ext ((xr.alloc _).alloc _)).left,hm2]
         exact hlt
     · have HNC:Hid (R = .ok (x,us)):=by
         have hRC:=HRC.out
         obtain ⟨g,hg⟩:∃ g,us.length = g+1:=⟨us.length - 1,by have:=HRp.out.2.2.1.pos;omega⟩
         rw [hg,cl,if_neg] at hRC
         · exact hRC
         · rintro ⟨h1,h2⟩
           have e1:=HSG.out
           unfold sgn at e1
           rw [if_pos ⟨rfl,h1⟩] at e1
           rw [e1,HBB.out] at h2
           omega
       go_wp2_with fail
       refine (cS _ xr).mono ?_
       rintro e wa ⟨rfl,Ea⟩
       have HEa:Hid (Ext wr wa):=Ea
       clear Ea b0 b1 b2 b3 b4 f0 f1 f2 f3 f4 hz
       go_wp2_with fail
       refine (cB _).mono ?_
       rintro e wb ⟨rfl,rfl⟩
       have HO2:Hid (BlkX wb w1.heap.size x (.slice p l c)∧BlkX wb W.heap.size tz (.slice none 0 0)∧ExtB b W wb):=⟨HO.out.1.ext HEa.out,HO.out.2.1.ext HEa.out,HO.out.2.2.trans (HEa.out.toB b)⟩
       have HB0:=HO2.out.1
       obtain ⟨qa,⟨la0,la1,la2,la3,la4,la5,la6,la7,la8,la9,la10,la11,la12⟩,ga0,ga1,ga2,ga3,ga4,ga5,ga6,ga7,ga8,ga9,ga10,ga11,ga12⟩:=HB0
       have HB00:=HO2.out.2.1
       obtain ⟨qc,⟨lc0,lc1,lc2,lc3,lc4,lc5,lc6,lc7,lc8,lc9,lc10,lc11,lc12⟩,gc0,gc1,gc2,gc3,gc4,gc5,gc6,gc7,gc8,gc9,gc10,gc11,gc12⟩:=HB00
       go_wp2_with fail
       show bodyPost Tryz.prog _ _ _ _ (putX wb W.heap.size x (.slice p l c))
       have B6:=HO2.out.2.1.put x (.slice p l c)
       have R6:=putX_R (HRp.out.ext HEa.out) hgW HW0.out x (.slice p l c)
       have X6:=putX_B HO2.out.2.2 nrf x (.slice p l c)
       rw [HNC.out]
       refine endR B6 rfl ⟨X6,⟨_,rfl,((HLx.out.ext HEa.out).keep J29 (fun j hj hs=>putX_heap _ _ _ _ _ J2) (fun j hj _=>hj)).mono J52⟩,pa,HDD.out ▸ R6⟩ (fun h0 h1 h2 h3 h4 h5 h6 h7 h8 h9 h10 h11 h12=>by simp [results,results49,go_sem,h0,h1,h2,h3,h4,h5,h6,h7,h8,h9,h10,h11,h12,aggX])
   · have HRr:Hid (why≠0∧lo≤d'∧d'≤d∧∃ f,R = .error f):=⟨hne,i6⟩
     have w0':(why == 0) = false:=by simpa using hne
     obtain ⟨g0,g1,g2,g3,g4,g5,g6,tb,off,cc,nn,ii,all,u1,u2,u3,u4,u5,u6⟩:=i4
     obtain ⟨hz,⟨b0,b1,b2,b3,b4⟩,f0,f1,f2,f3,f4⟩:=u6
     clear i1 i2 i3 i5 i6 hne g0 g1 g2 g3 g4 g5 g6 u1 u2 u3 u4 u5
     have HB0:=HO.out.1
     obtain ⟨qa,⟨la0,la1,la2,la3,la4,la5,la6,la7,la8,la9,la10,la11,la12⟩,ga0,ga1,ga2,ga3,ga4,ga5,ga6,ga7,ga8,ga9,ga10,ga11,ga12⟩:=HB0
     have HB00:=HO.out.2.1
     obtain ⟨qc,⟨lc0,lc1,lc2,lc3,lc4,lc5,lc6,lc7,lc8,lc9,lc10,lc11,lc12⟩,gc0,gc1,gc2,gc3,gc4,gc5,gc6,gc7,gc8,gc9,gc10,gc11,gc12⟩:=HB00
     go_wp2_with fail
     show bodyPost Tryz.prog _ _ _ _ (putX wr W.heap.size x (.slice p l c))
     have B6:=HO.out.2.1.put x (.slice p l c)
     have R6:=putX_R HRp.out hgW HW0.out x (.slice p l c)
     have X6:=putX_B HO.out.2.2 nrf x (.slice p l c)
     obtain ⟨r1,r2,r3,f,hf⟩:=HRr.out
     rw [hf]
     exact endR B6 rfl ⟨X6,⟨x,p,l,c,rfl⟩,us,d',pa,why,r2,r3,r1,HU.out,R6⟩ (fun h0 h1 h2 h3 h4 h5 h6 h7 h8 h9 h10 h11 h12=>by simp [results,results49,go_sem,h0,h1,h2,h3,h4,h5,h6,h7,h8,h9,h10,h11,h12,aggX])
theorem exp_step (w0:World) (b n m:Nat) (hm:m≤n) (hP:PfC w0 b n) (ih:∀ m',m' < m→ExC w0 b n m'):ExC w0 b n m:=by
 intro W ts d pa k h hts hd hk1 hk5
 have hCl:=clm_all (O_sh n) hd k hk1 hk5 ts h.2.2.1 J2
 refine exp_core w0 b n m ts.length d k ((d:Int) - 1) d W (O n d ts) (LvK (O n) k d ts) h.1.sz h.lt.1 hts hm ⟨hk1,hk5⟩ (fun V e=>hP V ts d pa (h.ext e) J2 hd) ?_ ?_ (fun _=>⟨Int.le_refl _,ih⟩)
 · intro f hr
   exact ⟨f,by rw [hCl,hr];rfl⟩
 · intro x ts1 hr
   have s2:=O_sh n d ts h.2.2.1 J2 x ts1 hr
   have s3:=s2.2
   exact ⟨rfl,hd,by omega,by rw [hCl,hr];rfl⟩
theorem exp_all (w0:World) (b n:Nat) (hP:PfC w0 b n):∀ m,m≤n→ExC w0 b n m:=by
 intro m
 induction m using Nat.strongRecOn with
 | ind m ih=>exact fun hm=>exp_step w0 b n m hm hP (fun m' h=>ih m' h J2)
def PfB (w0:World) (b:Nat):Prop:=∀ (W:World) (ts:List Tk) (d pa why:Int),Rp w0 b W ts d pa why→why≠0→Calls Tryz.prog 83 #[.pointer (some ⟨b,0,none⟩)] W (RX w0 b W ts.length d d (.error (ft ts true)))
theorem exp_bad (w0:World) (b:Nat) (hP:PfB w0 b) (W:World) (ts:List Tk) (d pa why:Int) (h:Rp w0 b W ts d pa why) (hw:why≠0):Calls Tryz.prog 49 #[.pointer (some ⟨b,0,none⟩),.int .i64 1] W (RX w0 b W ts.length d d (.error (ft ts true))) :=
 exp_core w0 b ts.length ts.length ts.length 0 1 d d W (.error (ft ts true)) (.error (ft ts true)) h.1.sz h.lt.1 nrf nrf ⟨by omega,by omega⟩ (fun V e=>hP V ts d pa why (h.ext e) hw) (fun f _=>⟨_,rfl⟩) (fun x ts1 hr=>by cases hr) (fun ⟨a,ha⟩=>by cases ha)
theorem IsL.one1 {P:Nat→Prop} {W:World} {x:T} {lx:Value} (hx:IsL W P lx x.l) (hP:P W.heap.size) :
   IsL (W.alloc (.cells #[.int .i64 x.k,.int .i64 x.n,.string (bs x.s),.int .i64 x.e,.int .i64 x.r.1,.int .i64 x.r.2.1,.bool x.r.2.2.1,.bool x.r.2.2.2,.int .i64 x.q.1,.int .i64 x.q.2.1,.bool x.q.2.2.1,.bool x.q.2.2.2,lx] 43)) P (.slice (some ⟨W.heap.size,0,none⟩) 1 1) [x]:=by
 refine .mk W.heap.size 0 1 1 [x] (fun i=>lx) rfl nrf hP J65 ?_ ?_
 · intro i t j u hi hj
   rw [cell_of_row _ _ _ _ _ (0,0) (new_top W _),Nat.zero_add,← Array.getElem?_toList]
   have e:(#[.int .i64 x.k,.int .i64 x.n,.string (bs x.s),.int .i64 x.e,.int .i64 x.r.1,.int .i64 x.r.2.1,.bool x.r.2.2.1,.bool x.r.2.2.2,.int .i64 x.q.1,.int .i64 x.q.2.1,.bool x.q.2.2.1,.bool x.q.2.2.2,lx]:Array Value).toList = cellsT x lx:=rfl
   rw [e]
   match i with
   | 0 =>
     simp at hi
     subst hi
     rw [Nat.zero_mul,Nat.zero_add]
     exact hj
   | i+1=>simp at hi
 · intro i t hi
   match i with
   | 0=>simp at hi;subst hi;exact hx.ext (xr.alloc _)
   | i+1=>simp at hi
theorem RX.weak {w0 W w':World} {b L:Nat} {lo lo' d:Int} {f f':Ft} {e:Ending} (h:RX w0 b W L lo d (.error f) e w') (hl:lo'≤lo):RX w0 b W L lo' d (.error f') e w':=by
 obtain ⟨h1,h2,ts,d',pa,why,q1,q2,q3,q4,q5⟩:=h
 exact ⟨h1,h2,ts,d',pa,why,by omega,q2,q3,q4,q5⟩
theorem RY.state {w0 W w':World} {b L:Nat} {lo d:Int} {r:Rs} {x:T} {lv:Value} (h:RY w0 b W L lo d r x lv w') (hl:lo≤d:=by omega):∃ ts d' pa why,Rp w0 b w' ts d' pa why∧lo≤d'∧d'≤d∧Hid ((why = 0∧d' = d∧r = .ok (x,ts)∧IsL w' (W.heap.size≤·) lv x.l)∨(why≠0∧(∃ f,r = .error f)∧ts.length≤L)):=by
 obtain ⟨h1,⟨ts,pa,hr,hL,hR⟩ | ⟨f,ts,d',pa,why,hr,q1,q2,q3,q4,q5⟩⟩:=h
 · exact ⟨ts,d,pa,0,hR,hl,Int.le_refl _,.inl ⟨rfl,rfl,hr,hL⟩⟩
 · exact ⟨ts,d',pa,why,q5,q1,q2,.inr ⟨q3,⟨f,hr⟩,q4⟩⟩
theorem prefix_bad (w0:World) (b:Nat):PfB w0 b:=by
 intro W ts d pa why h hw
 have HR:Hid (Rp w0 b W ts d pa why∧why≠0):=⟨h,hw⟩
 have hbW:b < W.heap.size:=h.lt.1
 have w0':(why == 0) = false:=J122
 have w1':(why != 0) = true:=J122
 obtain ⟨g0,g1,g2,g3,g4,g5,g6,tb,off,cc,nn,ii,all,u1,u2,u3,u4,u5,u6⟩:=h
 obtain ⟨hz,⟨b0,b1,b2,b3,b4⟩,f0,f1,f2,f3,f4⟩:=u6
 clear g0 g1 g2 g3 g4 g5 g6 u1 u2 u3 u4 u5
 clear hw
 go_enter func83,ntmps83
 go_wp2_with fail
 exact endR (BlkX.top rfl xr) rfl ⟨(ExtB.refl b W).alloc _,⟨tz,none,0,0,rfl⟩,ts,d,pa,why,Int.le_refl _,Int.le_refl _,HR.out.2,Nat.le_refl _,HR.out.1.ext (xr.alloc _)⟩ J10
def WdC (w0:World) (b n:Nat):Prop:=∀ (W:World) (ts:List Tk) (d:Nat) (pa:Int),Rp w0 b W ts d pa 0→ts.length≤n+1→d≤40→(hd ts).1 = 2→Calls Tryz.prog 120 #[.pointer (some ⟨b,0,none⟩),.string (bs (hd ts).2.2.1)] W (RX w0 b W ts.length (d - 1) d (wrd (frm (O n)) d ts))
theorem prefix_k0 (w0:World) (b n:Nat) (hP:PfC w0 b n) (hX:ExC w0 b n n) (hW:WdC w0 b n) (W:World) (ts:List Tk) (d:Nat) (pa:Int) (h:Rp w0 b W ts d pa 0) (hts:ts.length≤n+1) (hd4:d≤40) (hk:(hd ts).1 = 0) :
   Calls Tryz.prog 83 #[.pointer (some ⟨b,0,none⟩)] W (RX w0 b W ts.length (d - 1) d (O (n+1) d ts)):=by
 have HR:Hid (Rp w0 b W ts d pa 0):=h
 have HN:Hid (ts.length≤n+1∧d≤40∧w0.heap.size≤W.heap.size):=⟨hts,hd4,h.1.sz⟩
 have HPC:Hid (PfC w0 b n∧ExC w0 b n n∧WdC w0 b n):=⟨hP,hX,hW⟩
 have hbW:b < W.heap.size:=h.lt.1
 have hgW:W.heap.size≠b:=J2
 have c1:=fun V e=>rt_any (h.ext (W':=V) e)
 unfold tkA at c1
 have HXX:Hid (O (n+1) d ts = .ok (tNum (hd ts).2.2.2.1,ts.tail)):=by
   exact K91
 have HNX:Hid (nx ts = ts.tail):=nx_tail h.2.2.1 J11
 have k0:((hd ts).1 == 0) = true:=J76
 clear hk
 obtain ⟨g0,g1,g2,g3,g4,g5,g6,tb,off,cc,nn,ii,all,u1,u2,u3,u4,u5,u6⟩:=h
 obtain ⟨hz,⟨b0,b1,b2,b3,b4⟩,f0,f1,f2,f3,f4⟩:=u6
 clear g0 g1 g2 g3 g4 g5 g6 u1 u2 u3 u4 u5
 clear hts hd4 hP hX hW
 generalize hd ts = t at *
 go_enter func83,ntmps83
 go_wp2_with fail
 refine (c1 _ (xr.alloc _)).mono ?_
 rintro e w1 ⟨rfl,E1⟩
 have hw1:W.heap.size+1≤w1.heap.size:=by have:=E1.size;simp at this;omega
 have HB1:Hid (BlkX w1 W.heap.size tz (.slice none 0 0)∧Ext W w1):=⟨BlkX.top rfl E1,(xr.alloc _).trans E1⟩
 clear E1 c1 b0 b1 b2 b3 b4 f0 f1 f2 f3 f4 hz
 have hg1:w1.heap.size≠b:=J2
 have BT:=blk5_top (b:=w1.heap.size) rfl (Ext.refl (w1.alloc (.cells #[.int .i64 t.1,.int .i64 t.2.1,.string (bs t.2.2.1),.int .i64 t.2.2.2.1,.int .i64 t.2.2.2.2] 91)))
 have ET:Ext w1 (w1.alloc (.cells #[.int .i64 t.1,.int .i64 t.2.1,.string (bs t.2.2.1),.int .i64 t.2.2.2.1,.int .i64 t.2.2.2.2] 91)):=xr.alloc _
 have HV:Hid (BlkX (w1.alloc (.cells #[.int .i64 t.1,.int .i64 t.2.1,.string (bs t.2.2.1),.int .i64 t.2.2.2.1,.int .i64 t.2.2.2.2] 91)) W.heap.size tz (.slice none 0 0)∧Ext W (w1.alloc (.cells #[.int .i64 t.1,.int .i64 t.2.1,.string (bs t.2.2.1),.int .i64 t.2.2.2.1,.int .i64 t.2.2.2.2] 91))∧Blk5 (w1.alloc (.cells #[.int .i64 t.1,.int .i64 t.2.1,.string (bs t.2.2.1),.int .i64 t.2.2.2.1,.int .i64 t.2.2.2.2] 91)) w1.heap.size (.int .i64 t.1) (.int .i64 t.2.1) (.string (bs t.2.2.1)) (.int .i64 t.2.2.2.1) (.int .i64 t.2.2.2.2)):=⟨HB1.out.1.ext ET,HB1.out.2.trans ET,BT⟩
 clear BT ET
 go_wp2_with fail
 refine (rnext_any (HR.out.ext HV.out.2.1)).mono ?_
 rintro e w2 ⟨rfl,R2,X2⟩
 have H2:Hid (Rp w0 b w2 (nx ts) d pa 0∧ExtB b W w2∧BlkX w2 W.heap.size tz (.slice none 0 0)):=⟨R2,(HV.out.2.1.toB b).trans X2,HV.out.1.extB X2 hgW⟩
 have T2:=HV.out.2.2.extB X2 hg1
 obtain ⟨zt,⟨t0,t1,t2,t3,t4⟩,t5⟩:=T2
 have HB0:=H2.out.2.2
 obtain ⟨qa,⟨la0,la1,la2,la3,la4,la5,la6,la7,la8,la9,la10,la11,la12⟩,ga0,ga1,ga2,ga3,ga4,ga5,ga6,ga7,ga8,ga9,ga10,ga11,ga12⟩:=HB0
 clear R2 X2 t5 HB1 HV
 go_wp2_with fail
 show bodyPost Tryz.prog _ _ _ _ (putX w2 W.heap.size (tNum t.2.2.2.1) (.slice none 0 0))
 rw [HXX.out]
 exact endR (H2.out.2.2.put (tNum t.2.2.2.1) (.slice none 0 0)) rfl ⟨putX_B H2.out.2.1 nrf _ _,⟨_,rfl,.nil⟩,pa,HNX.out ▸ putX_R H2.out.1 hgW HN.out.2.2 _ _⟩ J10
theorem prefix_k1 (w0:World) (b n:Nat) (hP:PfC w0 b n) (hX:ExC w0 b n n) (hW:WdC w0 b n) (W:World) (ts:List Tk) (d:Nat) (pa:Int) (h:Rp w0 b W ts d pa 0) (hts:ts.length≤n+1) (hd4:d≤40) (hk:(hd ts).1 = 1) :
   Calls Tryz.prog 83 #[.pointer (some ⟨b,0,none⟩)] W (RX w0 b W ts.length (d - 1) d (O (n+1) d ts)):=by
 have HR:Hid (Rp w0 b W ts d pa 0):=h
 have HN:Hid (ts.length≤n+1∧d≤40∧w0.heap.size≤W.heap.size):=⟨hts,hd4,h.1.sz⟩
 have HPC:Hid (PfC w0 b n∧ExC w0 b n n∧WdC w0 b n):=⟨hP,hX,hW⟩
 have hbW:b < W.heap.size:=h.lt.1
 have hgW:W.heap.size≠b:=J2
 have c1:=fun V e=>rt_any (h.ext (W':=V) e)
 unfold tkA at c1
 have HXX:Hid (O (n+1) d ts = .ok (tText (hd ts).2.2.1,ts.tail)):=by
   exact K91
 have HNX:Hid (nx ts = ts.tail):=nx_tail h.2.2.1 J11
 have k0:((hd ts).1 == 0) = false:=J76
 have k1:((hd ts).1 == 1) = true:=J76
 clear hk
 obtain ⟨g0,g1,g2,g3,g4,g5,g6,tb,off,cc,nn,ii,all,u1,u2,u3,u4,u5,u6⟩:=h
 obtain ⟨hz,⟨b0,b1,b2,b3,b4⟩,f0,f1,f2,f3,f4⟩:=u6
 clear g0 g1 g2 g3 g4 g5 g6 u1 u2 u3 u4 u5
 clear hts hd4 hP hX hW
 generalize hd ts = t at *
 go_enter func83,ntmps83
 go_wp2_with fail
 refine (c1 _ (xr.alloc _)).mono ?_
 rintro e w1 ⟨rfl,E1⟩
 have hw1:W.heap.size+1≤w1.heap.size:=by have:=E1.size;simp at this;omega
 have HB1:Hid (BlkX w1 W.heap.size tz (.slice none 0 0)∧Ext W w1):=⟨BlkX.top rfl E1,(xr.alloc _).trans E1⟩
 clear E1 c1 b0 b1 b2 b3 b4 f0 f1 f2 f3 f4 hz
 have hg1:w1.heap.size≠b:=J2
 have BT:=blk5_top (b:=w1.heap.size) rfl (Ext.refl (w1.alloc (.cells #[.int .i64 t.1,.int .i64 t.2.1,.string (bs t.2.2.1),.int .i64 t.2.2.2.1,.int .i64 t.2.2.2.2] 91)))
 have ET:Ext w1 (w1.alloc (.cells #[.int .i64 t.1,.int .i64 t.2.1,.string (bs t.2.2.1),.int .i64 t.2.2.2.1,.int .i64 t.2.2.2.2] 91)):=xr.alloc _
 have HV:Hid (BlkX (w1.alloc (.cells #[.int .i64 t.1,.int .i64 t.2.1,.string (bs t.2.2.1),.int .i64 t.2.2.2.1,.int .i64 t.2.2.2.2] 91)) W.heap.size tz (.slice none 0 0)∧Ext W (w1.alloc (.cells #[.int .i64 t.1,.int .i64 t.2.1,.string (bs t.2.2.1),.int .i64 t.2.2.2.1,.int .i64 t.2.2.2.2] 91))∧Blk5 (w1.alloc (.cells #[.int .i64 t.1,.int .i64 t.2.1,.string (bs t.2.2.1),.int .i64 t.2.2.2.1,.int .i64 t.2.2.2.2] 91)) w1.heap.size (.int .i64 t.1) (.int .i64 t.2.1) (.string (bs t.2.2.1)) (.int .i64 t.2.2.2.1) (.int .i64 t.2.2.2.2)):=⟨HB1.out.1.ext ET,HB1.out.2.trans ET,BT⟩
 clear BT ET
 go_wp2_with fail
 refine (rnext_any (HR.out.ext HV.out.2.1)).mono ?_
 rintro e w2 ⟨rfl,R2,X2⟩
 have H2:Hid (Rp w0 b w2 (nx ts) d pa 0∧ExtB b W w2∧BlkX w2 W.heap.size tz (.slice none 0 0)):=⟨R2,(HV.out.2.1.toB b).trans X2,HV.out.1.extB X2 hgW⟩
 have T2:=HV.out.2.2.extB X2 hg1
 obtain ⟨zt,⟨t0,t1,t2,t3,t4⟩,t5⟩:=T2
 have HB0:=H2.out.2.2
 obtain ⟨qa,⟨la0,la1,la2,la3,la4,la5,la6,la7,la8,la9,la10,la11,la12⟩,ga0,ga1,ga2,ga3,ga4,ga5,ga6,ga7,ga8,ga9,ga10,ga11,ga12⟩:=HB0
 clear R2 X2 t5 HB1 HV
 go_wp2_with fail
 show bodyPost Tryz.prog _ _ _ _ (putX w2 W.heap.size (tText t.2.2.1) (.slice none 0 0))
 rw [HXX.out]
 exact endR (H2.out.2.2.put (tText t.2.2.1) (.slice none 0 0)) rfl ⟨putX_B H2.out.2.1 nrf _ _,⟨_,rfl,.nil⟩,pa,HNX.out ▸ putX_R H2.out.1 hgW HN.out.2.2 _ _⟩ J10
theorem prefix_k4 (w0:World) (b n:Nat) (hP:PfC w0 b n) (hX:ExC w0 b n n) (hW:WdC w0 b n) (W:World) (ts:List Tk) (d:Nat) (pa:Int) (h:Rp w0 b W ts d pa 0) (hts:ts.length≤n+1) (hd4:d≤40) (hk:(hd ts).1 = 4) :
   Calls Tryz.prog 83 #[.pointer (some ⟨b,0,none⟩)] W (RX w0 b W ts.length (d - 1) d (O (n+1) d ts)):=by
 have HR:Hid (Rp w0 b W ts d pa 0):=h
 have HN:Hid (ts.length≤n+1∧d≤40∧w0.heap.size≤W.heap.size):=⟨hts,hd4,h.1.sz⟩
 have HPC:Hid (PfC w0 b n∧ExC w0 b n n∧WdC w0 b n):=⟨hP,hX,hW⟩
 have hbW:b < W.heap.size:=h.lt.1
 have hgW:W.heap.size≠b:=J2
 have c1:=fun V e=>rt_any (h.ext (W':=V) e)
 unfold tkA at c1
 have HXX:Hid (O (n+1) d ts = .ok (tErr (hd ts).2.2.2.2,ts.tail)):=by
   exact K91
 have HNX:Hid (nx ts = ts.tail):=nx_tail h.2.2.1 J11
 have k0:((hd ts).1 == 0) = false:=J76
 have k1:((hd ts).1 == 1) = false:=J76
 have k4:((hd ts).1 == 4) = true:=J76
 clear hk
 obtain ⟨g0,g1,g2,g3,g4,g5,g6,tb,off,cc,nn,ii,all,u1,u2,u3,u4,u5,u6⟩:=h
 obtain ⟨hz,⟨b0,b1,b2,b3,b4⟩,f0,f1,f2,f3,f4⟩:=u6
 clear g0 g1 g2 g3 g4 g5 g6 u1 u2 u3 u4 u5
 clear hts hd4 hP hX hW
 generalize hd ts = t at *
 go_enter func83,ntmps83
 go_wp2_with fail
 refine (c1 _ (xr.alloc _)).mono ?_
 rintro e w1 ⟨rfl,E1⟩
 have hw1:W.heap.size+1≤w1.heap.size:=by have:=E1.size;simp at this;omega
 have HB1:Hid (BlkX w1 W.heap.size tz (.slice none 0 0)∧Ext W w1):=⟨BlkX.top rfl E1,(xr.alloc _).trans E1⟩
 clear E1 c1 b0 b1 b2 b3 b4 f0 f1 f2 f3 f4 hz
 have hg1:w1.heap.size≠b:=J2
 have BT:=blk5_top (b:=w1.heap.size) rfl (Ext.refl (w1.alloc (.cells #[.int .i64 t.1,.int .i64 t.2.1,.string (bs t.2.2.1),.int .i64 t.2.2.2.1,.int .i64 t.2.2.2.2] 91)))
 have ET:Ext w1 (w1.alloc (.cells #[.int .i64 t.1,.int .i64 t.2.1,.string (bs t.2.2.1),.int .i64 t.2.2.2.1,.int .i64 t.2.2.2.2] 91)):=xr.alloc _
 have HV:Hid (BlkX (w1.alloc (.cells #[.int .i64 t.1,.int .i64 t.2.1,.string (bs t.2.2.1),.int .i64 t.2.2.2.1,.int .i64 t.2.2.2.2] 91)) W.heap.size tz (.slice none 0 0)∧Ext W (w1.alloc (.cells #[.int .i64 t.1,.int .i64 t.2.1,.string (bs t.2.2.1),.int .i64 t.2.2.2.1,.int .i64 t.2.2.2.2] 91))∧Blk5 (w1.alloc (.cells #[.int .i64 t.1,.int .i64 t.2.1,.string (bs t.2.2.1),.int .i64 t.2.2.2.1,.int .i64 t.2.2.2.2] 91)) w1.heap.size (.int .i64 t.1) (.int .i64 t.2.1) (.string (bs t.2.2.1)) (.int .i64 t.2.2.2.1) (.int .i64 t.2.2.2.2)):=⟨HB1.out.1.ext ET,HB1.out.2.trans ET,BT⟩
 clear BT ET
 go_wp2_with fail
 refine (rnext_any (HR.out.ext HV.out.2.1)).mono ?_
 rintro e w2 ⟨rfl,R2,X2⟩
 have H2:Hid (Rp w0 b w2 (nx ts) d pa 0∧ExtB b W w2∧BlkX w2 W.heap.size tz (.slice none 0 0)):=⟨R2,(HV.out.2.1.toB b).trans X2,HV.out.1.extB X2 hgW⟩
 have T2:=HV.out.2.2.extB X2 hg1
 obtain ⟨zt,⟨t0,t1,t2,t3,t4⟩,t5⟩:=T2
 have HB0:=H2.out.2.2
 obtain ⟨qa,⟨la0,la1,la2,la3,la4,la5,la6,la7,la8,la9,la10,la11,la12⟩,ga0,ga1,ga2,ga3,ga4,ga5,ga6,ga7,ga8,ga9,ga10,ga11,ga12⟩:=HB0
 clear R2 X2 t5 HB1 HV
 go_wp2_with fail
 show bodyPost Tryz.prog _ _ _ _ (putX w2 W.heap.size (tErr t.2.2.2.2) (.slice none 0 0))
 rw [HXX.out]
 exact endR (H2.out.2.2.put (tErr t.2.2.2.2) (.slice none 0 0)) rfl ⟨putX_B H2.out.2.1 nrf _ _,⟨_,rfl,.nil⟩,pa,HNX.out ▸ putX_R H2.out.1 hgW HN.out.2.2 _ _⟩ J10
theorem prefix_k2 (w0:World) (b n:Nat) (hP:PfC w0 b n) (hX:ExC w0 b n n) (hW:WdC w0 b n) (W:World) (ts:List Tk) (d:Nat) (pa:Int) (h:Rp w0 b W ts d pa 0) (hts:ts.length≤n+1) (hd4:d≤40) (hk:(hd ts).1 = 2) :
   Calls Tryz.prog 83 #[.pointer (some ⟨b,0,none⟩)] W (RX w0 b W ts.length (d - 1) d (O (n+1) d ts)):=by
 have HR:Hid (Rp w0 b W ts d pa 0):=h
 have HN:Hid (ts.length≤n+1∧d≤40∧w0.heap.size≤W.heap.size):=⟨hts,hd4,h.1.sz⟩
 have HPC:Hid (PfC w0 b n∧ExC w0 b n n∧WdC w0 b n):=⟨hP,hX,hW⟩
 have hbW:b < W.heap.size:=h.lt.1
 have hgW:W.heap.size≠b:=J2
 have c1:=fun V e=>rt_any (h.ext (W':=V) e)
 unfold tkA at c1
 have HXX:Hid (O (n+1) d ts = wrd (frm (O n)) d ts):=by
   show opn (frm (O n)) (O n) d ts = _
   have hs:isSg [45] ts = false:=J123
   unfold opn smp
   rw [hs]
   simp [hk]
 have c2:=fun V e=>hW V ts d pa (h.ext (W':=V) e) hts hd4 hk
 have k0:((hd ts).1 == 0) = false:=J76
 have k1:((hd ts).1 == 1) = false:=J76
 have k4:((hd ts).1 == 4) = false:=J76
 have k2:((hd ts).1 == 2) = true:=J76
 clear hk
 obtain ⟨g0,g1,g2,g3,g4,g5,g6,tb,off,cc,nn,ii,all,u1,u2,u3,u4,u5,u6⟩:=h
 obtain ⟨hz,⟨b0,b1,b2,b3,b4⟩,f0,f1,f2,f3,f4⟩:=u6
 clear g0 g1 g2 g3 g4 g5 g6 u1 u2 u3 u4 u5
 clear hts hd4 hP hX hW
 generalize hd ts = t at *
 go_enter func83,ntmps83
 go_wp2_with fail
 refine (c1 _ (xr.alloc _)).mono ?_
 rintro e w1 ⟨rfl,E1⟩
 have hw1:W.heap.size+1≤w1.heap.size:=by have:=E1.size;simp at this;omega
 have HB1:Hid (BlkX w1 W.heap.size tz (.slice none 0 0)∧Ext W w1):=⟨BlkX.top rfl E1,(xr.alloc _).trans E1⟩
 clear E1 c1 b0 b1 b2 b3 b4 f0 f1 f2 f3 f4 hz
 have hg1:w1.heap.size≠b:=J2
 have BT:=blk5_top (b:=w1.heap.size) rfl (Ext.refl (w1.alloc (.cells #[.int .i64 t.1,.int .i64 t.2.1,.string (bs t.2.2.1),.int .i64 t.2.2.2.1,.int .i64 t.2.2.2.2] 91)))
 have ET:Ext w1 (w1.alloc (.cells #[.int .i64 t.1,.int .i64 t.2.1,.string (bs t.2.2.1),.int .i64 t.2.2.2.1,.int .i64 t.2.2.2.2] 91)):=xr.alloc _
 have HV:Hid (BlkX (w1.alloc (.cells #[.int .i64 t.1,.int .i64 t.2.1,.string (bs t.2.2.1),.int .i64 t.2.2.2.1,.int .i64 t.2.2.2.2] 91)) W.heap.size tz (.slice none 0 0)∧Ext W (w1.alloc (.cells #[.int .i64 t.1,.int .i64 t.2.1,.string (bs t.2.2.1),.int .i64 t.2.2.2.1,.int .i64 t.2.2.2.2] 91))∧Blk5 (w1.alloc (.cells #[.int .i64 t.1,.int .i64 t.2.1,.string (bs t.2.2.1),.int .i64 t.2.2.2.1,.int .i64 t.2.2.2.2] 91)) w1.heap.size (.int .i64 t.1) (.int .i64 t.2.1) (.string (bs t.2.2.1)) (.int .i64 t.2.2.2.1) (.int .i64 t.2.2.2.2)):=⟨HB1.out.1.ext ET,HB1.out.2.trans ET,BT⟩
 clear BT ET
 go_wp2_with fail
 refine (c2 _ HV.out.2.1).mono ?_
 intro e w2 h2
 obtain ⟨x,p,l,c,rfl,hY⟩:=h2.form
 have HY:Hid (RY w0 b W ts.length (d - 1) d (wrd (frm (O n)) d ts) x (.slice p l c) (putX w2 W.heap.size x (.slice p l c))):=hY.put (HV.out.2.1.toB b) (by show _ < (w1.heap.push _).size;simp;omega) hgW HN.out.2.2 nrf
 have HB2:Hid (BlkX w2 W.heap.size tz (.slice none 0 0)):=HV.out.1.extB hY.1 hgW
 have HB0:=HB2.out
 obtain ⟨qa,⟨la0,la1,la2,la3,la4,la5,la6,la7,la8,la9,la10,la11,la12⟩,ga0,ga1,ga2,ga3,ga4,ga5,ga6,ga7,ga8,ga9,ga10,ga11,ga12⟩:=HB0
 clear h2 hY c2 HV
 unfold aggX
 go_wp2_with fail
 show bodyPost Tryz.prog _ _ _ _ (putX w2 W.heap.size x (.slice p l c))
 rw [HXX.out]
 exact endR (HB2.out.put x (.slice p l c)) rfl HY.out.back J10
theorem prefix_neg (w0:World) (b n:Nat) (hP:PfC w0 b n) (hX:ExC w0 b n n) (hW:WdC w0 b n) (W:World) (ts:List Tk) (d:Nat) (pa:Int) (h:Rp w0 b W ts d pa 0) (hts:ts.length≤n+1) (hd4:d≤40) (hs:isSg [45] ts = true) :
   Calls Tryz.prog 83 #[.pointer (some ⟨b,0,none⟩)] W (RX w0 b W ts.length (d - 1) d (O (n+1) d ts)):=by
 have HR:Hid (Rp w0 b W ts d pa 0):=h
 have HN:Hid (ts.length≤n+1∧d≤40∧w0.heap.size≤W.heap.size):=⟨hts,hd4,h.1.sz⟩
 have HPC:Hid (PfC w0 b n∧ExC w0 b n n∧WdC w0 b n):=⟨hP,hX,hW⟩
 have hbW:b < W.heap.size:=h.lt.1
 have hgW:W.heap.size≠b:=J2
 have c1:=fun V e=>rt_any (h.ext (W':=V) e)
 unfold tkA at c1
 have hk:(hd ts).1 = 3:=(isSg_k hs).1
 have hq:((bs (hd ts).2.2.1).toList == [45]) = true:=by rw [bs_tl,(isSg_k hs).2];rfl
 have HXX:Hid (O (n+1) d ts = match O n (d+1) ts.tail with | .error e=>.error e | .ok (x,ts2)=>.ok (tNeg x,ts2)):=by
   show opn (frm (O n)) (O n) d ts = _
   unfold opn
   rw [hs,tk1_ok hd4]
   rfl
 have HNX:Hid (nx ts = ts.tail):=nx_tail h.2.2.1 J11
 have HT:Hid (Nz ts.tail∧ts.tail.length+1 = ts.length):=tail_sh h.2.2.1 hk
 have k0:((hd ts).1 == 0) = false:=J76
 have k1:((hd ts).1 == 1) = false:=J76
 have k4:((hd ts).1 == 4) = false:=J76
 have k2:((hd ts).1 == 2) = false:=J76
 clear hk hs
 obtain ⟨g0,g1,g2,g3,g4,g5,g6,tb,off,cc,nn,ii,all,u1,u2,u3,u4,u5,u6⟩:=h
 obtain ⟨hz,⟨b0,b1,b2,b3,b4⟩,f0,f1,f2,f3,f4⟩:=u6
 clear g0 g1 g2 g3 g4 g5 g6 u1 u2 u3 u4 u5
 clear hts hd4 hP hX hW
 generalize hd ts = t at *
 go_enter func83,ntmps83
 go_wp2_with fail
 refine (c1 _ (xr.alloc _)).mono ?_
 rintro e w1 ⟨rfl,E1⟩
 have hw1:W.heap.size+1≤w1.heap.size:=by have:=E1.size;simp at this;omega
 have HB1:Hid (BlkX w1 W.heap.size tz (.slice none 0 0)∧Ext W w1):=⟨BlkX.top rfl E1,(xr.alloc _).trans E1⟩
 clear E1 c1 b0 b1 b2 b3 b4 f0 f1 f2 f3 f4 hz
 have hg1:w1.heap.size≠b:=J2
 have BT:=blk5_top (b:=w1.heap.size) rfl (Ext.refl (w1.alloc (.cells #[.int .i64 t.1,.int .i64 t.2.1,.string (bs t.2.2.1),.int .i64 t.2.2.2.1,.int .i64 t.2.2.2.2] 91)))
 have ET:Ext w1 (w1.alloc (.cells #[.int .i64 t.1,.int .i64 t.2.1,.string (bs t.2.2.1),.int .i64 t.2.2.2.1,.int .i64 t.2.2.2.2] 91)):=xr.alloc _
 have HV:Hid (BlkX (w1.alloc (.cells #[.int .i64 t.1,.int .i64 t.2.1,.string (bs t.2.2.1),.int .i64 t.2.2.2.1,.int .i64 t.2.2.2.2] 91)) W.heap.size tz (.slice none 0 0)∧Ext W (w1.alloc (.cells #[.int .i64 t.1,.int .i64 t.2.1,.string (bs t.2.2.1),.int .i64 t.2.2.2.1,.int .i64 t.2.2.2.2] 91))∧Blk5 (w1.alloc (.cells #[.int .i64 t.1,.int .i64 t.2.1,.string (bs t.2.2.1),.int .i64 t.2.2.2.1,.int .i64 t.2.2.2.2] 91)) w1.heap.size (.int .i64 t.1) (.int .i64 t.2.1) (.string (bs t.2.2.1)) (.int .i64 t.2.2.2.1) (.int .i64 t.2.2.2.2)):=⟨HB1.out.1.ext ET,HB1.out.2.trans ET,BT⟩
 clear BT ET
 go_wp2_with fail
 refine (rnext_any (HR.out.ext HV.out.2.1)).mono ?_
 rintro e w2 ⟨rfl,R2,X2⟩
 have H2:Hid (Rp w0 b w2 ts.tail d pa 0∧ExtB b W w2∧BlkX w2 W.heap.size tz (.slice none 0 0)):=⟨HNX.out ▸ R2,(HV.out.2.1.toB b).trans X2,HV.out.1.extB X2 hgW⟩
 clear R2 X2 HB1 HV
 go_wp2_with fail
 refine (rdown_any H2.out.1 (by have:=HN.out.2.1;omega)).mono ?_
 rintro e w3 ⟨rfl,X3,D3⟩
 have cN:Calls Tryz.prog 83 #[.pointer (some ⟨b,0,none⟩)] w3 (RX w0 b w3 ts.tail.length d ((d:Int)+1) (O n (d+1) ts.tail)):=by
   have n1:=HN.out.1
   have n2:=HT.out.2
   rcases D3 with ⟨q1,q2⟩ | ⟨q1,pa',why',q2,q3⟩
   · have c:=HPC.out.1 w3 ts.tail (d+1) pa (by exact q2) J2 J2
     have e1:(((d+1:Nat):Int) - 1) = (d:Int):=J2
     rw [e1] at c
     exact c
   · obtain ⟨f,hf⟩:=O_deep n (d+1) J2 ts.tail
     rw [hf]
     exact (prefix_bad w0 b w3 ts.tail _ pa' why' q3 q2).mono (fun e w' h=>h.weak J2)
 have HW3:Hid (W.heap.size < w3.heap.size):=(H2.out.2.2.extB X3 hgW).1
 have H3:Hid (ExtB b W w3∧BlkX w3 W.heap.size tz (.slice none 0 0)):=⟨H2.out.2.1.trans X3,H2.out.2.2.extB X3 hgW⟩
 clear X3 D3 H2
 go_wp2_with fail
 refine cN.mono ?_
 intro e w4 h4
 obtain ⟨x,p,l,c,rfl,hY⟩:=h4.form
 obtain ⟨ts2,d2,pa2,why2,R4,hd2,hd3,HY⟩:=hY.state
 have HR4:Hid (Rp w0 b w4 ts2 d2 pa2 why2∧(d:Int)≤d2∧d2≤(d:Int)+1):=⟨R4,hd2,hd3⟩
 have HB4:Hid (BlkX w4 W.heap.size tz (.slice none 0 0)∧ExtB b W w4):=⟨H3.out.2.extB hY.1 hgW,H3.out.1.trans hY.1⟩
 have hw4:W.heap.size < w4.heap.size:=HB4.out.1.1
 obtain ⟨g0,g1,g2,g3,g4,g5,g6,tb,off,cc,nn,ii,all,u1,u2,u3,u4,u5,u6⟩:=R4
 obtain ⟨hz,⟨b0,b1,b2,b3,b4⟩,f0,f1,f2,f3,f4⟩:=u6
 clear g0 g1 g2 g3 g4 g5 g6 u1 u2 u3 u4 u5
 have HB0:=HB4.out.1
 obtain ⟨qa,⟨la0,la1,la2,la3,la4,la5,la6,la7,la8,la9,la10,la11,la12⟩,ga0,ga1,ga2,ga3,ga4,ga5,ga6,ga7,ga8,ga9,ga10,ga11,ga12⟩:=HB0
 have hdb:-1000≤d2 - 1:=J2
 have hdc:d2≤1000:=by have:=HN.out.2.1;omega
 clear h4 hY cN H3 hd2 hd3
 unfold aggX
 go_wp2_with fail
 show bodyPost Tryz.prog _ _ _ _ (((putX (w4.setCell ⟨b,2,none⟩ (.int .i64 (d2 - 1))) W.heap.size (tNeg x) (.slice (some ⟨w4.heap.size+1,0,none⟩) 1 1)).alloc (.cells #[.int .i64 x.k,.int .i64 x.n,.string (bs x.s),.int .i64 x.e,.int .i64 x.r.1,.int .i64 x.r.2.1,.bool x.r.2.2.1,.bool x.r.2.2.2,.int .i64 x.q.1,.int .i64 x.q.2.1,.bool x.q.2.2.1,.bool x.q.2.2.2,.slice p l c] 43)).alloc (.cells #[.int .i64 x.k,.int .i64 x.n,.string (bs x.s),.int .i64 x.e,.int .i64 x.r.1,.int .i64 x.r.2.1,.bool x.r.2.2.1,.bool x.r.2.2.2,.int .i64 x.q.1,.int .i64 x.q.2.1,.bool x.q.2.2.1,.bool x.q.2.2.2,.slice p l c] 43))
 have R6:=putX_R (HR4.out.1.deep (by have:=HR4.out.2;omega)) hgW HN.out.2.2 (tNeg x) (.slice (some ⟨w4.heap.size+1,0,none⟩) 1 1)
 have X6:=putX_B (HB4.out.2.set (p:=⟨b,2,none⟩) (.inl rfl) (.int .i64 (d2 - 1))) nrf (tNeg x) (.slice (some ⟨w4.heap.size+1,0,none⟩) 1 1)
 have B5:BlkX (w4.setCell ⟨b,2,none⟩ (.int .i64 (d2 - 1))) W.heap.size tz (.slice none 0 0):=Blk13.far1 HB4.out.1 (c:=b) J2 2 (.int .i64 (d2 - 1))
 have B6:=B5.put (tNeg x) (.slice (some ⟨w4.heap.size+1,0,none⟩) 1 1)
 have zs:=putX_size (w4.setCell ⟨b,2,none⟩ (.int .i64 (d2 - 1))) W.heap.size (tNeg x) (.slice (some ⟨w4.heap.size+1,0,none⟩) 1 1)
 have zs2:(w4.setCell ⟨b,2,none⟩ (.int .i64 (d2 - 1))).heap.size = w4.heap.size:=J65
 have L6:∀ v l',IsL w4 (W.heap.size+1≤·) v l'→IsL (putX (w4.setCell ⟨b,2,none⟩ (.int .i64 (d2 - 1))) W.heap.size (tNeg x) (.slice (some ⟨w4.heap.size+1,0,none⟩) 1 1)) (W.heap.size+1≤·) v l':=fun v l' hh=>(hh.extB ((ExtB.refl b w4).set (p:=⟨b,2,none⟩) (.inl rfl) (.int .i64 (d2 - 1))) J35).keep (by rw [zs];exact Nat.le_refl _) (fun j hj hs=>putX_heap _ _ _ _ _ J2) (fun j hj _=>hj)
 rw [zs2] at zs
 generalize putX (w4.setCell ⟨b,2,none⟩ (.int .i64 (d2 - 1))) W.heap.size (tNeg x) (.slice (some ⟨w4.heap.size+1,0,none⟩) 1 1) = V6 at zs R6 X6 B6 L6 ⊢
 have e:(V6.alloc (.cells #[.int .i64 x.k,.int .i64 x.n,.string (bs x.s),.int .i64 x.e,.int .i64 x.r.1,.int .i64 x.r.2.1,.bool x.r.2.2.1,.bool x.r.2.2.2,.int .i64 x.q.1,.int .i64 x.q.2.1,.bool x.q.2.2.1,.bool x.q.2.2.2,.slice p l c] 43)).heap.size = w4.heap.size+1:=by simp [zs]
 refine endR (B6.ext ((xr.alloc _).alloc _)) rfl (RY.back ⟨(X6.alloc _).alloc _,?_⟩) J10
 have R9:=R6.ext (((Ext.refl V6).alloc (.cells #[.int .i64 x.k,.int .i64 x.n,.string (bs x.s),.int .i64 x.e,.int .i64 x.r.1,.int .i64 x.r.2.1,.bool x.r.2.2.1,.bool x.r.2.2.2,.int .i64 x.q.1,.int .i64 x.q.2.1,.bool x.q.2.2.1,.bool x.q.2.2.2,.slice p l c] 43)).alloc (.cells #[.int .i64 x.k,.int .i64 x.n,.string (bs x.s),.int .i64 x.e,.int .i64 x.r.1,.int .i64 x.r.2.1,.bool x.r.2.2.1,.bool x.r.2.2.2,.int .i64 x.q.1,.int .i64 x.q.2.1,.bool x.q.2.2.1,.bool x.q.2.2.2,.slice p l c] 43))
 rw [HXX.out]
 have n2:=HT.out.2
 have hw3:=HW3.out
 have hr4:=HR4.out.2
 rcases HY.out with ⟨hw,hd5,hr,hL⟩ | ⟨hw,⟨f,hr⟩,hl⟩
 · rw [hw,hd5,show (d:Int)+1 - 1 = d by omega] at R9
   refine .inl ⟨ts2,pa2,by rw [hr],?_,R9⟩
   have hx:=(L6 _ _ (hL.mono (fun j hj _=>(by omega:W.heap.size+1≤j)))).ext (xr.alloc (.cells #[.int .i64 x.k,.int .i64 x.n,.string (bs x.s),.int .i64 x.e,.int .i64 x.r.1,.int .i64 x.r.2.1,.bool x.r.2.2.1,.bool x.r.2.2.2,.int .i64 x.q.1,.int .i64 x.q.2.1,.bool x.q.2.2.1,.bool x.q.2.2.2,.slice p l c] 43))
   have h1:=IsL.one1 hx (by show W.heap.size+1≤_;omega)
   rw [e] at h1
   exact h1.mono J52
 · exact .inr ⟨f,ts2,d2 - 1,pa2,why2,by rw [hr],by omega,by omega,hw,by omega,R9⟩
theorem prefix_no (w0:World) (b n:Nat) (hP:PfC w0 b n) (hX:ExC w0 b n n) (hW:WdC w0 b n) (W:World) (ts:List Tk) (d:Nat) (pa:Int) (h:Rp w0 b W ts d pa 0) (hts:ts.length≤n+1) (hd4:d≤40) (hs:isSg [45] ts = false) (hop:isSg [40] ts = false) (hkk:(hd ts).1≠0∧(hd ts).1≠1∧(hd ts).1≠4∧(hd ts).1≠2) :
   Calls Tryz.prog 83 #[.pointer (some ⟨b,0,none⟩)] W (RX w0 b W ts.length (d - 1) d (O (n+1) d ts)):=by
 have HR:Hid (Rp w0 b W ts d pa 0):=h
 have HN:Hid (ts.length≤n+1∧d≤40∧w0.heap.size≤W.heap.size):=⟨hts,hd4,h.1.sz⟩
 have HPC:Hid (PfC w0 b n∧ExC w0 b n n∧WdC w0 b n):=⟨hP,hX,hW⟩
 have hbW:b < W.heap.size:=h.lt.1
 have hgW:W.heap.size≠b:=J2
 have c1:=fun V e=>rt_any (h.ext (W':=V) e)
 unfold tkA at c1
 have hk2:=h.2.2.2.2.1 (hd ts) (by
   have hp:=h.2.2.1.ne
   cases ts with
   | nil=>exact absurd rfl hp
   | cons a r=>exact List.mem_cons_self)
 have hk:(hd ts).1 = 3∨(hd ts).1 = 5:=by obtain ⟨_,k1,k2,_⟩:=hk2;omega
 have hns:(hd ts).2.2.1≠[45]:=by
   exact K111
 have hq:((bs (hd ts).2.2.1).toList == [45]) = false:=by rw [bs_tl];simpa using hns
 have HXX:Hid (O (n+1) d ts = brk (frm (O n)) d ts):=by
   exact K151
 have k0:((hd ts).1 == 0) = false:=J6
 have k1:((hd ts).1 == 1) = false:=J6
 have k4:((hd ts).1 == 4) = false:=J6
 have k2:((hd ts).1 == 2) = false:=J6
 have HSG:Hid (sgn ts 0≠[40]):=by
   show sgn ts 0≠[40]
   unfold sgn
   split
   · rename_i h3
     intro hh
     have:isSg [40] ts = true:=by unfold isSg;rw [h3.2,hh];rfl
     rw [hop] at this;cases this
   · decide
 have HRE:Hid (∃ f,O (n+1) d ts = .error f):=by
   show ∃ f,_
   rw [HXX.out]
   unfold brk pass1
   rw [hop]
   exact ⟨_,rfl⟩
 clear hkk
 clear hk hs hk2 hns hop
 obtain ⟨g0,g1,g2,g3,g4,g5,g6,tb,off,cc,nn,ii,all,u1,u2,u3,u4,u5,u6⟩:=h
 obtain ⟨hz,⟨b0,b1,b2,b3,b4⟩,f0,f1,f2,f3,f4⟩:=u6
 clear g0 g1 g2 g3 g4 g5 g6 u1 u2 u3 u4 u5
 clear hts hd4 hP hX hW
 generalize hd ts = t at *
 go_enter func83,ntmps83
 go_wp2_with fail
 refine (c1 _ (xr.alloc _)).mono ?_
 rintro e w1 ⟨rfl,E1⟩
 have hw1:W.heap.size+1≤w1.heap.size:=by have:=E1.size;simp at this;omega
 have HB1:Hid (BlkX w1 W.heap.size tz (.slice none 0 0)∧Ext W w1):=⟨BlkX.top rfl E1,(xr.alloc _).trans E1⟩
 clear E1 c1 b0 b1 b2 b3 b4 f0 f1 f2 f3 f4 hz
 have hg1:w1.heap.size≠b:=J2
 have BT:=blk5_top (b:=w1.heap.size) rfl (Ext.refl (w1.alloc (.cells #[.int .i64 t.1,.int .i64 t.2.1,.string (bs t.2.2.1),.int .i64 t.2.2.2.1,.int .i64 t.2.2.2.2] 91)))
 have ET:Ext w1 (w1.alloc (.cells #[.int .i64 t.1,.int .i64 t.2.1,.string (bs t.2.2.1),.int .i64 t.2.2.2.1,.int .i64 t.2.2.2.2] 91)):=xr.alloc _
 have HV:Hid (BlkX (w1.alloc (.cells #[.int .i64 t.1,.int .i64 t.2.1,.string (bs t.2.2.1),.int .i64 t.2.2.2.1,.int .i64 t.2.2.2.2] 91)) W.heap.size tz (.slice none 0 0)∧Ext W (w1.alloc (.cells #[.int .i64 t.1,.int .i64 t.2.1,.string (bs t.2.2.1),.int .i64 t.2.2.2.1,.int .i64 t.2.2.2.2] 91))∧Blk5 (w1.alloc (.cells #[.int .i64 t.1,.int .i64 t.2.1,.string (bs t.2.2.1),.int .i64 t.2.2.2.1,.int .i64 t.2.2.2.2] 91)) w1.heap.size (.int .i64 t.1) (.int .i64 t.2.1) (.string (bs t.2.2.1)) (.int .i64 t.2.2.2.1) (.int .i64 t.2.2.2.2)):=⟨HB1.out.1.ext ET,HB1.out.2.trans ET,BT⟩
 clear BT ET
 go_wp2_with fail
 refine (rwant_any (HR.out.ext HV.out.2.1) ⟨#[40]⟩).mono ?_
 rintro e w2 ⟨rfl,X2,D2⟩
 have H2:Hid (ExtB b W w2∧BlkX w2 W.heap.size tz (.slice none 0 0)):=⟨(HV.out.2.1.toB b).trans X2,HV.out.1.extB X2 hgW⟩
 obtain ⟨pa',why',hw,R2⟩:∃ pa' why',why'≠0∧Rp w0 b w2 ts d pa' why':=by
   rcases D2 with ⟨q1,_⟩ | ⟨_,q2⟩
   · exact absurd q1 HSG.out
   · exact q2
 have w0':(why' == 0) = false:=J122
 have cE:=exp_bad w0 b (prefix_bad w0 b) w2 ts d pa' why' R2 hw
 have H3:Hid (ExtB b W w2∧BlkX w2 W.heap.size tz (.slice none 0 0)):=H2.out
 have HW3:Hid (W.heap.size < w2.heap.size):=H2.out.2.1
 obtain ⟨g0,g1,g2,g3,g4,g5,g6,tb,off,cc,nn,ii,all,u1,u2,u3,u4,u5,u6⟩:=R2
 obtain ⟨hz,⟨b0,b1,b2,b3,b4⟩,f0,f1,f2,f3,f4⟩:=u6
 clear g0 g1 g2 g3 g4 g5 g6 u1 u2 u3 u4 u5
 clear X2 D2 HB1 HV H2 hw
 go_wp2_with fail
 refine cE.mono ?_
 intro e w4 h4
 obtain ⟨x,p,l,c,rfl,hY⟩:=h4.form
 obtain ⟨ts2,d2,pa2,why2,R4,hd2,hd3,HY⟩:=hY.state
 have HR4:Hid (Rp w0 b w4 ts2 d2 pa2 why2∧(d:Int)≤d2∧d2≤(d:Int)+1):=⟨R4,by omega,by omega⟩
 have HB4:Hid (BlkX w4 W.heap.size tz (.slice none 0 0)∧ExtB b W w4):=⟨H3.out.2.extB hY.1 hgW,H3.out.1.trans hY.1⟩
 have hw4:W.heap.size < w4.heap.size:=HB4.out.1.1
 have hdb:-1000≤d2 - 1:=J2
 have hdc:d2≤1000:=by have:=HN.out.2.1;omega
 obtain ⟨g0,g1,g2,g3,g4,g5,g6,tb,off,cc,nn,ii,all,u1,u2,u3,u4,u5,u6⟩:=R4
 obtain ⟨hz,⟨b0,b1,b2,b3,b4⟩,f0,f1,f2,f3,f4⟩:=u6
 clear g0 g1 g2 g3 g4 g5 g6 u1 u2 u3 u4 u5
 clear h4 hY cE H3 hd2 hd3
 unfold aggX
 go_wp2_with fail
 have R5:=(HR4.out.1.deep (by have:=HR4.out.2;omega)).ext (xr.alloc (.cells #[.int .i64 x.k,.int .i64 x.n,.string (bs x.s),.int .i64 x.e,.int .i64 x.r.1,.int .i64 x.r.2.1,.bool x.r.2.2.1,.bool x.r.2.2.2,.int .i64 x.q.1,.int .i64 x.q.2.1,.bool x.q.2.2.1,.bool x.q.2.2.2,.slice p l c] 43))
 have B5:BlkX (w4.setCell ⟨b,2,none⟩ (.int .i64 (d2 - 1))) W.heap.size tz (.slice none 0 0):=Blk13.far1 HB4.out.1 (c:=b) J2 2 (.int .i64 (d2 - 1))
 have X5:=(HB4.out.2.set (p:=⟨b,2,none⟩) (.inl rfl) (.int .i64 (d2 - 1))).alloc (.cells #[.int .i64 x.k,.int .i64 x.n,.string (bs x.s),.int .i64 x.e,.int .i64 x.r.1,.int .i64 x.r.2.1,.bool x.r.2.2.1,.bool x.r.2.2.2,.int .i64 x.q.1,.int .i64 x.q.2.1,.bool x.q.2.2.1,.bool x.q.2.2.2,.slice p l c] 43)
 have B5a:=B5.ext (xr.alloc (.cells #[.int .i64 x.k,.int .i64 x.n,.string (bs x.s),.int .i64 x.e,.int .i64 x.r.1,.int .i64 x.r.2.1,.bool x.r.2.2.1,.bool x.r.2.2.2,.int .i64 x.q.1,.int .i64 x.q.2.1,.bool x.q.2.2.1,.bool x.q.2.2.2,.slice p l c] 43))
 have BX:BlkX ((w4.setCell ⟨b,2,none⟩ (.int .i64 (d2 - 1))).alloc (.cells #[.int .i64 x.k,.int .i64 x.n,.string (bs x.s),.int .i64 x.e,.int .i64 x.r.1,.int .i64 x.r.2.1,.bool x.r.2.2.1,.bool x.r.2.2.2,.int .i64 x.q.1,.int .i64 x.q.2.1,.bool x.q.2.2.1,.bool x.q.2.2.2,.slice p l c] 43)) w4.heap.size x (.slice p l c):=blk13_top J65 xr
 have L5:∀ v l',IsL w4 (W.heap.size+1≤·) v l'→IsL ((w4.setCell ⟨b,2,none⟩ (.int .i64 (d2 - 1))).alloc (.cells #[.int .i64 x.k,.int .i64 x.n,.string (bs x.s),.int .i64 x.e,.int .i64 x.r.1,.int .i64 x.r.2.1,.bool x.r.2.2.1,.bool x.r.2.2.2,.int .i64 x.q.1,.int .i64 x.q.2.1,.bool x.q.2.2.1,.bool x.q.2.2.2,.slice p l c] 43)) (W.heap.size+1≤·) v l':=fun v l' hh=>(hh.extB ((ExtB.refl b w4).set (p:=⟨b,2,none⟩) (.inl rfl) (.int .i64 (d2 - 1))) J35).ext (xr.alloc _)
 refine (rwant_any R5 ⟨#[41]⟩).mono ?_
 rintro e w6 ⟨rfl,X6,D6⟩
 have HD6:Hid ((sgn ts2 why2 = [41]∧Rp w0 b w6 (nx ts2) (d2 - 1) pa2 why2)∨(sgn ts2 why2≠[41]∧∃ pa' why',why'≠0∧Rp w0 b w6 ts2 (d2 - 1) pa' why')):=D6
 have H6:Hid (ExtB b W w6∧BlkX w6 W.heap.size tz (.slice none 0 0)∧BlkX w6 w4.heap.size x (.slice p l c)):=⟨X5.trans X6,B5a.extB X6 hgW,BX.extB X6 J2⟩
 have HL6:Hid (∀ v l',IsL w4 (W.heap.size+1≤·) v l'→IsL w6 (W.heap.size+1≤·) v l'):=fun v l' hh=>(L5 v l' hh).extB X6 J35
 clear D6 X6 X5 B5 B5a BX L5 R5 HB4 b0 b1 b2 b3 b4 f0 f1 f2 f3 f4 hz
 have HB0:=H6.out.2.1
 obtain ⟨qa,⟨la0,la1,la2,la3,la4,la5,la6,la7,la8,la9,la10,la11,la12⟩,ga0,ga1,ga2,ga3,ga4,ga5,ga6,ga7,ga8,ga9,ga10,ga11,ga12⟩:=HB0
 have HB1:=H6.out.2.2
 obtain ⟨qc,⟨lc0,lc1,lc2,lc3,lc4,lc5,lc6,lc7,lc8,lc9,lc10,lc11,lc12⟩,gc0,gc1,gc2,gc3,gc4,gc5,gc6,gc7,gc8,gc9,gc10,gc11,gc12⟩:=HB1
 go_wp2_with fail
 show bodyPost Tryz.prog _ _ _ _ (putX w6 W.heap.size x (.slice p l c))
 refine endR (H6.out.2.1.put x (.slice p l c)) rfl (RY.back ⟨putX_B H6.out.1 nrf _ _,?_⟩) J10
 have hr4:=HR4.out.2
 have hw3:=HW3.out
 have bad:∀ pa' why',why'≠0→Rp w0 b w6 ts2 (d2 - 1) pa' why'→ts2.length≤ts.length→(∃ f,O (n+1) d ts = .error f)→(∃ f ts2 d' pa why,O (n+1) d ts = .error f∧(d:Int) - 1≤d'∧d'≤d∧why≠0∧ts2.length≤ts.length∧Rp w0 b (putX w6 W.heap.size x (.slice p l c)) ts2 d' pa why):=by
   exact K128
 rcases HY.out with ⟨hw,hd5,hr,hL⟩ | ⟨hw,⟨f,hr⟩,hl⟩
 · cases hr
 · rcases HD6.out with ⟨q1,_⟩ | ⟨_,pa',why',q2,q3⟩
   · unfold sgn at q1
     rw [if_neg (fun h=>hw h.1)] at q1
     cases q1
   · exact .inr (bad pa' why' q2 q3 hl HRE.out)
theorem prefix_brk (w0:World) (b n:Nat) (hP:PfC w0 b n) (hX:ExC w0 b n n) (hW:WdC w0 b n) (W:World) (ts:List Tk) (d:Nat) (pa:Int) (h:Rp w0 b W ts d pa 0) (hts:ts.length≤n+1) (hd4:d≤40) (hs:isSg [45] ts = false) (hop:isSg [40] ts = true) :
   Calls Tryz.prog 83 #[.pointer (some ⟨b,0,none⟩)] W (RX w0 b W ts.length (d - 1) d (O (n+1) d ts)):=by
 have HR:Hid (Rp w0 b W ts d pa 0):=h
 have HN:Hid (ts.length≤n+1∧d≤40∧w0.heap.size≤W.heap.size):=⟨hts,hd4,h.1.sz⟩
 have HPC:Hid (PfC w0 b n∧ExC w0 b n n∧WdC w0 b n):=⟨hP,hX,hW⟩
 have hbW:b < W.heap.size:=h.lt.1
 have hgW:W.heap.size≠b:=J2
 have c1:=fun V e=>rt_any (h.ext (W':=V) e)
 unfold tkA at c1
 have hk2:=h.2.2.2.2.1 (hd ts) (by
   have hp:=h.2.2.1.ne
   cases ts with
   | nil=>exact absurd rfl hp
   | cons a r=>exact List.mem_cons_self)
 have hk:(hd ts).1 = 3∨(hd ts).1 = 5:=.inl (isSg_k hop).1
 have hns:(hd ts).2.2.1≠[45]:=by
   exact K111
 have hq:((bs (hd ts).2.2.1).toList == [45]) = false:=by rw [bs_tl];simpa using hns
 have HXX:Hid (O (n+1) d ts = brk (frm (O n)) d ts):=by
   exact K151
 have k0:((hd ts).1 == 0) = false:=J6
 have k1:((hd ts).1 == 1) = false:=J6
 have k4:((hd ts).1 == 4) = false:=J6
 have k2:((hd ts).1 == 2) = false:=J6
 have HSG:Hid (sgn ts 0 = [40]):=by
   show sgn ts 0 = [40]
   unfold sgn;rw [if_pos ⟨rfl,(isSg_k hop).1⟩,(isSg_k hop).2]
 have HT:Hid (Nz ts.tail∧ts.tail.length+1 = ts.length):=tail_sh h.2.2.1 (isSg_k hop).1
 have HNX:Hid (nx ts = ts.tail):=nx_tail h.2.2.1 (by rw [(isSg_k hop).1];decide)
 have HRE:Hid (O (n+1) d ts = match frm (O n) (d+1) ts.tail with | .error e=>.error e | .ok (x,ts2)=>if isSg [41] ts2 then .ok (x,ts2.tail) else .error (ft ts2 false)):=by
   show _ = _
   rw [HXX.out]
   unfold brk pass1
   rw [hop,if_pos rfl,tk1_ok hd4]
   show (match frm (O n) (d+1) ts.tail with | .error e=>(.error e:Rs) | .ok (x,ts2)=>_) = _
   cases frm (O n) (d+1) ts.tail with
   | error e=>rfl
   | ok q =>
     obtain ⟨x,ts2⟩:=q
     show (match (if isSg [41] ts2 = true then tk1 d ts2 else .error (ft ts2 false)) with | .error e=>(.error e:Rs) | .ok ts3=>.ok (x,ts3)) = (if isSg [41] ts2 = true then .ok (x,ts2.tail) else .error (ft ts2 false))
     rw [tk1_ok hd4]
     cases isSg [41] ts2 <;> rfl
 clear hk hs hk2 hns hop
 obtain ⟨g0,g1,g2,g3,g4,g5,g6,tb,off,cc,nn,ii,all,u1,u2,u3,u4,u5,u6⟩:=h
 obtain ⟨hz,⟨b0,b1,b2,b3,b4⟩,f0,f1,f2,f3,f4⟩:=u6
 clear g0 g1 g2 g3 g4 g5 g6 u1 u2 u3 u4 u5
 clear hts hd4 hP hX hW
 generalize hd ts = t at *
 go_enter func83,ntmps83
 go_wp2_with fail
 refine (c1 _ (xr.alloc _)).mono ?_
 rintro e w1 ⟨rfl,E1⟩
 have hw1:W.heap.size+1≤w1.heap.size:=by have:=E1.size;simp at this;omega
 have HB1:Hid (BlkX w1 W.heap.size tz (.slice none 0 0)∧Ext W w1):=⟨BlkX.top rfl E1,(xr.alloc _).trans E1⟩
 clear E1 c1 b0 b1 b2 b3 b4 f0 f1 f2 f3 f4 hz
 have hg1:w1.heap.size≠b:=J2
 have BT:=blk5_top (b:=w1.heap.size) rfl (Ext.refl (w1.alloc (.cells #[.int .i64 t.1,.int .i64 t.2.1,.string (bs t.2.2.1),.int .i64 t.2.2.2.1,.int .i64 t.2.2.2.2] 91)))
 have ET:Ext w1 (w1.alloc (.cells #[.int .i64 t.1,.int .i64 t.2.1,.string (bs t.2.2.1),.int .i64 t.2.2.2.1,.int .i64 t.2.2.2.2] 91)):=xr.alloc _
 have HV:Hid (BlkX (w1.alloc (.cells #[.int .i64 t.1,.int .i64 t.2.1,.string (bs t.2.2.1),.int .i64 t.2.2.2.1,.int .i64 t.2.2.2.2] 91)) W.heap.size tz (.slice none 0 0)∧Ext W (w1.alloc (.cells #[.int .i64 t.1,.int .i64 t.2.1,.string (bs t.2.2.1),.int .i64 t.2.2.2.1,.int .i64 t.2.2.2.2] 91))∧Blk5 (w1.alloc (.cells #[.int .i64 t.1,.int .i64 t.2.1,.string (bs t.2.2.1),.int .i64 t.2.2.2.1,.int .i64 t.2.2.2.2] 91)) w1.heap.size (.int .i64 t.1) (.int .i64 t.2.1) (.string (bs t.2.2.1)) (.int .i64 t.2.2.2.1) (.int .i64 t.2.2.2.2)):=⟨HB1.out.1.ext ET,HB1.out.2.trans ET,BT⟩
 clear BT ET
 go_wp2_with fail
 refine (rwant_any (HR.out.ext HV.out.2.1) ⟨#[40]⟩).mono ?_
 rintro e w2 ⟨rfl,X2,D2⟩
 have H2:Hid (ExtB b W w2∧BlkX w2 W.heap.size tz (.slice none 0 0)):=⟨(HV.out.2.1.toB b).trans X2,HV.out.1.extB X2 hgW⟩
 have R2:Rp w0 b w2 ts.tail d pa 0:=by
   rcases D2 with ⟨_,q2⟩ | ⟨q1,_⟩
   · exact HNX.out ▸ q2
   · exact absurd HSG.out q1
 have HR2:Hid (Rp w0 b w2 ts.tail d pa 0):=R2
 obtain ⟨g0,g1,g2,g3,g4,g5,g6,tb,off,cc,nn,ii,all,u1,u2,u3,u4,u5,u6⟩:=R2
 obtain ⟨hz,⟨b0,b1,b2,b3,b4⟩,f0,f1,f2,f3,f4⟩:=u6
 clear g0 g1 g2 g3 g4 g5 g6 u1 u2 u3 u4 u5
 clear X2 D2 HB1 HV
 go_wp2_with fail
 refine (rdown_any HR2.out (by have:=HN.out.2.1;omega)).mono ?_
 rintro e w3 ⟨rfl,X3,D3⟩
 have cE:Calls Tryz.prog 49 #[.pointer (some ⟨b,0,none⟩),.int .i64 1] w3 (RX w0 b w3 ts.tail.length d ((d:Int)+1) (frm (O n) (d+1) ts.tail)):=by
   have n1:=HN.out.1
   have n2:=HT.out.2
   rcases D3 with ⟨q1,q2⟩ | ⟨q1,pa',why',q2,q3⟩
   · have c:=HPC.out.2.1 w3 ts.tail (d+1) pa 1 (by exact q2) J2 J2 J2 J2
     have e1:(((d+1:Nat):Int) - 1) = (d:Int):=J2
     rw [e1] at c
     exact c
   · obtain ⟨f,hf⟩:=LvK_deep n (d+1) 1 J2 ts.tail
     have hf2:frm (O n) (d+1) ts.tail = .error f:=hf
     rw [hf2]
     exact (exp_bad w0 b (prefix_bad w0 b) w3 ts.tail _ pa' why' q3 q2).mono (fun e w' h=>h.weak J2)
 have HW3:Hid (W.heap.size < w3.heap.size):=(H2.out.2.extB X3 hgW).1
 have H3:Hid (ExtB b W w3∧BlkX w3 W.heap.size tz (.slice none 0 0)):=⟨H2.out.1.trans X3,H2.out.2.extB X3 hgW⟩
 clear X3 D3 H2 b0 b1 b2 b3 b4 f0 f1 f2 f3 f4 hz
 go_wp2_with fail
 refine cE.mono ?_
 intro e w4 h4
 obtain ⟨x,p,l,c,rfl,hY⟩:=h4.form
 obtain ⟨ts2,d2,pa2,why2,R4,hd2,hd3,HY⟩:=hY.state
 have HR4:Hid (Rp w0 b w4 ts2 d2 pa2 why2∧(d:Int)≤d2∧d2≤(d:Int)+1):=⟨R4,by omega,by omega⟩
 have HB4:Hid (BlkX w4 W.heap.size tz (.slice none 0 0)∧ExtB b W w4):=⟨H3.out.2.extB hY.1 hgW,H3.out.1.trans hY.1⟩
 have hw4:W.heap.size < w4.heap.size:=HB4.out.1.1
 have hdb:-1000≤d2 - 1:=J2
 have hdc:d2≤1000:=by have:=HN.out.2.1;omega
 obtain ⟨g0,g1,g2,g3,g4,g5,g6,tb,off,cc,nn,ii,all,u1,u2,u3,u4,u5,u6⟩:=R4
 obtain ⟨hz,⟨b0,b1,b2,b3,b4⟩,f0,f1,f2,f3,f4⟩:=u6
 clear g0 g1 g2 g3 g4 g5 g6 u1 u2 u3 u4 u5
 clear h4 hY cE H3 hd2 hd3
 unfold aggX
 go_wp2_with fail
 have R5:=(HR4.out.1.deep (by have:=HR4.out.2;omega)).ext (xr.alloc (.cells #[.int .i64 x.k,.int .i64 x.n,.string (bs x.s),.int .i64 x.e,.int .i64 x.r.1,.int .i64 x.r.2.1,.bool x.r.2.2.1,.bool x.r.2.2.2,.int .i64 x.q.1,.int .i64 x.q.2.1,.bool x.q.2.2.1,.bool x.q.2.2.2,.slice p l c] 43))
 have B5:BlkX (w4.setCell ⟨b,2,none⟩ (.int .i64 (d2 - 1))) W.heap.size tz (.slice none 0 0):=Blk13.far1 HB4.out.1 (c:=b) J2 2 (.int .i64 (d2 - 1))
 have X5:=(HB4.out.2.set (p:=⟨b,2,none⟩) (.inl rfl) (.int .i64 (d2 - 1))).alloc (.cells #[.int .i64 x.k,.int .i64 x.n,.string (bs x.s),.int .i64 x.e,.int .i64 x.r.1,.int .i64 x.r.2.1,.bool x.r.2.2.1,.bool x.r.2.2.2,.int .i64 x.q.1,.int .i64 x.q.2.1,.bool x.q.2.2.1,.bool x.q.2.2.2,.slice p l c] 43)
 have B5a:=B5.ext (xr.alloc (.cells #[.int .i64 x.k,.int .i64 x.n,.string (bs x.s),.int .i64 x.e,.int .i64 x.r.1,.int .i64 x.r.2.1,.bool x.r.2.2.1,.bool x.r.2.2.2,.int .i64 x.q.1,.int .i64 x.q.2.1,.bool x.q.2.2.1,.bool x.q.2.2.2,.slice p l c] 43))
 have BX:BlkX ((w4.setCell ⟨b,2,none⟩ (.int .i64 (d2 - 1))).alloc (.cells #[.int .i64 x.k,.int .i64 x.n,.string (bs x.s),.int .i64 x.e,.int .i64 x.r.1,.int .i64 x.r.2.1,.bool x.r.2.2.1,.bool x.r.2.2.2,.int .i64 x.q.1,.int .i64 x.q.2.1,.bool x.q.2.2.1,.bool x.q.2.2.2,.slice p l c] 43)) w4.heap.size x (.slice p l c):=blk13_top J65 xr
 have L5:∀ v l',IsL w4 (W.heap.size+1≤·) v l'→IsL ((w4.setCell ⟨b,2,none⟩ (.int .i64 (d2 - 1))).alloc (.cells #[.int .i64 x.k,.int .i64 x.n,.string (bs x.s),.int .i64 x.e,.int .i64 x.r.1,.int .i64 x.r.2.1,.bool x.r.2.2.1,.bool x.r.2.2.2,.int .i64 x.q.1,.int .i64 x.q.2.1,.bool x.q.2.2.1,.bool x.q.2.2.2,.slice p l c] 43)) (W.heap.size+1≤·) v l':=fun v l' hh=>(hh.extB ((ExtB.refl b w4).set (p:=⟨b,2,none⟩) (.inl rfl) (.int .i64 (d2 - 1))) J35).ext (xr.alloc _)
 refine (rwant_any R5 ⟨#[41]⟩).mono ?_
 rintro e w6 ⟨rfl,X6,D6⟩
 have HD6:Hid ((sgn ts2 why2 = [41]∧Rp w0 b w6 (nx ts2) (d2 - 1) pa2 why2)∨(sgn ts2 why2≠[41]∧∃ pa' why',why'≠0∧Rp w0 b w6 ts2 (d2 - 1) pa' why')):=D6
 have H6:Hid (ExtB b W w6∧BlkX w6 W.heap.size tz (.slice none 0 0)∧BlkX w6 w4.heap.size x (.slice p l c)):=⟨X5.trans X6,B5a.extB X6 hgW,BX.extB X6 J2⟩
 have HL6:Hid (∀ v l',IsL w4 (W.heap.size+1≤·) v l'→IsL w6 (W.heap.size+1≤·) v l'):=fun v l' hh=>(L5 v l' hh).extB X6 J35
 clear D6 X6 X5 B5 B5a BX L5 R5 HB4 b0 b1 b2 b3 b4 f0 f1 f2 f3 f4 hz
 have HB0:=H6.out.2.1
 obtain ⟨qa,⟨la0,la1,la2,la3,la4,la5,la6,la7,la8,la9,la10,la11,la12⟩,ga0,ga1,ga2,ga3,ga4,ga5,ga6,ga7,ga8,ga9,ga10,ga11,ga12⟩:=HB0
 have HB1:=H6.out.2.2
 obtain ⟨qc,⟨lc0,lc1,lc2,lc3,lc4,lc5,lc6,lc7,lc8,lc9,lc10,lc11,lc12⟩,gc0,gc1,gc2,gc3,gc4,gc5,gc6,gc7,gc8,gc9,gc10,gc11,gc12⟩:=HB1
 go_wp2_with fail
 show bodyPost Tryz.prog _ _ _ _ (putX w6 W.heap.size x (.slice p l c))
 refine endR (H6.out.2.1.put x (.slice p l c)) rfl (RY.back ⟨putX_B H6.out.1 nrf _ _,?_⟩) J10
 have hr4:=HR4.out.2
 have hw3:=HW3.out
 have bad:∀ pa' why',why'≠0→Rp w0 b w6 ts2 (d2 - 1) pa' why'→ts2.length≤ts.length→(∃ f,O (n+1) d ts = .error f)→(∃ f ts2 d' pa why,O (n+1) d ts = .error f∧(d:Int) - 1≤d'∧d'≤d∧why≠0∧ts2.length≤ts.length∧Rp w0 b (putX w6 W.heap.size x (.slice p l c)) ts2 d' pa why):=by
   exact K128
 have hre:=HRE.out
 have n1:=HN.out.1
 have n2:=HT.out.2
 rcases HY.out with ⟨hw,hd5,hr,hL⟩ | ⟨hw,⟨f,hr⟩,hl⟩
 · rw [hr] at hre
   replace hre:O (n+1) d ts = if isSg [41] ts2 = true then .ok (x,ts2.tail) else .error (ft ts2 false):=hre
   have s2:=frm_sh (O_sh n) (d+1) ts.tail HT.out.1 J2 x ts2 hr
   have s3:=s2.2
   rcases HD6.out with ⟨q1,q2⟩ | ⟨q1,pa',why',q2,q3⟩
   · unfold sgn at q1
     split at q1
     · rename_i h3
       have hc:isSg [41] ts2 = true:=J124
       rw [hc,if_pos rfl] at hre
       have hn2:nx ts2 = ts2.tail:=nx_tail s2.1 J48
       rw [hn2,hw,hd5,show (d:Int)+1 - 1 = d by omega] at q2
       exact .inl ⟨ts2.tail,pa2,hre,((HL6.out _ _ (hL.mono (fun j hj _=>(by omega:W.heap.size+1≤j)))).keep J29 (fun j hj hs=>putX_heap _ _ _ _ _ J2) (fun j hj _=>hj)).mono J52,putX_R q2 hgW HN.out.2.2 _ _⟩
     · cases q1
   · refine .inr (bad pa' why' q2 q3 J2 ?_)
     have hc:isSg [41] ts2 = false:=by
       cases hc:isSg [41] ts2 with
       | false=>rfl
       | true=>exact absurd J45 q1
     rw [hc,if_neg J9] at hre
     exact ⟨_,hre⟩
 · rw [hr] at hre
   rcases HD6.out with ⟨q1,_⟩ | ⟨_,pa',why',q2,q3⟩
   · unfold sgn at q1
     rw [if_neg (fun h=>hw h.1)] at q1
     cases q1
   · exact .inr (bad pa' why' q2 q3 J2 ⟨f,hre⟩)
theorem prefix_step (w0:World) (b n:Nat) (hP:PfC w0 b n) (hX:ExC w0 b n n) (hW:WdC w0 b n):PfC w0 b (n+1):=by
 intro W ts d pa h hts hd4
 by_cases k0:(hd ts).1 = 0
 · exact prefix_k0 w0 b n hP hX hW W ts d pa h hts hd4 k0
 by_cases k1:(hd ts).1 = 1
 · exact prefix_k1 w0 b n hP hX hW W ts d pa h hts hd4 k1
 by_cases k4:(hd ts).1 = 4
 · exact prefix_k4 w0 b n hP hX hW W ts d pa h hts hd4 k4
 by_cases k2:(hd ts).1 = 2
 · exact prefix_k2 w0 b n hP hX hW W ts d pa h hts hd4 k2
 cases hs:isSg [45] ts with
 | true=>exact prefix_neg w0 b n hP hX hW W ts d pa h hts hd4 hs
 | false =>
   cases hop:isSg [40] ts with
   | true=>exact prefix_brk w0 b n hP hX hW W ts d pa h hts hd4 hs hop
   | false=>exact prefix_no w0 b n hP hX hW W ts d pa h hts hd4 hs hop ⟨k0,k1,k4,k2⟩
theorem prefix_all (w0:World) (b:Nat) (hW:∀ n,PfC w0 b n→ExC w0 b n n→WdC w0 b n):∀ n,PfC w0 b n:=by
 intro n
 induction n with
 | zero =>
   intro W ts d pa h hts _
   have:=h.2.2.1.pos
   omega
 | succ n ih=>exact prefix_step w0 b n ih (exp_all w0 b n ih n nrf) (hW n ih (exp_all w0 b n ih n nrf))
theorem not_kn {s:List UInt8} (h:okP s = true) (L:List (List UInt8)) (hL:L.all (fun t=>!okP t) = true):s ∉ L:=by
 intro hm
 have:=List.all_eq_true.mp hL s hm
 rw [h] at this
 cases this
theorem kno_ok {s:List UInt8} (h:okP s = true):kno s = none∧s≠wTrue∧s≠wFalse:=by
 refine ⟨?_,fun hh=>?_,fun hh=>?_⟩
 · unfold kno
   rw [if_neg (not_kn h kn1 J3),if_neg (not_kn h kn2 J3),if_neg (not_kn h kn3 J3),if_neg (not_kn h kn4 J3),if_neg (not_kn h kn5 J3)]
 · have e:okP wTrue = false:=J3
   rw [hh,e] at h;cases h
 · have e:okP wFalse = false:=J3
   rw [hh,e] at h;cases h
theorem brk_len {n d:Nat} {F:Rd} (hF:ShF n F) {ts ts1:List Tk} {x:T} (h:Nz ts) (hn:ts.length≤n+1) (e:brk F d ts = .ok (x,ts1)):ts1.length+3≤ts.length:=by
 unfold brk at e
 split at e
 · cases e
 · rename_i us1 h1
   have s1:=pass1_sh h h1
   have a1:=s1.2
   split at e
   · cases e
   · rename_i y us2 h2
     have s2:=hF _ _ s1.1 J2 y us2 h2
     have a2:=s2.2
     split at e
     · cases e
     · rename_i us3 h3
       have s3:=pass1_sh s2.1 h3
       have a3:=s3.2
       cases e
       omega
theorem call_k {F:Rd} {s:List UInt8} {a b d:Nat} {ts ts1:List Tk} {x:T} (e:call F s a b d ts = .ok (x,ts1)):x.k = 8:=by
 unfold call at e
 split at e
 · cases e
 · cases e;rfl
theorem brk_k {F:Rd} {d:Nat} {ts ts1:List Tk} {x:T} (e:brk F d ts = .ok (x,ts1)):∃ us us1,F (d+1) us = .ok (x,us1):=by
 unfold brk at e
 split at e
 · cases e
 · rename_i us1 h1
   split at e
   · cases e
   · rename_i y us2 h2
     split at e
     · cases e
     · cases e;exact ⟨_,_,h2⟩
theorem O_one {n d:Nat} (hd4:d≤40) {ts ts1:List Tk} {x:T} (h:Nz ts) (hn:ts.length≤n) (e:O n d ts = .ok (x,ts1)) (h4:x.k = 4) (hl:ts.length = ts1.length+1) :
   (hd ts).1 = 2∧okP (hd ts).2.2.1 = true∧ts1 = ts.tail:=by
 cases n with
 | zero=>cases e
 | succ n =>
   change opn (frm (O n)) (O n) d ts = _ at e
   unfold opn at e
   split at e
   · rw [tk1_ok hd4] at e
     dsimp only at e
     split at e
     · cases e
     · cases e;cases h4
   · unfold smp one at e
     rw [tk1_ok hd4] at e
     split at e
     · cases e;cases h4
     · split at e
       · cases e;cases h4
       · split at e
         · cases e;cases h4
         · split at e
           · rename_i hk
             unfold wrd one at e
             rw [tk1_ok hd4] at e
             split at e
             · cases e;cases h4
             · split at e
               · cases e;cases h4
               · split at e
                 · obtain ⟨us,us1,hc⟩:=brk_k e
                   rw [call_k hc] at h4
                   cases h4
                 · unfold refr at e
                   by_cases ho:(hd ts).1 = 2∧okP (hd ts).2.2.1 = true
                   · rw [if_pos ho,tk1_ok hd4] at e
                     cases e
                     exact ⟨ho.1,ho.2,rfl⟩
                   · rw [if_neg ho] at e
                     cases e
           · have:=brk_len (frm_sh (O_sh n)) h hn e
             omega
theorem cl_k {o:Rd} (k d:Nat):∀ (f:Nat) (x y:T) (ts ts':List Tk),cl o d f k x ts = .ok (y,ts')→(y = x∧ts' = ts)∨y.k = 7:=by
 intro f
 induction f with
 | zero=>intro x y ts ts' e;cases e;exact .inl ⟨rfl,rfl⟩
 | succ f ih =>
   intro x y ts ts' e
   unfold cl at e
   split at e
   · split at e
     · cases e
     · rcases ih _ _ _ _ e with ⟨h,_⟩ | h
       · exact .inr (by rw [h];rfl)
       · exact .inr h
   · cases e;exact .inl ⟨rfl,rfl⟩
theorem O_ref {n d:Nat} (hd4:d≤40) {ts:List Tk} (h2:(hd ts).1 = 2) (ho:okP (hd ts).2.2.1 = true):O (n+1) d ts = .ok (tRef (rfP (hd ts).2.2.1),ts.tail):=by
 obtain ⟨a1,a2,a3⟩:=kno_ok ho
 show opn (frm (O n)) (O n) d ts = _
 have hs:isSg [45] ts = false:=by unfold isSg;rw [h2];rfl
 unfold opn smp wrd refr
 rw [hs,if_neg J9,if_neg J2,if_neg J2,if_neg J2,if_pos h2,if_neg a2,if_neg a3,a1,if_pos ⟨h2,ho⟩,tk1_ok hd4]
theorem argm_doc {n d:Nat} (hd4:d≤40) {ts:List Tk} (h:Nz ts) (hn:ts.length≤n):argm (frm (O n)) d ts =
   if (hd ts).1 = 2∧okP (hd ts).2.2.1 = true∧isSg [58] ts.tail = true then (match refr d ts.tail.tail with | .error e=>.error e | .ok (q,ts3)=>.ok (tRange (rfP (hd ts).2.2.1) q,ts3)) else frm (O n) d ts:=by
 have hC:frm (O n) d ts = thenR (O n d ts) (fun x ts1=>cl (O n) d ts1.length 1 x ts1):=clm_all (O_sh n) hd4 1 J9 J9 ts h hn
 by_cases hc:(hd ts).1 = 2∧okP (hd ts).2.2.1 = true∧isSg [58] ts.tail = true
 · rw [if_pos hc]
   obtain ⟨c1,c2,c3⟩:=hc
   obtain ⟨m,rfl⟩:∃ m,n = m+1:=⟨n - 1,by have:=h.pos;omega⟩
   rw [O_ref hd4 c1 c2] at hC
   have ht:=h.tail (by rw [c1];decide)
   have hcl:cl (O (m+1)) d ts.tail.length 1 (tRef (rfP (hd ts).2.2.1)) ts.tail = .ok (tRef (rfP (hd ts).2.2.1),ts.tail):=by
     obtain ⟨g,hg⟩:∃ g,ts.tail.length = g+1:=⟨ts.tail.length - 1,by have:=ht.1.pos;omega⟩
     rw [hg,cl,if_neg]
     rintro ⟨_,h1⟩
     rw [(isSg_k c3).2] at h1
     exact absurd h1 J9
   have hF:frm (O (m+1)) d ts = .ok (tRef (rfP (hd ts).2.2.1),ts.tail):=hC.trans hcl
   unfold argm
   rw [hF]
   dsimp only
   rw [if_pos ⟨rfl,ht.2.symm,c3⟩,tk1_ok hd4]
   rfl
 · rw [if_neg hc]
   unfold argm
   cases hF:frm (O n) d ts with
   | error e=>rfl
   | ok q =>
     obtain ⟨x,ts1⟩:=q
     dsimp only
     rw [if_neg]
     rintro ⟨h4,hl,h58⟩
     rw [hF] at hC
     cases hO:O n d ts with
     | error e=>rw [hO] at hC;cases hC
     | ok q =>
       obtain ⟨y,us⟩:=q
       rw [hO] at hC
       rcases cl_k 1 d _ _ _ _ _ hC.symm with ⟨rfl,rfl⟩ | h7
       · obtain ⟨a1,a2,a3⟩:=O_one hd4 h hn hO h4 hl
         exact hc ⟨a1,a2,a3 ▸ h58⟩
       · rw [h7] at h4;cases h4
def CSt (w wx:World) (r c:Int) (ar ac:Bool):Prop:=Ext w wx∧Blk wx w.heap.size (.int .i64 0) (.int .i64 0) (.bool false) (.bool false)∧Blk wx (w.heap.size+1) (.int .i64 r) (.int .i64 c) (.bool ar) (.bool ac)
theorem dl_at (s:ByteArray) (k:Nat):(s.size≤k→dlB (s.data.toList.drop k) = false)∧(∀ h:k < s.size,dlB (s.data.toList.drop k) = decide ((s[k].toNat:Int) = 36)):=by
 constructor
 · intro h
   rw [List.drop_of_length_le (by rw [size_list];exact h)];rfl
 · intro h
   unfold dlB
   rw [List.drop_eq_getElem_cons (by rw [size_list];exact h)]
   show (some (s.data.toList[k]'_) == some 36) = _
   rw [get_list s k h,Bool.eq_iff_iff]
   simp
   constructor
   · intro e;rw [e];rfl
   · intro e;exact u8_eq (by show s[k].toNat = 36;omega)
theorem undl_drop (l:List UInt8) (k:Nat):undl (l.drop k) = l.drop (k+if dlB (l.drop k) then 1 else 0):=by
 unfold undl
 split
 · rw [List.tail_drop]
 · rfl
theorem Blk.put2 {w:World} {b:Nat} {x0 x1 x2 x3:Value} (h:Blk w b x0 x1 x2 x3) (v:Value):Blk (w.setCell ⟨b,2,none⟩ v) b x0 x1 v x3:=by
 obtain ⟨z,⟨k0,k1,k2,k3⟩,f0,f1,f2,f3⟩:=h
 refine ⟨by simpa [World.setCell] using z,⟨?_,?_,wSa w ⟨b,2,none⟩ v (by rw [k2]),?_⟩,?_,?_,?_,?_⟩
 · exact K135
 · exact K134
 · exact K149
 all_goals (rw [wFz];assumption)
theorem Blk.put3 {w:World} {b:Nat} {x0 x1 x2 x3:Value} (h:Blk w b x0 x1 x2 x3) (v:Value):Blk (w.setCell ⟨b,3,none⟩ v) b x0 x1 x2 v:=by
 obtain ⟨z,⟨k0,k1,k2,k3⟩,f0,f1,f2,f3⟩:=h
 refine ⟨by simpa [World.setCell] using z,⟨?_,?_,?_,wSa w ⟨b,3,none⟩ v (by rw [k3])⟩,?_,?_,?_,?_⟩
 · exact K135
 · exact K134
 · exact K148
 all_goals (rw [wFz];assumption)
theorem CSt.set {w wx:World} {r c r' c':Int} {ar ac ar' ac':Bool} (h:CSt w wx r c ar ac) (o:Nat) (v:Value)
   (hB:Blk wx (w.heap.size+1) (.int .i64 r) (.int .i64 c) (.bool ar) (.bool ac)→Blk (wx.setCell ⟨w.heap.size+1,o,none⟩ v) (w.heap.size+1) (.int .i64 r') (.int .i64 c') (.bool ar') (.bool ac')) :
   CSt w (wx.setCell ⟨w.heap.size+1,o,none⟩ v) r' c' ar' ac' :=
 ⟨h.1.setCell J65 _,h.2.1.far1 J2 _ _,hB h.2.2⟩
theorem CSt.ext {w wx wy:World} {r c:Int} {ar ac:Bool} (h:CSt w wx r c ar ac) (e:Ext wx wy):CSt w wy r c ar ac:=⟨h.1.trans e,h.2.1.ext e,h.2.2.ext e⟩
theorem run_facts (p:UInt8→Bool) (s:ByteArray) (a:Nat) (ha:a≤s.size) :
   ∃ n:Nat,a+n≤s.size∧(s.data.toList.drop a).takeWhile p = (s.data.toList.drop a).take n∧(s.data.toList.drop a).dropWhile p = s.data.toList.drop (a+n) ∧
     (∀ j (h:j < s.size),a≤j→j < a+n→p (s[j]'h) = true)∧(∀ h:a+n < s.size,p (s[a+n]'h) = false):=by
 have e:=List.takeWhile_append_dropWhile (p:=p) (l:=s.data.toList.drop a)
 have hl:=size_list s
 refine ⟨((s.data.toList.drop a).takeWhile p).length,?_,?_,?_,?_,?_⟩
 · have:=congrArg List.length e
   rw [List.length_append,List.length_drop] at this
   omega
 · have:=congrArg (List.take ((s.data.toList.drop a).takeWhile p).length) e
   rw [List.take_left' rfl] at this
   exact this
 · exact K131
 · intro j h h1 h2
   have hm:=List.all_eq_true.1 (List.all_takeWhile (p:=p) (l:=s.data.toList.drop a)) (s[j]'h)
   apply hm
   have:((s.data.toList.drop a).takeWhile p)[j - a]? = some (s[j]'h):=by
     rw [← List.getElem?_append_left (l₂:=(s.data.toList.drop a).dropWhile p) J2,e,List.getElem?_drop,show a+(j - a) = j from by omega]
     exact at_get s j h
   exact List.mem_of_getElem? this
 · intro h
   apply dw_head (p:=p) (s.data.toList.drop a)
   have:(s.data.toList.drop a).dropWhile p = s.data.toList.drop (a+((s.data.toList.drop a).takeWhile p).length):=by
     exact K131
   rw [this,List.head?_drop]
   exact at_get s _ h
theorem colN_long (l:List UInt8) (h:2 < l.length):colN l = 0:=by
 by_cases g:colN l = 0
 · exact g
 · have:=name_colN l g
   have h2:=name_len (colN l)
   rw [this] at h2;omega
theorem row_bad {l:List UInt8} {k:Nat} {c:UInt8} (h:l[k]? = some c) (hc:dgB c = false):rowOk l = false:=by
 unfold rowOk
 have:l.all dgB = false:=by
   rw [List.all_eq_false];exact ⟨c,List.mem_of_getElem? h,by simp [hc]⟩
 rw [this];rfl
theorem row_nought {l:List UInt8} (h:l.head? = some 48):rowOk l = false:=by
 unfold rowOk;rw [h];simp
theorem row_long {l:List UInt8} (h:4 < l.length):rowOk l = false:=by
 unfold rowOk
 rw [show decide (l.length≤4) = false from decide_eq_false J2];simp
theorem rparse6_any (s:ByteArray) (w:World) (hs:s.size≤maxLen) :
   Calls Tryz.prog 165 #[.string s] w fun e w'=>e = .returned (.tuple #[prV s.data.toList,.bool (okP s.data.toList)])∧Ext w w':=by
 unfold maxLen at hs
 have hsI:(s.size:Int)≤9223372036854775807:=J2
 have hl:=size_list s
 have HV:Hid (prV s.data.toList = if okR s.data.toList then refD (val (dgR s.data.toList)) (colN (nmR s.data.toList)) (dlB (rsR s.data.toList)) (dlB s.data.toList) else refD 0 0 false false):=prV_R _
 have HO:Hid (okP s.data.toList = okR s.data.toList):=ok_eq _
 have HD0:=dl_at s 0
 rw [List.drop_zero] at HD0
 obtain ⟨a,ha⟩:∃ a:Nat,a = if dlB s.data.toList then 1 else 0:=⟨_,rfl⟩
 have HA:Hid (a = if dlB s.data.toList then 1 else 0):=ha
 have hu:undl s.data.toList = s.data.toList.drop a:=by
   have:=undl_drop s.data.toList 0
   rw [List.drop_zero,Nat.zero_add] at this
   rw [this,ha]
 have hal:a≤s.size:=by
   rw [ha];split
   · rename_i h
     by_cases g:s.size≤0
     · rw [HD0.1 g] at h;cases h
     · omega
   · omega
 have ha1:a≤1:=by rw [ha];split <;> omega
 have H1:Hid (s.size≤0→dlB s.data.toList = false):=HD0.1
 have H2:Hid (∀ h:0 < s.size,dlB s.data.toList = decide ((s[0].toNat:Int) = 36)):=HD0.2
 clear HD0 ha
 go_enter func165,ntmps165
 go_upto_region 2 with fail
 obtain ⟨W0,hW0⟩:∃ W0,W0 = (w.alloc (.cells #[.int .i64 0,.int .i64 0,.bool false,.bool false] 40)).alloc (.cells #[.int .i64 0,.int .i64 0,.bool false,.bool false] 40):=⟨_,rfl⟩
 have S0:CSt w W0 0 0 false false:=by
   rw [hW0]
   exact ⟨(xr.alloc _).alloc _,(blk_top rfl xr).al _,blk_top J65 xr⟩
 rw [← hW0]
 clear hW0
 go_cut [18] (fun v wx=>v = .bool (dlB s.data.toList)∧wx = W0)
 case first =>
   by_cases h0:0 < s.size
   · have h0I:(0:Int) < s.size:=J2
     by_cases h1:(s[0].toNat:Int) = 36
     · have HB:Hid (dlB s.data.toList = true):=J74
       have h1':((s[0].toNat:Int) == 36) = true:=J75
       clear h1
       exact K50
     · have HB:Hid (dlB s.data.toList = false):=J74
       have h1':((s[0].toNat:Int) == 36) = false:=J75
       clear h1
       exact K50
   · have HB:Hid (dlB s.data.toList = false):=H1.out J2
     have h0I:¬ (0:Int) < s.size:=J2
     exact K50
 case rest =>
   obtain ⟨rfl,rfl⟩:=hcut
   clear H1 H2
   go_upto_if 18 with fail
   go_cut [5] (fun v wx=>v = .int .i64 (a:Int)∧CSt w wx 0 0 false (dlB s.data.toList))
   case first =>
     have S1:=S0
     obtain ⟨_,_,⟨_,⟨k0,k1,k2,k3⟩,f0,f1,f2,f3⟩⟩:=S1
     cases hd:dlB s.data.toList
     · have ea:a = 0:=J125
       subst ea
       go_wp2_with fail
       go_meet
       case rel=>exact ⟨rfl,by rw [hd];exact S0⟩
     · have ea:a = 1:=J125
       subst ea
       go_wp2_with fail
       go_meet
       case rel=>exact ⟨rfl,by rw [hd];exact S0.set 3 _ (fun b=>b.put3 _)⟩
   case rest =>
     clear S0 HA
     obtain ⟨rfl,S0⟩:=hcut
     obtain ⟨n,hn,t1,t2,t3,t4⟩:=run_facts upB s a hal
     obtain ⟨E,hE⟩:∃ E:Nat,E = a+n:=⟨_,rfl⟩
     rw [← hE] at hn t2
     have T3:Hid (∀ j (h:j < s.size),a≤j→j < E→(65:Int)≤(s[j].toNat:Int)∧(s[j].toNat:Int)≤90):=by
       intro j h h1 h2
       have:=t3 j h h1 J2
       unfold upB at this;simp at this;omega
     have T4:Hid (∀ h:E < s.size,¬ ((65:Int)≤(s[E].toNat:Int)∧(s[E].toNat:Int)≤90)):=by
       intro h g
       subst hE
       have:=t4 h
       unfold upB at this;simp at this;omega
     have N1:Hid (nmR s.data.toList = (s.extract a E).data.toList):=by
       show _ = _
       unfold nmR;rw [hu,t1,Lib.extract_data,hE,Nat.add_sub_cancel_left]
     have N2:Hid (rsR s.data.toList = s.data.toList.drop E):=by
       show _ = _
       unfold rsR;rw [hu,t2]
     have haE:a≤E:=J2
     clear t1 t2 t3 t4 hE
     go_upto_block 0 with fail
     go_cut [5] (fun v wx=>v = .int .i64 (E:Int)∧wx = wc)
     case first =>
       go_wp2_with fail
       go_loop [5] (fun v=>∃ p:Nat,v = .int .i64 (p:Int)∧a≤p∧p≤E) (fun v=>s.size - (intOf v).toNat)
       case atStart=>exact ⟨a,rfl,Nat.le_refl _,haE⟩
       case round =>
         obtain ⟨p,rfl,p1,p2⟩:=hrel
         by_cases hp:p < E
         · have hps:p < s.size:=J2
           obtain ⟨g1,g2⟩:=T3.out p hps p1 hp
           have hpI:(p:Int) < s.size:=J2
           go_wp2_with fail
           go_round
           case rel=>exact ⟨p+1,by go_num,by omega,by omega⟩
           case measure=>simp [intOf];omega
         · obtain rfl:p = E:=by omega
           by_cases hps:p < s.size
           · have hpI:(p:Int) < s.size:=J2
             by_cases g:(65:Int)≤(s[p].toNat:Int)
             · have g':¬ (s[p].toNat:Int)≤90:=fun k=>T4.out hps ⟨g,k⟩
               exact K101
             · exact K101
           · have hpI:¬ (p:Int) < s.size:=J2
             exact K101
     case rest =>
       obtain ⟨rfl,rfl⟩:=hcut
       clear T3 T4
       have cN:=fun W=>rcolnumber_any (s.extract a E) W
       rw [← N1.out] at cN
       have hNl:(nmR s.data.toList).length = E - a:=by rw [N1.out,size_list,ByteArray.size_extract];omega
       have HC0:Hid (2 < E - a→colN (nmR s.data.toList) = 0):=fun h=>colN_long _ J2
       have HD:=dl_at s E
       rw [← N2.out] at HD
       obtain ⟨A,hA⟩:∃ A:Nat,A = E+if dlB (rsR s.data.toList) then 1 else 0:=⟨_,rfl⟩
       have HA:Hid (A = E+if dlB (rsR s.data.toList) then 1 else 0):=hA
       have hdg:dgR s.data.toList = s.data.toList.drop A:=by
         unfold dgR;rw [hA,N2.out];exact undl_drop _ _
       have hAl:A≤s.size:=by
         rw [hA];split
         · rename_i h
           by_cases g:s.size≤E
           · rw [HD.1 g] at h;cases h
           · omega
         · omega
       have hAE:A≤E+1:=by rw [hA];split <;> omega
       have hEA:E≤A:=by rw [hA];omega
       have H1:Hid (s.size≤E→dlB (rsR s.data.toList) = false):=HD.1
       have H2:Hid (∀ h:E < s.size,dlB (rsR s.data.toList) = decide ((s[E].toNat:Int) = 36)):=HD.2
       have eI1:(a:Int)≤E:=J2
       have eI2:(E:Int)≤s.size:=J2
       clear HD hA hNl N1 N2 hu
       generalize dlB (rsR s.data.toList) = d2 at *
       generalize dlB s.data.toList = d1 at *
       obtain ⟨k,hk⟩:∃ k:Nat,k = colN (nmR s.data.toList):=⟨_,rfl⟩
       have hk52:(k:Int)≤52:=by rw [hk];have:=colN_le (nmR s.data.toList);omega
       rw [← hk] at cN HV HC0
       have HK:Hid (k = colN (nmR s.data.toList)):=hk
       clear hk
       go_wp2_with fail
       refine (cN _).mono ?_
       rintro e w1 ⟨rfl,E1⟩
       have S1:=S0.ext E1
       clear S0 E1 cN
       have S2:=S1
       obtain ⟨_,_,⟨_,⟨k0,k1,k2,k3⟩,f0,f1,f2,f3⟩⟩:=S2
       go_upto_region 9 with fail
       have S2:CSt w (w1.setCell ⟨w.heap.size+1,1,none⟩ (.int .i64 k)) 0 k false d1:=S1.set 1 _ (fun b=>b.put1 _)
       generalize w1.setCell ⟨w.heap.size+1,1,none⟩ (.int .i64 k) = W2 at *
       clear S1 k0 k1 k2 k3 f0 f1 f2 f3
       go_cut [56] (fun v wx=>v = .bool d2∧wx = W2)
       case first =>
         by_cases h0:E < s.size
         · have h0I:(E:Int) < s.size:=J2
           by_cases h1:(s[E].toNat:Int) = 36
           · have HB:Hid (d2 = true):=J74
             have h1':((s[E].toNat:Int) == 36) = true:=J75
             clear h1
             exact K50
           · have HB:Hid (d2 = false):=J74
             have h1':((s[E].toNat:Int) == 36) = false:=J75
             clear h1
             exact K50
         · have HB:Hid (d2 = false):=H1.out J2
           have h0I:¬ (E:Int) < s.size:=J2
           exact K50
       case rest =>
         obtain ⟨rfl,rfl⟩:=hcut
         clear H1 H2
         go_upto_if 56 with fail
         go_cut [5] (fun v wx=>v = .int .i64 (A:Int)∧CSt w wx 0 k d2 d1)
         case first =>
           have S1:=S2
           obtain ⟨_,_,⟨_,⟨k0,k1,k2,k3⟩,f0,f1,f2,f3⟩⟩:=S1
           cases hd:d2
           · have ea:A = E:=J125
             subst ea
             go_wp2_with fail
             go_meet
             case rel=>exact ⟨rfl,by rw [hd];exact S2⟩
           · have ea:A = E+1:=J125
             subst ea
             have w3:(E:Int)+1≤9223372036854775807:=J2
             go_wp2_with fail
             go_meet
             case rel=>exact ⟨by go_num,by rw [hd];exact S2.set 2 _ (fun b=>b.put2 _)⟩
         case rest =>
           clear S2 HA
           obtain ⟨rfl,S2⟩:=hcut
           have HOK:Hid (okR s.data.toList = (rowOk (dgR s.data.toList) && inB (val (dgR s.data.toList)) k)):=by show _ = _;rw [HK.out];rfl
           have HDl:(dgR s.data.toList).length = s.size - A:=by rw [hdg,List.length_drop,hl]
           have HDa:Hid (∀ j (h:j < s.size),A≤j→(dgR s.data.toList)[j - A]? = some (s[j]'h)):=fun j h h1=>by
             rw [hdg,List.getElem?_drop,show A+(j - A) = j from by omega];exact at_get s j h
           have HLN:Hid ((dgR s.data.toList).length = s.size - A):=HDl
           clear HDl hdg HK
           generalize dgR s.data.toList = D at *
           generalize okR s.data.toList = ok at *
           have haI:(A:Int)≤s.size:=J2
           have aI0:(0:Int)≤A:=J2
           go_wp2_with fail
           go_loopw [7] (fun v wx=>∃ p r:Nat,v = .int .i64 (p:Int)∧A≤p∧p≤s.size∧p≤A+4∧(D.take (p - A)).all dgB = true∧(A < p→D.head?≠some 48)∧r = val (D.take (p - A))∧CSt w wx (r:Int) k d2 d1) (fun v _=>s.size - (intOf v).toNat)
           case atStart=>exact ⟨A,0,rfl,Nat.le_refl _,hAl,by omega,by rw [Nat.sub_self];rfl,fun h=>absurd h (Nat.lt_irrefl _),by rw [Nat.sub_self];rfl,S2⟩
           case round =>
             obtain ⟨p,r,rfl,p1,p2,p3,hall,hhead,hr,SS⟩:=hrel
             have HALL:Hid ((D.take (p - A)).all dgB = true):=hall
             have HHEAD:Hid (A < p→D.head?≠some 48):=hhead
             have HR:Hid (r = val (D.take (p - A))):=hr
             have HRB:Hid (r < 10 ^ (p - A)):=by
               show _ < _
               rw [hr]
               refine llL (val_bd _ hall) (Nat.pow_le_pow_right J2 ?_)
               rw [List.length_take];omega
             clear hall hhead hr
             have S3:=SS
             obtain ⟨X,⟨_,⟨k0,k1,k2,k3⟩,f0,f1,f2,f3⟩,⟨_,⟨m0,m1,m2,m3⟩,g0,g1,g2,g3⟩⟩:=S3
             have p1I:(A:Int)≤p:=J2
             by_cases hp:p < s.size
             · have hpI:(p:Int) < s.size:=J2
               have HX:=HDa.out p hp p1
               have HXX:Hid (D[p - A]? = some s[p]):=HX
               clear HX
               by_cases c1:(s[p].toNat:Int) < 48
               · have HZ:Hid (ok = false):=by show _ = _;rw [HOK.out,row_bad HXX.out (dg_no (.inl c1))];rfl
                 exact K43
               by_cases c2:(57:Int) < s[p].toNat
               · have HZ:Hid (ok = false):=by show _ = _;rw [HOK.out,row_bad HXX.out (dg_no (.inr c2))];rfl
                 exact K43
               by_cases c3:p = A∧(s[p].toNat:Int) = 48
               · obtain ⟨rfl,c4⟩:=c3
                 have HZ:Hid (ok = false):=by
                   show _ = _
                   rw [HOK.out,row_nought (by
                     have:=HXX.out
                     rw [Nat.sub_self] at this
                     rw [List.head?_eq_getElem?,this,u8_eq (a:=s[p]) (b:=48) (by show s[p].toNat = 48;omega)])]
                   rfl
                 have c5:((p:Int) == (p:Int)) = true:=J65
                 have c6:((s[p].toNat:Int) == 48) = true:=by simpa using c4
                 clear c4
                 exact K43
               have c7:((p:Int) == (A:Int)) = false∨((s[p].toNat:Int) == 48) = false:=by
                 by_cases e:p = A
                 · right;simp;intro e2;exact c3 ⟨e,e2⟩
                 · left;simp;omega
               have HC3:Hid (¬ (p = A∧(s[p].toNat:Int) = 48)):=c3
               clear c3
               by_cases hov:(A:Int)+3≤9223372036854775807
               · by_cases c4:(A:Int)+3 < p
                 · have HZ:Hid (ok = false):=by
                     show _ = _
                     rw [HOK.out,row_long (by rw [HLN.out];omega)];rfl
                   exact K202
                 · have hr9:r≤999:=by
                     have h1:=HRB.out
                     have h2:10 ^ (p - A)≤10 ^ 3:=Nat.pow_le_pow_right J2 J2
                     omega
                   have hr9I:(r:Int)≤999:=J2
                   have hr0I:(0:Int)≤r:=J2
                   have hlen:p - A < D.length:=by rw [HLN.out];omega
                   have hel:D[p - A] = s[p]:=by
                     have:=HXX.out
                     rw [gEq hlen] at this
                     exact Option.some.inj this
                   have e1:p+1 - A = p - A+1:=J2
                   have HAL:Hid ((D.take (p+1 - A)).all dgB = true):=by
                     show _ = _
                     rw [e1,all_take D (p - A) hlen,HALL.out,hel,dg_yes c1 c2];rfl
                   have HVL:Hid (10 * r+(s[p].toNat - 48) = val (D.take (p+1 - A))):=by
                     show _ = _
                     rw [e1,val_take_succ D (p - A) hlen,← HR.out,hel];omega
                   have HHD:Hid (A < p+1→D.head?≠some 48):=by
                     show _→_
                     intro _ hh
                     by_cases g:A < p
                     · exact HHEAD.out g hh
                     · have ep:p = A:=J2
                       have h5:=HXX.out
                       rw [show p - A = 0 from by omega,← List.head?_eq_getElem?,hh] at h5
                       have h6:=Option.some.inj h5
                       exact HC3.out ⟨ep,by rw [← h6];rfl⟩
                   clear hlen hel e1 hr9
                   cases c8:((p:Int) == (A:Int))
                   · exact K60
                   · have c9:((s[p].toNat:Int) == 48) = false:=by
                       exact K157
                     exact K60
               · have HZ:Hid (ok = false):=by
                   show _ = _
                   rw [HOK.out,HC0.out J2]
                   unfold inB;simp
                 have hw:IntKind.i64.wrap ((A:Int)+3) = (A:Int)+3 - 18446744073709551616:=by
                   unfold IntKind.wrap;simp [IntKind.bits,IntKind.signed];omega
                 have hw2:(A:Int)+3 - 18446744073709551616 < p:=J2
                 exact K202
             · obtain rfl:p = s.size:=by omega
               have htk:D.take (s.size - A) = D:=List.take_of_length_le (by rw [HLN.out];omega)
               rw [htk] at HR HALL
               have hpI:¬ (s.size:Int) < s.size:=J2
               have cI:=fun W=>rin_any (r:Int) (k:Int) W
               have HRO:Hid (D≠[]→rowOk D = true):=by
                 show _→_
                 intro hne
                 have hA:A < s.size:=by
                   have:=HLN.out
                   rcases Nat.lt_or_ge A s.size with g | g
                   · exact g
                   · exact absurd (List.length_eq_zero_iff.1 J2) hne
                 unfold rowOk
                 have hh:(D.head? != some 48) = true:=by simpa using HHEAD.out hA
                 rw [HALL.out,hh,HLN.out,show decide (s.size - A≤4) = true from decide_eq_true J2]
                 rfl
               have HOK2:Hid (ok = inB r k):=by
                 show _ = _
                 rw [HOK.out,HR.out]
                 by_cases hne:D = []
                 · rw [hne]
                   have:val ([]:List UInt8) = 0:=rfl
                   rw [this];unfold inB;simp
                 · rw [HRO.out hne];rfl
               have HRV:Hid ((r:Int) = (val D:Int)):=by show _ = _;rw [HR.out]
               clear htk
               cases hin:inB (r:Int) (k:Int)
               · rw [hin] at cI HOK2
                 have HZ:Hid (ok = false):=HOK2.out
                 go_wp2_with fail
                 refine (cI _).mono ?_
                 rintro e w5 ⟨rfl,rfl⟩
                 exact K43
               · rw [hin] at cI HOK2
                 have HZ:Hid (ok = true):=HOK2.out
                 go_wp2_with fail
                 refine (cI _).mono ?_
                 rintro e w5 ⟨rfl,rfl⟩
                 go_wp2_with fail
                 exact fin4b true k0 k1 k2 k3 rfl nrf X J19 (fun W h=>⟨ret_ref (by rw [HV.out,HZ.out,if_pos rfl,← HRV.out];rfl) J36,h⟩)
end Go.Proofs.YtcfgbiaahangmaaGreatDoor
