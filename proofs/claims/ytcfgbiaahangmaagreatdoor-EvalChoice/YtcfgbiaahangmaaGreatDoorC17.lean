import Derived.Test.YtcfgbiaahangmaaGreatDoorC16
import Derived.Test.YtcfgbiaahangmaaGreatDoorProg
import Derived.Lib.OwnKind
import Derived.Lib.AppendStr
import Derived.Lib.AppendIntMem
import Derived.Lib.UnsafeStr
set_option maxHeartbeats 2000000
set_option maxRecDepth 100000
namespace Go.Proofs.YtcfgbiaahangmaaGreatDoor
open Go.Proofs.Tryz
open Go.RowKit
theorem Zer.env {hi b:Nat} {W W':World} (h:Zer W b) (e:Env hi W W') (hb:b < hi):Zer W' b:=by
 obtain ⟨o,k⟩:=h.2.env e hb
 exact ⟨h.1.cells e.1.size k,o⟩
theorem Zer.far {W:World} {b c:Nat} (h:Zer W b) (hc:c≠b) (o:Nat) (v:Value):Zer (W.setCell ⟨c,o,none⟩ v) b:=⟨h.1.far1 hc o v,h.2.set _ _⟩
structure Utm (p:Int→Int→Bool) (g:Nat) (av:Value) (l:List V) (W:World):Prop where
 z:g+3 < W.heap.size
 a0:W.cell? ⟨g,0,none⟩ = some av
 b0:W.cell? ⟨g+2,0,none⟩ = some (.int .i64 (bestN p l))
 c0:W.cell? ⟨g+3,0,none⟩ = some (.int .i64 (l.length:Int))
 f2:W.frozen? ⟨g+2,0,none⟩ = false
 f3:W.frozen? ⟨g+3,0,none⟩ = false
 r:Zer W (g+1)
theorem Utm.env {p:Int→Int→Bool} {g hi:Nat} {av:Value} {l:List V} {W W':World} (h:Utm p g av l W) (e:Env hi W W') (hg:g+4≤hi):Utm p g av l W':=by
 obtain ⟨z,a0,b0,c0,f2,f3,r⟩:=h
 have k0:=e.at (b:=g) J2
 have k2:=e.at (b:=g+2) J2
 have k3:=e.at (b:=g+3) J2
 exact ⟨llL z e.1.size,(k0 0).1.trans a0,(k2 0).1.trans b0,(k3 0).1.trans c0,(k2 0).2.trans f2,(k3 0).2.trans f3,r.env e J2⟩
theorem Utm.put0 {p:Int→Int→Bool} {g:Nat} {av:Value} {l:List V} {W:World} {x:V} (h:Utm p g av l W) (hx:bestN p (l ++ [x]) = bestN p l) (wk:wrap64 ((l.length:Int)+1) = ((l.length+1:Nat):Int)) :
   Utm p g av (l ++ [x]) (W.setCell ⟨g+3,0,none⟩ (.int .i64 (wrap64 ((l.length:Int)+1)))):=by
 obtain ⟨z,a0,b0,c0,f2,f3,r⟩:=h
 have el:(l ++ [x]).length = l.length+1:=J65
 refine ⟨by simpa [World.setCell] using z,?_,?_,?_,by simpa [go_sem] using f2,by simpa [go_sem] using f3,r.far J2 _ _⟩
 · rw [wFa _ _ _ _ (by show g+3≠g;omega)];exact a0
 · rw [hx,wFa _ _ _ _ (by show g+3≠g+2;omega)];exact b0
 · rw [el,← wk];exact wSa _ _ _ (by rw [c0])
theorem Utm.put1 {p:Int→Int→Bool} {g:Nat} {av:Value} {l:List V} {W:World} {x:V} (h:Utm p g av l W) (hx:bestN p (l ++ [x]) = x.n) (wk:wrap64 ((l.length:Int)+1) = ((l.length+1:Nat):Int)) :
   Utm p g av (l ++ [x]) ((W.setCell ⟨g+2,0,none⟩ (.int .i64 x.n)).setCell ⟨g+3,0,none⟩ (.int .i64 (wrap64 ((l.length:Int)+1)))):=by
 obtain ⟨z,a0,b0,c0,f2,f3,r⟩:=h
 have el:(l ++ [x]).length = l.length+1:=J65
 refine ⟨by simpa [World.setCell] using z,?_,?_,?_,by simpa [go_sem] using f2,by simpa [go_sem] using f3,(r.far J2 _ _).far J2 _ _⟩
 · rw [wFa _ _ _ _ (by show g+3≠g;omega),wFa _ _ _ _ (by show g+2≠g;omega)];exact a0
 · rw [hx,wFa _ _ _ _ (by show g+3≠g+2;omega)];exact wSa _ _ _ (by rw [b0])
 · rw [el,← wk];exact wSa _ _ _ (by rw [wFa _ _ _ _ (by show g+2≠g+3;omega),c0])
def AhC (v:Value) (p:Int→Int→Bool):Prop:=∃ K,v = .func (.func K) #[] #[]∧(∀ args W,(callFunc K args).run Tryz.prog W = .ok (.enter K args) W) ∧
 ∀ W a b,Calls Tryz.prog K #[.int .i64 a,.int .i64 b] W fun e w'=>e = .returned (.bool (p a b))∧w' = W
theorem min1_any (a b:Int) (W:World):Calls Tryz.prog 231 #[.int .i64 a,.int .i64 b] W fun e w'=>e = .returned (.bool (ltB a b))∧w' = W:=by
 have H:Hid (ltB a b = decide (a < b)):=rfl
 go_enter func231,ntmps231
 go_wp2_with fail
 exact K156
theorem max1_any (a b:Int) (W:World):Calls Tryz.prog 232 #[.int .i64 a,.int .i64 b] W fun e w'=>e = .returned (.bool (gtB a b))∧w' = W:=by
 have H:Hid (gtB a b = decide (a > b)):=rfl
 go_enter func232,ntmps232
 go_wp2_with fail
 exact K156
theorem ah_min:AhC (.func (.func 231) #[] #[]) ltB:=⟨_,rfl,enters_of func231 J3 rfl,fun W a b=>min1_any a b W⟩
theorem ah_max:AhC (.func (.func 232) #[] #[]) gtB:=⟨_,rfl,enters_of func232 J3 rfl,fun W a b=>max1_any a b W⟩
theorem utm1_any (p:Int→Int→Bool) (av:Value) (hv:AhC av p) (w0:World) (g:Nat) (hg:w0.heap.size≤g) (l:List V) (W:World) (x:V) (h:Utm p g av l W) (hE:Ext w0 W) (hl:l.length≤20000000000) :
   Calls Tryz.prog 265 (encV x ++ #[.pointer (some ⟨g+3,0,none⟩),.pointer (some ⟨g,0,none⟩),.pointer (some ⟨g+2,0,none⟩)]) W fun e w'=>e = .returned (.tuple #[])∧Utm p g av (l ++ [x]) w'∧Mid w0.heap.size (g+4) W w':=by
 obtain ⟨K,rfl,ent,cK⟩:=hv
 have WK:Hid (wrap64 ((l.length:Int)+1) = ((l.length+1:Nat):Int)):=wrap_1 _ J2
 have H:Hid (Utm p g (.func (.func K) #[] #[]) l W):=h
 obtain ⟨z,a0,b0,c0,f2,f3,r⟩:=h
 have H0:Hid (w0.heap.size≤g∧Ext w0 W):=⟨hg,hE⟩
 have z0:g < W.heap.size:=J2
 have z2:g+2 < W.heap.size:=J2
 have HB:Hid (bestN p (l ++ [x]) = if l.length = 0 then x.n else if p x.n (bestN p l) then x.n else bestN p l):=bestN_app p l x
 rw [show encV x = #[x.dat] from rfl,dat_eq x]
 have HP0:Hid (∀ o,bestN p (l ++ [x]) = bestN p l→Utm p g (.func (.func K) #[] #[]) (l ++ [x]) ((W.setCell ⟨g+3,0,none⟩ (.int .i64 (wrap64 ((l.length:Int)+1)))).alloc o)):=fun o hx =>
   have q:=H.out.put0 hx WK.out
   q.env ((xr.alloc o).env (hi:=g+4) q.z) nrf
 have HP1:Hid (∀ o,bestN p (l ++ [x]) = x.n→Utm p g (.func (.func K) #[] #[]) (l ++ [x]) (((W.setCell ⟨g+2,0,none⟩ (.int .i64 x.n)).setCell ⟨g+3,0,none⟩ (.int .i64 (wrap64 ((l.length:Int)+1)))).alloc o)):=fun o hx =>
   have q:=H.out.put1 hx WK.out
   q.env ((xr.alloc o).env (hi:=g+4) q.z) nrf
 have X0:Hid (∀ v,Mid w0.heap.size (g+4) W (W.setCell ⟨g+3,0,none⟩ v)):=fun v=>((Ext.refl W).mid H0.out.2.size _).set (by have:=H0.out.1;omega) J2 _ _
 have X1:Hid (∀ v u,Mid w0.heap.size (g+4) W ((W.setCell ⟨g+2,0,none⟩ v).setCell ⟨g+3,0,none⟩ u)):=fun v u=>(((Ext.refl W).mid H0.out.2.size _).set (by have:=H0.out.1;omega) J2 _ _).set (by have:=H0.out.1;omega) J2 _ _
 clear hg hE hl r
 obtain ⟨xk,hxk⟩:∃ q,x.k = q:=⟨_,rfl⟩
 obtain ⟨xn,hxn⟩:∃ q,x.n = q:=⟨_,rfl⟩
 obtain ⟨xs,hxs⟩:∃ q,x.s = q:=⟨_,rfl⟩
 obtain ⟨xe,hxe⟩:∃ q,x.e = q:=⟨_,rfl⟩
 rw [hxk,hxn,hxs,hxe]
 rw [hxn] at HP1 HB
 clear hxk hxn hxs hxe
 obtain ⟨m,hm⟩:∃ m:Nat,l.length = m:=⟨_,rfl⟩
 rw [hm] at HB HP0 HP1 c0
 obtain ⟨bb,hbb⟩:∃ q,bestN p l = q:=⟨_,rfl⟩
 rw [hbb] at HB HP0 b0
 have cA:=fun W=>cK W xn bb
 clear hm hbb cK WK H
 by_cases h0:m = 0
 · have e0:((m:Int) == 0) = true:=J6
   have HX:Hid (bestN p (l ++ [x]) = xn):=by show _ = _;rw [HB.out,if_pos h0]
   clear cA HB h0
   go_enter func265,ntmps265
   exact K77
 · have e0:((m:Int) == 0) = false:=J6
   cases hp:p xn bb
   · rw [hp] at cA
     have HX:Hid (bestN p (l ++ [x]) = bb):=by show _ = _;rw [HB.out,if_neg h0,hp];rfl
     clear hp h0 HB
     go_enter func265,ntmps265
     go_wp2_with fail
     refine (cA _).mono ?_
     rintro e w1 ⟨rfl,rfl⟩
     exact K122
   · rw [hp] at cA
     have HX:Hid (bestN p (l ++ [x]) = xn):=by show _ = _;rw [HB.out,if_neg h0,hp];rfl
     clear hp h0 HB
     go_enter func265,ntmps265
     go_wp2_with fail
     refine (cA _).mono ?_
     rintro e w1 ⟨rfl,rfl⟩
     exact K77
theorem ent_utm1:∀ args W,(callFunc 265 args).run Tryz.prog W = .ok (.enter 265 args) W:=enters_of func265 J3 rfl
theorem utm_fn (p:Int→Int→Bool) (av:Value) (hv:AhC av p) (w0:World) (g:Nat) (hg:w0.heap.size≤g):FnC w0 (g+4) (.func (.func 265) #[] #[.pointer (some ⟨g+3,0,none⟩),.pointer (some ⟨g,0,none⟩),.pointer (some ⟨g+2,0,none⟩)]) encV V.ok (fun l W=>Utm p g av l W):=by
 refine ⟨_,_,rfl,ent_utm1,?_,?_⟩
 · intro l W W' h hs e
   exact h.env e nrf
 · intro l W x h hs e hl hx
   exact utm1_any p av hv w0 g hg l W x h e hl
theorem utmost_any (q:Int→Int→Bool) (av:Value) (hv:AhC av q) (w0:World) (gs:List Ag) (p:Option Addr) (n c:Nat) (hA:RdA w0.heap.size w0 (.slice p n c) gs) (hI:AgI gs) (hlen:(seen gs).length≤10000000000) (hal:gs.length≤10000000000) (hN:Nm w0) :
   Calls Tryz.prog 230 #[.slice p n c,av] w0 fun e w'=>e = .returned (fBest q gs).dat∧Ext w0 w':=by
 have HF:Hid (FnC w0 (w0.heap.size+4) (.func (.func 265) #[] #[.pointer (some ⟨w0.heap.size+3,0,none⟩),.pointer (some ⟨w0.heap.size,0,none⟩),.pointer (some ⟨w0.heap.size+2,0,none⟩)]) encV V.ok (fun l W=>Utm q w0.heap.size av l W)):=utm_fn q av hv w0 w0.heap.size nrf
 have H0:Hid (RdA w0.heap.size w0 (.slice p n c) gs∧AgI gs∧(seen gs).length≤10000000000∧gs.length≤10000000000∧Nm w0):=⟨hA,hI,hlen,hal,hN⟩
 obtain ⟨K,rfl,_,_⟩:=hv
 clear hA hI hlen hal hN
 go_enter func230,ntmps230
 go_wp2_with fail
 generalize hW3:(((w0.alloc _).alloc _).alloc _).alloc _ = W3
 have z3:W3.heap.size = w0.heap.size+4:=J105
 have E3:Ext w0 W3:=by rw [← hW3];exact (((xr.alloc _).alloc _).alloc _).alloc _
 have HT:Utm q w0.heap.size (.func (.func K) #[] #[]) [] W3:=by
   refine ⟨by omega,?_,?_,?_,?_,?_,?_,?_⟩
   · rw [← hW3];simp [go_sem]
   · rw [← hW3];simp [go_sem,bestN]
   · rw [← hW3];simp [go_sem]
   · rw [← hW3];simp [go_sem]
   · rw [← hW3];simp [go_sem]
   · rw [← hW3];exact blk_top J65 ((xr.alloc _).alloc _)
   · rw [← hW3];exact Own4.at J65 J9 ((xr.alloc _).alloc _)
 refine (through_any w0 gs _ _ numF (fun l W=>Utm q w0.heap.size (.func (.func K) #[] #[]) l W) W3 p n c (turn_number w0 H0.out.2.2.2.2) (by rw [z3];exact HF.out) numF_okk (H0.out.1.low (Below.mono E3 nrf)) H0.out.2.1 H0.out.2.2.1 H0.out.2.2.2.1 HT E3 H0.out.2.2.2.2).mono ?_
 rintro e w4 ⟨rfl,T4,X4⟩
 have HX4:Hid (Ext w0 w4):=X4
 obtain ⟨tz,ta,tb,tc,tf2,tf3,tr,tow⟩:=T4
 have HB4:Hid (Blk w4 (w0.heap.size+1) (.int .i64 0) (.int .i64 0) (.string ⟨#[]⟩) (.int .i64 0)):=tr
 obtain ⟨c0z,⟨c0_0,c0_1,c0_2,c0_3⟩,c0f0,c0f1,c0f2,c0f3⟩:=tr
 have HR:Hid (fBest q gs = if (bad numF (seen gs)).k = 4 then bad numF (seen gs) else mkNum (bestN q (got numF (seen gs)))):=rfl
 have HD:Hid ((bad numF (seen gs)).dat = .agg #[.int .i64 (bad numF (seen gs)).k,.int .i64 (bad numF (seen gs)).n,.string (bad numF (seen gs)).s,.int .i64 (bad numF (seen gs)).e]):=dat_eq _
 have hD:=dat_eq (bad numF (seen gs))
 obtain ⟨zk,hzk⟩:∃ r,(bad numF (seen gs)).k = r:=⟨_,rfl⟩
 obtain ⟨zn,hzn⟩:∃ r,(bad numF (seen gs)).n = r:=⟨_,rfl⟩
 obtain ⟨zs',hzs⟩:∃ r,(bad numF (seen gs)).s = r:=⟨_,rfl⟩
 obtain ⟨ze,hze⟩:∃ r,(bad numF (seen gs)).e = r:=⟨_,rfl⟩
 rw [hzk,hzn,hzs,hze] at HD hD
 rw [hzk] at HR
 obtain ⟨bb,hbb⟩:∃ r,bestN q (got numF (seen gs)) = r:=⟨_,rfl⟩
 rw [hbb] at tb HR
 rw [hD]
 have tz2:w0.heap.size+2 < w4.heap.size:=J2
 clear hzk hzn hzs hze hD hbb hW3 z3 E3 HT X4 tz ta tc tf2 tf3 tow HF
 by_cases h4:zk = 4
 · have e4:(zk == 4) = true:=J104
   have HZ:Hid (fBest q gs = bad numF (seen gs)):=by show _ = _;rw [HR.out,if_pos h4]
   clear h4 HR tb tz2
   go_wp2_with fail
   exact finB ((HB4.out.set _ _ _ _).al _) rfl (((((HX4.out.setCell J65 _).setCell J65 _).setCell J65 _).setCell J65 _).alloc _) (fun g0 g1 g2 g3=>by simp [results,results230,go_sem,g0,g1,g2,g3]) (fun h=>⟨by rw [HZ.out,HD.out],h⟩)
 · have e4:(zk == 4) = false:=J104
   have HZ:Hid (fBest q gs = mkNum bb):=by show _ = _;rw [HR.out,if_neg h4]
   have cN:=fun W h=>vnum_any bb W h
   obtain ⟨q0,q1,q2,q3,hq⟩:=dat4 (mkNum bb)
   rw [hq] at cN
   have HQ:Hid ((mkNum bb).dat = .agg #[.int .i64 q0,.int .i64 q1,.string q2,.int .i64 q3]):=hq
   clear h4 HR hq
   go_wp2_with fail
   refine (cN _ (H0.out.2.2.2.2.ext (HX4.out.alloc _))).mono ?_
   rintro e w5 ⟨rfl,E5⟩
   have HB5:Hid (Blk w5 (w0.heap.size+1) (.int .i64 0) (.int .i64 0) (.string ⟨#[]⟩) (.int .i64 0)):=(HB4.out.al _).ext E5
   have HX5:Hid (Ext w0 w5):=(HX4.out.alloc _).trans E5
   clear c0z c0_0 c0_1 c0_2 c0_3 c0f0 c0f1 c0f2 c0f3 tb tz2 E5
   obtain ⟨c0z,⟨c0_0,c0_1,c0_2,c0_3⟩,c0f0,c0f1,c0f2,c0f3⟩:=HB5.out
   go_wp2_with fail
   exact finB (HB5.out.set _ _ _ _) rfl ((((HX5.out.setCell J65 _).setCell J65 _).setCell J65 _).setCell J65 _) (fun g0 g1 g2 g3=>by simp [results,results230,go_sem,g0,g1,g2,g3]) (fun h=>⟨by rw [HZ.out,HQ.out],h⟩)
theorem Pair.put {w:World} {b:Nat} {x:Int} (h:Pair w b x) (y:Int) (hu:uhi y = uhi x):Pair (w.setCell ⟨b,1,none⟩ (.int .u64 (loOf y))) b y:=by
 obtain ⟨z,c0,c1,f0,f1⟩:=h
 refine ⟨by simpa [World.setCell] using z,?_,?_,?_,?_⟩
 · rw [wO _ _ _ _ J65,hu];exact c0
 · exact wSa _ ⟨b,1,none⟩ _ (by rw [c1])
 · rw [wFz];exact f0
 · rw [wFz];exact f1
def Keep (w:World) (X D:Int) (wr:World):Prop:=Ext w wr∧Pair wr w.heap.size X∧Pair wr (w.heap.size+1) D∧Pair wr (w.heap.size+2) 0∧Pair wr (w.heap.size+3) 0
theorem Keep.ext {w W W':World} {X D:Int} (h:Keep w X D W) (e:Ext W W'):Keep w X D W' :=
 ⟨h.1.trans e,h.2.1.ext e,h.2.2.1.ext e,h.2.2.2.1.ext e,h.2.2.2.2.ext e⟩
theorem Keep.far {w W:World} {X D:Int} (h:Keep w X D W) {c:Nat} (hc:w.heap.size+4≤c) (o:Nat) (v:Value):Keep w X D (W.setCell ⟨c,o,none⟩ v) :=
 ⟨h.1.setCell (by show w.heap.size≤c;omega) _,h.2.1.far J2 _ _,h.2.2.1.far J2 _ _,h.2.2.2.1.far J2 _ _,h.2.2.2.2.far J2 _ _⟩
def I128 (x:Int):Prop:=-170141183460469231731687303715884105728≤x∧x≤170141183460469231731687303715884105727
theorem near_eq (X d:Nat) (h:0 < d):(nearQ X d:Int) = (2 * (X:Int)+d) / (2 * d):=by
 have e:=Nat.div_add_mod X d
 have hm:=Nat.mod_lt X h
 unfold nearQ
 generalize hq:X / d = q at *
 generalize hr:X % d = r at *
 have hX:(X:Int) = d * q+r:=by rw [← e];simp
 have e2:(2 * (X:Int)+d) = (2 * r+d)+(2 * d) * q:=by rw [hX,Int.mul_add,Int.mul_assoc];omega
 rw [e2,Int.add_mul_ediv_left _ _ J2]
 by_cases hc:d≤2 * r
 · rw [if_pos hc]
   have:(2 * (r:Int)+d) / (2 * d) = 1:=by
     apply Int.le_antisymm
     · have:(2 * (r:Int)+d) / (2 * d) < 2:=Int.ediv_lt_of_lt_mul J2 J2
       omega
     · exact Int.le_ediv_of_mul_le J2 J2
   rw [this];simp;omega
 · rw [if_neg hc]
   have:(2 * (r:Int)+d) / (2 * d) = 0:=Int.ediv_eq_zero_of_lt J2 J2
   rw [this];simp
theorem abs_nat (x:Int):absI x = (x.natAbs:Int):=J94
theorem mean_near (x:Int) (d:Nat) (h:0 < d):meanQ x d = nearQ x.natAbs d:=by
 unfold meanQ
 rw [near_eq _ _ h,abs_nat]
theorem meanB_near (x:Int) (d:Nat) (h:0 < d):meanB x d = sgnB (nearQ x.natAbs d):=by
 unfold meanB sgnB
 rw [mean_near x d h,Bool.eq_iff_iff]
 simp
 omega
theorem meanV_near (x:Int) (d:Nat) (h:0 < d):meanV x d = sgnV (decide (x < 0)) (nearQ x.natAbs d):=by
 unfold meanV sgnV
 rw [meanB_near x d h,mean_near x d h]
 cases sgnB (nearQ x.natAbs d)
 · rfl
 · by_cases hx:x < 0 <;> simp [hx]
theorem hi_neg (x:Int) (h:I128 x):decide (hiOf x < 0) = decide (x < 0):=by
 obtain ⟨h1,h2⟩:=h
 rw [Bool.eq_iff_iff]
 unfold hiOf sg64
 simp
 omega
theorem fsize_any (x:Int) (hx:I128 x) (W:World):Calls Tryz.prog 281 #[.agg #[.int .i64 (hiOf x),.int .u64 (loOf x)]] W fun e w'=>e = .returned (.tuple #[.int .u64 (uhi (absI x)),.int .u64 (loOf (absI x))])∧Ext W w':=by
 have p1:=uhi_hiOf x
 have HN:=hi_neg x hx
 obtain ⟨u1,u2⟩:=uhi_bd x
 obtain ⟨l1,l2⟩:=lo_bd x
 by_cases hs:x < 0
 · have hd:decide (hiOf x < 0) = true:=J107
   have hd':hiOf x < 0:=by simpa using hd
   have HR:Hid ((0 - uhi x - bor 0 (loOf x)) % 18446744073709551616 = uhi (absI x)∧(0 - loOf x) % 18446744073709551616 = loOf (absI x)):=by
     show _∧_
     unfold absI;rw [if_pos hs];unfold uhi loOf bor
     split <;> (constructor <;> omega)
   obtain ⟨R0,hR0⟩:∃ r,uhi (absI x) = r:=⟨_,rfl⟩
   obtain ⟨R1,hR1⟩:∃ r,loOf (absI x) = r:=⟨_,rfl⟩
   rw [hR0,hR1] at HR ⊢
   have k1:=fun W=>sub64_0 0 (loOf x) J9 l1 l2 W
   have bb:=bor_bd 0 (loOf x)
   have k2:=fun W=>sub64 0 (uhi x) (bor 0 (loOf x)) J9 u1 u2 bb.1 bb.2 W
   rw [HR.out.1] at k2
   rw [HR.out.2] at k1
   clear HN hs hR0 hR1
   generalize hiOf x = a0 at *
   generalize loOf x = a1 at *
   generalize uhi x = a2 at *
   generalize bor 0 a1 = a3 at *
   generalize bor 0 (a2+a3) = a4 at *
   clear HR bb u1 u2 l1 l2
   exact K97
 · have hd:decide (hiOf x < 0) = false:=J107
   have hd':¬ hiOf x < 0:=by simpa using hd
   have e:absI x = x:=by unfold absI;rw [if_neg hs]
   rw [e]
   clear HN hs e
   generalize hiOf x = a0 at *
   generalize loOf x = a1 at *
   generalize uhi x = a2 at *
   clear u1 u2 l1 l2
   exact K97
theorem quotient_any (x:Int) (hx:I128 x) (n:Nat) (hn:0 < n) (hn':n≤9223372036854775807) (W:World):Calls Tryz.prog 266 #[.agg #[.int .i64 (hiOf x),.int .u64 (loOf x)],.int .u64 (n:Int)] W fun e w' =>
   e = .returned (.tuple #[.int .i64 (sgnV false (nearQ x.natAbs n)),.bool (sgnB (nearQ x.natAbs n))])∧Ext W w':=by
 have cS:=fun W=>fsize_any x hx W
 rw [abs_nat] at cS
 have hX:x.natAbs < 340282366920938463463374607431768211456:=by obtain ⟨h1,h2⟩:=hx;omega
 obtain ⟨X,hXX⟩:∃ X,x.natAbs = X:=⟨_,rfl⟩
 rw [hXX] at cS hX ⊢
 clear hXX
 obtain ⟨hi,hhi⟩:∃ hi,X / 18446744073709551616 = hi:=⟨_,rfl⟩
 obtain ⟨lo,hlo⟩:∃ lo,X % 18446744073709551616 = lo:=⟨_,rfl⟩
 have e1:uhi (X:Int) = (hi:Int):=by unfold uhi;omega
 have e2:loOf (X:Int) = (lo:Int):=by unfold loOf;omega
 have hl:lo < 18446744073709551616:=J2
 have hh:hi < 18446744073709551616:=J2
 have e3:hi * 18446744073709551616+lo = X:=J2
 rw [e1,e2] at cS
 clear e1 e2 hhi hlo hx
 generalize hiOf x = a0 at *
 generalize loOf x = a1 at *
 by_cases hg:n≤hi
 · have HS:Hid (sgnV false (nearQ X n) = 0∧sgnB (nearQ X n) = false):=by
     have:9223372036854775807 < nearQ X n:=by
       have h2:18446744073709551616≤X / n:=by
         rw [Nat.le_div_iff_mul_le hn]
         calc 18446744073709551616 * n≤18446744073709551616 * hi:=Nat.mul_le_mul_left _ hg
           _≤X:=by omega
       unfold nearQ;omega
     exact ⟨sgnV_no _ this,sgnB_no this⟩
   have hgI:(hi:Int)≥(n:Int):=J2
   have hgd:decide ((hi:Int)≥(n:Int)) = true:=by simpa using hgI
   clear hg e3 hX
   go_enter func266,ntmps266
   go_wp2_with fail
   refine (cS _).mono ?_
   rintro e w1 ⟨rfl,E1⟩
   go_wp2_with fail
   go_ret2
   exact ⟨ret_ib HS.out.1.symm HS.out.2.symm,(xr.alloc _).trans E1⟩
 · have hgI:¬ (hi:Int)≥(n:Int):=J2
   have hgd:decide ((hi:Int)≥(n:Int)) = false:=by simpa using hgI
   have cD:=fun W=>div64_any hi lo n J2 hl J2 W
   rw [e3] at cD
   have hq:X / n < 18446744073709551616:=by
     rw [Nat.div_lt_iff_lt_mul hn]
     calc X < (hi+1) * 18446744073709551616:=by omega
       _≤n * 18446744073709551616:=Nat.mul_le_mul_right _ J2
       _ = 18446744073709551616 * n:=Nat.mul_comm _ _
   have hr:=Nat.mod_lt X hn
   have hnear:nearQ X n = X / n+(if n≤2 * (X % n) then 1 else 0):=rfl
   obtain ⟨q,hqq⟩:∃ q,X / n = q:=⟨_,rfl⟩
   obtain ⟨r,hrr⟩:∃ r,X % n = r:=⟨_,rfl⟩
   obtain ⟨N,hNN⟩:∃ N,nearQ X n = N:=⟨_,rfl⟩
   rw [hqq] at cD hq hnear
   rw [hrr] at cD hr hnear
   rw [hNN] at hnear ⊢
   clear hqq hrr hNN e3 hX hl hh hg
   by_cases hb:9223372036854775807 < q
   · have HS:Hid (sgnV false N = 0∧sgnB N = false):=⟨sgnV_no _ J2,sgnB_no J2⟩
     have hbd:decide ((q:Int) > 9223372036854775807) = true:=J6
     have hbI:(q:Int) > 9223372036854775807:=J2
     clear hnear hb hq
     exact K47
   have hbd:decide ((q:Int) > 9223372036854775807) = false:=J6
   have hbI:¬ (q:Int) > 9223372036854775807:=J2
   have w1:IntKind.u64.wrap ((n:Int) - (r:Int)) = (n:Int) - r:=J67
   have w2:IntKind.u64.wrap ((q:Int)+1) = (q:Int)+1:=J67
   have w3:wrap64 ((q:Int)+1) = (q:Int)+1∨q = 9223372036854775807:=J72
   have w4:wrap64 (q:Int) = (q:Int):=J72
   by_cases hc:n≤2 * r
   · rw [if_pos hc] at hnear
     have hcd:decide ((r:Int)≥(n:Int) - (r:Int)) = true:=J6
     have hcI:(r:Int)≥(n:Int) - (r:Int):=J2
     by_cases hm:q = 9223372036854775807
     · have HS:Hid (sgnV false N = 0∧sgnB N = false):=⟨sgnV_no _ J2,sgnB_no J2⟩
       subst hm
       clear hnear hb hq hc w3 w2 w4 hbd hbI
       have w5:IntKind.u64.wrap (((9223372036854775807:Nat):Int)+1) = 9223372036854775808:=J9
       exact K47
     · have HS:Hid (sgnV false N = (q:Int)+1∧sgnB N = true):=⟨by rw [sgnV_yes false J2,hnear];simp,sgnB_yes J2⟩
       have w3':=w3.resolve_right hm
       have hb2:decide ((q:Int)+1 > 9223372036854775807) = false:=J6
       have hb3:¬ (q:Int)+1 > 9223372036854775807:=J2
       obtain ⟨q1,hq1⟩:∃ q1:Int,(q:Int)+1 = q1:=⟨_,rfl⟩
       rw [hq1] at w2 w3' hb2 hb3 HS
       have w6:IntKind.u64.wrap ((q:Int)+1) = q1:=by rw [hq1];exact w2
       have WQ:Hid (wrap64 q1 = q1):=w3'
       clear hnear hb hq hc w3 hm w4 w2 hq1 w3'
       go_enter func266,ntmps266
       go_wp2_with fail
       refine (cS _).mono ?_
       rintro e w1 ⟨rfl,E1⟩
       go_wp2_with fail
       refine (cD _).mono ?_
       rintro e w2 ⟨rfl,E2⟩
       go_wp2_with fail
       go_ret2
       exact ⟨ret_ib (by first | exact HS.out.1.symm | exact WQ.out.trans HS.out.1.symm) HS.out.2.symm,((xr.alloc _).trans E1).trans E2⟩
   · rw [if_neg hc] at hnear
     have hcd:decide ((r:Int)≥(n:Int) - (r:Int)) = false:=J6
     have hcI:¬ (r:Int)≥(n:Int) - (r:Int):=J2
     have HS:Hid (sgnV false N = (q:Int)∧sgnB N = true):=⟨by rw [sgnV_yes false J2,hnear];simp,sgnB_yes J2⟩
     clear hnear hb hq hc w3 w2
     exact K47
theorem sgnV_neg (N:Nat):sgnV true N = -sgnV false N:=by unfold sgnV;split <;> simp
theorem sgnV_bd (N:Nat):0≤sgnV false N∧sgnV false N≤9223372036854775807:=by
 unfold sgnV
 split
 · rename_i h
   unfold sgnB at h
   simp at h ⊢
   omega
 · omega
theorem sgnV_no0 {N:Nat} (h:sgnB N = false) (b:Bool):sgnV b N = 0:=by unfold sgnV;rw [h];rfl
theorem mean_pos (x:Int) (hx:I128 x) (n:Nat) (hn:0 < n) (hn':n≤9223372036854775807) (W:World):Calls Tryz.prog 233 #[.agg #[.int .i64 (hiOf x),.int .u64 (loOf x)],.int .i64 (n:Int)] W fun e w' =>
   e = .returned (.tuple #[.int .i64 (sgnV (decide (x < 0)) (nearQ x.natAbs n)),.bool (sgnB (nearQ x.natAbs n))])∧Ext W w':=by
 have cQ:=fun W=>quotient_any x hx n hn hn' W
 have HN:=hi_neg x hx
 have d1:decide ((n:Int) < 1) = false:=J6
 have d2:¬ (n:Int) < 1:=J2
 have wn:IntKind.u64.wrap (n:Int) = (n:Int):=J67
 obtain ⟨N,hN⟩:∃ N,nearQ x.natAbs n = N:=⟨_,rfl⟩
 rw [hN] at cQ ⊢
 have bd:=sgnV_bd N
 have hi0:∃ z:Int,hiOf x = z:=⟨_,rfl⟩
 obtain ⟨a0,ha0⟩:=hi0
 obtain ⟨a1,ha1⟩:∃ z:Int,loOf x = z:=⟨_,rfl⟩
 rw [ha0,ha1] at cQ
 rw [ha0] at HN
 rw [ha0,ha1]
 cases hb:sgnB N
 · rw [sgnV_no0 hb] at cQ ⊢
   rw [hb] at cQ
   clear HN hN bd hb ha0 ha1 hn hn'
   go_enter func233,ntmps233
   go_wp2_with fail
   refine (cQ _).mono ?_
   rintro e w1 ⟨rfl,E1⟩
   go_wp2_with fail
   go_ret2
   exact ⟨rfl,(xr.alloc _).trans E1⟩
 · rw [hb] at cQ
   by_cases hs:x < 0
   · have hd:decide (a0 < 0) = true:=J107
     have hd':a0 < 0:=by simpa using hd
     have e:decide (x < 0) = true:=by simpa using hs
     rw [e,sgnV_neg]
     generalize sgnV false N = y at *
     have wy:wrap64 (-y) = -y:=J72
     clear HN hN hb ha0 ha1 hn hn' e hs
     exact K90
   · have hd:decide (a0 < 0) = false:=J107
     have hd':¬ a0 < 0:=by simpa using hd
     have e:decide (x < 0) = false:=by simpa using hs
     rw [e]
     generalize sgnV false N = y at *
     clear HN hN hb ha0 ha1 hn hn' e hs bd
     exact K90
theorem mean_no {x n:Int} (h:¬ 1≤n):meanB x n = false∧meanV x n = 0:=by
 have:meanB x n = false:=by unfold meanB;simp;omega
 exact ⟨this,by unfold meanV;rw [this];rfl⟩
theorem fmean_any (x:Int) (hx:I128 x) (n:Int) (hn:I64 n) (W:World):Calls Tryz.prog 233 #[.agg #[.int .i64 (hiOf x),.int .u64 (loOf x)],.int .i64 n] W fun e w' =>
   e = .returned (.tuple #[.int .i64 (meanV x n),.bool (meanB x n)])∧Ext W w':=by
 obtain ⟨h1,h2⟩:=hn
 by_cases h:1≤n
 · obtain ⟨d,rfl⟩:=Int.eq_ofNat_of_zero_le (show 0≤n by omega)
   rw [meanB_near x d J2,meanV_near x d J2]
   exact mean_pos x hx d J2 J2 W
 · have d1:decide (n < 1) = true:=J6
   have d2:n < 1:=J2
   rw [(mean_no h).1,(mean_no h).2]
   generalize hiOf x = a0
   generalize loOf x = a1
   clear h
   go_enter func233,ntmps233
   go_wp2_with fail
   go_ret2
   exact ⟨rfl,xr.alloc _⟩
theorem RdA.to {B:Nat} {W W':World} {v:Value} {l:List Ag} (h:RdA B W v l) (hB:B≤W.heap.size) (e:Ext W W'):RdA W'.heap.size W' v l:=((h.up hB).low e).up e.size
theorem RdV.to {B:Nat} {W W':World} {v:Value} {l:List Rw} (h:RdV B W v l) (hB:B≤W.heap.size) (e:Ext W W'):RdV W'.heap.size W' v l:=((h.up hB).low e).up e.size
structure Fit (W:World) (v:Value) (gs:List Ag):Prop where
 rd:RdA W.heap.size W v gs
 i:AgI gs
 s:(seen gs).length≤10000000000
 l:gs.length≤10000000000
theorem Fit.ext {W W':World} {v:Value} {gs:List Ag} (h:Fit W v gs) (e:Ext W W'):Fit W' v gs:=⟨h.rd.to nrf e,h.i,h.s,h.l⟩
theorem ftold_any (n:Int) (b:Bool) (W:World) (hN:Nm W):Calls Tryz.prog 229 #[.int .i64 n,.bool b] W fun e w'=>e = .returned (toldR b n).dat∧Ext W w':=by
 have c1:=fun W h=>vnum_any n W h
 have c2:=fun W h=>err_any 4 W h
 rw [mkErr_is ⟨by decide,by decide⟩] at c2
 cases b with
 | false =>
   have H:Hid (toldR false n = .err 4):=rfl
   simp only [V.dat] at c2
   clear c1
   go_enter func229,ntmps229
   go_wp2_with fail
   refine (c2 _ (hN.ext (xr.alloc _))).mono ?_
   rintro e w1 ⟨rfl,E1⟩
   obtain ⟨z,⟨k0,k1,k2,k3⟩,f0,f1,f2,f3⟩:=blk_top (b:=W.heap.size) J65 E1
   go_wp2_with fail
   exact fin4 k0 k1 k2 k3 rfl J65 ((xr.alloc _).trans E1) (fun W g0 g1 g2 g3=>by simp [results,results229,go_sem,g0,g1,g2,g3]) (fun W h=>⟨by rw [H.out];rfl,h⟩)
 | true =>
   have H:Hid (toldR true n = mkNum n):=rfl
   obtain ⟨q0,q1,q2,q3,hq⟩:=dat4 (mkNum n)
   rw [hq] at c1
   have HQ:Hid ((mkNum n).dat = .agg #[.int .i64 q0,.int .i64 q1,.string q2,.int .i64 q3]):=hq
   clear c2 hq
   go_enter func229,ntmps229
   go_wp2_with fail
   refine (c1 _ (hN.ext (xr.alloc _))).mono ?_
   rintro e w1 ⟨rfl,E1⟩
   obtain ⟨z,⟨k0,k1,k2,k3⟩,f0,f1,f2,f3⟩:=blk_top (b:=W.heap.size) J65 E1
   go_wp2_with fail
   exact fin4 k0 k1 k2 k3 rfl J65 ((xr.alloc _).trans E1) (fun W g0 g1 g2 g3=>by simp [results,results229,go_sem,g0,g1,g2,g3]) (fun W h=>⟨by rw [H.out,HQ.out],h⟩)
theorem sum_bd {l:List V} (h:AllN l) (hl:l.length≤20000000000):I128 (sumN l):=by
 have hb:∀ v ∈ l,-9223372036854775808≤v.n∧v.n≤9223372036854775807:=fun v hv=>by
   obtain ⟨n,rfl,h1,_⟩:=h v hv
   exact h1
 have h1:=sum_le (c:=9223372036854775807) (fun v hv=>(hb v hv).2)
 have h2:=le_sum (c:=-9223372036854775808) (fun v hv=>(hb v hv).1)
 exact K141
theorem Fit.sum {W:World} {v:Value} {gs:List Ag} (h:Fit W v gs):I128 (sumN (got numF (seen gs))):=sum_bd (got_nums _ (seen_ok gs h.i)) (Nat.le_trans (got_len _ _) (Nat.le_trans h.s J9))
theorem Fit.num {W:World} {v:Value} {gs:List Ag} (h:Fit W v gs):(got numF (seen gs)).length≤10000000000:=Nat.le_trans (got_len _ _) h.s
theorem fsum_any (gs:List Ag) (W:World) (p:Option Addr) (n c:Nat) (hF:Fit W (.slice p n c) gs) (hN:Nm W) :
   Calls Tryz.prog 179 #[.slice p n c] W fun e w'=>e = .returned (fSum gs).dat∧Ext W w':=by
 have HF:Hid (Fit W (.slice p n c) gs∧Nm W):=⟨hF,hN⟩
 have HS:Hid (fSum gs = if (bad numF (seen gs)).k = 4 then bad numF (seen gs) else toldR (toldB (sumN (got numF (seen gs)))) (toldV (sumN (got numF (seen gs))))):=rfl
 have CT:Hid (∀ V,Ext W V→Calls Tryz.prog 228 #[.slice p n c] V fun e w'=>e = .returned (.tuple #[.agg #[.int .i64 (hiOf (sumN (got numF (seen gs)))),.int .u64 (loOf (sumN (got numF (seen gs))))],.int .i64 ((got numF (seen gs)).length:Int),(bad numF (seen gs)).dat])∧Ext V w'):=fun V e =>
   have f:=hF.ext e
   total_any V gs p n c f.rd f.i f.s f.l (hN.ext e)
 have cTo:=fun W=>told_acc (sumN (got numF (seen gs))) W
 have cR:=fun W h=>ftold_any (toldV (sumN (got numF (seen gs)))) (toldB (sumN (got numF (seen gs)))) W h
 clear hF hN
 rw [dat_eq (bad numF (seen gs))] at CT
 obtain ⟨q0,q1,q2,q3,hq⟩:=dat4 (toldR (toldB (sumN (got numF (seen gs)))) (toldV (sumN (got numF (seen gs)))))
 rw [hq] at cR
 have HQ:Hid ((toldR (toldB (sumN (got numF (seen gs)))) (toldV (sumN (got numF (seen gs))))).dat = .agg #[.int .i64 q0,.int .i64 q1,.string q2,.int .i64 q3]):=hq
 clear hq
 generalize sumN (got numF (seen gs)) = S at *
 generalize hiOf S = S0 at *
 generalize loOf S = S1 at *
 generalize toldV S = tv at *
 generalize toldB S = tb at *
 generalize ((got numF (seen gs)).length:Int) = C0 at *
 have HB:Hid ((bad numF (seen gs)).dat = .agg #[.int .i64 (bad numF (seen gs)).k,.int .i64 (bad numF (seen gs)).n,.string (bad numF (seen gs)).s,.int .i64 (bad numF (seen gs)).e]):=dat_eq _
 generalize bad numF (seen gs) = z at *
 obtain ⟨zk,hzk⟩:∃ r,z.k = r:=⟨_,rfl⟩
 obtain ⟨zn,hzn⟩:∃ r,z.n = r:=⟨_,rfl⟩
 obtain ⟨zs',hzs⟩:∃ r,z.s = r:=⟨_,rfl⟩
 obtain ⟨ze,hze⟩:∃ r,z.e = r:=⟨_,rfl⟩
 rw [hzk,hzn,hzs,hze] at CT HB
 rw [hzk] at HS
 clear hzk hzn hzs hze
 by_cases h4:zk = 4
 · have e4:(zk == 4) = true:=J104
   have HZ:Hid (fSum gs = z):=J108
   clear h4 HS cTo cR
   go_enter func179,ntmps179
   go_wp2_with fail
   refine (CT.out _ (xr.alloc _)).mono ?_
   rintro e w1 ⟨rfl,E1⟩
   have X1:Hid (Ext W w1):=(xr.alloc _).trans E1
   have HB1:Hid (Blk w1 W.heap.size (.int .i64 0) (.int .i64 0) (.string ⟨#[]⟩) (.int .i64 0)):=blk_top J65 E1
   obtain ⟨c0z,⟨c0_0,c0_1,c0_2,c0_3⟩,c0f0,c0f1,c0f2,c0f3⟩:=HB1.out
   clear E1
   go_wp2_with fail
   exact finB (((HB1.out.set _ _ _ _).al _).al _) rfl J7 (fun g0 g1 g2 g3=>by simp [results,results179,go_sem,g0,g1,g2,g3]) (fun h=>⟨by rw [HZ.out,HB.out],h⟩)
 · have e4:(zk == 4) = false:=J104
   have HZ:Hid (fSum gs = toldR tb tv):=by show _ = _;rw [HS.out,if_neg h4]
   clear h4 HS
   go_enter func179,ntmps179
   go_wp2_with fail
   refine (CT.out _ (xr.alloc _)).mono ?_
   rintro e w1 ⟨rfl,E1⟩
   have X1:Hid (Ext W w1):=(xr.alloc _).trans E1
   have HB1:Hid (Blk w1 W.heap.size (.int .i64 0) (.int .i64 0) (.string ⟨#[]⟩) (.int .i64 0)):=blk_top J65 E1
   obtain ⟨c0z,⟨c0_0,c0_1,c0_2,c0_3⟩,c0f0,c0f1,c0f2,c0f3⟩:=HB1.out
   clear E1
   go_wp2_with fail
   refine (cTo _).mono ?_
   rintro e w2 ⟨rfl,E2⟩
   have X2:Hid (Ext W w2):=Ext.trans J7 E2
   have HB2:Hid (Blk w2 W.heap.size (.int .i64 0) (.int .i64 0) (.string ⟨#[]⟩) (.int .i64 0)):=((HB1.out.al _).al _).ext E2
   clear c0z c0_0 c0_1 c0_2 c0_3 c0f0 c0f1 c0f2 c0f3 E2
   obtain ⟨c0z,⟨c0_0,c0_1,c0_2,c0_3⟩,c0f0,c0f1,c0f2,c0f3⟩:=HB2.out
   go_wp2_with fail
   refine (cR _ (HF.out.2.ext (by with_reducible repeat (first | exact X2.out | apply Ext.alloc)))).mono ?_
   rintro e w3 ⟨rfl,E3⟩
   have X3:Hid (Ext W w3):=Ext.trans J18 E3
   have HB3:Hid (Blk w3 W.heap.size (.int .i64 0) (.int .i64 0) (.string ⟨#[]⟩) (.int .i64 0)):=(HB2.out).ext E3
   clear c0z c0_0 c0_1 c0_2 c0_3 c0f0 c0f1 c0f2 c0f3 E3
   obtain ⟨c0z,⟨c0_0,c0_1,c0_2,c0_3⟩,c0f0,c0f1,c0f2,c0f3⟩:=HB3.out
   go_wp2_with fail
   exact finB (HB3.out.set _ _ _ _) rfl (by with_reducible repeat (first | exact X3.out | exact xr | apply Ext.alloc | apply Ext.drewN | (refine Ext.setCell ?_ J65 _))) (fun g0 g1 g2 g3=>by simp [results,results179,go_sem,g0,g1,g2,g3]) (fun h=>⟨by rw [HZ.out,HQ.out],h⟩)
theorem fcount_any (gs:List Ag) (W:World) (p:Option Addr) (n c:Nat) (hF:Fit W (.slice p n c) gs) (hN:Nm W) :
   Calls Tryz.prog 180 #[.slice p n c] W fun e w'=>e = .returned (fCount gs).dat∧Ext W w':=by
 have HF:Hid (Fit W (.slice p n c) gs∧Nm W):=⟨hF,hN⟩
 have HS:Hid (fCount gs = mkNum (((got numF (seen gs)).length:Int) * 10000)):=rfl
 have CT:Hid (∀ V,Ext W V→Calls Tryz.prog 228 #[.slice p n c] V fun e w'=>e = .returned (.tuple #[.agg #[.int .i64 (hiOf (sumN (got numF (seen gs)))),.int .u64 (loOf (sumN (got numF (seen gs))))],.int .i64 ((got numF (seen gs)).length:Int),(bad numF (seen gs)).dat])∧Ext V w'):=fun V e =>
   have f:=hF.ext e
   total_any V gs p n c f.rd f.i f.s f.l (hN.ext e)
 have cR:=fun W h=>vnum_any (((got numF (seen gs)).length:Int) * 10000) W h
 obtain ⟨q0,q1,q2,q3,hq⟩:=dat4 (mkNum (((got numF (seen gs)).length:Int) * 10000))
 rw [hq] at cR
 have HQ:Hid ((mkNum (((got numF (seen gs)).length:Int) * 10000)).dat = .agg #[.int .i64 q0,.int .i64 q1,.string q2,.int .i64 q3]):=hq
 have hm:=hF.num
 have wm:wrap64 (((got numF (seen gs)).length:Int) * 10000) = ((got numF (seen gs)).length:Int) * 10000:=J72
 clear hF hN hq hm
 rw [dat_eq (bad numF (seen gs))] at CT
 generalize sumN (got numF (seen gs)) = S at *
 generalize hiOf S = S0 at *
 generalize loOf S = S1 at *
 generalize (got numF (seen gs)).length = C0 at *
 obtain ⟨C1,hC1⟩:∃ r:Int,(C0:Int) * 10000 = r:=⟨_,rfl⟩
 rw [hC1] at cR HQ HS
 have wm2:wrap64 ((C0:Int) * 10000) = C1:=by rw [wm,hC1]
 clear wm hC1
 generalize bad numF (seen gs) = z at *
 generalize z.k = zk at *
 generalize z.n = zn at *
 generalize z.s = zs' at *
 generalize z.e = ze at *
 go_enter func180,ntmps180
 go_wp2_with fail
 refine (CT.out _ (xr.alloc _)).mono ?_
 rintro e w1 ⟨rfl,E1⟩
 have X1:Hid (Ext W w1):=(xr.alloc _).trans E1
 have HB1:Hid (Blk w1 W.heap.size (.int .i64 0) (.int .i64 0) (.string ⟨#[]⟩) (.int .i64 0)):=blk_top J65 E1
 obtain ⟨c0z,⟨c0_0,c0_1,c0_2,c0_3⟩,c0f0,c0f1,c0f2,c0f3⟩:=HB1.out
 clear E1
 go_wp2_with fail
 refine (cR _ (HF.out.2.ext J33)).mono ?_
 rintro e w2 ⟨rfl,E2⟩
 have X2:Hid (Ext W w2):=Ext.trans J7 E2
 have HB2:Hid (Blk w2 W.heap.size (.int .i64 0) (.int .i64 0) (.string ⟨#[]⟩) (.int .i64 0)):=((HB1.out.al _).al _).ext E2
 clear c0z c0_0 c0_1 c0_2 c0_3 c0f0 c0f1 c0f2 c0f3 E2
 obtain ⟨c0z,⟨c0_0,c0_1,c0_2,c0_3⟩,c0f0,c0f1,c0f2,c0f3⟩:=HB2.out
 go_wp2_with fail
 exact finB (HB2.out.set _ _ _ _) rfl J18 (fun g0 g1 g2 g3=>by simp [results,results180,go_sem,g0,g1,g2,g3]) (fun h=>⟨by rw [HS.out,HQ.out],h⟩)
theorem favg_any (gs:List Ag) (W:World) (p:Option Addr) (n c:Nat) (hF:Fit W (.slice p n c) gs) (hN:Nm W) :
   Calls Tryz.prog 183 #[.slice p n c] W fun e w'=>e = .returned (fMean gs).dat∧Ext W w':=by
 have HF:Hid (Fit W (.slice p n c) gs∧Nm W):=⟨hF,hN⟩
 have HS:Hid (fMean gs = if (bad numF (seen gs)).k = 4 then bad numF (seen gs) else if (got numF (seen gs)).length = 0 then .err 3 else toldR (meanB (sumN (got numF (seen gs))) (got numF (seen gs)).length) (meanV (sumN (got numF (seen gs))) (got numF (seen gs)).length)):=rfl
 have CT:Hid (∀ V,Ext W V→Calls Tryz.prog 228 #[.slice p n c] V fun e w'=>e = .returned (.tuple #[.agg #[.int .i64 (hiOf (sumN (got numF (seen gs)))),.int .u64 (loOf (sumN (got numF (seen gs))))],.int .i64 ((got numF (seen gs)).length:Int),(bad numF (seen gs)).dat])∧Ext V w'):=fun V e =>
   have f:=hF.ext e
   total_any V gs p n c f.rd f.i f.s f.l (hN.ext e)
 have hm:=hF.num
 have cTo:=fun W=>fmean_any (sumN (got numF (seen gs))) hF.sum ((got numF (seen gs)).length:Int) ⟨by omega,by omega⟩ W
 have cE:=fun W h=>err_any 3 W h
 rw [mkErr_is ⟨by decide,by decide⟩] at cE
 simp only [V.dat] at cE
 have cR:=fun W h=>ftold_any (meanV (sumN (got numF (seen gs))) (got numF (seen gs)).length) (meanB (sumN (got numF (seen gs))) (got numF (seen gs)).length) W h
 clear hF hN hm
 rw [dat_eq (bad numF (seen gs))] at CT
 obtain ⟨q0,q1,q2,q3,hq⟩:=dat4 (toldR (meanB (sumN (got numF (seen gs))) (got numF (seen gs)).length) (meanV (sumN (got numF (seen gs))) (got numF (seen gs)).length))
 rw [hq] at cR
 have HQ:Hid ((toldR (meanB (sumN (got numF (seen gs))) (got numF (seen gs)).length) (meanV (sumN (got numF (seen gs))) (got numF (seen gs)).length)).dat = .agg #[.int .i64 q0,.int .i64 q1,.string q2,.int .i64 q3]):=hq
 clear hq
 generalize sumN (got numF (seen gs)) = S at *
 generalize hiOf S = S0 at *
 generalize loOf S = S1 at *
 generalize (got numF (seen gs)).length = C0 at *
 generalize meanV S (C0:Int) = tv at *
 generalize meanB S (C0:Int) = tb at *
 have HB:Hid ((bad numF (seen gs)).dat = .agg #[.int .i64 (bad numF (seen gs)).k,.int .i64 (bad numF (seen gs)).n,.string (bad numF (seen gs)).s,.int .i64 (bad numF (seen gs)).e]):=dat_eq _
 generalize bad numF (seen gs) = z at *
 obtain ⟨zk,hzk⟩:∃ r,z.k = r:=⟨_,rfl⟩
 obtain ⟨zn,hzn⟩:∃ r,z.n = r:=⟨_,rfl⟩
 obtain ⟨zs',hzs⟩:∃ r,z.s = r:=⟨_,rfl⟩
 obtain ⟨ze,hze⟩:∃ r,z.e = r:=⟨_,rfl⟩
 rw [hzk,hzn,hzs,hze] at CT HB
 rw [hzk] at HS
 clear hzk hzn hzs hze
 by_cases h4:zk = 4
 · have e4:(zk == 4) = true:=J104
   have HZ:Hid (fMean gs = z):=J108
   clear h4 HS cTo cR cE
   go_enter func183,ntmps183
   go_wp2_with fail
   refine (CT.out _ (xr.alloc _)).mono ?_
   rintro e w1 ⟨rfl,E1⟩
   have X1:Hid (Ext W w1):=(xr.alloc _).trans E1
   have HB1:Hid (Blk w1 W.heap.size (.int .i64 0) (.int .i64 0) (.string ⟨#[]⟩) (.int .i64 0)):=blk_top J65 E1
   obtain ⟨c0z,⟨c0_0,c0_1,c0_2,c0_3⟩,c0f0,c0f1,c0f2,c0f3⟩:=HB1.out
   clear E1
   go_wp2_with fail
   exact finB (((HB1.out.set _ _ _ _).al _).al _) rfl J7 J41 (fun h=>⟨by rw [HZ.out,HB.out],h⟩)
 have e4:(zk == 4) = false:=J104
 rw [if_neg h4] at HS
 clear h4
 by_cases hc:C0 = 0
 · have ec:((C0:Int) == 0) = true:=J6
   have HZ:Hid (fMean gs = .err 3):=by show _ = _;rw [HS.out,if_pos hc]
   clear hc HS cTo cR
   go_enter func183,ntmps183
   go_wp2_with fail
   refine (CT.out _ (xr.alloc _)).mono ?_
   rintro e w1 ⟨rfl,E1⟩
   have X1:Hid (Ext W w1):=(xr.alloc _).trans E1
   have HB1:Hid (Blk w1 W.heap.size (.int .i64 0) (.int .i64 0) (.string ⟨#[]⟩) (.int .i64 0)):=blk_top J65 E1
   obtain ⟨c0z,⟨c0_0,c0_1,c0_2,c0_3⟩,c0f0,c0f1,c0f2,c0f3⟩:=HB1.out
   clear E1
   go_wp2_with fail
   refine (cE _ (HF.out.2.ext J33)).mono ?_
   rintro e w2 ⟨rfl,E2⟩
   have X2:Hid (Ext W w2):=Ext.trans J7 E2
   have HB2:Hid (Blk w2 W.heap.size (.int .i64 0) (.int .i64 0) (.string ⟨#[]⟩) (.int .i64 0)):=((HB1.out.al _).al _).ext E2
   clear c0z c0_0 c0_1 c0_2 c0_3 c0f0 c0f1 c0f2 c0f3 E2
   obtain ⟨c0z,⟨c0_0,c0_1,c0_2,c0_3⟩,c0f0,c0f1,c0f2,c0f3⟩:=HB2.out
   go_wp2_with fail
   exact finB (HB2.out.set _ _ _ _) rfl J18 J41 (fun h=>⟨by rw [HZ.out];rfl,h⟩)
 · have ec:((C0:Int) == 0) = false:=J6
   have HZ:Hid (fMean gs = toldR tb tv):=by show _ = _;rw [HS.out,if_neg hc]
   clear hc HS cE
   go_enter func183,ntmps183
   go_wp2_with fail
   refine (CT.out _ (xr.alloc _)).mono ?_
   rintro e w1 ⟨rfl,E1⟩
   have X1:Hid (Ext W w1):=(xr.alloc _).trans E1
   have HB1:Hid (Blk w1 W.heap.size (.int .i64 0) (.int .i64 0) (.string ⟨#[]⟩) (.int .i64 0)):=blk_top J65 E1
   obtain ⟨c0z,⟨c0_0,c0_1,c0_2,c0_3⟩,c0f0,c0f1,c0f2,c0f3⟩:=HB1.out
   clear E1
   go_wp2_with fail
   refine (cTo _).mono ?_
   rintro e w2 ⟨rfl,E2⟩
   have X2:Hid (Ext W w2):=Ext.trans J7 E2
   have HB2:Hid (Blk w2 W.heap.size (.int .i64 0) (.int .i64 0) (.string ⟨#[]⟩) (.int .i64 0)):=((HB1.out.al _).al _).ext E2
   clear c0z c0_0 c0_1 c0_2 c0_3 c0f0 c0f1 c0f2 c0f3 E2
   obtain ⟨c0z,⟨c0_0,c0_1,c0_2,c0_3⟩,c0f0,c0f1,c0f2,c0f3⟩:=HB2.out
   go_wp2_with fail
   refine (cR _ (HF.out.2.ext (by with_reducible repeat (first | exact X2.out | apply Ext.alloc)))).mono ?_
   rintro e w3 ⟨rfl,E3⟩
   have X3:Hid (Ext W w3):=Ext.trans J18 E3
   have HB3:Hid (Blk w3 W.heap.size (.int .i64 0) (.int .i64 0) (.string ⟨#[]⟩) (.int .i64 0)):=(HB2.out).ext E3
   clear c0z c0_0 c0_1 c0_2 c0_3 c0f0 c0f1 c0f2 c0f3 E3
   obtain ⟨c0z,⟨c0_0,c0_1,c0_2,c0_3⟩,c0f0,c0f1,c0f2,c0f3⟩:=HB3.out
   go_wp2_with fail
   exact finB (HB3.out.set _ _ _ _) rfl (by with_reducible repeat (first | exact X3.out | exact xr | apply Ext.alloc | apply Ext.drewN | (refine Ext.setCell ?_ J65 _))) J41 (fun h=>⟨by rw [HZ.out,HQ.out],h⟩)
theorem fmin_any (gs:List Ag) (W:World) (p:Option Addr) (n c:Nat) (hF:Fit W (.slice p n c) gs) (hN:Nm W) :
   Calls Tryz.prog 181 #[.slice p n c] W fun e w'=>e = .returned (fBest ltB gs).dat∧Ext W w':=by
 have HF:Hid (Fit W (.slice p n c) gs∧Nm W):=⟨hF,hN⟩
 have CT:Hid (∀ V,Ext W V→Calls Tryz.prog 230 #[.slice p n c,.func (.func 231) #[] #[]] V fun e w'=>e = .returned (fBest ltB gs).dat∧Ext V w'):=fun V e =>
   have f:=hF.ext e
   utmost_any ltB _ ah_min V gs p n c f.rd f.i f.s f.l (hN.ext e)
 clear hF hN
 obtain ⟨q0,q1,q2,q3,hq⟩:=dat4 (fBest ltB gs)
 rw [hq] at CT
 have HQ:Hid ((fBest ltB gs).dat = .agg #[.int .i64 q0,.int .i64 q1,.string q2,.int .i64 q3]):=hq
 clear hq
 go_enter func181,ntmps181
 go_wp2_with fail
 refine (CT.out _ (xr.alloc _)).mono ?_
 rintro e w1 ⟨rfl,E1⟩
 have X1:Hid (Ext W w1):=(xr.alloc _).trans E1
 have HB1:Hid (Blk w1 W.heap.size (.int .i64 0) (.int .i64 0) (.string ⟨#[]⟩) (.int .i64 0)):=blk_top J65 E1
 obtain ⟨c0z,⟨c0_0,c0_1,c0_2,c0_3⟩,c0f0,c0f1,c0f2,c0f3⟩:=HB1.out
 clear E1
 go_wp2_with fail
 exact finB (HB1.out.set _ _ _ _) rfl J7 (fun g0 g1 g2 g3=>by simp [results,results181,go_sem,g0,g1,g2,g3]) (fun h=>⟨by rw [HQ.out],h⟩)
theorem fmax_any (gs:List Ag) (W:World) (p:Option Addr) (n c:Nat) (hF:Fit W (.slice p n c) gs) (hN:Nm W) :
   Calls Tryz.prog 182 #[.slice p n c] W fun e w'=>e = .returned (fBest gtB gs).dat∧Ext W w':=by
 have HF:Hid (Fit W (.slice p n c) gs∧Nm W):=⟨hF,hN⟩
 have CT:Hid (∀ V,Ext W V→Calls Tryz.prog 230 #[.slice p n c,.func (.func 232) #[] #[]] V fun e w'=>e = .returned (fBest gtB gs).dat∧Ext V w'):=fun V e =>
   have f:=hF.ext e
   utmost_any gtB _ ah_max V gs p n c f.rd f.i f.s f.l (hN.ext e)
 clear hF hN
 obtain ⟨q0,q1,q2,q3,hq⟩:=dat4 (fBest gtB gs)
 rw [hq] at CT
 have HQ:Hid ((fBest gtB gs).dat = .agg #[.int .i64 q0,.int .i64 q1,.string q2,.int .i64 q3]):=hq
 clear hq
 go_enter func182,ntmps182
 go_wp2_with fail
 refine (CT.out _ (xr.alloc _)).mono ?_
 rintro e w1 ⟨rfl,E1⟩
 have X1:Hid (Ext W w1):=(xr.alloc _).trans E1
 have HB1:Hid (Blk w1 W.heap.size (.int .i64 0) (.int .i64 0) (.string ⟨#[]⟩) (.int .i64 0)):=blk_top J65 E1
 obtain ⟨c0z,⟨c0_0,c0_1,c0_2,c0_3⟩,c0f0,c0f1,c0f2,c0f3⟩:=HB1.out
 clear E1
 go_wp2_with fail
 exact finB (HB1.out.set _ _ _ _) rfl J7 (fun g0 g1 g2 g3=>by simp [results,results182,go_sem,g0,g1,g2,g3]) (fun h=>⟨by rw [HQ.out],h⟩)
theorem truthOf_any (b:Bool) (m:Nat) (z:V) (W:World) (hN:Nm W):Calls Tryz.prog 235 #[.bool b,.int .i64 (m:Int),z.dat] W fun e w'=>e = .returned (orBad z (if m = 0 then .err 2 else .tf b)).dat∧Ext W w':=by
 have cE:=fun W h=>err_any 2 W h
 rw [mkErr_is ⟨by decide,by decide⟩] at cE
 have cB:=fun W=>vbool_any b W
 obtain ⟨q0,q1,q2,q3,hq⟩:=dat4 (V.tf b)
 rw [hq] at cB
 have HQ:Hid ((V.tf b).dat = .agg #[.int .i64 q0,.int .i64 q1,.string q2,.int .i64 q3]):=hq
 simp only [V.dat] at cE
 have HB:Hid (z.dat = .agg #[.int .i64 z.k,.int .i64 z.n,.string z.s,.int .i64 z.e]):=dat_eq _
 rw [dat_eq z]
 have HS:Hid (orBad z (if m = 0 then .err 2 else .tf b) = if z.k = 4 then z else (if m = 0 then .err 2 else .tf b)):=rfl
 obtain ⟨R,hR⟩:∃ R,orBad z (if m = 0 then .err 2 else .tf b) = R:=⟨_,rfl⟩
 rw [hR] at HS ⊢
 clear hq hR
 obtain ⟨zk,hzk⟩:∃ r,z.k = r:=⟨_,rfl⟩
 obtain ⟨zn,hzn⟩:∃ r,z.n = r:=⟨_,rfl⟩
 obtain ⟨zs',hzs⟩:∃ r,z.s = r:=⟨_,rfl⟩
 obtain ⟨ze,hze⟩:∃ r,z.e = r:=⟨_,rfl⟩
 rw [hzk,hzn,hzs,hze] at HB ⊢
 rw [hzk] at HS
 clear hzk hzn hzs hze
 have X0:Hid (∀ o o',Ext W ((W.alloc o).alloc o')):=fun o o'=>(xr.alloc _).alloc _
 by_cases h4:zk = 4
 · have e4:(zk == 4) = true:=J104
   have HZ:Hid (R = z):=J108
   clear h4 HS cB cE
   go_enter func235,ntmps235
   go_wp2_with fail
   simp [bodyPost,results,results235,go_sem]
   exact ⟨by rw [HZ.out,HB.out],X0.out _ _⟩
 have e4:(zk == 4) = false:=J104
 rw [if_neg h4] at HS
 clear h4
 by_cases hc:m = 0
 · have ec:((m:Int) == 0) = true:=J6
   have HZ:Hid (R = .err 2):=by show _ = _;rw [HS.out,if_pos hc]
   clear hc HS cB
   go_enter func235,ntmps235
   go_wp2_with fail
   refine (cE _ (hN.ext (X0.out _ _))).mono ?_
   rintro e w1 ⟨rfl,E1⟩
   obtain ⟨z1,⟨k0,k1,k2,k3⟩,f0,f1,f2,f3⟩:=blk_top (b:=W.heap.size+1) J65 E1
   go_wp2_with fail
   exact fin4 k0 k1 k2 k3 rfl J65 ((X0.out _ _).trans E1) (fun W g0 g1 g2 g3=>by simp [results,results235,go_sem,g0,g1,g2,g3]) (fun W h=>⟨by rw [HZ.out];rfl,h⟩)
 · have ec:((m:Int) == 0) = false:=J6
   have HZ:Hid (R = .tf b):=by show _ = _;rw [HS.out,if_neg hc]
   clear hc HS cE
   go_enter func235,ntmps235
   go_wp2_with fail
   refine (cB _).mono ?_
   rintro e w1 ⟨rfl,E1⟩
   obtain ⟨z1,⟨k0,k1,k2,k3⟩,f0,f1,f2,f3⟩:=blk_top (b:=W.heap.size+1) J65 E1
   go_wp2_with fail
   exact fin4 k0 k1 k2 k3 rfl J65 ((X0.out _ _).trans E1) (fun W g0 g1 g2 g3=>by simp [results,results235,go_sem,g0,g1,g2,g3]) (fun W h=>⟨by rw [HZ.out,HQ.out],h⟩)
theorem fand_any (gs:List Ag) (W:World) (p:Option Addr) (n c:Nat) (hF:Fit W (.slice p n c) gs) (hN:Nm W) :
   Calls Tryz.prog 184 #[.slice p n c] W fun e w'=>e = .returned (fAnd gs).dat∧Ext W w':=by
 have HF:Hid (Fit W (.slice p n c) gs∧Nm W):=⟨hF,hN⟩
 have HS:Hid (fAnd gs = orBad (bad truF (seen gs)) (if (got truF (seen gs)).length = 0 then .err 2 else .tf (decide (truN (got truF (seen gs)) = (got truF (seen gs)).length)))):=rfl
 have CT:Hid (∀ V,Ext W V→Calls Tryz.prog 234 #[.slice p n c] V fun e w'=>e = .returned (.tuple #[.int .i64 ((got truF (seen gs)).length:Int),.int .i64 (truN (got truF (seen gs)):Int),(bad truF (seen gs)).dat])∧Ext V w'):=fun V e =>
   have f:=hF.ext e
   poll_any V gs p n c f.rd f.i f.s f.l (hN.ext e)
 have cR:=fun W h=>truthOf_any (decide (truN (got truF (seen gs)) = (got truF (seen gs)).length)) (got truF (seen gs)).length (bad truF (seen gs)) W h
 clear hF hN
 rw [dat_eq (bad truF (seen gs))] at CT cR
 obtain ⟨R,hR⟩:∃ R,fAnd gs = R:=⟨_,rfl⟩
 rw [← HS.out,hR] at cR
 rw [hR]
 obtain ⟨q0,q1,q2,q3,hq⟩:=dat4 R
 rw [hq] at cR
 have HQ:Hid (R.dat = .agg #[.int .i64 q0,.int .i64 q1,.string q2,.int .i64 q3]):=hq
 clear hq HS hR
 generalize truN (got truF (seen gs)) = T0 at *
 generalize (got truF (seen gs)).length = C0 at *
 generalize bad truF (seen gs) = z at *
 generalize z.k = zk at *
 generalize z.n = zn at *
 generalize z.s = zs' at *
 generalize z.e = ze at *
 obtain ⟨bb,hbb⟩:∃ bb,decide (T0 = C0) = bb:=⟨_,rfl⟩
 rw [hbb] at cR
 have eb:(((T0:Int)) == ((C0:Int))) = bb:=by rw [← hbb,Bool.eq_iff_iff];simp;omega
 clear hbb
 go_enter func184,ntmps184
 go_wp2_with fail
 refine (CT.out _ (xr.alloc _)).mono ?_
 rintro e w1 ⟨rfl,E1⟩
 have X1:Hid (Ext W w1):=(xr.alloc _).trans E1
 have HB1:Hid (Blk w1 W.heap.size (.int .i64 0) (.int .i64 0) (.string ⟨#[]⟩) (.int .i64 0)):=blk_top J65 E1
 obtain ⟨c0z,⟨c0_0,c0_1,c0_2,c0_3⟩,c0f0,c0f1,c0f2,c0f3⟩:=HB1.out
 clear E1
 go_wp2_with fail
 refine (cR _ (HF.out.2.ext J33)).mono ?_
 rintro e w2 ⟨rfl,E2⟩
 have X2:Hid (Ext W w2):=Ext.trans J7 E2
 have HB2:Hid (Blk w2 W.heap.size (.int .i64 0) (.int .i64 0) (.string ⟨#[]⟩) (.int .i64 0)):=(HB1.out.al _).ext E2
 clear c0z c0_0 c0_1 c0_2 c0_3 c0f0 c0f1 c0f2 c0f3 E2
 obtain ⟨c0z,⟨c0_0,c0_1,c0_2,c0_3⟩,c0f0,c0f1,c0f2,c0f3⟩:=HB2.out
 go_wp2_with fail
 exact finB (HB2.out.set _ _ _ _) rfl J18 (fun g0 g1 g2 g3=>by simp [results,results184,go_sem,g0,g1,g2,g3]) (fun h=>⟨by rw [HQ.out],h⟩)
theorem for_any (gs:List Ag) (W:World) (p:Option Addr) (n c:Nat) (hF:Fit W (.slice p n c) gs) (hN:Nm W) :
   Calls Tryz.prog 185 #[.slice p n c] W fun e w'=>e = .returned (fOr gs).dat∧Ext W w':=by
 have HF:Hid (Fit W (.slice p n c) gs∧Nm W):=⟨hF,hN⟩
 have HS:Hid (fOr gs = orBad (bad truF (seen gs)) (if (got truF (seen gs)).length = 0 then .err 2 else .tf (decide (0 < truN (got truF (seen gs)))))):=rfl
 have CT:Hid (∀ V,Ext W V→Calls Tryz.prog 234 #[.slice p n c] V fun e w'=>e = .returned (.tuple #[.int .i64 ((got truF (seen gs)).length:Int),.int .i64 (truN (got truF (seen gs)):Int),(bad truF (seen gs)).dat])∧Ext V w'):=fun V e =>
   have f:=hF.ext e
   poll_any V gs p n c f.rd f.i f.s f.l (hN.ext e)
 have cR:=fun W h=>truthOf_any (decide (0 < truN (got truF (seen gs)))) (got truF (seen gs)).length (bad truF (seen gs)) W h
 clear hF hN
 rw [dat_eq (bad truF (seen gs))] at CT cR
 obtain ⟨R,hR⟩:∃ R,fOr gs = R:=⟨_,rfl⟩
 rw [← HS.out,hR] at cR
 rw [hR]
 obtain ⟨q0,q1,q2,q3,hq⟩:=dat4 R
 rw [hq] at cR
 have HQ:Hid (R.dat = .agg #[.int .i64 q0,.int .i64 q1,.string q2,.int .i64 q3]):=hq
 clear hq HS hR
 generalize truN (got truF (seen gs)) = T0 at *
 generalize (got truF (seen gs)).length = C0 at *
 generalize bad truF (seen gs) = z at *
 generalize z.k = zk at *
 generalize z.n = zn at *
 generalize z.s = zs' at *
 generalize z.e = ze at *
 obtain ⟨bb,hbb⟩:∃ bb,decide (0 < T0) = bb:=⟨_,rfl⟩
 rw [hbb] at cR
 have eb:decide (((T0:Int)) > 0) = bb:=by rw [← hbb,Bool.eq_iff_iff];simp
 clear eb
 go_enter func185,ntmps185
 go_wp2_with fail
 refine (CT.out _ (xr.alloc _)).mono ?_
 rintro e w1 ⟨rfl,E1⟩
 have X1:Hid (Ext W w1):=(xr.alloc _).trans E1
 have HB1:Hid (Blk w1 W.heap.size (.int .i64 0) (.int .i64 0) (.string ⟨#[]⟩) (.int .i64 0)):=blk_top J65 E1
 obtain ⟨c0z,⟨c0_0,c0_1,c0_2,c0_3⟩,c0f0,c0f1,c0f2,c0f3⟩:=HB1.out
 clear E1
 go_wp2_with fail
 refine (cR _ (HF.out.2.ext J33)).mono ?_
 rintro e w2 ⟨rfl,E2⟩
 have X2:Hid (Ext W w2):=Ext.trans J7 E2
 have HB2:Hid (Blk w2 W.heap.size (.int .i64 0) (.int .i64 0) (.string ⟨#[]⟩) (.int .i64 0)):=(HB1.out.al _).ext E2
 clear c0z c0_0 c0_1 c0_2 c0_3 c0f0 c0f1 c0f2 c0f3 E2
 obtain ⟨c0z,⟨c0_0,c0_1,c0_2,c0_3⟩,c0f0,c0f1,c0f2,c0f3⟩:=HB2.out
 go_wp2_with fail
 exact finB (HB2.out.set _ _ _ _) rfl J18 (fun g0 g1 g2 g3=>by simp [results,results185,go_sem,g0,g1,g2,g3]) (fun h=>⟨by rw [HQ.out],h⟩)
theorem sb_info:∃ j,Tryz.prog.info? 225 = some j∧j.size = 2:=by
 have h:(Tryz.prog.info? 225).map (fun i=>i.size) = some 2:=J3
 obtain ⟨j,h1,h2⟩:=Option.map_eq_some_iff.1 h
 exact ⟨j,h1,h2⟩
theorem sb_byte:∃ i,Tryz.prog.info? 5 = some i∧i.zero = some (.int .u8 0)∧i.size = 1∧i.bytes = 1:=by
 exact K100
theorem sb_used (b:Nat) (w:World) (h0:w.cell? ⟨b,0,none⟩ = some (.pointer (some ⟨b,0,none⟩))) :
   Calls Tryz.prog 271 #[.pointer (some ⟨b,0,none⟩)] w fun e w'=>e = .returned (.tuple #[])∧w' = w:=by
 obtain ⟨j,hj,_⟩:=sb_info
 go_enter func271,ntmps271
 go_wp2
 rw [Lib.run_neq_ptr_same w _ Tryz.underlying223 hj]
 go_wp2
 go_end0
 exact ⟨rfl,rfl⟩
def BuS (w0:World) (b:Nat) (l:List UInt8) (W:World):Prop:=Ext w0 W∧Lib.IsBuilder 225 5 w0.heap.size b (Lib.byteCells l) W
def OkS9 (b:Nat) (w w':World):Prop:=Lib.OthersKept 5 (some b) w w'∧w.heap.size≤w'.heap.size
theorem OkS9.trans {b:Nat} {x y z:World} (h:OkS9 b x y) (k:OkS9 b y z):OkS9 b x z:=⟨h.1.trans k.1,Nat.le_trans h.2 k.2⟩
theorem OkS9.refl (b:Nat) (w:World):OkS9 b w w:=⟨Lib.OthersKept.refl _ _ _,Nat.le_refl _⟩
theorem Ext.toKS {w w':World} (h:Ext w w') (b:Nat):OkS9 b w w' :=
 ⟨fun k _ hk _ _=>(h.block k (Array.getElem?_eq_some_iff.1 hk).1).trans hk,h.size⟩
theorem BuS.ext {w0 W W':World} {b:Nat} {l:List UInt8} (h:BuS w0 b l W) (e:Ext W W'):BuS w0 b l W':=by
 refine ⟨h.1.trans e,?_⟩
 have one:∀ p,Lib.BuilderAt 225 5 w0.heap.size b p (Lib.byteCells l) W→Lib.BuilderAt 225 5 w0.heap.size b p (Lib.byteCells l) W':=by
   rintro p ⟨hB,v,hb,hown,hne⟩
   refine ⟨hB,v,(e.block b (Array.getElem?_eq_some_iff.1 hb).1).trans hb,⟨hown.1,?_⟩,hne⟩
   rcases hown.2 with h | ⟨g,cap,cur,hv,hbg,hg,rest⟩
   · exact .inl h
   · exact .inr ⟨g,cap,cur,hv,hbg,(e.block g (Array.getElem?_eq_some_iff.1 hg).1).trans hg,rest⟩
 exact h.2.imp (one _) (one _)
theorem sb_lies:liesAt Tryz.prog Tryz.prog.depth 225 (2 / Tryz.prog.cellsOf 225) 0 225 1 = true:=J3
theorem scheck_new (b:Nat) (w:World) (h0:w.cell? ⟨b,0,none⟩ = some (.pointer none)) (hsh:w.shape? b = some (225,2)) (hfz:w.frozen? ⟨b,0,none⟩ = false) :
   Calls Tryz.prog 271 #[.pointer (some ⟨b,0,none⟩)] w fun e w'=>e = .returned (.tuple #[])∧w' = w.setCell ⟨b,0,none⟩ (.pointer (some ⟨b,0,none⟩)):=by
 obtain ⟨j,hj,hjs⟩:=sb_info
 have q1:=Lib.run_to_unsafe (P:=Tryz.prog) w ⟨b,0,none⟩ Tryz.underlying223 Tryz.underlying257 hj J2 hsh (Nat.zero_lt_succ 1)
 have q3:=Lib.run_from_unsafe (P:=Tryz.prog) w ⟨b,0,none⟩ Tryz.underlying257 Tryz.underlying223 hj hsh sb_lies
 have q2:=run_callFunc_extern (P:=Tryz.prog) func283 J3 J3 J3 (e:=Extern.AbiNoEscape.same) J3 #[.pointer (some ⟨b,0,none⟩)] w
 rw [Lib.run_noEscape] at q2
 go_enter func271,ntmps271
 go_wp2
 go_end0
 exact ⟨rfl,rfl⟩
theorem scheck_any (B b:Nat) (l:List Value) (w:World) (h:Lib.IsBuilder 225 5 B b l w) :
   Calls Tryz.prog 271 #[.pointer (some ⟨b,0,none⟩)] w fun e w'=>e = .returned (.tuple #[])∧Lib.BuilderAt 225 5 B b (.pointer (some ⟨b,0,none⟩)) l w'∧Below B w w'∧Lib.OthersKept 5 (some b) w w':=by
 rcases h with h | h
 · refine (scheck_new b w h.cell0 h.shape h.frozen0).mono ?_
   rintro e w' ⟨rfl,rfl⟩
   exact ⟨rfl,h.used _,(Below.refl B w).setCell (p:=⟨b,0,none⟩) h.1 _,(Lib.OthersKept.refl _ _ w).setCell ⟨b,0,none⟩ rfl _⟩
 · refine (sb_used b w h.cell0).mono ?_
   rintro e w' ⟨rfl,rfl⟩
   exact ⟨rfl,h,Below.refl B _,Lib.OthersKept.refl _ _ _⟩
theorem swrite_any (w0:World) (b:Nat) (l:List UInt8) (s:ByteArray) (w:World) (hBu:BuS w0 b l w) (hlen:l.length≤100000000) (hs:s.size≤100000000) :
   Calls Tryz.prog 240 #[.pointer (some ⟨b,0,none⟩),.string s] w fun e w'=>e = .returned (.tuple #[.int .i64 s.size,.nilIface])∧BuS w0 b (l ++ s.data.toList) w'∧OkS9 b w w':=by
 obtain ⟨i,hi,hz,h1,h2⟩:=sb_byte
 obtain ⟨hE0,h⟩:=hBu
 have HE0:Hid (Ext w0 w):=hE0
 have hBw:w0.heap.size≤w.heap.size:=hE0.size
 obtain ⟨B,hBdef⟩:∃ B,w0.heap.size = B:=⟨_,rfl⟩
 rw [hBdef] at h hBw
 have HB0:Hid (w0.heap.size = B):=hBdef
 clear hBdef hE0
 have c0:=fun W h=>scheck_any B b (Lib.byteCells l) W h
 have hbl:(Lib.byteCells l).length = l.length:=by simp [Lib.byteCells]
 have hbs:Hid (Lib.byteCells (l ++ s.data.toList) = Lib.byteCells l ++ Lib.strCells s):=by show _ = _;simp [Lib.byteCells,Lib.strCells]
 rw [← hbl] at hlen
 clear hbl
 obtain ⟨bl,hbl⟩:∃ bl,Lib.byteCells l = bl:=⟨_,rfl⟩
 rw [hbl] at h c0 hbs hlen
 clear hbl
 go_enter func240,ntmps240
 go_wp2_with fail
 refine (c0 _ h).mono ?_
 rintro e w1 ⟨rfl,⟨hB,v,hb,hown,hne⟩,hw1,hk1⟩
 have d0:w1.cell? ⟨b,0,none⟩ = some (.pointer (some ⟨b,0,none⟩)):=J109
 have d1:w1.cell? ⟨b,1,none⟩ = some v:=J109
 have hlt:b < w1.heap.size:=Lib.BuilderAt.lt ⟨hB,v,hb,hown,hne⟩
 have HO:Hid (w1.ownsRow B 5 1 v bl.length bl):=hown
 have HS:=hw1.size
 go_wp2_with (at_builtin;refine Lib.wpList_append_own_string _ rfl _ _ 189 9 rfl B 5 i Tryz.underlying189 Tryz.underlying9 hi hz h1 h2 _ _ _ rfl HO.out s rfl ?c3 ?c4 ?c5 ?_)
 case c3=>unfold maxLen;omega
 case c4=>omega
 case c5=>omega
 intro v' w2 hown' hg _
 have hb2:w2.heap[b]? = some (.cells #[.pointer (some ⟨b,0,none⟩),v] 225 (0,0)):=by
   rw [hg.block b hlt (fun e=>hne e.symm)]
   exact hb
 have d2:w2.cell? ⟨b,0,none⟩ = some (.pointer (some ⟨b,0,none⟩)):=by rw [Lib.cell_of_heap hb2];rfl
 have d3:w2.cell? ⟨b,1,none⟩ = some v:=by rw [Lib.cell_of_heap hb2];rfl
 have f3:w2.frozen? ⟨b,1,none⟩ = false:=Lib.frozen_of_heap hb2 1
 obtain ⟨ao,n',cap,rfl⟩:∃ ao n' cap,v' = .slice ao n' cap:=by
   rcases hown'.2 with ⟨hv,_⟩ | ⟨g,cap,cur,hv,_⟩
   · exact ⟨_,_,_,hv⟩
   · exact ⟨_,_,_,hv⟩
 go_wp2
 go_ret2
 have hbel:Below B w (w2.setCell ⟨b,1,none⟩ (.slice ao n' cap)):=(hw1.grown hg J2 (fun k hk=>(hown.lt k hk).1)).setCell (p:=⟨b,1,none⟩) hB _
 refine ⟨rfl,⟨?_,?_⟩,?_,hbel.size⟩
 · show Below w0.heap.size w0 _
   rw [HB0.out]
   have:=HE0.out
   unfold Ext at this
   rw [HB0.out] at this
   exact Below.trans this hbel
 · rw [HB0.out,hbs.out]
   exact .inr (Lib.BuilderAt.put hB hb2 (by simpa [Lib.strCells_length] using hown') J9)
 · exact (hk1.grown hg (Lib.ownsRow_kind hown)).setCell ⟨b,1,none⟩ rfl _
theorem text_any (x:V) (a:Bool) (W:World) (hT:Tab W) (hN:Nm W) (hx:x.ok):Calls Tryz.prog 237 #[x.dat,.bool a] W fun e w'=>e = .returned (texF x a).dat∧Ext W w':=by
 have c0:=fun W t h=>vtotext_any x.k x.n x.s x.e W (nm_of x hx).2 t h
 rw [(nm_of x hx).1] at c0
 have H:Hid (texF x a = x.toText):=rfl
 rw [dat_eq x]
 obtain ⟨q0,q1,q2,q3,hq⟩:=dat4 x.toText
 rw [hq] at c0
 have HQ:Hid (x.toText.dat = .agg #[.int .i64 q0,.int .i64 q1,.string q2,.int .i64 q3]):=hq
 clear hq hx
 generalize x.k = xk at *
 generalize x.n = xn at *
 generalize x.s = xs at *
 generalize x.e = xe at *
 go_enter func237,ntmps237
 go_wp2_with fail
 refine (c0 _ (hT.ext ((xr.alloc _).alloc _)) (hN.ext ((xr.alloc _).alloc _))).mono ?_
 rintro e w1 ⟨rfl,E1⟩
 obtain ⟨z,⟨k0,k1,k2,k3⟩,f0,f1,f2,f3⟩:=blk_top (b:=W.heap.size+1) J65 E1
 go_wp2_with fail
 exact fin4 k0 k1 k2 k3 rfl J65 (((xr.alloc _).alloc _).trans E1) (fun W g0 g1 g2 g3=>by simp [results,results237,go_sem,g0,g1,g2,g3]) (fun W h=>⟨by rw [H.out,HQ.out],h⟩)
theorem turn_text (w0:World) (hT:Tab w0) (hN:Nm w0):TurnC w0 (.func (.func 237) #[] #[]) texF :=
 ⟨237,rfl,enters_of func237 J3 rfl,fun W x a e h=>text_any x a W (hT.ext e) (hN.ext e) h⟩
theorem texF_okk (x:V) (a:Bool) (h:x.ok):(texF x a).ok:=toText_ok x h
theorem blen_any (w0:World) (b:Nat) (l:List UInt8) (w:World) (h:BuS w0 b l w) :
   Calls Tryz.prog 239 #[.pointer (some ⟨b,0,none⟩)] w fun e w'=>e = .returned (.int .i64 (l.length:Int))∧w' = w:=by
 obtain ⟨p,hB,v,hb,hown,hne⟩:∃ p,Lib.BuilderAt 225 5 w0.heap.size b p (Lib.byteCells l) w:=by
   rcases h.2 with h | h
   · exact ⟨_,h⟩
   · exact ⟨_,h⟩
 have hl:(Lib.byteCells l).length = l.length:=by simp [Lib.byteCells]
 rw [hl] at hown
 obtain ⟨ao,cap,rfl⟩:∃ ao cap,v = .slice ao l.length cap:=by
   rcases hown.2 with ⟨hv,h0⟩ | ⟨g,cap,cur,hv,_⟩
   · exact ⟨none,0,by rw [hv,h0]⟩
   · exact ⟨_,_,hv⟩
 have d1:w.cell? ⟨b,1,none⟩ = some (.slice ao l.length cap):=J109
 clear h hl hown hne hb hB
 go_enter func239,ntmps239
 exact K29
theorem catF_le (l:List V) (a:List UInt8) (h:∀ v ∈ l,v.s.size≤300) (ha:a.length≤600):(catF a l).length≤600:=by
 induction l generalizing a with
 | nil=>exact ha
 | cons v l ih =>
   show (catF (if a.length≤300 then a ++ v.s.data.toList else a) l).length≤600
   refine ih _ (fun u hu=>h u (by simp [hu])) ?_
   split
   · have:=h v J65
     rw [List.length_append,size_list];omega
   · exact ha
theorem ok_s (v:V) (h:v.ok):v.s.size≤300:=by
 cases v with
 | text s=>exact h
 | _=>exact Nat.zero_le _
structure Cat (w0:World) (g:Nat) (l:List V) (W:World):Prop where
 b:BuS w0 g (catF [] l) W
 o:∀ v ∈ l,v.s.size≤300
theorem BuS.env {w0 W W':World} {g hi:Nat} {l:List UInt8} (h:BuS w0 g l W) (e:Env hi W W') (hg:g < hi) (hh:w0.heap.size≤hi):BuS w0 g l W':=by
 refine ⟨Below.trans h.1 (e.1.mono hh),?_⟩
 have one:∀ p,Lib.BuilderAt 225 5 w0.heap.size g p (Lib.byteCells l) W→Lib.BuilderAt 225 5 w0.heap.size g p (Lib.byteCells l) W':=by
   rintro p ⟨hB,v,hb,hown,hne⟩
   refine ⟨hB,v,(e.1.block g hg).trans hb,⟨hown.1,?_⟩,hne⟩
   rcases hown.2 with h | ⟨q,cap,cur,hv,hbg,hq,rest⟩
   · exact .inl h
   · exact .inr ⟨q,cap,cur,hv,hbg,(e.2 q ⟨cur,(0,0),hq⟩).trans hq,rest⟩
 exact h.2.imp (one _) (one _)
theorem Ext.between2 {W V1 V2:World} (e1:Ext W V1) (e2:Ext W V2) (hs:V1.heap.size≤V2.heap.size):Below W.heap.size V1 V2 :=
 ⟨e2.os.trans e1.os.symm,e2.tape.trans e1.tape.symm,e2.output.trans e1.output.symm,hs,fun k hk=>(e2.block k hk).trans (e1.block k hk).symm⟩
theorem OkS9.mid {w0 W W':World} {g hi:Nat} (h:OkS9 g W W') (e:Ext w0 W) (e':Ext w0 W') (hg:g < hi):Mid w0.heap.size hi W W' :=
 ⟨Ext.between2 e e' h.2,fun k hk hs hr=>by
   have hk2:W.heap[k]? = some W.heap[k]:=Array.getElem?_eq_getElem hs
   rw [hk2]
   exact h.1 k _ hk2 (by intro q;cases q;omega) (fun c fz q=>hr ⟨c,fz,by rw [hk2,q]⟩)⟩
theorem cat1_any (w0:World) (g:Nat) (l:List V) (W:World) (x:V) (h:Cat w0 g l W) (hx:x.ok) :
   Calls Tryz.prog 238 (encV x ++ #[.pointer (some ⟨g,0,none⟩)]) W fun e w'=>e = .returned (.tuple #[])∧Cat w0 g (l ++ [x]) w'∧OkS9 g W w':=by
 have hs:=ok_s x hx
 have hle:=catF_le l [] h.o J65
 have HO:Hid (∀ v ∈ l ++ [x],v.s.size≤300):=by
   intro v hv
   rcases List.mem_append.1 hv with hv | hv
   · exact h.o v hv
   · simp at hv;subst hv;exact hs
 have HC:Hid (catF [] (l ++ [x]) = if (catF [] l).length≤300 then catF [] l ++ x.s.data.toList else catF [] l):=catF_app [] l x
 rw [show encV x = #[x.dat] from rfl,dat_eq x]
 obtain ⟨L,hL⟩:∃ L,catF [] l = L:=⟨_,rfl⟩
 have HB:Hid (BuS w0 g L W):=by rw [← hL];exact h.b
 rw [hL] at HC hle
 have cL:=fun V (q:BuS w0 g L V)=>blen_any w0 g L V q
 have cW:=fun V (q:BuS w0 g L V)=>swrite_any w0 g L x.s V q J2 J2
 clear h hx hL
 generalize x.k = xk at *
 generalize x.n = xn at *
 generalize x.e = xe at *
 obtain ⟨xs,hxs⟩:∃ q,x.s = q:=⟨_,rfl⟩
 rw [hxs] at cW HC hs ⊢
 clear hxs
 by_cases hc:L.length≤300
 · have hd:decide ((L.length:Int)≤300) = true:=J6
   have hI:(L.length:Int)≤300:=J2
   rw [if_pos hc] at HC
   clear hc hle hs
   go_enter func238,ntmps238
   go_wp2_with fail
   refine (cL _ (HB.out.ext (xr.alloc _))).mono ?_
   rintro e w1 ⟨rfl,rfl⟩
   go_wp2_with fail
   refine (cW _ (HB.out.ext (xr.alloc _))).mono ?_
   rintro e w2 ⟨rfl,B2,O2⟩
   have HO2:Hid (OkS9 g W w2):=(((Ext.refl W).alloc _).toKS g).trans O2
   have HB2:Hid (BuS w0 g (L ++ xs.data.toList) w2):=B2
   clear B2 O2
   go_wp2_with fail
   go_end0
   exact ⟨rfl,⟨by rw [HC.out];exact HB2.out,HO.out⟩,HO2.out⟩
 · have hd:decide ((L.length:Int)≤300) = false:=J6
   have hI:¬ (L.length:Int)≤300:=J2
   rw [if_neg hc] at HC
   clear hc hle hs cW
   go_enter func238,ntmps238
   go_wp2_with fail
   refine (cL _ (HB.out.ext (xr.alloc _))).mono ?_
   rintro e w1 ⟨rfl,rfl⟩
   go_wp2_with fail
   go_end0
   have O2:∀ o,OkS9 g W (W.alloc o):=fun o=>((Ext.refl W).alloc o).toKS g
   exact ⟨rfl,⟨by rw [HC.out];exact HB.out.ext (xr.alloc _),HO.out⟩,O2 _⟩
theorem ent_cat1:∀ args W,(callFunc 238 args).run Tryz.prog W = .ok (.enter 238 args) W:=enters_of func238 J3 rfl
theorem cat_fn (w0 wb:World) (hw:Ext w0 wb) (g hi:Nat) (hg:g < hi) (hh:wb.heap.size≤hi):FnC w0 hi (.func (.func 238) #[] #[.pointer (some ⟨g,0,none⟩)]) encV V.ok (fun l W=>Cat wb g l W):=by
 refine ⟨_,_,rfl,ent_cat1,?_,?_⟩
 · intro l W W' h hs e
   exact ⟨h.b.env e hg hh,h.o⟩
 · intro l W x h hs e hl hx
   exact (cat1_any wb g l W x h hx).mono (fun e' w' q=>⟨q.1,q.2.1,q.2.2.mid e (hw.trans q.2.1.b.1) hg⟩)
theorem fcat_any (gs:List Ag) (w0:World) (p:Option Addr) (n c:Nat) (hF:Fit w0 (.slice p n c) gs) (hT:Tab w0) (hN:Nm w0) :
   Calls Tryz.prog 186 #[.slice p n c] w0 fun e w'=>e = .returned (fCat gs).dat∧Ext w0 w':=by
 have HF:Hid (Fit w0 (.slice p n c) gs∧Tab w0∧Nm w0):=⟨hF,hT,hN⟩
 obtain ⟨wb,hwb⟩:∃ wb,w0.alloc (.cells #[.int .i64 0,.int .i64 0,.string ⟨#[]⟩,.int .i64 0] 33) = wb:=⟨_,rfl⟩
 have hzb:wb.heap.size = w0.heap.size+1:=by rw [← hwb];simp
 have HWB:Hid (Ext w0 wb∧Blk wb w0.heap.size (.int .i64 0) (.int .i64 0) (.string ⟨#[]⟩) (.int .i64 0)):=by
   rw [← hwb]
   exact ⟨xr.alloc _,blk_top rfl xr⟩
 have HFN:Hid (FnC w0 (w0.heap.size+2) (.func (.func 238) #[] #[.pointer (some ⟨w0.heap.size+1,0,none⟩)]) encV V.ok (fun l W=>Cat wb (w0.heap.size+1) l W)):=cat_fn w0 wb HWB.out.1 _ _ J2 J2
 have HZB:Hid (wb.heap.size = w0.heap.size+1):=hzb
 have HWE:Hid (w0.alloc (.cells #[.int .i64 0,.int .i64 0,.string ⟨#[]⟩,.int .i64 0] 33) = wb):=hwb
 clear hzb hwb
 clear hF hT hN
 go_enter func186,ntmps186
 go_wp2_with fail
 rw [HWE.out]
 generalize hW3:wb.alloc _ = W3
 have z3:W3.heap.size = w0.heap.size+2:=by rw [← hW3];simp;have:=HZB.out;omega
 have Eb:Ext wb W3:=by rw [← hW3];exact xr.alloc _
 have E3:Ext w0 W3:=HWB.out.1.trans Eb
 have HC:Cat wb (w0.heap.size+1) [] W3:=by
   refine ⟨⟨Eb,?_⟩,(fun v hv=>by cases hv)⟩
   rw [← hW3,← HZB.out]
   exact Lib.fresh_isBuilder _ _ wb
 refine (through_any w0 gs _ _ texF (fun l W=>Cat wb (w0.heap.size+1) l W) W3 p n c (turn_text w0 HF.out.2.1 HF.out.2.2) (by rw [z3];exact HFN.out) texF_okk (HF.out.1.rd.low (Below.mono E3 nrf)) HF.out.1.i HF.out.1.s HF.out.1.l HC E3 HF.out.2.2).mono ?_
 rintro e w4 ⟨rfl,T4,X4⟩
 have HX4:Hid (Ext w0 w4):=X4
 have HB4:Hid (Blk w4 w0.heap.size (.int .i64 0) (.int .i64 0) (.string ⟨#[]⟩) (.int .i64 0)):=HWB.out.2.ext T4.b.1
 obtain ⟨c0z,⟨c0_0,c0_1,c0_2,c0_3⟩,c0f0,c0f1,c0f2,c0f3⟩:=HB4.out
 have HBu:Hid (BuS wb (w0.heap.size+1) (catF [] (got texF (seen gs))) w4):=T4.b
 have HR:Hid (fCat gs = if (bad texF (seen gs)).k = 4 then bad texF (seen gs) else mkText (bs (allC (got texF (seen gs))))):=rfl
 have HTX:Hid (mkText (bs (catF [] (got texF (seen gs)))) = mkText (bs (allC (got texF (seen gs))))):=cat_text _
 have HD:Hid ((bad texF (seen gs)).dat = .agg #[.int .i64 (bad texF (seen gs)).k,.int .i64 (bad texF (seen gs)).n,.string (bad texF (seen gs)).s,.int .i64 (bad texF (seen gs)).e]):=dat_eq _
 have hD:=dat_eq (bad texF (seen gs))
 obtain ⟨zk,hzk⟩:∃ r,(bad texF (seen gs)).k = r:=⟨_,rfl⟩
 obtain ⟨zn,hzn⟩:∃ r,(bad texF (seen gs)).n = r:=⟨_,rfl⟩
 obtain ⟨zs',hzs⟩:∃ r,(bad texF (seen gs)).s = r:=⟨_,rfl⟩
 obtain ⟨ze,hze⟩:∃ r,(bad texF (seen gs)).e = r:=⟨_,rfl⟩
 rw [hzk,hzn,hzs,hze] at HD hD
 rw [hzk] at HR
 rw [hD]
 clear hzk hzn hzs hze hD hW3 z3 E3 Eb HC X4 T4 HFN HWE
 by_cases h4:zk = 4
 · have e4:(zk == 4) = true:=J104
   have HZ:Hid (fCat gs = bad texF (seen gs)):=by show _ = _;rw [HR.out,if_pos h4]
   clear h4 HR
   go_wp2_with fail
   exact finB ((HB4.out.set _ _ _ _).al _) rfl (((((HX4.out.setCell J65 _).setCell J65 _).setCell J65 _).setCell J65 _).alloc _) (fun g0 g1 g2 g3=>by simp [results,results186,go_sem,g0,g1,g2,g3]) (fun h=>⟨by rw [HZ.out,HD.out],h⟩)
 · have e4:(zk == 4) = false:=J104
   have HZ:Hid (fCat gs = mkText (bs (catF [] (got texF (seen gs))))):=by show _ = _;rw [HR.out,if_neg h4,HTX.out]
   clear h4 HR HTX
   obtain ⟨T,hTT⟩:∃ T,catF [] (got texF (seen gs)) = T:=⟨_,rfl⟩
   rw [hTT] at HBu HZ
   have cN:=fun W h=>vtext_any (bs T) W h
   obtain ⟨q0,q1,q2,q3,hq⟩:=dat4 (mkText (bs T))
   rw [hq] at cN
   have HQ:Hid ((mkText (bs T)).dat = .agg #[.int .i64 q0,.int .i64 q1,.string q2,.int .i64 q3]):=hq
   have CS:Hid (∀ V,Ext w4 V→Calls Tryz.prog 241 #[.pointer (some ⟨w0.heap.size+1,0,none⟩)] V fun e w'=>e = .returned (.string (bs T))∧Below wb.heap.size V w'):=fun V e=>Tryz.Builder_String_any wb.heap.size (w0.heap.size+1) T V (HBu.out.ext e).2 (Nat.le_trans HBu.out.1.size e.size)
   clear hq hTT
   generalize bs T = bT at *
   go_wp2_with fail
   refine (CS.out _ (xr.alloc _)).mono ?_
   rintro e w5 ⟨rfl,E5⟩
   have HE5:Hid (Ext wb w5):=Below.trans (HBu.out.1.alloc _) E5
   have HB5:Hid (Blk w5 w0.heap.size (.int .i64 0) (.int .i64 0) (.string ⟨#[]⟩) (.int .i64 0)):=HWB.out.2.ext HE5.out
   clear c0z c0_0 c0_1 c0_2 c0_3 c0f0 c0f1 c0f2 c0f3 E5
   go_wp2_with fail
   refine (cN _ (HF.out.2.2.ext (HWB.out.1.trans HE5.out))).mono ?_
   rintro e w6 ⟨rfl,E6⟩
   have HB6:Hid (Blk w6 w0.heap.size (.int .i64 0) (.int .i64 0) (.string ⟨#[]⟩) (.int .i64 0)):=HB5.out.ext E6
   have HX6:Hid (Ext w0 w6):=(HWB.out.1.trans HE5.out).trans E6
   clear E6
   obtain ⟨c0z,⟨c0_0,c0_1,c0_2,c0_3⟩,c0f0,c0f1,c0f2,c0f3⟩:=HB6.out
   go_wp2_with fail
   exact finB (HB6.out.set _ _ _ _) rfl ((((HX6.out.setCell J65 _).setCell J65 _).setCell J65 _).setCell J65 _) (fun g0 g1 g2 g3=>by simp [results,results186,go_sem,g0,g1,g2,g3]) (fun h=>⟨by rw [HZ.out,HQ.out],h⟩)
end Go.Proofs.YtcfgbiaahangmaaGreatDoor
