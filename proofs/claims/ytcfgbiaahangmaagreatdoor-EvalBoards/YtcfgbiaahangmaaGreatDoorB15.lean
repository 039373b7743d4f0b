import Derived.Test.YtcfgbiaahangmaaGreatDoorB14
set_option maxHeartbeats 2000000
set_option maxRecDepth 100000
namespace Go.Proofs.YtcfgbiaahangmaaGreatDoor
open Go.Proofs.Tryz
open Go.RowKit
structure Pol (g : Nat) (l : List V) (W : World) : Prop where
 z : g + 1 < W.heap.size
 c0 : W.cell? ⟨g,0,none⟩ = some (.int .i64 (l.length : Int))
 t0 : W.cell? ⟨g + 1,0,none⟩ = some (.int .i64 (truN l : Int))
 f0 : W.frozen? ⟨g,0,none⟩ = false
 f1 : W.frozen? ⟨g + 1,0,none⟩ = false
theorem Pol.env {g hi : Nat} {l : List V} {W W' : World} (h : Pol g l W) (e : Env hi W W') (hg : g + 2 ≤ hi) : Pol g l W':=by
 obtain ⟨z,c0,t0,f0,f1⟩:=h
 have k0:=e.at (b:=g) J2
 have k1:=e.at (b:=g + 1) J2
 exact ⟨llL z e.1.size,(k0 0).1.trans c0,(k1 0).1.trans t0,(k0 0).2.trans f0,(k1 0).2.trans f1⟩
theorem Pol.put0 {g : Nat} {l : List V} {W : World} {x : V} (h : Pol g l W) (hx : x.n = 0) (wk : wrap64 ((l.length : Int) + 1) = ((l.length + 1 : Nat) : Int)) :
   Pol g (l ++ [x]) (W.setCell ⟨g,0,none⟩ (.int .i64 (wrap64 ((l.length : Int) + 1)))):=by
 obtain ⟨z,c0,t0,f0,f1⟩:=h
 have es : truN (l ++ [x]) = truN l:=by rw [truN_app];simp [truN,hx]
 have el : (l ++ [x]).length = l.length + 1:=J58
 refine ⟨by simpa [World.setCell] using z,?_,?_,by simpa [go_sem] using f0,by simpa [go_sem] using f1⟩
 · rw [el,← wk];exact wSa _ _ _ (by rw [c0])
 · rw [es,wFa _ _ _ _ J58];exact t0
theorem Pol.put1 {g : Nat} {l : List V} {W : World} {x : V} (h : Pol g l W) (hx : x.n ≠ 0) (wk : wrap64 ((l.length : Int) + 1) = ((l.length + 1 : Nat) : Int)) (wt : wrap64 ((truN l : Int) + 1) = ((truN l + 1 : Nat) : Int)) :
   Pol g (l ++ [x]) ((W.setCell ⟨g,0,none⟩ (.int .i64 (wrap64 ((l.length : Int) + 1)))).setCell ⟨g + 1,0,none⟩ (.int .i64 (wrap64 ((truN l : Int) + 1)))):=by
 obtain ⟨z,c0,t0,f0,f1⟩:=h
 have es : truN (l ++ [x]) = truN l + 1:=by rw [truN_app];simp [truN,hx]
 have el : (l ++ [x]).length = l.length + 1:=J58
 refine ⟨by simpa [World.setCell] using z,?_,?_,by simpa [go_sem] using f0,by simpa [go_sem] using f1⟩
 · rw [el,← wk,wFa _ _ _ _ J58];exact wSa _ _ _ (by rw [c0])
 · rw [es,← wt];exact wSa _ _ _ (by rw [wFa _ _ _ _ J58,t0])
theorem pol1_any (w0 : World) (g : Nat) (hg : w0.heap.size ≤ g) (l : List V) (W : World) (x : V) (h : Pol g l W) (hE : Ext w0 W) (hl : l.length ≤ 20000000000) :
   Calls Tryz.prog 268 (encV x ++ #[.pointer (some ⟨g,0,none⟩),.pointer (some ⟨g + 1,0,none⟩)]) W fun e w'=>e = .returned (.tuple #[]) ∧ Pol g (l ++ [x]) w' ∧ Mid w0.heap.size (g + 2) W w':=by
 have WK : Hid (wrap64 ((l.length : Int) + 1) = ((l.length + 1 : Nat) : Int)):=wrap_1 _ J2
 have WT : Hid (wrap64 ((truN l : Int) + 1) = ((truN l + 1 : Nat) : Int)):=wrap_1 _ (by have:=truN_le l;omega)
 have H : Hid (Pol g l W):=h
 obtain ⟨z,c0,t0,f0,f1⟩:=h
 have H0 : Hid (w0.heap.size ≤ g ∧ Ext w0 W):=⟨hg,hE⟩
 have zg : g < W.heap.size:=J2
 rw [show encV x = #[x.dat] from rfl,dat_eq x]
 have HP0 : Hid (∀ o,x.n = 0 → Pol g (l ++ [x]) ((W.setCell ⟨g,0,none⟩ (.int .i64 (wrap64 ((l.length : Int) + 1)))).alloc o)):=fun o hx =>
   have q:=H.out.put0 hx WK.out
   q.env ((xr.alloc o).env (hi:=g + 2) q.z) nrf
 have HP1 : Hid (∀ o,x.n ≠ 0 → Pol g (l ++ [x]) (((W.setCell ⟨g,0,none⟩ (.int .i64 (wrap64 ((l.length : Int) + 1)))).setCell ⟨g + 1,0,none⟩ (.int .i64 (wrap64 ((truN l : Int) + 1)))).alloc o)):=fun o hx =>
   have q:=H.out.put1 hx WK.out WT.out
   q.env ((xr.alloc o).env (hi:=g + 2) q.z) nrf
 clear hg hE hl
 have X0 : Hid (∀ v,Mid w0.heap.size (g + 2) W (W.setCell ⟨g,0,none⟩ v)):=fun v=>((Ext.refl W).mid H0.out.2.size _).set H0.out.1 J2 _ _
 have X1 : Hid (∀ v u,Mid w0.heap.size (g + 2) W ((W.setCell ⟨g,0,none⟩ v).setCell ⟨g + 1,0,none⟩ u)):=fun v u=>(X0.out v).set (by have:=H0.out.1;omega) J2 _ _
 obtain ⟨xk,hxk⟩ : ∃ q,x.k = q:=⟨_,rfl⟩
 obtain ⟨xn,hxn⟩ : ∃ q,x.n = q:=⟨_,rfl⟩
 obtain ⟨xs,hxs⟩ : ∃ q,x.s = q:=⟨_,rfl⟩
 obtain ⟨xe,hxe⟩ : ∃ q,x.e = q:=⟨_,rfl⟩
 rw [hxk,hxn,hxs,hxe]
 rw [hxn] at HP0 HP1
 clear hxk hxn hxs hxe
 by_cases hx : xn = 0
 · have en : (xn != 0) = false:=by simpa using hx
   have HX : Hid (xn = 0):=hx
   clear hx
   go_enter func268,ntmps268
   exact K112
 · have en : (xn != 0) = true:=by simpa using hx
   have HX : Hid (xn ≠ 0):=hx
   clear hx
   go_enter func268,ntmps268
   exact K73
theorem ent_pol1 : ∀ args W,(callFunc 268 args).run Tryz.prog W = .ok (.enter 268 args) W:=enters_of func268 J3 rfl
theorem pol_fn (w0 : World) (g hi : Nat) (hg : w0.heap.size ≤ g) (hh : g + 2 ≤ hi) : FnC w0 hi (.func (.func 268) #[] #[.pointer (some ⟨g,0,none⟩),.pointer (some ⟨g + 1,0,none⟩)]) encV V.ok (fun l W=>Pol g l W):=by
 refine ⟨_,_,rfl,ent_pol1,?_,?_⟩
 · intro l W W' h hs e
   exact h.env e hh
 · intro l W x h hs e hl hx
   exact (pol1_any w0 g hg l W x h e hl).mono (fun e w' q=>⟨q.1,q.2.1,q.2.2.wide hh⟩)
theorem toBool_ok (x : V) (h : x.ok) : x.toBool.ok:=by
 cases x with
 | blank=>trivial
 | tf b=>trivial
 | num n=>trivial
 | text s =>
   show (if s.data.toList = trueL then V.tf true else if s.data.toList = falseL then V.tf false else V.err 2).ok
   split
   · trivial
   · split
     · trivial
     · exact K78
 | err e=>exact h
theorem truF_okk (x : V) (a : Bool) (h : x.ok) : (truF x a).ok:=by
 cases a with
 | false=>exact toBool_ok x h
 | true =>
   cases x with
   | blank=>trivial
   | text s=>trivial
   | tf b=>exact toBool_ok _ h
   | num n=>exact toBool_ok _ h
   | err e=>exact toBool_ok _ h
theorem poll_any (w0 : World) (gs : List Ag) (p : Option Addr) (n c : Nat) (hA : RdA w0.heap.size w0 (.slice p n c) gs) (hI : AgI gs) (hlen : (seen gs).length ≤ 10000000000) (hal : gs.length ≤ 10000000000) (hN : Nm w0) :
   Calls Tryz.prog 234 #[.slice p n c] w0 fun e w'=>e = .returned (.tuple #[.int .i64 ((got truF (seen gs)).length : Int),.int .i64 (truN (got truF (seen gs)) : Int),(bad truF (seen gs)).dat]) ∧ Ext w0 w':=by
 have HF : Hid (FnC w0 (w0.heap.size + 3) (.func (.func 268) #[] #[.pointer (some ⟨w0.heap.size,0,none⟩),.pointer (some ⟨w0.heap.size + 1,0,none⟩)]) encV V.ok (fun l W=>Pol w0.heap.size l W ∧ Zer W (w0.heap.size + 2))):=(pol_fn w0 w0.heap.size _ nrf nrf).keep _ _ _ _
 have H0 : Hid (RdA w0.heap.size w0 (.slice p n c) gs ∧ AgI gs ∧ (seen gs).length ≤ 10000000000 ∧ gs.length ≤ 10000000000 ∧ Nm w0):=⟨hA,hI,hlen,hal,hN⟩
 clear hA hI hlen hal hN
 go_enter func234,ntmps234
 go_wp2_with fail
 generalize hW3 : ((w0.alloc _).alloc _).alloc _ = W3
 have z3 : W3.heap.size = w0.heap.size + 3:=J78
 have E3 : Ext w0 W3:=J79
 have HT : Pol w0.heap.size [] W3:=by
   refine ⟨by omega,?_,?_,?_,?_⟩
   all_goals (rw [← hW3];simp [go_sem,truN])
 have B3 : Blk W3 (w0.heap.size + 2) (.int .i64 0) (.int .i64 0) (.string ⟨#[]⟩) (.int .i64 0):=by rw [← hW3];exact blk_top J58 xr
 have O3 : Own4 W3 (w0.heap.size + 2):=by rw [← hW3];exact Own4.at J58 J9 xr
 refine (through_any w0 gs _ _ truF (fun l W=>Pol w0.heap.size l W ∧ Zer W (w0.heap.size + 2)) W3 p n c (turn_truth w0 H0.out.2.2.2.2) (by rw [z3];exact HF.out) truF_okk (H0.out.1.low (Below.mono E3 nrf)) H0.out.2.1 H0.out.2.2.1 H0.out.2.2.2.1 ⟨HT,B3,O3⟩ E3 H0.out.2.2.2.2).mono ?_
 rintro e w4 ⟨rfl,⟨T4,B4,O4⟩,X4⟩
 obtain ⟨c0z,⟨c0_0,c0_1,c0_2,c0_3⟩,c0f0,c0f1,c0f2,c0f3⟩:=B4
 have HB4 : Hid (Blk w4 (w0.heap.size + 2) (.int .i64 0) (.int .i64 0) (.string ⟨#[]⟩) (.int .i64 0)):=⟨c0z,⟨c0_0,c0_1,c0_2,c0_3⟩,c0f0,c0f1,c0f2,c0f3⟩
 obtain ⟨tz,t0,t1,g0,g1⟩:=T4
 have HD : Hid ((bad truF (seen gs)).dat = .agg #[.int .i64 (bad truF (seen gs)).k,.int .i64 (bad truF (seen gs)).n,.string (bad truF (seen gs)).s,.int .i64 (bad truF (seen gs)).e]):=dat_eq _
 have hD:=dat_eq (bad truF (seen gs))
 obtain ⟨A0,hA0⟩ : ∃ q : Int,((got truF (seen gs)).length : Int) = q:=⟨_,rfl⟩
 obtain ⟨A1,hA1⟩ : ∃ q : Int,(truN (got truF (seen gs)) : Int) = q:=⟨_,rfl⟩
 obtain ⟨zk,hzk⟩ : ∃ q,(bad truF (seen gs)).k = q:=⟨_,rfl⟩
 obtain ⟨zn,hzn⟩ : ∃ q,(bad truF (seen gs)).n = q:=⟨_,rfl⟩
 obtain ⟨zs',hzs⟩ : ∃ q,(bad truF (seen gs)).s = q:=⟨_,rfl⟩
 obtain ⟨ze,hze⟩ : ∃ q,(bad truF (seen gs)).e = q:=⟨_,rfl⟩
 have HR : Hid (((got truF (seen gs)).length : Int) = A0 ∧ (truN (got truF (seen gs)) : Int) = A1):=⟨hA0,hA1⟩
 rw [hzk,hzn,hzs,hze] at HD hD
 rw [hA0] at t0
 rw [hA1] at t1
 rw [hD]
 clear hA0 hA1 hzk hzn hzs hze hW3 z3 E3 HT B3 O3 O4 hD
 have HR4 : Hid (RetT w0 [(w0.heap.size,0,.int .i64 A0),(w0.heap.size + 1,0,.int .i64 A1)] w4):=by
   refine ⟨X4,fun q hq=>?_⟩
   simp only [List.mem_cons,List.not_mem_nil,or_false] at hq
   rcases hq with rfl | rfl
   · exact ⟨Nat.le_refl _,t0,g0⟩
   · exact ⟨Nat.le_succ _,t1,g1⟩
 clear X4
 have tz0 : w0.heap.size < w4.heap.size:=J2
 go_wp2_with fail
 generalize hW5 : World.setCell _ ⟨w0.heap.size + 1 + 1,3,none⟩ _ = W5
 have HR5 : RetT w0 [(w0.heap.size,0,.int .i64 A0),(w0.heap.size + 1,0,.int .i64 A1),(w0.heap.size + 2,0,.int .i64 zk),(w0.heap.size + 2,1,.int .i64 zn),(w0.heap.size + 2,2,.string zs'),(w0.heap.size + 2,3,.int .i64 ze)] W5:=by
   rw [← hW5]
   exact HR4.out.put (b:=w0.heap.size + 2) J2 (by intro q hq;simp only [List.mem_cons,List.not_mem_nil,or_false] at hq;rcases hq with rfl | rfl <;> (show w0.heap.size + 2 ≠ _;omega)) HB4.out _ _ _ _
 clear hW5 tz0 tz g0 g1 t0 t1 c0z c0_0 c0_1 c0_2 c0_3 c0f0 c0f1 c0f2 c0f3 HB4 HR4 HF
 have mkS : Hid (∀ V,RetT w0 [(w0.heap.size,0,.int .i64 A0),(w0.heap.size + 1,0,.int .i64 A1),(w0.heap.size + 2,0,.int .i64 zk),(w0.heap.size + 2,1,.int .i64 zn),(w0.heap.size + 2,2,.string zs'),(w0.heap.size + 2,3,.int .i64 ze)] V →
     (((V.cell? ⟨w0.heap.size,0,none⟩ = some (.int .i64 A0) ∧ V.cell? ⟨w0.heap.size + 1,0,none⟩ = some (.int .i64 A1) ∧ V.cell? ⟨w0.heap.size + 2,0,none⟩ = some (.int .i64 zk) ∧ V.cell? ⟨w0.heap.size + 2,1,none⟩ = some (.int .i64 zn) ∧ V.cell? ⟨w0.heap.size + 2,2,none⟩ = some (.string zs') ∧ V.cell? ⟨w0.heap.size + 2,3,none⟩ = some (.int .i64 ze)) ∧
      (V.frozen? ⟨w0.heap.size,0,none⟩ = false ∧ V.frozen? ⟨w0.heap.size + 1,0,none⟩ = false ∧ V.frozen? ⟨w0.heap.size + 2,0,none⟩ = false ∧ V.frozen? ⟨w0.heap.size + 2,1,none⟩ = false ∧ V.frozen? ⟨w0.heap.size + 2,2,none⟩ = false ∧ V.frozen? ⟨w0.heap.size + 2,3,none⟩ = false)) ∧
      RetT w0 [(w0.heap.size,0,.int .i64 A0),(w0.heap.size + 1,0,.int .i64 A1),(w0.heap.size + 2,0,.int .i64 zk),(w0.heap.size + 2,1,.int .i64 zn),(w0.heap.size + 2,2,.string zs'),(w0.heap.size + 2,3,.int .i64 ze)] V)):=by
   intro V h
   exact ⟨⟨⟨(h.2 (_,_,_) J58).2.1,(h.2 (_,_,_) J58).2.1,(h.2 (_,_,_) J58).2.1,(h.2 (_,_,_) J58).2.1,(h.2 (_,_,_) J58).2.1,(h.2 (_,_,_) J58).2.1⟩,
     (h.2 (_,_,.int .i64 A0) J58).2.2,(h.2 (_,_,.int .i64 A1) J58).2.2,(h.2 (_,_,.int .i64 zk) J58).2.2,(h.2 (_,_,.int .i64 zn) J58).2.2,(h.2 (_,_,.string zs') J58).2.2,(h.2 (_,_,.int .i64 ze) J58).2.2⟩,h⟩
 have X5 : Hid (Ext w0 W5):=HR5.1
 obtain ⟨⟨⟨k0,k2,k3,k4,k5,k6⟩,f0,f2,f3,f4,f5,f6⟩,_⟩:=mkS.out _ HR5
 have zz : w0.heap.size + 2 < W5.heap.size:=World.block_lt_of_cell? _ _ k3
 have zz1 : w0.heap.size + 1 < W5.heap.size:=World.block_lt_of_cell? _ _ k2
 have zz0 : w0.heap.size < W5.heap.size:=World.block_lt_of_cell? _ _ k0
 clear HR5
 have HR6 : Hid (RetT w0 [(w0.heap.size,0,.int .i64 A0),(w0.heap.size + 1,0,.int .i64 A1),(w0.heap.size + 2,0,.int .i64 zk),(w0.heap.size + 2,1,.int .i64 zn),(w0.heap.size + 2,2,.string zs'),(w0.heap.size + 2,3,.int .i64 ze)] W5):=by
   refine ⟨X5.out,fun q hq=>?_⟩
   simp only [List.mem_cons,List.not_mem_nil,or_false] at hq
   rcases hq with rfl | rfl | rfl | rfl | rfl | rfl
   · exact ⟨Nat.le_refl _,k0,f0⟩
   · exact ⟨Nat.le_succ _,k2,f2⟩
   · exact ⟨by show _ ≤ _ + 2;omega,k3,f3⟩
   · exact ⟨by show _ ≤ _ + 2;omega,k4,f4⟩
   · exact ⟨by show _ ≤ _ + 2;omega,k5,f5⟩
   · exact ⟨by show _ ≤ _ + 2;omega,k6,f6⟩
 go_region
 all_goals
   go_wp2_with fail
   clear k0 k2 k3 k4 k5 k6 f0 f2 f3 f4 f5 f6 zz zz1 zz0
   generalize hW6 : World.drew _ = W6
   have R6:=mkS.out W6 (by rw [← hW6];with_reducible repeat (first | exact HR6.out | apply RetT.drewN | apply RetT.drew | (refine RetT.set ?_ J58)))
   obtain ⟨⟨⟨k0,k2,k3,k4,k5,k6⟩,_⟩,R6⟩:=R6
   refine bodyPost_ret (v:=.tuple #[.int .i64 A0,.int .i64 A1,.agg #[.int .i64 zk,.int .i64 zn,.string zs',.int .i64 ze]]) (by simp [results,results234,go_sem,k0,k2,k3,k4,k5,k6]) rfl ⟨?_,R6.1⟩
   rw [HR.out.1,HR.out.2,HD.out]
theorem Zer.env {hi b : Nat} {W W' : World} (h : Zer W b) (e : Env hi W W') (hb : b < hi) : Zer W' b:=by
 obtain ⟨o,k⟩:=h.2.env e hb
 exact ⟨h.1.cells e.1.size k,o⟩
theorem Zer.far {W : World} {b c : Nat} (h : Zer W b) (hc : c ≠ b) (o : Nat) (v : Value) : Zer (W.setCell ⟨c,o,none⟩ v) b:=⟨h.1.far1 hc o v,h.2.set _ _⟩
structure Utm (p : Int → Int → Bool) (g : Nat) (av : Value) (l : List V) (W : World) : Prop where
 z : g + 3 < W.heap.size
 a0 : W.cell? ⟨g,0,none⟩ = some av
 b0 : W.cell? ⟨g + 2,0,none⟩ = some (.int .i64 (bestN p l))
 c0 : W.cell? ⟨g + 3,0,none⟩ = some (.int .i64 (l.length : Int))
 f2 : W.frozen? ⟨g + 2,0,none⟩ = false
 f3 : W.frozen? ⟨g + 3,0,none⟩ = false
 r : Zer W (g + 1)
theorem Utm.env {p : Int → Int → Bool} {g hi : Nat} {av : Value} {l : List V} {W W' : World} (h : Utm p g av l W) (e : Env hi W W') (hg : g + 4 ≤ hi) : Utm p g av l W':=by
 obtain ⟨z,a0,b0,c0,f2,f3,r⟩:=h
 have k0:=e.at (b:=g) J2
 have k2:=e.at (b:=g + 2) J2
 have k3:=e.at (b:=g + 3) J2
 exact ⟨llL z e.1.size,(k0 0).1.trans a0,(k2 0).1.trans b0,(k3 0).1.trans c0,(k2 0).2.trans f2,(k3 0).2.trans f3,r.env e J2⟩
theorem Utm.put0 {p : Int → Int → Bool} {g : Nat} {av : Value} {l : List V} {W : World} {x : V} (h : Utm p g av l W) (hx : bestN p (l ++ [x]) = bestN p l) (wk : wrap64 ((l.length : Int) + 1) = ((l.length + 1 : Nat) : Int)) :
   Utm p g av (l ++ [x]) (W.setCell ⟨g + 3,0,none⟩ (.int .i64 (wrap64 ((l.length : Int) + 1)))):=by
 obtain ⟨z,a0,b0,c0,f2,f3,r⟩:=h
 have el : (l ++ [x]).length = l.length + 1:=J58
 refine ⟨by simpa [World.setCell] using z,?_,?_,?_,by simpa [go_sem] using f2,by simpa [go_sem] using f3,r.far J2 _ _⟩
 · rw [wFa _ _ _ _ (by show g + 3 ≠ g;omega)];exact a0
 · rw [hx,wFa _ _ _ _ (by show g + 3 ≠ g + 2;omega)];exact b0
 · rw [el,← wk];exact wSa _ _ _ (by rw [c0])
theorem Utm.put1 {p : Int → Int → Bool} {g : Nat} {av : Value} {l : List V} {W : World} {x : V} (h : Utm p g av l W) (hx : bestN p (l ++ [x]) = x.n) (wk : wrap64 ((l.length : Int) + 1) = ((l.length + 1 : Nat) : Int)) :
   Utm p g av (l ++ [x]) ((W.setCell ⟨g + 2,0,none⟩ (.int .i64 x.n)).setCell ⟨g + 3,0,none⟩ (.int .i64 (wrap64 ((l.length : Int) + 1)))):=by
 obtain ⟨z,a0,b0,c0,f2,f3,r⟩:=h
 have el : (l ++ [x]).length = l.length + 1:=J58
 refine ⟨by simpa [World.setCell] using z,?_,?_,?_,by simpa [go_sem] using f2,by simpa [go_sem] using f3,(r.far J2 _ _).far J2 _ _⟩
 · rw [wFa _ _ _ _ (by show g + 3 ≠ g;omega),wFa _ _ _ _ (by show g + 2 ≠ g;omega)];exact a0
 · rw [hx,wFa _ _ _ _ (by show g + 3 ≠ g + 2;omega)];exact wSa _ _ _ (by rw [b0])
 · rw [el,← wk];exact wSa _ _ _ (by rw [wFa _ _ _ _ (by show g + 2 ≠ g + 3;omega),c0])
def AhC (v : Value) (p : Int → Int → Bool) : Prop:=∃ K,v = .func (.func K) #[] #[] ∧ (∀ args W,(callFunc K args).run Tryz.prog W = .ok (.enter K args) W) ∧
 ∀ W a b,Calls Tryz.prog K #[.int .i64 a,.int .i64 b] W fun e w'=>e = .returned (.bool (p a b)) ∧ w' = W
theorem min1_any (a b : Int) (W : World) : Calls Tryz.prog 231 #[.int .i64 a,.int .i64 b] W fun e w'=>e = .returned (.bool (ltB a b)) ∧ w' = W:=by
 have H : Hid (ltB a b = decide (a < b)):=rfl
 go_enter func231,ntmps231
 go_wp2_with fail
 exact K142
theorem max1_any (a b : Int) (W : World) : Calls Tryz.prog 232 #[.int .i64 a,.int .i64 b] W fun e w'=>e = .returned (.bool (gtB a b)) ∧ w' = W:=by
 have H : Hid (gtB a b = decide (a > b)):=rfl
 go_enter func232,ntmps232
 go_wp2_with fail
 exact K142
theorem ah_min : AhC (.func (.func 231) #[] #[]) ltB:=⟨_,rfl,enters_of func231 J3 rfl,fun W a b=>min1_any a b W⟩
theorem ah_max : AhC (.func (.func 232) #[] #[]) gtB:=⟨_,rfl,enters_of func232 J3 rfl,fun W a b=>max1_any a b W⟩
theorem utm1_any (p : Int → Int → Bool) (av : Value) (hv : AhC av p) (w0 : World) (g : Nat) (hg : w0.heap.size ≤ g) (l : List V) (W : World) (x : V) (h : Utm p g av l W) (hE : Ext w0 W) (hl : l.length ≤ 20000000000) :
   Calls Tryz.prog 265 (encV x ++ #[.pointer (some ⟨g + 3,0,none⟩),.pointer (some ⟨g,0,none⟩),.pointer (some ⟨g + 2,0,none⟩)]) W fun e w'=>e = .returned (.tuple #[]) ∧ Utm p g av (l ++ [x]) w' ∧ Mid w0.heap.size (g + 4) W w':=by
 obtain ⟨K,rfl,ent,cK⟩:=hv
 have WK : Hid (wrap64 ((l.length : Int) + 1) = ((l.length + 1 : Nat) : Int)):=wrap_1 _ J2
 have H : Hid (Utm p g (.func (.func K) #[] #[]) l W):=h
 obtain ⟨z,a0,b0,c0,f2,f3,r⟩:=h
 have H0 : Hid (w0.heap.size ≤ g ∧ Ext w0 W):=⟨hg,hE⟩
 have z0 : g < W.heap.size:=J2
 have z2 : g + 2 < W.heap.size:=J2
 have HB : Hid (bestN p (l ++ [x]) = if l.length = 0 then x.n else if p x.n (bestN p l) then x.n else bestN p l):=bestN_app p l x
 rw [show encV x = #[x.dat] from rfl,dat_eq x]
 have HP0 : Hid (∀ o,bestN p (l ++ [x]) = bestN p l → Utm p g (.func (.func K) #[] #[]) (l ++ [x]) ((W.setCell ⟨g + 3,0,none⟩ (.int .i64 (wrap64 ((l.length : Int) + 1)))).alloc o)):=fun o hx =>
   have q:=H.out.put0 hx WK.out
   q.env ((xr.alloc o).env (hi:=g + 4) q.z) nrf
 have HP1 : Hid (∀ o,bestN p (l ++ [x]) = x.n → Utm p g (.func (.func K) #[] #[]) (l ++ [x]) (((W.setCell ⟨g + 2,0,none⟩ (.int .i64 x.n)).setCell ⟨g + 3,0,none⟩ (.int .i64 (wrap64 ((l.length : Int) + 1)))).alloc o)):=fun o hx =>
   have q:=H.out.put1 hx WK.out
   q.env ((xr.alloc o).env (hi:=g + 4) q.z) nrf
 have X0 : Hid (∀ v,Mid w0.heap.size (g + 4) W (W.setCell ⟨g + 3,0,none⟩ v)):=fun v=>((Ext.refl W).mid H0.out.2.size _).set (by have:=H0.out.1;omega) J2 _ _
 have X1 : Hid (∀ v u,Mid w0.heap.size (g + 4) W ((W.setCell ⟨g + 2,0,none⟩ v).setCell ⟨g + 3,0,none⟩ u)):=fun v u=>(((Ext.refl W).mid H0.out.2.size _).set (by have:=H0.out.1;omega) J2 _ _).set (by have:=H0.out.1;omega) J2 _ _
 clear hg hE hl r
 obtain ⟨xk,hxk⟩ : ∃ q,x.k = q:=⟨_,rfl⟩
 obtain ⟨xn,hxn⟩ : ∃ q,x.n = q:=⟨_,rfl⟩
 obtain ⟨xs,hxs⟩ : ∃ q,x.s = q:=⟨_,rfl⟩
 obtain ⟨xe,hxe⟩ : ∃ q,x.e = q:=⟨_,rfl⟩
 rw [hxk,hxn,hxs,hxe]
 rw [hxn] at HP1 HB
 clear hxk hxn hxs hxe
 obtain ⟨m,hm⟩ : ∃ m : Nat,l.length = m:=⟨_,rfl⟩
 rw [hm] at HB HP0 HP1 c0
 obtain ⟨bb,hbb⟩ : ∃ q,bestN p l = q:=⟨_,rfl⟩
 rw [hbb] at HB HP0 b0
 have cA:=fun W=>cK W xn bb
 clear hm hbb cK WK H
 by_cases h0 : m = 0
 · have e0 : ((m : Int) == 0) = true:=J7
   have HX : Hid (bestN p (l ++ [x]) = xn):=by show _ = _;rw [HB.out,if_pos h0]
   clear cA HB h0
   go_enter func265,ntmps265
   exact K73
 · have e0 : ((m : Int) == 0) = false:=J7
   cases hp : p xn bb
   · rw [hp] at cA
     have HX : Hid (bestN p (l ++ [x]) = bb):=by show _ = _;rw [HB.out,if_neg h0,hp];rfl
     clear hp h0 HB
     go_enter func265,ntmps265
     go_wp2_with fail
     refine (cA _).mono ?_
     rintro e w1 ⟨rfl,rfl⟩
     exact K112
   · rw [hp] at cA
     have HX : Hid (bestN p (l ++ [x]) = xn):=by show _ = _;rw [HB.out,if_neg h0,hp];rfl
     clear hp h0 HB
     go_enter func265,ntmps265
     go_wp2_with fail
     refine (cA _).mono ?_
     rintro e w1 ⟨rfl,rfl⟩
     exact K73
theorem ent_utm1 : ∀ args W,(callFunc 265 args).run Tryz.prog W = .ok (.enter 265 args) W:=enters_of func265 J3 rfl
theorem utm_fn (p : Int → Int → Bool) (av : Value) (hv : AhC av p) (w0 : World) (g : Nat) (hg : w0.heap.size ≤ g) : FnC w0 (g + 4) (.func (.func 265) #[] #[.pointer (some ⟨g + 3,0,none⟩),.pointer (some ⟨g,0,none⟩),.pointer (some ⟨g + 2,0,none⟩)]) encV V.ok (fun l W=>Utm p g av l W):=by
 refine ⟨_,_,rfl,ent_utm1,?_,?_⟩
 · intro l W W' h hs e
   exact h.env e nrf
 · intro l W x h hs e hl hx
   exact utm1_any p av hv w0 g hg l W x h e hl
theorem utmost_any (q : Int → Int → Bool) (av : Value) (hv : AhC av q) (w0 : World) (gs : List Ag) (p : Option Addr) (n c : Nat) (hA : RdA w0.heap.size w0 (.slice p n c) gs) (hI : AgI gs) (hlen : (seen gs).length ≤ 10000000000) (hal : gs.length ≤ 10000000000) (hN : Nm w0) :
   Calls Tryz.prog 230 #[.slice p n c,av] w0 fun e w'=>e = .returned (fBest q gs).dat ∧ Ext w0 w':=by
 have HF : Hid (FnC w0 (w0.heap.size + 4) (.func (.func 265) #[] #[.pointer (some ⟨w0.heap.size + 3,0,none⟩),.pointer (some ⟨w0.heap.size,0,none⟩),.pointer (some ⟨w0.heap.size + 2,0,none⟩)]) encV V.ok (fun l W=>Utm q w0.heap.size av l W)):=utm_fn q av hv w0 w0.heap.size nrf
 have H0 : Hid (RdA w0.heap.size w0 (.slice p n c) gs ∧ AgI gs ∧ (seen gs).length ≤ 10000000000 ∧ gs.length ≤ 10000000000 ∧ Nm w0):=⟨hA,hI,hlen,hal,hN⟩
 obtain ⟨K,rfl,_,_⟩:=hv
 clear hA hI hlen hal hN
 go_enter func230,ntmps230
 go_wp2_with fail
 generalize hW3 : (((w0.alloc _).alloc _).alloc _).alloc _ = W3
 have z3 : W3.heap.size = w0.heap.size + 4:=J78
 have E3 : Ext w0 W3:=by rw [← hW3];exact (((xr.alloc _).alloc _).alloc _).alloc _
 have HT : Utm q w0.heap.size (.func (.func K) #[] #[]) [] W3:=by
   refine ⟨by omega,?_,?_,?_,?_,?_,?_,?_⟩
   · rw [← hW3];simp [go_sem]
   · rw [← hW3];simp [go_sem,bestN]
   · rw [← hW3];simp [go_sem]
   · rw [← hW3];simp [go_sem]
   · rw [← hW3];simp [go_sem]
   · rw [← hW3];exact blk_top J58 ((xr.alloc _).alloc _)
   · rw [← hW3];exact Own4.at J58 J9 ((xr.alloc _).alloc _)
 refine (through_any w0 gs _ _ numF (fun l W=>Utm q w0.heap.size (.func (.func K) #[] #[]) l W) W3 p n c (turn_number w0 H0.out.2.2.2.2) (by rw [z3];exact HF.out) numF_okk (H0.out.1.low (Below.mono E3 nrf)) H0.out.2.1 H0.out.2.2.1 H0.out.2.2.2.1 HT E3 H0.out.2.2.2.2).mono ?_
 rintro e w4 ⟨rfl,T4,X4⟩
 have HX4 : Hid (Ext w0 w4):=X4
 obtain ⟨tz,ta,tb,tc,tf2,tf3,tr,tow⟩:=T4
 have HB4 : Hid (Blk w4 (w0.heap.size + 1) (.int .i64 0) (.int .i64 0) (.string ⟨#[]⟩) (.int .i64 0)):=tr
 obtain ⟨c0z,⟨c0_0,c0_1,c0_2,c0_3⟩,c0f0,c0f1,c0f2,c0f3⟩:=tr
 have HR : Hid (fBest q gs = if (bad numF (seen gs)).k = 4 then bad numF (seen gs) else mkNum (bestN q (got numF (seen gs)))):=rfl
 have HD : Hid ((bad numF (seen gs)).dat = .agg #[.int .i64 (bad numF (seen gs)).k,.int .i64 (bad numF (seen gs)).n,.string (bad numF (seen gs)).s,.int .i64 (bad numF (seen gs)).e]):=dat_eq _
 have hD:=dat_eq (bad numF (seen gs))
 obtain ⟨zk,hzk⟩ : ∃ r,(bad numF (seen gs)).k = r:=⟨_,rfl⟩
 obtain ⟨zn,hzn⟩ : ∃ r,(bad numF (seen gs)).n = r:=⟨_,rfl⟩
 obtain ⟨zs',hzs⟩ : ∃ r,(bad numF (seen gs)).s = r:=⟨_,rfl⟩
 obtain ⟨ze,hze⟩ : ∃ r,(bad numF (seen gs)).e = r:=⟨_,rfl⟩
 rw [hzk,hzn,hzs,hze] at HD hD
 rw [hzk] at HR
 obtain ⟨bb,hbb⟩ : ∃ r,bestN q (got numF (seen gs)) = r:=⟨_,rfl⟩
 rw [hbb] at tb HR
 rw [hD]
 have tz2 : w0.heap.size + 2 < w4.heap.size:=J2
 clear hzk hzn hzs hze hD hbb hW3 z3 E3 HT X4 tz ta tc tf2 tf3 tow HF
 by_cases h4 : zk = 4
 · have e4 : (zk == 4) = true:=J77
   have HZ : Hid (fBest q gs = bad numF (seen gs)):=by show _ = _;rw [HR.out,if_pos h4]
   clear h4 HR tb tz2
   go_wp2_with fail
   exact finB ((HB4.out.set _ _ _ _).al _) rfl (((((HX4.out.setCell J58 _).setCell J58 _).setCell J58 _).setCell J58 _).alloc _) (fun g0 g1 g2 g3=>by simp [results,results230,go_sem,g0,g1,g2,g3]) (fun h=>⟨by rw [HZ.out,HD.out],h⟩)
 · have e4 : (zk == 4) = false:=J77
   have HZ : Hid (fBest q gs = mkNum bb):=by show _ = _;rw [HR.out,if_neg h4]
   have cN:=fun W h=>vnum_any bb W h
   obtain ⟨q0,q1,q2,q3,hq⟩:=dat4 (mkNum bb)
   rw [hq] at cN
   have HQ : Hid ((mkNum bb).dat = .agg #[.int .i64 q0,.int .i64 q1,.string q2,.int .i64 q3]):=hq
   clear h4 HR hq
   go_wp2_with fail
   refine (cN _ (H0.out.2.2.2.2.ext (HX4.out.alloc _))).mono ?_
   rintro e w5 ⟨rfl,E5⟩
   have HB5 : Hid (Blk w5 (w0.heap.size + 1) (.int .i64 0) (.int .i64 0) (.string ⟨#[]⟩) (.int .i64 0)):=(HB4.out.al _).ext E5
   have HX5 : Hid (Ext w0 w5):=(HX4.out.alloc _).trans E5
   clear c0z c0_0 c0_1 c0_2 c0_3 c0f0 c0f1 c0f2 c0f3 tb tz2 E5
   obtain ⟨c0z,⟨c0_0,c0_1,c0_2,c0_3⟩,c0f0,c0f1,c0f2,c0f3⟩:=HB5.out
   go_wp2_with fail
   exact finB (HB5.out.set _ _ _ _) rfl ((((HX5.out.setCell J58 _).setCell J58 _).setCell J58 _).setCell J58 _) (fun g0 g1 g2 g3=>by simp [results,results230,go_sem,g0,g1,g2,g3]) (fun h=>⟨by rw [HZ.out,HQ.out],h⟩)
theorem Pair.put {w : World} {b : Nat} {x : Int} (h : Pair w b x) (y : Int) (hu : uhi y = uhi x) : Pair (w.setCell ⟨b,1,none⟩ (.int .u64 (loOf y))) b y:=by
 obtain ⟨z,c0,c1,f0,f1⟩:=h
 refine ⟨by simpa [World.setCell] using z,?_,?_,?_,?_⟩
 · rw [wO _ _ _ _ J58,hu];exact c0
 · exact wSa _ ⟨b,1,none⟩ _ (by rw [c1])
 · rw [wFz];exact f0
 · rw [wFz];exact f1
def Keep (w : World) (X D : Int) (wr : World) : Prop:=Ext w wr ∧ Pair wr w.heap.size X ∧ Pair wr (w.heap.size + 1) D ∧ Pair wr (w.heap.size + 2) 0 ∧ Pair wr (w.heap.size + 3) 0
theorem Keep.ext {w W W' : World} {X D : Int} (h : Keep w X D W) (e : Ext W W') : Keep w X D W' :=
 ⟨h.1.trans e,h.2.1.ext e,h.2.2.1.ext e,h.2.2.2.1.ext e,h.2.2.2.2.ext e⟩
theorem Keep.far {w W : World} {X D : Int} (h : Keep w X D W) {c : Nat} (hc : w.heap.size + 4 ≤ c) (o : Nat) (v : Value) : Keep w X D (W.setCell ⟨c,o,none⟩ v) :=
 ⟨h.1.setCell (by show w.heap.size ≤ c;omega) _,h.2.1.far J2 _ _,h.2.2.1.far J2 _ _,h.2.2.2.1.far J2 _ _,h.2.2.2.2.far J2 _ _⟩
def I128 (x : Int) : Prop:=-170141183460469231731687303715884105728 ≤ x ∧ x ≤ 170141183460469231731687303715884105727
theorem near_eq (X d : Nat) (h : 0 < d) : (nearQ X d : Int) = (2 * (X : Int) + d) / (2 * d):=by
 have e:=Nat.div_add_mod X d
 have hm:=Nat.mod_lt X h
 unfold nearQ
 generalize hq : X / d = q at *
 generalize hr : X % d = r at *
 have hX : (X : Int) = d * q + r:=by rw [← e];simp
 have e2 : (2 * (X : Int) + d) = (2 * r + d) + (2 * d) * q:=by rw [hX,Int.mul_add,Int.mul_assoc];omega
 rw [e2,Int.add_mul_ediv_left _ _ J2]
 by_cases hc : d ≤ 2 * r
 · rw [if_pos hc]
   have : (2 * (r : Int) + d) / (2 * d) = 1:=by
     apply Int.le_antisymm
     · have : (2 * (r : Int) + d) / (2 * d) < 2:=Int.ediv_lt_of_lt_mul J2 J2
       omega
     · exact Int.le_ediv_of_mul_le J2 J2
   rw [this];simp;omega
 · rw [if_neg hc]
   have : (2 * (r : Int) + d) / (2 * d) = 0:=Int.ediv_eq_zero_of_lt J2 J2
   rw [this];simp
theorem abs_nat (x : Int) : absI x = (x.natAbs : Int):=J73
theorem mean_near (x : Int) (d : Nat) (h : 0 < d) : meanQ x d = nearQ x.natAbs d:=by
 unfold meanQ
 rw [near_eq _ _ h,abs_nat]
theorem meanB_near (x : Int) (d : Nat) (h : 0 < d) : meanB x d = sgnB (nearQ x.natAbs d):=by
 unfold meanB sgnB
 rw [mean_near x d h,Bool.eq_iff_iff]
 simp
 omega
theorem meanV_near (x : Int) (d : Nat) (h : 0 < d) : meanV x d = sgnV (decide (x < 0)) (nearQ x.natAbs d):=by
 unfold meanV sgnV
 rw [meanB_near x d h,mean_near x d h]
 cases sgnB (nearQ x.natAbs d)
 · rfl
 · by_cases hx : x < 0 <;> simp [hx]
theorem hi_neg (x : Int) (h : I128 x) : decide (hiOf x < 0) = decide (x < 0):=by
 obtain ⟨h1,h2⟩:=h
 rw [Bool.eq_iff_iff]
 unfold hiOf sg64
 simp
 omega
theorem fsize_any (x : Int) (hx : I128 x) (W : World) : Calls Tryz.prog 281 #[.agg #[.int .i64 (hiOf x),.int .u64 (loOf x)]] W fun e w'=>e = .returned (.tuple #[.int .u64 (uhi (absI x)),.int .u64 (loOf (absI x))]) ∧ Ext W w':=by
 have p1:=uhi_hiOf x
 have HN:=hi_neg x hx
 obtain ⟨u1,u2⟩:=uhi_bd x
 obtain ⟨l1,l2⟩:=lo_bd x
 by_cases hs : x < 0
 · have hd : decide (hiOf x < 0) = true:=J80
   have hd' : hiOf x < 0:=by simpa using hd
   have HR : Hid ((0 - uhi x - bor 0 (loOf x)) % 18446744073709551616 = uhi (absI x) ∧ (0 - loOf x) % 18446744073709551616 = loOf (absI x)):=by
     show _ ∧ _
     unfold absI;rw [if_pos hs];unfold uhi loOf bor
     split <;> (constructor <;> omega)
   obtain ⟨R0,hR0⟩ : ∃ r,uhi (absI x) = r:=⟨_,rfl⟩
   obtain ⟨R1,hR1⟩ : ∃ r,loOf (absI x) = r:=⟨_,rfl⟩
   rw [hR0,hR1] at HR ⊢
   have k1:=fun W=>sub64_0 0 (loOf x) J9 l1 l2 W
   have bb:=bor_bd 0 (loOf x)
   have k2:=fun W=>sub64 0 (uhi x) (bor 0 (loOf x)) J9 u1 u2 bb.1 bb.2 W
   rw [HR.out.1] at k2
   rw [HR.out.2] at k1
   clear HN hs hR0 hR1
   generalize hiOf x = a0 at *
   generalize loOf x = a1 at *
   generalize uhi x = a2 at *
   generalize bor 0 a1 = a3 at *
   generalize bor 0 (a2 + a3) = a4 at *
   clear HR bb u1 u2 l1 l2
   exact K89
 · have hd : decide (hiOf x < 0) = false:=J80
   have hd' : ¬ hiOf x < 0:=by simpa using hd
   have e : absI x = x:=by unfold absI;rw [if_neg hs]
   rw [e]
   clear HN hs e
   generalize hiOf x = a0 at *
   generalize loOf x = a1 at *
   generalize uhi x = a2 at *
   clear u1 u2 l1 l2
   exact K89
theorem quotient_any (x : Int) (hx : I128 x) (n : Nat) (hn : 0 < n) (hn' : n ≤ 9223372036854775807) (W : World) : Calls Tryz.prog 266 #[.agg #[.int .i64 (hiOf x),.int .u64 (loOf x)],.int .u64 (n : Int)] W fun e w' =>
   e = .returned (.tuple #[.int .i64 (sgnV false (nearQ x.natAbs n)),.bool (sgnB (nearQ x.natAbs n))]) ∧ Ext W w':=by
 have cS:=fun W=>fsize_any x hx W
 rw [abs_nat] at cS
 have hX : x.natAbs < 340282366920938463463374607431768211456:=by obtain ⟨h1,h2⟩:=hx;omega
 obtain ⟨X,hXX⟩ : ∃ X,x.natAbs = X:=⟨_,rfl⟩
 rw [hXX] at cS hX ⊢
 clear hXX
 obtain ⟨hi,hhi⟩ : ∃ hi,X / 18446744073709551616 = hi:=⟨_,rfl⟩
 obtain ⟨lo,hlo⟩ : ∃ lo,X % 18446744073709551616 = lo:=⟨_,rfl⟩
 have e1 : uhi (X : Int) = (hi : Int):=by unfold uhi;omega
 have e2 : loOf (X : Int) = (lo : Int):=by unfold loOf;omega
 have hl : lo < 18446744073709551616:=J2
 have hh : hi < 18446744073709551616:=J2
 have e3 : hi * 18446744073709551616 + lo = X:=J2
 rw [e1,e2] at cS
 clear e1 e2 hhi hlo hx
 generalize hiOf x = a0 at *
 generalize loOf x = a1 at *
 by_cases hg : n ≤ hi
 · have HS : Hid (sgnV false (nearQ X n) = 0 ∧ sgnB (nearQ X n) = false):=by
     have : 9223372036854775807 < nearQ X n:=by
       have h2 : 18446744073709551616 ≤ X / n:=by
         rw [Nat.le_div_iff_mul_le hn]
         calc 18446744073709551616 * n ≤ 18446744073709551616 * hi:=Nat.mul_le_mul_left _ hg
           _ ≤ X:=by omega
       unfold nearQ;omega
     exact ⟨sgnV_no _ this,sgnB_no this⟩
   have hgI : (hi : Int) ≥ (n : Int):=J2
   have hgd : decide ((hi : Int) ≥ (n : Int)) = true:=by simpa using hgI
   clear hg e3 hX
   go_enter func266,ntmps266
   go_wp2_with fail
   refine (cS _).mono ?_
   rintro e w1 ⟨rfl,E1⟩
   go_wp2_with fail
   go_ret2
   exact ⟨ret_ib HS.out.1.symm HS.out.2.symm,(xr.alloc _).trans E1⟩
 · have hgI : ¬ (hi : Int) ≥ (n : Int):=J2
   have hgd : decide ((hi : Int) ≥ (n : Int)) = false:=by simpa using hgI
   have cD:=fun W=>div64_any hi lo n J2 hl J2 W
   rw [e3] at cD
   have hq : X / n < 18446744073709551616:=by
     rw [Nat.div_lt_iff_lt_mul hn]
     calc X < (hi + 1) * 18446744073709551616:=by omega
       _ ≤ n * 18446744073709551616:=Nat.mul_le_mul_right _ J2
       _ = 18446744073709551616 * n:=Nat.mul_comm _ _
   have hr:=Nat.mod_lt X hn
   have hnear : nearQ X n = X / n + (if n ≤ 2 * (X % n) then 1 else 0):=rfl
   obtain ⟨q,hqq⟩ : ∃ q,X / n = q:=⟨_,rfl⟩
   obtain ⟨r,hrr⟩ : ∃ r,X % n = r:=⟨_,rfl⟩
   obtain ⟨N,hNN⟩ : ∃ N,nearQ X n = N:=⟨_,rfl⟩
   rw [hqq] at cD hq hnear
   rw [hrr] at cD hr hnear
   rw [hNN] at hnear ⊢
   clear hqq hrr hNN e3 hX hl hh hg
   by_cases hb : 9223372036854775807 < q
   · have HS : Hid (sgnV false N = 0 ∧ sgnB N = false):=⟨sgnV_no _ J2,sgnB_no J2⟩
     have hbd : decide ((q : Int) > 9223372036854775807) = true:=J7
     have hbI : (q : Int) > 9223372036854775807:=J2
     clear hnear hb hq
     exact K44
   have hbd : decide ((q : Int) > 9223372036854775807) = false:=J7
   have hbI : ¬ (q : Int) > 9223372036854775807:=J2
   have w1 : IntKind.u64.wrap ((n : Int) - (r : Int)) = (n : Int) - r:=J60
   have w2 : IntKind.u64.wrap ((q : Int) + 1) = (q : Int) + 1:=J60
   have w3 : wrap64 ((q : Int) + 1) = (q : Int) + 1 ∨ q = 9223372036854775807:=J65
   have w4 : wrap64 (q : Int) = (q : Int):=J65
   by_cases hc : n ≤ 2 * r
   · rw [if_pos hc] at hnear
     have hcd : decide ((r : Int) ≥ (n : Int) - (r : Int)) = true:=J7
     have hcI : (r : Int) ≥ (n : Int) - (r : Int):=J2
     by_cases hm : q = 9223372036854775807
     · have HS : Hid (sgnV false N = 0 ∧ sgnB N = false):=⟨sgnV_no _ J2,sgnB_no J2⟩
       subst hm
       clear hnear hb hq hc w3 w2 w4 hbd hbI
       have w5 : IntKind.u64.wrap (((9223372036854775807 : Nat) : Int) + 1) = 9223372036854775808:=by decide
       exact K44
     · have HS : Hid (sgnV false N = (q : Int) + 1 ∧ sgnB N = true):=⟨by rw [sgnV_yes false J2,hnear];simp,sgnB_yes J2⟩
       have w3':=w3.resolve_right hm
       have hb2 : decide ((q : Int) + 1 > 9223372036854775807) = false:=J7
       have hb3 : ¬ (q : Int) + 1 > 9223372036854775807:=J2
       obtain ⟨q1,hq1⟩ : ∃ q1 : Int,(q : Int) + 1 = q1:=⟨_,rfl⟩
       rw [hq1] at w2 w3' hb2 hb3 HS
       have w6 : IntKind.u64.wrap ((q : Int) + 1) = q1:=by rw [hq1];exact w2
       have WQ : Hid (wrap64 q1 = q1):=w3'
       clear hnear hb hq hc w3 hm w4 w2 hq1 w3'
       go_enter func266,ntmps266
       go_wp2_with fail
       refine (cS _).mono ?_
       rintro e w1 ⟨rfl,E1⟩
       go_wp2_with fail
       refine (cD _).mono ?_
       rintro e w2 ⟨rfl,E2⟩
       go_wp2_with fail
       go_ret2
       exact ⟨ret_ib (by first | exact HS.out.1.symm | exact WQ.out.trans HS.out.1.symm) HS.out.2.symm,((xr.alloc _).trans E1).trans E2⟩
   · rw [if_neg hc] at hnear
     have hcd : decide ((r : Int) ≥ (n : Int) - (r : Int)) = false:=J7
     have hcI : ¬ (r : Int) ≥ (n : Int) - (r : Int):=J2
     have HS : Hid (sgnV false N = (q : Int) ∧ sgnB N = true):=⟨by rw [sgnV_yes false J2,hnear];simp,sgnB_yes J2⟩
     clear hnear hb hq hc w3 w2
     exact K44
theorem sgnV_neg (N : Nat) : sgnV true N = -sgnV false N:=by unfold sgnV;split <;> simp
theorem sgnV_bd (N : Nat) : 0 ≤ sgnV false N ∧ sgnV false N ≤ 9223372036854775807:=by
 unfold sgnV
 split
 · rename_i h
   unfold sgnB at h
   simp at h ⊢
   omega
 · omega
theorem sgnV_no0 {N : Nat} (h : sgnB N = false) (b : Bool) : sgnV b N = 0:=by unfold sgnV;rw [h];rfl
theorem mean_pos (x : Int) (hx : I128 x) (n : Nat) (hn : 0 < n) (hn' : n ≤ 9223372036854775807) (W : World) : Calls Tryz.prog 233 #[.agg #[.int .i64 (hiOf x),.int .u64 (loOf x)],.int .i64 (n : Int)] W fun e w' =>
   e = .returned (.tuple #[.int .i64 (sgnV (decide (x < 0)) (nearQ x.natAbs n)),.bool (sgnB (nearQ x.natAbs n))]) ∧ Ext W w':=by
 have cQ:=fun W=>quotient_any x hx n hn hn' W
 have HN:=hi_neg x hx
 have d1 : decide ((n : Int) < 1) = false:=J7
 have d2 : ¬ (n : Int) < 1:=J2
 have wn : IntKind.u64.wrap (n : Int) = (n : Int):=J60
 obtain ⟨N,hN⟩ : ∃ N,nearQ x.natAbs n = N:=⟨_,rfl⟩
 rw [hN] at cQ ⊢
 have bd:=sgnV_bd N
 have hi0 : ∃ z : Int,hiOf x = z:=⟨_,rfl⟩
 obtain ⟨a0,ha0⟩:=hi0
 obtain ⟨a1,ha1⟩ : ∃ z : Int,loOf x = z:=⟨_,rfl⟩
 rw [ha0,ha1] at cQ
 rw [ha0] at HN
 rw [ha0,ha1]
 cases hb : sgnB N
 · rw [sgnV_no0 hb] at cQ ⊢
   rw [hb] at cQ
   clear HN hN bd hb ha0 ha1 hn hn'
   go_enter func233,ntmps233
   go_wp2_with fail
   refine (cQ _).mono ?_
   rintro e w1 ⟨rfl,E1⟩
   go_wp2_with fail
   go_ret2
   exact ⟨rfl,(xr.alloc _).trans E1⟩
 · rw [hb] at cQ
   by_cases hs : x < 0
   · have hd : decide (a0 < 0) = true:=J80
     have hd' : a0 < 0:=by simpa using hd
     have e : decide (x < 0) = true:=by simpa using hs
     rw [e,sgnV_neg]
     generalize sgnV false N = y at *
     have wy : wrap64 (-y) = -y:=J65
     clear HN hN hb ha0 ha1 hn hn' e hs
     exact K83
   · have hd : decide (a0 < 0) = false:=J80
     have hd' : ¬ a0 < 0:=by simpa using hd
     have e : decide (x < 0) = false:=by simpa using hs
     rw [e]
     generalize sgnV false N = y at *
     clear HN hN hb ha0 ha1 hn hn' e hs bd
     exact K83
theorem mean_no {x n : Int} (h : ¬ 1 ≤ n) : meanB x n = false ∧ meanV x n = 0:=by
 have : meanB x n = false:=by unfold meanB;simp;omega
 exact ⟨this,by unfold meanV;rw [this];rfl⟩
theorem fmean_any (x : Int) (hx : I128 x) (n : Int) (hn : I64 n) (W : World) : Calls Tryz.prog 233 #[.agg #[.int .i64 (hiOf x),.int .u64 (loOf x)],.int .i64 n] W fun e w' =>
   e = .returned (.tuple #[.int .i64 (meanV x n),.bool (meanB x n)]) ∧ Ext W w':=by
 obtain ⟨h1,h2⟩:=hn
 by_cases h : 1 ≤ n
 · obtain ⟨d,rfl⟩:=Int.eq_ofNat_of_zero_le (show 0 ≤ n by omega)
   rw [meanB_near x d J2,meanV_near x d J2]
   exact mean_pos x hx d J2 J2 W
 · have d1 : decide (n < 1) = true:=J7
   have d2 : n < 1:=J2
   rw [(mean_no h).1,(mean_no h).2]
   generalize hiOf x = a0
   generalize loOf x = a1
   clear h
   go_enter func233,ntmps233
   go_wp2_with fail
   go_ret2
   exact ⟨rfl,xr.alloc _⟩
theorem RdA.to {B : Nat} {W W' : World} {v : Value} {l : List Ag} (h : RdA B W v l) (hB : B ≤ W.heap.size) (e : Ext W W') : RdA W'.heap.size W' v l:=((h.up hB).low e).up e.size
theorem RdV.to {B : Nat} {W W' : World} {v : Value} {l : List Rw} (h : RdV B W v l) (hB : B ≤ W.heap.size) (e : Ext W W') : RdV W'.heap.size W' v l:=((h.up hB).low e).up e.size
structure Fit (W : World) (v : Value) (gs : List Ag) : Prop where
 rd : RdA W.heap.size W v gs
 i : AgI gs
 s : (seen gs).length ≤ 10000000000
 l : gs.length ≤ 10000000000
theorem Fit.ext {W W' : World} {v : Value} {gs : List Ag} (h : Fit W v gs) (e : Ext W W') : Fit W' v gs:=⟨h.rd.to nrf e,h.i,h.s,h.l⟩
theorem ftold_any (n : Int) (b : Bool) (W : World) (hN : Nm W) : Calls Tryz.prog 229 #[.int .i64 n,.bool b] W fun e w'=>e = .returned (toldR b n).dat ∧ Ext W w':=by
 have c1:=fun W h=>vnum_any n W h
 have c2:=fun W h=>err_any 4 W h
 rw [mkErr_is ⟨by decide,by decide⟩] at c2
 cases b with
 | false =>
   have H : Hid (toldR false n = .err 4):=rfl
   simp only [V.dat] at c2
   clear c1
   go_enter func229,ntmps229
   go_wp2_with fail
   refine (c2 _ (hN.ext (xr.alloc _))).mono ?_
   rintro e w1 ⟨rfl,E1⟩
   obtain ⟨z,⟨k0,k1,k2,k3⟩,f0,f1,f2,f3⟩:=blk_top (b:=W.heap.size) J58 E1
   go_wp2_with fail
   exact fin4 k0 k1 k2 k3 rfl J58 ((xr.alloc _).trans E1) (fun W g0 g1 g2 g3=>by simp [results,results229,go_sem,g0,g1,g2,g3]) (fun W h=>⟨by rw [H.out];rfl,h⟩)
 | true =>
   have H : Hid (toldR true n = mkNum n):=rfl
   obtain ⟨q0,q1,q2,q3,hq⟩:=dat4 (mkNum n)
   rw [hq] at c1
   have HQ : Hid ((mkNum n).dat = .agg #[.int .i64 q0,.int .i64 q1,.string q2,.int .i64 q3]):=hq
   clear c2 hq
   go_enter func229,ntmps229
   go_wp2_with fail
   refine (c1 _ (hN.ext (xr.alloc _))).mono ?_
   rintro e w1 ⟨rfl,E1⟩
   obtain ⟨z,⟨k0,k1,k2,k3⟩,f0,f1,f2,f3⟩:=blk_top (b:=W.heap.size) J58 E1
   go_wp2_with fail
   exact fin4 k0 k1 k2 k3 rfl J58 ((xr.alloc _).trans E1) (fun W g0 g1 g2 g3=>by simp [results,results229,go_sem,g0,g1,g2,g3]) (fun W h=>⟨by rw [H.out,HQ.out],h⟩)
theorem sum_bd {l : List V} (h : AllN l) (hl : l.length ≤ 20000000000) : I128 (sumN l):=by
 have hb : ∀ v ∈ l,-9223372036854775808 ≤ v.n ∧ v.n ≤ 9223372036854775807:=fun v hv=>by
   obtain ⟨n,rfl,h1,_⟩:=h v hv
   exact h1
 have h1:=sum_le (c:=9223372036854775807) (fun v hv=>(hb v hv).2)
 have h2:=le_sum (c:=-9223372036854775808) (fun v hv=>(hb v hv).1)
 exact K129
theorem Fit.sum {W : World} {v : Value} {gs : List Ag} (h : Fit W v gs) : I128 (sumN (got numF (seen gs))):=sum_bd (got_nums _ (seen_ok gs h.i)) (Nat.le_trans (got_len _ _) (Nat.le_trans h.s J9))
theorem Fit.num {W : World} {v : Value} {gs : List Ag} (h : Fit W v gs) : (got numF (seen gs)).length ≤ 10000000000:=Nat.le_trans (got_len _ _) h.s
theorem fsum_any (gs : List Ag) (W : World) (p : Option Addr) (n c : Nat) (hF : Fit W (.slice p n c) gs) (hN : Nm W) :
   Calls Tryz.prog 179 #[.slice p n c] W fun e w'=>e = .returned (fSum gs).dat ∧ Ext W w':=by
 have HF : Hid (Fit W (.slice p n c) gs ∧ Nm W):=⟨hF,hN⟩
 have HS : Hid (fSum gs = if (bad numF (seen gs)).k = 4 then bad numF (seen gs) else toldR (toldB (sumN (got numF (seen gs)))) (toldV (sumN (got numF (seen gs))))):=rfl
 have CT : Hid (∀ V,Ext W V → Calls Tryz.prog 228 #[.slice p n c] V fun e w'=>e = .returned (.tuple #[.agg #[.int .i64 (hiOf (sumN (got numF (seen gs)))),.int .u64 (loOf (sumN (got numF (seen gs))))],.int .i64 ((got numF (seen gs)).length : Int),(bad numF (seen gs)).dat]) ∧ Ext V w'):=fun V e =>
   have f:=hF.ext e
   total_any V gs p n c f.rd f.i f.s f.l (hN.ext e)
 have cTo:=fun W=>told_acc (sumN (got numF (seen gs))) W
 have cR:=fun W h=>ftold_any (toldV (sumN (got numF (seen gs)))) (toldB (sumN (got numF (seen gs)))) W h
 clear hF hN
 rw [dat_eq (bad numF (seen gs))] at CT
 obtain ⟨q0,q1,q2,q3,hq⟩:=dat4 (toldR (toldB (sumN (got numF (seen gs)))) (toldV (sumN (got numF (seen gs)))))
 rw [hq] at cR
 have HQ : Hid ((toldR (toldB (sumN (got numF (seen gs)))) (toldV (sumN (got numF (seen gs))))).dat = .agg #[.int .i64 q0,.int .i64 q1,.string q2,.int .i64 q3]):=hq
 clear hq
 generalize sumN (got numF (seen gs)) = S at *
 generalize hiOf S = S0 at *
 generalize loOf S = S1 at *
 generalize toldV S = tv at *
 generalize toldB S = tb at *
 generalize ((got numF (seen gs)).length : Int) = C0 at *
 have HB : Hid ((bad numF (seen gs)).dat = .agg #[.int .i64 (bad numF (seen gs)).k,.int .i64 (bad numF (seen gs)).n,.string (bad numF (seen gs)).s,.int .i64 (bad numF (seen gs)).e]):=dat_eq _
 generalize bad numF (seen gs) = z at *
 obtain ⟨zk,hzk⟩ : ∃ r,z.k = r:=⟨_,rfl⟩
 obtain ⟨zn,hzn⟩ : ∃ r,z.n = r:=⟨_,rfl⟩
 obtain ⟨zs',hzs⟩ : ∃ r,z.s = r:=⟨_,rfl⟩
 obtain ⟨ze,hze⟩ : ∃ r,z.e = r:=⟨_,rfl⟩
 rw [hzk,hzn,hzs,hze] at CT HB
 rw [hzk] at HS
 clear hzk hzn hzs hze
 by_cases h4 : zk = 4
 · have e4 : (zk == 4) = true:=J77
   have HZ : Hid (fSum gs = z):=J81
   clear h4 HS cTo cR
   go_enter func179,ntmps179
   go_wp2_with fail
   refine (CT.out _ (xr.alloc _)).mono ?_
   rintro e w1 ⟨rfl,E1⟩
   have X1 : Hid (Ext W w1):=(xr.alloc _).trans E1
   have HB1 : Hid (Blk w1 W.heap.size (.int .i64 0) (.int .i64 0) (.string ⟨#[]⟩) (.int .i64 0)):=blk_top J58 E1
   obtain ⟨c0z,⟨c0_0,c0_1,c0_2,c0_3⟩,c0f0,c0f1,c0f2,c0f3⟩:=HB1.out
   clear E1
   go_wp2_with fail
   exact finB (((HB1.out.set _ _ _ _).al _).al _) rfl J6 (fun g0 g1 g2 g3=>by simp [results,results179,go_sem,g0,g1,g2,g3]) (fun h=>⟨by rw [HZ.out,HB.out],h⟩)
 · have e4 : (zk == 4) = false:=J77
   have HZ : Hid (fSum gs = toldR tb tv):=by show _ = _;rw [HS.out,if_neg h4]
   clear h4 HS
   go_enter func179,ntmps179
   go_wp2_with fail
   refine (CT.out _ (xr.alloc _)).mono ?_
   rintro e w1 ⟨rfl,E1⟩
   have X1 : Hid (Ext W w1):=(xr.alloc _).trans E1
   have HB1 : Hid (Blk w1 W.heap.size (.int .i64 0) (.int .i64 0) (.string ⟨#[]⟩) (.int .i64 0)):=blk_top J58 E1
   obtain ⟨c0z,⟨c0_0,c0_1,c0_2,c0_3⟩,c0f0,c0f1,c0f2,c0f3⟩:=HB1.out
   clear E1
   go_wp2_with fail
   refine (cTo _).mono ?_
   rintro e w2 ⟨rfl,E2⟩
   have X2 : Hid (Ext W w2):=Ext.trans J6 E2
   have HB2 : Hid (Blk w2 W.heap.size (.int .i64 0) (.int .i64 0) (.string ⟨#[]⟩) (.int .i64 0)):=((HB1.out.al _).al _).ext E2
   clear c0z c0_0 c0_1 c0_2 c0_3 c0f0 c0f1 c0f2 c0f3 E2
   obtain ⟨c0z,⟨c0_0,c0_1,c0_2,c0_3⟩,c0f0,c0f1,c0f2,c0f3⟩:=HB2.out
   go_wp2_with fail
   refine (cR _ (HF.out.2.ext (by with_reducible repeat (first | exact X2.out | apply Ext.alloc)))).mono ?_
   rintro e w3 ⟨rfl,E3⟩
   have X3 : Hid (Ext W w3):=Ext.trans J18 E3
   have HB3 : Hid (Blk w3 W.heap.size (.int .i64 0) (.int .i64 0) (.string ⟨#[]⟩) (.int .i64 0)):=(HB2.out).ext E3
   clear c0z c0_0 c0_1 c0_2 c0_3 c0f0 c0f1 c0f2 c0f3 E3
   obtain ⟨c0z,⟨c0_0,c0_1,c0_2,c0_3⟩,c0f0,c0f1,c0f2,c0f3⟩:=HB3.out
   go_wp2_with fail
   exact finB (HB3.out.set _ _ _ _) rfl (by with_reducible repeat (first | exact X3.out | exact xr | apply Ext.alloc | apply Ext.drewN | (refine Ext.setCell ?_ J58 _))) (fun g0 g1 g2 g3=>by simp [results,results179,go_sem,g0,g1,g2,g3]) (fun h=>⟨by rw [HZ.out,HQ.out],h⟩)
theorem fcount_any (gs : List Ag) (W : World) (p : Option Addr) (n c : Nat) (hF : Fit W (.slice p n c) gs) (hN : Nm W) :
   Calls Tryz.prog 180 #[.slice p n c] W fun e w'=>e = .returned (fCount gs).dat ∧ Ext W w':=by
 have HF : Hid (Fit W (.slice p n c) gs ∧ Nm W):=⟨hF,hN⟩
 have HS : Hid (fCount gs = mkNum (((got numF (seen gs)).length : Int) * 10000)):=rfl
 have CT : Hid (∀ V,Ext W V → Calls Tryz.prog 228 #[.slice p n c] V fun e w'=>e = .returned (.tuple #[.agg #[.int .i64 (hiOf (sumN (got numF (seen gs)))),.int .u64 (loOf (sumN (got numF (seen gs))))],.int .i64 ((got numF (seen gs)).length : Int),(bad numF (seen gs)).dat]) ∧ Ext V w'):=fun V e =>
   have f:=hF.ext e
   total_any V gs p n c f.rd f.i f.s f.l (hN.ext e)
 have cR:=fun W h=>vnum_any (((got numF (seen gs)).length : Int) * 10000) W h
 obtain ⟨q0,q1,q2,q3,hq⟩:=dat4 (mkNum (((got numF (seen gs)).length : Int) * 10000))
 rw [hq] at cR
 have HQ : Hid ((mkNum (((got numF (seen gs)).length : Int) * 10000)).dat = .agg #[.int .i64 q0,.int .i64 q1,.string q2,.int .i64 q3]):=hq
 have hm:=hF.num
 have wm : wrap64 (((got numF (seen gs)).length : Int) * 10000) = ((got numF (seen gs)).length : Int) * 10000:=J65
 clear hF hN hq hm
 rw [dat_eq (bad numF (seen gs))] at CT
 generalize sumN (got numF (seen gs)) = S at *
 generalize hiOf S = S0 at *
 generalize loOf S = S1 at *
 generalize (got numF (seen gs)).length = C0 at *
 obtain ⟨C1,hC1⟩ : ∃ r : Int,(C0 : Int) * 10000 = r:=⟨_,rfl⟩
 rw [hC1] at cR HQ HS
 have wm2 : wrap64 ((C0 : Int) * 10000) = C1:=by rw [wm,hC1]
 clear wm hC1
 generalize bad numF (seen gs) = z at *
 generalize z.k = zk at *
 generalize z.n = zn at *
 generalize z.s = zs' at *
 generalize z.e = ze at *
 go_enter func180,ntmps180
 go_wp2_with fail
 refine (CT.out _ (xr.alloc _)).mono ?_
 rintro e w1 ⟨rfl,E1⟩
 have X1 : Hid (Ext W w1):=(xr.alloc _).trans E1
 have HB1 : Hid (Blk w1 W.heap.size (.int .i64 0) (.int .i64 0) (.string ⟨#[]⟩) (.int .i64 0)):=blk_top J58 E1
 obtain ⟨c0z,⟨c0_0,c0_1,c0_2,c0_3⟩,c0f0,c0f1,c0f2,c0f3⟩:=HB1.out
 clear E1
 go_wp2_with fail
 refine (cR _ (HF.out.2.ext J31)).mono ?_
 rintro e w2 ⟨rfl,E2⟩
 have X2 : Hid (Ext W w2):=Ext.trans J6 E2
 have HB2 : Hid (Blk w2 W.heap.size (.int .i64 0) (.int .i64 0) (.string ⟨#[]⟩) (.int .i64 0)):=((HB1.out.al _).al _).ext E2
 clear c0z c0_0 c0_1 c0_2 c0_3 c0f0 c0f1 c0f2 c0f3 E2
 obtain ⟨c0z,⟨c0_0,c0_1,c0_2,c0_3⟩,c0f0,c0f1,c0f2,c0f3⟩:=HB2.out
 go_wp2_with fail
 exact finB (HB2.out.set _ _ _ _) rfl J18 (fun g0 g1 g2 g3=>by simp [results,results180,go_sem,g0,g1,g2,g3]) (fun h=>⟨by rw [HS.out,HQ.out],h⟩)
theorem favg_any (gs : List Ag) (W : World) (p : Option Addr) (n c : Nat) (hF : Fit W (.slice p n c) gs) (hN : Nm W) :
   Calls Tryz.prog 183 #[.slice p n c] W fun e w'=>e = .returned (fMean gs).dat ∧ Ext W w':=by
 have HF : Hid (Fit W (.slice p n c) gs ∧ Nm W):=⟨hF,hN⟩
 have HS : Hid (fMean gs = if (bad numF (seen gs)).k = 4 then bad numF (seen gs) else if (got numF (seen gs)).length = 0 then .err 3 else toldR (meanB (sumN (got numF (seen gs))) (got numF (seen gs)).length) (meanV (sumN (got numF (seen gs))) (got numF (seen gs)).length)):=rfl
 have CT : Hid (∀ V,Ext W V → Calls Tryz.prog 228 #[.slice p n c] V fun e w'=>e = .returned (.tuple #[.agg #[.int .i64 (hiOf (sumN (got numF (seen gs)))),.int .u64 (loOf (sumN (got numF (seen gs))))],.int .i64 ((got numF (seen gs)).length : Int),(bad numF (seen gs)).dat]) ∧ Ext V w'):=fun V e =>
   have f:=hF.ext e
   total_any V gs p n c f.rd f.i f.s f.l (hN.ext e)
 have hm:=hF.num
 have cTo:=fun W=>fmean_any (sumN (got numF (seen gs))) hF.sum ((got numF (seen gs)).length : Int) ⟨by omega,by omega⟩ W
 have cE:=fun W h=>err_any 3 W h
 rw [mkErr_is ⟨by decide,by decide⟩] at cE
 simp only [V.dat] at cE
 have cR:=fun W h=>ftold_any (meanV (sumN (got numF (seen gs))) (got numF (seen gs)).length) (meanB (sumN (got numF (seen gs))) (got numF (seen gs)).length) W h
 clear hF hN hm
 rw [dat_eq (bad numF (seen gs))] at CT
 obtain ⟨q0,q1,q2,q3,hq⟩:=dat4 (toldR (meanB (sumN (got numF (seen gs))) (got numF (seen gs)).length) (meanV (sumN (got numF (seen gs))) (got numF (seen gs)).length))
 rw [hq] at cR
 have HQ : Hid ((toldR (meanB (sumN (got numF (seen gs))) (got numF (seen gs)).length) (meanV (sumN (got numF (seen gs))) (got numF (seen gs)).length)).dat = .agg #[.int .i64 q0,.int .i64 q1,.string q2,.int .i64 q3]):=hq
 clear hq
 generalize sumN (got numF (seen gs)) = S at *
 generalize hiOf S = S0 at *
 generalize loOf S = S1 at *
 generalize (got numF (seen gs)).length = C0 at *
 generalize meanV S (C0 : Int) = tv at *
 generalize meanB S (C0 : Int) = tb at *
 have HB : Hid ((bad numF (seen gs)).dat = .agg #[.int .i64 (bad numF (seen gs)).k,.int .i64 (bad numF (seen gs)).n,.string (bad numF (seen gs)).s,.int .i64 (bad numF (seen gs)).e]):=dat_eq _
 generalize bad numF (seen gs) = z at *
 obtain ⟨zk,hzk⟩ : ∃ r,z.k = r:=⟨_,rfl⟩
 obtain ⟨zn,hzn⟩ : ∃ r,z.n = r:=⟨_,rfl⟩
 obtain ⟨zs',hzs⟩ : ∃ r,z.s = r:=⟨_,rfl⟩
 obtain ⟨ze,hze⟩ : ∃ r,z.e = r:=⟨_,rfl⟩
 rw [hzk,hzn,hzs,hze] at CT HB
 rw [hzk] at HS
 clear hzk hzn hzs hze
 by_cases h4 : zk = 4
 · have e4 : (zk == 4) = true:=J77
   have HZ : Hid (fMean gs = z):=J81
   clear h4 HS cTo cR cE
   go_enter func183,ntmps183
   go_wp2_with fail
   refine (CT.out _ (xr.alloc _)).mono ?_
   rintro e w1 ⟨rfl,E1⟩
   have X1 : Hid (Ext W w1):=(xr.alloc _).trans E1
   have HB1 : Hid (Blk w1 W.heap.size (.int .i64 0) (.int .i64 0) (.string ⟨#[]⟩) (.int .i64 0)):=blk_top J58 E1
   obtain ⟨c0z,⟨c0_0,c0_1,c0_2,c0_3⟩,c0f0,c0f1,c0f2,c0f3⟩:=HB1.out
   clear E1
   go_wp2_with fail
   exact finB (((HB1.out.set _ _ _ _).al _).al _) rfl J6 J39 (fun h=>⟨by rw [HZ.out,HB.out],h⟩)
 have e4 : (zk == 4) = false:=J77
 rw [if_neg h4] at HS
 clear h4
 by_cases hc : C0 = 0
 · have ec : ((C0 : Int) == 0) = true:=J7
   have HZ : Hid (fMean gs = .err 3):=by show _ = _;rw [HS.out,if_pos hc]
   clear hc HS cTo cR
   go_enter func183,ntmps183
   go_wp2_with fail
   refine (CT.out _ (xr.alloc _)).mono ?_
   rintro e w1 ⟨rfl,E1⟩
   have X1 : Hid (Ext W w1):=(xr.alloc _).trans E1
   have HB1 : Hid (Blk w1 W.heap.size (.int .i64 0) (.int .i64 0) (.string ⟨#[]⟩) (.int .i64 0)):=blk_top J58 E1
   obtain ⟨c0z,⟨c0_0,c0_1,c0_2,c0_3⟩,c0f0,c0f1,c0f2,c0f3⟩:=HB1.out
   clear E1
   go_wp2_with fail
   refine (cE _ (HF.out.2.ext J31)).mono ?_
   rintro e w2 ⟨rfl,E2⟩
   have X2 : Hid (Ext W w2):=Ext.trans J6 E2
   have HB2 : Hid (Blk w2 W.heap.size (.int .i64 0) (.int .i64 0) (.string ⟨#[]⟩) (.int .i64 0)):=((HB1.out.al _).al _).ext E2
   clear c0z c0_0 c0_1 c0_2 c0_3 c0f0 c0f1 c0f2 c0f3 E2
   obtain ⟨c0z,⟨c0_0,c0_1,c0_2,c0_3⟩,c0f0,c0f1,c0f2,c0f3⟩:=HB2.out
   go_wp2_with fail
   exact finB (HB2.out.set _ _ _ _) rfl J18 J39 (fun h=>⟨by rw [HZ.out];rfl,h⟩)
 · have ec : ((C0 : Int) == 0) = false:=J7
   have HZ : Hid (fMean gs = toldR tb tv):=by show _ = _;rw [HS.out,if_neg hc]
   clear hc HS cE
   go_enter func183,ntmps183
   go_wp2_with fail
   refine (CT.out _ (xr.alloc _)).mono ?_
   rintro e w1 ⟨rfl,E1⟩
   have X1 : Hid (Ext W w1):=(xr.alloc _).trans E1
   have HB1 : Hid (Blk w1 W.heap.size (.int .i64 0) (.int .i64 0) (.string ⟨#[]⟩) (.int .i64 0)):=blk_top J58 E1
   obtain ⟨c0z,⟨c0_0,c0_1,c0_2,c0_3⟩,c0f0,c0f1,c0f2,c0f3⟩:=HB1.out
   clear E1
   go_wp2_with fail
   refine (cTo _).mono ?_
   rintro e w2 ⟨rfl,E2⟩
   have X2 : Hid (Ext W w2):=Ext.trans J6 E2
   have HB2 : Hid (Blk w2 W.heap.size (.int .i64 0) (.int .i64 0) (.string ⟨#[]⟩) (.int .i64 0)):=((HB1.out.al _).al _).ext E2
   clear c0z c0_0 c0_1 c0_2 c0_3 c0f0 c0f1 c0f2 c0f3 E2
   obtain ⟨c0z,⟨c0_0,c0_1,c0_2,c0_3⟩,c0f0,c0f1,c0f2,c0f3⟩:=HB2.out
   go_wp2_with fail
   refine (cR _ (HF.out.2.ext (by with_reducible repeat (first | exact X2.out | apply Ext.alloc)))).mono ?_
   rintro e w3 ⟨rfl,E3⟩
   have X3 : Hid (Ext W w3):=Ext.trans J18 E3
   have HB3 : Hid (Blk w3 W.heap.size (.int .i64 0) (.int .i64 0) (.string ⟨#[]⟩) (.int .i64 0)):=(HB2.out).ext E3
   clear c0z c0_0 c0_1 c0_2 c0_3 c0f0 c0f1 c0f2 c0f3 E3
   obtain ⟨c0z,⟨c0_0,c0_1,c0_2,c0_3⟩,c0f0,c0f1,c0f2,c0f3⟩:=HB3.out
   go_wp2_with fail
   exact finB (HB3.out.set _ _ _ _) rfl (by with_reducible repeat (first | exact X3.out | exact xr | apply Ext.alloc | apply Ext.drewN | (refine Ext.setCell ?_ J58 _))) J39 (fun h=>⟨by rw [HZ.out,HQ.out],h⟩)
theorem fmin_any (gs : List Ag) (W : World) (p : Option Addr) (n c : Nat) (hF : Fit W (.slice p n c) gs) (hN : Nm W) :
   Calls Tryz.prog 181 #[.slice p n c] W fun e w'=>e = .returned (fBest ltB gs).dat ∧ Ext W w':=by
 have HF : Hid (Fit W (.slice p n c) gs ∧ Nm W):=⟨hF,hN⟩
 have CT : Hid (∀ V,Ext W V → Calls Tryz.prog 230 #[.slice p n c,.func (.func 231) #[] #[]] V fun e w'=>e = .returned (fBest ltB gs).dat ∧ Ext V w'):=fun V e =>
   have f:=hF.ext e
   utmost_any ltB _ ah_min V gs p n c f.rd f.i f.s f.l (hN.ext e)
 clear hF hN
 obtain ⟨q0,q1,q2,q3,hq⟩:=dat4 (fBest ltB gs)
 rw [hq] at CT
 have HQ : Hid ((fBest ltB gs).dat = .agg #[.int .i64 q0,.int .i64 q1,.string q2,.int .i64 q3]):=hq
 clear hq
 go_enter func181,ntmps181
 go_wp2_with fail
 refine (CT.out _ (xr.alloc _)).mono ?_
 rintro e w1 ⟨rfl,E1⟩
 have X1 : Hid (Ext W w1):=(xr.alloc _).trans E1
 have HB1 : Hid (Blk w1 W.heap.size (.int .i64 0) (.int .i64 0) (.string ⟨#[]⟩) (.int .i64 0)):=blk_top J58 E1
 obtain ⟨c0z,⟨c0_0,c0_1,c0_2,c0_3⟩,c0f0,c0f1,c0f2,c0f3⟩:=HB1.out
 clear E1
 go_wp2_with fail
 exact finB (HB1.out.set _ _ _ _) rfl J6 (fun g0 g1 g2 g3=>by simp [results,results181,go_sem,g0,g1,g2,g3]) (fun h=>⟨by rw [HQ.out],h⟩)
theorem fmax_any (gs : List Ag) (W : World) (p : Option Addr) (n c : Nat) (hF : Fit W (.slice p n c) gs) (hN : Nm W) :
   Calls Tryz.prog 182 #[.slice p n c] W fun e w'=>e = .returned (fBest gtB gs).dat ∧ Ext W w':=by
 have HF : Hid (Fit W (.slice p n c) gs ∧ Nm W):=⟨hF,hN⟩
 have CT : Hid (∀ V,Ext W V → Calls Tryz.prog 230 #[.slice p n c,.func (.func 232) #[] #[]] V fun e w'=>e = .returned (fBest gtB gs).dat ∧ Ext V w'):=fun V e =>
   have f:=hF.ext e
   utmost_any gtB _ ah_max V gs p n c f.rd f.i f.s f.l (hN.ext e)
 clear hF hN
 obtain ⟨q0,q1,q2,q3,hq⟩:=dat4 (fBest gtB gs)
 rw [hq] at CT
 have HQ : Hid ((fBest gtB gs).dat = .agg #[.int .i64 q0,.int .i64 q1,.string q2,.int .i64 q3]):=hq
 clear hq
 go_enter func182,ntmps182
 go_wp2_with fail
 refine (CT.out _ (xr.alloc _)).mono ?_
 rintro e w1 ⟨rfl,E1⟩
 have X1 : Hid (Ext W w1):=(xr.alloc _).trans E1
 have HB1 : Hid (Blk w1 W.heap.size (.int .i64 0) (.int .i64 0) (.string ⟨#[]⟩) (.int .i64 0)):=blk_top J58 E1
 obtain ⟨c0z,⟨c0_0,c0_1,c0_2,c0_3⟩,c0f0,c0f1,c0f2,c0f3⟩:=HB1.out
 clear E1
 go_wp2_with fail
 exact finB (HB1.out.set _ _ _ _) rfl J6 (fun g0 g1 g2 g3=>by simp [results,results182,go_sem,g0,g1,g2,g3]) (fun h=>⟨by rw [HQ.out],h⟩)
theorem truthOf_any (b : Bool) (m : Nat) (z : V) (W : World) (hN : Nm W) : Calls Tryz.prog 235 #[.bool b,.int .i64 (m : Int),z.dat] W fun e w'=>e = .returned (orBad z (if m = 0 then .err 2 else .tf b)).dat ∧ Ext W w':=by
 have cE:=fun W h=>err_any 2 W h
 rw [mkErr_is ⟨by decide,by decide⟩] at cE
 have cB:=fun W=>vbool_any b W
 obtain ⟨q0,q1,q2,q3,hq⟩:=dat4 (V.tf b)
 rw [hq] at cB
 have HQ : Hid ((V.tf b).dat = .agg #[.int .i64 q0,.int .i64 q1,.string q2,.int .i64 q3]):=hq
 simp only [V.dat] at cE
 have HB : Hid (z.dat = .agg #[.int .i64 z.k,.int .i64 z.n,.string z.s,.int .i64 z.e]):=dat_eq _
 rw [dat_eq z]
 have HS : Hid (orBad z (if m = 0 then .err 2 else .tf b) = if z.k = 4 then z else (if m = 0 then .err 2 else .tf b)):=rfl
 obtain ⟨R,hR⟩ : ∃ R,orBad z (if m = 0 then .err 2 else .tf b) = R:=⟨_,rfl⟩
 rw [hR] at HS ⊢
 clear hq hR
 obtain ⟨zk,hzk⟩ : ∃ r,z.k = r:=⟨_,rfl⟩
 obtain ⟨zn,hzn⟩ : ∃ r,z.n = r:=⟨_,rfl⟩
 obtain ⟨zs',hzs⟩ : ∃ r,z.s = r:=⟨_,rfl⟩
 obtain ⟨ze,hze⟩ : ∃ r,z.e = r:=⟨_,rfl⟩
 rw [hzk,hzn,hzs,hze] at HB ⊢
 rw [hzk] at HS
 clear hzk hzn hzs hze
 have X0 : Hid (∀ o o',Ext W ((W.alloc o).alloc o')):=fun o o'=>(xr.alloc _).alloc _
 by_cases h4 : zk = 4
 · have e4 : (zk == 4) = true:=J77
   have HZ : Hid (R = z):=J81
   clear h4 HS cB cE
   go_enter func235,ntmps235
   go_wp2_with fail
   simp [bodyPost,results,results235,go_sem]
   exact ⟨by rw [HZ.out,HB.out],X0.out _ _⟩
 have e4 : (zk == 4) = false:=J77
 rw [if_neg h4] at HS
 clear h4
 by_cases hc : m = 0
 · have ec : ((m : Int) == 0) = true:=J7
   have HZ : Hid (R = .err 2):=by show _ = _;rw [HS.out,if_pos hc]
   clear hc HS cB
   go_enter func235,ntmps235
   go_wp2_with fail
   refine (cE _ (hN.ext (X0.out _ _))).mono ?_
   rintro e w1 ⟨rfl,E1⟩
   obtain ⟨z1,⟨k0,k1,k2,k3⟩,f0,f1,f2,f3⟩:=blk_top (b:=W.heap.size + 1) J58 E1
   go_wp2_with fail
   exact fin4 k0 k1 k2 k3 rfl J58 ((X0.out _ _).trans E1) (fun W g0 g1 g2 g3=>by simp [results,results235,go_sem,g0,g1,g2,g3]) (fun W h=>⟨by rw [HZ.out];rfl,h⟩)
 · have ec : ((m : Int) == 0) = false:=J7
   have HZ : Hid (R = .tf b):=by show _ = _;rw [HS.out,if_neg hc]
   clear hc HS cE
   go_enter func235,ntmps235
   go_wp2_with fail
   refine (cB _).mono ?_
   rintro e w1 ⟨rfl,E1⟩
   obtain ⟨z1,⟨k0,k1,k2,k3⟩,f0,f1,f2,f3⟩:=blk_top (b:=W.heap.size + 1) J58 E1
   go_wp2_with fail
   exact fin4 k0 k1 k2 k3 rfl J58 ((X0.out _ _).trans E1) (fun W g0 g1 g2 g3=>by simp [results,results235,go_sem,g0,g1,g2,g3]) (fun W h=>⟨by rw [HZ.out,HQ.out],h⟩)
theorem fand_any (gs : List Ag) (W : World) (p : Option Addr) (n c : Nat) (hF : Fit W (.slice p n c) gs) (hN : Nm W) :
   Calls Tryz.prog 184 #[.slice p n c] W fun e w'=>e = .returned (fAnd gs).dat ∧ Ext W w':=by
 have HF : Hid (Fit W (.slice p n c) gs ∧ Nm W):=⟨hF,hN⟩
 have HS : Hid (fAnd gs = orBad (bad truF (seen gs)) (if (got truF (seen gs)).length = 0 then .err 2 else .tf (decide (truN (got truF (seen gs)) = (got truF (seen gs)).length)))):=rfl
 have CT : Hid (∀ V,Ext W V → Calls Tryz.prog 234 #[.slice p n c] V fun e w'=>e = .returned (.tuple #[.int .i64 ((got truF (seen gs)).length : Int),.int .i64 (truN (got truF (seen gs)) : Int),(bad truF (seen gs)).dat]) ∧ Ext V w'):=fun V e =>
   have f:=hF.ext e
   poll_any V gs p n c f.rd f.i f.s f.l (hN.ext e)
 have cR:=fun W h=>truthOf_any (decide (truN (got truF (seen gs)) = (got truF (seen gs)).length)) (got truF (seen gs)).length (bad truF (seen gs)) W h
 clear hF hN
 rw [dat_eq (bad truF (seen gs))] at CT cR
 obtain ⟨R,hR⟩ : ∃ R,fAnd gs = R:=⟨_,rfl⟩
 rw [← HS.out,hR] at cR
 rw [hR]
 obtain ⟨q0,q1,q2,q3,hq⟩:=dat4 R
 rw [hq] at cR
 have HQ : Hid (R.dat = .agg #[.int .i64 q0,.int .i64 q1,.string q2,.int .i64 q3]):=hq
 clear hq HS hR
 generalize truN (got truF (seen gs)) = T0 at *
 generalize (got truF (seen gs)).length = C0 at *
 generalize bad truF (seen gs) = z at *
 generalize z.k = zk at *
 generalize z.n = zn at *
 generalize z.s = zs' at *
 generalize z.e = ze at *
 obtain ⟨bb,hbb⟩ : ∃ bb,decide (T0 = C0) = bb:=⟨_,rfl⟩
 rw [hbb] at cR
 have eb : (((T0 : Int)) == ((C0 : Int))) = bb:=by rw [← hbb,Bool.eq_iff_iff];simp;omega
 clear hbb
 go_enter func184,ntmps184
 go_wp2_with fail
 refine (CT.out _ (xr.alloc _)).mono ?_
 rintro e w1 ⟨rfl,E1⟩
 have X1 : Hid (Ext W w1):=(xr.alloc _).trans E1
 have HB1 : Hid (Blk w1 W.heap.size (.int .i64 0) (.int .i64 0) (.string ⟨#[]⟩) (.int .i64 0)):=blk_top J58 E1
 obtain ⟨c0z,⟨c0_0,c0_1,c0_2,c0_3⟩,c0f0,c0f1,c0f2,c0f3⟩:=HB1.out
 clear E1
 go_wp2_with fail
 refine (cR _ (HF.out.2.ext J31)).mono ?_
 rintro e w2 ⟨rfl,E2⟩
 have X2 : Hid (Ext W w2):=Ext.trans J6 E2
 have HB2 : Hid (Blk w2 W.heap.size (.int .i64 0) (.int .i64 0) (.string ⟨#[]⟩) (.int .i64 0)):=(HB1.out.al _).ext E2
 clear c0z c0_0 c0_1 c0_2 c0_3 c0f0 c0f1 c0f2 c0f3 E2
 obtain ⟨c0z,⟨c0_0,c0_1,c0_2,c0_3⟩,c0f0,c0f1,c0f2,c0f3⟩:=HB2.out
 go_wp2_with fail
 exact finB (HB2.out.set _ _ _ _) rfl J18 (fun g0 g1 g2 g3=>by simp [results,results184,go_sem,g0,g1,g2,g3]) (fun h=>⟨by rw [HQ.out],h⟩)
theorem for_any (gs : List Ag) (W : World) (p : Option Addr) (n c : Nat) (hF : Fit W (.slice p n c) gs) (hN : Nm W) :
   Calls Tryz.prog 185 #[.slice p n c] W fun e w'=>e = .returned (fOr gs).dat ∧ Ext W w':=by
 have HF : Hid (Fit W (.slice p n c) gs ∧ Nm W):=⟨hF,hN⟩
 have HS : Hid (fOr gs = orBad (bad truF (seen gs)) (if (got truF (seen gs)).length = 0 then .err 2 else .tf (decide (0 < truN (got truF (seen gs)))))):=rfl
 have CT : Hid (∀ V,Ext W V → Calls Tryz.prog 234 #[.slice p n c] V fun e w'=>e = .returned (.tuple #[.int .i64 ((got truF (seen gs)).length : Int),.int .i64 (truN (got truF (seen gs)) : Int),(bad truF (seen gs)).dat]) ∧ Ext V w'):=fun V e =>
   have f:=hF.ext e
   poll_any V gs p n c f.rd f.i f.s f.l (hN.ext e)
 have cR:=fun W h=>truthOf_any (decide (0 < truN (got truF (seen gs)))) (got truF (seen gs)).length (bad truF (seen gs)) W h
 clear hF hN
 rw [dat_eq (bad truF (seen gs))] at CT cR
 obtain ⟨R,hR⟩ : ∃ R,fOr gs = R:=⟨_,rfl⟩
 rw [← HS.out,hR] at cR
 rw [hR]
 obtain ⟨q0,q1,q2,q3,hq⟩:=dat4 R
 rw [hq] at cR
 have HQ : Hid (R.dat = .agg #[.int .i64 q0,.int .i64 q1,.string q2,.int .i64 q3]):=hq
 clear hq HS hR
 generalize truN (got truF (seen gs)) = T0 at *
 generalize (got truF (seen gs)).length = C0 at *
 generalize bad truF (seen gs) = z at *
 generalize z.k = zk at *
 generalize z.n = zn at *
 generalize z.s = zs' at *
 generalize z.e = ze at *
 obtain ⟨bb,hbb⟩ : ∃ bb,decide (0 < T0) = bb:=⟨_,rfl⟩
 rw [hbb] at cR
 have eb : decide (((T0 : Int)) > 0) = bb:=by rw [← hbb,Bool.eq_iff_iff];simp
 clear eb
 go_enter func185,ntmps185
 go_wp2_with fail
 refine (CT.out _ (xr.alloc _)).mono ?_
 rintro e w1 ⟨rfl,E1⟩
 have X1 : Hid (Ext W w1):=(xr.alloc _).trans E1
 have HB1 : Hid (Blk w1 W.heap.size (.int .i64 0) (.int .i64 0) (.string ⟨#[]⟩) (.int .i64 0)):=blk_top J58 E1
 obtain ⟨c0z,⟨c0_0,c0_1,c0_2,c0_3⟩,c0f0,c0f1,c0f2,c0f3⟩:=HB1.out
 clear E1
 go_wp2_with fail
 refine (cR _ (HF.out.2.ext J31)).mono ?_
 rintro e w2 ⟨rfl,E2⟩
 have X2 : Hid (Ext W w2):=Ext.trans J6 E2
 have HB2 : Hid (Blk w2 W.heap.size (.int .i64 0) (.int .i64 0) (.string ⟨#[]⟩) (.int .i64 0)):=(HB1.out.al _).ext E2
 clear c0z c0_0 c0_1 c0_2 c0_3 c0f0 c0f1 c0f2 c0f3 E2
 obtain ⟨c0z,⟨c0_0,c0_1,c0_2,c0_3⟩,c0f0,c0f1,c0f2,c0f3⟩:=HB2.out
 go_wp2_with fail
 exact finB (HB2.out.set _ _ _ _) rfl J18 (fun g0 g1 g2 g3=>by simp [results,results185,go_sem,g0,g1,g2,g3]) (fun h=>⟨by rw [HQ.out],h⟩)
open Go.ChangeShapes Go.WideShapes Go.RowKit
open Go.Joins (trod_struct4)
open Go.Deep (choose_lt)
theorem qc_value : Tryz.prog.cellsOf 33 = 4:=J3
theorem qc_int : Tryz.prog.cellsOf 3 = 1:=J3
theorem qc_int64 : Tryz.prog.cellsOf 2 = 1:=J3
theorem qc_string : Tryz.prog.cellsOf 9 = 1:=J3
section
variable {H : Type} {enc : TypeId × Value → H} {w : World} {base : Nat} {sp : Nat → Bool} {hd : Bool}
instance : Inhabited Rw:=⟨⟨0,0,⟨#[]⟩,0⟩⟩
instance : Inhabited Ag:=⟨⟨false,[]⟩⟩
theorem open_val {fuel : Nat} {cs : List Value} {x : DataW H × List MemPlace} (hl : cs.length = 4) (h : DataW.trod enc Tryz.prog w base sp hd fuel 33 cs = some x) :
   ∃ r : Rw,cs = [.int .i64 r.k,.int .i64 r.n,.string r.s,.int .i64 r.e] ∧ I64 r.n:=by
 match cs,hl with
 | [c0,c1,c2,c3],_ =>
   obtain ⟨y0,y1,y2,y3,n,_,_,h0,h1,h2,h3⟩:=trod_struct4 Tryz.underlying33 h
   simp [qc_int,qc_int64,qc_string] at h0 h1 h2 h3
   obtain ⟨a0,e0,_,w0⟩:=DataW.trod_int Tryz.underlying3 h0
   obtain ⟨a1,e1,_,w1⟩:=DataW.trod_int Tryz.underlying2 h1
   obtain ⟨a2,e2,_,w2⟩:=DataW.trod_string Tryz.underlying9 h2
   obtain ⟨a3,e3,_,w3⟩:=DataW.trod_int Tryz.underlying3 h3
   simp only [List.cons.injEq,and_true] at e0 e1 e2 e3
   exact ⟨⟨a0,a1,a2,a3⟩,by rw [e0,e1,e2,e3],i64_of_wf w1⟩
end
open Go.RowKit
theorem fm_len {α : Type} (c : α → List Value) (k : Nat) (hc : ∀ x,(c x).length = k) (l : List α) : (l.flatMap c).length = l.length * k:=by
 induction l with
 | nil=>simp
 | cons x l ih=>rw [List.flatMap_cons,List.length_append,hc,ih,List.length_cons,Nat.succ_mul];omega
theorem fm_at {α : Type} (c : α → List Value) (k : Nat) (hc : ∀ x,(c x).length = k) : ∀ (l : List α) (i : Nat) (x : α) (j : Nat),l[i]? = some x → j < k → (l.flatMap c)[i * k + j]? = (c x)[j]?
 | [],i,x,j,h,_=>by simp at h
 | y :: l,0,x,j,h,hj=>by
   simp at h;subst h
   rw [List.flatMap_cons,Nat.zero_mul,Nat.zero_add,List.getElem?_append_left (by rw [hc];exact hj)]
 | y :: l,i + 1,x,j,h,hj=>by
   have ih:=fm_at c k hc l i x j J55 hj
   rw [List.flatMap_cons,List.getElem?_append_right (by rw [hc,Nat.succ_mul];omega),hc,← ih]
   congr 1
   rw [Nat.succ_mul];omega
theorem fm_get {α : Type} (c : α → List Value) (k : Nat) (hc : ∀ x,(c x).length = k) (hk : 0 < k) (l : List α) (j : Nat) (u : Value) (h : (l.flatMap c)[j]? = some u) : ∃ x,l[j / k]? = some x ∧ (c x)[j % k]? = some u:=by
 have hj : j < l.length * k:=by rw [← fm_len c k hc];exact (List.getElem?_eq_some_iff.1 h).1
 have hi : j / k < l.length:=by rw [Nat.div_lt_iff_lt_mul hk];exact hj
 refine ⟨l[j / k],gEq hi,?_⟩
 rw [← fm_at c k hc l (j / k) _ (j % k) (gEq hi) (Nat.mod_lt _ hk),Nat.mul_comm,Nat.div_add_mod]
 exact h
def cV (r : Rw) : List Value:=[.int .i64 r.k,.int .i64 r.n,.string r.s,.int .i64 r.e]
def cA (q : Ag × Int × Int × Value) : List Value:=[.bool q.1.area,.int .i64 q.2.1,.int .i64 q.2.2.1,q.2.2.2]
theorem cV_len (r : Rw) : (cV r).length = 4:=rfl
theorem eltV : Elt 111 33 4 40:=by
 refine ⟨Tryz.underlying111,?_,by decide⟩
 have h1 : (Tryz.prog.info? 33).isSome = true:=J3
 have h2 : (Tryz.prog.info? 33).bind (fun i=>i.zero) = some (.agg #[.int .i64 0,.int .i64 0,.string ⟨#[]⟩,.int .i64 0]):=J3
 have h3 : (Tryz.prog.info? 33).map (fun i=>(i.size,i.bytes)) = some (4,40):=J3
 cases h : Tryz.prog.info? 33 with
 | none=>rw [h] at h1;cases h1
 | some i =>
   exact K122
theorem eltA : Elt 107 113 4 48:=by
 refine ⟨Tryz.underlying107,?_,by decide⟩
 have h1 : (Tryz.prog.info? 113).isSome = true:=J3
 have h2 : (Tryz.prog.info? 113).bind (fun i=>i.zero) = some (.agg #[.bool false,.int .i64 0,.int .i64 0,.slice none 0 0]):=J3
 have h3 : (Tryz.prog.info? 113).map (fun i=>(i.size,i.bytes)) = some (4,48):=J3
 cases h : Tryz.prog.info? 113 with
 | none=>rw [h] at h1;cases h1
 | some i =>
   exact K122
theorem RdV.row {B : Nat} {W : World} {v : Value} {l : List Rw} (h : RdV B W v l) : RowC W v l.length 4 (l.flatMap cV):=by
 obtain ⟨p,c,h1,h2,h3⟩:=h
 refine ⟨fm_len cV 4 cV_len l,p,c,h1,?_⟩
 rcases h3 with rfl | ⟨b,off,rfl,_,_,h6⟩
 · exact K134
 · refine .inr ⟨_,rfl,fun j u hu=>?_⟩
   obtain ⟨r,hr,hu⟩:=fm_get cV 4 cV_len J9 l j u hu
   obtain ⟨k0,k1,k2,k3⟩:=h6 _ r hr
   rw [Addr.add_lit]
   have hj:=Nat.div_add_mod j 4
   have hm:=Nat.mod_lt j (show 0 < 4 by decide)
   match hmm : j % 4,hu with
   | 0,hu=>simp [cV] at hu;subst hu;rw [show off + j = off + j / 4 * 4 by omega];exact k0
   | 1,hu=>simp [cV] at hu;subst hu;rw [show off + j = off + j / 4 * 4 + 1 by omega];exact k1
   | 2,hu=>simp [cV] at hu;subst hu;rw [show off + j = off + j / 4 * 4 + 2 by omega];exact k2
   | 3,hu=>simp [cV] at hu;subst hu;rw [show off + j = off + j / 4 * 4 + 3 by omega];exact k3
   | q + 4,_=>omega
theorem own_rdV {W : World} {base : Nat} {v : Value} {l : List Rw} (h : W.ownsRow base 33 4 v l.length (l.flatMap cV)) : RdV W.heap.size W v l:=by
 rcases h.2 with ⟨rfl,h0⟩ | ⟨g,cap,cur,rfl,h2,h3,h4,h5⟩
 · exact K140
 · have hg : g < W.heap.size:=(Array.getElem?_eq_some_iff.1 h3).1
   refine ⟨_,cap,rfl,h4,.inr ⟨g,0,rfl,hg,hg,fun i r hr=>?_⟩⟩
   have k:=fun j (hj : j < 4) u (hu : (cV r)[j]? = some u)=>h.cells (g:=g) rfl (i * 4 + j) u (by rw [fm_at cV 4 cV_len l i r j hr hj];exact hu)
   simp only [Addr.add_lit] at k
   exact ⟨k 0 J9 _ rfl,k 1 J9 _ rfl,k 2 J9 _ rfl,k 3 J9 _ rfl⟩
end Go.Proofs.YtcfgbiaahangmaaGreatDoor
