import Derived.Test.YtcfgbiaahangmaaGreatDoorT28
import Derived.Test.YtcfgbiaahangmaaGreatDoorProg
import Derived.Lib.AppendZeros
set_option maxHeartbeats 2000000
set_option maxRecDepth 100000
namespace Go.Proofs.YtcfgbiaahangmaaGreatDoor
open Go.Proofs.Tryz
open Go.RowKit
theorem Pair.put {w : World} {b : Nat} {x : Int} (h : Pair w b x) (y : Int) (hu : uhi y = uhi x) : Pair (w.setCell ⟨b,1,none⟩ (.int .u64 (loOf y))) b y:=by
 obtain ⟨z,c0,c1,f0,f1⟩:=h
 refine ⟨by simpa [World.setCell] using z,?_,?_,?_,?_⟩
 · rw [wO _ _ _ _ J60,hu];exact c0
 · exact wSa _ ⟨b,1,none⟩ _ (by rw [c1])
 · rw [wFz];exact f0
 · rw [wFz];exact f1
def Keep (w : World) (X D : Int) (wr : World) : Prop:=Ext w wr ∧ Pair wr w.heap.size X ∧ Pair wr (w.heap.size + 1) D ∧ Pair wr (w.heap.size + 2) 0 ∧ Pair wr (w.heap.size + 3) 0
theorem Keep.ext {w W W' : World} {X D : Int} (h : Keep w X D W) (e : Ext W W') : Keep w X D W' :=
 ⟨h.1.trans e,h.2.1.ext e,h.2.2.1.ext e,h.2.2.2.1.ext e,h.2.2.2.2.ext e⟩
theorem Keep.far {w W : World} {X D : Int} (h : Keep w X D W) {c : Nat} (hc : w.heap.size + 4 ≤ c) (o : Nat) (v : Value) : Keep w X D (W.setCell ⟨c,o,none⟩ v) :=
 ⟨h.1.setCell (by show w.heap.size ≤ c;omega) _,h.2.1.far J2 _ _,h.2.2.1.far J2 _ _,h.2.2.2.1.far J2 _ _,h.2.2.2.2.far J2 _ _⟩
def I128 (x : Int) : Prop:=-170141183460469231731687303715884105728 ≤ x ∧ x ≤ 170141183460469231731687303715884105727
theorem near_eq (X d : Nat) (h : 0 < d) : (nearQ X d : Int) = (2 * (X : Int) + d) / (2 * d):=by
 have e:=Nat.div_add_mod X d
 have hm:=Nat.mod_lt X h
 unfold nearQ
 generalize hq : X / d = q at *
 generalize hr : X % d = r at *
 have hX : (X : Int) = d * q + r:=by rw [← e];simp
 have e2 : (2 * (X : Int) + d) = (2 * r + d) + (2 * d) * q:=by rw [hX,Int.mul_add,Int.mul_assoc];omega
 rw [e2,Int.add_mul_ediv_left _ _ J2]
 by_cases hc : d ≤ 2 * r
 · rw [if_pos hc]
   have : (2 * (r : Int) + d) / (2 * d) = 1:=by
     apply Int.le_antisymm
     · have : (2 * (r : Int) + d) / (2 * d) < 2:=Int.ediv_lt_of_lt_mul J2 J2
       omega
     · exact Int.le_ediv_of_mul_le J2 J2
   rw [this];simp;omega
 · rw [if_neg hc]
   have : (2 * (r : Int) + d) / (2 * d) = 0:=Int.ediv_eq_zero_of_lt J2 J2
   rw [this];simp
theorem abs_nat (x : Int) : absI x = (x.natAbs : Int):=J91
theorem mean_near (x : Int) (d : Nat) (h : 0 < d) : meanQ x d = nearQ x.natAbs d:=by
 unfold meanQ
 rw [near_eq _ _ h,abs_nat]
theorem meanB_near (x : Int) (d : Nat) (h : 0 < d) : meanB x d = sgnB (nearQ x.natAbs d):=by
 unfold meanB sgnB
 rw [mean_near x d h,Bool.eq_iff_iff]
 simp
 omega
theorem meanV_near (x : Int) (d : Nat) (h : 0 < d) : meanV x d = sgnV (decide (x < 0)) (nearQ x.natAbs d):=by
 unfold meanV sgnV
 rw [meanB_near x d h,mean_near x d h]
 cases sgnB (nearQ x.natAbs d)
 · rfl
 · by_cases hx : x < 0 <;> simp [hx]
theorem hi_neg (x : Int) (h : I128 x) : decide (hiOf x < 0) = decide (x < 0):=by
 obtain ⟨h1,h2⟩:=h
 rw [Bool.eq_iff_iff]
 unfold hiOf sg64
 simp
 omega
theorem fsize_any (x : Int) (hx : I128 x) (W : World) : Calls Tryz.prog 281 #[.agg #[.int .i64 (hiOf x),.int .u64 (loOf x)]] W fun e w'=>e = .returned (.tuple #[.int .u64 (uhi (absI x)),.int .u64 (loOf (absI x))]) ∧ Ext W w':=by
 have p1:=uhi_hiOf x
 have HN:=hi_neg x hx
 obtain ⟨u1,u2⟩:=uhi_bd x
 obtain ⟨l1,l2⟩:=lo_bd x
 by_cases hs : x < 0
 · have hd : decide (hiOf x < 0) = true:=J98
   have hd' : hiOf x < 0:=by simpa using hd
   have HR : Hid ((0 - uhi x - bor 0 (loOf x)) % 18446744073709551616 = uhi (absI x) ∧ (0 - loOf x) % 18446744073709551616 = loOf (absI x)):=by
     show _ ∧ _
     unfold absI;rw [if_pos hs];unfold uhi loOf bor
     split <;> (constructor <;> omega)
   obtain ⟨R0,hR0⟩ : ∃ r,uhi (absI x) = r:=⟨_,rfl⟩
   obtain ⟨R1,hR1⟩ : ∃ r,loOf (absI x) = r:=⟨_,rfl⟩
   rw [hR0,hR1] at HR ⊢
   have k1:=fun W=>sub64_0 0 (loOf x) J6 l1 l2 W
   have bb:=bor_bd 0 (loOf x)
   have k2:=fun W=>sub64 0 (uhi x) (bor 0 (loOf x)) J6 u1 u2 bb.1 bb.2 W
   rw [HR.out.1] at k2
   rw [HR.out.2] at k1
   clear HN hs hR0 hR1
   generalize hiOf x = a0 at *
   generalize loOf x = a1 at *
   generalize uhi x = a2 at *
   generalize bor 0 a1 = a3 at *
   generalize bor 0 (a2 + a3) = a4 at *
   clear HR bb u1 u2 l1 l2
   exact K89
 · have hd : decide (hiOf x < 0) = false:=J98
   have hd' : ¬ hiOf x < 0:=by simpa using hd
   have e : absI x = x:=by unfold absI;rw [if_neg hs]
   rw [e]
   clear HN hs e
   generalize hiOf x = a0 at *
   generalize loOf x = a1 at *
   generalize uhi x = a2 at *
   clear u1 u2 l1 l2
   exact K89
theorem quotient_any (x : Int) (hx : I128 x) (n : Nat) (hn : 0 < n) (hn' : n ≤ 9223372036854775807) (W : World) : Calls Tryz.prog 266 #[.agg #[.int .i64 (hiOf x),.int .u64 (loOf x)],.int .u64 (n : Int)] W fun e w' =>
   e = .returned (.tuple #[.int .i64 (sgnV false (nearQ x.natAbs n)),.bool (sgnB (nearQ x.natAbs n))]) ∧ Ext W w':=by
 have cS:=fun W=>fsize_any x hx W
 rw [abs_nat] at cS
 have hX : x.natAbs < 340282366920938463463374607431768211456:=by obtain ⟨h1,h2⟩:=hx;omega
 obtain ⟨X,hXX⟩ : ∃ X,x.natAbs = X:=⟨_,rfl⟩
 rw [hXX] at cS hX ⊢
 clear hXX
 obtain ⟨hi,hhi⟩ : ∃ hi,X / 18446744073709551616 = hi:=⟨_,rfl⟩
 obtain ⟨lo,hlo⟩ : ∃ lo,X % 18446744073709551616 = lo:=⟨_,rfl⟩
 have e1 : uhi (X : Int) = (hi : Int):=by unfold uhi;omega
 have e2 : loOf (X : Int) = (lo : Int):=by unfold loOf;omega
 have hl : lo < 18446744073709551616:=J2
 have hh : hi < 18446744073709551616:=J2
 have e3 : hi * 18446744073709551616 + lo = X:=J2
 rw [e1,e2] at cS
 clear e1 e2 hhi hlo hx
 generalize hiOf x = a0 at *
 generalize loOf x = a1 at *
 by_cases hg : n ≤ hi
 · have HS : Hid (sgnV false (nearQ X n) = 0 ∧ sgnB (nearQ X n) = false):=by
     have : 9223372036854775807 < nearQ X n:=by
       have h2 : 18446744073709551616 ≤ X / n:=by
         rw [Nat.le_div_iff_mul_le hn]
         calc 18446744073709551616 * n ≤ 18446744073709551616 * hi:=Nat.mul_le_mul_left _ hg
           _ ≤ X:=by omega
       unfold nearQ;omega
     exact ⟨sgnV_no _ this,sgnB_no this⟩
   have hgI : (hi : Int) ≥ (n : Int):=J2
   have hgd : decide ((hi : Int) ≥ (n : Int)) = true:=by simpa using hgI
   clear hg e3 hX
   go_enter func266,ntmps266
   go_wp2_with fail
   refine (cS _).mono ?_
   rintro e w1 ⟨rfl,E1⟩
   go_wp2_with fail
   go_ret2
   exact ⟨ret_ib HS.out.1.symm HS.out.2.symm,(xr.alloc _).trans E1⟩
 · have hgI : ¬ (hi : Int) ≥ (n : Int):=J2
   have hgd : decide ((hi : Int) ≥ (n : Int)) = false:=by simpa using hgI
   have cD:=fun W=>div64_any hi lo n J2 hl J2 W
   rw [e3] at cD
   have hq : X / n < 18446744073709551616:=by
     rw [Nat.div_lt_iff_lt_mul hn]
     calc X < (hi + 1) * 18446744073709551616:=by omega
       _ ≤ n * 18446744073709551616:=Nat.mul_le_mul_right _ J2
       _ = 18446744073709551616 * n:=Nat.mul_comm _ _
   have hr:=Nat.mod_lt X hn
   have hnear : nearQ X n = X / n + (if n ≤ 2 * (X % n) then 1 else 0):=rfl
   obtain ⟨q,hqq⟩ : ∃ q,X / n = q:=⟨_,rfl⟩
   obtain ⟨r,hrr⟩ : ∃ r,X % n = r:=⟨_,rfl⟩
   obtain ⟨N,hNN⟩ : ∃ N,nearQ X n = N:=⟨_,rfl⟩
   rw [hqq] at cD hq hnear
   rw [hrr] at cD hr hnear
   rw [hNN] at hnear ⊢
   clear hqq hrr hNN e3 hX hl hh hg
   by_cases hb : 9223372036854775807 < q
   · have HS : Hid (sgnV false N = 0 ∧ sgnB N = false):=⟨sgnV_no _ J2,sgnB_no J2⟩
     have hbd : decide ((q : Int) > 9223372036854775807) = true:=J8
     have hbI : (q : Int) > 9223372036854775807:=J2
     clear hnear hb hq
     exact K44
   have hbd : decide ((q : Int) > 9223372036854775807) = false:=J8
   have hbI : ¬ (q : Int) > 9223372036854775807:=J2
   have w1 : IntKind.u64.wrap ((n : Int) - (r : Int)) = (n : Int) - r:=J62
   have w2 : IntKind.u64.wrap ((q : Int) + 1) = (q : Int) + 1:=J62
   have w3 : wrap64 ((q : Int) + 1) = (q : Int) + 1 ∨ q = 9223372036854775807:=J67
   have w4 : wrap64 (q : Int) = (q : Int):=J67
   by_cases hc : n ≤ 2 * r
   · rw [if_pos hc] at hnear
     have hcd : decide ((r : Int) ≥ (n : Int) - (r : Int)) = true:=J8
     have hcI : (r : Int) ≥ (n : Int) - (r : Int):=J2
     by_cases hm : q = 9223372036854775807
     · have HS : Hid (sgnV false N = 0 ∧ sgnB N = false):=⟨sgnV_no _ J2,sgnB_no J2⟩
       subst hm
       clear hnear hb hq hc w3 w2 w4 hbd hbI
       have w5 : IntKind.u64.wrap (((9223372036854775807 : Nat) : Int) + 1) = 9223372036854775808:=by decide
       exact K44
     · have HS : Hid (sgnV false N = (q : Int) + 1 ∧ sgnB N = true):=⟨by rw [sgnV_yes false J2,hnear];simp,sgnB_yes J2⟩
       have w3':=w3.resolve_right hm
       have hb2 : decide ((q : Int) + 1 > 9223372036854775807) = false:=J8
       have hb3 : ¬ (q : Int) + 1 > 9223372036854775807:=J2
       obtain ⟨q1,hq1⟩ : ∃ q1 : Int,(q : Int) + 1 = q1:=⟨_,rfl⟩
       rw [hq1] at w2 w3' hb2 hb3 HS
       have w6 : IntKind.u64.wrap ((q : Int) + 1) = q1:=by rw [hq1];exact w2
       have WQ : Hid (wrap64 q1 = q1):=w3'
       clear hnear hb hq hc w3 hm w4 w2 hq1 w3'
       go_enter func266,ntmps266
       go_wp2_with fail
       refine (cS _).mono ?_
       rintro e w1 ⟨rfl,E1⟩
       go_wp2_with fail
       refine (cD _).mono ?_
       rintro e w2 ⟨rfl,E2⟩
       go_wp2_with fail
       go_ret2
       exact ⟨ret_ib (by first | exact HS.out.1.symm | exact WQ.out.trans HS.out.1.symm) HS.out.2.symm,((xr.alloc _).trans E1).trans E2⟩
   · rw [if_neg hc] at hnear
     have hcd : decide ((r : Int) ≥ (n : Int) - (r : Int)) = false:=J8
     have hcI : ¬ (r : Int) ≥ (n : Int) - (r : Int):=J2
     have HS : Hid (sgnV false N = (q : Int) ∧ sgnB N = true):=⟨by rw [sgnV_yes false J2,hnear];simp,sgnB_yes J2⟩
     clear hnear hb hq hc w3 w2
     exact K44
theorem sgnV_neg (N : Nat) : sgnV true N = -sgnV false N:=by unfold sgnV;split <;> simp
theorem sgnV_bd (N : Nat) : 0 ≤ sgnV false N ∧ sgnV false N ≤ 9223372036854775807:=by
 unfold sgnV
 split
 · rename_i h
   unfold sgnB at h
   simp at h ⊢
   omega
 · omega
theorem sgnV_no0 {N : Nat} (h : sgnB N = false) (b : Bool) : sgnV b N = 0:=by unfold sgnV;rw [h];rfl
theorem mean_pos (x : Int) (hx : I128 x) (n : Nat) (hn : 0 < n) (hn' : n ≤ 9223372036854775807) (W : World) : Calls Tryz.prog 233 #[.agg #[.int .i64 (hiOf x),.int .u64 (loOf x)],.int .i64 (n : Int)] W fun e w' =>
   e = .returned (.tuple #[.int .i64 (sgnV (decide (x < 0)) (nearQ x.natAbs n)),.bool (sgnB (nearQ x.natAbs n))]) ∧ Ext W w':=by
 have cQ:=fun W=>quotient_any x hx n hn hn' W
 have HN:=hi_neg x hx
 have d1 : decide ((n : Int) < 1) = false:=J8
 have d2 : ¬ (n : Int) < 1:=J2
 have wn : IntKind.u64.wrap (n : Int) = (n : Int):=J62
 obtain ⟨N,hN⟩ : ∃ N,nearQ x.natAbs n = N:=⟨_,rfl⟩
 rw [hN] at cQ ⊢
 have bd:=sgnV_bd N
 have hi0 : ∃ z : Int,hiOf x = z:=⟨_,rfl⟩
 obtain ⟨a0,ha0⟩:=hi0
 obtain ⟨a1,ha1⟩ : ∃ z : Int,loOf x = z:=⟨_,rfl⟩
 rw [ha0,ha1] at cQ
 rw [ha0] at HN
 rw [ha0,ha1]
 cases hb : sgnB N
 · rw [sgnV_no0 hb] at cQ ⊢
   rw [hb] at cQ
   clear HN hN bd hb ha0 ha1 hn hn'
   go_enter func233,ntmps233
   go_wp2_with fail
   refine (cQ _).mono ?_
   rintro e w1 ⟨rfl,E1⟩
   go_wp2_with fail
   go_ret2
   exact ⟨rfl,(xr.alloc _).trans E1⟩
 · rw [hb] at cQ
   by_cases hs : x < 0
   · have hd : decide (a0 < 0) = true:=J98
     have hd' : a0 < 0:=by simpa using hd
     have e : decide (x < 0) = true:=by simpa using hs
     rw [e,sgnV_neg]
     generalize sgnV false N = y at *
     have wy : wrap64 (-y) = -y:=J67
     clear HN hN hb ha0 ha1 hn hn' e hs
     exact K84
   · have hd : decide (a0 < 0) = false:=J98
     have hd' : ¬ a0 < 0:=by simpa using hd
     have e : decide (x < 0) = false:=by simpa using hs
     rw [e]
     generalize sgnV false N = y at *
     clear HN hN hb ha0 ha1 hn hn' e hs bd
     exact K84
theorem mean_no {x n : Int} (h : ¬ 1 ≤ n) : meanB x n = false ∧ meanV x n = 0:=by
 have : meanB x n = false:=by unfold meanB;simp;omega
 exact ⟨this,by unfold meanV;rw [this];rfl⟩
theorem fmean_any (x : Int) (hx : I128 x) (n : Int) (hn : I64 n) (W : World) : Calls Tryz.prog 233 #[.agg #[.int .i64 (hiOf x),.int .u64 (loOf x)],.int .i64 n] W fun e w' =>
   e = .returned (.tuple #[.int .i64 (meanV x n),.bool (meanB x n)]) ∧ Ext W w':=by
 obtain ⟨h1,h2⟩:=hn
 by_cases h : 1 ≤ n
 · obtain ⟨d,rfl⟩:=Int.eq_ofNat_of_zero_le (show 0 ≤ n by omega)
   rw [meanB_near x d J2,meanV_near x d J2]
   exact mean_pos x hx d J2 J2 W
 · have d1 : decide (n < 1) = true:=J8
   have d2 : n < 1:=J2
   rw [(mean_no h).1,(mean_no h).2]
   generalize hiOf x = a0
   generalize loOf x = a1
   clear h
   go_enter func233,ntmps233
   go_wp2_with fail
   go_ret2
   exact ⟨rfl,xr.alloc _⟩
theorem RdA.to {B : Nat} {W W' : World} {v : Value} {l : List Ag} (h : RdA B W v l) (hB : B ≤ W.heap.size) (e : Ext W W') : RdA W'.heap.size W' v l:=((h.up hB).low e).up e.size
theorem RdV.to {B : Nat} {W W' : World} {v : Value} {l : List Rw} (h : RdV B W v l) (hB : B ≤ W.heap.size) (e : Ext W W') : RdV W'.heap.size W' v l:=((h.up hB).low e).up e.size
structure Fit (W : World) (v : Value) (gs : List Ag) : Prop where
 rd : RdA W.heap.size W v gs
 i : AgI gs
 s : (seen gs).length ≤ 10000000000
 l : gs.length ≤ 10000000000
theorem Fit.ext {W W' : World} {v : Value} {gs : List Ag} (h : Fit W v gs) (e : Ext W W') : Fit W' v gs:=⟨h.rd.to nrf e,h.i,h.s,h.l⟩
theorem ftold_any (n : Int) (b : Bool) (W : World) (hN : Nm W) : Calls Tryz.prog 229 #[.int .i64 n,.bool b] W fun e w'=>e = .returned (toldR b n).dat ∧ Ext W w':=by
 have c1:=fun W h=>vnum_any n W h
 have c2:=fun W h=>err_any 4 W h
 rw [mkErr_is ⟨by decide,by decide⟩] at c2
 cases b with
 | false =>
   have H : Hid (toldR false n = .err 4):=rfl
   simp only [V.dat] at c2
   clear c1
   go_enter func229,ntmps229
   go_wp2_with fail
   refine (c2 _ (hN.ext (xr.alloc _))).mono ?_
   rintro e w1 ⟨rfl,E1⟩
   obtain ⟨z,⟨k0,k1,k2,k3⟩,f0,f1,f2,f3⟩:=blk_top (b:=W.heap.size) J60 E1
   go_wp2_with fail
   exact fin4 k0 k1 k2 k3 rfl J60 ((xr.alloc _).trans E1) (fun W g0 g1 g2 g3=>by simp [results,results229,go_sem,g0,g1,g2,g3]) (fun W h=>⟨by rw [H.out];rfl,h⟩)
 | true =>
   have H : Hid (toldR true n = mkNum n):=rfl
   obtain ⟨q0,q1,q2,q3,hq⟩:=dat4 (mkNum n)
   rw [hq] at c1
   have HQ : Hid ((mkNum n).dat = .agg #[.int .i64 q0,.int .i64 q1,.string q2,.int .i64 q3]):=hq
   clear c2 hq
   go_enter func229,ntmps229
   go_wp2_with fail
   refine (c1 _ (hN.ext (xr.alloc _))).mono ?_
   rintro e w1 ⟨rfl,E1⟩
   obtain ⟨z,⟨k0,k1,k2,k3⟩,f0,f1,f2,f3⟩:=blk_top (b:=W.heap.size) J60 E1
   go_wp2_with fail
   exact fin4 k0 k1 k2 k3 rfl J60 ((xr.alloc _).trans E1) (fun W g0 g1 g2 g3=>by simp [results,results229,go_sem,g0,g1,g2,g3]) (fun W h=>⟨by rw [H.out,HQ.out],h⟩)
theorem sum_bd {l : List V} (h : AllN l) (hl : l.length ≤ 20000000000) : I128 (sumN l):=by
 have hb : ∀ v ∈ l,-9223372036854775808 ≤ v.n ∧ v.n ≤ 9223372036854775807:=fun v hv=>by
   obtain ⟨n,rfl,h1,_⟩:=h v hv
   exact h1
 have h1:=sum_le (c:=9223372036854775807) (fun v hv=>(hb v hv).2)
 have h2:=le_sum (c:=-9223372036854775808) (fun v hv=>(hb v hv).1)
 exact K130
theorem Fit.sum {W : World} {v : Value} {gs : List Ag} (h : Fit W v gs) : I128 (sumN (got numF (seen gs))):=sum_bd (got_nums _ (seen_ok gs h.i)) (Nat.le_trans (got_len _ _) (Nat.le_trans h.s J6))
theorem Fit.num {W : World} {v : Value} {gs : List Ag} (h : Fit W v gs) : (got numF (seen gs)).length ≤ 10000000000:=Nat.le_trans (got_len _ _) h.s
theorem fsum_any (gs : List Ag) (W : World) (p : Option Addr) (n c : Nat) (hF : Fit W (.slice p n c) gs) (hN : Nm W) :
   Calls Tryz.prog 179 #[.slice p n c] W fun e w'=>e = .returned (fSum gs).dat ∧ Ext W w':=by
 have HF : Hid (Fit W (.slice p n c) gs ∧ Nm W):=⟨hF,hN⟩
 have HS : Hid (fSum gs = if (bad numF (seen gs)).k = 4 then bad numF (seen gs) else toldR (toldB (sumN (got numF (seen gs)))) (toldV (sumN (got numF (seen gs))))):=rfl
 have CT : Hid (∀ V,Ext W V → Calls Tryz.prog 228 #[.slice p n c] V fun e w'=>e = .returned (.tuple #[.agg #[.int .i64 (hiOf (sumN (got numF (seen gs)))),.int .u64 (loOf (sumN (got numF (seen gs))))],.int .i64 ((got numF (seen gs)).length : Int),(bad numF (seen gs)).dat]) ∧ Ext V w'):=fun V e =>
   have f:=hF.ext e
   total_any V gs p n c f.rd f.i f.s f.l (hN.ext e)
 have cTo:=fun W=>told_acc (sumN (got numF (seen gs))) W
 have cR:=fun W h=>ftold_any (toldV (sumN (got numF (seen gs)))) (toldB (sumN (got numF (seen gs)))) W h
 clear hF hN
 rw [dat_eq (bad numF (seen gs))] at CT
 obtain ⟨q0,q1,q2,q3,hq⟩:=dat4 (toldR (toldB (sumN (got numF (seen gs)))) (toldV (sumN (got numF (seen gs)))))
 rw [hq] at cR
 have HQ : Hid ((toldR (toldB (sumN (got numF (seen gs)))) (toldV (sumN (got numF (seen gs))))).dat = .agg #[.int .i64 q0,.int .i64 q1,.string q2,.int .i64 q3]):=hq
 clear hq
 generalize sumN (got numF (seen gs)) = S at *
 generalize hiOf S = S0 at *
 generalize loOf S = S1 at *
 generalize toldV S = tv at *
 generalize toldB S = tb at *
 generalize ((got numF (seen gs)).length : Int) = C0 at *
 have HB : Hid ((bad numF (seen gs)).dat = .agg #[.int .i64 (bad numF (seen gs)).k,.int .i64 (bad numF (seen gs)).n,.string (bad numF (seen gs)).s,.int .i64 (bad numF (seen gs)).e]):=dat_eq _
 generalize bad numF (seen gs) = z at *
 obtain ⟨zk,hzk⟩ : ∃ r,z.k = r:=⟨_,rfl⟩
 obtain ⟨zn,hzn⟩ : ∃ r,z.n = r:=⟨_,rfl⟩
 obtain ⟨zs',hzs⟩ : ∃ r,z.s = r:=⟨_,rfl⟩
 obtain ⟨ze,hze⟩ : ∃ r,z.e = r:=⟨_,rfl⟩
 rw [hzk,hzn,hzs,hze] at CT HB
 rw [hzk] at HS
 clear hzk hzn hzs hze
 by_cases h4 : zk = 4
 · have e4 : (zk == 4) = true:=J95
   have HZ : Hid (fSum gs = z):=J99
   clear h4 HS cTo cR
   go_enter func179,ntmps179
   go_wp2_with fail
   refine (CT.out _ (xr.alloc _)).mono ?_
   rintro e w1 ⟨rfl,E1⟩
   have X1 : Hid (Ext W w1):=(xr.alloc _).trans E1
   have HB1 : Hid (Blk w1 W.heap.size (.int .i64 0) (.int .i64 0) (.string ⟨#[]⟩) (.int .i64 0)):=blk_top J60 E1
   obtain ⟨c0z,⟨c0_0,c0_1,c0_2,c0_3⟩,c0f0,c0f1,c0f2,c0f3⟩:=HB1.out
   clear E1
   go_wp2_with fail
   exact finB (((HB1.out.set _ _ _ _).al _).al _) rfl J7 (fun g0 g1 g2 g3=>by simp [results,results179,go_sem,g0,g1,g2,g3]) (fun h=>⟨by rw [HZ.out,HB.out],h⟩)
 · have e4 : (zk == 4) = false:=J95
   have HZ : Hid (fSum gs = toldR tb tv):=by show _ = _;rw [HS.out,if_neg h4]
   clear h4 HS
   go_enter func179,ntmps179
   go_wp2_with fail
   refine (CT.out _ (xr.alloc _)).mono ?_
   rintro e w1 ⟨rfl,E1⟩
   have X1 : Hid (Ext W w1):=(xr.alloc _).trans E1
   have HB1 : Hid (Blk w1 W.heap.size (.int .i64 0) (.int .i64 0) (.string ⟨#[]⟩) (.int .i64 0)):=blk_top J60 E1
   obtain ⟨c0z,⟨c0_0,c0_1,c0_2,c0_3⟩,c0f0,c0f1,c0f2,c0f3⟩:=HB1.out
   clear E1
   go_wp2_with fail
   refine (cTo _).mono ?_
   rintro e w2 ⟨rfl,E2⟩
   have X2 : Hid (Ext W w2):=Ext.trans J7 E2
   have HB2 : Hid (Blk w2 W.heap.size (.int .i64 0) (.int .i64 0) (.string ⟨#[]⟩) (.int .i64 0)):=((HB1.out.al _).al _).ext E2
   clear c0z c0_0 c0_1 c0_2 c0_3 c0f0 c0f1 c0f2 c0f3 E2
   obtain ⟨c0z,⟨c0_0,c0_1,c0_2,c0_3⟩,c0f0,c0f1,c0f2,c0f3⟩:=HB2.out
   go_wp2_with fail
   refine (cR _ (HF.out.2.ext (by with_reducible repeat (first | exact X2.out | apply Ext.alloc)))).mono ?_
   rintro e w3 ⟨rfl,E3⟩
   have X3 : Hid (Ext W w3):=Ext.trans J18 E3
   have HB3 : Hid (Blk w3 W.heap.size (.int .i64 0) (.int .i64 0) (.string ⟨#[]⟩) (.int .i64 0)):=(HB2.out).ext E3
   clear c0z c0_0 c0_1 c0_2 c0_3 c0f0 c0f1 c0f2 c0f3 E3
   obtain ⟨c0z,⟨c0_0,c0_1,c0_2,c0_3⟩,c0f0,c0f1,c0f2,c0f3⟩:=HB3.out
   go_wp2_with fail
   exact finB (HB3.out.set _ _ _ _) rfl (by with_reducible repeat (first | exact X3.out | exact xr | apply Ext.alloc | apply Ext.drewN | (refine Ext.setCell ?_ J60 _))) (fun g0 g1 g2 g3=>by simp [results,results179,go_sem,g0,g1,g2,g3]) (fun h=>⟨by rw [HZ.out,HQ.out],h⟩)
theorem fcount_any (gs : List Ag) (W : World) (p : Option Addr) (n c : Nat) (hF : Fit W (.slice p n c) gs) (hN : Nm W) :
   Calls Tryz.prog 180 #[.slice p n c] W fun e w'=>e = .returned (fCount gs).dat ∧ Ext W w':=by
 have HF : Hid (Fit W (.slice p n c) gs ∧ Nm W):=⟨hF,hN⟩
 have HS : Hid (fCount gs = mkNum (((got numF (seen gs)).length : Int) * 10000)):=rfl
 have CT : Hid (∀ V,Ext W V → Calls Tryz.prog 228 #[.slice p n c] V fun e w'=>e = .returned (.tuple #[.agg #[.int .i64 (hiOf (sumN (got numF (seen gs)))),.int .u64 (loOf (sumN (got numF (seen gs))))],.int .i64 ((got numF (seen gs)).length : Int),(bad numF (seen gs)).dat]) ∧ Ext V w'):=fun V e =>
   have f:=hF.ext e
   total_any V gs p n c f.rd f.i f.s f.l (hN.ext e)
 have cR:=fun W h=>vnum_any (((got numF (seen gs)).length : Int) * 10000) W h
 obtain ⟨q0,q1,q2,q3,hq⟩:=dat4 (mkNum (((got numF (seen gs)).length : Int) * 10000))
 rw [hq] at cR
 have HQ : Hid ((mkNum (((got numF (seen gs)).length : Int) * 10000)).dat = .agg #[.int .i64 q0,.int .i64 q1,.string q2,.int .i64 q3]):=hq
 have hm:=hF.num
 have wm : wrap64 (((got numF (seen gs)).length : Int) * 10000) = ((got numF (seen gs)).length : Int) * 10000:=J67
 clear hF hN hq hm
 rw [dat_eq (bad numF (seen gs))] at CT
 generalize sumN (got numF (seen gs)) = S at *
 generalize hiOf S = S0 at *
 generalize loOf S = S1 at *
 generalize (got numF (seen gs)).length = C0 at *
 obtain ⟨C1,hC1⟩ : ∃ r : Int,(C0 : Int) * 10000 = r:=⟨_,rfl⟩
 rw [hC1] at cR HQ HS
 have wm2 : wrap64 ((C0 : Int) * 10000) = C1:=by rw [wm,hC1]
 clear wm hC1
 generalize bad numF (seen gs) = z at *
 generalize z.k = zk at *
 generalize z.n = zn at *
 generalize z.s = zs' at *
 generalize z.e = ze at *
 go_enter func180,ntmps180
 go_wp2_with fail
 refine (CT.out _ (xr.alloc _)).mono ?_
 rintro e w1 ⟨rfl,E1⟩
 have X1 : Hid (Ext W w1):=(xr.alloc _).trans E1
 have HB1 : Hid (Blk w1 W.heap.size (.int .i64 0) (.int .i64 0) (.string ⟨#[]⟩) (.int .i64 0)):=blk_top J60 E1
 obtain ⟨c0z,⟨c0_0,c0_1,c0_2,c0_3⟩,c0f0,c0f1,c0f2,c0f3⟩:=HB1.out
 clear E1
 go_wp2_with fail
 refine (cR _ (HF.out.2.ext J31)).mono ?_
 rintro e w2 ⟨rfl,E2⟩
 have X2 : Hid (Ext W w2):=Ext.trans J7 E2
 have HB2 : Hid (Blk w2 W.heap.size (.int .i64 0) (.int .i64 0) (.string ⟨#[]⟩) (.int .i64 0)):=((HB1.out.al _).al _).ext E2
 clear c0z c0_0 c0_1 c0_2 c0_3 c0f0 c0f1 c0f2 c0f3 E2
 obtain ⟨c0z,⟨c0_0,c0_1,c0_2,c0_3⟩,c0f0,c0f1,c0f2,c0f3⟩:=HB2.out
 go_wp2_with fail
 exact finB (HB2.out.set _ _ _ _) rfl J18 (fun g0 g1 g2 g3=>by simp [results,results180,go_sem,g0,g1,g2,g3]) (fun h=>⟨by rw [HS.out,HQ.out],h⟩)
theorem favg_any (gs : List Ag) (W : World) (p : Option Addr) (n c : Nat) (hF : Fit W (.slice p n c) gs) (hN : Nm W) :
   Calls Tryz.prog 183 #[.slice p n c] W fun e w'=>e = .returned (fMean gs).dat ∧ Ext W w':=by
 have HF : Hid (Fit W (.slice p n c) gs ∧ Nm W):=⟨hF,hN⟩
 have HS : Hid (fMean gs = if (bad numF (seen gs)).k = 4 then bad numF (seen gs) else if (got numF (seen gs)).length = 0 then .err 3 else toldR (meanB (sumN (got numF (seen gs))) (got numF (seen gs)).length) (meanV (sumN (got numF (seen gs))) (got numF (seen gs)).length)):=rfl
 have CT : Hid (∀ V,Ext W V → Calls Tryz.prog 228 #[.slice p n c] V fun e w'=>e = .returned (.tuple #[.agg #[.int .i64 (hiOf (sumN (got numF (seen gs)))),.int .u64 (loOf (sumN (got numF (seen gs))))],.int .i64 ((got numF (seen gs)).length : Int),(bad numF (seen gs)).dat]) ∧ Ext V w'):=fun V e =>
   have f:=hF.ext e
   total_any V gs p n c f.rd f.i f.s f.l (hN.ext e)
 have hm:=hF.num
 have cTo:=fun W=>fmean_any (sumN (got numF (seen gs))) hF.sum ((got numF (seen gs)).length : Int) ⟨by omega,by omega⟩ W
 have cE:=fun W h=>err_any 3 W h
 rw [mkErr_is ⟨by decide,by decide⟩] at cE
 simp only [V.dat] at cE
 have cR:=fun W h=>ftold_any (meanV (sumN (got numF (seen gs))) (got numF (seen gs)).length) (meanB (sumN (got numF (seen gs))) (got numF (seen gs)).length) W h
 clear hF hN hm
 rw [dat_eq (bad numF (seen gs))] at CT
 obtain ⟨q0,q1,q2,q3,hq⟩:=dat4 (toldR (meanB (sumN (got numF (seen gs))) (got numF (seen gs)).length) (meanV (sumN (got numF (seen gs))) (got numF (seen gs)).length))
 rw [hq] at cR
 have HQ : Hid ((toldR (meanB (sumN (got numF (seen gs))) (got numF (seen gs)).length) (meanV (sumN (got numF (seen gs))) (got numF (seen gs)).length)).dat = .agg #[.int .i64 q0,.int .i64 q1,.string q2,.int .i64 q3]):=hq
 clear hq
 generalize sumN (got numF (seen gs)) = S at *
 generalize hiOf S = S0 at *
 generalize loOf S = S1 at *
 generalize (got numF (seen gs)).length = C0 at *
 generalize meanV S (C0 : Int) = tv at *
 generalize meanB S (C0 : Int) = tb at *
 have HB : Hid ((bad numF (seen gs)).dat = .agg #[.int .i64 (bad numF (seen gs)).k,.int .i64 (bad numF (seen gs)).n,.string (bad numF (seen gs)).s,.int .i64 (bad numF (seen gs)).e]):=dat_eq _
 generalize bad numF (seen gs) = z at *
 obtain ⟨zk,hzk⟩ : ∃ r,z.k = r:=⟨_,rfl⟩
 obtain ⟨zn,hzn⟩ : ∃ r,z.n = r:=⟨_,rfl⟩
 obtain ⟨zs',hzs⟩ : ∃ r,z.s = r:=⟨_,rfl⟩
 obtain ⟨ze,hze⟩ : ∃ r,z.e = r:=⟨_,rfl⟩
 rw [hzk,hzn,hzs,hze] at CT HB
 rw [hzk] at HS
 clear hzk hzn hzs hze
 by_cases h4 : zk = 4
 · have e4 : (zk == 4) = true:=J95
   have HZ : Hid (fMean gs = z):=J99
   clear h4 HS cTo cR cE
   go_enter func183,ntmps183
   go_wp2_with fail
   refine (CT.out _ (xr.alloc _)).mono ?_
   rintro e w1 ⟨rfl,E1⟩
   have X1 : Hid (Ext W w1):=(xr.alloc _).trans E1
   have HB1 : Hid (Blk w1 W.heap.size (.int .i64 0) (.int .i64 0) (.string ⟨#[]⟩) (.int .i64 0)):=blk_top J60 E1
   obtain ⟨c0z,⟨c0_0,c0_1,c0_2,c0_3⟩,c0f0,c0f1,c0f2,c0f3⟩:=HB1.out
   clear E1
   go_wp2_with fail
   exact finB (((HB1.out.set _ _ _ _).al _).al _) rfl J7 J40 (fun h=>⟨by rw [HZ.out,HB.out],h⟩)
 have e4 : (zk == 4) = false:=J95
 rw [if_neg h4] at HS
 clear h4
 by_cases hc : C0 = 0
 · have ec : ((C0 : Int) == 0) = true:=J8
   have HZ : Hid (fMean gs = .err 3):=by show _ = _;rw [HS.out,if_pos hc]
   clear hc HS cTo cR
   go_enter func183,ntmps183
   go_wp2_with fail
   refine (CT.out _ (xr.alloc _)).mono ?_
   rintro e w1 ⟨rfl,E1⟩
   have X1 : Hid (Ext W w1):=(xr.alloc _).trans E1
   have HB1 : Hid (Blk w1 W.heap.size (.int .i64 0) (.int .i64 0) (.string ⟨#[]⟩) (.int .i64 0)):=blk_top J60 E1
   obtain ⟨c0z,⟨c0_0,c0_1,c0_2,c0_3⟩,c0f0,c0f1,c0f2,c0f3⟩:=HB1.out
   clear E1
   go_wp2_with fail
   refine (cE _ (HF.out.2.ext J31)).mono ?_
   rintro e w2 ⟨rfl,E2⟩
   have X2 : Hid (Ext W w2):=Ext.trans J7 E2
   have HB2 : Hid (Blk w2 W.heap.size (.int .i64 0) (.int .i64 0) (.string ⟨#[]⟩) (.int .i64 0)):=((HB1.out.al _).al _).ext E2
   clear c0z c0_0 c0_1 c0_2 c0_3 c0f0 c0f1 c0f2 c0f3 E2
   obtain ⟨c0z,⟨c0_0,c0_1,c0_2,c0_3⟩,c0f0,c0f1,c0f2,c0f3⟩:=HB2.out
   go_wp2_with fail
   exact finB (HB2.out.set _ _ _ _) rfl J18 J40 (fun h=>⟨by rw [HZ.out];rfl,h⟩)
 · have ec : ((C0 : Int) == 0) = false:=J8
   have HZ : Hid (fMean gs = toldR tb tv):=by show _ = _;rw [HS.out,if_neg hc]
   clear hc HS cE
   go_enter func183,ntmps183
   go_wp2_with fail
   refine (CT.out _ (xr.alloc _)).mono ?_
   rintro e w1 ⟨rfl,E1⟩
   have X1 : Hid (Ext W w1):=(xr.alloc _).trans E1
   have HB1 : Hid (Blk w1 W.heap.size (.int .i64 0) (.int .i64 0) (.string ⟨#[]⟩) (.int .i64 0)):=blk_top J60 E1
   obtain ⟨c0z,⟨c0_0,c0_1,c0_2,c0_3⟩,c0f0,c0f1,c0f2,c0f3⟩:=HB1.out
   clear E1
   go_wp2_with fail
   refine (cTo _).mono ?_
   rintro e w2 ⟨rfl,E2⟩
   have X2 : Hid (Ext W w2):=Ext.trans J7 E2
   have HB2 : Hid (Blk w2 W.heap.size (.int .i64 0) (.int .i64 0) (.string ⟨#[]⟩) (.int .i64 0)):=((HB1.out.al _).al _).ext E2
   clear c0z c0_0 c0_1 c0_2 c0_3 c0f0 c0f1 c0f2 c0f3 E2
   obtain ⟨c0z,⟨c0_0,c0_1,c0_2,c0_3⟩,c0f0,c0f1,c0f2,c0f3⟩:=HB2.out
   go_wp2_with fail
   refine (cR _ (HF.out.2.ext (by with_reducible repeat (first | exact X2.out | apply Ext.alloc)))).mono ?_
   rintro e w3 ⟨rfl,E3⟩
   have X3 : Hid (Ext W w3):=Ext.trans J18 E3
   have HB3 : Hid (Blk w3 W.heap.size (.int .i64 0) (.int .i64 0) (.string ⟨#[]⟩) (.int .i64 0)):=(HB2.out).ext E3
   clear c0z c0_0 c0_1 c0_2 c0_3 c0f0 c0f1 c0f2 c0f3 E3
   obtain ⟨c0z,⟨c0_0,c0_1,c0_2,c0_3⟩,c0f0,c0f1,c0f2,c0f3⟩:=HB3.out
   go_wp2_with fail
   exact finB (HB3.out.set _ _ _ _) rfl (by with_reducible repeat (first | exact X3.out | exact xr | apply Ext.alloc | apply Ext.drewN | (refine Ext.setCell ?_ J60 _))) J40 (fun h=>⟨by rw [HZ.out,HQ.out],h⟩)
theorem fmin_any (gs : List Ag) (W : World) (p : Option Addr) (n c : Nat) (hF : Fit W (.slice p n c) gs) (hN : Nm W) :
   Calls Tryz.prog 181 #[.slice p n c] W fun e w'=>e = .returned (fBest ltB gs).dat ∧ Ext W w':=by
 have HF : Hid (Fit W (.slice p n c) gs ∧ Nm W):=⟨hF,hN⟩
 have CT : Hid (∀ V,Ext W V → Calls Tryz.prog 230 #[.slice p n c,.func (.func 231) #[] #[]] V fun e w'=>e = .returned (fBest ltB gs).dat ∧ Ext V w'):=fun V e =>
   have f:=hF.ext e
   utmost_any ltB _ ah_min V gs p n c f.rd f.i f.s f.l (hN.ext e)
 clear hF hN
 obtain ⟨q0,q1,q2,q3,hq⟩:=dat4 (fBest ltB gs)
 rw [hq] at CT
 have HQ : Hid ((fBest ltB gs).dat = .agg #[.int .i64 q0,.int .i64 q1,.string q2,.int .i64 q3]):=hq
 clear hq
 go_enter func181,ntmps181
 go_wp2_with fail
 refine (CT.out _ (xr.alloc _)).mono ?_
 rintro e w1 ⟨rfl,E1⟩
 have X1 : Hid (Ext W w1):=(xr.alloc _).trans E1
 have HB1 : Hid (Blk w1 W.heap.size (.int .i64 0) (.int .i64 0) (.string ⟨#[]⟩) (.int .i64 0)):=blk_top J60 E1
 obtain ⟨c0z,⟨c0_0,c0_1,c0_2,c0_3⟩,c0f0,c0f1,c0f2,c0f3⟩:=HB1.out
 clear E1
 go_wp2_with fail
 exact finB (HB1.out.set _ _ _ _) rfl J7 (fun g0 g1 g2 g3=>by simp [results,results181,go_sem,g0,g1,g2,g3]) (fun h=>⟨by rw [HQ.out],h⟩)
theorem fmax_any (gs : List Ag) (W : World) (p : Option Addr) (n c : Nat) (hF : Fit W (.slice p n c) gs) (hN : Nm W) :
   Calls Tryz.prog 182 #[.slice p n c] W fun e w'=>e = .returned (fBest gtB gs).dat ∧ Ext W w':=by
 have HF : Hid (Fit W (.slice p n c) gs ∧ Nm W):=⟨hF,hN⟩
 have CT : Hid (∀ V,Ext W V → Calls Tryz.prog 230 #[.slice p n c,.func (.func 232) #[] #[]] V fun e w'=>e = .returned (fBest gtB gs).dat ∧ Ext V w'):=fun V e =>
   have f:=hF.ext e
   utmost_any gtB _ ah_max V gs p n c f.rd f.i f.s f.l (hN.ext e)
 clear hF hN
 obtain ⟨q0,q1,q2,q3,hq⟩:=dat4 (fBest gtB gs)
 rw [hq] at CT
 have HQ : Hid ((fBest gtB gs).dat = .agg #[.int .i64 q0,.int .i64 q1,.string q2,.int .i64 q3]):=hq
 clear hq
 go_enter func182,ntmps182
 go_wp2_with fail
 refine (CT.out _ (xr.alloc _)).mono ?_
 rintro e w1 ⟨rfl,E1⟩
 have X1 : Hid (Ext W w1):=(xr.alloc _).trans E1
 have HB1 : Hid (Blk w1 W.heap.size (.int .i64 0) (.int .i64 0) (.string ⟨#[]⟩) (.int .i64 0)):=blk_top J60 E1
 obtain ⟨c0z,⟨c0_0,c0_1,c0_2,c0_3⟩,c0f0,c0f1,c0f2,c0f3⟩:=HB1.out
 clear E1
 go_wp2_with fail
 exact finB (HB1.out.set _ _ _ _) rfl J7 (fun g0 g1 g2 g3=>by simp [results,results182,go_sem,g0,g1,g2,g3]) (fun h=>⟨by rw [HQ.out],h⟩)
theorem truthOf_any (b : Bool) (m : Nat) (z : V) (W : World) (hN : Nm W) : Calls Tryz.prog 235 #[.bool b,.int .i64 (m : Int),z.dat] W fun e w'=>e = .returned (orBad z (if m = 0 then .err 2 else .tf b)).dat ∧ Ext W w':=by
 have cE:=fun W h=>err_any 2 W h
 rw [mkErr_is ⟨by decide,by decide⟩] at cE
 have cB:=fun W=>vbool_any b W
 obtain ⟨q0,q1,q2,q3,hq⟩:=dat4 (V.tf b)
 rw [hq] at cB
 have HQ : Hid ((V.tf b).dat = .agg #[.int .i64 q0,.int .i64 q1,.string q2,.int .i64 q3]):=hq
 simp only [V.dat] at cE
 have HB : Hid (z.dat = .agg #[.int .i64 z.k,.int .i64 z.n,.string z.s,.int .i64 z.e]):=dat_eq _
 rw [dat_eq z]
 have HS : Hid (orBad z (if m = 0 then .err 2 else .tf b) = if z.k = 4 then z else (if m = 0 then .err 2 else .tf b)):=rfl
 obtain ⟨R,hR⟩ : ∃ R,orBad z (if m = 0 then .err 2 else .tf b) = R:=⟨_,rfl⟩
 rw [hR] at HS ⊢
 clear hq hR
 obtain ⟨zk,hzk⟩ : ∃ r,z.k = r:=⟨_,rfl⟩
 obtain ⟨zn,hzn⟩ : ∃ r,z.n = r:=⟨_,rfl⟩
 obtain ⟨zs',hzs⟩ : ∃ r,z.s = r:=⟨_,rfl⟩
 obtain ⟨ze,hze⟩ : ∃ r,z.e = r:=⟨_,rfl⟩
 rw [hzk,hzn,hzs,hze] at HB ⊢
 rw [hzk] at HS
 clear hzk hzn hzs hze
 have X0 : Hid (∀ o o',Ext W ((W.alloc o).alloc o')):=fun o o'=>(xr.alloc _).alloc _
 by_cases h4 : zk = 4
 · have e4 : (zk == 4) = true:=J95
   have HZ : Hid (R = z):=J99
   clear h4 HS cB cE
   go_enter func235,ntmps235
   go_wp2_with fail
   simp [bodyPost,results,results235,go_sem]
   exact ⟨by rw [HZ.out,HB.out],X0.out _ _⟩
 have e4 : (zk == 4) = false:=J95
 rw [if_neg h4] at HS
 clear h4
 by_cases hc : m = 0
 · have ec : ((m : Int) == 0) = true:=J8
   have HZ : Hid (R = .err 2):=by show _ = _;rw [HS.out,if_pos hc]
   clear hc HS cB
   go_enter func235,ntmps235
   go_wp2_with fail
   refine (cE _ (hN.ext (X0.out _ _))).mono ?_
   rintro e w1 ⟨rfl,E1⟩
   obtain ⟨z1,⟨k0,k1,k2,k3⟩,f0,f1,f2,f3⟩:=blk_top (b:=W.heap.size + 1) J60 E1
   go_wp2_with fail
   exact fin4 k0 k1 k2 k3 rfl J60 ((X0.out _ _).trans E1) (fun W g0 g1 g2 g3=>by simp [results,results235,go_sem,g0,g1,g2,g3]) (fun W h=>⟨by rw [HZ.out];rfl,h⟩)
 · have ec : ((m : Int) == 0) = false:=J8
   have HZ : Hid (R = .tf b):=by show _ = _;rw [HS.out,if_neg hc]
   clear hc HS cE
   go_enter func235,ntmps235
   go_wp2_with fail
   refine (cB _).mono ?_
   rintro e w1 ⟨rfl,E1⟩
   obtain ⟨z1,⟨k0,k1,k2,k3⟩,f0,f1,f2,f3⟩:=blk_top (b:=W.heap.size + 1) J60 E1
   go_wp2_with fail
   exact fin4 k0 k1 k2 k3 rfl J60 ((X0.out _ _).trans E1) (fun W g0 g1 g2 g3=>by simp [results,results235,go_sem,g0,g1,g2,g3]) (fun W h=>⟨by rw [HZ.out,HQ.out],h⟩)
theorem fand_any (gs : List Ag) (W : World) (p : Option Addr) (n c : Nat) (hF : Fit W (.slice p n c) gs) (hN : Nm W) :
   Calls Tryz.prog 184 #[.slice p n c] W fun e w'=>e = .returned (fAnd gs).dat ∧ Ext W w':=by
 have HF : Hid (Fit W (.slice p n c) gs ∧ Nm W):=⟨hF,hN⟩
 have HS : Hid (fAnd gs = orBad (bad truF (seen gs)) (if (got truF (seen gs)).length = 0 then .err 2 else .tf (decide (truN (got truF (seen gs)) = (got truF (seen gs)).length)))):=rfl
 have CT : Hid (∀ V,Ext W V → Calls Tryz.prog 234 #[.slice p n c] V fun e w'=>e = .returned (.tuple #[.int .i64 ((got truF (seen gs)).length : Int),.int .i64 (truN (got truF (seen gs)) : Int),(bad truF (seen gs)).dat]) ∧ Ext V w'):=fun V e =>
   have f:=hF.ext e
   poll_any V gs p n c f.rd f.i f.s f.l (hN.ext e)
 have cR:=fun W h=>truthOf_any (decide (truN (got truF (seen gs)) = (got truF (seen gs)).length)) (got truF (seen gs)).length (bad truF (seen gs)) W h
 clear hF hN
 rw [dat_eq (bad truF (seen gs))] at CT cR
 obtain ⟨R,hR⟩ : ∃ R,fAnd gs = R:=⟨_,rfl⟩
 rw [← HS.out,hR] at cR
 rw [hR]
 obtain ⟨q0,q1,q2,q3,hq⟩:=dat4 R
 rw [hq] at cR
 have HQ : Hid (R.dat = .agg #[.int .i64 q0,.int .i64 q1,.string q2,.int .i64 q3]):=hq
 clear hq HS hR
 generalize truN (got truF (seen gs)) = T0 at *
 generalize (got truF (seen gs)).length = C0 at *
 generalize bad truF (seen gs) = z at *
 generalize z.k = zk at *
 generalize z.n = zn at *
 generalize z.s = zs' at *
 generalize z.e = ze at *
 obtain ⟨bb,hbb⟩ : ∃ bb,decide (T0 = C0) = bb:=⟨_,rfl⟩
 rw [hbb] at cR
 have eb : (((T0 : Int)) == ((C0 : Int))) = bb:=by rw [← hbb,Bool.eq_iff_iff];simp;omega
 clear hbb
 go_enter func184,ntmps184
 go_wp2_with fail
 refine (CT.out _ (xr.alloc _)).mono ?_
 rintro e w1 ⟨rfl,E1⟩
 have X1 : Hid (Ext W w1):=(xr.alloc _).trans E1
 have HB1 : Hid (Blk w1 W.heap.size (.int .i64 0) (.int .i64 0) (.string ⟨#[]⟩) (.int .i64 0)):=blk_top J60 E1
 obtain ⟨c0z,⟨c0_0,c0_1,c0_2,c0_3⟩,c0f0,c0f1,c0f2,c0f3⟩:=HB1.out
 clear E1
 go_wp2_with fail
 refine (cR _ (HF.out.2.ext J31)).mono ?_
 rintro e w2 ⟨rfl,E2⟩
 have X2 : Hid (Ext W w2):=Ext.trans J7 E2
 have HB2 : Hid (Blk w2 W.heap.size (.int .i64 0) (.int .i64 0) (.string ⟨#[]⟩) (.int .i64 0)):=(HB1.out.al _).ext E2
 clear c0z c0_0 c0_1 c0_2 c0_3 c0f0 c0f1 c0f2 c0f3 E2
 obtain ⟨c0z,⟨c0_0,c0_1,c0_2,c0_3⟩,c0f0,c0f1,c0f2,c0f3⟩:=HB2.out
 go_wp2_with fail
 exact finB (HB2.out.set _ _ _ _) rfl J18 (fun g0 g1 g2 g3=>by simp [results,results184,go_sem,g0,g1,g2,g3]) (fun h=>⟨by rw [HQ.out],h⟩)
theorem for_any (gs : List Ag) (W : World) (p : Option Addr) (n c : Nat) (hF : Fit W (.slice p n c) gs) (hN : Nm W) :
   Calls Tryz.prog 185 #[.slice p n c] W fun e w'=>e = .returned (fOr gs).dat ∧ Ext W w':=by
 have HF : Hid (Fit W (.slice p n c) gs ∧ Nm W):=⟨hF,hN⟩
 have HS : Hid (fOr gs = orBad (bad truF (seen gs)) (if (got truF (seen gs)).length = 0 then .err 2 else .tf (decide (0 < truN (got truF (seen gs)))))):=rfl
 have CT : Hid (∀ V,Ext W V → Calls Tryz.prog 234 #[.slice p n c] V fun e w'=>e = .returned (.tuple #[.int .i64 ((got truF (seen gs)).length : Int),.int .i64 (truN (got truF (seen gs)) : Int),(bad truF (seen gs)).dat]) ∧ Ext V w'):=fun V e =>
   have f:=hF.ext e
   poll_any V gs p n c f.rd f.i f.s f.l (hN.ext e)
 have cR:=fun W h=>truthOf_any (decide (0 < truN (got truF (seen gs)))) (got truF (seen gs)).length (bad truF (seen gs)) W h
 clear hF hN
 rw [dat_eq (bad truF (seen gs))] at CT cR
 obtain ⟨R,hR⟩ : ∃ R,fOr gs = R:=⟨_,rfl⟩
 rw [← HS.out,hR] at cR
 rw [hR]
 obtain ⟨q0,q1,q2,q3,hq⟩:=dat4 R
 rw [hq] at cR
 have HQ : Hid (R.dat = .agg #[.int .i64 q0,.int .i64 q1,.string q2,.int .i64 q3]):=hq
 clear hq HS hR
 generalize truN (got truF (seen gs)) = T0 at *
 generalize (got truF (seen gs)).length = C0 at *
 generalize bad truF (seen gs) = z at *
 generalize z.k = zk at *
 generalize z.n = zn at *
 generalize z.s = zs' at *
 generalize z.e = ze at *
 obtain ⟨bb,hbb⟩ : ∃ bb,decide (0 < T0) = bb:=⟨_,rfl⟩
 rw [hbb] at cR
 have eb : decide (((T0 : Int)) > 0) = bb:=by rw [← hbb,Bool.eq_iff_iff];simp
 clear eb
 go_enter func185,ntmps185
 go_wp2_with fail
 refine (CT.out _ (xr.alloc _)).mono ?_
 rintro e w1 ⟨rfl,E1⟩
 have X1 : Hid (Ext W w1):=(xr.alloc _).trans E1
 have HB1 : Hid (Blk w1 W.heap.size (.int .i64 0) (.int .i64 0) (.string ⟨#[]⟩) (.int .i64 0)):=blk_top J60 E1
 obtain ⟨c0z,⟨c0_0,c0_1,c0_2,c0_3⟩,c0f0,c0f1,c0f2,c0f3⟩:=HB1.out
 clear E1
 go_wp2_with fail
 refine (cR _ (HF.out.2.ext J31)).mono ?_
 rintro e w2 ⟨rfl,E2⟩
 have X2 : Hid (Ext W w2):=Ext.trans J7 E2
 have HB2 : Hid (Blk w2 W.heap.size (.int .i64 0) (.int .i64 0) (.string ⟨#[]⟩) (.int .i64 0)):=(HB1.out.al _).ext E2
 clear c0z c0_0 c0_1 c0_2 c0_3 c0f0 c0f1 c0f2 c0f3 E2
 obtain ⟨c0z,⟨c0_0,c0_1,c0_2,c0_3⟩,c0f0,c0f1,c0f2,c0f3⟩:=HB2.out
 go_wp2_with fail
 exact finB (HB2.out.set _ _ _ _) rfl J18 (fun g0 g1 g2 g3=>by simp [results,results185,go_sem,g0,g1,g2,g3]) (fun h=>⟨by rw [HQ.out],h⟩)
structure Elt (TS T : TypeId) (k bytes : Nat) : Prop where
 u : Tryz.prog.underlying TS = some (.slice T)
 i : ∃ i z,Tryz.prog.info? T = some i ∧ i.zero = some z ∧ i.size = k ∧ i.bytes = bytes ∧ z.cells.size = k
 k0 : 0 < k
theorem ownsRow_ext {w w' : World} {base : Nat} {T : TypeId} {k n : Nat} {v : Value} {xs : List Value} (h : w.ownsRow base T k v n xs) (e : Ext w w') : w'.ownsRow base T k v n xs:=by
 refine ⟨h.1,?_⟩
 rcases h.2 with h | ⟨g,cap,cur,h1,h2,h3,h4⟩
 · exact .inl h
 · exact .inr ⟨g,cap,cur,h1,h2,(e.block g (Array.getElem?_eq_some_iff.1 h3).1).trans h3,h4⟩
theorem ext_grownG {w W W' : World} {base : Nat} {T : TypeId} {k n : Nat} {v : Value} {xs : List Value} (hB : W.ownsRow base T k v n xs) (hb : w.heap.size ≤ base) (hE : Ext w W) (hg : W.grownBy W' v.ownBlock) : Ext w W':=by
 refine ⟨hg.os.trans hE.os,hg.tape.trans hE.tape,hg.output.trans hE.output,Nat.le_trans hE.size hg.size,fun q hq=>?_⟩
 refine (hg.block q (llL hq hE.size) ?_).trans (hE.block q hq)
 intro e
 have:=(hB.lt q e.symm).1
 omega
def RowC (W : World) (v : Value) (m : Nat) (k : Nat) (news : List Value) : Prop:=news.length = m * k ∧ ∃ p c,v = .slice p m c ∧ ((p = none ∧ m = 0) ∨ ∃ ad,p = some ad ∧ ∀ j u,news[j]? = some u → W.cell? (ad.add j) = some u)
theorem run_append_noneG {TS T : TypeId} {k bytes : Nat} (hT : Elt TS T k bytes) (w : World) (ty : TypeId) (p : Option Addr) (n cap c : Nat) (h : n ≤ cap) :
   (Builtin.append_ #[TS,TS] ty #[.slice p n cap,.slice none 0 c]).run Tryz.prog w = .ok (.slice p n cap) w:=by
 obtain ⟨i,z,hi,hz,h1,h2,h3⟩:=hT.i
 cases p with
 | none=>simp [Builtin.append_,run_underlying hT.u,sizeOf,typeInfo,hi,Builtin.lenOf,Builtin.firstCells,h]
 | some a=>simp [Builtin.append_,run_underlying hT.u,sizeOf,typeInfo,hi,Builtin.lenOf,Builtin.firstCells,loadCells,h,storeCells]
theorem own_app {TS T : TypeId} {k bytes : Nat} (hT : Elt TS T k bytes) {ops : Array Oper} {rest : List Oper} {o : Oper} {a : Act} {Q : Exit → Act → World → Prop} (W w : World) (s x : Operand) (v va : Value) (n m : Nat) (xs news : List Value) (base : Nat) (hgd : o.guard = none)
   (ho : o.op = .call { callee:=.builtin .append,args:=#[s,x],argTypes:=#[TS,TS] })
   (hs : a.eval s = v) (hx : a.eval x = va) (hB : W.ownsRow base T k v n xs) (hR : RowC W va m k news) (h1c : ∀ u ∈ news,u.oneCell' = true) (hm : n + m ≤ maxLen) (hby : (n + m) * bytes ≤ 140737488355328) (hE : Ext w W) (hb : w.heap.size ≤ base) (hb2 : base ≤ W.heap.size)
   (h : ∀ v' W',W'.ownsRow base T k v' (n + m) (xs ++ news) → Ext w W' → W.grownBy W' v.ownBlock → wpList Tryz.prog ops Q rest (a.put o.dst v') W') : wpList Tryz.prog ops Q (o :: rest) a W:=by
 obtain ⟨hl,p,c,rfl,hR⟩:=hR
 obtain ⟨i,z,hi,hz,h1,h2,h3⟩:=hT.i
 rcases hR with ⟨rfl,rfl⟩ | ⟨ad,rfl,hR⟩
 · have hn : news = []:=List.eq_nil_of_length_eq_zero J39
   subst hn
   obtain ⟨p,cap,rfl,hc⟩ : ∃ p cap,v = .slice p n cap ∧ n ≤ cap:=by
     rcases hB.2 with ⟨h,h0⟩ | ⟨g,cap,cur,h,_,_,h4,_⟩
     · exact ⟨none,0,by rw [h,h0],by omega⟩
     · exact ⟨_,_,h,h4⟩
   refine Lib.wpList_append_run W hgd s x _ _ ho _ _ hs hx _ _ (run_append_noneG hT W o.type p n cap c hc) ?_
   exact h _ W (by simpa using hB) hE ⟨rfl,rfl,rfl,Nat.le_refl _,fun _ _ _=>rfl⟩
 · refine wpList_append_own_at W hgd s x TS ho base T i z k bytes hT.u hi hz h1 h2 h3 hT.k0 v n xs hs hB ad m c news hx hl hR h1c hm hby hb2 ?_
   intro v' W' h3 h4 _ _
   exact h v' W' h3 (ext_grownG hB hb hE h4) h4
theorem own_form {W : World} {base : Nat} {T : TypeId} {k n : Nat} {v : Value} {xs : List Value} (h : W.ownsRow base T k v n xs) : ∃ p c,v = .slice p n c ∧ n ≤ c:=by
 rcases h.2 with ⟨h,h0⟩ | ⟨g,cap,cur,h,_,_,h4,_⟩
 · exact ⟨none,0,by rw [h,h0],by omega⟩
 · exact ⟨_,_,h,h4⟩
theorem own_new {T : TypeId} {k : Nat} (w W : World) (h : w.heap.size ≤ W.heap.size) : (W.alloc (.cells #[] T)).ownsRow w.heap.size T k (.slice (some ⟨W.heap.size,0,none⟩) 0 0) 0 [] :=
 ⟨by simp,.inr ⟨W.heap.size,0,#[],rfl,h,by show (W.heap.push _)[W.heap.size]? = _;rw [Array.getElem?_push_size],Nat.le_refl _,by simp,by simp,by simp⟩⟩
open Go.ChangeShapes Go.WideShapes Go.RowKit
open Go.Joins (trod_struct4)
open Go.Deep (choose_lt)
theorem qc_value : Tryz.prog.cellsOf 33 = 4:=J3
theorem qc_int : Tryz.prog.cellsOf 3 = 1:=J3
theorem qc_int64 : Tryz.prog.cellsOf 2 = 1:=J3
theorem qc_string : Tryz.prog.cellsOf 9 = 1:=J3
section
variable {H : Type} {enc : TypeId × Value → H} {w : World} {base : Nat} {sp : Nat → Bool} {hd : Bool}
instance : Inhabited Rw:=⟨⟨0,0,⟨#[]⟩,0⟩⟩
instance : Inhabited Ag:=⟨⟨false,[]⟩⟩
theorem open_val {fuel : Nat} {cs : List Value} {x : DataW H × List MemPlace} (hl : cs.length = 4) (h : DataW.trod enc Tryz.prog w base sp hd fuel 33 cs = some x) :
   ∃ r : Rw,cs = [.int .i64 r.k,.int .i64 r.n,.string r.s,.int .i64 r.e] ∧ I64 r.n:=by
 match cs,hl with
 | [c0,c1,c2,c3],_ =>
   obtain ⟨y0,y1,y2,y3,n,_,_,h0,h1,h2,h3⟩:=trod_struct4 Tryz.underlying33 h
   simp [qc_int,qc_int64,qc_string] at h0 h1 h2 h3
   obtain ⟨a0,e0,_,w0⟩:=DataW.trod_int Tryz.underlying3 h0
   obtain ⟨a1,e1,_,w1⟩:=DataW.trod_int Tryz.underlying2 h1
   obtain ⟨a2,e2,_,w2⟩:=DataW.trod_string Tryz.underlying9 h2
   obtain ⟨a3,e3,_,w3⟩:=DataW.trod_int Tryz.underlying3 h3
   simp only [List.cons.injEq,and_true] at e0 e1 e2 e3
   exact ⟨⟨a0,a1,a2,a3⟩,by rw [e0,e1,e2,e3],i64_of_wf w1⟩
end
open Go.RowKit
theorem fm_len {α : Type} (c : α → List Value) (k : Nat) (hc : ∀ x,(c x).length = k) (l : List α) : (l.flatMap c).length = l.length * k:=by
 induction l with
 | nil=>simp
 | cons x l ih=>rw [List.flatMap_cons,List.length_append,hc,ih,List.length_cons,Nat.succ_mul];omega
theorem fm_at {α : Type} (c : α → List Value) (k : Nat) (hc : ∀ x,(c x).length = k) : ∀ (l : List α) (i : Nat) (x : α) (j : Nat),l[i]? = some x → j < k → (l.flatMap c)[i * k + j]? = (c x)[j]?
 | [],i,x,j,h,_=>by simp at h
 | y :: l,0,x,j,h,hj=>by
   simp at h;subst h
   rw [List.flatMap_cons,Nat.zero_mul,Nat.zero_add,List.getElem?_append_left (by rw [hc];exact hj)]
 | y :: l,i + 1,x,j,h,hj=>by
   have ih:=fm_at c k hc l i x j J56 hj
   rw [List.flatMap_cons,List.getElem?_append_right (by rw [hc,Nat.succ_mul];omega),hc,← ih]
   congr 1
   rw [Nat.succ_mul];omega
theorem fm_get {α : Type} (c : α → List Value) (k : Nat) (hc : ∀ x,(c x).length = k) (hk : 0 < k) (l : List α) (j : Nat) (u : Value) (h : (l.flatMap c)[j]? = some u) : ∃ x,l[j / k]? = some x ∧ (c x)[j % k]? = some u:=by
 have hj : j < l.length * k:=by rw [← fm_len c k hc];exact (List.getElem?_eq_some_iff.1 h).1
 have hi : j / k < l.length:=by rw [Nat.div_lt_iff_lt_mul hk];exact hj
 refine ⟨l[j / k],gEq hi,?_⟩
 rw [← fm_at c k hc l (j / k) _ (j % k) (gEq hi) (Nat.mod_lt _ hk),Nat.mul_comm,Nat.div_add_mod]
 exact h
def cV (r : Rw) : List Value:=[.int .i64 r.k,.int .i64 r.n,.string r.s,.int .i64 r.e]
def cA (q : Ag × Int × Int × Value) : List Value:=[.bool q.1.area,.int .i64 q.2.1,.int .i64 q.2.2.1,q.2.2.2]
theorem cV_len (r : Rw) : (cV r).length = 4:=rfl
theorem eltV : Elt 111 33 4 40:=by
 refine ⟨Tryz.underlying111,?_,by decide⟩
 have h1 : (Tryz.prog.info? 33).isSome = true:=J3
 have h2 : (Tryz.prog.info? 33).bind (fun i=>i.zero) = some (.agg #[.int .i64 0,.int .i64 0,.string ⟨#[]⟩,.int .i64 0]):=J3
 have h3 : (Tryz.prog.info? 33).map (fun i=>(i.size,i.bytes)) = some (4,40):=J3
 cases h : Tryz.prog.info? 33 with
 | none=>rw [h] at h1;cases h1
 | some i =>
   exact K123
theorem eltA : Elt 107 113 4 48:=by
 refine ⟨Tryz.underlying107,?_,by decide⟩
 have h1 : (Tryz.prog.info? 113).isSome = true:=J3
 have h2 : (Tryz.prog.info? 113).bind (fun i=>i.zero) = some (.agg #[.bool false,.int .i64 0,.int .i64 0,.slice none 0 0]):=J3
 have h3 : (Tryz.prog.info? 113).map (fun i=>(i.size,i.bytes)) = some (4,48):=J3
 cases h : Tryz.prog.info? 113 with
 | none=>rw [h] at h1;cases h1
 | some i =>
   exact K123
theorem RdV.row {B : Nat} {W : World} {v : Value} {l : List Rw} (h : RdV B W v l) : RowC W v l.length 4 (l.flatMap cV):=by
 obtain ⟨p,c,h1,h2,h3⟩:=h
 refine ⟨fm_len cV 4 cV_len l,p,c,h1,?_⟩
 rcases h3 with rfl | ⟨b,off,rfl,_,_,h6⟩
 · exact K135
 · refine .inr ⟨_,rfl,fun j u hu=>?_⟩
   obtain ⟨r,hr,hu⟩:=fm_get cV 4 cV_len J6 l j u hu
   obtain ⟨k0,k1,k2,k3⟩:=h6 _ r hr
   rw [Addr.add_lit]
   have hj:=Nat.div_add_mod j 4
   have hm:=Nat.mod_lt j (show 0 < 4 by decide)
   match hmm : j % 4,hu with
   | 0,hu=>simp [cV] at hu;subst hu;rw [show off + j = off + j / 4 * 4 by omega];exact k0
   | 1,hu=>simp [cV] at hu;subst hu;rw [show off + j = off + j / 4 * 4 + 1 by omega];exact k1
   | 2,hu=>simp [cV] at hu;subst hu;rw [show off + j = off + j / 4 * 4 + 2 by omega];exact k2
   | 3,hu=>simp [cV] at hu;subst hu;rw [show off + j = off + j / 4 * 4 + 3 by omega];exact k3
   | q + 4,_=>omega
theorem own_rdV {W : World} {base : Nat} {v : Value} {l : List Rw} (h : W.ownsRow base 33 4 v l.length (l.flatMap cV)) : RdV W.heap.size W v l:=by
 rcases h.2 with ⟨rfl,h0⟩ | ⟨g,cap,cur,rfl,h2,h3,h4,h5⟩
 · exact K142
 · have hg : g < W.heap.size:=(Array.getElem?_eq_some_iff.1 h3).1
   refine ⟨_,cap,rfl,h4,.inr ⟨g,0,rfl,hg,hg,fun i r hr=>?_⟩⟩
   have k:=fun j (hj : j < 4) u (hu : (cV r)[j]? = some u)=>h.cells (g:=g) rfl (i * 4 + j) u (by rw [fm_at cV 4 cV_len l i r j hr hj];exact hu)
   simp only [Addr.add_lit] at k
   exact ⟨k 0 J6 _ rfl,k 1 J6 _ rfl,k 2 J6 _ rfl,k 3 J6 _ rfl⟩
open Go.ChangeShapes Go.WideShapes Go.RowKit
open Go.Deep (choose_lt)
def cK (x : Kn) : List Value:=[.int .i64 x.r,.int .i64 x.c,.int .i64 x.v.k,.int .i64 x.v.n,.string x.v.s,.int .i64 x.v.e]
theorem cK_len (x : Kn) : (cK x).length = 6:=rfl
theorem cK_one (l : List Kn) : ∀ u ∈ l.flatMap cK,u.oneCell' = true:=by
 intro u hu
 obtain ⟨r,_,hu⟩:=List.mem_flatMap.1 hu
 simp [cK] at hu
 rcases hu with rfl | rfl | rfl | rfl | rfl | rfl <;> rfl
theorem eltK : Elt 22 35 6 56:=by
 refine ⟨Tryz.underlying22,?_,by decide⟩
 have h1 : (Tryz.prog.info? 35).isSome = true:=J3
 have h2 : (Tryz.prog.info? 35).bind (fun i=>i.zero) = some (.agg #[.int .i64 0,.int .i64 0,.int .i64 0,.int .i64 0,.string ⟨#[]⟩,.int .i64 0]):=J3
 have h3 : (Tryz.prog.info? 35).map (fun i=>(i.size,i.bytes)) = some (6,56):=J3
 cases h : Tryz.prog.info? 35 with
 | none=>rw [h] at h1;cases h1
 | some i =>
   exact K123
def RdKn (W : World) (v : Value) (l : List Kn) : Prop :=
 ∃ p c,v = .slice p l.length c ∧ l.length ≤ c ∧ (l = [] ∨ ∃ b off,p = some ⟨b,off,none⟩ ∧ b < W.heap.size ∧ ∀ i x j u,l[i]? = some x → (cK x)[j]? = some u → W.cell? ⟨b,off + i * 6 + j,none⟩ = some u)
theorem RdKn.len {W : World} {p : Option Addr} {n c : Nat} {l : List Kn} (h : RdKn W (.slice p n c) l) : n = l.length:=by
 obtain ⟨p',c',h1,_⟩:=h
 cases h1;rfl
theorem RdKn.form {W : World} {v : Value} {l : List Kn} (h : RdKn W v l) : ∃ p n c,v = .slice p n c ∧ n = l.length ∧ n ≤ c:=by
 exact K96
theorem RdKn.keep {W W' : World} {p : Option Addr} {n c : Nat} {l : List Kn} (h : RdKn W (.slice p n c) l) (hs : W.heap.size ≤ W'.heap.size) (hk : ∀ a,p = some a → l ≠ [] → W'.heap[a.block]? = W.heap[a.block]?) : RdKn W' (.slice p n c) l:=by
 obtain ⟨p',c',h1,h2,h3⟩:=h
 cases h1
 refine ⟨p,c,rfl,h2,?_⟩
 rcases h3 with h3 | ⟨b,off,rfl,h5,h6⟩
 · exact .inl h3
 · refine .inr ⟨b,off,rfl,llL h5 hs,fun i x j u hi hj=>?_⟩
   have:=h6 i x j u hi hj
   unfold World.cell? at this ⊢
   rw [show W'.heap[b]? = W.heap[b]? from hk _ rfl (fun e=>by rw [e] at hi;simp at hi)]
   exact this
theorem RdKn.ext {W W' : World} {v : Value} {l : List Kn} (h : RdKn W v l) (e : Ext W W') : RdKn W' v l:=by
 obtain ⟨p,c,h1,h2,h3⟩:=h
 refine ⟨p,c,h1,h2,?_⟩
 rcases h3 with h3 | ⟨b,off,h4,h5,h6⟩
 · exact .inl h3
 · exact .inr ⟨b,off,h4,llL h5 e.size,fun i x j u hi hj=>(e.cell.1 b _ h5).trans (h6 i x j u hi hj)⟩
theorem RdKn.nil (W : World) : RdKn W (.slice none 0 0) []:=⟨none,0,rfl,Nat.le_refl _,.inl rfl⟩
theorem RdKn.at {W : World} {p : Option Addr} {n c : Nat} {l : List Kn} (h : RdKn W (.slice p n c) l) {i : Nat} {x : Kn} (hi : l[i]? = some x) :
   ∃ b off,p = some ⟨b,off,none⟩ ∧ b < W.heap.size ∧ W.cell? ⟨b,off + i * 6,none⟩ = some (.int .i64 x.r) ∧ W.cell? ⟨b,off + i * 6 + 1,none⟩ = some (.int .i64 x.c) ∧ W.cell? ⟨b,off + i * 6 + 2,none⟩ = some (.int .i64 x.v.k) ∧ W.cell? ⟨b,off + i * 6 + 3,none⟩ = some (.int .i64 x.v.n) ∧ W.cell? ⟨b,off + i * 6 + 4,none⟩ = some (.string x.v.s) ∧ W.cell? ⟨b,off + i * 6 + 5,none⟩ = some (.int .i64 x.v.e):=by
 obtain ⟨p',c',h1,h2,h3⟩:=h
 cases h1
 rcases h3 with h3 | ⟨b,off,h4,h5,h6⟩
 · subst h3;simp at hi
 · exact ⟨b,off,h4,h5,h6 i x 0 _ hi rfl,h6 i x 1 _ hi rfl,h6 i x 2 _ hi rfl,h6 i x 3 _ hi rfl,h6 i x 4 _ hi rfl,h6 i x 5 _ hi rfl⟩
theorem RdKn.row {W : World} {v : Value} {l : List Kn} (h : RdKn W v l) : RowC W v l.length 6 (l.flatMap cK):=by
 obtain ⟨p,c,h1,h2,h3⟩:=h
 refine ⟨fm_len cK 6 cK_len l,p,c,h1,?_⟩
 rcases h3 with rfl | ⟨b,off,rfl,_,h6⟩
 · exact K135
 · refine .inr ⟨_,rfl,fun j u hu=>?_⟩
   obtain ⟨r,hr,hu⟩:=fm_get cK 6 cK_len J6 l j u hu
   have:=h6 _ r _ u hr hu
   rw [Addr.add_lit]
   rw [show off + j = off + j / 6 * 6 + j % 6 by omega]
   exact this
theorem own_rdK {W : World} {base : Nat} {v : Value} {l : List Kn} {n : Nat} (h : W.ownsRow base 35 6 v n (l.flatMap cK)) (hn : n = l.length) : RdKn W v l:=by
 subst hn
 rcases h.2 with ⟨rfl,h0⟩ | ⟨g,cap,cur,rfl,h2,h3,h4,h5⟩
 · have : l = []:=List.eq_nil_of_length_eq_zero h0
   subst this
   exact RdKn.nil W
 · have hg : g < W.heap.size:=(Array.getElem?_eq_some_iff.1 h3).1
   refine ⟨_,cap,rfl,h4,.inr ⟨g,0,rfl,hg,fun i x j u hi hj=>?_⟩⟩
   have hj6 : j < 6:=by have:=(List.getElem?_eq_some_iff.1 hj).1;exact this
   have k:=h.cells (g:=g) rfl (i * 6 + j) u (by rw [fm_at cK 6 cK_len l i x j hi hj6];exact hj)
   simp only [Addr.add_lit] at k
   rw [show 0 + i * 6 + j = 0 + (i * 6 + j) by omega]
   exact k
theorem RdKn.part {W : World} {b off n c : Nat} {l : List Kn} (h : RdKn W (.slice (some ⟨b,off,none⟩) n c) l) (i j : Nat) (hij : i ≤ j) (hj : j ≤ l.length) : RdKn W (.slice (some ⟨b,off + i * 6,none⟩) (j - i) (c - i)) ((l.take j).drop i):=by
 obtain ⟨p',c',h1,h2,h3⟩:=h
 cases h1
 have hl : ((l.take j).drop i).length = j - i:=J8
 refine ⟨_,c - i,by rw [hl],by rw [hl];omega,?_⟩
 rcases h3 with h3 | ⟨b',off',h4,h5,h6⟩
 · subst h3;exact .inl J60
 · cases h4
   refine .inr ⟨b,off + i * 6,rfl,h5,fun k x q u hk hq=>?_⟩
   have hx : l[i + k]? = some x:=by
     rw [List.getElem?_drop,List.getElem?_take] at hk
     split at hk
     · exact hk
     · cases hk
   have:=h6 _ x q u hx hq
   rw [show off + i * 6 + k * 6 + q = off + (i + k) * 6 + q by omega]
   exact this
theorem qc_known : Tryz.prog.cellsOf 35 = 6:=J3
section
variable {H : Type} {enc : TypeId × Value → H} {w : World} {base : Nat} {sp : Nat → Bool} {hd : Bool}
theorem open_kn {fuel : Nat} {cs : List Value} {x : DataW H × List MemPlace} (hl : cs.length = 6) (h : DataW.trod enc Tryz.prog w base sp hd fuel 35 cs = some x) :
   ∃ y : Kn,cs = cK y ∧ I64 y.r ∧ I64 y.c ∧ I64 y.v.n:=by
 obtain ⟨xs,n,rfl,_,hlen,hxl,hf⟩:=DataW.trod_struct Tryz.underlying35 h
 match cs,hl with
 | [c0,c1,c2,c3,c4,c5],_ =>
   have hx : ∀ i,i < 3 → ∃ y,xs[i]? = some y:=fun i hi=>⟨_,gEq (by rw [hxl];exact hi)⟩
   obtain ⟨y0,g0⟩:=hx 0 J6
   obtain ⟨y1,g1⟩:=hx 1 J6
   obtain ⟨y2,g2⟩:=hx 2 J6
   have f0:=(hf 0 _ rfl).trans g0
   have f1:=(hf 1 _ rfl).trans g1
   have f2:=(hf 2 _ rfl).trans g2
   simp [qc_int,qc_value] at f0 f1 f2
   obtain ⟨a0,e0,_,w0⟩:=DataW.trod_int Tryz.underlying3 f0
   obtain ⟨a1,e1,_,w1⟩:=DataW.trod_int Tryz.underlying3 f1
   obtain ⟨r,hr,wr⟩:=open_val rfl f2
   simp only [List.cons.injEq,and_true] at e0 e1 hr
   obtain ⟨rfl,rfl,rfl,rfl⟩:=hr
   subst e0 e1
   exact ⟨⟨a0,a1,r⟩,rfl,i64_of_wf w0,i64_of_wf w1,wr⟩
def KnI (l : List Kn) : Prop:=∀ x ∈ l,I64 x.r ∧ I64 x.c ∧ I64 x.v.n
theorem open_kns {fuel : Nat} {c : Value} {x : DataW H × List MemPlace} (h : DataW.trod enc Tryz.prog w base sp hd fuel 22 [c] = some x) :
   ∃ l,RdKn w c l ∧ KnI l ∧ l.length ≤ maxLen:=by
 rcases DataW.trod_slice Tryz.underlying22 h with ⟨e6,_⟩ | ⟨a,len,cap,elems,rest,n',hn',e6,_,hb,hl,hm,hel,hx,_,_⟩
 · simp only [List.cons.injEq,and_true] at e6
   subst e6
   exact ⟨[],RdKn.nil w,(fun r hr=>by cases hr),by simp⟩
 · simp only [List.cons.injEq,and_true] at e6
   subst e6
   rw [qc_known] at hx
   have each : ∀ i,i < len → ∃ y : Kn,(∀ j u,(cK y)[j]? = some u → w.cell? ((a.add (i * 6)).add j) = some u) ∧ I64 y.r ∧ I64 y.c ∧ I64 y.v.n:=by
     intro i hi
     have h0:=hx i hi
     rw [gEq (show i < elems.length by omega)] at h0
     obtain ⟨cs',h1,h2⟩:=Option.bind_eq_some_iff.1 h0
     obtain ⟨_,k1,k2⟩:=World.cells?_some h1
     obtain ⟨r,rfl,hr⟩:=open_kn (by simpa using k1) h2
     refine ⟨r,fun j u hu=>?_,hr⟩
     rw [← hu]
     refine k2 j ?_
     have:=(List.getElem?_eq_some_iff.1 hu).1
     rw [← k1];exact this
   obtain ⟨f,hf⟩:=choose_lt each
   by_cases h0 : len = 0
   · subst h0
     exact ⟨[],⟨_,_,rfl,by omega,.inl rfl⟩,(fun r hr=>by cases hr),by simp⟩
   obtain ⟨b,off,spot⟩:=a
   have hz:=(hf 0 J2).1 0 _ rfl
   have hspot : spot = none:=by simpa [Addr.add] using World.cell?_spot hz
   subst hspot
   have hblt : b < w.heap.size:=World.block_lt_of_cell? _ _ hz
   have hgl : ((List.range len).map f).length = len:=J60
   refine ⟨(List.range len).map f,⟨_,cap,by rw [hgl],by omega,.inr ⟨b,off,rfl,hblt,fun i r j u hi hj=>?_⟩⟩,?_,by simp;omega⟩
   · have hi' : i < len:=by
       have:=(List.getElem?_eq_some_iff.1 hi).1
       simpa using this
     rw [List.getElem?_map,List.getElem?_range hi'] at hi
     simp at hi
     subst hi
     have:=(hf i hi').1 j u hj
     simp only [Addr.add_lit] at this
     exact this
   · intro r hr
     obtain ⟨i,hi,rfl⟩:=List.mem_map.1 hr
     exact (hf i (List.mem_range.1 hi)).2
end
end Go.Proofs.YtcfgbiaahangmaaGreatDoor
