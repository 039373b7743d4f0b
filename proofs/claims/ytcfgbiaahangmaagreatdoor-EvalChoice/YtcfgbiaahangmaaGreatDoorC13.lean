import Derived.Test.YtcfgbiaahangmaaGreatDoorC12
import Derived.Lib.SmallJoins
import Derived.Deep.Slices
set_option maxHeartbeats 2000000
namespace Go.Proofs.YtcfgbiaahangmaaGreatDoor
open Go.Proofs.Tryz
open Go.RowKit
def rndP (d:Int):Nat:=10 ^ (4 - d).toNat
def rnN (a d:Int):Nat:=nearQ a.natAbs (rndP d) * rndP d
def rndB (a d:Int):Bool:=canB a && (decide (4≤d) || (decide (d < -14) || sgnB (rnN a d)))
def rndV (a d:Int):Int:=if canB a then (if 4≤d then a else if d < -14 then 0 else sgnV (decide (a < 0)) (rnN a d)) else 0
theorem near_mul (A P:Nat):(P≤2 * (A % P)→nearQ A P * P = A / P * P+P)∧(¬ P≤2 * (A % P)→nearQ A P * P = A / P * P):=by
 unfold nearQ
 constructor
 · intro h;rw [if_pos h,Nat.add_mul,Nat.one_mul]
 · intro h;rw [if_neg h,Nat.add_zero]
theorem ten_even (n:Nat) (h:1≤n):10 ^ n / 2 * 2 = 10 ^ n:=by
 obtain ⟨k,rfl⟩:∃ k,n = k+1:=⟨n - 1,by omega⟩
 rw [Nat.pow_succ]
 omega
theorem tmod_abs (a:Int) (P:Nat):a.tmod P = if a < 0 then -((a.natAbs % P:Nat):Int) else ((a.natAbs % P:Nat):Int):=by
 split
 · rw [tmod_neg' a P J2]
   have:-a = (a.natAbs:Int):=J2
   rw [this,Int.natCast_emod]
 · rw [tmod_pos a P J2]
   have:a = (a.natAbs:Int):=J2
   rw [Int.natCast_emod,← this]
theorem round_w4 (a:Int) (n P R T:Nat) (hc:canB a = true) (d1:¬ (4:Int)≤4 - (n:Int)) (d2:¬ (4:Int) - (n:Int) < -14)
   (cP:∀ W,Calls Tryz.prog 244 #[.int .i64 n] W fun e w'=>e = .returned (.int .i64 P)∧w' = W)
   (e5:(4:Int) - (4 - (n:Int)) = n) (ht:a.tmod (P:Int) = R) (ga:¬ a < 0) (hin:a - (R:Int) = T) (gr:(P:Int) / 2≤R) (_z3:¬ (P:Int) = 0)
   (q1:(10:Int)≤P) (q2:(P:Int)≤1000000000000000000) (_q3:(R:Int) < P) (q4:(T:Int)+R≤9223372036854775807) (w:World) :
   Calls Tryz.prog 192 #[.int .i64 a,.int .i64 (4 - (n:Int))] w fun e w'=>e = .returned (.tuple #[.int .i64 (addV T P),.bool (addB T P)])∧Ext w w':=by
 have c1:=fun W=>size_any (R:Int) ⟨by omega,by omega⟩ W
 have eR:absI (R:Int) = R:=J94
 rw [eR] at c1
 have c2:=fun W=>add_any (T:Int) P ⟨by omega,by omega⟩ ⟨by omega,by omega⟩ W
 have qT:(T:Int)≤9223372036854775807:=J2
 clear eR q4
 go_enter func192,ntmps192
 go_wp2_with fail
 refine Calls.mono (numbers_1 a w.heap.size _ J17) ?_
 rintro e w' ⟨rfl,rfl⟩
 go_wp2_with fail
 refine (cP _).mono ?_
 rintro e w' ⟨rfl,rfl⟩
 go_wp2_with fail
 refine (c1 _).mono ?_
 rintro e w' ⟨rfl,rfl⟩
 go_wp2_with fail
 refine (c2 _).mono ?_
 rintro e w2 ⟨rfl,E2⟩
 go_wp2
 go_ret2
 exact ⟨rfl,(xr.alloc _).trans E2⟩
theorem round_mid (a d:Int) (ha:I64 a) (hc:canB a = true) (d1:¬ 4≤d) (d2:¬ d < -14) (w:World) :
   Calls Tryz.prog 192 #[.int .i64 a,.int .i64 d] w fun e w'=>e = .returned (.tuple #[.int .i64 (sgnV (decide (a < 0)) (rnN a d)),.bool (sgnB (rnN a d))])∧Ext w w':=by
 obtain ⟨n,hn⟩:∃ n:Nat,n = (4 - d).toNat:=⟨_,rfl⟩
 have hn1:1≤n:=J2
 have hn2:n≤18:=J2
 have hd:d = 4 - (n:Int):=J2
 have hN:rnN a d = nearQ a.natAbs (10 ^ n) * 10 ^ n:=by unfold rnN rndP;rw [← hn]
 have cP:=fun W=>power_any n hn2 W
 have p1:=ten_le' hn2
 have p2:10≤10 ^ n:=Nat.pow_le_pow_right (n:=10) J2 hn1
 have p3:=ten_even n hn1
 obtain ⟨near1,near2⟩:=near_mul a.natAbs (10 ^ n)
 have hdm:=Nat.div_add_mod a.natAbs (10 ^ n)
 have hml:=Nat.mod_lt a.natAbs (show 0 < 10 ^ n by omega)
 have ht:=tmod_abs a (10 ^ n)
 rw [Nat.mul_comm] at hdm
 rw [← hN] at near1 near2
 obtain ⟨a1,a2⟩:=ha
 have a3:-9223372036854775808 < a:=by unfold canB at hc;simp at hc;omega
 have hA:a.natAbs≤9223372036854775807:=J2
 have sa:(a < 0→a = -(a.natAbs:Int))∧(0≤a→a = (a.natAbs:Int)):=J2
 subst hd
 clear hn hN
 generalize rnN a (4 - (n:Int)) = N at *
 generalize a.natAbs / 10 ^ n * 10 ^ n = T at *
 generalize a.natAbs % 10 ^ n = R at *
 generalize a.natAbs = A at *
 generalize 10 ^ n = P at *
 have z3:¬ (P:Int) = 0:=J2
 have e5:(4:Int) - (4 - (n:Int)) = n:=J2
 have e6:wrap64 ((4:Int) - (4 - (n:Int))) = n:=by rw [e5];unfold wrap64;omega
 have HP:Hid (P / 2 * 2 = P):=p3
 have H1:Hid (P≤2 * R→N = T+P):=near1
 have H2:Hid (¬ P≤2 * R→N = T):=near2
 have HA:Hid (T+R = A):=hdm
 have q1:(10:Int)≤(P:Int):=J2
 have q2:(P:Int)≤1000000000000000000:=J2
 have q3:(R:Int) < (P:Int):=J2
 have q4:(T:Int)+(R:Int)≤9223372036854775807:=J2
 have cp:canB (P:Int) = true:=J95
 clear p1 p2 p3 near1 near2 hml
 by_cases ga:a < 0
 · have ht':a.tmod (P:Int) = -(R:Int):=by rw [ht,if_pos ga]
   have hi:a = -(T:Int) - (R:Int):=by have:=sa.1 ga;omega
   have c1:=fun W=>size_any (-(R:Int)) ⟨by omega,by omega⟩ W
   have eR:absI (-(R:Int)) = R:=J94
   rw [eR] at c1
   have c2:=fun W=>sub_any (-(T:Int)) P ⟨by omega,by omega⟩ ⟨by omega,by omega⟩ W
   have ed:decide (a < 0) = true:=by simp [ga]
   have hin:a - -(R:Int) = -(T:Int):=J2
   have hin2:a+(R:Int) = -(T:Int):=J2
   have HI:Hid (a = -(T:Int) - (R:Int)):=hi
   clear ht sa hi hdm eR hA
   by_cases gr:(R:Int) < (P:Int) / 2
   · exact K49
   · have HN:Hid (N = T+P):=H1.out (by have:=HP.out;omega)
     have HB:Hid (subB (-(T:Int)) P = sgnB N):=by
       show subB (-(T:Int)) P = sgnB N
       rw [HN.out]
       unfold subB sgnB
       rw [cp]
       have:canB (-(T:Int)) = true:=J95
       rw [this]
       unfold fitB
       rw [Bool.eq_iff_iff]
       simp
       omega
     have HV:Hid (subV (-(T:Int)) P = sgnV true N):=by
       show subV (-(T:Int)) P = sgnV true N
       unfold subV sgnV
       rw [HB.out,HN.out]
       split
       · rw [if_pos rfl];omega
       · rfl
     go_enter func192,ntmps192
     go_wp2_with (first
       | (go_at_call 219;refine Calls.mono (numbers_1 a w.heap.size _ J17) ?_;rintro e w' ⟨rfl,rfl⟩)
       | (go_at_call 244;refine (cP _).mono ?_;rintro e w' ⟨rfl,rfl⟩)
       | (go_at_call 245;refine (c1 _).mono ?_;rintro e w' ⟨rfl,rfl⟩))
     refine (c2 _).mono ?_
     rintro e w2 ⟨rfl,E2⟩
     go_wp2
     go_ret2
     exact ⟨ret_ib (by rw [ed];exact HV.out) HB.out,(xr.alloc _).trans E2⟩
 · have ht':a.tmod (P:Int) = (R:Int):=by rw [ht,if_neg ga]
   have hi:a = (T:Int)+(R:Int):=by have:=sa.2 J2;omega
   have c1:=fun W=>size_any (R:Int) ⟨by omega,by omega⟩ W
   have eR:absI (R:Int) = R:=J94
   rw [eR] at c1
   have c2:=fun W=>add_any (T:Int) P ⟨by omega,by omega⟩ ⟨by omega,by omega⟩ W
   have ed:decide (a < 0) = false:=J6
   have hin:a - (R:Int) = (T:Int):=J2
   clear ht sa hi hdm eR hA
   by_cases gr:(R:Int) < (P:Int) / 2
   · exact K49
   · have HN:Hid (N = T+P):=H1.out (by have:=HP.out;omega)
     have HB:Hid (addB (T:Int) P = sgnB N):=by
       show addB (T:Int) P = sgnB N
       rw [HN.out]
       unfold addB sgnB
       rw [cp]
       have:canB (T:Int) = true:=J95
       rw [this]
       unfold fitB
       rw [Bool.eq_iff_iff]
       simp
       omega
     have HV:Hid (addV (T:Int) P = sgnV false N):=by
       show addV (T:Int) P = sgnV false N
       unfold addV sgnV
       rw [HB.out,HN.out]
       split
       · rw [if_neg J9];omega
       · rfl
     rw [ed,← HV.out,← HB.out]
     exact round_w4 a n P R T hc d1 d2 cP e5 ht' ga hin J2 z3 q1 q2 q3 q4 w
theorem round_any (a d:Int) (ha:I64 a) (w:World):Calls Tryz.prog 192 #[.int .i64 a,.int .i64 d] w fun e w'=>e = .returned (.tuple #[.int .i64 (rndV a d),.bool (rndB a d)])∧Ext w w':=by
 cases hc:canB a
 · have HC:Hid (rndB a d = false):=by show rndB a d = false;unfold rndB;rw [hc];rfl
   have HV:Hid (rndV a d = 0):=by show rndV a d = 0;unfold rndV;rw [hc];rfl
   exact K63
 by_cases d1:4≤d
 · have HC:Hid (rndB a d = true):=by show rndB a d = true;unfold rndB;rw [hc];simp [d1]
   have HV:Hid (rndV a d = a):=by show rndV a d = a;unfold rndV;rw [hc];simp [d1]
   exact K63
 by_cases d2:d < -14
 · have HC:Hid (rndB a d = true):=by show rndB a d = true;unfold rndB;rw [hc];simp [d2]
   have HV:Hid (rndV a d = 0):=by show rndV a d = 0;unfold rndV;rw [hc];simp [d1,d2]
   exact K63
 · have hB:rndB a d = sgnB (rnN a d):=by unfold rndB;rw [hc];simp [d1,d2]
   have hV:rndV a d = sgnV (decide (a < 0)) (rnN a d):=by unfold rndV;rw [hc];simp [d1,d2]
   rw [hB,hV]
   exact round_mid a d ha hc d1 d2 w
theorem square_above (n N:Nat) (hn:n < 18446744073709551616) (w:World) :
   Calls Tryz.prog 248 #[.int .u64 n,.int .u64 ((N / 18446744073709551616:Nat):Int),.int .u64 ((N % 18446744073709551616:Nat):Int)] w fun e w'=>e = .returned (.bool (decide (N < n * n)))∧Ext w w':=by
 have c:=fun W=>mul64N n n hn hn W
 obtain ⟨S,hS⟩:∃ S,S = n * n:=⟨_,rfl⟩
 rw [← hS] at c ⊢
 have e1:decide (N < S) = (decide (((N / 18446744073709551616:Nat):Int) < ((S / 18446744073709551616:Nat):Int)) || (decide (((S / 18446744073709551616:Nat):Int) = ((N / 18446744073709551616:Nat):Int)) && decide (((N % 18446744073709551616:Nat):Int) < ((S % 18446744073709551616:Nat):Int)))):=by
   rw [Bool.eq_iff_iff];simp only [Bool.or_eq_true,Bool.and_eq_true,decide_eq_true_eq];omega
 rw [e1]
 clear e1 hS
 generalize ((N / 18446744073709551616:Nat):Int) = hi at *
 generalize ((N % 18446744073709551616:Nat):Int) = lo at *
 generalize ((S / 18446744073709551616:Nat):Int) = h at *
 generalize ((S % 18446744073709551616:Nat):Int) = l at *
 go_enter func248,ntmps248
 go_wp2_with fail
 refine (c _).mono ?_
 rintro e w1 ⟨rfl,rfl⟩
 go_wp2
 all_goals
   simp [bodyPost,results,results248,go_sem, *]
   try exact xr
def IsRoot (N r:Nat):Prop:=r * r≤N∧N < (r+1) * (r+1)
theorem IsRoot.one {N r s:Nat} (h:IsRoot N r) (k:IsRoot N s):r = s:=by
 obtain ⟨a,b⟩:=h;obtain ⟨c,d⟩:=k
 rcases Nat.lt_trichotomy r s with g | g | g
 · have:=Nat.mul_le_mul (show r+1≤s from g) (show r+1≤s from g);omega
 · exact g
 · have:=Nat.mul_le_mul (show s+1≤r from g) (show s+1≤r from g);omega
def Rooted (N j r:Nat):Prop:=r * r≤N∧N < (r+2 ^ j) * (r+2 ^ j)∧r % 2 ^ j = 0
theorem Rooted.lt {N j r:Nat} (h:Rooted N j r) (hN:N < 151115727451828646838272):r < 549755813888:=by
 rcases Nat.lt_or_ge r 549755813888 with g | g
 · exact g
 · have:=Nat.mul_le_mul g g
   have:=h.1
   omega
theorem Rooted.no {N j r:Nat} (h:Rooted N (j+1) r) (g:N < (r+2 ^ j) * (r+2 ^ j)):Rooted N j r:=by
 refine ⟨h.1,g,?_⟩
 have:=h.2.2
 rw [Nat.pow_succ] at this
 exact Nat.mod_eq_zero_of_dvd (Nat.dvd_of_mod_eq_zero (show r % 2 ^ j = 0 from by
   have d:=Nat.dvd_of_mod_eq_zero this
   exact Nat.mod_eq_zero_of_dvd (Nat.dvd_trans (Nat.dvd_mul_right _ _) d)))
theorem Rooted.yes {N j r:Nat} (h:Rooted N (j+1) r) (g:(r+2 ^ j) * (r+2 ^ j)≤N):Rooted N j (r+2 ^ j):=by
 refine ⟨g,?_,?_⟩
 · have:=h.2.1
   rw [Nat.pow_succ,Nat.mul_two,← Nat.add_assoc] at this
   exact this
 · have:=h.2.2
   rw [Nat.pow_succ] at this
   have d:=Nat.dvd_of_mod_eq_zero this
   rw [Nat.add_mod_right]
   exact Nat.mod_eq_zero_of_dvd (Nat.dvd_trans (Nat.dvd_mul_right _ _) d)
theorem Rooted.done {N r:Nat} (h:Rooted N 0 r):IsRoot N r:=by
 obtain ⟨a,b,_⟩:=h
 exact ⟨a,b⟩
theorem or_pow (r j:Nat) (h:r % 2 ^ (j+1) = 0) (hr:r < 549755813888) (hj:j≤40):bits .or .u64 (r:Int) ((2 ^ j:Nat):Int) = ((r+2 ^ j:Nat):Int):=by
 have hp:2 ^ j≤2 ^ 40:=Nat.pow_le_pow_right J9 hj
 rw [bits_or_u64_nat _ _ J2 J2]
 obtain ⟨k,rfl⟩:=Nat.dvd_of_mod_eq_zero h
 rw [← Nat.two_pow_add_eq_or_of_lt (Nat.pow_lt_pow_right J9 (Nat.lt_succ_self j))]
theorem root_no (a:Int) (h:a < 0) (w:World):Calls Tryz.prog 196 #[.int .i64 a] w fun e w'=>e = .returned (.tuple #[.int .i64 0,.bool false])∧Ext w w':=by
 go_enter func196,ntmps196
 go_wp2
 go_ret2
 exact ⟨rfl,Ext.refl _⟩
theorem root_any (a:Nat) (ha:a≤9223372036854775807) (w:World):Calls Tryz.prog 196 #[.int .i64 a] w fun e w'=>(∃ r:Nat,e = .returned (.tuple #[.int .i64 r,.bool true])∧IsRoot (a * 10000) r∧r < 549755813888)∧Ext w w':=by
 have hN:a * 10000 < 151115727451828646838272:=J2
 have ea:IntKind.u64.wrap (a:Int) = a:=J67
 have c:=fun W=>mul64N a 10000 J2 J2 W
 rw [show ((10000:Nat):Int) = 10000 from rfl] at c
 generalize hNe:a * 10000 = N at *
 have cs:=fun n hn W=>square_above n N hn W
 obtain ⟨H,hH⟩:∃ H,H = ((N / 18446744073709551616:Nat):Int):=⟨_,rfl⟩
 obtain ⟨L,hL⟩:∃ L,L = ((N % 18446744073709551616:Nat):Int):=⟨_,rfl⟩
 rw [← hH,← hL] at c cs
 clear hH hL hNe
 go_enter func196,ntmps196
 go_wp2_with fail
 refine (c _).mono ?_
 rintro e w1 ⟨rfl,rfl⟩
 go_wp2
 go_loopw [6,7] (fun x b wr=>∃ j r:Nat,j≤39∧x = .int .u64 (r:Int)∧b = .int .u64 ((2 ^ j / 2:Nat):Int)∧Rooted N j r∧Ext w1 wr) (fun _ b _=>(intOf b).toNat)
 case atStart=>exact ⟨39,0,Nat.le_refl _,rfl,rfl,⟨by omega,by simpa using (by omega:N < 302231454903657293676544),rfl⟩,Ext.refl _⟩
 case round =>
   obtain ⟨j,r,hj,rfl,rfl,hR,hE⟩:=hrel
   have hr:=hR.lt hN
   rcases Nat.eq_zero_or_pos j with rfl | hj0
   · have HR:Hid (IsRoot N r):=hR.done
     clear hR hN
     rw [show (((2 ^ 0 / 2:Nat)):Int) = 0 from rfl]
     go_wp2
     go_ret2
     exact ⟨⟨r,rfl,HR.out,hr⟩,hE⟩
   · obtain ⟨i,rfl⟩:∃ i,j = i+1:=⟨j - 1,by omega⟩
     have eb:2 ^ (i+1) / 2 = 2 ^ i:=by rw [Nat.pow_succ];omega
     rw [eb]
     have eo:=or_pow r i hR.2.2 hr J2
     have hp:2 ^ i≤2 ^ 38:=Nat.pow_le_pow_right J9 J2
     have hp0:0 < 2 ^ i:=Nat.pow_pos J9
     have cs1:=fun W=>cs (r+2 ^ i) J2 W
     have HN:Hid (N < (r+2 ^ i) * (r+2 ^ i)→Rooted N i r):=fun g=>hR.no g
     have HY:Hid (¬ N < (r+2 ^ i) * (r+2 ^ i)→Rooted N i (r+2 ^ i)):=fun g=>hR.yes J2
     have HI:Hid (i≤39):=by show i≤39;omega
     have HP:Hid (((2 ^ i:Nat):Int) / 2 = ((2 ^ i / 2:Nat):Int)):=by show ((2 ^ i:Nat):Int) / 2 = _;omega
     generalize hpe:2 ^ i = p at *
     have HE:Hid (2 ^ i = p):=hpe
     clear hpe eb
     have hpI:(0:Int) < (p:Int):=J2
     clear hj hj0 hR hN cs
     by_cases hd:N < (r+p) * (r+p)
     · have HR:Hid (Rooted N i r):=HN.out hd
       have ed:decide (N < (r+p) * (r+p)) = true:=by simp [hd]
       rw [ed,Int.natCast_add] at cs1
       clear ed hd HN HY
       go_wp2_with fail
       refine (cs1 _).mono ?_
       rintro e w2 ⟨rfl,E2⟩
       go_wp2
       go_roundw
       case rel=>exact ⟨i,r,HI.out,rfl,by rw [HE.out,← HP.out],HR.out,hE.trans E2⟩
       case measure=>simp [intOf];omega
     · have HR:Hid (Rooted N i (r+p)):=HY.out hd
       have ed:decide (N < (r+p) * (r+p)) = false:=by simp [hd]
       rw [ed,Int.natCast_add] at cs1
       clear ed hd HN HY
       go_wp2_with fail
       refine (cs1 _).mono ?_
       rintro e w2 ⟨rfl,E2⟩
       go_wp2
       go_roundw
       case rel=>exact ⟨i,r+p,HI.out,rfl,by rw [HE.out,← HP.out],HR.out,hE.trans E2⟩
       case measure=>simp [intOf];omega
def Stands (w:World) (b:Nat) (N:Nat) (wr:World):Prop:=(Ext w wr∧Pair wr b N)∧wr.cell? ⟨b,0,none⟩ = some (.int .u64 (uhi N))∧wr.cell? ⟨b,1,none⟩ = some (.int .u64 (loOf N))
theorem Stands.mk' {w wr:World} {b N:Nat} (h:Ext w wr) (p:Pair wr b N):Stands w b N wr:=⟨⟨h,p⟩,p.2.1,p.2.2.1⟩
theorem Stands.ext {w wr w':World} {b N:Nat} (h:Stands w b N wr) (e:Ext wr w'):Stands w b N w':=Stands.mk' (h.1.1.trans e) (h.1.2.ext e)
structure Bg where
 g:Ag
 rows:Int
 cols:Int
def sgl (b:Bg):V:=if b.g.area then .err 2 else one1 b.g.l
def sg (l:List Bg) (i:Nat):V:=match l[i]? with
 | some b=>sgl b
 | none=>.err 2
def V.rw (v:V):Rw:=⟨v.k,v.n,v.s,v.e⟩
theorem rw_v (v:V) (h:v.ok):v.rw.v = v:=by
 cases v with
 | blank=>rfl
 | tf b=>exact nm_tf b
 | num n=>exact nm_num h.2
 | text s=>exact nm_text h
 | err e=>exact nm_err h
abbrev R (α:Type):=Except Int α
def nuR (v:V):R Int:=match v.toNum with
 | .err e=>.error e
 | u=>.ok u.n
def teR (v:V):R ByteArray:=match v.toText with
 | .err e=>.error e
 | u=>.ok u.s
def trR (v:V):R Bool:=match v.toBool with
 | .err e=>.error e
 | u=>.ok (u.n != 0)
def whN (n:Int):Int:=n / 10000
def whR (v:V):R Int:=(nuR v).map whN
def whO (l:List Bg) (i:Nat):R Int:=if l.length≤i then .ok 1 else whR (sg l i)
def tolR (b:Bool) (n:Int):R V:=if b then .ok (mkNum n) else .error 4
def rtN:Nat→Nat
 | 0=>0
 | n+1=>if (rtN n+1) * (rtN n+1)≤n+1 then rtN n+1 else rtN n
theorem rt_is (n:Nat):IsRoot n (rtN n):=by
 induction n with
 | zero=>exact ⟨by decide,by decide⟩
 | succ n ih =>
   obtain ⟨h1,h2⟩:=ih
   unfold rtN
   split
   · rename_i h
     refine ⟨h,?_⟩
     have:(rtN n+1) * (rtN n+1) = n+1:=J2
     have e:(rtN n+1+1) * (rtN n+1+1) = (rtN n+1) * (rtN n+1)+2 * (rtN n+1)+1:=by
       generalize rtN n+1 = x
       rw [Nat.add_mul,Nat.mul_add];omega
     omega
   · rename_i h
     exact K141
def rootB (a:Int):Bool:=decide (0≤a)
def rootV (a:Int):Int:=if 0≤a then (rtN (a.toNat * 10000):Int) else 0
def szN (n:Int):Int:=if n < 0 then -n else n
def gsOf (l:List Bg):List Ag:=l.map Bg.g
def xIf (l:List Bg):R Rw:=match trR (sg l 0) with
 | .error e=>.error e
 | .ok t=>if t then .ok (sg l 1).rw else if l.length < 3 then .ok (V.tf false).rw else .ok (sg l 2).rw
def xNot (l:List Bg):R Rw:=match trR (sg l 0) with
 | .error e=>.error e
 | .ok t=>.ok (V.tf (!t)).rw
def xAbs (l:List Bg):R Rw:=match nuR (sg l 0) with
 | .error e=>.error e
 | .ok n=>.ok (mkNum (szN n)).rw
def xRound (l:List Bg):R Rw:=match nuR (sg l 0) with
 | .error e=>.error e
 | .ok a=>match whR (sg l 1) with
   | .error e=>.error e
   | .ok d=>(tolR (rndB a d) (rndV a d)).map V.rw
def xMod (l:List Bg):R Rw:=match nuR (sg l 0) with
 | .error e=>.error e
 | .ok a=>match nuR (sg l 1) with
   | .error e=>.error e
   | .ok b=>if b = 0 then .error 3 else (tolR (modB a b) (modV a b)).map V.rw
def xFloor (l:List Bg):R Rw:=match nuR (sg l 0) with
 | .error e=>.error e
 | .ok a=>(tolR (floorB a) (floorV a)).map V.rw
def xSqrt (l:List Bg):R Rw:=match nuR (sg l 0) with
 | .error e=>.error e
 | .ok a=>(tolR (rootB a) (rootV a)).map V.rw
def xLen (l:List Bg):R Rw:=match teR (sg l 0) with
 | .error e=>.error e
 | .ok s=>.ok (mkNum ((s.size:Int) * 10000)).rw
def begB (s:ByteArray) (c:Int):ByteArray:=s.extract 0 (min c (s.size:Int)).toNat
def xLeft (l:List Bg):R Rw:=match teR (sg l 0) with
 | .error e=>.error e
 | .ok s=>match whO l 1 with
   | .error e=>.error e
   | .ok c=>if c < 0 then .error 2 else .ok (mkText (begB s c)).rw
def arOf (b:Bg):Bg:=if b.g.area then b else ⟨⟨true,[(sgl b).rw]⟩,1,1⟩
def pkR (b:Bg) (row col:Int):R Rw :=
 if row < 1∨row > b.rows∨col < 1∨col > b.cols∨col > (b.g.l.length:Int) then .error 1
 else if row - 1 > ((b.g.l.length:Int) - col) / b.cols then .error 1
 else match b.g.l[((row - 1) * b.cols+col - 1).toNat]? with
   | some r=>.ok r
   | none=>.error 1
def xIndex (l:List Bg):R Rw:=match whR (sg l 1) with
 | .error e=>.error e
 | .ok row=>match whO l 2 with
   | .error e=>.error e
   | .ok col=>match l[0]? with
     | some b=>pkR (arOf b) row col
     | none=>.error 2
def xIsErr (l:List Bg):R Rw:=.ok (V.tf ((sg l 0).k == 4)).rw
def xIfErr (l:List Bg):R Rw:=if (sg l 0).k = 4 then .ok (sg l 1).rw else .ok (sg l 0).rw
def xCall (s:List UInt8) (l:List Bg):R Rw :=
 if s = [83,85,77] then .ok (fSum (gsOf l)).rw
 else if s = [67,79,85,78,84] then .ok (fCount (gsOf l)).rw
 else if s = [77,73,78] then .ok (fBest ltB (gsOf l)).rw
 else if s = [77,65,88] then .ok (fBest gtB (gsOf l)).rw
 else if s = [65,86,69,82,65,71,69] then .ok (fMean (gsOf l)).rw
 else if s = [65,78,68] then .ok (fAnd (gsOf l)).rw
 else if s = [79,82] then .ok (fOr (gsOf l)).rw
 else if s = [67,79,78,67,65,84] then .ok (fCat (gsOf l)).rw
 else if s = [73,70] then xIf l
 else if s = [78,79,84] then xNot l
 else if s = [65,66,83] then xAbs l
 else if s = [82,79,85,78,68] then xRound l
 else if s = [77,79,68] then xMod l
 else if s = [70,76,79,79,82] then xFloor l
 else if s = [83,81,82,84] then xSqrt l
 else if s = [76,69,78] then xLen l
 else if s = [76,69,70,84] then xLeft l
 else if s = [73,78,68,69,88] then xIndex l
 else if s = [73,83,69,82,82,79,82] then xIsErr l
 else if s = [73,70,69,82,82,79,82] then xIfErr l
 else .error 2
def ansV:R Rw→V
 | .ok r=>r.v
 | .error e=>mkErr e
def okN (s:List UInt8) (n:Nat):Bool:=(kno s).isSome && decide (knA s≤n) && decide ((n:Int)≤knB s)
def fnV (s:List UInt8) (l:List Bg):V:=if okN s l.length then ansV (xCall s l) else .err 2
open Go.ChangeShapes Go.WideShapes Go.RowKit
open Go.Joins (trod_struct4)
open Go.Deep (choose_lt)
instance : Inhabited T := ⟨tz⟩
inductive Wf:T→Prop
 | mk (t:T):I64 t.k→I64 t.n→t.s.length≤maxLen→I64 t.e→I64 t.r.1→I64 t.r.2.1→I64 t.q.1→I64 t.q.2.1→(∀ x ∈ t.l,Wf x)→Wf t
theorem list13 {α:Type} {cs:List α} (h:cs.length = 13):∃ c0 c1 c2 c3 c4 c5 c6 c7 c8 c9 c10 c11 c12,cs = [c0,c1,c2,c3,c4,c5,c6,c7,c8,c9,c10,c11,c12]:=by
 match cs,h with
 | [c0,c1,c2,c3,c4,c5,c6,c7,c8,c9,c10,c11,c12],_=>exact ⟨c0,c1,c2,c3,c4,c5,c6,c7,c8,c9,c10,c11,c12,rfl⟩
theorem cells_exp:Tryz.prog.cellsOf 43 = 13:=J3
theorem cells_rf:Tryz.prog.cellsOf 40 = 4:=J3
theorem cells_i:Tryz.prog.cellsOf 3 = 1:=J3
theorem cells_i64:Tryz.prog.cellsOf 2 = 1:=J3
theorem cells_st:Tryz.prog.cellsOf 9 = 1:=J3
theorem cells_bl:Tryz.prog.cellsOf 4 = 1:=J3
theorem cells_sl:Tryz.prog.cellsOf 41 = 1:=J3
section
variable {H:Type} {enc:TypeId × Value→H} {w:World} {base:Nat} {sp:Nat→Bool} {hd:Bool}
theorem open_rf {fuel:Nat} {c0 c1 c2 c3:Value} {x:DataW H × List MemPlace} (h:DataW.trod enc Tryz.prog w base sp hd fuel 40 [c0,c1,c2,c3] = some x) :
   ∃ r:Rf,c0 = .int .i64 r.1∧c1 = .int .i64 r.2.1∧c2 = .bool r.2.2.1∧c3 = .bool r.2.2.2∧I64 r.1∧I64 r.2.1:=by
 obtain ⟨y0,y1,y2,y3,n,_,_,h0,h1,h2,h3⟩:=trod_struct4 Tryz.underlying40 h
 simp [cells_i,cells_bl] at h0 h1 h2 h3
 obtain ⟨a0,e0,_,w0⟩:=DataW.trod_int Tryz.underlying3 h0
 obtain ⟨a1,e1,_,w1⟩:=DataW.trod_int Tryz.underlying3 h1
 obtain ⟨a2,e2,_⟩:=DataW.trod_bool Tryz.underlying4 h2
 obtain ⟨a3,e3,_⟩:=DataW.trod_bool Tryz.underlying4 h3
 simp only [List.cons.injEq,and_true] at e0 e1 e2 e3
 exact ⟨(a0,a1,a2,a3),e0,e1,e2,e3,i64_of_wf w0,i64_of_wf w1⟩
theorem open_exp:∀ (fuel:Nat) (cs:List Value) (x:DataW H × List MemPlace),DataW.trod enc Tryz.prog w base sp hd fuel 43 cs = some x →
   ∃ (t:T) (lv:Value),cs = cellsT t lv∧IsL w (fun _=>True) lv t.l∧Wf t:=by
 intro fuel
 induction fuel using Nat.strongRecOn with
 | _ fuel ih =>
   intro cs x h
   obtain ⟨xs,n,rfl,_,hlen,hxl,hf⟩:=DataW.trod_struct Tryz.underlying43 h
   rw [cells_exp] at hlen
   obtain ⟨c0,c1,c2,c3,c4,c5,c6,c7,c8,c9,c10,c11,c12,rfl⟩:=list13 hlen
   have hx:∀ i,i < 7→∃ y,xs[i]? = some y:=fun i hi=>⟨_,gEq (by rw [hxl];exact hi)⟩
   obtain ⟨y0,g0⟩:=hx 0 J9
   obtain ⟨y1,g1⟩:=hx 1 J9
   obtain ⟨y2,g2⟩:=hx 2 J9
   obtain ⟨y3,g3⟩:=hx 3 J9
   obtain ⟨y4,g4⟩:=hx 4 J9
   obtain ⟨y5,g5⟩:=hx 5 J9
   obtain ⟨y6,g6⟩:=hx 6 J9
   have f0:=(hf 0 _ rfl).trans g0
   have f1:=(hf 1 _ rfl).trans g1
   have f2:=(hf 2 _ rfl).trans g2
   have f3:=(hf 3 _ rfl).trans g3
   have f4:=(hf 4 _ rfl).trans g4
   have f5:=(hf 5 _ rfl).trans g5
   have f6:=(hf 6 _ rfl).trans g6
   simp [cells_i,cells_i64,cells_st,cells_rf,cells_sl] at f0 f1 f2 f3 f4 f5 f6
   obtain ⟨a0,e0,_,w0⟩:=DataW.trod_int Tryz.underlying3 f0
   obtain ⟨a1,e1,_,w1⟩:=DataW.trod_int Tryz.underlying2 f1
   obtain ⟨a2,e2,_,w2⟩:=DataW.trod_string Tryz.underlying9 f2
   obtain ⟨a3,e3,_,w3⟩:=DataW.trod_int Tryz.underlying3 f3
   obtain ⟨r,r0,r1,r2,r3,rw0,rw1⟩:=open_rf f4
   obtain ⟨q,q0,q1,q2,q3,qw0,qw1⟩:=open_rf f5
   simp only [List.cons.injEq,and_true] at e0 e1 e2 e3
   subst e0 e1 e2 e3 r0 r1 r2 r3 q0 q1 q2 q3
   have hs:bs a2.data.toList = a2:=by unfold bs;rfl
   have key:∃ l,IsL w (fun _=>True) c12 l∧∀ x ∈ l,Wf x:=by
     rcases DataW.trod_slice Tryz.underlying41 f6 with ⟨e6,_⟩ | ⟨a,len,cap,elems,rest,n',hn',e6,_,hb,hl,hm,hel,hx,_,_⟩
     · simp only [List.cons.injEq,and_true] at e6
       subst e6
       exact ⟨[],.nil,fun x hx=>by cases hx⟩
     · simp only [List.cons.injEq,and_true] at e6
       subst e6
       rw [cells_exp] at hx
       have each:∀ i,i < len→∃ p:T × Value,(∀ j u,(cellsT p.1 p.2)[j]? = some u→w.cell? ((a.add (i * 13)).add j) = some u)∧IsL w (fun _=>True) p.2 p.1.l∧Wf p.1:=by
         intro i hi
         have h0:=hx i hi
         rw [gEq (show i < elems.length by omega)] at h0
         obtain ⟨cs',h1,h2⟩:=Option.bind_eq_some_iff.1 h0
         obtain ⟨_,k1,k2⟩:=World.cells?_some h1
         obtain ⟨t,lv,rfl,hL,hW⟩:=ih n' J2 cs' _ h2
         refine ⟨(t,lv),fun j u hu=>?_,hL,hW⟩
         exact K168
       obtain ⟨f,hf⟩:=choose_lt each
       by_cases h0:len = 0
       · subst h0
         exact ⟨[],.nil,fun x hx=>by cases hx⟩
       obtain ⟨b,off,spot⟩:=a
       have hz:=(hf 0 J2).1 0 _ rfl
       have hspot:spot = none:=by simpa [Addr.add] using World.cell?_spot hz
       subst hspot
       have hblt:b < w.heap.size:=World.block_lt_of_cell? _ _ hz
       refine ⟨(List.range len).map (fun i=>(f i).1),.mk b off cap len _ (fun i=>(f i).2) J65 hl trivial hblt ?_ ?_,?_⟩
       · intro i t j u hi hj
         have hi':i < len:=by
           exact K155
         rw [List.getElem?_map,List.getElem?_range hi'] at hi
         simp at hi
         subst hi
         have:=(hf i hi').1 j u hj
         rw [Addr.add_lit,Addr.add_lit] at this
         exact this
       · intro i t hi
         have hi':i < len:=by
           exact K155
         rw [List.getElem?_map,List.getElem?_range hi'] at hi
         simp at hi
         subst hi
         exact (hf i hi').2.1
       · intro x hx
         obtain ⟨i,hi,rfl⟩:=List.mem_map.1 hx
         exact (hf i (List.mem_range.1 hi)).2.2
   obtain ⟨l,hL,hW⟩:=key
   refine ⟨.mk a0 a1 a2.data.toList a3 r q l,c12,?_,hL,.mk _ (i64_of_wf w0) (i64_of_wf w1) (by show a2.data.toList.length≤maxLen;rw [size_list];exact w2) (i64_of_wf w3) rw0 rw1 qw0 qw1 hW⟩
   show _ = cellsT _ c12
   unfold cellsT
   simp only [T.k,T.n,T.s,T.e,T.r,T.q,hs]
end
open Go.RowKit
def szT:Nat→T→Nat
 | 0,_=>1
 | n+1,t=>1+(t.l.map (szT n)).sum
theorem szT_pos (n:Nat) (t:T):1≤szT n t:=by cases n <;> simp [szT]
theorem tw_of {p:UInt8→Bool} {l A B:List UInt8} (e:A ++ B = l) (hA:A.all p = true) (hB:∀ c,B.head? = some c→p c = false):l.takeWhile p = A∧l.dropWhile p = B:=by
 subst e
 induction A with
 | nil =>
   cases B with
   | nil=>exact ⟨rfl,rfl⟩
   | cons c B =>
     have:=hB c rfl
     constructor
     · show (c :: B).takeWhile p = [];rw [List.takeWhile_cons,this];rfl
     · show (c :: B).dropWhile p = c :: B;rw [List.dropWhile_cons,this];rfl
 | cons a A ih =>
   rw [List.all_cons,Bool.and_eq_true] at hA
   obtain ⟨i1,i2⟩:=ih hA.2
   constructor
   · show (a :: (A ++ B)).takeWhile p = a :: A;rw [List.takeWhile_cons,hA.1,i1];rfl
   · show (a :: (A ++ B)).dropWhile p = B;rw [List.dropWhile_cons,hA.1,if_pos rfl,i2]
theorem dw_head {p:UInt8→Bool} (l:List UInt8) (c:UInt8) (h:(l.dropWhile p).head? = some c):p c = false:=by
 have:=List.head?_dropWhile_not p l
 rw [h] at this
 simpa using this
def nmR (l:List UInt8):List UInt8:=(undl l).takeWhile upB
def rsR (l:List UInt8):List UInt8:=(undl l).dropWhile upB
def dgR (l:List UInt8):List UInt8:=undl (rsR l)
def okR (l:List UInt8):Bool:=rowOk (dgR l) && inB (val (dgR l)) (colN (nmR l))
theorem lt_sgn {c:UInt8} (h:upB c = true):sgns.contains c = false:=by
 rw [sgn_eq]
 unfold upB at h;simp at h
 have:(c == 36) = false:=beq_eq_false_iff_ne.2 fun e=>by
   rw [e] at h;have:(36:UInt8).toNat = 36:=rfl;omega
 rw [this];unfold dgB;simp;omega
theorem sgn_lt {c:UInt8} (h:sgns.contains c = true):upB c = false:=by
 cases g:upB c with
 | false=>rfl
 | true=>rw [lt_sgn g] at h;cases h
theorem par_one (l:List UInt8) (h:okP l = true):nmR l = nmL l∧rsR l = rsL l∧okR l = true∧rowP l = val (dgR l):=by
 have hin:=h
 unfold okP inB at hin
 simp at hin
 have hc:colN (nmL l)≠0:=by unfold colP at hin;omega
 have hA:=colN_letters _ hc
 have e:nmL l ++ rsL l = undl l:=List.takeWhile_append_dropWhile
 have hB:∀ c,(rsL l).head? = some c→upB c = false:=fun c hc=>by
   have:=dw_head (p:=fun c=>!sgns.contains c) (undl l) c hc
   exact sgn_lt (by simpa using this)
 obtain ⟨t1,t2⟩:=tw_of e hA hB
 have n1:nmR l = nmL l:=t1
 have n2:rsR l = rsL l:=t2
 obtain ⟨o1,o2⟩:=row_in (undl (rsL l)) (by unfold rowP at hin;omega) (by unfold rowP at hin;omega)
 have n3:dgR l = undl (rsL l):=by unfold dgR;rw [n2]
 refine ⟨n1,n2,?_,?_⟩
 · unfold okR
   rw [n3,n1,o1,o2]
   exact h
 · rw [n3,o2];rfl
theorem par_two (l:List UInt8) (h:okR l = true):okP l = true:=by
 unfold okR at h
 rw [Bool.and_eq_true] at h
 obtain ⟨h1,h2⟩:=h
 have hin:=h2
 unfold inB at hin
 simp at hin
 have hA:(nmR l).all (fun c=>!sgns.contains c) = true:=by
   rw [List.all_eq_true]
   intro c hc
   have:=List.all_eq_true.1 (List.all_takeWhile (p:=upB) (l:=undl l)) c hc
   rw [lt_sgn this];rfl
 have e:nmR l ++ rsR l = undl l:=List.takeWhile_append_dropWhile
 have hne:dgR l≠[]:=by
   intro k;rw [k] at hin
   have:val ([]:List UInt8) = 0:=rfl
   omega
 have hB:∀ c,(rsR l).head? = some c→(!sgns.contains c) = false:=by
   intro c hc
   rw [sgn_eq]
   by_cases g:c = 36
   · subst g;rfl
   · have hd:dlB (rsR l) = false:=by unfold dlB;rw [hc];simpa using g
     have e2:dgR l = rsR l:=by unfold dgR undl;rw [hd];rfl
     unfold rowOk at h1
     rw [Bool.and_eq_true,Bool.and_eq_true,e2] at h1
     have:=List.all_eq_true.1 h1.1.1 c (List.mem_of_mem_head? (by rw [hc];rfl))
     rw [this];simp
 obtain ⟨t1,t2⟩:=tw_of e hA hB
 have n1:nmL l = nmR l:=t1
 have n2:rsL l = rsR l:=t2
 have hr:=row_ok (dgR l) h1 hne
 unfold okP rowP colP
 rw [n1,n2]
 show inB (rowC (dgR l)) _ = true
 rw [hr];exact h2
theorem ok_eq (l:List UInt8):okP l = okR l:=by
 cases h:okR l with
 | true=>exact par_two l h
 | false =>
   cases g:okP l with
   | false=>rfl
   | true=>rw [(par_one l g).2.2.1] at h;cases h
theorem prV_R (l:List UInt8):prV l = if okR l then refD (val (dgR l)) (colN (nmR l)) (dlB (rsR l)) (dlB l) else refD 0 0 false false:=by
 unfold prV
 rw [← ok_eq]
 cases g:okP l with
 | false=>rfl
 | true =>
   obtain ⟨n1,n2,_,n4⟩:=par_one l g
   rw [if_pos rfl,if_pos rfl,n4,n1,n2];rfl
end Go.Proofs.YtcfgbiaahangmaaGreatDoor
