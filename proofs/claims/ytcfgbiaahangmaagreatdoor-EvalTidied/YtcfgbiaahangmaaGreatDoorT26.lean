import Derived.Test.YtcfgbiaahangmaaGreatDoorT25
import Derived.Test.YtcfgbiaahangmaaGreatDoorT23
set_option maxHeartbeats 1000000
set_option maxRecDepth 100000
namespace Go.Proofs.YtcfgbiaahangmaaGreatDoor
open Go.Proofs.Tryz
open Go.RowKit
theorem ten_le {k : Nat} (h : k < 18) : 10 ^ k ≤ 100000000000000000:=Nat.pow_le_pow_right (n:=10) J2 (show k ≤ 17 by omega)
theorem ten_le' {k : Nat} (h : k ≤ 18) : 10 ^ k ≤ 1000000000000000000:=Nat.pow_le_pow_right (n:=10) J2 h
theorem power_any (n : Nat) (hn : n ≤ 18) (w : World) : Calls Tryz.prog 244 #[.int .i64 n] w fun e w'=>e = .returned (.int .i64 ((10 ^ n : Nat) : Int)) ∧ w' = w:=by
 go_enter func244,ntmps244
 go_wp2
 go_loop [3,5] (fun p i=>∃ k : Nat,k ≤ n ∧ i = .int .i64 k ∧ p = .int .i64 ((10 ^ k : Nat) : Int)) (fun _ i=>n - (intOf i).toNat)
 case atStart=>exact ⟨0,Nat.zero_le _,rfl,rfl⟩
 case round =>
   obtain ⟨k,hk,rfl,rfl⟩:=hrel
   by_cases hlt : k < n
   · have hb:=ten_le (k:=k) J2
     have HS : Hid (10 ^ (k + 1) = 10 ^ k * 10):=Nat.pow_succ 10 k
     obtain ⟨P,hP⟩ : ∃ P,P = 10 ^ k:=⟨_,rfl⟩
     rw [← hP] at hb ⊢
     have HP : Hid (P = 10 ^ k):=hP
     clear hP
     have i1 : (P : Int) ≤ 100000000000000000:=J2
     clear hb
     go_wp2
     go_round
     case rel=>exact ⟨k + 1,by omega,by go_num,congrArg (Value.int .i64) (by rw [HS.out,← HP.out];omega)⟩
     case measure=>simp [intOf];omega
   · go_wp2
     go_ret
     have : k = n:=J2
     subst this
     exact ⟨rfl,rfl⟩
def floorB (a : Int) : Bool:=canB a && subB a (a % 10000)
def floorV (a : Int) : Int:=if canB a then subV a (a % 10000) else 0
theorem mod1_bd (a : Int) : I64 (a % 10000):=⟨by omega,by omega⟩
theorem modB_one (a : Int) : modB a 10000 = canB a:=by
 unfold modB
 have : canB 10000 = true:=by decide
 rw [this]
 simp
theorem modV_one (a : Int) (h : canB a = true) : modV a 10000 = a % 10000:=by
 unfold modV fm
 rw [modB_one,h]
 rfl
theorem floor_any (a : Int) (ha : I64 a) (w : World) : Calls Tryz.prog 195 #[.int .i64 a] w fun e w'=>e = .returned (.tuple #[.int .i64 (floorV a),.bool (floorB a)]) ∧ Ext w w':=by
 have c1:=fun W=>mod_any a 10000 ha ⟨by omega,by omega⟩ W
 have c2:=fun W=>sub_any a (a % 10000) ha (mod1_bd a) W
 rw [modB_one] at c1
 cases hc : canB a
 · have HC : Hid (floorB a = false):=by show floorB a = false;unfold floorB;rw [hc];rfl
   have HV : Hid (floorV a = 0):=by show floorV a = 0;unfold floorV;rw [hc];rfl
   rw [hc] at c1
   generalize modV a 10000 = m at *
   go_enter func195,ntmps195
   go_wp2_with fail
   refine (c1 _).mono ?_
   rintro e w1 ⟨rfl,E1⟩
   go_wp2
   go_ret2
   exact ⟨ret_ib HV.out.symm HC.out.symm,E1⟩
 · have HC : Hid (floorB a = subB a (a % 10000)):=by show floorB a = _;unfold floorB;rw [hc];rfl
   have HV : Hid (floorV a = subV a (a % 10000)):=by show floorV a = _;unfold floorV;rw [hc];rfl
   rw [hc,modV_one a hc] at c1
   generalize a % 10000 = m at *
   go_enter func195,ntmps195
   go_wp2_with fail
   refine (c1 _).mono ?_
   rintro e w1 ⟨rfl,E1⟩
   go_wp2_with fail
   refine (c2 _).mono ?_
   rintro e w2 ⟨rfl,E2⟩
   go_wp2
   go_ret2
   exact ⟨ret_ib HV.out.symm HC.out.symm,E1.trans E2⟩
def rndP (d : Int) : Nat:=10 ^ (4 - d).toNat
def rnN (a d : Int) : Nat:=nearQ a.natAbs (rndP d) * rndP d
def rndB (a d : Int) : Bool:=canB a && (decide (4 ≤ d) || (decide (d < -14) || sgnB (rnN a d)))
def rndV (a d : Int) : Int:=if canB a then (if 4 ≤ d then a else if d < -14 then 0 else sgnV (decide (a < 0)) (rnN a d)) else 0
theorem near_mul (A P : Nat) : (P ≤ 2 * (A % P) → nearQ A P * P = A / P * P + P) ∧ (¬ P ≤ 2 * (A % P) → nearQ A P * P = A / P * P):=by
 unfold nearQ
 constructor
 · intro h;rw [if_pos h,Nat.add_mul,Nat.one_mul]
 · intro h;rw [if_neg h,Nat.add_zero]
theorem ten_even (n : Nat) (h : 1 ≤ n) : 10 ^ n / 2 * 2 = 10 ^ n:=by
 obtain ⟨k,rfl⟩ : ∃ k,n = k + 1:=⟨n - 1,by omega⟩
 rw [Nat.pow_succ]
 omega
theorem tmod_abs (a : Int) (P : Nat) : a.tmod P = if a < 0 then -((a.natAbs % P : Nat) : Int) else ((a.natAbs % P : Nat) : Int):=by
 split
 · rw [tmod_neg' a P J2]
   have : -a = (a.natAbs : Int):=J2
   rw [this,Int.natCast_emod]
 · rw [tmod_pos a P J2]
   have : a = (a.natAbs : Int):=J2
   rw [Int.natCast_emod,← this]
theorem round_w4 (a : Int) (n P R T : Nat) (hc : canB a = true) (d1 : ¬ (4 : Int) ≤ 4 - (n : Int)) (d2 : ¬ (4 : Int) - (n : Int) < -14)
   (cP : ∀ W,Calls Tryz.prog 244 #[.int .i64 n] W fun e w'=>e = .returned (.int .i64 P) ∧ w' = W)
   (e5 : (4 : Int) - (4 - (n : Int)) = n) (ht : a.tmod (P : Int) = R) (ga : ¬ a < 0) (hin : a - (R : Int) = T) (gr : (P : Int) / 2 ≤ R) (_z3 : ¬ (P : Int) = 0)
   (q1 : (10 : Int) ≤ P) (q2 : (P : Int) ≤ 1000000000000000000) (_q3 : (R : Int) < P) (q4 : (T : Int) + R ≤ 9223372036854775807) (w : World) :
   Calls Tryz.prog 192 #[.int .i64 a,.int .i64 (4 - (n : Int))] w fun e w'=>e = .returned (.tuple #[.int .i64 (addV T P),.bool (addB T P)]) ∧ Ext w w':=by
 have c1:=fun W=>size_any (R : Int) ⟨by omega,by omega⟩ W
 have eR : absI (R : Int) = R:=J91
 rw [eR] at c1
 have c2:=fun W=>add_any (T : Int) P ⟨by omega,by omega⟩ ⟨by omega,by omega⟩ W
 have qT : (T : Int) ≤ 9223372036854775807:=J2
 clear eR q4
 go_enter func192,ntmps192
 go_wp2_with fail
 refine Calls.mono (numbers_1 a w.heap.size _ J17) ?_
 rintro e w' ⟨rfl,rfl⟩
 go_wp2_with fail
 refine (cP _).mono ?_
 rintro e w' ⟨rfl,rfl⟩
 go_wp2_with fail
 refine (c1 _).mono ?_
 rintro e w' ⟨rfl,rfl⟩
 go_wp2_with fail
 refine (c2 _).mono ?_
 rintro e w2 ⟨rfl,E2⟩
 go_wp2
 go_ret2
 exact ⟨rfl,(xr.alloc _).trans E2⟩
theorem round_mid (a d : Int) (ha : I64 a) (hc : canB a = true) (d1 : ¬ 4 ≤ d) (d2 : ¬ d < -14) (w : World) :
   Calls Tryz.prog 192 #[.int .i64 a,.int .i64 d] w fun e w'=>e = .returned (.tuple #[.int .i64 (sgnV (decide (a < 0)) (rnN a d)),.bool (sgnB (rnN a d))]) ∧ Ext w w':=by
 obtain ⟨n,hn⟩ : ∃ n : Nat,n = (4 - d).toNat:=⟨_,rfl⟩
 have hn1 : 1 ≤ n:=J2
 have hn2 : n ≤ 18:=J2
 have hd : d = 4 - (n : Int):=J2
 have hN : rnN a d = nearQ a.natAbs (10 ^ n) * 10 ^ n:=by unfold rnN rndP;rw [← hn]
 have cP:=fun W=>power_any n hn2 W
 have p1:=ten_le' hn2
 have p2 : 10 ≤ 10 ^ n:=Nat.pow_le_pow_right (n:=10) J2 hn1
 have p3:=ten_even n hn1
 obtain ⟨near1,near2⟩:=near_mul a.natAbs (10 ^ n)
 have hdm:=Nat.div_add_mod a.natAbs (10 ^ n)
 have hml:=Nat.mod_lt a.natAbs (show 0 < 10 ^ n by omega)
 have ht:=tmod_abs a (10 ^ n)
 rw [Nat.mul_comm] at hdm
 rw [← hN] at near1 near2
 obtain ⟨a1,a2⟩:=ha
 have a3 : -9223372036854775808 < a:=by unfold canB at hc;simp at hc;omega
 have hA : a.natAbs ≤ 9223372036854775807:=J2
 have sa : (a < 0 → a = -(a.natAbs : Int)) ∧ (0 ≤ a → a = (a.natAbs : Int)):=J2
 subst hd
 clear hn hN
 generalize rnN a (4 - (n : Int)) = N at *
 generalize a.natAbs / 10 ^ n * 10 ^ n = T at *
 generalize a.natAbs % 10 ^ n = R at *
 generalize a.natAbs = A at *
 generalize 10 ^ n = P at *
 have z3 : ¬ (P : Int) = 0:=J2
 have e5 : (4 : Int) - (4 - (n : Int)) = n:=J2
 have e6 : wrap64 ((4 : Int) - (4 - (n : Int))) = n:=by rw [e5];unfold wrap64;omega
 have HP : Hid (P / 2 * 2 = P):=p3
 have H1 : Hid (P ≤ 2 * R → N = T + P):=near1
 have H2 : Hid (¬ P ≤ 2 * R → N = T):=near2
 have HA : Hid (T + R = A):=hdm
 have q1 : (10 : Int) ≤ (P : Int):=J2
 have q2 : (P : Int) ≤ 1000000000000000000:=J2
 have q3 : (R : Int) < (P : Int):=J2
 have q4 : (T : Int) + (R : Int) ≤ 9223372036854775807:=J2
 have cp : canB (P : Int) = true:=J92
 clear p1 p2 p3 near1 near2 hml
 by_cases ga : a < 0
 · have ht' : a.tmod (P : Int) = -(R : Int):=by rw [ht,if_pos ga]
   have hi : a = -(T : Int) - (R : Int):=by have:=sa.1 ga;omega
   have c1:=fun W=>size_any (-(R : Int)) ⟨by omega,by omega⟩ W
   have eR : absI (-(R : Int)) = R:=J91
   rw [eR] at c1
   have c2:=fun W=>sub_any (-(T : Int)) P ⟨by omega,by omega⟩ ⟨by omega,by omega⟩ W
   have ed : decide (a < 0) = true:=by simp [ga]
   have hin : a - -(R : Int) = -(T : Int):=J2
   have hin2 : a + (R : Int) = -(T : Int):=J2
   have HI : Hid (a = -(T : Int) - (R : Int)):=hi
   clear ht sa hi hdm eR hA
   by_cases gr : (R : Int) < (P : Int) / 2
   · exact K46
   · have HN : Hid (N = T + P):=H1.out (by have:=HP.out;omega)
     have HB : Hid (subB (-(T : Int)) P = sgnB N):=by
       show subB (-(T : Int)) P = sgnB N
       rw [HN.out]
       unfold subB sgnB
       rw [cp]
       have : canB (-(T : Int)) = true:=J92
       rw [this]
       unfold fitB
       rw [Bool.eq_iff_iff]
       simp
       omega
     have HV : Hid (subV (-(T : Int)) P = sgnV true N):=by
       show subV (-(T : Int)) P = sgnV true N
       unfold subV sgnV
       rw [HB.out,HN.out]
       split
       · rw [if_pos rfl];omega
       · rfl
     go_enter func192,ntmps192
     go_wp2_with (first
       | (go_at_call 219;refine Calls.mono (numbers_1 a w.heap.size _ J17) ?_;rintro e w' ⟨rfl,rfl⟩)
       | (go_at_call 244;refine (cP _).mono ?_;rintro e w' ⟨rfl,rfl⟩)
       | (go_at_call 245;refine (c1 _).mono ?_;rintro e w' ⟨rfl,rfl⟩))
     refine (c2 _).mono ?_
     rintro e w2 ⟨rfl,E2⟩
     go_wp2
     go_ret2
     exact ⟨ret_ib (by rw [ed];exact HV.out) HB.out,(xr.alloc _).trans E2⟩
 · have ht' : a.tmod (P : Int) = (R : Int):=by rw [ht,if_neg ga]
   have hi : a = (T : Int) + (R : Int):=by have:=sa.2 J2;omega
   have c1:=fun W=>size_any (R : Int) ⟨by omega,by omega⟩ W
   have eR : absI (R : Int) = R:=J91
   rw [eR] at c1
   have c2:=fun W=>add_any (T : Int) P ⟨by omega,by omega⟩ ⟨by omega,by omega⟩ W
   have ed : decide (a < 0) = false:=J8
   have hin : a - (R : Int) = (T : Int):=J2
   clear ht sa hi hdm eR hA
   by_cases gr : (R : Int) < (P : Int) / 2
   · exact K46
   · have HN : Hid (N = T + P):=H1.out (by have:=HP.out;omega)
     have HB : Hid (addB (T : Int) P = sgnB N):=by
       show addB (T : Int) P = sgnB N
       rw [HN.out]
       unfold addB sgnB
       rw [cp]
       have : canB (T : Int) = true:=J92
       rw [this]
       unfold fitB
       rw [Bool.eq_iff_iff]
       simp
       omega
     have HV : Hid (addV (T : Int) P = sgnV false N):=by
       show addV (T : Int) P = sgnV false N
       unfold addV sgnV
       rw [HB.out,HN.out]
       split
       · rw [if_neg J6];omega
       · rfl
     rw [ed,← HV.out,← HB.out]
     exact round_w4 a n P R T hc d1 d2 cP e5 ht' ga hin J2 z3 q1 q2 q3 q4 w
theorem round_any (a d : Int) (ha : I64 a) (w : World) : Calls Tryz.prog 192 #[.int .i64 a,.int .i64 d] w fun e w'=>e = .returned (.tuple #[.int .i64 (rndV a d),.bool (rndB a d)]) ∧ Ext w w':=by
 cases hc : canB a
 · have HC : Hid (rndB a d = false):=by show rndB a d = false;unfold rndB;rw [hc];rfl
   have HV : Hid (rndV a d = 0):=by show rndV a d = 0;unfold rndV;rw [hc];rfl
   exact K61
 by_cases d1 : 4 ≤ d
 · have HC : Hid (rndB a d = true):=by show rndB a d = true;unfold rndB;rw [hc];simp [d1]
   have HV : Hid (rndV a d = a):=by show rndV a d = a;unfold rndV;rw [hc];simp [d1]
   exact K61
 by_cases d2 : d < -14
 · have HC : Hid (rndB a d = true):=by show rndB a d = true;unfold rndB;rw [hc];simp [d2]
   have HV : Hid (rndV a d = 0):=by show rndV a d = 0;unfold rndV;rw [hc];simp [d1,d2]
   exact K61
 · have hB : rndB a d = sgnB (rnN a d):=by unfold rndB;rw [hc];simp [d1,d2]
   have hV : rndV a d = sgnV (decide (a < 0)) (rnN a d):=by unfold rndV;rw [hc];simp [d1,d2]
   rw [hB,hV]
   exact round_mid a d ha hc d1 d2 w
theorem square_above (n N : Nat) (hn : n < 18446744073709551616) (w : World) :
   Calls Tryz.prog 248 #[.int .u64 n,.int .u64 ((N / 18446744073709551616 : Nat) : Int),.int .u64 ((N % 18446744073709551616 : Nat) : Int)] w fun e w'=>e = .returned (.bool (decide (N < n * n))) ∧ Ext w w':=by
 have c:=fun W=>mul64N n n hn hn W
 obtain ⟨S,hS⟩ : ∃ S,S = n * n:=⟨_,rfl⟩
 rw [← hS] at c ⊢
 have e1 : decide (N < S) = (decide (((N / 18446744073709551616 : Nat) : Int) < ((S / 18446744073709551616 : Nat) : Int)) || (decide (((S / 18446744073709551616 : Nat) : Int) = ((N / 18446744073709551616 : Nat) : Int)) && decide (((N % 18446744073709551616 : Nat) : Int) < ((S % 18446744073709551616 : Nat) : Int)))):=by
   rw [Bool.eq_iff_iff];simp only [Bool.or_eq_true,Bool.and_eq_true,decide_eq_true_eq];omega
 rw [e1]
 clear e1 hS
 generalize ((N / 18446744073709551616 : Nat) : Int) = hi at *
 generalize ((N % 18446744073709551616 : Nat) : Int) = lo at *
 generalize ((S / 18446744073709551616 : Nat) : Int) = h at *
 generalize ((S % 18446744073709551616 : Nat) : Int) = l at *
 go_enter func248,ntmps248
 go_wp2_with fail
 refine (c _).mono ?_
 rintro e w1 ⟨rfl,rfl⟩
 go_wp2
 all_goals
   simp [bodyPost,results,results248,go_sem, *]
   try exact xr
def IsRoot (N r : Nat) : Prop:=r * r ≤ N ∧ N < (r + 1) * (r + 1)
theorem IsRoot.one {N r s : Nat} (h : IsRoot N r) (k : IsRoot N s) : r = s:=by
 obtain ⟨a,b⟩:=h;obtain ⟨c,d⟩:=k
 rcases Nat.lt_trichotomy r s with g | g | g
 · have:=Nat.mul_le_mul (show r + 1 ≤ s from g) (show r + 1 ≤ s from g);omega
 · exact g
 · have:=Nat.mul_le_mul (show s + 1 ≤ r from g) (show s + 1 ≤ r from g);omega
def Rooted (N j r : Nat) : Prop:=r * r ≤ N ∧ N < (r + 2 ^ j) * (r + 2 ^ j) ∧ r % 2 ^ j = 0
theorem Rooted.lt {N j r : Nat} (h : Rooted N j r) (hN : N < 151115727451828646838272) : r < 549755813888:=by
 rcases Nat.lt_or_ge r 549755813888 with g | g
 · exact g
 · have:=Nat.mul_le_mul g g
   have:=h.1
   omega
theorem Rooted.no {N j r : Nat} (h : Rooted N (j + 1) r) (g : N < (r + 2 ^ j) * (r + 2 ^ j)) : Rooted N j r:=by
 refine ⟨h.1,g,?_⟩
 have:=h.2.2
 rw [Nat.pow_succ] at this
 exact Nat.mod_eq_zero_of_dvd (Nat.dvd_of_mod_eq_zero (show r % 2 ^ j = 0 from by
   have d:=Nat.dvd_of_mod_eq_zero this
   exact Nat.mod_eq_zero_of_dvd (Nat.dvd_trans (Nat.dvd_mul_right _ _) d)))
theorem Rooted.yes {N j r : Nat} (h : Rooted N (j + 1) r) (g : (r + 2 ^ j) * (r + 2 ^ j) ≤ N) : Rooted N j (r + 2 ^ j):=by
 refine ⟨g,?_,?_⟩
 · have:=h.2.1
   rw [Nat.pow_succ,Nat.mul_two,← Nat.add_assoc] at this
   exact this
 · have:=h.2.2
   rw [Nat.pow_succ] at this
   have d:=Nat.dvd_of_mod_eq_zero this
   rw [Nat.add_mod_right]
   exact Nat.mod_eq_zero_of_dvd (Nat.dvd_trans (Nat.dvd_mul_right _ _) d)
theorem Rooted.done {N r : Nat} (h : Rooted N 0 r) : IsRoot N r:=by
 obtain ⟨a,b,_⟩:=h
 exact ⟨a,b⟩
theorem or_pow (r j : Nat) (h : r % 2 ^ (j + 1) = 0) (hr : r < 549755813888) (hj : j ≤ 40) : bits .or .u64 (r : Int) ((2 ^ j : Nat) : Int) = ((r + 2 ^ j : Nat) : Int):=by
 have hp : 2 ^ j ≤ 2 ^ 40:=Nat.pow_le_pow_right J6 hj
 rw [bits_or_u64_nat _ _ J2 J2]
 obtain ⟨k,rfl⟩:=Nat.dvd_of_mod_eq_zero h
 rw [← Nat.two_pow_add_eq_or_of_lt (Nat.pow_lt_pow_right J6 (Nat.lt_succ_self j))]
theorem root_no (a : Int) (h : a < 0) (w : World) : Calls Tryz.prog 196 #[.int .i64 a] w fun e w'=>e = .returned (.tuple #[.int .i64 0,.bool false]) ∧ Ext w w':=by
 go_enter func196,ntmps196
 go_wp2
 go_ret2
 exact ⟨rfl,Ext.refl _⟩
theorem root_any (a : Nat) (ha : a ≤ 9223372036854775807) (w : World) : Calls Tryz.prog 196 #[.int .i64 a] w fun e w'=>(∃ r : Nat,e = .returned (.tuple #[.int .i64 r,.bool true]) ∧ IsRoot (a * 10000) r ∧ r < 549755813888) ∧ Ext w w':=by
 have hN : a * 10000 < 151115727451828646838272:=J2
 have ea : IntKind.u64.wrap (a : Int) = a:=J62
 have c:=fun W=>mul64N a 10000 J2 J2 W
 rw [show ((10000 : Nat) : Int) = 10000 from rfl] at c
 generalize hNe : a * 10000 = N at *
 have cs:=fun n hn W=>square_above n N hn W
 obtain ⟨H,hH⟩ : ∃ H,H = ((N / 18446744073709551616 : Nat) : Int):=⟨_,rfl⟩
 obtain ⟨L,hL⟩ : ∃ L,L = ((N % 18446744073709551616 : Nat) : Int):=⟨_,rfl⟩
 rw [← hH,← hL] at c cs
 clear hH hL hNe
 go_enter func196,ntmps196
 go_wp2_with fail
 refine (c _).mono ?_
 rintro e w1 ⟨rfl,rfl⟩
 go_wp2
 go_loopw [6,7] (fun x b wr=>∃ j r : Nat,j ≤ 39 ∧ x = .int .u64 (r : Int) ∧ b = .int .u64 ((2 ^ j / 2 : Nat) : Int) ∧ Rooted N j r ∧ Ext w1 wr) (fun _ b _=>(intOf b).toNat)
 case atStart=>exact ⟨39,0,Nat.le_refl _,rfl,rfl,⟨by omega,by simpa using (by omega : N < 302231454903657293676544),rfl⟩,Ext.refl _⟩
 case round =>
   obtain ⟨j,r,hj,rfl,rfl,hR,hE⟩:=hrel
   have hr:=hR.lt hN
   rcases Nat.eq_zero_or_pos j with rfl | hj0
   · have HR : Hid (IsRoot N r):=hR.done
     clear hR hN
     rw [show (((2 ^ 0 / 2 : Nat)) : Int) = 0 from rfl]
     go_wp2
     go_ret2
     exact ⟨⟨r,rfl,HR.out,hr⟩,hE⟩
   · obtain ⟨i,rfl⟩ : ∃ i,j = i + 1:=⟨j - 1,by omega⟩
     have eb : 2 ^ (i + 1) / 2 = 2 ^ i:=by rw [Nat.pow_succ];omega
     rw [eb]
     have eo:=or_pow r i hR.2.2 hr J2
     have hp : 2 ^ i ≤ 2 ^ 38:=Nat.pow_le_pow_right J6 J2
     have hp0 : 0 < 2 ^ i:=Nat.pow_pos J6
     have cs1:=fun W=>cs (r + 2 ^ i) J2 W
     have HN : Hid (N < (r + 2 ^ i) * (r + 2 ^ i) → Rooted N i r):=fun g=>hR.no g
     have HY : Hid (¬ N < (r + 2 ^ i) * (r + 2 ^ i) → Rooted N i (r + 2 ^ i)):=fun g=>hR.yes J2
     have HI : Hid (i ≤ 39):=by show i ≤ 39;omega
     have HP : Hid (((2 ^ i : Nat) : Int) / 2 = ((2 ^ i / 2 : Nat) : Int)):=by show ((2 ^ i : Nat) : Int) / 2 = _;omega
     generalize hpe : 2 ^ i = p at *
     have HE : Hid (2 ^ i = p):=hpe
     clear hpe eb
     have hpI : (0 : Int) < (p : Int):=J2
     clear hj hj0 hR hN cs
     by_cases hd : N < (r + p) * (r + p)
     · have HR : Hid (Rooted N i r):=HN.out hd
       have ed : decide (N < (r + p) * (r + p)) = true:=by simp [hd]
       rw [ed,Int.natCast_add] at cs1
       clear ed hd HN HY
       go_wp2_with fail
       refine (cs1 _).mono ?_
       rintro e w2 ⟨rfl,E2⟩
       go_wp2
       go_roundw
       case rel=>exact ⟨i,r,HI.out,rfl,by rw [HE.out,← HP.out],HR.out,hE.trans E2⟩
       case measure=>simp [intOf];omega
     · have HR : Hid (Rooted N i (r + p)):=HY.out hd
       have ed : decide (N < (r + p) * (r + p)) = false:=by simp [hd]
       rw [ed,Int.natCast_add] at cs1
       clear ed hd HN HY
       go_wp2_with fail
       refine (cs1 _).mono ?_
       rintro e w2 ⟨rfl,E2⟩
       go_wp2
       go_roundw
       case rel=>exact ⟨i,r + p,HI.out,rfl,by rw [HE.out,← HP.out],HR.out,hE.trans E2⟩
       case measure=>simp [intOf];omega
def Stands (w : World) (b : Nat) (N : Nat) (wr : World) : Prop:=(Ext w wr ∧ Pair wr b N) ∧ wr.cell? ⟨b,0,none⟩ = some (.int .u64 (uhi N)) ∧ wr.cell? ⟨b,1,none⟩ = some (.int .u64 (loOf N))
theorem Stands.mk' {w wr : World} {b N : Nat} (h : Ext w wr) (p : Pair wr b N) : Stands w b N wr:=⟨⟨h,p⟩,p.2.1,p.2.2.1⟩
theorem Stands.ext {w wr w' : World} {b N : Nat} (h : Stands w b N wr) (e : Ext wr w') : Stands w b N w':=Stands.mk' (h.1.1.trans e) (h.1.2.ext e)
structure Bg where
 g : Ag
 rows : Int
 cols : Int
def sgl (b : Bg) : V:=if b.g.area then .err 2 else one1 b.g.l
def sg (l : List Bg) (i : Nat) : V:=match l[i]? with
 | some b=>sgl b
 | none=>.err 2
def V.rw (v : V) : Rw:=⟨v.k,v.n,v.s,v.e⟩
abbrev R (α : Type):=Except Int α
def nuR (v : V) : R Int:=match v.toNum with
 | .err e=>.error e
 | u=>.ok u.n
def teR (v : V) : R ByteArray:=match v.toText with
 | .err e=>.error e
 | u=>.ok u.s
def trR (v : V) : R Bool:=match v.toBool with
 | .err e=>.error e
 | u=>.ok (u.n != 0)
def whN (n : Int) : Int:=n / 10000
def whR (v : V) : R Int:=(nuR v).map whN
def whO (l : List Bg) (i : Nat) : R Int:=if l.length ≤ i then .ok 1 else whR (sg l i)
def tolR (b : Bool) (n : Int) : R V:=if b then .ok (mkNum n) else .error 4
def rtN : Nat → Nat
 | 0=>0
 | n + 1=>if (rtN n + 1) * (rtN n + 1) ≤ n + 1 then rtN n + 1 else rtN n
theorem rt_is (n : Nat) : IsRoot n (rtN n):=by
 induction n with
 | zero=>exact ⟨by decide,by decide⟩
 | succ n ih =>
   obtain ⟨h1,h2⟩:=ih
   unfold rtN
   split
   · rename_i h
     refine ⟨h,?_⟩
     have : (rtN n + 1) * (rtN n + 1) = n + 1:=J2
     have e : (rtN n + 1 + 1) * (rtN n + 1 + 1) = (rtN n + 1) * (rtN n + 1) + 2 * (rtN n + 1) + 1:=by
       generalize rtN n + 1 = x
       rw [Nat.add_mul,Nat.mul_add];omega
     omega
   · rename_i h
     exact K130
def rootB (a : Int) : Bool:=decide (0 ≤ a)
def rootV (a : Int) : Int:=if 0 ≤ a then (rtN (a.toNat * 10000) : Int) else 0
def szN (n : Int) : Int:=if n < 0 then -n else n
def gsOf (l : List Bg) : List Ag:=l.map Bg.g
def xIf (l : List Bg) : R Rw:=match trR (sg l 0) with
 | .error e=>.error e
 | .ok t=>if t then .ok (sg l 1).rw else if l.length < 3 then .ok (V.tf false).rw else .ok (sg l 2).rw
def xNot (l : List Bg) : R Rw:=match trR (sg l 0) with
 | .error e=>.error e
 | .ok t=>.ok (V.tf (!t)).rw
def xAbs (l : List Bg) : R Rw:=match nuR (sg l 0) with
 | .error e=>.error e
 | .ok n=>.ok (mkNum (szN n)).rw
def xRound (l : List Bg) : R Rw:=match nuR (sg l 0) with
 | .error e=>.error e
 | .ok a=>match whR (sg l 1) with
   | .error e=>.error e
   | .ok d=>(tolR (rndB a d) (rndV a d)).map V.rw
def xMod (l : List Bg) : R Rw:=match nuR (sg l 0) with
 | .error e=>.error e
 | .ok a=>match nuR (sg l 1) with
   | .error e=>.error e
   | .ok b=>if b = 0 then .error 3 else (tolR (modB a b) (modV a b)).map V.rw
def xFloor (l : List Bg) : R Rw:=match nuR (sg l 0) with
 | .error e=>.error e
 | .ok a=>(tolR (floorB a) (floorV a)).map V.rw
def xSqrt (l : List Bg) : R Rw:=match nuR (sg l 0) with
 | .error e=>.error e
 | .ok a=>(tolR (rootB a) (rootV a)).map V.rw
def xLen (l : List Bg) : R Rw:=match teR (sg l 0) with
 | .error e=>.error e
 | .ok s=>.ok (mkNum ((s.size : Int) * 10000)).rw
def begB (s : ByteArray) (c : Int) : ByteArray:=s.extract 0 (min c (s.size : Int)).toNat
def xLeft (l : List Bg) : R Rw:=match teR (sg l 0) with
 | .error e=>.error e
 | .ok s=>match whO l 1 with
   | .error e=>.error e
   | .ok c=>if c < 0 then .error 2 else .ok (mkText (begB s c)).rw
def arOf (b : Bg) : Bg:=if b.g.area then b else ⟨⟨true,[(sgl b).rw]⟩,1,1⟩
def pkR (b : Bg) (row col : Int) : R Rw :=
 if row < 1 ∨ row > b.rows ∨ col < 1 ∨ col > b.cols ∨ col > (b.g.l.length : Int) then .error 1
 else if row - 1 > ((b.g.l.length : Int) - col) / b.cols then .error 1
 else match b.g.l[((row - 1) * b.cols + col - 1).toNat]? with
   | some r=>.ok r
   | none=>.error 1
def xIndex (l : List Bg) : R Rw:=match whR (sg l 1) with
 | .error e=>.error e
 | .ok row=>match whO l 2 with
   | .error e=>.error e
   | .ok col=>match l[0]? with
     | some b=>pkR (arOf b) row col
     | none=>.error 2
def xIsErr (l : List Bg) : R Rw:=.ok (V.tf ((sg l 0).k == 4)).rw
def xIfErr (l : List Bg) : R Rw:=if (sg l 0).k = 4 then .ok (sg l 1).rw else .ok (sg l 0).rw
def xCall (s : List UInt8) (l : List Bg) : R Rw :=
 if s = [83,85,77] then .ok (fSum (gsOf l)).rw
 else if s = [67,79,85,78,84] then .ok (fCount (gsOf l)).rw
 else if s = [77,73,78] then .ok (fBest ltB (gsOf l)).rw
 else if s = [77,65,88] then .ok (fBest gtB (gsOf l)).rw
 else if s = [65,86,69,82,65,71,69] then .ok (fMean (gsOf l)).rw
 else if s = [65,78,68] then .ok (fAnd (gsOf l)).rw
 else if s = [79,82] then .ok (fOr (gsOf l)).rw
 else if s = [67,79,78,67,65,84] then .ok (fCat (gsOf l)).rw
 else if s = [73,70] then xIf l
 else if s = [78,79,84] then xNot l
 else if s = [65,66,83] then xAbs l
 else if s = [82,79,85,78,68] then xRound l
 else if s = [77,79,68] then xMod l
 else if s = [70,76,79,79,82] then xFloor l
 else if s = [83,81,82,84] then xSqrt l
 else if s = [76,69,78] then xLen l
 else if s = [76,69,70,84] then xLeft l
 else if s = [73,78,68,69,88] then xIndex l
 else if s = [73,83,69,82,82,79,82] then xIsErr l
 else if s = [73,70,69,82,82,79,82] then xIfErr l
 else .error 2
def ansV : R Rw → V
 | .ok r=>r.v
 | .error e=>mkErr e
def okN (s : List UInt8) (n : Nat) : Bool:=(kno s).isSome && decide (knA s ≤ n) && decide ((n : Int) ≤ knB s)
def fnV (s : List UInt8) (l : List Bg) : V:=if okN s l.length then ansV (xCall s l) else .err 2
def canR (p q u v : Int) : Bool:=inB p q && inB u v && decide (p ≤ u) && decide (q ≤ v)
def areaR (p q u v : Int) : Int:=if canR p q u v then (u - p + 1) * (v - q + 1) else 0
def mnI (a b : Int) : Int:=if a < b then a else b
def mxI (a b : Int) : Int:=if b < a then a else b
def rectD (p q u v : Int) : Value:=.agg #[.int .i64 p,.int .i64 q,.int .i64 u,.int .i64 v]
theorem can_bd {p q u v : Int} (h : canR p q u v = true) : 1 ≤ p ∧ p ≤ u ∧ u ≤ 1000 ∧ 1 ≤ q ∧ q ≤ v ∧ v ≤ 52:=by
 unfold canR inB at h;simp at h;omega
theorem area_bd (p q u v : Int) : 0 ≤ areaR p q u v ∧ areaR p q u v ≤ 52000 ∧ (areaR p q u v = 0 ↔ canR p q u v = false):=by
 unfold areaR
 cases h : canR p q u v
 · simp
 · obtain ⟨h1,h2,h3,h4,h5,h6⟩:=can_bd h
   rw [if_pos rfl]
   have a1 : 1 ≤ u - p + 1:=J2
   have a2 : u - p + 1 ≤ 1000:=J2
   have b1 : 1 ≤ v - q + 1:=J2
   have b2 : v - q + 1 ≤ 52:=J2
   generalize u - p + 1 = m at *
   generalize v - q + 1 = n at *
   have l1 : 1 * 1 ≤ m * n:=Int.mul_le_mul a1 b1 J2 J2
   have l2 : m * n ≤ 1000 * 52:=Int.mul_le_mul a2 b2 J2 J2
   refine ⟨by omega,by omega,?_⟩
   constructor
   · intro e;omega
   · intro e;cases e
theorem area_any (p q u v : Int) (w : World) : Calls Tryz.prog 139 #[.agg #[.int .i64 p,.int .i64 q,.int .i64 u,.int .i64 v]] w fun e w'=>e = .returned (.int .i64 (areaR p q u v)) ∧ Ext w w':=by
 have c1:=fun W=>in_any p q W
 have c2:=fun W=>in_any u v W
 have HR : Hid (canR p q u v = (inB p q && inB u v && decide (p ≤ u) && decide (q ≤ v))):=rfl
 have HN : Hid (canR p q u v = false → areaR p q u v = 0):=fun h=>(area_bd p q u v).2.2.2 h
 have HY : Hid (canR p q u v = true → areaR p q u v = (u - p + 1) * (v - q + 1)):=fun h=>by unfold areaR;rw [h];rfl
 cases g1 : inB p q
 · rw [g1] at c1 HR
   go_enter func139,ntmps139
   go_wp2_with fail
   refine (c1 _).mono ?_
   rintro e w1 ⟨rfl,rfl⟩
   go_wp2_with fail
   go_ret
   exact ⟨ret_int J52,xr.alloc _⟩
 cases g2 : inB u v
 · rw [g1] at c1 HR
   rw [g2] at c2 HR
   exact K87
 rw [g1] at c1 HR
 rw [g2] at c2 HR
 cases h1 : decide (p ≤ u) <;> cases h2 : decide (q ≤ v)
 all_goals rw [h1,h2] at HR
 case true.true =>
   have hc : canR p q u v = true:=HR.out
   obtain ⟨b1,b2,b3,b4,b5,b6⟩:=can_bd hc
   have HA : Hid (areaR p q u v = (u - p + 1) * (v - q + 1)):=HY.out hc
   have hb:=area_bd p q u v
   rw [HA.out] at hb
   obtain ⟨a1,a2,_⟩:=hb
   clear HR HN HY hc h1 h2 g1 g2
   go_enter func139,ntmps139
   go_wp2_with fail
   refine (c1 _).mono ?_
   rintro e w1 ⟨rfl,rfl⟩
   go_wp2_with fail
   refine (c2 _).mono ?_
   rintro e w1 ⟨rfl,rfl⟩
   go_wp2_with fail
   go_ret
   exact ⟨ret_int HA.out.symm,xr.alloc _⟩
 all_goals
   have h3:=h1
   have h4:=h2
   simp only [decide_eq_true_eq,decide_eq_false_iff_not] at h3 h4
   exact K87
def Three (w : World) (x0 x1 x2 x3 y0 y1 y2 y3 : Value) (W : World) : Prop:=Ext w W ∧ Blk W w.heap.size x0 x1 x2 x3 ∧ Blk W (w.heap.size + 1) y0 y1 y2 y3 ∧ ∃ z0 z1 z2 z3,Blk W (w.heap.size + 1 + 1) z0 z1 z2 z3
theorem Three.ext {w W W' : World} {x0 x1 x2 x3 y0 y1 y2 y3 : Value} (h : Three w x0 x1 x2 x3 y0 y1 y2 y3 W) (e : Ext W W') : Three w x0 x1 x2 x3 y0 y1 y2 y3 W':=by
 obtain ⟨a,b,c,z0,z1,z2,z3,d⟩:=h
 exact ⟨a.trans e,b.ext e,c.ext e,z0,z1,z2,z3,d.ext e⟩
theorem Three.drew {w W : World} {x0 x1 x2 x3 y0 y1 y2 y3 : Value} (h : Three w x0 x1 x2 x3 y0 y1 y2 y3 W) : Three w x0 x1 x2 x3 y0 y1 y2 y3 W.drew:=h.ext (Ext.drew xr)
theorem Three.drewN {w W : World} {x0 x1 x2 x3 y0 y1 y2 y3 : Value} (h : Three w x0 x1 x2 x3 y0 y1 y2 y3 W) (n : Nat) : Three w x0 x1 x2 x3 y0 y1 y2 y3 (W.drewN n):=h.ext (Ext.drewN xr n)
theorem Three.put {w W : World} {x0 x1 x2 x3 y0 y1 y2 y3 : Value} (h : Three w x0 x1 x2 x3 y0 y1 y2 y3 W) (v0 v1 v2 v3 : Value) : Three w x0 x1 x2 x3 y0 y1 y2 y3 ((((W.setCell ⟨w.heap.size + 1 + 1,0,none⟩ v0).setCell ⟨w.heap.size + 1 + 1,1,none⟩ v1).setCell ⟨w.heap.size + 1 + 1,2,none⟩ v2).setCell ⟨w.heap.size + 1 + 1,3,none⟩ v3):=by
 obtain ⟨a,b,c,z0,z1,z2,z3,d⟩:=h
 exact ⟨(((a.setCell J8 _).setCell J8 _).setCell J8 _).setCell J8 _,b.far J2 _ _ _ _,c.far J2 _ _ _ _,_,_,_,_,d.set _ _ _ _⟩
def rcB (a0 a1 b0 b1 : Int) : Bool:=inB a0 a1 && inB b0 b1
def rcD (a0 a1 b0 b1 : Int) : Value:=if rcB a0 a1 b0 b1 then rectD (mnI a0 b0) (mnI a1 b1) (mxI a0 b0) (mxI a1 b1) else rectD 0 0 0 0
theorem mn_eq (a b : Int) : min a b = mnI a b:=by unfold mnI;rw [Int.min_def];split <;> split <;> omega
theorem mx_eq (a b : Int) : max a b = mxI a b:=by unfold mxI;rw [Int.max_def];split <;> split <;> omega
theorem three {w : World} {x0 x1 x2 x3 y0 y1 y2 y3 z0 z1 z2 z3 : Value} {S T U : TypeId} {W : World} (h : W = ((w.alloc (.cells #[x0,x1,x2,x3] S)).alloc (.cells #[y0,y1,y2,y3] T)).alloc (.cells #[z0,z1,z2,z3] U)) :
   Ext w W ∧ Blk W w.heap.size x0 x1 x2 x3 ∧ Blk W (w.heap.size + 1) y0 y1 y2 y3 ∧ Blk W (w.heap.size + 1 + 1) z0 z1 z2 z3:=by
 subst h
 exact ⟨((xr.alloc _).alloc _).alloc _,((blk_top rfl xr).al _).al _,(blk_top J60 xr).al _,blk_top J60 xr⟩
theorem rect_any (a0 a1 b0 b1 : Int) (ax ay bx by_ : Bool) (w : World) : Calls Tryz.prog 138 #[.agg #[.int .i64 a0,.int .i64 a1,.bool ax,.bool ay],.agg #[.int .i64 b0,.int .i64 b1,.bool bx,.bool by_]] w fun e w'=>e = .returned (rcD a0 a1 b0 b1) ∧ Ext w w':=by
 have c1:=fun W=>in_any a0 a1 W
 have c2:=fun W=>in_any b0 b1 W
 have HD : Hid (rcD a0 a1 b0 b1 = if inB a0 a1 && inB b0 b1 then rectD (mnI a0 b0) (mnI a1 b1) (mxI a0 b0) (mxI a1 b1) else rectD 0 0 0 0):=rfl
 obtain ⟨W0,hW0⟩ : ∃ W0,W0 = ((w.alloc (.cells #[.int .i64 a0,.int .i64 a1,.bool ax,.bool ay] 40)).alloc (.cells #[.int .i64 b0,.int .i64 b1,.bool bx,.bool by_] 40)).alloc (.cells #[.int .i64 0,.int .i64 0,.int .i64 0,.int .i64 0] 54):=⟨_,rfl⟩
 obtain ⟨X0,BA,BB,BZ⟩:=three hW0
 have HBZ : Hid (Blk W0 (w.heap.size + 1 + 1) (.int .i64 0) (.int .i64 0) (.int .i64 0) (.int .i64 0)):=BZ
 obtain ⟨_,⟨k0,k1,k2,k3⟩,_⟩:=BA
 obtain ⟨_,⟨m0,m1,m2,m3⟩,_⟩:=BB
 obtain ⟨_,⟨n0,n1,n2,n3⟩,f0,f1,f2,f3⟩:=BZ
 cases g1 : inB a0 a1
 · rw [g1] at c1 HD
   go_enter func138,ntmps138
   go_wp2_with fail
   rw [← hW0]
   clear hW0
   refine (c1 _).mono ?_
   rintro e w1 ⟨rfl,rfl⟩
   exact K152
 cases g2 : inB b0 b1
 · rw [g1] at c1 HD
   rw [g2] at c2 HD
   go_enter func138,ntmps138
   go_wp2_with fail
   rw [← hW0]
   clear hW0
   refine (c1 _).mono ?_
   rintro e w1 ⟨rfl,rfl⟩
   go_wp2_with fail
   refine (c2 _).mono ?_
   rintro e w2 ⟨rfl,rfl⟩
   exact K152
 rw [g1] at c1 HD
 rw [g2] at c2 HD
 have HD2 : Hid (rcD a0 a1 b0 b1 = rectD (mnI a0 b0) (mnI a1 b1) (mxI a0 b0) (mxI a1 b1)):=HD.out
 clear HD
 go_enter func138,ntmps138
 go_wp2_with fail
 rw [← hW0]
 clear hW0
 refine (c1 _).mono ?_
 rintro e w1 ⟨rfl,rfl⟩
 go_wp2_with fail
 refine (c2 _).mono ?_
 rintro e w2 ⟨rfl,rfl⟩
 go_wp2_with fail
 exact fin4 n0 n1 n2 n3 rfl J2 X0 J37 (fun W h=>⟨by rw [HD2.out,mn_eq,mn_eq,mx_eq,mx_eq];rfl,h⟩)
abbrev Bov:=Int → Int → V
def bz : Bov:=fun _ _=>.blank
def bput (M : Bov) (r c : Int) (v : V) : Bov:=fun r' c'=>if r' = r ∧ c' = c then v else M r' c'
def bset (M : Bov) (r c : Int) (v : V) : Bov:=if inB r c then bput M r c v else M
structure BdOk (M : Bov) : Prop where
 v : ∀ r c,(M r c).ok
 i : ∀ r c,inB r c = false → M r c = .blank
theorem bz_ok : BdOk bz:=⟨fun _ _=>trivial,fun _ _ _=>rfl⟩
theorem bset_ok {M : Bov} (h : BdOk M) (r c : Int) (v : V) (hv : v.ok) : BdOk (bset M r c v):=by
 unfold bset
 split
 · rename_i hi
   refine ⟨fun r' c'=>?_,fun r' c' h'=>?_⟩
   · unfold bput;split
     · exact hv
     · exact h.v _ _
   · unfold bput;split
     · rename_i he
       rw [he.1,he.2] at h'
       rw [hi] at h'
       cases h'
     · exact h.i _ _ h'
 · exact h
def rowA (M : Bov) (r c : Int) : Nat → List Rw
 | 0=>[]
 | n + 1=>(M r c).rw :: rowA M r (c + 1) n
def areA (M : Bov) (r c : Int) (cols : Nat) : Nat → List Rw
 | 0=>[]
 | n + 1=>rowA M r c cols ++ areA M (r + 1) c cols n
def argA (M : Bov) (p q u v : Int) : Bg:=⟨⟨true,areA M p q (v - q + 1).toNat (u - p + 1).toNat⟩,u - p + 1,v - q + 1⟩
def argR (M : Bov) (r q : Rf) : Bg:=argA M (mnI r.1 q.1) (mnI r.2.1 q.2.1) (mxI r.1 q.1) (mxI r.2.1 q.2.1)
theorem rowA_len (M : Bov) (r : Int) (n : Nat) : ∀ c,(rowA M r c n).length = n:=by
 induction n with
 | zero=>intro c;rfl
 | succ n ih=>intro c;show (rowA M r (c + 1) n).length + 1 = n + 1;rw [ih]
theorem areA_len (M : Bov) (c : Int) (cols n : Nat) : ∀ r,(areA M r c cols n).length = n * cols:=by
 induction n with
 | zero=>intro r;simp [areA]
 | succ n ih=>intro r;show (rowA M r c cols ++ areA M (r + 1) c cols n).length = _;rw [List.length_append,rowA_len,ih,Nat.succ_mul];omega
theorem rowA_snoc (M : Bov) (r : Int) (n : Nat) : ∀ c,rowA M r c (n + 1) = rowA M r c n ++ [(M r (c + n)).rw]:=by
 induction n with
 | zero=>intro c;simp [rowA]
 | succ n ih =>
   intro c
   show (M r c).rw :: rowA M r (c + 1) (n + 1) = ((M r c).rw :: rowA M r (c + 1) n) ++ _
   rw [ih]
   have : c + 1 + (n : Int) = c + ((n + 1 : Nat) : Int):=J2
   rw [this];rfl
theorem areA_snoc (M : Bov) (c : Int) (cols n : Nat) : ∀ r,areA M r c cols (n + 1) = areA M r c cols n ++ rowA M (r + n) c cols:=by
 induction n with
 | zero=>intro r;simp [areA]
 | succ n ih =>
   intro r
   show rowA M r c cols ++ areA M (r + 1) c cols (n + 1) = (rowA M r c cols ++ areA M (r + 1) c cols n) ++ _
   rw [ih,List.append_assoc]
   have : r + 1 + (n : Int) = r + ((n + 1 : Nat) : Int):=J2
   rw [this]
theorem rowA_mem (M : Bov) (r : Int) (n : Nat) : ∀ c x,x ∈ rowA M r c n → ∃ c',x = (M r c').rw:=by
 induction n with
 | zero=>intro c x h;cases h
 | succ n ih =>
   intro c x h
   rcases List.mem_cons.1 h with h | h
   · exact ⟨c,h⟩
   · exact ih _ _ h
theorem areA_mem (M : Bov) (c : Int) (cols n : Nat) : ∀ r x,x ∈ areA M r c cols n → ∃ r' c',x = (M r' c').rw:=by
 induction n with
 | zero=>intro r x h;cases h
 | succ n ih =>
   intro r x h
   rcases List.mem_append.1 h with h | h
   · obtain ⟨c',h⟩:=rowA_mem _ _ _ _ _ h
     exact ⟨r,c',h⟩
   · exact ih _ _ h
def cmB (s : List UInt8) (n : Int) : Bool :=
 if s = [61] then n == 0 else if s = [60,62] then n != 0 else if s = [60] then decide (n < 0) else if s = [60,61] then decide (n ≤ 0) else if s = [62] then decide (n > 0) else decide (n ≥ 0)
def cmpS (s : List UInt8) (a b : V) : V:=if (cmpE a b).k = 4 then cmpE a b else .tf (cmB s (cmpV a b))
def fourB (s : List UInt8) : Bool:=s == [43] || s == [45] || s == [42] || s == [47]
def binV (s : List UInt8) (a b : V) : V:=if fourB s then arith ((s.headD 0).toNat : Int) a b else if s == [38] then join a b else cmpS s a b
def argV (v : V) : Bg:=⟨⟨false,[v.rw]⟩,0,0⟩
def evT : Nat → Bov → T → V
 | 0,_,_=>.blank
 | n + 1,M,t=>if t.k = 0 then mkNum t.n else if t.k = 1 then mkText (bs t.s) else if t.k = 2 then .tf (t.n == 1) else if t.k = 3 then mkErr t.e else if t.k = 4 then M t.r.1 t.r.2.1 else
   if t.k = 6 then (match t.l with | x :: _=>(evT n M x).neg | []=>.blank) else
   if t.k = 7 then (match t.l with | x :: y :: _=>binV t.s (evT n M x) (evT n M y) | _=>.blank) else
   fnV t.s (t.l.map (fun x=>if x.k = 5 then argR M x.r x.q else argV (evT n M x)))
def argX (n : Nat) (M : Bov) (x : T) : Bg:=if x.k = 5 then argR M x.r x.q else argV (evT n M x)
def expV (n : Nat) (M : Bov) (t : T) : V:=if wellT n t then evT n M t else .err 2
end Go.Proofs.YtcfgbiaahangmaaGreatDoor
