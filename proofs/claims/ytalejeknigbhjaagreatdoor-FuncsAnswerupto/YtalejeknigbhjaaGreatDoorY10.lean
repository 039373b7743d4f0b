/-
 Contracts of whole parts, powers of ten and rounding: the program's Floor, power, Round, and the document's Floor, Power.
 The contract of the program's Round: the multiple of a power of ten that is nearest.
 Contracts of package real's root, and of the document's: the greatest number whose square is not above a.
 How many arguments a function takes, by its name. No program in sight.
-/
import Derived.Test.YtalejeknigbhjaaGreatDoorY2
import Derived.Test.YtalejeknigbhjaaGreatDoorY9
import Derived.Test.YtalejeknigbhjaaGreatDoorY6
import Derived.Test.YtalejeknigbhjaaGreatDoorY1
namespace Go.Proofs.YtalejeknigbhjaaGreatDoor
open Go.RowKit
set_option maxHeartbeats 1000000

theorem ten_le {k : Nat} (h : k < 18) : 10 ^ k ≤ 100000000000000000 := Nat.pow_le_pow_right (n := 10) (by omega) (show k ≤ 17 by omega)
theorem ten_le' {k : Nat} (h : k ≤ 18) : 10 ^ k ≤ 1000000000000000000 := Nat.pow_le_pow_right (n := 10) (by omega) h
theorem ten_pos (k : Nat) : 0 < 10 ^ k := Nat.pow_pos (by omega)

theorem power_any (n : Nat) (hn : n ≤ 18) (w : World) : Calls Tryz.prog 113 #[.int .i64 n] w fun e w' => e = .returned (.int .i64 ((10 ^ n : Nat) : Int)) ∧ w' = w := by
 go_enter Tryz.func113, Tryz.ntmps113
 go_wp2
 go_loop [3, 5] (fun p i => ∃ k : Nat, k ≤ n ∧ i = .int .i64 k ∧ p = .int .i64 ((10 ^ k : Nat) : Int)) (fun _ i => n - (intOf i).toNat)
 case atStart => exact ⟨0, Nat.zero_le _, rfl, rfl⟩
 case round =>
   obtain ⟨k, hk, rfl, rfl⟩ := hrel
   by_cases hlt : k < n
   · have hb := ten_le (k := k) (by omega)
     have HS : Hid (10 ^ (k + 1) = 10 ^ k * 10) := Nat.pow_succ 10 k
     obtain ⟨P, hP⟩ : ∃ P, P = 10 ^ k := ⟨_, rfl⟩
     rw [← hP] at hb ⊢
     have HP : Hid (P = 10 ^ k) := hP
     clear hP
     have i1 : (P : Int) ≤ 100000000000000000 := by omega
     clear hb
     go_wp2
     go_round
     case rel => exact ⟨k + 1, by omega, by go_num, congrArg (Value.int .i64) (by rw [HS.out, ← HP.out]; omega)⟩
     case measure => simp [intOf]; omega
   · go_wp2
     go_ret
     have : k = n := by omega
     subst this
     exact ⟨rfl, rfl⟩
theorem rpower_any (n : Nat) (hn : n ≤ 18) (w : World) : Calls Tryz.prog 93 #[.int .i64 n] w fun e w' => e = .returned (.int .u64 ((10 ^ n : Nat) : Int)) ∧ w' = w := by
 go_enter Tryz.func93, Tryz.ntmps93
 go_wp2
 go_loop [3, 4] (fun p i => ∃ k : Nat, k ≤ n ∧ i = .int .i64 k ∧ p = .int .u64 ((10 ^ k : Nat) : Int)) (fun _ i => n - (intOf i).toNat)
 case atStart => exact ⟨0, Nat.zero_le _, rfl, rfl⟩
 case round =>
   obtain ⟨k, hk, rfl, rfl⟩ := hrel
   by_cases hlt : k < n
   · have hb := ten_le (k := k) (by omega)
     have HS : Hid (10 ^ (k + 1) = 10 ^ k * 10) := Nat.pow_succ 10 k
     obtain ⟨P, hP⟩ : ∃ P, P = 10 ^ k := ⟨_, rfl⟩
     rw [← hP] at hb ⊢
     have HP : Hid (P = 10 ^ k) := hP
     clear hP
     have i1 : (P : Int) ≤ 100000000000000000 := by omega
     clear hb
     go_wp2
     go_round
     case rel => exact ⟨k + 1, by omega, by go_num, congrArg (Value.int .u64) (by rw [HS.out, ← HP.out]; omega)⟩
     case measure => simp [intOf]; omega
   · go_wp2
     go_ret
     have : k = n := by omega
     subst this
     exact ⟨rfl, rfl⟩

/-- The greatest whole one that is not above a. -/
def floorB (a : Int) : Bool := canB a && subB a (a % 10000)
def floorV (a : Int) : Int := if canB a then subV a (a % 10000) else 0
theorem mod1_bd (a : Int) : I64 (a % 10000) := ⟨by omega, by omega⟩
theorem modB_one (a : Int) : modB a 10000 = canB a := by
 unfold modB
 have : canB 10000 = true := by decide
 rw [this]
 simp
theorem modV_one (a : Int) (h : canB a = true) : modV a 10000 = a % 10000 := by
 unfold modV fm
 rw [modB_one, h]
 rfl
theorem floor_any (a : Int) (ha : I64 a) (w : World) : Calls Tryz.prog 74 #[.int .i64 a] w fun e w' => e = .returned (.tuple #[.int .i64 (floorV a), .bool (floorB a)]) ∧ Ext w w' := by
 have c1 := fun W => mod_any a 10000 ha ⟨by omega, by omega⟩ W
 have c2 := fun W => sub_any a (a % 10000) ha (mod1_bd a) W
 rw [modB_one] at c1
 cases hc : canB a
 · have HC : Hid (floorB a = false) := by show floorB a = false; unfold floorB; rw [hc]; rfl
   have HV : Hid (floorV a = 0) := by show floorV a = 0; unfold floorV; rw [hc]; rfl
   rw [hc] at c1
   generalize modV a 10000 = m at *
   go_enter Tryz.func74, Tryz.ntmps74
   go_wp2_with fail
   refine (c1 _).mono ?_
   rintro e w1 ⟨rfl, E1⟩
   go_wp2
   go_ret2
   exact ⟨ret_ib HV.out.symm HC.out.symm, E1⟩
 · have HC : Hid (floorB a = subB a (a % 10000)) := by show floorB a = _; unfold floorB; rw [hc]; rfl
   have HV : Hid (floorV a = subV a (a % 10000)) := by show floorV a = _; unfold floorV; rw [hc]; rfl
   rw [hc, modV_one a hc] at c1
   generalize a % 10000 = m at *
   go_enter Tryz.func74, Tryz.ntmps74
   go_wp2_with fail
   refine (c1 _).mono ?_
   rintro e w1 ⟨rfl, E1⟩
   go_wp2_with fail
   refine (c2 _).mono ?_
   rintro e w2 ⟨rfl, E2⟩
   go_wp2
   go_ret2
   exact ⟨ret_ib HV.out.symm HC.out.symm, E1.trans E2⟩
theorem rfloor_any (a : Int) (ha : I64 a) (w : World) : Calls Tryz.prog 52 #[.int .i64 a] w fun e w' => e = .returned (.tuple #[.int .i64 (floorV a), .bool (floorB a)]) ∧ Ext w w' := by
 cases hc : canB a
 · have HC : Hid (floorB a = false) := by show floorB a = false; unfold floorB; rw [hc]; rfl
   have HV : Hid (floorV a = 0) := by show floorV a = 0; unfold floorV; rw [hc]; rfl
   go_enter Tryz.func52, Tryz.ntmps52
   go_wp2_with (go_at_call 31; refine (rcan_any _ _).mono ?_; rintro e w' ⟨rfl, rfl⟩)
   go_ret2
   exact ⟨ret_ib HV.out.symm HC.out.symm, Ext.refl _⟩
 · have HC : Hid (floorB a = subB a (a % 10000)) := by show floorB a = _; unfold floorB; rw [hc]; rfl
   have HV : Hid (floorV a = subV a (a % 10000)) := by show floorV a = _; unfold floorV; rw [hc]; rfl
   have c1 := fun W => rest_go a 10000 ha ⟨by omega, by omega⟩ (by omega) W
   have c2 := fun W => rsub_any a (a % 10000) ha (mod1_bd a) W
   have b1 : 0 ≤ a % 10000 := by omega
   have b2 : a % 10000 < 10000 := by omega
   generalize a % 10000 = m at *
   go_enter Tryz.func52, Tryz.ntmps52
   go_wp2_with (go_at_call 31; refine (rcan_any _ _).mono ?_; rintro e w' ⟨rfl, rfl⟩)
   refine (c1 _).mono ?_
   rintro e w1 ⟨rfl, rfl⟩
   go_wp2_with fail
   refine (c2 _).mono ?_
   rintro e w2 ⟨rfl, E2⟩
   go_wp2
   go_ret2
   exact ⟨ret_ib HV.out.symm HC.out.symm, E2⟩

open Go.RowKit
set_option maxHeartbeats 1000000

/-- The power of ten that Round goes by. -/
def rndP (d : Int) : Nat := 10 ^ (4 - d).toNat
def rnN (a d : Int) : Nat := nearQ a.natAbs (rndP d) * rndP d
def rndB (a d : Int) : Bool := canB a && (decide (4 ≤ d) || (decide (d < -14) || sgnB (rnN a d)))
def rndV (a d : Int) : Int := if canB a then (if 4 ≤ d then a else if d < -14 then 0 else sgnV (decide (a < 0)) (rnN a d)) else 0

theorem near_mul (A P : Nat) : (P ≤ 2 * (A % P) → nearQ A P * P = A / P * P + P) ∧ (¬ P ≤ 2 * (A % P) → nearQ A P * P = A / P * P) := by
 unfold nearQ
 constructor
 · intro h; rw [if_pos h, Nat.add_mul, Nat.one_mul]
 · intro h; rw [if_neg h, Nat.add_zero]
theorem ten_even (n : Nat) (h : 1 ≤ n) : 10 ^ n / 2 * 2 = 10 ^ n := by
 obtain ⟨k, rfl⟩ : ∃ k, n = k + 1 := ⟨n - 1, by omega⟩
 rw [Nat.pow_succ]
 omega
theorem tmod_abs (a : Int) (P : Nat) : a.tmod P = if a < 0 then -((a.natAbs % P : Nat) : Int) else ((a.natAbs % P : Nat) : Int) := by
 split
 · rw [tmod_neg' a P (by omega)]
   have : -a = (a.natAbs : Int) := by omega
   rw [this, Int.natCast_emod]
 · rw [tmod_pos a P (by omega)]
   have : a = (a.natAbs : Int) := by omega
   rw [Int.natCast_emod, ← this]

theorem round_w4 (a : Int) (n P R T : Nat) (hc : canB a = true) (d1 : ¬ (4 : Int) ≤ 4 - (n : Int)) (d2 : ¬ (4 : Int) - (n : Int) < -14)
   (cP : ∀ W, Calls Tryz.prog 113 #[.int .i64 n] W fun e w' => e = .returned (.int .i64 P) ∧ w' = W)
   (e5 : (4 : Int) - (4 - (n : Int)) = n) (ht : a.tmod (P : Int) = R) (ga : ¬ a < 0) (hin : a - (R : Int) = T) (gr : (P : Int) / 2 ≤ R) (_z3 : ¬ (P : Int) = 0)
   (q1 : (10 : Int) ≤ P) (q2 : (P : Int) ≤ 1000000000000000000) (_q3 : (R : Int) < P) (q4 : (T : Int) + R ≤ 9223372036854775807) (w : World) :
   Calls Tryz.prog 71 #[.int .i64 a, .int .i64 (4 - (n : Int))] w fun e w' => e = .returned (.tuple #[.int .i64 (addV T P), .bool (addB T P)]) ∧ Ext w w' := by
 have c1 := fun W => size_any (R : Int) ⟨by omega, by omega⟩ W
 have eR : absI (R : Int) = R := by unfold absI; split <;> omega
 rw [eR] at c1
 have c2 := fun W => add_any (T : Int) P ⟨by omega, by omega⟩ ⟨by omega, by omega⟩ W
 have qT : (T : Int) ≤ 9223372036854775807 := by omega
 clear eR q4
 go_enter Tryz.func71, Tryz.ntmps71
 go_wp2_with fail
 refine Calls.mono (numbers_1 a w.heap.size _ (by simp [go_sem])) ?_
 rintro e w' ⟨rfl, rfl⟩
 go_wp2_with fail
 refine (cP _).mono ?_
 rintro e w' ⟨rfl, rfl⟩
 go_wp2_with fail
 refine (c1 _).mono ?_
 rintro e w' ⟨rfl, rfl⟩
 go_wp2_with fail
 refine (c2 _).mono ?_
 rintro e w2 ⟨rfl, E2⟩
 go_wp2
 go_ret2
 exact ⟨rfl, ((Ext.refl _).alloc _).trans E2⟩
theorem round_mid (a d : Int) (ha : I64 a) (hc : canB a = true) (d1 : ¬ 4 ≤ d) (d2 : ¬ d < -14) (w : World) :
   Calls Tryz.prog 71 #[.int .i64 a, .int .i64 d] w fun e w' => e = .returned (.tuple #[.int .i64 (sgnV (decide (a < 0)) (rnN a d)), .bool (sgnB (rnN a d))]) ∧ Ext w w' := by
 obtain ⟨n, hn⟩ : ∃ n : Nat, n = (4 - d).toNat := ⟨_, rfl⟩
 have hn1 : 1 ≤ n := by omega
 have hn2 : n ≤ 18 := by omega
 have hd : d = 4 - (n : Int) := by omega
 have hN : rnN a d = nearQ a.natAbs (10 ^ n) * 10 ^ n := by unfold rnN rndP; rw [← hn]
 have cP := fun W => power_any n hn2 W
 have p1 := ten_le' hn2
 have p2 : 10 ≤ 10 ^ n := Nat.pow_le_pow_right (n := 10) (by omega) hn1
 have p3 := ten_even n hn1
 obtain ⟨near1, near2⟩ := near_mul a.natAbs (10 ^ n)
 have hdm := Nat.div_add_mod a.natAbs (10 ^ n)
 have hml := Nat.mod_lt a.natAbs (show 0 < 10 ^ n by omega)
 have ht := tmod_abs a (10 ^ n)
 rw [Nat.mul_comm] at hdm
 rw [← hN] at near1 near2
 obtain ⟨a1, a2⟩ := ha
 have a3 : -9223372036854775808 < a := by unfold canB at hc; simp at hc; omega
 have hA : a.natAbs ≤ 9223372036854775807 := by omega
 have sa : (a < 0 → a = -(a.natAbs : Int)) ∧ (0 ≤ a → a = (a.natAbs : Int)) := by omega
 subst hd
 clear hn hN
 generalize rnN a (4 - (n : Int)) = N at *
 generalize a.natAbs / 10 ^ n * 10 ^ n = T at *
 generalize a.natAbs % 10 ^ n = R at *
 generalize a.natAbs = A at *
 generalize 10 ^ n = P at *
 have z3 : ¬ (P : Int) = 0 := by omega
 have e5 : (4 : Int) - (4 - (n : Int)) = n := by omega
 have e6 : wrap64 ((4 : Int) - (4 - (n : Int))) = n := by rw [e5]; unfold wrap64; omega
 have HP : Hid (P / 2 * 2 = P) := p3
 have H1 : Hid (P ≤ 2 * R → N = T + P) := near1
 have H2 : Hid (¬ P ≤ 2 * R → N = T) := near2
 have HA : Hid (T + R = A) := hdm
 have q1 : (10 : Int) ≤ (P : Int) := by omega
 have q2 : (P : Int) ≤ 1000000000000000000 := by omega
 have q3 : (R : Int) < (P : Int) := by omega
 have q4 : (T : Int) + (R : Int) ≤ 9223372036854775807 := by omega
 have cp : canB (P : Int) = true := by unfold canB; rw [bne_iff_ne]; omega
 clear p1 p2 p3 near1 near2 hml
 by_cases ga : a < 0
 · have ht' : a.tmod (P : Int) = -(R : Int) := by rw [ht, if_pos ga]
   have hi : a = -(T : Int) - (R : Int) := by have := sa.1 ga; omega
   have c1 := fun W => size_any (-(R : Int)) ⟨by omega, by omega⟩ W
   have eR : absI (-(R : Int)) = R := by unfold absI; split <;> omega
   rw [eR] at c1
   have c2 := fun W => sub_any (-(T : Int)) P ⟨by omega, by omega⟩ ⟨by omega, by omega⟩ W
   have ed : decide (a < 0) = true := by simp [ga]
   have hin : a - -(R : Int) = -(T : Int) := by omega
   have hin2 : a + (R : Int) = -(T : Int) := by omega
   have HI : Hid (a = -(T : Int) - (R : Int)) := hi
   clear ht sa hi hdm eR hA
   by_cases gr : (R : Int) < (P : Int) / 2
   · have HN : Hid (N = T) := H2.out (by have := HP.out; omega)
     go_enter Tryz.func71, Tryz.ntmps71
     go_wp2_with (first
       | (go_at_call 112; refine Calls.mono (numbers_1 a w.heap.size _ (by simp [go_sem])) ?_; rintro e w' ⟨rfl, rfl⟩)
       | (go_at_call 113; refine (cP _).mono ?_; rintro e w' ⟨rfl, rfl⟩)
       | (go_at_call 114; refine (c1 _).mono ?_; rintro e w' ⟨rfl, rfl⟩))
     go_ret2
     exact ⟨ret_ib (by rw [ed, HN.out, sgnV_yes _ (by omega)]; rfl) (by rw [HN.out, sgnB_yes (by omega)]), (Ext.refl _).alloc _⟩
   · have HN : Hid (N = T + P) := H1.out (by have := HP.out; omega)
     have HB : Hid (subB (-(T : Int)) P = sgnB N) := by
       show subB (-(T : Int)) P = sgnB N
       rw [HN.out]
       unfold subB sgnB
       rw [cp]
       have : canB (-(T : Int)) = true := by unfold canB; rw [bne_iff_ne]; omega
       rw [this]
       unfold fitB
       rw [Bool.eq_iff_iff]
       simp
       omega
     have HV : Hid (subV (-(T : Int)) P = sgnV true N) := by
       show subV (-(T : Int)) P = sgnV true N
       unfold subV sgnV
       rw [HB.out, HN.out]
       split
       · rw [if_pos rfl]; omega
       · rfl
     go_enter Tryz.func71, Tryz.ntmps71
     go_wp2_with (first
       | (go_at_call 112; refine Calls.mono (numbers_1 a w.heap.size _ (by simp [go_sem])) ?_; rintro e w' ⟨rfl, rfl⟩)
       | (go_at_call 113; refine (cP _).mono ?_; rintro e w' ⟨rfl, rfl⟩)
       | (go_at_call 114; refine (c1 _).mono ?_; rintro e w' ⟨rfl, rfl⟩))
     refine (c2 _).mono ?_
     rintro e w2 ⟨rfl, E2⟩
     go_wp2
     go_ret2
     exact ⟨ret_ib (by rw [ed]; exact HV.out) HB.out, ((Ext.refl _).alloc _).trans E2⟩
 · have ht' : a.tmod (P : Int) = (R : Int) := by rw [ht, if_neg ga]
   have hi : a = (T : Int) + (R : Int) := by have := sa.2 (by omega); omega
   have c1 := fun W => size_any (R : Int) ⟨by omega, by omega⟩ W
   have eR : absI (R : Int) = R := by unfold absI; split <;> omega
   rw [eR] at c1
   have c2 := fun W => add_any (T : Int) P ⟨by omega, by omega⟩ ⟨by omega, by omega⟩ W
   have ed : decide (a < 0) = false := by simp; omega
   have hin : a - (R : Int) = (T : Int) := by omega
   clear ht sa hi hdm eR hA
   by_cases gr : (R : Int) < (P : Int) / 2
   · have HN : Hid (N = T) := H2.out (by have := HP.out; omega)
     go_enter Tryz.func71, Tryz.ntmps71
     go_wp2_with (first
       | (go_at_call 112; refine Calls.mono (numbers_1 a w.heap.size _ (by simp [go_sem])) ?_; rintro e w' ⟨rfl, rfl⟩)
       | (go_at_call 113; refine (cP _).mono ?_; rintro e w' ⟨rfl, rfl⟩)
       | (go_at_call 114; refine (c1 _).mono ?_; rintro e w' ⟨rfl, rfl⟩))
     go_ret2
     exact ⟨ret_ib (by rw [ed, HN.out, sgnV_yes _ (by omega)]; rfl) (by rw [HN.out, sgnB_yes (by omega)]), (Ext.refl _).alloc _⟩
   · have HN : Hid (N = T + P) := H1.out (by have := HP.out; omega)
     have HB : Hid (addB (T : Int) P = sgnB N) := by
       show addB (T : Int) P = sgnB N
       rw [HN.out]
       unfold addB sgnB
       rw [cp]
       have : canB (T : Int) = true := by unfold canB; rw [bne_iff_ne]; omega
       rw [this]
       unfold fitB
       rw [Bool.eq_iff_iff]
       simp
       omega
     have HV : Hid (addV (T : Int) P = sgnV false N) := by
       show addV (T : Int) P = sgnV false N
       unfold addV sgnV
       rw [HB.out, HN.out]
       split
       · rw [if_neg (by decide)]; omega
       · rfl
     rw [ed, ← HV.out, ← HB.out]
     exact round_w4 a n P R T hc d1 d2 cP e5 ht' ga hin (by omega) z3 q1 q2 q3 q4 w
theorem round_any (a d : Int) (ha : I64 a) (w : World) : Calls Tryz.prog 71 #[.int .i64 a, .int .i64 d] w fun e w' => e = .returned (.tuple #[.int .i64 (rndV a d), .bool (rndB a d)]) ∧ Ext w w' := by
 cases hc : canB a
 · have HC : Hid (rndB a d = false) := by show rndB a d = false; unfold rndB; rw [hc]; rfl
   have HV : Hid (rndV a d = 0) := by show rndV a d = 0; unfold rndV; rw [hc]; rfl
   go_enter Tryz.func71, Tryz.ntmps71
   go_wp2_with (go_at_call 112; refine Calls.mono (numbers_1 a w.heap.size _ (by simp [go_sem])) ?_; rintro e w' ⟨rfl, rfl⟩)
   go_ret2
   exact ⟨ret_ib HV.out.symm HC.out.symm, (Ext.refl _).alloc _⟩
 by_cases d1 : 4 ≤ d
 · have HC : Hid (rndB a d = true) := by show rndB a d = true; unfold rndB; rw [hc]; simp [d1]
   have HV : Hid (rndV a d = a) := by show rndV a d = a; unfold rndV; rw [hc]; simp [d1]
   go_enter Tryz.func71, Tryz.ntmps71
   go_wp2_with (go_at_call 112; refine Calls.mono (numbers_1 a w.heap.size _ (by simp [go_sem])) ?_; rintro e w' ⟨rfl, rfl⟩)
   go_ret2
   exact ⟨ret_ib HV.out.symm HC.out.symm, (Ext.refl _).alloc _⟩
 by_cases d2 : d < -14
 · have HC : Hid (rndB a d = true) := by show rndB a d = true; unfold rndB; rw [hc]; simp [d2]
   have HV : Hid (rndV a d = 0) := by show rndV a d = 0; unfold rndV; rw [hc]; simp [d1, d2]
   go_enter Tryz.func71, Tryz.ntmps71
   go_wp2_with (go_at_call 112; refine Calls.mono (numbers_1 a w.heap.size _ (by simp [go_sem])) ?_; rintro e w' ⟨rfl, rfl⟩)
   go_ret2
   exact ⟨ret_ib HV.out.symm HC.out.symm, (Ext.refl _).alloc _⟩
 · have hB : rndB a d = sgnB (rnN a d) := by unfold rndB; rw [hc]; simp [d1, d2]
   have hV : rndV a d = sgnV (decide (a < 0)) (rnN a d) := by unfold rndV; rw [hc]; simp [d1, d2]
   rw [hB, hV]
   exact round_mid a d ha hc d1 d2 w

open Go.RowKit
set_option maxHeartbeats 1000000

theorem square_above (n N : Nat) (hn : n < 18446744073709551616) (w : World) :
   Calls Tryz.prog 119 #[.int .u64 n, .int .u64 ((N / 18446744073709551616 : Nat) : Int), .int .u64 ((N % 18446744073709551616 : Nat) : Int)] w fun e w' => e = .returned (.bool (decide (N < n * n))) ∧ Ext w w' := by
 have c := fun W => mul64N n n hn hn W
 obtain ⟨S, hS⟩ : ∃ S, S = n * n := ⟨_, rfl⟩
 rw [← hS] at c ⊢
 have e1 : decide (N < S) = (decide (((N / 18446744073709551616 : Nat) : Int) < ((S / 18446744073709551616 : Nat) : Int)) || (decide (((S / 18446744073709551616 : Nat) : Int) = ((N / 18446744073709551616 : Nat) : Int)) && decide (((N % 18446744073709551616 : Nat) : Int) < ((S % 18446744073709551616 : Nat) : Int)))) := by
   rw [Bool.eq_iff_iff]; simp only [Bool.or_eq_true, Bool.and_eq_true, decide_eq_true_eq]; omega
 rw [e1]
 clear e1 hS
 generalize ((N / 18446744073709551616 : Nat) : Int) = hi at *
 generalize ((N % 18446744073709551616 : Nat) : Int) = lo at *
 generalize ((S / 18446744073709551616 : Nat) : Int) = h at *
 generalize ((S % 18446744073709551616 : Nat) : Int) = l at *
 go_enter Tryz.func119, Tryz.ntmps119
 go_wp2_with fail
 refine (c _).mono ?_
 rintro e w1 ⟨rfl, rfl⟩
 go_wp2
 all_goals
   simp [bodyPost, results, Tryz.results119, go_sem, *]
   try exact Ext.refl _

/-- r is the root of N. -/
def IsRoot (N r : Nat) : Prop := r * r ≤ N ∧ N < (r + 1) * (r + 1)
theorem IsRoot.one {N r s : Nat} (h : IsRoot N r) (k : IsRoot N s) : r = s := by
 obtain ⟨a, b⟩ := h; obtain ⟨c, d⟩ := k
 rcases Nat.lt_trichotomy r s with g | g | g
 · have := Nat.mul_le_mul (show r + 1 ≤ s from g) (show r + 1 ≤ s from g); omega
 · exact g
 · have := Nat.mul_le_mul (show s + 1 ≤ r from g) (show s + 1 ≤ r from g); omega
/-- All bits of the root of N from place j on are in r. -/
def Rooted (N j r : Nat) : Prop := r * r ≤ N ∧ N < (r + 2 ^ j) * (r + 2 ^ j) ∧ r % 2 ^ j = 0
theorem Rooted.lt {N j r : Nat} (h : Rooted N j r) (hN : N < 151115727451828646838272) : r < 549755813888 := by
 rcases Nat.lt_or_ge r 549755813888 with g | g
 · exact g
 · have := Nat.mul_le_mul g g
   have := h.1
   omega
theorem Rooted.no {N j r : Nat} (h : Rooted N (j + 1) r) (g : N < (r + 2 ^ j) * (r + 2 ^ j)) : Rooted N j r := by
 refine ⟨h.1, g, ?_⟩
 have := h.2.2
 rw [Nat.pow_succ] at this
 exact Nat.mod_eq_zero_of_dvd (Nat.dvd_of_mod_eq_zero (show r % 2 ^ j = 0 from by
   have d := Nat.dvd_of_mod_eq_zero this
   exact Nat.mod_eq_zero_of_dvd (Nat.dvd_trans (Nat.dvd_mul_right _ _) d)))
theorem Rooted.yes {N j r : Nat} (h : Rooted N (j + 1) r) (g : (r + 2 ^ j) * (r + 2 ^ j) ≤ N) : Rooted N j (r + 2 ^ j) := by
 refine ⟨g, ?_, ?_⟩
 · have := h.2.1
   rw [Nat.pow_succ, Nat.mul_two, ← Nat.add_assoc] at this
   exact this
 · have := h.2.2
   rw [Nat.pow_succ] at this
   have d := Nat.dvd_of_mod_eq_zero this
   rw [Nat.add_mod_right]
   exact Nat.mod_eq_zero_of_dvd (Nat.dvd_trans (Nat.dvd_mul_right _ _) d)
theorem Rooted.done {N r : Nat} (h : Rooted N 0 r) : IsRoot N r := by
 obtain ⟨a, b, _⟩ := h
 exact ⟨a, b⟩
theorem or_pow (r j : Nat) (h : r % 2 ^ (j + 1) = 0) (hr : r < 549755813888) (hj : j ≤ 40) : bits .or .u64 (r : Int) ((2 ^ j : Nat) : Int) = ((r + 2 ^ j : Nat) : Int) := by
 have hp : 2 ^ j ≤ 2 ^ 40 := Nat.pow_le_pow_right (by decide) hj
 rw [bits_or_u64_nat _ _ (by omega) (by omega)]
 obtain ⟨k, rfl⟩ := Nat.dvd_of_mod_eq_zero h
 rw [← Nat.two_pow_add_eq_or_of_lt (Nat.pow_lt_pow_right (by decide) (Nat.lt_succ_self j))]

/-- What Root answers: the root, or none. -/
theorem root_no (a : Int) (h : a < 0) (w : World) : Calls Tryz.prog 75 #[.int .i64 a] w fun e w' => e = .returned (.tuple #[.int .i64 0, .bool false]) ∧ Ext w w' := by
 go_enter Tryz.func75, Tryz.ntmps75
 go_wp2
 go_ret2
 exact ⟨rfl, Ext.refl _⟩
theorem root_any (a : Nat) (ha : a ≤ 9223372036854775807) (w : World) : Calls Tryz.prog 75 #[.int .i64 a] w fun e w' => (∃ r : Nat, e = .returned (.tuple #[.int .i64 r, .bool true]) ∧ IsRoot (a * 10000) r ∧ r < 549755813888) ∧ Ext w w' := by
 have hN : a * 10000 < 151115727451828646838272 := by omega
 have ea : IntKind.u64.wrap (a : Int) = a := by rw [wrapU]; omega
 have c := fun W => mul64N a 10000 (by omega) (by omega) W
 rw [show ((10000 : Nat) : Int) = 10000 from rfl] at c
 generalize hNe : a * 10000 = N at *
 have cs := fun n hn W => square_above n N hn W
 obtain ⟨H, hH⟩ : ∃ H, H = ((N / 18446744073709551616 : Nat) : Int) := ⟨_, rfl⟩
 obtain ⟨L, hL⟩ : ∃ L, L = ((N % 18446744073709551616 : Nat) : Int) := ⟨_, rfl⟩
 rw [← hH, ← hL] at c cs
 clear hH hL hNe
 go_enter Tryz.func75, Tryz.ntmps75
 go_wp2_with fail
 refine (c _).mono ?_
 rintro e w1 ⟨rfl, rfl⟩
 go_wp2
 go_loopw [6, 7] (fun x b wr => ∃ j r : Nat, j ≤ 39 ∧ x = .int .u64 (r : Int) ∧ b = .int .u64 ((2 ^ j / 2 : Nat) : Int) ∧ Rooted N j r ∧ Ext w1 wr) (fun _ b _ => (intOf b).toNat)
 case atStart => exact ⟨39, 0, Nat.le_refl _, rfl, rfl, ⟨by omega, by simpa using (by omega : N < 302231454903657293676544), rfl⟩, Ext.refl _⟩
 case round =>
   obtain ⟨j, r, hj, rfl, rfl, hR, hE⟩ := hrel
   have hr := hR.lt hN
   rcases Nat.eq_zero_or_pos j with rfl | hj0
   · have HR : Hid (IsRoot N r) := hR.done
     clear hR hN
     rw [show (((2 ^ 0 / 2 : Nat)) : Int) = 0 from rfl]
     go_wp2
     go_ret2
     exact ⟨⟨r, rfl, HR.out, hr⟩, hE⟩
   · obtain ⟨i, rfl⟩ : ∃ i, j = i + 1 := ⟨j - 1, by omega⟩
     have eb : 2 ^ (i + 1) / 2 = 2 ^ i := by rw [Nat.pow_succ]; omega
     rw [eb]
     have eo := or_pow r i hR.2.2 hr (by omega)
     have hp : 2 ^ i ≤ 2 ^ 38 := Nat.pow_le_pow_right (by decide) (by omega)
     have hp0 : 0 < 2 ^ i := Nat.pow_pos (by decide)
     have cs1 := fun W => cs (r + 2 ^ i) (by omega) W
     have HN : Hid (N < (r + 2 ^ i) * (r + 2 ^ i) → Rooted N i r) := fun g => hR.no g
     have HY : Hid (¬ N < (r + 2 ^ i) * (r + 2 ^ i) → Rooted N i (r + 2 ^ i)) := fun g => hR.yes (by omega)
     have HI : Hid (i ≤ 39) := by show i ≤ 39; omega
     have HP : Hid (((2 ^ i : Nat) : Int) / 2 = ((2 ^ i / 2 : Nat) : Int)) := by show ((2 ^ i : Nat) : Int) / 2 = _; omega
     generalize hpe : 2 ^ i = p at *
     have HE : Hid (2 ^ i = p) := hpe
     clear hpe eb
     have hpI : (0 : Int) < (p : Int) := by omega
     clear hj hj0 hR hN cs
     by_cases hd : N < (r + p) * (r + p)
     · have HR : Hid (Rooted N i r) := HN.out hd
       have ed : decide (N < (r + p) * (r + p)) = true := by simp [hd]
       rw [ed, Int.natCast_add] at cs1
       clear ed hd HN HY
       go_wp2_with fail
       refine (cs1 _).mono ?_
       rintro e w2 ⟨rfl, E2⟩
       go_wp2
       go_roundw
       case rel => exact ⟨i, r, HI.out, rfl, by rw [HE.out, ← HP.out], HR.out, hE.trans E2⟩
       case measure => simp [intOf]; omega
     · have HR : Hid (Rooted N i (r + p)) := HY.out hd
       have ed : decide (N < (r + p) * (r + p)) = false := by simp [hd]
       rw [ed, Int.natCast_add] at cs1
       clear ed hd HN HY
       go_wp2_with fail
       refine (cs1 _).mono ?_
       rintro e w2 ⟨rfl, E2⟩
       go_wp2
       go_roundw
       case rel => exact ⟨i, r + p, HI.out, rfl, by rw [HE.out, ← HP.out], HR.out, hE.trans E2⟩
       case measure => simp [intOf]; omega

theorem rroot_no (a : Int) (h : a < 0) (w : World) : Calls Tryz.prog 54 #[.int .i64 a] w fun e w' => e = .returned (.tuple #[.int .i64 0, .bool false]) ∧ Ext w w' := by
 go_enter Tryz.func54, Tryz.ntmps54
 go_wp2
 go_ret2
 exact ⟨rfl, Ext.refl _⟩
/-- What stands while the root is sought: the product, and of what was there nothing has turned. -/
def Stands (w : World) (b : Nat) (N : Nat) (wr : World) : Prop := (Ext w wr ∧ Pair wr b N) ∧ wr.cell? ⟨b, 0, none⟩ = some (.int .u64 (uhi N)) ∧ wr.cell? ⟨b, 1, none⟩ = some (.int .u64 (loOf N))
theorem Stands.mk' {w wr : World} {b N : Nat} (h : Ext w wr) (p : Pair wr b N) : Stands w b N wr := ⟨⟨h, p⟩, p.2.1, p.2.2.1⟩
theorem Stands.ext {w wr w' : World} {b N : Nat} (h : Stands w b N wr) (e : Ext wr w') : Stands w b N w' := Stands.mk' (h.1.1.trans e) (h.1.2.ext e)
theorem rroot_any (a : Nat) (ha : a ≤ 9223372036854775807) (w : World) : Calls Tryz.prog 54 #[.int .i64 a] w fun e w' => (∃ r : Nat, e = .returned (.tuple #[.int .i64 r, .bool true]) ∧ IsRoot (a * 10000) r ∧ r < 549755813888) ∧ Ext w w' := by
 have hN : a * 10000 < 151115727451828646838272 := by omega
 have c := fun W => product_any a 10000 (by omega) (by omega) W
 rw [show ((10000 : Nat) : Int) = 10000 from rfl] at c
 generalize hNe : a * 10000 = N at *
 clear hNe
 go_enter Tryz.func54, Tryz.ntmps54
 go_wp2_with fail
 refine (c _).mono ?_
 rintro e w1 ⟨rfl, E1⟩
 clear c
 go_wp2
 go_loopw [5, 6, 7] (fun x i _ wr => ∃ j r : Nat, j ≤ 41 ∧ x = .int .u64 (r : Int) ∧ i = .int .i64 ((j : Int) - 1) ∧ Rooted N j r ∧ Ext w wr ∧ Pair wr w1.heap.size N) (fun _ i _ _ => (intOf i + 1).toNat)
 case atStart => exact ⟨41, 0, Nat.le_refl _, rfl, rfl, ⟨by omega, by simpa using (by omega : N < 4835703278458516698824704), rfl⟩, E1.alloc _, by simp [Pair, go_sem]⟩
 case round =>
   obtain ⟨j, r, hj, rfl, rfl, hR, hE, hP⟩ := hrel
   have hr := hR.lt hN
   rcases Nat.eq_zero_or_pos j with rfl | hj0
   · have HR : Hid (IsRoot N r) := hR.done
     clear hR hN hP
     go_wp2
     go_ret2
     exact ⟨⟨r, rfl, HR.out, hr⟩, hE⟩
   · obtain ⟨i, rfl⟩ : ∃ i, j = i + 1 := ⟨j - 1, by omega⟩
     have ej : (((i + 1 : Nat) : Int) - 1) = (i : Int) := by omega
     rw [ej]
     clear ej
     have hp : 2 ^ i ≤ 2 ^ 40 := Nat.pow_le_pow_right (by decide) (by omega)
     have hp0 : 0 < 2 ^ i := Nat.pow_pos (by decide)
     have hi : i ≤ 40 := by omega
     have hiI : (i : Int) ≤ 40 := by omega
     have HN : Hid (N < (r + 2 ^ i) * (r + 2 ^ i) → Rooted N i r) := fun g => hR.no g
     have HY : Hid (¬ N < (r + 2 ^ i) * (r + 2 ^ i) → Rooted N i (r + 2 ^ i)) := fun g => hR.yes (by omega)
     have c1 := fun W => product_any (r + 2 ^ i) (r + 2 ^ i) (by omega) (by omega) W
     have hq : (r + 2 ^ i) * (r + 2 ^ i) < 340282366920938463463374607431768211456 := by
       have := Nat.mul_le_mul (show r + 2 ^ i ≤ 2199023255552 by omega) (show r + 2 ^ i ≤ 2199023255552 by omega)
       omega
     have c2 := fun W => cmp_w (((r + 2 ^ i) * (r + 2 ^ i) : Nat) : Int) N (by omega) (by omega) (by omega) (by omega) W
     clear hq
     have ey : IntKind.u64.wrap ((r : Int) + IntKind.u64.wrap (2 ^ i)) = ((r + 2 ^ i : Nat) : Int) := by
       have : ((2 : Int) ^ i) = ((2 ^ i : Nat) : Int) := by simp
       rw [this, wrapU, wrapU]
       omega
     have HI : Hid (i ≤ 40) := hi
     generalize hye : r + 2 ^ i = y at *
     have HE : Hid (r + 2 ^ i = y) := hye
     obtain ⟨Y, hY⟩ : ∃ Y : Int, Y = y := ⟨_, rfl⟩
     have HY2 : Hid (Y = y) := hY
     rw [← hY] at ey c1
     obtain ⟨yh, hyh⟩ : ∃ yh : Int, yh = uhi ((y * y : Nat) : Int) := ⟨_, rfl⟩
     obtain ⟨yl, hyl⟩ : ∃ yl : Int, yl = loOf ((y * y : Nat) : Int) := ⟨_, rfl⟩
     rw [← hyh, ← hyl] at c1 c2
     have hS := Stands.mk' hE hP
     obtain ⟨nh, hnh⟩ : ∃ nh : Int, nh = uhi N := ⟨_, rfl⟩
     obtain ⟨nl, hnl⟩ : ∃ nl : Int, nl = loOf N := ⟨_, rfl⟩
     have hK : (Ext w wr ∧ Pair wr w1.heap.size N) ∧ wr.cell? ⟨w1.heap.size, 0, none⟩ = some (.int .u64 nh) ∧ wr.cell? ⟨w1.heap.size, 1, none⟩ = some (.int .u64 nl) := by rw [hnh, hnl]; exact hS
     have HK : Hid (∀ W W' : World, (Ext w W ∧ Pair W w1.heap.size N) → Ext W W' → (Ext w W' ∧ Pair W' w1.heap.size N) ∧ W'.cell? ⟨w1.heap.size, 0, none⟩ = some (.int .u64 nh) ∧ W'.cell? ⟨w1.heap.size, 1, none⟩ = some (.int .u64 nl)) := by
       intro W W' h e; rw [hnh, hnl]; exact Stands.mk' (h.1.trans e) (h.2.ext e)
     rw [← hnh, ← hnl] at c2
     clear hj hj0 hR hN hE hP hS hnh hnl hyh hyl hye hY hp hp0
     by_cases hd : N < y * y
     · have HR : Hid (Rooted N i r) := HN.out hd
       have ec : cmpI ((y * y : Nat) : Int) N = 1 := by unfold cmpI; rw [if_neg (by omega), if_pos (by omega)]
       rw [ec] at c2
       clear HN HY ec hd
       go_upto_region 8 with fail
       clear ey
       go_region_held3 (fun w' => (Ext w w' ∧ Pair w' w1.heap.size N) ∧ w'.cell? ⟨w1.heap.size, 0, none⟩ = some (.int .u64 nh) ∧ w'.cell? ⟨w1.heap.size, 1, none⟩ = some (.int .u64 nl))
         (first
           | assumption
           | exact HK.out _ _ hK.1 ((Ext.refl _).drew))
         (first
           | (go_at_call 48; refine (c1 _).mono ?_; rintro e w2 ⟨rfl, E2⟩; have hS2 := HK.out _ _ (And.left (by assumption)) E2)
           | (go_at_call 92; refine (c2 _).mono ?_; rintro e w2 ⟨rfl, E2⟩; have hS2 := HK.out _ _ (And.left (by assumption)) E2))
       go_wp2
       go_roundw
       case rel => exact ⟨i, r, by have := HI.out; omega, rfl, rfl, HR.out, hS2.1.1, hS2.1.2⟩
       case measure => simp [intOf]
     · have HR : Hid (Rooted N i y) := HY.out hd
       obtain ⟨cv, ec⟩ : ∃ cv, cv = cmpI ((y * y : Nat) : Int) N := ⟨_, rfl⟩
       have hcv : cv ≤ 0 := by rw [ec]; unfold cmpI; rw [if_neg (c := (N : Int) < _) (by omega)]; split <;> decide
       rw [← ec] at c2
       clear HN HY ec hd
       go_upto_region 8 with fail
       clear ey
       go_region_held3 (fun w' => (Ext w w' ∧ Pair w' w1.heap.size N) ∧ w'.cell? ⟨w1.heap.size, 0, none⟩ = some (.int .u64 nh) ∧ w'.cell? ⟨w1.heap.size, 1, none⟩ = some (.int .u64 nl))
         (first
           | assumption
           | exact HK.out _ _ hK.1 ((Ext.refl _).drew))
         (first
           | (go_at_call 48; refine (c1 _).mono ?_; rintro e w2 ⟨rfl, E2⟩; have hS2 := HK.out _ _ (And.left (by assumption)) E2)
           | (go_at_call 92; refine (c2 _).mono ?_; rintro e w2 ⟨rfl, E2⟩; have hS2 := HK.out _ _ (And.left (by assumption)) E2))
       go_wp2
       go_roundw
       case rel => exact ⟨i, y, by have := HI.out; omega, by rw [HY2.out], rfl, HR.out, hS2.1.1, hS2.1.2⟩
       case measure => simp [intOf]

open Go.RowKit

/-- How many arguments a function has. -/
def kn1 : List (List UInt8) := [[83, 85, 77], [67, 79, 85, 78, 84], [77, 73, 78], [77, 65, 88], [65, 86, 69, 82, 65, 71, 69], [65, 78, 68], [79, 82], [67, 79, 78, 67, 65, 84]]
def kn2 : List (List UInt8) := [[73, 70], [73, 78, 68, 69, 88]]
def kn3 : List (List UInt8) := [[82, 79, 85, 78, 68], [77, 79, 68], [73, 70, 69, 82, 82, 79, 82]]
def kn4 : List (List UInt8) := [[76, 69, 70, 84]]
def kn5 : List (List UInt8) := [[78, 79, 84], [65, 66, 83], [70, 76, 79, 79, 82], [83, 81, 82, 84], [76, 69, 78], [73, 83, 69, 82, 82, 79, 82]]
def kno (s : List UInt8) : Option (Nat × Nat) :=
 if s ∈ kn1 then some (1, 20) else if s ∈ kn2 then some (2, 3) else if s ∈ kn3 then some (2, 2) else if s ∈ kn4 then some (1, 2) else if s ∈ kn5 then some (1, 1) else none
def knA (s : List UInt8) : Int := match kno s with
 | some (a, _) => (a : Int)
 | none => 0
def knB (s : List UInt8) : Int := match kno s with
 | some (_, b) => (b : Int)
 | none => 0
end Go.Proofs.YtalejeknigbhjaaGreatDoor
