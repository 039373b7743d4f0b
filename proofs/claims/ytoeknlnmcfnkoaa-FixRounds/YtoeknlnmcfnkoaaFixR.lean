/-
  The contract of the program's Round: the multiple of a power of ten that is nearest.
-/
import Derived.Test.YtoeknlnmcfnkoaaFixH
namespace Go.Proofs.Ytoeknlnmcfnkoaa
open Go.RowKit
set_option maxHeartbeats 1000000

/-- The power of ten that Round goes by. -/
def rndP (d : Int) : Nat := 10 ^ (4 - d).toNat
def rndN (a d : Int) : Nat := nearQ a.natAbs (rndP d) * rndP d
def rndB (a d : Int) : Bool := canB a && (decide (4 ≤ d) || (decide (d < -14) || sgnB (rndN a d)))
def rndV (a d : Int) : Int := if canB a then (if 4 ≤ d then a else if d < -14 then 0 else sgnV (decide (a < 0)) (rndN a d)) else 0

theorem near_mul (A P : Nat) : (P ≤ 2 * (A % P) → nearQ A P * P = A / P * P + P) ∧ (¬ P ≤ 2 * (A % P) → nearQ A P * P = A / P * P) := by
  unfold nearQ
  constructor
  · intro h; rw [if_pos h, Nat.add_mul, Nat.one_mul]
  · intro h; rw [if_neg h, Nat.add_zero]
theorem ten_even (n : Nat) (h : 1 ≤ n) : 10 ^ n / 2 * 2 = 10 ^ n := by
  obtain ⟨k, rfl⟩ : ∃ k, n = k + 1 := ⟨n - 1, by omega⟩
  rw [Nat.pow_succ]
  omega
theorem tmod_abs (a : Int) (P : Nat) : a.tmod P = if a < 0 then -((a.natAbs % P : Nat) : Int) else ((a.natAbs % P : Nat) : Int) := by
  split
  · rw [tmod_neg' a P (by omega)]
    have : -a = (a.natAbs : Int) := by omega
    rw [this, Int.natCast_emod]
  · rw [tmod_pos a P (by omega)]
    have : a = (a.natAbs : Int) := by omega
    rw [Int.natCast_emod, ← this]

theorem round_w4 (a : Int) (n P R T : Nat) (hc : canB a = true) (d1 : ¬ (4 : Int) ≤ 4 - (n : Int)) (d2 : ¬ (4 : Int) - (n : Int) < -14)
    (cP : ∀ W, Calls Try.prog 39 #[.int .i64 n] W fun e w' => e = .returned (.int .i64 P) ∧ w' = W)
    (e5 : (4 : Int) - (4 - (n : Int)) = n) (ht : a.tmod (P : Int) = R) (ga : ¬ a < 0) (hin : a - (R : Int) = T) (gr : (P : Int) / 2 ≤ R) (_z3 : ¬ (P : Int) = 0)
    (q1 : (10 : Int) ≤ P) (q2 : (P : Int) ≤ 1000000000000000000) (_q3 : (R : Int) < P) (q4 : (T : Int) + R ≤ 9223372036854775807) (w : World) :
    Calls Try.prog 22 #[.int .i64 a, .int .i64 (4 - (n : Int))] w fun e w' => e = .returned (.tuple #[.int .i64 (addV T P), .bool (addB T P)]) ∧ Ext w w' := by
  have c1 := fun W => size_any (R : Int) ⟨by omega, by omega⟩ W
  have eR : absI (R : Int) = R := by unfold absI; split <;> omega
  rw [eR] at c1
  have c2 := fun W => add_any (T : Int) P ⟨by omega, by omega⟩ ⟨by omega, by omega⟩ W
  have qT : (T : Int) ≤ 9223372036854775807 := by omega
  clear eR q4
  go_enter Try.func22, Try.ntmps22
  go_wp2_with fail
  refine Calls.mono (numbers_1 a w.heap.size _ (by simp [go_sem])) ?_
  rintro e w' ⟨rfl, rfl⟩
  go_wp2_with fail
  refine (cP _).mono ?_
  rintro e w' ⟨rfl, rfl⟩
  go_wp2_with fail
  refine (c1 _).mono ?_
  rintro e w' ⟨rfl, rfl⟩
  go_wp2_with fail
  refine (c2 _).mono ?_
  rintro e w2 ⟨rfl, E2⟩
  go_wp2
  go_ret2
  exact ⟨rfl, ((Ext.refl _).alloc _).trans E2⟩
theorem round_mid (a d : Int) (ha : I64 a) (hc : canB a = true) (d1 : ¬ 4 ≤ d) (d2 : ¬ d < -14) (w : World) :
    Calls Try.prog 22 #[.int .i64 a, .int .i64 d] w fun e w' => e = .returned (.tuple #[.int .i64 (sgnV (decide (a < 0)) (rndN a d)), .bool (sgnB (rndN a d))]) ∧ Ext w w' := by
  obtain ⟨n, hn⟩ : ∃ n : Nat, n = (4 - d).toNat := ⟨_, rfl⟩
  have hn1 : 1 ≤ n := by omega
  have hn2 : n ≤ 18 := by omega
  have hd : d = 4 - (n : Int) := by omega
  have hN : rndN a d = nearQ a.natAbs (10 ^ n) * 10 ^ n := by unfold rndN rndP; rw [← hn]
  have cP := fun W => power_any n hn2 W
  have p1 := ten_le' hn2
  have p2 : 10 ≤ 10 ^ n := Nat.pow_le_pow_right (n := 10) (by omega) hn1
  have p3 := ten_even n hn1
  obtain ⟨near1, near2⟩ := near_mul a.natAbs (10 ^ n)
  have hdm := Nat.div_add_mod a.natAbs (10 ^ n)
  have hml := Nat.mod_lt a.natAbs (show 0 < 10 ^ n by omega)
  have ht := tmod_abs a (10 ^ n)
  rw [Nat.mul_comm] at hdm
  rw [← hN] at near1 near2
  obtain ⟨a1, a2⟩ := ha
  have a3 : -9223372036854775808 < a := by unfold canB at hc; simp at hc; omega
  have hA : a.natAbs ≤ 9223372036854775807 := by omega
  have sa : (a < 0 → a = -(a.natAbs : Int)) ∧ (0 ≤ a → a = (a.natAbs : Int)) := by omega
  subst hd
  clear hn hN
  generalize rndN a (4 - (n : Int)) = N at *
  generalize a.natAbs / 10 ^ n * 10 ^ n = T at *
  generalize a.natAbs % 10 ^ n = R at *
  generalize a.natAbs = A at *
  generalize 10 ^ n = P at *
  have z3 : ¬ (P : Int) = 0 := by omega
  have e5 : (4 : Int) - (4 - (n : Int)) = n := by omega
  have e6 : wrap64 ((4 : Int) - (4 - (n : Int))) = n := by rw [e5]; unfold wrap64; omega
  have HP : Hid (P / 2 * 2 = P) := p3
  have H1 : Hid (P ≤ 2 * R → N = T + P) := near1
  have H2 : Hid (¬ P ≤ 2 * R → N = T) := near2
  have HA : Hid (T + R = A) := hdm
  have q1 : (10 : Int) ≤ (P : Int) := by omega
  have q2 : (P : Int) ≤ 1000000000000000000 := by omega
  have q3 : (R : Int) < (P : Int) := by omega
  have q4 : (T : Int) + (R : Int) ≤ 9223372036854775807 := by omega
  have cp : canB (P : Int) = true := by unfold canB; rw [bne_iff_ne]; omega
  clear p1 p2 p3 near1 near2 hml
  by_cases ga : a < 0
  · have ht' : a.tmod (P : Int) = -(R : Int) := by rw [ht, if_pos ga]
    have hi : a = -(T : Int) - (R : Int) := by have := sa.1 ga; omega
    have c1 := fun W => size_any (-(R : Int)) ⟨by omega, by omega⟩ W
    have eR : absI (-(R : Int)) = R := by unfold absI; split <;> omega
    rw [eR] at c1
    have c2 := fun W => sub_any (-(T : Int)) P ⟨by omega, by omega⟩ ⟨by omega, by omega⟩ W
    have ed : decide (a < 0) = true := by simp [ga]
    have hin : a - -(R : Int) = -(T : Int) := by omega
    have hin2 : a + (R : Int) = -(T : Int) := by omega
    have HI : Hid (a = -(T : Int) - (R : Int)) := hi
    clear ht sa hi hdm eR hA
    by_cases gr : (R : Int) < (P : Int) / 2
    · have HN : Hid (N = T) := H2.out (by have := HP.out; omega)
      go_enter Try.func22, Try.ntmps22
      go_wp2_with (first
        | (go_at_call 33; refine Calls.mono (numbers_1 a w.heap.size _ (by simp [go_sem])) ?_; rintro e w' ⟨rfl, rfl⟩)
        | (go_at_call 39; refine (cP _).mono ?_; rintro e w' ⟨rfl, rfl⟩)
        | (go_at_call 40; refine (c1 _).mono ?_; rintro e w' ⟨rfl, rfl⟩))
      go_ret2
      exact ⟨ret_ib (by rw [ed, HN.out, sgnV_yes _ (by omega)]; rfl) (by rw [HN.out, sgnB_yes (by omega)]), (Ext.refl _).alloc _⟩
    · have HN : Hid (N = T + P) := H1.out (by have := HP.out; omega)
      have HB : Hid (subB (-(T : Int)) P = sgnB N) := by
        show subB (-(T : Int)) P = sgnB N
        rw [HN.out]
        unfold subB sgnB
        rw [cp]
        have : canB (-(T : Int)) = true := by unfold canB; rw [bne_iff_ne]; omega
        rw [this]
        unfold fitB
        rw [Bool.eq_iff_iff]
        simp
        omega
      have HV : Hid (subV (-(T : Int)) P = sgnV true N) := by
        show subV (-(T : Int)) P = sgnV true N
        unfold subV sgnV
        rw [HB.out, HN.out]
        split
        · rw [if_pos rfl]; omega
        · rfl
      go_enter Try.func22, Try.ntmps22
      go_wp2_with (first
        | (go_at_call 33; refine Calls.mono (numbers_1 a w.heap.size _ (by simp [go_sem])) ?_; rintro e w' ⟨rfl, rfl⟩)
        | (go_at_call 39; refine (cP _).mono ?_; rintro e w' ⟨rfl, rfl⟩)
        | (go_at_call 40; refine (c1 _).mono ?_; rintro e w' ⟨rfl, rfl⟩))
      refine (c2 _).mono ?_
      rintro e w2 ⟨rfl, E2⟩
      go_wp2
      go_ret2
      exact ⟨ret_ib (by rw [ed]; exact HV.out) HB.out, ((Ext.refl _).alloc _).trans E2⟩
  · have ht' : a.tmod (P : Int) = (R : Int) := by rw [ht, if_neg ga]
    have hi : a = (T : Int) + (R : Int) := by have := sa.2 (by omega); omega
    have c1 := fun W => size_any (R : Int) ⟨by omega, by omega⟩ W
    have eR : absI (R : Int) = R := by unfold absI; split <;> omega
    rw [eR] at c1
    have c2 := fun W => add_any (T : Int) P ⟨by omega, by omega⟩ ⟨by omega, by omega⟩ W
    have ed : decide (a < 0) = false := by simp; omega
    have hin : a - (R : Int) = (T : Int) := by omega
    clear ht sa hi hdm eR hA
    by_cases gr : (R : Int) < (P : Int) / 2
    · have HN : Hid (N = T) := H2.out (by have := HP.out; omega)
      go_enter Try.func22, Try.ntmps22
      go_wp2_with (first
        | (go_at_call 33; refine Calls.mono (numbers_1 a w.heap.size _ (by simp [go_sem])) ?_; rintro e w' ⟨rfl, rfl⟩)
        | (go_at_call 39; refine (cP _).mono ?_; rintro e w' ⟨rfl, rfl⟩)
        | (go_at_call 40; refine (c1 _).mono ?_; rintro e w' ⟨rfl, rfl⟩))
      go_ret2
      exact ⟨ret_ib (by rw [ed, HN.out, sgnV_yes _ (by omega)]; rfl) (by rw [HN.out, sgnB_yes (by omega)]), (Ext.refl _).alloc _⟩
    · have HN : Hid (N = T + P) := H1.out (by have := HP.out; omega)
      have HB : Hid (addB (T : Int) P = sgnB N) := by
        show addB (T : Int) P = sgnB N
        rw [HN.out]
        unfold addB sgnB
        rw [cp]
        have : canB (T : Int) = true := by unfold canB; rw [bne_iff_ne]; omega
        rw [this]
        unfold fitB
        rw [Bool.eq_iff_iff]
        simp
        omega
      have HV : Hid (addV (T : Int) P = sgnV false N) := by
        show addV (T : Int) P = sgnV false N
        unfold addV sgnV
        rw [HB.out, HN.out]
        split
        · rw [if_neg (by decide)]; omega
        · rfl
      rw [ed, ← HV.out, ← HB.out]
      exact round_w4 a n P R T hc d1 d2 cP e5 ht' ga hin (by omega) z3 q1 q2 q3 q4 w
theorem round_any (a d : Int) (ha : I64 a) (w : World) : Calls Try.prog 22 #[.int .i64 a, .int .i64 d] w fun e w' => e = .returned (.tuple #[.int .i64 (rndV a d), .bool (rndB a d)]) ∧ Ext w w' := by
  cases hc : canB a
  · have HC : Hid (rndB a d = false) := by show rndB a d = false; unfold rndB; rw [hc]; rfl
    have HV : Hid (rndV a d = 0) := by show rndV a d = 0; unfold rndV; rw [hc]; rfl
    go_enter Try.func22, Try.ntmps22
    go_wp2_with (go_at_call 33; refine Calls.mono (numbers_1 a w.heap.size _ (by simp [go_sem])) ?_; rintro e w' ⟨rfl, rfl⟩)
    go_ret2
    exact ⟨ret_ib HV.out.symm HC.out.symm, (Ext.refl _).alloc _⟩
  by_cases d1 : 4 ≤ d
  · have HC : Hid (rndB a d = true) := by show rndB a d = true; unfold rndB; rw [hc]; simp [d1]
    have HV : Hid (rndV a d = a) := by show rndV a d = a; unfold rndV; rw [hc]; simp [d1]
    go_enter Try.func22, Try.ntmps22
    go_wp2_with (go_at_call 33; refine Calls.mono (numbers_1 a w.heap.size _ (by simp [go_sem])) ?_; rintro e w' ⟨rfl, rfl⟩)
    go_ret2
    exact ⟨ret_ib HV.out.symm HC.out.symm, (Ext.refl _).alloc _⟩
  by_cases d2 : d < -14
  · have HC : Hid (rndB a d = true) := by show rndB a d = true; unfold rndB; rw [hc]; simp [d2]
    have HV : Hid (rndV a d = 0) := by show rndV a d = 0; unfold rndV; rw [hc]; simp [d1, d2]
    go_enter Try.func22, Try.ntmps22
    go_wp2_with (go_at_call 33; refine Calls.mono (numbers_1 a w.heap.size _ (by simp [go_sem])) ?_; rintro e w' ⟨rfl, rfl⟩)
    go_ret2
    exact ⟨ret_ib HV.out.symm HC.out.symm, (Ext.refl _).alloc _⟩
  · have hB : rndB a d = sgnB (rndN a d) := by unfold rndB; rw [hc]; simp [d1, d2]
    have hV : rndV a d = sgnV (decide (a < 0)) (rndN a d) := by unfold rndV; rw [hc]; simp [d1, d2]
    rw [hB, hV]
    exact round_mid a d ha hc d1 d2 w
end Go.Proofs.Ytoeknlnmcfnkoaa
