/-
  Contracts of whole parts, powers of ten and rounding: the program's Floor, power, Round, and the document's Floor, Power.
-/
import Derived.Test.YtoeknlnmcfnkoaaFixD
import Derived.Test.YtoeknlnmcfnkoaaFixG
namespace Go.Proofs.Ytoeknlnmcfnkoaa
open Go.RowKit
set_option maxHeartbeats 1000000

theorem ten_le {k : Nat} (h : k < 18) : 10 ^ k ≤ 100000000000000000 := Nat.pow_le_pow_right (n := 10) (by omega) (show k ≤ 17 by omega)
theorem ten_le' {k : Nat} (h : k ≤ 18) : 10 ^ k ≤ 1000000000000000000 := Nat.pow_le_pow_right (n := 10) (by omega) h
theorem ten_pos (k : Nat) : 0 < 10 ^ k := Nat.pow_pos (by omega)

theorem power_any (n : Nat) (hn : n ≤ 18) (w : World) : Calls Try.prog 39 #[.int .i64 n] w fun e w' => e = .returned (.int .i64 ((10 ^ n : Nat) : Int)) ∧ w' = w := by
  go_enter Try.func39, Try.ntmps39
  go_wp2
  go_loop [3, 5] (fun p i => ∃ k : Nat, k ≤ n ∧ i = .int .i64 k ∧ p = .int .i64 ((10 ^ k : Nat) : Int)) (fun _ i => n - (intOf i).toNat)
  case atStart => exact ⟨0, Nat.zero_le _, rfl, rfl⟩
  case round =>
    obtain ⟨k, hk, rfl, rfl⟩ := hrel
    by_cases hlt : k < n
    · have hb := ten_le (k := k) (by omega)
      have HS : Hid (10 ^ (k + 1) = 10 ^ k * 10) := Nat.pow_succ 10 k
      obtain ⟨P, hP⟩ : ∃ P, P = 10 ^ k := ⟨_, rfl⟩
      rw [← hP] at hb ⊢
      have HP : Hid (P = 10 ^ k) := hP
      clear hP
      have i1 : (P : Int) ≤ 100000000000000000 := by omega
      clear hb
      go_wp2
      go_round
      case rel => exact ⟨k + 1, by omega, by go_num, congrArg (Value.int .i64) (by rw [HS.out, ← HP.out]; omega)⟩
      case measure => simp [intOf]; omega
    · go_wp2
      go_ret
      have : k = n := by omega
      subst this
      exact ⟨rfl, rfl⟩
theorem rpower_any (n : Nat) (hn : n ≤ 18) (w : World) : Calls Try.prog 41 #[.int .i64 n] w fun e w' => e = .returned (.int .u64 ((10 ^ n : Nat) : Int)) ∧ w' = w := by
  go_enter Try.func41, Try.ntmps41
  go_wp2
  go_loop [3, 4] (fun p i => ∃ k : Nat, k ≤ n ∧ i = .int .i64 k ∧ p = .int .u64 ((10 ^ k : Nat) : Int)) (fun _ i => n - (intOf i).toNat)
  case atStart => exact ⟨0, Nat.zero_le _, rfl, rfl⟩
  case round =>
    obtain ⟨k, hk, rfl, rfl⟩ := hrel
    by_cases hlt : k < n
    · have hb := ten_le (k := k) (by omega)
      have HS : Hid (10 ^ (k + 1) = 10 ^ k * 10) := Nat.pow_succ 10 k
      obtain ⟨P, hP⟩ : ∃ P, P = 10 ^ k := ⟨_, rfl⟩
      rw [← hP] at hb ⊢
      have HP : Hid (P = 10 ^ k) := hP
      clear hP
      have i1 : (P : Int) ≤ 100000000000000000 := by omega
      clear hb
      go_wp2
      go_round
      case rel => exact ⟨k + 1, by omega, by go_num, congrArg (Value.int .u64) (by rw [HS.out, ← HP.out]; omega)⟩
      case measure => simp [intOf]; omega
    · go_wp2
      go_ret
      have : k = n := by omega
      subst this
      exact ⟨rfl, rfl⟩

/-- The greatest whole one that is not above a. -/
def floorB (a : Int) : Bool := canB a && subB a (a % 10000)
def floorV (a : Int) : Int := if canB a then subV a (a % 10000) else 0
theorem mod1_bd (a : Int) : I64 (a % 10000) := ⟨by omega, by omega⟩
theorem modB_one (a : Int) : modB a 10000 = canB a := by
  unfold modB
  have : canB 10000 = true := by decide
  rw [this]
  simp
theorem modV_one (a : Int) (h : canB a = true) : modV a 10000 = a % 10000 := by
  unfold modV fm
  rw [modB_one, h]
  rfl
theorem floor_any (a : Int) (ha : I64 a) (w : World) : Calls Try.prog 20 #[.int .i64 a] w fun e w' => e = .returned (.tuple #[.int .i64 (floorV a), .bool (floorB a)]) ∧ Ext w w' := by
  have c1 := fun W => mod_any a 10000 ha ⟨by omega, by omega⟩ W
  have c2 := fun W => sub_any a (a % 10000) ha (mod1_bd a) W
  rw [modB_one] at c1
  cases hc : canB a
  · have HC : Hid (floorB a = false) := by show floorB a = false; unfold floorB; rw [hc]; rfl
    have HV : Hid (floorV a = 0) := by show floorV a = 0; unfold floorV; rw [hc]; rfl
    rw [hc] at c1
    generalize modV a 10000 = m at *
    go_enter Try.func20, Try.ntmps20
    go_wp2_with fail
    refine (c1 _).mono ?_
    rintro e w1 ⟨rfl, E1⟩
    go_wp2
    go_ret2
    exact ⟨ret_ib HV.out.symm HC.out.symm, E1⟩
  · have HC : Hid (floorB a = subB a (a % 10000)) := by show floorB a = _; unfold floorB; rw [hc]; rfl
    have HV : Hid (floorV a = subV a (a % 10000)) := by show floorV a = _; unfold floorV; rw [hc]; rfl
    rw [hc, modV_one a hc] at c1
    generalize a % 10000 = m at *
    go_enter Try.func20, Try.ntmps20
    go_wp2_with fail
    refine (c1 _).mono ?_
    rintro e w1 ⟨rfl, E1⟩
    go_wp2_with fail
    refine (c2 _).mono ?_
    rintro e w2 ⟨rfl, E2⟩
    go_wp2
    go_ret2
    exact ⟨ret_ib HV.out.symm HC.out.symm, E1.trans E2⟩
theorem rfloor_any (a : Int) (ha : I64 a) (w : World) : Calls Try.prog 21 #[.int .i64 a] w fun e w' => e = .returned (.tuple #[.int .i64 (floorV a), .bool (floorB a)]) ∧ Ext w w' := by
  cases hc : canB a
  · have HC : Hid (floorB a = false) := by show floorB a = false; unfold floorB; rw [hc]; rfl
    have HV : Hid (floorV a = 0) := by show floorV a = 0; unfold floorV; rw [hc]; rfl
    go_enter Try.func21, Try.ntmps21
    go_wp2_with (go_at_call 14; refine (rcan_any _ _).mono ?_; rintro e w' ⟨rfl, rfl⟩)
    go_ret2
    exact ⟨ret_ib HV.out.symm HC.out.symm, Ext.refl _⟩
  · have HC : Hid (floorB a = subB a (a % 10000)) := by show floorB a = _; unfold floorB; rw [hc]; rfl
    have HV : Hid (floorV a = subV a (a % 10000)) := by show floorV a = _; unfold floorV; rw [hc]; rfl
    have c1 := fun W => rest_go a 10000 ha ⟨by omega, by omega⟩ (by omega) W
    have c2 := fun W => rsub_any a (a % 10000) ha (mod1_bd a) W
    have b1 : 0 ≤ a % 10000 := by omega
    have b2 : a % 10000 < 10000 := by omega
    generalize a % 10000 = m at *
    go_enter Try.func21, Try.ntmps21
    go_wp2_with (go_at_call 14; refine (rcan_any _ _).mono ?_; rintro e w' ⟨rfl, rfl⟩)
    refine (c1 _).mono ?_
    rintro e w1 ⟨rfl, rfl⟩
    go_wp2_with fail
    refine (c2 _).mono ?_
    rintro e w2 ⟨rfl, E2⟩
    go_wp2
    go_ret2
    exact ⟨ret_ib HV.out.symm HC.out.symm, E2⟩
end Go.Proofs.Ytoeknlnmcfnkoaa
