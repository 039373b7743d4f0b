/-
  Contracts of rests: Mod of the program and of the document's answers.
-/
import Derived.Test.YtoeknlnmcfnkoaaFixF
namespace Go.Proofs.Ytoeknlnmcfnkoaa
open Go.RowKit
set_option maxHeartbeats 1000000

theorem neg_mod (n b : Int) (hb : 0 < b) : (-n) % b = if n % b = 0 then 0 else b - n % b := by
  have h1 := Int.emod_add_mul_ediv n b
  have h2 := Int.emod_nonneg n (show b ≠ 0 by omega)
  have h3 := Int.emod_lt_of_pos n hb
  generalize n % b = r at *
  generalize n / b = q at *
  split
  · rename_i h
    have : -n = b * (-q) := by rw [Int.mul_neg]; omega
    rw [this, Int.mul_emod_right]
  · have : -n = (b - r) + b * (-q - 1) := by rw [Int.mul_sub, Int.mul_neg, Int.mul_one]; omega
    rw [this, Int.add_mul_emod_self_left, Int.emod_eq_of_lt (by omega) (by omega)]
/-- What is left of a by b, with the sign of b. -/
def fm (a b : Int) : Int := if 0 < b then a % b else -((-a) % (-b))
theorem tmod_pos (a b : Int) (ha : 0 ≤ a) : a.tmod b = a % b := Int.tmod_eq_emod_of_nonneg ha
theorem tmod_neg' (a b : Int) (ha : a < 0) : a.tmod b = -((-a) % b) := by
  have := Int.tmod_eq_emod_of_nonneg (a := -a) (b := b) (by omega)
  rw [Int.neg_tmod] at this
  omega
theorem emod_negb (a b : Int) : a % (-b) = a % b := Int.emod_neg a b
/-- The three ways of Go's own rest. -/
theorem fm_ways (a b : Int) (hb : b ≠ 0) : (a.tmod b = 0 → fm a b = 0) ∧ ((a.tmod b < 0 ∧ b < 0) ∨ (0 < a.tmod b ∧ 0 < b) → fm a b = a.tmod b) ∧ ((a.tmod b < 0 ∧ 0 < b) ∨ (0 < a.tmod b ∧ b < 0) → fm a b = a.tmod b + b) ∧ (a.tmod b < b ∨ b < 0) ∧ (a.tmod b < -b ∨ 0 < b) ∧ (-b < a.tmod b ∨ b < 0) ∧ (b < a.tmod b ∨ 0 < b) := by
  unfold fm
  by_cases ha : 0 ≤ a
  · rw [tmod_pos a b ha]
    by_cases hp : 0 < b
    · have h2 := Int.emod_nonneg a hb
      have h3 := Int.emod_lt_of_pos a hp
      rw [if_pos hp]
      generalize a % b = r at *
      refine ⟨fun h => ?_, fun h => ?_, fun h => ?_, ?_, ?_, ?_, ?_⟩ <;> omega
    · have e : a % b = a % (-b) := (emod_negb a b).symm
      have n := neg_mod a (-b) (by omega)
      have h2 := Int.emod_nonneg a (show -b ≠ 0 by omega)
      have h3 := Int.emod_lt_of_pos a (show 0 < -b by omega)
      rw [e, n]
      rw [if_neg hp]
      generalize a % (-b) = r at *
      split <;> (refine ⟨fun h => ?_, fun h => ?_, fun h => ?_, ?_, ?_, ?_, ?_⟩ <;> omega)
  · rw [tmod_neg' a b (by omega)]
    by_cases hp : 0 < b
    · have n := neg_mod (-a) b hp
      rw [Int.neg_neg] at n
      have h2 := Int.emod_nonneg (-a) hb
      have h3 := Int.emod_lt_of_pos (-a) hp
      rw [n]
      rw [if_pos hp]
      generalize (-a) % b = r at *
      split <;> (refine ⟨fun h => ?_, fun h => ?_, fun h => ?_, ?_, ?_, ?_, ?_⟩ <;> omega)
    · have e : (-a) % b = (-a) % (-b) := (emod_negb (-a) b).symm
      have h2 := Int.emod_nonneg (-a) (show -b ≠ 0 by omega)
      have h3 := Int.emod_lt_of_pos (-a) (show 0 < -b by omega)
      rw [e]
      rw [if_neg hp]
      generalize (-a) % (-b) = r at *
      refine ⟨fun h => ?_, fun h => ?_, fun h => ?_, ?_, ?_, ?_, ?_⟩ <;> omega
theorem fm_bd (a b : Int) (hb : b ≠ 0) : (0 < b → 0 ≤ fm a b ∧ fm a b < b) ∧ (b < 0 → b < fm a b ∧ fm a b ≤ 0) := by
  unfold fm
  constructor
  · intro h
    simp only [h, if_true]
    exact ⟨Int.emod_nonneg a hb, Int.emod_lt_of_pos a h⟩
  · intro h
    have h2 := Int.emod_nonneg (-a) (show -b ≠ 0 by omega)
    have h3 := Int.emod_lt_of_pos (-a) (show 0 < -b by omega)
    rw [if_neg (by omega)]
    omega

def modB (a b : Int) : Bool := (canB a && canB b) && b != 0
def modV (a b : Int) : Int := if modB a b then fm a b else 0
theorem modB_yes {a b : Int} (h : (canB a && canB b) = true) (hz : b ≠ 0) : modB a b = true := by unfold modB; rw [h]; simp [hz]
theorem modV_yes {a b : Int} (h : (canB a && canB b) = true) (hz : b ≠ 0) : modV a b = fm a b := by unfold modV; rw [modB_yes h hz]; rfl
theorem modB_no {a b : Int} (h : (canB a && canB b) = false) : modB a b = false := by unfold modB; rw [h]; rfl
theorem modV_no {a b : Int} (h : (canB a && canB b) = false) : modV a b = 0 := by unfold modV; rw [modB_no h]; rfl
theorem modB_nought (a : Int) : modB a 0 = false := by unfold modB; simp
theorem modV_nought (a : Int) : modV a 0 = 0 := by unfold modV; rw [modB_nought]; rfl

theorem mod_go (a b m : Int) (ha : I64 a) (hb : I64 b) (hc : (canB a && canB b) = true) (hz : b ≠ 0) (hm : a.tmod b = m) (r : Int)
    (hr : (m = 0 ∧ r = 0) ∨ (m < 0 ∧ b < 0 ∧ r = m) ∨ (0 < m ∧ 0 < b ∧ r = m) ∨ (m < 0 ∧ 0 < b ∧ r = m + b) ∨ (0 < m ∧ b < 0 ∧ r = m + b))
    (m1 : -9223372036854775808 ≤ m) (m2 : m ≤ 9223372036854775807) (w : World) :
    Calls Try.prog 24 #[.int .i64 a, .int .i64 b] w fun e w' => e = .returned (.tuple #[.int .i64 r, .bool true]) ∧ Ext w w' := by
  have hz1 : (b == 0) = false := by simp [hz]
  have hz3 : ¬ b = 0 := hz
  obtain ⟨a1, a2⟩ := ha; obtain ⟨b1, b2⟩ := hb
  clear hz
  rcases hr with ⟨h1, h3⟩ | ⟨h1, h2, h3⟩ | ⟨h1, h2, h3⟩ | ⟨h1, h2, h3⟩ | ⟨h1, h2, h3⟩
  all_goals
    have H3 : Hid (r = _) := h3
    clear h3
  · subst h1
    go_enter Try.func24, Try.ntmps24
    go_wp2_with (go_at_call 33; refine Calls.mono (numbers_2 a b w.heap.size _ (by simp [go_sem]) (by simp [go_sem])) ?_; rintro e w' ⟨rfl, rfl⟩)
    go_ret2
    exact ⟨ret_ib H3.out.symm rfl, (Ext.refl _).alloc _⟩
  all_goals
    have k1 : (m != 0) = true := by simp; omega
    have k2 : ¬ m = 0 := by omega
  · have k3 : decide (m < 0) = true := by simp; omega
    have k4 : decide (b < 0) = true := by simp; omega
    go_enter Try.func24, Try.ntmps24
    go_wp2_with (go_at_call 33; refine Calls.mono (numbers_2 a b w.heap.size _ (by simp [go_sem]) (by simp [go_sem])) ?_; rintro e w' ⟨rfl, rfl⟩)
    go_ret2
    exact ⟨ret_ib H3.out.symm rfl, (Ext.refl _).alloc _⟩
  · have k3 : decide (m < 0) = false := by simp; omega
    have k4 : decide (b < 0) = false := by simp; omega
    go_enter Try.func24, Try.ntmps24
    go_wp2_with (go_at_call 33; refine Calls.mono (numbers_2 a b w.heap.size _ (by simp [go_sem]) (by simp [go_sem])) ?_; rintro e w' ⟨rfl, rfl⟩)
    go_ret2
    exact ⟨ret_ib H3.out.symm rfl, (Ext.refl _).alloc _⟩
  · have k3 : decide (m < 0) = true := by simp; omega
    have k4 : decide (b < 0) = false := by simp; omega
    go_enter Try.func24, Try.ntmps24
    go_wp2_with (go_at_call 33; refine Calls.mono (numbers_2 a b w.heap.size _ (by simp [go_sem]) (by simp [go_sem])) ?_; rintro e w' ⟨rfl, rfl⟩)
    go_ret2
    exact ⟨ret_ib H3.out.symm rfl, (Ext.refl _).alloc _⟩
  · have k3 : decide (m < 0) = false := by simp; omega
    have k4 : decide (b < 0) = true := by simp; omega
    go_enter Try.func24, Try.ntmps24
    go_wp2_with (go_at_call 33; refine Calls.mono (numbers_2 a b w.heap.size _ (by simp [go_sem]) (by simp [go_sem])) ?_; rintro e w' ⟨rfl, rfl⟩)
    go_ret2
    exact ⟨ret_ib H3.out.symm rfl, (Ext.refl _).alloc _⟩
theorem mod_any (a b : Int) (ha : I64 a) (hb : I64 b) (w : World) : Calls Try.prog 24 #[.int .i64 a, .int .i64 b] w fun e w' => e = .returned (.tuple #[.int .i64 (modV a b), .bool (modB a b)]) ∧ Ext w w' := by
  cases hc : (canB a && canB b)
  · have HC : Hid (modB a b = false) := modB_no hc
    have HV : Hid (modV a b = 0) := modV_no hc
    go_enter Try.func24, Try.ntmps24
    go_wp2_with (go_at_call 33; refine Calls.mono (numbers_2 a b w.heap.size _ (by simp [go_sem]) (by simp [go_sem])) ?_; rintro e w' ⟨rfl, rfl⟩)
    go_ret2
    exact ⟨ret_ib HV.out.symm HC.out.symm, (Ext.refl _).alloc _⟩
  by_cases hz : b = 0
  · subst hz
    have HC : Hid (modB a 0 = false) := modB_nought a
    have HV : Hid (modV a 0 = 0) := modV_nought a
    go_enter Try.func24, Try.ntmps24
    go_wp2_with (go_at_call 33; refine Calls.mono (numbers_2 a 0 w.heap.size _ (by simp [go_sem]) (by simp [go_sem])) ?_; rintro e w' ⟨rfl, rfl⟩)
    go_ret2
    exact ⟨ret_ib HV.out.symm HC.out.symm, (Ext.refl _).alloc _⟩
  · rw [modB_yes hc hz, modV_yes hc hz]
    obtain ⟨f1, f2, f3, f4, f5, f6, f7⟩ := fm_ways a b hz
    have hb' := hb
    obtain ⟨b1, b2⟩ := hb'
    refine mod_go a b (a.tmod b) ha hb hc hz rfl (fm a b) ?_ (by omega) (by omega) w
    generalize a.tmod b = m at *
    by_cases k0 : m = 0
    · exact Or.inl ⟨k0, f1 k0⟩
    refine Or.inr ?_
    by_cases k1 : m < 0
    · by_cases k2 : b < 0
      · exact Or.inl ⟨k1, k2, f2 (Or.inl ⟨k1, k2⟩)⟩
      · exact Or.inr (Or.inr (Or.inl ⟨k1, by omega, f3 (Or.inl ⟨k1, by omega⟩)⟩))
    · by_cases k2 : b < 0
      · exact Or.inr (Or.inr (Or.inr ⟨by omega, k2, f3 (Or.inr ⟨by omega, k2⟩)⟩))
      · exact Or.inr (Or.inl ⟨by omega, by omega, f2 (Or.inr ⟨by omega, by omega⟩)⟩)

/-! ### the document's answers -/
theorem rest_go (a b : Int) (ha : I64 a) (hb : U64 b) (hz : 0 < b) (w : World) : Calls Try.prog 38 #[.int .i64 a, .int .u64 b] w fun e w' => e = .returned (.int .u64 (a % b)) ∧ w' = w := by
  have cs := fun W => rsize_any a ha W
  obtain ⟨b1, b2⟩ := hb
  have hz3 : ¬ b = 0 := by omega
  have h0 : 0 ≤ absI a := by unfold absI; split <;> omega
  have e1 : (absI a).tmod b = absI a % b := tmod_pos _ _ h0
  have r0 := Int.emod_nonneg (absI a) hz3
  have r1 := Int.emod_lt_of_pos (absI a) hz
  have hn : a < 0 → a % b = if absI a % b = 0 then 0 else b - absI a % b := by
    intro h
    have := neg_mod (-a) b hz
    rw [Int.neg_neg] at this
    rw [this]
    unfold absI
    rw [if_pos h]
  have hp : 0 ≤ a → a % b = absI a % b := by
    intro h
    unfold absI
    rw [if_neg (by omega)]
  obtain ⟨r, hr⟩ : ∃ r, r = absI a % b := ⟨_, rfl⟩
  rw [← hr] at e1 r0 r1 hn hp
  have HN : Hid (a < 0 → a % b = if r = 0 then 0 else b - r) := hn
  have HP : Hid (0 ≤ a → a % b = r) := hp
  have e2 : absI a % b = r := hr.symm
  clear hr hn hp
  by_cases ga : a < 0
  · by_cases gr : 0 < r
    · have HE : Hid (a % b = b - r) := by show a % b = b - r; rw [HN.out ga, if_neg (by omega)]
      go_enter Try.func38, Try.ntmps38
      go_wp2_with (go_at_call 26; refine (cs _).mono ?_; rintro e w' ⟨rfl, rfl⟩)
      go_ret
      exact ⟨ret_int HE.out.symm, rfl⟩
    · have HE : Hid (a % b = r) := by show a % b = r; rw [HN.out ga, if_pos (by omega)]; omega
      go_enter Try.func38, Try.ntmps38
      go_wp2_with (go_at_call 26; refine (cs _).mono ?_; rintro e w' ⟨rfl, rfl⟩)
      go_ret
      exact ⟨ret_int HE.out.symm, rfl⟩
  · have HE : Hid (a % b = r) := HP.out (by omega)
    go_enter Try.func38, Try.ntmps38
    go_wp2_with (go_at_call 26; refine (cs _).mono ?_; rintro e w' ⟨rfl, rfl⟩)
    go_ret
    exact ⟨ret_int HE.out.symm, rfl⟩
theorem rmod_pos (a b : Int) (ha : I64 a) (hb : I64 b) (hca : canB a = true) (hcb : canB b = true) (hz : 0 < b) (w : World) : Calls Try.prog 25 #[.int .i64 a, .int .i64 b] w fun e w' => e = .returned (.tuple #[.int .i64 (fm a b), .bool true]) ∧ w' = w := by
  have hf : fm a b = a % b := by unfold fm; rw [if_pos hz]
  have r0 := Int.emod_nonneg a (show b ≠ 0 by omega)
  have r1 := Int.emod_lt_of_pos a hz
  obtain ⟨b1, b2⟩ := hb
  have cr := fun W => rest_go a b ha ⟨by omega, by omega⟩ hz W
  have hz1 : (b == 0) = false := by simp; omega
  have hz2 : ¬ b < 0 := by omega
  have HF : Hid (fm a b = a % b) := hf
  clear hf ha
  generalize a % b = r at *
  go_enter Try.func25, Try.ntmps25
  go_wp2_with (first
    | (go_at_call 14; refine (rcan_any _ _).mono ?_; rintro e w' ⟨rfl, rfl⟩)
    | (go_at_call 38; refine (cr _).mono ?_; rintro e w' ⟨rfl, rfl⟩))
  go_ret2
  exact ⟨ret_ib HF.out.symm rfl, rfl⟩
theorem rmod_any (a b : Int) (ha : I64 a) (hb : I64 b) (w : World) : Calls Try.prog 25 #[.int .i64 a, .int .i64 b] w fun e w' => e = .returned (.tuple #[.int .i64 (modV a b), .bool (modB a b)]) ∧ w' = w := by
  cases hca : canB a
  · have HC : Hid (modB a b = false) := modB_no (by rw [hca]; rfl)
    have HV : Hid (modV a b = 0) := modV_no (by rw [hca]; rfl)
    go_enter Try.func25, Try.ntmps25
    go_wp2_with (go_at_call 14; refine (rcan_any _ _).mono ?_; rintro e w' ⟨rfl, rfl⟩)
    go_ret2
    exact ⟨ret_ib HV.out.symm HC.out.symm, rfl⟩
  cases hcb : canB b
  · have HC : Hid (modB a b = false) := modB_no (by rw [hca, hcb]; rfl)
    have HV : Hid (modV a b = 0) := modV_no (by rw [hca, hcb]; rfl)
    go_enter Try.func25, Try.ntmps25
    go_wp2_with (go_at_call 14; refine (rcan_any _ _).mono ?_; rintro e w' ⟨rfl, rfl⟩)
    go_ret2
    exact ⟨ret_ib HV.out.symm HC.out.symm, rfl⟩
  by_cases hz : b = 0
  · subst hz
    have HC : Hid (modB a 0 = false) := modB_nought a
    have HV : Hid (modV a 0 = 0) := modV_nought a
    go_enter Try.func25, Try.ntmps25
    go_wp2_with (go_at_call 14; refine (rcan_any _ _).mono ?_; rintro e w' ⟨rfl, rfl⟩)
    go_ret2
    exact ⟨ret_ib HV.out.symm HC.out.symm, rfl⟩
  rw [modB_yes (by rw [hca, hcb]; rfl) hz, modV_yes (by rw [hca, hcb]; rfl) hz]
  by_cases hp : 0 < b
  · exact rmod_pos a b ha hb hca hcb hp w
  · obtain ⟨a1, a2⟩ := ha; obtain ⟨b1, b2⟩ := hb
    have a3 : -9223372036854775808 < a := by unfold canB at hca; simp at hca; omega
    have b3 : -9223372036854775808 < b := by unfold canB at hcb; simp at hcb; omega
    have ka : canB (-a) = true := by unfold canB; simp; omega
    have kb : canB (-b) = true := by unfold canB; simp; omega
    have cr := fun W => rmod_pos (-a) (-b) ⟨by omega, by omega⟩ ⟨by omega, by omega⟩ ka kb (by omega) W
    have e1 : wrap64 (-a) = -a := by unfold wrap64; omega
    have e2 : wrap64 (-b) = -b := by unfold wrap64; omega
    have hf : fm a b = -(fm (-a) (-b)) := by unfold fm; rw [if_neg hp, if_pos (by omega)]
    have hbd := (fm_bd (-a) (-b) (by omega)).1 (by omega)
    have HF : Hid (fm a b = -(fm (-a) (-b))) := hf
    generalize fm (-a) (-b) = r at *
    have hz1 : (b == 0) = false := by simp [hz]
    have hlt : b < 0 := by omega
    obtain ⟨r0, r1⟩ := hbd
    have e3 : wrap64 (-r) = -r := by unfold wrap64; omega
    clear hf ka kb hp hz
    go_enter Try.func25, Try.ntmps25
    go_wp2_with (first
      | (go_at_call 14; refine (rcan_any _ _).mono ?_; rintro e w' ⟨rfl, rfl⟩)
      | (go_at_call 25; refine (cr _).mono ?_; rintro e w' ⟨rfl, rfl⟩))
    go_ret2
    exact ⟨ret_ib HF.out.symm rfl, rfl⟩
end Go.Proofs.Ytoeknlnmcfnkoaa
