/-
  The contract of the document's sum of two floats.
-/
import Derived.Test.YtbonaldlljdaoaaMeanC
namespace Go.Proofs.Ytbonaldlljdaoaa
open Go.RowKit
set_option maxHeartbeats 4000000

/-- The sum's word, or the NaN. -/
def addW (x y : Nat) : Nat := (Ieee.double.add x y).getD 9221120237041090560
theorem inf_bits (x : Nat) (hx : x < 18446744073709551616) (k1 : expo x = 2047) (k2 : x % 4503599627370496 = 0) : x = if negB x then 18442240474082181120 else 9218868437227405312 := by
  unfold expo at k1
  by_cases h : 9223372036854775808 ≤ x
  · have : negB x = true := by unfold negB; exact decide_eq_true h
    rw [this]; simp; omega
  · have : negB x = false := by unfold negB; exact decide_eq_false h
    rw [this]; simp; omega
theorem add_inf_num (x y : Nat) (hx : x < 18446744073709551616) (hy : y < 18446744073709551616) (k1 : expo x = 2047) (k2 : x % 4503599627370496 = 0) (k3 : expo y ≠ 2047) : addW x y = x ∧ addW y x = x := by
  unfold addW Ieee.Format.add
  rw [read_inf x hx k1 k2, read_num y hy k3]
  constructor
  · show Ieee.double.write (.infinity (negB x)) = x
    exact inf_word x hx k1 k2
  · show Ieee.double.write (.infinity (negB x)) = x
    exact inf_word x hx k1 k2
theorem add_inf_inf (x y : Nat) (hx : x < 18446744073709551616) (hy : y < 18446744073709551616) (k1 : expo x = 2047) (k2 : x % 4503599627370496 = 0) (k3 : expo y = 2047) (k4 : y % 4503599627370496 = 0) : addW x y = if x = y then x else 9221120237041090560 := by
  unfold addW Ieee.Format.add
  rw [read_inf x hx k1 k2, read_inf y hy k3 k4]
  have ex := inf_bits x hx k1 k2
  have ey := inf_bits y hy k3 k4
  show (Option.map _ (if negB x = negB y then some (Ieee.Datum.infinity (negB x)) else none)).getD _ = _
  by_cases h : negB x = negB y
  · have hxy : x = y := by rw [ex, ey, h]
    rw [if_pos h, if_pos hxy]
    exact inf_word x hx k1 k2
  · have hxy : x ≠ y := fun e => h (by rw [e])
    rw [if_neg h, if_neg hxy]
    rfl
theorem kind_eq (x : Nat) : (expo x = 2047 ∧ x % 4503599627370496 ≠ 0 ∧ kindI x = 2) ∨ (expo x = 2047 ∧ x % 4503599627370496 = 0 ∧ kindI x = 1) ∨ (expo x ≠ 2047 ∧ kindI x = 0) := by
  unfold kindI
  by_cases h : expo x = 2047
  · by_cases h0 : x % 4503599627370496 = 0
    · exact .inr (.inl ⟨h, h0, by rw [if_pos h, if_pos h0]⟩)
    · exact .inl ⟨h, h0, by rw [if_pos h, if_neg h0]⟩
  · exact .inr (.inr ⟨h, by rw [if_neg h]⟩)
theorem radd_special (x y : Nat) (hx : x < 18446744073709551616) (hy : y < 18446744073709551616) (h : expo x = 2047 ∨ expo y = 2047) (w : World) : Calls Try.prog 45 #[.int .u64 (x : Nat), .int .u64 (y : Nat)] w fun e w' => e = .returned (.int .u64 (addW x y : Nat)) ∧ Ext w w' := by
  have cK := fun W => kind_any x hx W
  have cL := fun W => kind_any y hy W
  rcases kind_eq x with ⟨a1, a2, a3⟩ | ⟨a1, a2, a3⟩ | ⟨a1, a3⟩
  · have eR : addW x y = 9221120237041090560 := by unfold addW; rw [nan_add y (read_nan x a1 a2)]; rfl
    rw [eR]
    rw [a3] at cK
    clear eR h a1 a2 a3
    go_enter Try.func45, Try.ntmps45
    go_wp2_with fail
    refine (cK _).mono ?_
    rintro e w1 ⟨rfl, rfl⟩
    go_wp2_with fail
    refine (nan_any _).mono ?_
    rintro e w1 ⟨rfl, rfl⟩
    go_wp2
    go_ret
    exact ⟨rfl, Ext.refl _⟩
  · rw [a3] at cK
    rcases kind_eq y with ⟨b1, b2, b3⟩ | ⟨b1, b2, b3⟩ | ⟨b1, b3⟩
    · have eR : addW x y = 9221120237041090560 := by unfold addW; rw [add_nan x (read_nan y b1 b2)]; rfl
      rw [eR]
      rw [b3] at cL
      clear eR h a1 a2 a3 b1 b2 b3
      go_enter Try.func45, Try.ntmps45
      go_wp2_with fail
      refine (cK _).mono ?_
      rintro e w1 ⟨rfl, rfl⟩
      go_wp2_with fail
      refine (cL _).mono ?_
      rintro e w1 ⟨rfl, rfl⟩
      go_wp2_with fail
      refine (nan_any _).mono ?_
      rintro e w1 ⟨rfl, rfl⟩
      go_wp2
      go_ret
      exact ⟨rfl, Ext.refl _⟩
    · rw [b3] at cL
      rw [add_inf_inf x y hx hy a1 a2 b1 b2]
      by_cases hxy : x = y
      · subst hxy
        rw [if_pos rfl]
        have hne : ((x : Int) != (x : Int)) = false := by simp
        clear h a1 a2 a3 b1 b2 b3
        go_enter Try.func45, Try.ntmps45
        go_wp2_with fail
        refine (cK _).mono ?_
        rintro e w1 ⟨rfl, rfl⟩
        go_wp2_with fail
        refine (cL _).mono ?_
        rintro e w1 ⟨rfl, rfl⟩
        go_wp2_with fail
        refine (cK _).mono ?_
        rintro e w1 ⟨rfl, rfl⟩
        go_wp2_with fail
        refine (cL _).mono ?_
        rintro e w1 ⟨rfl, rfl⟩
        go_wp2_with fail
        refine (cK _).mono ?_
        rintro e w1 ⟨rfl, rfl⟩
        go_wp2
        go_ret
        exact ⟨rfl, Ext.refl _⟩
      · rw [if_neg hxy]
        have hne : ((x : Int) != (y : Int)) = true := by simp; omega
        clear h a1 a2 a3 b1 b2 b3 hxy
        go_enter Try.func45, Try.ntmps45
        go_wp2_with fail
        refine (cK _).mono ?_
        rintro e w1 ⟨rfl, rfl⟩
        go_wp2_with fail
        refine (cL _).mono ?_
        rintro e w1 ⟨rfl, rfl⟩
        go_wp2_with fail
        refine (cK _).mono ?_
        rintro e w1 ⟨rfl, rfl⟩
        go_wp2_with fail
        refine (cL _).mono ?_
        rintro e w1 ⟨rfl, rfl⟩
        go_wp2_with fail
        refine (nan_any _).mono ?_
        rintro e w1 ⟨rfl, rfl⟩
        go_wp2
        go_ret
        exact ⟨rfl, Ext.refl _⟩
    · rw [b3] at cL
      rw [(add_inf_num x y hx hy a1 a2 b1).1]
      clear h a1 a2 a3 b1 b3
      go_enter Try.func45, Try.ntmps45
      go_wp2_with fail
      refine (cK _).mono ?_
      rintro e w1 ⟨rfl, rfl⟩
      go_wp2_with fail
      refine (cL _).mono ?_
      rintro e w1 ⟨rfl, rfl⟩
      go_wp2_with fail
      refine (cK _).mono ?_
      rintro e w1 ⟨rfl, rfl⟩
      go_wp2_with fail
      refine (cL _).mono ?_
      rintro e w1 ⟨rfl, rfl⟩
      go_wp2_with fail
      refine (cK _).mono ?_
      rintro e w1 ⟨rfl, rfl⟩
      go_wp2
      go_ret
      exact ⟨rfl, Ext.refl _⟩
  · rw [a3] at cK
    rcases kind_eq y with ⟨b1, b2, b3⟩ | ⟨b1, b2, b3⟩ | ⟨b1, b3⟩
    · have eR : addW x y = 9221120237041090560 := by unfold addW; rw [add_nan x (read_nan y b1 b2)]; rfl
      rw [eR]
      rw [b3] at cL
      clear eR h a1 a3 b1 b2 b3
      go_enter Try.func45, Try.ntmps45
      go_wp2_with fail
      refine (cK _).mono ?_
      rintro e w1 ⟨rfl, rfl⟩
      go_wp2_with fail
      refine (cL _).mono ?_
      rintro e w1 ⟨rfl, rfl⟩
      go_wp2_with fail
      refine (nan_any _).mono ?_
      rintro e w1 ⟨rfl, rfl⟩
      go_wp2
      go_ret
      exact ⟨rfl, Ext.refl _⟩
    · rw [b3] at cL
      rw [(add_inf_num y x hy hx b1 b2 a1).2]
      clear h a1 a3 b1 b2 b3
      go_enter Try.func45, Try.ntmps45
      go_wp2_with fail
      refine (cK _).mono ?_
      rintro e w1 ⟨rfl, rfl⟩
      go_wp2_with fail
      refine (cL _).mono ?_
      rintro e w1 ⟨rfl, rfl⟩
      go_wp2_with fail
      refine (cK _).mono ?_
      rintro e w1 ⟨rfl, rfl⟩
      go_wp2_with fail
      refine (cK _).mono ?_
      rintro e w1 ⟨rfl, rfl⟩
      go_wp2_with fail
      refine (cL _).mono ?_
      rintro e w1 ⟨rfl, rfl⟩
      go_wp2
      go_ret
      exact ⟨rfl, Ext.refl _⟩
    · omega
end Go.Proofs.Ytbonaldlljdaoaa
