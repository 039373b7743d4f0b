/-
  Contracts of package real's To, of the document's order of floats.
-/
import Derived.Test.YtbonaldlljdaoaaRealD
namespace Go.Proofs.Ytbonaldlljdaoaa
open Go.RowKit
set_option maxHeartbeats 1000000

theorem rung_lt {n r : Nat} (h : Rung n r) : 4503599627370496 ≤ r ∧ r < 4838866438106480640 := by
  obtain ⟨s, s1, s2, s3, s4, rfl⟩ := h
  have g1 : 4503599627370496 ≤ evenQ (n * 2 ^ s) 10000 := evenQ_ge (by decide) (by omega)
  have g2 : evenQ (n * 2 ^ s) 10000 ≤ 9007199254740992 := evenQ_le (by decide) (by omega)
  omega
/-- b is the float nearest to a. -/
def IsTo (a : Int) (b : Nat) : Prop := (a = 0 ∧ b = 0) ∨ (0 < a ∧ Rung a.natAbs b) ∨ (a < 0 ∧ ∃ r, Rung a.natAbs r ∧ b = 9223372036854775808 + r)
theorem or_top (r : Nat) (h : r < 9223372036854775808) : bits .or .u64 9223372036854775808 (r : Int) = ((9223372036854775808 + r : Nat) : Int) := by
  rw [show (9223372036854775808 : Int) = ((9223372036854775808 : Nat) : Int) from rfl, bits_or_u64_nat _ _ (by omega) (by omega)]
  have h := Nat.two_pow_add_eq_or_of_lt (i := 63) (b := r) h 1
  rw [show 2 ^ 63 * 1 = 9223372036854775808 from rfl] at h
  rw [h]
theorem to_no (w : World) : Calls Try.prog 12 #[.int .i64 (-9223372036854775808)] w fun e w' => e = .returned (.tuple #[.int .u64 0, .bool false]) ∧ Ext w w' := by
  go_enter Try.func12, Try.ntmps12
  go_wp2_with fail
  refine (can_any _ _).mono ?_
  rintro e w1 ⟨rfl, rfl⟩
  rw [show canB (-9223372036854775808) = false from rfl]
  go_wp2
  go_ret2
  exact ⟨rfl, Ext.refl _⟩
theorem to_any (a : Int) (ha : I64 a) (h : a ≠ -9223372036854775808) (w : World) : Calls Try.prog 12 #[.int .i64 a] w fun e w' => (∃ b : Nat, e = .returned (.tuple #[.int .u64 (b : Int), .bool true]) ∧ IsTo a b) ∧ Ext w w' := by
  have hc : canB a = true := by unfold canB; simpa using h
  have c1 := fun W => can_any a W
  rw [hc] at c1
  obtain ⟨a1, a2⟩ := ha
  rcases Int.lt_trichotomy a 0 with g | g | g
  · have c2 := fun W => byone_any a.natAbs (by omega) (by omega) W
    have e1 : ((a.natAbs : Nat) : Int) = -a := by omega
    rw [e1] at c2
    have g0 : (a == 0) = false := by simp; omega
    have g3 : -9223372036854775807 ≤ a := by omega
    clear hc h e1 a1
    have HA : Hid (∀ r b, Rung a.natAbs r → b = 9223372036854775808 + r → IsTo a b) := fun r b h1 h2 => Or.inr (Or.inr ⟨g, r, h1, h2⟩)
    generalize a.natAbs = n at *
    go_enter Try.func12, Try.ntmps12
    go_wp2_with fail
    refine (c1 _).mono ?_
    rintro e w1 ⟨rfl, rfl⟩
    go_wp2_with fail
    refine (c2 _).mono ?_
    rintro e w2 ⟨⟨r, rfl, hr⟩, E2⟩
    have hl := rung_lt hr
    have eo := or_top r (by omega)
    obtain ⟨B, hB⟩ : ∃ B, B = 9223372036854775808 + r := ⟨_, rfl⟩
    rw [← hB] at eo
    have HI : Hid (IsTo a B) := HA.out r B hr hB
    clear hl hr hB HA
    go_wp2
    go_ret2
    exact ⟨⟨B, rfl, HI.out⟩, E2⟩
  · subst g
    clear hc h a1 a2
    go_enter Try.func12, Try.ntmps12
    go_wp2_with fail
    refine (c1 _).mono ?_
    rintro e w1 ⟨rfl, rfl⟩
    go_wp2
    go_ret2
    exact ⟨⟨0, rfl, Or.inl ⟨rfl, rfl⟩⟩, Ext.refl _⟩
  · have c2 := fun W => byone_any a.natAbs (by omega) (by omega) W
    have e1 : ((a.natAbs : Nat) : Int) = a := by omega
    rw [e1] at c2
    have g0 : (a == 0) = false := by simp; omega
    clear hc h e1 a1
    have HA : Hid (∀ r, Rung a.natAbs r → IsTo a r) := fun r h1 => Or.inr (Or.inl ⟨g, h1⟩)
    generalize a.natAbs = n at *
    go_enter Try.func12, Try.ntmps12
    go_wp2_with fail
    refine (c1 _).mono ?_
    rintro e w1 ⟨rfl, rfl⟩
    go_wp2_with fail
    refine (c2 _).mono ?_
    rintro e w2 ⟨⟨r, rfl, hr⟩, E2⟩
    have HI : Hid (IsTo a r) := HA.out r hr
    clear hr HA
    go_wp2
    go_ret2
    exact ⟨⟨r, rfl, HI.out⟩, E2⟩

/-- A float's place among all. -/
def placeI (b : Nat) : Int := if b < 9223372036854775808 then b else 9223372036854775808 - (b : Int)
theorem place_any (b : Nat) (hb : b < 18446744073709551616) (w : World) : Calls Try.prog 41 #[.int .u64 b] w fun e w' => e = .returned (.int .i64 (placeI b)) ∧ w' = w := by
  rcases Nat.lt_or_ge b 9223372036854775808 with g | g
  · have e1 : placeI b = b := by unfold placeI; rw [if_pos g]
    have e2 : ((b : Int) / 9223372036854775808 == 1) = false := by simp; omega
    have gI : (b : Int) < 9223372036854775808 := by omega
    rw [e1]
    clear e1 g hb
    go_enter Try.func41, Try.ntmps41
    go_wp2
    go_ret
    exact ⟨rfl, rfl⟩
  · obtain ⟨c, rfl⟩ : ∃ c, b = 9223372036854775808 + c := ⟨b - 9223372036854775808, by omega⟩
    have e1 : placeI (9223372036854775808 + c) = -(c : Int) := by unfold placeI; rw [if_neg (by omega)]; omega
    have e2 : (((9223372036854775808 + c : Nat) : Int) / 9223372036854775808 == 1) = true := by simp; omega
    have e3 : IntKind.u64.wrap (((9223372036854775808 + c : Nat) : Int) - 9223372036854775808) = (c : Int) := by rw [wrapU]; omega
    have e4 : wrap64 (c : Int) = c := by unfold wrap64; omega
    have e5 : wrap64 (-(c : Int)) = -c := by unfold wrap64; omega
    rw [e1]
    clear e1 g hb
    obtain ⟨B, hB⟩ : ∃ B : Int, B = ((9223372036854775808 + c : Nat) : Int) := ⟨_, rfl⟩
    rw [← hB] at e2 e3 ⊢
    clear hB
    go_enter Try.func41, Try.ntmps41
    go_wp2
    go_ret
    exact ⟨ret_int e5, rfl⟩
theorem less_any (a b : Nat) (ha : a < 18446744073709551616) (hb : b < 18446744073709551616) (w : World) : Calls Try.prog 19 #[.int .u64 a, .int .u64 b] w fun e w' => e = .returned (.bool (decide (placeI a < placeI b))) ∧ w' = w := by
  have c1 := fun W => place_any a ha W
  have c2 := fun W => place_any b hb W
  generalize placeI a = x at *
  generalize placeI b = y at *
  go_enter Try.func19, Try.ntmps19
  go_wp2_with fail
  refine (c1 _).mono ?_
  rintro e w1 ⟨rfl, rfl⟩
  go_wp2_with fail
  refine (c2 _).mono ?_
  rintro e w2 ⟨rfl, rfl⟩
  go_wp2
  go_ret
  exact ⟨rfl, rfl⟩
end Go.Proofs.Ytbonaldlljdaoaa
