/-
  That greater floats have no lesser numbers, and greater numbers no lesser floats.
-/
import Derived.Test.YtbonaldlljdaoaaRealE
namespace Go.Proofs.Ytbonaldlljdaoaa
open Go.RowKit

theorem expo_top (c : Nat) : expo (9223372036854775808 + c) = expo c := by unfold expo; omega
theorem full_top (c : Nat) : full (9223372036854775808 + c) = full c := by unfold full; omega
theorem fromN_top (c : Nat) : fromN (9223372036854775808 + c) = fromN c := by unfold fromN; rw [expo_top, full_top]
theorem fromN_one (c : Nat) (h : expo c ≤ 1072) : fromN c = evenQ (full c * 1250) (2 ^ (1072 - expo c)) := by
  unfold fromN
  split
  · rename_i g
    rw [g, Nat.sub_self, Nat.pow_zero]
    have := evenQ_exact (full c * 1250) 1 (by decide)
    rw [Nat.mul_one] at this
    exact this.symm
  · have e : 1072 - expo c = 1071 - expo c + 1 := by omega
    rw [e, Nat.pow_succ, ← evenQ_scale (full c * 625) _ 2 (by decide), Nat.mul_assoc]
theorem fromN_mono {c d : Nat} (hd : d < 9223372036854775808) (h : c ≤ d) (he : expo d ≤ 1072) : fromN c ≤ fromN d := by
  have hc : expo c ≤ expo d := by unfold expo; omega
  rw [fromN_one c (by omega), fromN_one d he]
  have fc := full_bd c
  have fd := full_bd d
  refine evenQ_cross (Nat.pow_pos (by decide)) (Nat.pow_pos (by decide)) ?_
  rcases Nat.lt_or_eq_of_le hc with g | g
  · have e : 1072 - expo c = (1072 - expo d) + (expo d - expo c - 1) + 1 := by omega
    rw [e, Nat.pow_succ, Nat.pow_add]
    have hp : 1 ≤ 2 ^ (expo d - expo c - 1) := Nat.pow_pos (by decide)
    generalize 2 ^ (1072 - expo d) = p
    generalize 2 ^ (expo d - expo c - 1) = q at *
    have k1 : p * 1 ≤ p * q := Nat.mul_le_mul_left p hp
    have k2 : full c * 1250 * p ≤ full d * 1250 * 2 * p := Nat.mul_le_mul_right p (by omega)
    have k3 : full d * 1250 * 2 * p ≤ full d * 1250 * 2 * (p * q) := Nat.mul_le_mul_left _ (by omega)
    have k4 : full d * 1250 * 2 * (p * q) = full d * 1250 * (p * q * 2) := by rw [Nat.mul_assoc (full d * 1250), Nat.mul_comm 2]
    omega
  · have hf : full c ≤ full d := by
      have : c / 4503599627370496 % 2048 = d / 4503599627370496 % 2048 := g
      unfold full; omega
    rw [g]
    exact Nat.mul_le_mul_right _ (Nat.mul_le_mul_right _ hf)
theorem from_mono {a b : Nat} (ha : a < 18446744073709551616) (hb : b < 18446744073709551616) (ka : fromB a = true) (kb : fromB b = true) (h : placeI a < placeI b) : fromV a ≤ fromV b := by
  have ka2 : expo a ≤ 1072 := by unfold fromB at ka; simp at ka; exact ka.1
  have kb2 : expo b ≤ 1072 := by unfold fromB at kb; simp at kb; exact kb.1
  unfold fromV
  rw [ka, kb]
  simp only [if_true]
  unfold placeI at h
  unfold negB
  rcases Nat.lt_or_ge a 9223372036854775808 with g1 | g1
  · rcases Nat.lt_or_ge b 9223372036854775808 with g2 | g2
    · rw [if_pos g1, if_pos g2] at h
      have := fromN_mono g2 (show a ≤ b by omega) kb2
      rw [decide_eq_false (by omega), decide_eq_false (by omega), if_neg (by decide), if_neg (by decide)]
      omega
    · rw [if_pos g1, if_neg (by omega)] at h
      omega
  · rcases Nat.lt_or_ge b 9223372036854775808 with g2 | g2
    · rw [decide_eq_true g1, decide_eq_false (by omega), if_pos rfl, if_neg (by decide)]
      omega
    · rw [if_neg (by omega), if_neg (by omega)] at h
      obtain ⟨c, rfl⟩ : ∃ c, a = 9223372036854775808 + c := ⟨a - 9223372036854775808, by omega⟩
      obtain ⟨d, rfl⟩ : ∃ d, b = 9223372036854775808 + d := ⟨b - 9223372036854775808, by omega⟩
      rw [expo_top] at ka2
      have := fromN_mono (show c < 9223372036854775808 by omega) (show d ≤ c by omega) ka2
      rw [decide_eq_true g1, decide_eq_true g2, if_pos rfl, if_pos rfl, fromN_top, fromN_top]
      omega
theorem rung_mono {n m r t : Nat} (hr : Rung n r) (ht : Rung m t) (h : n ≤ m) : r ≤ t := by
  obtain ⟨s, a1, a2, a3, a4, rfl⟩ := hr
  obtain ⟨u, b1, b2, b3, b4, rfl⟩ := ht
  have e1 : evenQ (n * 2 ^ s) 10000 ≤ 9007199254740992 := evenQ_le (by decide) (by omega)
  have e2 : 4503599627370496 ≤ evenQ (m * 2 ^ u) 10000 := evenQ_ge (by decide) (by omega)
  rcases Nat.lt_trichotomy s u with g | g | g
  · exfalso
    have e : u = s + (u - s - 1) + 1 := by omega
    rw [e, Nat.pow_succ, Nat.pow_add] at b4
    have hp : 1 ≤ 2 ^ (u - s - 1) := Nat.pow_pos (by decide)
    generalize 2 ^ (u - s - 1) = q at *
    generalize 2 ^ s = p at *
    have k1 : n * p ≤ m * p := Nat.mul_le_mul_right p h
    have k2 : m * p * 1 ≤ m * p * q := Nat.mul_le_mul_left _ hp
    have k3 : m * (p * q * 2) = m * p * q * 2 := by rw [Nat.mul_assoc, Nat.mul_assoc, Nat.mul_assoc]
    omega
  · subst g
    have := evenQ_mono 10000 (Nat.mul_le_mul_right (2 ^ s) h)
    omega
  · have : (1074 - s + 1) * 4503599627370496 ≤ (1074 - u) * 4503599627370496 := Nat.mul_le_mul_right _ (by omega)
    omega
theorem to_mono {a b : Int} {f g : Nat} (ha : IsTo a f) (hb : IsTo b g) (h : a ≤ b) : ¬ placeI g < placeI f := by
  have key : ∀ {x : Int} {y : Nat}, IsTo x y → (x = 0 ∧ placeI y = 0) ∨ (0 < x ∧ ∃ r : Nat, Rung x.natAbs r ∧ placeI y = r) ∨ (x < 0 ∧ ∃ r : Nat, Rung x.natAbs r ∧ placeI y = -(r : Int)) := by
    intro x y hx
    rcases hx with ⟨h1, h2⟩ | ⟨h1, h2⟩ | ⟨h1, r, h2, h3⟩
    · exact .inl ⟨h1, by rw [h2]; rfl⟩
    · have := rung_lt h2
      exact .inr (.inl ⟨h1, y, h2, by unfold placeI; rw [if_pos (by omega)]⟩)
    · have := rung_lt h2
      exact .inr (.inr ⟨h1, r, h2, by unfold placeI; rw [h3, if_neg (by omega)]; omega⟩)
  rcases key ha with ⟨h1, h2⟩ | ⟨h1, r, h2, h3⟩ | ⟨h1, r, h2, h3⟩ <;> rcases key hb with ⟨k1, k2⟩ | ⟨k1, t, k2, k3⟩ | ⟨k1, t, k2, k3⟩
  · omega
  · omega
  · omega
  · omega
  · have := rung_mono h2 k2 (by omega); omega
  · omega
  · omega
  · omega
  · have := rung_mono k2 h2 (by omega); omega
end Go.Proofs.Ytbonaldlljdaoaa
