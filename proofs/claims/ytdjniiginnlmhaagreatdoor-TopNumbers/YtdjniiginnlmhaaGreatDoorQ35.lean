/-
  A number below 2^52 there and back through a float: plain mathematics.
-/
import Derived.Test.YtdjniiginnlmhaaGreatDoorQ34
namespace Go.Proofs.YtdjniiginnlmhaaGreatDoor
open Go.RowKit

theorem big_pow {n k : Nat} (h : n < 1267650600228229401496703205376) (hk : 100 ≤ k) : n < 2 ^ k :=
  Nat.lt_of_lt_of_le h (Nat.pow_le_pow_right (n := 2) (i := 100) (by decide) hk)
theorem rung_back {n r : Nat} (hn : n < 4503599627370496) (h : Rung n r) : expo r ≤ 1072 ∧ fromN r = n := by
  obtain ⟨s, s1, s2, s3, s4, rfl⟩ := h
  have hs : 14 ≤ s := by
    rcases Nat.lt_or_ge s 14 with k | k
    · exfalso
      have hp : 2 ^ s ≤ 2 ^ 13 := Nat.pow_le_pow_right (by decide) (by omega)
      have := Nat.mul_le_mul (show n ≤ 4503599627370495 by omega) hp
      omega
    · exact k
  have g1 : 4503599627370496 ≤ evenQ (n * 2 ^ s) 10000 := evenQ_ge (by decide) (by omega)
  have g2 : evenQ (n * 2 ^ s) 10000 ≤ 9007199254740992 := evenQ_le (by decide) (by omega)
  have g3 := evenQ_near (n * 2 ^ s) 10000 (by decide)
  generalize evenQ (n * 2 ^ s) 10000 = m at *
  have hp : 2 ^ 14 ≤ 2 ^ s := Nat.pow_le_pow_right (by decide) hs
  have near : evenQ (m * 10000) (2 ^ s) = n := evenQ_of_near (Nat.pow_pos (by decide)) (by omega) (by omega)
  rcases Nat.lt_or_eq_of_le g2 with k | k
  · have e1 : expo ((1074 - s) * 4503599627370496 + m) = 1075 - s := by unfold expo; omega
    have e2 : full ((1074 - s) * 4503599627370496 + m) = m := by unfold full; omega
    refine ⟨by omega, ?_⟩
    rw [fromN_one _ (by omega), e1, e2, ← near]
    have e3 : 1072 - (1075 - s) + 3 = s := by omega
    have := evenQ_scale (m * 1250) (2 ^ (1072 - (1075 - s))) (2 ^ 3) (by decide)
    rw [← Nat.pow_add, e3, Nat.mul_assoc] at this
    exact this.symm
  · subst k
    have e1 : expo ((1074 - s) * 4503599627370496 + 9007199254740992) = 1076 - s := by unfold expo; omega
    have e2 : full ((1074 - s) * 4503599627370496 + 9007199254740992) = 4503599627370496 := by unfold full; omega
    refine ⟨by omega, ?_⟩
    rw [fromN_one _ (by omega), e1, e2, ← near]
    have e3 : 1072 - (1076 - s) + 4 = s := by omega
    have := evenQ_scale (4503599627370496 * 1250) (2 ^ (1072 - (1076 - s))) (2 ^ 4) (by decide)
    rw [← Nat.pow_add, e3] at this
    exact this.symm
theorem to_back {a : Int} {b : Nat} (h : IsTo a b) (ha : a.natAbs < 4503599627370496) : fromB b = true ∧ fromV b = a := by
  rcases h with ⟨h1, h2⟩ | ⟨h1, h2⟩ | ⟨h1, r, h2, h3⟩
  · subst h1 h2
    have : fromN 0 = 0 := by
      rw [fromN_one 0 (by decide)]
      exact evenQ_small (big_pow (k := 1072 - expo 0) (by decide) (by decide))
    have hB : fromB 0 = true := by unfold fromB; rw [this]; decide
    refine ⟨hB, ?_⟩
    unfold fromV; rw [hB, this]; rfl
  · obtain ⟨k1, k2⟩ := rung_back ha h2
    have hl := rung_lt h2
    have hB : fromB b = true := by unfold fromB; rw [k2]; simp; omega
    refine ⟨hB, ?_⟩
    unfold fromV negB
    rw [hB, k2, decide_eq_false (by omega)]
    simp; omega
  · obtain ⟨k1, k2⟩ := rung_back ha h2
    have hl := rung_lt h2
    subst h3
    have hB : fromB (9223372036854775808 + r) = true := by unfold fromB; rw [expo_top, fromN_top, k2]; simp; omega
    refine ⟨hB, ?_⟩
    unfold fromV negB
    rw [hB, fromN_top, k2, decide_eq_true (by omega)]
    simp; omega
end Go.Proofs.YtdjniiginnlmhaaGreatDoor
