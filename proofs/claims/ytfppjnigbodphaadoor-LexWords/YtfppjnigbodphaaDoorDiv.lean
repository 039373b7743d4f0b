/-
  Plain arithmetic of the long division by halves of 32 bits (math/bits.Div64): no program in sight.
-/
import Derived.Test.YtfppjnigbodphaaDoorNum
import Derived.Lib.BitFns
namespace Go.Proofs.YtfppjnigbodphaaDoor

/-- What holds at each round's head of either loop: n1, n0 the dividend's upper word and next half, y1, y0 the divisor's halves, q the guess, r what it leaves of n1; K: 2^32. -/
structure Guess (K n1 n0 y1 y0 q r : Nat) : Prop where
  eq : q * y1 + r = n1
  up : r * K + n0 < q * y0 + y1 * K + y0

theorem guess_start {K n1 n0 y1 y0 : Nat} (hy : 0 < y1) (h0 : n0 < K) : Guess K n1 n0 y1 y0 (n1 / y1) (n1 - n1 / y1 * y1) := by
  have h1 : n1 / y1 * y1 ≤ n1 := Nat.div_mul_le_self n1 y1
  have h2 : n1 % y1 < y1 := Nat.mod_lt _ hy
  have h3 : n1 - n1 / y1 * y1 = n1 % y1 := by have := Nat.div_add_mod n1 y1; rw [Nat.mul_comm] at this; omega
  refine ⟨by omega, ?_⟩
  rw [h3]
  have h4 : (n1 % y1 + 1) * K ≤ y1 * K := Nat.mul_le_mul h2 (Nat.le_refl _)
  rw [Nat.add_mul, Nat.one_mul] at h4
  omega

theorem guess_lt {K n1 n0 y1 y0 q r : Nat} (g : Guess K n1 n0 y1 y0 q r) (hn : n1 < y1 * K + y0) (h0 : n0 < K) (h : K ≤ q) : r * K + n0 < q * y0 := by
  obtain ⟨e, u⟩ := g
  have hA : K * y1 ≤ q * y1 := Nat.mul_le_mul h (Nat.le_refl _)
  have hB : K * y0 ≤ q * y0 := Nat.mul_le_mul h (Nat.le_refl _)
  have hr : r + 1 ≤ y0 := by rw [Nat.mul_comm K y1] at hA; omega
  have hC : (r + 1) * K ≤ y0 * K := Nat.mul_le_mul hr (Nat.le_refl _)
  rw [Nat.add_mul, Nat.one_mul, Nat.mul_comm y0 K] at hC
  omega

/-- The test says yes: one less. -/
theorem guess_step {K n1 n0 y1 y0 q r : Nat} (g : Guess K n1 n0 y1 y0 q r) (hn : n1 < y1 * K + y0) (h0 : n0 < K)
    (h : K ≤ q ∨ r * K + n0 < q * y0) : 0 < q ∧ Guess K n1 n0 y1 y0 (q - 1) (r + y1) := by
  have hlt : r * K + n0 < q * y0 := by
    rcases h with h | h
    · exact guess_lt g hn h0 h
    · exact h
  obtain ⟨e, u⟩ := g
  have hq : 0 < q := by
    rcases Nat.eq_zero_or_pos q with rfl | h
    · simp at hlt
    · exact h
  obtain ⟨k, rfl⟩ : ∃ k, q = k + 1 := ⟨q - 1, by omega⟩
  refine ⟨hq, ?_, ?_⟩
  · simp only [Nat.add_sub_cancel]; rw [Nat.add_mul] at e; omega
  · simp only [Nat.add_sub_cancel]
    rw [Nat.add_mul, Nat.one_mul] at hlt
    rw [Nat.add_mul]
    omega

/-- The end: the guess is the quotient. -/
theorem guess_end {K n1 n0 y1 y0 q r : Nat} (g : Guess K n1 n0 y1 y0 q r) (h : q * y0 ≤ r * K + n0) :
    q = (n1 * K + n0) / (y1 * K + y0) := by
  obtain ⟨e, u⟩ := g
  have h1 : q * (y1 * K + y0) = q * y1 * K + q * y0 := by rw [Nat.mul_add, Nat.mul_assoc]
  have h2 : (q + 1) * (y1 * K + y0) = q * (y1 * K + y0) + (y1 * K + y0) := by rw [Nat.add_mul, Nat.one_mul]
  have h3 : n1 * K = q * y1 * K + r * K := by rw [← e, Nat.add_mul]
  symm
  apply Nat.div_eq_of_lt_le
  · rw [h1]; omega
  · rw [h2, h1]; omega

/-- The end by the break: r is a word and more. -/
theorem guess_break {K n1 n0 y1 y0 q r : Nat} (g : Guess K n1 n0 y1 y0 q r) (hn : n1 < y1 * K + y0) (hy0 : y0 < K) (hr : K ≤ r) :
    q = (n1 * K + n0) / (y1 * K + y0) := by
  refine guess_end g ?_
  obtain ⟨e, u⟩ := g
  have hq : q < K := by
    rcases Nat.lt_or_ge q K with h | h
    · exact h
    · have hA : K * y1 ≤ q * y1 := Nat.mul_le_mul h (Nat.le_refl _)
      rw [Nat.mul_comm K y1] at hA
      omega
  have : q * y0 ≤ r * K := Nat.mul_le_mul (by omega) (by omega)
  omega

/-- q and r stay small: q at most 2^32 and a little; the products don't wrap. -/
theorem guess_small {n1 n0 y1 y0 q r : Nat} (g : Guess 4294967296 n1 n0 y1 y0 q r) (hy : 2147483648 ≤ y1) (hy1 : y1 < 4294967296) (hy0 : y0 < 4294967296) (hn : n1 < y1 * 4294967296 + y0) : q ≤ 4294967298 := by
  obtain ⟨e, u⟩ := g
  rcases Nat.lt_or_ge 4294967298 q with h | h
  · exfalso
    have hA : 4294967299 * y1 ≤ q * y1 := Nat.mul_le_mul h (Nat.le_refl _)
    omega
  · exact h
end Go.Proofs.YtfppjnigbodphaaDoor
