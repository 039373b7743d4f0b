/-
  The mean of a float, alone or twice, is it.
-/
import Derived.Test.YtbonaldlljdaoaaFloatM
namespace Go.Proofs.Ytbonaldlljdaoaa
open Go.RowKit
set_option maxHeartbeats 1000000

theorem pow_split (f p q : Nat) (h : q ≤ p) : f * 2 ^ (p - q) * 2 ^ q = f * 2 ^ p := by
  rw [Nat.mul_assoc, ← Nat.pow_add, Nat.sub_add_cancel h]
theorem by_exact (x b N : Nat) (hx : x < 18446744073709551616) (hb : b < 18446744073709551616) (kx : expo x ≠ 2047) (kb : expo b ≠ 2047) (fx : 0 < partF x) (fb : 0 < partF b) (hn : negB x = negB b) (h0 : 0 < N) (hN : N ≤ 60)
    (he : partF x * 2 ^ partE x = N * (partF b * 2 ^ partE b)) : Ieee.double.div x (floatOfInt .f64 (N : Int)) = some b := by
  obtain ⟨r, h1, _, h3, h4⟩ := by_round x N hx kx fx h0 hN
  have hr : r = b % 9223372036854775808 := by
    rcases Nat.le_total 1075 (partE x) with g | g
    · refine round_one (h3 g) (exact_round b (partF x * 2 ^ (partE x - 1075)) N kb fb ?_) h0 h0 rfl
      rw [pow_split _ _ _ g, he]
      ac_rfl
    · have hD : 0 < N * 2 ^ (1075 - partE x) := Nat.mul_pos h0 (Nat.pow_pos (by decide))
      refine round_one (h4 g) (exact_round b (partF x) (N * 2 ^ (1075 - partE x)) kb fb ?_) hD hD rfl
      obtain ⟨K, hK⟩ : ∃ K : Nat, K = 1075 := ⟨_, rfl⟩
      rw [← hK] at g ⊢
      have e1 : partF x * 2 ^ K = partF x * 2 ^ partE x * 2 ^ (K - partE x) := by rw [Nat.mul_assoc, ← Nat.pow_add]; congr 2; omega
      rw [e1, he]
      ac_rfl
  rw [h1, hr, hn, word_neg b hb]
/-- A sum whose size is a float's. -/
theorem add_exact (x y b : Nat) (hx : x < 18446744073709551616) (hy : y < 18446744073709551616) (hb : b < 18446744073709551616) (kx : expo x ≠ 2047) (ky : expo y ≠ 2047) (kb : expo b ≠ 2047) (fb : 0 < partF b) (hs : sgnS x y = negB b)
    (he : magS x y * 2 ^ lowE x y = partF b * 2 ^ partE b) : Ieee.double.add x y = some b := by
  have hm : 0 < magS x y := by
    rcases Nat.eq_zero_or_pos (magS x y) with g | g
    · rw [g, Nat.zero_mul] at he
      have : 0 < partF b * 2 ^ partE b := Nat.mul_pos fb (Nat.pow_pos (by decide))
      omega
    · exact g
  obtain ⟨r, h1, _, h3, h4⟩ := add_round x y hx hy kx ky hm
  have hr : r = b % 9223372036854775808 := by
    rcases Nat.le_total 1075 (lowE x y) with g | g
    · refine round_one (h3 g) (exact_round b (magS x y * 2 ^ (lowE x y - 1075)) 1 kb fb ?_) (by decide) (by decide) rfl
      rw [pow_split _ _ _ g, he, Nat.mul_one]
    · have hD : 0 < 2 ^ (1075 - lowE x y) := Nat.pow_pos (by decide)
      refine round_one (h4 g) (exact_round b (magS x y) (2 ^ (1075 - lowE x y)) kb fb ?_) hD hD rfl
      obtain ⟨K, hK⟩ : ∃ K : Nat, K = 1075 := ⟨_, rfl⟩
      rw [← hK] at g ⊢
      have e1 : magS x y * 2 ^ K = magS x y * 2 ^ lowE x y * 2 ^ (K - lowE x y) := by rw [Nat.mul_assoc, ← Nat.pow_add]; congr 2; omega
      rw [e1, he]
      ac_rfl
  rw [h1, hr, hs, word_neg b hb]
theorem zero_parts : expo 0 = 0 ∧ partF 0 = 0 ∧ partE 0 = 1 ∧ negB 0 = false := by decide
theorem add_zero (b : Nat) (hb : b < 18446744073709551616) (kb : expo b ≠ 2047) (h : b ≠ 9223372036854775808) : Ieee.double.add 0 b = some b := by
  obtain ⟨z1, z2, z3, z4⟩ := zero_parts
  have hE := partE_bd b
  have hlow : lowE 0 b = 1 := by unfold lowE; rw [z3]; split <;> omega
  have hX : topX 0 b = 0 := by unfold topX; rw [z2, Nat.zero_mul]
  have hY : topY 0 b = partF b * 2 ^ (partE b - 1) := by unfold topY; rw [hlow]
  have hm : magS 0 b = partF b * 2 ^ (partE b - 1) := by
    unfold magS; rw [hX, hY, z4]; split
    · omega
    · split <;> omega
  rcases Nat.eq_zero_or_pos (partF b) with g | g
  · have h0 : b = 0 := by rcases partF_zero b hb g with k | k <;> omega
    subst h0
    rw [add_nought 0 0 (by decide) (by decide) (by decide) (by decide) (by rw [hm, g, Nat.zero_mul]), z4]
    rfl
  · refine add_exact 0 b b (by decide) hb hb (by decide) kb kb g ?_ ?_
    · have hp : 0 < partF b * 2 ^ (partE b - 1) := Nat.mul_pos g (Nat.pow_pos (by decide))
      unfold sgnS
      rw [hm, if_neg (by omega), z4]
      split
      · assumption
      · rw [hX, hY, if_neg (by omega)]
    · rw [hm, hlow, pow_split _ _ _ hE.1]
theorem add_twice (b : Nat) (hb : b < 18446744073709551616) (kb : expo b ≤ 2040) (fb : 0 < partF b) : ∃ z, Ieee.double.add b b = some z ∧ z < 18446744073709551616 ∧ expo z ≠ 2047 ∧ negB z = negB b ∧ 0 < partF z ∧ partF z * 2 ^ partE z = 2 * (partF b * 2 ^ partE b) := by
  have hE := partE_bd b
  have hlow : lowE b b = partE b := by unfold lowE; split <;> rfl
  have hX : topX b b = partF b := by unfold topX; rw [hlow, Nat.sub_self, Nat.pow_zero, Nat.mul_one]
  have hY : topY b b = partF b := by unfold topY; rw [hlow, Nat.sub_self, Nat.pow_zero, Nat.mul_one]
  have hm : magS b b = 2 * partF b := by unfold magS; rw [if_pos rfl, hX, hY]; omega
  have hs : sgnS b b = negB b := by unfold sgnS; rw [hm, if_neg (by omega), if_pos rfl]
  have key : ∀ z, z < 18446744073709551616 → expo z ≠ 2047 → negB z = negB b → 0 < partF z → partF z * 2 ^ partE z = 2 * (partF b * 2 ^ partE b) → ∃ z, Ieee.double.add b b = some z ∧ z < 18446744073709551616 ∧ expo z ≠ 2047 ∧ negB z = negB b ∧ 0 < partF z ∧ partF z * 2 ^ partE z = 2 * (partF b * 2 ^ partE b) := by
    intro z z1 z2 z3 z4 z5
    refine ⟨z, add_exact b b z hb hb z1 (by omega) (by omega) z2 z4 (by rw [hs, z3]) ?_, z1, z2, z3, z4, z5⟩
    rw [hm, hlow, z5, Nat.mul_assoc]
  by_cases h0 : expo b = 0
  · have f1 : partF b = b % 4503599627370496 := by unfold partF; rw [if_pos h0]
    have e1 : partE b = 1 := by unfold partE; rw [if_pos h0]
    have hlt : b + b % 4503599627370496 < 18446744073709551616 := by unfold expo at h0; omega
    have g1 : partE (b + b % 4503599627370496) = 1 ∧ partF (b + b % 4503599627370496) = 2 * (b % 4503599627370496) ∧ expo (b + b % 4503599627370496) ≠ 2047 := by
      by_cases k : b % 4503599627370496 < 2251799813685248
      · have : expo (b + b % 4503599627370496) = 0 := by unfold expo at h0 ⊢; omega
        refine ⟨by unfold partE; rw [if_pos this], ?_, by omega⟩
        unfold partF; rw [if_pos this]; omega
      · have : expo (b + b % 4503599627370496) = 1 := by unfold expo at h0 ⊢; omega
        refine ⟨by unfold partE; rw [if_neg (by omega), this], ?_, by omega⟩
        unfold partF full; rw [if_neg (by omega)]; omega
    refine key (b + b % 4503599627370496) hlt g1.2.2 ?_ (by rw [g1.2.1]; omega) (by rw [g1.1, g1.2.1, e1, f1, Nat.mul_assoc])
    unfold negB; rw [Bool.eq_iff_iff]; simp; unfold expo at h0; omega
  · have f1 : partF b = full b := by unfold partF; rw [if_neg h0]
    have e1 : partE b = expo b := by unfold partE; rw [if_neg h0]
    have hlt : b + 4503599627370496 < 18446744073709551616 := by unfold expo at h0 kb; omega
    have g0 : expo (b + 4503599627370496) = expo b + 1 := by unfold expo at h0 kb ⊢; omega
    have g1 : partE (b + 4503599627370496) = expo b + 1 := by unfold partE; rw [g0, if_neg (by omega)]
    have g2 : partF (b + 4503599627370496) = full b := by unfold partF; rw [g0, if_neg (by omega)]; unfold full; omega
    have hfb := full_bd b
    refine key (b + 4503599627370496) hlt (by omega) ?_ (by rw [g2]; omega) (by rw [g1, g2, e1, f1, Nat.pow_succ]; ac_rfl)
    unfold negB; rw [Bool.eq_iff_iff]; simp; unfold expo at h0 kb; omega
theorem inf_word (b : Nat) (hb : b < 18446744073709551616) (h : expo b = 2047) (h0 : b % 4503599627370496 = 0) : Ieee.double.write (.infinity (negB b)) = b := by
  have hw := word_neg b hb
  show Ieee.double.word (negB b) Ieee.double.infRung = b
  rw [infr]
  have : b % 9223372036854775808 = 9218868437227405312 := by unfold expo at h; omega
  rw [this] at hw
  exact hw
theorem mean_same (b : Nat) (hb : b < 18446744073709551616) (h : b ≠ 9223372036854775808) (hk : expo b ≤ 2040 ∨ (expo b = 2047 ∧ b % 4503599627370496 = 0)) : meanW [b] = b ∧ meanW [b, b] = b := by
  rcases hk with kb | ⟨k1, k2⟩
  · have a1 := add_zero b hb (by omega) h
    rcases Nat.eq_zero_or_pos (partF b) with g | g
    · have h0 : b = 0 := by rcases partF_zero b hb g with k | k <;> omega
      subst h0
      exact ⟨by decide +kernel, by decide +kernel⟩
    · obtain ⟨z, z1, z2, z3, z4, z5, z6⟩ := add_twice b hb kb g
      constructor
      · have e : sumW [b] = some b := a1
        unfold meanW
        rw [e]
        show (Ieee.double.div b (floatOfInt .f64 ((1 : Nat) : Int))).getD _ = b
        rw [by_exact b b 1 hb hb (by omega) (by omega) g g rfl (by decide) (by decide) (by omega)]
        rfl
      · have e : sumW [b, b] = some z := by
          show ((some 0).bind fun a => Ieee.double.add a b).bind _ = _
          rw [show ((some 0).bind fun a => Ieee.double.add a b) = some b from a1]
          exact z1
        unfold meanW
        rw [e]
        show (Ieee.double.div z (floatOfInt .f64 ((2 : Nat) : Int))).getD _ = b
        rw [by_exact z b 2 z2 hb z3 (by omega) z5 g z4 (by decide) (by decide) z6]
        rfl
  · have r1 := read_inf b hb k1 k2
    have w1 := inf_word b hb k1 k2
    have a1 : Ieee.double.add 0 b = some b := by
      unfold Ieee.Format.add
      rw [r1, read_num 0 (by decide) (by decide)]
      show some (Ieee.double.write (.infinity (negB b))) = some b
      rw [w1]
    have a2 : Ieee.double.add b b = some b := by
      unfold Ieee.Format.add
      rw [r1]
      show Option.map _ (if negB b = negB b then some (Ieee.Datum.infinity (negB b)) else none) = some b
      rw [if_pos rfl]
      show some (Ieee.double.write (.infinity (negB b))) = some b
      rw [w1]
    have dv : ∀ N, 0 < N → N ≤ 60 → Ieee.double.div b (floatOfInt .f64 ((N : Nat) : Int)) = some b := by
      intro N h0 hN
      obtain ⟨J, hJ⟩ := count_read N h0 hN
      unfold Ieee.Format.div
      rw [r1, hJ]
      show some (Ieee.double.write (.infinity (negB b ^^ false))) = some b
      rw [Bool.xor_false, w1]
    constructor
    · have e : sumW [b] = some b := a1
      unfold meanW
      rw [e]
      show (Ieee.double.div b (floatOfInt .f64 ((1 : Nat) : Int))).getD _ = b
      rw [dv 1 (by decide) (by decide)]; rfl
    · have e : sumW [b, b] = some b := by
        show ((some 0).bind fun a => Ieee.double.add a b).bind _ = _
        rw [show ((some 0).bind fun a => Ieee.double.add a b) = some b from a1]
        exact a2
      unfold meanW
      rw [e]
      show (Ieee.double.div b (floatOfInt .f64 ((2 : Nat) : Int))).getD _ = b
      rw [dv 2 (by decide) (by decide)]; rfl
theorem add_nan (x : Nat) {y : Nat} (h : nanW y) : Ieee.double.add x y = none := by
  obtain ⟨s, t, e⟩ := h
  unfold Ieee.Format.add
  rw [e]
  cases Ieee.double.read x <;> rfl
theorem mean_nan (b : Nat) (h : nanW b) : meanW [b] = 9221120237041090560 ∧ meanW [b, b] = 9221120237041090560 := by
  have a1 := add_nan 0 h
  constructor
  · have e : sumW [b] = none := a1
    unfold meanW; rw [e]; rfl
  · have e : sumW [b, b] = none := by
      show ((some 0).bind fun a => Ieee.double.add a b).bind _ = _
      rw [show ((some 0).bind fun a => Ieee.double.add a b) = none from a1]; rfl
    unfold meanW; rw [e]; rfl
end Go.Proofs.Ytbonaldlljdaoaa
