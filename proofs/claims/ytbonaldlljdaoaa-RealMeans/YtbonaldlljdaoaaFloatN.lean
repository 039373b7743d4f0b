/-
  The nearest float: one answer for a quotient; the model's is the document's.
-/
import Derived.Test.YtbonaldlljdaoaaRound
import Ieee.Arith
namespace Go.Proofs.Ytbonaldlljdaoaa
set_option maxHeartbeats 1000000

theorem sw' : Ieee.double.signWeight = 9223372036854775808 := by decide
theorem round_mono {A D A' D' r r' : Nat} (h : IsRound A D r) (h' : IsRound A' D' r') (hD : 0 < D) (hD' : 0 < D') (hle : A * D' ≤ A' * D) : r ≤ r' := by
  obtain ⟨a, d, e, ⟨i1, i2, i3, i4⟩, g1, g2, rfl⟩ := h
  obtain ⟨a', d', e', ⟨j1, j2, j3, j4⟩, k1, k2, rfl⟩ := h'
  obtain ⟨K, hK⟩ : ∃ K, K = 1075 := ⟨_, rfl⟩
  rw [← hK] at i1 j1
  clear hK
  have hP : 0 < 2 ^ K := Nat.pow_pos (by decide)
  generalize 2 ^ K = P at *
  have m1 : a * D * 2 ^ e * (d' * D') ≤ a' * D' * 2 ^ e' * (d * D) := by
    rw [← i1, ← j1]
    have e1 : A * d * P * (d' * D') = A * D' * (d * d' * P) := by ac_rfl
    have e2 : A' * d' * P * (d * D) = A' * D * (d * d' * P) := by ac_rfl
    rw [e1, e2]
    exact Nat.mul_le_mul_right _ hle
  have m2 : a * d' * 2 ^ e * (D * D') ≤ a' * d * 2 ^ e' * (D * D') := by
    have e1 : a * d' * 2 ^ e * (D * D') = a * D * 2 ^ e * (d' * D') := by ac_rfl
    have e2 : a' * d * 2 ^ e' * (D * D') = a' * D' * 2 ^ e' * (d * D) := by ac_rfl
    rw [e1, e2]; exact m1
  have m3 : a * d' * 2 ^ e ≤ a' * d * 2 ^ e' := Nat.le_of_mul_le_mul_right m2 (Nat.mul_pos hD hD')
  clear m1 m2 i1 j1 hle hP
  have f1 : evenQ a d ≤ 9007199254740992 := evenQ_le i3 (by rw [Nat.mul_comm]; omega)
  have key : (e - 1) * 4503599627370496 + evenQ a d ≤ (e' - 1) * 4503599627370496 + evenQ a' d' := by
    rcases Nat.lt_trichotomy e e' with g | g | g
    · have f2 : 4503599627370496 ≤ evenQ a' d' := evenQ_ge j3 (by rw [Nat.mul_comm]; omega)
      have := Nat.mul_le_mul_right 4503599627370496 (show e - 1 + 1 ≤ e' - 1 by omega)
      omega
    · subst g
      have := evenQ_cross i3 j3 (Nat.le_of_mul_le_mul_right m3 (Nat.pow_pos (by decide)))
      omega
    · exfalso
      have f2 : d * 2 ^ 52 ≤ a := by omega
      obtain ⟨t, ht⟩ : ∃ t, e = e' + (t + 1) := ⟨e - e' - 1, by omega⟩
      rw [ht, Nat.pow_add, ← Nat.mul_assoc, Nat.mul_right_comm] at m3
      have m4 : a * d' * 2 ^ (t + 1) ≤ a' * d := Nat.le_of_mul_le_mul_right m3 (Nat.pow_pos (by decide))
      have p1 : 2 ≤ 2 ^ (t + 1) := by rw [Nat.pow_succ]; have : 0 < 2 ^ t := Nat.pow_pos (by decide); omega
      have m5 : a * d' * 2 ≤ a * d' * 2 ^ (t + 1) := Nat.mul_le_mul_left _ p1
      have m6 : d * 2 ^ 52 * d' * 2 ≤ a * d' * 2 := Nat.mul_le_mul_right _ (Nat.mul_le_mul_right _ f2)
      have m7 : a' * d < d' * 2 ^ 53 * d := Nat.mul_lt_mul_of_pos_right k1 i3
      have m8 : d' * 2 ^ 53 * d = d * 2 ^ 52 * d' * 2 := by
        rw [show (2 : Nat) ^ 53 = 2 ^ 52 * 2 from rfl]
        generalize (2 : Nat) ^ 52 = B
        ac_rfl
      omega
  exact Nat.le_min.mpr ⟨Nat.min_le_left _ _, Nat.le_trans (Nat.min_le_right _ _) key⟩
theorem round_one {A D A' D' r r' : Nat} (h : IsRound A D r) (h' : IsRound A' D' r') (hD : 0 < D) (hD' : 0 < D') (he : A * D' = A' * D) : r = r' :=
  Nat.le_antisymm (round_mono h h' hD hD' (Nat.le_of_eq he)) (round_mono h' h hD' hD (Nat.le_of_eq he.symm))
theorem cut_even (neg : Bool) (n drop : Nat) : Ieee.Toward.even.cut neg n drop = evenQ n (2 ^ drop) := by
  unfold Ieee.Toward.cut
  simp only [Nat.shiftLeft_eq, Nat.one_mul]
  have key : ∀ k : Nat, n / 2 ^ k + (decide (2 ^ k < 2 * (n % 2 ^ k)) || 2 ^ k == 2 * (n % 2 ^ k) && n / 2 ^ k % 2 == 1).toNat = evenQ n (2 ^ k) := by
    intro k
    unfold evenQ
    have hb : (decide (2 ^ k < 2 * (n % 2 ^ k)) || 2 ^ k == 2 * (n % 2 ^ k) && n / 2 ^ k % 2 == 1) = decide (2 ^ k < 2 * (n % 2 ^ k) ∨ (2 ^ k = 2 * (n % 2 ^ k) ∧ n / 2 ^ k % 2 = 1)) := by
      rw [Bool.eq_iff_iff]; simp
    rw [hb]
    by_cases hc : 2 ^ k < 2 * (n % 2 ^ k) ∨ (2 ^ k = 2 * (n % 2 ^ k) ∧ n / 2 ^ k % 2 = 1)
    · rw [decide_eq_true hc, if_pos hc]; rfl
    · rw [decide_eq_false hc, if_neg hc]; rfl
  rw [key]
  rcases Nat.le_total drop (n.log2 + 2) with h | h
  · rw [Nat.min_eq_left h]
  · rw [Nat.min_eq_right h]
    have hn : n < 2 ^ (n.log2 + 1) := Nat.lt_log2_self
    have e1 : evenQ n (2 ^ (n.log2 + 2)) = 0 := evenQ_small (by rw [Nat.pow_succ]; omega)
    have h2 : 2 ^ (n.log2 + 2) ≤ 2 ^ drop := Nat.pow_le_pow_right (by decide) h
    have e2 : evenQ n (2 ^ drop) = 0 := evenQ_small (by rw [Nat.pow_succ] at h2; omega)
    rw [e1, e2]
theorem nearest_round (neg : Bool) (mag : Nat) (place : Int) (hm : 0 < mag) : ∃ r, Ieee.double.nearest neg mag place = Ieee.double.word neg r ∧ r ≤ 9218868437227405312 ∧
    (∀ p : Nat, place = p → IsRound (mag * 2 ^ p) 1 r) ∧ (∀ p : Nat, place = -(p : Int) → IsRound mag (2 ^ p) r) := by
  obtain ⟨last, hlast⟩ : ∃ last : Int, last = max (place + mag.log2 - 52) (-1074) := ⟨_, rfl⟩
  obtain ⟨up, hup⟩ : ∃ up, up = (place - last).toNat := ⟨_, rfl⟩
  obtain ⟨dn, hdn⟩ : ∃ dn, dn = (last - place).toNat := ⟨_, rfl⟩
  obtain ⟨e, he⟩ : ∃ e : Nat, (e : Int) = last + 1075 := ⟨(last + 1075).toNat, by omega⟩
  have hlo : 2 ^ mag.log2 ≤ mag := Nat.log2_self_le (by omega)
  have hhi : mag < 2 ^ (mag.log2 + 1) := Nat.lt_log2_self
  refine ⟨min ((e - 1) * 4503599627370496 + evenQ (mag * 2 ^ up) (2 ^ dn)) 9218868437227405312, ?_, Nat.min_le_right _ _, ?_⟩
  · unfold Ieee.Format.nearest
    rw [if_neg (by omega)]
    simp only [cut_even, Nat.shiftLeft_eq]
    have l1 : Ieee.double.leastPlace = -1074 := by decide
    have l2 : (Ieee.double.fractionBits : Int) = 52 := by decide
    have l3 : Ieee.double.binade = 4503599627370496 := by decide
    have l4 : Ieee.double.infRung = 9218868437227405312 := by decide
    rw [l1, l2, l3, l4, ← hlast, ← hup, ← hdn]
    have : (last - -1074).toNat = e - 1 := by omega
    rw [this]
  · have conds : mag * 2 ^ up < 2 ^ dn * 2 ^ 53 ∧ (e = 1 ∨ 2 ^ dn * 2 ^ 52 ≤ mag * 2 ^ up) := by
      constructor
      · rw [← Nat.pow_add]
        have h1 : mag * 2 ^ up < 2 ^ (mag.log2 + 1) * 2 ^ up := Nat.mul_lt_mul_of_pos_right hhi (Nat.pow_pos (by decide))
        rw [← Nat.pow_add] at h1
        have h2 : 2 ^ (mag.log2 + 1 + up) ≤ 2 ^ (dn + 53) := Nat.pow_le_pow_right (by decide) (by omega)
        omega
      · by_cases hc : last = -1074
        · left; omega
        · right
          have h1 : 2 ^ mag.log2 * 2 ^ up ≤ mag * 2 ^ up := Nat.mul_le_mul_right _ hlo
          rw [← Nat.pow_add] at h1 ⊢
          rw [show dn + 52 = mag.log2 + up by omega]
          exact h1
    have hpos : 0 < mag * 2 ^ up ∧ 0 < 2 ^ dn := ⟨Nat.mul_pos hm (Nat.pow_pos (by decide)), Nat.pow_pos (by decide)⟩
    have he1 : 1 ≤ e := by omega
    obtain ⟨K, hK⟩ : ∃ K : Nat, K = 1075 := ⟨_, rfl⟩
    constructor
    · intro p hp
      refine ⟨mag * 2 ^ up, 2 ^ dn, e, ⟨?_, hpos.1, hpos.2, he1⟩, conds.1, conds.2, ?_⟩
      · rw [← hK, Nat.mul_one, Nat.mul_assoc, Nat.mul_assoc, Nat.mul_assoc, ← Nat.pow_add, ← Nat.pow_add, ← Nat.pow_add, show p + (dn + K) = up + e by omega]
      · rw [Nat.min_comm]
    · intro p hp
      refine ⟨mag * 2 ^ up, 2 ^ dn, e, ⟨?_, hpos.1, hpos.2, he1⟩, conds.1, conds.2, ?_⟩
      · rw [← hK, Nat.mul_assoc, Nat.mul_assoc, Nat.mul_assoc, ← Nat.pow_add, ← Nat.pow_add, ← Nat.pow_add, show dn + K = up + (p + e) by omega]
      · rw [Nat.min_comm]
end Go.Proofs.Ytbonaldlljdaoaa
