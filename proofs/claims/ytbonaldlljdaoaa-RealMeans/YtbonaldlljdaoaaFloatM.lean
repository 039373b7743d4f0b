/-
  Sums and quotients of floats, in the document's terms.
-/
import Derived.Test.YtbonaldlljdaoaaMeanA
namespace Go.Proofs.Ytbonaldlljdaoaa
open Go.RowKit
set_option maxHeartbeats 1000000

/-- Where a float's own size is asked, it is its own nearest. -/
theorem exact_round (b A D : Nat) (h : expo b ≠ 2047) (hf : 0 < partF b) (he : A * 2 ^ 1075 = partF b * D * 2 ^ partE b) : IsRound A D (b % 9223372036854775808) := by
  have h1 := partE_bd b
  have h2 := partF_lt b
  have hx := expo_lt b
  refine ⟨partF b, 1, partE b, ⟨by rw [Nat.mul_one]; exact he, hf, by decide, h1.1⟩, by omega, ?_, ?_⟩
  · unfold partE partF
    have := full_bd b
    by_cases h0 : expo b = 0
    · left; rw [if_pos h0]
    · right; rw [if_neg h0]; omega
  · have e1 := evenQ_exact (partF b) 1 (by decide)
    rw [Nat.mul_one] at e1
    rw [e1]
    clear he e1
    have e2 : (partE b - 1) * 4503599627370496 + partF b = b % 9223372036854775808 := by
      unfold partE partF full
      by_cases h0 : expo b = 0
      · rw [if_pos h0, if_pos h0]; unfold expo at h0; omega
      · rw [if_neg h0, if_neg h0]; unfold expo at h0 ⊢; omega
    rw [e2]
    refine (Nat.min_eq_right ?_).symm
    unfold expo at h hx
    omega
theorem word_neg (b : Nat) (hb : b < 18446744073709551616) : Ieee.double.word (negB b) (b % 9223372036854775808) = b := by
  unfold Ieee.Format.word negB
  rw [sw]
  by_cases h : 9223372036854775808 ≤ b
  · rw [decide_eq_true h, if_pos rfl]; omega
  · rw [decide_eq_false h, if_neg (by decide)]; omega
theorem partF_zero (b : Nat) (hb : b < 18446744073709551616) (h : partF b = 0) : b = 0 ∨ b = 9223372036854775808 := by
  unfold partF at h
  have := full_bd b
  by_cases h0 : expo b = 0
  · rw [if_pos h0] at h; unfold expo at h0; omega
  · rw [if_neg h0] at h; omega
/-- The size and the sign of a sum, as the document reckons them. -/
def lowE (x y : Nat) : Nat := if partE y < partE x then partE y else partE x
def topX (x y : Nat) : Nat := partF x * 2 ^ (partE x - lowE x y)
def topY (x y : Nat) : Nat := partF y * 2 ^ (partE y - lowE x y)
def magS (x y : Nat) : Nat := if negB x = negB y then topX x y + topY x y else if topY x y ≤ topX x y then topX x y - topY x y else topY x y - topX x y
def sgnS (x y : Nat) : Bool := if magS x y = 0 then negB x && negB y else if negB x = negB y then negB x else if topY x y ≤ topX x y then negB x else negB y
theorem add_num (x y : Nat) (hx : x < 18446744073709551616) (hy : y < 18446744073709551616) (kx : expo x ≠ 2047) (ky : expo y ≠ 2047) :
    Ieee.double.add x y = some (Ieee.double.nearest (sgnS x y) (magS x y) ((lowE x y : Int) - 1075)) := by
  unfold Ieee.Format.add
  rw [read_num x hx kx, read_num y hy ky]
  have hb : min ((partE x : Int) - 1075) ((partE y : Int) - 1075) = (lowE x y : Int) - 1075 := by unfold lowE; split <;> omega
  have hlx : lowE x y ≤ partE x ∧ lowE x y ≤ partE y := by unfold lowE; split <;> omega
  show some (Ieee.double.write _) = _
  simp only [hb]
  have e1 : ((partE x : Int) - 1075 - ((lowE x y : Int) - 1075)).toNat = partE x - lowE x y := by omega
  have e2 : ((partE y : Int) - 1075 - ((lowE x y : Int) - 1075)).toNat = partE y - lowE x y := by omega
  rw [e1, e2]
  have t1 : Ieee.signed (negB x) (partF x) (partE x - lowE x y) = if negB x then -(topX x y : Int) else topX x y := by
    unfold Ieee.signed topX; rw [Nat.shiftLeft_eq]
  have t2 : Ieee.signed (negB y) (partF y) (partE y - lowE x y) = if negB y then -(topY x y : Int) else topY x y := by
    unfold Ieee.signed topY; rw [Nat.shiftLeft_eq]
  rw [t1, t2]
  congr 1
  show Ieee.double.nearest _ _ _ = _
  unfold sgnS magS
  generalize topX x y = X
  generalize topY x y = Y
  cases negB x <;> cases negB y
  · congr 1
    all_goals first | (simp; done) | (simp; omega)
  · congr 1
    · simp; split <;> (rw [Bool.eq_iff_iff]; simp; omega)
    · simp; split <;> omega
  · congr 1
    · simp; split <;> (rw [Bool.eq_iff_iff]; simp; omega)
    · simp; split <;> omega
  · congr 1
    all_goals first | (simp; done) | (simp; omega)
theorem add_low (x y : Nat) : lowE x y ≤ partE x ∧ lowE x y ≤ partE y ∧ 1 ≤ lowE x y := by
  have := partE_bd x; have := partE_bd y
  unfold lowE; split <;> omega
/-- A sum that isn't nought: its rung. -/
theorem add_round (x y : Nat) (hx : x < 18446744073709551616) (hy : y < 18446744073709551616) (kx : expo x ≠ 2047) (ky : expo y ≠ 2047) (hm : 0 < magS x y) :
    ∃ r, Ieee.double.add x y = some (Ieee.double.word (sgnS x y) r) ∧ r ≤ 9218868437227405312 ∧ (1075 ≤ lowE x y → IsRound (magS x y * 2 ^ (lowE x y - 1075)) 1 r) ∧ (lowE x y ≤ 1075 → IsRound (magS x y) (2 ^ (1075 - lowE x y)) r) := by
  obtain ⟨r, h1, h2, h3, h4⟩ := nearest_round (sgnS x y) (magS x y) ((lowE x y : Int) - 1075) hm
  refine ⟨r, by rw [add_num x y hx hy kx ky, h1], h2, fun h => h3 _ (by omega), fun h => h4 _ (by omega)⟩
theorem add_nought (x y : Nat) (hx : x < 18446744073709551616) (hy : y < 18446744073709551616) (kx : expo x ≠ 2047) (ky : expo y ≠ 2047) (hm : magS x y = 0) :
    Ieee.double.add x y = some (if negB x && negB y then 9223372036854775808 else 0) := by
  rw [add_num x y hx hy kx ky, hm]
  unfold Ieee.Format.nearest
  rw [if_pos rfl]
  unfold Ieee.Format.word sgnS
  rw [if_pos hm, sw]

/-! ### By a count -/
/-- A small count's float says just that count. -/
def countOk (N : Nat) : Bool := match Ieee.double.read (floatOfInt .f64 (N : Int)) with
  | .number false m i => decide (i ≤ 0) && m == N * 2 ^ (-i).toNat
  | _ => false
theorem count_all : ∀ N : Fin 61, 0 < N.val → countOk N.val = true := by decide +kernel
theorem count_read (N : Nat) (h0 : 0 < N) (h : N ≤ 60) : ∃ J : Nat, Ieee.double.read (floatOfInt .f64 (N : Int)) = .number false (N * 2 ^ J) (-(J : Int)) := by
  have hc := count_all ⟨N, by omega⟩ h0
  unfold countOk at hc
  simp only at hc
  split at hc
  · rename_i m i e
    simp at hc
    refine ⟨(-i).toNat, ?_⟩
    rw [e, hc.2]
    congr 1
    omega
  · cases hc
theorem sticky_two (X n : Nat) (hn : 0 < n) : 2 * (X / n) + (X % n != 0).toNat = sticky (2 * X) n := by
  have e := Nat.div_add_mod X n
  have l := Nat.mod_lt X hn
  have q1 : (2 * X) / n = 2 * (X / n) + (2 * (X % n)) / n := by
    rw [show 2 * X = 2 * (X % n) + n * (2 * (X / n)) by rw [Nat.mul_left_comm]; omega, Nat.add_mul_div_left _ _ hn]
    omega
  have q2 : (2 * X) % n = (2 * (X % n)) % n := by
    rw [show 2 * X = 2 * (X % n) + n * (2 * (X / n)) by rw [Nat.mul_left_comm]; omega, Nat.add_mul_mod_self_left]
  have q3 : (2 * (X % n)) / n ≤ 1 := by
    have := Nat.div_lt_of_lt_mul (m := 2 * (X % n)) (n := n) (k := 2) (by omega)
    omega
  have q4 : (2 * (X % n)) % n = 0 → X % n ≠ 0 → (2 * (X % n)) / n = 1 := by
    intro hz h0
    have e2 := Nat.div_add_mod (2 * (X % n)) n
    rw [hz] at e2
    generalize 2 * (X % n) / n = z at *
    rcases (show z = 0 ∨ z = 1 by omega) with g | g
    · rw [g] at e2; omega
    · exact g
  unfold sticky
  rw [q1, q2]
  clear q1 q2 e l
  generalize X / n = Q at *
  by_cases h0 : X % n = 0
  · rw [h0]; simp
  · have hb : (X % n != 0) = true := by simpa using h0
    rw [hb]
    split
    · rename_i hz
      rw [q4 hz h0]; rfl
    · generalize 2 * (X % n) / n = z at *
      rw [Bool.toNat_true]; omega
theorem nearest_raw (neg : Bool) (mag : Nat) (place : Int) (hm : 0 < mag) : ∃ e up dn : Nat, Ieee.double.nearest neg mag place = Ieee.double.word neg (min ((e - 1) * 4503599627370496 + evenQ (mag * 2 ^ up) (2 ^ dn)) 9218868437227405312) ∧
    1 ≤ e ∧ (up = 0 ∨ dn = 0) ∧ ((up : Int) - dn = place - ((e : Int) - 1075)) ∧ mag * 2 ^ up < 2 ^ dn * 2 ^ 53 ∧ (e = 1 ∨ 2 ^ dn * 2 ^ 52 ≤ mag * 2 ^ up) ∧ (place + mag.log2 - 52 ≤ (e : Int) - 1075) := by
  obtain ⟨last, hlast⟩ : ∃ last : Int, last = max (place + mag.log2 - 52) (-1074) := ⟨_, rfl⟩
  obtain ⟨up, hup⟩ : ∃ up, up = (place - last).toNat := ⟨_, rfl⟩
  obtain ⟨dn, hdn⟩ : ∃ dn, dn = (last - place).toNat := ⟨_, rfl⟩
  obtain ⟨e, he⟩ : ∃ e : Nat, (e : Int) = last + 1075 := ⟨(last + 1075).toNat, by omega⟩
  have hlo : 2 ^ mag.log2 ≤ mag := Nat.log2_self_le (by omega)
  have hhi : mag < 2 ^ (mag.log2 + 1) := Nat.lt_log2_self
  refine ⟨e, up, dn, ?_, by omega, by omega, by omega, ?_, ?_, by omega⟩
  · unfold Ieee.Format.nearest
    rw [if_neg (by omega)]
    simp only [cut_even, Nat.shiftLeft_eq]
    have l2 : (Ieee.double.fractionBits : Int) = 52 := by decide
    rw [leastp, l2, bin, infr, ← hlast, ← hup, ← hdn]
    have : (last - -1074).toNat = e - 1 := by omega
    rw [this]
  · rw [← Nat.pow_add]
    have h1 : mag * 2 ^ up < 2 ^ (mag.log2 + 1) * 2 ^ up := Nat.mul_lt_mul_of_pos_right hhi (Nat.pow_pos (by decide))
    rw [← Nat.pow_add] at h1
    have h2 : 2 ^ (mag.log2 + 1 + up) ≤ 2 ^ (dn + 53) := Nat.pow_le_pow_right (by decide) (by omega)
    omega
  · by_cases hc : last = -1074
    · left; omega
    · right
      have h1 : 2 ^ mag.log2 * 2 ^ up ≤ mag * 2 ^ up := Nat.mul_le_mul_right _ hlo
      rw [← Nat.pow_add] at h1 ⊢
      rw [show dn + 52 = mag.log2 + up by omega]
      exact h1
theorem by_round (x N : Nat) (hx : x < 18446744073709551616) (kx : expo x ≠ 2047) (hf : 0 < partF x) (h0 : 0 < N) (hN : N ≤ 60) :
    ∃ r, Ieee.double.div x (floatOfInt .f64 (N : Int)) = some (Ieee.double.word (negB x) r) ∧ r ≤ 9218868437227405312 ∧ (1075 ≤ partE x → IsRound (partF x * 2 ^ (partE x - 1075)) N r) ∧ (partE x ≤ 1075 → IsRound (partF x) (N * 2 ^ (1075 - partE x)) r) := by
  obtain ⟨J, hJ⟩ := count_read N h0 hN
  have hn : 0 < N * 2 ^ J := Nat.mul_pos h0 (Nat.pow_pos (by decide))
  obtain ⟨n, hne⟩ : ∃ n, n = N * 2 ^ J := ⟨_, rfl⟩
  rw [← hne] at hJ hn
  obtain ⟨more, hmore⟩ : ∃ more, more = 54 + n.log2 - (partF x).log2 := ⟨_, rfl⟩
  obtain ⟨X, hX⟩ : ∃ X, X = partF x * 2 ^ more := ⟨_, rfl⟩
  have hdiv : Ieee.double.div x (floatOfInt .f64 (N : Int)) = some (Ieee.double.nearest (negB x) (sticky (2 * X) n) ((partE x : Int) - 1075 - (-(J : Int)) - more - 1)) := by
    unfold Ieee.Format.div
    rw [hJ, read_num x hx kx]
    show Option.map _ (Ieee.Datum.quotient 54 (.number (negB x) (partF x) ((partE x : Int) - 1075)) (.number false n (-(J : Int)))) = _
    unfold Ieee.Datum.quotient
    simp only
    rw [if_neg (by omega)]
    simp only [Nat.shiftLeft_eq, ← hmore, ← hX]
    rw [sticky_two X n hn, Bool.xor_false]
    rfl
  have hXb : 9007199254740992 * n ≤ X := by
    have h1 : 2 ^ (partF x).log2 ≤ partF x := Nat.log2_self_le (by omega)
    have h2 : n < 2 ^ (n.log2 + 1) := Nat.lt_log2_self
    have h3 : 2 ^ (partF x).log2 * 2 ^ more ≤ X := by rw [hX]; exact Nat.mul_le_mul_right _ h1
    rw [← Nat.pow_add] at h3
    have h4 : 2 ^ (53 + (n.log2 + 1)) ≤ 2 ^ ((partF x).log2 + more) := Nat.pow_le_pow_right (by decide) (by omega)
    rw [Nat.pow_add] at h4
    have h5 : 2 ^ 53 * n ≤ 2 ^ 53 * 2 ^ (n.log2 + 1) := Nat.mul_le_mul_left _ (by omega)
    omega
  obtain ⟨M, hM⟩ : ∃ M, M = sticky (2 * X) n := ⟨_, rfl⟩
  have hMq : 2 * X / n ≤ M ∧ M ≤ 2 * X / n + 1 ∧ (M % 2 = 0 → M = 2 * X / n) := by
    rw [hM]; unfold sticky; generalize 2 * X / n = z; split <;> omega
  have hMlo : 18014398509481984 ≤ M := by
    have : 18014398509481984 ≤ 2 * X / n := (Nat.le_div_iff_mul_le hn).mpr (by omega)
    omega
  rw [← hM] at hdiv
  obtain ⟨e, up, dn, n1, n2, n3, n4, n5, n6, n7⟩ := nearest_raw (negB x) M ((partE x : Int) - 1075 - (-(J : Int)) - more - 1) (by omega)
  have hlog : 54 ≤ M.log2 := (Nat.le_log2 (by omega)).mpr (by omega)
  have hup : up = 0 := by omega
  subst hup
  rw [Nat.pow_zero, Nat.mul_one] at n1 n5 n6
  have hdn : ∃ k, dn = k + 2 := ⟨dn - 2, by omega⟩
  obtain ⟨k, rfl⟩ := hdn
  have hpk : 2 ^ (k + 2) = 4 * 2 ^ k := by rw [Nat.pow_add, Nat.mul_comm]
  have hev : evenQ M (2 ^ (k + 2)) = evenQ (2 * X) (n * 2 ^ (k + 2)) := by
    rw [hM, hpk]; exact evenQ_sticky _ _ _ hn (Nat.pow_pos (by decide))
  rw [hev] at n1
  have c1 : 2 * X < n * 2 ^ (k + 2) * 2 ^ 53 := by
    have : 2 * X / n < 2 ^ (k + 2) * 2 ^ 53 := by omega
    have := (Nat.div_lt_iff_lt_mul hn).mp this
    rw [Nat.mul_assoc, Nat.mul_comm n]
    exact this
  have c2 : e = 1 ∨ n * 2 ^ (k + 2) * 2 ^ 52 ≤ 2 * X := by
    rcases n6 with h | h
    · exact .inl h
    · right
      have h2 : 2 ^ (k + 2) * 2 ^ 52 ≤ 2 * X / n := by
        have : 2 ^ (k + 2) * 2 ^ 52 = 2 * (2 * (2 ^ k * 2 ^ 52)) := by rw [hpk]; omega
        omega
      have := (Nat.le_div_iff_mul_le hn).mp h2
      rw [Nat.mul_comm, ← Nat.mul_assoc] at this
      exact this
  have hX0 : 0 < 2 * X := by omega
  have hD0 : 0 < n * 2 ^ (k + 2) := Nat.mul_pos hn (Nat.pow_pos (by decide))
  have hexp : partE x + J + (k + 2) = e + more + 1 := by omega
  refine ⟨min ((e - 1) * 4503599627370496 + evenQ (2 * X) (n * 2 ^ (k + 2))) 9218868437227405312, by rw [hdiv, n1], Nat.min_le_right _ _, ?_, ?_⟩
  · intro hp
    obtain ⟨K, hK⟩ : ∃ K : Nat, K = 1075 := ⟨_, rfl⟩
    refine ⟨2 * X, n * 2 ^ (k + 2), e, ⟨?_, hX0, hD0, n2⟩, c1, c2, by rw [Nat.min_comm]⟩
    rw [← hK] at hp ⊢
    have hpp : partE x - K + J + (k + 2) + K = 1 + more + e := by omega
    rw [hX, hne]
    have e1 : partF x * 2 ^ (partE x - K) * (N * 2 ^ J * 2 ^ (k + 2)) * 2 ^ K = partF x * N * (2 ^ (partE x - K) * 2 ^ J * 2 ^ (k + 2) * 2 ^ K) := by ac_rfl
    have e2 : 2 * (partF x * 2 ^ more) * N * 2 ^ e = partF x * N * (2 ^ 1 * 2 ^ more * 2 ^ e) := by rw [Nat.pow_one]; ac_rfl
    rw [e1, e2, ← Nat.pow_add, ← Nat.pow_add, ← Nat.pow_add, ← Nat.pow_add, ← Nat.pow_add, hpp]
  · intro hp
    obtain ⟨K, hK⟩ : ∃ K : Nat, K = 1075 := ⟨_, rfl⟩
    refine ⟨2 * X, n * 2 ^ (k + 2), e, ⟨?_, hX0, hD0, n2⟩, c1, c2, by rw [Nat.min_comm]⟩
    rw [← hK] at hp ⊢
    have hpp : J + (k + 2) + K = 1 + more + (K - partE x) + e := by omega
    rw [hX, hne]
    have e1 : partF x * (N * 2 ^ J * 2 ^ (k + 2)) * 2 ^ K = partF x * N * (2 ^ J * 2 ^ (k + 2) * 2 ^ K) := by ac_rfl
    have e2 : 2 * (partF x * 2 ^ more) * (N * 2 ^ (K - partE x)) * 2 ^ e = partF x * N * (2 ^ 1 * 2 ^ more * 2 ^ (K - partE x) * 2 ^ e) := by rw [Nat.pow_one]; ac_rfl
    rw [e1, e2, ← Nat.pow_add, ← Nat.pow_add, ← Nat.pow_add, ← Nat.pow_add, ← Nat.pow_add, hpp]
end Go.Proofs.Ytbonaldlljdaoaa
