/-
  The document's To is package real's; and there and back.
-/
import Derived.Test.YtbonaldlljdaoaaRound
import Derived.Test.YtbonaldlljdaoaaRealG
namespace Go.Proofs.Ytbonaldlljdaoaa
open Go.RowKit
set_option maxHeartbeats 1000000

theorem evenQ_same {n u m v : Nat} (hu : 0 < u) (hv : 0 < v) (h : n * v = m * u) : evenQ n u = evenQ m v :=
  Nat.le_antisymm (evenQ_cross hu hv (Nat.le_of_eq h)) (evenQ_cross hv hu (Nat.le_of_eq h.symm))
theorem round_rung {n r : Nat} (h0 : 0 < n) (hn : n < 9223372036854775808) (h : IsRound n 10000 r) : Rung n r := by
  obtain ⟨a, d, e, ⟨i1, i2, i3, i4⟩, g1, g2, rfl⟩ := h
  obtain ⟨K, hK⟩ : ∃ K, K = 1075 := ⟨_, rfl⟩
  rw [← hK] at i1
  have he : e ≤ K := by
    rcases Nat.lt_or_ge K e with k | k
    · exfalso
      have g3 : d * 2 ^ 52 ≤ a := by omega
      obtain ⟨j, rfl⟩ : ∃ j, e = K + j := ⟨e - K, by omega⟩
      rw [Nat.pow_add, ← Nat.mul_assoc (a * 10000), Nat.mul_right_comm (a * 10000)] at i1
      have i5 : n * d = a * 10000 * 2 ^ j := Nat.eq_of_mul_eq_mul_right (Nat.pow_pos (n := K) (by decide : 0 < 2)) i1
      have hp : 1 ≤ 2 ^ j := Nat.pow_pos (by decide)
      have h1 : a * 10000 * 1 ≤ a * 10000 * 2 ^ j := Nat.mul_le_mul_left _ hp
      have h2 : n * d ≤ 9223372036854775807 * d := Nat.mul_le_mul_right d (by omega)
      omega
    · exact k
  obtain ⟨s, hs⟩ : ∃ s, e + s = K := ⟨K - e, by omega⟩
  have i5 : n * 2 ^ s * d = a * 10000 := by
    rw [← hs, Nat.pow_add, Nat.mul_comm (2 ^ e), ← Nat.mul_assoc] at i1
    have := Nat.eq_of_mul_eq_mul_right (Nat.pow_pos (n := e) (by decide : 0 < 2)) i1
    rw [← this, Nat.mul_right_comm]
  have h1 : n * 2 ^ s * d < 10000 * 9007199254740992 * d := by rw [i5]; omega
  have h2 : n * 2 ^ s < 10000 * 9007199254740992 := Nat.lt_of_mul_lt_mul_right h1
  have hs66 : s ≤ 66 := by
    rcases Nat.lt_or_ge 66 s with k | k
    · exfalso
      have hp : 2 ^ 67 ≤ 2 ^ s := Nat.pow_le_pow_right (by decide) k
      have := Nat.mul_le_mul (show 1 ≤ n from h0) hp
      omega
    · exact k
  have g3 : d * 2 ^ 52 ≤ a := by omega
  have h3 : 10000 * 4503599627370496 * d ≤ n * 2 ^ s * d := by rw [i5]; omega
  have h4 : 10000 * 4503599627370496 ≤ n * 2 ^ s := Nat.le_of_mul_le_mul_right h3 i3
  have hs3 : 3 ≤ s := by
    rcases Nat.lt_or_ge s 3 with k | k
    · exfalso
      have hp : 2 ^ s ≤ 2 ^ 2 := Nat.pow_le_pow_right (by decide) (by omega)
      have := Nat.mul_le_mul (show n ≤ 9223372036854775807 by omega) hp
      omega
    · exact k
  refine ⟨s, hs3, hs66, h4, h2, ?_⟩
  have e1 : evenQ a d = evenQ (n * 2 ^ s) 10000 := evenQ_same i3 (by decide) i5.symm
  have e2 : evenQ (n * 2 ^ s) 10000 ≤ 9007199254740992 := evenQ_le (by decide) (by omega)
  have e3 : e - 1 = 1074 - s := by omega
  rw [e1, e3]
  clear i1 i5 h1 h3 g1 g2 g3 e1 e3 h2 h4
  generalize evenQ (n * 2 ^ s) 10000 = v at *
  exact Nat.min_eq_right (by omega)
theorem rung_one {n r t : Nat} (hr : Rung n r) (ht : Rung n t) : r = t := Nat.le_antisymm (rung_mono hr ht (Nat.le_refl _)) (rung_mono ht hr (Nat.le_refl _))
theorem to_one {a : Int} {b c : Nat} (hb : IsTo a b) (hc : IsTo a c) : b = c := by
  rcases hb with ⟨h1, h2⟩ | ⟨h1, h2⟩ | ⟨h1, r, h2, h3⟩ <;> rcases hc with ⟨k1, k2⟩ | ⟨k1, k2⟩ | ⟨k1, t, k2, k3⟩
  · omega
  · omega
  · omega
  · omega
  · exact rung_one h2 k2
  · omega
  · omega
  · omega
  · rw [h3, k3, rung_one h2 k2]
/-- There and back. -/
theorem rung_back {n r : Nat} (hn : n < 4503599627370496) (h : Rung n r) : expo r ≤ 1072 ∧ fromN r = n := by
  obtain ⟨s, s1, s2, s3, s4, rfl⟩ := h
  have hs : 14 ≤ s := by
    rcases Nat.lt_or_ge s 14 with k | k
    · exfalso
      have hp : 2 ^ s ≤ 2 ^ 13 := Nat.pow_le_pow_right (by decide) (by omega)
      have := Nat.mul_le_mul (show n ≤ 4503599627370495 by omega) hp
      omega
    · exact k
  have g1 : 4503599627370496 ≤ evenQ (n * 2 ^ s) 10000 := evenQ_ge (by decide) (by omega)
  have g2 : evenQ (n * 2 ^ s) 10000 ≤ 9007199254740992 := evenQ_le (by decide) (by omega)
  have g3 := evenQ_near (n * 2 ^ s) 10000 (by decide)
  generalize evenQ (n * 2 ^ s) 10000 = m at *
  have hp : 2 ^ 14 ≤ 2 ^ s := Nat.pow_le_pow_right (by decide) hs
  have near : evenQ (m * 10000) (2 ^ s) = n := evenQ_of_near (Nat.pow_pos (by decide)) (by omega) (by omega)
  rcases Nat.lt_or_eq_of_le g2 with k | k
  · have e1 : expo ((1074 - s) * 4503599627370496 + m) = 1075 - s := by unfold expo; omega
    have e2 : full ((1074 - s) * 4503599627370496 + m) = m := by unfold full; omega
    refine ⟨by omega, ?_⟩
    rw [fromN_one _ (by omega), e1, e2, ← near]
    have e3 : 1072 - (1075 - s) + 3 = s := by omega
    have := evenQ_scale (m * 1250) (2 ^ (1072 - (1075 - s))) (2 ^ 3) (by decide)
    rw [← Nat.pow_add, e3, Nat.mul_assoc] at this
    exact this.symm
  · subst k
    have e1 : expo ((1074 - s) * 4503599627370496 + 9007199254740992) = 1076 - s := by unfold expo; omega
    have e2 : full ((1074 - s) * 4503599627370496 + 9007199254740992) = 4503599627370496 := by unfold full; omega
    refine ⟨by omega, ?_⟩
    rw [fromN_one _ (by omega), e1, e2, ← near]
    have e3 : 1072 - (1076 - s) + 4 = s := by omega
    have := evenQ_scale (4503599627370496 * 1250) (2 ^ (1072 - (1076 - s))) (2 ^ 4) (by decide)
    rw [← Nat.pow_add, e3] at this
    exact this.symm
theorem to_back {a : Int} {b : Nat} (h : IsTo a b) (ha : a.natAbs < 4503599627370496) : fromB b = true ∧ fromV b = a := by
  rcases h with ⟨h1, h2⟩ | ⟨h1, h2⟩ | ⟨h1, r, h2, h3⟩
  · subst h1 h2
    have : fromN 0 = 0 := by
      rw [fromN_one 0 (by decide)]
      exact evenQ_small (big_pow (k := 1072 - expo 0) (by decide) (by decide))
    have hB : fromB 0 = true := by unfold fromB; rw [this]; decide
    refine ⟨hB, ?_⟩
    unfold fromV; rw [hB, this]; rfl
  · obtain ⟨k1, k2⟩ := rung_back ha h2
    have hl := rung_lt h2
    have hB : fromB b = true := by unfold fromB; rw [k2]; simp; omega
    refine ⟨hB, ?_⟩
    unfold fromV negB
    rw [hB, k2, decide_eq_false (by omega)]
    simp; omega
  · obtain ⟨k1, k2⟩ := rung_back ha h2
    have hl := rung_lt h2
    subst h3
    have hB : fromB (9223372036854775808 + r) = true := by unfold fromB; rw [expo_top, fromN_top, k2]; simp; omega
    refine ⟨hB, ?_⟩
    unfold fromV negB
    rw [hB, fromN_top, k2, decide_eq_true (by omega)]
    simp; omega
theorem rto_no (w : World) : Calls Try.prog 13 #[.int .i64 (-9223372036854775808)] w fun e w' => e = .returned (.tuple #[.int .u64 0, .bool false]) ∧ Ext w w' := by
  go_enter Try.func13, Try.ntmps13
  go_wp2_with fail
  refine (rcan_any _ _).mono ?_
  rintro e w1 ⟨rfl, rfl⟩
  rw [show canB (-9223372036854775808) = false from rfl]
  go_wp2
  go_ret2
  exact ⟨rfl, Ext.refl _⟩
theorem rto_any (a : Int) (ha : I64 a) (h : a ≠ -9223372036854775808) (w : World) : Calls Try.prog 13 #[.int .i64 a] w fun e w' => (∃ b : Nat, e = .returned (.tuple #[.int .u64 (b : Int), .bool true]) ∧ IsTo a b) ∧ Ext w w' := by
  have hc : canB a = true := by unfold canB; simpa using h
  have c1 := fun W => rcan_any a W
  rw [hc] at c1
  have c2 := fun W => rsize_any a ha W
  obtain ⟨a1, a2⟩ := ha
  have hn : a.natAbs < 9223372036854775808 := by omega
  have e2 : absI a = (a.natAbs : Int) := by unfold absI; split <;> omega
  rw [e2] at c2
  have c3 := fun W => of_any a.natAbs (by omega) W
  have c4 := fun W => of_any 10000 (by omega) W
  rw [show ((10000 : Nat) : Int) = 10000 from rfl] at c4
  rcases Int.lt_trichotomy a 0 with g | g | g
  · have HN : Hid (0 < a.natAbs ∧ a.natAbs < 9223372036854775808 ∧ blen a.natAbs ≤ 64 ∧ blen 10000 ≤ 64) := ⟨by omega, hn, blen_le (by omega), blen_le (by decide)⟩
    have g0 : (a == 0) = false := by simp; omega
    have HA : Hid (∀ r b, Rung a.natAbs r → b = 9223372036854775808 + r → IsTo a b) := fun r b h1 h2 => Or.inr (Or.inr ⟨g, r, h1, h2⟩)
    clear hc h e2 hn a1 a2
    generalize a.natAbs = n at *
    go_enter Try.func13, Try.ntmps13
    go_wp2_with fail
    refine (c1 _).mono ?_
    rintro e w1 ⟨rfl, rfl⟩
    go_wp2_with fail
    refine (c2 _).mono ?_
    rintro e w2 ⟨rfl, rfl⟩
    go_wp2_with fail
    refine (c3 _).mono ?_
    rintro e w3 ⟨⟨v3, rfl, h3⟩, E3⟩
    go_wp2_with fail
    refine (c4 _).mono ?_
    rintro e w4 ⟨⟨v4, rfl, h4⟩, E4⟩
    have c5 := round_big n 10000 v3 v4 w4 (h3.ext E4) h4 HN.out.1 (by decide) (by have := HN.out; omega) (by have := HN.out; omega)
    clear h3 h4
    go_wp2_with fail
    refine c5.mono ?_
    rintro e w5 ⟨⟨r, rfl, hr⟩, E5⟩
    have HRR : Hid (Rung n r) := round_rung HN.out.1 HN.out.2.1 hr
    have hE := E3.trans (E4.trans E5)
    clear hr c5
    have hl := rung_lt HRR.out
    obtain ⟨B, hB⟩ : ∃ B, B = 9223372036854775808 + r := ⟨_, rfl⟩
    have ew : IntKind.u64.wrap ((r : Int) + 9223372036854775808) = (B : Int) := by rw [wrapU]; omega
    have HI : Hid (IsTo a B) := HA.out r B HRR.out hB
    clear hl hB HA
    go_wp2
    go_ret2
    exact ⟨⟨B, rfl, HI.out⟩, hE⟩
  · subst g
    clear hc h e2 hn a1 a2 c2 c3 c4
    go_enter Try.func13, Try.ntmps13
    go_wp2_with fail
    refine (c1 _).mono ?_
    rintro e w1 ⟨rfl, rfl⟩
    go_wp2
    go_ret2
    exact ⟨⟨0, rfl, Or.inl ⟨rfl, rfl⟩⟩, Ext.refl _⟩
  · have HN : Hid (0 < a.natAbs ∧ a.natAbs < 9223372036854775808 ∧ blen a.natAbs ≤ 64 ∧ blen 10000 ≤ 64) := ⟨by omega, hn, blen_le (by omega), blen_le (by decide)⟩
    have g0 : (a == 0) = false := by simp; omega
    have HA : Hid (∀ r, Rung a.natAbs r → IsTo a r) := fun r h1 => Or.inr (Or.inl ⟨g, h1⟩)
    clear hc h e2 hn a1 a2
    generalize a.natAbs = n at *
    go_enter Try.func13, Try.ntmps13
    go_wp2_with fail
    refine (c1 _).mono ?_
    rintro e w1 ⟨rfl, rfl⟩
    go_wp2_with fail
    refine (c2 _).mono ?_
    rintro e w2 ⟨rfl, rfl⟩
    go_wp2_with fail
    refine (c3 _).mono ?_
    rintro e w3 ⟨⟨v3, rfl, h3⟩, E3⟩
    go_wp2_with fail
    refine (c4 _).mono ?_
    rintro e w4 ⟨⟨v4, rfl, h4⟩, E4⟩
    have c5 := round_big n 10000 v3 v4 w4 (h3.ext E4) h4 HN.out.1 (by decide) (by have := HN.out; omega) (by have := HN.out; omega)
    clear h3 h4
    go_wp2_with fail
    refine c5.mono ?_
    rintro e w5 ⟨⟨r, rfl, hr⟩, E5⟩
    have HRR : Hid (Rung n r) := round_rung HN.out.1 HN.out.2.1 hr
    have hE := E3.trans (E4.trans E5)
    clear hr c5
    have HI : Hid (IsTo a r) := HA.out r HRR.out
    clear HA
    go_wp2
    go_ret2
    exact ⟨⟨r, rfl, HI.out⟩, hE⟩
end Go.Proofs.Ytbonaldlljdaoaa
