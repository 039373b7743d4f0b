/-
  Contracts of package real's way from a number to the nearest float.
-/
import Derived.Test.YtbonaldlljdaoaaRealC
import Derived.Test.YtbonaldlljdaoaaDiv64
namespace Go.Proofs.Ytbonaldlljdaoaa
open Go.RowKit
set_option maxHeartbeats 1000000

/-- r is the rung of the float nearest to n by 10000: so many bits behind the dot make it one of 53 bits. -/
def Rung (n r : Nat) : Prop := ∃ s : Nat, 3 ≤ s ∧ s ≤ 66 ∧ 10000 * 4503599627370496 ≤ n * 2 ^ s ∧ n * 2 ^ s < 10000 * 9007199254740992 ∧ r = (1074 - s) * 4503599627370496 + evenQ (n * 2 ^ s) 10000
theorem sticky_or (q : Nat) (hq : q < 18446744073709551616) : bits .or .u64 (q : Int) 1 = ((q / 2 * 2 + 1 : Nat) : Int) := by
  rw [show (1 : Int) = ((1 : Nat) : Int) from rfl, bits_or_u64_nat _ _ hq (by omega)]
  have e : q ||| 1 = q / 2 * 2 + 1 := by
    have h : 2 * (q / 2) + 1 = 2 * (q / 2) ||| 1 := Nat.two_pow_add_eq_or_of_lt (i := 1) (b := 1) (by omega) (q / 2)
    rcases Nat.mod_two_eq_zero_or_one q with g | g
    · have e2 : 2 * (q / 2) = q := by omega
      rw [e2] at h
      omega
    · have e2 : 2 * (q / 2) + 1 = q := by omega
      have e3 : q ||| 1 = q := by rw [← e2, h, Nat.or_assoc, Nat.or_self]
      omega
  rw [e]
theorem byone_facts (n a : Nat) (h1 : 9223372036854775808 ≤ n * 2 ^ a) (h2 : n * 2 ^ a < 18446744073709551616) (hn : n < 9223372036854775808) (ha : a ≤ 63) (L : Nat)
    (hL : Len (sticky (n * 2 ^ a * 8192) 10000) L) : ∃ o s : Nat, L = o + 53 ∧ (o = 10 ∨ o = 11) ∧ s + o = a + 13 ∧ 3 ≤ s ∧ s ≤ 66 ∧ 10000 * 4503599627370496 ≤ n * 2 ^ s ∧ n * 2 ^ s < 10000 * 9007199254740992 ∧
      evenQ (sticky (n * 2 ^ a * 8192) 10000) (2 ^ o) = evenQ (n * 2 ^ s) 10000 := by
  obtain ⟨l1, l2, l3, l4⟩ := hL
  have a1 : 1 ≤ a := by
    rcases Nat.eq_zero_or_pos a with rfl | h
    · simp at h1; omega
    · exact h
  obtain ⟨X, hX⟩ : ∃ X, X = n * 2 ^ a * 8192 := ⟨_, rfl⟩
  rw [← hX] at l3 l4 ⊢
  have hs0 : sticky X 10000 ≤ X / 10000 + 1 ∧ X / 10000 ≤ sticky X 10000 ∧ (sticky X 10000 % 2 = 0 → sticky X 10000 = X / 10000) := by
    unfold sticky; split <;> omega
  have hL2 : L = 63 ∨ L = 64 := by
    rcases Nat.lt_or_ge L 63 with g | g
    · exfalso
      have : 2 ^ 2 ≤ 2 ^ (64 - L) := Nat.pow_le_pow_right (by decide) (by omega)
      have := Nat.mul_le_mul (show 7000000000000000000 ≤ sticky X 10000 by omega) this
      omega
    · omega
  have key : ∀ o s : Nat, o = 10 ∨ o = 11 → s + o = a + 13 → n * 2 ^ s * 2 ^ o = X := by
    intro o s _ e
    rw [hX, Nat.mul_assoc, ← Nat.pow_add, e, Nat.pow_add, Nat.mul_assoc]
  have ev : ∀ o s : Nat, (o = 10 ∨ o = 11) → s + o = a + 13 → evenQ (sticky X 10000) (2 ^ o) = evenQ (n * 2 ^ s) 10000 := by
    intro o s ho e
    have h4 : 2 ^ o = 4 * 2 ^ (o - 2) := by rcases ho with rfl | rfl <;> rfl
    rw [h4, evenQ_sticky _ _ _ (by decide) (Nat.pow_pos (by decide)), ← h4, ← key o s ho e]
    exact evenQ_scale _ _ _ (Nat.pow_pos (by decide))
  rcases hL2 with rfl | rfl
  · refine ⟨10, a + 3, rfl, Or.inl rfl, by omega, by omega, by omega, ?_, ?_, ev 10 (a + 3) (Or.inl rfl) (by omega)⟩
    · have := key 10 (a + 3) (Or.inl rfl) (by omega)
      omega
    · have := key 10 (a + 3) (Or.inl rfl) (by omega)
      omega
  · refine ⟨11, a + 2, rfl, Or.inr rfl, by omega, by omega, by omega, ?_, ?_, ev 11 (a + 2) (Or.inr rfl) (by omega)⟩
    · have := key 11 (a + 2) (Or.inr rfl) (by omega)
      omega
    · have := key 11 (a + 2) (Or.inr rfl) (by omega)
      omega
theorem byone_any (n : Nat) (h0 : 0 < n) (hn : n < 9223372036854775808) (w : World) :
    Calls Try.prog 34 #[.int .u64 n] w fun e w' => (∃ r : Nat, e = .returned (.int .u64 (r : Int)) ∧ Rung n r) ∧ Ext w w' := by
  have c1 := fun W => lead_any n W h0 (by omega)
  have hnI : (n : Int) < 9223372036854775808 := by omega
  go_enter Try.func34, Try.ntmps34
  go_wp2_with fail
  refine (c1 _).mono ?_
  rintro e w1 ⟨a, rfl, ha, h1, h2, rfl⟩
  have HF := byone_facts n a h1 h2 hn ha
  have HR : Hid (∀ s : Nat, 3 ≤ s → s ≤ 66 → 10000 * 4503599627370496 ≤ n * 2 ^ s → n * 2 ^ s < 10000 * 9007199254740992 → Rung n ((1074 - s) * 4503599627370496 + evenQ (n * 2 ^ s) 10000)) := fun s g1 g2 g3 g4 => ⟨s, g1, g2, g3, g4, rfl⟩
  have et : IntKind.u64.wrap ((n : Int) * 2 ^ a) = ((n * 2 ^ a : Nat) : Int) := by
    have : (n : Int) * 2 ^ a = ((n * 2 ^ a : Nat) : Int) := by simp
    rw [this, wrapU]; omega
  have haI : (a : Int) ≤ 63 := by omega
  generalize n * 2 ^ a = t at *
  have e1 : (t : Int) / 2251799813685248 = ((t / 2251799813685248 : Nat) : Int) := by omega
  have e2 : IntKind.u64.wrap ((t : Int) * 8192) = ((t * 8192 % 18446744073709551616 : Nat) : Int) := by rw [wrapU]; omega
  have c2 := fun W => div64_any (t / 2251799813685248) (t * 8192 % 18446744073709551616) 10000 (by omega) (by omega) (by omega) W
  have e3 : t / 2251799813685248 * 18446744073709551616 + t * 8192 % 18446744073709551616 = t * 8192 := by omega
  rw [e3, ← e2, ← e1, show ((10000 : Nat) : Int) = 10000 from rfl] at c2
  clear e1 e2 e3
  obtain ⟨X, hX⟩ : ∃ X, X = t * 8192 := ⟨_, rfl⟩
  rw [← hX] at c2 HF
  have hXl : 75557863725914323419136 ≤ X ∧ X < 151115727451828646838272 := by omega
  have HX : Hid (75557863725914323419136 ≤ X ∧ X < 151115727451828646838272) := hXl
  have hst : sticky X 10000 < 18446744073709551616 ∧ 0 < sticky X 10000 := by unfold sticky; split <;> omega
  have c3 := fun W => len64_any ((sticky X 10000 : Nat) : Int) W (by omega) (by omega)
  have eor := sticky_or (X / 10000) (by omega)
  have hst2 : sticky X 10000 = if X % 10000 = 0 then X / 10000 else X / 10000 / 2 * 2 + 1 := rfl
  have c4 := fun o ho W => shorter_small (sticky X 10000) o hst.1 ho W
  rw [Int.toNat_natCast] at c3
  generalize sticky X 10000 = S at *
  clear hX h1 h2 hXl
  go_wp2_with fail
  refine (c2 _).mono ?_
  rintro e w2 ⟨rfl, E2⟩
  clear c2
  obtain ⟨q, hq⟩ : ∃ q : Int, q = ((X / 10000 : Nat) : Int) := ⟨_, rfl⟩
  obtain ⟨r, hr⟩ : ∃ r : Int, r = ((X % 10000 : Nat) : Int) := ⟨_, rfl⟩
  rw [← hq, ← hr]
  rw [← hq] at eor
  by_cases g0 : X % 10000 = 0
  · rw [if_pos g0] at hst2
    have r0 : r = 0 := by omega
    have q0 : q = (S : Int) := by omega
    subst r0 q0
    clear g0 hst2 eor hq hr
    go_wp2_with fail
    refine (c3 _).mono ?_
    rintro e w3 ⟨L0, rfl, hL, rfl⟩
    obtain ⟨L, rfl, hL1⟩ := hL (by omega)
    obtain ⟨o, s, rfl, ho, hso, s1, s2, s3, s4, s5⟩ := HF L hL1
    have ho63 : o ≤ 63 := by omega
    have c5 := fun W => c4 o ho63 W
    rw [s5] at c5
    have HR2 : Hid (Rung n ((1074 - s) * 4503599627370496 + evenQ (n * 2 ^ s) 10000)) := HR.out s s1 s2 s3 s4
    have he : evenQ (n * 2 ^ s) 10000 ≤ 9007199254740992 := evenQ_le (by decide) (by omega)
    generalize evenQ (n * 2 ^ s) 10000 = v at *
    have eL : ((o + 53 : Nat) : Int) = (o : Int) + 53 := by omega
    rw [eL]
    have hoI : (o : Int) = (a : Int) + 13 - s := by omega
    have hsI : (s : Int) ≤ 66 := by omega
    have hvI : (v : Int) ≤ 9007199254740992 := by omega
    clear s3 s4 s5 HF hL hL1 c4 eL
    have HO : Hid (s + o = a + 13) := hso
    go_wp2_with fail
    rw [show (a : Int) + 13 - s + 53 - 52 - 1 = o by omega]
    refine (c5 _).mono ?_
    rintro e w4 ⟨rfl, E4⟩
    have ef : (1075 + (o : Int) - 13 - a - 1) = 1074 - s := by omega
    rw [ef]
    clear ef hoI ho hso
    go_wp2
    go_ret
    refine ⟨⟨_, ret_int ?_, HR2.out⟩, E2.trans E4⟩
    omega
  · rw [if_neg g0] at hst2
    have r0 : 0 < r := by omega
    have r1 : r < 10000 := by omega
    have q0 : ((X / 10000 / 2 * 2 + 1 : Nat) : Int) = (S : Int) := by omega
    rw [q0] at eor
    have q1 : 0 ≤ q ∧ q < 18446744073709551616 := by have := HX.out; omega
    obtain ⟨q1, q2⟩ := q1
    clear g0 hst2 hq hr q0
    go_wp2_with fail
    refine (c3 _).mono ?_
    rintro e w3 ⟨L0, rfl, hL, rfl⟩
    obtain ⟨L, rfl, hL1⟩ := hL (by omega)
    obtain ⟨o, s, rfl, ho, hso, s1, s2, s3, s4, s5⟩ := HF L hL1
    have ho63 : o ≤ 63 := by omega
    have c5 := fun W => c4 o ho63 W
    rw [s5] at c5
    have HR2 : Hid (Rung n ((1074 - s) * 4503599627370496 + evenQ (n * 2 ^ s) 10000)) := HR.out s s1 s2 s3 s4
    have he : evenQ (n * 2 ^ s) 10000 ≤ 9007199254740992 := evenQ_le (by decide) (by omega)
    generalize evenQ (n * 2 ^ s) 10000 = v at *
    have eL : ((o + 53 : Nat) : Int) = (o : Int) + 53 := by omega
    rw [eL]
    have hoI : (o : Int) = (a : Int) + 13 - s := by omega
    have hsI : (s : Int) ≤ 66 := by omega
    have hvI : (v : Int) ≤ 9007199254740992 := by omega
    clear s3 s4 s5 HF hL hL1 c4 eL
    have HO : Hid (s + o = a + 13) := hso
    go_wp2_with fail
    rw [show (a : Int) + 13 - s + 53 - 52 - 1 = o by omega]
    refine (c5 _).mono ?_
    rintro e w4 ⟨rfl, E4⟩
    have ef : (1075 + (o : Int) - 13 - a - 1) = 1074 - s := by omega
    rw [ef]
    clear ef hoI ho hso
    go_wp2
    go_ret
    refine ⟨⟨_, ret_int ?_, HR2.out⟩, E2.trans E4⟩
    omega
end Go.Proofs.Ytbonaldlljdaoaa
