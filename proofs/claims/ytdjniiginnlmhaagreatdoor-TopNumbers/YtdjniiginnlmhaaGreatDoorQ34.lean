/-
  That floats become numbers, by two calls: lives.
  Contracts of package real's way from a number to the nearest float.
  Contracts of package real's To, of the document's order of floats.
  That greater floats have no lesser numbers, and greater numbers no lesser floats.
-/
import Derived.Test.YtdjniiginnlmhaaGreatDoorQ33
import Derived.Test.YtdjniiginnlmhaaGreatDoorQ6
namespace Go.Proofs.YtdjniiginnlmhaaGreatDoor
open Go.RowKit
set_option maxHeartbeats 1000000

end Go.Proofs.YtdjniiginnlmhaaGreatDoor

namespace Go.Proofs.YtdjniiginnlmhaaGreatDoor
open Go.RowKit
set_option maxHeartbeats 1000000

/-- r is the rung of the float nearest to n by 10000: so many bits behind the dot make it one of 53 bits. -/
def Rung (n r : Nat) : Prop := ∃ s : Nat, 3 ≤ s ∧ s ≤ 66 ∧ 10000 * 4503599627370496 ≤ n * 2 ^ s ∧ n * 2 ^ s < 10000 * 9007199254740992 ∧ r = (1074 - s) * 4503599627370496 + evenQ (n * 2 ^ s) 10000
theorem sticky_or (q : Nat) (hq : q < 18446744073709551616) : bits .or .u64 (q : Int) 1 = ((q / 2 * 2 + 1 : Nat) : Int) := by
  rw [show (1 : Int) = ((1 : Nat) : Int) from rfl, bits_or_u64_nat _ _ hq (by omega)]
  have e : q ||| 1 = q / 2 * 2 + 1 := by
    have h : 2 * (q / 2) + 1 = 2 * (q / 2) ||| 1 := Nat.two_pow_add_eq_or_of_lt (i := 1) (b := 1) (by omega) (q / 2)
    rcases Nat.mod_two_eq_zero_or_one q with g | g
    · have e2 : 2 * (q / 2) = q := by omega
      rw [e2] at h
      omega
    · have e2 : 2 * (q / 2) + 1 = q := by omega
      have e3 : q ||| 1 = q := by rw [← e2, h, Nat.or_assoc, Nat.or_self]
      omega
  rw [e]
theorem byone_facts (n a : Nat) (h1 : 9223372036854775808 ≤ n * 2 ^ a) (h2 : n * 2 ^ a < 18446744073709551616) (hn : n < 9223372036854775808) (ha : a ≤ 63) (L : Nat)
    (hL : Len (sticky (n * 2 ^ a * 8192) 10000) L) : ∃ o s : Nat, L = o + 53 ∧ (o = 10 ∨ o = 11) ∧ s + o = a + 13 ∧ 3 ≤ s ∧ s ≤ 66 ∧ 10000 * 4503599627370496 ≤ n * 2 ^ s ∧ n * 2 ^ s < 10000 * 9007199254740992 ∧
      evenQ (sticky (n * 2 ^ a * 8192) 10000) (2 ^ o) = evenQ (n * 2 ^ s) 10000 := by
  obtain ⟨l1, l2, l3, l4⟩ := hL
  have a1 : 1 ≤ a := by
    rcases Nat.eq_zero_or_pos a with rfl | h
    · simp at h1; omega
    · exact h
  obtain ⟨X, hX⟩ : ∃ X, X = n * 2 ^ a * 8192 := ⟨_, rfl⟩
  rw [← hX] at l3 l4 ⊢
  have hs0 : sticky X 10000 ≤ X / 10000 + 1 ∧ X / 10000 ≤ sticky X 10000 ∧ (sticky X 10000 % 2 = 0 → sticky X 10000 = X / 10000) := by
    unfold sticky; split <;> omega
  have hL2 : L = 63 ∨ L = 64 := by
    rcases Nat.lt_or_ge L 63 with g | g
    · exfalso
      have : 2 ^ 2 ≤ 2 ^ (64 - L) := Nat.pow_le_pow_right (by decide) (by omega)
      have := Nat.mul_le_mul (show 7000000000000000000 ≤ sticky X 10000 by omega) this
      omega
    · omega
  have key : ∀ o s : Nat, o = 10 ∨ o = 11 → s + o = a + 13 → n * 2 ^ s * 2 ^ o = X := by
    intro o s _ e
    rw [hX, Nat.mul_assoc, ← Nat.pow_add, e, Nat.pow_add, Nat.mul_assoc]
  have ev : ∀ o s : Nat, (o = 10 ∨ o = 11) → s + o = a + 13 → evenQ (sticky X 10000) (2 ^ o) = evenQ (n * 2 ^ s) 10000 := by
    intro o s ho e
    have h4 : 2 ^ o = 4 * 2 ^ (o - 2) := by rcases ho with rfl | rfl <;> rfl
    rw [h4, evenQ_sticky _ _ _ (by decide) (Nat.pow_pos (by decide)), ← h4, ← key o s ho e]
    exact evenQ_scale _ _ _ (Nat.pow_pos (by decide))
  rcases hL2 with rfl | rfl
  · refine ⟨10, a + 3, rfl, Or.inl rfl, by omega, by omega, by omega, ?_, ?_, ev 10 (a + 3) (Or.inl rfl) (by omega)⟩
    · have := key 10 (a + 3) (Or.inl rfl) (by omega)
      omega
    · have := key 10 (a + 3) (Or.inl rfl) (by omega)
      omega
  · refine ⟨11, a + 2, rfl, Or.inr rfl, by omega, by omega, by omega, ?_, ?_, ev 11 (a + 2) (Or.inr rfl) (by omega)⟩
    · have := key 11 (a + 2) (Or.inr rfl) (by omega)
      omega
    · have := key 11 (a + 2) (Or.inr rfl) (by omega)
      omega
theorem byone_any (n : Nat) (h0 : 0 < n) (hn : n < 9223372036854775808) (w : World) :
    Calls Tryz.prog 50 #[.int .u64 n] w fun e w' => (∃ r : Nat, e = .returned (.int .u64 (r : Int)) ∧ Rung n r) ∧ Ext w w' := by
  have c1 := fun W => lead_any n W h0 (by omega)
  have hnI : (n : Int) < 9223372036854775808 := by omega
  go_enter Tryz.func50, Tryz.ntmps50
  go_wp2_with fail
  refine (c1 _).mono ?_
  rintro e w1 ⟨a, rfl, ha, h1, h2, rfl⟩
  have HF := byone_facts n a h1 h2 hn ha
  have HR : Hid (∀ s : Nat, 3 ≤ s → s ≤ 66 → 10000 * 4503599627370496 ≤ n * 2 ^ s → n * 2 ^ s < 10000 * 9007199254740992 → Rung n ((1074 - s) * 4503599627370496 + evenQ (n * 2 ^ s) 10000)) := fun s g1 g2 g3 g4 => ⟨s, g1, g2, g3, g4, rfl⟩
  have et : IntKind.u64.wrap ((n : Int) * 2 ^ a) = ((n * 2 ^ a : Nat) : Int) := by
    have : (n : Int) * 2 ^ a = ((n * 2 ^ a : Nat) : Int) := by simp
    rw [this, wrapU]; omega
  have haI : (a : Int) ≤ 63 := by omega
  generalize n * 2 ^ a = t at *
  have e1 : (t : Int) / 2251799813685248 = ((t / 2251799813685248 : Nat) : Int) := by omega
  have e2 : IntKind.u64.wrap ((t : Int) * 8192) = ((t * 8192 % 18446744073709551616 : Nat) : Int) := by rw [wrapU]; omega
  have c2 := fun W => div64_any (t / 2251799813685248) (t * 8192 % 18446744073709551616) 10000 (by omega) (by omega) (by omega) W
  have e3 : t / 2251799813685248 * 18446744073709551616 + t * 8192 % 18446744073709551616 = t * 8192 := by omega
  rw [e3, ← e2, ← e1, show ((10000 : Nat) : Int) = 10000 from rfl] at c2
  clear e1 e2 e3
  obtain ⟨X, hX⟩ : ∃ X, X = t * 8192 := ⟨_, rfl⟩
  rw [← hX] at c2 HF
  have hXl : 75557863725914323419136 ≤ X ∧ X < 151115727451828646838272 := by omega
  have HX : Hid (75557863725914323419136 ≤ X ∧ X < 151115727451828646838272) := hXl
  have hst : sticky X 10000 < 18446744073709551616 ∧ 0 < sticky X 10000 := by unfold sticky; split <;> omega
  have c3 := fun W => len64_any ((sticky X 10000 : Nat) : Int) W (by omega) (by omega)
  have eor := sticky_or (X / 10000) (by omega)
  have hst2 : sticky X 10000 = if X % 10000 = 0 then X / 10000 else X / 10000 / 2 * 2 + 1 := rfl
  have c4 := fun o ho W => shorter_small (sticky X 10000) o hst.1 ho W
  rw [Int.toNat_natCast] at c3
  generalize sticky X 10000 = S at *
  clear hX h1 h2 hXl
  go_wp2_with fail
  refine (c2 _).mono ?_
  rintro e w2 ⟨rfl, E2⟩
  clear c2
  obtain ⟨q, hq⟩ : ∃ q : Int, q = ((X / 10000 : Nat) : Int) := ⟨_, rfl⟩
  obtain ⟨r, hr⟩ : ∃ r : Int, r = ((X % 10000 : Nat) : Int) := ⟨_, rfl⟩
  rw [← hq, ← hr]
  rw [← hq] at eor
  by_cases g0 : X % 10000 = 0
  · rw [if_pos g0] at hst2
    have r0 : r = 0 := by omega
    have q0 : q = (S : Int) := by omega
    subst r0 q0
    clear g0 hst2 eor hq hr
    go_wp2_with fail
    refine (c3 _).mono ?_
    rintro e w3 ⟨L0, rfl, hL, rfl⟩
    obtain ⟨L, rfl, hL1⟩ := hL (by omega)
    obtain ⟨o, s, rfl, ho, hso, s1, s2, s3, s4, s5⟩ := HF L hL1
    have ho63 : o ≤ 63 := by omega
    have c5 := fun W => c4 o ho63 W
    rw [s5] at c5
    have HR2 : Hid (Rung n ((1074 - s) * 4503599627370496 + evenQ (n * 2 ^ s) 10000)) := HR.out s s1 s2 s3 s4
    have he : evenQ (n * 2 ^ s) 10000 ≤ 9007199254740992 := evenQ_le (by decide) (by omega)
    generalize evenQ (n * 2 ^ s) 10000 = v at *
    have eL : ((o + 53 : Nat) : Int) = (o : Int) + 53 := by omega
    rw [eL]
    have hoI : (o : Int) = (a : Int) + 13 - s := by omega
    have hsI : (s : Int) ≤ 66 := by omega
    have hvI : (v : Int) ≤ 9007199254740992 := by omega
    clear s3 s4 s5 HF hL hL1 c4 eL
    have HO : Hid (s + o = a + 13) := hso
    go_wp2_with fail
    rw [show (a : Int) + 13 - s + 53 - 52 - 1 = o by omega]
    refine (c5 _).mono ?_
    rintro e w4 ⟨rfl, E4⟩
    have ef : (1075 + (o : Int) - 13 - a - 1) = 1074 - s := by omega
    rw [ef]
    clear ef hoI ho hso
    go_wp2
    go_ret
    refine ⟨⟨_, ret_int ?_, HR2.out⟩, E2.trans E4⟩
    omega
  · rw [if_neg g0] at hst2
    have r0 : 0 < r := by omega
    have r1 : r < 10000 := by omega
    have q0 : ((X / 10000 / 2 * 2 + 1 : Nat) : Int) = (S : Int) := by omega
    rw [q0] at eor
    have q1 : 0 ≤ q ∧ q < 18446744073709551616 := by have := HX.out; omega
    obtain ⟨q1, q2⟩ := q1
    clear g0 hst2 hq hr q0
    go_wp2_with fail
    refine (c3 _).mono ?_
    rintro e w3 ⟨L0, rfl, hL, rfl⟩
    obtain ⟨L, rfl, hL1⟩ := hL (by omega)
    obtain ⟨o, s, rfl, ho, hso, s1, s2, s3, s4, s5⟩ := HF L hL1
    have ho63 : o ≤ 63 := by omega
    have c5 := fun W => c4 o ho63 W
    rw [s5] at c5
    have HR2 : Hid (Rung n ((1074 - s) * 4503599627370496 + evenQ (n * 2 ^ s) 10000)) := HR.out s s1 s2 s3 s4
    have he : evenQ (n * 2 ^ s) 10000 ≤ 9007199254740992 := evenQ_le (by decide) (by omega)
    generalize evenQ (n * 2 ^ s) 10000 = v at *
    have eL : ((o + 53 : Nat) : Int) = (o : Int) + 53 := by omega
    rw [eL]
    have hoI : (o : Int) = (a : Int) + 13 - s := by omega
    have hsI : (s : Int) ≤ 66 := by omega
    have hvI : (v : Int) ≤ 9007199254740992 := by omega
    clear s3 s4 s5 HF hL hL1 c4 eL
    have HO : Hid (s + o = a + 13) := hso
    go_wp2_with fail
    rw [show (a : Int) + 13 - s + 53 - 52 - 1 = o by omega]
    refine (c5 _).mono ?_
    rintro e w4 ⟨rfl, E4⟩
    have ef : (1075 + (o : Int) - 13 - a - 1) = 1074 - s := by omega
    rw [ef]
    clear ef hoI ho hso
    go_wp2
    go_ret
    refine ⟨⟨_, ret_int ?_, HR2.out⟩, E2.trans E4⟩
    omega
end Go.Proofs.YtdjniiginnlmhaaGreatDoor

namespace Go.Proofs.YtdjniiginnlmhaaGreatDoor
open Go.RowKit
set_option maxHeartbeats 1000000

theorem rung_lt {n r : Nat} (h : Rung n r) : 4503599627370496 ≤ r ∧ r < 4838866438106480640 := by
  obtain ⟨s, s1, s2, s3, s4, rfl⟩ := h
  have g1 : 4503599627370496 ≤ evenQ (n * 2 ^ s) 10000 := evenQ_ge (by decide) (by omega)
  have g2 : evenQ (n * 2 ^ s) 10000 ≤ 9007199254740992 := evenQ_le (by decide) (by omega)
  omega
/-- b is the float nearest to a. -/
def IsTo (a : Int) (b : Nat) : Prop := (a = 0 ∧ b = 0) ∨ (0 < a ∧ Rung a.natAbs b) ∨ (a < 0 ∧ ∃ r, Rung a.natAbs r ∧ b = 9223372036854775808 + r)
theorem or_top (r : Nat) (h : r < 9223372036854775808) : bits .or .u64 9223372036854775808 (r : Int) = ((9223372036854775808 + r : Nat) : Int) := by
  rw [show (9223372036854775808 : Int) = ((9223372036854775808 : Nat) : Int) from rfl, bits_or_u64_nat _ _ (by omega) (by omega)]
  have h := Nat.two_pow_add_eq_or_of_lt (i := 63) (b := r) h 1
  rw [show 2 ^ 63 * 1 = 9223372036854775808 from rfl] at h
  rw [h]
theorem to_no (w : World) : Calls Tryz.prog 21 #[.int .i64 (-9223372036854775808)] w fun e w' => e = .returned (.tuple #[.int .u64 0, .bool false]) ∧ Ext w w' := by
  go_enter Tryz.func21, Tryz.ntmps21
  go_wp2_with fail
  refine (can_any _ _).mono ?_
  rintro e w1 ⟨rfl, rfl⟩
  rw [show canB (-9223372036854775808) = false from rfl]
  go_wp2
  go_ret2
  exact ⟨rfl, Ext.refl _⟩
theorem to_any (a : Int) (ha : I64 a) (h : a ≠ -9223372036854775808) (w : World) : Calls Tryz.prog 21 #[.int .i64 a] w fun e w' => (∃ b : Nat, e = .returned (.tuple #[.int .u64 (b : Int), .bool true]) ∧ IsTo a b) ∧ Ext w w' := by
  have hc : canB a = true := by unfold canB; simpa using h
  have c1 := fun W => can_any a W
  rw [hc] at c1
  obtain ⟨a1, a2⟩ := ha
  rcases Int.lt_trichotomy a 0 with g | g | g
  · have c2 := fun W => byone_any a.natAbs (by omega) (by omega) W
    have e1 : ((a.natAbs : Nat) : Int) = -a := by omega
    rw [e1] at c2
    have g0 : (a == 0) = false := by simp; omega
    have g3 : -9223372036854775807 ≤ a := by omega
    clear hc h e1 a1
    have HA : Hid (∀ r b, Rung a.natAbs r → b = 9223372036854775808 + r → IsTo a b) := fun r b h1 h2 => Or.inr (Or.inr ⟨g, r, h1, h2⟩)
    generalize a.natAbs = n at *
    go_enter Tryz.func21, Tryz.ntmps21
    go_wp2_with fail
    refine (c1 _).mono ?_
    rintro e w1 ⟨rfl, rfl⟩
    go_wp2_with fail
    refine (c2 _).mono ?_
    rintro e w2 ⟨⟨r, rfl, hr⟩, E2⟩
    have hl := rung_lt hr
    have eo := or_top r (by omega)
    obtain ⟨B, hB⟩ : ∃ B, B = 9223372036854775808 + r := ⟨_, rfl⟩
    rw [← hB] at eo
    have HI : Hid (IsTo a B) := HA.out r B hr hB
    clear hl hr hB HA
    go_wp2
    go_ret2
    exact ⟨⟨B, rfl, HI.out⟩, E2⟩
  · subst g
    clear hc h a1 a2
    go_enter Tryz.func21, Tryz.ntmps21
    go_wp2_with fail
    refine (c1 _).mono ?_
    rintro e w1 ⟨rfl, rfl⟩
    go_wp2
    go_ret2
    exact ⟨⟨0, rfl, Or.inl ⟨rfl, rfl⟩⟩, Ext.refl _⟩
  · have c2 := fun W => byone_any a.natAbs (by omega) (by omega) W
    have e1 : ((a.natAbs : Nat) : Int) = a := by omega
    rw [e1] at c2
    have g0 : (a == 0) = false := by simp; omega
    clear hc h e1 a1
    have HA : Hid (∀ r, Rung a.natAbs r → IsTo a r) := fun r h1 => Or.inr (Or.inl ⟨g, h1⟩)
    generalize a.natAbs = n at *
    go_enter Tryz.func21, Tryz.ntmps21
    go_wp2_with fail
    refine (c1 _).mono ?_
    rintro e w1 ⟨rfl, rfl⟩
    go_wp2_with fail
    refine (c2 _).mono ?_
    rintro e w2 ⟨⟨r, rfl, hr⟩, E2⟩
    have HI : Hid (IsTo a r) := HA.out r hr
    clear hr HA
    go_wp2
    go_ret2
    exact ⟨⟨r, rfl, HI.out⟩, E2⟩

/-- A float's place among all. -/
def placeI (b : Nat) : Int := if b < 9223372036854775808 then b else 9223372036854775808 - (b : Int)
end Go.Proofs.YtdjniiginnlmhaaGreatDoor

namespace Go.Proofs.YtdjniiginnlmhaaGreatDoor
open Go.RowKit

theorem expo_top (c : Nat) : expo (9223372036854775808 + c) = expo c := by unfold expo; omega
theorem full_top (c : Nat) : full (9223372036854775808 + c) = full c := by unfold full; omega
theorem fromN_top (c : Nat) : fromN (9223372036854775808 + c) = fromN c := by unfold fromN; rw [expo_top, full_top]
theorem fromN_one (c : Nat) (h : expo c ≤ 1072) : fromN c = evenQ (full c * 1250) (2 ^ (1072 - expo c)) := by
  unfold fromN
  split
  · rename_i g
    rw [g, Nat.sub_self, Nat.pow_zero]
    have := evenQ_exact (full c * 1250) 1 (by decide)
    rw [Nat.mul_one] at this
    exact this.symm
  · have e : 1072 - expo c = 1071 - expo c + 1 := by omega
    rw [e, Nat.pow_succ, ← evenQ_scale (full c * 625) _ 2 (by decide), Nat.mul_assoc]
theorem fromN_mono {c d : Nat} (hd : d < 9223372036854775808) (h : c ≤ d) (he : expo d ≤ 1072) : fromN c ≤ fromN d := by
  have hc : expo c ≤ expo d := by unfold expo; omega
  rw [fromN_one c (by omega), fromN_one d he]
  have fc := full_bd c
  have fd := full_bd d
  refine evenQ_cross (Nat.pow_pos (by decide)) (Nat.pow_pos (by decide)) ?_
  rcases Nat.lt_or_eq_of_le hc with g | g
  · have e : 1072 - expo c = (1072 - expo d) + (expo d - expo c - 1) + 1 := by omega
    rw [e, Nat.pow_succ, Nat.pow_add]
    have hp : 1 ≤ 2 ^ (expo d - expo c - 1) := Nat.pow_pos (by decide)
    generalize 2 ^ (1072 - expo d) = p
    generalize 2 ^ (expo d - expo c - 1) = q at *
    have k1 : p * 1 ≤ p * q := Nat.mul_le_mul_left p hp
    have k2 : full c * 1250 * p ≤ full d * 1250 * 2 * p := Nat.mul_le_mul_right p (by omega)
    have k3 : full d * 1250 * 2 * p ≤ full d * 1250 * 2 * (p * q) := Nat.mul_le_mul_left _ (by omega)
    have k4 : full d * 1250 * 2 * (p * q) = full d * 1250 * (p * q * 2) := by rw [Nat.mul_assoc (full d * 1250), Nat.mul_comm 2]
    omega
  · have hf : full c ≤ full d := by
      have : c / 4503599627370496 % 2048 = d / 4503599627370496 % 2048 := g
      unfold full; omega
    rw [g]
    exact Nat.mul_le_mul_right _ (Nat.mul_le_mul_right _ hf)
theorem from_mono {a b : Nat} (ha : a < 18446744073709551616) (hb : b < 18446744073709551616) (ka : fromB a = true) (kb : fromB b = true) (h : placeI a < placeI b) : fromV a ≤ fromV b := by
  have ka2 : expo a ≤ 1072 := by unfold fromB at ka; simp at ka; exact ka.1
  have kb2 : expo b ≤ 1072 := by unfold fromB at kb; simp at kb; exact kb.1
  unfold fromV
  rw [ka, kb]
  simp only [if_true]
  unfold placeI at h
  unfold negB
  rcases Nat.lt_or_ge a 9223372036854775808 with g1 | g1
  · rcases Nat.lt_or_ge b 9223372036854775808 with g2 | g2
    · rw [if_pos g1, if_pos g2] at h
      have := fromN_mono g2 (show a ≤ b by omega) kb2
      rw [decide_eq_false (by omega), decide_eq_false (by omega), if_neg (by decide), if_neg (by decide)]
      omega
    · rw [if_pos g1, if_neg (by omega)] at h
      omega
  · rcases Nat.lt_or_ge b 9223372036854775808 with g2 | g2
    · rw [decide_eq_true g1, decide_eq_false (by omega), if_pos rfl, if_neg (by decide)]
      omega
    · rw [if_neg (by omega), if_neg (by omega)] at h
      obtain ⟨c, rfl⟩ : ∃ c, a = 9223372036854775808 + c := ⟨a - 9223372036854775808, by omega⟩
      obtain ⟨d, rfl⟩ : ∃ d, b = 9223372036854775808 + d := ⟨b - 9223372036854775808, by omega⟩
      rw [expo_top] at ka2
      have := fromN_mono (show c < 9223372036854775808 by omega) (show d ≤ c by omega) ka2
      rw [decide_eq_true g1, decide_eq_true g2, if_pos rfl, if_pos rfl, fromN_top, fromN_top]
      omega
theorem rung_mono {n m r t : Nat} (hr : Rung n r) (ht : Rung m t) (h : n ≤ m) : r ≤ t := by
  obtain ⟨s, a1, a2, a3, a4, rfl⟩ := hr
  obtain ⟨u, b1, b2, b3, b4, rfl⟩ := ht
  have e1 : evenQ (n * 2 ^ s) 10000 ≤ 9007199254740992 := evenQ_le (by decide) (by omega)
  have e2 : 4503599627370496 ≤ evenQ (m * 2 ^ u) 10000 := evenQ_ge (by decide) (by omega)
  rcases Nat.lt_trichotomy s u with g | g | g
  · exfalso
    have e : u = s + (u - s - 1) + 1 := by omega
    rw [e, Nat.pow_succ, Nat.pow_add] at b4
    have hp : 1 ≤ 2 ^ (u - s - 1) := Nat.pow_pos (by decide)
    generalize 2 ^ (u - s - 1) = q at *
    generalize 2 ^ s = p at *
    have k1 : n * p ≤ m * p := Nat.mul_le_mul_right p h
    have k2 : m * p * 1 ≤ m * p * q := Nat.mul_le_mul_left _ hp
    have k3 : m * (p * q * 2) = m * p * q * 2 := by rw [Nat.mul_assoc, Nat.mul_assoc, Nat.mul_assoc]
    omega
  · subst g
    have := evenQ_mono 10000 (Nat.mul_le_mul_right (2 ^ s) h)
    omega
  · have : (1074 - s + 1) * 4503599627370496 ≤ (1074 - u) * 4503599627370496 := Nat.mul_le_mul_right _ (by omega)
    omega
theorem to_mono {a b : Int} {f g : Nat} (ha : IsTo a f) (hb : IsTo b g) (h : a ≤ b) : ¬ placeI g < placeI f := by
  have key : ∀ {x : Int} {y : Nat}, IsTo x y → (x = 0 ∧ placeI y = 0) ∨ (0 < x ∧ ∃ r : Nat, Rung x.natAbs r ∧ placeI y = r) ∨ (x < 0 ∧ ∃ r : Nat, Rung x.natAbs r ∧ placeI y = -(r : Int)) := by
    intro x y hx
    rcases hx with ⟨h1, h2⟩ | ⟨h1, h2⟩ | ⟨h1, r, h2, h3⟩
    · exact .inl ⟨h1, by rw [h2]; rfl⟩
    · have := rung_lt h2
      exact .inr (.inl ⟨h1, y, h2, by unfold placeI; rw [if_pos (by omega)]⟩)
    · have := rung_lt h2
      exact .inr (.inr ⟨h1, r, h2, by unfold placeI; rw [h3, if_neg (by omega)]; omega⟩)
  rcases key ha with ⟨h1, h2⟩ | ⟨h1, r, h2, h3⟩ | ⟨h1, r, h2, h3⟩ <;> rcases key hb with ⟨k1, k2⟩ | ⟨k1, t, k2, k3⟩ | ⟨k1, t, k2, k3⟩
  · omega
  · omega
  · omega
  · omega
  · have := rung_mono h2 k2 (by omega); omega
  · omega
  · omega
  · omega
  · have := rung_mono k2 h2 (by omega); omega
end Go.Proofs.YtdjniiginnlmhaaGreatDoor
