/-
  Contracts of package real's way from a float's bits to a number.
-/
import Derived.Test.YtbonaldlljdaoaaRealA
import Derived.Test.YtbonaldlljdaoaaRealN
namespace Go.Proofs.Ytbonaldlljdaoaa
open Go.RowKit
set_option maxHeartbeats 1000000

theorem shorter_big (n : Nat) (d : Int) (hd : 63 < d) (w : World) :
    Calls Try.prog 47 #[.int .u64 n, .int .i64 d] w fun e w' => e = .returned (.int .u64 0) ∧ w' = w := by
  go_enter Try.func47, Try.ntmps47
  go_wp2
  go_ret
  exact ⟨rfl, rfl⟩
set_option maxRecDepth 100000 in
theorem shorter_small (n d : Nat) (hn : n < 18446744073709551616) (hd : d ≤ 63) (w : World) :
    Calls Try.prog 47 #[.int .u64 n, .int .i64 d] w fun e w' => e = .returned (.int .u64 ((evenQ n (2 ^ d) : Nat) : Int)) ∧ Ext w w' := by
  have hdI : (d : Int) ≤ 63 := by omega
  have hp : 2 ^ d ≤ 2 ^ 63 := Nat.pow_le_pow_right (by decide) hd
  have hp0 : 0 < 2 ^ d := Nat.pow_pos (by decide)
  have e0 : IntKind.u64.wrap ((2 : Int) ^ d) = ((2 ^ d : Nat) : Int) := by
    have : ((2 : Int) ^ d) = ((2 ^ d : Nat) : Int) := by simp
    rw [this, wrapU]; omega
  have e1 : ((n : Int) / 2 ^ d) = ((n / 2 ^ d : Nat) : Int) := by simp
  have e2 : ((n : Int) % ((2 ^ d : Nat) : Int)) = ((n % 2 ^ d : Nat) : Int) := by omega
  have hr : n % 2 ^ d < 2 ^ d := Nat.mod_lt _ hp0
  have hq : n / 2 ^ d ≤ n := Nat.div_le_self _ _
  have hq1 : 1 ≤ d → n / 2 ^ d ≤ 9223372036854775807 := by
    intro h
    have : 2 ^ 1 ≤ 2 ^ d := Nat.pow_le_pow_right (by decide) h
    have := Nat.div_le_div_left (a := n) this (by decide)
    omega
  have hp1 : d = 0 → 2 ^ d = 1 := by rintro rfl; rfl
  have HV : Hid (evenQ n (2 ^ d) = n / 2 ^ d + if 2 ^ d < 2 * (n % 2 ^ d) ∨ (2 ^ d = 2 * (n % 2 ^ d) ∧ n / 2 ^ d % 2 = 1) then 1 else 0) := rfl
  generalize evenQ n (2 ^ d) = v at *
  generalize n / 2 ^ d = q at *
  generalize n % 2 ^ d = r at *
  generalize 2 ^ d = P at *
  have hPI : (P : Int) ≠ 0 := by omega
  have hb : (q : Int) + 1 < 18446744073709551616 ∨ r = 0 := by
    rcases Nat.eq_zero_or_pos d with g | g
    · right; have := hp1 g; omega
    · left; have := hq1 g; omega
  have h64 : (2 : Nat) ^ 63 = 9223372036854775808 := rfl
  rw [h64] at hp
  have HB : Hid ((q : Int) + 1 < 18446744073709551616 ∨ r = 0) := hb
  clear hq1 hp1 h64 hb
  obtain ⟨m, hm⟩ : ∃ m : Int, m = (P : Int) - r := ⟨_, rfl⟩
  have ew : IntKind.u64.wrap ((P : Int) - r) = m := by rw [wrapU, hm]; omega
  have HM : Hid (m = (P : Int) - r) := hm
  have HR : Hid (r < P ∧ P ≤ 9223372036854775808 ∧ n < 18446744073709551616) := ⟨hr, hp, hn⟩
  obtain ⟨rI, hrI⟩ : ∃ rI : Int, rI = r := ⟨_, rfl⟩
  obtain ⟨qI, hqI⟩ : ∃ qI : Int, qI = q := ⟨_, rfl⟩
  rw [← hrI] at ew e2
  rw [← hqI] at e1
  have HI : Hid (rI = r ∧ qI = q) := ⟨hrI, hqI⟩
  clear hm hr hp hn hrI hqI hq
  by_cases g1 : m < rI
  · have HVV : Hid ((v : Int) = qI + 1 ∧ qI ≤ 18446744073709551614) := by
      have := HM.out; have := HI.out; have := HB.out
      refine ⟨?_, by omega⟩
      rw [HV.out, if_pos (by omega)]; omega
    clear HV HB
    go_enter Try.func47, Try.ntmps47
    go_upto_region 4 with fail
    go_region
    all_goals
      simp only [e2]
      clear e0 e1 e2
      go_wp2
      go_ret
      exact ⟨ret_int (by rw [wrapU, HVV.out.1]; have := HVV.out.2; have := HI.out; omega), (Ext.refl _).drew⟩
  by_cases g2 : rI < m
  · have HVV : Hid ((v : Int) = qI) := by
      have := HM.out; have := HI.out
      show (v : Int) = qI
      rw [HV.out, if_neg (by omega)]; omega
    have g3 : rI ≠ m := by omega
    have g4 : (rI == m) = false := by simpa using g3
    clear HV HB
    go_enter Try.func47, Try.ntmps47
    go_upto_region 4 with fail
    go_region
    all_goals
      simp only [e2]
      clear e0 e1 e2
      go_wp2
      go_ret
      exact ⟨ret_int (by rw [HVV.out]), (Ext.refl _).drew⟩
  have g3 : rI = m := by omega
  subst g3
  have et : qI.tmod 2 = qI % 2 := Int.tmod_eq_emod_of_nonneg (by have := HI.out; omega)
  by_cases g5 : qI % 2 = 1
  · have HVV : Hid ((v : Int) = qI + 1 ∧ qI ≤ 18446744073709551614) := by
      have := HM.out; have := HI.out; have := HB.out; have := HR.out
      refine ⟨?_, by omega⟩
      rw [HV.out, if_pos (by omega)]; omega
    have g7 : (qI.tmod 2 == 1) = true := by rw [et, g5]; rfl
    clear et g5
    clear HV HB
    go_enter Try.func47, Try.ntmps47
    go_upto_region 4 with fail
    go_region
    all_goals
      simp only [e2]
      clear e0 e1 e2
      go_wp2
      go_ret
      exact ⟨ret_int (by rw [wrapU, HVV.out.1]; have := HVV.out.2; have := HI.out; omega), (Ext.refl _).drew⟩
  · have HVV : Hid ((v : Int) = qI) := by
      have := HM.out; have := HI.out
      show (v : Int) = qI
      rw [HV.out, if_neg (by omega)]; omega
    have g7 : (qI.tmod 2 == 1) = false := by rw [et]; simpa using g5
    clear et g5
    clear HV HB
    go_enter Try.func47, Try.ntmps47
    go_upto_region 4 with fail
    go_region
    all_goals
      simp only [e2]
      clear e0 e1 e2
      go_wp2
      go_ret
      exact ⟨ret_int (by rw [HVV.out]), (Ext.refl _).drew⟩
theorem shorter_any (n d : Nat) (hn : n < 9223372036854775808) (w : World) :
    Calls Try.prog 47 #[.int .u64 n, .int .i64 d] w fun e w' => e = .returned (.int .u64 ((evenQ n (2 ^ d) : Nat) : Int)) ∧ Ext w w' := by
  rcases Nat.lt_or_ge 63 d with h | h
  · have hp : 2 ^ 64 ≤ 2 ^ d := Nat.pow_le_pow_right (by decide) h
    have e0 : evenQ n (2 ^ d) = 0 := evenQ_small (by omega)
    rw [e0]
    refine (shorter_big n d (by omega) w).mono ?_
    rintro e w1 ⟨rfl, rfl⟩
    exact ⟨rfl, Ext.refl _⟩
  · exact shorter_small n d (by omega) h w

/-- A float's exponent, its fraction with the 1 ahead, its sign. -/
def expo (b : Nat) : Nat := b / 4503599627370496 % 2048
def full (b : Nat) : Nat := 4503599627370496 + b % 4503599627370496
def negB (b : Nat) : Bool := decide (9223372036854775808 ≤ b)
theorem expo_lt (b : Nat) : expo b < 2048 := Nat.mod_lt _ (by decide)
theorem full_bd (b : Nat) : 4503599627370496 ≤ full b ∧ full b < 9007199254740992 := by unfold full; omega
theorem mask11 (a : Nat) (ha : a < 18446744073709551616) : bits .and .u64 (a : Int) 2047 = ((a % 2048 : Nat) : Int) := by
  have := bits_and_u64_nat a 2047 ha (by omega)
  rw [show (2047 : Nat) = 2 ^ 11 - 1 from rfl, Nat.and_two_pow_sub_one_eq_mod] at this
  exact this
theorem split_any (b : Nat) (hb : b < 18446744073709551616) (w : World) :
    Calls Try.prog 24 #[.int .u64 b] w fun e w' => e = .returned (.agg #[.bool (negB b), .int .u64 ((full b : Nat) : Int), .int .i64 (1075 - (expo b : Int))]) ∧ Ext w w' := by
  have e1 := mask11 (b / 4503599627370496) (by omega)
  have he := expo_lt b
  rw [show b / 4503599627370496 % 2048 = expo b from rfl] at e1
  have e2 : (b : Int) / 4503599627370496 = ((b / 4503599627370496 : Nat) : Int) := by omega
  rw [← e2] at e1
  have e3 : ((b : Int) / 9223372036854775808 == 1) = negB b := by unfold negB; rw [Bool.eq_iff_iff]; simp; omega
  have e4 : (4503599627370496 : Int) + (b : Int) % 4503599627370496 = ((full b : Nat) : Int) := by unfold full; omega
  have hf := full_bd b
  clear e2
  generalize negB b = nb at *
  generalize full b = f at *
  generalize expo b = E at *
  go_enter Try.func24, Try.ntmps24
  go_wp2
  simp [bodyPost, results, Try.results24, go_sem]
  exact (Ext.refl _).alloc _

/-- A float's size in ten thousandths, rounded. -/
def fromN (b : Nat) : Nat := if expo b = 1072 then full b * 1250 else evenQ (full b * 625) (2 ^ (1071 - expo b))
theorem parts_any (nb : Bool) (f E : Nat) (hf : f < 9007199254740992) (hE : E ≤ 1072) (w : World) :
    Calls Try.prog 25 #[.agg #[.bool nb, .int .u64 (f : Int), .int .i64 (1075 - (E : Int))]] w fun e w' => e = .returned (.int .u64 ((if E = 1072 then f * 1250 else evenQ (f * 625) (2 ^ (1071 - E)) : Nat) : Int)) ∧ Ext w w' := by
  have hfI : (f : Int) < 9007199254740992 := by omega
  rcases Nat.lt_or_ge E 1072 with g | g
  · rw [if_neg (by omega)]
    have c := fun W => shorter_any (f * 625) (1071 - E) (by omega) W
    have e1 : ((1071 - E : Nat) : Int) = 1075 - (E : Int) - 4 := by omega
    have e2 : ((f * 625 : Nat) : Int) = (f : Int) * 625 := by omega
    rw [e1, e2] at c
    clear e1 e2
    generalize evenQ (f * 625) (2 ^ (1071 - E)) = v at *
    have g2 : ¬ (1075 - (E : Int) < 4) := by omega
    go_enter Try.func25, Try.ntmps25
    go_wp2_with fail
    refine (c _).mono ?_
    rintro e w1 ⟨rfl, E1⟩
    go_wp2
    go_ret
    exact ⟨rfl, ((Ext.refl _).alloc _).trans E1⟩
  · have : E = 1072 := by omega
    subst this
    rw [if_pos rfl]
    have e2 : ((f * 1250 : Nat) : Int) = (f : Int) * 625 * 2 := by omega
    rw [e2]
    clear e2
    go_enter Try.func25, Try.ntmps25
    go_wp2
    go_ret
    exact ⟨rfl, (Ext.refl _).alloc _⟩
/-- Does it become a number, and which. -/
def fromB (b : Nat) : Bool := decide (expo b ≤ 1072 ∧ fromN b ≤ 9223372036854775807)
def fromV (b : Nat) : Int := if fromB b then (if negB b then -(fromN b : Int) else fromN b) else 0
theorem fromN_lt (b : Nat) : fromN b < 18446744073709551616 := by
  have hf := full_bd b
  unfold fromN
  split
  · omega
  · have : evenQ (full b * 625) (2 ^ (1071 - expo b)) ≤ full b * 625 := evenQ_le (Nat.pow_pos (by decide)) (Nat.le_mul_of_pos_right _ (Nat.pow_pos (by decide)))
    omega
theorem from_any (b : Nat) (hb : b < 18446744073709551616) (w : World) :
    Calls Try.prog 9 #[.int .u64 b] w fun e w' => e = .returned (.tuple #[.int .i64 (fromV b), .bool (fromB b)]) ∧ Ext w w' := by
  have c1 := fun W => split_any b hb W
  have hf := full_bd b
  have hl := fromN_lt b
  rcases Nat.lt_or_ge 1072 (expo b) with g | g
  · have e1 : fromB b = false := by unfold fromB; simp; omega
    have e2 : fromV b = 0 := by unfold fromV; rw [e1]; rfl
    rw [e1, e2]
    clear hl e1 e2
    generalize negB b = nb at *
    generalize full b = f at *
    generalize expo b = E at *
    have g2 : 1075 - (E : Int) < 3 := by omega
    go_enter Try.func9, Try.ntmps9
    go_wp2_with fail
    refine (c1 _).mono ?_
    rintro e w1 ⟨rfl, E1⟩
    go_wp2
    go_ret2
    exact ⟨rfl, E1.alloc _⟩
  · have c2 := fun nb W => parts_any nb (full b) (expo b) hf.2 g W
    rw [show (if expo b = 1072 then full b * 1250 else evenQ (full b * 625) (2 ^ (1071 - expo b))) = fromN b from rfl] at c2
    have g2 : ¬ (1075 - (expo b : Int) < 3) := by omega
    by_cases hM : fromN b ≤ 9223372036854775807
    · have e1 : fromB b = true := by unfold fromB; simp; omega
      have e2 : fromV b = if negB b then -(fromN b : Int) else fromN b := by unfold fromV; rw [e1]; rfl
      rw [e1, e2]
      clear hl e1 e2 g hf
      generalize negB b = nb at *
      generalize full b = f at *
      generalize expo b = E at *
      generalize fromN b = N at *
      have hMI : (N : Int) ≤ 9223372036854775807 := by omega
      go_enter Try.func9, Try.ntmps9
      go_wp2_with fail
      refine (c1 _).mono ?_
      rintro e w1 ⟨rfl, E1⟩
      go_wp2_with fail
      refine (c2 _ _).mono ?_
      rintro e w2 ⟨rfl, E2⟩
      have hc : w2.cell? ⟨w1.heap.size, 0, none⟩ = some (.bool nb) := (E2.cell.1 w1.heap.size 0 (by simp)).trans (by simp [go_sem])
      have E3 := (E1.alloc _).trans E2
      clear E2
      cases nb
      all_goals
        go_wp2
        go_ret2
        exact ⟨rfl, E3⟩
    · have e1 : fromB b = false := by unfold fromB; simp; omega
      have e2 : fromV b = 0 := by unfold fromV; rw [e1]; rfl
      rw [e1, e2]
      clear e1 e2 g hf
      generalize negB b = nb at *
      generalize full b = f at *
      generalize expo b = E at *
      generalize fromN b = N at *
      have hd : decide ((9223372036854775807 : Int) < N) = true := by simp; omega
      obtain ⟨NI, hNI⟩ : ∃ NI : Int, NI = N := ⟨_, rfl⟩
      rw [← hNI] at hd c2
      clear hNI hM hl
      go_enter Try.func9, Try.ntmps9
      go_wp2_with fail
      refine (c1 _).mono ?_
      rintro e w1 ⟨rfl, E1⟩
      go_wp2_with fail
      refine (c2 _ _).mono ?_
      rintro e w2 ⟨rfl, E2⟩
      have E3 := (E1.alloc _).trans E2
      clear E2
      go_wp2
      go_ret2
      exact ⟨rfl, E3⟩
end Go.Proofs.Ytbonaldlljdaoaa
