/-
  Contracts of products and quotients of the program: ratio, Mul, Div; and that the law's own small call lives.
-/
import Derived.Test.YtdmiddpfgmbbhaaGreatDoorFixA
import Derived.Test.YtdmiddpfgmbbhaaGreatDoorDiv64
namespace Go.Proofs.YtdmiddpfgmbbhaaGreatDoor
open Go.RowKit
set_option maxHeartbeats 1000000

/-- The nearest whole number to P by d, of two the greater one. -/
def nearQ (P d : Nat) : Nat := P / d + (if d ≤ 2 * (P % d) then 1 else 0)
/-- A size with a sign, if that is a number. -/
def sgnB (n : Nat) : Bool := decide (n ≤ 9223372036854775807)
def sgnV (neg : Bool) (n : Nat) : Int := if sgnB n then (if neg then -(n : Int) else n) else 0
theorem sgnB_no {n : Nat} (h : 9223372036854775807 < n) : sgnB n = false := by unfold sgnB; simp; omega
theorem sgnB_yes {n : Nat} (h : n ≤ 9223372036854775807) : sgnB n = true := by unfold sgnB; simp; omega
theorem sgnV_no {n : Nat} (neg : Bool) (h : 9223372036854775807 < n) : sgnV neg n = 0 := by unfold sgnV; rw [sgnB_no h]; rfl
theorem sgnV_yes {n : Nat} (neg : Bool) (h : n ≤ 9223372036854775807) : sgnV neg n = if neg then -(n : Int) else n := by unfold sgnV; rw [sgnB_yes h]; rfl

theorem signed_any (n : Nat) (hn : n < 18446744073709551616) (neg : Bool) (w : World) : Calls Tryz.prog 72 #[.int .u64 n, .bool neg] w fun e w' => e = .returned (.tuple #[.int .i64 (sgnV neg n), .bool (sgnB n)]) ∧ w' = w := by
  by_cases h : (9223372036854775807 : Int) < (n : Int)
  · have h1 := sgnB_no (n := n) (by omega)
    have h2 := sgnV_no (n := n) neg (by omega)
    clear hn
    go_enter Tryz.func72, Tryz.ntmps72
    go_wp2
    go_ret2
    exact ⟨ret_ib (by first | rfl | exact h2.symm) (by first | rfl | exact h1.symm), rfl⟩
  · have h1 := sgnB_yes (n := n) (by omega)
    have h2 := sgnV_yes (n := n) neg (by omega)
    have h3 : wrap64 (n : Int) = n := by unfold wrap64; omega
    have H2 : Hid (sgnV neg n = if neg then -(n : Int) else n) := h2
    clear h2 hn
    cases neg
    all_goals
      go_enter Tryz.func72, Tryz.ntmps72
      go_wp2
      go_ret2
      exact ⟨ret_ib (by rw [H2.out]; first | rfl | (simp; done) | (simp; omega)) (by first | rfl | exact h1.symm), rfl⟩

/-- a times b by c. -/
def ratN (a b c : Int) : Nat := nearQ (a.natAbs * b.natAbs) c.natAbs
def ratS (a b c : Int) : Bool := !((!(decide (a < 0) == decide (b < 0))) == decide (c < 0))
theorem ratio_any (a b c : Int) (ha : I64 a) (hb : I64 b) (hc : I64 c) (h0 : c ≠ 0) (w : World) : Calls Tryz.prog 54 #[.int .i64 a, .int .i64 b, .int .i64 c] w fun e w' => e = .returned (.tuple #[.int .i64 (sgnV (ratS a b c) (ratN a b c)), .bool (sgnB (ratN a b c))]) ∧ Ext w w' := by
  have cA := fun W => size_any a ha W
  have cB := fun W => size_any b hb W
  have cC := fun W => size_any c hc W
  have eA : absI a = (a.natAbs : Int) := by unfold absI; omega
  have eB : absI b = (b.natAbs : Int) := by unfold absI; omega
  have eC : absI c = (c.natAbs : Int) := by unfold absI; omega
  rw [eA] at cA; rw [eB] at cB; rw [eC] at cC
  obtain ⟨_, _⟩ := ha; obtain ⟨_, _⟩ := hb; obtain ⟨_, _⟩ := hc
  have bA : a.natAbs ≤ 9223372036854775808 := by omega
  have bB : b.natAbs ≤ 9223372036854775808 := by omega
  have bC : c.natAbs ≤ 9223372036854775808 := by omega
  have pC : 0 < c.natAbs := by omega
  unfold ratN
  generalize a.natAbs = A at *
  generalize b.natAbs = B at *
  generalize c.natAbs = C at *
  clear eA eB eC h0
  have hM := mul64N A B (by omega) (by omega)
  generalize hP : A * B = P at *
  have hhi : P / 18446744073709551616 < 18446744073709551616 := by
    have : A * B ≤ 9223372036854775808 * 9223372036854775808 := Nat.mul_le_mul bA bB
    omega
  have hlo : P % 18446744073709551616 < 18446744073709551616 := Nat.mod_lt _ (by decide)
  have hdm := Nat.div_add_mod P 18446744073709551616
  generalize P / 18446744073709551616 = hi at *
  generalize P % 18446744073709551616 = lo at *
  go_enter Tryz.func54, Tryz.ntmps54
  go_wp2_with fail
  refine (cC _).mono ?_
  rintro e w' ⟨rfl, rfl⟩
  go_wp2_with fail
  refine (cA _).mono ?_
  rintro e w' ⟨rfl, rfl⟩
  go_wp2_with fail
  refine (cB _).mono ?_
  rintro e w' ⟨rfl, rfl⟩
  go_wp2_with fail
  refine (hM _).mono ?_
  rintro e w' ⟨rfl, rfl⟩
  by_cases hge : (C : Int) ≤ (hi : Int)
  · have hbig : 9223372036854775807 < nearQ P C := by
      have : C * 18446744073709551616 ≤ P := by omega
      have : 18446744073709551616 ≤ P / C := by rw [Nat.le_div_iff_mul_le pC, Nat.mul_comm]; exact this
      unfold nearQ
      omega
    have H1 : Hid (sgnB (nearQ P C) = false) := sgnB_no hbig
    have H2 : Hid (sgnV (ratS a b c) (nearQ P C) = 0) := sgnV_no _ hbig
    clear hbig hM hP bA bB hdm hhi hlo
    go_wp2
    go_ret2
    exact ⟨ret_ib H2.out.symm H1.out.symm, Ext.refl _⟩
  · have hD := div64_any hi lo C (by omega) hlo (by omega)
    have hPe : hi * 18446744073709551616 + lo = P := by omega
    rw [hPe] at hD
    have HN : Hid (nearQ P C = P / C + (if C ≤ 2 * (P % C) then 1 else 0)) := rfl
    have hR : P % C < C := Nat.mod_lt _ pC
    obtain ⟨N, hNN⟩ : ∃ N, N = nearQ P C := ⟨_, rfl⟩
    have HNN : Hid (N = nearQ P C) := hNN
    rw [← hNN] at HN
    clear hNN
    generalize P / C = W at *
    generalize P % C = R at *
    clear hM hP bA bB hdm hhi hlo hPe
    go_wp2_with fail
    refine (hD _).mono ?_
    rintro e w1 ⟨rfl, E1⟩
    by_cases hw : (9223372036854775807 : Int) < (W : Int)
    · have hbig : 9223372036854775807 < N := by rw [HN.out]; omega
      have H1 : Hid (sgnB N = false) := sgnB_no hbig
      have H2 : Hid (sgnV (ratS a b c) N = 0) := sgnV_no _ hbig
      clear hbig hD
      go_wp2
      go_ret2
      exact ⟨ret_ib (by rw [← HNN.out]; exact H2.out.symm) (by rw [← HNN.out]; exact H1.out.symm), E1⟩
    · have i1 : (R : Int) < (C : Int) := by omega
      have i2 : (C : Int) ≤ 9223372036854775808 := by omega
      by_cases hr : (C : Int) - (R : Int) ≤ (R : Int)
      · have HNe : Hid (N = W + 1) := by show N = W + 1; rw [HN.out, if_pos (by omega)]
        have hc1 : ((W : Int) + 1) = ((W + 1 : Nat) : Int) := by omega
        have hb1 : W + 1 < 18446744073709551616 := by omega
        have HC1 : Hid (((W : Int) + 1) = ((W + 1 : Nat) : Int)) := hc1
        clear hD hR bC hc1
        go_wp2_with fail
        rw [HC1.out]
        refine (signed_any (W + 1) hb1 _ _).mono ?_
        rintro e w2 ⟨rfl, rfl⟩
        go_wp2
        go_ret2
        exact ⟨ret_ib (by rw [← HNN.out, HNe.out]; rfl) (by rw [← HNN.out, HNe.out]), E1⟩
      · have HNe : Hid (N = W) := by show N = W; rw [HN.out, if_neg (by omega)]; rfl
        have hb1 : W < 18446744073709551616 := by omega
        clear hD hR bC
        go_wp2_with fail
        refine (signed_any W hb1 _ _).mono ?_
        rintro e w2 ⟨rfl, rfl⟩
        go_wp2
        go_ret2
        exact ⟨ret_ib (by rw [← HNN.out, HNe.out]; rfl) (by rw [← HNN.out, HNe.out]), E1⟩
end Go.Proofs.YtdmiddpfgmbbhaaGreatDoor
