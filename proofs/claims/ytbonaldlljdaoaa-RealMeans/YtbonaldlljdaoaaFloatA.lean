/-
  Floats in the model: bits there and back, sums, quotients, NaN.
-/
import Derived.Test.YtbonaldlljdaoaaRound
import Derived.Test.YtbonaldlljdaoaaRealG
import Derived.WalkLawsBesides
import Ieee.Arith
namespace Go.Proofs.Ytbonaldlljdaoaa
open Go.RowKit
set_option maxHeartbeats 1000000

theorem from_bits (b : Nat) (w : World) : (callFunc 42 #[.int .u64 (b : Int)]).run Try.prog w = .ok (.value (.float .f64 b)) w := by
  rw [run_callFunc_extern Try.func42 (by kernel_rfl) (by kernel_rfl) (by kernel_rfl) (e := Extern.MathFloatBits.float64frombits) (by kernel_rfl)]
  rfl
theorem to_bits (b : Nat) (w : World) : (callFunc 44 #[.float .f64 b]).run Try.prog w = .ok (.value (.int .u64 (b : Int))) w := by
  rw [run_callFunc_extern Try.func44 (by kernel_rfl) (by kernel_rfl) (by kernel_rfl) (e := Extern.MathFloatBits.float64bits) (by kernel_rfl)]
  rfl
theorem sw : Ieee.double.signWeight = 9223372036854775808 := by decide
theorem bin : Ieee.double.binade = 4503599627370496 := by decide
theorem infr : Ieee.double.infRung = 9218868437227405312 := by decide
theorem leastp : Ieee.double.leastPlace = -1074 := by decide
theorem read_neg (b : Nat) (hb : b < 18446744073709551616) : (b / 9223372036854775808 % 2 == 1) = negB b := by
  unfold negB; rw [Bool.eq_iff_iff]; simp; omega
theorem read_num (b : Nat) (hb : b < 18446744073709551616) (h : expo b ≠ 2047) : Ieee.double.read b = .number (negB b) (partF b) ((partE b : Int) - 1075) := by
  have hx := expo_lt b
  unfold Ieee.Format.read
  simp only [sw, bin, infr, leastp]
  rw [read_neg b hb]
  have e1 : b % 9223372036854775808 / 4503599627370496 = expo b := by unfold expo; omega
  have e2 : b % 9223372036854775808 % 4503599627370496 = b % 4503599627370496 := by omega
  generalize b % 9223372036854775808 = g at *
  by_cases h0 : expo b = 0
  · rw [if_pos (by omega)]
    unfold partE partF
    rw [if_pos h0, if_pos h0]
    congr 1
    omega
  · rw [if_neg (by omega), if_pos (by omega), e2, e1]
    unfold partE partF full
    rw [if_neg h0, if_neg h0]
    congr 1
    omega
theorem read_inf (b : Nat) (hb : b < 18446744073709551616) (h : expo b = 2047) (h0 : b % 4503599627370496 = 0) : Ieee.double.read b = .infinity (negB b) := by
  unfold Ieee.Format.read
  simp only [sw, bin, infr, leastp]
  rw [read_neg b hb]
  unfold expo at h
  rw [if_neg (by omega), if_neg (by omega), if_pos (by omega)]
/-- Is it a NaN's word? -/
def nanW (x : Nat) : Prop := ∃ s t, Ieee.double.read x = .nan s t
theorem read_nan (b : Nat) (h : expo b = 2047) (h0 : b % 4503599627370496 ≠ 0) : nanW b := by
  refine ⟨b / 9223372036854775808 % 2 == 1, b % 9223372036854775808 - 9218868437227405312, ?_⟩
  unfold Ieee.Format.read
  simp only [sw, bin, infr, leastp]
  unfold expo at h
  rw [if_neg (by omega), if_neg (by omega), if_neg (by omega)]
/-- The NaN that an operation with no answer gives: which, the world says. -/
def nanOf (x y : Nat) (w : World) : Nat := (Question.nanBits .f64 x y).cut (w.tape w.drawn (.nanBits .f64 x y))
theorem nanOf_nan (x y : Nat) (w : World) : nanW (nanOf x y w) := by
  unfold nanOf Question.cut
  generalize w.tape w.drawn (.nanBits .f64 x y) = t
  have h1 := Nat.mod_lt t (show 0 < 2 by decide)
  have h2 := Nat.mod_lt (t / 2) (show 0 < 4503599627370495 by decide)
  refine read_nan _ ?_ ?_
  · show (t % 2 * 9223372036854775808 + 9218868437227405312 + 1 + t / 2 % 4503599627370495) / 4503599627370496 % 2048 = 2047
    generalize t / 2 % 4503599627370495 = v at *
    rcases Nat.mod_two_eq_zero_or_one t with g | g <;> rw [g] <;> omega
  · show (t % 2 * 9223372036854775808 + 9218868437227405312 + 1 + t / 2 % 4503599627370495) % 4503599627370496 ≠ 0
    generalize t / 2 % 4503599627370495 = v at *
    rcases Nat.mod_two_eq_zero_or_one t with g | g <;> rw [g] <;> omega
theorem run_fadd (x y r : Nat) (h : Ieee.double.add x y = some r) (w : World) : (binOp .add 66 (.float .f64 x) (.float .f64 y)).run Try.prog w = .ok (.float .f64 r) w :=
  run_float_arith w .add _ .f64 x y r h
theorem run_fadd_nan (x y : Nat) (h : Ieee.double.add x y = none) (w : World) : (binOp .add 66 (.float .f64 x) (.float .f64 y)).run Try.prog w = .ok (.float .f64 (nanOf x y w)) w.drew := by
  have h' : FloatKind.f64.format.add x y = none := h
  simp [binOp, Op.floatArith, h', Question.forced, nanOf]
theorem run_fquo (x y r : Nat) (h : Ieee.double.div x y = some r) (w : World) : (binOp .quo 66 (.float .f64 x) (.float .f64 y)).run Try.prog w = .ok (.float .f64 r) w :=
  run_float_arith w .quo _ .f64 x y r h
theorem run_fquo_nan (x y : Nat) (h : Ieee.double.div x y = none) (w : World) : (binOp .quo 66 (.float .f64 x) (.float .f64 y)).run Try.prog w = .ok (.float .f64 (nanOf x y w)) w.drew := by
  have h' : FloatKind.f64.format.div x y = none := h
  simp [binOp, Op.floatArith, h', Question.forced, nanOf]
theorem isnan_any (x : Nat) (w : World) : Calls Try.prog 43 #[.float .f64 x] w fun e w' => e = .returned (.bool (FloatKind.f64.format.order x x != some .eq)) ∧ w' = w := by
  go_enter Try.func43, Try.ntmps43
  go_wp2
  go_ret
  exact ⟨rfl, rfl⟩
theorem nan_add {x : Nat} (y : Nat) (h : nanW x) : Ieee.double.add x y = none := by
  obtain ⟨s, t, e⟩ := h
  unfold Ieee.Format.add; rw [e]; rfl
theorem nan_div {x : Nat} (y : Nat) (h : nanW x) : Ieee.double.div x y = none := by
  obtain ⟨s, t, e⟩ := h
  unfold Ieee.Format.div; rw [e]; rfl
theorem nan_order {x : Nat} (h : nanW x) : (FloatKind.f64.format.order x x != some .eq) = true := by
  obtain ⟨s, t, e⟩ := h
  show (Ieee.double.order x x != some .eq) = true
  unfold Ieee.Format.order; rw [e]; rfl
theorem real_order {x : Nat} (h : ¬ nanW x) : (FloatKind.f64.format.order x x != some .eq) = false := by
  show (Ieee.double.order x x != some .eq) = false
  unfold Ieee.Format.order
  cases e : Ieee.double.read x with
  | nan s t => exact absurd ⟨s, t, e⟩ h
  | infinity s => simp [Ieee.Datum.order]
  | number s m i => simp [Ieee.Datum.order]
theorem word_notnan (neg : Bool) (r : Nat) (h : r ≤ 9218868437227405312) : ¬ nanW (Ieee.double.word neg r) := by
  rintro ⟨s, t, e⟩
  unfold Ieee.Format.read at e
  simp only [sw, bin, infr, leastp] at e
  have : Ieee.double.word neg r % 9223372036854775808 = r := by unfold Ieee.Format.word; rw [sw]; split <;> omega
  rw [this] at e
  split at e
  · cases e
  · split at e
    · cases e
    · split at e
      · cases e
      · omega
theorem write_notnan (d : Ieee.Datum) (h : d.isNaN = false) : ¬ nanW (Ieee.double.write d) := by
  cases d with
  | nan s t => cases h
  | infinity s =>
    show ¬ nanW (Ieee.double.word s Ieee.double.infRung)
    rw [infr]; exact word_notnan s _ (Nat.le_refl _)
  | number s m i =>
    show ¬ nanW (Ieee.double.nearest s m i)
    unfold Ieee.Format.nearest
    split
    · exact word_notnan s 0 (by decide)
    · refine word_notnan s _ ?_
      rw [infr]; exact Nat.min_le_right _ _
theorem div_notnan {x y r : Nat} (h : Ieee.double.div x y = some r) : ¬ nanW r ∧ r < 18446744073709551616 := by
  refine ⟨?_, Ieee.double.div_lt h⟩
  unfold Ieee.Format.div at h
  rw [Option.map_eq_some_iff] at h
  obtain ⟨d, hd, rfl⟩ := h
  refine write_notnan d ?_
  unfold Ieee.Datum.quotient at hd
  split at hd
  all_goals first
    | (cases hd; done)
    | (simp at hd; subst hd; rfl)
    | skip
  split at hd
  · split at hd
    · cases hd
    · simp at hd; subst hd; rfl
  · simp at hd; subst hd; rfl
end Go.Proofs.Ytbonaldlljdaoaa
