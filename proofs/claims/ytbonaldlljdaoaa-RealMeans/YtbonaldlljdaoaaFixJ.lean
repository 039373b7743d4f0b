/-
  The contract of the document's own long division, bit by bit.
-/
import Derived.Test.YtbonaldlljdaoaaFixI
namespace Go.Proofs.Ytbonaldlljdaoaa
open Go.RowKit
set_option maxHeartbeats 1000000

theorem Pair.put {w : World} {b : Nat} {x : Int} (h : Pair w b x) (y : Int) (hu : uhi y = uhi x) : Pair (w.setCell ⟨b, 1, none⟩ (.int .u64 (loOf y))) b y := by
  obtain ⟨z, c0, c1, f0, f1⟩ := h
  refine ⟨by simpa [World.setCell] using z, ?_, ?_, ?_, ?_⟩
  · rw [World.cell?_setCell_other _ _ _ _ (by simp), hu]; exact c0
  · exact World.cell?_setCell_same _ ⟨b, 1, none⟩ _ (by rw [c1])
  · rw [World.frozen?_setCell]; exact f0
  · rw [World.frozen?_setCell]; exact f1
/-- What stands still while the division goes on. -/
def Keep (w : World) (X D : Int) (wr : World) : Prop := Ext w wr ∧ Pair wr w.heap.size X ∧ Pair wr (w.heap.size + 1) D ∧ Pair wr (w.heap.size + 2) 0 ∧ Pair wr (w.heap.size + 3) 0
theorem Keep.ext {w W W' : World} {X D : Int} (h : Keep w X D W) (e : Ext W W') : Keep w X D W' :=
  ⟨h.1.trans e, h.2.1.ext e, h.2.2.1.ext e, h.2.2.2.1.ext e, h.2.2.2.2.ext e⟩
theorem Keep.far {w W : World} {X D : Int} (h : Keep w X D W) {c : Nat} (hc : w.heap.size + 4 ≤ c) (o : Nat) (v : Value) : Keep w X D (W.setCell ⟨c, o, none⟩ v) :=
  ⟨h.1.setCell (by show w.heap.size ≤ c; omega) _, h.2.1.far (by omega) _ _, h.2.2.1.far (by omega) _ _, h.2.2.2.1.far (by omega) _ _, h.2.2.2.2.far (by omega) _ _⟩
theorem or_bit (x : Int) (t : Nat) (ht : t < 2) : bits .or .u64 (loOf (x * 2)) (t : Int) = loOf (x * 2 + t) := by
  obtain ⟨l, hl⟩ := Int.eq_ofNat_of_zero_le (lo_bd (x * 2)).1
  have b2 := (lo_bd (x * 2)).2
  have he : l % 2 = 0 := by unfold loOf at hl; omega
  obtain ⟨m, rfl⟩ : ∃ m, l = 2 * m := ⟨l / 2, by omega⟩
  rw [hl, or_even m t ht (by omega)]
  unfold loOf at hl ⊢
  omega
theorem uhi_bit (x : Int) (t : Nat) (ht : t < 2) : uhi (x * 2 + t) = uhi (x * 2) := by unfold uhi; omega
theorem bit_lo (X j : Nat) (hj : j < 64) : X % 18446744073709551616 / 2 ^ j % 2 = X / 2 ^ j % 2 := by
  have e : 18446744073709551616 = 2 ^ j * 2 ^ (64 - j) := by rw [← Nat.pow_add, show j + (64 - j) = 64 from by omega]
  rw [e, Nat.mod_mul_right_div_self]
  obtain ⟨i, hi⟩ : ∃ i, 64 - j = i + 1 := ⟨63 - j, by omega⟩
  rw [hi, Nat.pow_succ]
  exact Nat.mod_mul_left_mod _ _ _
theorem bit_hi (X i : Nat) : X / 18446744073709551616 / 2 ^ i % 2 = X / 2 ^ (i + 64) % 2 := by
  rw [Nat.div_div_eq_div_mul]
  have : 18446744073709551616 * 2 ^ i = 2 ^ (i + 64) := by rw [Nat.pow_add, Nat.mul_comm]
  rw [this]
/-- One step of the division. -/
theorem div_no (Z D t : Nat) (hD : 0 < D) (h : Z % D * 2 + t < D) : (2 * Z + t) / D = Z / D * 2 ∧ (2 * Z + t) % D = Z % D * 2 + t := by
  have e := Nat.div_add_mod Z D
  have : 2 * Z + t = (Z % D * 2 + t) + D * (Z / D * 2) := by rw [Nat.mul_comm (Z / D) 2, ← Nat.mul_assoc, Nat.mul_comm D 2, Nat.mul_assoc]; omega
  rw [this, Nat.add_mul_div_left _ _ hD, Nat.add_mul_mod_self_left, Nat.div_eq_of_lt h, Nat.mod_eq_of_lt h, Nat.zero_add]
  exact ⟨rfl, rfl⟩
theorem div_yes (Z D t : Nat) (hD : 0 < D) (ht : t < 2) (h : D ≤ Z % D * 2 + t) : (2 * Z + t) / D = Z / D * 2 + 1 ∧ (2 * Z + t) % D = Z % D * 2 + t - D := by
  have e := Nat.div_add_mod Z D
  have l := Nat.mod_lt Z hD
  have hl : Z % D * 2 + t - D < D := by omega
  have : 2 * Z + t = (Z % D * 2 + t - D) + D * (Z / D * 2 + 1) := by
    rw [Nat.mul_add, Nat.mul_one, Nat.mul_comm (Z / D) 2, ← Nat.mul_assoc, Nat.mul_comm D 2, Nat.mul_assoc]; omega
  rw [this, Nat.add_mul_div_left _ _ hD, Nat.add_mul_mod_self_left, Nat.div_eq_of_lt hl, Nat.mod_eq_of_lt hl, Nat.zero_add]
  exact ⟨rfl, rfl⟩
theorem ebit_lo (X j : Nat) (hj : j < 64) : bits .and .u64 (loOf (X : Int) / 2 ^ j) 1 = ((X / 2 ^ j % 2 : Nat) : Int) := by
  have e : loOf (X : Int) = ((X % 18446744073709551616 : Nat) : Int) := by unfold loOf; omega
  have f : ((X % 18446744073709551616 : Nat) : Int) / 2 ^ j = ((X % 18446744073709551616 / 2 ^ j : Nat) : Int) := by simp
  rw [e, f, and_one _ (Nat.lt_of_le_of_lt (Nat.div_le_self _ _) (Nat.mod_lt _ (by decide))), bit_lo X j hj]
theorem ebit_hi (X i : Nat) (hX : X < 340282366920938463463374607431768211456) : bits .and .u64 (uhi (X : Int) / 2 ^ i) 1 = ((X / 2 ^ (i + 64) % 2 : Nat) : Int) := by
  have e : uhi (X : Int) = ((X / 18446744073709551616 : Nat) : Int) := by unfold uhi; omega
  have f : ((X / 18446744073709551616 : Nat) : Int) / 2 ^ i = ((X / 18446744073709551616 / 2 ^ i : Nat) : Int) := by simp
  rw [e, f, and_one _ (Nat.lt_of_le_of_lt (Nat.div_le_self _ _) (by omega)), bit_hi X i]
end Go.Proofs.Ytbonaldlljdaoaa
