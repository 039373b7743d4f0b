/-
  Contracts of math/bits: Mul64, Len64, LeadingZeros64, walked over the library's own text.
-/
import Derived.Test.YtfppjnigbodphaaDoorRows
import Derived.Test.YtfppjnigbodphaaDoorDiv
import Derived.Lib.Mul64
import Derived.Laws.Bits64b
import Derived.Lib.BitFns
import Derived.Deep.Light
namespace Go.Proofs.YtfppjnigbodphaaDoor
open Go.RowKit
set_option maxHeartbeats 1000000

theorem maskN (a : Nat) (ha : a < 18446744073709551616) : bits .and .u64 (a : Int) 4294967295 = ((a % 4294967296 : Nat) : Int) := by
  have h := bits_and_u64_nat a 4294967295 ha (by omega)
  have e : a &&& 4294967295 = a % 4294967296 := Nat.and_two_pow_sub_one_eq_mod a 32
  rw [e] at h
  exact h
theorem divN (a : Nat) : (a : Int) / 4294967296 = ((a / 4294967296 : Nat) : Int) := by omega
theorem mulN (a b : Nat) : (a : Int) * (b : Int) = ((a * b : Nat) : Int) := (Int.natCast_mul a b).symm
theorem addN (a b : Nat) : (a : Int) + (b : Int) = ((a + b : Nat) : Int) := (Int.natCast_add a b).symm
theorem wrapN (a : Nat) (ha : a < 18446744073709551616) : IntKind.u64.wrap (a : Int) = (a : Int) := by rw [IntKind.wrap_u64]; omega
theorem wrapM (a : Nat) : IntKind.u64.wrap (a : Int) = ((a % 18446744073709551616 : Nat) : Int) := by rw [IntKind.wrap_u64]; omega

theorem tab_fin : ∀ n : Fin 256, 0 < n.val → ∃ t : Fin 9, 1 ≤ t.val ∧ ((Lib.len8tab[n.val]?).getD 0).toNat = t.val ∧ 2 ^ (t.val - 1) ≤ n.val ∧ n.val < 2 ^ t.val := by decide +kernel
theorem tab_at (y : Nat) (h : y < Lib.len8tab.size) (h0 : 0 < y) : ∃ t : Nat, t ≤ 8 ∧ 1 ≤ t ∧ (Lib.len8tab[y]'h).toNat = t ∧ 2 ^ (t - 1) ≤ y ∧ y < 2 ^ t := by
  have hs : Lib.len8tab.size = 256 := Lib.len8tab_size
  obtain ⟨t, h1, h2, h3, h4⟩ := tab_fin ⟨y, by omega⟩ h0
  refine ⟨t.val, by omega, h1, ?_, h3, h4⟩
  rw [← h2]
  simp only [getElem?_pos Lib.len8tab y h, Option.getD_some]
theorem len_close (x K t : Nat) (ht : 1 ≤ t) (hk : K + t ≤ 64) (h1 : 2 ^ (t - 1) ≤ x / 2 ^ K) (h2 : x / 2 ^ K < 2 ^ t) :
    9223372036854775808 ≤ x * 2 ^ (64 - (K + t)) ∧ x * 2 ^ (64 - (K + t)) < 18446744073709551616 := by
  have p : 0 < 2 ^ K := Nat.pow_pos (by omega)
  rw [Nat.le_div_iff_mul_le p] at h1
  rw [Nat.div_lt_iff_lt_mul p] at h2
  have q : 0 < 2 ^ (64 - (K + t)) := Nat.pow_pos (by omega)
  have e1 : 2 ^ (t - 1) * 2 ^ K * 2 ^ (64 - (K + t)) = 9223372036854775808 := by
    rw [← Nat.pow_add, ← Nat.pow_add, show t - 1 + K + (64 - (K + t)) = 63 from by omega]
  have e2 : 2 ^ t * 2 ^ K * 2 ^ (64 - (K + t)) = 18446744073709551616 := by
    rw [← Nat.pow_add, ← Nat.pow_add, show t + K + (64 - (K + t)) = 64 from by omega]
  exact ⟨by rw [← e1]; exact Nat.mul_le_mul h1 (Nat.le_refl _), by rw [← e2]; exact Nat.mul_lt_mul_of_lt_of_le h2 (Nat.le_refl _) q⟩
/-- How many bits x has. -/
def Len (x n : Nat) : Prop := 1 ≤ n ∧ n ≤ 64 ∧ 9223372036854775808 ≤ x * 2 ^ (64 - n) ∧ x * 2 ^ (64 - n) < 18446744073709551616
theorem wrap_add (K t : Nat) (hK : K ≤ 56) (ht : t ≤ 8) : wrap64 ((K : Int) + wrap64 (t : Int)) = ((K + t : Nat) : Int) := by unfold wrap64; omega
theorem len_way (x K y : Nat) (h : y < Lib.len8tab.size) (hK : K ≤ 56) (hy : y = x / 2 ^ K) (h0 : 0 < y) : ∃ n : Nat, Len x n ∧ wrap64 ((K : Int) + wrap64 ((Lib.len8tab[y]'h).toNat : Int)) = (n : Int) := by
  obtain ⟨t, a, b, c, d, e⟩ := tab_at y h h0
  rw [c]
  rw [hy] at d e
  have := len_close x K t b (by omega) d e
  exact ⟨K + t, ⟨by omega, by omega, this⟩, wrap_add K t hK a⟩
theorem len_get {y z : Nat} (h : y < Lib.len8tab.size) (e : y = z) : (Lib.len8tab[y]'h).toNat = (Lib.len8tab[z]'(e ▸ h)).toNat := by subst e; rfl
theorem len_int (x y : Int) (K : Nat) (h : y.toNat < Lib.len8tab.size) (hK : K ≤ 56) (hy : y.toNat = x.toNat / 2 ^ K) (h0 : 0 < y) :
    ∃ m : Nat, wrap64 ((K : Int) + wrap64 ((Lib.len8tab[y.toNat]'h).toNat : Int)) = (m : Int) ∧ Len x.toNat m := by
  obtain ⟨n, a, b⟩ := len_way x.toNat K y.toNat h hK hy (by omega)
  exact ⟨n, b, a⟩
theorem len_int0 (x : Int) (h : x.toNat < Lib.len8tab.size) (h0 : 0 < x) :
    ∃ m : Nat, wrap64 (wrap64 ((Lib.len8tab[x.toNat]'h).toNat : Int)) = (m : Int) ∧ Len x.toNat m := by
  obtain ⟨t, a, b, c, d, e⟩ := tab_at x.toNat h (by omega)
  rw [c]
  have := len_close x.toNat 0 t b (by omega) (by simpa using d) (by simpa using e)
  rw [Nat.zero_add] at this
  exact ⟨t, by unfold wrap64; clear this d e; omega, ⟨b, by omega, this⟩⟩
theorem p56 (x : Int) (h : 0 ≤ x) : (x / 4294967296 / 65536 / 256).toNat = x.toNat / 2 ^ 56 := by show _ = x.toNat / 72057594037927936; omega
theorem p48 (x : Int) (h : 0 ≤ x) : (x / 4294967296 / 65536).toNat = x.toNat / 2 ^ 48 := by show _ = x.toNat / 281474976710656; omega
theorem p40 (x : Int) (h : 0 ≤ x) : (x / 4294967296 / 256).toNat = x.toNat / 2 ^ 40 := by show _ = x.toNat / 1099511627776; omega
theorem p32 (x : Int) (h : 0 ≤ x) : (x / 4294967296).toNat = x.toNat / 2 ^ 32 := by show _ = x.toNat / 4294967296; omega
theorem p24 (x : Int) (h : 0 ≤ x) : (x / 65536 / 256).toNat = x.toNat / 2 ^ 24 := by show _ = x.toNat / 16777216; omega
theorem p16 (x : Int) (h : 0 ≤ x) : (x / 65536).toNat = x.toNat / 2 ^ 16 := by show _ = x.toNat / 65536; omega
theorem p8 (x : Int) (h : 0 ≤ x) : (x / 256).toNat = x.toNat / 2 ^ 8 := by show _ = x.toNat / 256; omega
theorem div_done (K N y p U L1 L0 : Nat) (hp : 0 < p) (hy : 0 < y) (hN : N * p = (U * K + L1) * K + L0) :
    (U * K + L1) / (y * p) * K + ((U * K + L1) % (y * p) * K + L0) / (y * p) = N / y ∧ ((U * K + L1) % (y * p) * K + L0) % (y * p) / p = N % y := by
  have hY : 0 < y * p := Nat.mul_pos hy hp
  generalize hYe : y * p = Y at *
  have a := Nat.div_add_mod (U * K + L1) Y
  generalize hQ1 : (U * K + L1) / Y = Q1 at *
  generalize hV : (U * K + L1) % Y = V at *
  have b := Nat.div_add_mod (V * K + L0) Y
  have c := Nat.mod_lt (V * K + L0) hY
  generalize hQ0 : (V * K + L0) / Y = Q0 at *
  generalize hT : (V * K + L0) % Y = T at *
  have d : N * p = T + Y * (Q1 * K + Q0) := by
    rw [hN, ← a, Nat.add_mul, Nat.mul_add, Nat.mul_assoc]
    omega
  have e1 : N * p / Y = Q1 * K + Q0 := by rw [d, Nat.add_mul_div_left _ _ hY, Nat.div_eq_of_lt c, Nat.zero_add]
  have e2 : N * p % Y = T := by rw [d, Nat.add_mul_mod_self_left, Nat.mod_eq_of_lt c]
  rw [← hYe, Nat.mul_div_mul_right _ _ hp] at e1
  rw [← hYe, Nat.mul_mod_mul_right] at e2
  exact ⟨e1.symm, by rw [← e2, Nat.mul_div_cancel _ hp]⟩
/-- The dividend, moved: its two words. -/
theorem shift_words (hi lo s : Nat) (hs : s ≤ 63) :
    (hi * 18446744073709551616 + lo) * 2 ^ s = (hi * 2 ^ s + lo / 2 ^ (64 - s)) * 18446744073709551616 + lo * 2 ^ s % 18446744073709551616 := by
  have e : 2 ^ (64 - s) * 2 ^ s = 18446744073709551616 := by rw [← Nat.pow_add, show 64 - s + s = 64 from by omega]
  have f : lo * 2 ^ s / 18446744073709551616 = lo / 2 ^ (64 - s) := by rw [← e, Nat.mul_div_mul_right _ _ (Nat.pow_pos (by omega))]
  have g := Nat.div_add_mod (lo * 2 ^ s) 18446744073709551616
  rw [f] at g
  rw [Nat.add_mul, Nat.add_mul, Nat.mul_right_comm]
  omega
theorem lo_small (lo s : Nat) (hs : s ≤ 63) (hlo : lo < 18446744073709551616) : lo / 2 ^ (64 - s) < 2 ^ s := by
  rw [Nat.div_lt_iff_lt_mul (Nat.pow_pos (by omega)), ← Nat.pow_add, show s + (64 - s) = 64 from by omega]
  exact hlo
theorem or_words (hi lo s : Nat) (hs : s ≤ 63) (hlo : lo < 18446744073709551616) (hhi : hi * 2 ^ s < 18446744073709551616) :
    bits .or .u64 (IntKind.u64.wrap ((hi : Int) * 2 ^ s)) ((lo : Int) / 2 ^ (64 - s)) = ((hi * 2 ^ s + lo / 2 ^ (64 - s) : Nat) : Int) := by
  have b := lo_small lo s hs hlo
  have c : hi * 2 ^ s + lo / 2 ^ (64 - s) = hi * 2 ^ s ||| lo / 2 ^ (64 - s) := by rw [Nat.mul_comm]; exact Nat.two_pow_add_eq_or_of_lt b hi
  have e1 : IntKind.u64.wrap ((hi : Int) * 2 ^ s) = ((hi * 2 ^ s : Nat) : Int) := by
    have : ((hi : Int) * 2 ^ s) = ((hi * 2 ^ s : Nat) : Int) := by simp
    rw [this]; exact wrapN _ hhi
  have e2 : (lo : Int) / 2 ^ (64 - s) = ((lo / 2 ^ (64 - s) : Nat) : Int) := by simp
  have d : lo / 2 ^ (64 - s) < 18446744073709551616 := Nat.lt_of_le_of_lt (Nat.div_le_self _ _) hlo
  rw [e1, e2, c]
  exact bits_or_u64_nat _ _ hhi d
end Go.Proofs.YtfppjnigbodphaaDoor
