/-
  Decimal numerals as lists of bytes: which are numerals, what they say, how numbers are written. Plain mathematics: no program in sight.
-/
import Derived.Test.YtfppjnigbodphaaDoorNum
import Derived.Lib.ItoaNum
import Derived.Lib.Strings
namespace Go.Proofs.YtfppjnigbodphaaDoor
open Go.RowKit

/-- A digit. -/
def dgB (c : UInt8) : Bool := decide (48 ≤ c.toNat ∧ c.toNat ≤ 57)
/-- What digits say. -/
def val (l : List UInt8) : Nat := l.foldl (fun n c => n * 10 + (c.toNat - 48)) 0
/-- Digits alone, one to forty of them. -/
def okD (l : List UInt8) : Bool := decide (1 ≤ l.length ∧ l.length ≤ 40) && l.all dgB
/-- Noughts. -/
def zs (n : Nat) : List UInt8 := List.replicate n 48
/-- A minus ahead. -/
def minusB (l : List UInt8) : Bool := l.head? == some 45
/-- What stands behind it. -/
def sizeL (l : List UInt8) : List UInt8 := if minusB l then l.tail else l
/-- Ahead of the first dot; behind it; whether there is one. -/
def cutA (l : List UInt8) : List UInt8 := l.takeWhile (fun c => c != 46)
def cutB (l : List UInt8) : List UInt8 := (l.dropWhile (fun c => c != 46)).tail
def dotB (l : List UInt8) : Bool := l.any (fun c => c == 46)
/-- The digits that count, and whether the rest rounds up. -/
def four (b : List UInt8) : List UInt8 := (b ++ zs 5).take 4
def fifth (b : List UInt8) : UInt8 := (b ++ zs 5).getD 4 0
def rndN (b : List UInt8) : Nat := if 53 ≤ (fifth b).toNat then 1 else 0
/-- What a numeral's two parts say, in ten thousandths. -/
def nv (a b : List UInt8) : Nat := val (a ++ four b) + rndN b
/-- Is it a numeral; what does it say; and what is answered. -/
def numB (l : List UInt8) : Bool := okD (cutA (sizeL l)) && (!dotB (sizeL l) || okD (cutB (sizeL l)))
def numN (l : List UInt8) : Nat := nv (cutA (sizeL l)) (cutB (sizeL l))
def rdK (l : List UInt8) : Int := if numB l then (if numN l ≤ 9223372036854775807 then 1 else 2) else 0
def rdV (l : List UInt8) : Int := if numB l && decide (numN l ≤ 9223372036854775807) then (if minusB l then -(numN l : Int) else numN l) else 0

theorem val_snoc (l : List UInt8) (c : UInt8) : val (l ++ [c]) = val l * 10 + (c.toNat - 48) := by simp [val, List.foldl_append]
theorem val_from (b : List UInt8) (n : Nat) : b.foldl (fun n c => n * 10 + (c.toNat - 48)) n = n * 10 ^ b.length + val b := by
  induction b generalizing n with
  | nil => simp [val]
  | cons c b ih =>
    simp only [val, List.foldl_cons, List.length_cons] at ih ⊢
    rw [ih, ih (0 * 10 + _), Nat.pow_succ, Nat.add_mul, Nat.mul_assoc, Nat.mul_comm 10 (10 ^ b.length), Nat.zero_mul, Nat.zero_add]
    omega
theorem val_append (a b : List UInt8) : val (a ++ b) = val a * 10 ^ b.length + val b := by
  unfold val; rw [List.foldl_append, val_from]; rfl
theorem dg_bd {c : UInt8} (h : dgB c = true) : 48 ≤ c.toNat ∧ c.toNat ≤ 57 := by simpa [dgB] using h
theorem val_zs (n : Nat) : val (zs n) = 0 := by
  induction n with
  | zero => rfl
  | succ n ih => rw [zs, List.replicate_succ', val_snoc]; unfold zs at ih; rw [ih]; rfl
theorem val_mono (l : List UInt8) (k : Nat) : val (l.take k) ≤ val l := by
  have : l = l.take k ++ l.drop k := (List.take_append_drop k l).symm
  rw [this, val_append]
  simp only [List.take_append_drop]
  have hp : 1 ≤ 10 ^ (l.drop k).length := Nat.one_le_pow _ _ (by decide)
  have := Nat.le_mul_of_pos_right (val (l.take k)) hp
  omega
theorem val_take_succ (l : List UInt8) (k : Nat) (h : k < l.length) : val (l.take (k + 1)) = val (l.take k) * 10 + (l[k].toNat - 48) := by
  rw [List.take_succ_eq_append_getElem h, val_snoc]

theorem all_zs (n : Nat) : (zs n).all dgB = true := by
  rw [List.all_eq_true]; intro x hx; rw [(List.mem_replicate.1 hx).2]; rfl
theorem len_zs (n : Nat) : (zs n).length = n := by simp [zs]
theorem dg_ofNat {d : Nat} (h : d < 10) : dgB (UInt8.ofNat (48 + d)) = true ∧ (UInt8.ofNat (48 + d)).toNat = 48 + d := by
  have e : (UInt8.ofNat (48 + d)).toNat = 48 + d := by simp [UInt8.toNat_ofNat]; omega
  exact ⟨by unfold dgB; rw [e]; simp; omega, e⟩
open Go.Lib in
theorem dec_all (u : Nat) : (decDigits u).all dgB = true := by
  induction u using Nat.strongRecOn with
  | _ u ih =>
    by_cases h : u < 10
    · rw [decDigits, dif_pos h]; rw [List.all_cons, (dg_ofNat h).1]; rfl
    · rw [decDigits, dif_neg h, List.all_append, ih (u / 10) (by omega)]
      rw [List.all_cons, (dg_ofNat (d := u % 10) (by omega)).1]; rfl
open Go.Lib in
theorem dec_val (u : Nat) : val (decDigits u) = u := by
  induction u using Nat.strongRecOn with
  | _ u ih =>
    by_cases h : u < 10
    · rw [decDigits, dif_pos h]; show val ([] ++ [_]) = u; rw [val_snoc, (dg_ofNat h).2]; simp [val]
    · rw [decDigits, dif_neg h, val_snoc, ih (u / 10) (by omega), (dg_ofNat (d := u % 10) (by omega)).2]; omega
open Go.Lib in
theorem dec_len (u k : Nat) (h : u < 10 ^ (k + 1)) : 1 ≤ (decDigits u).length ∧ (decDigits u).length ≤ k + 1 := by
  rw [decDigits_length]
  refine ⟨nDigits_pos u, ?_⟩
  induction k generalizing u with
  | zero => rw [nDigits_small (by simpa using h)]; omega
  | succ k ih =>
    by_cases hu : u < 10
    · rw [nDigits_small hu]; omega
    · rw [nDigits_big hu]
      have := ih (u / 10) (by rw [Nat.pow_succ] at h; omega)
      omega
end Go.Proofs.YtfppjnigbodphaaDoor
