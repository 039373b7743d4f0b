/-
  Whole numbers as lists of bits, the lowest first: plain arithmetic, no program in sight.
-/
import Derived.Test.YtbonaldlljdaoaaNum
namespace Go.Proofs.Ytbonaldlljdaoaa

/-- What a list of bits is. -/
def valOf : List Bool → Nat
  | [] => 0
  | b :: l => b.toNat + 2 * valOf l
/-- A number's bits, no nought highest. -/
def bitsOf (n : Nat) : List Bool := if h : n = 0 then [] else (n % 2 == 1) :: bitsOf (n / 2)
  termination_by n
  decreasing_by omega
theorem bitsOf_zero : bitsOf 0 = [] := by rw [bitsOf]; rfl
theorem bitsOf_pos {n : Nat} (h : 0 < n) : bitsOf n = (n % 2 == 1) :: bitsOf (n / 2) := by rw [bitsOf, dif_neg (by omega)]
theorem valOf_bitsOf (n : Nat) : valOf (bitsOf n) = n := by
  induction n using Nat.strongRecOn with
  | ind n ih =>
    rcases Nat.eq_zero_or_pos n with rfl | h
    · rw [bitsOf_zero]; rfl
    · rw [bitsOf_pos h, valOf, ih (n / 2) (by omega)]
      rcases Nat.mod_two_eq_zero_or_one n with g | g <;> rw [g] <;> simp <;> omega
theorem valOf_append (l m : List Bool) : valOf (l ++ m) = valOf l + 2 ^ l.length * valOf m := by
  induction l with
  | nil => simp [valOf]
  | cons b l ih =>
    rw [List.cons_append, valOf, ih, valOf, List.length_cons, Nat.pow_succ, Nat.mul_add, Nat.mul_comm (2 ^ l.length) 2, Nat.mul_assoc]
    omega
theorem valOf_one (b : Bool) : valOf [b] = b.toNat := by simp [valOf]
theorem valOf_lt (l : List Bool) : valOf l < 2 ^ l.length := by
  induction l with
  | nil => simp [valOf]
  | cons b l ih =>
    rw [valOf, List.length_cons, Nat.pow_succ]
    have := Bool.toNat_lt b
    omega
theorem valOf_replicate (k : Nat) : valOf (List.replicate k false) = 0 := by
  induction k with
  | zero => rfl
  | succ k ih => rw [List.replicate_succ, valOf, ih]; rfl
/-- No nought is highest. -/
def Canon (l : List Bool) : Prop := ∀ m b, l = m ++ [b] → b = true
theorem canon_bits (n : Nat) : Canon (bitsOf n) := by
  induction n using Nat.strongRecOn with
  | ind n ih =>
    intro m b h
    rcases Nat.eq_zero_or_pos n with rfl | hn
    · rw [bitsOf_zero] at h; simp at h
    · rw [bitsOf_pos hn] at h
      rcases Nat.eq_zero_or_pos (n / 2) with g | g
      · rw [g, bitsOf_zero] at h
        have hn1 : n = 1 := by omega
        subst hn1
        cases m with
        | nil => simp at h; exact h
        | cons c m => simp at h
      · cases m with
        | nil =>
          rw [bitsOf_pos g] at h
          simp at h
        | cons c m =>
          simp at h
          exact ih (n / 2) (by omega) m b h.2
theorem bits_of_canon (l : List Bool) (h : Canon l) : bitsOf (valOf l) = l := by
  induction l with
  | nil => exact bitsOf_zero
  | cons b l ih =>
    have hl : Canon l := fun m c e => h (b :: m) c (by rw [e]; rfl)
    have e := ih hl
    have hp : 0 < valOf (b :: l) := by
      rw [valOf]
      cases l with
      | nil => have := h [] b rfl; subst this; rw [Bool.toNat_true]; omega
      | cons c l =>
        rcases Nat.eq_zero_or_pos (valOf (c :: l)) with g | g
        · rw [g, bitsOf_zero] at e; cases e
        · omega
    rw [bitsOf_pos hp]
    have e1 : valOf (b :: l) / 2 = valOf l := by rw [valOf]; have := Bool.toNat_lt b; omega
    have e2 : (valOf (b :: l) % 2 == 1) = b := by rw [valOf]; cases b <;> simp <;> omega
    rw [e1, e2, e]
/-- How many bits a number has. -/
def blen (n : Nat) : Nat := (bitsOf n).length
theorem blen_zero : blen 0 = 0 := by unfold blen; rw [bitsOf_zero]; rfl
theorem blen_pos {n : Nat} (h : 0 < n) : blen n = blen (n / 2) + 1 := by unfold blen; rw [bitsOf_pos h]; rfl
theorem lt_blen (n : Nat) : n < 2 ^ blen n := by
  have := valOf_lt (bitsOf n)
  rwa [valOf_bitsOf] at this
theorem blen_le {n k : Nat} (h : n < 2 ^ k) : blen n ≤ k := by
  induction k generalizing n with
  | zero => have : n = 0 := by simpa using h
            subst this; rw [blen_zero]; omega
  | succ k ih =>
    rcases Nat.eq_zero_or_pos n with rfl | g
    · rw [blen_zero]; omega
    · rw [blen_pos g]
      have := ih (n := n / 2) (by rw [Nat.pow_succ] at h; omega)
      omega
theorem blen_ge {n : Nat} (h : 0 < n) : 2 ^ (blen n - 1) ≤ n := by
  rcases Nat.lt_or_ge n (2 ^ (blen n - 1)) with g | g
  · have := blen_le g
    have h1 : 0 < blen n := by rw [blen_pos h]; omega
    omega
  · exact g
theorem blen_mono {n m : Nat} (h : n ≤ m) : blen n ≤ blen m := blen_le (Nat.lt_of_le_of_lt h (lt_blen m))
theorem bits_shift {n : Nat} (k : Nat) (h : 0 < n) : bitsOf (n * 2 ^ k) = List.replicate k false ++ bitsOf n := by
  have e : valOf (List.replicate k false ++ bitsOf n) = n * 2 ^ k := by
    rw [valOf_append, valOf_replicate, valOf_bitsOf, List.length_replicate, Nat.zero_add, Nat.mul_comm]
  rw [← e]
  apply bits_of_canon
  intro m b hb
  rw [bitsOf_pos h] at hb
  have hn : List.replicate k false ++ bitsOf n ≠ [] := by rw [bitsOf_pos h]; simp
  have hlast : (List.replicate k false ++ bitsOf n).getLast hn = (bitsOf n).getLast (by rw [bitsOf_pos h]; simp) := List.getLast_append_of_ne_nil _ _
  have hc := canon_bits n (bitsOf n).dropLast ((bitsOf n).getLast (by rw [bitsOf_pos h]; simp)) (by rw [List.dropLast_concat_getLast])
  have e2 : (List.replicate k false ++ bitsOf n).getLast hn = b := by
    have : List.replicate k false ++ bitsOf n = m ++ [b] := by rw [bitsOf_pos h]; exact hb
    simp only [this, List.getLast_concat]
  rw [← e2, hlast]
  exact hc
theorem blen_shift {n : Nat} (k : Nat) (h : 0 < n) : blen (n * 2 ^ k) = k + blen n := by
  unfold blen; rw [bits_shift k h, List.length_append, List.length_replicate]
/-- A bit of a number. -/
theorem bits_at (n i : Nat) (h : i < blen n) : (bitsOf n)[i]? = some (n / 2 ^ i % 2 == 1) := by
  induction i generalizing n with
  | zero =>
    rcases Nat.eq_zero_or_pos n with rfl | g
    · rw [blen_zero] at h; omega
    · rw [bitsOf_pos g, Nat.pow_zero, Nat.div_one]; rfl
  | succ i ih =>
    rcases Nat.eq_zero_or_pos n with rfl | g
    · rw [blen_zero] at h; omega
    · rw [blen_pos g] at h
      rw [bitsOf_pos g, List.getElem?_cons_succ, ih (n / 2) (by omega), Nat.pow_succ, Nat.mul_comm, Nat.div_div_eq_div_mul]
theorem val_take_succ (l : List Bool) (i : Nat) (b : Bool) (h : l[i]? = some b) : l.take (i + 1) = l.take i ++ [b] := by
  rw [List.take_add_one, h]; rfl
theorem split_at (n i : Nat) (h : i ≤ blen n) : (bitsOf n).take i ++ bitsOf (n / 2 ^ i) = bitsOf n := by
  induction i generalizing n with
  | zero => simp
  | succ i ih =>
    rcases Nat.eq_zero_or_pos n with rfl | g
    · rw [blen_zero] at h; omega
    · rw [blen_pos g] at h
      have := ih (n / 2) (by omega)
      rw [bitsOf_pos g, List.take_succ_cons, List.cons_append, Nat.pow_succ, Nat.mul_comm, ← Nat.div_div_eq_div_mul, this]
end Go.Proofs.Ytbonaldlljdaoaa
