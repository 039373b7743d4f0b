/-
  What is written is read as it was, with noughts ahead and behind too. Plain mathematics.
-/
import Derived.Test.YtdmiddpfgmbbhaaGreatDoorDecI
namespace Go.Proofs.YtdmiddpfgmbbhaaGreatDoor
open Go.RowKit

theorem zs_add (i j : Nat) : zs i ++ zs j = zs (i + j) := by simp [zs]
theorem take_zs (i j : Nat) (h : j ≤ i) : (zs i).take j = zs j := by simp [zs, List.take_replicate]; omega
theorem four_pad (f : List UInt8) (j k : Nat) (h : f.length + k = 4) : four (f ++ zs j) = f ++ zs k := by
  unfold four
  rw [List.append_assoc, zs_add, List.take_append, List.take_of_length_le (by omega), take_zs _ _ (by omega), show 4 - f.length = k by omega]
theorem rnd_pad (f : List UInt8) (j : Nat) (h : f.length ≤ 4) : rndN (f ++ zs j) = 0 := by
  rw [fifth_get, if_neg]
  rintro ⟨h1, h2⟩
  rw [List.getD_eq_getElem?_getD, List.getElem?_append, if_neg (by omega)] at h2
  rw [List.length_append, len_zs] at h1
  rw [List.getElem?_eq_getElem (by rw [len_zs]; omega), zs_get] at h2
  exact absurd h2 (by decide)
theorem size_plain (c : UInt8) (x : List UInt8) (h : dgB c = true) : minusB (c :: x) = false ∧ sizeL (c :: x) = c :: x := by
  have hc : c ≠ 45 := by intro e; subst e; exact absurd h (by decide)
  have : minusB (c :: x) = false := by
    show ((some c : Option UInt8) == some 45) = false
    simpa using hc
  exact ⟨this, by unfold sizeL; rw [this]; rfl⟩
theorem size_plain' (A x : List UInt8) (h : A.all dgB = true) (h1 : 1 ≤ A.length) : minusB (A ++ x) = false ∧ sizeL (A ++ x) = A ++ x := by
  cases A with
  | nil => simp at h1
  | cons c A => rw [List.all_cons, Bool.and_eq_true] at h; exact size_plain c _ h.1
theorem size_minus (x : List UInt8) : minusB (45 :: x) = true ∧ sizeL (45 :: x) = x := ⟨rfl, rfl⟩
def sgnL (neg : Bool) (x : List UInt8) : List UInt8 := if neg then 45 :: x else x
theorem sgn_parts (neg : Bool) (A x : List UInt8) (h : A.all dgB = true) (h1 : 1 ≤ A.length) : minusB (sgnL neg (A ++ x)) = neg ∧ sizeL (sgnL neg (A ++ x)) = A ++ x := by
  cases neg
  · exact size_plain' A x h h1
  · exact size_minus _
/-- A numeral with a dot; one without. -/
theorem num_dot (neg : Bool) (A B : List UInt8) (hA : okD A = true) (hB : okD B = true) : numB (sgnL neg (A ++ 46 :: B)) = true ∧ numN (sgnL neg (A ++ 46 :: B)) = nv A B ∧ minusB (sgnL neg (A ++ 46 :: B)) = neg := by
  have a := okD_bd hA
  have a1 : 1 ≤ A.length := ((ok_iff A).1 hA).1.1
  obtain ⟨m, z⟩ := sgn_parts neg A (46 :: B) a.2 a1
  obtain ⟨d1, d2, d3⟩ := dot_at (B := B) a.2
  refine ⟨?_, ?_, m⟩
  · unfold numB; rw [z, d1, d2, d3, hA, hB]; rfl
  · unfold numN; rw [z, d2, d3]
theorem num_bare (neg : Bool) (A : List UInt8) (hA : okD A = true) : numB (sgnL neg A) = true ∧ numN (sgnL neg A) = nv A [] ∧ minusB (sgnL neg A) = neg := by
  have a := okD_bd hA
  have a1 : 1 ≤ A.length := ((ok_iff A).1 hA).1.1
  obtain ⟨m, z⟩ := sgn_parts neg A [] a.2 a1
  rw [List.append_nil] at m z
  obtain ⟨d1, d2, d3⟩ := dot_no a.2
  refine ⟨?_, ?_, m⟩
  · unfold numB; rw [z, d1, d2, hA]; rfl
  · unfold numN; rw [z, d2, d3]
theorem ok_digits (i q : Nat) (hi : i ≤ 20) (h : q < 1000000000000000) : okD (zs i ++ Lib.decDigits q) = true := by
  obtain ⟨h1, h2⟩ := dec_len q 14 h
  refine okD_yes _ ?_ ?_ ?_
  · rw [List.length_append]; omega
  · rw [List.length_append, len_zs]; omega
  · rw [List.all_append, all_zs, dec_all]; rfl
theorem nv_pad (i j q r : Nat) (hr : r < 10000) : nv (zs i ++ Lib.decDigits q) (fracL r ++ zs j) = q * 10000 + r := by
  obtain ⟨k, hk, hl⟩ := frac_back r hr
  unfold nv
  rw [four_pad _ _ k hl, rnd_pad _ _ (by omega), ← hk, List.append_assoc, val_append, val_zs, val_append, dec_val, F4_val r hr]
  simp [F4]
theorem nv_bare (q : Nat) : nv (Lib.decDigits q) [] = q * 10000 := by
  have := nv_pad 0 0 q 0 (by omega)
  rw [frac_zero] at this
  simpa [zs] using this
theorem sg_back (a : Int) (h : canB a = true) (ha : I64 a) {l : List UInt8} (h1 : numB l = true) (h2 : numN l = a.natAbs) (h3 : minusB l = decide (a < 0)) : rdV l = a ∧ rdK l = 1 := by
  obtain ⟨b1, b2⟩ := ha
  have hc : a ≠ -9223372036854775808 := by simpa [canB] using h
  obtain ⟨r1, r2⟩ := num_is h1 (by omega)
  refine ⟨?_, r2⟩
  rw [r1, h3, h2]
  by_cases hn : a < 0
  · simp [hn]; omega
  · simp [hn]; omega
theorem body_read (neg : Bool) (n : Nat) (hn : n ≤ 9223372036854775807) : numB (sgnL neg (bodyL n)) = true ∧ numN (sgnL neg (bodyL n)) = n ∧ minusB (sgnL neg (bodyL n)) = neg := by
  have hr : n % 10000 < 10000 := Nat.mod_lt _ (by decide)
  have hD := ok_digits 0 (n / 10000) (by omega) (by omega)
  rw [show zs 0 = [] from rfl, List.nil_append] at hD
  unfold bodyL
  by_cases hf : fracL (n % 10000) = []
  · have h0 : n % 10000 = 0 := by
      rcases Nat.eq_zero_or_pos (n % 10000) with h | h
      · exact h
      · exact absurd hf (frac_pos _ hr h)
    rw [if_pos hf, List.append_nil]
    obtain ⟨p1, p2, p3⟩ := num_bare neg _ hD
    refine ⟨p1, ?_, p3⟩
    rw [p2, nv_bare]; omega
  · rw [if_neg hf]
    obtain ⟨k, hk, hl⟩ := frac_back _ hr
    have hB : okD (fracL (n % 10000)) = true := okD_yes _ (by rcases Nat.eq_zero_or_pos (fracL (n % 10000)).length with h | h; exact absurd (List.length_eq_zero_iff.1 h) hf; exact h) (by omega) (frac_all _ hr)
    obtain ⟨p1, p2, p3⟩ := num_dot neg _ _ hD hB
    refine ⟨p1, ?_, p3⟩
    have := nv_pad 0 0 (n / 10000) (n % 10000) hr
    rw [show zs 0 = [] from rfl, List.nil_append, List.append_nil] at this
    rw [p2, this]; omega
theorem print_sgn (a : Int) (h : canB a = true) : printL a = sgnL (decide (a < 0)) (bodyL a.natAbs) := by
  unfold printL sgnL
  rw [h, if_pos rfl]
  by_cases hn : a < 0
  · simp [hn]
  · simp [hn]
theorem read_back (a : Int) (h : canB a = true) (ha : I64 a) : rdV (printL a) = a ∧ rdK (printL a) = 1 := by
  have hb := ha
  obtain ⟨b1, b2⟩ := hb
  have hc : a ≠ -9223372036854775808 := by simpa [canB] using h
  obtain ⟨p1, p2, p3⟩ := body_read (decide (a < 0)) a.natAbs (by omega)
  rw [← print_sgn a h] at p1 p2 p3
  exact sg_back a h ha p1 p2 p3
theorem read_none (a : Int) (h : canB a = false) : rdV (printL a) = 0 ∧ rdK (printL a) = 0 := by
  have : printL a = [110, 111, 110, 101] := by unfold printL; rw [h]; rfl
  rw [this]; exact ⟨by decide, by decide⟩
end Go.Proofs.YtdmiddpfgmbbhaaGreatDoor
