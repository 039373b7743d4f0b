/-
  A row's digits, as the code and as the document read them. Plain mathematics: no program in sight.
-/
import Derived.Test.YtdklhgfkaablbaaDoorDecK
import Derived.Test.YtdklhgfkaablbaaDoorCooN
namespace Go.Proofs.YtdklhgfkaablbaaDoor
open Go.RowKit

/-- A row's digits. -/
def rowC (l : List UInt8) : Int := if Lib.itoa (Int.tdiv (rdV l) 10000) = l then Int.tdiv (rdV l) 10000 else 0
/-- The digits of a row as the document asks them: no nought ahead, at most four. -/
def rowOk (l : List UInt8) : Bool := l.all dgB && (l.head? != some 48) && decide (l.length ≤ 4)

theorem dec_head (n : Nat) (h : 1 ≤ n) : ∃ c t, Lib.decDigits n = c :: t ∧ c ≠ 48 := by
  induction n using Nat.strongRecOn with
  | _ n ih =>
    rw [Lib.decDigits]
    by_cases g : n < 10
    · rw [dif_pos g]
      refine ⟨_, [], rfl, ?_⟩
      intro e
      have := congrArg UInt8.toNat e
      rw [(dg_ofNat g).2] at this
      have : (48 : UInt8).toNat = 48 := rfl
      omega
    · rw [dif_neg g]
      obtain ⟨c, t, e, k⟩ := ih (n / 10) (by omega) (by omega)
      exact ⟨c, t ++ [_], by rw [e]; rfl, k⟩
theorem dec_of_val (l : List UInt8) (h : l.all dgB = true) (h0 : l.head? ≠ some 48) (h1 : l ≠ []) : Lib.decDigits (val l) = l ∧ 1 ≤ val l := by
  generalize hn : l.length = n
  induction n generalizing l with
  | zero => exact absurd (List.length_eq_zero_iff.1 hn) h1
  | succ n ih =>
    have e := (List.dropLast_concat_getLast h1).symm
    generalize l.dropLast = a at *
    generalize l.getLast h1 = c at *
    subst e
    rw [List.all_append, Bool.and_eq_true] at h
    have hc := dg_bd (c := c) (by simpa using h.2)
    have ec : UInt8.ofNat (48 + (c.toNat - 48)) = c := u8_eq (by rw [UInt8.toNat_ofNat']; omega)
    rw [val_snoc]
    by_cases g : a = []
    · subst g
      have hne : c.toNat ≠ 48 := fun k => h0 (by simp; exact u8_eq k)
      have e0 : val ([] : List UInt8) = 0 := rfl
      rw [e0, Lib.decDigits, dif_pos (by omega)]
      refine ⟨?_, by omega⟩
      rw [Nat.zero_mul, Nat.zero_add, ec]; rfl
    · have hh : a.head? ≠ some 48 := by
        intro k; apply h0
        cases a with
        | nil => exact absurd rfl g
        | cons x y => simpa using k
      obtain ⟨i1, i2⟩ := ih a h.1 hh g (by simp at hn; omega)
      rw [Lib.decDigits, dif_neg (by omega)]
      refine ⟨?_, by omega⟩
      rw [show (val a * 10 + (c.toNat - 48)) / 10 = val a from by omega, show (val a * 10 + (c.toNat - 48)) % 10 = c.toNat - 48 from by omega, i1, ec]
theorem dec_len4 (n : Nat) (h : n ≤ 1000) : (Lib.decDigits n).length ≤ 4 := (dec_len n 3 (by omega)).2
theorem itoa_nat (n : Nat) : Lib.itoa n = Lib.decDigits n := by unfold Lib.itoa; rw [if_neg (by omega)]; rfl
theorem rd_dec (n : Nat) (h : n ≤ 9999) : rdV (Lib.decDigits n) = n * 10000 := by
  have hb := num_bare false (Lib.decDigits n) (okD_yes _ (dec_len n 3 (by omega)).1 (by have := (dec_len n 3 (by omega)).2; omega) (dec_all n))
  have e : sgnL false (Lib.decDigits n) = Lib.decDigits n := rfl
  rw [e] at hb
  obtain ⟨b1, b2, b3⟩ := hb
  rw [nv_bare] at b2
  unfold rdV
  rw [b1, b2, b3]
  simp
  omega
theorem val_bd (l : List UInt8) (h : l.all dgB = true) : val l < 10 ^ l.length := by
  induction l with
  | nil => decide
  | cons c l ih =>
    rw [List.all_cons, Bool.and_eq_true] at h
    have hc := dg_bd h.1
    have i := ih h.2
    have e : val (c :: l) = (c.toNat - 48) * 10 ^ l.length + val l := by
      have := val_append [c] l
      rw [show [c] ++ l = c :: l from rfl] at this
      rw [this]; simp [val]
    rw [e, List.length_cons, Nat.pow_succ]
    have : (c.toNat - 48) * 10 ^ l.length ≤ 9 * 10 ^ l.length := Nat.mul_le_mul_right _ (by omega)
    omega
/-- The two readings of a row's digits agree. -/
theorem row_in (l : List UInt8) (h1 : 1 ≤ rowC l) (h2 : rowC l ≤ 1000) : rowOk l = true ∧ (val l : Int) = rowC l := by
  unfold rowC at h1 h2 ⊢
  split at h1
  · rename_i e
    rw [if_pos e] at h2 ⊢
    obtain ⟨n, hn⟩ : ∃ n : Nat, Int.tdiv (rdV l) 10000 = n := ⟨(Int.tdiv (rdV l) 10000).toNat, by omega⟩
    rw [hn] at h1 h2 e ⊢
    rw [itoa_nat] at e
    obtain ⟨c, t, hd, hc⟩ := dec_head n (by omega)
    refine ⟨?_, by rw [← e, dec_val]⟩
    unfold rowOk
    rw [← e, dec_all, hd]
    have := dec_len4 n (by omega)
    rw [hd] at this
    simp at this ⊢
    exact ⟨hc, this⟩
  · omega
theorem row_ok (l : List UInt8) (h : rowOk l = true) (hne : l ≠ []) : rowC l = val l := by
  unfold rowOk at h
  simp only [Bool.and_eq_true, decide_eq_true_eq, bne_iff_ne] at h
  obtain ⟨⟨ha, hh⟩, hl⟩ := h
  obtain ⟨d1, d2⟩ := dec_of_val l ha hh hne
  have hv : val l ≤ 9999 := by
    have := val_bd l ha
    have h10 : 10 ^ l.length ≤ 10 ^ 4 := Nat.pow_le_pow_right (by omega) hl
    omega
  unfold rowC
  have : rdV l = val l * 10000 := by have := rd_dec (val l) hv; rwa [d1] at this
  rw [this, show Int.tdiv ((val l : Int) * 10000) 10000 = val l from Int.mul_tdiv_cancel _ (by decide), itoa_nat, d1, if_pos rfl]
end Go.Proofs.YtdklhgfkaablbaaDoor
