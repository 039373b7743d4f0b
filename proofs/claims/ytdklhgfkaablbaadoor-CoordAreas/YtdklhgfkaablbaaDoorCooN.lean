/-
  Places as plain data: names of columns, references as texts, rectangles. Plain mathematics: no program in sight.
-/
import Derived.Test.YtdklhgfkaablbaaDoorDecA
import Derived.Lib.IndexAny
namespace Go.Proofs.YtdklhgfkaablbaaDoor
open Go.RowKit

/-- Is the place on the sheet? -/
def inB (r c : Int) : Bool := decide (1 ≤ r) && decide (r ≤ 1000) && decide (1 ≤ c) && decide (c ≤ 52)
def colB (c : Int) : Bool := decide (1 ≤ c) && decide (c ≤ 52)
/-- A letter. -/
def ltB (c : UInt8) : Bool := decide (65 ≤ c.toNat ∧ c.toNat ≤ 90)
/-- A column's name. -/
def ltr (c : Nat) : UInt8 := UInt8.ofNat (65 + (c - 1) % 26)
def nameL (c : Int) : List UInt8 := if colB c then (if c ≤ 26 then [ltr c.toNat] else [65, ltr c.toNat]) else []
/-- A name's column, letter by letter. -/
def colF : Nat → List UInt8 → Nat
  | n, [] => n
  | n, c :: l => if ltB c && decide (26 * n + (c.toNat - 64) ≤ 52) then colF (26 * n + (c.toNat - 64)) l else 0
def colN (l : List UInt8) : Nat := colF 0 l
theorem colF_le : ∀ (l : List UInt8) (n : Nat), n ≤ 52 → colF n l ≤ 52
  | [], n, h => h
  | c :: l, n, h => by
    unfold colF
    split
    · rename_i g; simp at g; exact colF_le l _ g.2
    · omega
theorem colN_le (l : List UInt8) : colN l ≤ 52 := colF_le l 0 (by omega)
theorem colN_name (c : Nat) (h1 : 1 ≤ c) (h2 : c ≤ 52) : colN (nameL c) = c := by
  have : ∀ c : Fin 53, 1 ≤ c.val → colN (nameL c.val) = c.val := by decide +kernel
  exact this ⟨c, by omega⟩ h1
theorem u8_eq {a b : UInt8} (h : a.toNat = b.toNat) : a = b := UInt8.toNat_inj.1 h
theorem ltr_nat (c : Nat) : (ltr c).toNat = 65 + (c - 1) % 26 := by
  unfold ltr; rw [UInt8.toNat_ofNat']; omega
theorem name_colN (l : List UInt8) (h : colN l ≠ 0) : nameL (colN l) = l := by
  match l, h with
  | [], h => exact absurd rfl h
  | [a], h =>
    unfold colN colF colF at h ⊢
    by_cases g : (ltB a && decide (26 * 0 + (a.toNat - 64) ≤ 52)) = true
    · rw [if_pos g]
      simp [ltB] at g
      have e : a = ltr (26 * 0 + (a.toNat - 64)) := u8_eq (by rw [ltr_nat _]; omega)
      unfold nameL colB
      rw [if_pos (by simp; omega), if_pos (by omega), Int.toNat_natCast, ← e]
    · rw [if_neg g] at h; exact absurd rfl h
  | [a, b], h =>
    unfold colN colF colF colF at h ⊢
    by_cases g : (ltB a && decide (26 * 0 + (a.toNat - 64) ≤ 52)) = true
    · rw [if_pos g] at h ⊢
      by_cases k : (ltB b && decide (26 * (26 * 0 + (a.toNat - 64)) + (b.toNat - 64) ≤ 52)) = true
      · rw [if_pos k]
        simp [ltB] at g k
        have ea : a = 65 := u8_eq (by show a.toNat = 65; omega)
        have e : b = ltr (26 * (26 * 0 + (a.toNat - 64)) + (b.toNat - 64)) := u8_eq (by rw [ltr_nat _]; omega)
        unfold nameL colB
        rw [if_pos (by simp; omega), if_neg (by omega), Int.toNat_natCast, ← e, ea]
      · rw [if_neg k] at h; exact absurd rfl h
    · rw [if_neg g] at h; exact absurd rfl h
  | a :: b :: c :: l, h =>
    exfalso; apply h
    unfold colN colF colF colF
    by_cases g : (ltB a && decide (26 * 0 + (a.toNat - 64) ≤ 52)) = true
    · rw [if_pos g]
      by_cases k : (ltB b && decide (26 * (26 * 0 + (a.toNat - 64)) + (b.toNat - 64) ≤ 52)) = true
      · rw [if_pos k, if_neg]
        simp [ltB] at g k ⊢
        omega
      · rw [if_neg k]
    · rw [if_neg g]
theorem name_inj (c : Nat) (l : List UInt8) (h1 : 1 ≤ c) (h2 : c ≤ 52) : nameL c = l ↔ colN l = c := by
  constructor
  · intro h; rw [← h]; exact colN_name c h1 h2
  · intro h; rw [← h]; exact name_colN l (by omega)
theorem colN_letters (l : List UInt8) (h : colN l ≠ 0) : l.all ltB = true := by
  have hl := colN_le l
  have := name_colN l h
  rw [← this]
  have all : ∀ c : Fin 53, 1 ≤ c.val → (nameL c.val).all ltB = true := by decide +kernel
  exact all ⟨colN l, by omega⟩ (by show 1 ≤ colN l; omega)
theorem name_len (c : Int) : (nameL c).length ≤ 2 := by unfold nameL; split <;> (try split) <;> simp

end Go.Proofs.YtdklhgfkaablbaaDoor
