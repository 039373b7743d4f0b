/-
  The contract of the document's Literal.
-/
import Derived.Test.YtdmiddpfgmbbhaaGreatDoorValI
namespace Go.Proofs.YtdmiddpfgmbbhaaGreatDoor
open Go.RowKit
set_option maxHeartbeats 1000000

theorem head_eq (s : ByteArray) (h : 0 < s.size) : s.data.toList.head? = some s[0] := by
  obtain ⟨⟨l⟩⟩ := s
  cases l with
  | nil => simp [ByteArray.size] at h
  | cons c l => rfl
theorem head_is (s : ByteArray) (h : 0 < s.size) (g : s.data.toList.head? = some 39) : ((s[0].toNat : Int) == 39) = true := by
  rw [head_eq s h] at g
  have : s[0] = 39 := by simpa using g
  rw [this]; rfl
theorem head_not (s : ByteArray) (h : 0 < s.size) (g : ¬ s.data.toList.head? = some 39) : ((s[0].toNat : Int) == 39) = false := by
  rw [head_eq s h] at g
  have k : s[0] ≠ 39 := by simpa using g
  have : s[0].toNat ≠ 39 := fun e => k (UInt8.toNat_inj.1 (by rw [e]; rfl))
  simp; omega
theorem ext_drop (s : ByteArray) : s.extract 1 s.size = bs (s.data.toList.drop 1) := by
  have : (s.extract 1 s.size).data.toList = s.data.toList.drop 1 := by
    rw [Lib.extract_data, ← size_list]
    exact List.take_of_length_le (by simp)
  unfold bs
  rw [← this]
theorem quo_num (l : List UInt8) : rdK (39 :: l) = 0 := by
  have h1 : sizeL (39 :: l) = 39 :: l := rfl
  have h2 : okD (cutA (39 :: l)) = false := by
    have : cutA (39 :: l) = 39 :: cutA l := by simp [cutA]
    rw [this]; simp [okD, dgB]
  unfold rdK numB
  rw [h1, h2]; rfl
theorem num_head {s : ByteArray} (k : numK s = true) : ¬ s.data.toList.head? = some 39 := by
  intro h
  cases hl : s.data.toList with
  | nil => rw [hl] at h; cases h
  | cons c l =>
    rw [hl] at h
    obtain rfl : c = 39 := by simpa using h
    have := (numK_k s).1 k
    rw [hl, quo_num] at this
    omega
theorem lit_name {s : ByteArray} (i : Int) (hi : i = 1 ∨ i = 2 ∨ i = 3 ∨ i = 4 ∨ i = 5) (h : s.data.toList = errName i) : lit s = .err i := by
  have hk : numK s = false := by unfold numK; rw [h]; rcases hi with rfl | rfl | rfl | rfl | rfl <;> decide
  have ht : truK s = false := by unfold truK; rw [h]; rcases hi with rfl | rfl | rfl | rfl | rfl <;> decide
  have hn : nameE s.data.toList = i := by rw [h]; rcases hi with rfl | rfl | rfl | rfl | rfl <;> decide
  have he : s.data.toList ≠ [] := by rw [h]; rcases hi with rfl | rfl | rfl | rfl | rfl <;> decide
  have hq : ¬ s.data.toList.head? = some 39 := by rw [h]; rcases hi with rfl | rfl | rfl | rfl | rfl <;> decide
  rw [lit_m he hq hk ht (by unfold nmdK; rw [hn]; rcases hi with rfl | rfl | rfl | rfl | rfl <;> rfl)]
  unfold nmdR
  rw [hn, if_pos (by omega)]
theorem lit_true {s : ByteArray} (h : s.data.toList = trueL) : lit s = .tf true := by
  rw [lit_t (by rw [h]; decide) (by rw [h]; decide) (by unfold numK; rw [h]; decide) (by unfold truK; rw [h]; decide)]
  unfold truR; rw [if_pos h]
theorem lit_false {s : ByteArray} (h : s.data.toList = falseL) : lit s = .tf false := by
  rw [lit_t (by rw [h]; decide) (by rw [h]; decide) (by unfold numK; rw [h]; decide) (by unfold truK; rw [h]; decide)]
  unfold truR; rw [if_neg (by rw [h]; decide), if_pos h]
theorem nmd_no {s : ByteArray} (h1 : s.data.toList ≠ errName 1) (h2 : s.data.toList ≠ errName 2) (h3 : s.data.toList ≠ errName 3) (h4 : s.data.toList ≠ errName 4) (h5 : s.data.toList ≠ errName 5) : nmdK s = false := by
  unfold nmdK nameE; rw [if_neg h1, if_neg h2, if_neg h3, if_neg h4, if_neg h5]; rfl
theorem tru_no {s : ByteArray} (h1 : s.data.toList ≠ trueL) (h2 : s.data.toList ≠ falseL) : truK s = false := by unfold truK; simp [h1, h2]
end Go.Proofs.YtdmiddpfgmbbhaaGreatDoor
