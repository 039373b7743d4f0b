/-
  The contracts of the document's Before and less.
-/
import Derived.Test.YtlfkiepnahgbeaaDoorValD
namespace Go.Proofs.YtlfkiepnahgbeaaDoor
open Go.RowKit
set_option maxHeartbeats 1000000

theorem cbd_step (a b : List UInt8) (k : Nat) (ha : k < a.length) (hb : k < b.length) (h : a[k] = b[k]) : Lib.compareBytes (a.drop k) (b.drop k) = Lib.compareBytes (a.drop (k + 1)) (b.drop (k + 1)) := by
  rw [List.drop_eq_getElem_cons ha, List.drop_eq_getElem_cons hb, h]
  conv => lhs; unfold Lib.compareBytes
  simp [UInt8.lt_irrefl]
theorem cbd_lt (a b : List UInt8) (k : Nat) (ha : k < a.length) (hb : k < b.length) (h : a[k] < b[k]) : Lib.compareBytes (a.drop k) (b.drop k) = -1 := by
  rw [List.drop_eq_getElem_cons ha, List.drop_eq_getElem_cons hb]
  unfold Lib.compareBytes
  simp [h]
theorem cbd_gt (a b : List UInt8) (k : Nat) (ha : k < a.length) (hb : k < b.length) (h : b[k] < a[k]) : Lib.compareBytes (a.drop k) (b.drop k) = 1 := by
  rw [List.drop_eq_getElem_cons ha, List.drop_eq_getElem_cons hb]
  have h1 : ¬ a[k] < b[k] := fun g => UInt8.lt_irrefl _ (UInt8.lt_trans h g)
  unfold Lib.compareBytes
  simp [h, h1]
theorem cbd_a (a b : List UInt8) (k : Nat) (ha : a.length ≤ k) : Lib.compareBytes (a.drop k) (b.drop k) = if k < b.length then -1 else 0 := by
  rw [List.drop_of_length_le ha]
  by_cases hb : k < b.length
  · rw [List.drop_eq_getElem_cons hb, if_pos hb]; rfl
  · rw [List.drop_of_length_le (by omega), if_neg hb]; rfl
theorem cbd_b (a b : List UInt8) (k : Nat) (ha : k < a.length) (hb : b.length ≤ k) : Lib.compareBytes (a.drop k) (b.drop k) = 1 := by
  rw [List.drop_of_length_le hb, List.drop_eq_getElem_cons ha]; rfl
def befB (a b : ByteArray) : Bool := decide (Lib.compareBytes a.data.toList b.data.toList = -1)
theorem before_any (a b : ByteArray) (ha : a.size ≤ maxLen) (w : World) :
    Calls Tryd.prog 48 #[.string a, .string b] w fun e w' => e = .returned (.bool (befB a b)) ∧ Ext w w' := by
  unfold maxLen at ha
  have hla := size_list a
  have hlb := size_list b
  go_enter Tryd.func48, Tryd.ntmps48
  go_wp2_with fail
  go_loopw [5] (fun i wr => ∃ k : Nat, k ≤ a.size ∧ k ≤ b.size ∧ i = .int .i64 k ∧ Hid (Lib.compareBytes a.data.toList b.data.toList = Lib.compareBytes (a.data.toList.drop k) (b.data.toList.drop k)) ∧ Ext w wr) (fun i _ => a.size - (intOf i).toNat)
  case atStart => exact ⟨0, Nat.zero_le _, Nat.zero_le _, rfl, by show _ = _; simp, Ext.refl _⟩
  case round =>
    obtain ⟨k, hk1, hk2, rfl, HE, hE⟩ := hrel
    by_cases h1 : k < a.size
    · by_cases h2 : k < b.size
      · have g1 := get_list a k h1
        have g2 := get_list b k h2
        by_cases hx : a[k] = b[k]
        · have HS : Hid (Lib.compareBytes (a.data.toList.drop k) (b.data.toList.drop k) = Lib.compareBytes (a.data.toList.drop (k + 1)) (b.data.toList.drop (k + 1))) := cbd_step _ _ k (by omega) (by omega) (by rw [g1, g2]; exact hx)
          have hx' : ((a[k].toNat : Int) != (b[k].toNat : Int)) = false := by rw [hx]; simp
          clear g1 g2 hx
          go_wp2_with fail
          go_region
          go_wp2_with fail
          go_roundw
          case rel => exact ⟨k + 1, by omega, by omega, by go_num, by show _ = _; rw [HE.out, HS.out], hE.drew⟩
          case measure => simp [intOf]; omega
        · have hn : a[k].toNat ≠ b[k].toNat := fun e => hx (UInt8.toNat_inj.1 e)
          have hx' : ((a[k].toNat : Int) != (b[k].toNat : Int)) = true := by simp; omega
          by_cases hlt : a[k].toNat < b[k].toNat
          · have HR : Hid (befB a b = true) := by
              show befB a b = true
              unfold befB
              rw [HE.out, cbd_lt _ _ k (by omega) (by omega) (by rw [g1, g2]; exact UInt8.lt_iff_toNat_lt.2 hlt)]; rfl
            have hd : decide ((a[k].toNat : Int) < (b[k].toNat : Int)) = true := by simp; omega
            clear g1 g2 hx hn
            go_wp2_with fail
            go_region
            go_wp2_with fail
            go_region
            go_wp2_with fail
            go_ret
            exact ⟨ret_bool HR.out.symm, hE.drew.drew⟩
          · have HR : Hid (befB a b = false) := by
              show befB a b = false
              unfold befB
              rw [HE.out, cbd_gt _ _ k (by omega) (by omega) (by rw [g1, g2]; exact UInt8.lt_iff_toNat_lt.2 (by omega))]; rfl
            have hd : decide ((a[k].toNat : Int) < (b[k].toNat : Int)) = false := by simp; omega
            clear g1 g2 hx hn
            go_wp2_with fail
            go_region
            go_wp2_with fail
            go_region
            go_wp2_with fail
            go_ret
            exact ⟨ret_bool HR.out.symm, hE.drew.drew⟩
      · have HR : Hid (befB a b = false) := by
          show befB a b = false
          unfold befB
          rw [HE.out, cbd_b _ _ k (by omega) (by omega)]; rfl
        go_wp2_with fail
        go_ret
        exact ⟨ret_bool (by rw [HR.out]; simp; omega), hE⟩
    · have hr := cbd_a a.data.toList b.data.toList k (by omega)
      by_cases h2 : k < b.size
      · have HR : Hid (befB a b = true) := by
          show befB a b = true
          unfold befB
          rw [HE.out, hr, if_pos (by omega)]; rfl
        clear hr
        go_wp2_with fail
        go_ret
        exact ⟨ret_bool (by rw [HR.out]; simp; omega), hE⟩
      · have HR : Hid (befB a b = false) := by
          show befB a b = false
          unfold befB
          rw [HE.out, hr, if_neg (by omega)]; rfl
        clear hr
        go_wp2_with fail
        go_ret
        exact ⟨ret_bool (by rw [HR.out]; simp; omega), hE⟩
def lessL (ak an : Int) (sa : ByteArray) (bk bn : Int) (sb : ByteArray) : Bool :=
  if ak = bk then (if ak = 3 then befB sa sb else decide (an < bn)) else (ak == 2 || (ak == 3 && bk == 1))
theorem less_any (ak an : Int) (sa : ByteArray) (ae bk bn : Int) (sb : ByteArray) (be : Int) (ha : sa.size ≤ maxLen) (w : World) :
    Calls Tryd.prog 36 #[.agg #[.int .i64 ak, .int .i64 an, .string sa, .int .i64 ae], .agg #[.int .i64 bk, .int .i64 bn, .string sb, .int .i64 be]] w fun e w' => e = .returned (.bool (lessL ak an sa bk bn sb)) ∧ Ext w w' := by
  have c1 := fun W => before_any sa sb ha W
  clear ha
  by_cases hk : ak = bk
  · subst hk
    have h0 : (ak != ak) = false := by simp
    by_cases h3 : ak = 3
    · have H : Hid (lessL ak an sa ak bn sb = befB sa sb) := by show lessL ak an sa ak bn sb = _; unfold lessL; rw [if_pos rfl, if_pos h3]
      subst h3
      go_enter Tryd.func36, Tryd.ntmps36
      go_wp2_with fail
      refine (c1 _).mono ?_
      rintro r w1 ⟨rfl, E1⟩
      go_wp2_with fail
      go_ret
      exact ⟨ret_bool H.out.symm, (((Ext.refl _).alloc _).alloc _).trans E1⟩
    · have H : Hid (lessL ak an sa ak bn sb = decide (an < bn)) := by show lessL ak an sa ak bn sb = _; unfold lessL; rw [if_pos rfl, if_neg h3]
      have h3' : (ak == 3) = false := by simpa using h3
      clear h3 c1
      go_enter Tryd.func36, Tryd.ntmps36
      go_wp2_with fail
      go_ret
      exact ⟨ret_bool H.out.symm, ((Ext.refl _).alloc _).alloc _⟩
  · have H : Hid (lessL ak an sa bk bn sb = (ak == 2 || (ak == 3 && bk == 1))) := by show lessL ak an sa bk bn sb = _; unfold lessL; rw [if_neg hk]
    have h0 : (ak != bk) = true := by simpa using hk
    clear hk c1
    cases h2 : (ak == 2)
    · cases h3 : (ak == 3)
      · go_enter Tryd.func36, Tryd.ntmps36
        go_wp2_with fail
        go_ret
        exact ⟨ret_bool (by rw [H.out, h2, h3]; rfl), ((Ext.refl _).alloc _).alloc _⟩
      · cases h1 : (bk == 1)
        all_goals
          go_enter Tryd.func36, Tryd.ntmps36
          go_wp2_with fail
          go_ret
          exact ⟨ret_bool (by rw [H.out, h2, h3, h1]; rfl), ((Ext.refl _).alloc _).alloc _⟩
    · go_enter Tryd.func36, Tryd.ntmps36
      go_wp2_with fail
      go_ret
      exact ⟨ret_bool (by rw [H.out, h2]; rfl), ((Ext.refl _).alloc _).alloc _⟩
end Go.Proofs.YtlfkiepnahgbeaaDoor
