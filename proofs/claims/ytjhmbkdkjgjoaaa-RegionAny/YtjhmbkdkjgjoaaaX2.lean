import Derived.Test.YtjhmbkdkjgjoaaaX1
import Derived.WalkLawsBesides
namespace Go.Proofs.Ytjhmbkdkjgjoaaa
open Go.RowKit
set_option maxHeartbeats 400000
open Go.RowKit
set_option maxHeartbeats 1000000
theorem size_list (s : ByteArray) : s.data.toList.length = s.size := (Lib.size_eq s).symm
theorem get_list (s : ByteArray) (k : Nat) (h : k < s.size) : s.data.toList[k]'(by rw [size_list]; exact h) = s[k] := rfl
theorem all_take (l : List UInt8) (k : Nat) (h : k < l.length) : (l.take (k + 1)).all dgB = ((l.take k).all dgB && dgB l[k]) := by
 rw [List.take_succ_eq_append_getElem h, List.all_append]; simp
theorem okD_yes (l : List UInt8) (h1 : 1 ≤ l.length) (h2 : l.length ≤ 40) (h : l.all dgB = true) : okD l = true := by
 unfold okD; rw [h]; simp; omega
theorem dg_no {c : UInt8} (h : (c.toNat : Int) < 48 ∨ (57 : Int) < c.toNat) : dgB c = false := by unfold dgB; simp; omega
theorem dg_yes {c : UInt8} (h : ¬ (c.toNat : Int) < 48) (h' : ¬ (57 : Int) < c.toNat) : dgB c = true := by unfold dgB; simp; omega
theorem dig_at (l : List UInt8) (h : l.all dgB = true) (k : Nat) (hk : k < l.length) : 48 ≤ l[k].toNat ∧ l[k].toNat ≤ 57 :=
 dg_bd (List.all_eq_true.1 h _ (List.getElem_mem hk))
end Go.Proofs.Ytjhmbkdkjgjoaaa
