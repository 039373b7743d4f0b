/-
  The contracts of the document's Whole, Digits and Print.
-/
import Derived.Test.YtlfkiepnahgbeabDoorDecD
import Derived.Laws.BytesArg
namespace Go.Proofs.YtlfkiepnahgbeabDoor
open Go.RowKit
set_option maxHeartbeats 1000000

theorem dec_lt {n : Nat} (h : n < 10) : (⟨(Lib.decDigits n).toArray⟩ : ByteArray) = ⟨#[UInt8.ofNat (48 + n % 10)]⟩ := by
  rw [Lib.decDigits, dif_pos h, Nat.mod_eq_of_lt h]
theorem dec_ge {n : Nat} (h : ¬ n < 10) : (⟨(Lib.decDigits n).toArray⟩ : ByteArray) = ⟨(Lib.decDigits (n / 10)).toArray⟩ ++ ⟨#[UInt8.ofNat (48 + n % 10)]⟩ := by
  rw [Lib.decDigits, dif_neg h]
  symm
  apply mkL
  rw [app_list]
end Go.Proofs.YtlfkiepnahgbeabDoor
