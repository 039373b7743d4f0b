/-
  The contracts of the document's Whole, Digits and Print.
-/
import Derived.Test.YtdmiddpfgmbbhaaGreatDoorDecD
import Derived.Laws.BytesArg
namespace Go.Proofs.YtdmiddpfgmbbhaaGreatDoor
open Go.RowKit
set_option maxHeartbeats 1000000

theorem conv_digit (d : Nat) (w : World) : (convert 96 9 (.slice (some ⟨w.heap.size, 0, none⟩) 1 1)).run Tryz.prog (w.alloc (.cells #[.int .u8 (48 + d)] 5)) = .ok (.string ⟨#[UInt8.ofNat (48 + d)]⟩) (w.alloc (.cells #[.int .u8 (48 + d)] 5)) := by
  have := run_convert_bytes_arg (P := Tryz.prog) (w.alloc (.cells #[.int .u8 (48 + d)] 5)) 96 5 Tryz.underlying96 Tryz.underlying5 w.heap.size 0 1 1 [48 + (d : Int)] rfl (fun i hi => by
    obtain rfl : i = 0 := by omega
    simp) 9 Tryz.underlying9
  rw [this]
  rfl
theorem dec_lt {n : Nat} (h : n < 10) : (⟨(Lib.decDigits n).toArray⟩ : ByteArray) = ⟨#[UInt8.ofNat (48 + n % 10)]⟩ := by
  rw [Lib.decDigits, dif_pos h, Nat.mod_eq_of_lt h]
theorem dec_ge {n : Nat} (h : ¬ n < 10) : (⟨(Lib.decDigits n).toArray⟩ : ByteArray) = ⟨(Lib.decDigits (n / 10)).toArray⟩ ++ ⟨#[UInt8.ofNat (48 + n % 10)]⟩ := by
  rw [Lib.decDigits, dif_neg h]
  symm
  apply mkL
  rw [app_list]
set_option maxRecDepth 100000 in
theorem whole_u (n : Nat) : ∀ (w : World), n < 18446744073709551616 →
    Calls Tryz.prog 82 #[.int .u64 n] w fun e w' => e = .returned (.string ⟨(Lib.decDigits n).toArray⟩) ∧ Ext w w' := by
  induction n using Nat.strongRecOn with
  | _ n ih =>
    intro w hn
    have hn1 : (n : Int) < 18446744073709551616 := by omega
    have hn0 : (0 : Int) ≤ n := by omega
    have cv := conv_digit (n % 10) w
    have e0 : ((n % 10 : Nat) : Int) = (n : Int) % 10 := by omega
    rw [e0] at cv
    clear e0
    generalize hx : (⟨#[UInt8.ofNat (48 + n % 10)]⟩ : ByteArray) = X at cv
    have CV : Hid (_ = _) := cv
    clear cv
    have hX : X.size = 1 := by rw [← hx]; rfl
    by_cases h : n < 10
    · have h1 : decide ((10 : Int) ≤ n) = false := by simp; omega
      have HX : Hid ((⟨(Lib.decDigits n).toArray⟩ : ByteArray) = X) := by show _ = _; rw [dec_lt h, hx]
      clear ih hx
      go_enter Tryz.func82, Tryz.ntmps82
      go_wp2_with fail
      rw [CV.out]
      go_wp2_with fail
      go_ret
      exact ⟨ret_s HX.out.symm, (Ext.refl _).alloc _⟩
    · have h1 : ¬ (n : Int) < 10 := by omega
      have c := fun W => ih (n / 10) (by omega) W (by omega)
      have e1 : ((n / 10 : Nat) : Int) = (n : Int) / 10 := by omega
      rw [e1] at c
      have HX : Hid ((⟨(Lib.decDigits n).toArray⟩ : ByteArray) = ⟨(Lib.decDigits (n / 10)).toArray⟩ ++ X) := by show _ = _; rw [dec_ge h, hx]
      obtain ⟨q1, q2⟩ := dec_size (n / 10) 19 (by omega)
      generalize (⟨(Lib.decDigits (n / 10)).toArray⟩ : ByteArray) = q at *
      clear ih hx e1
      go_enter Tryz.func82, Tryz.ntmps82
      go_wp2_with fail
      rw [CV.out]
      go_wp2_with fail
      refine (c _).mono ?_
      rintro e w1 ⟨rfl, E1⟩
      go_wp2_with fail
      go_ret
      exact ⟨ret_s HX.out.symm, ((Ext.refl _).alloc _).trans E1⟩

end Go.Proofs.YtdmiddpfgmbbhaaGreatDoor
