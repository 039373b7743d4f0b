/-
 How numbers are written, as lists: noughts at the end, and that what is written says the number. Plain mathematics.
 The contract of the document's Print.
 Plain arithmetic of the long division by halves of 32 bits (math/bits.Div64): no program in sight.
 Contracts of math/bits: Mul64, Len64, LeadingZeros64, walked over the library's own text.
-/
import Derived.Test.YtcggiljlilbdfaaGreatDoorQ4
import Derived.Test.YtcggiljlilbdfaaGreatDoorQ1
import Derived.Lib.BitFns
import Derived.Test.YtcggiljlilbdfaaGreatDoorRows
import Derived.Lib.Mul64
import Derived.Laws.Bits64b
import Derived.Deep.Light
namespace Go.Proofs.YtcggiljlilbdfaaGreatDoor
open Go.RowKit

theorem trim_no (l : List UInt8) : Lib.trimRightB (l ++ [48]) 48 = Lib.trimRightB l 48 := by
 unfold Lib.trimRightB; simp
theorem trim_yes (l : List UInt8) (c : UInt8) (h : c ≠ 48) : Lib.trimRightB (l ++ [c]) 48 = l ++ [c] := by
 unfold Lib.trimRightB; simp [h]
theorem snoc_of (l : List UInt8) (h : l ≠ []) : ∃ r c, l = r ++ [c] := ⟨l.dropLast, l.getLast h, (List.dropLast_concat_getLast h).symm⟩
theorem trim_back (l : List UInt8) : ∃ k, l = Lib.trimRightB l 48 ++ zs k := by
 induction hn : l.length generalizing l with
 | zero => exact ⟨0, by rw [List.length_eq_zero_iff.1 hn]; rfl⟩
 | succ n ih =>
   obtain ⟨r, c, rfl⟩ := snoc_of l (fun h => by rw [h] at hn; cases hn)
   by_cases hc : c = 48
   · subst hc
     obtain ⟨k, hk⟩ := ih r (by simpa using hn)
     refine ⟨k + 1, ?_⟩
     rw [trim_no]
     conv => lhs; rw [hk]
     simp [zs, List.replicate_succ']
   · exact ⟨0, by rw [trim_yes _ _ hc]; simp [zs]⟩
/-- The four digits behind the dot. -/
def F4 (r : Nat) : List UInt8 := [UInt8.ofNat (48 + r / 1000), UInt8.ofNat (48 + r / 100 % 10), UInt8.ofNat (48 + r / 10 % 10), UInt8.ofNat (48 + r % 10)]
theorem dec_step {u : Nat} (h : ¬ u < 10) : Lib.decDigits u = Lib.decDigits (u / 10) ++ [UInt8.ofNat (48 + u % 10)] := by rw [Lib.decDigits, dif_neg h]
theorem dec_one {u : Nat} (h : u < 10) : Lib.decDigits u = [UInt8.ofNat (48 + u)] := by rw [Lib.decDigits, dif_pos h]
theorem dec_frac (r : Nat) (h : r < 10000) : Lib.decDigits (10000 + r) = 49 :: F4 r := by
 rw [dec_step (by omega), dec_step (u := (10000 + r) / 10) (by omega), dec_step (u := (10000 + r) / 10 / 10) (by omega), dec_step (u := (10000 + r) / 10 / 10 / 10) (by omega), dec_one (u := (10000 + r) / 10 / 10 / 10 / 10) (by omega)]
 unfold F4
 rw [show (10000 + r) / 10 / 10 / 10 / 10 = 1 by omega, show (10000 + r) / 10 / 10 / 10 % 10 = r / 1000 by omega, show (10000 + r) / 10 / 10 % 10 = r / 100 % 10 by omega, show (10000 + r) / 10 % 10 = r / 10 % 10 by omega, show (10000 + r) % 10 = r % 10 by omega]
 rfl
theorem frac_eq (r : Nat) (h : r < 10000) : fracL r = Lib.trimRightB (F4 r) 48 := by unfold fracL; rw [dec_frac r h]; rfl
theorem F4_all (r : Nat) (h : r < 10000) : (F4 r).all dgB = true := by
 unfold F4
 simp only [List.all_cons, List.all_nil]
 rw [(dg_ofNat (d := r / 1000) (by omega)).1, (dg_ofNat (d := r / 100 % 10) (by omega)).1, (dg_ofNat (d := r / 10 % 10) (by omega)).1, (dg_ofNat (d := r % 10) (by omega)).1]
 rfl
theorem F4_val (r : Nat) (h : r < 10000) : val (F4 r) = r := by
 unfold F4 val
 simp only [List.foldl_cons, List.foldl_nil]
 rw [(dg_ofNat (d := r / 1000) (by omega)).2, (dg_ofNat (d := r / 100 % 10) (by omega)).2, (dg_ofNat (d := r / 10 % 10) (by omega)).2, (dg_ofNat (d := r % 10) (by omega)).2]
 omega
theorem frac_back (r : Nat) (h : r < 10000) : ∃ k, F4 r = fracL r ++ zs k ∧ (fracL r).length + k = 4 := by
 obtain ⟨k, hk⟩ := trim_back (F4 r)
 rw [← frac_eq r h] at hk
 refine ⟨k, hk, ?_⟩
 have := congrArg List.length hk
 simp [F4, zs] at this
 omega
theorem frac_all (r : Nat) (h : r < 10000) : (fracL r).all dgB = true := by
 obtain ⟨k, hk, _⟩ := frac_back r h
 have := F4_all r h
 rw [hk, List.all_append, Bool.and_eq_true] at this
 exact this.1
theorem frac_zero : fracL 0 = [] := by rw [frac_eq 0 (by decide)]; decide
theorem frac_pos (r : Nat) (h : r < 10000) (h0 : 0 < r) : fracL r ≠ [] := by
 intro hz
 obtain ⟨k, hk, _⟩ := frac_back r h
 have := F4_val r h
 rw [hk, hz, List.nil_append, val_zs] at this
 omega

open Go.RowKit
set_option maxHeartbeats 1000000



open Go.RowKit
set_option maxHeartbeats 1000000

end Go.Proofs.YtcggiljlilbdfaaGreatDoor
