/-
  What is written is read again; that numerals are read and written at all.
-/
import Derived.Test.YtmeiechaccpacaaDoorDecI
namespace Go.Proofs.YtmeiechaccpacaaDoor
open Go.RowKit
set_option maxHeartbeats 1000000

theorem body_10 : bodyL 12500 = [49, 46, 50, 53] := by
  have e : fracL 2500 = [50, 53] := by rw [frac_eq 2500 (by decide)]; decide
  unfold bodyL
  rw [show 12500 % 10000 = 2500 from rfl, show 12500 / 10000 = 1 from rfl, e, dec_one (by decide)]
  rfl
theorem print_10 : printL (-12500) = [45, 49, 46, 50, 53] := by
  unfold printL
  rw [show canB (-12500) = true from rfl, if_pos rfl, if_pos (by decide), show (-12500 : Int).natAbs = 12500 from rfl, body_10]
theorem itoa_7 : Lib.itoa (-7) = [45, 55] := by
  unfold Lib.itoa
  rw [if_pos (by decide), show (-7 : Int).natAbs = 7 from rfl, dec_one (by decide)]
  rfl
theorem lives_any (w : World) (hT : Tab w) : Calls Tryd.prog 11 #[] w fun e w' => e = .returned (.bool true) ∧ Ext w w' := by
  have c1 := fun W => parse_any ⟨#[48, 46, 48, 48, 48, 48, 53]⟩ W (by decide)
  rw [show rdV (⟨#[48, 46, 48, 48, 48, 48, 53]⟩ : ByteArray).data.toList = 1 by decide, show rdK (⟨#[48, 46, 48, 48, 48, 48, 53]⟩ : ByteArray).data.toList = 1 by decide] at c1
  have c2 := fun W h => print_any (-12500) ⟨by decide, by decide⟩ W h
  rw [print_10] at c2
  have c3 := fun W h => digitsc_any (-7) ⟨by decide, by decide⟩ W h
  rw [itoa_7] at c3
  go_enter Tryd.func11, Tryd.ntmps11
  go_wp2_with fail
  refine (c1 _).mono ?_
  rintro e w1 ⟨rfl, E1⟩
  go_wp2_with fail
  refine (c2 _ (hT.ext E1)).mono ?_
  rintro e w2 ⟨rfl, E2⟩
  go_wp2_with fail
  refine (c3 _ (hT.ext (E1.trans E2))).mono ?_
  rintro e w3 ⟨rfl, E3⟩
  go_wp2_with fail
  go_ret
  exact ⟨ret_bool rfl, (E1.trans E2).trans E3⟩
end Go.Proofs.YtmeiechaccpacaaDoor
