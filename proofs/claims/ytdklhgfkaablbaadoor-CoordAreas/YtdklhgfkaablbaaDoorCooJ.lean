/-
  A place is read and written: the contract of the laws' lives.
-/
import Derived.Test.YtdklhgfkaablbaaDoorCooG
import Derived.Test.YtdklhgfkaablbaaDoorCooH
namespace Go.Proofs.YtdklhgfkaablbaaDoor
open Go.RowKit
set_option maxHeartbeats 1000000

theorem live_v : prV [36, 66, 49, 50] = .agg #[.int .i64 12, .int .i64 2, .bool false, .bool true] := by rw [prV_R]; kernel_rfl
theorem live_o : okP [36, 66, 49, 50] = true := by rw [ok_eq]; decide +kernel
theorem live_p : (⟨(printR 12 2 false true).toArray⟩ : ByteArray) = ⟨#[36, 66, 49, 50]⟩ := by
  have : Lib.itoa 12 = [49, 50] := by
    rw [show (12 : Int) = ((12 : Nat) : Int) from rfl, itoa_nat]
    have := (dec_of_val [49, 50] (by decide) (by decide) (by decide)).1
    exact this
  unfold printR
  rw [this]; rfl
theorem lives6 (w : World) (hT : Tab w) : Calls Tryd.prog 12 #[] w fun r w' => r = .returned (.bool true) ∧ Ext w w' := by
  have c1 := fun W h => cparse_any ⟨#[36, 66, 49, 50]⟩ W (by decide) h
  simp only at c1
  rw [live_v, live_o] at c1
  have c2 := fun W h => cprint_any 12 2 false true ⟨by decide, by decide⟩ ⟨by decide, by decide⟩ W h
  rw [live_p] at c2
  have c3 := fun W => colname_any 28 ⟨by decide, by decide⟩ W
  rw [show (⟨(nameL 28).toArray⟩ : ByteArray) = ⟨#[65, 66]⟩ from rfl] at c3
  have c4 := fun W => in_any 1 1 W
  rw [show inB 1 1 = true from rfl] at c4
  go_enter Tryd.func12, Tryd.ntmps12
  go_wp2_with fail
  refine (c1 _ hT).mono ?_
  rintro r w1 ⟨rfl, E1⟩
  go_wp2_with fail
  refine (c2 _ (hT.ext (by first | exact E1 | exact E1.alloc _))).mono ?_
  rintro r w2 ⟨rfl, E2⟩
  have X2 : Ext w w2 := Ext.trans (by first | exact E1 | exact E1.alloc _) E2
  clear E1 E2
  go_wp2_with fail
  refine (c3 _).mono ?_
  rintro r w3 ⟨rfl, rfl⟩
  go_wp2_with fail
  refine (c4 _).mono ?_
  rintro r w4 ⟨rfl, rfl⟩
  go_wp2_with fail
  go_ret
  exact ⟨ret_bool rfl, X2⟩
end Go.Proofs.YtdklhgfkaablbaaDoor
