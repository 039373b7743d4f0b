/-
  The contract of the document's Signed.
-/
import Derived.Test.YtfppjnigbodphaaDoorFixE
import Derived.Test.YtfppjnigbodphaaDoorFixI
namespace Go.Proofs.YtfppjnigbodphaaDoor
open Go.RowKit
set_option maxHeartbeats 1000000

theorem rsigned_w (neg : Bool) (x : Nat) (hx : x < 340282366920938463463374607431768211456) (w : World) :
    Calls Tryd.prog 40 #[.bool neg, .agg #[.int .u64 (uhi x), .int .u64 (loOf x)]] w fun e w' => e = .returned (.tuple #[.int .i64 (sgnV neg x), .bool (sgnB x)]) ∧ Ext w w' := by
  obtain ⟨u1, u2⟩ := uhi_bd x; obtain ⟨u3, u4⟩ := lo_bd x
  have hX : (x : Int) = uhi x * 18446744073709551616 + loOf x := by unfold uhi loOf; omega
  have HB1 : Hid (0 < uhi x → 9223372036854775807 < x) := by show 0 < uhi x → _; intro h; omega
  have HB2 : Hid (9223372036854775807 < loOf x → 9223372036854775807 < x) := by show 9223372036854775807 < loOf x → _; intro h; omega
  have HB3 : Hid (¬ 0 < uhi x → ¬ 9223372036854775807 < loOf x → x ≤ 9223372036854775807 ∧ loOf x = x) := by show ¬ 0 < uhi x → _; intro h1 h2; omega
  clear hX hx
  generalize hh : uhi x = h at *
  generalize hl : loOf x = l at *
  clear hh hl
  by_cases g1 : 0 < h
  · have H1 : Hid (sgnB x = false) := sgnB_no (HB1.out g1)
    have H2 : Hid (sgnV neg x = 0) := sgnV_no neg (HB1.out g1)
    go_enter Tryd.func40, Tryd.ntmps40
    go_wp2
    go_ret2
    exact ⟨ret_ib H2.out.symm H1.out.symm, (Ext.refl _).alloc _⟩
  by_cases g2 : 9223372036854775807 < l
  · have H1 : Hid (sgnB x = false) := sgnB_no (HB2.out g2)
    have H2 : Hid (sgnV neg x = 0) := sgnV_no neg (HB2.out g2)
    go_enter Tryd.func40, Tryd.ntmps40
    go_wp2
    go_ret2
    exact ⟨ret_ib H2.out.symm H1.out.symm, (Ext.refl _).alloc _⟩
  · obtain ⟨k1, k2⟩ := HB3.out g1 g2
    have H1 : Hid (sgnB x = true) := sgnB_yes k1
    have H2 : Hid (sgnV neg x = if neg then -l else l) := by show sgnV neg x = _; rw [sgnV_yes neg k1, k2]
    have w1 : wrap64 l = l := by unfold wrap64; omega
    clear k1 k2
    cases neg
    all_goals
      go_enter Tryd.func40, Tryd.ntmps40
      go_wp2
      go_ret2
      exact ⟨ret_ib (by rw [H2.out]; rfl) H1.out.symm, (Ext.refl _).alloc _⟩
end Go.Proofs.YtfppjnigbodphaaDoor
