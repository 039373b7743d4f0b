/-
  Contracts of the small functions of package fix and of the document's answers: sizes, numbers, sums of 128 bits.
-/
import Derived.Test.YtbonaldlljdaoaaRows
import Derived.Test.YtbonaldlljdaoaaNum
import Derived.Deep.RegionHeld3
import Derived.Laws.Externs
namespace Go.Proofs.Ytbonaldlljdaoaa
open Go.RowKit
set_option maxHeartbeats 400000

theorem can_any (a : Int) (w : World) : Calls Try.prog 33 #[.int .i64 a] w fun e w' => e = .returned (.bool (canB a)) ∧ w' = w := by
  go_enter Try.func33, Try.ntmps33
  go_wp2
  go_ret
  exact ⟨rfl, rfl⟩
theorem rcan_any (a : Int) (w : World) : Calls Try.prog 35 #[.int .i64 a] w fun e w' => e = .returned (.bool (canB a)) ∧ w' = w := by
  go_enter Try.func35, Try.ntmps35
  go_wp2
  go_ret
  exact ⟨rfl, rfl⟩
theorem rsize_any (a : Int) (ha : I64 a) (w : World) : Calls Try.prog 14 #[.int .i64 a] w fun e w' => e = .returned (.int .u64 (absI a)) ∧ w' = w := by
  obtain ⟨_, _⟩ := ha
  go_enter Try.func14, Try.ntmps14
  go_wp2
  all_goals go_ret
  · exact ⟨ret_int (by unfold absI; omega), rfl⟩
  · exact ⟨ret_int (by unfold absI; omega), rfl⟩

/-! ### fix.numbers, over one number and over two -/
/-! ### fix.Plus, fix.Less -/
/-! ### the document's words of 128 bits -/
theorem plusW_any (ah al bh bl : Int) (h1 : U64 ah) (h2 : U64 al) (h3 : U64 bh) (h4 : U64 bl) (w : World) : Calls Try.prog 40 #[.agg #[.int .u64 ah, .int .u64 al], .agg #[.int .u64 bh, .int .u64 bl]] w fun e w' => e = .returned (.agg #[.int .u64 (uhi ((ah + bh) * 18446744073709551616 + (al + bl))), .int .u64 (loOf (al + bl))]) ∧ Ext w w' := by
  obtain ⟨a1, a2⟩ := h1; obtain ⟨b1, b2⟩ := h2; obtain ⟨c1, c2⟩ := h3; obtain ⟨d1, d2⟩ := h4
  go_enter Try.func40, Try.ntmps40
  go_wp2
  all_goals
    simp [bodyPost, results, Try.results40, go_sem]
    exact ⟨⟨by simp only [wrapU] at *; unfold uhi; omega, by first | (rw [wrapU]; rfl) | (unfold loOf; omega)⟩, by repeat (first | exact Ext.refl _ | apply Ext.drewN | apply Ext.drew | apply Ext.alloc | refine Ext.setCell ?_ (by simp) _)⟩
theorem plusW_w (x y : Int) (w : World) : Calls Try.prog 40 #[.agg #[.int .u64 (uhi x), .int .u64 (loOf x)], .agg #[.int .u64 (uhi y), .int .u64 (loOf y)]] w fun e w' => e = .returned (.agg #[.int .u64 (uhi (x + y)), .int .u64 (loOf (x + y))]) ∧ Ext w w' := by
  have e1 : uhi ((uhi x + uhi y) * 18446744073709551616 + (loOf x + loOf y)) = uhi (x + y) := by unfold uhi loOf; omega
  have e2 : loOf (loOf x + loOf y) = loOf (x + y) := by unfold loOf; omega
  rw [← e1, ← e2]
  exact plusW_any _ _ _ _ (uhi_bd x) (lo_bd x) (uhi_bd y) (lo_bd y) w
end Go.Proofs.Ytbonaldlljdaoaa
