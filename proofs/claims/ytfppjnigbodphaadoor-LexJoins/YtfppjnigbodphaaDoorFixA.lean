/-
  Contracts of the small functions of package fix and of the document's answers: sizes, numbers, sums of 128 bits.
-/
import Derived.Test.YtfppjnigbodphaaDoorRows
import Derived.Test.YtfppjnigbodphaaDoorNum
import Derived.Deep.RegionHeld3
import Derived.Laws.Externs
namespace Go.Proofs.YtfppjnigbodphaaDoor
open Go.RowKit
set_option maxHeartbeats 400000

theorem can_any (a : Int) (w : World) : Calls Tryd.prog 61 #[.int .i64 a] w fun e w' => e = .returned (.bool (canB a)) ∧ w' = w := by
  go_enter Tryd.func61, Tryd.ntmps61
  go_wp2
  go_ret
  exact ⟨rfl, rfl⟩
theorem upper_any (a : Int) (ha : I64 a) (w : World) : Calls Tryd.prog 62 #[.int .i64 a] w fun e w' => e = .returned (.int .u64 (up64 a)) ∧ w' = w := by
  obtain ⟨_, _⟩ := ha
  have h : IntKind.u64.wrap (a / 9223372036854775808) = up64 a := by rw [wrapU]; unfold up64; split <;> omega
  go_enter Tryd.func62, Tryd.ntmps62
  go_wp2
  go_ret
  exact ⟨rfl, rfl⟩
theorem add64 (x y c : Int) (hx : 0 ≤ x) (hy : 0 ≤ y) (hc0 : 0 ≤ c) (hc : c ≤ 1) (w : World) : (callFunc 63 #[.int .u64 x, .int .u64 y, .int .u64 c]).run Tryd.prog w =
    .ok (.value (.tuple #[.int .u64 ((x + y + c) % 18446744073709551616), .int .u64 ((x + y + c) / 18446744073709551616)])) w := by
  rw [run_callFunc_extern Tryd.func63 (by kernel_rfl) (by kernel_rfl) (by kernel_rfl) (e := add64Entry) (by kernel_rfl), run_add64 x y c hx hy hc0 hc]
  rfl
theorem add64_0 (x y : Int) (hx : 0 ≤ x) (hy : 0 ≤ y) (w : World) : (callFunc 63 #[.int .u64 x, .int .u64 y, .int .u64 0]).run Tryd.prog w =
    .ok (.value (.tuple #[.int .u64 ((x + y) % 18446744073709551616), .int .u64 ((x + y) / 18446744073709551616)])) w := by
  simpa using add64 x y 0 hx hy (Int.le_refl 0) (by decide) w
/-! ### fix.numbers, over one number and over two -/
theorem numbers_2 (a b : Int) (blk : Nat) (w : World) (h1 : w.cell? ⟨blk, 0, none⟩ = some (.int .i64 a)) (h2 : w.cell? ⟨blk, 1, none⟩ = some (.int .i64 b)) : Calls Tryd.prog 54 #[.slice (some ⟨blk, 0, none⟩) 2 2] w fun e w' => e = .returned (.bool (canB a && canB b)) ∧ w' = w := by
  cases ha : canB a <;> cases hb : canB b
  all_goals
    go_enter Tryd.func54, Tryd.ntmps54
    go_wp2
    refine wp_loop_rounds 3 ?_
    repeat (rw [rounds_succ]; go_wp2_with (go_at_call 61; refine (can_any _ _).mono ?_; rintro e w' ⟨rfl, rfl⟩))
    go_ret
    exact ⟨rfl, rfl⟩
theorem numbers_1 (a : Int) (blk : Nat) (w : World) (h1 : w.cell? ⟨blk, 0, none⟩ = some (.int .i64 a)) : Calls Tryd.prog 54 #[.slice (some ⟨blk, 0, none⟩) 1 1] w fun e w' => e = .returned (.bool (canB a)) ∧ w' = w := by
  cases ha : canB a
  all_goals
    go_enter Tryd.func54, Tryd.ntmps54
    go_wp2
    refine wp_loop_rounds 2 ?_
    repeat (rw [rounds_succ]; go_wp2_with (go_at_call 61; refine (can_any _ _).mono ?_; rintro e w' ⟨rfl, rfl⟩))
    go_ret
    exact ⟨rfl, rfl⟩

/-! ### fix.Plus, fix.Less -/
theorem plus_acc (x a : Int) (h3 : I64 a) (w : World) : Calls Tryd.prog 56 #[.agg #[.int .i64 (hiOf x), .int .u64 (loOf x)], .int .i64 a] w fun e w' => e = .returned (.agg #[.int .i64 (hiOf (x + a)), .int .u64 (loOf (x + a))]) ∧ Ext w w' := by
  obtain ⟨a1, a2⟩ := hi_bd x; obtain ⟨b1, b2⟩ := lo_bd x
  have p1 := plus_lo x a
  have p2 := plus_hi x a h3
  obtain ⟨c1, c2⟩ := h3
  have hw : 0 ≤ IntKind.u64.wrap a ∧ IntKind.u64.wrap a < 18446744073709551616 := by rw [wrapU]; omega
  have k1 := fun w => add64_0 (loOf x) (IntKind.u64.wrap a) b1 hw.1 w
  have k2 := fun w => add64 (IntKind.u64.wrap (hiOf x)) (up64 a) ((loOf x + IntKind.u64.wrap a) / 18446744073709551616) (by rw [wrapU]; omega) (up_bd a).1 (by omega) (by omega) w
  generalize hH : hiOf (x + a) = H at *
  generalize hL : loOf (x + a) = L at *
  clear hH hL
  go_enter Tryd.func56, Tryd.ntmps56
  go_wp2
  go_quiet ((go_at_call 62; exact Calls.quiet_of_same (upper_any _ ⟨c1, c2⟩ _)))
  go_wp2
  simp [bodyPost, results, Tryd.results56, go_sem]
  repeat (first | exact Ext.refl _ | apply Ext.drewN | apply Ext.drew | apply Ext.alloc | refine Ext.setCell ?_ (by simp) _)
/-! ### the document's words of 128 bits -/
theorem plusW_any (ah al bh bl : Int) (h1 : U64 ah) (h2 : U64 al) (h3 : U64 bh) (h4 : U64 bl) (w : World) : Calls Tryd.prog 38 #[.agg #[.int .u64 ah, .int .u64 al], .agg #[.int .u64 bh, .int .u64 bl]] w fun e w' => e = .returned (.agg #[.int .u64 (uhi ((ah + bh) * 18446744073709551616 + (al + bl))), .int .u64 (loOf (al + bl))]) ∧ Ext w w' := by
  obtain ⟨a1, a2⟩ := h1; obtain ⟨b1, b2⟩ := h2; obtain ⟨c1, c2⟩ := h3; obtain ⟨d1, d2⟩ := h4
  go_enter Tryd.func38, Tryd.ntmps38
  go_wp2
  all_goals
    simp [bodyPost, results, Tryd.results38, go_sem]
    exact ⟨⟨by simp only [wrapU] at *; unfold uhi; omega, by first | (rw [wrapU]; rfl) | (unfold loOf; omega)⟩, by repeat (first | exact Ext.refl _ | apply Ext.drewN | apply Ext.drew | apply Ext.alloc | refine Ext.setCell ?_ (by simp) _)⟩
theorem plusW_w (x y : Int) (w : World) : Calls Tryd.prog 38 #[.agg #[.int .u64 (uhi x), .int .u64 (loOf x)], .agg #[.int .u64 (uhi y), .int .u64 (loOf y)]] w fun e w' => e = .returned (.agg #[.int .u64 (uhi (x + y)), .int .u64 (loOf (x + y))]) ∧ Ext w w' := by
  have e1 : uhi ((uhi x + uhi y) * 18446744073709551616 + (loOf x + loOf y)) = uhi (x + y) := by unfold uhi loOf; omega
  have e2 : loOf (loOf x + loOf y) = loOf (x + y) := by unfold loOf; omega
  rw [← e1, ← e2]
  exact plusW_any _ _ _ _ (uhi_bd x) (lo_bd x) (uhi_bd y) (lo_bd y) w
end Go.Proofs.YtfppjnigbodphaaDoor
