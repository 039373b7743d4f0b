/-
  Contracts: a sum told as a number, of the program and of the document's answers.
-/
import Derived.Test.YtfppjnigbodphaaDoorFixA
namespace Go.Proofs.YtfppjnigbodphaaDoor
open Go.RowKit
set_option maxHeartbeats 400000

theorem told_acc (x : Int) (w : World) : Calls Tryd.prog 55 #[.agg #[.int .i64 (hiOf x), .int .u64 (loOf x)]] w fun e w' => e = .returned (.tuple #[.int .i64 (toldV x), .bool (toldB x)]) ∧ Ext w w' := by
  have p1 := uhi_hiOf x
  have p3 := sg_lo x
  obtain ⟨a1, a2⟩ := hi_bd x; obtain ⟨b1, b2⟩ := lo_bd x
  have hs := sg_bd x
  cases hn : (uhi x != up64 (sg64 x))
  · have ht : toldB x = canB (sg64 x) := by unfold toldB; simp at hn; simp [hn]
    have HT : Hid (toldB x = canB (sg64 x)) := ht
    clear ht
    cases hc : canB (sg64 x)
    all_goals
      have HC : Hid (canB (sg64 x) = _) := hc
      go_enter Tryd.func55, Tryd.ntmps55
      go_wp2
      go_region_held3 (fun w' => Ext w w' ∧ w'.cell? ⟨w.heap.size, 0, none⟩ = some (.int .i64 (hiOf x)))
        (first
          | assumption
          | (refine ⟨((Ext.refl _).alloc _).drew, ?_⟩ ; simp [go_sem]; done)
          | (refine ⟨(((Ext.refl _).alloc _).alloc _).drew, ?_⟩ ; simp [go_sem, World.cell?_alloc_past]; done))
        (first
          | (go_at_call 62; refine (upper_any _ hs _).mono ?_; rintro e w' ⟨rfl, rfl⟩)
          | (go_at_call 54; refine Calls.mono (numbers_1 (sg64 x) (w.heap.size + 1) _ (by simp [go_sem])) ?_; rintro e w' ⟨rfl, rfl⟩))
      go_wp2
      go_ret2
      exact ⟨ret_ib (by unfold toldV; rw [HT.out, HC.out]; rfl) (by rw [HT.out, HC.out]), (((Ext.refl _).alloc _).alloc _).drew⟩
  · have HT : Hid (toldB x = false) := by show toldB x = false; unfold toldB; simp at hn; simp [hn]
    go_enter Tryd.func55, Tryd.ntmps55
    go_wp2
    go_quiet ((go_at_call 62; exact Calls.quiet_of_same (upper_any _ hs _)))
    go_wp2
    go_ret2
    exact ⟨ret_ib (by unfold toldV; rw [HT.out]; rfl) (by rw [HT.out]), ((Ext.refl _).alloc _).drewN _⟩
end Go.Proofs.YtfppjnigbodphaaDoor
