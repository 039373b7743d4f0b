/-
  Contracts: a sum told as a number, of the program and of the document's answers.
-/
import Derived.Test.YtdmiddpfgmbbhaaGreatDoorFixA
namespace Go.Proofs.YtdmiddpfgmbbhaaGreatDoor
open Go.RowKit
set_option maxHeartbeats 400000

theorem told_acc (x : Int) (w : World) : Calls Tryz.prog 51 #[.agg #[.int .i64 (hiOf x), .int .u64 (loOf x)]] w fun e w' => e = .returned (.tuple #[.int .i64 (toldV x), .bool (toldB x)]) ∧ Ext w w' := by
  have p1 := uhi_hiOf x
  have p3 := sg_lo x
  obtain ⟨a1, a2⟩ := hi_bd x; obtain ⟨b1, b2⟩ := lo_bd x
  have hs := sg_bd x
  cases hn : (uhi x != up64 (sg64 x))
  · have ht : toldB x = canB (sg64 x) := by unfold toldB; simp at hn; simp [hn]
    have HT : Hid (toldB x = canB (sg64 x)) := ht
    clear ht
    cases hc : canB (sg64 x)
    all_goals
      have HC : Hid (canB (sg64 x) = _) := hc
      go_enter Tryz.func51, Tryz.ntmps51
      go_wp2
      go_region_held3 (fun w' => Ext w w' ∧ w'.cell? ⟨w.heap.size, 0, none⟩ = some (.int .i64 (hiOf x)))
        (first
          | assumption
          | (refine ⟨((Ext.refl _).alloc _).drew, ?_⟩ ; simp [go_sem]; done)
          | (refine ⟨(((Ext.refl _).alloc _).alloc _).drew, ?_⟩ ; simp [go_sem, World.cell?_alloc_past]; done))
        (first
          | (go_at_call 66; refine (upper_any _ hs _).mono ?_; rintro e w' ⟨rfl, rfl⟩)
          | (go_at_call 50; refine Calls.mono (numbers_1 (sg64 x) (w.heap.size + 1) _ (by simp [go_sem])) ?_; rintro e w' ⟨rfl, rfl⟩))
      go_wp2
      go_ret2
      exact ⟨ret_ib (by unfold toldV; rw [HT.out, HC.out]; rfl) (by rw [HT.out, HC.out]), (((Ext.refl _).alloc _).alloc _).drew⟩
  · have HT : Hid (toldB x = false) := by show toldB x = false; unfold toldB; simp at hn; simp [hn]
    go_enter Tryz.func51, Tryz.ntmps51
    go_wp2
    go_quiet ((go_at_call 66; exact Calls.quiet_of_same (upper_any _ hs _)))
    go_wp2
    go_ret2
    exact ⟨ret_ib (by unfold toldV; rw [HT.out]; rfl) (by rw [HT.out]), ((Ext.refl _).alloc _).drewN _⟩
theorem rtold_acc (x : Int) (w : World) : Calls Tryz.prog 40 #[.agg #[.int .i64 (hiOf x), .int .u64 (loOf x)]] w fun e w' => e = .returned (.tuple #[.int .i64 (toldV x), .bool (toldB x)]) ∧ Ext w w' := by
  have p1 := uhi_hiOf x
  have p3 := sg_lo x
  obtain ⟨a1, a2⟩ := hi_bd x; obtain ⟨b1, b2⟩ := lo_bd x
  have hs := sg_bd x
  have q1 : uhi (sg64 x) = up64 (sg64 x) := by obtain ⟨_, _⟩ := hs; unfold up64 uhi; split <;> omega
  have q2 : loOf (sg64 x) = loOf x := by unfold loOf sg64; omega
  have hword := fun W => word_any (sg64 x) hs W
  rw [q1, q2] at hword
  have HW := hword
  clear hword q1 q2
  cases hn : (uhi x == up64 (sg64 x))
  · have HT : Hid (toldB x = false) := by show toldB x = false; unfold toldB; simp [hn]
    go_enter Tryz.func40, Tryz.ntmps40
    go_wp2
    first
      | go_region_with (go_at_call 58; refine (HW _).mono ?_; rintro e w' ⟨rfl, hE⟩; obtain ⟨hc, hf⟩ := hE.cell)
      | fail "region"
    all_goals
      go_wp2
      go_ret2
      exact ⟨ret_ib (by unfold toldV; rw [HT.out]; rfl) (by rw [HT.out]), by
        refine Ext.trans ?_ (Ext.drewN hE 0) <;> (repeat (first | exact Ext.refl _ | apply Ext.drew | apply Ext.alloc))⟩
  · have HT : Hid (toldB x = canB (sg64 x)) := by show toldB x = canB (sg64 x); unfold toldB; simp [hn]
    cases hc : canB (sg64 x)
    all_goals
      have HC : Hid (canB (sg64 x) = _) := hc
      go_enter Tryz.func40, Tryz.ntmps40
      go_wp2
      go_region_held3 (fun w' => (Ext w w' ∧ w.heap.size + 0 < w'.heap.size) ∧ w'.cell? ⟨w.heap.size, 0, none⟩ = some (.int .i64 (hiOf x)) ∧ w'.cell? ⟨w.heap.size, 1, none⟩ = some (.int .u64 (loOf x)))
        (first
          | assumption
          | (refine keep2 ?_ ((Ext.refl _).drew); assumption)
          | (refine ⟨⟨((Ext.refl _).alloc _).drew, ?_⟩, ?_, ?_⟩ <;> simp [go_sem]))
        (first
          | (go_at_call 58; refine (HW _).mono ?_; rintro e w' ⟨rfl, hE⟩; have hS := keep2 (by assumption) hE)
          | (go_at_call 39; refine (rcan_any _ _).mono ?_; rintro e w' ⟨rfl, rfl⟩))
      go_wp2
      go_ret2
      exact ⟨ret_ib (by unfold toldV; rw [HT.out, HC.out]; rfl) (by rw [HT.out, HC.out]), hS.1.1⟩
end Go.Proofs.YtdmiddpfgmbbhaaGreatDoor
