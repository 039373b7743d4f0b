/-
 The contract of package value's Arith.
 The contracts of package value's Arith, whatever the operator, and of the statements' look whether anything lives.
 The contracts of package value's truth and named.
 The contract of package value's Literal.
-/
import Derived.Test.YtalejeknigbhjaaGreatDoorY11
import Derived.Deep.DeepCutAuto
import Derived.Deep.Light
namespace Go.Proofs.YtalejeknigbhjaaGreatDoor
open Go.RowKit
set_option maxHeartbeats 1000000

/-! ### Which of two -/

open Go.RowKit
set_option maxHeartbeats 1000000

open Go.RowKit
set_option maxHeartbeats 1000000

/-- The truth of a name. -/
def truR (s : ByteArray) : V := if s.data.toList = trueL then .tf true else if s.data.toList = falseL then .tf false else .blank
def truK (s : ByteArray) : Bool := decide (s.data.toList = trueL) || decide (s.data.toList = falseL)
theorem truth_any (s : ByteArray) (w : World) : Calls Tryz.prog 139 #[.string s] w fun r w' => r = .returned (.tuple #[(truR s).dat, .bool (truK s)]) ∧ Ext w w' := by
 by_cases h : s.data.toList = trueL
 · have c1 := fun W => vbool_any true W
   simp only [V.dat, if_true] at c1
   have H : Hid (truR s = .tf true ∧ truK s = true) := by show _ ∧ _; unfold truR truK; rw [if_pos h]; simp [h]
   have h1 : (s.toList == [84, 82, 85, 69]) = true := by rw [ByteArray.toList_eq, h]; decide
   clear h
   go_enter Tryz.func139, Tryz.ntmps139
   go_wp2_with fail
   refine (c1 _).mono ?_
   rintro r w1 ⟨rfl, E1⟩
   have X1 : Ext w w1 := Ext.trans (by with_reducible repeat (first | assumption | exact Ext.refl _ | apply Ext.alloc | apply Ext.drewN | (refine Ext.setCell ?_ (by simp) _))) E1
   have B0_1 := blk_top (b := w.heap.size) (by simp) E1
   have D0 := B0_1
   obtain ⟨b0z, ⟨b0_0, b0_1, b0_2, b0_3⟩, b0f0, b0f1, b0f2, b0f3⟩ := D0
   go_wp2_with fail
   exact finBb true (B0_1.set _ _ _ _) rfl (by with_reducible repeat (first | assumption | exact Ext.refl _ | apply Ext.alloc | apply Ext.drewN | (refine Ext.setCell ?_ (by simp) _))) (fun g0 g1 g2 g3 => by simp [results, Tryz.results139, go_sem, g0, g1, g2, g3]) (fun h => ⟨by rw [H.out.1, H.out.2]; rfl, h⟩)
 · have h1 : (s.toList == [84, 82, 85, 69]) = false := by rw [ByteArray.toList_eq]; simpa [trueL] using h
   by_cases g : s.data.toList = falseL
   · have c1 := fun W => vbool_any false W
     simp only [V.dat, Bool.false_eq_true, if_false] at c1
     have H : Hid (truR s = .tf false ∧ truK s = true) := by show _ ∧ _; unfold truR truK; rw [if_neg h, if_pos g]; simp [g]
     have h2 : (s.toList == [70, 65, 76, 83, 69]) = true := by rw [ByteArray.toList_eq, g]; decide
     clear h g
     go_enter Tryz.func139, Tryz.ntmps139
     go_wp2_with fail
     refine (c1 _).mono ?_
     rintro r w1 ⟨rfl, E1⟩
     have X1 : Ext w w1 := Ext.trans (by with_reducible repeat (first | assumption | exact Ext.refl _ | apply Ext.alloc | apply Ext.drewN | (refine Ext.setCell ?_ (by simp) _))) E1
     have B0_1 := blk_top (b := w.heap.size) (by simp) E1
     have D0 := B0_1
     obtain ⟨b0z, ⟨b0_0, b0_1, b0_2, b0_3⟩, b0f0, b0f1, b0f2, b0f3⟩ := D0
     go_wp2_with fail
     exact finBb true (B0_1.set _ _ _ _) rfl (by with_reducible repeat (first | assumption | exact Ext.refl _ | apply Ext.alloc | apply Ext.drewN | (refine Ext.setCell ?_ (by simp) _))) (fun g0 g1 g2 g3 => by simp [results, Tryz.results139, go_sem, g0, g1, g2, g3]) (fun h => ⟨by rw [H.out.1, H.out.2]; rfl, h⟩)
   · have H : Hid (truR s = .blank ∧ truK s = false) := by show _ ∧ _; unfold truR truK; rw [if_neg h, if_neg g]; simp [h, g]
     have h2 : (s.toList == [70, 65, 76, 83, 69]) = false := by rw [ByteArray.toList_eq]; simpa [falseL] using g
     clear h g
     go_enter Tryz.func139, Tryz.ntmps139
     go_wp2_with fail
     simp [bodyPost, results, Tryz.results139, go_sem]
     rw [H.out.1, H.out.2]
     exact ⟨⟨rfl, rfl⟩, ((Ext.refl _).alloc _)⟩

open Go.RowKit
set_option maxHeartbeats 1000000

end Go.Proofs.YtalejeknigbhjaaGreatDoor
