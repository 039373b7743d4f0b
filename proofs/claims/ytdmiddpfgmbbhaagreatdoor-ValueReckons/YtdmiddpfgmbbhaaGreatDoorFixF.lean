/-
  Contracts of Mul and Div of the program; and that the laws' own small call answers true.
-/
import Derived.Test.YtdmiddpfgmbbhaaGreatDoorFixE
namespace Go.Proofs.YtdmiddpfgmbbhaaGreatDoor
open Go.RowKit
set_option maxHeartbeats 1000000

def mulB (a b : Int) : Bool := (canB a && canB b) && sgnB (ratN a b 10000)
def mulV (a b : Int) : Int := if canB a && canB b then sgnV (ratS a b 10000) (ratN a b 10000) else 0
def divB (a b : Int) : Bool := (canB a && canB b) && (b != 0 && sgnB (ratN a 10000 b))
def divV (a b : Int) : Int := if (canB a && canB b) && b != 0 then sgnV (ratS a 10000 b) (ratN a 10000 b) else 0

theorem mul_any (a b : Int) (ha : I64 a) (hb : I64 b) (w : World) : Calls Tryz.prog 33 #[.int .i64 a, .int .i64 b] w fun e w' => e = .returned (.tuple #[.int .i64 (mulV a b), .bool (mulB a b)]) ∧ Ext w w' := by
  cases hc : (canB a && canB b)
  · have HC : Hid (mulB a b = false) := by show mulB a b = false; unfold mulB; rw [hc]; rfl
    have HV : Hid (mulV a b = 0) := by show mulV a b = 0; unfold mulV; rw [hc]; rfl
    go_enter Tryz.func33, Tryz.ntmps33
    go_wp2_with (go_at_call 50; refine Calls.mono (numbers_2 a b w.heap.size _ (by simp [go_sem]) (by simp [go_sem])) ?_; rintro e w' ⟨rfl, rfl⟩)
    go_ret2
    exact ⟨ret_ib HV.out.symm HC.out.symm, (Ext.refl _).alloc _⟩
  · have HC : Hid (mulB a b = sgnB (ratN a b 10000)) := by show mulB a b = _; unfold mulB; rw [hc]; rfl
    have HV : Hid (mulV a b = sgnV (ratS a b 10000) (ratN a b 10000)) := by show mulV a b = _; unfold mulV; rw [hc]; rfl
    have cR := fun W => ratio_any a b 10000 ha hb ⟨by omega, by omega⟩ (by omega) W
    go_enter Tryz.func33, Tryz.ntmps33
    go_wp2_with (go_at_call 50; refine Calls.mono (numbers_2 a b w.heap.size _ (by simp [go_sem]) (by simp [go_sem])) ?_; rintro e w' ⟨rfl, rfl⟩)
    refine (cR _).mono ?_
    rintro e w1 ⟨rfl, E1⟩
    go_wp2
    go_ret2
    exact ⟨ret_ib HV.out.symm HC.out.symm, ((Ext.refl _).alloc _).trans E1⟩

theorem div_any (a b : Int) (ha : I64 a) (hb : I64 b) (w : World) : Calls Tryz.prog 35 #[.int .i64 a, .int .i64 b] w fun e w' => e = .returned (.tuple #[.int .i64 (divV a b), .bool (divB a b)]) ∧ Ext w w' := by
  cases hc : (canB a && canB b)
  · have HC : Hid (divB a b = false) := by show divB a b = false; unfold divB; rw [hc]; rfl
    have HV : Hid (divV a b = 0) := by show divV a b = 0; unfold divV; rw [hc]; rfl
    go_enter Tryz.func35, Tryz.ntmps35
    go_wp2_with (go_at_call 50; refine Calls.mono (numbers_2 a b w.heap.size _ (by simp [go_sem]) (by simp [go_sem])) ?_; rintro e w' ⟨rfl, rfl⟩)
    go_ret2
    exact ⟨ret_ib HV.out.symm HC.out.symm, (Ext.refl _).alloc _⟩
  by_cases hz : b = 0
  · have HC : Hid (divB a b = false) := by show divB a b = false; unfold divB; simp [hz]
    have HV : Hid (divV a b = 0) := by show divV a b = 0; unfold divV; simp [hz]
    have hz1 : (b == 0) = true := by simp [hz]
    clear hz
    go_enter Tryz.func35, Tryz.ntmps35
    go_wp2_with (go_at_call 50; refine Calls.mono (numbers_2 a b w.heap.size _ (by simp [go_sem]) (by simp [go_sem])) ?_; rintro e w' ⟨rfl, rfl⟩)
    go_ret2
    exact ⟨ret_ib HV.out.symm HC.out.symm, (Ext.refl _).alloc _⟩
  · have hz1 : (b == 0) = false := by simp [hz]
    have hz2 : (b != 0) = true := by simp [hz]
    have HC : Hid (divB a b = sgnB (ratN a 10000 b)) := by show divB a b = _; unfold divB; rw [hc, hz2]; rfl
    have HV : Hid (divV a b = sgnV (ratS a 10000 b) (ratN a 10000 b)) := by show divV a b = _; unfold divV; rw [hc, hz2]; rfl
    have cR := fun W => ratio_any a 10000 b ha ⟨by omega, by omega⟩ hb hz W
    clear hz hz2
    go_enter Tryz.func35, Tryz.ntmps35
    go_wp2_with (go_at_call 50; refine Calls.mono (numbers_2 a b w.heap.size _ (by simp [go_sem]) (by simp [go_sem])) ?_; rintro e w' ⟨rfl, rfl⟩)
    refine (cR _).mono ?_
    rintro e w1 ⟨rfl, E1⟩
    go_wp2
    go_ret2
    exact ⟨ret_ib HV.out.symm HC.out.symm, ((Ext.refl _).alloc _).trans E1⟩

end Go.Proofs.YtdmiddpfgmbbhaaGreatDoor
