/-
  Contracts of Add and Sub, of the program and of the document's answers.
-/
import Derived.Test.YtfppjnigbodphaaDoorFixB
import Derived.Test.YtfppjnigbodphaaDoorFixC
namespace Go.Proofs.YtfppjnigbodphaaDoor
open Go.RowKit
set_option maxHeartbeats 400000

/-- The sum of two numbers: is it one, and which. -/
def addB (a b : Int) : Bool := (canB a && canB b) && fitB (a + b)
def addV (a b : Int) : Int := if addB a b then a + b else 0
def subB (a b : Int) : Bool := (canB a && canB b) && fitB (a - b)
def subV (a b : Int) : Int := if subB a b then a - b else 0
theorem addB_no {a b : Int} (h : (canB a && canB b) = false) : addB a b = false := by unfold addB; rw [h]; rfl
theorem addV_no {a b : Int} (h : (canB a && canB b) = false) : addV a b = 0 := by unfold addV; rw [addB_no h]; rfl
theorem subB_no {a b : Int} (h : (canB a && canB b) = false) : subB a b = false := by unfold subB; rw [h]; rfl
theorem subV_no {a b : Int} (h : (canB a && canB b) = false) : subV a b = 0 := by unfold subV; rw [subB_no h]; rfl
theorem addB_yes {a b : Int} (ha : I64 a) (hb : I64 b) (h : (canB a && canB b) = true) : toldB (a + b) = addB a b := by
  obtain ⟨_, _⟩ := ha; obtain ⟨_, _⟩ := hb
  unfold addB; rw [h, toldB_eq _ (by omega)]; simp
theorem addV_yes {a b : Int} (ha : I64 a) (hb : I64 b) (h : (canB a && canB b) = true) : toldV (a + b) = addV a b := by
  have := addB_yes ha hb h
  obtain ⟨_, _⟩ := ha; obtain ⟨_, _⟩ := hb
  unfold addV; rw [← this, toldV_eq _ (by omega), toldB_eq _ (by omega)]
theorem subB_yes {a b : Int} (ha : I64 a) (hb : I64 b) (h : (canB a && canB b) = true) : toldB (a - b) = subB a b := by
  obtain ⟨_, _⟩ := ha; obtain ⟨_, _⟩ := hb
  unfold subB; rw [h, toldB_eq _ (by omega)]; simp
theorem subV_yes {a b : Int} (ha : I64 a) (hb : I64 b) (h : (canB a && canB b) = true) : toldV (a - b) = subV a b := by
  have := subB_yes ha hb h
  obtain ⟨_, _⟩ := ha; obtain ⟨_, _⟩ := hb
  unfold subV; rw [← this, toldV_eq _ (by omega), toldB_eq _ (by omega)]

theorem add_any (a b : Int) (ha : I64 a) (hb : I64 b) (w : World) : Calls Tryd.prog 51 #[.int .i64 a, .int .i64 b] w fun e w' => e = .returned (.tuple #[.int .i64 (addV a b), .bool (addB a b)]) ∧ Ext w w' := by
  cases hc : (canB a && canB b)
  · have HC := addB_no hc
    have HV := addV_no hc
    go_enter Tryd.func51, Tryd.ntmps51
    go_wp2_with (go_at_call 54; refine Calls.mono (numbers_2 a b w.heap.size _ (by simp [go_sem]) (by simp [go_sem])) ?_; rintro e w' ⟨rfl, rfl⟩)
    go_ret2
    exact ⟨ret_ib HV.symm HC.symm, (Ext.refl _).alloc _⟩
  · have HB : Hid (toldB (a + b) = addB a b) := addB_yes ha hb hc
    have HV : Hid (toldV (a + b) = addV a b) := addV_yes ha hb hc
    have P0 := fun W => plus_acc 0 a ha W
    have z1 : hiOf 0 = 0 := by decide
    have z2 : loOf 0 = 0 := by decide
    simp only [z1, z2, Int.zero_add] at P0
    clear z1 z2
    go_enter Tryd.func51, Tryd.ntmps51
    go_wp2_with (go_at_call 54; refine Calls.mono (numbers_2 a b w.heap.size _ (by simp [go_sem]) (by simp [go_sem])) ?_; rintro e w' ⟨rfl, rfl⟩)
    refine (P0 _).mono ?_
    rintro e w1 ⟨rfl, E1⟩
    go_wp2_with fail
    refine (plus_acc a b hb _).mono ?_
    rintro e w2 ⟨rfl, E2⟩
    go_wp2_with fail
    refine (told_acc (a + b) _).mono ?_
    rintro e w3 ⟨rfl, E3⟩
    go_wp2
    go_ret2
    exact ⟨ret_ib HV.out HB.out, (((Ext.refl _).alloc _).trans E1).trans (E2.trans E3)⟩
end Go.Proofs.YtfppjnigbodphaaDoor
