/-
  The contracts of package value's and the document's makers: Err, ErrName, Num, Text, Bool, Normal.
-/
import Derived.Test.YtdmiddpfgmbbhaaGreatDoorValN
namespace Go.Proofs.YtdmiddpfgmbbhaaGreatDoor
open Go.RowKit
set_option maxHeartbeats 1000000

/-- The errors' names lie where the program's text lays them. -/
def Nm (w : World) : Prop := 0 < w.heap.size ∧
  w.cell? ⟨0, 0, none⟩ = some (.string ⟨#[]⟩) ∧ w.cell? ⟨0, 1, none⟩ = some (.string ⟨#[35, 82, 69, 70, 33]⟩) ∧ w.cell? ⟨0, 2, none⟩ = some (.string ⟨#[35, 86, 65, 76, 85, 69, 33]⟩) ∧
  w.cell? ⟨0, 3, none⟩ = some (.string ⟨#[35, 68, 73, 86, 47, 48, 33]⟩) ∧ w.cell? ⟨0, 4, none⟩ = some (.string ⟨#[35, 78, 85, 77, 33]⟩) ∧ w.cell? ⟨0, 5, none⟩ = some (.string ⟨#[35, 67, 89, 67, 76, 69, 33]⟩)
theorem Nm.ext {w w' : World} (h : Nm w) (e : Ext w w') : Nm w' := by
  obtain ⟨hs, h0, h1, h2, h3, h4, h5⟩ := h
  have k := fun o => e.cell.1 0 o hs
  exact ⟨Nat.lt_of_lt_of_le hs e.sz, (k 0).trans h0, (k 1).trans h1, (k 2).trans h2, (k 3).trans h3, (k 4).trans h4, (k 5).trans h5⟩
/-- A block of four cells that was laid is there still. -/
theorem keep4 {w w1 : World} {a b c d : Value} {T : TypeId} (E : Ext (w.alloc (.cells #[a, b, c, d] T)) w1) : w.heap.size < w1.heap.size ∧
    (w1.cell? ⟨w.heap.size, 0, none⟩ = some a ∧ w1.cell? ⟨w.heap.size, 1, none⟩ = some b ∧ w1.cell? ⟨w.heap.size, 2, none⟩ = some c ∧ w1.cell? ⟨w.heap.size, 3, none⟩ = some d) ∧
    (w1.frozen? ⟨w.heap.size, 0, none⟩ = false ∧ w1.frozen? ⟨w.heap.size, 1, none⟩ = false ∧ w1.frozen? ⟨w.heap.size, 2, none⟩ = false ∧ w1.frozen? ⟨w.heap.size, 3, none⟩ = false) := by
  have hs : w.heap.size < (w.alloc (.cells #[a, b, c, d] T)).heap.size := by simp
  have k := fun o => E.cell.1 w.heap.size o hs
  have f := fun o => E.cell.2 w.heap.size o hs
  refine ⟨Nat.lt_of_lt_of_le hs E.sz, ⟨(k 0).trans ?_, (k 1).trans ?_, (k 2).trans ?_, (k 3).trans ?_⟩, (f 0).trans ?_, (f 1).trans ?_, (f 2).trans ?_, (f 3).trans ?_⟩
  all_goals simp [go_sem]
/-- The end of a function whose result lies in a block of its own: four cells are laid, and read. -/
theorem fin4g (v : Value) {fn : Func} {Q : Ending → World → Prop} {a : Act} {w w1 : World} {b : Nat} {o0 o1 o2 o3 x0 x1 x2 x3 : Value}
    (k0 : w1.cell? ⟨b, 0, none⟩ = some o0) (k1 : w1.cell? ⟨b, 1, none⟩ = some o1) (k2 : w1.cell? ⟨b, 2, none⟩ = some o2) (k3 : w1.cell? ⟨b, 3, none⟩ = some o3)
    (hd : a.defers = []) (hb : w.heap.size ≤ b) (E : Ext w w1)
    (hr : ∀ W : World, W.cell? ⟨b, 0, none⟩ = some x0 → W.cell? ⟨b, 1, none⟩ = some x1 → W.cell? ⟨b, 2, none⟩ = some x2 → W.cell? ⟨b, 3, none⟩ = some x3 → (results fn a.tmps).run Tryz.prog W = .ok v W)
    (hQ : ∀ W, Ext w W → Q (.returned v) W) :
    bodyPost Tryz.prog fn Q .ret a ((((w1.setCell ⟨b, 0, none⟩ x0).setCell ⟨b, 1, none⟩ x1).setCell ⟨b, 2, none⟩ x2).setCell ⟨b, 3, none⟩ x3) := by
  have e0 := World.cell?_setCell_same w1 ⟨b, 0, none⟩ x0 (by rw [k0])
  have j1 : (w1.setCell ⟨b, 0, none⟩ x0).cell? ⟨b, 1, none⟩ = some o1 := by rw [World.cell?_setCell_other _ _ _ _ (by simp)]; exact k1
  have e1 := World.cell?_setCell_same _ ⟨b, 1, none⟩ x1 (by rw [j1])
  have j2 : ((w1.setCell ⟨b, 0, none⟩ x0).setCell ⟨b, 1, none⟩ x1).cell? ⟨b, 2, none⟩ = some o2 := by rw [World.cell?_setCell_other _ _ _ _ (by simp), World.cell?_setCell_other _ _ _ _ (by simp)]; exact k2
  have e2 := World.cell?_setCell_same _ ⟨b, 2, none⟩ x2 (by rw [j2])
  have j3 : (((w1.setCell ⟨b, 0, none⟩ x0).setCell ⟨b, 1, none⟩ x1).setCell ⟨b, 2, none⟩ x2).cell? ⟨b, 3, none⟩ = some o3 := by
    rw [World.cell?_setCell_other _ _ _ _ (by simp), World.cell?_setCell_other _ _ _ _ (by simp), World.cell?_setCell_other _ _ _ _ (by simp)]; exact k3
  have e3 := World.cell?_setCell_same _ ⟨b, 3, none⟩ x3 (by rw [j3])
  refine bodyPost_ret (hr _ ?_ ?_ ?_ e3) hd (hQ _ ((((E.setCell hb _).setCell hb _).setCell hb _).setCell hb _))
  · rw [World.cell?_setCell_other _ _ _ _ (by simp), World.cell?_setCell_other _ _ _ _ (by simp), World.cell?_setCell_other _ _ _ _ (by simp)]; exact e0
  · rw [World.cell?_setCell_other _ _ _ _ (by simp), World.cell?_setCell_other _ _ _ _ (by simp)]; exact e1
  · rw [World.cell?_setCell_other _ _ _ _ (by simp)]; exact e2
theorem fin4 {fn : Func} {Q : Ending → World → Prop} {a : Act} {w w1 : World} {b : Nat} {o0 o1 o2 o3 x0 x1 x2 x3 : Value}
    (k0 : w1.cell? ⟨b, 0, none⟩ = some o0) (k1 : w1.cell? ⟨b, 1, none⟩ = some o1) (k2 : w1.cell? ⟨b, 2, none⟩ = some o2) (k3 : w1.cell? ⟨b, 3, none⟩ = some o3)
    (hd : a.defers = []) (hb : w.heap.size ≤ b) (E : Ext w w1)
    (hr : ∀ W : World, W.cell? ⟨b, 0, none⟩ = some x0 → W.cell? ⟨b, 1, none⟩ = some x1 → W.cell? ⟨b, 2, none⟩ = some x2 → W.cell? ⟨b, 3, none⟩ = some x3 → (results fn a.tmps).run Tryz.prog W = .ok (.agg #[x0, x1, x2, x3]) W)
    (hQ : ∀ W, Ext w W → Q (.returned (.agg #[x0, x1, x2, x3])) W) :
    bodyPost Tryz.prog fn Q .ret a ((((w1.setCell ⟨b, 0, none⟩ x0).setCell ⟨b, 1, none⟩ x1).setCell ⟨b, 2, none⟩ x2).setCell ⟨b, 3, none⟩ x3) := fin4g _ k0 k1 k2 k3 hd hb E hr hQ
theorem fin4b (t : Bool) {fn : Func} {Q : Ending → World → Prop} {a : Act} {w w1 : World} {b : Nat} {o0 o1 o2 o3 x0 x1 x2 x3 : Value}
    (k0 : w1.cell? ⟨b, 0, none⟩ = some o0) (k1 : w1.cell? ⟨b, 1, none⟩ = some o1) (k2 : w1.cell? ⟨b, 2, none⟩ = some o2) (k3 : w1.cell? ⟨b, 3, none⟩ = some o3)
    (hd : a.defers = []) (hb : w.heap.size ≤ b) (E : Ext w w1)
    (hr : ∀ W : World, W.cell? ⟨b, 0, none⟩ = some x0 → W.cell? ⟨b, 1, none⟩ = some x1 → W.cell? ⟨b, 2, none⟩ = some x2 → W.cell? ⟨b, 3, none⟩ = some x3 → (results fn a.tmps).run Tryz.prog W = .ok (.tuple #[.agg #[x0, x1, x2, x3], .bool t]) W)
    (hQ : ∀ W, Ext w W → Q (.returned (.tuple #[.agg #[x0, x1, x2, x3], .bool t])) W) :
    bodyPost Tryz.prog fn Q .ret a ((((w1.setCell ⟨b, 0, none⟩ x0).setCell ⟨b, 1, none⟩ x1).setCell ⟨b, 2, none⟩ x2).setCell ⟨b, 3, none⟩ x3) := fin4g _ k0 k1 k2 k3 hd hb E hr hQ
theorem fin4i (i : Int) {fn : Func} {Q : Ending → World → Prop} {a : Act} {w w1 : World} {b : Nat} {o0 o1 o2 o3 x0 x1 x2 x3 : Value}
    (k0 : w1.cell? ⟨b, 0, none⟩ = some o0) (k1 : w1.cell? ⟨b, 1, none⟩ = some o1) (k2 : w1.cell? ⟨b, 2, none⟩ = some o2) (k3 : w1.cell? ⟨b, 3, none⟩ = some o3)
    (hd : a.defers = []) (hb : w.heap.size ≤ b) (E : Ext w w1)
    (hr : ∀ W : World, W.cell? ⟨b, 0, none⟩ = some x0 → W.cell? ⟨b, 1, none⟩ = some x1 → W.cell? ⟨b, 2, none⟩ = some x2 → W.cell? ⟨b, 3, none⟩ = some x3 → (results fn a.tmps).run Tryz.prog W = .ok (.tuple #[.int .i64 i, .agg #[x0, x1, x2, x3]]) W)
    (hQ : ∀ W, Ext w W → Q (.returned (.tuple #[.int .i64 i, .agg #[x0, x1, x2, x3]])) W) :
    bodyPost Tryz.prog fn Q .ret a ((((w1.setCell ⟨b, 0, none⟩ x0).setCell ⟨b, 1, none⟩ x1).setCell ⟨b, 2, none⟩ x2).setCell ⟨b, 3, none⟩ x3) := fin4g _ k0 k1 k2 k3 hd hb E hr hQ
theorem err_none {e : Int} (h : ¬ (1 ≤ e ∧ e ≤ 5)) : errName e = [] := by
  unfold errName
  repeat (first | (rw [if_neg (by omega)]) | rfl)
theorem errname_any (e : Int) (w : World) (hN : Nm w) : Calls Tryz.prog 29 #[.int .i64 e] w fun r w' => r = .returned (.string (bs (errName e))) ∧ w' = w := by
  obtain ⟨hs, h0, h1, h2, h3, h4, h5⟩ := hN
  by_cases h : 0 ≤ e ∧ e < 6
  · have hh : e = 0 ∨ e = 1 ∨ e = 2 ∨ e = 3 ∨ e = 4 ∨ e = 5 := by omega
    rcases hh with rfl | rfl | rfl | rfl | rfl | rfl
    all_goals
      clear h
      go_enter Tryz.func29, Tryz.ntmps29
      go_wp2_with fail
      go_ret
      exact ⟨rfl, rfl⟩
  · have H : Hid (errName e = []) := err_none (by omega)
    by_cases hn : e < 0
    · clear h h0 h1 h2 h3 h4 h5
      go_enter Tryz.func29, Tryz.ntmps29
      go_wp2_with fail
      go_ret
      exact ⟨by rw [H.out]; rfl, rfl⟩
    · have hg : 6 ≤ e := by omega
      clear h h0 h1 h2 h3 h4 h5
      go_enter Tryz.func29, Tryz.ntmps29
      go_wp2_with fail
      go_ret
      exact ⟨by rw [H.out]; rfl, rfl⟩
theorem rerrname_any (e : Int) (w : World) : Calls Tryz.prog 9 #[.int .i64 e] w fun r w' => r = .returned (.string (bs (errName e))) ∧ w' = w := by
  by_cases h : 1 ≤ e ∧ e ≤ 5
  · have hh : e = 1 ∨ e = 2 ∨ e = 3 ∨ e = 4 ∨ e = 5 := by omega
    rcases hh with rfl | rfl | rfl | rfl | rfl
    all_goals
      clear h
      go_enter Tryz.func9, Tryz.ntmps9
      go_wp2_with fail
      go_ret
      exact ⟨rfl, rfl⟩
  · have H : Hid (errName e = []) := err_none h
    have n1 : e ≠ 1 := by omega
    have n2 : e ≠ 2 := by omega
    have n3 : e ≠ 3 := by omega
    have n4 : e ≠ 4 := by omega
    have n5 : e ≠ 5 := by omega
    clear h
    go_enter Tryz.func9, Tryz.ntmps9
    go_wp2_with fail
    go_ret
    exact ⟨by rw [H.out]; rfl, rfl⟩
theorem err_any (e : Int) (w : World) (hN : Nm w) : Calls Tryz.prog 12 #[.int .i64 e] w fun r w' => r = .returned (mkErr e).dat ∧ Ext w w' := by
  have c := fun W h => errname_any e W h
  by_cases h : 1 ≤ e ∧ e ≤ 5
  · have H : Hid (mkErr e = .err e) := mkErr_is h
    have hz : (bs (errName e)).toList.isEmpty = false := by
      have hh : e = 1 ∨ e = 2 ∨ e = 3 ∨ e = 4 ∨ e = 5 := by omega
      rw [ByteArray.toList_eq]
      rcases hh with rfl | rfl | rfl | rfl | rfl <;> decide
    generalize bs (errName e) = q at c hz
    clear h
    go_enter Tryz.func12, Tryz.ntmps12
    go_wp2_with fail
    refine (c _ (hN.ext ((Ext.refl _).alloc _))).mono ?_
    rintro r w1 ⟨rfl, rfl⟩
    go_wp2_with fail
    simp [bodyPost, results, Tryz.results12, go_sem]
    exact ⟨by rw [H.out]; rfl, (Ext.refl _).alloc _⟩
  · have H : Hid (mkErr e = .err 2) := by show mkErr e = _; unfold mkErr; rw [if_neg h]
    have hz : (bs (errName e)).toList.isEmpty = true := by rw [ByteArray.toList_eq, err_none h]; decide
    generalize bs (errName e) = q at c hz
    clear h
    go_enter Tryz.func12, Tryz.ntmps12
    go_wp2_with fail
    refine (c _ (hN.ext ((Ext.refl _).alloc _))).mono ?_
    rintro r w1 ⟨rfl, rfl⟩
    go_wp2_with fail
    simp [bodyPost, results, Tryz.results12, go_sem]
    exact ⟨by rw [H.out]; rfl, (Ext.refl _).alloc _⟩
theorem rerr_any (e : Int) (w : World) : Calls Tryz.prog 15 #[.int .i64 e] w fun r w' => r = .returned (mkErr e).dat ∧ Ext w w' := by
  by_cases h : e < 1
  · have H : Hid (mkErr e = .err 2) := by show mkErr e = _; unfold mkErr; rw [if_neg (by omega)]
    go_enter Tryz.func15, Tryz.ntmps15
    go_wp2_with fail
    simp [bodyPost, results, Tryz.results15, go_sem]
    exact ⟨by rw [H.out]; rfl, (Ext.refl _).alloc _⟩
  · by_cases g : e > 5
    · have H : Hid (mkErr e = .err 2) := by show mkErr e = _; unfold mkErr; rw [if_neg (by omega)]
      go_enter Tryz.func15, Tryz.ntmps15
      go_wp2_with fail
      simp [bodyPost, results, Tryz.results15, go_sem]
      exact ⟨by rw [H.out]; rfl, (Ext.refl _).alloc _⟩
    · have H : Hid (mkErr e = .err e) := mkErr_is ⟨by omega, by omega⟩
      go_enter Tryz.func15, Tryz.ntmps15
      go_wp2_with fail
      simp [bodyPost, results, Tryz.results15, go_sem]
      exact ⟨by rw [H.out]; rfl, (Ext.refl _).alloc _⟩
end Go.Proofs.YtdmiddpfgmbbhaaGreatDoor
