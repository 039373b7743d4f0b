/-
  A struct of 5 fields in a block of its own: laid, kept, stored; the end of a function whose result lies in one.
-/
import Derived.Test.YtfppjnigbodphaaDoorFixA
namespace Go.Proofs.YtfppjnigbodphaaDoor
open Go.RowKit
set_option maxHeartbeats 1000000

def Blk5 (W : World) (b : Nat) (x0 x1 x2 x3 x4 : Value) : Prop := b < W.heap.size ∧
  (W.cell? ⟨b, 0, none⟩ = some x0 ∧ W.cell? ⟨b, 1, none⟩ = some x1 ∧ W.cell? ⟨b, 2, none⟩ = some x2 ∧ W.cell? ⟨b, 3, none⟩ = some x3 ∧ W.cell? ⟨b, 4, none⟩ = some x4) ∧
  (W.frozen? ⟨b, 0, none⟩ = false ∧ W.frozen? ⟨b, 1, none⟩ = false ∧ W.frozen? ⟨b, 2, none⟩ = false ∧ W.frozen? ⟨b, 3, none⟩ = false ∧ W.frozen? ⟨b, 4, none⟩ = false)
theorem blk5_top {w w1 : World} {x0 x1 x2 x3 x4 : Value} {T : TypeId} {b : Nat} (hb : b = w.heap.size) (E : Ext (w.alloc (.cells #[x0, x1, x2, x3, x4] T)) w1) : Blk5 w1 b x0 x1 x2 x3 x4 := by
  subst hb
  have hs : w.heap.size < (w.alloc (.cells #[x0, x1, x2, x3, x4] T)).heap.size := by simp
  have k := fun o => E.cell.1 w.heap.size o hs
  have f := fun o => E.cell.2 w.heap.size o hs
  refine ⟨Nat.lt_of_lt_of_le hs E.sz, ⟨(k 0).trans ?_, (k 1).trans ?_, (k 2).trans ?_, (k 3).trans ?_, (k 4).trans ?_⟩, (f 0).trans ?_, (f 1).trans ?_, (f 2).trans ?_, (f 3).trans ?_, (f 4).trans ?_⟩
  all_goals simp [go_sem]
theorem Blk5.ext {w w' : World} {b : Nat} {x0 x1 x2 x3 x4 : Value} (h : Blk5 w b x0 x1 x2 x3 x4) (e : Ext w w') : Blk5 w' b x0 x1 x2 x3 x4 := by
  obtain ⟨z, ⟨k0, k1, k2, k3, k4⟩, f0, f1, f2, f3, f4⟩ := h
  have k := fun o => e.cell.1 b o z
  have f := fun o => e.cell.2 b o z
  exact ⟨Nat.lt_of_lt_of_le z e.sz, ⟨(k 0).trans k0, (k 1).trans k1, (k 2).trans k2, (k 3).trans k3, (k 4).trans k4⟩, (f 0).trans f0, (f 1).trans f1, (f 2).trans f2, (f 3).trans f3, (f 4).trans f4⟩
theorem Blk5.far1 {w : World} {b c : Nat} {x0 x1 x2 x3 x4 : Value} (h : Blk5 w b x0 x1 x2 x3 x4) (hc : c ≠ b) (o : Nat) (v : Value) : Blk5 (w.setCell ⟨c, o, none⟩ v) b x0 x1 x2 x3 x4 := by
  obtain ⟨z, ⟨k0, k1, k2, k3, k4⟩, f0, f1, f2, f3, f4⟩ := h
  refine ⟨by simpa [World.setCell] using z, ⟨?_, ?_, ?_, ?_, ?_⟩, ?_, ?_, ?_, ?_, ?_⟩
  · rw [World.cell?_setCell_far _ _ _ _ hc]; exact k0
  · rw [World.cell?_setCell_far _ _ _ _ hc]; exact k1
  · rw [World.cell?_setCell_far _ _ _ _ hc]; exact k2
  · rw [World.cell?_setCell_far _ _ _ _ hc]; exact k3
  · rw [World.cell?_setCell_far _ _ _ _ hc]; exact k4
  · rw [World.frozen?_setCell]; exact f0
  · rw [World.frozen?_setCell]; exact f1
  · rw [World.frozen?_setCell]; exact f2
  · rw [World.frozen?_setCell]; exact f3
  · rw [World.frozen?_setCell]; exact f4
theorem Blk5.far {w : World} {b c : Nat} {x0 x1 x2 x3 x4 : Value} (h : Blk5 w b x0 x1 x2 x3 x4) (hc : c ≠ b) (y0 y1 y2 y3 y4 : Value) :
    Blk5 (((((w.setCell ⟨c, 0, none⟩ y0).setCell ⟨c, 1, none⟩ y1).setCell ⟨c, 2, none⟩ y2).setCell ⟨c, 3, none⟩ y3).setCell ⟨c, 4, none⟩ y4) b x0 x1 x2 x3 x4 := (((((h.far1 hc _ _).far1 hc _ _).far1 hc _ _).far1 hc _ _).far1 hc _ _)
theorem Blk5.put0 {w : World} {b : Nat} {x0 x1 x2 x3 x4 : Value} (h : Blk5 w b x0 x1 x2 x3 x4) (v : Value) : Blk5 (w.setCell ⟨b, 0, none⟩ v) b v x1 x2 x3 x4 := by
  obtain ⟨z, ⟨k0, k1, k2, k3, k4⟩, f0, f1, f2, f3, f4⟩ := h
  have e := World.cell?_setCell_same w ⟨b, 0, none⟩ v (by rw [k0])
  refine ⟨by simpa [World.setCell] using z, ⟨e, ?_, ?_, ?_, ?_⟩, ?_, ?_, ?_, ?_, ?_⟩
  · rw [World.cell?_setCell_other _ _ _ _ (by simp)]; exact k1
  · rw [World.cell?_setCell_other _ _ _ _ (by simp)]; exact k2
  · rw [World.cell?_setCell_other _ _ _ _ (by simp)]; exact k3
  · rw [World.cell?_setCell_other _ _ _ _ (by simp)]; exact k4
  · rw [World.frozen?_setCell]; exact f0
  · rw [World.frozen?_setCell]; exact f1
  · rw [World.frozen?_setCell]; exact f2
  · rw [World.frozen?_setCell]; exact f3
  · rw [World.frozen?_setCell]; exact f4
theorem Blk5.put1 {w : World} {b : Nat} {x0 x1 x2 x3 x4 : Value} (h : Blk5 w b x0 x1 x2 x3 x4) (v : Value) : Blk5 (w.setCell ⟨b, 1, none⟩ v) b x0 v x2 x3 x4 := by
  obtain ⟨z, ⟨k0, k1, k2, k3, k4⟩, f0, f1, f2, f3, f4⟩ := h
  have e := World.cell?_setCell_same w ⟨b, 1, none⟩ v (by rw [k1])
  refine ⟨by simpa [World.setCell] using z, ⟨?_, e, ?_, ?_, ?_⟩, ?_, ?_, ?_, ?_, ?_⟩
  · rw [World.cell?_setCell_other _ _ _ _ (by simp)]; exact k0
  · rw [World.cell?_setCell_other _ _ _ _ (by simp)]; exact k2
  · rw [World.cell?_setCell_other _ _ _ _ (by simp)]; exact k3
  · rw [World.cell?_setCell_other _ _ _ _ (by simp)]; exact k4
  · rw [World.frozen?_setCell]; exact f0
  · rw [World.frozen?_setCell]; exact f1
  · rw [World.frozen?_setCell]; exact f2
  · rw [World.frozen?_setCell]; exact f3
  · rw [World.frozen?_setCell]; exact f4
theorem Blk5.put2 {w : World} {b : Nat} {x0 x1 x2 x3 x4 : Value} (h : Blk5 w b x0 x1 x2 x3 x4) (v : Value) : Blk5 (w.setCell ⟨b, 2, none⟩ v) b x0 x1 v x3 x4 := by
  obtain ⟨z, ⟨k0, k1, k2, k3, k4⟩, f0, f1, f2, f3, f4⟩ := h
  have e := World.cell?_setCell_same w ⟨b, 2, none⟩ v (by rw [k2])
  refine ⟨by simpa [World.setCell] using z, ⟨?_, ?_, e, ?_, ?_⟩, ?_, ?_, ?_, ?_, ?_⟩
  · rw [World.cell?_setCell_other _ _ _ _ (by simp)]; exact k0
  · rw [World.cell?_setCell_other _ _ _ _ (by simp)]; exact k1
  · rw [World.cell?_setCell_other _ _ _ _ (by simp)]; exact k3
  · rw [World.cell?_setCell_other _ _ _ _ (by simp)]; exact k4
  · rw [World.frozen?_setCell]; exact f0
  · rw [World.frozen?_setCell]; exact f1
  · rw [World.frozen?_setCell]; exact f2
  · rw [World.frozen?_setCell]; exact f3
  · rw [World.frozen?_setCell]; exact f4
theorem Blk5.put3 {w : World} {b : Nat} {x0 x1 x2 x3 x4 : Value} (h : Blk5 w b x0 x1 x2 x3 x4) (v : Value) : Blk5 (w.setCell ⟨b, 3, none⟩ v) b x0 x1 x2 v x4 := by
  obtain ⟨z, ⟨k0, k1, k2, k3, k4⟩, f0, f1, f2, f3, f4⟩ := h
  have e := World.cell?_setCell_same w ⟨b, 3, none⟩ v (by rw [k3])
  refine ⟨by simpa [World.setCell] using z, ⟨?_, ?_, ?_, e, ?_⟩, ?_, ?_, ?_, ?_, ?_⟩
  · rw [World.cell?_setCell_other _ _ _ _ (by simp)]; exact k0
  · rw [World.cell?_setCell_other _ _ _ _ (by simp)]; exact k1
  · rw [World.cell?_setCell_other _ _ _ _ (by simp)]; exact k2
  · rw [World.cell?_setCell_other _ _ _ _ (by simp)]; exact k4
  · rw [World.frozen?_setCell]; exact f0
  · rw [World.frozen?_setCell]; exact f1
  · rw [World.frozen?_setCell]; exact f2
  · rw [World.frozen?_setCell]; exact f3
  · rw [World.frozen?_setCell]; exact f4
theorem Blk5.put4 {w : World} {b : Nat} {x0 x1 x2 x3 x4 : Value} (h : Blk5 w b x0 x1 x2 x3 x4) (v : Value) : Blk5 (w.setCell ⟨b, 4, none⟩ v) b x0 x1 x2 x3 v := by
  obtain ⟨z, ⟨k0, k1, k2, k3, k4⟩, f0, f1, f2, f3, f4⟩ := h
  have e := World.cell?_setCell_same w ⟨b, 4, none⟩ v (by rw [k4])
  refine ⟨by simpa [World.setCell] using z, ⟨?_, ?_, ?_, ?_, e⟩, ?_, ?_, ?_, ?_, ?_⟩
  · rw [World.cell?_setCell_other _ _ _ _ (by simp)]; exact k0
  · rw [World.cell?_setCell_other _ _ _ _ (by simp)]; exact k1
  · rw [World.cell?_setCell_other _ _ _ _ (by simp)]; exact k2
  · rw [World.cell?_setCell_other _ _ _ _ (by simp)]; exact k3
  · rw [World.frozen?_setCell]; exact f0
  · rw [World.frozen?_setCell]; exact f1
  · rw [World.frozen?_setCell]; exact f2
  · rw [World.frozen?_setCell]; exact f3
  · rw [World.frozen?_setCell]; exact f4
theorem Blk5.set {w : World} {b : Nat} {o0 o1 o2 o3 o4 : Value} (h : Blk5 w b o0 o1 o2 o3 o4) (x0 x1 x2 x3 x4 : Value) :
    Blk5 (((((w.setCell ⟨b, 0, none⟩ x0).setCell ⟨b, 1, none⟩ x1).setCell ⟨b, 2, none⟩ x2).setCell ⟨b, 3, none⟩ x3).setCell ⟨b, 4, none⟩ x4) b x0 x1 x2 x3 x4 := (((((h.put0 _).put1 _).put2 _).put3 _).put4 _)
theorem Blk5.dr {w : World} {b : Nat} {x0 x1 x2 x3 x4 : Value} (h : Blk5 w b x0 x1 x2 x3 x4) : Blk5 w.drew b x0 x1 x2 x3 x4 := h.ext (Ext.drew (Ext.refl _))
theorem Blk5.al {w : World} {b : Nat} {x0 x1 x2 x3 x4 : Value} (o : Obj) (h : Blk5 w b x0 x1 x2 x3 x4) : Blk5 (w.alloc o) b x0 x1 x2 x3 x4 := h.ext (Ext.alloc (Ext.refl _) _)
/-- The end of a function whose result, and others beside it, lies in a block of its own. -/
theorem fin5 (v : Value) {fn : Func} {Q : Ending → World → Prop} {a : Act} {w W : World} {b : Nat} {x0 x1 x2 x3 x4 : Value}
    (B : Blk5 W b x0 x1 x2 x3 x4) (hd : a.defers = []) (E : Ext w W)
    (hr : W.cell? ⟨b, 0, none⟩ = some x0 → W.cell? ⟨b, 1, none⟩ = some x1 → W.cell? ⟨b, 2, none⟩ = some x2 → W.cell? ⟨b, 3, none⟩ = some x3 → W.cell? ⟨b, 4, none⟩ = some x4 → (results fn a.tmps).run Tryd.prog W = .ok v W)
    (hQ : Ext w W → Q (.returned v) W) : bodyPost Tryd.prog fn Q .ret a W :=
  bodyPost_ret (hr B.2.1.1 B.2.1.2.1 B.2.1.2.2.1 B.2.1.2.2.2.1 B.2.1.2.2.2.2) hd (hQ E)
end Go.Proofs.YtfppjnigbodphaaDoor
