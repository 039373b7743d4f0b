/-
  The contracts of Rect (package coord's and the document's).
-/
import Derived.Test.YtdklhgfkaablbaaDoorCooR
import Derived.Deep.CutBlock
import Derived.Deep.DeepCutAuto
namespace Go.Proofs.YtdklhgfkaablbaaDoor
open Go.RowKit
set_option maxHeartbeats 1000000

/-- Two arguments in their blocks, a result in a third, whatever it holds. -/
def Three (w : World) (x0 x1 x2 x3 y0 y1 y2 y3 : Value) (W : World) : Prop := Ext w W ∧ Blk W w.heap.size x0 x1 x2 x3 ∧ Blk W (w.heap.size + 1) y0 y1 y2 y3 ∧ ∃ z0 z1 z2 z3, Blk W (w.heap.size + 1 + 1) z0 z1 z2 z3
theorem Three.ext {w W W' : World} {x0 x1 x2 x3 y0 y1 y2 y3 : Value} (h : Three w x0 x1 x2 x3 y0 y1 y2 y3 W) (e : Ext W W') : Three w x0 x1 x2 x3 y0 y1 y2 y3 W' := by
  obtain ⟨a, b, c, z0, z1, z2, z3, d⟩ := h
  exact ⟨a.trans e, b.ext e, c.ext e, z0, z1, z2, z3, d.ext e⟩
theorem Three.drew {w W : World} {x0 x1 x2 x3 y0 y1 y2 y3 : Value} (h : Three w x0 x1 x2 x3 y0 y1 y2 y3 W) : Three w x0 x1 x2 x3 y0 y1 y2 y3 W.drew := h.ext (Ext.drew (Ext.refl _))
theorem Three.drewN {w W : World} {x0 x1 x2 x3 y0 y1 y2 y3 : Value} (h : Three w x0 x1 x2 x3 y0 y1 y2 y3 W) (n : Nat) : Three w x0 x1 x2 x3 y0 y1 y2 y3 (W.drewN n) := h.ext (Ext.drewN (Ext.refl _) n)
theorem Three.put {w W : World} {x0 x1 x2 x3 y0 y1 y2 y3 : Value} (h : Three w x0 x1 x2 x3 y0 y1 y2 y3 W) (v0 v1 v2 v3 : Value) : Three w x0 x1 x2 x3 y0 y1 y2 y3 ((((W.setCell ⟨w.heap.size + 1 + 1, 0, none⟩ v0).setCell ⟨w.heap.size + 1 + 1, 1, none⟩ v1).setCell ⟨w.heap.size + 1 + 1, 2, none⟩ v2).setCell ⟨w.heap.size + 1 + 1, 3, none⟩ v3) := by
  obtain ⟨a, b, c, z0, z1, z2, z3, d⟩ := h
  exact ⟨(((a.setCell (by simp; omega) _).setCell (by simp; omega) _).setCell (by simp; omega) _).setCell (by simp; omega) _, b.far (by omega) _ _ _ _, c.far (by omega) _ _ _ _, _, _, _, _, d.set _ _ _ _⟩
def rcB (a0 a1 b0 b1 : Int) : Bool := inB a0 a1 && inB b0 b1
def rcD (a0 a1 b0 b1 : Int) : Value := if rcB a0 a1 b0 b1 then rectD (mnI a0 b0) (mnI a1 b1) (mxI a0 b0) (mxI a1 b1) else rectD 0 0 0 0
theorem mn_eq (a b : Int) : min a b = mnI a b := by unfold mnI; rw [Int.min_def]; split <;> split <;> omega
theorem mx_eq (a b : Int) : max a b = mxI a b := by unfold mxI; rw [Int.max_def]; split <;> split <;> omega
/-- Three blocks: two arguments, the result. -/
theorem three {w : World} {x0 x1 x2 x3 y0 y1 y2 y3 z0 z1 z2 z3 : Value} {S T U : TypeId} {W : World} (h : W = ((w.alloc (.cells #[x0, x1, x2, x3] S)).alloc (.cells #[y0, y1, y2, y3] T)).alloc (.cells #[z0, z1, z2, z3] U)) :
    Ext w W ∧ Blk W w.heap.size x0 x1 x2 x3 ∧ Blk W (w.heap.size + 1) y0 y1 y2 y3 ∧ Blk W (w.heap.size + 1 + 1) z0 z1 z2 z3 := by
  subst h
  exact ⟨(((Ext.refl _).alloc _).alloc _).alloc _, ((blk_top rfl (Ext.refl _)).al _).al _, (blk_top (by simp) (Ext.refl _)).al _, blk_top (by simp) (Ext.refl _)⟩

set_option maxRecDepth 100000 in
theorem rect_any (a0 a1 b0 b1 : Int) (ax ay bx by_ : Bool) (w : World) : Calls Tryd.prog 20 #[.agg #[.int .i64 a0, .int .i64 a1, .bool ax, .bool ay], .agg #[.int .i64 b0, .int .i64 b1, .bool bx, .bool by_]] w fun e w' => e = .returned (rcD a0 a1 b0 b1) ∧ Ext w w' := by
  have c1 := fun W => in_any a0 a1 W
  have c2 := fun W => in_any b0 b1 W
  have HD : Hid (rcD a0 a1 b0 b1 = if inB a0 a1 && inB b0 b1 then rectD (mnI a0 b0) (mnI a1 b1) (mxI a0 b0) (mxI a1 b1) else rectD 0 0 0 0) := rfl
  obtain ⟨W0, hW0⟩ : ∃ W0, W0 = ((w.alloc (.cells #[.int .i64 a0, .int .i64 a1, .bool ax, .bool ay] 23)).alloc (.cells #[.int .i64 b0, .int .i64 b1, .bool bx, .bool by_] 23)).alloc (.cells #[.int .i64 0, .int .i64 0, .int .i64 0, .int .i64 0] 35) := ⟨_, rfl⟩
  obtain ⟨X0, BA, BB, BZ⟩ := three hW0
  have HBZ : Hid (Blk W0 (w.heap.size + 1 + 1) (.int .i64 0) (.int .i64 0) (.int .i64 0) (.int .i64 0)) := BZ
  obtain ⟨_, ⟨k0, k1, k2, k3⟩, _⟩ := BA
  obtain ⟨_, ⟨m0, m1, m2, m3⟩, _⟩ := BB
  obtain ⟨_, ⟨n0, n1, n2, n3⟩, f0, f1, f2, f3⟩ := BZ
  cases g1 : inB a0 a1
  · rw [g1] at c1 HD
    go_enter Tryd.func20, Tryd.ntmps20
    go_wp2_with fail
    rw [← hW0]
    clear hW0
    refine (c1 _).mono ?_
    rintro e w1 ⟨rfl, rfl⟩
    go_wp2_with fail
    exact fin4 n0 n1 n2 n3 rfl (by omega) X0 (fun W g0 g1 g2 g3 => by simp [results, Tryd.results20, go_sem, g0, g1, g2, g3]) (fun W h => ⟨by rw [HD.out]; rfl, h⟩)
  cases g2 : inB b0 b1
  · rw [g1] at c1 HD
    rw [g2] at c2 HD
    go_enter Tryd.func20, Tryd.ntmps20
    go_wp2_with fail
    rw [← hW0]
    clear hW0
    refine (c1 _).mono ?_
    rintro e w1 ⟨rfl, rfl⟩
    go_wp2_with fail
    refine (c2 _).mono ?_
    rintro e w2 ⟨rfl, rfl⟩
    go_wp2_with fail
    exact fin4 n0 n1 n2 n3 rfl (by omega) X0 (fun W g0 g1 g2 g3 => by simp [results, Tryd.results20, go_sem, g0, g1, g2, g3]) (fun W h => ⟨by rw [HD.out]; rfl, h⟩)
  rw [g1] at c1 HD
  rw [g2] at c2 HD
  have HD2 : Hid (rcD a0 a1 b0 b1 = rectD (mnI a0 b0) (mnI a1 b1) (mxI a0 b0) (mxI a1 b1)) := HD.out
  clear HD
  go_enter Tryd.func20, Tryd.ntmps20
  go_wp2_with fail
  rw [← hW0]
  clear hW0
  refine (c1 _).mono ?_
  rintro e w1 ⟨rfl, rfl⟩
  go_wp2_with fail
  refine (c2 _).mono ?_
  rintro e w2 ⟨rfl, rfl⟩
  go_wp2_with fail
  exact fin4 n0 n1 n2 n3 rfl (by omega) X0 (fun W g0 g1 g2 g3 => by simp [results, Tryd.results20, go_sem, g0, g1, g2, g3]) (fun W h => ⟨by rw [HD2.out, mn_eq, mn_eq, mx_eq, mx_eq]; rfl, h⟩)

set_option maxRecDepth 100000 in
theorem rrect_any (a0 a1 b0 b1 : Int) (ax ay bx by_ : Bool) (w : World) : Calls Tryd.prog 21 #[.agg #[.int .i64 a0, .int .i64 a1, .bool ax, .bool ay], .agg #[.int .i64 b0, .int .i64 b1, .bool bx, .bool by_]] w fun e w' => e = .returned (rcD a0 a1 b0 b1) ∧ Ext w w' := by
  have c1 := fun W => rin_any a0 a1 W
  have c2 := fun W => rin_any b0 b1 W
  have HD : Hid (rcD a0 a1 b0 b1 = if inB a0 a1 && inB b0 b1 then rectD (mnI a0 b0) (mnI a1 b1) (mxI a0 b0) (mxI a1 b1) else rectD 0 0 0 0) := rfl
  obtain ⟨W0, hW0⟩ : ∃ W0, W0 = ((w.alloc (.cells #[.int .i64 a0, .int .i64 a1, .bool ax, .bool ay] 23)).alloc (.cells #[.int .i64 b0, .int .i64 b1, .bool bx, .bool by_] 23)).alloc (.cells #[.int .i64 0, .int .i64 0, .int .i64 0, .int .i64 0] 35) := ⟨_, rfl⟩
  obtain ⟨X0, BA, BB, BZ⟩ := three hW0
  have HBZ : Hid (Blk W0 (w.heap.size + 1 + 1) (.int .i64 0) (.int .i64 0) (.int .i64 0) (.int .i64 0)) := BZ
  obtain ⟨_, ⟨k0, k1, k2, k3⟩, _⟩ := BA
  obtain ⟨_, ⟨m0, m1, m2, m3⟩, _⟩ := BB
  obtain ⟨_, ⟨n0, n1, n2, n3⟩, f0, f1, f2, f3⟩ := BZ
  cases g1 : inB a0 a1
  · rw [g1] at c1 HD
    go_enter Tryd.func21, Tryd.ntmps21
    go_wp2_with fail
    rw [← hW0]
    clear hW0
    refine (c1 _).mono ?_
    rintro e w1 ⟨rfl, rfl⟩
    go_wp2_with fail
    exact fin4 n0 n1 n2 n3 rfl (by omega) X0 (fun W g0 g1 g2 g3 => by simp [results, Tryd.results21, go_sem, g0, g1, g2, g3]) (fun W h => ⟨by rw [HD.out]; rfl, h⟩)
  cases g2 : inB b0 b1
  · rw [g1] at c1 HD
    rw [g2] at c2 HD
    go_enter Tryd.func21, Tryd.ntmps21
    go_wp2_with fail
    rw [← hW0]
    clear hW0
    refine (c1 _).mono ?_
    rintro e w1 ⟨rfl, rfl⟩
    go_wp2_with fail
    refine (c2 _).mono ?_
    rintro e w2 ⟨rfl, rfl⟩
    go_wp2_with fail
    exact fin4 n0 n1 n2 n3 rfl (by omega) X0 (fun W g0 g1 g2 g3 => by simp [results, Tryd.results21, go_sem, g0, g1, g2, g3]) (fun W h => ⟨by rw [HD.out]; rfl, h⟩)
  rw [g1] at c1 HD
  rw [g2] at c2 HD
  have HD2 : Hid (rcD a0 a1 b0 b1 = rectD (mnI a0 b0) (mnI a1 b1) (mxI a0 b0) (mxI a1 b1)) := HD.out
  clear HD
  have cL := fun a b W => least_any a b W
  have cG := fun a b W => great_any a b W
  have mkS : Hid (∀ W, Three w (.int .i64 a0) (.int .i64 a1) (.bool ax) (.bool ay) (.int .i64 b0) (.int .i64 b1) (.bool bx) (.bool by_) W → (W.cell? ⟨w.heap.size, 0, none⟩ = some (.int .i64 a0) ∧ W.cell? ⟨w.heap.size, 1, none⟩ = some (.int .i64 a1) ∧ W.cell? ⟨w.heap.size + 1, 0, none⟩ = some (.int .i64 b0) ∧ W.cell? ⟨w.heap.size + 1, 1, none⟩ = some (.int .i64 b1)) ∧ Three w (.int .i64 a0) (.int .i64 a1) (.bool ax) (.bool ay) (.int .i64 b0) (.int .i64 b1) (.bool bx) (.bool by_) W) := by
    intro W hW
    have hW' := hW
    obtain ⟨_, ⟨_, ⟨i0, i1, _, _⟩, _⟩, ⟨_, ⟨j0, j1, _, _⟩, _⟩, _⟩ := hW
    exact ⟨⟨i0, i1, j0, j1⟩, hW'⟩
  have hTH : Three w (.int .i64 a0) (.int .i64 a1) (.bool ax) (.bool ay) (.int .i64 b0) (.int .i64 b1) (.bool bx) (.bool by_) W0 := by
    obtain ⟨X0, BA, BB, BZ⟩ := three hW0
    exact ⟨X0, BA, BB, _, _, _, _, BZ⟩
  go_enter Tryd.func21, Tryd.ntmps21
  go_wp2_with fail
  rw [← hW0]
  clear hW0
  refine (c1 _).mono ?_
  rintro e w1 ⟨rfl, rfl⟩
  go_wp2_with fail
  refine (c2 _).mono ?_
  rintro e w2 ⟨rfl, rfl⟩
  go_wp2_with fail
  clear k0 k1 k2 k3 m0 m1 m2 m3
  go_region_held3 (fun W => (W.cell? ⟨w.heap.size, 0, none⟩ = some (.int .i64 a0) ∧ W.cell? ⟨w.heap.size, 1, none⟩ = some (.int .i64 a1) ∧ W.cell? ⟨w.heap.size + 1, 0, none⟩ = some (.int .i64 b0) ∧ W.cell? ⟨w.heap.size + 1, 1, none⟩ = some (.int .i64 b1)) ∧ Three w (.int .i64 a0) (.int .i64 a1) (.bool ax) (.bool ay) (.int .i64 b0) (.int .i64 b1) (.bool bx) (.bool by_) W)
    ((refine mkS.out _ ?_; with_reducible (repeat (first | assumption | apply Three.drew | apply Three.drewN | apply Three.put)); done))
    (first | (go_at_call 35; refine Calls.mono (cL _ _ _) ?_; rintro e y1 ⟨rfl, rfl⟩) | (go_at_call 36; refine Calls.mono (cG _ _ _) ?_; rintro e y1 ⟨rfl, rfl⟩))
  go_wp2_with fail
  exact finB (HBZ.out.set _ _ _ _).dr rfl (((((X0.setCell (by simp; omega) _).setCell (by simp; omega) _).setCell (by simp; omega) _).setCell (by simp; omega) _).drew) (fun g0 g1 g2 g3 => by simp [results, Tryd.results21, go_sem, g0, g1, g2, g3]) (fun h => ⟨by rw [HD2.out]; rfl, h⟩)
end Go.Proofs.YtdklhgfkaablbaaDoor
