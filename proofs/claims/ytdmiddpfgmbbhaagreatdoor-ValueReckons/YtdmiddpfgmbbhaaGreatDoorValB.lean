/-
  The contracts of package value's and the document's Num, Text, Bool and Normal.
-/
import Derived.Test.YtdmiddpfgmbbhaaGreatDoorValA
namespace Go.Proofs.YtdmiddpfgmbbhaaGreatDoor
open Go.RowKit
set_option maxHeartbeats 1000000

theorem vnum_any (n : Int) (w : World) (hN : Nm w) : Calls Tryz.prog 27 #[.int .i64 n] w fun r w' => r = .returned (mkNum n).dat ∧ Ext w w' := by
  have c := fun W => can_any n W
  have c2 := fun W h => err_any 4 W h
  rw [mkErr_is ⟨by decide, by decide⟩] at c2
  simp only [V.dat] at c2
  cases hc : canB n
  · have H : Hid (mkNum n = .err 4) := by show mkNum n = _; unfold mkNum; rw [hc]; rfl
    rw [hc] at c
    clear hc
    go_enter Tryz.func27, Tryz.ntmps27
    go_wp2_with fail
    refine (c _).mono ?_
    rintro r w1 ⟨rfl, rfl⟩
    go_wp2_with fail
    refine (c2 _ (hN.ext ((Ext.refl _).alloc _))).mono ?_
    rintro r w1 ⟨rfl, E1⟩
    obtain ⟨z, ⟨k0, k1, k2, k3⟩, f0, f1, f2, f3⟩ := keep4 E1
    go_wp2_with fail
    exact fin4 k0 k1 k2 k3 rfl (Nat.le_refl _) (((Ext.refl _).alloc _).trans E1) (fun W g0 g1 g2 g3 => by simp [results, Tryz.results27, go_sem, g0, g1, g2, g3]) (fun W h => ⟨by rw [H.out]; rfl, h⟩)
  · have H : Hid (mkNum n = .num n) := mkNum_is hc
    rw [hc] at c
    clear hc
    go_enter Tryz.func27, Tryz.ntmps27
    go_wp2_with fail
    refine (c _).mono ?_
    rintro r w1 ⟨rfl, rfl⟩
    go_wp2_with fail
    simp [bodyPost, results, Tryz.results27, go_sem]
    exact ⟨by rw [H.out]; rfl, (Ext.refl _).alloc _⟩
theorem rnum_any (n : Int) (w : World) : Calls Tryz.prog 21 #[.int .i64 n] w fun r w' => r = .returned (mkNum n).dat ∧ Ext w w' := by
  have c := fun W => rcan_any n W
  have c2 := fun W => rerr_any 4 W
  rw [mkErr_is ⟨by decide, by decide⟩] at c2
  simp only [V.dat] at c2
  cases hc : canB n
  · have H : Hid (mkNum n = .err 4) := by show mkNum n = _; unfold mkNum; rw [hc]; rfl
    rw [hc] at c
    clear hc
    go_enter Tryz.func21, Tryz.ntmps21
    go_wp2_with fail
    refine (c _).mono ?_
    rintro r w1 ⟨rfl, rfl⟩
    go_wp2_with fail
    refine (c2 _).mono ?_
    rintro r w1 ⟨rfl, E1⟩
    obtain ⟨z, ⟨k0, k1, k2, k3⟩, f0, f1, f2, f3⟩ := keep4 E1
    go_wp2_with fail
    exact fin4 k0 k1 k2 k3 rfl (Nat.le_refl _) (((Ext.refl _).alloc _).trans E1) (fun W g0 g1 g2 g3 => by simp [results, Tryz.results21, go_sem, g0, g1, g2, g3]) (fun W h => ⟨by rw [H.out]; rfl, h⟩)
  · have H : Hid (mkNum n = .num n) := mkNum_is hc
    rw [hc] at c
    clear hc
    go_enter Tryz.func21, Tryz.ntmps21
    go_wp2_with fail
    refine (c _).mono ?_
    rintro r w1 ⟨rfl, rfl⟩
    go_wp2_with fail
    simp [bodyPost, results, Tryz.results21, go_sem]
    exact ⟨by rw [H.out]; rfl, (Ext.refl _).alloc _⟩
theorem vtext_any (s : ByteArray) (w : World) (hN : Nm w) : Calls Tryz.prog 23 #[.string s] w fun r w' => r = .returned (mkText s).dat ∧ Ext w w' := by
  have c2 := fun W h => err_any 2 W h
  rw [mkErr_is ⟨by decide, by decide⟩] at c2
  simp only [V.dat] at c2
  by_cases hs : s.size ≤ 300
  · have H : Hid (mkText s = .text s) := mkText_is hs
    have hd : decide (((s.size : Nat) : Int) > 300) = false := by simp; omega
    go_enter Tryz.func23, Tryz.ntmps23
    go_wp2_with fail
    simp [bodyPost, results, Tryz.results23, go_sem]
    exact ⟨by rw [H.out]; rfl, (Ext.refl _).alloc _⟩
  · have H : Hid (mkText s = .err 2) := by show mkText s = _; unfold mkText; rw [if_neg hs]
    have hd : decide (((s.size : Nat) : Int) > 300) = true := by simp; omega
    have hs' : 300 < s.size := by omega
    clear hs
    go_enter Tryz.func23, Tryz.ntmps23
    go_wp2_with fail
    refine (c2 _ (hN.ext ((Ext.refl _).alloc _))).mono ?_
    rintro r w1 ⟨rfl, E1⟩
    obtain ⟨z, ⟨k0, k1, k2, k3⟩, f0, f1, f2, f3⟩ := keep4 E1
    go_wp2_with fail
    exact fin4 k0 k1 k2 k3 rfl (Nat.le_refl _) (((Ext.refl _).alloc _).trans E1) (fun W g0 g1 g2 g3 => by simp [results, Tryz.results23, go_sem, g0, g1, g2, g3]) (fun W h => ⟨by rw [H.out]; rfl, h⟩)
theorem rtext_any (s : ByteArray) (w : World) : Calls Tryz.prog 25 #[.string s] w fun r w' => r = .returned (mkText s).dat ∧ Ext w w' := by
  have c2 := fun W => rerr_any 2 W
  rw [mkErr_is ⟨by decide, by decide⟩] at c2
  simp only [V.dat] at c2
  by_cases hs : s.size ≤ 300
  · have H : Hid (mkText s = .text s) := mkText_is hs
    have hd : decide (((s.size : Nat) : Int) > 300) = false := by simp; omega
    go_enter Tryz.func25, Tryz.ntmps25
    go_wp2_with fail
    simp [bodyPost, results, Tryz.results25, go_sem]
    exact ⟨by rw [H.out]; rfl, (Ext.refl _).alloc _⟩
  · have H : Hid (mkText s = .err 2) := by show mkText s = _; unfold mkText; rw [if_neg hs]
    have hd : decide (((s.size : Nat) : Int) > 300) = true := by simp; omega
    have hs' : 300 < s.size := by omega
    clear hs
    go_enter Tryz.func25, Tryz.ntmps25
    go_wp2_with fail
    refine (c2 _).mono ?_
    rintro r w1 ⟨rfl, E1⟩
    obtain ⟨z, ⟨k0, k1, k2, k3⟩, f0, f1, f2, f3⟩ := keep4 E1
    go_wp2_with fail
    exact fin4 k0 k1 k2 k3 rfl (Nat.le_refl _) (((Ext.refl _).alloc _).trans E1) (fun W g0 g1 g2 g3 => by simp [results, Tryz.results25, go_sem, g0, g1, g2, g3]) (fun W h => ⟨by rw [H.out]; rfl, h⟩)
theorem vbool_any (b : Bool) (w : World) : Calls Tryz.prog 28 #[.bool b] w fun r w' => r = .returned (V.tf b).dat ∧ Ext w w' := by
  cases b
  all_goals
    go_enter Tryz.func28, Tryz.ntmps28
    go_wp2_with fail
    simp [bodyPost, results, Tryz.results28, go_sem]
    exact ⟨rfl, (Ext.refl _).alloc _⟩
theorem rbool_any (b : Bool) (w : World) : Calls Tryz.prog 26 #[.bool b] w fun r w' => r = .returned (V.tf b).dat ∧ Ext w w' := by
  cases b
  all_goals
    go_enter Tryz.func26, Tryz.ntmps26
    go_wp2_with fail
    simp [bodyPost, results, Tryz.results26, go_sem]
    exact ⟨rfl, (Ext.refl _).alloc _⟩
/-! ### Blocks of four cells -/
def Blk (W : World) (b : Nat) (x0 x1 x2 x3 : Value) : Prop := b < W.heap.size ∧
  (W.cell? ⟨b, 0, none⟩ = some x0 ∧ W.cell? ⟨b, 1, none⟩ = some x1 ∧ W.cell? ⟨b, 2, none⟩ = some x2 ∧ W.cell? ⟨b, 3, none⟩ = some x3) ∧
  (W.frozen? ⟨b, 0, none⟩ = false ∧ W.frozen? ⟨b, 1, none⟩ = false ∧ W.frozen? ⟨b, 2, none⟩ = false ∧ W.frozen? ⟨b, 3, none⟩ = false)
theorem blk_top {w w1 : World} {x0 x1 x2 x3 : Value} {T : TypeId} {b : Nat} (hb : b = w.heap.size) (E : Ext (w.alloc (.cells #[x0, x1, x2, x3] T)) w1) : Blk w1 b x0 x1 x2 x3 := by subst hb; exact keep4 E
theorem Blk.ext {w w' : World} {b : Nat} {x0 x1 x2 x3 : Value} (h : Blk w b x0 x1 x2 x3) (e : Ext w w') : Blk w' b x0 x1 x2 x3 := by
  obtain ⟨z, ⟨k0, k1, k2, k3⟩, f0, f1, f2, f3⟩ := h
  have k := fun o => e.cell.1 b o z
  have f := fun o => e.cell.2 b o z
  exact ⟨Nat.lt_of_lt_of_le z e.sz, ⟨(k 0).trans k0, (k 1).trans k1, (k 2).trans k2, (k 3).trans k3⟩, (f 0).trans f0, (f 1).trans f1, (f 2).trans f2, (f 3).trans f3⟩
theorem Blk.far1 {w : World} {b c : Nat} {x0 x1 x2 x3 : Value} (h : Blk w b x0 x1 x2 x3) (hc : c ≠ b) (o : Nat) (v : Value) : Blk (w.setCell ⟨c, o, none⟩ v) b x0 x1 x2 x3 := by
  obtain ⟨z, ⟨k0, k1, k2, k3⟩, f0, f1, f2, f3⟩ := h
  refine ⟨by simpa [World.setCell] using z, ⟨?_, ?_, ?_, ?_⟩, ?_, ?_, ?_, ?_⟩
  · rw [World.cell?_setCell_far _ _ _ _ hc]; exact k0
  · rw [World.cell?_setCell_far _ _ _ _ hc]; exact k1
  · rw [World.cell?_setCell_far _ _ _ _ hc]; exact k2
  · rw [World.cell?_setCell_far _ _ _ _ hc]; exact k3
  · rw [World.frozen?_setCell]; exact f0
  · rw [World.frozen?_setCell]; exact f1
  · rw [World.frozen?_setCell]; exact f2
  · rw [World.frozen?_setCell]; exact f3
theorem Blk.far {w : World} {b c : Nat} {x0 x1 x2 x3 : Value} (h : Blk w b x0 x1 x2 x3) (hc : c ≠ b) (y0 y1 y2 y3 : Value) :
    Blk ((((w.setCell ⟨c, 0, none⟩ y0).setCell ⟨c, 1, none⟩ y1).setCell ⟨c, 2, none⟩ y2).setCell ⟨c, 3, none⟩ y3) b x0 x1 x2 x3 := (((h.far1 hc _ _).far1 hc _ _).far1 hc _ _).far1 hc _ _
theorem Blk.set {w1 : World} {b : Nat} {o0 o1 o2 o3 : Value} (h : Blk w1 b o0 o1 o2 o3) (x0 x1 x2 x3 : Value) :
    Blk ((((w1.setCell ⟨b, 0, none⟩ x0).setCell ⟨b, 1, none⟩ x1).setCell ⟨b, 2, none⟩ x2).setCell ⟨b, 3, none⟩ x3) b x0 x1 x2 x3 := by
  obtain ⟨z, ⟨k0, k1, k2, k3⟩, f0, f1, f2, f3⟩ := h
  have e0 := World.cell?_setCell_same w1 ⟨b, 0, none⟩ x0 (by rw [k0])
  have j1 : (w1.setCell ⟨b, 0, none⟩ x0).cell? ⟨b, 1, none⟩ = some o1 := by rw [World.cell?_setCell_other _ _ _ _ (by simp)]; exact k1
  have e1 := World.cell?_setCell_same _ ⟨b, 1, none⟩ x1 (by rw [j1])
  have j2 : ((w1.setCell ⟨b, 0, none⟩ x0).setCell ⟨b, 1, none⟩ x1).cell? ⟨b, 2, none⟩ = some o2 := by rw [World.cell?_setCell_other _ _ _ _ (by simp), World.cell?_setCell_other _ _ _ _ (by simp)]; exact k2
  have e2 := World.cell?_setCell_same _ ⟨b, 2, none⟩ x2 (by rw [j2])
  have j3 : (((w1.setCell ⟨b, 0, none⟩ x0).setCell ⟨b, 1, none⟩ x1).setCell ⟨b, 2, none⟩ x2).cell? ⟨b, 3, none⟩ = some o3 := by
    rw [World.cell?_setCell_other _ _ _ _ (by simp), World.cell?_setCell_other _ _ _ _ (by simp), World.cell?_setCell_other _ _ _ _ (by simp)]; exact k3
  have e3 := World.cell?_setCell_same _ ⟨b, 3, none⟩ x3 (by rw [j3])
  refine ⟨by simpa [World.setCell] using z, ⟨?_, ?_, ?_, e3⟩, ?_, ?_, ?_, ?_⟩
  · rw [World.cell?_setCell_other _ _ _ _ (by simp), World.cell?_setCell_other _ _ _ _ (by simp), World.cell?_setCell_other _ _ _ _ (by simp)]; exact e0
  · rw [World.cell?_setCell_other _ _ _ _ (by simp), World.cell?_setCell_other _ _ _ _ (by simp)]; exact e1
  · rw [World.cell?_setCell_other _ _ _ _ (by simp)]; exact e2
  · simp only [World.frozen?_setCell]; exact f0
  · simp only [World.frozen?_setCell]; exact f1
  · simp only [World.frozen?_setCell]; exact f2
  · simp only [World.frozen?_setCell]; exact f3
theorem Blk.dr {w : World} {b : Nat} {x0 x1 x2 x3 : Value} (h : Blk w b x0 x1 x2 x3) : Blk w.drew b x0 x1 x2 x3 := h.ext (Ext.drew (Ext.refl _))
theorem Blk.al {w : World} {b : Nat} {x0 x1 x2 x3 : Value} (o : Obj) (h : Blk w b x0 x1 x2 x3) : Blk (w.alloc o) b x0 x1 x2 x3 := h.ext (Ext.alloc (Ext.refl _) _)
/-- The end of a function whose result lies in a block of its own. -/
theorem finB {fn : Func} {Q : Ending → World → Prop} {a : Act} {w W : World} {b : Nat} {x0 x1 x2 x3 : Value}
    (B : Blk W b x0 x1 x2 x3) (hd : a.defers = []) (E : Ext w W)
    (hr : W.cell? ⟨b, 0, none⟩ = some x0 → W.cell? ⟨b, 1, none⟩ = some x1 → W.cell? ⟨b, 2, none⟩ = some x2 → W.cell? ⟨b, 3, none⟩ = some x3 → (results fn a.tmps).run Tryz.prog W = .ok (.agg #[x0, x1, x2, x3]) W)
    (hQ : Ext w W → Q (.returned (.agg #[x0, x1, x2, x3])) W) : bodyPost Tryz.prog fn Q .ret a W :=
  bodyPost_ret (hr B.2.1.1 B.2.1.2.1 B.2.1.2.2.1 B.2.1.2.2.2) hd (hQ E)
theorem finBb (t : Bool) {fn : Func} {Q : Ending → World → Prop} {a : Act} {w W : World} {b : Nat} {x0 x1 x2 x3 : Value}
    (B : Blk W b x0 x1 x2 x3) (hd : a.defers = []) (E : Ext w W)
    (hr : W.cell? ⟨b, 0, none⟩ = some x0 → W.cell? ⟨b, 1, none⟩ = some x1 → W.cell? ⟨b, 2, none⟩ = some x2 → W.cell? ⟨b, 3, none⟩ = some x3 → (results fn a.tmps).run Tryz.prog W = .ok (.tuple #[.agg #[x0, x1, x2, x3], .bool t]) W)
    (hQ : Ext w W → Q (.returned (.tuple #[.agg #[x0, x1, x2, x3], .bool t])) W) : bodyPost Tryz.prog fn Q .ret a W :=
  bodyPost_ret (hr B.2.1.1 B.2.1.2.1 B.2.1.2.2.1 B.2.1.2.2.2) hd (hQ E)
theorem finBi (i : Int) {fn : Func} {Q : Ending → World → Prop} {a : Act} {w W : World} {b : Nat} {x0 x1 x2 x3 : Value}
    (B : Blk W b x0 x1 x2 x3) (hd : a.defers = []) (E : Ext w W)
    (hr : W.cell? ⟨b, 0, none⟩ = some x0 → W.cell? ⟨b, 1, none⟩ = some x1 → W.cell? ⟨b, 2, none⟩ = some x2 → W.cell? ⟨b, 3, none⟩ = some x3 → (results fn a.tmps).run Tryz.prog W = .ok (.tuple #[.int .i64 i, .agg #[x0, x1, x2, x3]]) W)
    (hQ : Ext w W → Q (.returned (.tuple #[.int .i64 i, .agg #[x0, x1, x2, x3]])) W) : bodyPost Tryz.prog fn Q .ret a W :=
  bodyPost_ret (hr B.2.1.1 B.2.1.2.1 B.2.1.2.2.1 B.2.1.2.2.2) hd (hQ E)
/-- A value as a struct of four fields. -/
theorem dat4 (v : V) : ∃ (k n : Int) (s : ByteArray) (e : Int), v.dat = .agg #[.int .i64 k, .int .i64 n, .string s, .int .i64 e] := by
  cases v <;> exact ⟨_, _, _, _, rfl⟩
end Go.Proofs.YtdmiddpfgmbbhaaGreatDoor
