/-
  ValueCompares is proved: for any two values the call returns true and the arguments read as they did. Its condition: the errors' names lie as the program's text lays them (the card ties them).
-/
import Derived.Test.YtlfkiepnahgbeaaDoorValCmp
import Derived.Test.YtlfkiepnahgbeaaDoorValRC
import Derived.Test.YtlfkiepnahgbeaaDoorValG
import Derived.Test.YtlfkiepnahgbeaaDoorLaid4N
import Derived.Test.YtlfkiepnahgbeaaDoorCards
import Derived.Test.YtlfkiepnahgbeaaDoorTie
import Derived.ChangeMaps5
import Derived.Lib.SmallJoins
import Derived.Deep.DeepCutAuto
namespace Go.Proofs.YtlfkiepnahgbeaaDoor.valueCompares
open Go.ChangeShapes Go.WideShapes Go.ChangeAt Go.RowKit
open Go.ChangeMaps (open_string shut_string)
open Go.Joins
set_option maxHeartbeats 1000000

theorem ord_anti (a b : V) : ord b a = -ord a b := by
  cases a <;> cases b <;> first | exact sg3_anti _ _ | exact cb_anti _ _
theorem ord_range (a b : V) : ord a b = -1 ∨ ord a b = 0 ∨ ord a b = 1 := by
  cases a <;> cases b <;> first | exact cb_range _ _ | (simp only [ord]; unfold sg3; split <;> (try split) <;> simp)
/-- Both turned about. -/
theorem cmp_turn (a b : V) : (cmpV a b = 0 ∧ cmpV b a = 0 ∧ (cmpE a b).k = 4 ∧ (cmpE b a).k = 4) ∨ (cmpE a b = .blank ∧ cmpE b a = .blank ∧ cmpV b a = -cmpV a b ∧ (cmpV a b = -1 ∨ cmpV a b = 0 ∨ cmpV a b = 1)) := by
  by_cases ha : a.k = 4
  · left
    refine ⟨(cmp_ea b ha).1, ?_, by rw [(cmp_ea b ha).2]; exact ha, ?_⟩
    · by_cases hb : b.k = 4
      · exact (cmp_ea a hb).1
      · exact (cmp_eb hb ha).1
    · by_cases hb : b.k = 4
      · rw [(cmp_ea a hb).2]; exact hb
      · rw [(cmp_eb hb ha).2]; exact ha
  · by_cases hb : b.k = 4
    · left
      exact ⟨(cmp_eb ha hb).1, (cmp_ea a hb).1, by rw [(cmp_eb ha hb).2]; exact hb, by rw [(cmp_ea a hb).2]; exact hb⟩
    · right
      have h1 : cmpV a b = ord (asBy b a) (asBy a b) := by cases a <;> cases b <;> first | rfl | exact absurd rfl ha | exact absurd rfl hb
      have h2 : cmpV b a = ord (asBy a b) (asBy b a) := by cases a <;> cases b <;> first | rfl | exact absurd rfl ha | exact absurd rfl hb
      rw [h1, h2]
      exact ⟨(cmp_n ha hb).1, (cmp_n hb ha).1, ord_anti _ _, ord_range _ _⟩
set_option maxRecDepth 100000 in
theorem way (k0 n0 : Int) (s0 : ByteArray) (e0 k1 n1 : Int) (s1 : ByteArray) (e1 : Int) (w : World) (hN : Nm w) (I K xk xn : Int) (xs : ByteArray) (xe zk zn : Int) (zs : ByteArray) (ze : Int)
    (hc : (I = 0 ∧ K = 0 ∧ xk = 4 ∧ zk = 4) ∨ (((I = -1 ∧ K = 1) ∨ (I = 0 ∧ K = 0) ∨ (I = 1 ∧ K = -1)) ∧ xk = 0 ∧ zk = 0 ∧ zn = 0 ∧ zs = ⟨#[]⟩ ∧ ze = 0))
    (c1 : ∀ W, Nm W → Calls Tryd.prog 18 #[.agg #[.int .i64 k0, .int .i64 n0, .string s0, .int .i64 e0], .agg #[.int .i64 k1, .int .i64 n1, .string s1, .int .i64 e1]] W fun r w' => r = .returned (.tuple #[.int .i64 I, .agg #[.int .i64 xk, .int .i64 xn, .string xs, .int .i64 xe]]) ∧ Ext W w')
    (c2 : ∀ W, Calls Tryd.prog 19 #[.agg #[.int .i64 k0, .int .i64 n0, .string s0, .int .i64 e0], .agg #[.int .i64 k1, .int .i64 n1, .string s1, .int .i64 e1]] W fun r w' => r = .returned (.tuple #[.int .i64 I, .agg #[.int .i64 xk, .int .i64 xn, .string xs, .int .i64 xe]]) ∧ Ext W w')
    (c3 : ∀ W, Nm W → Calls Tryd.prog 18 #[.agg #[.int .i64 k1, .int .i64 n1, .string s1, .int .i64 e1], .agg #[.int .i64 k0, .int .i64 n0, .string s0, .int .i64 e0]] W fun r w' => r = .returned (.tuple #[.int .i64 K, .agg #[.int .i64 zk, .int .i64 zn, .string zs, .int .i64 ze]]) ∧ Ext W w') :
    Calls Tryd.prog 4 #[.agg #[.int .i64 k0, .int .i64 n0, .string s0, .int .i64 e0], .agg #[.int .i64 k1, .int .i64 n1, .string s1, .int .i64 e1]] w fun e w' => e = .returned (.bool true) ∧ Ext w w' := by
  have cl := fun W h => lives_v W h
  have hc' : (I = 0 ∧ K = 0 ∧ xk = 4 ∧ zk = 4) ∨ (I = -1 ∧ K = 1 ∧ xk = 0 ∧ zk = 0 ∧ zn = 0 ∧ zs = ⟨#[]⟩ ∧ ze = 0) ∨ (I = 0 ∧ K = 0 ∧ xk = 0 ∧ zk = 0 ∧ zn = 0 ∧ zs = ⟨#[]⟩ ∧ ze = 0) ∨ (I = 1 ∧ K = -1 ∧ xk = 0 ∧ zk = 0 ∧ zn = 0 ∧ zs = ⟨#[]⟩ ∧ ze = 0) := by
    rcases hc with h | ⟨⟨h1, h2⟩ | ⟨h1, h2⟩ | ⟨h1, h2⟩, h⟩
    · exact .inl h
    · exact .inr (.inl ⟨h1, h2, h⟩)
    · exact .inr (.inr (.inl ⟨h1, h2, h⟩))
    · exact .inr (.inr (.inr ⟨h1, h2, h⟩))
  clear hc
  rcases hc' with ⟨rfl, rfl, rfl, rfl⟩ | ⟨rfl, rfl, rfl, rfl, rfl, rfl, rfl⟩ | ⟨rfl, rfl, rfl, rfl, rfl, rfl, rfl⟩ | ⟨rfl, rfl, rfl, rfl, rfl, rfl, rfl⟩
  · go_enter Tryd.func4, Tryd.ntmps4
    go_wp2_with fail
    refine (c1 _ (hN.ext (((Ext.refl _).alloc _).alloc _))).mono ?_
    rintro r w1 ⟨rfl, E1⟩
    have X1 : Ext w w1 := (((Ext.refl _).alloc _).alloc _).trans E1
    obtain ⟨b1z, ⟨b1_0, b1_1, b1_2, b1_3⟩, _⟩ := blk_top (b := w.heap.size + 1) (by simp) E1
    obtain ⟨a1z, ⟨a1_0, a1_1, a1_2, a1_3⟩, _⟩ := blk_top (b := w.heap.size) rfl (((Ext.refl _).alloc _).trans E1)
    have PA := blk_top (b := w.heap.size) rfl (((Ext.refl _).alloc _).trans E1)
    have PB := blk_top (b := w.heap.size + 1) (by simp) E1
    go_wp2_with fail
    refine (c2 _).mono ?_
    rintro r w2 ⟨rfl, E2⟩
    have X2 : Ext w w2 := (X1.alloc _).trans E2
    have BX := blk_top (b := w1.heap.size) rfl E2
    have PA2 := (PA.al _).ext E2
    have PB2 := (PB.al _).ext E2
    clear PA PB a1z a1_0 a1_1 a1_2 a1_3 b1z b1_0 b1_1 b1_2 b1_3
    have PA3 := PA2
    have PB3 := PB2
    obtain ⟨a2z, ⟨a2_0, a2_1, a2_2, a2_3⟩, _⟩ := PA3
    obtain ⟨b2z, ⟨b2_0, b2_1, b2_2, b2_3⟩, _⟩ := PB3
    go_wp2_with fail
    refine (c3 _ (hN.ext (X2.alloc _))).mono ?_
    rintro r w3 ⟨rfl, E3⟩
    have X3 : Ext w w3 := (X2.alloc _).trans E3
    have BX3 := (BX.al _).ext E3
    have BY3 := blk_top (b := w2.heap.size) rfl E3
    clear E1 E2 X1 X2 BX PA2 PB2 a2z a2_0 a2_1 a2_2 a2_3 b2z b2_0 b2_1 b2_2 b2_3 c1 c2 c3
    go_upto_region 4 with fail
    obtain ⟨W0, hW0⟩ : ∃ W0, W0 = w3.alloc (.cells #[.int .i64 4, .int .i64 zn, .string zs, .int .i64 ze] 23) := ⟨_, rfl⟩
    rw [← hW0]
    have XW : Ext w W0 := by rw [hW0]; exact X3.alloc _
    have NX : Blk W0 w1.heap.size (.int .i64 4) (.int .i64 xn) (.string xs) (.int .i64 xe) := by rw [hW0]; exact BX3.al _
    have NY : Blk W0 w2.heap.size (.int .i64 4) (.int .i64 xn) (.string xs) (.int .i64 xe) := by rw [hW0]; exact BY3.al _
    have NZ : Blk W0 w3.heap.size (.int .i64 4) (.int .i64 zn) (.string zs) (.int .i64 ze) := blk_top rfl (by rw [hW0]; exact Ext.refl _)
    clear hW0 E3 X3 BX3 BY3
    generalize w1.heap.size = bx at *
    generalize w2.heap.size = bY at *
    generalize w3.heap.size = bz at *
    have mkS : Hid (∀ W, Ext W0 W → (W.cell? ⟨bx, 0, none⟩ = some (.int .i64 4) ∧ W.cell? ⟨bx, 1, none⟩ = some (.int .i64 xn) ∧ W.cell? ⟨bx, 2, none⟩ = some (.string xs) ∧ W.cell? ⟨bx, 3, none⟩ = some (.int .i64 xe)) ∧ (W.cell? ⟨bY, 0, none⟩ = some (.int .i64 4) ∧ W.cell? ⟨bY, 1, none⟩ = some (.int .i64 xn) ∧ W.cell? ⟨bY, 2, none⟩ = some (.string xs) ∧ W.cell? ⟨bY, 3, none⟩ = some (.int .i64 xe)) ∧ (W.cell? ⟨bz, 0, none⟩ = some (.int .i64 4) ∧ W.cell? ⟨bz, 1, none⟩ = some (.int .i64 zn) ∧ W.cell? ⟨bz, 2, none⟩ = some (.string zs) ∧ W.cell? ⟨bz, 3, none⟩ = some (.int .i64 ze)) ∧ Ext W0 W) := by
      show ∀ W, _
      intro W h
      exact ⟨(NX.ext h).2.1, (NY.ext h).2.1, (NZ.ext h).2.1, h⟩
    clear NX NY NZ
    have dl := fun W (g : Ext W0 W) => cl W (hN.ext (XW.trans g))
    clear cl
    obtain ⟨⟨x0, x1, x2, x3⟩, ⟨y0, y1, y2, y3⟩, ⟨z0, z1, z2, z3⟩, _⟩ := mkS.out W0 (Ext.refl _)
    clear mkS
    go_wp2_with fail
    refine (dl _ (Ext.refl _)).mono ?_
    rintro e y ⟨rfl, Ey⟩
    go_wp2_with fail
    go_ret
    exact ⟨ret_bool rfl, XW.trans Ey⟩
  · go_enter Tryd.func4, Tryd.ntmps4
    go_wp2_with fail
    refine (c1 _ (hN.ext (((Ext.refl _).alloc _).alloc _))).mono ?_
    rintro r w1 ⟨rfl, E1⟩
    have X1 : Ext w w1 := (((Ext.refl _).alloc _).alloc _).trans E1
    obtain ⟨b1z, ⟨b1_0, b1_1, b1_2, b1_3⟩, _⟩ := blk_top (b := w.heap.size + 1) (by simp) E1
    obtain ⟨a1z, ⟨a1_0, a1_1, a1_2, a1_3⟩, _⟩ := blk_top (b := w.heap.size) rfl (((Ext.refl _).alloc _).trans E1)
    have PA := blk_top (b := w.heap.size) rfl (((Ext.refl _).alloc _).trans E1)
    have PB := blk_top (b := w.heap.size + 1) (by simp) E1
    go_wp2_with fail
    refine (c2 _).mono ?_
    rintro r w2 ⟨rfl, E2⟩
    have X2 : Ext w w2 := (X1.alloc _).trans E2
    have BX := blk_top (b := w1.heap.size) rfl E2
    have PA2 := (PA.al _).ext E2
    have PB2 := (PB.al _).ext E2
    clear PA PB a1z a1_0 a1_1 a1_2 a1_3 b1z b1_0 b1_1 b1_2 b1_3
    have PA3 := PA2
    have PB3 := PB2
    obtain ⟨a2z, ⟨a2_0, a2_1, a2_2, a2_3⟩, _⟩ := PA3
    obtain ⟨b2z, ⟨b2_0, b2_1, b2_2, b2_3⟩, _⟩ := PB3
    go_wp2_with fail
    refine (c3 _ (hN.ext (X2.alloc _))).mono ?_
    rintro r w3 ⟨rfl, E3⟩
    have X3 : Ext w w3 := (X2.alloc _).trans E3
    have BX3 := (BX.al _).ext E3
    have BY3 := blk_top (b := w2.heap.size) rfl E3
    clear E1 E2 X1 X2 BX PA2 PB2 a2z a2_0 a2_1 a2_2 a2_3 b2z b2_0 b2_1 b2_2 b2_3 c1 c2 c3
    go_upto_region 4 with fail
    obtain ⟨W0, hW0⟩ : ∃ W0, W0 = w3.alloc (.cells #[.int .i64 0, .int .i64 0, .string ⟨#[]⟩, .int .i64 0] 23) := ⟨_, rfl⟩
    rw [← hW0]
    have XW : Ext w W0 := by rw [hW0]; exact X3.alloc _
    have NX : Blk W0 w1.heap.size (.int .i64 0) (.int .i64 xn) (.string xs) (.int .i64 xe) := by rw [hW0]; exact BX3.al _
    have NY : Blk W0 w2.heap.size (.int .i64 0) (.int .i64 xn) (.string xs) (.int .i64 xe) := by rw [hW0]; exact BY3.al _
    have NZ : Blk W0 w3.heap.size (.int .i64 0) (.int .i64 0) (.string ⟨#[]⟩) (.int .i64 0) := blk_top rfl (by rw [hW0]; exact Ext.refl _)
    clear hW0 E3 X3 BX3 BY3
    generalize w1.heap.size = bx at *
    generalize w2.heap.size = bY at *
    generalize w3.heap.size = bz at *
    have mkS : Hid (∀ W, Ext W0 W → (W.cell? ⟨bx, 0, none⟩ = some (.int .i64 0) ∧ W.cell? ⟨bx, 1, none⟩ = some (.int .i64 xn) ∧ W.cell? ⟨bx, 2, none⟩ = some (.string xs) ∧ W.cell? ⟨bx, 3, none⟩ = some (.int .i64 xe)) ∧ (W.cell? ⟨bY, 0, none⟩ = some (.int .i64 0) ∧ W.cell? ⟨bY, 1, none⟩ = some (.int .i64 xn) ∧ W.cell? ⟨bY, 2, none⟩ = some (.string xs) ∧ W.cell? ⟨bY, 3, none⟩ = some (.int .i64 xe)) ∧ (W.cell? ⟨bz, 0, none⟩ = some (.int .i64 0) ∧ W.cell? ⟨bz, 1, none⟩ = some (.int .i64 0) ∧ W.cell? ⟨bz, 2, none⟩ = some (.string ⟨#[]⟩) ∧ W.cell? ⟨bz, 3, none⟩ = some (.int .i64 0)) ∧ Ext W0 W) := by
      show ∀ W, _
      intro W h
      exact ⟨(NX.ext h).2.1, (NY.ext h).2.1, (NZ.ext h).2.1, h⟩
    clear NX NY NZ
    have dl := fun W (g : Ext W0 W) => cl W (hN.ext (XW.trans g))
    clear cl
    obtain ⟨⟨x0, x1, x2, x3⟩, ⟨y0, y1, y2, y3⟩, ⟨z0, z1, z2, z3⟩, _⟩ := mkS.out W0 (Ext.refl _)
    clear mkS
    go_wp2_with fail
    refine (dl _ (Ext.refl _)).mono ?_
    rintro e y ⟨rfl, Ey⟩
    go_wp2_with fail
    go_ret
    exact ⟨ret_bool rfl, XW.trans Ey⟩
  · go_enter Tryd.func4, Tryd.ntmps4
    go_wp2_with fail
    refine (c1 _ (hN.ext (((Ext.refl _).alloc _).alloc _))).mono ?_
    rintro r w1 ⟨rfl, E1⟩
    have X1 : Ext w w1 := (((Ext.refl _).alloc _).alloc _).trans E1
    obtain ⟨b1z, ⟨b1_0, b1_1, b1_2, b1_3⟩, _⟩ := blk_top (b := w.heap.size + 1) (by simp) E1
    obtain ⟨a1z, ⟨a1_0, a1_1, a1_2, a1_3⟩, _⟩ := blk_top (b := w.heap.size) rfl (((Ext.refl _).alloc _).trans E1)
    have PA := blk_top (b := w.heap.size) rfl (((Ext.refl _).alloc _).trans E1)
    have PB := blk_top (b := w.heap.size + 1) (by simp) E1
    go_wp2_with fail
    refine (c2 _).mono ?_
    rintro r w2 ⟨rfl, E2⟩
    have X2 : Ext w w2 := (X1.alloc _).trans E2
    have BX := blk_top (b := w1.heap.size) rfl E2
    have PA2 := (PA.al _).ext E2
    have PB2 := (PB.al _).ext E2
    clear PA PB a1z a1_0 a1_1 a1_2 a1_3 b1z b1_0 b1_1 b1_2 b1_3
    have PA3 := PA2
    have PB3 := PB2
    obtain ⟨a2z, ⟨a2_0, a2_1, a2_2, a2_3⟩, _⟩ := PA3
    obtain ⟨b2z, ⟨b2_0, b2_1, b2_2, b2_3⟩, _⟩ := PB3
    go_wp2_with fail
    refine (c3 _ (hN.ext (X2.alloc _))).mono ?_
    rintro r w3 ⟨rfl, E3⟩
    have X3 : Ext w w3 := (X2.alloc _).trans E3
    have BX3 := (BX.al _).ext E3
    have BY3 := blk_top (b := w2.heap.size) rfl E3
    clear E1 E2 X1 X2 BX PA2 PB2 a2z a2_0 a2_1 a2_2 a2_3 b2z b2_0 b2_1 b2_2 b2_3 c1 c2 c3
    go_upto_region 4 with fail
    obtain ⟨W0, hW0⟩ : ∃ W0, W0 = w3.alloc (.cells #[.int .i64 0, .int .i64 0, .string ⟨#[]⟩, .int .i64 0] 23) := ⟨_, rfl⟩
    rw [← hW0]
    have XW : Ext w W0 := by rw [hW0]; exact X3.alloc _
    have NX : Blk W0 w1.heap.size (.int .i64 0) (.int .i64 xn) (.string xs) (.int .i64 xe) := by rw [hW0]; exact BX3.al _
    have NY : Blk W0 w2.heap.size (.int .i64 0) (.int .i64 xn) (.string xs) (.int .i64 xe) := by rw [hW0]; exact BY3.al _
    have NZ : Blk W0 w3.heap.size (.int .i64 0) (.int .i64 0) (.string ⟨#[]⟩) (.int .i64 0) := blk_top rfl (by rw [hW0]; exact Ext.refl _)
    clear hW0 E3 X3 BX3 BY3
    generalize w1.heap.size = bx at *
    generalize w2.heap.size = bY at *
    generalize w3.heap.size = bz at *
    have mkS : Hid (∀ W, Ext W0 W → (W.cell? ⟨bx, 0, none⟩ = some (.int .i64 0) ∧ W.cell? ⟨bx, 1, none⟩ = some (.int .i64 xn) ∧ W.cell? ⟨bx, 2, none⟩ = some (.string xs) ∧ W.cell? ⟨bx, 3, none⟩ = some (.int .i64 xe)) ∧ (W.cell? ⟨bY, 0, none⟩ = some (.int .i64 0) ∧ W.cell? ⟨bY, 1, none⟩ = some (.int .i64 xn) ∧ W.cell? ⟨bY, 2, none⟩ = some (.string xs) ∧ W.cell? ⟨bY, 3, none⟩ = some (.int .i64 xe)) ∧ (W.cell? ⟨bz, 0, none⟩ = some (.int .i64 0) ∧ W.cell? ⟨bz, 1, none⟩ = some (.int .i64 0) ∧ W.cell? ⟨bz, 2, none⟩ = some (.string ⟨#[]⟩) ∧ W.cell? ⟨bz, 3, none⟩ = some (.int .i64 0)) ∧ Ext W0 W) := by
      show ∀ W, _
      intro W h
      exact ⟨(NX.ext h).2.1, (NY.ext h).2.1, (NZ.ext h).2.1, h⟩
    clear NX NY NZ
    have dl := fun W (g : Ext W0 W) => cl W (hN.ext (XW.trans g))
    clear cl
    obtain ⟨⟨x0, x1, x2, x3⟩, ⟨y0, y1, y2, y3⟩, ⟨z0, z1, z2, z3⟩, _⟩ := mkS.out W0 (Ext.refl _)
    clear mkS
    go_wp2_with fail
    refine (dl _ (Ext.refl _)).mono ?_
    rintro e y ⟨rfl, Ey⟩
    go_wp2_with fail
    go_ret
    exact ⟨ret_bool rfl, XW.trans Ey⟩
  · go_enter Tryd.func4, Tryd.ntmps4
    go_wp2_with fail
    refine (c1 _ (hN.ext (((Ext.refl _).alloc _).alloc _))).mono ?_
    rintro r w1 ⟨rfl, E1⟩
    have X1 : Ext w w1 := (((Ext.refl _).alloc _).alloc _).trans E1
    obtain ⟨b1z, ⟨b1_0, b1_1, b1_2, b1_3⟩, _⟩ := blk_top (b := w.heap.size + 1) (by simp) E1
    obtain ⟨a1z, ⟨a1_0, a1_1, a1_2, a1_3⟩, _⟩ := blk_top (b := w.heap.size) rfl (((Ext.refl _).alloc _).trans E1)
    have PA := blk_top (b := w.heap.size) rfl (((Ext.refl _).alloc _).trans E1)
    have PB := blk_top (b := w.heap.size + 1) (by simp) E1
    go_wp2_with fail
    refine (c2 _).mono ?_
    rintro r w2 ⟨rfl, E2⟩
    have X2 : Ext w w2 := (X1.alloc _).trans E2
    have BX := blk_top (b := w1.heap.size) rfl E2
    have PA2 := (PA.al _).ext E2
    have PB2 := (PB.al _).ext E2
    clear PA PB a1z a1_0 a1_1 a1_2 a1_3 b1z b1_0 b1_1 b1_2 b1_3
    have PA3 := PA2
    have PB3 := PB2
    obtain ⟨a2z, ⟨a2_0, a2_1, a2_2, a2_3⟩, _⟩ := PA3
    obtain ⟨b2z, ⟨b2_0, b2_1, b2_2, b2_3⟩, _⟩ := PB3
    go_wp2_with fail
    refine (c3 _ (hN.ext (X2.alloc _))).mono ?_
    rintro r w3 ⟨rfl, E3⟩
    have X3 : Ext w w3 := (X2.alloc _).trans E3
    have BX3 := (BX.al _).ext E3
    have BY3 := blk_top (b := w2.heap.size) rfl E3
    clear E1 E2 X1 X2 BX PA2 PB2 a2z a2_0 a2_1 a2_2 a2_3 b2z b2_0 b2_1 b2_2 b2_3 c1 c2 c3
    go_upto_region 4 with fail
    obtain ⟨W0, hW0⟩ : ∃ W0, W0 = w3.alloc (.cells #[.int .i64 0, .int .i64 0, .string ⟨#[]⟩, .int .i64 0] 23) := ⟨_, rfl⟩
    rw [← hW0]
    have XW : Ext w W0 := by rw [hW0]; exact X3.alloc _
    have NX : Blk W0 w1.heap.size (.int .i64 0) (.int .i64 xn) (.string xs) (.int .i64 xe) := by rw [hW0]; exact BX3.al _
    have NY : Blk W0 w2.heap.size (.int .i64 0) (.int .i64 xn) (.string xs) (.int .i64 xe) := by rw [hW0]; exact BY3.al _
    have NZ : Blk W0 w3.heap.size (.int .i64 0) (.int .i64 0) (.string ⟨#[]⟩) (.int .i64 0) := blk_top rfl (by rw [hW0]; exact Ext.refl _)
    clear hW0 E3 X3 BX3 BY3
    generalize w1.heap.size = bx at *
    generalize w2.heap.size = bY at *
    generalize w3.heap.size = bz at *
    have mkS : Hid (∀ W, Ext W0 W → (W.cell? ⟨bx, 0, none⟩ = some (.int .i64 0) ∧ W.cell? ⟨bx, 1, none⟩ = some (.int .i64 xn) ∧ W.cell? ⟨bx, 2, none⟩ = some (.string xs) ∧ W.cell? ⟨bx, 3, none⟩ = some (.int .i64 xe)) ∧ (W.cell? ⟨bY, 0, none⟩ = some (.int .i64 0) ∧ W.cell? ⟨bY, 1, none⟩ = some (.int .i64 xn) ∧ W.cell? ⟨bY, 2, none⟩ = some (.string xs) ∧ W.cell? ⟨bY, 3, none⟩ = some (.int .i64 xe)) ∧ (W.cell? ⟨bz, 0, none⟩ = some (.int .i64 0) ∧ W.cell? ⟨bz, 1, none⟩ = some (.int .i64 0) ∧ W.cell? ⟨bz, 2, none⟩ = some (.string ⟨#[]⟩) ∧ W.cell? ⟨bz, 3, none⟩ = some (.int .i64 0)) ∧ Ext W0 W) := by
      show ∀ W, _
      intro W h
      exact ⟨(NX.ext h).2.1, (NY.ext h).2.1, (NZ.ext h).2.1, h⟩
    clear NX NY NZ
    have dl := fun W (g : Ext W0 W) => cl W (hN.ext (XW.trans g))
    clear cl
    obtain ⟨⟨x0, x1, x2, x3⟩, ⟨y0, y1, y2, y3⟩, ⟨z0, z1, z2, z3⟩, _⟩ := mkS.out W0 (Ext.refl _)
    clear mkS
    go_wp2_with fail
    refine (dl _ (Ext.refl _)).mono ?_
    rintro e y ⟨rfl, Ey⟩
    go_wp2_with fail
    go_ret
    exact ⟨ret_bool rfl, XW.trans Ey⟩
theorem walk (k0 n0 : Int) (s0 : ByteArray) (e0 k1 n1 : Int) (s1 : ByteArray) (e1 : Int) (_ : (Lit.int .i64 k0).wf = true) (wn0 : (Lit.int .i64 n0).wf = true) (_ : s0.size ≤ maxLen) (_ : (Lit.int .i64 e0).wf = true) (_ : (Lit.int .i64 k1).wf = true) (wn1 : (Lit.int .i64 n1).wf = true) (_ : s1.size ≤ maxLen) (_ : (Lit.int .i64 e1).wf = true) (w : World) (hN : Nm w) :
    Calls Tryd.prog 4 #[.agg #[.int .i64 k0, .int .i64 n0, .string s0, .int .i64 e0], .agg #[.int .i64 k1, .int .i64 n1, .string s1, .int .i64 e1]] w fun e w' => e = .returned (.bool true) ∧ Ext w w' := by
  have c1 := fun W h => vcompare_any k0 n0 s0 e0 k1 n1 s1 e1 W h
  have c2 := fun W => rcompare_any k0 n0 s0 e0 k1 n1 s1 e1 W (i64_of_wf wn0) (i64_of_wf wn1)
  have c3 := fun W h => vcompare_any k1 n1 s1 e1 k0 n0 s0 e0 W h
  have ht := cmp_turn (nm k0 n0 s0 e0) (nm k1 n1 s1 e1)
  rw [dat_eq] at c1 c2 c3
  refine way k0 n0 s0 e0 k1 n1 s1 e1 w hN _ _ _ _ _ _ _ _ _ _ ?_ c1 c2 c3
  rcases ht with ⟨h1, h2, h3, h4⟩ | ⟨h1, h2, h3, h4⟩
  · exact .inl ⟨h1, h2, h3, h4⟩
  · refine .inr ⟨?_, by rw [h1]; rfl, by rw [h2]; rfl, by rw [h2]; rfl, by rw [h2]; rfl, by rw [h2]; rfl⟩
    omega

theorem laidOut : laidOutB Tryd.prog = true := by kernel_rfl
theorem cellsVal : Tryd.prog.cellsOf 23 = 4 := by kernel_rfl
set_option maxRecDepth 100000 in
theorem contract (H : Type) (enc : TypeId × Value → H) (W : World) (base : Nat) (args : Array Value) (ds gs : List (DataW H)) (before : List MemPlace)
    (hval0 : ∀ (j : Nat) t v, Tryd.f4.params[j]? = some t → args[j]? = some v → Value.okWide Tryd.prog W .any base t v)
    (hW : DataW.Whole enc Tryd.prog Tryd.f4.params.toList Rows.valueComparesSpec.vars false W args.toList ds gs before) (hL : laidMetH Tryd.prog Rows.valueComparesRow.laid W) :
    Calls Tryd.prog 4 args W fun e W' => ∃ v, e = .returned v ∧ Rows.valueComparesSpec.post enc Tryd.prog Tryd.f4 false true false false W args v W' := by
  have hval := hval0
  have hW' := hW
  obtain ⟨p, q, hA0, hV, rfl, hfz, hnd⟩ := hW
  have hA : DataW.TrodAll enc Tryd.prog W 0 (fun _ => true) true Tryd.f4.params.toList args.toList ds p := hA0
  rw [Tryd.params4] at hA hval
  obtain ⟨v0, vs0, d0, ds0, p0, q0, hargs, rfl, rfl, h0, r0⟩ := trodAll_cons hA
  obtain ⟨v1, vs1, d1, ds1, p1, q1, rfl, rfl, rfl, h1, r1⟩ := trodAll_cons r0
  obtain ⟨rfl, rfl, rfl⟩ := trodAll_nil r1
  obtain rfl : args = #[v0, v1] := by cases args; simp_all
  obtain ⟨rfl, rfl⟩ := trodVars_none hV
  have j0 := h0
  have lt0 : ∀ x ∈ p0, x.block < W.heap.size := by obtain ⟨m, hm⟩ := j0; exact DataW.trod_lt m _ _ _ hm
  obtain ⟨c0, c1, c2, c3, y0, y1, y2, y3, m0, rfl, hd0, hp0, hy0, hy1, hy2, hy3⟩ := open_agg4 Tryd.underlying23 (by kernel_rfl) cellsVal (hval 0 23 v0 rfl rfl) h0
  obtain ⟨k0, f0, _, wk0⟩ := DataW.trod_int Tryd.underlying3 hy0
  obtain ⟨n0, f1, _, wn0⟩ := DataW.trod_int Tryd.underlying2 hy1
  obtain ⟨e0, f3, _, we0⟩ := DataW.trod_int Tryd.underlying3 hy3
  obtain ⟨s0, f2, _, ws0⟩ := DataW.trod_string Tryd.underlying9 hy2
  simp only [List.cons.injEq, and_true] at f0 f1 f2 f3
  obtain rfl := f0
  obtain rfl := f1
  obtain rfl := f2
  obtain rfl := f3
  have j1 := h1
  have lt1 : ∀ x ∈ p1, x.block < W.heap.size := by obtain ⟨m, hm⟩ := j1; exact DataW.trod_lt m _ _ _ hm
  obtain ⟨c0, c1, c2, c3, y0, y1, y2, y3, m1, rfl, hd1, hp1, hy0, hy1, hy2, hy3⟩ := open_agg4 Tryd.underlying23 (by kernel_rfl) cellsVal (hval 1 23 v1 rfl rfl) h1
  obtain ⟨k1, f0, _, wk1⟩ := DataW.trod_int Tryd.underlying3 hy0
  obtain ⟨n1, f1, _, wn1⟩ := DataW.trod_int Tryd.underlying2 hy1
  obtain ⟨e1, f3, _, we1⟩ := DataW.trod_int Tryd.underlying3 hy3
  obtain ⟨s1, f2, _, ws1⟩ := DataW.trod_string Tryd.underlying9 hy2
  simp only [List.cons.injEq, and_true] at f0 f1 f2 f3
  obtain rfl := f0
  obtain rfl := f1
  obtain rfl := f2
  obtain rfl := f3
  clear hA0 hval0
  refine (walk k0 n0 s0 e0 k1 n1 s1 e1 wk0 wn0 ws0 we0 wk1 wn1 ws1 we1 W (nm_ofN hL)).mono fun e W' ⟨he, bel⟩ => ?_
  subst he
  exact ⟨_, rfl, _, _, _, [], _, [], hW', trodAll_mk1 (shut_bool Tryd.underlying4 _), (trodAll_cons_mk (Below.trod laidOut (by kernel_rfl) (of_decide_eq_true (by kernel_rfl)) j0 bel lt0) (trodAll_cons_mk (Below.trod laidOut (by kernel_rfl) (of_decide_eq_true (by kernel_rfl)) j1 bel lt1) trodAll_mk0)), rfl, Below.frame bel _, fun h => by cases h⟩

theorem laid_met (os : Os) : laidMet Tryd.prog Rows.valueComparesRow.laid ((laidWorldN os).forCall (fun _ _ => 0) ⟨#[], #[.agg #[.int .i64 0, .int .i64 0, .string ⟨#[]⟩, .int .i64 0], .agg #[.int .i64 0, .int .i64 0, .string ⟨#[]⟩, .int .i64 0]], []⟩).memory :=
  laidMet_of_run' 8 (by kernel_rfl) (by kernel_rfl)
theorem reads (os : Os) {H : Type} (enc : TypeId × Value → H) : ∃ places, DataW.whole enc Tryd.prog ((laidWorldN os).forCall (fun _ _ => 0) ⟨#[], #[.agg #[.int .i64 0, .int .i64 0, .string ⟨#[]⟩, .int .i64 0], .agg #[.int .i64 0, .int .i64 0, .string ⟨#[]⟩, .int .i64 0]], []⟩).memory Tryd.f4.params.toList Rows.valueComparesSpec.vars false (#[.agg #[.int .i64 0, .int .i64 0, .string ⟨#[]⟩, .int .i64 0], .agg #[.int .i64 0, .int .i64 0, .string ⟨#[]⟩, .int .i64 0]] : Array Value).toList 8 = some ([.agg [.lit (.int .i64 0), .lit (.int .i64 0), .lit (.string []), .lit (.int .i64 0)], .agg [.lit (.int .i64 0), .lit (.int .i64 0), .lit (.string []), .lit (.int .i64 0)]], [], places) :=
  ⟨[], by kernel_rfl⟩

set_option maxRecDepth 100000 in
theorem lifted (os : Os) (started : os.Started) (H : Type) (enc : TypeId × Value → H) (F : Stop.Interp) :
    ReturnsInHanded {} Tryd.checked os 4 .any ((OpenSpec.ofChange Rows.valueComparesSpec).preRow enc Tryd.prog Tryd.f4 Rows.valueComparesRow.domain false Rows.valueComparesRow.laid) (((OpenSpec.ofChange Rows.valueComparesSpec).at F).post enc Tryd.prog Tryd.f4 false true false false) := by
  obtain ⟨places, hx⟩ := reads os enc
  refine returnsInHanded_of_row (C := Tryd.checked) (s := OpenSpec.ofChange Rows.valueComparesSpec) ownK started (by kernel_rfl) Tryd.func4
    (witness_row_at (enc := enc) (C := Tryd.checked) false (laidWorldN os) #[.agg #[.int .i64 0, .int .i64 0, .string ⟨#[]⟩, .int .i64 0], .agg #[.int .i64 0, .int .i64 0, .string ⟨#[]⟩, .int .i64 0]] rfl (by kernel_rfl) (by kernel_rfl) (by kernel_rfl)
      (OpenSpec.preRow_of_cond 8 hx (by kernel_rfl) (fun k hk => by cases hk) (by kernel_rfl) (by
        rw [MakeChecks.laidMetH_plain _ _ _ (by kernel_rfl)]
        exact laid_met os))) ?_
  intro W base args ds gs before hval hW _ _ _ hL _ _
  exact contract H enc W base args ds gs before hval hW hL

theorem said : Rows.ValueComparesSaid :=
  OpenClaim.holds_of_cond 4 Tryd.f4 rfl rfl rfl rfl rfl rfl rfl ⟨rfl, rfl, rfl, rfl, rfl⟩ rfl rfl rfl rfl rfl (by kernel_rfl) Tryd.func4 (by kernel_rfl)
    (of_decide_eq_true (by kernel_rfl)) (by unfold Func.isWrapper; first | (rw [if_pos (by decide +kernel)]; kernel_rfl) | (rw [if_neg (by decide +kernel)]; exact ⟨rfl, rfl⟩))
    (fun os started H enc _ F => by rw [OpenClaim.pre_eq_preRow]; exact lifted os started H enc F)

theorem plain (f : FuncId) (fn : Func) (hf : Tryd.pinned.checked.prog.funcNamed Rows.valueComparesRow.func = some f) (hfn : Tryd.pinned.checked.prog.funcs[f]? = some fn) :
    false = Tryd.pinned.checked.prog.looks [] ∧ ∀ (j : Nat) t, fn.params[j]? = some t → Tryd.pinned.checked.prog.wantsStandIn t = false := by
  obtain rfl : f = 4 := Option.some.inj ((show Tryd.prog.funcNamed Rows.valueComparesRow.func = some 4 by kernel_rfl).symm.trans hf) |>.symm
  obtain rfl : fn = Tryd.f4 := (Option.some.inj (Tryd.func4.symm.trans hfn)).symm
  refine ⟨by kernel_rfl, fun j t ht => ?_⟩
  rw [Tryd.params4] at ht
  have hm : t ∈ [23, 23] := by simpa using Array.mem_of_getElem? ht
  have hall : ([23, 23].all fun u => !Tryd.prog.wantsStandIn u) = true := by kernel_rfl
  exact (show Tryd.prog.wantsStandIn t = false by simpa using List.all_eq_true.1 hall t hm)

theorem card : Rows.ValueComparesCardSaid :=
  Claim7.holds_tied_plain_at .later [] _ _ _ _ said (fun _ h => by cases h) (by kernel_rfl) (fun _ h => by cases h) valueCompares_row_tie rfl ⟨rfl, rfl⟩ (by kernel_rfl) rfl plain (by kernel_rfl)
end Go.Proofs.YtlfkiepnahgbeaaDoor.valueCompares
namespace Go.Proofs.YtlfkiepnahgbeaaDoor
theorem valueCompares_card : Rows.ValueComparesCardSaid := valueCompares.card
end Go.Proofs.YtlfkiepnahgbeaaDoor
