/-
 The contract of package value's Arith.
 The contracts of package value's Arith, whatever the operator, and of the statements' look whether anything lives.
 The contracts of package value's truth and named.
 The contract of package value's Literal.
 The contract of the document's Literal.
 The contract of package value's Show; what is shown is read as what it was.
 The contracts of the document's Show, ToNum, ToText, ToBool, Neg.
 A value as a lane, a lane as a value: package column's and the document's.
-/
import Derived.Test.YteaoeichgibgiaaDoorZ9
import Derived.Deep.DeepCutAuto
import Derived.Deep.Light
import Derived.Test.YteaoeichgibgiaaDoorZ3
import Derived.Test.YteaoeichgibgiaaDoorZ7
namespace Go.Proofs.YteaoeichgibgiaaDoor
open Go.RowKit
set_option maxHeartbeats 1000000

/-! ### Which of two -/

open Go.RowKit
set_option maxHeartbeats 1000000

open Go.RowKit
set_option maxHeartbeats 1000000

open Go.RowKit
set_option maxHeartbeats 1000000

open Go.RowKit
set_option maxHeartbeats 1000000

open Go.RowKit
set_option maxHeartbeats 1000000

open Go.RowKit
set_option maxHeartbeats 1000000

open Go.RowKit
set_option maxHeartbeats 2000000

theorem nm_self {v : V} (h : v.ok) : nm v.k v.n v.s v.e = v := by
 cases v with
 | blank => rfl
 | tf b => exact nm_tf b
 | num n => exact nm_num h.2
 | text s => exact nm_text h
 | err e => exact nm_err h
theorem n_i64 {v : V} (h : v.ok) : I64 v.n := by
 cases v with
 | blank => exact ⟨by decide, by decide⟩
 | tf b => cases b <;> exact ⟨by decide, by decide⟩
 | num n => exact h.1
 | text s => show I64 0; exact ⟨by decide, by decide⟩
 | err e => show I64 0; exact ⟨by decide, by decide⟩
theorem isplain_any (v : V) (W : World) : Calls Tryd.prog 21 #[v.dat] W fun r w' => r = .returned (.bool (plB v)) ∧ Ext W w' := by
 cases v
 case blank =>
   simp only [V.dat]
   go_enter Tryd.func21, Tryd.ntmps21
   go_wp2_with fail
   go_ret
   exact ⟨rfl, (Ext.refl _).alloc _⟩
 case tf b =>
   simp only [V.dat]
   generalize (if b = true then (1 : Int) else 0) = bi
   go_enter Tryd.func21, Tryd.ntmps21
   go_wp2_with fail
   go_ret
   exact ⟨rfl, (Ext.refl _).alloc _⟩
 case num n =>
   simp only [V.dat]
   go_enter Tryd.func21, Tryd.ntmps21
   go_wp2_with fail
   go_ret
   exact ⟨rfl, (Ext.refl _).alloc _⟩
 case text s =>
   simp only [V.dat]
   go_enter Tryd.func21, Tryd.ntmps21
   go_wp2_with fail
   go_ret
   exact ⟨rfl, (Ext.refl _).alloc _⟩
 case err e =>
   simp only [V.dat]
   go_enter Tryd.func21, Tryd.ntmps21
   go_wp2_with fail
   go_ret
   exact ⟨rfl, (Ext.refl _).alloc _⟩
set_option maxRecDepth 100000 in
theorem asnum_any (v : V) (hv : v.ok) (area : Bool) (W : World) (hN : Nm W) : Calls Tryd.prog 22 #[v.dat, .bool area] W fun r w' => r = .returned (laneV v area).dat ∧ Ext W w' := by
 have c1 := fun w h => vtonum_any v.k v.n v.s v.e w (n_i64 hv) h
 rw [nm_self hv] at c1
 have c2 := fun w h => vnum_any 0 w h
 rw [mkNum_is (show canB 0 = true from by decide)] at c2
 cases area
 · obtain ⟨q0, q1, q2, q3, hq⟩ := dat4 v.toNum
   rw [hq] at c1
   have H : Hid ((laneV v false).dat = .agg #[.int .i64 q0, .int .i64 q1, .string q2, .int .i64 q3]) := hq
   generalize (laneV v false).dat = D at H ⊢
   clear hq c2 hv
   rw [dat_eq v]
   generalize v.k = pk at *
   generalize v.n = pn at *
   generalize v.s = ps at *
   generalize v.e = pe at *
   go_enter Tryd.func22, Tryd.ntmps22
   go_wp2_with fail
   refine (c1 _ (hN.ext (((Ext.refl _).alloc _).alloc _))).mono ?_
   rintro r w1 ⟨rfl, E1⟩
   obtain ⟨z, ⟨k0, k1, k2, k3⟩, f0, f1, f2, f3⟩ := blk_top (b := W.heap.size + 1) (by simp) (E1)
   go_wp2_with fail
   exact fin4 k0 k1 k2 k3 rfl (by simp) ((((Ext.refl _).alloc _).alloc _).trans E1) (fun W g0 g1 g2 g3 => by simp [results, Tryd.results22, go_sem, g0, g1, g2, g3]) (fun W h => ⟨by rw [H.out], h⟩)
 · cases v
   case blank =>
     obtain ⟨q0, q1, q2, q3, hq⟩ := dat4 (V.num 0)
     rw [hq] at c2
     have H : Hid ((laneV (V.blank) true).dat = .agg #[.int .i64 q0, .int .i64 q1, .string q2, .int .i64 q3]) := hq
     generalize (laneV (V.blank) true).dat = D at H ⊢
     clear hq c1 hv
     simp only [V.dat]
     go_enter Tryd.func22, Tryd.ntmps22
     go_wp2_with fail
     refine (c2 _ (hN.ext (((Ext.refl _).alloc _).alloc _))).mono ?_
     rintro r w1 ⟨rfl, E1⟩
     obtain ⟨z, ⟨k0, k1, k2, k3⟩, f0, f1, f2, f3⟩ := blk_top (b := W.heap.size + 1) (by simp) (E1)
     go_wp2_with fail
     exact fin4 k0 k1 k2 k3 rfl (by simp) ((((Ext.refl _).alloc _).alloc _).trans E1) (fun W g0 g1 g2 g3 => by simp [results, Tryd.results22, go_sem, g0, g1, g2, g3]) (fun W h => ⟨by rw [H.out], h⟩)
   case tf b =>
     obtain ⟨q0, q1, q2, q3, hq⟩ := dat4 (V.num 0)
     rw [hq] at c2
     have H : Hid ((laneV (V.tf b) true).dat = .agg #[.int .i64 q0, .int .i64 q1, .string q2, .int .i64 q3]) := hq
     generalize (laneV (V.tf b) true).dat = D at H ⊢
     clear hq c1 hv
     simp only [V.dat]
     generalize (if b = true then (1 : Int) else 0) = bi
     go_enter Tryd.func22, Tryd.ntmps22
     go_wp2_with fail
     refine (c2 _ (hN.ext (((Ext.refl _).alloc _).alloc _))).mono ?_
     rintro r w1 ⟨rfl, E1⟩
     obtain ⟨z, ⟨k0, k1, k2, k3⟩, f0, f1, f2, f3⟩ := blk_top (b := W.heap.size + 1) (by simp) (E1)
     go_wp2_with fail
     exact fin4 k0 k1 k2 k3 rfl (by simp) ((((Ext.refl _).alloc _).alloc _).trans E1) (fun W g0 g1 g2 g3 => by simp [results, Tryd.results22, go_sem, g0, g1, g2, g3]) (fun W h => ⟨by rw [H.out], h⟩)
   case num n =>
     obtain ⟨q0, q1, q2, q3, hq⟩ := dat4 ((V.num n).toNum)
     rw [hq] at c1
     have H : Hid ((laneV (V.num n) true).dat = .agg #[.int .i64 q0, .int .i64 q1, .string q2, .int .i64 q3]) := hq
     generalize (laneV (V.num n) true).dat = D at H ⊢
     clear hq c2 hv
     simp only [V.dat]
     simp only [V.k, V.n, V.s, V.e] at c1
     go_enter Tryd.func22, Tryd.ntmps22
     go_wp2_with fail
     refine (c1 _ (hN.ext (((Ext.refl _).alloc _).alloc _))).mono ?_
     rintro r w1 ⟨rfl, E1⟩
     obtain ⟨z, ⟨k0, k1, k2, k3⟩, f0, f1, f2, f3⟩ := blk_top (b := W.heap.size + 1) (by simp) (E1)
     go_wp2_with fail
     exact fin4 k0 k1 k2 k3 rfl (by simp) ((((Ext.refl _).alloc _).alloc _).trans E1) (fun W g0 g1 g2 g3 => by simp [results, Tryd.results22, go_sem, g0, g1, g2, g3]) (fun W h => ⟨by rw [H.out], h⟩)
   case text s =>
     obtain ⟨q0, q1, q2, q3, hq⟩ := dat4 (V.num 0)
     rw [hq] at c2
     have H : Hid ((laneV (V.text s) true).dat = .agg #[.int .i64 q0, .int .i64 q1, .string q2, .int .i64 q3]) := hq
     generalize (laneV (V.text s) true).dat = D at H ⊢
     clear hq c1 hv
     simp only [V.dat]
     go_enter Tryd.func22, Tryd.ntmps22
     go_wp2_with fail
     refine (c2 _ (hN.ext (((Ext.refl _).alloc _).alloc _))).mono ?_
     rintro r w1 ⟨rfl, E1⟩
     obtain ⟨z, ⟨k0, k1, k2, k3⟩, f0, f1, f2, f3⟩ := blk_top (b := W.heap.size + 1) (by simp) (E1)
     go_wp2_with fail
     exact fin4 k0 k1 k2 k3 rfl (by simp) ((((Ext.refl _).alloc _).alloc _).trans E1) (fun W g0 g1 g2 g3 => by simp [results, Tryd.results22, go_sem, g0, g1, g2, g3]) (fun W h => ⟨by rw [H.out], h⟩)
   case err e =>
     obtain ⟨q0, q1, q2, q3, hq⟩ := dat4 ((V.err e).toNum)
     rw [hq] at c1
     have H : Hid ((laneV (V.err e) true).dat = .agg #[.int .i64 q0, .int .i64 q1, .string q2, .int .i64 q3]) := hq
     generalize (laneV (V.err e) true).dat = D at H ⊢
     clear hq c2 hv
     simp only [V.dat]
     simp only [V.k, V.n, V.s, V.e] at c1
     go_enter Tryd.func22, Tryd.ntmps22
     go_wp2_with fail
     refine (c1 _ (hN.ext (((Ext.refl _).alloc _).alloc _))).mono ?_
     rintro r w1 ⟨rfl, E1⟩
     obtain ⟨z, ⟨k0, k1, k2, k3⟩, f0, f1, f2, f3⟩ := blk_top (b := W.heap.size + 1) (by simp) (E1)
     go_wp2_with fail
     exact fin4 k0 k1 k2 k3 rfl (by simp) ((((Ext.refl _).alloc _).alloc _).trans E1) (fun W g0 g1 g2 g3 => by simp [results, Tryd.results22, go_sem, g0, g1, g2, g3]) (fun W h => ⟨by rw [H.out], h⟩)
end Go.Proofs.YteaoeichgibgiaaDoor
