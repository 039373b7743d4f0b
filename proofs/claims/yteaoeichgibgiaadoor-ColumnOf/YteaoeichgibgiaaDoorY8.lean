/-
 The contract of the document's Literal.
 The contract of package value's Show; what is shown is read as what it was.
 The contracts of the document's Show, ToNum, ToText, ToBool, Neg.
 A value as a lane, a lane as a value: package column's and the document's.
 Lists made whole and filled place by place, in regions that draw their order.
 Package column: Of.
 A region that draws its order, and whose last operations (the bar: stores) wait for all that reads: what reads may be taken first as long as S holds, and S need not hold behind the bar. No program in sight.
 The document's Of (layer 19).
-/
import Derived.Test.YteaoeichgibgiaaDoorY7
import Derived.Test.YteaoeichgibgiaaDoorY3
import Derived.Deep.DeepCutAuto
import Derived.Deep.RegionHeld3
namespace Go.Proofs.YteaoeichgibgiaaDoor
open Go.RowKit
set_option maxHeartbeats 1000000

open Go.RowKit
set_option maxHeartbeats 1000000

open Go.RowKit
set_option maxHeartbeats 1000000

theorem redK_cases (s : ByteArray) : (numK s = true ∧ redR s = readV s) ∨ (numK s = false ∧ readV s = .err 2) := by
 unfold numK redR readV
 rcases rdK_cases s.data.toList with h | h | h <;> rw [h]
 · exact .inr ⟨rfl, rfl⟩
 · exact .inl ⟨rfl, rfl⟩
 · exact .inl ⟨rfl, rfl⟩
theorem rtonum_any (k n : Int) (s : ByteArray) (e : Int) (w : World) (hn : I64 n) :
   Calls Tryd.prog 28 #[.agg #[.int .i64 k, .int .i64 n, .string s, .int .i64 e]] w fun r w' => r = .returned ((nm k n s e).toNum.dat) ∧ Ext w w' := by
 have c0 := fun W => rnormal_any k n s e W
 have ok := nm_ok k n s e hn
 clear hn
 generalize nm k n s e = v at c0 ok ⊢
 cases v with
 | blank =>
   simp only [V.dat] at c0
   have c1 := fun W => rnum_any 0 W
   rw [mkNum_is (by decide)] at c1
   simp only [V.dat] at c1
   clear ok
   go_enter Tryd.func28, Tryd.ntmps28
   go_wp2_with fail
   refine (c0 _).mono ?_
   rintro r w1 ⟨rfl, E1⟩
   have X1 : Ext w w1 := Ext.trans (by with_reducible repeat (first | assumption | exact Ext.refl _ | apply Ext.alloc | apply Ext.drewN | (refine Ext.setCell ?_ (by simp) _))) E1
   have B0_1 := blk_top (b := w.heap.size) (by simp) (((Ext.refl _).alloc _).trans E1)
   have B1_1 := blk_top (b := w.heap.size + 1) (by simp) E1
   have D0 := B0_1
   obtain ⟨b0z, ⟨b0_0, b0_1, b0_2, b0_3⟩, b0f0, b0f1, b0f2, b0f3⟩ := D0
   have D1 := B1_1
   obtain ⟨b1z, ⟨b1_0, b1_1, b1_2, b1_3⟩, b1f0, b1f1, b1f2, b1f3⟩ := D1
   go_wp2_with fail
   refine (c1 _).mono ?_
   rintro r w2 ⟨rfl, E2⟩
   have X2 : Ext w w2 := Ext.trans (by with_reducible repeat (first | assumption | exact Ext.refl _ | apply Ext.alloc | apply Ext.drewN | (refine Ext.setCell ?_ (by simp) _))) E2
   have B1_2 := (B1_1.far (c := w.heap.size) (by simp) _ _ _ _).ext E2
   have D1 := B1_2
   obtain ⟨b1z, ⟨b1_0, b1_1, b1_2, b1_3⟩, b1f0, b1f1, b1f2, b1f3⟩ := D1
   go_wp2_with fail
   exact finB (B1_2.set _ _ _ _) rfl (by with_reducible repeat (first | assumption | exact Ext.refl _ | apply Ext.alloc | apply Ext.drewN | (refine Ext.setCell ?_ (by simp) _))) (fun g0 g1 g2 g3 => by simp [results, Tryd.results28, go_sem, g0, g1, g2, g3]) (fun h => ⟨rfl, h⟩)
 | tf b =>
   simp only [V.dat] at c0
   cases b with
   | false =>
     simp only [Bool.false_eq_true, if_false] at c0
     have c1 := fun W => rnum_any 0 W
     rw [mkNum_is (by decide)] at c1
     simp only [V.dat] at c1
     clear ok
     go_enter Tryd.func28, Tryd.ntmps28
     go_wp2_with fail
     refine (c0 _).mono ?_
     rintro r w1 ⟨rfl, E1⟩
     have X1 : Ext w w1 := Ext.trans (by with_reducible repeat (first | assumption | exact Ext.refl _ | apply Ext.alloc | apply Ext.drewN | (refine Ext.setCell ?_ (by simp) _))) E1
     have B0_1 := blk_top (b := w.heap.size) (by simp) (((Ext.refl _).alloc _).trans E1)
     have B1_1 := blk_top (b := w.heap.size + 1) (by simp) E1
     have D0 := B0_1
     obtain ⟨b0z, ⟨b0_0, b0_1, b0_2, b0_3⟩, b0f0, b0f1, b0f2, b0f3⟩ := D0
     have D1 := B1_1
     obtain ⟨b1z, ⟨b1_0, b1_1, b1_2, b1_3⟩, b1f0, b1f1, b1f2, b1f3⟩ := D1
     go_wp2_with fail
     refine (c1 _).mono ?_
     rintro r w2 ⟨rfl, E2⟩
     have X2 : Ext w w2 := Ext.trans (by with_reducible repeat (first | assumption | exact Ext.refl _ | apply Ext.alloc | apply Ext.drewN | (refine Ext.setCell ?_ (by simp) _))) E2
     have B1_2 := (B1_1.far (c := w.heap.size) (by simp) _ _ _ _).ext E2
     have D1 := B1_2
     obtain ⟨b1z, ⟨b1_0, b1_1, b1_2, b1_3⟩, b1f0, b1f1, b1f2, b1f3⟩ := D1
     go_wp2_with fail
     exact finB (B1_2.set _ _ _ _) rfl (by with_reducible repeat (first | assumption | exact Ext.refl _ | apply Ext.alloc | apply Ext.drewN | (refine Ext.setCell ?_ (by simp) _))) (fun g0 g1 g2 g3 => by simp [results, Tryd.results28, go_sem, g0, g1, g2, g3]) (fun h => ⟨rfl, h⟩)
   | true =>
     simp only [if_true] at c0
     have c1 := fun W => rnum_any 10000 W
     rw [mkNum_is (by decide)] at c1
     simp only [V.dat] at c1
     clear ok
     go_enter Tryd.func28, Tryd.ntmps28
     go_wp2_with fail
     refine (c0 _).mono ?_
     rintro r w1 ⟨rfl, E1⟩
     have X1 : Ext w w1 := Ext.trans (by with_reducible repeat (first | assumption | exact Ext.refl _ | apply Ext.alloc | apply Ext.drewN | (refine Ext.setCell ?_ (by simp) _))) E1
     have B0_1 := blk_top (b := w.heap.size) (by simp) (((Ext.refl _).alloc _).trans E1)
     have B1_1 := blk_top (b := w.heap.size + 1) (by simp) E1
     have D0 := B0_1
     obtain ⟨b0z, ⟨b0_0, b0_1, b0_2, b0_3⟩, b0f0, b0f1, b0f2, b0f3⟩ := D0
     have D1 := B1_1
     obtain ⟨b1z, ⟨b1_0, b1_1, b1_2, b1_3⟩, b1f0, b1f1, b1f2, b1f3⟩ := D1
     go_wp2_with fail
     refine (c1 _).mono ?_
     rintro r w2 ⟨rfl, E2⟩
     have X2 : Ext w w2 := Ext.trans (by with_reducible repeat (first | assumption | exact Ext.refl _ | apply Ext.alloc | apply Ext.drewN | (refine Ext.setCell ?_ (by simp) _))) E2
     have B1_2 := (B1_1.far (c := w.heap.size) (by simp) _ _ _ _).ext E2
     have D1 := B1_2
     obtain ⟨b1z, ⟨b1_0, b1_1, b1_2, b1_3⟩, b1f0, b1f1, b1f2, b1f3⟩ := D1
     go_wp2_with fail
     exact finB (B1_2.set _ _ _ _) rfl (by with_reducible repeat (first | assumption | exact Ext.refl _ | apply Ext.alloc | apply Ext.drewN | (refine Ext.setCell ?_ (by simp) _))) (fun g0 g1 g2 g3 => by simp [results, Tryd.results28, go_sem, g0, g1, g2, g3]) (fun h => ⟨rfl, h⟩)
 | num n =>
   simp only [V.dat] at c0
   clear ok
   go_enter Tryd.func28, Tryd.ntmps28
   go_wp2_with fail
   refine (c0 _).mono ?_
   rintro r w1 ⟨rfl, E1⟩
   have X1 : Ext w w1 := Ext.trans (by with_reducible repeat (first | assumption | exact Ext.refl _ | apply Ext.alloc | apply Ext.drewN | (refine Ext.setCell ?_ (by simp) _))) E1
   have B0_1 := blk_top (b := w.heap.size) (by simp) (((Ext.refl _).alloc _).trans E1)
   have B1_1 := blk_top (b := w.heap.size + 1) (by simp) E1
   have D0 := B0_1
   obtain ⟨b0z, ⟨b0_0, b0_1, b0_2, b0_3⟩, b0f0, b0f1, b0f2, b0f3⟩ := D0
   have D1 := B1_1
   obtain ⟨b1z, ⟨b1_0, b1_1, b1_2, b1_3⟩, b1f0, b1f1, b1f2, b1f3⟩ := D1
   go_wp2_with fail
   exact finB ((B1_1.far (c := w.heap.size) (by simp) _ _ _ _).set _ _ _ _) rfl (by with_reducible repeat (first | assumption | exact Ext.refl _ | apply Ext.alloc | apply Ext.drewN | (refine Ext.setCell ?_ (by simp) _))) (fun g0 g1 g2 g3 => by simp [results, Tryd.results28, go_sem, g0, g1, g2, g3]) (fun h => ⟨rfl, h⟩)
 | text s =>
   simp only [V.dat] at c0
   have c1 := fun W => rread_any s W (Nat.le_trans ok (by decide))
   have c2 := fun W => rerr_any 2 W
   rw [mkErr_is ⟨by decide, by decide⟩] at c2
   simp only [V.dat] at c2
   have hk := redK_cases s
   clear ok
   rcases hk with ⟨h1, h2⟩ | ⟨h1, h2⟩
   · rw [h1] at c1
     obtain ⟨q0, q1, q2, q3, hq⟩ := dat4 (redR s)
     rw [hq] at c1
     have H : Hid ((V.text s).toNum.dat = .agg #[.int .i64 q0, .int .i64 q1, .string q2, .int .i64 q3]) := by show (readV s).dat = _; rw [← h2]; exact hq
     clear hq h1 h2 c2
     go_enter Tryd.func28, Tryd.ntmps28
     go_wp2_with fail
     refine (c0 _).mono ?_
     rintro r w1 ⟨rfl, E1⟩
     have X1 : Ext w w1 := Ext.trans (by with_reducible repeat (first | assumption | exact Ext.refl _ | apply Ext.alloc | apply Ext.drewN | (refine Ext.setCell ?_ (by simp) _))) E1
     have B0_1 := blk_top (b := w.heap.size) (by simp) (((Ext.refl _).alloc _).trans E1)
     have B1_1 := blk_top (b := w.heap.size + 1) (by simp) E1
     have D0 := B0_1
     obtain ⟨b0z, ⟨b0_0, b0_1, b0_2, b0_3⟩, b0f0, b0f1, b0f2, b0f3⟩ := D0
     have D1 := B1_1
     obtain ⟨b1z, ⟨b1_0, b1_1, b1_2, b1_3⟩, b1f0, b1f1, b1f2, b1f3⟩ := D1
     go_wp2_with fail
     refine (c1 _).mono ?_
     rintro r w2 ⟨rfl, E2⟩
     have X2 : Ext w w2 := Ext.trans (by with_reducible repeat (first | assumption | exact Ext.refl _ | apply Ext.alloc | apply Ext.drewN | (refine Ext.setCell ?_ (by simp) _))) E2
     have B1_2 := (B1_1.far (c := w.heap.size) (by simp) _ _ _ _).ext E2
     have D1 := B1_2
     obtain ⟨b1z, ⟨b1_0, b1_1, b1_2, b1_3⟩, b1f0, b1f1, b1f2, b1f3⟩ := D1
     go_wp2_with fail
     exact finB ((B1_2.set _ _ _ _).ext ((Ext.refl _).alloc _)) rfl (by with_reducible repeat (first | assumption | exact Ext.refl _ | apply Ext.alloc | apply Ext.drewN | (refine Ext.setCell ?_ (by simp) _))) (fun g0 g1 g2 g3 => by simp [results, Tryd.results28, go_sem, g0, g1, g2, g3]) (fun h => ⟨by rw [H.out], h⟩)
   · rw [h1] at c1
     obtain ⟨q0, q1, q2, q3, hq⟩ := dat4 (redR s)
     rw [hq] at c1
     have H : Hid ((V.text s).toNum = .err 2) := h2
     clear hq h1 h2
     go_enter Tryd.func28, Tryd.ntmps28
     go_wp2_with fail
     refine (c0 _).mono ?_
     rintro r w1 ⟨rfl, E1⟩
     have X1 : Ext w w1 := Ext.trans (by with_reducible repeat (first | assumption | exact Ext.refl _ | apply Ext.alloc | apply Ext.drewN | (refine Ext.setCell ?_ (by simp) _))) E1
     have B0_1 := blk_top (b := w.heap.size) (by simp) (((Ext.refl _).alloc _).trans E1)
     have B1_1 := blk_top (b := w.heap.size + 1) (by simp) E1
     have D0 := B0_1
     obtain ⟨b0z, ⟨b0_0, b0_1, b0_2, b0_3⟩, b0f0, b0f1, b0f2, b0f3⟩ := D0
     have D1 := B1_1
     obtain ⟨b1z, ⟨b1_0, b1_1, b1_2, b1_3⟩, b1f0, b1f1, b1f2, b1f3⟩ := D1
     go_wp2_with fail
     refine (c1 _).mono ?_
     rintro r w2 ⟨rfl, E2⟩
     have X2 : Ext w w2 := Ext.trans (by with_reducible repeat (first | assumption | exact Ext.refl _ | apply Ext.alloc | apply Ext.drewN | (refine Ext.setCell ?_ (by simp) _))) E2
     have B1_2 := (B1_1.far (c := w.heap.size) (by simp) _ _ _ _).ext E2
     have D1 := B1_2
     obtain ⟨b1z, ⟨b1_0, b1_1, b1_2, b1_3⟩, b1f0, b1f1, b1f2, b1f3⟩ := D1
     go_wp2_with fail
     refine (c2 _).mono ?_
     rintro r w3 ⟨rfl, E3⟩
     have X3 : Ext w w3 := Ext.trans (by with_reducible repeat (first | assumption | exact Ext.refl _ | apply Ext.alloc | apply Ext.drewN | (refine Ext.setCell ?_ (by simp) _))) E3
     have B1_3 := (B1_2.ext ((Ext.refl _).alloc _)).ext E3
     have D1 := B1_3
     obtain ⟨b1z, ⟨b1_0, b1_1, b1_2, b1_3⟩, b1f0, b1f1, b1f2, b1f3⟩ := D1
     go_wp2_with fail
     exact finB (B1_3.set _ _ _ _) rfl (by with_reducible repeat (first | assumption | exact Ext.refl _ | apply Ext.alloc | apply Ext.drewN | (refine Ext.setCell ?_ (by simp) _))) (fun g0 g1 g2 g3 => by simp [results, Tryd.results28, go_sem, g0, g1, g2, g3]) (fun h => ⟨by rw [H.out]; rfl, h⟩)
 | err e =>
   simp only [V.dat] at c0
   clear ok
   go_enter Tryd.func28, Tryd.ntmps28
   go_wp2_with fail
   refine (c0 _).mono ?_
   rintro r w1 ⟨rfl, E1⟩
   have X1 : Ext w w1 := Ext.trans (by with_reducible repeat (first | assumption | exact Ext.refl _ | apply Ext.alloc | apply Ext.drewN | (refine Ext.setCell ?_ (by simp) _))) E1
   have B0_1 := blk_top (b := w.heap.size) (by simp) (((Ext.refl _).alloc _).trans E1)
   have B1_1 := blk_top (b := w.heap.size + 1) (by simp) E1
   have D0 := B0_1
   obtain ⟨b0z, ⟨b0_0, b0_1, b0_2, b0_3⟩, b0f0, b0f1, b0f2, b0f3⟩ := D0
   have D1 := B1_1
   obtain ⟨b1z, ⟨b1_0, b1_1, b1_2, b1_3⟩, b1f0, b1f1, b1f2, b1f3⟩ := D1
   go_wp2_with fail
   exact finB ((B1_1.far (c := w.heap.size) (by simp) _ _ _ _).set _ _ _ _) rfl (by with_reducible repeat (first | assumption | exact Ext.refl _ | apply Ext.alloc | apply Ext.drewN | (refine Ext.setCell ?_ (by simp) _))) (fun g0 g1 g2 g3 => by simp [results, Tryd.results28, go_sem, g0, g1, g2, g3]) (fun h => ⟨rfl, h⟩)

open Go.RowKit
set_option maxHeartbeats 2000000

theorem nm_self {v : V} (h : v.ok) : nm v.k v.n v.s v.e = v := by
 cases v with
 | blank => rfl
 | tf b => exact nm_tf b
 | num n => exact nm_num h.2
 | text s => exact nm_text h
 | err e => exact nm_err h
theorem n_i64 {v : V} (h : v.ok) : I64 v.n := by
 cases v with
 | blank => exact ⟨by decide, by decide⟩
 | tf b => cases b <;> exact ⟨by decide, by decide⟩
 | num n => exact h.1
 | text s => show I64 0; exact ⟨by decide, by decide⟩
 | err e => show I64 0; exact ⟨by decide, by decide⟩
theorem isplain_any (v : V) (W : World) : Calls Tryd.prog 21 #[v.dat] W fun r w' => r = .returned (.bool (plB v)) ∧ Ext W w' := by
 cases v
 case blank =>
   simp only [V.dat]
   go_enter Tryd.func21, Tryd.ntmps21
   go_wp2_with fail
   go_ret
   exact ⟨rfl, (Ext.refl _).alloc _⟩
 case tf b =>
   simp only [V.dat]
   generalize (if b = true then (1 : Int) else 0) = bi
   go_enter Tryd.func21, Tryd.ntmps21
   go_wp2_with fail
   go_ret
   exact ⟨rfl, (Ext.refl _).alloc _⟩
 case num n =>
   simp only [V.dat]
   go_enter Tryd.func21, Tryd.ntmps21
   go_wp2_with fail
   go_ret
   exact ⟨rfl, (Ext.refl _).alloc _⟩
 case text s =>
   simp only [V.dat]
   go_enter Tryd.func21, Tryd.ntmps21
   go_wp2_with fail
   go_ret
   exact ⟨rfl, (Ext.refl _).alloc _⟩
 case err e =>
   simp only [V.dat]
   go_enter Tryd.func21, Tryd.ntmps21
   go_wp2_with fail
   go_ret
   exact ⟨rfl, (Ext.refl _).alloc _⟩
set_option maxRecDepth 100000 in
theorem asnum_any (v : V) (hv : v.ok) (area : Bool) (W : World) (hN : Nm W) : Calls Tryd.prog 22 #[v.dat, .bool area] W fun r w' => r = .returned (laneV v area).dat ∧ Ext W w' := by
 have c1 := fun w h => vtonum_any v.k v.n v.s v.e w (n_i64 hv) h
 rw [nm_self hv] at c1
 have c2 := fun w h => vnum_any 0 w h
 rw [mkNum_is (show canB 0 = true from by decide)] at c2
 cases area
 · obtain ⟨q0, q1, q2, q3, hq⟩ := dat4 v.toNum
   rw [hq] at c1
   have H : Hid ((laneV v false).dat = .agg #[.int .i64 q0, .int .i64 q1, .string q2, .int .i64 q3]) := hq
   generalize (laneV v false).dat = D at H ⊢
   clear hq c2 hv
   rw [dat_eq v]
   generalize v.k = pk at *
   generalize v.n = pn at *
   generalize v.s = ps at *
   generalize v.e = pe at *
   go_enter Tryd.func22, Tryd.ntmps22
   go_wp2_with fail
   refine (c1 _ (hN.ext (((Ext.refl _).alloc _).alloc _))).mono ?_
   rintro r w1 ⟨rfl, E1⟩
   obtain ⟨z, ⟨k0, k1, k2, k3⟩, f0, f1, f2, f3⟩ := blk_top (b := W.heap.size + 1) (by simp) (E1)
   go_wp2_with fail
   exact fin4 k0 k1 k2 k3 rfl (by simp) ((((Ext.refl _).alloc _).alloc _).trans E1) (fun W g0 g1 g2 g3 => by simp [results, Tryd.results22, go_sem, g0, g1, g2, g3]) (fun W h => ⟨by rw [H.out], h⟩)
 · cases v
   case blank =>
     obtain ⟨q0, q1, q2, q3, hq⟩ := dat4 (V.num 0)
     rw [hq] at c2
     have H : Hid ((laneV (V.blank) true).dat = .agg #[.int .i64 q0, .int .i64 q1, .string q2, .int .i64 q3]) := hq
     generalize (laneV (V.blank) true).dat = D at H ⊢
     clear hq c1 hv
     simp only [V.dat]
     go_enter Tryd.func22, Tryd.ntmps22
     go_wp2_with fail
     refine (c2 _ (hN.ext (((Ext.refl _).alloc _).alloc _))).mono ?_
     rintro r w1 ⟨rfl, E1⟩
     obtain ⟨z, ⟨k0, k1, k2, k3⟩, f0, f1, f2, f3⟩ := blk_top (b := W.heap.size + 1) (by simp) (E1)
     go_wp2_with fail
     exact fin4 k0 k1 k2 k3 rfl (by simp) ((((Ext.refl _).alloc _).alloc _).trans E1) (fun W g0 g1 g2 g3 => by simp [results, Tryd.results22, go_sem, g0, g1, g2, g3]) (fun W h => ⟨by rw [H.out], h⟩)
   case tf b =>
     obtain ⟨q0, q1, q2, q3, hq⟩ := dat4 (V.num 0)
     rw [hq] at c2
     have H : Hid ((laneV (V.tf b) true).dat = .agg #[.int .i64 q0, .int .i64 q1, .string q2, .int .i64 q3]) := hq
     generalize (laneV (V.tf b) true).dat = D at H ⊢
     clear hq c1 hv
     simp only [V.dat]
     generalize (if b = true then (1 : Int) else 0) = bi
     go_enter Tryd.func22, Tryd.ntmps22
     go_wp2_with fail
     refine (c2 _ (hN.ext (((Ext.refl _).alloc _).alloc _))).mono ?_
     rintro r w1 ⟨rfl, E1⟩
     obtain ⟨z, ⟨k0, k1, k2, k3⟩, f0, f1, f2, f3⟩ := blk_top (b := W.heap.size + 1) (by simp) (E1)
     go_wp2_with fail
     exact fin4 k0 k1 k2 k3 rfl (by simp) ((((Ext.refl _).alloc _).alloc _).trans E1) (fun W g0 g1 g2 g3 => by simp [results, Tryd.results22, go_sem, g0, g1, g2, g3]) (fun W h => ⟨by rw [H.out], h⟩)
   case num n =>
     obtain ⟨q0, q1, q2, q3, hq⟩ := dat4 ((V.num n).toNum)
     rw [hq] at c1
     have H : Hid ((laneV (V.num n) true).dat = .agg #[.int .i64 q0, .int .i64 q1, .string q2, .int .i64 q3]) := hq
     generalize (laneV (V.num n) true).dat = D at H ⊢
     clear hq c2 hv
     simp only [V.dat]
     simp only [V.k, V.n, V.s, V.e] at c1
     go_enter Tryd.func22, Tryd.ntmps22
     go_wp2_with fail
     refine (c1 _ (hN.ext (((Ext.refl _).alloc _).alloc _))).mono ?_
     rintro r w1 ⟨rfl, E1⟩
     obtain ⟨z, ⟨k0, k1, k2, k3⟩, f0, f1, f2, f3⟩ := blk_top (b := W.heap.size + 1) (by simp) (E1)
     go_wp2_with fail
     exact fin4 k0 k1 k2 k3 rfl (by simp) ((((Ext.refl _).alloc _).alloc _).trans E1) (fun W g0 g1 g2 g3 => by simp [results, Tryd.results22, go_sem, g0, g1, g2, g3]) (fun W h => ⟨by rw [H.out], h⟩)
   case text s =>
     obtain ⟨q0, q1, q2, q3, hq⟩ := dat4 (V.num 0)
     rw [hq] at c2
     have H : Hid ((laneV (V.text s) true).dat = .agg #[.int .i64 q0, .int .i64 q1, .string q2, .int .i64 q3]) := hq
     generalize (laneV (V.text s) true).dat = D at H ⊢
     clear hq c1 hv
     simp only [V.dat]
     go_enter Tryd.func22, Tryd.ntmps22
     go_wp2_with fail
     refine (c2 _ (hN.ext (((Ext.refl _).alloc _).alloc _))).mono ?_
     rintro r w1 ⟨rfl, E1⟩
     obtain ⟨z, ⟨k0, k1, k2, k3⟩, f0, f1, f2, f3⟩ := blk_top (b := W.heap.size + 1) (by simp) (E1)
     go_wp2_with fail
     exact fin4 k0 k1 k2 k3 rfl (by simp) ((((Ext.refl _).alloc _).alloc _).trans E1) (fun W g0 g1 g2 g3 => by simp [results, Tryd.results22, go_sem, g0, g1, g2, g3]) (fun W h => ⟨by rw [H.out], h⟩)
   case err e =>
     obtain ⟨q0, q1, q2, q3, hq⟩ := dat4 ((V.err e).toNum)
     rw [hq] at c1
     have H : Hid ((laneV (V.err e) true).dat = .agg #[.int .i64 q0, .int .i64 q1, .string q2, .int .i64 q3]) := hq
     generalize (laneV (V.err e) true).dat = D at H ⊢
     clear hq c2 hv
     simp only [V.dat]
     simp only [V.k, V.n, V.s, V.e] at c1
     go_enter Tryd.func22, Tryd.ntmps22
     go_wp2_with fail
     refine (c1 _ (hN.ext (((Ext.refl _).alloc _).alloc _))).mono ?_
     rintro r w1 ⟨rfl, E1⟩
     obtain ⟨z, ⟨k0, k1, k2, k3⟩, f0, f1, f2, f3⟩ := blk_top (b := W.heap.size + 1) (by simp) (E1)
     go_wp2_with fail
     exact fin4 k0 k1 k2 k3 rfl (by simp) ((((Ext.refl _).alloc _).alloc _).trans E1) (fun W g0 g1 g2 g3 => by simp [results, Tryd.results22, go_sem, g0, g1, g2, g3]) (fun W h => ⟨by rw [H.out], h⟩)
set_option maxRecDepth 100000 in
theorem rlane_any (k n : Int) (s : ByteArray) (e : Int) (hn : I64 n) (area : Bool) (W : World) : Calls Tryd.prog 12 #[.agg #[.int .i64 k, .int .i64 n, .string s, .int .i64 e], .bool area] W fun r w' => r = .returned (laneV (nm k n s e) area).dat ∧ Ext W w' := by
 have c1 := fun w => rtonum_any k n s e w hn
 have c0 := fun w => rnormal_any k n s e w
 have c2 := fun w => rnum_any 0 w
 rw [mkNum_is (show canB 0 = true from by decide)] at c2
 have ok := nm_ok k n s e hn
 cases area
 · obtain ⟨q0, q1, q2, q3, hq⟩ := dat4 (nm k n s e).toNum
   rw [hq] at c1
   have H : Hid ((laneV (nm k n s e) false).dat = .agg #[.int .i64 q0, .int .i64 q1, .string q2, .int .i64 q3]) := hq
   generalize (laneV (nm k n s e) false).dat = D at H ⊢
   clear hq c2 c0 ok
   go_enter Tryd.func12, Tryd.ntmps12
   go_wp2_with fail
   refine (c1 _).mono ?_
   rintro r w1 ⟨rfl, E1⟩
   obtain ⟨z, ⟨k0, k1, k2, k3⟩, f0, f1, f2, f3⟩ := blk_top (b := W.heap.size + 1) (by simp) (E1)
   go_wp2_with fail
   exact fin4 k0 k1 k2 k3 rfl (by simp) ((((Ext.refl _).alloc _).alloc _).trans E1) (fun W g0 g1 g2 g3 => by simp [results, Tryd.results12, go_sem, g0, g1, g2, g3]) (fun W h => ⟨by rw [H.out], h⟩)
 · clear c1
   generalize nm k n s e = v at *
   cases v
   case blank =>
     obtain ⟨q0, q1, q2, q3, hq⟩ := dat4 (V.num 0)
     rw [hq] at c2
     have H : Hid ((laneV (V.blank) true).dat = .agg #[.int .i64 q0, .int .i64 q1, .string q2, .int .i64 q3]) := hq
     generalize (laneV (V.blank) true).dat = D at H ⊢
     clear hq ok
     simp only [V.dat] at c0
     go_enter Tryd.func12, Tryd.ntmps12
     go_wp2_with fail
     refine (c0 _).mono ?_
     rintro r w1 ⟨rfl, E1⟩
     have X1 : Ext W w1 := (((Ext.refl _).alloc _).alloc _).trans E1
     have B1 : Blk w1 (W.heap.size + 1) _ _ _ _ := blk_top (by simp) E1
     obtain ⟨_, ⟨p0, p1, p2, p3⟩, e0, e1, e2, e3⟩ := blk_top (w := W) (b := W.heap.size) rfl (((Ext.refl _).alloc _).trans E1)
     clear E1
     go_wp2_with fail
     refine (c2 _).mono ?_
     rintro r w2 ⟨rfl, E2⟩
     have X2 : Ext W w2 := Ext.trans (by with_reducible repeat (first | exact X1 | (refine Ext.setCell ?_ (by simp) _))) E2
     have B2 : Blk w2 (W.heap.size + 1) _ _ _ _ := (B1.far (by simp) _ _ _ _).ext E2
     clear E2 B1 p0 p1 p2 p3 e0 e1 e2 e3
     obtain ⟨_, ⟨k0, k1, k2, k3⟩, f0, f1, f2, f3⟩ := B2
     go_wp2_with fail
     exact fin4 k0 k1 k2 k3 rfl (by simp) X2 (fun W g0 g1 g2 g3 => by simp [results, Tryd.results12, go_sem, g0, g1, g2, g3]) (fun W h => ⟨by rw [H.out], h⟩)
   case tf b0 =>
     obtain ⟨q0, q1, q2, q3, hq⟩ := dat4 (V.num 0)
     rw [hq] at c2
     have H : Hid ((laneV (V.tf b0) true).dat = .agg #[.int .i64 q0, .int .i64 q1, .string q2, .int .i64 q3]) := hq
     generalize (laneV (V.tf b0) true).dat = D at H ⊢
     clear hq ok
     simp only [V.dat] at c0
     generalize (if b0 = true then (1 : Int) else 0) = bi at c0
     go_enter Tryd.func12, Tryd.ntmps12
     go_wp2_with fail
     refine (c0 _).mono ?_
     rintro r w1 ⟨rfl, E1⟩
     have X1 : Ext W w1 := (((Ext.refl _).alloc _).alloc _).trans E1
     have B1 : Blk w1 (W.heap.size + 1) _ _ _ _ := blk_top (by simp) E1
     obtain ⟨_, ⟨p0, p1, p2, p3⟩, e0, e1, e2, e3⟩ := blk_top (w := W) (b := W.heap.size) rfl (((Ext.refl _).alloc _).trans E1)
     clear E1
     go_wp2_with fail
     refine (c2 _).mono ?_
     rintro r w2 ⟨rfl, E2⟩
     have X2 : Ext W w2 := Ext.trans (by with_reducible repeat (first | exact X1 | (refine Ext.setCell ?_ (by simp) _))) E2
     have B2 : Blk w2 (W.heap.size + 1) _ _ _ _ := (B1.far (by simp) _ _ _ _).ext E2
     clear E2 B1 p0 p1 p2 p3 e0 e1 e2 e3
     obtain ⟨_, ⟨k0, k1, k2, k3⟩, f0, f1, f2, f3⟩ := B2
     go_wp2_with fail
     exact fin4 k0 k1 k2 k3 rfl (by simp) X2 (fun W g0 g1 g2 g3 => by simp [results, Tryd.results12, go_sem, g0, g1, g2, g3]) (fun W h => ⟨by rw [H.out], h⟩)
   case num n0 =>
     have H : Hid ((laneV (V.num n0) true).dat = (V.num n0).dat) := rfl
     generalize (laneV (V.num n0) true).dat = D at H ⊢
     simp only [V.dat] at c0 H
     clear c2 ok
     go_enter Tryd.func12, Tryd.ntmps12
     go_wp2_with fail
     refine (c0 _).mono ?_
     rintro r w1 ⟨rfl, E1⟩
     have X1 : Ext W w1 := (((Ext.refl _).alloc _).alloc _).trans E1
     obtain ⟨_, ⟨p0, p1, p2, p3⟩, e0, e1, e2, e3⟩ := blk_top (w := W) (b := W.heap.size) rfl (((Ext.refl _).alloc _).trans E1)
     have B1 : Hid (Blk w1 (W.heap.size + 1) _ _ _ _) := blk_top (by simp) E1
     obtain ⟨_, ⟨k0, k1, k2, k3⟩, f0, f1, f2, f3⟩ := B1.out
     clear E1
     go_wp2_with fail
     exact finB ((B1.out.far (by simp) _ _ _ _).set _ _ _ _) rfl (by with_reducible repeat (first | exact X1 | (refine Ext.setCell ?_ (by simp) _))) (fun g0 g1 g2 g3 => by simp [results, Tryd.results12, go_sem, g0, g1, g2, g3]) (fun h => ⟨by rw [H.out], h⟩)
   case text s0 =>
     obtain ⟨q0, q1, q2, q3, hq⟩ := dat4 (V.num 0)
     rw [hq] at c2
     have H : Hid ((laneV (V.text s0) true).dat = .agg #[.int .i64 q0, .int .i64 q1, .string q2, .int .i64 q3]) := hq
     generalize (laneV (V.text s0) true).dat = D at H ⊢
     clear hq ok
     simp only [V.dat] at c0
     go_enter Tryd.func12, Tryd.ntmps12
     go_wp2_with fail
     refine (c0 _).mono ?_
     rintro r w1 ⟨rfl, E1⟩
     have X1 : Ext W w1 := (((Ext.refl _).alloc _).alloc _).trans E1
     have B1 : Blk w1 (W.heap.size + 1) _ _ _ _ := blk_top (by simp) E1
     obtain ⟨_, ⟨p0, p1, p2, p3⟩, e0, e1, e2, e3⟩ := blk_top (w := W) (b := W.heap.size) rfl (((Ext.refl _).alloc _).trans E1)
     clear E1
     go_wp2_with fail
     refine (c2 _).mono ?_
     rintro r w2 ⟨rfl, E2⟩
     have X2 : Ext W w2 := Ext.trans (by with_reducible repeat (first | exact X1 | (refine Ext.setCell ?_ (by simp) _))) E2
     have B2 : Blk w2 (W.heap.size + 1) _ _ _ _ := (B1.far (by simp) _ _ _ _).ext E2
     clear E2 B1 p0 p1 p2 p3 e0 e1 e2 e3
     obtain ⟨_, ⟨k0, k1, k2, k3⟩, f0, f1, f2, f3⟩ := B2
     go_wp2_with fail
     exact fin4 k0 k1 k2 k3 rfl (by simp) X2 (fun W g0 g1 g2 g3 => by simp [results, Tryd.results12, go_sem, g0, g1, g2, g3]) (fun W h => ⟨by rw [H.out], h⟩)
   case err e0 =>
     have H : Hid ((laneV (V.err e0) true).dat = (V.err e0).dat) := rfl
     generalize (laneV (V.err e0) true).dat = D at H ⊢
     simp only [V.dat] at c0 H
     clear c2 ok
     go_enter Tryd.func12, Tryd.ntmps12
     go_wp2_with fail
     refine (c0 _).mono ?_
     rintro r w1 ⟨rfl, E1⟩
     have X1 : Ext W w1 := (((Ext.refl _).alloc _).alloc _).trans E1
     obtain ⟨_, ⟨p0, p1, p2, p3⟩, e0, e1, e2, e3⟩ := blk_top (w := W) (b := W.heap.size) rfl (((Ext.refl _).alloc _).trans E1)
     have B1 : Hid (Blk w1 (W.heap.size + 1) _ _ _ _) := blk_top (by simp) E1
     obtain ⟨_, ⟨k0, k1, k2, k3⟩, f0, f1, f2, f3⟩ := B1.out
     clear E1
     go_wp2_with fail
     exact finB ((B1.out.far (by simp) _ _ _ _).set _ _ _ _) rfl (by with_reducible repeat (first | exact X1 | (refine Ext.setCell ?_ (by simp) _))) (fun g0 g1 g2 g3 => by simp [results, Tryd.results12, go_sem, g0, g1, g2, g3]) (fun h => ⟨by rw [H.out], h⟩)

open Go.RowKit
set_option maxHeartbeats 2000000

/-- The first j of L, noughts behind. -/
def fillI (L : List Int) (j : Nat) : List Int := L.take j ++ List.replicate (L.length - j) 0
theorem fill_zero (L : List Int) : fillI L 0 = List.replicate L.length 0 := by simp [fillI]
theorem fill_full (L : List Int) : fillI L L.length = L := by simp [fillI]
theorem fill_at {L : List Int} {j : Nat} (h : j < L.length) : (fillI L j)[j]? = some 0 := by
 unfold fillI
 rw [List.getElem?_append_right (by simp; omega), List.getElem?_replicate, if_pos (by simp; omega)]
theorem fill_step {L : List Int} {j : Nat} {x : Int} (h : L[j]? = some x) : (fillI L j).set j x = fillI L (j + 1) := by
 have hj := (List.getElem?_eq_some_iff.1 h).1
 apply List.ext_getElem?
 intro i
 unfold fillI
 rw [List.getElem?_set]
 by_cases e : j = i
 · subst e
   rw [if_pos rfl, if_pos (by simp; omega), List.getElem?_append_left (by simp; omega), List.getElem?_take, if_pos (by omega), h]
 · rw [if_neg e]
   rcases Nat.lt_or_ge i j with hi | hi
   · rw [List.getElem?_append_left (by simp; omega), List.getElem?_append_left (by simp; omega), List.getElem?_take, List.getElem?_take, if_pos hi, if_pos (by omega)]
   · rw [List.getElem?_append_right (by simp; omega), List.getElem?_append_right (by simp; omega), List.getElem?_replicate, List.getElem?_replicate]
     simp only [List.length_take]
     split <;> split <;> first | rfl | omega
/-- Two stores into another block. -/
theorem RdG.far2 {α : Type} {c : α → List Value} {k : Nat} {W : World} {g b n cp : Nat} {l : List α} (h : RdG c k W (.slice (some ⟨g, 0, none⟩) n cp) l) (hb : b < g) (u v : Value) : RdG c k ((W.setCell ⟨b, 0, none⟩ u).setCell ⟨b, 1, none⟩ v) (.slice (some ⟨g, 0, none⟩) n cp) l := by
 refine h.keep (by simp [World.setCell]) (fun a ha _ _ => ?_)
 cases ha
 exact (heap_setCell_other _ ⟨b, 1, none⟩ g v (by (try dsimp only); omega)).trans (heap_setCell_other W ⟨b, 0, none⟩ g u (by (try dsimp only); omega))
/-- A list of noughts that has been made. -/
def Made (T : TypeId) (n B : Nat) (v : Value) (w : World) : Prop := ∃ g, v = .slice (some ⟨g, 0, none⟩) n n ∧ B ≤ g ∧ w.heap[g]? = some (.cells (zI n) T (0, 0))
theorem Made.ext {T : TypeId} {n B : Nat} {v : Value} {w w' : World} (h : Made T n B v w) (e : Ext w w') : Made T n B v w' := by
 obtain ⟨g, h1, h2, h3⟩ := h
 exact ⟨g, h1, h2, (e.block g (heap_lt h3)).trans h3⟩
theorem Made.keep {T T' : TypeId} {n B : Nat} {v : Value} {w w' : World} (h : Made T n B v w) (ht : some T ≠ some T') (e : ExtT T' w w') : Made T n B v w' := by
 obtain ⟨g, h1, h2, h3⟩ := h
 exact ⟨g, h1, h2, (e.block g _ _ _ h3 (fun x => ht (congrArg _ x))).trans h3⟩
/-- A column's block that has been made. -/
def MadeV (B : Nat) (v : Value) (w : World) : Prop := ∃ g, v = .pointer (some ⟨g, 0, none⟩) ∧ B ≤ g ∧ VB w g (.slice none 0 0) (.slice none 0 0)
theorem MadeV.ext {B : Nat} {v : Value} {w w' : World} (h : MadeV B v w) (e : Ext w w') : MadeV B v w' := by
 obtain ⟨g, h1, h2, h3⟩ := h
 exact ⟨g, h1, h2, h3.ext e⟩
theorem MadeV.keep {B : Nat} {T' : TypeId} {v : Value} {w w' : World} (h : MadeV B v w) (ht : some 26 ≠ some T') (e : ExtT T' w w') : MadeV B v w' := by
 obtain ⟨g, h1, h2, h3⟩ := h
 exact ⟨g, h1, h2, h3.extT (fun x => ht (congrArg _ x)) e⟩
theorem zI_celi {w : World} {g n : Nat} {T : TypeId} (h : w.heap[g]? = some (.cells (zI n) T (0, 0))) : CelI w g (List.replicate n 0) := by
 refine ⟨heap_lt h, fun i x hx => ?_⟩
 rw [List.getElem?_replicate] at hx
 split at hx
 · rename_i hi
   obtain rfl := Option.some.inj hx
   exact ⟨by rw [cell_of_row _ _ i _ _ (0, 0) h]; exact zI_at n i hi, frozen_of_row _ _ _ _ _ h⟩
 · cases hx
section
variable {o : Oper} {a : Act} {w w0 : World} {B n : Nat}
theorem rt_make {TS T : TypeId} {x y : Operand} (hrun : ∀ W, (Instr.makeSlice TS (.int .i64 (n : Int)) (.int .i64 (n : Int))).run Tryd.prog W = .ok (.slice (some ⟨W.heap.size, 0, none⟩) n n) (W.alloc (.cells (zI n) T))) (ho : o.op = .makeSlice TS x y) (hx : a.eval x = .int .i64 (n : Int)) (hy : a.eval y = .int .i64 (n : Int)) (hE : Ext w0 w) (hb : B ≤ w.heap.size) :
   RunsTo Tryd.prog o a w (fun v w' => Ext w0 w' ∧ GrW none w w' ∧ Made T n B v w') :=
 .inl ⟨_, _, by simp [execOp, ho, hx, hy, hrun, Result.andThen], hE.alloc _, (Ext.refl _).alloc _, _, rfl, hb, top_heap w _⟩
theorem alloc_vec (w : World) : (Instr.alloc 26 true (.tuple #[])).run Tryd.prog w = .ok (.pointer (some ⟨w.heap.size, 0, none⟩)) (w.alloc (.cells #[.slice none 0 0, .slice none 0 0] 26)) := by
 go_simp
theorem rt_alloc (ho : o.op = .alloc 26) (hE : Ext w0 w) (hb : B ≤ w.heap.size) : RunsTo Tryd.prog o a w (fun v w' => Ext w0 w' ∧ GrW none w w' ∧ MadeV B v w') :=
 .inl ⟨_, _, by simp [execOp, ho, alloc_vec, Result.andThen], hE.alloc _, (Ext.refl _).alloc _, _, rfl, hb, top_heap w _⟩
end

open Go.RowKit
set_option maxHeartbeats 4000000

theorem vec_built (p : Option Addr) (n c : Nat) (q : Option Addr) (m d : Nat) : Tryd.prog.built 26 [(0, .slice p n c), (1, .slice q m d)] = some #[.slice p n c, .slice q m d] := by kernel_rfl
theorem run_vec_of {o : Oper} {a : Act} {w : World} {x y : Operand} {p q : Option Addr} {n c m d : Nat} (ho : o.op = .build 26 #[(0, x), (1, y)]) (hx : a.eval x = .slice p n c) (hy : a.eval y = .slice q m d) :
   (execOp a.eval o).run Tryd.prog w = .ok (.value (.agg #[.slice p n c, .slice q m d])) w := by
 have := run_build (P := Tryd.prog) w 26 #[(0, .slice p n c), (1, .slice q m d)] _ (vec_built p n c q m d)
 simp [execOp, ho, hx, hy, this, Result.andThen]
theorem cof_long (W : World) (a : Value) (l : List Rw) (area : Bool) (h : RdV W.heap.size W a l) (hl : 1000 < l.length) :
   Calls Tryd.prog 7 #[a, .bool area] W fun r w' => r = .returned (.tuple #[.agg #[.slice none 0 0, .slice none 0 0], .bool false]) ∧ Ext W w' := by
 obtain ⟨p, n, cp, rfl, hn, hzz⟩ := h.form
 rw [← hn] at hl
 have hI : (n : Int) > 1000 := by omega
 have hd : decide ((n : Int) > 1000) = true := by simp; omega
 clear hl hzz hn h
 have V0 := (vb_top (w := W) (x := .slice none 0 0) (y := .slice none 0 0) rfl (Ext.refl _)).blk
 obtain ⟨_, ⟨j0, j1⟩, g0, g1⟩ := V0
 have V1 := (vb_top (w := W) (x := .slice none 0 0) (y := .slice none 0 0) rfl (Ext.refl _)).blk
 go_enter Tryd.func7, Tryd.ntmps7
 go_wp2_with fail
 exact fin2 _ V1 rfl ((Ext.refl _).alloc _) (fun g0 g1 => by simp [results, Tryd.results7, go_sem, g0, g1]) (fun h => ⟨rfl, h⟩)
theorem plain_step {l : List Rw} {j : Nat} {r : Rw} (h : l[j]? = some r) : plainL (l.take (j + 1)) = (plainL (l.take j) && plB r.v) := by
 rw [take_at h]
 simp [plainL]
set_option maxRecDepth 100000 in
theorem cof_any (W : World) (a : Value) (l : List Rw) (area : Bool) (hN : Nm W) (h : RdV W.heap.size W a l) (hI : ∀ r ∈ l, I64 r.n) (hl : l.length ≤ 1000) :
   Calls Tryd.prog 7 #[a, .bool area] W fun r w' => ∃ u v, r = .returned (.tuple #[.agg #[u, v], .bool (plainL l)]) ∧ RdI w' u (lnN area l) ∧ RdI w' v (lnE area l) ∧ Ext W w' := by
 obtain ⟨p, n, cp, rfl, hn, hzz⟩ := h.form
 have HR : Hid (RdV W.heap.size W (.slice p n cp) l) := h
 have HL : Hid (l.length = n ∧ n ≤ 1000) := ⟨hn.symm, by omega⟩
 have HI : Hid (∀ r ∈ l, I64 r.n) := hI
 have HN : Hid (Nm W) := hN
 have hI0 : ¬ (n : Int) > 1000 := by omega
 have hd : decide ((n : Int) > 1000) = false := by simp; omega
 clear h hl hzz hI hN hn
 obtain ⟨W1, hW⟩ : ∃ W1, W.alloc (.cells #[.slice none 0 0, .slice none 0 0] 26) = W1 := ⟨_, rfl⟩
 have V4 : Hid (VB W1 W.heap.size (.slice none 0 0) (.slice none 0 0)) := by rw [← hW]; exact vb_top rfl (Ext.refl _)
 have HX : Hid (Ext W W1) := by rw [← hW]; exact (Ext.refl _).alloc _
 have HW : Hid (W.alloc (.cells #[.slice none 0 0, .slice none 0 0] 26) = W1) := hW
 clear hW
 go_enter Tryd.func7, Tryd.ntmps7
 go_upto_region 3 with fail
 rw [HW.out]
 clear hI0 hd
 refine wp_region_held_drew (S := fun _ => True) (by kernel_rfl) ?_ (fun hHeld0 => ?_)
 · trivial
 refine wpAnyH_take (i := 0) (oi := ⟨some 15, .move (.tmp 0), 22, "column.go:38", #[], none⟩) (v := ?_) rfl (by kernel_rfl) (by kernel_rfl) (by kernel_rfl) (fun _ _ _ h => h) (Or.inl ⟨by rfl, ?_⟩) (by assumption) ?_
 rotate_left
 · intro w hSw; (try dsimp only at hSw); first | (go_simp; done) | (go_simp; with_reducible rfl)
 try simp only [Act.put, List.setIfInBounds_toArray, List.set_cons_zero, List.set_cons_succ]
 refine wpAnyH_take (i := 1) (oi := ⟨some 16, .call { callee := .builtin .len, args := #[.tmp 15], argTypes := #[22] }, 3, "column.go:38", #[⟨0, .data⟩], none⟩) (v := ?_) rfl (by kernel_rfl) (by kernel_rfl) (by kernel_rfl) (fun _ _ _ h => h) (Or.inl ⟨by rfl, ?_⟩) (by assumption) ?_
 rotate_left
 · intro w hSw; (try dsimp only at hSw); first | (go_simp; done) | (go_simp; with_reducible rfl)
 try simp only [Act.put, List.setIfInBounds_toArray, List.set_cons_zero, List.set_cons_succ]
 refine wpAnyH_take (i := 3) (oi := ⟨some 18, .move (.tmp 0), 22, "column.go:38", #[], none⟩) (v := ?_) rfl (by kernel_rfl) (by kernel_rfl) (by kernel_rfl) (fun _ _ _ h => h) (Or.inl ⟨by rfl, ?_⟩) (by assumption) ?_
 rotate_left
 · intro w hSw; (try dsimp only at hSw); first | (go_simp; done) | (go_simp; with_reducible rfl)
 try simp only [Act.put, List.setIfInBounds_toArray, List.set_cons_zero, List.set_cons_succ]
 refine wpAnyH_take (i := 4) (oi := ⟨some 19, .call { callee := .builtin .len, args := #[.tmp 18], argTypes := #[22] }, 3, "column.go:38", #[⟨3, .data⟩], none⟩) (v := ?_) rfl (by kernel_rfl) (by kernel_rfl) (by kernel_rfl) (fun _ _ _ h => h) (Or.inl ⟨by rfl, ?_⟩) (by assumption) ?_
 rotate_left
 · intro w hSw; (try dsimp only at hSw); first | (go_simp; done) | (go_simp; with_reducible rfl)
 try simp only [Act.put, List.setIfInBounds_toArray, List.set_cons_zero, List.set_cons_succ]
 refine wpAnyH_letter (fun A0 hA0 => ?_)
 refine any_free_gen (l0 := #[true, true, false, true, true, false, false, false, false]) (lf := #[true, true, true, true, true, true, true, true, false]) ⟨[2, 5, 6, 7], [], (fun _ => none), (fun j => match j with | 2 => some 2 | 5 => some 3 | 7 => some 26 | _ => none), (fun j => match j with | 2 => 6 | 5 => 6 | _ => 1000)⟩ (by kernel_rfl) (by kernel_rfl) 1 W1.drew _ (mkA [(2, 17), (5, 20), (6, 21), (7, 6)] A0) (fun j x w => match j with | 2 => Made 2 n W1.heap.size x w | 5 => Made 3 n W1.heap.size x w | 6 => ∃ u v, x = .agg #[u, v] ∧ Made 2 n W1.heap.size u w ∧ Made 3 n W1.heap.size v w | 7 => MadeV W1.heap.size x w | _ => True) ?h01 (by assumption) ?hS ?hall ?hfin (fun j => match j with | 2 => A0.tmps.getD 17 undef | 5 => A0.tmps.getD 20 undef | 6 => A0.tmps.getD 21 undef | 7 => A0.tmps.getD 6 undef | _ => undef) ?hpre ?hX _ (by kernel_rfl)
 case h01 => exact Ext.refl _
 case hX => subst hA0; kernel_rfl
 case hS => intro i hi w w' hw e hg; trivial
 case hall =>
   subst hA0
   refine AllS.cons (o := ⟨some 17, .makeSlice 23 (.tmp 16) (.tmp 16), 23, "column.go:38", #[⟨1, .data⟩, ⟨1, .data⟩], none⟩) rfl rfl (fun _ _ => by kernel_rfl) (fun _ _ _ h e => h.ext e) (fun _ _ _ _ _ h ht e => h.keep (fun hh => ht hh) e) (fun X w' hE hSw hX => ?_) ?_
   · exact rt_make (B := W1.heap.size) (n := n) (make_i64 n (by have := HL.out; omega)) rfl (by kernel_rfl) (by kernel_rfl) hE hE.size
   refine AllS.cons (o := ⟨some 20, .makeSlice 24 (.tmp 19) (.tmp 19), 24, "column.go:38", #[⟨4, .data⟩, ⟨4, .data⟩], none⟩) rfl rfl (fun _ _ => by kernel_rfl) (fun _ _ _ h e => h.ext e) (fun _ _ _ _ _ h ht e => h.keep (fun hh => ht hh) e) (fun X w' hE hSw hX => ?_) ?_
   · exact rt_make (B := W1.heap.size) (n := n) (make_int n (by have := HL.out; omega)) rfl (by kernel_rfl) (by kernel_rfl) hE hE.size
   refine AllS.cons (o := ⟨some 21, .build 26 #[(0, .tmp 17), (1, .tmp 20)], 26, "column.go:38", #[⟨2, .data⟩, ⟨5, .data⟩], none⟩) rfl rfl (fun _ _ => by kernel_rfl) (fun _ _ _ h e => by obtain ⟨u, v, h1, h2, h3⟩ := h; exact ⟨u, v, h1, h2.ext e, h3.ext e⟩) (fun _ _ _ _ hT => by have h : true = false := hT.symm.trans (by kernel_rfl); cases h) (fun X w' hE hSw hX => ?_) ?_
   · have f2 : Made 2 n W1.heap.size (X 2) w' := hX 2 (by kernel_rfl)
     have f5 : Made 3 n W1.heap.size (X 5) w' := hX 5 (by kernel_rfl)
     have q2 := f2
     have q5 := f5
     obtain ⟨g2, h2, _⟩ := f2
     obtain ⟨g5, h5, _⟩ := f5
     refine .inl ⟨.agg #[X 2, X 5], w', ?_, hE, Ext.refl _, X 2, X 5, rfl, q2, q5⟩
     rw [h2, h5]
     exact run_vec_of rfl (by rw [← h2]; kernel_rfl) (by rw [← h5]; kernel_rfl)
   refine AllS.cons (o := ⟨some 6, .alloc 26, 0, "column.go:38", #[], none⟩) rfl rfl (fun _ _ => by kernel_rfl) (fun _ _ _ h e => h.ext e) (fun _ _ _ _ _ h ht e => h.keep (fun hh => ht hh) e) (fun X w' hE hSw hX => ?_) ?_
   · exact rt_alloc (B := W1.heap.size) rfl hE hE.size
   exact AllS.nil
 case hpre =>
   exact AllP.nil
 case hfin =>
   intro X w' n' hE hSw hX
   subst hA0
   obtain ⟨u2, u5, h6, f2, f5⟩ : ∃ u v, X 6 = .agg #[u, v] ∧ Made 2 n W1.heap.size u w' ∧ Made 3 n W1.heap.size v w' := hX 6 (by kernel_rfl)
   have f7 : MadeV W1.heap.size (X 7) w' := hX 7 (by kernel_rfl)
   obtain ⟨g2, rfl, hb2, m2⟩ := f2
   obtain ⟨g5, rfl, hb5, m5⟩ := f5
   obtain ⟨g7, h7, hb7, m7⟩ := f7
   clear hX
   try simp only [mkA, List.foldl_cons, List.foldl_nil, Act.put, List.setIfInBounds_toArray, List.set_cons_zero, List.set_cons_succ]
   rw [h6, h7]
   clear h6 h7
   generalize X 2 = x2
   generalize X 5 = x5
   have d25 : g2 ≠ g5 := by intro e; subst e; rw [m2] at m5; simp at m5
   have d27 : g2 ≠ g7 := by intro e; subst e; unfold VB at m7; rw [m2] at m7; simp at m7
   have d57 : g5 ≠ g7 := by intro e; subst e; unfold VB at m7; rw [m5] at m7; simp at m7
   have hw1 : W.heap.size < W1.heap.size := V4.out.lt
   have HG : Hid (g2 ≠ g5 ∧ g2 ≠ g7 ∧ g5 ≠ g7 ∧ W.heap.size < g2 ∧ W.heap.size < g5 ∧ W.heap.size < g7) := ⟨d25, d27, d57, by omega, by omega, by omega⟩
   have C2 : CelI w' g2 (List.replicate n 0) := zI_celi m2
   have C5 : CelI w' g5 (List.replicate n 0) := zI_celi m5
   have X9 : Ext W w' := HX.out.trans ((Ext.refl _).drew.trans hE)
   have V9 : VB w' W.heap.size (.slice none 0 0) (.slice none 0 0) := V4.out.ext ((Ext.refl _).drew.trans hE)
   have M7 := m7
   clear m2 m5 hE d25 d27 d57 hw1 hb2 hb5 hb7 hHeld0 hSw
   obtain ⟨_, ⟨j0, j1⟩, g0, g1⟩ := M7.blk
   refine wpAnyH_ready (rs := [8]) (by kernel_rfl) (by simp) ?_
   refine AllReadyH.cons (o := ⟨none, .store 26 (.tmp 6) (.tmp 21), 0, "column.go:38", #[⟨7, .data⟩, ⟨6, .data⟩, ⟨0, .phase⟩, ⟨1, .phase⟩, ⟨2, .phase⟩, ⟨3, .phase⟩, ⟨4, .phase⟩, ⟨5, .phase⟩, ⟨6, .phase⟩, ⟨7, .phase⟩], none⟩) rfl (fun K hK => ?_) AllReadyH.nil
   go_simp
   try go_wp2_with fail
   refine hK.out _ _ ?_ (fun hHeld0 => ?_)
   · (try dsimp only); all_goals trivial
   clear hK K
   refine wpAnyH_done (by kernel_rfl) ?_ _
   have Q7 := m7.set (.slice (some ⟨g2, 0, none⟩) n n) (.slice (some ⟨g5, 0, none⟩) n n)
   have Q2 := (C2.far1 (b := g7) (o := 0) HG.out.2.1.symm (.slice (some ⟨g2, 0, none⟩) n n)).far1 (b := g7) (o := 1) HG.out.2.1.symm (.slice (some ⟨g5, 0, none⟩) n n)
   have Q5 := (C5.far1 (b := g7) (o := 0) HG.out.2.2.1.symm (.slice (some ⟨g2, 0, none⟩) n n)).far1 (b := g7) (o := 1) HG.out.2.2.1.symm (.slice (some ⟨g5, 0, none⟩) n n)
   have QX := (X9.setCell (p := ⟨g7, 0, none⟩) (by have := HG.out; (try dsimp only); omega) (.slice (some ⟨g2, 0, none⟩) n n)).setCell (p := ⟨g7, 1, none⟩) (by have := HG.out; (try dsimp only); omega) (.slice (some ⟨g5, 0, none⟩) n n)
   have Q4 := (V9.far (c := g7) (o := 0) (by have := HG.out; omega) (.slice (some ⟨g2, 0, none⟩) n n)).far (c := g7) (o := 1) (by have := HG.out; omega) (.slice (some ⟨g5, 0, none⟩) n n)
   clear C2 C5 X9 V9 M7 m7 j0 j1 g0 g1 hHeld0
   generalize (w'.setCell ⟨g7, 0, none⟩ (.slice (some ⟨g2, 0, none⟩) n n)).setCell ⟨g7, 1, none⟩ (.slice (some ⟨g5, 0, none⟩) n n) = W2 at *
   go_wp2_with fail
   go_loopw [24, 7] (fun iv pv wr => ∃ j : Nat, iv = .int .i64 (j : Int) ∧ j ≤ n ∧ pv = .bool (plainL (l.take j)) ∧ Ext W wr ∧ CelI wr g2 (fillI (lnN area l) j) ∧ CelI wr g5 (fillI (lnE area l) j) ∧ VB wr g7 (.slice (some ⟨g2, 0, none⟩) n n) (.slice (some ⟨g5, 0, none⟩) n n) ∧ VB wr W.heap.size (.slice none 0 0) (.slice none 0 0)) (fun iv _ _ => n - (intOf iv).toNat)
   case atStart =>
     refine ⟨0, rfl, Nat.zero_le _, rfl, QX, ?_, ?_, Q7, Q4⟩
     · rw [fill_zero, (ln_len area l).1, HL.out.1]; exact Q2
     · rw [fill_zero, (ln_len area l).2, HL.out.1]; exact Q5
   case round =>
     obtain ⟨j, rfl, hj, rfl, hE, h2, h5, h7, h4⟩ := hrel
     have HE : Hid (Ext W wr) := hE
     have H2 : Hid (CelI wr g2 (fillI (lnN area l) j)) := h2
     have H5 : Hid (CelI wr g5 (fillI (lnE area l) j)) := h5
     have H7 : Hid (VB wr g7 (.slice (some ⟨g2, 0, none⟩) n n) (.slice (some ⟨g5, 0, none⟩) n n)) := h7
     have H4 : Hid (VB wr W.heap.size (.slice none 0 0) (.slice none 0 0)) := h4
     clear hE h2 h5 h7 h4
     by_cases hlt : j < n
     · have hltI : (j : Int) < (n : Int) := by omega
       obtain ⟨b, off, r, hp, hr, hb, hbW, k0, k1, k2, k3⟩ := (HR.out.low HE.out).at (i := j) (by have := HL.out; omega)
       subst hp
       have hrI : I64 r.n := HI.out r (List.mem_of_getElem? hr)
       have hv : r.v.ok := nm_ok r.k r.n r.s r.e hrI
       have c0 : ∀ w, Nm w → Calls Tryd.prog 20 #[.agg #[.int .i64 r.k, .int .i64 r.n, .string r.s, .int .i64 r.e]] w fun e w' => e = .returned r.v.dat ∧ Ext w w' := fun w h => vnormal_any r.k r.n r.s r.e w h
       have c1 := fun w => isplain_any r.v w
       have c2 := fun w h => asnum_any r.v hv area w h
       rw [dat_eq (laneV r.v area)] at c2
       obtain ⟨q0, q1, q2, q3, hq⟩ := dat4 r.v
       rw [hq] at c0 c1 c2
       have LN : Hid ((lnN area l)[j]? = some (laneV r.v area).n) := by show _ = _; simp [lnN, hr]
       have LE : Hid ((lnE area l)[j]? = some (laneV r.v area).e) := by show _ = _; simp [lnE, hr]
       have LP : Hid (plainL (l.take (j + 1)) = (plainL (l.take j) && plB r.v)) := plain_step hr
       generalize (laneV r.v area).k = z0 at *
       generalize (laneV r.v area).n = z1 at *
       generalize (laneV r.v area).s = z2 at *
       generalize (laneV r.v area).e = z3 at *
       generalize plB r.v = pb at *
       generalize r.k = rk at *
       generalize r.n = rn at *
       generalize r.s = rs at *
       generalize r.e = re at *
       have WK : Hid (wrap64 ((j : Int) + 1) = ((j + 1 : Nat) : Int)) := wrapC j (by have := HL.out; omega)
       have HJ : Hid (j < n) := hlt
       have G2 : Hid ((fillI (lnN area l) j)[j]? = some 0) := fill_at (by rw [(ln_len area l).1]; have := HL.out; omega)
       have G5 : Hid ((fillI (lnE area l) j)[j]? = some 0) := fill_at (by rw [(ln_len area l).2]; have := HL.out; omega)
       clear hr hb hbW hrI hv hq hlt hj
       generalize hpl : plainL (l.take j) = pl at *
       have hN0 : Nm (wr.alloc (.cells #[.int .i64 rk, .int .i64 rn, .string rs, .int .i64 re] 33)) := HN.out.ext (HE.out.alloc _)
       go_wp2_with fail
       refine (c0 _ hN0).mono ?_
       rintro e1 w1 ⟨rfl, E1⟩
       have T9 := blk_top (b := wr.heap.size) rfl E1
       obtain ⟨_, ⟨b0, b1, b2, b3⟩, f0, f1, f2, f3⟩ := T9
       have X1 : Ext wr w1 := ((Ext.refl _).alloc _).trans E1
       have T8 : Blk ((((w1.setCell ⟨wr.heap.size, 0, none⟩ (.int .i64 q0)).setCell ⟨wr.heap.size, 1, none⟩ (.int .i64 q1)).setCell ⟨wr.heap.size, 2, none⟩ (.string q2)).setCell ⟨wr.heap.size, 3, none⟩ (.int .i64 q3)) wr.heap.size (.int .i64 q0) (.int .i64 q1) (.string q2) (.int .i64 q3) := Blk.set (blk_top (b := wr.heap.size) rfl E1) _ _ _ _
       have X8 : Ext wr ((((w1.setCell ⟨wr.heap.size, 0, none⟩ (.int .i64 q0)).setCell ⟨wr.heap.size, 1, none⟩ (.int .i64 q1)).setCell ⟨wr.heap.size, 2, none⟩ (.string q2)).setCell ⟨wr.heap.size, 3, none⟩ (.int .i64 q3)) := (((X1.setCell (by simp) _).setCell (by simp) _).setCell (by simp) _).setCell (by simp) _
       clear c0 hN0 E1 X1 k0 k1 k2 k3
       go_upto_region 9 with fail
       clear b0 b1 b2 b3 f0 f1 f2 f3
       generalize (((w1.setCell ⟨wr.heap.size, 0, none⟩ (.int .i64 q0)).setCell ⟨wr.heap.size, 1, none⟩ (.int .i64 q1)).setCell ⟨wr.heap.size, 2, none⟩ (.string q2)).setCell ⟨wr.heap.size, 3, none⟩ (.int .i64 q3) = W8 at *
       obtain ⟨_, ⟨b0, b1, b2, b3⟩, f0, f1, f2, f3⟩ := T8
       cases pl
       · have LP2 : Hid (plainL (l.take (j + 1)) = false) := by show _ = _; have := LP.out; simpa using this
         have hN8 : Nm W8 := HN.out.ext (HE.out.trans X8)
         clear c1 LP
         go_wp2_with fail
         refine (c2 _ hN8).mono ?_
         rintro e3 w3 ⟨rfl, E3⟩
         have X3 : Ext wr w3 := X8.trans E3
         clear c2 hN8 E3 
         go_wp2_with fail
         have T10 := blk_top (w := w3) (x0 := .int .i64 z0) (x1 := .int .i64 z1) (x2 := .string z2) (x3 := .int .i64 z3) (T := 33) (b := w3.heap.size) rfl (Ext.refl _)
         have X10 : Hid (Ext wr (w3.alloc (.cells #[.int .i64 z0, .int .i64 z1, .string z2, .int .i64 z3] 33))) := X3.alloc _
         have hb10 : g2 ≠ w3.heap.size ∧ g5 ≠ w3.heap.size := ⟨by have := H2.out.lt; have := X3.size; omega, by have := H5.out.lt; have := X3.size; omega⟩
         generalize w3.alloc (.cells #[.int .i64 z0, .int .i64 z1, .string z2, .int .i64 z3] 33) = W10 at *
         generalize w3.heap.size = b10 at *
         have D10 : Hid (g2 ≠ b10 ∧ g5 ≠ b10) := hb10
         obtain ⟨_, ⟨t0, t1, t2, t3⟩, o0, o1, o2, o3⟩ := T10
         obtain ⟨_, ⟨y0, y1⟩, p0, p1⟩ := (H7.out.ext X10.out).blk
         obtain ⟨c2c, c2f⟩ := (H2.out.ext X10.out).c j 0 G2.out
         obtain ⟨c5c, c5f⟩ := (H5.out.ext X10.out).c j 0 G5.out
         have h27 := HG.out.2.1
         have h57 := HG.out.2.2.1
         have h25 := HG.out.1
         have y0a : (W10.drew.setCell ⟨g2, j, none⟩ (.int .i64 z1)).cell? ⟨g7, 0, none⟩ = some (.slice (some ⟨g2, 0, none⟩) n n) := by rw [World.cell?_setCell_far _ _ _ _ h27]; exact y0
         have y1a : (W10.drew.setCell ⟨g2, j, none⟩ (.int .i64 z1)).cell? ⟨g7, 1, none⟩ = some (.slice (some ⟨g5, 0, none⟩) n n) := by rw [World.cell?_setCell_far _ _ _ _ h27]; exact y1
         have t1a : (W10.drew.setCell ⟨g2, j, none⟩ (.int .i64 z1)).cell? ⟨b10, 1, none⟩ = some (.int .i64 z1) := by rw [World.cell?_setCell_far _ _ _ _ D10.out.1]; exact t1
         have t3a : (W10.drew.setCell ⟨g2, j, none⟩ (.int .i64 z1)).cell? ⟨b10, 3, none⟩ = some (.int .i64 z3) := by rw [World.cell?_setCell_far _ _ _ _ D10.out.1]; exact t3
         have c5a : (W10.drew.setCell ⟨g2, j, none⟩ (.int .i64 z1)).cell? ⟨g5, j, none⟩ = some (.int .i64 0) := by rw [World.cell?_setCell_far _ _ _ _ h25]; exact c5c
         have f5a : (W10.drew.setCell ⟨g2, j, none⟩ (.int .i64 z1)).frozen? ⟨g5, j, none⟩ = false := by rw [World.frozen?_setCell]; exact c5f
         have y0b : ((W10.drew.setCell ⟨g2, j, none⟩ (.int .i64 z1)).setCell ⟨g5, j, none⟩ (.int .i64 z3)).cell? ⟨g7, 0, none⟩ = some (.slice (some ⟨g2, 0, none⟩) n n) := by rw [World.cell?_setCell_far _ _ _ _ h57]; exact y0a
         have y1b : ((W10.drew.setCell ⟨g2, j, none⟩ (.int .i64 z1)).setCell ⟨g5, j, none⟩ (.int .i64 z3)).cell? ⟨g7, 1, none⟩ = some (.slice (some ⟨g5, 0, none⟩) n n) := by rw [World.cell?_setCell_far _ _ _ _ h57]; exact y1a
         have t1b : ((W10.drew.setCell ⟨g2, j, none⟩ (.int .i64 z1)).setCell ⟨g5, j, none⟩ (.int .i64 z3)).cell? ⟨b10, 1, none⟩ = some (.int .i64 z1) := by rw [World.cell?_setCell_far _ _ _ _ D10.out.2]; exact t1a
         have t3b : ((W10.drew.setCell ⟨g2, j, none⟩ (.int .i64 z1)).setCell ⟨g5, j, none⟩ (.int .i64 z3)).cell? ⟨b10, 3, none⟩ = some (.int .i64 z3) := by rw [World.cell?_setCell_far _ _ _ _ D10.out.2]; exact t3a
         refine wp_region_held_drew (S := fun w => w.cell? ⟨g7, 0, none⟩ = some (.slice (some ⟨g2, 0, none⟩) n n) ∧ w.cell? ⟨g7, 1, none⟩ = some (.slice (some ⟨g5, 0, none⟩) n n) ∧ w.cell? ⟨b10, 1, none⟩ = some (.int .i64 z1) ∧ w.cell? ⟨b10, 3, none⟩ = some (.int .i64 z3)) (by kernel_rfl) ?_ (fun hHeld0 => ?_)
         · first | exact ⟨y0, y1, t1, t3⟩ | exact ⟨y0a, y1a, t1a, t3a⟩ | exact ⟨y0b, y1b, t1b, t3b⟩
         refine wpAnyH_take (i := 0) (oi := ⟨some 39, .fieldAddr 26 (.tmp 6) 0, 0, "column.go:44", #[], none⟩) (v := ?_) rfl (by kernel_rfl) (by kernel_rfl) (by kernel_rfl) (fun _ _ _ h => h) (Or.inl ⟨by rfl, ?_⟩) (by assumption) ?_
         rotate_left
         · intro w hSw; (try dsimp only at hSw); first | (go_simp; done) | (go_simp; with_reducible rfl)
         try simp only [Act.put, List.setIfInBounds_toArray, List.set_cons_zero, List.set_cons_succ]
         refine wpAnyH_take (i := 1) (oi := ⟨some 40, .load 23 (.tmp 39), 23, "column.go:44", #[⟨0, .data⟩], none⟩) (v := ?_) rfl (by kernel_rfl) (by kernel_rfl) (by kernel_rfl) (fun _ _ _ h => h) (Or.inl ⟨by rfl, ?_⟩) (by assumption) ?_
         rotate_left
         · intro w hSw; (try dsimp only at hSw); first | (go_simp; done) | (go_simp; with_reducible rfl)
         try simp only [Act.put, List.setIfInBounds_toArray, List.set_cons_zero, List.set_cons_succ]
         refine wpAnyH_take (i := 2) (oi := ⟨some 41, .move (.tmp 8), 3, "column.go:44", #[], none⟩) (v := ?_) rfl (by kernel_rfl) (by kernel_rfl) (by kernel_rfl) (fun _ _ _ h => h) (Or.inl ⟨by rfl, ?_⟩) (by assumption) ?_
         rotate_left
         · intro w hSw; (try dsimp only at hSw); first | (go_simp; done) | (go_simp; with_reducible rfl)
         try simp only [Act.put, List.setIfInBounds_toArray, List.set_cons_zero, List.set_cons_succ]
         refine wpAnyH_take (i := 3) (oi := ⟨some 42, .fieldAddr 26 (.tmp 6) 1, 0, "column.go:44", #[{ on := 11, ground := Ground.gcOnly Departure.lateStores }], none⟩) (v := ?_) rfl (by kernel_rfl) (by kernel_rfl) (by kernel_rfl) (fun _ _ _ h => h) (Or.inl ⟨by rfl, ?_⟩) (by assumption) ?_
         rotate_left
         · intro w hSw; (try dsimp only at hSw); first | (go_simp; done) | (go_simp; with_reducible rfl)
         try simp only [Act.put, List.setIfInBounds_toArray, List.set_cons_zero, List.set_cons_succ]
         refine wpAnyH_take (i := 4) (oi := ⟨some 43, .load 24 (.tmp 42), 24, "column.go:44", #[⟨3, .data⟩, { on := 11, ground := Ground.gcOnly Departure.lateStores }], none⟩) (v := ?_) rfl (by kernel_rfl) (by kernel_rfl) (by kernel_rfl) (fun _ _ _ h => h) (Or.inl ⟨by rfl, ?_⟩) (by assumption) ?_
         rotate_left
         · intro w hSw; (try dsimp only at hSw); first | (go_simp; done) | (go_simp; with_reducible rfl)
         try simp only [Act.put, List.setIfInBounds_toArray, List.set_cons_zero, List.set_cons_succ]
         refine wpAnyH_take (i := 5) (oi := ⟨some 44, .move (.tmp 8), 3, "column.go:44", #[{ on := 11, ground := Ground.gcOnly Departure.lateStores }], none⟩) (v := ?_) rfl (by kernel_rfl) (by kernel_rfl) (by kernel_rfl) (fun _ _ _ h => h) (Or.inl ⟨by rfl, ?_⟩) (by assumption) ?_
         rotate_left
         · intro w hSw; (try dsimp only at hSw); first | (go_simp; done) | (go_simp; with_reducible rfl)
         try simp only [Act.put, List.setIfInBounds_toArray, List.set_cons_zero, List.set_cons_succ]
         refine wpAnyH_take (i := 6) (oi := ⟨some 45, .fieldAddr 33 (.tmp 10) 1, 0, "column.go:44", #[], none⟩) (v := ?_) rfl (by kernel_rfl) (by kernel_rfl) (by kernel_rfl) (fun _ _ _ h => h) (Or.inl ⟨by rfl, ?_⟩) (by assumption) ?_
         rotate_left
         · intro w hSw; (try dsimp only at hSw); first | (go_simp; done) | (go_simp; with_reducible rfl)
         try simp only [Act.put, List.setIfInBounds_toArray, List.set_cons_zero, List.set_cons_succ]
         refine wpAnyH_take (i := 7) (oi := ⟨some 46, .load 2 (.tmp 45), 2, "column.go:44", #[⟨6, .data⟩], none⟩) (v := ?_) rfl (by kernel_rfl) (by kernel_rfl) (by kernel_rfl) (fun _ _ _ h => h) (Or.inl ⟨by rfl, ?_⟩) (by assumption) ?_
         rotate_left
         · intro w hSw; (try dsimp only at hSw); first | (go_simp; done) | (go_simp; with_reducible rfl)
         try simp only [Act.put, List.setIfInBounds_toArray, List.set_cons_zero, List.set_cons_succ]
         refine wpAnyH_take (i := 8) (oi := ⟨some 47, .fieldAddr 33 (.tmp 10) 3, 0, "column.go:44", #[{ on := 11, ground := Ground.gcOnly Departure.lateStores }], none⟩) (v := ?_) rfl (by kernel_rfl) (by kernel_rfl) (by kernel_rfl) (fun _ _ _ h => h) (Or.inl ⟨by rfl, ?_⟩) (by assumption) ?_
         rotate_left
         · intro w hSw; (try dsimp only at hSw); first | (go_simp; done) | (go_simp; with_reducible rfl)
         try simp only [Act.put, List.setIfInBounds_toArray, List.set_cons_zero, List.set_cons_succ]
         refine wpAnyH_take (i := 9) (oi := ⟨some 48, .load 3 (.tmp 47), 3, "column.go:44", #[⟨8, .data⟩, { on := 11, ground := Ground.gcOnly Departure.lateStores }], none⟩) (v := ?_) rfl (by kernel_rfl) (by kernel_rfl) (by kernel_rfl) (fun _ _ _ h => h) (Or.inl ⟨by rfl, ?_⟩) (by assumption) ?_
         rotate_left
         · intro w hSw; (try dsimp only at hSw); first | (go_simp; done) | (go_simp; with_reducible rfl)
         try simp only [Act.put, List.setIfInBounds_toArray, List.set_cons_zero, List.set_cons_succ]
         refine wpAnyH_take (i := 10) (oi := ⟨some 49, .indexAddr 23 (.tmp 40) (.tmp 41), 0, "column.go:44", #[⟨1, .data⟩, ⟨2, .data⟩, ⟨0, .phase⟩, ⟨1, .phase⟩, ⟨2, .phase⟩, { on := 3, ground := Ground.textOnly Departure.lateStores }, { on := 4, ground := Ground.textOnly Departure.lateStores }, { on := 5, ground := Ground.textOnly Departure.lateStores }, ⟨6, .phase⟩, ⟨7, .phase⟩, { on := 8, ground := Ground.textOnly Departure.lateStores }, { on := 9, ground := Ground.textOnly Departure.lateStores }], none⟩) (v := ?_) rfl (by kernel_rfl) (by kernel_rfl) (by kernel_rfl) (fun _ _ _ h => h) (Or.inl ⟨by rfl, ?_⟩) (by assumption) ?_
         rotate_left
         · intro w hSw; (try dsimp only at hSw); first | (go_simp; done) | (go_simp; with_reducible rfl)
         try simp only [Act.put, List.setIfInBounds_toArray, List.set_cons_zero, List.set_cons_succ]
         refine wpAnyH_ready (rs := [11]) (by kernel_rfl) (by simp) ?_
         refine AllReadyH.cons (o := ⟨none, .store 2 (.tmp 49) (.tmp 46), 0, "column.go:44", #[⟨10, .data⟩, ⟨7, .data⟩, ⟨0, .phase⟩, ⟨1, .phase⟩, ⟨2, .phase⟩, { on := 3, ground := Ground.textOnly Departure.lateStores }, { on := 4, ground := Ground.textOnly Departure.lateStores }, { on := 5, ground := Ground.textOnly Departure.lateStores }, ⟨6, .phase⟩, ⟨7, .phase⟩, { on := 8, ground := Ground.textOnly Departure.lateStores }, { on := 9, ground := Ground.textOnly Departure.lateStores }], none⟩) rfl (fun K hK => ?_) AllReadyH.nil
         go_simp
   
         try go_wp2_with fail
         refine hK.out _ _ ?_ (fun hHeld1 => ?_)
         · (try dsimp only); first | exact ⟨y0, y1, t1, t3⟩ | exact ⟨y0a, y1a, t1a, t3a⟩ | exact ⟨y0b, y1b, t1b, t3b⟩
         clear hK K hHeld0
         try simp only [Act.put, List.setIfInBounds_toArray, List.set_cons_zero, List.set_cons_succ]
         refine wpAnyH_take (i := 12) (oi := ⟨some 50, .indexAddr 24 (.tmp 43) (.tmp 44), 0, "column.go:44", #[⟨4, .data⟩, ⟨5, .data⟩, ⟨0, .phase⟩, ⟨1, .phase⟩, ⟨2, .phase⟩, ⟨3, .phase⟩, ⟨4, .phase⟩, ⟨5, .phase⟩, ⟨6, .phase⟩, ⟨7, .phase⟩, ⟨8, .phase⟩, ⟨9, .phase⟩, ⟨10, .phase⟩, ⟨11, .phase⟩], none⟩) (v := ?_) rfl (by kernel_rfl) (by kernel_rfl) (by kernel_rfl) (fun _ _ _ h => h) (Or.inl ⟨by rfl, ?_⟩) (by assumption) ?_
         rotate_left
         · intro w hSw; (try dsimp only at hSw); first | (go_simp; done) | (go_simp; with_reducible rfl)
         try simp only [Act.put, List.setIfInBounds_toArray, List.set_cons_zero, List.set_cons_succ]
         refine wpAnyH_ready (rs := [13]) (by kernel_rfl) (by simp) ?_
         refine AllReadyH.cons (o := ⟨none, .store 3 (.tmp 50) (.tmp 48), 0, "column.go:44", #[⟨12, .data⟩, ⟨9, .data⟩, ⟨11, .chain⟩, ⟨0, .phase⟩, ⟨1, .phase⟩, ⟨2, .phase⟩, ⟨3, .phase⟩, ⟨4, .phase⟩, ⟨5, .phase⟩, ⟨6, .phase⟩, ⟨7, .phase⟩, ⟨8, .phase⟩, ⟨9, .phase⟩, ⟨10, .phase⟩, ⟨11, .phase⟩], none⟩) rfl (fun K hK => ?_) AllReadyH.nil
         go_simp
   
         try go_wp2_with fail
         refine hK.out _ _ ?_ (fun hHeld2 => ?_)
         · (try dsimp only); first | exact ⟨y0, y1, t1, t3⟩ | exact ⟨y0a, y1a, t1a, t3a⟩ | exact ⟨y0b, y1b, t1b, t3b⟩
         clear hK K hHeld1
         try simp only [Act.put, List.setIfInBounds_toArray, List.set_cons_zero, List.set_cons_succ]
         refine wpAnyH_done (by kernel_rfl) ?_ _
         have Ed : Ext wr W10.drew := X10.out.drew
         have N2 : CelI ((W10.drew.setCell ⟨g2, j, none⟩ (.int .i64 z1)).setCell ⟨g5, j, none⟩ (.int .i64 z3)) g2 (fillI (lnN area l) (j + 1)) := by
           have := (H2.out.ext Ed).set (List.getElem?_eq_some_iff.1 G2.out).1 z1
           rw [fill_step LN.out] at this
           exact this.far1 HG.out.1.symm _
         have N5 : CelI ((W10.drew.setCell ⟨g2, j, none⟩ (.int .i64 z1)).setCell ⟨g5, j, none⟩ (.int .i64 z3)) g5 (fillI (lnE area l) (j + 1)) := by
           have := ((H5.out.ext Ed).far1 (b := g2) (o := j) HG.out.1 (.int .i64 z1)).set (List.getElem?_eq_some_iff.1 G5.out).1 z3
           rw [fill_step LE.out] at this
           exact this
         have N7 := ((H7.out.ext Ed).far (c := g2) (o := j) HG.out.2.1.symm (.int .i64 z1)).far (c := g5) (o := j) HG.out.2.2.1.symm (.int .i64 z3)
         have N4 := ((H4.out.ext Ed).far (c := g2) (o := j) (by have := HG.out; omega) (.int .i64 z1)).far (c := g5) (o := j) (by have := HG.out; omega) (.int .i64 z3)
         have NX := ((HE.out.trans Ed).setCell (p := ⟨g2, j, none⟩) (by have := HG.out; (try dsimp only); omega) (.int .i64 z1)).setCell (p := ⟨g5, j, none⟩) (by have := HG.out; (try dsimp only); omega) (.int .i64 z3)
         have L2 : Hid (Ext W (((W10.setCell ⟨g2, j, none⟩ (.int .i64 z1)).setCell ⟨g5, j, none⟩ (.int .i64 z3)).drew) ∧ CelI (((W10.setCell ⟨g2, j, none⟩ (.int .i64 z1)).setCell ⟨g5, j, none⟩ (.int .i64 z3)).drew) g2 (fillI (lnN area l) (j + 1)) ∧ CelI (((W10.setCell ⟨g2, j, none⟩ (.int .i64 z1)).setCell ⟨g5, j, none⟩ (.int .i64 z3)).drew) g5 (fillI (lnE area l) (j + 1)) ∧ VB (((W10.setCell ⟨g2, j, none⟩ (.int .i64 z1)).setCell ⟨g5, j, none⟩ (.int .i64 z3)).drew) g7 (.slice (some ⟨g2, 0, none⟩) n n) (.slice (some ⟨g5, 0, none⟩) n n) ∧ VB (((W10.setCell ⟨g2, j, none⟩ (.int .i64 z1)).setCell ⟨g5, j, none⟩ (.int .i64 z3)).drew) W.heap.size (.slice none 0 0) (.slice none 0 0)) := ⟨NX, N2, N5, N7, N4⟩
         clear NX N2 N5 N7 N4 y0 y1 t0 t1 t2 t3 y0a y1a t1a t3a y0b y1b t1b t3b c2c c2f c5c c5f c5a f5a p0 p1 o0 o1 o2 o3 h27 h57 h25 Ed X10 X3 hb10 D10 H2 H5 H7 H4 hltI
         try clear hHeld2
         try clear hHeld1
         try clear hHeld0
         generalize ((W10.setCell ⟨g2, j, none⟩ (.int .i64 z1)).setCell ⟨g5, j, none⟩ (.int .i64 z3)).drew = Wz at *
         have wk := WK.out
         go_wp2_with fail
         go_roundw
         case rel =>
           obtain ⟨NX, N2, N5, N7, N4⟩ := L2.out
           exact ⟨j + 1, by go_num, HJ.out, by rw [LP2.out], NX, N2, N5, N7, N4⟩
         case measure => exact meas_lt (congrArg _ WK.out) HJ.out
       · have LP2 : Hid (plainL (l.take (j + 1)) = pb) := by show _ = _; have := LP.out; simpa using this
         clear LP
         go_wp2_with fail
         refine (c1 _).mono ?_
         rintro e2 w2 ⟨rfl, E2⟩
         have hN8 : Nm w2 := HN.out.ext (HE.out.trans (X8.trans E2))
         have X8b : Ext wr w2 := X8.trans E2
         have kk0 := E2.some b0
         have kk1 := E2.some b1
         have kk2 := E2.some b2
         have kk3 := E2.some b3
         clear c1 E2 b0 b1 b2 b3 f0 f1 f2 f3 X8
         go_wp2_with fail
         refine (c2 _ hN8).mono ?_
         rintro e3 w3 ⟨rfl, E3⟩
         have X3 : Ext wr w3 := X8b.trans E3
         clear c2 hN8 E3 
         go_wp2_with fail
         have T10 := blk_top (w := w3) (x0 := .int .i64 z0) (x1 := .int .i64 z1) (x2 := .string z2) (x3 := .int .i64 z3) (T := 33) (b := w3.heap.size) rfl (Ext.refl _)
         have X10 : Hid (Ext wr (w3.alloc (.cells #[.int .i64 z0, .int .i64 z1, .string z2, .int .i64 z3] 33))) := X3.alloc _
         have hb10 : g2 ≠ w3.heap.size ∧ g5 ≠ w3.heap.size := ⟨by have := H2.out.lt; have := X3.size; omega, by have := H5.out.lt; have := X3.size; omega⟩
         generalize w3.alloc (.cells #[.int .i64 z0, .int .i64 z1, .string z2, .int .i64 z3] 33) = W10 at *
         generalize w3.heap.size = b10 at *
         have D10 : Hid (g2 ≠ b10 ∧ g5 ≠ b10) := hb10
         obtain ⟨_, ⟨t0, t1, t2, t3⟩, o0, o1, o2, o3⟩ := T10
         obtain ⟨_, ⟨y0, y1⟩, p0, p1⟩ := (H7.out.ext X10.out).blk
         obtain ⟨c2c, c2f⟩ := (H2.out.ext X10.out).c j 0 G2.out
         obtain ⟨c5c, c5f⟩ := (H5.out.ext X10.out).c j 0 G5.out
         have h27 := HG.out.2.1
         have h57 := HG.out.2.2.1
         have h25 := HG.out.1
         have y0a : (W10.drew.setCell ⟨g2, j, none⟩ (.int .i64 z1)).cell? ⟨g7, 0, none⟩ = some (.slice (some ⟨g2, 0, none⟩) n n) := by rw [World.cell?_setCell_far _ _ _ _ h27]; exact y0
         have y1a : (W10.drew.setCell ⟨g2, j, none⟩ (.int .i64 z1)).cell? ⟨g7, 1, none⟩ = some (.slice (some ⟨g5, 0, none⟩) n n) := by rw [World.cell?_setCell_far _ _ _ _ h27]; exact y1
         have t1a : (W10.drew.setCell ⟨g2, j, none⟩ (.int .i64 z1)).cell? ⟨b10, 1, none⟩ = some (.int .i64 z1) := by rw [World.cell?_setCell_far _ _ _ _ D10.out.1]; exact t1
         have t3a : (W10.drew.setCell ⟨g2, j, none⟩ (.int .i64 z1)).cell? ⟨b10, 3, none⟩ = some (.int .i64 z3) := by rw [World.cell?_setCell_far _ _ _ _ D10.out.1]; exact t3
         have c5a : (W10.drew.setCell ⟨g2, j, none⟩ (.int .i64 z1)).cell? ⟨g5, j, none⟩ = some (.int .i64 0) := by rw [World.cell?_setCell_far _ _ _ _ h25]; exact c5c
         have f5a : (W10.drew.setCell ⟨g2, j, none⟩ (.int .i64 z1)).frozen? ⟨g5, j, none⟩ = false := by rw [World.frozen?_setCell]; exact c5f
         have y0b : ((W10.drew.setCell ⟨g2, j, none⟩ (.int .i64 z1)).setCell ⟨g5, j, none⟩ (.int .i64 z3)).cell? ⟨g7, 0, none⟩ = some (.slice (some ⟨g2, 0, none⟩) n n) := by rw [World.cell?_setCell_far _ _ _ _ h57]; exact y0a
         have y1b : ((W10.drew.setCell ⟨g2, j, none⟩ (.int .i64 z1)).setCell ⟨g5, j, none⟩ (.int .i64 z3)).cell? ⟨g7, 1, none⟩ = some (.slice (some ⟨g5, 0, none⟩) n n) := by rw [World.cell?_setCell_far _ _ _ _ h57]; exact y1a
         have t1b : ((W10.drew.setCell ⟨g2, j, none⟩ (.int .i64 z1)).setCell ⟨g5, j, none⟩ (.int .i64 z3)).cell? ⟨b10, 1, none⟩ = some (.int .i64 z1) := by rw [World.cell?_setCell_far _ _ _ _ D10.out.2]; exact t1a
         have t3b : ((W10.drew.setCell ⟨g2, j, none⟩ (.int .i64 z1)).setCell ⟨g5, j, none⟩ (.int .i64 z3)).cell? ⟨b10, 3, none⟩ = some (.int .i64 z3) := by rw [World.cell?_setCell_far _ _ _ _ D10.out.2]; exact t3a
         refine wp_region_held_drew (S := fun w => w.cell? ⟨g7, 0, none⟩ = some (.slice (some ⟨g2, 0, none⟩) n n) ∧ w.cell? ⟨g7, 1, none⟩ = some (.slice (some ⟨g5, 0, none⟩) n n) ∧ w.cell? ⟨b10, 1, none⟩ = some (.int .i64 z1) ∧ w.cell? ⟨b10, 3, none⟩ = some (.int .i64 z3)) (by kernel_rfl) ?_ (fun hHeld0 => ?_)
         · first | exact ⟨y0, y1, t1, t3⟩ | exact ⟨y0a, y1a, t1a, t3a⟩ | exact ⟨y0b, y1b, t1b, t3b⟩
         refine wpAnyH_take (i := 0) (oi := ⟨some 39, .fieldAddr 26 (.tmp 6) 0, 0, "column.go:44", #[], none⟩) (v := ?_) rfl (by kernel_rfl) (by kernel_rfl) (by kernel_rfl) (fun _ _ _ h => h) (Or.inl ⟨by rfl, ?_⟩) (by assumption) ?_
         rotate_left
         · intro w hSw; (try dsimp only at hSw); first | (go_simp; done) | (go_simp; with_reducible rfl)
         try simp only [Act.put, List.setIfInBounds_toArray, List.set_cons_zero, List.set_cons_succ]
         refine wpAnyH_take (i := 1) (oi := ⟨some 40, .load 23 (.tmp 39), 23, "column.go:44", #[⟨0, .data⟩], none⟩) (v := ?_) rfl (by kernel_rfl) (by kernel_rfl) (by kernel_rfl) (fun _ _ _ h => h) (Or.inl ⟨by rfl, ?_⟩) (by assumption) ?_
         rotate_left
         · intro w hSw; (try dsimp only at hSw); first | (go_simp; done) | (go_simp; with_reducible rfl)
         try simp only [Act.put, List.setIfInBounds_toArray, List.set_cons_zero, List.set_cons_succ]
         refine wpAnyH_take (i := 2) (oi := ⟨some 41, .move (.tmp 8), 3, "column.go:44", #[], none⟩) (v := ?_) rfl (by kernel_rfl) (by kernel_rfl) (by kernel_rfl) (fun _ _ _ h => h) (Or.inl ⟨by rfl, ?_⟩) (by assumption) ?_
         rotate_left
         · intro w hSw; (try dsimp only at hSw); first | (go_simp; done) | (go_simp; with_reducible rfl)
         try simp only [Act.put, List.setIfInBounds_toArray, List.set_cons_zero, List.set_cons_succ]
         refine wpAnyH_take (i := 3) (oi := ⟨some 42, .fieldAddr 26 (.tmp 6) 1, 0, "column.go:44", #[{ on := 11, ground := Ground.gcOnly Departure.lateStores }], none⟩) (v := ?_) rfl (by kernel_rfl) (by kernel_rfl) (by kernel_rfl) (fun _ _ _ h => h) (Or.inl ⟨by rfl, ?_⟩) (by assumption) ?_
         rotate_left
         · intro w hSw; (try dsimp only at hSw); first | (go_simp; done) | (go_simp; with_reducible rfl)
         try simp only [Act.put, List.setIfInBounds_toArray, List.set_cons_zero, List.set_cons_succ]
         refine wpAnyH_take (i := 4) (oi := ⟨some 43, .load 24 (.tmp 42), 24, "column.go:44", #[⟨3, .data⟩, { on := 11, ground := Ground.gcOnly Departure.lateStores }], none⟩) (v := ?_) rfl (by kernel_rfl) (by kernel_rfl) (by kernel_rfl) (fun _ _ _ h => h) (Or.inl ⟨by rfl, ?_⟩) (by assumption) ?_
         rotate_left
         · intro w hSw; (try dsimp only at hSw); first | (go_simp; done) | (go_simp; with_reducible rfl)
         try simp only [Act.put, List.setIfInBounds_toArray, List.set_cons_zero, List.set_cons_succ]
         refine wpAnyH_take (i := 5) (oi := ⟨some 44, .move (.tmp 8), 3, "column.go:44", #[{ on := 11, ground := Ground.gcOnly Departure.lateStores }], none⟩) (v := ?_) rfl (by kernel_rfl) (by kernel_rfl) (by kernel_rfl) (fun _ _ _ h => h) (Or.inl ⟨by rfl, ?_⟩) (by assumption) ?_
         rotate_left
         · intro w hSw; (try dsimp only at hSw); first | (go_simp; done) | (go_simp; with_reducible rfl)
         try simp only [Act.put, List.setIfInBounds_toArray, List.set_cons_zero, List.set_cons_succ]
         refine wpAnyH_take (i := 6) (oi := ⟨some 45, .fieldAddr 33 (.tmp 10) 1, 0, "column.go:44", #[], none⟩) (v := ?_) rfl (by kernel_rfl) (by kernel_rfl) (by kernel_rfl) (fun _ _ _ h => h) (Or.inl ⟨by rfl, ?_⟩) (by assumption) ?_
         rotate_left
         · intro w hSw; (try dsimp only at hSw); first | (go_simp; done) | (go_simp; with_reducible rfl)
         try simp only [Act.put, List.setIfInBounds_toArray, List.set_cons_zero, List.set_cons_succ]
         refine wpAnyH_take (i := 7) (oi := ⟨some 46, .load 2 (.tmp 45), 2, "column.go:44", #[⟨6, .data⟩], none⟩) (v := ?_) rfl (by kernel_rfl) (by kernel_rfl) (by kernel_rfl) (fun _ _ _ h => h) (Or.inl ⟨by rfl, ?_⟩) (by assumption) ?_
         rotate_left
         · intro w hSw; (try dsimp only at hSw); first | (go_simp; done) | (go_simp; with_reducible rfl)
         try simp only [Act.put, List.setIfInBounds_toArray, List.set_cons_zero, List.set_cons_succ]
         refine wpAnyH_take (i := 8) (oi := ⟨some 47, .fieldAddr 33 (.tmp 10) 3, 0, "column.go:44", #[{ on := 11, ground := Ground.gcOnly Departure.lateStores }], none⟩) (v := ?_) rfl (by kernel_rfl) (by kernel_rfl) (by kernel_rfl) (fun _ _ _ h => h) (Or.inl ⟨by rfl, ?_⟩) (by assumption) ?_
         rotate_left
         · intro w hSw; (try dsimp only at hSw); first | (go_simp; done) | (go_simp; with_reducible rfl)
         try simp only [Act.put, List.setIfInBounds_toArray, List.set_cons_zero, List.set_cons_succ]
         refine wpAnyH_take (i := 9) (oi := ⟨some 48, .load 3 (.tmp 47), 3, "column.go:44", #[⟨8, .data⟩, { on := 11, ground := Ground.gcOnly Departure.lateStores }], none⟩) (v := ?_) rfl (by kernel_rfl) (by kernel_rfl) (by kernel_rfl) (fun _ _ _ h => h) (Or.inl ⟨by rfl, ?_⟩) (by assumption) ?_
         rotate_left
         · intro w hSw; (try dsimp only at hSw); first | (go_simp; done) | (go_simp; with_reducible rfl)
         try simp only [Act.put, List.setIfInBounds_toArray, List.set_cons_zero, List.set_cons_succ]
         refine wpAnyH_take (i := 10) (oi := ⟨some 49, .indexAddr 23 (.tmp 40) (.tmp 41), 0, "column.go:44", #[⟨1, .data⟩, ⟨2, .data⟩, ⟨0, .phase⟩, ⟨1, .phase⟩, ⟨2, .phase⟩, { on := 3, ground := Ground.textOnly Departure.lateStores }, { on := 4, ground := Ground.textOnly Departure.lateStores }, { on := 5, ground := Ground.textOnly Departure.lateStores }, ⟨6, .phase⟩, ⟨7, .phase⟩, { on := 8, ground := Ground.textOnly Departure.lateStores }, { on := 9, ground := Ground.textOnly Departure.lateStores }], none⟩) (v := ?_) rfl (by kernel_rfl) (by kernel_rfl) (by kernel_rfl) (fun _ _ _ h => h) (Or.inl ⟨by rfl, ?_⟩) (by assumption) ?_
         rotate_left
         · intro w hSw; (try dsimp only at hSw); first | (go_simp; done) | (go_simp; with_reducible rfl)
         try simp only [Act.put, List.setIfInBounds_toArray, List.set_cons_zero, List.set_cons_succ]
         refine wpAnyH_ready (rs := [11]) (by kernel_rfl) (by simp) ?_
         refine AllReadyH.cons (o := ⟨none, .store 2 (.tmp 49) (.tmp 46), 0, "column.go:44", #[⟨10, .data⟩, ⟨7, .data⟩, ⟨0, .phase⟩, ⟨1, .phase⟩, ⟨2, .phase⟩, { on := 3, ground := Ground.textOnly Departure.lateStores }, { on := 4, ground := Ground.textOnly Departure.lateStores }, { on := 5, ground := Ground.textOnly Departure.lateStores }, ⟨6, .phase⟩, ⟨7, .phase⟩, { on := 8, ground := Ground.textOnly Departure.lateStores }, { on := 9, ground := Ground.textOnly Departure.lateStores }], none⟩) rfl (fun K hK => ?_) AllReadyH.nil
         go_simp
   
         try go_wp2_with fail
         refine hK.out _ _ ?_ (fun hHeld1 => ?_)
         · (try dsimp only); first | exact ⟨y0, y1, t1, t3⟩ | exact ⟨y0a, y1a, t1a, t3a⟩ | exact ⟨y0b, y1b, t1b, t3b⟩
         clear hK K hHeld0
         try simp only [Act.put, List.setIfInBounds_toArray, List.set_cons_zero, List.set_cons_succ]
         refine wpAnyH_take (i := 12) (oi := ⟨some 50, .indexAddr 24 (.tmp 43) (.tmp 44), 0, "column.go:44", #[⟨4, .data⟩, ⟨5, .data⟩, ⟨0, .phase⟩, ⟨1, .phase⟩, ⟨2, .phase⟩, ⟨3, .phase⟩, ⟨4, .phase⟩, ⟨5, .phase⟩, ⟨6, .phase⟩, ⟨7, .phase⟩, ⟨8, .phase⟩, ⟨9, .phase⟩, ⟨10, .phase⟩, ⟨11, .phase⟩], none⟩) (v := ?_) rfl (by kernel_rfl) (by kernel_rfl) (by kernel_rfl) (fun _ _ _ h => h) (Or.inl ⟨by rfl, ?_⟩) (by assumption) ?_
         rotate_left
         · intro w hSw; (try dsimp only at hSw); first | (go_simp; done) | (go_simp; with_reducible rfl)
         try simp only [Act.put, List.setIfInBounds_toArray, List.set_cons_zero, List.set_cons_succ]
         refine wpAnyH_ready (rs := [13]) (by kernel_rfl) (by simp) ?_
         refine AllReadyH.cons (o := ⟨none, .store 3 (.tmp 50) (.tmp 48), 0, "column.go:44", #[⟨12, .data⟩, ⟨9, .data⟩, ⟨11, .chain⟩, ⟨0, .phase⟩, ⟨1, .phase⟩, ⟨2, .phase⟩, ⟨3, .phase⟩, ⟨4, .phase⟩, ⟨5, .phase⟩, ⟨6, .phase⟩, ⟨7, .phase⟩, ⟨8, .phase⟩, ⟨9, .phase⟩, ⟨10, .phase⟩, ⟨11, .phase⟩], none⟩) rfl (fun K hK => ?_) AllReadyH.nil
         go_simp
   
         try go_wp2_with fail
         refine hK.out _ _ ?_ (fun hHeld2 => ?_)
         · (try dsimp only); first | exact ⟨y0, y1, t1, t3⟩ | exact ⟨y0a, y1a, t1a, t3a⟩ | exact ⟨y0b, y1b, t1b, t3b⟩
         clear hK K hHeld1
         try simp only [Act.put, List.setIfInBounds_toArray, List.set_cons_zero, List.set_cons_succ]
         refine wpAnyH_done (by kernel_rfl) ?_ _
         have Ed : Ext wr W10.drew := X10.out.drew
         have N2 : CelI ((W10.drew.setCell ⟨g2, j, none⟩ (.int .i64 z1)).setCell ⟨g5, j, none⟩ (.int .i64 z3)) g2 (fillI (lnN area l) (j + 1)) := by
           have := (H2.out.ext Ed).set (List.getElem?_eq_some_iff.1 G2.out).1 z1
           rw [fill_step LN.out] at this
           exact this.far1 HG.out.1.symm _
         have N5 : CelI ((W10.drew.setCell ⟨g2, j, none⟩ (.int .i64 z1)).setCell ⟨g5, j, none⟩ (.int .i64 z3)) g5 (fillI (lnE area l) (j + 1)) := by
           have := ((H5.out.ext Ed).far1 (b := g2) (o := j) HG.out.1 (.int .i64 z1)).set (List.getElem?_eq_some_iff.1 G5.out).1 z3
           rw [fill_step LE.out] at this
           exact this
         have N7 := ((H7.out.ext Ed).far (c := g2) (o := j) HG.out.2.1.symm (.int .i64 z1)).far (c := g5) (o := j) HG.out.2.2.1.symm (.int .i64 z3)
         have N4 := ((H4.out.ext Ed).far (c := g2) (o := j) (by have := HG.out; omega) (.int .i64 z1)).far (c := g5) (o := j) (by have := HG.out; omega) (.int .i64 z3)
         have NX := ((HE.out.trans Ed).setCell (p := ⟨g2, j, none⟩) (by have := HG.out; (try dsimp only); omega) (.int .i64 z1)).setCell (p := ⟨g5, j, none⟩) (by have := HG.out; (try dsimp only); omega) (.int .i64 z3)
         have L2 : Hid (Ext W (((W10.setCell ⟨g2, j, none⟩ (.int .i64 z1)).setCell ⟨g5, j, none⟩ (.int .i64 z3)).drew) ∧ CelI (((W10.setCell ⟨g2, j, none⟩ (.int .i64 z1)).setCell ⟨g5, j, none⟩ (.int .i64 z3)).drew) g2 (fillI (lnN area l) (j + 1)) ∧ CelI (((W10.setCell ⟨g2, j, none⟩ (.int .i64 z1)).setCell ⟨g5, j, none⟩ (.int .i64 z3)).drew) g5 (fillI (lnE area l) (j + 1)) ∧ VB (((W10.setCell ⟨g2, j, none⟩ (.int .i64 z1)).setCell ⟨g5, j, none⟩ (.int .i64 z3)).drew) g7 (.slice (some ⟨g2, 0, none⟩) n n) (.slice (some ⟨g5, 0, none⟩) n n) ∧ VB (((W10.setCell ⟨g2, j, none⟩ (.int .i64 z1)).setCell ⟨g5, j, none⟩ (.int .i64 z3)).drew) W.heap.size (.slice none 0 0) (.slice none 0 0)) := ⟨NX, N2, N5, N7, N4⟩
         clear NX N2 N5 N7 N4 y0 y1 t0 t1 t2 t3 y0a y1a t1a t3a y0b y1b t1b t3b c2c c2f c5c c5f c5a f5a p0 p1 o0 o1 o2 o3 h27 h57 h25 Ed X10 X3 hb10 D10 H2 H5 H7 H4 hltI
         try clear hHeld2
         try clear hHeld1
         try clear hHeld0
         generalize ((W10.setCell ⟨g2, j, none⟩ (.int .i64 z1)).setCell ⟨g5, j, none⟩ (.int .i64 z3)).drew = Wz at *
         have wk := WK.out
         go_wp2_with fail
         go_roundw
         case rel =>
           obtain ⟨NX, N2, N5, N7, N4⟩ := L2.out
           exact ⟨j + 1, by go_num, HJ.out, by rw [LP2.out], NX, N2, N5, N7, N4⟩
         case measure => exact meas_lt (congrArg _ WK.out) HJ.out
     · have hltI : ¬ (j : Int) < (n : Int) := by omega
       have hjn : j = n := by omega
       have R2 : Hid (RdI wr (.slice (some ⟨g2, 0, none⟩) n n) (lnN area l)) := by
         have := H2.out
         rw [show j = (lnN area l).length by rw [(ln_len area l).1, HL.out.1, hjn], fill_full] at this
         exact this.rd (by rw [(ln_len area l).1, HL.out.1])
       have R5 : Hid (RdI wr (.slice (some ⟨g5, 0, none⟩) n n) (lnE area l)) := by
         have := H5.out
         rw [show j = (lnE area l).length by rw [(ln_len area l).2, HL.out.1, hjn], fill_full] at this
         exact this.rd (by rw [(ln_len area l).2, HL.out.1])
       have RP : Hid (plainL (l.take j) = plainL l) := by show _ = _; rw [List.take_of_length_le (by rw [HL.out.1]; omega)]
       clear hj hlt hjn H2 H5
       obtain ⟨_, ⟨y0, y1⟩, p0, p1⟩ := H7.out.blk
       obtain ⟨_, ⟨j0, j1⟩, g0, g1⟩ := H4.out.blk
       generalize plainL (l.take j) = pl at RP ⊢
       go_wp2_with fail
       have hlt4 := H4.out.lt
       refine fin2 (.tuple #[.agg #[(.slice (some ⟨g2, 0, none⟩) n n), (.slice (some ⟨g5, 0, none⟩) n n)], .bool pl]) (H4.out.blk.set _ _) rfl ((HE.out.setCell (by (try dsimp only); omega) _).setCell (by (try dsimp only); omega) _) (fun g0 g1 => by simp [results, Tryd.results7, go_sem, g0, g1]) (fun h => ⟨_, _, by rw [RP.out], ?_, ?_, h⟩)
       · exact R2.out.far2 HG.out.2.2.2.1 _ _
       · exact R5.out.far2 HG.out.2.2.2.2.1 _ _

open Go

section
variable {P : Program} {ops : Array Oper} {Q : Exit → Act → World → Prop} {md : Region.Mode} {B : Nat → Bool} {S : World → Prop}

/-- Whichever order is picked from here on; S holds behind each operation that is not of the bar. -/
def wpBar (P : Program) (md : Region.Mode) (ops : Array Oper) (Q : Exit → Act → World → Prop) (B : Nat → Bool) (S : World → Prop) : Nat → Array Bool → Act → World → Prop
 | 0, l, a, w => Region.ready md ops l = [] ∧ Q .normal a w
 | n + 1, l, a, w => (Region.ready md ops l = [] → Q .normal a w) ∧ ∀ i ∈ Region.ready md ops l, wpOp P ops Q i (fun x v => (B i = false → S v) ∧ wpBar P md ops Q B S n (l.setIfInBounds i true) x v) a w
theorem any_of_bar : ∀ (n : Nat) (l : Array Bool) (a : Act) (w : World), wpBar P md ops Q B S n l a w → wpAny P md ops Q n l a w
 | 0, _, _, _, h => h
 | n + 1, _, _, _, h => ⟨h.1, fun i hi => wpOp_mono (fun x v k => any_of_bar n _ x v k.2) (h.2 i hi)⟩
/-- The bar waits for operation i, by itself or by one that has not come up and waits for i. -/
def Waits (md : Region.Mode) (ops : Array Oper) (B : Nat → Bool) (i : Nat) (l : Array Bool) : Prop :=
 ∀ j o, ops[j]? = some o → B j = true → ∃ e ∈ o.after, Region.binds md e = true ∧ (e.on = i ∨ (l.getD e.on true = false ∧ ∃ k, ops[e.on]? = some k ∧ ∃ e' ∈ k.after, Region.binds md e' = true ∧ e'.on = i))
def waitsB (md : Region.Mode) (ops : Array Oper) (B : Nat → Bool) (i : Nat) (l : Array Bool) : Bool :=
 (List.range ops.size).all fun j => !B j || (match ops[j]? with
   | none => true
   | some o => o.after.any fun e => Region.binds md e && (e.on == i || (!l.getD e.on true && (match ops[e.on]? with
     | none => false
     | some k => k.after.any fun e' => Region.binds md e' && e'.on == i))))
theorem waits_of {i : Nat} {l : Array Bool} (h : waitsB md ops B i l = true) : Waits md ops B i l := by
 intro j o ho hb
 have hj : j < ops.size := by
   rcases Nat.lt_or_ge j ops.size with h' | h'
   · exact h'
   · rw [Array.getElem?_eq_none h'] at ho; cases ho
 have h1 := List.all_eq_true.1 h j (List.mem_range.2 hj)
 rw [hb, ho] at h1
 simp only [Bool.not_true, Bool.false_or] at h1
 obtain ⟨e, he, h2⟩ := Array.any_eq_true'.1 h1
 simp only [Bool.and_eq_true, Bool.or_eq_true, beq_iff_eq, Bool.not_eq_true'] at h2
 refine ⟨e, he, h2.1, ?_⟩
 rcases h2.2 with h3 | ⟨h3, h4⟩
 · exact .inl h3
 · cases hk : ops[e.on]? with
   | none => rw [hk] at h4; cases h4
   | some k =>
     rw [hk] at h4
     obtain ⟨e', he', h5⟩ := Array.any_eq_true'.1 h4
     simp only [Bool.and_eq_true, beq_iff_eq] at h5
     exact .inr ⟨h3, k, rfl, e', he', h5.1, h5.2⟩
theorem lst {l : Array Bool} {k : Nat} (h : l.getD k false = true) : ¬ l.getD k true = false := by
 rcases Nat.lt_or_ge k l.size with h' | h'
 · simp [h'] at h ⊢; exact h
 · simp [Array.getElem?_eq_none h'] at h
/-- What is ready beside i is not of the bar; and the bar waits for i still when it has come up. -/
theorem bar_no {i j : Nat} {l : Array Bool} (hW : Waits md ops B i l) (hi : i ∈ Region.ready md ops l) (hj : j ∈ Region.ready md ops l) : B j = false := by
 obtain ⟨_, o, ho, hall⟩ := mem_ready.1 hj
 have hu := (mem_ready.1 hi).1
 cases hb : B j
 · rfl
 · obtain ⟨e, he, hbe, h | ⟨h, _⟩⟩ := hW j o ho hb
   · exact absurd hu (lst (by rw [← h]; exact hall e he hbe))
   · exact absurd h (lst (hall e he hbe))
theorem Waits.step {i j : Nat} {l : Array Bool} (hW : Waits md ops B i l) (hi : i ∈ Region.ready md ops l) (hj : j ∈ Region.ready md ops l) : Waits md ops B i (l.setIfInBounds j true) := by
 intro k o ho hb
 obtain ⟨_, oj, hoj, hall⟩ := mem_ready.1 hj
 have hu := (mem_ready.1 hi).1
 obtain ⟨e, he, hbe, h | ⟨h, m, hm, e', he', hb', h'⟩⟩ := hW k o ho hb
 · exact ⟨e, he, hbe, .inl h⟩
 · refine ⟨e, he, hbe, .inr ⟨?_, m, hm, e', he', hb', h'⟩⟩
   have hne : j ≠ e.on := by
     intro hje
     rw [← hje, hoj] at hm
     obtain rfl := Option.some.inj hm
     exact absurd hu (lst (by rw [← h']; exact hall e' he' hb'))
   rw [getD_set_ne true hne]; exact h
theorem bar_first {i : Nat} {oi : Oper} {v : Value} (hi : ops[i]? = some oi) (hsel : ∀ (j : Nat) (o : Oper) cs b, ops[j]? = some o → o.op ≠ .select cs b)
   (hQ : ∀ c a w, Q (.panic c) (a.put oi.dst v) w → Q (.panic c) a w) : ∀ (n : Nat) (l : Array Bool) (a : Act) (w : World),
     (∀ j oj, ops[j]? = some oj → j ≠ i → l.getD j true = false → (∀ e ∈ oj.after, Region.binds md e = true → e.on ≠ i) → oi.apart ops oj = true) →
     Waits md ops B i l → i ∈ Region.ready md ops l → YieldsIf P ops S oi v a → S w →
     wpBar P md ops Q B S n (l.setIfInBounds i true) (a.put oi.dst v) w → wpBar P md ops Q B S (n + 1) l a w := by
 intro n
 induction n with
 | zero =>
   intro l a w _ _ hr hy hS H
   refine ⟨fun h => (by rw [h] at hr; cases hr), fun j hj => ?_⟩
   by_cases hji : j = i
   · subst hji; exact hy.wpOp hi hS ⟨fun _ => hS, H⟩
   · have := ready_mono hj hji
     rw [H.1] at this
     cases this
 | succ n ih =>
   intro l a w hfree hW hr hy hS H
   refine ⟨fun h => (by rw [h] at hr; cases hr), fun j hj => ?_⟩
   by_cases hji : j = i
   · subst hji; exact hy.wpOp hi hS ⟨fun _ => hS, H⟩
   · have hB := bar_no hW hr hj
     obtain ⟨hun, oj, hoj, hall⟩ := mem_ready.1 hj
     have hno : ∀ e ∈ oj.after, Region.binds md e = true → e.on ≠ i := fun e he hb heq => absurd (mem_ready.1 hr).1 (lst (by rw [← heq]; exact hall e he hb))
     have step := wpOp_putIf hoj (hfree j oj hoj hji hun hno) (fun cs b => hsel i oi cs b hi) (fun cs b => hsel j oj cs b hoj) hQ hy (H.2 j (ready_mono hj hji))
     refine wpOp_mono (fun x u k => ?_) step
     have hSu := k.2.1 hB
     refine ⟨fun _ => hSu, ih _ x u (fun m om hm hmi hmun hmno => hfree m om hm hmi ?_ hmno) (hW.step hr hj) (ready_mono hr (Ne.symm hji)) k.1 hSu ?_⟩
     · by_cases hjm : j = m
       · subst hjm; exact hun
       · rw [getD_set_ne true hjm] at hmun; exact hmun
     · rw [Array.setIfInBounds_comm _ _ hji]; exact k.2.2
/-! ### The moves -/
theorem bar_take {i : Nat} {oi : Oper} {v : Value} {n : Nat} {l : Array Bool} {a : Act} {w : World} (hi : ops[i]? = some oi) (hs : Region.noSelect ops = true) (hf : Region.free md ops l i = true)
   (hr : (Region.ready md ops l).contains i = true) (hw : waitsB md ops B i l = true) (hQ : ∀ c a w, Q (.panic c) (a.put oi.dst v) w → Q (.panic c) a w) (hy : YieldsIf P ops S oi v a) (hS : S w)
   (h : wpBar P md ops Q B S n (l.setIfInBounds i true) (a.put oi.dst v) w) : wpBar P md ops Q B S (n + 1) l a w :=
 bar_first hi (Region.noSelect_spec hs) hQ n l a w (Region.free_spec hi hf) (waits_of hw) (by simpa using hr) hy hS h
theorem bar_one {i : Nat} {o : Oper} {n : Nat} {l : Array Bool} {a : Act} {w : World} (hr : Region.ready md ops l = [i]) (ho : ops[i]? = some o)
   (h : ∀ K : Act → World → Prop, Shut (∀ a w, (B i = false → S w) → wpBar P md ops Q B S n (l.setIfInBounds i true) a w → K a w) → if Region.wanted o (yielded ops a.tmps) = true then Oper.wp P o a w K Q else K (a.put o.dst undef) w) :
   wpBar P md ops Q B S (n + 1) l a w := by
 refine ⟨fun h0 => (by rw [hr] at h0; cases h0), fun j hj => ?_⟩
 rw [hr] at hj
 obtain rfl : j = i := by simpa using hj
 exact wpOp_step ho fun K hK => h K fun a w hS hW => hK a w ⟨hS, hW⟩
theorem bar_done {l : Array Bool} {a : Act} {w : World} (hr : Region.ready md ops l = []) (h : Q .normal a w) : ∀ n, wpBar P md ops Q B S n l a w
 | 0 => ⟨hr, h⟩
 | _ + 1 => ⟨fun _ => h, by rw [hr]; simp⟩
theorem bar_begin {id : Nat} {a : Act} {w : World} (hm : P.follows .mixedOrders = true) (h : wpBar P .any ops Q B S ops.size (Array.replicate ops.size false) a w.drew) : (Code.region id ops true).wp P Q a w :=
 wp_region_any hm (any_of_bar _ _ _ _ h)
end

open Go.RowKit
set_option maxHeartbeats 4000000

/-- The document's Put: a lane as a value. -/
theorem rput_lane (W : World) (a b : Value) (N E : List Int) (u : V) (hu : (∃ n, u = .num n ∧ I64 n ∧ canB n = true) ∨ (∃ e, u = .err e ∧ 1 ≤ e ∧ e ≤ 5)) (ha : RdI W a N) (hb : RdI W b E) (hn : N.length ≤ 1000000) (hm : E.length ≤ 1000000) :
   Calls Tryd.prog 24 #[.agg #[a, b], u.dat] W fun r w' => ∃ p q, r = .returned (.agg #[p, q]) ∧ VecO W.heap.size w' p q (N ++ [u.n]) (E ++ [u.e]) ∧ Ext W w' := by
 rcases hu with ⟨n, rfl, _⟩ | ⟨e, rfl, _⟩
 · exact rput_num W a b N E n ha hb hn hm
 · exact rput_err W a b N E e ha hb hn hm
theorem fld_k19 (k n : Int) (s : ByteArray) (e : Int) (W : World) : (Instr.field 33 (.agg #[.int .i64 k, .int .i64 n, .string s, .int .i64 e]) 0).run Tryd.prog W = .ok (.int .i64 k) W := by kernel_rfl
theorem rof_long (W : World) (a : Value) (l : List Rw) (area : Bool) (h : RdV W.heap.size W a l) (hl : 1000 < l.length) :
   Calls Tryd.prog 8 #[a, .bool area] W fun r w' => r = .returned (.tuple #[.agg #[.slice none 0 0, .slice none 0 0], .bool false]) ∧ Ext W w' := by
 obtain ⟨p, n, cp, rfl, hn, hzz⟩ := h.form
 rw [← hn] at hl
 have hI : (n : Int) > 1000 := by omega
 have hd : decide ((n : Int) > 1000) = true := by simp; omega
 clear hl hzz hn h
 have V0 := (vb_top (w := W) (x := .slice none 0 0) (y := .slice none 0 0) rfl (Ext.refl _)).blk
 obtain ⟨_, ⟨j0, j1⟩, g0, g1⟩ := V0
 have V1 := (vb_top (w := W) (x := .slice none 0 0) (y := .slice none 0 0) rfl (Ext.refl _)).blk
 go_enter Tryd.func8, Tryd.ntmps8
 go_wp2_with fail
 exact fin2 _ V1 rfl ((Ext.refl _).alloc _) (fun g0 g1 => by simp [results, Tryd.results8, go_sem, g0, g1]) (fun h => ⟨rfl, h⟩)
set_option maxRecDepth 100000 in
theorem rof_any (W : World) (a : Value) (l : List Rw) (area : Bool) (h : RdV W.heap.size W a l) (hI : ∀ r ∈ l, I64 r.n) (hl : l.length ≤ 1000) :
   Calls Tryd.prog 8 #[a, .bool area] W fun r w' => ∃ u v, r = .returned (.tuple #[.agg #[u, v], .bool (plainL l)]) ∧ RdI w' u (lnN area l) ∧ RdI w' v (lnE area l) ∧ Ext W w' := by
 obtain ⟨p, n, cp, rfl, hn, hzz⟩ := h.form
 have HR : Hid (RdV W.heap.size W (.slice p n cp) l) := h
 have HL : Hid (l.length = n ∧ n ≤ 1000) := ⟨hn.symm, by omega⟩
 have HI : Hid (∀ r ∈ l, I64 r.n) := hI
 have hI0 : ¬ (n : Int) > 1000 := by omega
 have hd : decide ((n : Int) > 1000) = false := by simp; omega
 clear h hl hzz hI hn
 have W0a : Ext W ((W.alloc (.cells #[.slice none 0 0, .slice none 0 0] 26)).alloc (.cells #[.slice none 0 0, .slice none 0 0] 26)) := ((Ext.refl _).alloc _).alloc _
 have V0a : VB ((W.alloc (.cells #[.slice none 0 0, .slice none 0 0] 26)).alloc (.cells #[.slice none 0 0, .slice none 0 0] 26)) W.heap.size (.slice none 0 0) (.slice none 0 0) := vb_top rfl ((Ext.refl _).alloc _)
 have V0b : VB ((W.alloc (.cells #[.slice none 0 0, .slice none 0 0] 26)).alloc (.cells #[.slice none 0 0, .slice none 0 0] 26)) (W.heap.size + 1) (.slice none 0 0) (.slice none 0 0) := vb_top (by simp) (Ext.refl _)
 go_enter Tryd.func8, Tryd.ntmps8
 go_wp2_with fail
 clear hI0 hd
 go_loopw [8, 7] (fun iv pv wr => ∃ j : Nat, iv = .int .i64 (j : Int) ∧ j ≤ n ∧ pv = .bool (plainL (l.take j)) ∧ Ext W wr ∧ VB wr W.heap.size (.slice none 0 0) (.slice none 0 0) ∧ ∃ u v, VB wr (W.heap.size + 1) u v ∧ VecO (W.heap.size + 1 + 1) wr u v ((lnN area l).take j) ((lnE area l).take j)) (fun iv _ _ => n - (intOf iv).toNat)
 case atStart => exact ⟨0, rfl, Nat.zero_le _, rfl, W0a, V0a, _, _, V0b, ⟨by simp, .inl ⟨rfl, by simp⟩⟩, ⟨by simp, .inl ⟨rfl, by simp⟩⟩⟩
 case round =>
   obtain ⟨j, rfl, hj, rfl, hE, h4, u, v, h6, hO⟩ := hrel
   have HE : Hid (Ext W wr) := hE
   have H4 : Hid (VB wr W.heap.size (.slice none 0 0) (.slice none 0 0)) := h4
   clear hE h4
   by_cases hlt : j < n
   · have hltI : (j : Int) < (n : Int) := by omega
     have lj1 : ((lnN area l).take j).length = j := by rw [List.length_take, (ln_len area l).1, HL.out.1]; omega
     have lj2 : ((lnE area l).take j).length = j := by rw [List.length_take, (ln_len area l).2, HL.out.1]; omega
     obtain ⟨p1, c1, hu, hz1⟩ := own_form hO.1
     obtain ⟨p2, c2, hv0, hz2⟩ := own_form hO.2
     rw [lj1] at hu
     rw [lj2] at hv0
     subst hu hv0
     clear hz1 hz2
     have HO : Hid (VecO (W.heap.size + 1 + 1) wr (.slice p1 j c1) (.slice p2 j c2) ((lnN area l).take j) ((lnE area l).take j)) := hO
     have H6 : Hid (VB wr (W.heap.size + 1) (.slice p1 j c1) (.slice p2 j c2)) := h6
     clear hO h6
     obtain ⟨b, off, r, hp, hr, hb, hbW, k0, k1, k2, k3⟩ := (HR.out.low HE.out).at (i := j) (by have := HL.out; omega)
     subst hp
     have hrI : I64 r.n := HI.out r (List.mem_of_getElem? hr)
     have hv : r.v.ok := nm_ok r.k r.n r.s r.e hrI
     have c0 : ∀ w, Calls Tryd.prog 23 #[.agg #[.int .i64 r.k, .int .i64 r.n, .string r.s, .int .i64 r.e]] w fun e w' => e = .returned r.v.dat ∧ Ext w w' := fun w => rnormal_any r.k r.n r.s r.e w
     have cL : ∀ w, Calls Tryd.prog 12 #[.agg #[.int .i64 r.k, .int .i64 r.n, .string r.s, .int .i64 r.e], .bool area] w fun e w' => e = .returned (laneV r.v area).dat ∧ Ext w w' := fun w => rlane_any r.k r.n r.s r.e hrI area w
     have cP := fun w (e : Ext wr w) => rput_lane w (.slice p1 j c1) (.slice p2 j c2) ((lnN area l).take j) ((lnE area l).take j) (laneV r.v area) (laneV_cases hv area) (HO.out.rd1.ext e) (HO.out.rd2.ext e) (by rw [lj1]; have := HL.out; omega) (by rw [lj2]; have := HL.out; omega)
     have LN : (lnN area l)[j]? = some (laneV r.v area).n := by simp [lnN, hr]
     have LE : (lnE area l)[j]? = some (laneV r.v area).e := by simp [lnE, hr]
     have HS : Hid ((lnN area l).take j ++ [(laneV r.v area).n] = (lnN area l).take (j + 1) ∧ (lnE area l).take j ++ [(laneV r.v area).e] = (lnE area l).take (j + 1)) := ⟨(take_at LN).symm, (take_at LE).symm⟩
     have HP : Hid (((lnN area l).take j ++ [(laneV r.v area).n]).length = j + 1 ∧ ((lnE area l).take j ++ [(laneV r.v area).e]).length = j + 1) := ⟨by rw [List.length_append, lj1]; rfl, by rw [List.length_append, lj2]; rfl⟩
     have LP : Hid (plainL (l.take (j + 1)) = (plainL (l.take j) && (r.v.k == 0 || r.v.k == 2))) := plain_step hr
     rw [dat_eq r.v] at c0
     rw [dat_eq (laneV r.v area)] at cL cP
     generalize (laneV r.v area).k = z0 at *
     generalize (laneV r.v area).n = z1 at *
     generalize (laneV r.v area).s = z2 at *
     generalize (laneV r.v area).e = z3 at *
     generalize r.v.k = vk at *
     generalize r.v.n = vn at *
     generalize r.v.s = vs at *
     generalize r.v.e = ve at *
     generalize r.k = rk at *
     generalize r.n = rn at *
     generalize r.s = rs at *
     generalize r.e = re at *
     have WK : Hid (wrap64 ((j : Int) + 1) = ((j + 1 : Nat) : Int)) := wrapC j (by have := HL.out; omega)
     have HJ : Hid (j < n) := hlt
     clear hr hb hbW hrI hv hlt hj lj1 lj2 LN LE
     generalize hpl : plainL (l.take j) = pl at *
     go_wp2_with fail
     refine (c0 _).mono ?_
     rintro e1 w0 ⟨rfl, E0⟩
     have X0 : Ext wr w0 := E0
     have fk := fld_k19 vk vn vs ve
     clear c0 E0
     cases pl
     · have LP2 : Hid (plainL (l.take (j + 1)) = false) := by show _ = _; have := LP.out; simpa using this
       clear LP
       go_wp2_with fail
       have H8 : Hid (Ext wr w0) := X0
       have V6 : Hid (VB w0 (W.heap.size + 1) (.slice p1 j c1) (.slice p2 j c2)) := H6.out.ext X0
       have V4 : Hid (VB w0 W.heap.size (.slice none 0 0) (.slice none 0 0)) := H4.out.ext X0
       obtain ⟨_, ⟨y0, y1⟩, q0, q1⟩ := V6.out.blk
       have k0 := X0.some k0
       have k1 := X0.some k1
       have k2 := X0.some k2
       have k3 := X0.some k3
       have HEW : Hid (Ext W w0) := HE.out.trans X0
       clear X0 H6 H4 HO HE
       refine bar_begin (B := fun i => i == 8) (S := fun w => w.cell? ⟨W.heap.size + 1, 0, none⟩ = some (.slice p1 j c1) ∧ w.cell? ⟨W.heap.size + 1, 1, none⟩ = some (.slice p2 j c2) ∧ w.cell? ⟨b, off + j * 4, none⟩ = some (.int .i64 rk) ∧ w.cell? ⟨b, off + j * 4 + 1, none⟩ = some (.int .i64 rn) ∧ w.cell? ⟨b, off + j * 4 + 2, none⟩ = some (.string rs) ∧ w.cell? ⟨b, off + j * 4 + 3, none⟩ = some (.int .i64 re)) (by kernel_rfl) ?_
       have hHeld0 : w0.drew.cell? ⟨W.heap.size + 1, 0, none⟩ = some (.slice p1 j c1) ∧ w0.drew.cell? ⟨W.heap.size + 1, 1, none⟩ = some (.slice p2 j c2) ∧ w0.drew.cell? ⟨b, off + j * 4, none⟩ = some (.int .i64 rk) ∧ w0.drew.cell? ⟨b, off + j * 4 + 1, none⟩ = some (.int .i64 rn) ∧ w0.drew.cell? ⟨b, off + j * 4 + 2, none⟩ = some (.string rs) ∧ w0.drew.cell? ⟨b, off + j * 4 + 3, none⟩ = some (.int .i64 re) := ⟨y0, y1, k0, k1, k2, k3⟩
       refine bar_take (i := 0) (oi := ⟨some 36, .load 26 (.tmp 6), 26, "ref.go:55", #[], none⟩) (v := ?_) rfl (by kernel_rfl) (by kernel_rfl) (by kernel_rfl) (by kernel_rfl) (fun _ _ _ h => h) (Or.inl ⟨by rfl, ?_⟩) (by assumption) ?_
       rotate_left
       · intro w hSw; (try dsimp only at hSw); first | (go_simp; done) | (go_simp; with_reducible rfl)
       try simp only [Act.put, List.setIfInBounds_toArray, List.set_cons_zero, List.set_cons_succ]
       refine bar_take (i := 1) (oi := ⟨some 37, .move (.tmp 0), 22, "ref.go:55", #[], none⟩) (v := ?_) rfl (by kernel_rfl) (by kernel_rfl) (by kernel_rfl) (by kernel_rfl) (fun _ _ _ h => h) (Or.inl ⟨by rfl, ?_⟩) (by assumption) ?_
       rotate_left
       · intro w hSw; (try dsimp only at hSw); first | (go_simp; done) | (go_simp; with_reducible rfl)
       try simp only [Act.put, List.setIfInBounds_toArray, List.set_cons_zero, List.set_cons_succ]
       refine bar_take (i := 2) (oi := ⟨some 38, .move (.tmp 8), 3, "ref.go:55", #[], none⟩) (v := ?_) rfl (by kernel_rfl) (by kernel_rfl) (by kernel_rfl) (by kernel_rfl) (fun _ _ _ h => h) (Or.inl ⟨by rfl, ?_⟩) (by assumption) ?_
       rotate_left
       · intro w hSw; (try dsimp only at hSw); first | (go_simp; done) | (go_simp; with_reducible rfl)
       try simp only [Act.put, List.setIfInBounds_toArray, List.set_cons_zero, List.set_cons_succ]
       refine bar_take (i := 3) (oi := ⟨some 39, .indexAddr 22 (.tmp 37) (.tmp 38), 0, "ref.go:55", #[⟨1, .data⟩, ⟨2, .data⟩], none⟩) (v := ?_) rfl (by kernel_rfl) (by kernel_rfl) (by kernel_rfl) (by kernel_rfl) (fun _ _ _ h => h) (Or.inl ⟨by rfl, ?_⟩) (by assumption) ?_
       rotate_left
       · intro w hSw; (try dsimp only at hSw); first | (go_simp; done) | (go_simp; with_reducible rfl)
       try simp only [Act.put, List.setIfInBounds_toArray, List.set_cons_zero, List.set_cons_succ]
       refine bar_take (i := 4) (oi := ⟨some 40, .load 33 (.tmp 39), 33, "ref.go:55", #[⟨3, .data⟩], none⟩) (v := ?_) rfl (by kernel_rfl) (by kernel_rfl) (by kernel_rfl) (by kernel_rfl) (fun _ _ _ h => h) (Or.inl ⟨by rfl, ?_⟩) (by assumption) ?_
       rotate_left
       · intro w hSw; (try dsimp only at hSw); first | (go_simp; done) | (go_simp; with_reducible rfl)
       try simp only [Act.put, List.setIfInBounds_toArray, List.set_cons_zero, List.set_cons_succ]
       refine bar_take (i := 5) (oi := ⟨some 41, .move (.tmp 1), 4, "ref.go:55", #[], none⟩) (v := ?_) rfl (by kernel_rfl) (by kernel_rfl) (by kernel_rfl) (by kernel_rfl) (fun _ _ _ h => h) (Or.inl ⟨by rfl, ?_⟩) (by assumption) ?_
       rotate_left
       · intro w hSw; (try dsimp only at hSw); first | (go_simp; done) | (go_simp; with_reducible rfl)
       try simp only [Act.put, List.setIfInBounds_toArray, List.set_cons_zero, List.set_cons_succ]
       refine bar_one (i := 6) (o := ⟨some 42, .call { callee := .value (.func 12), args := #[.tmp 40, .tmp 41], argTypes := #[33, 4] }, 33, "ref.go:55", #[⟨4, .data⟩, ⟨5, .data⟩], none⟩) (by kernel_rfl) rfl ?_
       intro K hK
       go_simp
       refine (cL _).mono ?_; rintro r1 w1 ⟨rfl, E1⟩; have X1 : Ext w0 w1 := (Ext.refl _).drew.trans E1
       try go_wp2_with fail
       have hHeld1 : _ := (⟨X1.some y0, X1.some y1, X1.some k0, X1.some k1, X1.some k2, X1.some k3⟩ : w1.cell? ⟨W.heap.size + 1, 0, none⟩ = some (.slice p1 j c1) ∧ w1.cell? ⟨W.heap.size + 1, 1, none⟩ = some (.slice p2 j c2) ∧ w1.cell? ⟨b, off + j * 4, none⟩ = some (.int .i64 rk) ∧ w1.cell? ⟨b, off + j * 4 + 1, none⟩ = some (.int .i64 rn) ∧ w1.cell? ⟨b, off + j * 4 + 2, none⟩ = some (.string rs) ∧ w1.cell? ⟨b, off + j * 4 + 3, none⟩ = some (.int .i64 re))
       refine hK.out _ _ (fun _ => hHeld1) ?_
       clear hK K
       try simp only [Act.put, List.setIfInBounds_toArray, List.set_cons_zero, List.set_cons_succ]
       refine bar_one (i := 7) (o := ⟨some 43, .call { callee := .value (.func 24), args := #[.tmp 36, .tmp 42], argTypes := #[26, 33] }, 26, "ref.go:55", #[⟨0, .data⟩, ⟨6, .data⟩, ⟨6, .chain⟩], none⟩) (by kernel_rfl) rfl ?_
       intro K hK
       go_simp
       refine (cP _ (H8.out.trans X1)).mono ?_; rintro r2 w2 ⟨u1, u2, rfl, O2, E2⟩; have X2 : Ext w0 w2 := X1.trans E2; obtain ⟨p3, c3, h3, hz3⟩ := own_form O2.1; obtain ⟨p4, c4, h4, hz4⟩ := own_form O2.2; rw [HP.out.1] at h3; rw [HP.out.2] at h4; subst h3 h4; clear hz3 hz4; obtain ⟨_, ⟨x0, x1⟩, g0, g1⟩ := (V6.out.ext X2).blk
       try go_wp2_with fail
       have hHeld2 : _ := (⟨X2.some y0, X2.some y1, X2.some k0, X2.some k1, X2.some k2, X2.some k3⟩ : w2.cell? ⟨W.heap.size + 1, 0, none⟩ = some (.slice p1 j c1) ∧ w2.cell? ⟨W.heap.size + 1, 1, none⟩ = some (.slice p2 j c2) ∧ w2.cell? ⟨b, off + j * 4, none⟩ = some (.int .i64 rk) ∧ w2.cell? ⟨b, off + j * 4 + 1, none⟩ = some (.int .i64 rn) ∧ w2.cell? ⟨b, off + j * 4 + 2, none⟩ = some (.string rs) ∧ w2.cell? ⟨b, off + j * 4 + 3, none⟩ = some (.int .i64 re))
       refine hK.out _ _ (fun _ => hHeld2) ?_
       clear hK K
       try simp only [Act.put, List.setIfInBounds_toArray, List.set_cons_zero, List.set_cons_succ]
       refine bar_one (i := 8) (o := ⟨none, .store 26 (.tmp 6) (.tmp 43), 0, "ref.go:55", #[⟨7, .data⟩, ⟨7, .chain⟩, ⟨0, .phase⟩, ⟨1, .phase⟩, ⟨2, .phase⟩, ⟨3, .phase⟩, ⟨4, .phase⟩, ⟨5, .phase⟩, ⟨6, .phase⟩, ⟨7, .phase⟩], none⟩) (by kernel_rfl) rfl ?_
       intro K hK
       go_simp
       try go_wp2_with fail
       refine hK.out _ _ (fun h => by cases h) ?_
       clear hK K
       try simp only [Act.put, List.setIfInBounds_toArray, List.set_cons_zero, List.set_cons_succ]
       refine bar_done (by kernel_rfl) ?_ _
       have hsz : W.heap.size + 1 + 1 ≤ w1.heap.size := by have := (V6.out.ext X1).lt; omega
       have O3 : VecO (W.heap.size + 1 + 1) w2 (.slice p3 (j + 1) c3) (.slice p4 (j + 1) c4) ((lnN area l).take (j + 1)) ((lnE area l).take (j + 1)) := by
         have := O2.low hsz
         rw [HS.out.1, HS.out.2] at this
         exact this
       have N1 : VecO (W.heap.size + 1 + 1) ((w2.setCell ⟨W.heap.size + 1, 0, none⟩ (.slice p3 (j + 1) c3)).setCell ⟨W.heap.size + 1, 1, none⟩ (.slice p4 (j + 1) c4)) (.slice p3 (j + 1) c3) (.slice p4 (j + 1) c4) ((lnN area l).take (j + 1)) ((lnE area l).take (j + 1)) := ⟨own_off (own_off O3.1 (by omega) _) (by omega) _, own_off (own_off O3.2 (by omega) _) (by omega) _⟩
       have N6 : VB ((w2.setCell ⟨W.heap.size + 1, 0, none⟩ (.slice p3 (j + 1) c3)).setCell ⟨W.heap.size + 1, 1, none⟩ (.slice p4 (j + 1) c4)) (W.heap.size + 1) (.slice p3 (j + 1) c3) (.slice p4 (j + 1) c4) := (V6.out.ext X2).set _ _
       have N4 : VB ((w2.setCell ⟨W.heap.size + 1, 0, none⟩ (.slice p3 (j + 1) c3)).setCell ⟨W.heap.size + 1, 1, none⟩ (.slice p4 (j + 1) c4)) W.heap.size (.slice none 0 0) (.slice none 0 0) := ((V4.out.ext X2).far (by omega) _).far (by omega) _
       have NX : Ext W ((w2.setCell ⟨W.heap.size + 1, 0, none⟩ (.slice p3 (j + 1) c3)).setCell ⟨W.heap.size + 1, 1, none⟩ (.slice p4 (j + 1) c4)) := ((HEW.out.trans X2).setCell (by (try dsimp only); omega) _).setCell (by (try dsimp only); omega) _
       have L2 : Hid (_ ∧ _ ∧ _ ∧ _) := ⟨NX, N4, N6, N1⟩
       clear hltI NX N4 N6 N1 O3 O2 X1 X2 E1 E2 hsz x0 x1 g0 g1 y0 y1 q0 q1 k0 k1 k2 k3 hHeld0 hHeld1 hHeld2 cL cP V4 V6 H8
       generalize (w2.setCell ⟨W.heap.size + 1, 0, none⟩ (.slice p3 (j + 1) c3)).setCell ⟨W.heap.size + 1, 1, none⟩ (.slice p4 (j + 1) c4) = Wz at *
       have wk := WK.out
       go_wp2_with fail
       go_roundw
       case rel =>
         obtain ⟨NX, N4, N6, N1⟩ := L2.out
         exact ⟨j + 1, by go_num, HJ.out, by rw [LP2.out], NX, N4, _, _, N6, N1⟩
       case measure => exact meas_lt (congrArg _ WK.out) HJ.out
     · by_cases hk0 : vk = 0
       · have LP2 : Hid (plainL (l.take (j + 1)) = true) := by show _ = _; have := LP.out; simpa [hk0] using this
         have hq0 : (vk == 0) = true := by simp [hk0]
         clear LP hk0
         go_wp2_with fail
         have H8 : Hid (Ext wr w0) := X0
         have V6 : Hid (VB w0 (W.heap.size + 1) (.slice p1 j c1) (.slice p2 j c2)) := H6.out.ext X0
         have V4 : Hid (VB w0 W.heap.size (.slice none 0 0) (.slice none 0 0)) := H4.out.ext X0
         obtain ⟨_, ⟨y0, y1⟩, q0, q1⟩ := V6.out.blk
         have k0 := X0.some k0
         have k1 := X0.some k1
         have k2 := X0.some k2
         have k3 := X0.some k3
         have HEW : Hid (Ext W w0) := HE.out.trans X0
         clear X0 H6 H4 HO HE
         refine bar_begin (B := fun i => i == 8) (S := fun w => w.cell? ⟨W.heap.size + 1, 0, none⟩ = some (.slice p1 j c1) ∧ w.cell? ⟨W.heap.size + 1, 1, none⟩ = some (.slice p2 j c2) ∧ w.cell? ⟨b, off + j * 4, none⟩ = some (.int .i64 rk) ∧ w.cell? ⟨b, off + j * 4 + 1, none⟩ = some (.int .i64 rn) ∧ w.cell? ⟨b, off + j * 4 + 2, none⟩ = some (.string rs) ∧ w.cell? ⟨b, off + j * 4 + 3, none⟩ = some (.int .i64 re)) (by kernel_rfl) ?_
         have hHeld0 : w0.drew.cell? ⟨W.heap.size + 1, 0, none⟩ = some (.slice p1 j c1) ∧ w0.drew.cell? ⟨W.heap.size + 1, 1, none⟩ = some (.slice p2 j c2) ∧ w0.drew.cell? ⟨b, off + j * 4, none⟩ = some (.int .i64 rk) ∧ w0.drew.cell? ⟨b, off + j * 4 + 1, none⟩ = some (.int .i64 rn) ∧ w0.drew.cell? ⟨b, off + j * 4 + 2, none⟩ = some (.string rs) ∧ w0.drew.cell? ⟨b, off + j * 4 + 3, none⟩ = some (.int .i64 re) := ⟨y0, y1, k0, k1, k2, k3⟩
         refine bar_take (i := 0) (oi := ⟨some 36, .load 26 (.tmp 6), 26, "ref.go:55", #[], none⟩) (v := ?_) rfl (by kernel_rfl) (by kernel_rfl) (by kernel_rfl) (by kernel_rfl) (fun _ _ _ h => h) (Or.inl ⟨by rfl, ?_⟩) (by assumption) ?_
         rotate_left
         · intro w hSw; (try dsimp only at hSw); first | (go_simp; done) | (go_simp; with_reducible rfl)
         try simp only [Act.put, List.setIfInBounds_toArray, List.set_cons_zero, List.set_cons_succ]
         refine bar_take (i := 1) (oi := ⟨some 37, .move (.tmp 0), 22, "ref.go:55", #[], none⟩) (v := ?_) rfl (by kernel_rfl) (by kernel_rfl) (by kernel_rfl) (by kernel_rfl) (fun _ _ _ h => h) (Or.inl ⟨by rfl, ?_⟩) (by assumption) ?_
         rotate_left
         · intro w hSw; (try dsimp only at hSw); first | (go_simp; done) | (go_simp; with_reducible rfl)
         try simp only [Act.put, List.setIfInBounds_toArray, List.set_cons_zero, List.set_cons_succ]
         refine bar_take (i := 2) (oi := ⟨some 38, .move (.tmp 8), 3, "ref.go:55", #[], none⟩) (v := ?_) rfl (by kernel_rfl) (by kernel_rfl) (by kernel_rfl) (by kernel_rfl) (fun _ _ _ h => h) (Or.inl ⟨by rfl, ?_⟩) (by assumption) ?_
         rotate_left
         · intro w hSw; (try dsimp only at hSw); first | (go_simp; done) | (go_simp; with_reducible rfl)
         try simp only [Act.put, List.setIfInBounds_toArray, List.set_cons_zero, List.set_cons_succ]
         refine bar_take (i := 3) (oi := ⟨some 39, .indexAddr 22 (.tmp 37) (.tmp 38), 0, "ref.go:55", #[⟨1, .data⟩, ⟨2, .data⟩], none⟩) (v := ?_) rfl (by kernel_rfl) (by kernel_rfl) (by kernel_rfl) (by kernel_rfl) (fun _ _ _ h => h) (Or.inl ⟨by rfl, ?_⟩) (by assumption) ?_
         rotate_left
         · intro w hSw; (try dsimp only at hSw); first | (go_simp; done) | (go_simp; with_reducible rfl)
         try simp only [Act.put, List.setIfInBounds_toArray, List.set_cons_zero, List.set_cons_succ]
         refine bar_take (i := 4) (oi := ⟨some 40, .load 33 (.tmp 39), 33, "ref.go:55", #[⟨3, .data⟩], none⟩) (v := ?_) rfl (by kernel_rfl) (by kernel_rfl) (by kernel_rfl) (by kernel_rfl) (fun _ _ _ h => h) (Or.inl ⟨by rfl, ?_⟩) (by assumption) ?_
         rotate_left
         · intro w hSw; (try dsimp only at hSw); first | (go_simp; done) | (go_simp; with_reducible rfl)
         try simp only [Act.put, List.setIfInBounds_toArray, List.set_cons_zero, List.set_cons_succ]
         refine bar_take (i := 5) (oi := ⟨some 41, .move (.tmp 1), 4, "ref.go:55", #[], none⟩) (v := ?_) rfl (by kernel_rfl) (by kernel_rfl) (by kernel_rfl) (by kernel_rfl) (fun _ _ _ h => h) (Or.inl ⟨by rfl, ?_⟩) (by assumption) ?_
         rotate_left
         · intro w hSw; (try dsimp only at hSw); first | (go_simp; done) | (go_simp; with_reducible rfl)
         try simp only [Act.put, List.setIfInBounds_toArray, List.set_cons_zero, List.set_cons_succ]
         refine bar_one (i := 6) (o := ⟨some 42, .call { callee := .value (.func 12), args := #[.tmp 40, .tmp 41], argTypes := #[33, 4] }, 33, "ref.go:55", #[⟨4, .data⟩, ⟨5, .data⟩], none⟩) (by kernel_rfl) rfl ?_
         intro K hK
         go_simp
         refine (cL _).mono ?_; rintro r1 w1 ⟨rfl, E1⟩; have X1 : Ext w0 w1 := (Ext.refl _).drew.trans E1
         try go_wp2_with fail
         have hHeld1 : _ := (⟨X1.some y0, X1.some y1, X1.some k0, X1.some k1, X1.some k2, X1.some k3⟩ : w1.cell? ⟨W.heap.size + 1, 0, none⟩ = some (.slice p1 j c1) ∧ w1.cell? ⟨W.heap.size + 1, 1, none⟩ = some (.slice p2 j c2) ∧ w1.cell? ⟨b, off + j * 4, none⟩ = some (.int .i64 rk) ∧ w1.cell? ⟨b, off + j * 4 + 1, none⟩ = some (.int .i64 rn) ∧ w1.cell? ⟨b, off + j * 4 + 2, none⟩ = some (.string rs) ∧ w1.cell? ⟨b, off + j * 4 + 3, none⟩ = some (.int .i64 re))
         refine hK.out _ _ (fun _ => hHeld1) ?_
         clear hK K
         try simp only [Act.put, List.setIfInBounds_toArray, List.set_cons_zero, List.set_cons_succ]
         refine bar_one (i := 7) (o := ⟨some 43, .call { callee := .value (.func 24), args := #[.tmp 36, .tmp 42], argTypes := #[26, 33] }, 26, "ref.go:55", #[⟨0, .data⟩, ⟨6, .data⟩, ⟨6, .chain⟩], none⟩) (by kernel_rfl) rfl ?_
         intro K hK
         go_simp
         refine (cP _ (H8.out.trans X1)).mono ?_; rintro r2 w2 ⟨u1, u2, rfl, O2, E2⟩; have X2 : Ext w0 w2 := X1.trans E2; obtain ⟨p3, c3, h3, hz3⟩ := own_form O2.1; obtain ⟨p4, c4, h4, hz4⟩ := own_form O2.2; rw [HP.out.1] at h3; rw [HP.out.2] at h4; subst h3 h4; clear hz3 hz4; obtain ⟨_, ⟨x0, x1⟩, g0, g1⟩ := (V6.out.ext X2).blk
         try go_wp2_with fail
         have hHeld2 : _ := (⟨X2.some y0, X2.some y1, X2.some k0, X2.some k1, X2.some k2, X2.some k3⟩ : w2.cell? ⟨W.heap.size + 1, 0, none⟩ = some (.slice p1 j c1) ∧ w2.cell? ⟨W.heap.size + 1, 1, none⟩ = some (.slice p2 j c2) ∧ w2.cell? ⟨b, off + j * 4, none⟩ = some (.int .i64 rk) ∧ w2.cell? ⟨b, off + j * 4 + 1, none⟩ = some (.int .i64 rn) ∧ w2.cell? ⟨b, off + j * 4 + 2, none⟩ = some (.string rs) ∧ w2.cell? ⟨b, off + j * 4 + 3, none⟩ = some (.int .i64 re))
         refine hK.out _ _ (fun _ => hHeld2) ?_
         clear hK K
         try simp only [Act.put, List.setIfInBounds_toArray, List.set_cons_zero, List.set_cons_succ]
         refine bar_one (i := 8) (o := ⟨none, .store 26 (.tmp 6) (.tmp 43), 0, "ref.go:55", #[⟨7, .data⟩, ⟨7, .chain⟩, ⟨0, .phase⟩, ⟨1, .phase⟩, ⟨2, .phase⟩, ⟨3, .phase⟩, ⟨4, .phase⟩, ⟨5, .phase⟩, ⟨6, .phase⟩, ⟨7, .phase⟩], none⟩) (by kernel_rfl) rfl ?_
         intro K hK
         go_simp
         try go_wp2_with fail
         refine hK.out _ _ (fun h => by cases h) ?_
         clear hK K
         try simp only [Act.put, List.setIfInBounds_toArray, List.set_cons_zero, List.set_cons_succ]
         refine bar_done (by kernel_rfl) ?_ _
         have hsz : W.heap.size + 1 + 1 ≤ w1.heap.size := by have := (V6.out.ext X1).lt; omega
         have O3 : VecO (W.heap.size + 1 + 1) w2 (.slice p3 (j + 1) c3) (.slice p4 (j + 1) c4) ((lnN area l).take (j + 1)) ((lnE area l).take (j + 1)) := by
           have := O2.low hsz
           rw [HS.out.1, HS.out.2] at this
           exact this
         have N1 : VecO (W.heap.size + 1 + 1) ((w2.setCell ⟨W.heap.size + 1, 0, none⟩ (.slice p3 (j + 1) c3)).setCell ⟨W.heap.size + 1, 1, none⟩ (.slice p4 (j + 1) c4)) (.slice p3 (j + 1) c3) (.slice p4 (j + 1) c4) ((lnN area l).take (j + 1)) ((lnE area l).take (j + 1)) := ⟨own_off (own_off O3.1 (by omega) _) (by omega) _, own_off (own_off O3.2 (by omega) _) (by omega) _⟩
         have N6 : VB ((w2.setCell ⟨W.heap.size + 1, 0, none⟩ (.slice p3 (j + 1) c3)).setCell ⟨W.heap.size + 1, 1, none⟩ (.slice p4 (j + 1) c4)) (W.heap.size + 1) (.slice p3 (j + 1) c3) (.slice p4 (j + 1) c4) := (V6.out.ext X2).set _ _
         have N4 : VB ((w2.setCell ⟨W.heap.size + 1, 0, none⟩ (.slice p3 (j + 1) c3)).setCell ⟨W.heap.size + 1, 1, none⟩ (.slice p4 (j + 1) c4)) W.heap.size (.slice none 0 0) (.slice none 0 0) := ((V4.out.ext X2).far (by omega) _).far (by omega) _
         have NX : Ext W ((w2.setCell ⟨W.heap.size + 1, 0, none⟩ (.slice p3 (j + 1) c3)).setCell ⟨W.heap.size + 1, 1, none⟩ (.slice p4 (j + 1) c4)) := ((HEW.out.trans X2).setCell (by (try dsimp only); omega) _).setCell (by (try dsimp only); omega) _
         have L2 : Hid (_ ∧ _ ∧ _ ∧ _) := ⟨NX, N4, N6, N1⟩
         clear hltI NX N4 N6 N1 O3 O2 X1 X2 E1 E2 hsz x0 x1 g0 g1 y0 y1 q0 q1 k0 k1 k2 k3 hHeld0 hHeld1 hHeld2 cL cP V4 V6 H8
         generalize (w2.setCell ⟨W.heap.size + 1, 0, none⟩ (.slice p3 (j + 1) c3)).setCell ⟨W.heap.size + 1, 1, none⟩ (.slice p4 (j + 1) c4) = Wz at *
         have wk := WK.out
         go_wp2_with fail
         go_roundw
         case rel =>
           obtain ⟨NX, N4, N6, N1⟩ := L2.out
           exact ⟨j + 1, by go_num, HJ.out, by rw [LP2.out], NX, N4, _, _, N6, N1⟩
         case measure => exact meas_lt (congrArg _ WK.out) HJ.out
       · have LP2 : Hid (plainL (l.take (j + 1)) = (vk == 2)) := by show _ = _; rw [LP.out, show (vk == 0) = false by simp [hk0]]; rfl
         have hq0 : (vk == 0) = false := by simp [hk0]
         generalize hq2 : (vk == 2) = k2b at *
         clear LP hk0
         go_wp2_with fail
         have H8 : Hid (Ext wr w0) := X0
         have V6 : Hid (VB w0 (W.heap.size + 1) (.slice p1 j c1) (.slice p2 j c2)) := H6.out.ext X0
         have V4 : Hid (VB w0 W.heap.size (.slice none 0 0) (.slice none 0 0)) := H4.out.ext X0
         obtain ⟨_, ⟨y0, y1⟩, q0, q1⟩ := V6.out.blk
         have k0 := X0.some k0
         have k1 := X0.some k1
         have k2 := X0.some k2
         have k3 := X0.some k3
         have HEW : Hid (Ext W w0) := HE.out.trans X0
         clear X0 H6 H4 HO HE
         refine bar_begin (B := fun i => i == 8) (S := fun w => w.cell? ⟨W.heap.size + 1, 0, none⟩ = some (.slice p1 j c1) ∧ w.cell? ⟨W.heap.size + 1, 1, none⟩ = some (.slice p2 j c2) ∧ w.cell? ⟨b, off + j * 4, none⟩ = some (.int .i64 rk) ∧ w.cell? ⟨b, off + j * 4 + 1, none⟩ = some (.int .i64 rn) ∧ w.cell? ⟨b, off + j * 4 + 2, none⟩ = some (.string rs) ∧ w.cell? ⟨b, off + j * 4 + 3, none⟩ = some (.int .i64 re)) (by kernel_rfl) ?_
         have hHeld0 : w0.drew.cell? ⟨W.heap.size + 1, 0, none⟩ = some (.slice p1 j c1) ∧ w0.drew.cell? ⟨W.heap.size + 1, 1, none⟩ = some (.slice p2 j c2) ∧ w0.drew.cell? ⟨b, off + j * 4, none⟩ = some (.int .i64 rk) ∧ w0.drew.cell? ⟨b, off + j * 4 + 1, none⟩ = some (.int .i64 rn) ∧ w0.drew.cell? ⟨b, off + j * 4 + 2, none⟩ = some (.string rs) ∧ w0.drew.cell? ⟨b, off + j * 4 + 3, none⟩ = some (.int .i64 re) := ⟨y0, y1, k0, k1, k2, k3⟩
         refine bar_take (i := 0) (oi := ⟨some 36, .load 26 (.tmp 6), 26, "ref.go:55", #[], none⟩) (v := ?_) rfl (by kernel_rfl) (by kernel_rfl) (by kernel_rfl) (by kernel_rfl) (fun _ _ _ h => h) (Or.inl ⟨by rfl, ?_⟩) (by assumption) ?_
         rotate_left
         · intro w hSw; (try dsimp only at hSw); first | (go_simp; done) | (go_simp; with_reducible rfl)
         try simp only [Act.put, List.setIfInBounds_toArray, List.set_cons_zero, List.set_cons_succ]
         refine bar_take (i := 1) (oi := ⟨some 37, .move (.tmp 0), 22, "ref.go:55", #[], none⟩) (v := ?_) rfl (by kernel_rfl) (by kernel_rfl) (by kernel_rfl) (by kernel_rfl) (fun _ _ _ h => h) (Or.inl ⟨by rfl, ?_⟩) (by assumption) ?_
         rotate_left
         · intro w hSw; (try dsimp only at hSw); first | (go_simp; done) | (go_simp; with_reducible rfl)
         try simp only [Act.put, List.setIfInBounds_toArray, List.set_cons_zero, List.set_cons_succ]
         refine bar_take (i := 2) (oi := ⟨some 38, .move (.tmp 8), 3, "ref.go:55", #[], none⟩) (v := ?_) rfl (by kernel_rfl) (by kernel_rfl) (by kernel_rfl) (by kernel_rfl) (fun _ _ _ h => h) (Or.inl ⟨by rfl, ?_⟩) (by assumption) ?_
         rotate_left
         · intro w hSw; (try dsimp only at hSw); first | (go_simp; done) | (go_simp; with_reducible rfl)
         try simp only [Act.put, List.setIfInBounds_toArray, List.set_cons_zero, List.set_cons_succ]
         refine bar_take (i := 3) (oi := ⟨some 39, .indexAddr 22 (.tmp 37) (.tmp 38), 0, "ref.go:55", #[⟨1, .data⟩, ⟨2, .data⟩], none⟩) (v := ?_) rfl (by kernel_rfl) (by kernel_rfl) (by kernel_rfl) (by kernel_rfl) (fun _ _ _ h => h) (Or.inl ⟨by rfl, ?_⟩) (by assumption) ?_
         rotate_left
         · intro w hSw; (try dsimp only at hSw); first | (go_simp; done) | (go_simp; with_reducible rfl)
         try simp only [Act.put, List.setIfInBounds_toArray, List.set_cons_zero, List.set_cons_succ]
         refine bar_take (i := 4) (oi := ⟨some 40, .load 33 (.tmp 39), 33, "ref.go:55", #[⟨3, .data⟩], none⟩) (v := ?_) rfl (by kernel_rfl) (by kernel_rfl) (by kernel_rfl) (by kernel_rfl) (fun _ _ _ h => h) (Or.inl ⟨by rfl, ?_⟩) (by assumption) ?_
         rotate_left
         · intro w hSw; (try dsimp only at hSw); first | (go_simp; done) | (go_simp; with_reducible rfl)
         try simp only [Act.put, List.setIfInBounds_toArray, List.set_cons_zero, List.set_cons_succ]
         refine bar_take (i := 5) (oi := ⟨some 41, .move (.tmp 1), 4, "ref.go:55", #[], none⟩) (v := ?_) rfl (by kernel_rfl) (by kernel_rfl) (by kernel_rfl) (by kernel_rfl) (fun _ _ _ h => h) (Or.inl ⟨by rfl, ?_⟩) (by assumption) ?_
         rotate_left
         · intro w hSw; (try dsimp only at hSw); first | (go_simp; done) | (go_simp; with_reducible rfl)
         try simp only [Act.put, List.setIfInBounds_toArray, List.set_cons_zero, List.set_cons_succ]
         refine bar_one (i := 6) (o := ⟨some 42, .call { callee := .value (.func 12), args := #[.tmp 40, .tmp 41], argTypes := #[33, 4] }, 33, "ref.go:55", #[⟨4, .data⟩, ⟨5, .data⟩], none⟩) (by kernel_rfl) rfl ?_
         intro K hK
         go_simp
         refine (cL _).mono ?_; rintro r1 w1 ⟨rfl, E1⟩; have X1 : Ext w0 w1 := (Ext.refl _).drew.trans E1
         try go_wp2_with fail
         have hHeld1 : _ := (⟨X1.some y0, X1.some y1, X1.some k0, X1.some k1, X1.some k2, X1.some k3⟩ : w1.cell? ⟨W.heap.size + 1, 0, none⟩ = some (.slice p1 j c1) ∧ w1.cell? ⟨W.heap.size + 1, 1, none⟩ = some (.slice p2 j c2) ∧ w1.cell? ⟨b, off + j * 4, none⟩ = some (.int .i64 rk) ∧ w1.cell? ⟨b, off + j * 4 + 1, none⟩ = some (.int .i64 rn) ∧ w1.cell? ⟨b, off + j * 4 + 2, none⟩ = some (.string rs) ∧ w1.cell? ⟨b, off + j * 4 + 3, none⟩ = some (.int .i64 re))
         refine hK.out _ _ (fun _ => hHeld1) ?_
         clear hK K
         try simp only [Act.put, List.setIfInBounds_toArray, List.set_cons_zero, List.set_cons_succ]
         refine bar_one (i := 7) (o := ⟨some 43, .call { callee := .value (.func 24), args := #[.tmp 36, .tmp 42], argTypes := #[26, 33] }, 26, "ref.go:55", #[⟨0, .data⟩, ⟨6, .data⟩, ⟨6, .chain⟩], none⟩) (by kernel_rfl) rfl ?_
         intro K hK
         go_simp
         refine (cP _ (H8.out.trans X1)).mono ?_; rintro r2 w2 ⟨u1, u2, rfl, O2, E2⟩; have X2 : Ext w0 w2 := X1.trans E2; obtain ⟨p3, c3, h3, hz3⟩ := own_form O2.1; obtain ⟨p4, c4, h4, hz4⟩ := own_form O2.2; rw [HP.out.1] at h3; rw [HP.out.2] at h4; subst h3 h4; clear hz3 hz4; obtain ⟨_, ⟨x0, x1⟩, g0, g1⟩ := (V6.out.ext X2).blk
         try go_wp2_with fail
         have hHeld2 : _ := (⟨X2.some y0, X2.some y1, X2.some k0, X2.some k1, X2.some k2, X2.some k3⟩ : w2.cell? ⟨W.heap.size + 1, 0, none⟩ = some (.slice p1 j c1) ∧ w2.cell? ⟨W.heap.size + 1, 1, none⟩ = some (.slice p2 j c2) ∧ w2.cell? ⟨b, off + j * 4, none⟩ = some (.int .i64 rk) ∧ w2.cell? ⟨b, off + j * 4 + 1, none⟩ = some (.int .i64 rn) ∧ w2.cell? ⟨b, off + j * 4 + 2, none⟩ = some (.string rs) ∧ w2.cell? ⟨b, off + j * 4 + 3, none⟩ = some (.int .i64 re))
         refine hK.out _ _ (fun _ => hHeld2) ?_
         clear hK K
         try simp only [Act.put, List.setIfInBounds_toArray, List.set_cons_zero, List.set_cons_succ]
         refine bar_one (i := 8) (o := ⟨none, .store 26 (.tmp 6) (.tmp 43), 0, "ref.go:55", #[⟨7, .data⟩, ⟨7, .chain⟩, ⟨0, .phase⟩, ⟨1, .phase⟩, ⟨2, .phase⟩, ⟨3, .phase⟩, ⟨4, .phase⟩, ⟨5, .phase⟩, ⟨6, .phase⟩, ⟨7, .phase⟩], none⟩) (by kernel_rfl) rfl ?_
         intro K hK
         go_simp
         try go_wp2_with fail
         refine hK.out _ _ (fun h => by cases h) ?_
         clear hK K
         try simp only [Act.put, List.setIfInBounds_toArray, List.set_cons_zero, List.set_cons_succ]
         refine bar_done (by kernel_rfl) ?_ _
         have hsz : W.heap.size + 1 + 1 ≤ w1.heap.size := by have := (V6.out.ext X1).lt; omega
         have O3 : VecO (W.heap.size + 1 + 1) w2 (.slice p3 (j + 1) c3) (.slice p4 (j + 1) c4) ((lnN area l).take (j + 1)) ((lnE area l).take (j + 1)) := by
           have := O2.low hsz
           rw [HS.out.1, HS.out.2] at this
           exact this
         have N1 : VecO (W.heap.size + 1 + 1) ((w2.setCell ⟨W.heap.size + 1, 0, none⟩ (.slice p3 (j + 1) c3)).setCell ⟨W.heap.size + 1, 1, none⟩ (.slice p4 (j + 1) c4)) (.slice p3 (j + 1) c3) (.slice p4 (j + 1) c4) ((lnN area l).take (j + 1)) ((lnE area l).take (j + 1)) := ⟨own_off (own_off O3.1 (by omega) _) (by omega) _, own_off (own_off O3.2 (by omega) _) (by omega) _⟩
         have N6 : VB ((w2.setCell ⟨W.heap.size + 1, 0, none⟩ (.slice p3 (j + 1) c3)).setCell ⟨W.heap.size + 1, 1, none⟩ (.slice p4 (j + 1) c4)) (W.heap.size + 1) (.slice p3 (j + 1) c3) (.slice p4 (j + 1) c4) := (V6.out.ext X2).set _ _
         have N4 : VB ((w2.setCell ⟨W.heap.size + 1, 0, none⟩ (.slice p3 (j + 1) c3)).setCell ⟨W.heap.size + 1, 1, none⟩ (.slice p4 (j + 1) c4)) W.heap.size (.slice none 0 0) (.slice none 0 0) := ((V4.out.ext X2).far (by omega) _).far (by omega) _
         have NX : Ext W ((w2.setCell ⟨W.heap.size + 1, 0, none⟩ (.slice p3 (j + 1) c3)).setCell ⟨W.heap.size + 1, 1, none⟩ (.slice p4 (j + 1) c4)) := ((HEW.out.trans X2).setCell (by (try dsimp only); omega) _).setCell (by (try dsimp only); omega) _
         have L2 : Hid (_ ∧ _ ∧ _ ∧ _) := ⟨NX, N4, N6, N1⟩
         clear hltI NX N4 N6 N1 O3 O2 X1 X2 E1 E2 hsz x0 x1 g0 g1 y0 y1 q0 q1 k0 k1 k2 k3 hHeld0 hHeld1 hHeld2 cL cP V4 V6 H8
         generalize (w2.setCell ⟨W.heap.size + 1, 0, none⟩ (.slice p3 (j + 1) c3)).setCell ⟨W.heap.size + 1, 1, none⟩ (.slice p4 (j + 1) c4) = Wz at *
         have wk := WK.out
         go_wp2_with fail
         go_roundw
         case rel =>
           obtain ⟨NX, N4, N6, N1⟩ := L2.out
           exact ⟨j + 1, by go_num, HJ.out, by rw [LP2.out], NX, N4, _, _, N6, N1⟩
         case measure => exact meas_lt (congrArg _ WK.out) HJ.out
   · have hltI : ¬ (j : Int) < (n : Int) := by omega
     have hjn : j = n := by omega
     rw [List.take_of_length_le (by rw [(ln_len area l).1, HL.out.1]; omega), List.take_of_length_le (by rw [(ln_len area l).2, HL.out.1]; omega)] at hO
     have RP : Hid (plainL (l.take j) = plainL l) := by show _ = _; rw [List.take_of_length_le (by rw [HL.out.1]; omega)]
     obtain ⟨p1, c1, hu, hz1⟩ := own_form hO.1
     obtain ⟨p2, c2, hv0, hz2⟩ := own_form hO.2
     rw [(ln_len area l).1, HL.out.1] at hu
     rw [(ln_len area l).2, HL.out.1] at hv0
     subst hu hv0
     clear hz1 hz2
     have HO : Hid (VecO (W.heap.size + 1 + 1) wr (.slice p1 n c1) (.slice p2 n c2) (lnN area l) (lnE area l)) := hO
     clear hj hlt hjn hO
     obtain ⟨_, ⟨y0, y1⟩, q0, q1⟩ := h6.blk
     obtain ⟨_, ⟨j0, j1⟩, g0, g1⟩ := H4.out.blk
     generalize plainL (l.take j) = pl at RP ⊢
     clear h6
     go_wp2_with fail
     refine fin2 (.tuple #[.agg #[.slice p1 n c1, .slice p2 n c2], .bool pl]) (H4.out.blk.set _ _) rfl ((HE.out.setCell (by (try dsimp only); omega) _).setCell (by (try dsimp only); omega) _) (fun g0 g1 => by simp [results, Tryd.results8, go_sem, g0, g1]) (fun h => ⟨_, _, by rw [RP.out], ?_, ?_, h⟩)
     · exact own_rdG dI_len (own_off (own_off HO.out.1 (by omega) _) (by omega) _) rfl
     · exact own_rdG dI_len (own_off (own_off HO.out.2 (by omega) _) (by omega) _) rfl
end Go.Proofs.YteaoeichgibgiaaDoor
