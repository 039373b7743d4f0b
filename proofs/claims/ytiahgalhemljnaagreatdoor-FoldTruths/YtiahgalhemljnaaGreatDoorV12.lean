/-
 The contracts of package value's ToText, ToBool, Neg.
 Package fold: number, truth; through.
 Package fold: through.
-/
import Derived.Test.YtiahgalhemljnaaGreatDoorV11
import Derived.Test.YtiahgalhemljnaaGreatDoorV10
namespace Go.Proofs.YtiahgalhemljnaaGreatDoor
open Go.RowKit
set_option maxHeartbeats 1000000

theorem vtotext_any (k n : Int) (s : ByteArray) (e : Int) (w : World) (hn : I64 n) (hT : Tab w) (hN : Nm w) :
   Calls Tryz.prog 61 #[.agg #[.int .i64 k, .int .i64 n, .string s, .int .i64 e]] w fun r w' => r = .returned ((nm k n s e).toText.dat) ∧ Ext w w' := by
 have c0 := fun W h => vnormal_any k n s e W h
 have ok := nm_ok k n s e hn
 clear hn
 generalize nm k n s e = v at c0 ok ⊢
 cases v with
 | blank =>
   simp only [V.dat] at c0
   have c1 := fun W h t => vshow_any 0 0 ⟨#[]⟩ 0 W ⟨by decide, by decide⟩ t h
   rw [nm_blank] at c1
   have hz := shown_size (V.blank) ok
   have c2 := fun W h => vtext_any (V.blank).shown W h
   rw [mkText_is hz] at c2
   simp only [V.dat] at c2
   have H : Hid ((V.blank).toText = .text (V.blank).shown) := rfl
   generalize (V.blank).shown = q at *
   clear hz ok
   go_enter Tryz.func61, Tryz.ntmps61
   go_wp2_with fail
   refine (c0 _ (hN.ext (by with_reducible repeat (first | assumption | exact Ext.refl _ | apply Ext.alloc | apply Ext.drewN | (refine Ext.setCell ?_ (by simp) _))))).mono ?_
   rintro r w1 ⟨rfl, E1⟩
   have X1 : Ext w w1 := Ext.trans (by with_reducible repeat (first | assumption | exact Ext.refl _ | apply Ext.alloc | apply Ext.drewN | (refine Ext.setCell ?_ (by simp) _))) E1
   have B0_1 := blk_top (b := w.heap.size) (by simp) (((Ext.refl _).alloc _).trans E1)
   have B1_1 := blk_top (b := w.heap.size + 1) (by simp) E1
   have D0 := B0_1
   obtain ⟨b0z, ⟨b0_0, b0_1, b0_2, b0_3⟩, b0f0, b0f1, b0f2, b0f3⟩ := D0
   have D1 := B1_1
   obtain ⟨b1z, ⟨b1_0, b1_1, b1_2, b1_3⟩, b1f0, b1f1, b1f2, b1f3⟩ := D1
   go_wp2_with fail
   refine (c1 _ (hN.ext (by with_reducible repeat (first | assumption | exact Ext.refl _ | apply Ext.alloc | apply Ext.drewN | (refine Ext.setCell ?_ (by simp) _)))) (hT.ext (by with_reducible repeat (first | assumption | exact Ext.refl _ | apply Ext.alloc | apply Ext.drewN | (refine Ext.setCell ?_ (by simp) _))))).mono ?_
   rintro r w2 ⟨rfl, E2⟩
   have X2 : Ext w w2 := Ext.trans (by with_reducible repeat (first | assumption | exact Ext.refl _ | apply Ext.alloc | apply Ext.drewN | (refine Ext.setCell ?_ (by simp) _))) E2
   have B1_2 := (B1_1.far (c := w.heap.size) (by simp) _ _ _ _).ext E2
   go_wp2_with fail
   refine (c2 _ (hN.ext (by with_reducible repeat (first | assumption | exact Ext.refl _ | apply Ext.alloc | apply Ext.drewN | (refine Ext.setCell ?_ (by simp) _))))).mono ?_
   rintro r w3 ⟨rfl, E3⟩
   have X3 : Ext w w3 := Ext.trans (by with_reducible repeat (first | assumption | exact Ext.refl _ | apply Ext.alloc | apply Ext.drewN | (refine Ext.setCell ?_ (by simp) _))) E3
   have B1_3 := B1_2.ext E3
   have D1 := B1_3
   obtain ⟨b1z, ⟨b1_0, b1_1, b1_2, b1_3⟩, b1f0, b1f1, b1f2, b1f3⟩ := D1
   go_wp2_with fail
   exact finB (B1_3.set _ _ _ _) rfl (by with_reducible repeat (first | assumption | exact Ext.refl _ | apply Ext.alloc | apply Ext.drewN | (refine Ext.setCell ?_ (by simp) _))) (fun g0 g1 g2 g3 => by simp [results, Tryz.results61, go_sem, g0, g1, g2, g3]) (fun h => ⟨by rw [H.out]; rfl, h⟩)
 | tf b =>
   simp only [V.dat] at c0
   cases b with
   | false =>
     simp only [Bool.false_eq_true, if_false] at c0
     have c1 := fun W h t => vshow_any 1 0 ⟨#[]⟩ 0 W ⟨by decide, by decide⟩ t h
     rw [show nm 1 0 ⟨#[]⟩ 0 = .tf false from rfl] at c1
     have hz := shown_size (V.tf false) ok
     have c2 := fun W h => vtext_any (V.tf false).shown W h
     rw [mkText_is hz] at c2
     simp only [V.dat] at c2
     have H : Hid ((V.tf false).toText = .text (V.tf false).shown) := rfl
     generalize (V.tf false).shown = q at *
     clear hz ok
     go_enter Tryz.func61, Tryz.ntmps61
     go_wp2_with fail
     refine (c0 _ (hN.ext (by with_reducible repeat (first | assumption | exact Ext.refl _ | apply Ext.alloc | apply Ext.drewN | (refine Ext.setCell ?_ (by simp) _))))).mono ?_
     rintro r w1 ⟨rfl, E1⟩
     have X1 : Ext w w1 := Ext.trans (by with_reducible repeat (first | assumption | exact Ext.refl _ | apply Ext.alloc | apply Ext.drewN | (refine Ext.setCell ?_ (by simp) _))) E1
     have B0_1 := blk_top (b := w.heap.size) (by simp) (((Ext.refl _).alloc _).trans E1)
     have B1_1 := blk_top (b := w.heap.size + 1) (by simp) E1
     have D0 := B0_1
     obtain ⟨b0z, ⟨b0_0, b0_1, b0_2, b0_3⟩, b0f0, b0f1, b0f2, b0f3⟩ := D0
     have D1 := B1_1
     obtain ⟨b1z, ⟨b1_0, b1_1, b1_2, b1_3⟩, b1f0, b1f1, b1f2, b1f3⟩ := D1
     go_wp2_with fail
     refine (c1 _ (hN.ext (by with_reducible repeat (first | assumption | exact Ext.refl _ | apply Ext.alloc | apply Ext.drewN | (refine Ext.setCell ?_ (by simp) _)))) (hT.ext (by with_reducible repeat (first | assumption | exact Ext.refl _ | apply Ext.alloc | apply Ext.drewN | (refine Ext.setCell ?_ (by simp) _))))).mono ?_
     rintro r w2 ⟨rfl, E2⟩
     have X2 : Ext w w2 := Ext.trans (by with_reducible repeat (first | assumption | exact Ext.refl _ | apply Ext.alloc | apply Ext.drewN | (refine Ext.setCell ?_ (by simp) _))) E2
     have B1_2 := (B1_1.far (c := w.heap.size) (by simp) _ _ _ _).ext E2
     go_wp2_with fail
     refine (c2 _ (hN.ext (by with_reducible repeat (first | assumption | exact Ext.refl _ | apply Ext.alloc | apply Ext.drewN | (refine Ext.setCell ?_ (by simp) _))))).mono ?_
     rintro r w3 ⟨rfl, E3⟩
     have X3 : Ext w w3 := Ext.trans (by with_reducible repeat (first | assumption | exact Ext.refl _ | apply Ext.alloc | apply Ext.drewN | (refine Ext.setCell ?_ (by simp) _))) E3
     have B1_3 := B1_2.ext E3
     have D1 := B1_3
     obtain ⟨b1z, ⟨b1_0, b1_1, b1_2, b1_3⟩, b1f0, b1f1, b1f2, b1f3⟩ := D1
     go_wp2_with fail
     exact finB (B1_3.set _ _ _ _) rfl (by with_reducible repeat (first | assumption | exact Ext.refl _ | apply Ext.alloc | apply Ext.drewN | (refine Ext.setCell ?_ (by simp) _))) (fun g0 g1 g2 g3 => by simp [results, Tryz.results61, go_sem, g0, g1, g2, g3]) (fun h => ⟨by rw [H.out]; rfl, h⟩)
   | true =>
     simp only [if_true] at c0
     have c1 := fun W h t => vshow_any 1 1 ⟨#[]⟩ 0 W ⟨by decide, by decide⟩ t h
     rw [show nm 1 1 ⟨#[]⟩ 0 = .tf true from rfl] at c1
     have hz := shown_size (V.tf true) ok
     have c2 := fun W h => vtext_any (V.tf true).shown W h
     rw [mkText_is hz] at c2
     simp only [V.dat] at c2
     have H : Hid ((V.tf true).toText = .text (V.tf true).shown) := rfl
     generalize (V.tf true).shown = q at *
     clear hz ok
     go_enter Tryz.func61, Tryz.ntmps61
     go_wp2_with fail
     refine (c0 _ (hN.ext (by with_reducible repeat (first | assumption | exact Ext.refl _ | apply Ext.alloc | apply Ext.drewN | (refine Ext.setCell ?_ (by simp) _))))).mono ?_
     rintro r w1 ⟨rfl, E1⟩
     have X1 : Ext w w1 := Ext.trans (by with_reducible repeat (first | assumption | exact Ext.refl _ | apply Ext.alloc | apply Ext.drewN | (refine Ext.setCell ?_ (by simp) _))) E1
     have B0_1 := blk_top (b := w.heap.size) (by simp) (((Ext.refl _).alloc _).trans E1)
     have B1_1 := blk_top (b := w.heap.size + 1) (by simp) E1
     have D0 := B0_1
     obtain ⟨b0z, ⟨b0_0, b0_1, b0_2, b0_3⟩, b0f0, b0f1, b0f2, b0f3⟩ := D0
     have D1 := B1_1
     obtain ⟨b1z, ⟨b1_0, b1_1, b1_2, b1_3⟩, b1f0, b1f1, b1f2, b1f3⟩ := D1
     go_wp2_with fail
     refine (c1 _ (hN.ext (by with_reducible repeat (first | assumption | exact Ext.refl _ | apply Ext.alloc | apply Ext.drewN | (refine Ext.setCell ?_ (by simp) _)))) (hT.ext (by with_reducible repeat (first | assumption | exact Ext.refl _ | apply Ext.alloc | apply Ext.drewN | (refine Ext.setCell ?_ (by simp) _))))).mono ?_
     rintro r w2 ⟨rfl, E2⟩
     have X2 : Ext w w2 := Ext.trans (by with_reducible repeat (first | assumption | exact Ext.refl _ | apply Ext.alloc | apply Ext.drewN | (refine Ext.setCell ?_ (by simp) _))) E2
     have B1_2 := (B1_1.far (c := w.heap.size) (by simp) _ _ _ _).ext E2
     go_wp2_with fail
     refine (c2 _ (hN.ext (by with_reducible repeat (first | assumption | exact Ext.refl _ | apply Ext.alloc | apply Ext.drewN | (refine Ext.setCell ?_ (by simp) _))))).mono ?_
     rintro r w3 ⟨rfl, E3⟩
     have X3 : Ext w w3 := Ext.trans (by with_reducible repeat (first | assumption | exact Ext.refl _ | apply Ext.alloc | apply Ext.drewN | (refine Ext.setCell ?_ (by simp) _))) E3
     have B1_3 := B1_2.ext E3
     have D1 := B1_3
     obtain ⟨b1z, ⟨b1_0, b1_1, b1_2, b1_3⟩, b1f0, b1f1, b1f2, b1f3⟩ := D1
     go_wp2_with fail
     exact finB (B1_3.set _ _ _ _) rfl (by with_reducible repeat (first | assumption | exact Ext.refl _ | apply Ext.alloc | apply Ext.drewN | (refine Ext.setCell ?_ (by simp) _))) (fun g0 g1 g2 g3 => by simp [results, Tryz.results61, go_sem, g0, g1, g2, g3]) (fun h => ⟨by rw [H.out]; rfl, h⟩)
 | num n =>
   simp only [V.dat] at c0
   have c1 := fun W h t => vshow_any 2 n ⟨#[]⟩ 0 W ok.1 t h
   rw [nm_num ok.2] at c1
   have hz := shown_size (V.num n) ok
   have c2 := fun W h => vtext_any (V.num n).shown W h
   rw [mkText_is hz] at c2
   simp only [V.dat] at c2
   have H : Hid ((V.num n).toText = .text (V.num n).shown) := rfl
   generalize (V.num n).shown = q at *
   clear hz ok
   go_enter Tryz.func61, Tryz.ntmps61
   go_wp2_with fail
   refine (c0 _ (hN.ext (by with_reducible repeat (first | assumption | exact Ext.refl _ | apply Ext.alloc | apply Ext.drewN | (refine Ext.setCell ?_ (by simp) _))))).mono ?_
   rintro r w1 ⟨rfl, E1⟩
   have X1 : Ext w w1 := Ext.trans (by with_reducible repeat (first | assumption | exact Ext.refl _ | apply Ext.alloc | apply Ext.drewN | (refine Ext.setCell ?_ (by simp) _))) E1
   have B0_1 := blk_top (b := w.heap.size) (by simp) (((Ext.refl _).alloc _).trans E1)
   have B1_1 := blk_top (b := w.heap.size + 1) (by simp) E1
   have D0 := B0_1
   obtain ⟨b0z, ⟨b0_0, b0_1, b0_2, b0_3⟩, b0f0, b0f1, b0f2, b0f3⟩ := D0
   have D1 := B1_1
   obtain ⟨b1z, ⟨b1_0, b1_1, b1_2, b1_3⟩, b1f0, b1f1, b1f2, b1f3⟩ := D1
   go_wp2_with fail
   refine (c1 _ (hN.ext (by with_reducible repeat (first | assumption | exact Ext.refl _ | apply Ext.alloc | apply Ext.drewN | (refine Ext.setCell ?_ (by simp) _)))) (hT.ext (by with_reducible repeat (first | assumption | exact Ext.refl _ | apply Ext.alloc | apply Ext.drewN | (refine Ext.setCell ?_ (by simp) _))))).mono ?_
   rintro r w2 ⟨rfl, E2⟩
   have X2 : Ext w w2 := Ext.trans (by with_reducible repeat (first | assumption | exact Ext.refl _ | apply Ext.alloc | apply Ext.drewN | (refine Ext.setCell ?_ (by simp) _))) E2
   have B1_2 := (B1_1.far (c := w.heap.size) (by simp) _ _ _ _).ext E2
   go_wp2_with fail
   refine (c2 _ (hN.ext (by with_reducible repeat (first | assumption | exact Ext.refl _ | apply Ext.alloc | apply Ext.drewN | (refine Ext.setCell ?_ (by simp) _))))).mono ?_
   rintro r w3 ⟨rfl, E3⟩
   have X3 : Ext w w3 := Ext.trans (by with_reducible repeat (first | assumption | exact Ext.refl _ | apply Ext.alloc | apply Ext.drewN | (refine Ext.setCell ?_ (by simp) _))) E3
   have B1_3 := B1_2.ext E3
   have D1 := B1_3
   obtain ⟨b1z, ⟨b1_0, b1_1, b1_2, b1_3⟩, b1f0, b1f1, b1f2, b1f3⟩ := D1
   go_wp2_with fail
   exact finB (B1_3.set _ _ _ _) rfl (by with_reducible repeat (first | assumption | exact Ext.refl _ | apply Ext.alloc | apply Ext.drewN | (refine Ext.setCell ?_ (by simp) _))) (fun g0 g1 g2 g3 => by simp [results, Tryz.results61, go_sem, g0, g1, g2, g3]) (fun h => ⟨by rw [H.out]; rfl, h⟩)
 | text s =>
   simp only [V.dat] at c0
   have c1 := fun W h t => vshow_any 3 0 s 0 W ⟨by decide, by decide⟩ t h
   rw [nm_text ok] at c1
   have hz := shown_size (V.text s) ok
   have c2 := fun W h => vtext_any (V.text s).shown W h
   rw [mkText_is hz] at c2
   simp only [V.dat] at c2
   have H : Hid ((V.text s).toText = .text (V.text s).shown) := rfl
   generalize (V.text s).shown = q at *
   clear hz ok
   go_enter Tryz.func61, Tryz.ntmps61
   go_wp2_with fail
   refine (c0 _ (hN.ext (by with_reducible repeat (first | assumption | exact Ext.refl _ | apply Ext.alloc | apply Ext.drewN | (refine Ext.setCell ?_ (by simp) _))))).mono ?_
   rintro r w1 ⟨rfl, E1⟩
   have X1 : Ext w w1 := Ext.trans (by with_reducible repeat (first | assumption | exact Ext.refl _ | apply Ext.alloc | apply Ext.drewN | (refine Ext.setCell ?_ (by simp) _))) E1
   have B0_1 := blk_top (b := w.heap.size) (by simp) (((Ext.refl _).alloc _).trans E1)
   have B1_1 := blk_top (b := w.heap.size + 1) (by simp) E1
   have D0 := B0_1
   obtain ⟨b0z, ⟨b0_0, b0_1, b0_2, b0_3⟩, b0f0, b0f1, b0f2, b0f3⟩ := D0
   have D1 := B1_1
   obtain ⟨b1z, ⟨b1_0, b1_1, b1_2, b1_3⟩, b1f0, b1f1, b1f2, b1f3⟩ := D1
   go_wp2_with fail
   refine (c1 _ (hN.ext (by with_reducible repeat (first | assumption | exact Ext.refl _ | apply Ext.alloc | apply Ext.drewN | (refine Ext.setCell ?_ (by simp) _)))) (hT.ext (by with_reducible repeat (first | assumption | exact Ext.refl _ | apply Ext.alloc | apply Ext.drewN | (refine Ext.setCell ?_ (by simp) _))))).mono ?_
   rintro r w2 ⟨rfl, E2⟩
   have X2 : Ext w w2 := Ext.trans (by with_reducible repeat (first | assumption | exact Ext.refl _ | apply Ext.alloc | apply Ext.drewN | (refine Ext.setCell ?_ (by simp) _))) E2
   have B1_2 := (B1_1.far (c := w.heap.size) (by simp) _ _ _ _).ext E2
   go_wp2_with fail
   refine (c2 _ (hN.ext (by with_reducible repeat (first | assumption | exact Ext.refl _ | apply Ext.alloc | apply Ext.drewN | (refine Ext.setCell ?_ (by simp) _))))).mono ?_
   rintro r w3 ⟨rfl, E3⟩
   have X3 : Ext w w3 := Ext.trans (by with_reducible repeat (first | assumption | exact Ext.refl _ | apply Ext.alloc | apply Ext.drewN | (refine Ext.setCell ?_ (by simp) _))) E3
   have B1_3 := B1_2.ext E3
   have D1 := B1_3
   obtain ⟨b1z, ⟨b1_0, b1_1, b1_2, b1_3⟩, b1f0, b1f1, b1f2, b1f3⟩ := D1
   go_wp2_with fail
   exact finB (B1_3.set _ _ _ _) rfl (by with_reducible repeat (first | assumption | exact Ext.refl _ | apply Ext.alloc | apply Ext.drewN | (refine Ext.setCell ?_ (by simp) _))) (fun g0 g1 g2 g3 => by simp [results, Tryz.results61, go_sem, g0, g1, g2, g3]) (fun h => ⟨by rw [H.out]; rfl, h⟩)
 | err e =>
   simp only [V.dat] at c0
   clear ok hT
   go_enter Tryz.func61, Tryz.ntmps61
   go_wp2_with fail
   refine (c0 _ (hN.ext (by with_reducible repeat (first | assumption | exact Ext.refl _ | apply Ext.alloc | apply Ext.drewN | (refine Ext.setCell ?_ (by simp) _))))).mono ?_
   rintro r w1 ⟨rfl, E1⟩
   have X1 : Ext w w1 := Ext.trans (by with_reducible repeat (first | assumption | exact Ext.refl _ | apply Ext.alloc | apply Ext.drewN | (refine Ext.setCell ?_ (by simp) _))) E1
   have B0_1 := blk_top (b := w.heap.size) (by simp) (((Ext.refl _).alloc _).trans E1)
   have B1_1 := blk_top (b := w.heap.size + 1) (by simp) E1
   have D0 := B0_1
   obtain ⟨b0z, ⟨b0_0, b0_1, b0_2, b0_3⟩, b0f0, b0f1, b0f2, b0f3⟩ := D0
   have D1 := B1_1
   obtain ⟨b1z, ⟨b1_0, b1_1, b1_2, b1_3⟩, b1f0, b1f1, b1f2, b1f3⟩ := D1
   go_wp2_with fail
   exact finB ((B1_1.far (c := w.heap.size) (by simp) _ _ _ _).set _ _ _ _) rfl (by with_reducible repeat (first | assumption | exact Ext.refl _ | apply Ext.alloc | apply Ext.drewN | (refine Ext.setCell ?_ (by simp) _))) (fun g0 g1 g2 g3 => by simp [results, Tryz.results61, go_sem, g0, g1, g2, g3]) (fun h => ⟨rfl, h⟩)
theorem truK_cases (s : ByteArray) : (truK s = true ∧ (V.text s).toBool = truR s) ∨ (truK s = false ∧ (V.text s).toBool = .err 2) := by
 have e : (V.text s).toBool = if s.data.toList = trueL then .tf true else if s.data.toList = falseL then .tf false else .err 2 := rfl
 rw [e]
 unfold truK truR
 by_cases h : s.data.toList = trueL
 · left; rw [if_pos h, if_pos h]; simp [h]
 · by_cases g : s.data.toList = falseL
   · left; rw [if_neg h, if_pos g, if_neg h, if_pos g]; simp [g]
   · right; rw [if_neg h, if_neg g]; simp [h, g]
theorem vtobool_any (k n : Int) (s : ByteArray) (e : Int) (w : World) (hn : I64 n) (hN : Nm w) :
   Calls Tryz.prog 72 #[.agg #[.int .i64 k, .int .i64 n, .string s, .int .i64 e]] w fun r w' => r = .returned ((nm k n s e).toBool.dat) ∧ Ext w w' := by
 have c0 := fun W h => vnormal_any k n s e W h
 have ok := nm_ok k n s e hn
 clear hn
 generalize nm k n s e = v at c0 ok ⊢
 cases v with
 | blank =>
   simp only [V.dat] at c0
   have c1 := fun W => vbool_any false W
   simp only [V.dat, Bool.false_eq_true, if_false] at c1
   clear ok
   go_enter Tryz.func72, Tryz.ntmps72
   go_wp2_with fail
   refine (c0 _ (hN.ext (by with_reducible repeat (first | assumption | exact Ext.refl _ | apply Ext.alloc | apply Ext.drewN | (refine Ext.setCell ?_ (by simp) _))))).mono ?_
   rintro r w1 ⟨rfl, E1⟩
   have X1 : Ext w w1 := Ext.trans (by with_reducible repeat (first | assumption | exact Ext.refl _ | apply Ext.alloc | apply Ext.drewN | (refine Ext.setCell ?_ (by simp) _))) E1
   have B0_1 := blk_top (b := w.heap.size) (by simp) (((Ext.refl _).alloc _).trans E1)
   have B1_1 := blk_top (b := w.heap.size + 1) (by simp) E1
   have D0 := B0_1
   obtain ⟨b0z, ⟨b0_0, b0_1, b0_2, b0_3⟩, b0f0, b0f1, b0f2, b0f3⟩ := D0
   have D1 := B1_1
   obtain ⟨b1z, ⟨b1_0, b1_1, b1_2, b1_3⟩, b1f0, b1f1, b1f2, b1f3⟩ := D1
   go_wp2_with fail
   refine (c1 _).mono ?_
   rintro r w2 ⟨rfl, E2⟩
   have X2 : Ext w w2 := Ext.trans (by with_reducible repeat (first | assumption | exact Ext.refl _ | apply Ext.alloc | apply Ext.drewN | (refine Ext.setCell ?_ (by simp) _))) E2
   have B1_2 := (B1_1.far (c := w.heap.size) (by simp) _ _ _ _).ext E2
   have D1 := B1_2
   obtain ⟨b1z, ⟨b1_0, b1_1, b1_2, b1_3⟩, b1f0, b1f1, b1f2, b1f3⟩ := D1
   go_wp2_with fail
   exact finB (B1_2.set _ _ _ _) rfl (by with_reducible repeat (first | assumption | exact Ext.refl _ | apply Ext.alloc | apply Ext.drewN | (refine Ext.setCell ?_ (by simp) _))) (fun g0 g1 g2 g3 => by simp [results, Tryz.results72, go_sem, g0, g1, g2, g3]) (fun h => ⟨rfl, h⟩)
 | tf b =>
   simp only [V.dat] at c0
   cases b with
   | false =>
     simp only [Bool.false_eq_true, if_false] at c0
     have c1 := fun W => vbool_any false W
     simp only [V.dat, Bool.false_eq_true, if_false] at c1
     clear ok
     go_enter Tryz.func72, Tryz.ntmps72
     go_wp2_with fail
     refine (c0 _ (hN.ext (by with_reducible repeat (first | assumption | exact Ext.refl _ | apply Ext.alloc | apply Ext.drewN | (refine Ext.setCell ?_ (by simp) _))))).mono ?_
     rintro r w1 ⟨rfl, E1⟩
     have X1 : Ext w w1 := Ext.trans (by with_reducible repeat (first | assumption | exact Ext.refl _ | apply Ext.alloc | apply Ext.drewN | (refine Ext.setCell ?_ (by simp) _))) E1
     have B0_1 := blk_top (b := w.heap.size) (by simp) (((Ext.refl _).alloc _).trans E1)
     have B1_1 := blk_top (b := w.heap.size + 1) (by simp) E1
     have D0 := B0_1
     obtain ⟨b0z, ⟨b0_0, b0_1, b0_2, b0_3⟩, b0f0, b0f1, b0f2, b0f3⟩ := D0
     have D1 := B1_1
     obtain ⟨b1z, ⟨b1_0, b1_1, b1_2, b1_3⟩, b1f0, b1f1, b1f2, b1f3⟩ := D1
     go_wp2_with fail
     refine (c1 _).mono ?_
     rintro r w2 ⟨rfl, E2⟩
     have X2 : Ext w w2 := Ext.trans (by with_reducible repeat (first | assumption | exact Ext.refl _ | apply Ext.alloc | apply Ext.drewN | (refine Ext.setCell ?_ (by simp) _))) E2
     have B1_2 := (B1_1.far (c := w.heap.size) (by simp) _ _ _ _).ext E2
     have D1 := B1_2
     obtain ⟨b1z, ⟨b1_0, b1_1, b1_2, b1_3⟩, b1f0, b1f1, b1f2, b1f3⟩ := D1
     go_wp2_with fail
     exact finB (B1_2.set _ _ _ _) rfl (by with_reducible repeat (first | assumption | exact Ext.refl _ | apply Ext.alloc | apply Ext.drewN | (refine Ext.setCell ?_ (by simp) _))) (fun g0 g1 g2 g3 => by simp [results, Tryz.results72, go_sem, g0, g1, g2, g3]) (fun h => ⟨rfl, h⟩)
   | true =>
     simp only [if_true] at c0
     have c1 := fun W => vbool_any true W
     simp only [V.dat, if_true] at c1
     clear ok
     go_enter Tryz.func72, Tryz.ntmps72
     go_wp2_with fail
     refine (c0 _ (hN.ext (by with_reducible repeat (first | assumption | exact Ext.refl _ | apply Ext.alloc | apply Ext.drewN | (refine Ext.setCell ?_ (by simp) _))))).mono ?_
     rintro r w1 ⟨rfl, E1⟩
     have X1 : Ext w w1 := Ext.trans (by with_reducible repeat (first | assumption | exact Ext.refl _ | apply Ext.alloc | apply Ext.drewN | (refine Ext.setCell ?_ (by simp) _))) E1
     have B0_1 := blk_top (b := w.heap.size) (by simp) (((Ext.refl _).alloc _).trans E1)
     have B1_1 := blk_top (b := w.heap.size + 1) (by simp) E1
     have D0 := B0_1
     obtain ⟨b0z, ⟨b0_0, b0_1, b0_2, b0_3⟩, b0f0, b0f1, b0f2, b0f3⟩ := D0
     have D1 := B1_1
     obtain ⟨b1z, ⟨b1_0, b1_1, b1_2, b1_3⟩, b1f0, b1f1, b1f2, b1f3⟩ := D1
     go_wp2_with fail
     refine (c1 _).mono ?_
     rintro r w2 ⟨rfl, E2⟩
     have X2 : Ext w w2 := Ext.trans (by with_reducible repeat (first | assumption | exact Ext.refl _ | apply Ext.alloc | apply Ext.drewN | (refine Ext.setCell ?_ (by simp) _))) E2
     have B1_2 := (B1_1.far (c := w.heap.size) (by simp) _ _ _ _).ext E2
     have D1 := B1_2
     obtain ⟨b1z, ⟨b1_0, b1_1, b1_2, b1_3⟩, b1f0, b1f1, b1f2, b1f3⟩ := D1
     go_wp2_with fail
     exact finB (B1_2.set _ _ _ _) rfl (by with_reducible repeat (first | assumption | exact Ext.refl _ | apply Ext.alloc | apply Ext.drewN | (refine Ext.setCell ?_ (by simp) _))) (fun g0 g1 g2 g3 => by simp [results, Tryz.results72, go_sem, g0, g1, g2, g3]) (fun h => ⟨rfl, h⟩)
 | num n =>
   simp only [V.dat] at c0
   obtain ⟨q0, q1, q2, q3, hq⟩ := dat4 (V.tf (n != 0))
   have c1 := fun W => vbool_any (n != 0) W
   rw [hq] at c1
   have H : Hid ((V.num n).toBool.dat = .agg #[.int .i64 q0, .int .i64 q1, .string q2, .int .i64 q3]) := hq
   clear hq ok
   go_enter Tryz.func72, Tryz.ntmps72
   go_wp2_with fail
   refine (c0 _ (hN.ext (by with_reducible repeat (first | assumption | exact Ext.refl _ | apply Ext.alloc | apply Ext.drewN | (refine Ext.setCell ?_ (by simp) _))))).mono ?_
   rintro r w1 ⟨rfl, E1⟩
   have X1 : Ext w w1 := Ext.trans (by with_reducible repeat (first | assumption | exact Ext.refl _ | apply Ext.alloc | apply Ext.drewN | (refine Ext.setCell ?_ (by simp) _))) E1
   have B0_1 := blk_top (b := w.heap.size) (by simp) (((Ext.refl _).alloc _).trans E1)
   have B1_1 := blk_top (b := w.heap.size + 1) (by simp) E1
   have D0 := B0_1
   obtain ⟨b0z, ⟨b0_0, b0_1, b0_2, b0_3⟩, b0f0, b0f1, b0f2, b0f3⟩ := D0
   have D1 := B1_1
   obtain ⟨b1z, ⟨b1_0, b1_1, b1_2, b1_3⟩, b1f0, b1f1, b1f2, b1f3⟩ := D1
   go_wp2_with fail
   refine (c1 _).mono ?_
   rintro r w2 ⟨rfl, E2⟩
   have X2 : Ext w w2 := Ext.trans (by with_reducible repeat (first | assumption | exact Ext.refl _ | apply Ext.alloc | apply Ext.drewN | (refine Ext.setCell ?_ (by simp) _))) E2
   have B1_2 := (B1_1.far (c := w.heap.size) (by simp) _ _ _ _).ext E2
   have D1 := B1_2
   obtain ⟨b1z, ⟨b1_0, b1_1, b1_2, b1_3⟩, b1f0, b1f1, b1f2, b1f3⟩ := D1
   go_wp2_with fail
   exact finB (B1_2.set _ _ _ _) rfl (by with_reducible repeat (first | assumption | exact Ext.refl _ | apply Ext.alloc | apply Ext.drewN | (refine Ext.setCell ?_ (by simp) _))) (fun g0 g1 g2 g3 => by simp [results, Tryz.results72, go_sem, g0, g1, g2, g3]) (fun h => ⟨by rw [H.out], h⟩)
 | text s =>
   simp only [V.dat] at c0
   have c1 := fun W => truth_any s W
   have c2 := fun W h => err_any 2 W h
   rw [mkErr_is ⟨by decide, by decide⟩] at c2
   simp only [V.dat] at c2
   have hk := truK_cases s
   clear ok
   obtain ⟨q0, q1, q2, q3, hq⟩ := dat4 (truR s)
   rw [hq] at c1
   rcases hk with ⟨h1, h2⟩ | ⟨h1, h2⟩
   · rw [h1] at c1
     have H : Hid ((V.text s).toBool.dat = .agg #[.int .i64 q0, .int .i64 q1, .string q2, .int .i64 q3]) := by show _ = _; rw [h2]; exact hq
     clear hq h1 h2 c2
     go_enter Tryz.func72, Tryz.ntmps72
     go_wp2_with fail
     refine (c0 _ (hN.ext (by with_reducible repeat (first | assumption | exact Ext.refl _ | apply Ext.alloc | apply Ext.drewN | (refine Ext.setCell ?_ (by simp) _))))).mono ?_
     rintro r w1 ⟨rfl, E1⟩
     have X1 : Ext w w1 := Ext.trans (by with_reducible repeat (first | assumption | exact Ext.refl _ | apply Ext.alloc | apply Ext.drewN | (refine Ext.setCell ?_ (by simp) _))) E1
     have B0_1 := blk_top (b := w.heap.size) (by simp) (((Ext.refl _).alloc _).trans E1)
     have B1_1 := blk_top (b := w.heap.size + 1) (by simp) E1
     have D0 := B0_1
     obtain ⟨b0z, ⟨b0_0, b0_1, b0_2, b0_3⟩, b0f0, b0f1, b0f2, b0f3⟩ := D0
     have D1 := B1_1
     obtain ⟨b1z, ⟨b1_0, b1_1, b1_2, b1_3⟩, b1f0, b1f1, b1f2, b1f3⟩ := D1
     go_wp2_with fail
     refine (c1 _).mono ?_
     rintro r w2 ⟨rfl, E2⟩
     have X2 : Ext w w2 := Ext.trans (by with_reducible repeat (first | assumption | exact Ext.refl _ | apply Ext.alloc | apply Ext.drewN | (refine Ext.setCell ?_ (by simp) _))) E2
     have B1_2 := (B1_1.far (c := w.heap.size) (by simp) _ _ _ _).ext E2
     have D1 := B1_2
     obtain ⟨b1z, ⟨b1_0, b1_1, b1_2, b1_3⟩, b1f0, b1f1, b1f2, b1f3⟩ := D1
     go_wp2_with fail
     exact finB ((B1_2.set _ _ _ _).ext ((Ext.refl _).alloc _)) rfl (by with_reducible repeat (first | assumption | exact Ext.refl _ | apply Ext.alloc | apply Ext.drewN | (refine Ext.setCell ?_ (by simp) _))) (fun g0 g1 g2 g3 => by simp [results, Tryz.results72, go_sem, g0, g1, g2, g3]) (fun h => ⟨by rw [H.out], h⟩)
   · rw [h1] at c1
     have H : Hid ((V.text s).toBool = .err 2) := h2
     clear hq h1 h2
     go_enter Tryz.func72, Tryz.ntmps72
     go_wp2_with fail
     refine (c0 _ (hN.ext (by with_reducible repeat (first | assumption | exact Ext.refl _ | apply Ext.alloc | apply Ext.drewN | (refine Ext.setCell ?_ (by simp) _))))).mono ?_
     rintro r w1 ⟨rfl, E1⟩
     have X1 : Ext w w1 := Ext.trans (by with_reducible repeat (first | assumption | exact Ext.refl _ | apply Ext.alloc | apply Ext.drewN | (refine Ext.setCell ?_ (by simp) _))) E1
     have B0_1 := blk_top (b := w.heap.size) (by simp) (((Ext.refl _).alloc _).trans E1)
     have B1_1 := blk_top (b := w.heap.size + 1) (by simp) E1
     have D0 := B0_1
     obtain ⟨b0z, ⟨b0_0, b0_1, b0_2, b0_3⟩, b0f0, b0f1, b0f2, b0f3⟩ := D0
     have D1 := B1_1
     obtain ⟨b1z, ⟨b1_0, b1_1, b1_2, b1_3⟩, b1f0, b1f1, b1f2, b1f3⟩ := D1
     go_wp2_with fail
     refine (c1 _).mono ?_
     rintro r w2 ⟨rfl, E2⟩
     have X2 : Ext w w2 := Ext.trans (by with_reducible repeat (first | assumption | exact Ext.refl _ | apply Ext.alloc | apply Ext.drewN | (refine Ext.setCell ?_ (by simp) _))) E2
     have B1_2 := (B1_1.far (c := w.heap.size) (by simp) _ _ _ _).ext E2
     have D1 := B1_2
     obtain ⟨b1z, ⟨b1_0, b1_1, b1_2, b1_3⟩, b1f0, b1f1, b1f2, b1f3⟩ := D1
     go_wp2_with fail
     refine (c2 _ (hN.ext (by with_reducible repeat (first | assumption | exact Ext.refl _ | apply Ext.alloc | apply Ext.drewN | (refine Ext.setCell ?_ (by simp) _))))).mono ?_
     rintro r w3 ⟨rfl, E3⟩
     have X3 : Ext w w3 := Ext.trans (by with_reducible repeat (first | assumption | exact Ext.refl _ | apply Ext.alloc | apply Ext.drewN | (refine Ext.setCell ?_ (by simp) _))) E3
     have B1_3 := (B1_2.ext ((Ext.refl _).alloc _)).ext E3
     have D1 := B1_3
     obtain ⟨b1z, ⟨b1_0, b1_1, b1_2, b1_3⟩, b1f0, b1f1, b1f2, b1f3⟩ := D1
     go_wp2_with fail
     exact finB (B1_3.set _ _ _ _) rfl (by with_reducible repeat (first | assumption | exact Ext.refl _ | apply Ext.alloc | apply Ext.drewN | (refine Ext.setCell ?_ (by simp) _))) (fun g0 g1 g2 g3 => by simp [results, Tryz.results72, go_sem, g0, g1, g2, g3]) (fun h => ⟨by rw [H.out]; rfl, h⟩)
 | err e =>
   simp only [V.dat] at c0
   clear ok
   go_enter Tryz.func72, Tryz.ntmps72
   go_wp2_with fail
   refine (c0 _ (hN.ext (by with_reducible repeat (first | assumption | exact Ext.refl _ | apply Ext.alloc | apply Ext.drewN | (refine Ext.setCell ?_ (by simp) _))))).mono ?_
   rintro r w1 ⟨rfl, E1⟩
   have X1 : Ext w w1 := Ext.trans (by with_reducible repeat (first | assumption | exact Ext.refl _ | apply Ext.alloc | apply Ext.drewN | (refine Ext.setCell ?_ (by simp) _))) E1
   have B0_1 := blk_top (b := w.heap.size) (by simp) (((Ext.refl _).alloc _).trans E1)
   have B1_1 := blk_top (b := w.heap.size + 1) (by simp) E1
   have D0 := B0_1
   obtain ⟨b0z, ⟨b0_0, b0_1, b0_2, b0_3⟩, b0f0, b0f1, b0f2, b0f3⟩ := D0
   have D1 := B1_1
   obtain ⟨b1z, ⟨b1_0, b1_1, b1_2, b1_3⟩, b1f0, b1f1, b1f2, b1f3⟩ := D1
   go_wp2_with fail
   exact finB ((B1_1.far (c := w.heap.size) (by simp) _ _ _ _).set _ _ _ _) rfl (by with_reducible repeat (first | assumption | exact Ext.refl _ | apply Ext.alloc | apply Ext.drewN | (refine Ext.setCell ?_ (by simp) _))) (fun g0 g1 g2 g3 => by simp [results, Tryz.results72, go_sem, g0, g1, g2, g3]) (fun h => ⟨rfl, h⟩)

open Go.RowKit
set_option maxHeartbeats 1000000

theorem I64.z : I64 0 := ⟨by decide, by decide⟩
theorem nm_of (x : V) (h : x.ok) : nm x.k x.n x.s x.e = x ∧ I64 x.n := by
 cases x with
 | blank => exact ⟨rfl, by decide, by decide⟩
 | tf b => cases b <;> exact ⟨rfl, by decide, by decide⟩
 | num n => exact ⟨mkNum_is h.2, h.1⟩
 | text s => exact ⟨mkText_is h, I64.z⟩
 | err e => exact ⟨mkErr_is h, I64.z⟩
set_option maxRecDepth 100000 in
theorem number_any (x : V) (a : Bool) (W : World) (hN : Nm W) (hx : x.ok) : Calls Tryz.prog 63 #[x.dat, .bool a] W fun e w' => e = .returned (numF x a).dat ∧ Ext W w' := by
 cases a with
 | false =>
   have c0 := fun W h => vtonum_any x.k x.n x.s x.e W (nm_of x hx).2 h
   rw [(nm_of x hx).1] at c0
   have H : Hid (numF x false = x.toNum) := rfl
   rw [dat_eq x]
   obtain ⟨q0, q1, q2, q3, hq⟩ := dat4 x.toNum
   rw [hq] at c0
   have HQ : Hid (x.toNum.dat = .agg #[.int .i64 q0, .int .i64 q1, .string q2, .int .i64 q3]) := hq
   clear hq hx
   generalize x.k = xk at *
   generalize x.n = xn at *
   generalize x.s = xs at *
   generalize x.e = xe at *
   go_enter Tryz.func63, Tryz.ntmps63
   go_wp2_with fail
   refine (c0 _ (hN.ext (((Ext.refl _).alloc _).alloc _))).mono ?_
   rintro e w1 ⟨rfl, E1⟩
   obtain ⟨z, ⟨k0, k1, k2, k3⟩, f0, f1, f2, f3⟩ := blk_top (b := W.heap.size + 1) (by simp) E1
   go_wp2_with fail
   exact fin4 k0 k1 k2 k3 rfl (by simp) ((((Ext.refl _).alloc _).alloc _).trans E1) (fun W g0 g1 g2 g3 => by simp [results, Tryz.results63, go_sem, g0, g1, g2, g3]) (fun W h => ⟨by rw [H.out, HQ.out], h⟩)
 | true =>
   clear hN
   have X2 : Hid (∀ o1 o2, Ext W ((W.alloc o1).alloc o2)) := fun o1 o2 => ((Ext.refl _).alloc _).alloc _
   cases x with
   | blank =>
     clear hx
     simp only [V.dat, numF, if_true]
     go_enter Tryz.func63, Tryz.ntmps63
     go_wp2_with fail
     simp [bodyPost, results, Tryz.results63, go_sem]
     exact X2.out _ _
   | tf b =>
     clear hx
     simp only [V.dat, numF, if_true]
     generalize (if b = true then (1 : Int) else 0) = bn
     go_enter Tryz.func63, Tryz.ntmps63
     go_wp2_with fail
     simp [bodyPost, results, Tryz.results63, go_sem]
     exact X2.out _ _
   | num n =>
     clear hx
     simp only [V.dat, numF, if_true]
     go_enter Tryz.func63, Tryz.ntmps63
     go_wp2_with fail
     simp [bodyPost, results, Tryz.results63, go_sem]
     exact X2.out _ _
   | text s =>
     clear hx
     simp only [V.dat, numF, if_true]
     go_enter Tryz.func63, Tryz.ntmps63
     go_wp2_with fail
     simp [bodyPost, results, Tryz.results63, go_sem]
     exact X2.out _ _
   | err e =>
     clear hx
     simp only [V.dat, numF, if_true]
     go_enter Tryz.func63, Tryz.ntmps63
     go_wp2_with fail
     simp [bodyPost, results, Tryz.results63, go_sem]
     exact X2.out _ _
set_option maxRecDepth 100000 in
theorem truthB (x : V) (a : Bool) (W : World) (hN : Nm W) (hx : x.ok) (hc : a = false ∨ (x.k ≠ 0 ∧ x.k ≠ 3)) : Calls Tryz.prog 43 #[x.dat, .bool a] W fun e w' => e = .returned x.toBool.dat ∧ Ext W w' := by
 have c0 := fun W h => vtobool_any x.k x.n x.s x.e W (nm_of x hx).2 h
 rw [(nm_of x hx).1] at c0
 rw [dat_eq x]
 obtain ⟨q0, q1, q2, q3, hq⟩ := dat4 x.toBool
 rw [hq] at c0 ⊢
 clear hq hx
 generalize x.k = xk at *
 generalize x.n = xn at *
 generalize x.s = xs at *
 generalize x.e = xe at *
 cases a with
 | false =>
   clear hc
   go_enter Tryz.func43, Tryz.ntmps43
   go_wp2_with fail
   refine (c0 _ (hN.ext (((Ext.refl _).alloc _).alloc _))).mono ?_
   rintro e w1 ⟨rfl, E1⟩
   obtain ⟨z, ⟨k0, k1, k2, k3⟩, f0, f1, f2, f3⟩ := blk_top (b := W.heap.size + 1) (by simp) E1
   go_wp2_with fail
   exact fin4 k0 k1 k2 k3 rfl (by simp) ((((Ext.refl _).alloc _).alloc _).trans E1) (fun W g0 g1 g2 g3 => by simp [results, Tryz.results43, go_sem, g0, g1, g2, g3]) (fun W h => ⟨rfl, h⟩)
 | true =>
   have hh : xk ≠ 0 ∧ xk ≠ 3 := hc.resolve_left (by simp)
   have e0 : (xk == 0) = false := by simpa using hh.1
   have e3 : (xk == 3) = false := by simpa using hh.2
   clear hc hh
   go_enter Tryz.func43, Tryz.ntmps43
   go_wp2_with fail
   refine (c0 _ (hN.ext (((Ext.refl _).alloc _).alloc _))).mono ?_
   rintro e w1 ⟨rfl, E1⟩
   obtain ⟨z, ⟨k0, k1, k2, k3⟩, f0, f1, f2, f3⟩ := blk_top (b := W.heap.size + 1) (by simp) E1
   go_wp2_with fail
   exact fin4 k0 k1 k2 k3 rfl (by simp) ((((Ext.refl _).alloc _).alloc _).trans E1) (fun W g0 g1 g2 g3 => by simp [results, Tryz.results43, go_sem, g0, g1, g2, g3]) (fun W h => ⟨rfl, h⟩)
set_option maxRecDepth 100000 in
theorem ftruth_any (x : V) (a : Bool) (W : World) (hN : Nm W) (hx : x.ok) : Calls Tryz.prog 43 #[x.dat, .bool a] W fun e w' => e = .returned (truF x a).dat ∧ Ext W w' := by
 cases a with
 | false => exact truthB x false W hN hx (.inl rfl)
 | true =>
   have X2 : Hid (∀ o1 o2, Ext W ((W.alloc o1).alloc o2)) := fun o1 o2 => ((Ext.refl _).alloc _).alloc _
   cases x with
   | tf b => exact truthB _ true W hN hx (.inr ⟨by simp [V.k], by simp [V.k]⟩)
   | num n => exact truthB _ true W hN hx (.inr ⟨by simp [V.k], by simp [V.k]⟩)
   | err e => exact truthB _ true W hN hx (.inr ⟨by simp [V.k], by simp [V.k]⟩)
   | blank =>
     clear hx hN
     simp only [V.dat, truF, if_true]
     go_enter Tryz.func43, Tryz.ntmps43
     go_wp2_with fail
     simp [bodyPost, results, Tryz.results43, go_sem]
     exact X2.out _ _
   | text s =>
     clear hx hN
     simp only [V.dat, truF, if_true]
     go_enter Tryz.func43, Tryz.ntmps43
     go_wp2_with fail
     simp [bodyPost, results, Tryz.results43, go_sem]
     exact X2.out _ _
/-- A function value that turns values. -/
def TurnC (w0 : World) (v : Value) (f : V → Bool → V) : Prop := ∃ K, v = .func (.func K) #[] #[] ∧ (∀ args W, (callFunc K args).run Tryz.prog W = .ok (.enter K args) W) ∧
 ∀ W x a, Ext w0 W → x.ok → Calls Tryz.prog K #[x.dat, .bool a] W fun e w' => e = .returned (f x a).dat ∧ Ext W w'
theorem turn_number (w0 : World) (hN : Nm w0) : TurnC w0 (.func (.func 63) #[] #[]) numF :=
 ⟨63, rfl, enters_of Tryz.func63 (by kernel_rfl) rfl, fun W x a e h => number_any x a W (hN.ext e) h⟩
theorem turn_truth (w0 : World) (hN : Nm w0) : TurnC w0 (.func (.func 43) #[] #[]) truF :=
 ⟨43, rfl, enters_of Tryz.func43 (by kernel_rfl) rfl, fun W x a e h => ftruth_any x a W (hN.ext e) h⟩
def encV (x : V) : Array Value := #[x.dat]
theorem bad_snoc (f : V → Bool → V) (l : List (V × Bool)) (p : V × Bool) : bad f (l ++ [p]) = if (bad f l).k = 4 then bad f l else if (f p.1 p.2).k = 4 then f p.1 p.2 else .blank := bad_app f l [p]
theorem got_snoc (f : V → Bool → V) (l : List (V × Bool)) (p : V × Bool) : got f (l ++ [p]) = if goes (f p.1 p.2) then got f l ++ [f p.1 p.2] else got f l := by
 rw [got_app]
 show got f l ++ (if goes (f p.1 p.2) then [f p.1 p.2] else []) = _
 split
 · rfl
 · simp
/-- The variables of through: turn, see, failed. -/
structure Thr (w0 : World) (hi g : Nat) (tv sv : Value) (f : V → Bool → V) (P : List V → World → Prop) (l : List (V × Bool)) (W : World) : Prop where
 p : P (got f l) W
 t : W.cell? ⟨g, 0, none⟩ = some tv
 s : W.cell? ⟨g + 1, 0, none⟩ = some sv
 b : Blk W (g + 2) (.int .i64 (bad f l).k) (.int .i64 (bad f l).n) (.string (bad f l).s) (.int .i64 (bad f l).e)
 ot : Own4 W g
 os : Own4 W (g + 1)
 ob : Own4 W (g + 2)
theorem Blk.cells {W W' : World} {b : Nat} {x0 x1 x2 x3 : Value} (h : Blk W b x0 x1 x2 x3) (hs : W.heap.size ≤ W'.heap.size) (e : ∀ o, W'.cell? ⟨b, o, none⟩ = W.cell? ⟨b, o, none⟩ ∧ W'.frozen? ⟨b, o, none⟩ = W.frozen? ⟨b, o, none⟩) : Blk W' b x0 x1 x2 x3 := by
 obtain ⟨z, ⟨k0, k1, k2, k3⟩, f0, f1, f2, f3⟩ := h
 exact ⟨Nat.lt_of_lt_of_le z hs, ⟨(e 0).1.trans k0, (e 1).1.trans k1, (e 2).1.trans k2, (e 3).1.trans k3⟩, (e 0).2.trans f0, (e 1).2.trans f1, (e 2).2.trans f2, (e 3).2.trans f3⟩
theorem Own4.env {hi : Nat} {w w' : World} {b : Nat} (h : Own4 w b) (m : Env hi w w') (hb : b < hi) : Own4 w' b ∧ ∀ o, w'.cell? ⟨b, o, none⟩ = w.cell? ⟨b, o, none⟩ ∧ w'.frozen? ⟨b, o, none⟩ = w.frozen? ⟨b, o, none⟩ := by
 have e := m.1.block b hb
 exact ⟨⟨Nat.lt_of_lt_of_le h.1 m.1.size, fun r => h.2 ((RowB.same e).1 r)⟩, fun o => ⟨World.cell?_of_block (w := w) e, World.frozen?_of_block (w := w) e⟩⟩
theorem Thr.env {w0 : World} {hi g : Nat} {tv sv : Value} {f : V → Bool → V} {P : List V → World → Prop} {l : List (V × Bool)} {W W' : World} (hP : ∀ l W W', P l W → hi ≤ W.heap.size → Env hi W W' → P l W') (hg : hi ≤ g)
   (h : Thr w0 hi g tv sv f P l W) (hs : g + 3 ≤ W.heap.size) (e : Env (g + 3) W W') : Thr w0 hi g tv sv f P l W' := by
 obtain ⟨p, t, s, b, ot, os, ob⟩ := h
 obtain ⟨ot', et⟩ := ot.env e (by omega)
 obtain ⟨os', es⟩ := os.env e (by omega)
 obtain ⟨ob', eb⟩ := ob.env e (by omega)
 exact ⟨hP _ _ _ p (by omega) (e.down (by omega)), (et 0).1.trans t, (es 0).1.trans s, b.cells e.1.size eb, ot', os', ob'⟩
theorem Thr.mid {w0 : World} {hi g : Nat} {tv sv : Value} {f : V → Bool → V} {P : List V → World → Prop} {l l' : List (V × Bool)} {W W' : World} (hg : hi ≤ g)
   (h : Thr w0 hi g tv sv f P l W) (m : Mid w0.heap.size hi W W') (hp : P (got f l') W') (hb : bad f l' = bad f l) : Thr w0 hi g tv sv f P l' W' := by
 obtain ⟨p, t, s, b, ot, os, ob⟩ := h
 obtain ⟨ot', et⟩ := ot.mid m (by omega)
 obtain ⟨os', es⟩ := os.mid m (by omega)
 obtain ⟨ob', eb⟩ := ob.mid m (by omega)
 exact ⟨hp, (et 0).1.trans t, (es 0).1.trans s, by rw [hb]; exact b.cells m.1.size eb, ot', os', ob'⟩
theorem Own4.set {w : World} {b : Nat} (h : Own4 w b) (q : Addr) (v : Value) : Own4 (w.setCell q v) b := by
 refine ⟨by simpa [World.setCell] using h.1, fun r => h.2 ?_⟩
 obtain ⟨c, fz, r⟩ := r
 by_cases hq : b = q.block
 · subst hq
   simp only [World.setCell, Array.getElem?_modify, if_true] at r
   obtain ⟨o, ho, r⟩ := Option.map_eq_some_iff.1 r
   cases o with
   | cells cs t fr => cases r; exact ⟨_, _, ho⟩
   | _ => cases r
 · rw [Below.heap_setCell _ _ _ _ hq] at r
   exact ⟨c, fz, r⟩

open Go.RowKit
set_option maxHeartbeats 1000000

theorem Own4.at {w w' : World} {b : Nat} {c : Array Value} {T : TypeId} (hb : b = w.heap.size) (hT : T ≠ 5) (e : Ext (w.alloc (.cells c T)) w') : Own4 w' b := by subst hb; exact Own4.new hT e
theorem Env.set {hi : Nat} {w w' : World} (h : Env hi w w') {b : Nat} (hb : hi ≤ b) (ho : ¬ RowB w b) (o : Nat) (v : Value) : Env hi w (w'.setCell ⟨b, o, none⟩ v) :=
 ⟨h.1.setCell (p := ⟨b, o, none⟩) hb v, fun k hk => by rw [Below.heap_setCell _ _ _ _ (fun e => ho (by subst e; exact hk))]; exact h.2 k hk⟩
theorem Mid.set {lo hi : Nat} {w w' : World} (h : Mid lo hi w w') {b : Nat} (hb : lo ≤ b) (hb' : b < hi) (o : Nat) (v : Value) : Mid lo hi w (w'.setCell ⟨b, o, none⟩ v) :=
 ⟨h.1.setCell (p := ⟨b, o, none⟩) hb v, fun k h1 h2 h3 => by rw [Below.heap_setCell _ _ _ _ (by show k ≠ b; omega)]; exact h.2 k h1 h2 h3⟩
theorem not_row {w w' : World} {b : Nat} (e : Ext w w') (h : Own4 w b) : Own4 w' b :=
 ⟨Nat.lt_of_lt_of_le h.1 e.size, fun r => h.2 ((RowB.same (e.block b h.1)).1 r)⟩
/-- put4 -/
def put4 (w : World) (b : Nat) (x0 x1 x2 x3 : Value) : World := (((w.setCell ⟨b, 0, none⟩ x0).setCell ⟨b, 1, none⟩ x1).setCell ⟨b, 2, none⟩ x2).setCell ⟨b, 3, none⟩ x3
theorem Thr.put {w0 : World} {hi g : Nat} {tv sv : Value} {f : V → Bool → V} {P : List V → World → Prop} {l l' : List (V × Bool)} {W W' : World} (hg : hi ≤ g) (hP : ∀ l W W', P l W → hi ≤ W.heap.size → Env hi W W' → P l W')
   (h : Thr w0 hi g tv sv f P l W) (hz : g + 3 ≤ W.heap.size) (e : Ext W W') (hp : got f l' = got f l) (y : V) (hb : bad f l' = y) : Thr w0 hi g tv sv f P l' (put4 W' (g + 2) (.int .i64 y.k) (.int .i64 y.n) (.string y.s) (.int .i64 y.e)) := by
 obtain ⟨p, t, s, b, ot, os, ob⟩ := h
 have c1 := e.cell.1 g 0 (by omega)
 have c2 := e.cell.1 (g + 1) 0 (by omega)
 refine ⟨?_, ?_, ?_, ?_, ?_, ?_, ?_⟩
 · rw [hp]
   exact hP _ _ _ p (by omega) (((((e.env (by omega)).set (by omega) ob.2 _ _).set (by omega) ob.2 _ _).set (by omega) ob.2 _ _).set (by omega) ob.2 _ _)
 · unfold put4
   iterate 4 rw [World.cell?_setCell_far _ _ _ _ (by show g + 2 ≠ g; omega)]
   exact c1.trans t
 · unfold put4
   iterate 4 rw [World.cell?_setCell_far _ _ _ _ (by show g + 2 ≠ g + 1; omega)]
   exact c2.trans s
 · rw [hb]
   exact (b.ext e).set _ _ _ _
 · exact ((((not_row e ot).set _ _).set _ _).set _ _).set _ _
 · exact ((((not_row e os).set _ _).set _ _).set _ _).set _ _
 · exact ((((not_row e ob).set _ _).set _ _).set _ _).set _ _
set_option maxRecDepth 100000 in
theorem thr1_any (w0 : World) (hi g : Nat) (tv sv : Value) (f : V → Bool → V) (P : List V → World → Prop) (hT : TurnC w0 tv f) (hS : FnC w0 hi sv encV V.ok P) (hf : ∀ x a, x.ok → (f x a).ok) (hg : hi ≤ g) (hg0 : w0.heap.size ≤ g)
   (l : List (V × Bool)) (W : World) (x : V × Bool) (h : Thr w0 hi g tv sv f P l W) (hz : g + 3 ≤ W.heap.size) (hE : Ext w0 W) (hl : l.length ≤ 20000) (hx : okS x) :
   Calls Tryz.prog 60 (encS x ++ #[.pointer (some ⟨g, 0, none⟩), .pointer (some ⟨g + 1, 0, none⟩), .pointer (some ⟨g + 2, 0, none⟩)]) W fun e w' => e = .returned (.tuple #[]) ∧ Thr w0 hi g tv sv f P (l ++ [x]) w' ∧ Mid w0.heap.size (g + 3) W w' := by
 obtain ⟨v, a⟩ := x
 obtain ⟨Kt, rfl, entT, cT⟩ := hT
 obtain ⟨Ks, cs, rfl, entS, stS, cS⟩ := hS
 have ht := h.t
 have hs := h.s
 obtain ⟨zb, ⟨b0, b1, b2, b3⟩, f0, f1, f2, f3⟩ := h.b
 have HT : Hid (Thr w0 hi g (.func (.func Kt) #[] #[]) (.func (.func Ks) #[] cs) f P l W) := h
 have CT : Hid (∀ V, Ext w0 V → Calls Tryz.prog Kt #[.agg #[.int .i64 v.k, .int .i64 v.n, .string v.s, .int .i64 v.e], .bool a] V fun e w' => e = .returned (f v a).dat ∧ Ext V w') := fun V e => by have := cT V v a e hx; rw [dat_eq v] at this; exact this
 have hy := hf v a hx
 have hgl : (got f l).length ≤ 20000 := Nat.le_trans (got_len f l) hl
 have CS : Hid (∀ V, Ext W V → Calls Tryz.prog Ks (#[.agg #[.int .i64 (f v a).k, .int .i64 (f v a).n, .string (f v a).s, .int .i64 (f v a).e]] ++ cs) V fun e w' => e = .returned (.tuple #[]) ∧ P (got f l ++ [f v a]) w' ∧ Mid w0.heap.size hi V w') := fun V e => by
   have := cS (got f l) V (f v a) (stS _ _ _ h.p (by omega) (e.env (by omega))) (Nat.le_trans (by omega) e.size) (hE.trans e) hgl hy
   unfold encV at this
   rw [dat_eq (f v a)] at this
   exact this
 have HE : Hid (Ext w0 W ∧ g + 3 ≤ W.heap.size ∧ hi ≤ g ∧ w0.heap.size ≤ g) := ⟨hE, hz, hg, hg0⟩
 have ST : Hid (∀ l W W', P l W → hi ≤ W.heap.size → Env hi W W' → P l W') := stS
 have HB : Hid (bad f (l ++ [(v, a)]) = if (bad f l).k = 4 then bad f l else if (f v a).k = 4 then f v a else .blank) := bad_snoc f l (v, a)
 have HG : Hid (got f (l ++ [(v, a)]) = if goes (f v a) then got f l ++ [f v a] else got f l) := got_snoc f l (v, a)
 have HK : Hid (bad f l = .blank ∨ (bad f l).k = 4) := bad_kind f l
 rw [show encS (v, a) = #[v.dat, .bool a] from rfl, dat_eq v]
 rw [dat_eq (f v a)] at CT
 have hz2 : g < W.heap.size := by omega
 have hz3 : g + 1 < W.heap.size := by omega
 clear h cT cS stS hf hg hg0 hE hl hx hy hgl hz
 obtain ⟨vk, hvk⟩ : ∃ y, v.k = y := ⟨_, rfl⟩
 obtain ⟨vn, hvn⟩ : ∃ y, v.n = y := ⟨_, rfl⟩
 obtain ⟨vs, hvs⟩ : ∃ y, v.s = y := ⟨_, rfl⟩
 obtain ⟨ve, hve⟩ : ∃ y, v.e = y := ⟨_, rfl⟩
 rw [hvk, hvn, hvs, hve] at CT ⊢
 clear hvk hvn hvs hve
 obtain ⟨y, hy⟩ : ∃ y, f v a = y := ⟨_, rfl⟩
 rw [hy] at CT CS HB HG
 obtain ⟨z, hzz⟩ : ∃ z, bad f l = z := ⟨_, rfl⟩
 rw [hzz] at b0 b1 b2 b3 HB HK
 have HZ : Hid (bad f l = z) := hzz
 clear hy hzz
 obtain ⟨yk, hyk⟩ : ∃ q, y.k = q := ⟨_, rfl⟩
 obtain ⟨yn, hyn⟩ : ∃ q, y.n = q := ⟨_, rfl⟩
 obtain ⟨ys, hys⟩ : ∃ q, y.s = q := ⟨_, rfl⟩
 obtain ⟨ye, hye⟩ : ∃ q, y.e = q := ⟨_, rfl⟩
 have HY : Hid (y.k = yk ∧ y.n = yn ∧ y.s = ys ∧ y.e = ye) := ⟨hyk, hyn, hys, hye⟩
 rw [hyk, hyn, hys, hye] at CT CS
 clear hyk hyn hys hye
 go_enter Tryz.func60, Tryz.ntmps60
 go_wp2_with fail
 refine (CT.out _ (HE.out.1.alloc _)).mono ?_
 rintro e w1 ⟨rfl, E1⟩
 have X1 : Hid (Ext W w1) := ((Ext.refl _).alloc _).trans E1
 have B1 := blk_top (b := W.heap.size) (by simp) E1
 obtain ⟨c0z, ⟨c0_0, c0_1, c0_2, c0_3⟩, c0f0, c0f1, c0f2, c0f3⟩ := B1
 have e1 := X1.out.cell
 have d1 := (e1.1 (g + 1) 0 hz3).trans hs
 have d20 := (e1.1 (g + 2) 0 zb).trans b0
 have d21 := (e1.1 (g + 2) 1 zb).trans b1
 have d22 := (e1.1 (g + 2) 2 zb).trans b2
 have d23 := (e1.1 (g + 2) 3 zb).trans b3
 have g20 := (e1.2 (g + 2) 0 zb).trans f0
 have g21 := (e1.2 (g + 2) 1 zb).trans f1
 have g22 := (e1.2 (g + 2) 2 zb).trans f2
 have g23 := (e1.2 (g + 2) 3 zb).trans f3
 have zc : g + 1 < w1.heap.size := Nat.lt_of_lt_of_le hz3 X1.out.size
 have zd : g + 2 < w1.heap.size := Nat.lt_of_lt_of_le zb X1.out.size
 have X2 : Hid (Ext W (put4 w1 W.heap.size (.int .i64 yk) (.int .i64 yn) (.string ys) (.int .i64 ye))) := (((X1.out.setCell (Nat.le_refl _) _).setCell (Nat.le_refl _) _).setCell (Nat.le_refl _) _).setCell (Nat.le_refl _) _
 clear E1 e1 ht hs b0 b1 b2 b3 f0 f1 f2 f3
 have nG1 : g + 1 ≠ W.heap.size := by omega
 have nG2 : g + 2 ≠ W.heap.size := by omega
 by_cases h0 : yk = 0
 · have e0 : (yk == 0) = true := by simpa using h0
   have H2 : Hid (got f (l ++ [(v, a)]) = got f l ∧ bad f (l ++ [(v, a)]) = bad f l) := by
     have hk : y.k = 0 := HY.out.1.trans h0
     refine ⟨by rw [HG.out, if_neg (by simp [goes, hk])], ?_⟩
     rw [HB.out, HZ.out]
     rcases HK.out with k | k
     · rw [k, if_neg (by decide), if_neg (by rw [hk]; decide)]
     · rw [if_pos k]
   clear h0
   go_wp2_with fail
   go_end0
   refine ⟨rfl, ?_, ?_⟩
   · exact HT.out.mid HE.out.2.2.1 (X2.out.mid HE.out.1.size hi) (by rw [H2.out.1]; exact ST.out _ _ _ HT.out.p (by have := HE.out; omega) (X2.out.env (by have := HE.out; omega))) H2.out.2
   · exact X2.out.mid HE.out.1.size _
 have e0 : (yk == 0) = false := by simpa using h0
 by_cases h4 : yk = 4
 · have e4 : (yk != 4) = false := by simpa using h4
   by_cases hz4 : z.k = 4
   · have ez : (z.k == 0) = false := by rw [hz4]; rfl
     have H2 : Hid (got f (l ++ [(v, a)]) = got f l ∧ bad f (l ++ [(v, a)]) = bad f l) := by
       have hk : y.k = 4 := HY.out.1.trans h4
       refine ⟨by rw [HG.out, if_neg (by simp [goes, hk])], ?_⟩
       rw [HB.out, HZ.out, if_pos hz4]
     clear h0 h4 hz4
     generalize z.k = zk at *
     go_wp2_with fail
     go_end0
     refine ⟨rfl, ?_, ?_⟩
     · exact HT.out.mid HE.out.2.2.1 (X2.out.mid HE.out.1.size hi) (by rw [H2.out.1]; exact ST.out _ _ _ HT.out.p (by have := HE.out; omega) (X2.out.env (by have := HE.out; omega))) H2.out.2
     · exact X2.out.mid HE.out.1.size _
   · have hz0 : z = .blank := HK.out.resolve_right hz4
     have ez : (z.k == 0) = true := by rw [hz0]; rfl
     have H2 : Hid (got f (l ++ [(v, a)]) = got f l ∧ bad f (l ++ [(v, a)]) = y) := by
       have hk : y.k = 4 := HY.out.1.trans h4
       refine ⟨by rw [HG.out, if_neg (by simp [goes, hk])], ?_⟩
       rw [HB.out, if_neg hz4, if_pos hk]
     clear h0 h4 hz4 hz0
     generalize z.k = zk at *
     generalize z.n = zn at *
     generalize z.s = zs' at *
     generalize z.e = ze at *
     go_wp2_with fail
     go_end0
     refine ⟨rfl, ?_, ?_⟩
     · have q := HT.out.put HE.out.2.2.1 ST.out HE.out.2.1 X2.out H2.out.1 y H2.out.2
       rw [HY.out.1, HY.out.2.1, HY.out.2.2.1, HY.out.2.2.2] at q
       exact q
     · exact ((((X2.out.mid HE.out.1.size _).set (by have := HE.out; omega) (by omega) _ _).set (by have := HE.out; omega) (by omega) _ _).set (by have := HE.out; omega) (by omega) _ _).set (by have := HE.out; omega) (by omega) _ _
 · have e4 : (yk != 4) = true := by simpa using h4
   have H2 : Hid (got f (l ++ [(v, a)]) = got f l ++ [y] ∧ bad f (l ++ [(v, a)]) = bad f l) := by
     have hk : ¬ y.k = 4 := by rw [HY.out.1]; exact h4
     have hk0 : ¬ y.k = 0 := by rw [HY.out.1]; exact h0
     refine ⟨by rw [HG.out, if_pos (by simp [goes, hk, hk0])], ?_⟩
     rw [HB.out, HZ.out]
     rcases HK.out with k | k
     · rw [k, if_neg (by decide), if_neg hk]
     · rw [if_pos k]
   clear h0 h4
   go_wp2_with fail
   refine (CS.out _ X2.out).mono ?_
   rintro e w3 ⟨rfl, p3, m3⟩
   have M3 : Hid (Mid w0.heap.size hi W w3) := (X2.out.mid HE.out.1.size hi).trans m3
   have P3 : Hid (P (got f l ++ [y]) w3) := p3
   clear p3 m3
   go_wp2_with fail
   go_end0
   refine ⟨rfl, ?_, ?_⟩
   · exact HT.out.mid HE.out.2.2.1 M3.out (by rw [H2.out.1]; exact P3.out) H2.out.2
   · exact M3.out.wide (by have := HE.out; omega)
theorem ent_thr1 : ∀ args W, (callFunc 60 args).run Tryz.prog W = .ok (.enter 60 args) W := enters_of Tryz.func60 (by kernel_rfl) rfl
theorem thr_fn (w0 : World) (hi g : Nat) (tv sv : Value) (f : V → Bool → V) (P : List V → World → Prop) (hT : TurnC w0 tv f) (hS : FnC w0 hi sv encV V.ok P) (hf : ∀ x a, x.ok → (f x a).ok) (hg : hi ≤ g) (hg0 : w0.heap.size ≤ g) :
   FnC w0 (g + 3) (.func (.func 60) #[] #[.pointer (some ⟨g, 0, none⟩), .pointer (some ⟨g + 1, 0, none⟩), .pointer (some ⟨g + 2, 0, none⟩)]) encS okS (fun l W => Thr w0 hi g tv sv f P l W) := by
 refine ⟨_, _, rfl, ent_thr1, ?_, ?_⟩
 · intro l W W' h hs e
   obtain ⟨_, _, _, _, st, _⟩ := hS
   exact h.env st hg hs e
 · intro l W x h hs e hl hx
   exact thr1_any w0 hi g tv sv f P hT hS hf hg hg0 l W x h hs e hl hx
set_option maxRecDepth 100000 in
theorem through_any (w0 : World) (gs : List Ag) (tv sv : Value) (f : V → Bool → V) (P : List V → World → Prop) (W : World) (p : Option Addr) (n c : Nat) (hT : TurnC w0 tv f) (hS : FnC w0 W.heap.size sv encV V.ok P) (hf : ∀ x a, x.ok → (f x a).ok)
   (hA : RdA w0.heap.size W (.slice p n c) gs) (hI : AgI gs) (hlen : (seen gs).length ≤ 15000) (hal : gs.length ≤ 15000) (hP : P [] W) (hE : Ext w0 W) (hN : Nm w0) :
   Calls Tryz.prog 28 #[.slice p n c, tv, sv] W fun e w' => e = .returned (bad f (seen gs)).dat ∧ P (got f (seen gs)) w' ∧ Ext w0 w' := by
 obtain ⟨Kt, et⟩ : ∃ Kt, tv = .func (.func Kt) #[] #[] := by obtain ⟨K, h, _⟩ := hT; exact ⟨K, h⟩
 obtain ⟨Ks, cs, es⟩ : ∃ Ks cs, sv = .func (.func Ks) #[] cs := by obtain ⟨K, cs, h, _⟩ := hS; exact ⟨K, cs, h⟩
 subst et es
 have stS : ∀ l W1 W', P l W1 → W.heap.size ≤ W1.heap.size → Env W.heap.size W1 W' → P l W' := by obtain ⟨_, _, _, _, st, _⟩ := hS; exact st
 have HF : Hid (FnC w0 (W.heap.size + 3) (.func (.func 60) #[] #[.pointer (some ⟨W.heap.size, 0, none⟩), .pointer (some ⟨W.heap.size + 1, 0, none⟩), .pointer (some ⟨W.heap.size + 2, 0, none⟩)]) encS okS (fun l V => Thr w0 W.heap.size W.heap.size (.func (.func Kt) #[] #[]) (.func (.func Ks) #[] cs) f P l V)) := thr_fn w0 W.heap.size W.heap.size _ _ f P hT hS hf (Nat.le_refl _) hE.size
 have H0 : Hid (RdA w0.heap.size W (.slice p n c) gs ∧ AgI gs ∧ (seen gs).length ≤ 15000 ∧ gs.length ≤ 15000 ∧ P [] W ∧ Ext w0 W ∧ Nm w0) := ⟨hA, hI, hlen, hal, hP, hE, hN⟩
 have ST : Hid (∀ l W1 W', P l W1 → W.heap.size ≤ W1.heap.size → Env W.heap.size W1 W' → P l W') := stS
 clear hT hS hf hA hI hlen hal hP hE hN stS
 go_enter Tryz.func28, Tryz.ntmps28
 go_wp2_with fail
 generalize hW3 : ((W.alloc _).alloc _).alloc _ = W3
 have z1 : ∀ o, (W.alloc o).heap.size = W.heap.size + 1 := fun o => by simp
 have z2 : ∀ o o', ((W.alloc o).alloc o').heap.size = W.heap.size + 2 := fun o o' => by simp
 have z3 : W3.heap.size = W.heap.size + 3 := by rw [← hW3]; simp
 have E3 : Ext W W3 := by rw [← hW3]; exact (((Ext.refl _).alloc _).alloc _).alloc _
 have HT : Thr w0 W.heap.size W.heap.size (.func (.func Kt) #[] #[]) (.func (.func Ks) #[] cs) f P [] W3 := by
   refine ⟨ST.out _ _ _ H0.out.2.2.2.2.1 (Nat.le_refl _) (E3.env (Nat.le_refl _)), ?_, ?_, ?_, ?_, ?_, ?_⟩
   · rw [← hW3]; simp [go_sem]
   · rw [← hW3]; simp [go_sem]
   · rw [← hW3]; exact blk_top (by rw [z2]) (Ext.refl _)
   · rw [← hW3]; exact Own4.new (by decide) (((Ext.refl _).alloc _).alloc _)
   · rw [← hW3]; exact Own4.at (by rw [z1]) (by decide) ((Ext.refl _).alloc _)
   · rw [← hW3]; exact Own4.at (by rw [z2]) (by decide) (Ext.refl _)
 refine (each_any w0 (W.heap.size + 3) gs _ _ W3 p n c (H0.out.1.low (Below.mono E3 H0.out.2.2.2.2.2.1.size)) H0.out.2.1 H0.out.2.2.1 H0.out.2.2.2.1 HF.out HT (by omega) (H0.out.2.2.2.2.2.1.trans E3) H0.out.2.2.2.2.2.2).mono ?_
 rintro e w4 ⟨rfl, T4, M4⟩
 have X4 : Hid (Ext w0 w4) := M4.ext (H0.out.2.2.2.2.2.1.trans E3)
 have P4 : Hid (P (got f (seen gs)) w4) := T4.p
 have HB : Hid (Blk w4 (W.heap.size + 2) (.int .i64 (bad f (seen gs)).k) (.int .i64 (bad f (seen gs)).n) (.string (bad f (seen gs)).s) (.int .i64 (bad f (seen gs)).e) ∧ Own4 w4 (W.heap.size + 2) ∧ w0.heap.size ≤ W.heap.size) := ⟨T4.b, T4.ob, H0.out.2.2.2.2.2.1.size⟩
 obtain ⟨c0z, ⟨c0_0, c0_1, c0_2, c0_3⟩, c0f0, c0f1, c0f2, c0f3⟩ := T4.b
 have HD : Hid ((bad f (seen gs)).dat = .agg #[.int .i64 (bad f (seen gs)).k, .int .i64 (bad f (seen gs)).n, .string (bad f (seen gs)).s, .int .i64 (bad f (seen gs)).e]) := dat_eq _
 generalize (bad f (seen gs)).k = zk at *
 generalize (bad f (seen gs)).n = zn at *
 generalize (bad f (seen gs)).s = zs' at *
 generalize (bad f (seen gs)).e = ze at *
 have PZ : Hid (w4.heap.size = w4.heap.size ∧ W.heap.size ≤ w4.heap.size) := ⟨rfl, Nat.le_trans (by omega) M4.1.size⟩
 clear hW3 z1 z2 z3 E3 HT T4 M4 HF
 go_wp2_with fail
 have hb : W.heap.size ≤ W.heap.size + 2 := by omega
 have hb0 : w0.heap.size ≤ W.heap.size + 2 := Nat.le_trans HB.out.2.2 hb
 exact finB (w := w0) (HB.out.1.set _ _ _ _) rfl ((((X4.out.setCell (p := ⟨W.heap.size + 2, 0, none⟩) hb0 _).setCell (p := ⟨W.heap.size + 2, 1, none⟩) hb0 _).setCell (p := ⟨W.heap.size + 2, 2, none⟩) hb0 _).setCell (p := ⟨W.heap.size + 2, 3, none⟩) hb0 _)
   (fun g0 g1 g2 g3 => by simp [results, Tryz.results28, go_sem, g0, g1, g2, g3])
   (fun h => ⟨by rw [HD.out], ST.out _ _ _ P4.out PZ.out.2 ((((((Ext.refl w4).env PZ.out.2).set hb HB.out.2.1.2 _ _).set hb HB.out.2.1.2 _ _).set hb HB.out.2.1.2 _ _).set hb HB.out.2.1.2 _ _), h⟩)
end Go.Proofs.YtiahgalhemljnaaGreatDoor
