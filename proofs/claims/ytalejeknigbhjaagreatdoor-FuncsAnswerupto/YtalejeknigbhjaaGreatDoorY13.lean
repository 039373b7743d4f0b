/-
 The contract of the document's Literal.
 The contract of package value's Show; what is shown is read as what it was.
 The contracts of package value's ToText, ToBool, Neg.
 Package fold: number, truth; through.
-/
import Derived.Test.YtalejeknigbhjaaGreatDoorY12
import Derived.Test.YtalejeknigbhjaaGreatDoorY11
namespace Go.Proofs.YtalejeknigbhjaaGreatDoor
open Go.RowKit
set_option maxHeartbeats 1000000

open Go.RowKit
set_option maxHeartbeats 1000000

theorem truthname_any (k n : Int) (s : ByteArray) (e : Int) (b : Bool) (hb : (n == 0) = !b) (w : World) : Calls Tryz.prog 150 #[.agg #[.int .i64 k, .int .i64 n, .string s, .int .i64 e]] w fun r w' => r = .returned (.string (bs (if b then trueL else falseL))) ∧ Ext w w' := by
 cases b
 all_goals
   simp only [Bool.not_true, Bool.not_false] at hb
   go_enter Tryz.func150, Tryz.ntmps150
   go_wp2_with fail
   go_ret
   exact ⟨rfl, (Ext.refl _).alloc _⟩
theorem vshow_any (k n : Int) (s : ByteArray) (e : Int) (w : World) (hn : I64 n) (hT : Tab w) (hN : Nm w) :
   Calls Tryz.prog 142 #[.agg #[.int .i64 k, .int .i64 n, .string s, .int .i64 e]] w fun r w' => r = .returned (.string (nm k n s e).shown) ∧ Ext w w' := by
 have c0 := fun W h => vnormal_any k n s e W h
 have ok := nm_ok k n s e hn
 clear hn
 generalize nm k n s e = v at c0 ok ⊢
 cases v with
 | blank =>
   simp only [V.dat] at c0
   clear ok hT
   go_enter Tryz.func142, Tryz.ntmps142
   go_wp2_with fail
   refine (c0 _ (hN.ext (by with_reducible repeat (first | assumption | exact Ext.refl _ | apply Ext.alloc | apply Ext.drewN | (refine Ext.setCell ?_ (by simp) _))))).mono ?_
   rintro r w1 ⟨rfl, E1⟩
   have X1 : Ext w w1 := Ext.trans (by with_reducible repeat (first | assumption | exact Ext.refl _ | apply Ext.alloc | apply Ext.drewN | (refine Ext.setCell ?_ (by simp) _))) E1
   have B0_1 := blk_top (b := w.heap.size) (by simp) E1
   have D0 := B0_1
   obtain ⟨b0z, ⟨b0_0, b0_1, b0_2, b0_3⟩, b0f0, b0f1, b0f2, b0f3⟩ := D0
   go_wp2_with fail
   go_ret
   exact ⟨rfl, (by with_reducible repeat (first | assumption | exact Ext.refl _ | apply Ext.alloc | apply Ext.drewN | (refine Ext.setCell ?_ (by simp) _)))⟩
 | tf b =>
   simp only [V.dat] at c0
   cases b with
   | false =>
     simp only [Bool.false_eq_true, if_false] at c0
     have c1 := fun W => truthname_any 1 0 ⟨#[]⟩ 0 false (by decide) W
     clear ok hT
     go_enter Tryz.func142, Tryz.ntmps142
     go_wp2_with fail
     refine (c0 _ (hN.ext (by with_reducible repeat (first | assumption | exact Ext.refl _ | apply Ext.alloc | apply Ext.drewN | (refine Ext.setCell ?_ (by simp) _))))).mono ?_
     rintro r w1 ⟨rfl, E1⟩
     have X1 : Ext w w1 := Ext.trans (by with_reducible repeat (first | assumption | exact Ext.refl _ | apply Ext.alloc | apply Ext.drewN | (refine Ext.setCell ?_ (by simp) _))) E1
     have B0_1 := blk_top (b := w.heap.size) (by simp) E1
     have D0 := B0_1
     obtain ⟨b0z, ⟨b0_0, b0_1, b0_2, b0_3⟩, b0f0, b0f1, b0f2, b0f3⟩ := D0
     go_wp2_with fail
     refine (c1 _).mono ?_
     rintro r w2 ⟨rfl, E2⟩
     have X2 : Ext w w2 := Ext.trans (by with_reducible repeat (first | assumption | exact Ext.refl _ | apply Ext.alloc | apply Ext.drewN | (refine Ext.setCell ?_ (by simp) _))) E2
     go_wp2_with fail
     go_ret
     exact ⟨rfl, (by with_reducible repeat (first | assumption | exact Ext.refl _ | apply Ext.alloc | apply Ext.drewN | (refine Ext.setCell ?_ (by simp) _)))⟩
   | true =>
     simp only [if_true] at c0
     have c1 := fun W => truthname_any 1 1 ⟨#[]⟩ 0 true (by decide) W
     clear ok hT
     go_enter Tryz.func142, Tryz.ntmps142
     go_wp2_with fail
     refine (c0 _ (hN.ext (by with_reducible repeat (first | assumption | exact Ext.refl _ | apply Ext.alloc | apply Ext.drewN | (refine Ext.setCell ?_ (by simp) _))))).mono ?_
     rintro r w1 ⟨rfl, E1⟩
     have X1 : Ext w w1 := Ext.trans (by with_reducible repeat (first | assumption | exact Ext.refl _ | apply Ext.alloc | apply Ext.drewN | (refine Ext.setCell ?_ (by simp) _))) E1
     have B0_1 := blk_top (b := w.heap.size) (by simp) E1
     have D0 := B0_1
     obtain ⟨b0z, ⟨b0_0, b0_1, b0_2, b0_3⟩, b0f0, b0f1, b0f2, b0f3⟩ := D0
     go_wp2_with fail
     refine (c1 _).mono ?_
     rintro r w2 ⟨rfl, E2⟩
     have X2 : Ext w w2 := Ext.trans (by with_reducible repeat (first | assumption | exact Ext.refl _ | apply Ext.alloc | apply Ext.drewN | (refine Ext.setCell ?_ (by simp) _))) E2
     go_wp2_with fail
     go_ret
     exact ⟨rfl, (by with_reducible repeat (first | assumption | exact Ext.refl _ | apply Ext.alloc | apply Ext.drewN | (refine Ext.setCell ?_ (by simp) _)))⟩
 | num n =>
   simp only [V.dat] at c0
   have c1 := fun W h => print_any n ok.1 W h
   have H : Hid ((V.num n).shown = ⟨(printL n).toArray⟩) := rfl
   generalize (⟨(printL n).toArray⟩ : ByteArray) = q at *
   clear ok
   go_enter Tryz.func142, Tryz.ntmps142
   go_wp2_with fail
   refine (c0 _ (hN.ext (by with_reducible repeat (first | assumption | exact Ext.refl _ | apply Ext.alloc | apply Ext.drewN | (refine Ext.setCell ?_ (by simp) _))))).mono ?_
   rintro r w1 ⟨rfl, E1⟩
   have X1 : Ext w w1 := Ext.trans (by with_reducible repeat (first | assumption | exact Ext.refl _ | apply Ext.alloc | apply Ext.drewN | (refine Ext.setCell ?_ (by simp) _))) E1
   have B0_1 := blk_top (b := w.heap.size) (by simp) E1
   have D0 := B0_1
   obtain ⟨b0z, ⟨b0_0, b0_1, b0_2, b0_3⟩, b0f0, b0f1, b0f2, b0f3⟩ := D0
   go_wp2_with fail
   refine (c1 _ (hT.ext (by with_reducible repeat (first | assumption | exact Ext.refl _ | apply Ext.alloc | apply Ext.drewN | (refine Ext.setCell ?_ (by simp) _))))).mono ?_
   rintro r w2 ⟨rfl, E2⟩
   have X2 : Ext w w2 := Ext.trans (by with_reducible repeat (first | assumption | exact Ext.refl _ | apply Ext.alloc | apply Ext.drewN | (refine Ext.setCell ?_ (by simp) _))) E2
   go_wp2_with fail
   go_ret
   exact ⟨by rw [H.out]; rfl, (by with_reducible repeat (first | assumption | exact Ext.refl _ | apply Ext.alloc | apply Ext.drewN | (refine Ext.setCell ?_ (by simp) _)))⟩
 | text s =>
   simp only [V.dat] at c0
   clear ok hT
   go_enter Tryz.func142, Tryz.ntmps142
   go_wp2_with fail
   refine (c0 _ (hN.ext (by with_reducible repeat (first | assumption | exact Ext.refl _ | apply Ext.alloc | apply Ext.drewN | (refine Ext.setCell ?_ (by simp) _))))).mono ?_
   rintro r w1 ⟨rfl, E1⟩
   have X1 : Ext w w1 := Ext.trans (by with_reducible repeat (first | assumption | exact Ext.refl _ | apply Ext.alloc | apply Ext.drewN | (refine Ext.setCell ?_ (by simp) _))) E1
   have B0_1 := blk_top (b := w.heap.size) (by simp) E1
   have D0 := B0_1
   obtain ⟨b0z, ⟨b0_0, b0_1, b0_2, b0_3⟩, b0f0, b0f1, b0f2, b0f3⟩ := D0
   go_wp2_with fail
   go_ret
   exact ⟨rfl, (by with_reducible repeat (first | assumption | exact Ext.refl _ | apply Ext.alloc | apply Ext.drewN | (refine Ext.setCell ?_ (by simp) _)))⟩
 | err e =>
   simp only [V.dat] at c0
   have c1 := fun W h => errname_any e W h
   have H : Hid ((V.err e).shown = bs (errName e)) := rfl
   generalize bs (errName e) = q at *
   clear ok hT
   go_enter Tryz.func142, Tryz.ntmps142
   go_wp2_with fail
   refine (c0 _ (hN.ext (by with_reducible repeat (first | assumption | exact Ext.refl _ | apply Ext.alloc | apply Ext.drewN | (refine Ext.setCell ?_ (by simp) _))))).mono ?_
   rintro r w1 ⟨rfl, E1⟩
   have X1 : Ext w w1 := Ext.trans (by with_reducible repeat (first | assumption | exact Ext.refl _ | apply Ext.alloc | apply Ext.drewN | (refine Ext.setCell ?_ (by simp) _))) E1
   have B0_1 := blk_top (b := w.heap.size) (by simp) E1
   have D0 := B0_1
   obtain ⟨b0z, ⟨b0_0, b0_1, b0_2, b0_3⟩, b0f0, b0f1, b0f2, b0f3⟩ := D0
   go_wp2_with fail
   refine (c1 _ (hN.ext (by with_reducible repeat (first | assumption | exact Ext.refl _ | apply Ext.alloc | apply Ext.drewN | (refine Ext.setCell ?_ (by simp) _))))).mono ?_
   rintro r w2 ⟨rfl, rfl⟩
   go_wp2_with fail
   go_ret
   exact ⟨by rw [H.out]; rfl, (by with_reducible repeat (first | assumption | exact Ext.refl _ | apply Ext.alloc | apply Ext.drewN | (refine Ext.setCell ?_ (by simp) _)))⟩

open Go.RowKit
set_option maxHeartbeats 1000000

theorem vtotext_any (k n : Int) (s : ByteArray) (e : Int) (w : World) (hn : I64 n) (hT : Tab w) (hN : Nm w) :
   Calls Tryz.prog 120 #[.agg #[.int .i64 k, .int .i64 n, .string s, .int .i64 e]] w fun r w' => r = .returned ((nm k n s e).toText.dat) ∧ Ext w w' := by
 have c0 := fun W h => vnormal_any k n s e W h
 have ok := nm_ok k n s e hn
 clear hn
 generalize nm k n s e = v at c0 ok ⊢
 cases v with
 | blank =>
   simp only [V.dat] at c0
   have c1 := fun W h t => vshow_any 0 0 ⟨#[]⟩ 0 W ⟨by decide, by decide⟩ t h
   rw [nm_blank] at c1
   have hz := shown_size (V.blank) ok
   have c2 := fun W h => vtext_any (V.blank).shown W h
   rw [mkText_is hz] at c2
   simp only [V.dat] at c2
   have H : Hid ((V.blank).toText = .text (V.blank).shown) := rfl
   generalize (V.blank).shown = q at *
   clear hz ok
   go_enter Tryz.func120, Tryz.ntmps120
   go_wp2_with fail
   refine (c0 _ (hN.ext (by with_reducible repeat (first | assumption | exact Ext.refl _ | apply Ext.alloc | apply Ext.drewN | (refine Ext.setCell ?_ (by simp) _))))).mono ?_
   rintro r w1 ⟨rfl, E1⟩
   have X1 : Ext w w1 := Ext.trans (by with_reducible repeat (first | assumption | exact Ext.refl _ | apply Ext.alloc | apply Ext.drewN | (refine Ext.setCell ?_ (by simp) _))) E1
   have B0_1 := blk_top (b := w.heap.size) (by simp) (((Ext.refl _).alloc _).trans E1)
   have B1_1 := blk_top (b := w.heap.size + 1) (by simp) E1
   have D0 := B0_1
   obtain ⟨b0z, ⟨b0_0, b0_1, b0_2, b0_3⟩, b0f0, b0f1, b0f2, b0f3⟩ := D0
   have D1 := B1_1
   obtain ⟨b1z, ⟨b1_0, b1_1, b1_2, b1_3⟩, b1f0, b1f1, b1f2, b1f3⟩ := D1
   go_wp2_with fail
   refine (c1 _ (hN.ext (by with_reducible repeat (first | assumption | exact Ext.refl _ | apply Ext.alloc | apply Ext.drewN | (refine Ext.setCell ?_ (by simp) _)))) (hT.ext (by with_reducible repeat (first | assumption | exact Ext.refl _ | apply Ext.alloc | apply Ext.drewN | (refine Ext.setCell ?_ (by simp) _))))).mono ?_
   rintro r w2 ⟨rfl, E2⟩
   have X2 : Ext w w2 := Ext.trans (by with_reducible repeat (first | assumption | exact Ext.refl _ | apply Ext.alloc | apply Ext.drewN | (refine Ext.setCell ?_ (by simp) _))) E2
   have B1_2 := (B1_1.far (c := w.heap.size) (by simp) _ _ _ _).ext E2
   go_wp2_with fail
   refine (c2 _ (hN.ext (by with_reducible repeat (first | assumption | exact Ext.refl _ | apply Ext.alloc | apply Ext.drewN | (refine Ext.setCell ?_ (by simp) _))))).mono ?_
   rintro r w3 ⟨rfl, E3⟩
   have X3 : Ext w w3 := Ext.trans (by with_reducible repeat (first | assumption | exact Ext.refl _ | apply Ext.alloc | apply Ext.drewN | (refine Ext.setCell ?_ (by simp) _))) E3
   have B1_3 := B1_2.ext E3
   have D1 := B1_3
   obtain ⟨b1z, ⟨b1_0, b1_1, b1_2, b1_3⟩, b1f0, b1f1, b1f2, b1f3⟩ := D1
   go_wp2_with fail
   exact finB (B1_3.set _ _ _ _) rfl (by with_reducible repeat (first | assumption | exact Ext.refl _ | apply Ext.alloc | apply Ext.drewN | (refine Ext.setCell ?_ (by simp) _))) (fun g0 g1 g2 g3 => by simp [results, Tryz.results120, go_sem, g0, g1, g2, g3]) (fun h => ⟨by rw [H.out]; rfl, h⟩)
 | tf b =>
   simp only [V.dat] at c0
   cases b with
   | false =>
     simp only [Bool.false_eq_true, if_false] at c0
     have c1 := fun W h t => vshow_any 1 0 ⟨#[]⟩ 0 W ⟨by decide, by decide⟩ t h
     rw [show nm 1 0 ⟨#[]⟩ 0 = .tf false from rfl] at c1
     have hz := shown_size (V.tf false) ok
     have c2 := fun W h => vtext_any (V.tf false).shown W h
     rw [mkText_is hz] at c2
     simp only [V.dat] at c2
     have H : Hid ((V.tf false).toText = .text (V.tf false).shown) := rfl
     generalize (V.tf false).shown = q at *
     clear hz ok
     go_enter Tryz.func120, Tryz.ntmps120
     go_wp2_with fail
     refine (c0 _ (hN.ext (by with_reducible repeat (first | assumption | exact Ext.refl _ | apply Ext.alloc | apply Ext.drewN | (refine Ext.setCell ?_ (by simp) _))))).mono ?_
     rintro r w1 ⟨rfl, E1⟩
     have X1 : Ext w w1 := Ext.trans (by with_reducible repeat (first | assumption | exact Ext.refl _ | apply Ext.alloc | apply Ext.drewN | (refine Ext.setCell ?_ (by simp) _))) E1
     have B0_1 := blk_top (b := w.heap.size) (by simp) (((Ext.refl _).alloc _).trans E1)
     have B1_1 := blk_top (b := w.heap.size + 1) (by simp) E1
     have D0 := B0_1
     obtain ⟨b0z, ⟨b0_0, b0_1, b0_2, b0_3⟩, b0f0, b0f1, b0f2, b0f3⟩ := D0
     have D1 := B1_1
     obtain ⟨b1z, ⟨b1_0, b1_1, b1_2, b1_3⟩, b1f0, b1f1, b1f2, b1f3⟩ := D1
     go_wp2_with fail
     refine (c1 _ (hN.ext (by with_reducible repeat (first | assumption | exact Ext.refl _ | apply Ext.alloc | apply Ext.drewN | (refine Ext.setCell ?_ (by simp) _)))) (hT.ext (by with_reducible repeat (first | assumption | exact Ext.refl _ | apply Ext.alloc | apply Ext.drewN | (refine Ext.setCell ?_ (by simp) _))))).mono ?_
     rintro r w2 ⟨rfl, E2⟩
     have X2 : Ext w w2 := Ext.trans (by with_reducible repeat (first | assumption | exact Ext.refl _ | apply Ext.alloc | apply Ext.drewN | (refine Ext.setCell ?_ (by simp) _))) E2
     have B1_2 := (B1_1.far (c := w.heap.size) (by simp) _ _ _ _).ext E2
     go_wp2_with fail
     refine (c2 _ (hN.ext (by with_reducible repeat (first | assumption | exact Ext.refl _ | apply Ext.alloc | apply Ext.drewN | (refine Ext.setCell ?_ (by simp) _))))).mono ?_
     rintro r w3 ⟨rfl, E3⟩
     have X3 : Ext w w3 := Ext.trans (by with_reducible repeat (first | assumption | exact Ext.refl _ | apply Ext.alloc | apply Ext.drewN | (refine Ext.setCell ?_ (by simp) _))) E3
     have B1_3 := B1_2.ext E3
     have D1 := B1_3
     obtain ⟨b1z, ⟨b1_0, b1_1, b1_2, b1_3⟩, b1f0, b1f1, b1f2, b1f3⟩ := D1
     go_wp2_with fail
     exact finB (B1_3.set _ _ _ _) rfl (by with_reducible repeat (first | assumption | exact Ext.refl _ | apply Ext.alloc | apply Ext.drewN | (refine Ext.setCell ?_ (by simp) _))) (fun g0 g1 g2 g3 => by simp [results, Tryz.results120, go_sem, g0, g1, g2, g3]) (fun h => ⟨by rw [H.out]; rfl, h⟩)
   | true =>
     simp only [if_true] at c0
     have c1 := fun W h t => vshow_any 1 1 ⟨#[]⟩ 0 W ⟨by decide, by decide⟩ t h
     rw [show nm 1 1 ⟨#[]⟩ 0 = .tf true from rfl] at c1
     have hz := shown_size (V.tf true) ok
     have c2 := fun W h => vtext_any (V.tf true).shown W h
     rw [mkText_is hz] at c2
     simp only [V.dat] at c2
     have H : Hid ((V.tf true).toText = .text (V.tf true).shown) := rfl
     generalize (V.tf true).shown = q at *
     clear hz ok
     go_enter Tryz.func120, Tryz.ntmps120
     go_wp2_with fail
     refine (c0 _ (hN.ext (by with_reducible repeat (first | assumption | exact Ext.refl _ | apply Ext.alloc | apply Ext.drewN | (refine Ext.setCell ?_ (by simp) _))))).mono ?_
     rintro r w1 ⟨rfl, E1⟩
     have X1 : Ext w w1 := Ext.trans (by with_reducible repeat (first | assumption | exact Ext.refl _ | apply Ext.alloc | apply Ext.drewN | (refine Ext.setCell ?_ (by simp) _))) E1
     have B0_1 := blk_top (b := w.heap.size) (by simp) (((Ext.refl _).alloc _).trans E1)
     have B1_1 := blk_top (b := w.heap.size + 1) (by simp) E1
     have D0 := B0_1
     obtain ⟨b0z, ⟨b0_0, b0_1, b0_2, b0_3⟩, b0f0, b0f1, b0f2, b0f3⟩ := D0
     have D1 := B1_1
     obtain ⟨b1z, ⟨b1_0, b1_1, b1_2, b1_3⟩, b1f0, b1f1, b1f2, b1f3⟩ := D1
     go_wp2_with fail
     refine (c1 _ (hN.ext (by with_reducible repeat (first | assumption | exact Ext.refl _ | apply Ext.alloc | apply Ext.drewN | (refine Ext.setCell ?_ (by simp) _)))) (hT.ext (by with_reducible repeat (first | assumption | exact Ext.refl _ | apply Ext.alloc | apply Ext.drewN | (refine Ext.setCell ?_ (by simp) _))))).mono ?_
     rintro r w2 ⟨rfl, E2⟩
     have X2 : Ext w w2 := Ext.trans (by with_reducible repeat (first | assumption | exact Ext.refl _ | apply Ext.alloc | apply Ext.drewN | (refine Ext.setCell ?_ (by simp) _))) E2
     have B1_2 := (B1_1.far (c := w.heap.size) (by simp) _ _ _ _).ext E2
     go_wp2_with fail
     refine (c2 _ (hN.ext (by with_reducible repeat (first | assumption | exact Ext.refl _ | apply Ext.alloc | apply Ext.drewN | (refine Ext.setCell ?_ (by simp) _))))).mono ?_
     rintro r w3 ⟨rfl, E3⟩
     have X3 : Ext w w3 := Ext.trans (by with_reducible repeat (first | assumption | exact Ext.refl _ | apply Ext.alloc | apply Ext.drewN | (refine Ext.setCell ?_ (by simp) _))) E3
     have B1_3 := B1_2.ext E3
     have D1 := B1_3
     obtain ⟨b1z, ⟨b1_0, b1_1, b1_2, b1_3⟩, b1f0, b1f1, b1f2, b1f3⟩ := D1
     go_wp2_with fail
     exact finB (B1_3.set _ _ _ _) rfl (by with_reducible repeat (first | assumption | exact Ext.refl _ | apply Ext.alloc | apply Ext.drewN | (refine Ext.setCell ?_ (by simp) _))) (fun g0 g1 g2 g3 => by simp [results, Tryz.results120, go_sem, g0, g1, g2, g3]) (fun h => ⟨by rw [H.out]; rfl, h⟩)
 | num n =>
   simp only [V.dat] at c0
   have c1 := fun W h t => vshow_any 2 n ⟨#[]⟩ 0 W ok.1 t h
   rw [nm_num ok.2] at c1
   have hz := shown_size (V.num n) ok
   have c2 := fun W h => vtext_any (V.num n).shown W h
   rw [mkText_is hz] at c2
   simp only [V.dat] at c2
   have H : Hid ((V.num n).toText = .text (V.num n).shown) := rfl
   generalize (V.num n).shown = q at *
   clear hz ok
   go_enter Tryz.func120, Tryz.ntmps120
   go_wp2_with fail
   refine (c0 _ (hN.ext (by with_reducible repeat (first | assumption | exact Ext.refl _ | apply Ext.alloc | apply Ext.drewN | (refine Ext.setCell ?_ (by simp) _))))).mono ?_
   rintro r w1 ⟨rfl, E1⟩
   have X1 : Ext w w1 := Ext.trans (by with_reducible repeat (first | assumption | exact Ext.refl _ | apply Ext.alloc | apply Ext.drewN | (refine Ext.setCell ?_ (by simp) _))) E1
   have B0_1 := blk_top (b := w.heap.size) (by simp) (((Ext.refl _).alloc _).trans E1)
   have B1_1 := blk_top (b := w.heap.size + 1) (by simp) E1
   have D0 := B0_1
   obtain ⟨b0z, ⟨b0_0, b0_1, b0_2, b0_3⟩, b0f0, b0f1, b0f2, b0f3⟩ := D0
   have D1 := B1_1
   obtain ⟨b1z, ⟨b1_0, b1_1, b1_2, b1_3⟩, b1f0, b1f1, b1f2, b1f3⟩ := D1
   go_wp2_with fail
   refine (c1 _ (hN.ext (by with_reducible repeat (first | assumption | exact Ext.refl _ | apply Ext.alloc | apply Ext.drewN | (refine Ext.setCell ?_ (by simp) _)))) (hT.ext (by with_reducible repeat (first | assumption | exact Ext.refl _ | apply Ext.alloc | apply Ext.drewN | (refine Ext.setCell ?_ (by simp) _))))).mono ?_
   rintro r w2 ⟨rfl, E2⟩
   have X2 : Ext w w2 := Ext.trans (by with_reducible repeat (first | assumption | exact Ext.refl _ | apply Ext.alloc | apply Ext.drewN | (refine Ext.setCell ?_ (by simp) _))) E2
   have B1_2 := (B1_1.far (c := w.heap.size) (by simp) _ _ _ _).ext E2
   go_wp2_with fail
   refine (c2 _ (hN.ext (by with_reducible repeat (first | assumption | exact Ext.refl _ | apply Ext.alloc | apply Ext.drewN | (refine Ext.setCell ?_ (by simp) _))))).mono ?_
   rintro r w3 ⟨rfl, E3⟩
   have X3 : Ext w w3 := Ext.trans (by with_reducible repeat (first | assumption | exact Ext.refl _ | apply Ext.alloc | apply Ext.drewN | (refine Ext.setCell ?_ (by simp) _))) E3
   have B1_3 := B1_2.ext E3
   have D1 := B1_3
   obtain ⟨b1z, ⟨b1_0, b1_1, b1_2, b1_3⟩, b1f0, b1f1, b1f2, b1f3⟩ := D1
   go_wp2_with fail
   exact finB (B1_3.set _ _ _ _) rfl (by with_reducible repeat (first | assumption | exact Ext.refl _ | apply Ext.alloc | apply Ext.drewN | (refine Ext.setCell ?_ (by simp) _))) (fun g0 g1 g2 g3 => by simp [results, Tryz.results120, go_sem, g0, g1, g2, g3]) (fun h => ⟨by rw [H.out]; rfl, h⟩)
 | text s =>
   simp only [V.dat] at c0
   have c1 := fun W h t => vshow_any 3 0 s 0 W ⟨by decide, by decide⟩ t h
   rw [nm_text ok] at c1
   have hz := shown_size (V.text s) ok
   have c2 := fun W h => vtext_any (V.text s).shown W h
   rw [mkText_is hz] at c2
   simp only [V.dat] at c2
   have H : Hid ((V.text s).toText = .text (V.text s).shown) := rfl
   generalize (V.text s).shown = q at *
   clear hz ok
   go_enter Tryz.func120, Tryz.ntmps120
   go_wp2_with fail
   refine (c0 _ (hN.ext (by with_reducible repeat (first | assumption | exact Ext.refl _ | apply Ext.alloc | apply Ext.drewN | (refine Ext.setCell ?_ (by simp) _))))).mono ?_
   rintro r w1 ⟨rfl, E1⟩
   have X1 : Ext w w1 := Ext.trans (by with_reducible repeat (first | assumption | exact Ext.refl _ | apply Ext.alloc | apply Ext.drewN | (refine Ext.setCell ?_ (by simp) _))) E1
   have B0_1 := blk_top (b := w.heap.size) (by simp) (((Ext.refl _).alloc _).trans E1)
   have B1_1 := blk_top (b := w.heap.size + 1) (by simp) E1
   have D0 := B0_1
   obtain ⟨b0z, ⟨b0_0, b0_1, b0_2, b0_3⟩, b0f0, b0f1, b0f2, b0f3⟩ := D0
   have D1 := B1_1
   obtain ⟨b1z, ⟨b1_0, b1_1, b1_2, b1_3⟩, b1f0, b1f1, b1f2, b1f3⟩ := D1
   go_wp2_with fail
   refine (c1 _ (hN.ext (by with_reducible repeat (first | assumption | exact Ext.refl _ | apply Ext.alloc | apply Ext.drewN | (refine Ext.setCell ?_ (by simp) _)))) (hT.ext (by with_reducible repeat (first | assumption | exact Ext.refl _ | apply Ext.alloc | apply Ext.drewN | (refine Ext.setCell ?_ (by simp) _))))).mono ?_
   rintro r w2 ⟨rfl, E2⟩
   have X2 : Ext w w2 := Ext.trans (by with_reducible repeat (first | assumption | exact Ext.refl _ | apply Ext.alloc | apply Ext.drewN | (refine Ext.setCell ?_ (by simp) _))) E2
   have B1_2 := (B1_1.far (c := w.heap.size) (by simp) _ _ _ _).ext E2
   go_wp2_with fail
   refine (c2 _ (hN.ext (by with_reducible repeat (first | assumption | exact Ext.refl _ | apply Ext.alloc | apply Ext.drewN | (refine Ext.setCell ?_ (by simp) _))))).mono ?_
   rintro r w3 ⟨rfl, E3⟩
   have X3 : Ext w w3 := Ext.trans (by with_reducible repeat (first | assumption | exact Ext.refl _ | apply Ext.alloc | apply Ext.drewN | (refine Ext.setCell ?_ (by simp) _))) E3
   have B1_3 := B1_2.ext E3
   have D1 := B1_3
   obtain ⟨b1z, ⟨b1_0, b1_1, b1_2, b1_3⟩, b1f0, b1f1, b1f2, b1f3⟩ := D1
   go_wp2_with fail
   exact finB (B1_3.set _ _ _ _) rfl (by with_reducible repeat (first | assumption | exact Ext.refl _ | apply Ext.alloc | apply Ext.drewN | (refine Ext.setCell ?_ (by simp) _))) (fun g0 g1 g2 g3 => by simp [results, Tryz.results120, go_sem, g0, g1, g2, g3]) (fun h => ⟨by rw [H.out]; rfl, h⟩)
 | err e =>
   simp only [V.dat] at c0
   clear ok hT
   go_enter Tryz.func120, Tryz.ntmps120
   go_wp2_with fail
   refine (c0 _ (hN.ext (by with_reducible repeat (first | assumption | exact Ext.refl _ | apply Ext.alloc | apply Ext.drewN | (refine Ext.setCell ?_ (by simp) _))))).mono ?_
   rintro r w1 ⟨rfl, E1⟩
   have X1 : Ext w w1 := Ext.trans (by with_reducible repeat (first | assumption | exact Ext.refl _ | apply Ext.alloc | apply Ext.drewN | (refine Ext.setCell ?_ (by simp) _))) E1
   have B0_1 := blk_top (b := w.heap.size) (by simp) (((Ext.refl _).alloc _).trans E1)
   have B1_1 := blk_top (b := w.heap.size + 1) (by simp) E1
   have D0 := B0_1
   obtain ⟨b0z, ⟨b0_0, b0_1, b0_2, b0_3⟩, b0f0, b0f1, b0f2, b0f3⟩ := D0
   have D1 := B1_1
   obtain ⟨b1z, ⟨b1_0, b1_1, b1_2, b1_3⟩, b1f0, b1f1, b1f2, b1f3⟩ := D1
   go_wp2_with fail
   exact finB ((B1_1.far (c := w.heap.size) (by simp) _ _ _ _).set _ _ _ _) rfl (by with_reducible repeat (first | assumption | exact Ext.refl _ | apply Ext.alloc | apply Ext.drewN | (refine Ext.setCell ?_ (by simp) _))) (fun g0 g1 g2 g3 => by simp [results, Tryz.results120, go_sem, g0, g1, g2, g3]) (fun h => ⟨rfl, h⟩)
theorem truK_cases (s : ByteArray) : (truK s = true ∧ (V.text s).toBool = truR s) ∨ (truK s = false ∧ (V.text s).toBool = .err 2) := by
 have e : (V.text s).toBool = if s.data.toList = trueL then .tf true else if s.data.toList = falseL then .tf false else .err 2 := rfl
 rw [e]
 unfold truK truR
 by_cases h : s.data.toList = trueL
 · left; rw [if_pos h, if_pos h]; simp [h]
 · by_cases g : s.data.toList = falseL
   · left; rw [if_neg h, if_pos g, if_neg h, if_pos g]; simp [g]
   · right; rw [if_neg h, if_neg g]; simp [h, g]
theorem vtobool_any (k n : Int) (s : ByteArray) (e : Int) (w : World) (hn : I64 n) (hN : Nm w) :
   Calls Tryz.prog 110 #[.agg #[.int .i64 k, .int .i64 n, .string s, .int .i64 e]] w fun r w' => r = .returned ((nm k n s e).toBool.dat) ∧ Ext w w' := by
 have c0 := fun W h => vnormal_any k n s e W h
 have ok := nm_ok k n s e hn
 clear hn
 generalize nm k n s e = v at c0 ok ⊢
 cases v with
 | blank =>
   simp only [V.dat] at c0
   have c1 := fun W => vbool_any false W
   simp only [V.dat, Bool.false_eq_true, if_false] at c1
   clear ok
   go_enter Tryz.func110, Tryz.ntmps110
   go_wp2_with fail
   refine (c0 _ (hN.ext (by with_reducible repeat (first | assumption | exact Ext.refl _ | apply Ext.alloc | apply Ext.drewN | (refine Ext.setCell ?_ (by simp) _))))).mono ?_
   rintro r w1 ⟨rfl, E1⟩
   have X1 : Ext w w1 := Ext.trans (by with_reducible repeat (first | assumption | exact Ext.refl _ | apply Ext.alloc | apply Ext.drewN | (refine Ext.setCell ?_ (by simp) _))) E1
   have B0_1 := blk_top (b := w.heap.size) (by simp) (((Ext.refl _).alloc _).trans E1)
   have B1_1 := blk_top (b := w.heap.size + 1) (by simp) E1
   have D0 := B0_1
   obtain ⟨b0z, ⟨b0_0, b0_1, b0_2, b0_3⟩, b0f0, b0f1, b0f2, b0f3⟩ := D0
   have D1 := B1_1
   obtain ⟨b1z, ⟨b1_0, b1_1, b1_2, b1_3⟩, b1f0, b1f1, b1f2, b1f3⟩ := D1
   go_wp2_with fail
   refine (c1 _).mono ?_
   rintro r w2 ⟨rfl, E2⟩
   have X2 : Ext w w2 := Ext.trans (by with_reducible repeat (first | assumption | exact Ext.refl _ | apply Ext.alloc | apply Ext.drewN | (refine Ext.setCell ?_ (by simp) _))) E2
   have B1_2 := (B1_1.far (c := w.heap.size) (by simp) _ _ _ _).ext E2
   have D1 := B1_2
   obtain ⟨b1z, ⟨b1_0, b1_1, b1_2, b1_3⟩, b1f0, b1f1, b1f2, b1f3⟩ := D1
   go_wp2_with fail
   exact finB (B1_2.set _ _ _ _) rfl (by with_reducible repeat (first | assumption | exact Ext.refl _ | apply Ext.alloc | apply Ext.drewN | (refine Ext.setCell ?_ (by simp) _))) (fun g0 g1 g2 g3 => by simp [results, Tryz.results110, go_sem, g0, g1, g2, g3]) (fun h => ⟨rfl, h⟩)
 | tf b =>
   simp only [V.dat] at c0
   cases b with
   | false =>
     simp only [Bool.false_eq_true, if_false] at c0
     have c1 := fun W => vbool_any false W
     simp only [V.dat, Bool.false_eq_true, if_false] at c1
     clear ok
     go_enter Tryz.func110, Tryz.ntmps110
     go_wp2_with fail
     refine (c0 _ (hN.ext (by with_reducible repeat (first | assumption | exact Ext.refl _ | apply Ext.alloc | apply Ext.drewN | (refine Ext.setCell ?_ (by simp) _))))).mono ?_
     rintro r w1 ⟨rfl, E1⟩
     have X1 : Ext w w1 := Ext.trans (by with_reducible repeat (first | assumption | exact Ext.refl _ | apply Ext.alloc | apply Ext.drewN | (refine Ext.setCell ?_ (by simp) _))) E1
     have B0_1 := blk_top (b := w.heap.size) (by simp) (((Ext.refl _).alloc _).trans E1)
     have B1_1 := blk_top (b := w.heap.size + 1) (by simp) E1
     have D0 := B0_1
     obtain ⟨b0z, ⟨b0_0, b0_1, b0_2, b0_3⟩, b0f0, b0f1, b0f2, b0f3⟩ := D0
     have D1 := B1_1
     obtain ⟨b1z, ⟨b1_0, b1_1, b1_2, b1_3⟩, b1f0, b1f1, b1f2, b1f3⟩ := D1
     go_wp2_with fail
     refine (c1 _).mono ?_
     rintro r w2 ⟨rfl, E2⟩
     have X2 : Ext w w2 := Ext.trans (by with_reducible repeat (first | assumption | exact Ext.refl _ | apply Ext.alloc | apply Ext.drewN | (refine Ext.setCell ?_ (by simp) _))) E2
     have B1_2 := (B1_1.far (c := w.heap.size) (by simp) _ _ _ _).ext E2
     have D1 := B1_2
     obtain ⟨b1z, ⟨b1_0, b1_1, b1_2, b1_3⟩, b1f0, b1f1, b1f2, b1f3⟩ := D1
     go_wp2_with fail
     exact finB (B1_2.set _ _ _ _) rfl (by with_reducible repeat (first | assumption | exact Ext.refl _ | apply Ext.alloc | apply Ext.drewN | (refine Ext.setCell ?_ (by simp) _))) (fun g0 g1 g2 g3 => by simp [results, Tryz.results110, go_sem, g0, g1, g2, g3]) (fun h => ⟨rfl, h⟩)
   | true =>
     simp only [if_true] at c0
     have c1 := fun W => vbool_any true W
     simp only [V.dat, if_true] at c1
     clear ok
     go_enter Tryz.func110, Tryz.ntmps110
     go_wp2_with fail
     refine (c0 _ (hN.ext (by with_reducible repeat (first | assumption | exact Ext.refl _ | apply Ext.alloc | apply Ext.drewN | (refine Ext.setCell ?_ (by simp) _))))).mono ?_
     rintro r w1 ⟨rfl, E1⟩
     have X1 : Ext w w1 := Ext.trans (by with_reducible repeat (first | assumption | exact Ext.refl _ | apply Ext.alloc | apply Ext.drewN | (refine Ext.setCell ?_ (by simp) _))) E1
     have B0_1 := blk_top (b := w.heap.size) (by simp) (((Ext.refl _).alloc _).trans E1)
     have B1_1 := blk_top (b := w.heap.size + 1) (by simp) E1
     have D0 := B0_1
     obtain ⟨b0z, ⟨b0_0, b0_1, b0_2, b0_3⟩, b0f0, b0f1, b0f2, b0f3⟩ := D0
     have D1 := B1_1
     obtain ⟨b1z, ⟨b1_0, b1_1, b1_2, b1_3⟩, b1f0, b1f1, b1f2, b1f3⟩ := D1
     go_wp2_with fail
     refine (c1 _).mono ?_
     rintro r w2 ⟨rfl, E2⟩
     have X2 : Ext w w2 := Ext.trans (by with_reducible repeat (first | assumption | exact Ext.refl _ | apply Ext.alloc | apply Ext.drewN | (refine Ext.setCell ?_ (by simp) _))) E2
     have B1_2 := (B1_1.far (c := w.heap.size) (by simp) _ _ _ _).ext E2
     have D1 := B1_2
     obtain ⟨b1z, ⟨b1_0, b1_1, b1_2, b1_3⟩, b1f0, b1f1, b1f2, b1f3⟩ := D1
     go_wp2_with fail
     exact finB (B1_2.set _ _ _ _) rfl (by with_reducible repeat (first | assumption | exact Ext.refl _ | apply Ext.alloc | apply Ext.drewN | (refine Ext.setCell ?_ (by simp) _))) (fun g0 g1 g2 g3 => by simp [results, Tryz.results110, go_sem, g0, g1, g2, g3]) (fun h => ⟨rfl, h⟩)
 | num n =>
   simp only [V.dat] at c0
   obtain ⟨q0, q1, q2, q3, hq⟩ := dat4 (V.tf (n != 0))
   have c1 := fun W => vbool_any (n != 0) W
   rw [hq] at c1
   have H : Hid ((V.num n).toBool.dat = .agg #[.int .i64 q0, .int .i64 q1, .string q2, .int .i64 q3]) := hq
   clear hq ok
   go_enter Tryz.func110, Tryz.ntmps110
   go_wp2_with fail
   refine (c0 _ (hN.ext (by with_reducible repeat (first | assumption | exact Ext.refl _ | apply Ext.alloc | apply Ext.drewN | (refine Ext.setCell ?_ (by simp) _))))).mono ?_
   rintro r w1 ⟨rfl, E1⟩
   have X1 : Ext w w1 := Ext.trans (by with_reducible repeat (first | assumption | exact Ext.refl _ | apply Ext.alloc | apply Ext.drewN | (refine Ext.setCell ?_ (by simp) _))) E1
   have B0_1 := blk_top (b := w.heap.size) (by simp) (((Ext.refl _).alloc _).trans E1)
   have B1_1 := blk_top (b := w.heap.size + 1) (by simp) E1
   have D0 := B0_1
   obtain ⟨b0z, ⟨b0_0, b0_1, b0_2, b0_3⟩, b0f0, b0f1, b0f2, b0f3⟩ := D0
   have D1 := B1_1
   obtain ⟨b1z, ⟨b1_0, b1_1, b1_2, b1_3⟩, b1f0, b1f1, b1f2, b1f3⟩ := D1
   go_wp2_with fail
   refine (c1 _).mono ?_
   rintro r w2 ⟨rfl, E2⟩
   have X2 : Ext w w2 := Ext.trans (by with_reducible repeat (first | assumption | exact Ext.refl _ | apply Ext.alloc | apply Ext.drewN | (refine Ext.setCell ?_ (by simp) _))) E2
   have B1_2 := (B1_1.far (c := w.heap.size) (by simp) _ _ _ _).ext E2
   have D1 := B1_2
   obtain ⟨b1z, ⟨b1_0, b1_1, b1_2, b1_3⟩, b1f0, b1f1, b1f2, b1f3⟩ := D1
   go_wp2_with fail
   exact finB (B1_2.set _ _ _ _) rfl (by with_reducible repeat (first | assumption | exact Ext.refl _ | apply Ext.alloc | apply Ext.drewN | (refine Ext.setCell ?_ (by simp) _))) (fun g0 g1 g2 g3 => by simp [results, Tryz.results110, go_sem, g0, g1, g2, g3]) (fun h => ⟨by rw [H.out], h⟩)
 | text s =>
   simp only [V.dat] at c0
   have c1 := fun W => truth_any s W
   have c2 := fun W h => err_any 2 W h
   rw [mkErr_is ⟨by decide, by decide⟩] at c2
   simp only [V.dat] at c2
   have hk := truK_cases s
   clear ok
   obtain ⟨q0, q1, q2, q3, hq⟩ := dat4 (truR s)
   rw [hq] at c1
   rcases hk with ⟨h1, h2⟩ | ⟨h1, h2⟩
   · rw [h1] at c1
     have H : Hid ((V.text s).toBool.dat = .agg #[.int .i64 q0, .int .i64 q1, .string q2, .int .i64 q3]) := by show _ = _; rw [h2]; exact hq
     clear hq h1 h2 c2
     go_enter Tryz.func110, Tryz.ntmps110
     go_wp2_with fail
     refine (c0 _ (hN.ext (by with_reducible repeat (first | assumption | exact Ext.refl _ | apply Ext.alloc | apply Ext.drewN | (refine Ext.setCell ?_ (by simp) _))))).mono ?_
     rintro r w1 ⟨rfl, E1⟩
     have X1 : Ext w w1 := Ext.trans (by with_reducible repeat (first | assumption | exact Ext.refl _ | apply Ext.alloc | apply Ext.drewN | (refine Ext.setCell ?_ (by simp) _))) E1
     have B0_1 := blk_top (b := w.heap.size) (by simp) (((Ext.refl _).alloc _).trans E1)
     have B1_1 := blk_top (b := w.heap.size + 1) (by simp) E1
     have D0 := B0_1
     obtain ⟨b0z, ⟨b0_0, b0_1, b0_2, b0_3⟩, b0f0, b0f1, b0f2, b0f3⟩ := D0
     have D1 := B1_1
     obtain ⟨b1z, ⟨b1_0, b1_1, b1_2, b1_3⟩, b1f0, b1f1, b1f2, b1f3⟩ := D1
     go_wp2_with fail
     refine (c1 _).mono ?_
     rintro r w2 ⟨rfl, E2⟩
     have X2 : Ext w w2 := Ext.trans (by with_reducible repeat (first | assumption | exact Ext.refl _ | apply Ext.alloc | apply Ext.drewN | (refine Ext.setCell ?_ (by simp) _))) E2
     have B1_2 := (B1_1.far (c := w.heap.size) (by simp) _ _ _ _).ext E2
     have D1 := B1_2
     obtain ⟨b1z, ⟨b1_0, b1_1, b1_2, b1_3⟩, b1f0, b1f1, b1f2, b1f3⟩ := D1
     go_wp2_with fail
     exact finB ((B1_2.set _ _ _ _).ext ((Ext.refl _).alloc _)) rfl (by with_reducible repeat (first | assumption | exact Ext.refl _ | apply Ext.alloc | apply Ext.drewN | (refine Ext.setCell ?_ (by simp) _))) (fun g0 g1 g2 g3 => by simp [results, Tryz.results110, go_sem, g0, g1, g2, g3]) (fun h => ⟨by rw [H.out], h⟩)
   · rw [h1] at c1
     have H : Hid ((V.text s).toBool = .err 2) := h2
     clear hq h1 h2
     go_enter Tryz.func110, Tryz.ntmps110
     go_wp2_with fail
     refine (c0 _ (hN.ext (by with_reducible repeat (first | assumption | exact Ext.refl _ | apply Ext.alloc | apply Ext.drewN | (refine Ext.setCell ?_ (by simp) _))))).mono ?_
     rintro r w1 ⟨rfl, E1⟩
     have X1 : Ext w w1 := Ext.trans (by with_reducible repeat (first | assumption | exact Ext.refl _ | apply Ext.alloc | apply Ext.drewN | (refine Ext.setCell ?_ (by simp) _))) E1
     have B0_1 := blk_top (b := w.heap.size) (by simp) (((Ext.refl _).alloc _).trans E1)
     have B1_1 := blk_top (b := w.heap.size + 1) (by simp) E1
     have D0 := B0_1
     obtain ⟨b0z, ⟨b0_0, b0_1, b0_2, b0_3⟩, b0f0, b0f1, b0f2, b0f3⟩ := D0
     have D1 := B1_1
     obtain ⟨b1z, ⟨b1_0, b1_1, b1_2, b1_3⟩, b1f0, b1f1, b1f2, b1f3⟩ := D1
     go_wp2_with fail
     refine (c1 _).mono ?_
     rintro r w2 ⟨rfl, E2⟩
     have X2 : Ext w w2 := Ext.trans (by with_reducible repeat (first | assumption | exact Ext.refl _ | apply Ext.alloc | apply Ext.drewN | (refine Ext.setCell ?_ (by simp) _))) E2
     have B1_2 := (B1_1.far (c := w.heap.size) (by simp) _ _ _ _).ext E2
     have D1 := B1_2
     obtain ⟨b1z, ⟨b1_0, b1_1, b1_2, b1_3⟩, b1f0, b1f1, b1f2, b1f3⟩ := D1
     go_wp2_with fail
     refine (c2 _ (hN.ext (by with_reducible repeat (first | assumption | exact Ext.refl _ | apply Ext.alloc | apply Ext.drewN | (refine Ext.setCell ?_ (by simp) _))))).mono ?_
     rintro r w3 ⟨rfl, E3⟩
     have X3 : Ext w w3 := Ext.trans (by with_reducible repeat (first | assumption | exact Ext.refl _ | apply Ext.alloc | apply Ext.drewN | (refine Ext.setCell ?_ (by simp) _))) E3
     have B1_3 := (B1_2.ext ((Ext.refl _).alloc _)).ext E3
     have D1 := B1_3
     obtain ⟨b1z, ⟨b1_0, b1_1, b1_2, b1_3⟩, b1f0, b1f1, b1f2, b1f3⟩ := D1
     go_wp2_with fail
     exact finB (B1_3.set _ _ _ _) rfl (by with_reducible repeat (first | assumption | exact Ext.refl _ | apply Ext.alloc | apply Ext.drewN | (refine Ext.setCell ?_ (by simp) _))) (fun g0 g1 g2 g3 => by simp [results, Tryz.results110, go_sem, g0, g1, g2, g3]) (fun h => ⟨by rw [H.out]; rfl, h⟩)
 | err e =>
   simp only [V.dat] at c0
   clear ok
   go_enter Tryz.func110, Tryz.ntmps110
   go_wp2_with fail
   refine (c0 _ (hN.ext (by with_reducible repeat (first | assumption | exact Ext.refl _ | apply Ext.alloc | apply Ext.drewN | (refine Ext.setCell ?_ (by simp) _))))).mono ?_
   rintro r w1 ⟨rfl, E1⟩
   have X1 : Ext w w1 := Ext.trans (by with_reducible repeat (first | assumption | exact Ext.refl _ | apply Ext.alloc | apply Ext.drewN | (refine Ext.setCell ?_ (by simp) _))) E1
   have B0_1 := blk_top (b := w.heap.size) (by simp) (((Ext.refl _).alloc _).trans E1)
   have B1_1 := blk_top (b := w.heap.size + 1) (by simp) E1
   have D0 := B0_1
   obtain ⟨b0z, ⟨b0_0, b0_1, b0_2, b0_3⟩, b0f0, b0f1, b0f2, b0f3⟩ := D0
   have D1 := B1_1
   obtain ⟨b1z, ⟨b1_0, b1_1, b1_2, b1_3⟩, b1f0, b1f1, b1f2, b1f3⟩ := D1
   go_wp2_with fail
   exact finB ((B1_1.far (c := w.heap.size) (by simp) _ _ _ _).set _ _ _ _) rfl (by with_reducible repeat (first | assumption | exact Ext.refl _ | apply Ext.alloc | apply Ext.drewN | (refine Ext.setCell ?_ (by simp) _))) (fun g0 g1 g2 g3 => by simp [results, Tryz.results110, go_sem, g0, g1, g2, g3]) (fun h => ⟨rfl, h⟩)

open Go.RowKit
set_option maxHeartbeats 1000000

theorem I64.z : I64 0 := ⟨by decide, by decide⟩
theorem nm_of (x : V) (h : x.ok) : nm x.k x.n x.s x.e = x ∧ I64 x.n := by
 cases x with
 | blank => exact ⟨rfl, by decide, by decide⟩
 | tf b => cases b <;> exact ⟨rfl, by decide, by decide⟩
 | num n => exact ⟨mkNum_is h.2, h.1⟩
 | text s => exact ⟨mkText_is h, I64.z⟩
 | err e => exact ⟨mkErr_is h, I64.z⟩
set_option maxRecDepth 100000 in
theorem number_any (x : V) (a : Bool) (W : World) (hN : Nm W) (hx : x.ok) : Calls Tryz.prog 128 #[x.dat, .bool a] W fun e w' => e = .returned (numF x a).dat ∧ Ext W w' := by
 cases a with
 | false =>
   have c0 := fun W h => vtonum_any x.k x.n x.s x.e W (nm_of x hx).2 h
   rw [(nm_of x hx).1] at c0
   have H : Hid (numF x false = x.toNum) := rfl
   rw [dat_eq x]
   obtain ⟨q0, q1, q2, q3, hq⟩ := dat4 x.toNum
   rw [hq] at c0
   have HQ : Hid (x.toNum.dat = .agg #[.int .i64 q0, .int .i64 q1, .string q2, .int .i64 q3]) := hq
   clear hq hx
   generalize x.k = xk at *
   generalize x.n = xn at *
   generalize x.s = xs at *
   generalize x.e = xe at *
   go_enter Tryz.func128, Tryz.ntmps128
   go_wp2_with fail
   refine (c0 _ (hN.ext (((Ext.refl _).alloc _).alloc _))).mono ?_
   rintro e w1 ⟨rfl, E1⟩
   obtain ⟨z, ⟨k0, k1, k2, k3⟩, f0, f1, f2, f3⟩ := blk_top (b := W.heap.size + 1) (by simp) E1
   go_wp2_with fail
   exact fin4 k0 k1 k2 k3 rfl (by simp) ((((Ext.refl _).alloc _).alloc _).trans E1) (fun W g0 g1 g2 g3 => by simp [results, Tryz.results128, go_sem, g0, g1, g2, g3]) (fun W h => ⟨by rw [H.out, HQ.out], h⟩)
 | true =>
   clear hN
   have X2 : Hid (∀ o1 o2, Ext W ((W.alloc o1).alloc o2)) := fun o1 o2 => ((Ext.refl _).alloc _).alloc _
   cases x with
   | blank =>
     clear hx
     simp only [V.dat, numF, if_true]
     go_enter Tryz.func128, Tryz.ntmps128
     go_wp2_with fail
     simp [bodyPost, results, Tryz.results128, go_sem]
     exact X2.out _ _
   | tf b =>
     clear hx
     simp only [V.dat, numF, if_true]
     generalize (if b = true then (1 : Int) else 0) = bn
     go_enter Tryz.func128, Tryz.ntmps128
     go_wp2_with fail
     simp [bodyPost, results, Tryz.results128, go_sem]
     exact X2.out _ _
   | num n =>
     clear hx
     simp only [V.dat, numF, if_true]
     go_enter Tryz.func128, Tryz.ntmps128
     go_wp2_with fail
     simp [bodyPost, results, Tryz.results128, go_sem]
     exact X2.out _ _
   | text s =>
     clear hx
     simp only [V.dat, numF, if_true]
     go_enter Tryz.func128, Tryz.ntmps128
     go_wp2_with fail
     simp [bodyPost, results, Tryz.results128, go_sem]
     exact X2.out _ _
   | err e =>
     clear hx
     simp only [V.dat, numF, if_true]
     go_enter Tryz.func128, Tryz.ntmps128
     go_wp2_with fail
     simp [bodyPost, results, Tryz.results128, go_sem]
     exact X2.out _ _
set_option maxRecDepth 100000 in
theorem truthB (x : V) (a : Bool) (W : World) (hN : Nm W) (hx : x.ok) (hc : a = false ∨ (x.k ≠ 0 ∧ x.k ≠ 3)) : Calls Tryz.prog 134 #[x.dat, .bool a] W fun e w' => e = .returned x.toBool.dat ∧ Ext W w' := by
 have c0 := fun W h => vtobool_any x.k x.n x.s x.e W (nm_of x hx).2 h
 rw [(nm_of x hx).1] at c0
 rw [dat_eq x]
 obtain ⟨q0, q1, q2, q3, hq⟩ := dat4 x.toBool
 rw [hq] at c0 ⊢
 clear hq hx
 generalize x.k = xk at *
 generalize x.n = xn at *
 generalize x.s = xs at *
 generalize x.e = xe at *
 cases a with
 | false =>
   clear hc
   go_enter Tryz.func134, Tryz.ntmps134
   go_wp2_with fail
   refine (c0 _ (hN.ext (((Ext.refl _).alloc _).alloc _))).mono ?_
   rintro e w1 ⟨rfl, E1⟩
   obtain ⟨z, ⟨k0, k1, k2, k3⟩, f0, f1, f2, f3⟩ := blk_top (b := W.heap.size + 1) (by simp) E1
   go_wp2_with fail
   exact fin4 k0 k1 k2 k3 rfl (by simp) ((((Ext.refl _).alloc _).alloc _).trans E1) (fun W g0 g1 g2 g3 => by simp [results, Tryz.results134, go_sem, g0, g1, g2, g3]) (fun W h => ⟨rfl, h⟩)
 | true =>
   have hh : xk ≠ 0 ∧ xk ≠ 3 := hc.resolve_left (by simp)
   have e0 : (xk == 0) = false := by simpa using hh.1
   have e3 : (xk == 3) = false := by simpa using hh.2
   clear hc hh
   go_enter Tryz.func134, Tryz.ntmps134
   go_wp2_with fail
   refine (c0 _ (hN.ext (((Ext.refl _).alloc _).alloc _))).mono ?_
   rintro e w1 ⟨rfl, E1⟩
   obtain ⟨z, ⟨k0, k1, k2, k3⟩, f0, f1, f2, f3⟩ := blk_top (b := W.heap.size + 1) (by simp) E1
   go_wp2_with fail
   exact fin4 k0 k1 k2 k3 rfl (by simp) ((((Ext.refl _).alloc _).alloc _).trans E1) (fun W g0 g1 g2 g3 => by simp [results, Tryz.results134, go_sem, g0, g1, g2, g3]) (fun W h => ⟨rfl, h⟩)
set_option maxRecDepth 100000 in
theorem ftruth_any (x : V) (a : Bool) (W : World) (hN : Nm W) (hx : x.ok) : Calls Tryz.prog 134 #[x.dat, .bool a] W fun e w' => e = .returned (truF x a).dat ∧ Ext W w' := by
 cases a with
 | false => exact truthB x false W hN hx (.inl rfl)
 | true =>
   have X2 : Hid (∀ o1 o2, Ext W ((W.alloc o1).alloc o2)) := fun o1 o2 => ((Ext.refl _).alloc _).alloc _
   cases x with
   | tf b => exact truthB _ true W hN hx (.inr ⟨by simp [V.k], by simp [V.k]⟩)
   | num n => exact truthB _ true W hN hx (.inr ⟨by simp [V.k], by simp [V.k]⟩)
   | err e => exact truthB _ true W hN hx (.inr ⟨by simp [V.k], by simp [V.k]⟩)
   | blank =>
     clear hx hN
     simp only [V.dat, truF, if_true]
     go_enter Tryz.func134, Tryz.ntmps134
     go_wp2_with fail
     simp [bodyPost, results, Tryz.results134, go_sem]
     exact X2.out _ _
   | text s =>
     clear hx hN
     simp only [V.dat, truF, if_true]
     go_enter Tryz.func134, Tryz.ntmps134
     go_wp2_with fail
     simp [bodyPost, results, Tryz.results134, go_sem]
     exact X2.out _ _
/-- A function value that turns values. -/
def TurnC (w0 : World) (v : Value) (f : V → Bool → V) : Prop := ∃ K, v = .func (.func K) #[] #[] ∧ (∀ args W, (callFunc K args).run Tryz.prog W = .ok (.enter K args) W) ∧
 ∀ W x a, Ext w0 W → x.ok → Calls Tryz.prog K #[x.dat, .bool a] W fun e w' => e = .returned (f x a).dat ∧ Ext W w'
theorem turn_number (w0 : World) (hN : Nm w0) : TurnC w0 (.func (.func 128) #[] #[]) numF :=
 ⟨128, rfl, enters_of Tryz.func128 (by kernel_rfl) rfl, fun W x a e h => number_any x a W (hN.ext e) h⟩
theorem turn_truth (w0 : World) (hN : Nm w0) : TurnC w0 (.func (.func 134) #[] #[]) truF :=
 ⟨134, rfl, enters_of Tryz.func134 (by kernel_rfl) rfl, fun W x a e h => ftruth_any x a W (hN.ext e) h⟩
def encV (x : V) : Array Value := #[x.dat]
theorem bad_snoc (f : V → Bool → V) (l : List (V × Bool)) (p : V × Bool) : bad f (l ++ [p]) = if (bad f l).k = 4 then bad f l else if (f p.1 p.2).k = 4 then f p.1 p.2 else .blank := bad_app f l [p]
theorem got_snoc (f : V → Bool → V) (l : List (V × Bool)) (p : V × Bool) : got f (l ++ [p]) = if goes (f p.1 p.2) then got f l ++ [f p.1 p.2] else got f l := by
 rw [got_app]
 show got f l ++ (if goes (f p.1 p.2) then [f p.1 p.2] else []) = _
 split
 · rfl
 · simp
/-- The variables of through: turn, see, failed. -/
structure Thr (w0 : World) (hi g : Nat) (tv sv : Value) (f : V → Bool → V) (P : List V → World → Prop) (l : List (V × Bool)) (W : World) : Prop where
 p : P (got f l) W
 t : W.cell? ⟨g, 0, none⟩ = some tv
 s : W.cell? ⟨g + 1, 0, none⟩ = some sv
 b : Blk W (g + 2) (.int .i64 (bad f l).k) (.int .i64 (bad f l).n) (.string (bad f l).s) (.int .i64 (bad f l).e)
 ot : Own4 W g
 os : Own4 W (g + 1)
 ob : Own4 W (g + 2)
theorem Blk.cells {W W' : World} {b : Nat} {x0 x1 x2 x3 : Value} (h : Blk W b x0 x1 x2 x3) (hs : W.heap.size ≤ W'.heap.size) (e : ∀ o, W'.cell? ⟨b, o, none⟩ = W.cell? ⟨b, o, none⟩ ∧ W'.frozen? ⟨b, o, none⟩ = W.frozen? ⟨b, o, none⟩) : Blk W' b x0 x1 x2 x3 := by
 obtain ⟨z, ⟨k0, k1, k2, k3⟩, f0, f1, f2, f3⟩ := h
 exact ⟨Nat.lt_of_lt_of_le z hs, ⟨(e 0).1.trans k0, (e 1).1.trans k1, (e 2).1.trans k2, (e 3).1.trans k3⟩, (e 0).2.trans f0, (e 1).2.trans f1, (e 2).2.trans f2, (e 3).2.trans f3⟩
theorem Own4.env {hi : Nat} {w w' : World} {b : Nat} (h : Own4 w b) (m : Env hi w w') (hb : b < hi) : Own4 w' b ∧ ∀ o, w'.cell? ⟨b, o, none⟩ = w.cell? ⟨b, o, none⟩ ∧ w'.frozen? ⟨b, o, none⟩ = w.frozen? ⟨b, o, none⟩ := by
 have e := m.1.block b hb
 exact ⟨⟨Nat.lt_of_lt_of_le h.1 m.1.size, fun r => h.2 ((RowB.same e).1 r)⟩, fun o => ⟨World.cell?_of_block (w := w) e, World.frozen?_of_block (w := w) e⟩⟩
theorem Thr.env {w0 : World} {hi g : Nat} {tv sv : Value} {f : V → Bool → V} {P : List V → World → Prop} {l : List (V × Bool)} {W W' : World} (hP : ∀ l W W', P l W → hi ≤ W.heap.size → Env hi W W' → P l W') (hg : hi ≤ g)
   (h : Thr w0 hi g tv sv f P l W) (hs : g + 3 ≤ W.heap.size) (e : Env (g + 3) W W') : Thr w0 hi g tv sv f P l W' := by
 obtain ⟨p, t, s, b, ot, os, ob⟩ := h
 obtain ⟨ot', et⟩ := ot.env e (by omega)
 obtain ⟨os', es⟩ := os.env e (by omega)
 obtain ⟨ob', eb⟩ := ob.env e (by omega)
 exact ⟨hP _ _ _ p (by omega) (e.down (by omega)), (et 0).1.trans t, (es 0).1.trans s, b.cells e.1.size eb, ot', os', ob'⟩
theorem Thr.mid {w0 : World} {hi g : Nat} {tv sv : Value} {f : V → Bool → V} {P : List V → World → Prop} {l l' : List (V × Bool)} {W W' : World} (hg : hi ≤ g)
   (h : Thr w0 hi g tv sv f P l W) (m : Mid w0.heap.size hi W W') (hp : P (got f l') W') (hb : bad f l' = bad f l) : Thr w0 hi g tv sv f P l' W' := by
 obtain ⟨p, t, s, b, ot, os, ob⟩ := h
 obtain ⟨ot', et⟩ := ot.mid m (by omega)
 obtain ⟨os', es⟩ := os.mid m (by omega)
 obtain ⟨ob', eb⟩ := ob.mid m (by omega)
 exact ⟨hp, (et 0).1.trans t, (es 0).1.trans s, by rw [hb]; exact b.cells m.1.size eb, ot', os', ob'⟩
theorem Own4.set {w : World} {b : Nat} (h : Own4 w b) (q : Addr) (v : Value) : Own4 (w.setCell q v) b := by
 refine ⟨by simpa [World.setCell] using h.1, fun r => h.2 ?_⟩
 obtain ⟨c, fz, r⟩ := r
 by_cases hq : b = q.block
 · subst hq
   simp only [World.setCell, Array.getElem?_modify, if_true] at r
   obtain ⟨o, ho, r⟩ := Option.map_eq_some_iff.1 r
   cases o with
   | cells cs t fr => cases r; exact ⟨_, _, ho⟩
   | _ => cases r
 · rw [Below.heap_setCell _ _ _ _ hq] at r
   exact ⟨c, fz, r⟩
end Go.Proofs.YtalejeknigbhjaaGreatDoor
