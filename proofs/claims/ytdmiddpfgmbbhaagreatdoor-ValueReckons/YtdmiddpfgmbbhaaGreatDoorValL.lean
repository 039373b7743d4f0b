/-
  The contracts of package value's ToText, ToBool, Neg.
-/
import Derived.Test.YtdmiddpfgmbbhaaGreatDoorValK
namespace Go.Proofs.YtdmiddpfgmbbhaaGreatDoor
open Go.RowKit
set_option maxHeartbeats 1000000

theorem vtotext_any (k n : Int) (s : ByteArray) (e : Int) (w : World) (hn : I64 n) (hT : Tab w) (hN : Nm w) :
    Calls Tryz.prog 22 #[.agg #[.int .i64 k, .int .i64 n, .string s, .int .i64 e]] w fun r w' => r = .returned ((nm k n s e).toText.dat) ∧ Ext w w' := by
  have c0 := fun W h => vnormal_any k n s e W h
  have ok := nm_ok k n s e hn
  clear hn
  generalize nm k n s e = v at c0 ok ⊢
  cases v with
  | blank =>
    simp only [V.dat] at c0
    have c1 := fun W h t => vshow_any 0 0 ⟨#[]⟩ 0 W ⟨by decide, by decide⟩ t h
    rw [nm_blank] at c1
    have hz := shown_size (V.blank) ok
    have c2 := fun W h => vtext_any (V.blank).shown W h
    rw [mkText_is hz] at c2
    simp only [V.dat] at c2
    have H : Hid ((V.blank).toText = .text (V.blank).shown) := rfl
    generalize (V.blank).shown = q at *
    clear hz ok
    go_enter Tryz.func22, Tryz.ntmps22
    go_wp2_with fail
    refine (c0 _ (hN.ext (by with_reducible repeat (first | assumption | exact Ext.refl _ | apply Ext.alloc | apply Ext.drewN | (refine Ext.setCell ?_ (by simp) _))))).mono ?_
    rintro r w1 ⟨rfl, E1⟩
    have X1 : Ext w w1 := Ext.trans (by with_reducible repeat (first | assumption | exact Ext.refl _ | apply Ext.alloc | apply Ext.drewN | (refine Ext.setCell ?_ (by simp) _))) E1
    have B0_1 := blk_top (b := w.heap.size) (by simp) (((Ext.refl _).alloc _).trans E1)
    have B1_1 := blk_top (b := w.heap.size + 1) (by simp) E1
    have D0 := B0_1
    obtain ⟨b0z, ⟨b0_0, b0_1, b0_2, b0_3⟩, b0f0, b0f1, b0f2, b0f3⟩ := D0
    have D1 := B1_1
    obtain ⟨b1z, ⟨b1_0, b1_1, b1_2, b1_3⟩, b1f0, b1f1, b1f2, b1f3⟩ := D1
    go_wp2_with fail
    refine (c1 _ (hN.ext (by with_reducible repeat (first | assumption | exact Ext.refl _ | apply Ext.alloc | apply Ext.drewN | (refine Ext.setCell ?_ (by simp) _)))) (hT.ext (by with_reducible repeat (first | assumption | exact Ext.refl _ | apply Ext.alloc | apply Ext.drewN | (refine Ext.setCell ?_ (by simp) _))))).mono ?_
    rintro r w2 ⟨rfl, E2⟩
    have X2 : Ext w w2 := Ext.trans (by with_reducible repeat (first | assumption | exact Ext.refl _ | apply Ext.alloc | apply Ext.drewN | (refine Ext.setCell ?_ (by simp) _))) E2
    have B1_2 := (B1_1.far (c := w.heap.size) (by simp) _ _ _ _).ext E2
    go_wp2_with fail
    refine (c2 _ (hN.ext (by with_reducible repeat (first | assumption | exact Ext.refl _ | apply Ext.alloc | apply Ext.drewN | (refine Ext.setCell ?_ (by simp) _))))).mono ?_
    rintro r w3 ⟨rfl, E3⟩
    have X3 : Ext w w3 := Ext.trans (by with_reducible repeat (first | assumption | exact Ext.refl _ | apply Ext.alloc | apply Ext.drewN | (refine Ext.setCell ?_ (by simp) _))) E3
    have B1_3 := B1_2.ext E3
    have D1 := B1_3
    obtain ⟨b1z, ⟨b1_0, b1_1, b1_2, b1_3⟩, b1f0, b1f1, b1f2, b1f3⟩ := D1
    go_wp2_with fail
    exact finB (B1_3.set _ _ _ _) rfl (by with_reducible repeat (first | assumption | exact Ext.refl _ | apply Ext.alloc | apply Ext.drewN | (refine Ext.setCell ?_ (by simp) _))) (fun g0 g1 g2 g3 => by simp [results, Tryz.results22, go_sem, g0, g1, g2, g3]) (fun h => ⟨by rw [H.out]; rfl, h⟩)
  | tf b =>
    simp only [V.dat] at c0
    cases b with
    | false =>
      simp only [Bool.false_eq_true, if_false] at c0
      have c1 := fun W h t => vshow_any 1 0 ⟨#[]⟩ 0 W ⟨by decide, by decide⟩ t h
      rw [show nm 1 0 ⟨#[]⟩ 0 = .tf false from rfl] at c1
      have hz := shown_size (V.tf false) ok
      have c2 := fun W h => vtext_any (V.tf false).shown W h
      rw [mkText_is hz] at c2
      simp only [V.dat] at c2
      have H : Hid ((V.tf false).toText = .text (V.tf false).shown) := rfl
      generalize (V.tf false).shown = q at *
      clear hz ok
      go_enter Tryz.func22, Tryz.ntmps22
      go_wp2_with fail
      refine (c0 _ (hN.ext (by with_reducible repeat (first | assumption | exact Ext.refl _ | apply Ext.alloc | apply Ext.drewN | (refine Ext.setCell ?_ (by simp) _))))).mono ?_
      rintro r w1 ⟨rfl, E1⟩
      have X1 : Ext w w1 := Ext.trans (by with_reducible repeat (first | assumption | exact Ext.refl _ | apply Ext.alloc | apply Ext.drewN | (refine Ext.setCell ?_ (by simp) _))) E1
      have B0_1 := blk_top (b := w.heap.size) (by simp) (((Ext.refl _).alloc _).trans E1)
      have B1_1 := blk_top (b := w.heap.size + 1) (by simp) E1
      have D0 := B0_1
      obtain ⟨b0z, ⟨b0_0, b0_1, b0_2, b0_3⟩, b0f0, b0f1, b0f2, b0f3⟩ := D0
      have D1 := B1_1
      obtain ⟨b1z, ⟨b1_0, b1_1, b1_2, b1_3⟩, b1f0, b1f1, b1f2, b1f3⟩ := D1
      go_wp2_with fail
      refine (c1 _ (hN.ext (by with_reducible repeat (first | assumption | exact Ext.refl _ | apply Ext.alloc | apply Ext.drewN | (refine Ext.setCell ?_ (by simp) _)))) (hT.ext (by with_reducible repeat (first | assumption | exact Ext.refl _ | apply Ext.alloc | apply Ext.drewN | (refine Ext.setCell ?_ (by simp) _))))).mono ?_
      rintro r w2 ⟨rfl, E2⟩
      have X2 : Ext w w2 := Ext.trans (by with_reducible repeat (first | assumption | exact Ext.refl _ | apply Ext.alloc | apply Ext.drewN | (refine Ext.setCell ?_ (by simp) _))) E2
      have B1_2 := (B1_1.far (c := w.heap.size) (by simp) _ _ _ _).ext E2
      go_wp2_with fail
      refine (c2 _ (hN.ext (by with_reducible repeat (first | assumption | exact Ext.refl _ | apply Ext.alloc | apply Ext.drewN | (refine Ext.setCell ?_ (by simp) _))))).mono ?_
      rintro r w3 ⟨rfl, E3⟩
      have X3 : Ext w w3 := Ext.trans (by with_reducible repeat (first | assumption | exact Ext.refl _ | apply Ext.alloc | apply Ext.drewN | (refine Ext.setCell ?_ (by simp) _))) E3
      have B1_3 := B1_2.ext E3
      have D1 := B1_3
      obtain ⟨b1z, ⟨b1_0, b1_1, b1_2, b1_3⟩, b1f0, b1f1, b1f2, b1f3⟩ := D1
      go_wp2_with fail
      exact finB (B1_3.set _ _ _ _) rfl (by with_reducible repeat (first | assumption | exact Ext.refl _ | apply Ext.alloc | apply Ext.drewN | (refine Ext.setCell ?_ (by simp) _))) (fun g0 g1 g2 g3 => by simp [results, Tryz.results22, go_sem, g0, g1, g2, g3]) (fun h => ⟨by rw [H.out]; rfl, h⟩)
    | true =>
      simp only [if_true] at c0
      have c1 := fun W h t => vshow_any 1 1 ⟨#[]⟩ 0 W ⟨by decide, by decide⟩ t h
      rw [show nm 1 1 ⟨#[]⟩ 0 = .tf true from rfl] at c1
      have hz := shown_size (V.tf true) ok
      have c2 := fun W h => vtext_any (V.tf true).shown W h
      rw [mkText_is hz] at c2
      simp only [V.dat] at c2
      have H : Hid ((V.tf true).toText = .text (V.tf true).shown) := rfl
      generalize (V.tf true).shown = q at *
      clear hz ok
      go_enter Tryz.func22, Tryz.ntmps22
      go_wp2_with fail
      refine (c0 _ (hN.ext (by with_reducible repeat (first | assumption | exact Ext.refl _ | apply Ext.alloc | apply Ext.drewN | (refine Ext.setCell ?_ (by simp) _))))).mono ?_
      rintro r w1 ⟨rfl, E1⟩
      have X1 : Ext w w1 := Ext.trans (by with_reducible repeat (first | assumption | exact Ext.refl _ | apply Ext.alloc | apply Ext.drewN | (refine Ext.setCell ?_ (by simp) _))) E1
      have B0_1 := blk_top (b := w.heap.size) (by simp) (((Ext.refl _).alloc _).trans E1)
      have B1_1 := blk_top (b := w.heap.size + 1) (by simp) E1
      have D0 := B0_1
      obtain ⟨b0z, ⟨b0_0, b0_1, b0_2, b0_3⟩, b0f0, b0f1, b0f2, b0f3⟩ := D0
      have D1 := B1_1
      obtain ⟨b1z, ⟨b1_0, b1_1, b1_2, b1_3⟩, b1f0, b1f1, b1f2, b1f3⟩ := D1
      go_wp2_with fail
      refine (c1 _ (hN.ext (by with_reducible repeat (first | assumption | exact Ext.refl _ | apply Ext.alloc | apply Ext.drewN | (refine Ext.setCell ?_ (by simp) _)))) (hT.ext (by with_reducible repeat (first | assumption | exact Ext.refl _ | apply Ext.alloc | apply Ext.drewN | (refine Ext.setCell ?_ (by simp) _))))).mono ?_
      rintro r w2 ⟨rfl, E2⟩
      have X2 : Ext w w2 := Ext.trans (by with_reducible repeat (first | assumption | exact Ext.refl _ | apply Ext.alloc | apply Ext.drewN | (refine Ext.setCell ?_ (by simp) _))) E2
      have B1_2 := (B1_1.far (c := w.heap.size) (by simp) _ _ _ _).ext E2
      go_wp2_with fail
      refine (c2 _ (hN.ext (by with_reducible repeat (first | assumption | exact Ext.refl _ | apply Ext.alloc | apply Ext.drewN | (refine Ext.setCell ?_ (by simp) _))))).mono ?_
      rintro r w3 ⟨rfl, E3⟩
      have X3 : Ext w w3 := Ext.trans (by with_reducible repeat (first | assumption | exact Ext.refl _ | apply Ext.alloc | apply Ext.drewN | (refine Ext.setCell ?_ (by simp) _))) E3
      have B1_3 := B1_2.ext E3
      have D1 := B1_3
      obtain ⟨b1z, ⟨b1_0, b1_1, b1_2, b1_3⟩, b1f0, b1f1, b1f2, b1f3⟩ := D1
      go_wp2_with fail
      exact finB (B1_3.set _ _ _ _) rfl (by with_reducible repeat (first | assumption | exact Ext.refl _ | apply Ext.alloc | apply Ext.drewN | (refine Ext.setCell ?_ (by simp) _))) (fun g0 g1 g2 g3 => by simp [results, Tryz.results22, go_sem, g0, g1, g2, g3]) (fun h => ⟨by rw [H.out]; rfl, h⟩)
  | num n =>
    simp only [V.dat] at c0
    have c1 := fun W h t => vshow_any 2 n ⟨#[]⟩ 0 W ok.1 t h
    rw [nm_num ok.2] at c1
    have hz := shown_size (V.num n) ok
    have c2 := fun W h => vtext_any (V.num n).shown W h
    rw [mkText_is hz] at c2
    simp only [V.dat] at c2
    have H : Hid ((V.num n).toText = .text (V.num n).shown) := rfl
    generalize (V.num n).shown = q at *
    clear hz ok
    go_enter Tryz.func22, Tryz.ntmps22
    go_wp2_with fail
    refine (c0 _ (hN.ext (by with_reducible repeat (first | assumption | exact Ext.refl _ | apply Ext.alloc | apply Ext.drewN | (refine Ext.setCell ?_ (by simp) _))))).mono ?_
    rintro r w1 ⟨rfl, E1⟩
    have X1 : Ext w w1 := Ext.trans (by with_reducible repeat (first | assumption | exact Ext.refl _ | apply Ext.alloc | apply Ext.drewN | (refine Ext.setCell ?_ (by simp) _))) E1
    have B0_1 := blk_top (b := w.heap.size) (by simp) (((Ext.refl _).alloc _).trans E1)
    have B1_1 := blk_top (b := w.heap.size + 1) (by simp) E1
    have D0 := B0_1
    obtain ⟨b0z, ⟨b0_0, b0_1, b0_2, b0_3⟩, b0f0, b0f1, b0f2, b0f3⟩ := D0
    have D1 := B1_1
    obtain ⟨b1z, ⟨b1_0, b1_1, b1_2, b1_3⟩, b1f0, b1f1, b1f2, b1f3⟩ := D1
    go_wp2_with fail
    refine (c1 _ (hN.ext (by with_reducible repeat (first | assumption | exact Ext.refl _ | apply Ext.alloc | apply Ext.drewN | (refine Ext.setCell ?_ (by simp) _)))) (hT.ext (by with_reducible repeat (first | assumption | exact Ext.refl _ | apply Ext.alloc | apply Ext.drewN | (refine Ext.setCell ?_ (by simp) _))))).mono ?_
    rintro r w2 ⟨rfl, E2⟩
    have X2 : Ext w w2 := Ext.trans (by with_reducible repeat (first | assumption | exact Ext.refl _ | apply Ext.alloc | apply Ext.drewN | (refine Ext.setCell ?_ (by simp) _))) E2
    have B1_2 := (B1_1.far (c := w.heap.size) (by simp) _ _ _ _).ext E2
    go_wp2_with fail
    refine (c2 _ (hN.ext (by with_reducible repeat (first | assumption | exact Ext.refl _ | apply Ext.alloc | apply Ext.drewN | (refine Ext.setCell ?_ (by simp) _))))).mono ?_
    rintro r w3 ⟨rfl, E3⟩
    have X3 : Ext w w3 := Ext.trans (by with_reducible repeat (first | assumption | exact Ext.refl _ | apply Ext.alloc | apply Ext.drewN | (refine Ext.setCell ?_ (by simp) _))) E3
    have B1_3 := B1_2.ext E3
    have D1 := B1_3
    obtain ⟨b1z, ⟨b1_0, b1_1, b1_2, b1_3⟩, b1f0, b1f1, b1f2, b1f3⟩ := D1
    go_wp2_with fail
    exact finB (B1_3.set _ _ _ _) rfl (by with_reducible repeat (first | assumption | exact Ext.refl _ | apply Ext.alloc | apply Ext.drewN | (refine Ext.setCell ?_ (by simp) _))) (fun g0 g1 g2 g3 => by simp [results, Tryz.results22, go_sem, g0, g1, g2, g3]) (fun h => ⟨by rw [H.out]; rfl, h⟩)
  | text s =>
    simp only [V.dat] at c0
    have c1 := fun W h t => vshow_any 3 0 s 0 W ⟨by decide, by decide⟩ t h
    rw [nm_text ok] at c1
    have hz := shown_size (V.text s) ok
    have c2 := fun W h => vtext_any (V.text s).shown W h
    rw [mkText_is hz] at c2
    simp only [V.dat] at c2
    have H : Hid ((V.text s).toText = .text (V.text s).shown) := rfl
    generalize (V.text s).shown = q at *
    clear hz ok
    go_enter Tryz.func22, Tryz.ntmps22
    go_wp2_with fail
    refine (c0 _ (hN.ext (by with_reducible repeat (first | assumption | exact Ext.refl _ | apply Ext.alloc | apply Ext.drewN | (refine Ext.setCell ?_ (by simp) _))))).mono ?_
    rintro r w1 ⟨rfl, E1⟩
    have X1 : Ext w w1 := Ext.trans (by with_reducible repeat (first | assumption | exact Ext.refl _ | apply Ext.alloc | apply Ext.drewN | (refine Ext.setCell ?_ (by simp) _))) E1
    have B0_1 := blk_top (b := w.heap.size) (by simp) (((Ext.refl _).alloc _).trans E1)
    have B1_1 := blk_top (b := w.heap.size + 1) (by simp) E1
    have D0 := B0_1
    obtain ⟨b0z, ⟨b0_0, b0_1, b0_2, b0_3⟩, b0f0, b0f1, b0f2, b0f3⟩ := D0
    have D1 := B1_1
    obtain ⟨b1z, ⟨b1_0, b1_1, b1_2, b1_3⟩, b1f0, b1f1, b1f2, b1f3⟩ := D1
    go_wp2_with fail
    refine (c1 _ (hN.ext (by with_reducible repeat (first | assumption | exact Ext.refl _ | apply Ext.alloc | apply Ext.drewN | (refine Ext.setCell ?_ (by simp) _)))) (hT.ext (by with_reducible repeat (first | assumption | exact Ext.refl _ | apply Ext.alloc | apply Ext.drewN | (refine Ext.setCell ?_ (by simp) _))))).mono ?_
    rintro r w2 ⟨rfl, E2⟩
    have X2 : Ext w w2 := Ext.trans (by with_reducible repeat (first | assumption | exact Ext.refl _ | apply Ext.alloc | apply Ext.drewN | (refine Ext.setCell ?_ (by simp) _))) E2
    have B1_2 := (B1_1.far (c := w.heap.size) (by simp) _ _ _ _).ext E2
    go_wp2_with fail
    refine (c2 _ (hN.ext (by with_reducible repeat (first | assumption | exact Ext.refl _ | apply Ext.alloc | apply Ext.drewN | (refine Ext.setCell ?_ (by simp) _))))).mono ?_
    rintro r w3 ⟨rfl, E3⟩
    have X3 : Ext w w3 := Ext.trans (by with_reducible repeat (first | assumption | exact Ext.refl _ | apply Ext.alloc | apply Ext.drewN | (refine Ext.setCell ?_ (by simp) _))) E3
    have B1_3 := B1_2.ext E3
    have D1 := B1_3
    obtain ⟨b1z, ⟨b1_0, b1_1, b1_2, b1_3⟩, b1f0, b1f1, b1f2, b1f3⟩ := D1
    go_wp2_with fail
    exact finB (B1_3.set _ _ _ _) rfl (by with_reducible repeat (first | assumption | exact Ext.refl _ | apply Ext.alloc | apply Ext.drewN | (refine Ext.setCell ?_ (by simp) _))) (fun g0 g1 g2 g3 => by simp [results, Tryz.results22, go_sem, g0, g1, g2, g3]) (fun h => ⟨by rw [H.out]; rfl, h⟩)
  | err e =>
    simp only [V.dat] at c0
    clear ok hT
    go_enter Tryz.func22, Tryz.ntmps22
    go_wp2_with fail
    refine (c0 _ (hN.ext (by with_reducible repeat (first | assumption | exact Ext.refl _ | apply Ext.alloc | apply Ext.drewN | (refine Ext.setCell ?_ (by simp) _))))).mono ?_
    rintro r w1 ⟨rfl, E1⟩
    have X1 : Ext w w1 := Ext.trans (by with_reducible repeat (first | assumption | exact Ext.refl _ | apply Ext.alloc | apply Ext.drewN | (refine Ext.setCell ?_ (by simp) _))) E1
    have B0_1 := blk_top (b := w.heap.size) (by simp) (((Ext.refl _).alloc _).trans E1)
    have B1_1 := blk_top (b := w.heap.size + 1) (by simp) E1
    have D0 := B0_1
    obtain ⟨b0z, ⟨b0_0, b0_1, b0_2, b0_3⟩, b0f0, b0f1, b0f2, b0f3⟩ := D0
    have D1 := B1_1
    obtain ⟨b1z, ⟨b1_0, b1_1, b1_2, b1_3⟩, b1f0, b1f1, b1f2, b1f3⟩ := D1
    go_wp2_with fail
    exact finB ((B1_1.far (c := w.heap.size) (by simp) _ _ _ _).set _ _ _ _) rfl (by with_reducible repeat (first | assumption | exact Ext.refl _ | apply Ext.alloc | apply Ext.drewN | (refine Ext.setCell ?_ (by simp) _))) (fun g0 g1 g2 g3 => by simp [results, Tryz.results22, go_sem, g0, g1, g2, g3]) (fun h => ⟨rfl, h⟩)
theorem truK_cases (s : ByteArray) : (truK s = true ∧ (V.text s).toBool = truR s) ∨ (truK s = false ∧ (V.text s).toBool = .err 2) := by
  have e : (V.text s).toBool = if s.data.toList = trueL then .tf true else if s.data.toList = falseL then .tf false else .err 2 := rfl
  rw [e]
  unfold truK truR
  by_cases h : s.data.toList = trueL
  · left; rw [if_pos h, if_pos h]; simp [h]
  · by_cases g : s.data.toList = falseL
    · left; rw [if_neg h, if_pos g, if_neg h, if_pos g]; simp [g]
    · right; rw [if_neg h, if_neg g]; simp [h, g]
end Go.Proofs.YtdmiddpfgmbbhaaGreatDoor
