/-
  The contracts of package value's ToNum and of its operators, which are functions that are answered.
-/
import Derived.Test.YtdmiddpfgmbbhaaGreatDoorValD
import Derived.Test.YtdmiddpfgmbbhaaGreatDoorFixF
namespace Go.Proofs.YtdmiddpfgmbbhaaGreatDoor
open Go.RowKit
set_option maxHeartbeats 1000000

theorem numK_cases (s : ByteArray) : (numK s = true ∧ numR s = readV s) ∨ (numK s = false ∧ readV s = .err 2) := by
  unfold numK numR readV
  rcases rdK_cases s.data.toList with h | h | h <;> rw [h]
  · exact .inr ⟨rfl, rfl⟩
  · exact .inl ⟨rfl, rfl⟩
  · exact .inl ⟨rfl, rfl⟩
theorem vtonum_any (k n : Int) (s : ByteArray) (e : Int) (w : World) (hn : I64 n) (hN : Nm w) :
    Calls Tryz.prog 13 #[.agg #[.int .i64 k, .int .i64 n, .string s, .int .i64 e]] w fun r w' => r = .returned ((nm k n s e).toNum.dat) ∧ Ext w w' := by
  have c0 := fun W h => vnormal_any k n s e W h
  have ok := nm_ok k n s e hn
  clear hn
  generalize nm k n s e = v at c0 ok ⊢
  cases v with
  | blank =>
    simp only [V.dat] at c0
    have c1 := fun W h => vnum_any 0 W h
    rw [mkNum_is (by decide)] at c1
    simp only [V.dat] at c1
    clear ok
    go_enter Tryz.func13, Tryz.ntmps13
    go_wp2_with fail
    refine (c0 _ (hN.ext (by with_reducible repeat (first | assumption | exact Ext.refl _ | apply Ext.alloc | apply Ext.drewN | (refine Ext.setCell ?_ (by simp) _))))).mono ?_
    rintro r w1 ⟨rfl, E1⟩
    have X1 : Ext w w1 := Ext.trans (by with_reducible repeat (first | assumption | exact Ext.refl _ | apply Ext.alloc | apply Ext.drewN | (refine Ext.setCell ?_ (by simp) _))) E1
    have B0_1 := blk_top (b := w.heap.size) (by simp) (((Ext.refl _).alloc _).trans E1)
    have B1_1 := blk_top (b := w.heap.size + 1) (by simp) E1
    have D0 := B0_1
    obtain ⟨b0z, ⟨b0_0, b0_1, b0_2, b0_3⟩, b0f0, b0f1, b0f2, b0f3⟩ := D0
    have D1 := B1_1
    obtain ⟨b1z, ⟨b1_0, b1_1, b1_2, b1_3⟩, b1f0, b1f1, b1f2, b1f3⟩ := D1
    go_wp2_with fail
    refine (c1 _ (hN.ext (by with_reducible repeat (first | assumption | exact Ext.refl _ | apply Ext.alloc | apply Ext.drewN | (refine Ext.setCell ?_ (by simp) _))))).mono ?_
    rintro r w2 ⟨rfl, E2⟩
    have X2 : Ext w w2 := Ext.trans (by with_reducible repeat (first | assumption | exact Ext.refl _ | apply Ext.alloc | apply Ext.drewN | (refine Ext.setCell ?_ (by simp) _))) E2
    have B1_2 := (B1_1.far (c := w.heap.size) (by simp) _ _ _ _).ext E2
    have D1 := B1_2
    obtain ⟨b1z, ⟨b1_0, b1_1, b1_2, b1_3⟩, b1f0, b1f1, b1f2, b1f3⟩ := D1
    go_wp2_with fail
    exact finB (B1_2.set _ _ _ _) rfl (by with_reducible repeat (first | assumption | exact Ext.refl _ | apply Ext.alloc | apply Ext.drewN | (refine Ext.setCell ?_ (by simp) _))) (fun g0 g1 g2 g3 => by simp [results, Tryz.results13, go_sem, g0, g1, g2, g3]) (fun h => ⟨rfl, h⟩)
  | tf b =>
    simp only [V.dat] at c0
    cases b with
    | false =>
      simp only [Bool.false_eq_true, if_false] at c0
      have c1 := fun W h => vnum_any 0 W h
      rw [mkNum_is (by decide)] at c1
      simp only [V.dat] at c1
      clear ok
      go_enter Tryz.func13, Tryz.ntmps13
      go_wp2_with fail
      refine (c0 _ (hN.ext (by with_reducible repeat (first | assumption | exact Ext.refl _ | apply Ext.alloc | apply Ext.drewN | (refine Ext.setCell ?_ (by simp) _))))).mono ?_
      rintro r w1 ⟨rfl, E1⟩
      have X1 : Ext w w1 := Ext.trans (by with_reducible repeat (first | assumption | exact Ext.refl _ | apply Ext.alloc | apply Ext.drewN | (refine Ext.setCell ?_ (by simp) _))) E1
      have B0_1 := blk_top (b := w.heap.size) (by simp) (((Ext.refl _).alloc _).trans E1)
      have B1_1 := blk_top (b := w.heap.size + 1) (by simp) E1
      have D0 := B0_1
      obtain ⟨b0z, ⟨b0_0, b0_1, b0_2, b0_3⟩, b0f0, b0f1, b0f2, b0f3⟩ := D0
      have D1 := B1_1
      obtain ⟨b1z, ⟨b1_0, b1_1, b1_2, b1_3⟩, b1f0, b1f1, b1f2, b1f3⟩ := D1
      go_wp2_with fail
      refine (c1 _ (hN.ext (by with_reducible repeat (first | assumption | exact Ext.refl _ | apply Ext.alloc | apply Ext.drewN | (refine Ext.setCell ?_ (by simp) _))))).mono ?_
      rintro r w2 ⟨rfl, E2⟩
      have X2 : Ext w w2 := Ext.trans (by with_reducible repeat (first | assumption | exact Ext.refl _ | apply Ext.alloc | apply Ext.drewN | (refine Ext.setCell ?_ (by simp) _))) E2
      have B1_2 := (B1_1.far (c := w.heap.size) (by simp) _ _ _ _).ext E2
      have D1 := B1_2
      obtain ⟨b1z, ⟨b1_0, b1_1, b1_2, b1_3⟩, b1f0, b1f1, b1f2, b1f3⟩ := D1
      go_wp2_with fail
      exact finB (B1_2.set _ _ _ _) rfl (by with_reducible repeat (first | assumption | exact Ext.refl _ | apply Ext.alloc | apply Ext.drewN | (refine Ext.setCell ?_ (by simp) _))) (fun g0 g1 g2 g3 => by simp [results, Tryz.results13, go_sem, g0, g1, g2, g3]) (fun h => ⟨rfl, h⟩)
    | true =>
      simp only [if_true] at c0
      have c1 := fun W h => vnum_any 10000 W h
      rw [mkNum_is (by decide)] at c1
      simp only [V.dat] at c1
      clear ok
      go_enter Tryz.func13, Tryz.ntmps13
      go_wp2_with fail
      refine (c0 _ (hN.ext (by with_reducible repeat (first | assumption | exact Ext.refl _ | apply Ext.alloc | apply Ext.drewN | (refine Ext.setCell ?_ (by simp) _))))).mono ?_
      rintro r w1 ⟨rfl, E1⟩
      have X1 : Ext w w1 := Ext.trans (by with_reducible repeat (first | assumption | exact Ext.refl _ | apply Ext.alloc | apply Ext.drewN | (refine Ext.setCell ?_ (by simp) _))) E1
      have B0_1 := blk_top (b := w.heap.size) (by simp) (((Ext.refl _).alloc _).trans E1)
      have B1_1 := blk_top (b := w.heap.size + 1) (by simp) E1
      have D0 := B0_1
      obtain ⟨b0z, ⟨b0_0, b0_1, b0_2, b0_3⟩, b0f0, b0f1, b0f2, b0f3⟩ := D0
      have D1 := B1_1
      obtain ⟨b1z, ⟨b1_0, b1_1, b1_2, b1_3⟩, b1f0, b1f1, b1f2, b1f3⟩ := D1
      go_wp2_with fail
      refine (c1 _ (hN.ext (by with_reducible repeat (first | assumption | exact Ext.refl _ | apply Ext.alloc | apply Ext.drewN | (refine Ext.setCell ?_ (by simp) _))))).mono ?_
      rintro r w2 ⟨rfl, E2⟩
      have X2 : Ext w w2 := Ext.trans (by with_reducible repeat (first | assumption | exact Ext.refl _ | apply Ext.alloc | apply Ext.drewN | (refine Ext.setCell ?_ (by simp) _))) E2
      have B1_2 := (B1_1.far (c := w.heap.size) (by simp) _ _ _ _).ext E2
      have D1 := B1_2
      obtain ⟨b1z, ⟨b1_0, b1_1, b1_2, b1_3⟩, b1f0, b1f1, b1f2, b1f3⟩ := D1
      go_wp2_with fail
      exact finB (B1_2.set _ _ _ _) rfl (by with_reducible repeat (first | assumption | exact Ext.refl _ | apply Ext.alloc | apply Ext.drewN | (refine Ext.setCell ?_ (by simp) _))) (fun g0 g1 g2 g3 => by simp [results, Tryz.results13, go_sem, g0, g1, g2, g3]) (fun h => ⟨rfl, h⟩)
  | num n =>
    simp only [V.dat] at c0
    have c1 := fun W h => vnum_any n W h
    rw [mkNum_is ok.2] at c1
    simp only [V.dat] at c1
    clear ok
    go_enter Tryz.func13, Tryz.ntmps13
    go_wp2_with fail
    refine (c0 _ (hN.ext (by with_reducible repeat (first | assumption | exact Ext.refl _ | apply Ext.alloc | apply Ext.drewN | (refine Ext.setCell ?_ (by simp) _))))).mono ?_
    rintro r w1 ⟨rfl, E1⟩
    have X1 : Ext w w1 := Ext.trans (by with_reducible repeat (first | assumption | exact Ext.refl _ | apply Ext.alloc | apply Ext.drewN | (refine Ext.setCell ?_ (by simp) _))) E1
    have B0_1 := blk_top (b := w.heap.size) (by simp) (((Ext.refl _).alloc _).trans E1)
    have B1_1 := blk_top (b := w.heap.size + 1) (by simp) E1
    have D0 := B0_1
    obtain ⟨b0z, ⟨b0_0, b0_1, b0_2, b0_3⟩, b0f0, b0f1, b0f2, b0f3⟩ := D0
    have D1 := B1_1
    obtain ⟨b1z, ⟨b1_0, b1_1, b1_2, b1_3⟩, b1f0, b1f1, b1f2, b1f3⟩ := D1
    go_wp2_with fail
    refine (c1 _ (hN.ext (by with_reducible repeat (first | assumption | exact Ext.refl _ | apply Ext.alloc | apply Ext.drewN | (refine Ext.setCell ?_ (by simp) _))))).mono ?_
    rintro r w2 ⟨rfl, E2⟩
    have X2 : Ext w w2 := Ext.trans (by with_reducible repeat (first | assumption | exact Ext.refl _ | apply Ext.alloc | apply Ext.drewN | (refine Ext.setCell ?_ (by simp) _))) E2
    have B1_2 := (B1_1.far (c := w.heap.size) (by simp) _ _ _ _).ext E2
    have D1 := B1_2
    obtain ⟨b1z, ⟨b1_0, b1_1, b1_2, b1_3⟩, b1f0, b1f1, b1f2, b1f3⟩ := D1
    go_wp2_with fail
    exact finB (B1_2.set _ _ _ _) rfl (by with_reducible repeat (first | assumption | exact Ext.refl _ | apply Ext.alloc | apply Ext.drewN | (refine Ext.setCell ?_ (by simp) _))) (fun g0 g1 g2 g3 => by simp [results, Tryz.results13, go_sem, g0, g1, g2, g3]) (fun h => ⟨rfl, h⟩)
  | text s =>
    simp only [V.dat] at c0
    have c1 := fun W h => numeral_any s W (Nat.le_trans ok (by decide)) h
    have c2 := fun W h => err_any 2 W h
    rw [mkErr_is ⟨by decide, by decide⟩] at c2
    simp only [V.dat] at c2
    have hk := numK_cases s
    clear ok
    rcases hk with ⟨h1, h2⟩ | ⟨h1, h2⟩
    · rw [h1] at c1
      obtain ⟨q0, q1, q2, q3, hq⟩ := dat4 (numR s)
      rw [hq] at c1
      have H : Hid ((V.text s).toNum.dat = .agg #[.int .i64 q0, .int .i64 q1, .string q2, .int .i64 q3]) := by show (readV s).dat = _; rw [← h2]; exact hq
      clear hq h1 h2 c2
      go_enter Tryz.func13, Tryz.ntmps13
      go_wp2_with fail
      refine (c0 _ (hN.ext (by with_reducible repeat (first | assumption | exact Ext.refl _ | apply Ext.alloc | apply Ext.drewN | (refine Ext.setCell ?_ (by simp) _))))).mono ?_
      rintro r w1 ⟨rfl, E1⟩
      have X1 : Ext w w1 := Ext.trans (by with_reducible repeat (first | assumption | exact Ext.refl _ | apply Ext.alloc | apply Ext.drewN | (refine Ext.setCell ?_ (by simp) _))) E1
      have B0_1 := blk_top (b := w.heap.size) (by simp) (((Ext.refl _).alloc _).trans E1)
      have B1_1 := blk_top (b := w.heap.size + 1) (by simp) E1
      have D0 := B0_1
      obtain ⟨b0z, ⟨b0_0, b0_1, b0_2, b0_3⟩, b0f0, b0f1, b0f2, b0f3⟩ := D0
      have D1 := B1_1
      obtain ⟨b1z, ⟨b1_0, b1_1, b1_2, b1_3⟩, b1f0, b1f1, b1f2, b1f3⟩ := D1
      go_wp2_with fail
      refine (c1 _ (hN.ext (by with_reducible repeat (first | assumption | exact Ext.refl _ | apply Ext.alloc | apply Ext.drewN | (refine Ext.setCell ?_ (by simp) _))))).mono ?_
      rintro r w2 ⟨rfl, E2⟩
      have X2 : Ext w w2 := Ext.trans (by with_reducible repeat (first | assumption | exact Ext.refl _ | apply Ext.alloc | apply Ext.drewN | (refine Ext.setCell ?_ (by simp) _))) E2
      have B1_2 := (B1_1.far (c := w.heap.size) (by simp) _ _ _ _).ext E2
      have D1 := B1_2
      obtain ⟨b1z, ⟨b1_0, b1_1, b1_2, b1_3⟩, b1f0, b1f1, b1f2, b1f3⟩ := D1
      go_wp2_with fail
      exact finB ((B1_2.set _ _ _ _).ext ((Ext.refl _).alloc _)) rfl (by with_reducible repeat (first | assumption | exact Ext.refl _ | apply Ext.alloc | apply Ext.drewN | (refine Ext.setCell ?_ (by simp) _))) (fun g0 g1 g2 g3 => by simp [results, Tryz.results13, go_sem, g0, g1, g2, g3]) (fun h => ⟨by rw [H.out], h⟩)
    · rw [h1] at c1
      obtain ⟨q0, q1, q2, q3, hq⟩ := dat4 (numR s)
      rw [hq] at c1
      have H : Hid ((V.text s).toNum = .err 2) := h2
      clear hq h1 h2
      go_enter Tryz.func13, Tryz.ntmps13
      go_wp2_with fail
      refine (c0 _ (hN.ext (by with_reducible repeat (first | assumption | exact Ext.refl _ | apply Ext.alloc | apply Ext.drewN | (refine Ext.setCell ?_ (by simp) _))))).mono ?_
      rintro r w1 ⟨rfl, E1⟩
      have X1 : Ext w w1 := Ext.trans (by with_reducible repeat (first | assumption | exact Ext.refl _ | apply Ext.alloc | apply Ext.drewN | (refine Ext.setCell ?_ (by simp) _))) E1
      have B0_1 := blk_top (b := w.heap.size) (by simp) (((Ext.refl _).alloc _).trans E1)
      have B1_1 := blk_top (b := w.heap.size + 1) (by simp) E1
      have D0 := B0_1
      obtain ⟨b0z, ⟨b0_0, b0_1, b0_2, b0_3⟩, b0f0, b0f1, b0f2, b0f3⟩ := D0
      have D1 := B1_1
      obtain ⟨b1z, ⟨b1_0, b1_1, b1_2, b1_3⟩, b1f0, b1f1, b1f2, b1f3⟩ := D1
      go_wp2_with fail
      refine (c1 _ (hN.ext (by with_reducible repeat (first | assumption | exact Ext.refl _ | apply Ext.alloc | apply Ext.drewN | (refine Ext.setCell ?_ (by simp) _))))).mono ?_
      rintro r w2 ⟨rfl, E2⟩
      have X2 : Ext w w2 := Ext.trans (by with_reducible repeat (first | assumption | exact Ext.refl _ | apply Ext.alloc | apply Ext.drewN | (refine Ext.setCell ?_ (by simp) _))) E2
      have B1_2 := (B1_1.far (c := w.heap.size) (by simp) _ _ _ _).ext E2
      have D1 := B1_2
      obtain ⟨b1z, ⟨b1_0, b1_1, b1_2, b1_3⟩, b1f0, b1f1, b1f2, b1f3⟩ := D1
      go_wp2_with fail
      refine (c2 _ (hN.ext (by with_reducible repeat (first | assumption | exact Ext.refl _ | apply Ext.alloc | apply Ext.drewN | (refine Ext.setCell ?_ (by simp) _))))).mono ?_
      rintro r w3 ⟨rfl, E3⟩
      have X3 : Ext w w3 := Ext.trans (by with_reducible repeat (first | assumption | exact Ext.refl _ | apply Ext.alloc | apply Ext.drewN | (refine Ext.setCell ?_ (by simp) _))) E3
      have B1_3 := (B1_2.ext ((Ext.refl _).alloc _)).ext E3
      have D1 := B1_3
      obtain ⟨b1z, ⟨b1_0, b1_1, b1_2, b1_3⟩, b1f0, b1f1, b1f2, b1f3⟩ := D1
      go_wp2_with fail
      exact finB (B1_3.set _ _ _ _) rfl (by with_reducible repeat (first | assumption | exact Ext.refl _ | apply Ext.alloc | apply Ext.drewN | (refine Ext.setCell ?_ (by simp) _))) (fun g0 g1 g2 g3 => by simp [results, Tryz.results13, go_sem, g0, g1, g2, g3]) (fun h => ⟨by rw [H.out]; rfl, h⟩)
  | err e =>
    simp only [V.dat] at c0
    clear ok
    go_enter Tryz.func13, Tryz.ntmps13
    go_wp2_with fail
    refine (c0 _ (hN.ext (by with_reducible repeat (first | assumption | exact Ext.refl _ | apply Ext.alloc | apply Ext.drewN | (refine Ext.setCell ?_ (by simp) _))))).mono ?_
    rintro r w1 ⟨rfl, E1⟩
    have X1 : Ext w w1 := Ext.trans (by with_reducible repeat (first | assumption | exact Ext.refl _ | apply Ext.alloc | apply Ext.drewN | (refine Ext.setCell ?_ (by simp) _))) E1
    have B0_1 := blk_top (b := w.heap.size) (by simp) (((Ext.refl _).alloc _).trans E1)
    have B1_1 := blk_top (b := w.heap.size + 1) (by simp) E1
    have D0 := B0_1
    obtain ⟨b0z, ⟨b0_0, b0_1, b0_2, b0_3⟩, b0f0, b0f1, b0f2, b0f3⟩ := D0
    have D1 := B1_1
    obtain ⟨b1z, ⟨b1_0, b1_1, b1_2, b1_3⟩, b1f0, b1f1, b1f2, b1f3⟩ := D1
    go_wp2_with fail
    exact finB ((B1_1.far (c := w.heap.size) (by simp) _ _ _ _).set _ _ _ _) rfl (by with_reducible repeat (first | assumption | exact Ext.refl _ | apply Ext.alloc | apply Ext.drewN | (refine Ext.setCell ?_ (by simp) _))) (fun g0 g1 g2 g3 => by simp [results, Tryz.results13, go_sem, g0, g1, g2, g3]) (fun h => ⟨rfl, h⟩)
theorem told_add (a b : Int) (ha : I64 a) (hb : I64 b) (B : Nat) (w : World) (hN : Nm w) (hB : B < w.heap.size) (hc : w.cell? ⟨B, 0, none⟩ = some (.func (.func 31) #[] #[])) :
    Calls Tryz.prog 49 #[.int .i64 a, .int .i64 b, .pointer (some ⟨B, 0, none⟩)] w fun r w' => r = .returned (toldR (addB a b) (addV a b)).dat ∧ Ext w w' := by
  have c1 := fun W => add_any a b ha hb W
  have c2 := fun W h => vnum_any (addV a b) W h
  have c3 := fun W h => err_any 4 W h
  rw [mkErr_is ⟨by decide, by decide⟩] at c3
  simp only [V.dat] at c3
  cases hz : addB a b
  · rw [hz] at c1
    clear hz ha hb c2
    generalize addV a b = n at *
    go_enter Tryz.func49, Tryz.ntmps49
    go_wp2_with fail
    refine (c1 _).mono ?_
    rintro r w1 ⟨rfl, E1⟩
    have X1 : Ext w w1 := Ext.trans (by with_reducible repeat (first | assumption | exact Ext.refl _ | apply Ext.alloc | apply Ext.drewN | (refine Ext.setCell ?_ (by simp) _))) E1
    have B0_1 := blk_top (b := w.heap.size) (by simp) E1
    have D0 := B0_1
    obtain ⟨b0z, ⟨b0_0, b0_1, b0_2, b0_3⟩, b0f0, b0f1, b0f2, b0f3⟩ := D0
    go_wp2_with fail
    refine (c3 _ (hN.ext (by with_reducible repeat (first | assumption | exact Ext.refl _ | apply Ext.alloc | apply Ext.drewN | (refine Ext.setCell ?_ (by simp) _))))).mono ?_
    rintro r w2 ⟨rfl, E2⟩
    have X2 : Ext w w2 := Ext.trans (by with_reducible repeat (first | assumption | exact Ext.refl _ | apply Ext.alloc | apply Ext.drewN | (refine Ext.setCell ?_ (by simp) _))) E2
    have B0_2 := B0_1.ext E2
    have D0 := B0_2
    obtain ⟨b0z, ⟨b0_0, b0_1, b0_2, b0_3⟩, b0f0, b0f1, b0f2, b0f3⟩ := D0
    go_wp2_with fail
    exact finB (B0_2.set _ _ _ _) rfl (by with_reducible repeat (first | assumption | exact Ext.refl _ | apply Ext.alloc | apply Ext.drewN | (refine Ext.setCell ?_ (by simp) _))) (fun g0 g1 g2 g3 => by simp [results, Tryz.results49, go_sem, g0, g1, g2, g3]) (fun h => ⟨rfl, h⟩)
  · rw [hz] at c1
    obtain ⟨q0, q1, q2, q3, hq⟩ := dat4 (mkNum (addV a b))
    rw [hq] at c2
    have H : Hid ((toldR true (addV a b)).dat = .agg #[.int .i64 q0, .int .i64 q1, .string q2, .int .i64 q3]) := hq
    clear hq hz ha hb c3
    generalize addV a b = n at *
    go_enter Tryz.func49, Tryz.ntmps49
    go_wp2_with fail
    refine (c1 _).mono ?_
    rintro r w1 ⟨rfl, E1⟩
    have X1 : Ext w w1 := Ext.trans (by with_reducible repeat (first | assumption | exact Ext.refl _ | apply Ext.alloc | apply Ext.drewN | (refine Ext.setCell ?_ (by simp) _))) E1
    have B0_1 := blk_top (b := w.heap.size) (by simp) E1
    have D0 := B0_1
    obtain ⟨b0z, ⟨b0_0, b0_1, b0_2, b0_3⟩, b0f0, b0f1, b0f2, b0f3⟩ := D0
    go_wp2_with fail
    refine (c2 _ (hN.ext (by with_reducible repeat (first | assumption | exact Ext.refl _ | apply Ext.alloc | apply Ext.drewN | (refine Ext.setCell ?_ (by simp) _))))).mono ?_
    rintro r w2 ⟨rfl, E2⟩
    have X2 : Ext w w2 := Ext.trans (by with_reducible repeat (first | assumption | exact Ext.refl _ | apply Ext.alloc | apply Ext.drewN | (refine Ext.setCell ?_ (by simp) _))) E2
    have B0_2 := B0_1.ext E2
    have D0 := B0_2
    obtain ⟨b0z, ⟨b0_0, b0_1, b0_2, b0_3⟩, b0f0, b0f1, b0f2, b0f3⟩ := D0
    go_wp2_with fail
    exact finB (B0_2.set _ _ _ _) rfl (by with_reducible repeat (first | assumption | exact Ext.refl _ | apply Ext.alloc | apply Ext.drewN | (refine Ext.setCell ?_ (by simp) _))) (fun g0 g1 g2 g3 => by simp [results, Tryz.results49, go_sem, g0, g1, g2, g3]) (fun h => ⟨by rw [H.out], h⟩)
theorem told_sub (a b : Int) (ha : I64 a) (hb : I64 b) (B : Nat) (w : World) (hN : Nm w) (hB : B < w.heap.size) (hc : w.cell? ⟨B, 0, none⟩ = some (.func (.func 32) #[] #[])) :
    Calls Tryz.prog 49 #[.int .i64 a, .int .i64 b, .pointer (some ⟨B, 0, none⟩)] w fun r w' => r = .returned (toldR (subB a b) (subV a b)).dat ∧ Ext w w' := by
  have c1 := fun W => sub_any a b ha hb W
  have c2 := fun W h => vnum_any (subV a b) W h
  have c3 := fun W h => err_any 4 W h
  rw [mkErr_is ⟨by decide, by decide⟩] at c3
  simp only [V.dat] at c3
  cases hz : subB a b
  · rw [hz] at c1
    clear hz ha hb c2
    generalize subV a b = n at *
    go_enter Tryz.func49, Tryz.ntmps49
    go_wp2_with fail
    refine (c1 _).mono ?_
    rintro r w1 ⟨rfl, E1⟩
    have X1 : Ext w w1 := Ext.trans (by with_reducible repeat (first | assumption | exact Ext.refl _ | apply Ext.alloc | apply Ext.drewN | (refine Ext.setCell ?_ (by simp) _))) E1
    have B0_1 := blk_top (b := w.heap.size) (by simp) E1
    have D0 := B0_1
    obtain ⟨b0z, ⟨b0_0, b0_1, b0_2, b0_3⟩, b0f0, b0f1, b0f2, b0f3⟩ := D0
    go_wp2_with fail
    refine (c3 _ (hN.ext (by with_reducible repeat (first | assumption | exact Ext.refl _ | apply Ext.alloc | apply Ext.drewN | (refine Ext.setCell ?_ (by simp) _))))).mono ?_
    rintro r w2 ⟨rfl, E2⟩
    have X2 : Ext w w2 := Ext.trans (by with_reducible repeat (first | assumption | exact Ext.refl _ | apply Ext.alloc | apply Ext.drewN | (refine Ext.setCell ?_ (by simp) _))) E2
    have B0_2 := B0_1.ext E2
    have D0 := B0_2
    obtain ⟨b0z, ⟨b0_0, b0_1, b0_2, b0_3⟩, b0f0, b0f1, b0f2, b0f3⟩ := D0
    go_wp2_with fail
    exact finB (B0_2.set _ _ _ _) rfl (by with_reducible repeat (first | assumption | exact Ext.refl _ | apply Ext.alloc | apply Ext.drewN | (refine Ext.setCell ?_ (by simp) _))) (fun g0 g1 g2 g3 => by simp [results, Tryz.results49, go_sem, g0, g1, g2, g3]) (fun h => ⟨rfl, h⟩)
  · rw [hz] at c1
    obtain ⟨q0, q1, q2, q3, hq⟩ := dat4 (mkNum (subV a b))
    rw [hq] at c2
    have H : Hid ((toldR true (subV a b)).dat = .agg #[.int .i64 q0, .int .i64 q1, .string q2, .int .i64 q3]) := hq
    clear hq hz ha hb c3
    generalize subV a b = n at *
    go_enter Tryz.func49, Tryz.ntmps49
    go_wp2_with fail
    refine (c1 _).mono ?_
    rintro r w1 ⟨rfl, E1⟩
    have X1 : Ext w w1 := Ext.trans (by with_reducible repeat (first | assumption | exact Ext.refl _ | apply Ext.alloc | apply Ext.drewN | (refine Ext.setCell ?_ (by simp) _))) E1
    have B0_1 := blk_top (b := w.heap.size) (by simp) E1
    have D0 := B0_1
    obtain ⟨b0z, ⟨b0_0, b0_1, b0_2, b0_3⟩, b0f0, b0f1, b0f2, b0f3⟩ := D0
    go_wp2_with fail
    refine (c2 _ (hN.ext (by with_reducible repeat (first | assumption | exact Ext.refl _ | apply Ext.alloc | apply Ext.drewN | (refine Ext.setCell ?_ (by simp) _))))).mono ?_
    rintro r w2 ⟨rfl, E2⟩
    have X2 : Ext w w2 := Ext.trans (by with_reducible repeat (first | assumption | exact Ext.refl _ | apply Ext.alloc | apply Ext.drewN | (refine Ext.setCell ?_ (by simp) _))) E2
    have B0_2 := B0_1.ext E2
    have D0 := B0_2
    obtain ⟨b0z, ⟨b0_0, b0_1, b0_2, b0_3⟩, b0f0, b0f1, b0f2, b0f3⟩ := D0
    go_wp2_with fail
    exact finB (B0_2.set _ _ _ _) rfl (by with_reducible repeat (first | assumption | exact Ext.refl _ | apply Ext.alloc | apply Ext.drewN | (refine Ext.setCell ?_ (by simp) _))) (fun g0 g1 g2 g3 => by simp [results, Tryz.results49, go_sem, g0, g1, g2, g3]) (fun h => ⟨by rw [H.out], h⟩)
theorem told_mul (a b : Int) (ha : I64 a) (hb : I64 b) (B : Nat) (w : World) (hN : Nm w) (hB : B < w.heap.size) (hc : w.cell? ⟨B, 0, none⟩ = some (.func (.func 33) #[] #[])) :
    Calls Tryz.prog 49 #[.int .i64 a, .int .i64 b, .pointer (some ⟨B, 0, none⟩)] w fun r w' => r = .returned (toldR (mulB a b) (mulV a b)).dat ∧ Ext w w' := by
  have c1 := fun W => mul_any a b ha hb W
  have c2 := fun W h => vnum_any (mulV a b) W h
  have c3 := fun W h => err_any 4 W h
  rw [mkErr_is ⟨by decide, by decide⟩] at c3
  simp only [V.dat] at c3
  cases hz : mulB a b
  · rw [hz] at c1
    clear hz ha hb c2
    generalize mulV a b = n at *
    go_enter Tryz.func49, Tryz.ntmps49
    go_wp2_with fail
    refine (c1 _).mono ?_
    rintro r w1 ⟨rfl, E1⟩
    have X1 : Ext w w1 := Ext.trans (by with_reducible repeat (first | assumption | exact Ext.refl _ | apply Ext.alloc | apply Ext.drewN | (refine Ext.setCell ?_ (by simp) _))) E1
    have B0_1 := blk_top (b := w.heap.size) (by simp) E1
    have D0 := B0_1
    obtain ⟨b0z, ⟨b0_0, b0_1, b0_2, b0_3⟩, b0f0, b0f1, b0f2, b0f3⟩ := D0
    go_wp2_with fail
    refine (c3 _ (hN.ext (by with_reducible repeat (first | assumption | exact Ext.refl _ | apply Ext.alloc | apply Ext.drewN | (refine Ext.setCell ?_ (by simp) _))))).mono ?_
    rintro r w2 ⟨rfl, E2⟩
    have X2 : Ext w w2 := Ext.trans (by with_reducible repeat (first | assumption | exact Ext.refl _ | apply Ext.alloc | apply Ext.drewN | (refine Ext.setCell ?_ (by simp) _))) E2
    have B0_2 := B0_1.ext E2
    have D0 := B0_2
    obtain ⟨b0z, ⟨b0_0, b0_1, b0_2, b0_3⟩, b0f0, b0f1, b0f2, b0f3⟩ := D0
    go_wp2_with fail
    exact finB (B0_2.set _ _ _ _) rfl (by with_reducible repeat (first | assumption | exact Ext.refl _ | apply Ext.alloc | apply Ext.drewN | (refine Ext.setCell ?_ (by simp) _))) (fun g0 g1 g2 g3 => by simp [results, Tryz.results49, go_sem, g0, g1, g2, g3]) (fun h => ⟨rfl, h⟩)
  · rw [hz] at c1
    obtain ⟨q0, q1, q2, q3, hq⟩ := dat4 (mkNum (mulV a b))
    rw [hq] at c2
    have H : Hid ((toldR true (mulV a b)).dat = .agg #[.int .i64 q0, .int .i64 q1, .string q2, .int .i64 q3]) := hq
    clear hq hz ha hb c3
    generalize mulV a b = n at *
    go_enter Tryz.func49, Tryz.ntmps49
    go_wp2_with fail
    refine (c1 _).mono ?_
    rintro r w1 ⟨rfl, E1⟩
    have X1 : Ext w w1 := Ext.trans (by with_reducible repeat (first | assumption | exact Ext.refl _ | apply Ext.alloc | apply Ext.drewN | (refine Ext.setCell ?_ (by simp) _))) E1
    have B0_1 := blk_top (b := w.heap.size) (by simp) E1
    have D0 := B0_1
    obtain ⟨b0z, ⟨b0_0, b0_1, b0_2, b0_3⟩, b0f0, b0f1, b0f2, b0f3⟩ := D0
    go_wp2_with fail
    refine (c2 _ (hN.ext (by with_reducible repeat (first | assumption | exact Ext.refl _ | apply Ext.alloc | apply Ext.drewN | (refine Ext.setCell ?_ (by simp) _))))).mono ?_
    rintro r w2 ⟨rfl, E2⟩
    have X2 : Ext w w2 := Ext.trans (by with_reducible repeat (first | assumption | exact Ext.refl _ | apply Ext.alloc | apply Ext.drewN | (refine Ext.setCell ?_ (by simp) _))) E2
    have B0_2 := B0_1.ext E2
    have D0 := B0_2
    obtain ⟨b0z, ⟨b0_0, b0_1, b0_2, b0_3⟩, b0f0, b0f1, b0f2, b0f3⟩ := D0
    go_wp2_with fail
    exact finB (B0_2.set _ _ _ _) rfl (by with_reducible repeat (first | assumption | exact Ext.refl _ | apply Ext.alloc | apply Ext.drewN | (refine Ext.setCell ?_ (by simp) _))) (fun g0 g1 g2 g3 => by simp [results, Tryz.results49, go_sem, g0, g1, g2, g3]) (fun h => ⟨by rw [H.out], h⟩)
theorem told_div (a b : Int) (ha : I64 a) (hb : I64 b) (B : Nat) (w : World) (hN : Nm w) (hB : B < w.heap.size) (hc : w.cell? ⟨B, 0, none⟩ = some (.func (.func 35) #[] #[])) :
    Calls Tryz.prog 49 #[.int .i64 a, .int .i64 b, .pointer (some ⟨B, 0, none⟩)] w fun r w' => r = .returned (toldR (divB a b) (divV a b)).dat ∧ Ext w w' := by
  have c1 := fun W => div_any a b ha hb W
  have c2 := fun W h => vnum_any (divV a b) W h
  have c3 := fun W h => err_any 4 W h
  rw [mkErr_is ⟨by decide, by decide⟩] at c3
  simp only [V.dat] at c3
  cases hz : divB a b
  · rw [hz] at c1
    clear hz ha hb c2
    generalize divV a b = n at *
    go_enter Tryz.func49, Tryz.ntmps49
    go_wp2_with fail
    refine (c1 _).mono ?_
    rintro r w1 ⟨rfl, E1⟩
    have X1 : Ext w w1 := Ext.trans (by with_reducible repeat (first | assumption | exact Ext.refl _ | apply Ext.alloc | apply Ext.drewN | (refine Ext.setCell ?_ (by simp) _))) E1
    have B0_1 := blk_top (b := w.heap.size) (by simp) E1
    have D0 := B0_1
    obtain ⟨b0z, ⟨b0_0, b0_1, b0_2, b0_3⟩, b0f0, b0f1, b0f2, b0f3⟩ := D0
    go_wp2_with fail
    refine (c3 _ (hN.ext (by with_reducible repeat (first | assumption | exact Ext.refl _ | apply Ext.alloc | apply Ext.drewN | (refine Ext.setCell ?_ (by simp) _))))).mono ?_
    rintro r w2 ⟨rfl, E2⟩
    have X2 : Ext w w2 := Ext.trans (by with_reducible repeat (first | assumption | exact Ext.refl _ | apply Ext.alloc | apply Ext.drewN | (refine Ext.setCell ?_ (by simp) _))) E2
    have B0_2 := B0_1.ext E2
    have D0 := B0_2
    obtain ⟨b0z, ⟨b0_0, b0_1, b0_2, b0_3⟩, b0f0, b0f1, b0f2, b0f3⟩ := D0
    go_wp2_with fail
    exact finB (B0_2.set _ _ _ _) rfl (by with_reducible repeat (first | assumption | exact Ext.refl _ | apply Ext.alloc | apply Ext.drewN | (refine Ext.setCell ?_ (by simp) _))) (fun g0 g1 g2 g3 => by simp [results, Tryz.results49, go_sem, g0, g1, g2, g3]) (fun h => ⟨rfl, h⟩)
  · rw [hz] at c1
    obtain ⟨q0, q1, q2, q3, hq⟩ := dat4 (mkNum (divV a b))
    rw [hq] at c2
    have H : Hid ((toldR true (divV a b)).dat = .agg #[.int .i64 q0, .int .i64 q1, .string q2, .int .i64 q3]) := hq
    clear hq hz ha hb c3
    generalize divV a b = n at *
    go_enter Tryz.func49, Tryz.ntmps49
    go_wp2_with fail
    refine (c1 _).mono ?_
    rintro r w1 ⟨rfl, E1⟩
    have X1 : Ext w w1 := Ext.trans (by with_reducible repeat (first | assumption | exact Ext.refl _ | apply Ext.alloc | apply Ext.drewN | (refine Ext.setCell ?_ (by simp) _))) E1
    have B0_1 := blk_top (b := w.heap.size) (by simp) E1
    have D0 := B0_1
    obtain ⟨b0z, ⟨b0_0, b0_1, b0_2, b0_3⟩, b0f0, b0f1, b0f2, b0f3⟩ := D0
    go_wp2_with fail
    refine (c2 _ (hN.ext (by with_reducible repeat (first | assumption | exact Ext.refl _ | apply Ext.alloc | apply Ext.drewN | (refine Ext.setCell ?_ (by simp) _))))).mono ?_
    rintro r w2 ⟨rfl, E2⟩
    have X2 : Ext w w2 := Ext.trans (by with_reducible repeat (first | assumption | exact Ext.refl _ | apply Ext.alloc | apply Ext.drewN | (refine Ext.setCell ?_ (by simp) _))) E2
    have B0_2 := B0_1.ext E2
    have D0 := B0_2
    obtain ⟨b0z, ⟨b0_0, b0_1, b0_2, b0_3⟩, b0f0, b0f1, b0f2, b0f3⟩ := D0
    go_wp2_with fail
    exact finB (B0_2.set _ _ _ _) rfl (by with_reducible repeat (first | assumption | exact Ext.refl _ | apply Ext.alloc | apply Ext.drewN | (refine Ext.setCell ?_ (by simp) _))) (fun g0 g1 g2 g3 => by simp [results, Tryz.results49, go_sem, g0, g1, g2, g3]) (fun h => ⟨by rw [H.out], h⟩)
theorem div_zero (a b : Int) (hb0 : b = 0) (B : Nat) (w : World) (hN : Nm w) :
    Calls Tryz.prog 55 #[.int .i64 a, .int .i64 b, .pointer (some ⟨B, 0, none⟩)] w fun r w' => r = .returned (reckon 47 a b).dat ∧ Ext w w' := by
  subst hb0
  have c3 := fun W h => err_any 3 W h
  rw [mkErr_is ⟨by decide, by decide⟩] at c3
  simp only [V.dat] at c3
  go_enter Tryz.func55, Tryz.ntmps55
  go_wp2_with fail
  refine (c3 _ (hN.ext (by with_reducible repeat (first | assumption | exact Ext.refl _ | apply Ext.alloc | apply Ext.drewN | (refine Ext.setCell ?_ (by simp) _))))).mono ?_
  rintro r w1 ⟨rfl, E1⟩
  have X1 : Ext w w1 := Ext.trans (by with_reducible repeat (first | assumption | exact Ext.refl _ | apply Ext.alloc | apply Ext.drewN | (refine Ext.setCell ?_ (by simp) _))) E1
  have B0_1 := blk_top (b := w.heap.size) (by simp) E1
  have D0 := B0_1
  obtain ⟨b0z, ⟨b0_0, b0_1, b0_2, b0_3⟩, b0f0, b0f1, b0f2, b0f3⟩ := D0
  go_wp2_with fail
  exact finB (B0_1.set _ _ _ _) rfl (by with_reducible repeat (first | assumption | exact Ext.refl _ | apply Ext.alloc | apply Ext.drewN | (refine Ext.setCell ?_ (by simp) _))) (fun g0 g1 g2 g3 => by simp [results, Tryz.results55, go_sem, g0, g1, g2, g3]) (fun h => ⟨rfl, h⟩)
theorem div_more (a b : Int) (ha : I64 a) (hb : I64 b) (hb0 : b ≠ 0) (B C : Nat) (w : World) (hN : Nm w) (hB : B < w.heap.size) (hC : C < w.heap.size) (hc : w.cell? ⟨B, 0, none⟩ = some (.func (.func 49) #[] #[.pointer (some ⟨C, 0, none⟩)])) (hd : w.cell? ⟨C, 0, none⟩ = some (.func (.func 35) #[] #[])) :
    Calls Tryz.prog 55 #[.int .i64 a, .int .i64 b, .pointer (some ⟨B, 0, none⟩)] w fun r w' => r = .returned (reckon 47 a b).dat ∧ Ext w w' := by
  have c1 := fun W h (E : Ext w W) => told_div a b ha hb C W h (Nat.lt_of_lt_of_le hC E.sz) ((E.cell.1 C 0 hC).trans hd)
  have hz : (b == 0) = false := by simpa using hb0
  obtain ⟨q0, q1, q2, q3, hq⟩ := dat4 (toldR (divB a b) (divV a b))
  rw [hq] at c1
  have H : Hid ((reckon 47 a b).dat = .agg #[.int .i64 q0, .int .i64 q1, .string q2, .int .i64 q3]) := by show (reckon 47 a b).dat = _; rw [← hq]; unfold reckon; rw [if_neg (by decide), if_neg (by decide), if_neg (by decide), if_neg hb0]
  clear hq ha hb hd hb0
  go_enter Tryz.func55, Tryz.ntmps55
  go_wp2_with fail
  refine (c1 _ (hN.ext (by with_reducible repeat (first | assumption | exact Ext.refl _ | apply Ext.alloc | apply Ext.drewN | (refine Ext.setCell ?_ (by simp) _)))) (by with_reducible repeat (first | assumption | exact Ext.refl _ | apply Ext.alloc | apply Ext.drewN | (refine Ext.setCell ?_ (by simp) _)))).mono ?_
  rintro r w1 ⟨rfl, E1⟩
  obtain ⟨b0z, ⟨b0_0, b0_1, b0_2, b0_3⟩, b0f0, b0f1, b0f2, b0f3⟩ := blk_top (b := w.heap.size) (by simp) E1
  have B0_1 := blk_top (b := w.heap.size) (by simp) E1
  have X1 : Ext w w1 := Ext.trans (by with_reducible repeat (first | assumption | exact Ext.refl _ | apply Ext.alloc | apply Ext.drewN | (refine Ext.setCell ?_ (by simp) _))) E1
  go_wp2_with fail
  exact finB (B0_1.set _ _ _ _) rfl (by with_reducible repeat (first | assumption | exact Ext.refl _ | apply Ext.alloc | apply Ext.drewN | (refine Ext.setCell ?_ (by simp) _))) (fun g0 g1 g2 g3 => by simp [results, Tryz.results55, go_sem, g0, g1, g2, g3]) (fun h => ⟨by rw [H.out], h⟩)
theorem told_mk (F : Nat) (w : World) : Calls Tryz.prog 30 #[.func (.func F) #[] #[]] w fun r w' => ∃ B, r = .returned (.func (.func 49) #[] #[.pointer (some ⟨B, 0, none⟩)]) ∧ w.heap.size ≤ B ∧ B < w'.heap.size ∧ w'.cell? ⟨B, 0, none⟩ = some (.func (.func F) #[] #[]) ∧ Ext w w' := by
  have hmf : ∀ (fn : Fn) (first cap : Array Value) (w : World), (Instr.makeFunc fn first cap).run Tryz.prog w = .ok (.func fn first cap) w := fun _ _ _ _ => rfl
  go_enter Tryz.func30, Tryz.ntmps30
  go_wp2_with fail
  go_ret
  exact ⟨_, rfl, Nat.le_refl _, by simp, by simp [go_sem], (Ext.refl _).alloc _⟩
theorem divided_mk (C : Nat) (w : World) : Calls Tryz.prog 34 #[.func (.func 49) #[] #[.pointer (some ⟨C, 0, none⟩)]] w fun r w' => ∃ B, r = .returned (.func (.func 55) #[] #[.pointer (some ⟨B, 0, none⟩)]) ∧ w.heap.size ≤ B ∧ B < w'.heap.size ∧ w'.cell? ⟨B, 0, none⟩ = some (.func (.func 49) #[] #[.pointer (some ⟨C, 0, none⟩)]) ∧ Ext w w' := by
  have hmf : ∀ (fn : Fn) (first cap : Array Value) (w : World), (Instr.makeFunc fn first cap).run Tryz.prog w = .ok (.func fn first cap) w := fun _ _ _ _ => rfl
  go_enter Tryz.func34, Tryz.ntmps34
  go_wp2_with fail
  go_ret
  exact ⟨_, rfl, Nat.le_refl _, by simp, by simp [go_sem], (Ext.refl _).alloc _⟩
/-- From block lo on nothing has turned. -/
def Same (lo : Nat) (w W : World) : Prop := w.heap.size ≤ W.heap.size ∧ ∀ b o, lo ≤ b → b < w.heap.size → W.cell? ⟨b, o, none⟩ = w.cell? ⟨b, o, none⟩
theorem Same.refl (lo : Nat) (w : World) : Same lo w w := ⟨Nat.le_refl _, fun _ _ _ _ => rfl⟩
theorem Same.ext {lo : Nat} {w W W' : World} (h : Same lo w W) (e : Ext W W') : Same lo w W' := ⟨Nat.le_trans h.1 e.sz, fun b o hl hb => (e.cell.1 b o (Nat.lt_of_lt_of_le hb h.1)).trans (h.2 b o hl hb)⟩
theorem Same.set {lo : Nat} {w W : World} {p : Addr} {v : Value} (h : Same lo w W) (hc : p.block < lo) : Same lo w (W.setCell p v) := by
  refine ⟨by simpa [World.setCell] using h.1, fun b o hl hb => ?_⟩
  rw [World.cell?_setCell_far _ _ _ _ (by show p.block ≠ b; omega)]
  exact h.2 b o hl hb
theorem Same.al {lo : Nat} {w W : World} (o : Obj) (h : Same lo w W) : Same lo w (W.alloc o) := h.ext ((Ext.refl _).alloc _)
theorem Same.dr {lo : Nat} {w W : World} (h : Same lo w W) : Same lo w W.drew := h.ext ((Ext.refl _).drew)
/-- What an operator's closure does. -/
def Does (op : Int) (G B lo : Nat) (w : World) : Prop := ∀ W x y, Same lo w W → I64 x → I64 y → Nm W → Calls Tryz.prog G #[.int .i64 x, .int .i64 y, .pointer (some ⟨B, 0, none⟩)] W fun r w' => r = .returned (reckon op x y).dat ∧ Ext W w'
theorem operator_add (w : World) : Calls Tryz.prog 11 #[.int .u8 43] w fun r w' => ∃ B, r = .returned (.func (.func 49) #[] #[.pointer (some ⟨B, 0, none⟩)]) ∧ Ext w w' ∧ Does 43 49 B w.heap.size w' := by
  have c := fun W => told_mk 31 W
  go_enter Tryz.func11, Tryz.ntmps11
  go_wp2_with fail
  refine (c _).mono ?_
  rintro r w1 ⟨B, rfl, hl, hB, hc, E1⟩
  go_wp2_with fail
  go_ret
  exact ⟨B, rfl, E1, fun W x y E hx hy hN => told_add x y hx hy B W hN (Nat.lt_of_lt_of_le hB E.1) ((E.2 B 0 hl hB).trans hc)⟩
theorem operator_sub (w : World) : Calls Tryz.prog 11 #[.int .u8 45] w fun r w' => ∃ B, r = .returned (.func (.func 49) #[] #[.pointer (some ⟨B, 0, none⟩)]) ∧ Ext w w' ∧ Does 45 49 B w.heap.size w' := by
  have c := fun W => told_mk 32 W
  go_enter Tryz.func11, Tryz.ntmps11
  go_wp2_with fail
  refine (c _).mono ?_
  rintro r w1 ⟨B, rfl, hl, hB, hc, E1⟩
  go_wp2_with fail
  go_ret
  exact ⟨B, rfl, E1, fun W x y E hx hy hN => told_sub x y hx hy B W hN (Nat.lt_of_lt_of_le hB E.1) ((E.2 B 0 hl hB).trans hc)⟩
theorem operator_mul (w : World) : Calls Tryz.prog 11 #[.int .u8 42] w fun r w' => ∃ B, r = .returned (.func (.func 49) #[] #[.pointer (some ⟨B, 0, none⟩)]) ∧ Ext w w' ∧ Does 42 49 B w.heap.size w' := by
  have c := fun W => told_mk 33 W
  go_enter Tryz.func11, Tryz.ntmps11
  go_wp2_with fail
  refine (c _).mono ?_
  rintro r w1 ⟨B, rfl, hl, hB, hc, E1⟩
  go_wp2_with fail
  go_ret
  exact ⟨B, rfl, E1, fun W x y E hx hy hN => told_mul x y hx hy B W hN (Nat.lt_of_lt_of_le hB E.1) ((E.2 B 0 hl hB).trans hc)⟩
theorem operator_div (w : World) : Calls Tryz.prog 11 #[.int .u8 47] w fun r w' => ∃ B, r = .returned (.func (.func 55) #[] #[.pointer (some ⟨B, 0, none⟩)]) ∧ Ext w w' ∧ Does 47 55 B w.heap.size w' := by
  have c := fun W => told_mk 35 W
  have d := fun C W => divided_mk C W
  go_enter Tryz.func11, Tryz.ntmps11
  go_wp2_with fail
  refine (c _).mono ?_
  rintro r w1 ⟨C, rfl, hlC, hC, hc, E1⟩
  go_wp2_with fail
  refine (d C _).mono ?_
  rintro r w2 ⟨B, rfl, hlB, hB, hd, E2⟩
  go_wp2_with fail
  go_ret
  refine ⟨B, rfl, E1.trans E2, fun W x y E hx hy hN => ?_⟩
  by_cases h0 : y = 0
  · exact div_zero x y h0 B W hN
  · have hC2 := Nat.lt_of_lt_of_le hC E2.sz
    exact div_more x y hx hy h0 B C W hN (Nat.lt_of_lt_of_le hB E.1) (Nat.lt_of_lt_of_le hC2 E.1) ((E.2 B 0 (Nat.le_trans E1.sz hlB) hB).trans hd) ((E.2 C 0 hlC hC2).trans ((E2.cell.1 C 0 hC).trans hc))
theorem operator_no (op : Int) (w : World) (h : opB op = false) : Calls Tryz.prog 11 #[.int .u8 op] w fun r w' => r = .returned .nilFunc ∧ w' = w := by
  have n1 : op ≠ 43 := by rintro rfl; cases h
  have n2 : op ≠ 45 := by rintro rfl; cases h
  have n3 : op ≠ 42 := by rintro rfl; cases h
  have n4 : op ≠ 47 := by rintro rfl; cases h
  clear h
  go_enter Tryz.func11, Tryz.ntmps11
  go_wp2_with fail
  go_ret
  exact ⟨rfl, rfl⟩
end Go.Proofs.YtdmiddpfgmbbhaaGreatDoor
