/-
  The contracts of the document's Show, ToNum, ToText, ToBool, Neg.
-/
import Derived.Test.YtlfkiepnahgbeaaGreatDoorValK
import Derived.Test.YtlfkiepnahgbeaaGreatDoorDecF
import Derived.Deep.DeepCutAuto
namespace Go.Proofs.YtlfkiepnahgbeaaGreatDoor
open Go.RowKit
set_option maxHeartbeats 1000000

theorem Blk.put1 {w : World} {b : Nat} {x0 x1 x2 x3 : Value} (h : Blk w b x0 x1 x2 x3) (v : Value) : Blk (w.setCell ⟨b, 1, none⟩ v) b x0 v x2 x3 := by
  obtain ⟨z, ⟨k0, k1, k2, k3⟩, f0, f1, f2, f3⟩ := h
  refine ⟨by simpa [World.setCell] using z, ⟨?_, World.cell?_setCell_same _ ⟨b, 1, none⟩ _ (by rw [k1]), ?_, ?_⟩, ?_, ?_, ?_, ?_⟩
  · rw [World.cell?_setCell_other _ _ _ _ (by simp)]; exact k0
  · rw [World.cell?_setCell_other _ _ _ _ (by simp)]; exact k2
  · rw [World.cell?_setCell_other _ _ _ _ (by simp)]; exact k3
  · rw [World.frozen?_setCell]; exact f0
  · rw [World.frozen?_setCell]; exact f1
  · rw [World.frozen?_setCell]; exact f2
  · rw [World.frozen?_setCell]; exact f3
theorem rshow_any (k n : Int) (s : ByteArray) (e : Int) (w : World) (hn : I64 n) :
    Calls Tryz.prog 8 #[.agg #[.int .i64 k, .int .i64 n, .string s, .int .i64 e]] w fun r w' => r = .returned (.string (nm k n s e).shown) ∧ Ext w w' := by
  have c0 := fun W => rnormal_any k n s e W
  have ok := nm_ok k n s e hn
  clear hn
  generalize nm k n s e = v at c0 ok ⊢
  cases v with
  | blank =>
    simp only [V.dat] at c0
    clear ok
    go_enter Tryz.func8, Tryz.ntmps8
    go_wp2_with fail
    refine (c0 _).mono ?_
    rintro r w1 ⟨rfl, E1⟩
    have X1 : Ext w w1 := Ext.trans (by with_reducible repeat (first | assumption | exact Ext.refl _ | apply Ext.alloc | apply Ext.drewN | (refine Ext.setCell ?_ (by simp) _))) E1
    have B0_1 := blk_top (b := w.heap.size) (by simp) E1
    have D0 := B0_1
    obtain ⟨b0z, ⟨b0_0, b0_1, b0_2, b0_3⟩, b0f0, b0f1, b0f2, b0f3⟩ := D0
    go_wp2_with fail
    go_ret
    exact ⟨rfl, (by with_reducible repeat (first | assumption | exact Ext.refl _ | apply Ext.alloc | apply Ext.drewN | (refine Ext.setCell ?_ (by simp) _)))⟩
  | tf b =>
    simp only [V.dat] at c0
    cases b with
    | false =>
      simp only [Bool.false_eq_true, if_false] at c0
      clear ok
      go_enter Tryz.func8, Tryz.ntmps8
      go_wp2_with fail
      refine (c0 _).mono ?_
      rintro r w1 ⟨rfl, E1⟩
      have X1 : Ext w w1 := Ext.trans (by with_reducible repeat (first | assumption | exact Ext.refl _ | apply Ext.alloc | apply Ext.drewN | (refine Ext.setCell ?_ (by simp) _))) E1
      have B0_1 := blk_top (b := w.heap.size) (by simp) E1
      have D0 := B0_1
      obtain ⟨b0z, ⟨b0_0, b0_1, b0_2, b0_3⟩, b0f0, b0f1, b0f2, b0f3⟩ := D0
      go_wp2_with fail
      go_ret
      exact ⟨rfl, (by with_reducible repeat (first | assumption | exact Ext.refl _ | apply Ext.alloc | apply Ext.drewN | (refine Ext.setCell ?_ (by simp) _)))⟩
    | true =>
      simp only [if_true] at c0
      clear ok
      go_enter Tryz.func8, Tryz.ntmps8
      go_wp2_with fail
      refine (c0 _).mono ?_
      rintro r w1 ⟨rfl, E1⟩
      have X1 : Ext w w1 := Ext.trans (by with_reducible repeat (first | assumption | exact Ext.refl _ | apply Ext.alloc | apply Ext.drewN | (refine Ext.setCell ?_ (by simp) _))) E1
      have B0_1 := blk_top (b := w.heap.size) (by simp) E1
      have D0 := B0_1
      obtain ⟨b0z, ⟨b0_0, b0_1, b0_2, b0_3⟩, b0f0, b0f1, b0f2, b0f3⟩ := D0
      go_wp2_with fail
      go_ret
      exact ⟨rfl, (by with_reducible repeat (first | assumption | exact Ext.refl _ | apply Ext.alloc | apply Ext.drewN | (refine Ext.setCell ?_ (by simp) _)))⟩
  | num n =>
    simp only [V.dat] at c0
    have c1 := fun W => rprint_any n ok.1 W
    have H : Hid ((V.num n).shown = ⟨(printL n).toArray⟩) := rfl
    generalize (⟨(printL n).toArray⟩ : ByteArray) = q at *
    clear ok
    go_enter Tryz.func8, Tryz.ntmps8
    go_wp2_with fail
    refine (c0 _).mono ?_
    rintro r w1 ⟨rfl, E1⟩
    have X1 : Ext w w1 := Ext.trans (by with_reducible repeat (first | assumption | exact Ext.refl _ | apply Ext.alloc | apply Ext.drewN | (refine Ext.setCell ?_ (by simp) _))) E1
    have B0_1 := blk_top (b := w.heap.size) (by simp) E1
    have D0 := B0_1
    obtain ⟨b0z, ⟨b0_0, b0_1, b0_2, b0_3⟩, b0f0, b0f1, b0f2, b0f3⟩ := D0
    go_wp2_with fail
    refine (c1 _).mono ?_
    rintro r w2 ⟨rfl, E2⟩
    have X2 : Ext w w2 := Ext.trans (by with_reducible repeat (first | assumption | exact Ext.refl _ | apply Ext.alloc | apply Ext.drewN | (refine Ext.setCell ?_ (by simp) _))) E2
    go_wp2_with fail
    go_ret
    exact ⟨by rw [H.out]; rfl, (by with_reducible repeat (first | assumption | exact Ext.refl _ | apply Ext.alloc | apply Ext.drewN | (refine Ext.setCell ?_ (by simp) _)))⟩
  | text s =>
    simp only [V.dat] at c0
    clear ok
    go_enter Tryz.func8, Tryz.ntmps8
    go_wp2_with fail
    refine (c0 _).mono ?_
    rintro r w1 ⟨rfl, E1⟩
    have X1 : Ext w w1 := Ext.trans (by with_reducible repeat (first | assumption | exact Ext.refl _ | apply Ext.alloc | apply Ext.drewN | (refine Ext.setCell ?_ (by simp) _))) E1
    have B0_1 := blk_top (b := w.heap.size) (by simp) E1
    have D0 := B0_1
    obtain ⟨b0z, ⟨b0_0, b0_1, b0_2, b0_3⟩, b0f0, b0f1, b0f2, b0f3⟩ := D0
    go_wp2_with fail
    go_ret
    exact ⟨rfl, (by with_reducible repeat (first | assumption | exact Ext.refl _ | apply Ext.alloc | apply Ext.drewN | (refine Ext.setCell ?_ (by simp) _)))⟩
  | err e =>
    simp only [V.dat] at c0
    have c1 := fun W => rerrname_any e W
    have H : Hid ((V.err e).shown = bs (errName e)) := rfl
    generalize bs (errName e) = q at *
    clear ok
    go_enter Tryz.func8, Tryz.ntmps8
    go_wp2_with fail
    refine (c0 _).mono ?_
    rintro r w1 ⟨rfl, E1⟩
    have X1 : Ext w w1 := Ext.trans (by with_reducible repeat (first | assumption | exact Ext.refl _ | apply Ext.alloc | apply Ext.drewN | (refine Ext.setCell ?_ (by simp) _))) E1
    have B0_1 := blk_top (b := w.heap.size) (by simp) E1
    have D0 := B0_1
    obtain ⟨b0z, ⟨b0_0, b0_1, b0_2, b0_3⟩, b0f0, b0f1, b0f2, b0f3⟩ := D0
    go_wp2_with fail
    refine (c1 _).mono ?_
    rintro r w2 ⟨rfl, rfl⟩
    go_wp2_with fail
    go_ret
    exact ⟨by rw [H.out]; rfl, (by with_reducible repeat (first | assumption | exact Ext.refl _ | apply Ext.alloc | apply Ext.drewN | (refine Ext.setCell ?_ (by simp) _)))⟩
theorem redK_cases (s : ByteArray) : (numK s = true ∧ redR s = readV s) ∨ (numK s = false ∧ readV s = .err 2) := by
  unfold numK redR readV
  rcases rdK_cases s.data.toList with h | h | h <;> rw [h]
  · exact .inr ⟨rfl, rfl⟩
  · exact .inl ⟨rfl, rfl⟩
  · exact .inl ⟨rfl, rfl⟩
theorem rtonum_any (k n : Int) (s : ByteArray) (e : Int) (w : World) (hn : I64 n) :
    Calls Tryz.prog 10 #[.agg #[.int .i64 k, .int .i64 n, .string s, .int .i64 e]] w fun r w' => r = .returned ((nm k n s e).toNum.dat) ∧ Ext w w' := by
  have c0 := fun W => rnormal_any k n s e W
  have ok := nm_ok k n s e hn
  clear hn
  generalize nm k n s e = v at c0 ok ⊢
  cases v with
  | blank =>
    simp only [V.dat] at c0
    have c1 := fun W => rnum_any 0 W
    rw [mkNum_is (by decide)] at c1
    simp only [V.dat] at c1
    clear ok
    go_enter Tryz.func10, Tryz.ntmps10
    go_wp2_with fail
    refine (c0 _).mono ?_
    rintro r w1 ⟨rfl, E1⟩
    have X1 : Ext w w1 := Ext.trans (by with_reducible repeat (first | assumption | exact Ext.refl _ | apply Ext.alloc | apply Ext.drewN | (refine Ext.setCell ?_ (by simp) _))) E1
    have B0_1 := blk_top (b := w.heap.size) (by simp) (((Ext.refl _).alloc _).trans E1)
    have B1_1 := blk_top (b := w.heap.size + 1) (by simp) E1
    have D0 := B0_1
    obtain ⟨b0z, ⟨b0_0, b0_1, b0_2, b0_3⟩, b0f0, b0f1, b0f2, b0f3⟩ := D0
    have D1 := B1_1
    obtain ⟨b1z, ⟨b1_0, b1_1, b1_2, b1_3⟩, b1f0, b1f1, b1f2, b1f3⟩ := D1
    go_wp2_with fail
    refine (c1 _).mono ?_
    rintro r w2 ⟨rfl, E2⟩
    have X2 : Ext w w2 := Ext.trans (by with_reducible repeat (first | assumption | exact Ext.refl _ | apply Ext.alloc | apply Ext.drewN | (refine Ext.setCell ?_ (by simp) _))) E2
    have B1_2 := (B1_1.far (c := w.heap.size) (by simp) _ _ _ _).ext E2
    have D1 := B1_2
    obtain ⟨b1z, ⟨b1_0, b1_1, b1_2, b1_3⟩, b1f0, b1f1, b1f2, b1f3⟩ := D1
    go_wp2_with fail
    exact finB (B1_2.set _ _ _ _) rfl (by with_reducible repeat (first | assumption | exact Ext.refl _ | apply Ext.alloc | apply Ext.drewN | (refine Ext.setCell ?_ (by simp) _))) (fun g0 g1 g2 g3 => by simp [results, Tryz.results10, go_sem, g0, g1, g2, g3]) (fun h => ⟨rfl, h⟩)
  | tf b =>
    simp only [V.dat] at c0
    cases b with
    | false =>
      simp only [Bool.false_eq_true, if_false] at c0
      have c1 := fun W => rnum_any 0 W
      rw [mkNum_is (by decide)] at c1
      simp only [V.dat] at c1
      clear ok
      go_enter Tryz.func10, Tryz.ntmps10
      go_wp2_with fail
      refine (c0 _).mono ?_
      rintro r w1 ⟨rfl, E1⟩
      have X1 : Ext w w1 := Ext.trans (by with_reducible repeat (first | assumption | exact Ext.refl _ | apply Ext.alloc | apply Ext.drewN | (refine Ext.setCell ?_ (by simp) _))) E1
      have B0_1 := blk_top (b := w.heap.size) (by simp) (((Ext.refl _).alloc _).trans E1)
      have B1_1 := blk_top (b := w.heap.size + 1) (by simp) E1
      have D0 := B0_1
      obtain ⟨b0z, ⟨b0_0, b0_1, b0_2, b0_3⟩, b0f0, b0f1, b0f2, b0f3⟩ := D0
      have D1 := B1_1
      obtain ⟨b1z, ⟨b1_0, b1_1, b1_2, b1_3⟩, b1f0, b1f1, b1f2, b1f3⟩ := D1
      go_wp2_with fail
      refine (c1 _).mono ?_
      rintro r w2 ⟨rfl, E2⟩
      have X2 : Ext w w2 := Ext.trans (by with_reducible repeat (first | assumption | exact Ext.refl _ | apply Ext.alloc | apply Ext.drewN | (refine Ext.setCell ?_ (by simp) _))) E2
      have B1_2 := (B1_1.far (c := w.heap.size) (by simp) _ _ _ _).ext E2
      have D1 := B1_2
      obtain ⟨b1z, ⟨b1_0, b1_1, b1_2, b1_3⟩, b1f0, b1f1, b1f2, b1f3⟩ := D1
      go_wp2_with fail
      exact finB (B1_2.set _ _ _ _) rfl (by with_reducible repeat (first | assumption | exact Ext.refl _ | apply Ext.alloc | apply Ext.drewN | (refine Ext.setCell ?_ (by simp) _))) (fun g0 g1 g2 g3 => by simp [results, Tryz.results10, go_sem, g0, g1, g2, g3]) (fun h => ⟨rfl, h⟩)
    | true =>
      simp only [if_true] at c0
      have c1 := fun W => rnum_any 10000 W
      rw [mkNum_is (by decide)] at c1
      simp only [V.dat] at c1
      clear ok
      go_enter Tryz.func10, Tryz.ntmps10
      go_wp2_with fail
      refine (c0 _).mono ?_
      rintro r w1 ⟨rfl, E1⟩
      have X1 : Ext w w1 := Ext.trans (by with_reducible repeat (first | assumption | exact Ext.refl _ | apply Ext.alloc | apply Ext.drewN | (refine Ext.setCell ?_ (by simp) _))) E1
      have B0_1 := blk_top (b := w.heap.size) (by simp) (((Ext.refl _).alloc _).trans E1)
      have B1_1 := blk_top (b := w.heap.size + 1) (by simp) E1
      have D0 := B0_1
      obtain ⟨b0z, ⟨b0_0, b0_1, b0_2, b0_3⟩, b0f0, b0f1, b0f2, b0f3⟩ := D0
      have D1 := B1_1
      obtain ⟨b1z, ⟨b1_0, b1_1, b1_2, b1_3⟩, b1f0, b1f1, b1f2, b1f3⟩ := D1
      go_wp2_with fail
      refine (c1 _).mono ?_
      rintro r w2 ⟨rfl, E2⟩
      have X2 : Ext w w2 := Ext.trans (by with_reducible repeat (first | assumption | exact Ext.refl _ | apply Ext.alloc | apply Ext.drewN | (refine Ext.setCell ?_ (by simp) _))) E2
      have B1_2 := (B1_1.far (c := w.heap.size) (by simp) _ _ _ _).ext E2
      have D1 := B1_2
      obtain ⟨b1z, ⟨b1_0, b1_1, b1_2, b1_3⟩, b1f0, b1f1, b1f2, b1f3⟩ := D1
      go_wp2_with fail
      exact finB (B1_2.set _ _ _ _) rfl (by with_reducible repeat (first | assumption | exact Ext.refl _ | apply Ext.alloc | apply Ext.drewN | (refine Ext.setCell ?_ (by simp) _))) (fun g0 g1 g2 g3 => by simp [results, Tryz.results10, go_sem, g0, g1, g2, g3]) (fun h => ⟨rfl, h⟩)
  | num n =>
    simp only [V.dat] at c0
    clear ok
    go_enter Tryz.func10, Tryz.ntmps10
    go_wp2_with fail
    refine (c0 _).mono ?_
    rintro r w1 ⟨rfl, E1⟩
    have X1 : Ext w w1 := Ext.trans (by with_reducible repeat (first | assumption | exact Ext.refl _ | apply Ext.alloc | apply Ext.drewN | (refine Ext.setCell ?_ (by simp) _))) E1
    have B0_1 := blk_top (b := w.heap.size) (by simp) (((Ext.refl _).alloc _).trans E1)
    have B1_1 := blk_top (b := w.heap.size + 1) (by simp) E1
    have D0 := B0_1
    obtain ⟨b0z, ⟨b0_0, b0_1, b0_2, b0_3⟩, b0f0, b0f1, b0f2, b0f3⟩ := D0
    have D1 := B1_1
    obtain ⟨b1z, ⟨b1_0, b1_1, b1_2, b1_3⟩, b1f0, b1f1, b1f2, b1f3⟩ := D1
    go_wp2_with fail
    exact finB ((B1_1.far (c := w.heap.size) (by simp) _ _ _ _).set _ _ _ _) rfl (by with_reducible repeat (first | assumption | exact Ext.refl _ | apply Ext.alloc | apply Ext.drewN | (refine Ext.setCell ?_ (by simp) _))) (fun g0 g1 g2 g3 => by simp [results, Tryz.results10, go_sem, g0, g1, g2, g3]) (fun h => ⟨rfl, h⟩)
  | text s =>
    simp only [V.dat] at c0
    have c1 := fun W => rread_any s W (Nat.le_trans ok (by decide))
    have c2 := fun W => rerr_any 2 W
    rw [mkErr_is ⟨by decide, by decide⟩] at c2
    simp only [V.dat] at c2
    have hk := redK_cases s
    clear ok
    rcases hk with ⟨h1, h2⟩ | ⟨h1, h2⟩
    · rw [h1] at c1
      obtain ⟨q0, q1, q2, q3, hq⟩ := dat4 (redR s)
      rw [hq] at c1
      have H : Hid ((V.text s).toNum.dat = .agg #[.int .i64 q0, .int .i64 q1, .string q2, .int .i64 q3]) := by show (readV s).dat = _; rw [← h2]; exact hq
      clear hq h1 h2 c2
      go_enter Tryz.func10, Tryz.ntmps10
      go_wp2_with fail
      refine (c0 _).mono ?_
      rintro r w1 ⟨rfl, E1⟩
      have X1 : Ext w w1 := Ext.trans (by with_reducible repeat (first | assumption | exact Ext.refl _ | apply Ext.alloc | apply Ext.drewN | (refine Ext.setCell ?_ (by simp) _))) E1
      have B0_1 := blk_top (b := w.heap.size) (by simp) (((Ext.refl _).alloc _).trans E1)
      have B1_1 := blk_top (b := w.heap.size + 1) (by simp) E1
      have D0 := B0_1
      obtain ⟨b0z, ⟨b0_0, b0_1, b0_2, b0_3⟩, b0f0, b0f1, b0f2, b0f3⟩ := D0
      have D1 := B1_1
      obtain ⟨b1z, ⟨b1_0, b1_1, b1_2, b1_3⟩, b1f0, b1f1, b1f2, b1f3⟩ := D1
      go_wp2_with fail
      refine (c1 _).mono ?_
      rintro r w2 ⟨rfl, E2⟩
      have X2 : Ext w w2 := Ext.trans (by with_reducible repeat (first | assumption | exact Ext.refl _ | apply Ext.alloc | apply Ext.drewN | (refine Ext.setCell ?_ (by simp) _))) E2
      have B1_2 := (B1_1.far (c := w.heap.size) (by simp) _ _ _ _).ext E2
      have D1 := B1_2
      obtain ⟨b1z, ⟨b1_0, b1_1, b1_2, b1_3⟩, b1f0, b1f1, b1f2, b1f3⟩ := D1
      go_wp2_with fail
      exact finB ((B1_2.set _ _ _ _).ext ((Ext.refl _).alloc _)) rfl (by with_reducible repeat (first | assumption | exact Ext.refl _ | apply Ext.alloc | apply Ext.drewN | (refine Ext.setCell ?_ (by simp) _))) (fun g0 g1 g2 g3 => by simp [results, Tryz.results10, go_sem, g0, g1, g2, g3]) (fun h => ⟨by rw [H.out], h⟩)
    · rw [h1] at c1
      obtain ⟨q0, q1, q2, q3, hq⟩ := dat4 (redR s)
      rw [hq] at c1
      have H : Hid ((V.text s).toNum = .err 2) := h2
      clear hq h1 h2
      go_enter Tryz.func10, Tryz.ntmps10
      go_wp2_with fail
      refine (c0 _).mono ?_
      rintro r w1 ⟨rfl, E1⟩
      have X1 : Ext w w1 := Ext.trans (by with_reducible repeat (first | assumption | exact Ext.refl _ | apply Ext.alloc | apply Ext.drewN | (refine Ext.setCell ?_ (by simp) _))) E1
      have B0_1 := blk_top (b := w.heap.size) (by simp) (((Ext.refl _).alloc _).trans E1)
      have B1_1 := blk_top (b := w.heap.size + 1) (by simp) E1
      have D0 := B0_1
      obtain ⟨b0z, ⟨b0_0, b0_1, b0_2, b0_3⟩, b0f0, b0f1, b0f2, b0f3⟩ := D0
      have D1 := B1_1
      obtain ⟨b1z, ⟨b1_0, b1_1, b1_2, b1_3⟩, b1f0, b1f1, b1f2, b1f3⟩ := D1
      go_wp2_with fail
      refine (c1 _).mono ?_
      rintro r w2 ⟨rfl, E2⟩
      have X2 : Ext w w2 := Ext.trans (by with_reducible repeat (first | assumption | exact Ext.refl _ | apply Ext.alloc | apply Ext.drewN | (refine Ext.setCell ?_ (by simp) _))) E2
      have B1_2 := (B1_1.far (c := w.heap.size) (by simp) _ _ _ _).ext E2
      have D1 := B1_2
      obtain ⟨b1z, ⟨b1_0, b1_1, b1_2, b1_3⟩, b1f0, b1f1, b1f2, b1f3⟩ := D1
      go_wp2_with fail
      refine (c2 _).mono ?_
      rintro r w3 ⟨rfl, E3⟩
      have X3 : Ext w w3 := Ext.trans (by with_reducible repeat (first | assumption | exact Ext.refl _ | apply Ext.alloc | apply Ext.drewN | (refine Ext.setCell ?_ (by simp) _))) E3
      have B1_3 := (B1_2.ext ((Ext.refl _).alloc _)).ext E3
      have D1 := B1_3
      obtain ⟨b1z, ⟨b1_0, b1_1, b1_2, b1_3⟩, b1f0, b1f1, b1f2, b1f3⟩ := D1
      go_wp2_with fail
      exact finB (B1_3.set _ _ _ _) rfl (by with_reducible repeat (first | assumption | exact Ext.refl _ | apply Ext.alloc | apply Ext.drewN | (refine Ext.setCell ?_ (by simp) _))) (fun g0 g1 g2 g3 => by simp [results, Tryz.results10, go_sem, g0, g1, g2, g3]) (fun h => ⟨by rw [H.out]; rfl, h⟩)
  | err e =>
    simp only [V.dat] at c0
    clear ok
    go_enter Tryz.func10, Tryz.ntmps10
    go_wp2_with fail
    refine (c0 _).mono ?_
    rintro r w1 ⟨rfl, E1⟩
    have X1 : Ext w w1 := Ext.trans (by with_reducible repeat (first | assumption | exact Ext.refl _ | apply Ext.alloc | apply Ext.drewN | (refine Ext.setCell ?_ (by simp) _))) E1
    have B0_1 := blk_top (b := w.heap.size) (by simp) (((Ext.refl _).alloc _).trans E1)
    have B1_1 := blk_top (b := w.heap.size + 1) (by simp) E1
    have D0 := B0_1
    obtain ⟨b0z, ⟨b0_0, b0_1, b0_2, b0_3⟩, b0f0, b0f1, b0f2, b0f3⟩ := D0
    have D1 := B1_1
    obtain ⟨b1z, ⟨b1_0, b1_1, b1_2, b1_3⟩, b1f0, b1f1, b1f2, b1f3⟩ := D1
    go_wp2_with fail
    exact finB ((B1_1.far (c := w.heap.size) (by simp) _ _ _ _).set _ _ _ _) rfl (by with_reducible repeat (first | assumption | exact Ext.refl _ | apply Ext.alloc | apply Ext.drewN | (refine Ext.setCell ?_ (by simp) _))) (fun g0 g1 g2 g3 => by simp [results, Tryz.results10, go_sem, g0, g1, g2, g3]) (fun h => ⟨rfl, h⟩)
theorem rtotext_any (k n : Int) (s : ByteArray) (e : Int) (w : World) (hn : I64 n) :
    Calls Tryz.prog 12 #[.agg #[.int .i64 k, .int .i64 n, .string s, .int .i64 e]] w fun r w' => r = .returned ((nm k n s e).toText.dat) ∧ Ext w w' := by
  have c0 := fun W => rnormal_any k n s e W
  have ok := nm_ok k n s e hn
  clear hn
  generalize nm k n s e = v at c0 ok ⊢
  cases v with
  | blank =>
    simp only [V.dat] at c0
    have c1 := fun W => rshow_any 0 0 ⟨#[]⟩ 0 W ⟨by decide, by decide⟩
    rw [nm_blank] at c1
    have hz := shown_size (V.blank) ok
    have c2 := fun W => rtext_any (V.blank).shown W
    rw [mkText_is hz] at c2
    simp only [V.dat] at c2
    have H : Hid ((V.blank).toText = .text (V.blank).shown) := rfl
    generalize (V.blank).shown = q at *
    clear hz ok
    go_enter Tryz.func12, Tryz.ntmps12
    go_wp2_with fail
    refine (c0 _).mono ?_
    rintro r w1 ⟨rfl, E1⟩
    have X1 : Ext w w1 := Ext.trans (by with_reducible repeat (first | assumption | exact Ext.refl _ | apply Ext.alloc | apply Ext.drewN | (refine Ext.setCell ?_ (by simp) _))) E1
    have B0_1 := blk_top (b := w.heap.size) (by simp) (((Ext.refl _).alloc _).trans E1)
    have B1_1 := blk_top (b := w.heap.size + 1) (by simp) E1
    have D0 := B0_1
    obtain ⟨b0z, ⟨b0_0, b0_1, b0_2, b0_3⟩, b0f0, b0f1, b0f2, b0f3⟩ := D0
    have D1 := B1_1
    obtain ⟨b1z, ⟨b1_0, b1_1, b1_2, b1_3⟩, b1f0, b1f1, b1f2, b1f3⟩ := D1
    go_wp2_with fail
    refine (c1 _).mono ?_
    rintro r w2 ⟨rfl, E2⟩
    have X2 : Ext w w2 := Ext.trans (by with_reducible repeat (first | assumption | exact Ext.refl _ | apply Ext.alloc | apply Ext.drewN | (refine Ext.setCell ?_ (by simp) _))) E2
    have B1_2 := (B1_1.far (c := w.heap.size) (by simp) _ _ _ _).ext E2
    go_wp2_with fail
    refine (c2 _).mono ?_
    rintro r w3 ⟨rfl, E3⟩
    have X3 : Ext w w3 := Ext.trans (by with_reducible repeat (first | assumption | exact Ext.refl _ | apply Ext.alloc | apply Ext.drewN | (refine Ext.setCell ?_ (by simp) _))) E3
    have B1_3 := B1_2.ext E3
    have D1 := B1_3
    obtain ⟨b1z, ⟨b1_0, b1_1, b1_2, b1_3⟩, b1f0, b1f1, b1f2, b1f3⟩ := D1
    go_wp2_with fail
    exact finB (B1_3.set _ _ _ _) rfl (by with_reducible repeat (first | assumption | exact Ext.refl _ | apply Ext.alloc | apply Ext.drewN | (refine Ext.setCell ?_ (by simp) _))) (fun g0 g1 g2 g3 => by simp [results, Tryz.results12, go_sem, g0, g1, g2, g3]) (fun h => ⟨by rw [H.out]; rfl, h⟩)
  | tf b =>
    simp only [V.dat] at c0
    cases b with
    | false =>
      simp only [Bool.false_eq_true, if_false] at c0
      have c1 := fun W => rshow_any 1 0 ⟨#[]⟩ 0 W ⟨by decide, by decide⟩
      rw [show nm 1 0 ⟨#[]⟩ 0 = .tf false from rfl] at c1
      have hz := shown_size (V.tf false) ok
      have c2 := fun W => rtext_any (V.tf false).shown W
      rw [mkText_is hz] at c2
      simp only [V.dat] at c2
      have H : Hid ((V.tf false).toText = .text (V.tf false).shown) := rfl
      generalize (V.tf false).shown = q at *
      clear hz ok
      go_enter Tryz.func12, Tryz.ntmps12
      go_wp2_with fail
      refine (c0 _).mono ?_
      rintro r w1 ⟨rfl, E1⟩
      have X1 : Ext w w1 := Ext.trans (by with_reducible repeat (first | assumption | exact Ext.refl _ | apply Ext.alloc | apply Ext.drewN | (refine Ext.setCell ?_ (by simp) _))) E1
      have B0_1 := blk_top (b := w.heap.size) (by simp) (((Ext.refl _).alloc _).trans E1)
      have B1_1 := blk_top (b := w.heap.size + 1) (by simp) E1
      have D0 := B0_1
      obtain ⟨b0z, ⟨b0_0, b0_1, b0_2, b0_3⟩, b0f0, b0f1, b0f2, b0f3⟩ := D0
      have D1 := B1_1
      obtain ⟨b1z, ⟨b1_0, b1_1, b1_2, b1_3⟩, b1f0, b1f1, b1f2, b1f3⟩ := D1
      go_wp2_with fail
      refine (c1 _).mono ?_
      rintro r w2 ⟨rfl, E2⟩
      have X2 : Ext w w2 := Ext.trans (by with_reducible repeat (first | assumption | exact Ext.refl _ | apply Ext.alloc | apply Ext.drewN | (refine Ext.setCell ?_ (by simp) _))) E2
      have B1_2 := (B1_1.far (c := w.heap.size) (by simp) _ _ _ _).ext E2
      go_wp2_with fail
      refine (c2 _).mono ?_
      rintro r w3 ⟨rfl, E3⟩
      have X3 : Ext w w3 := Ext.trans (by with_reducible repeat (first | assumption | exact Ext.refl _ | apply Ext.alloc | apply Ext.drewN | (refine Ext.setCell ?_ (by simp) _))) E3
      have B1_3 := B1_2.ext E3
      have D1 := B1_3
      obtain ⟨b1z, ⟨b1_0, b1_1, b1_2, b1_3⟩, b1f0, b1f1, b1f2, b1f3⟩ := D1
      go_wp2_with fail
      exact finB (B1_3.set _ _ _ _) rfl (by with_reducible repeat (first | assumption | exact Ext.refl _ | apply Ext.alloc | apply Ext.drewN | (refine Ext.setCell ?_ (by simp) _))) (fun g0 g1 g2 g3 => by simp [results, Tryz.results12, go_sem, g0, g1, g2, g3]) (fun h => ⟨by rw [H.out]; rfl, h⟩)
    | true =>
      simp only [if_true] at c0
      have c1 := fun W => rshow_any 1 1 ⟨#[]⟩ 0 W ⟨by decide, by decide⟩
      rw [show nm 1 1 ⟨#[]⟩ 0 = .tf true from rfl] at c1
      have hz := shown_size (V.tf true) ok
      have c2 := fun W => rtext_any (V.tf true).shown W
      rw [mkText_is hz] at c2
      simp only [V.dat] at c2
      have H : Hid ((V.tf true).toText = .text (V.tf true).shown) := rfl
      generalize (V.tf true).shown = q at *
      clear hz ok
      go_enter Tryz.func12, Tryz.ntmps12
      go_wp2_with fail
      refine (c0 _).mono ?_
      rintro r w1 ⟨rfl, E1⟩
      have X1 : Ext w w1 := Ext.trans (by with_reducible repeat (first | assumption | exact Ext.refl _ | apply Ext.alloc | apply Ext.drewN | (refine Ext.setCell ?_ (by simp) _))) E1
      have B0_1 := blk_top (b := w.heap.size) (by simp) (((Ext.refl _).alloc _).trans E1)
      have B1_1 := blk_top (b := w.heap.size + 1) (by simp) E1
      have D0 := B0_1
      obtain ⟨b0z, ⟨b0_0, b0_1, b0_2, b0_3⟩, b0f0, b0f1, b0f2, b0f3⟩ := D0
      have D1 := B1_1
      obtain ⟨b1z, ⟨b1_0, b1_1, b1_2, b1_3⟩, b1f0, b1f1, b1f2, b1f3⟩ := D1
      go_wp2_with fail
      refine (c1 _).mono ?_
      rintro r w2 ⟨rfl, E2⟩
      have X2 : Ext w w2 := Ext.trans (by with_reducible repeat (first | assumption | exact Ext.refl _ | apply Ext.alloc | apply Ext.drewN | (refine Ext.setCell ?_ (by simp) _))) E2
      have B1_2 := (B1_1.far (c := w.heap.size) (by simp) _ _ _ _).ext E2
      go_wp2_with fail
      refine (c2 _).mono ?_
      rintro r w3 ⟨rfl, E3⟩
      have X3 : Ext w w3 := Ext.trans (by with_reducible repeat (first | assumption | exact Ext.refl _ | apply Ext.alloc | apply Ext.drewN | (refine Ext.setCell ?_ (by simp) _))) E3
      have B1_3 := B1_2.ext E3
      have D1 := B1_3
      obtain ⟨b1z, ⟨b1_0, b1_1, b1_2, b1_3⟩, b1f0, b1f1, b1f2, b1f3⟩ := D1
      go_wp2_with fail
      exact finB (B1_3.set _ _ _ _) rfl (by with_reducible repeat (first | assumption | exact Ext.refl _ | apply Ext.alloc | apply Ext.drewN | (refine Ext.setCell ?_ (by simp) _))) (fun g0 g1 g2 g3 => by simp [results, Tryz.results12, go_sem, g0, g1, g2, g3]) (fun h => ⟨by rw [H.out]; rfl, h⟩)
  | num n =>
    simp only [V.dat] at c0
    have c1 := fun W => rshow_any 2 n ⟨#[]⟩ 0 W ok.1
    rw [nm_num ok.2] at c1
    have hz := shown_size (V.num n) ok
    have c2 := fun W => rtext_any (V.num n).shown W
    rw [mkText_is hz] at c2
    simp only [V.dat] at c2
    have H : Hid ((V.num n).toText = .text (V.num n).shown) := rfl
    generalize (V.num n).shown = q at *
    clear hz ok
    go_enter Tryz.func12, Tryz.ntmps12
    go_wp2_with fail
    refine (c0 _).mono ?_
    rintro r w1 ⟨rfl, E1⟩
    have X1 : Ext w w1 := Ext.trans (by with_reducible repeat (first | assumption | exact Ext.refl _ | apply Ext.alloc | apply Ext.drewN | (refine Ext.setCell ?_ (by simp) _))) E1
    have B0_1 := blk_top (b := w.heap.size) (by simp) (((Ext.refl _).alloc _).trans E1)
    have B1_1 := blk_top (b := w.heap.size + 1) (by simp) E1
    have D0 := B0_1
    obtain ⟨b0z, ⟨b0_0, b0_1, b0_2, b0_3⟩, b0f0, b0f1, b0f2, b0f3⟩ := D0
    have D1 := B1_1
    obtain ⟨b1z, ⟨b1_0, b1_1, b1_2, b1_3⟩, b1f0, b1f1, b1f2, b1f3⟩ := D1
    go_wp2_with fail
    refine (c1 _).mono ?_
    rintro r w2 ⟨rfl, E2⟩
    have X2 : Ext w w2 := Ext.trans (by with_reducible repeat (first | assumption | exact Ext.refl _ | apply Ext.alloc | apply Ext.drewN | (refine Ext.setCell ?_ (by simp) _))) E2
    have B1_2 := (B1_1.far (c := w.heap.size) (by simp) _ _ _ _).ext E2
    go_wp2_with fail
    refine (c2 _).mono ?_
    rintro r w3 ⟨rfl, E3⟩
    have X3 : Ext w w3 := Ext.trans (by with_reducible repeat (first | assumption | exact Ext.refl _ | apply Ext.alloc | apply Ext.drewN | (refine Ext.setCell ?_ (by simp) _))) E3
    have B1_3 := B1_2.ext E3
    have D1 := B1_3
    obtain ⟨b1z, ⟨b1_0, b1_1, b1_2, b1_3⟩, b1f0, b1f1, b1f2, b1f3⟩ := D1
    go_wp2_with fail
    exact finB (B1_3.set _ _ _ _) rfl (by with_reducible repeat (first | assumption | exact Ext.refl _ | apply Ext.alloc | apply Ext.drewN | (refine Ext.setCell ?_ (by simp) _))) (fun g0 g1 g2 g3 => by simp [results, Tryz.results12, go_sem, g0, g1, g2, g3]) (fun h => ⟨by rw [H.out]; rfl, h⟩)
  | text s =>
    simp only [V.dat] at c0
    have c1 := fun W => rshow_any 3 0 s 0 W ⟨by decide, by decide⟩
    rw [nm_text ok] at c1
    have hz := shown_size (V.text s) ok
    have c2 := fun W => rtext_any (V.text s).shown W
    rw [mkText_is hz] at c2
    simp only [V.dat] at c2
    have H : Hid ((V.text s).toText = .text (V.text s).shown) := rfl
    generalize (V.text s).shown = q at *
    clear hz ok
    go_enter Tryz.func12, Tryz.ntmps12
    go_wp2_with fail
    refine (c0 _).mono ?_
    rintro r w1 ⟨rfl, E1⟩
    have X1 : Ext w w1 := Ext.trans (by with_reducible repeat (first | assumption | exact Ext.refl _ | apply Ext.alloc | apply Ext.drewN | (refine Ext.setCell ?_ (by simp) _))) E1
    have B0_1 := blk_top (b := w.heap.size) (by simp) (((Ext.refl _).alloc _).trans E1)
    have B1_1 := blk_top (b := w.heap.size + 1) (by simp) E1
    have D0 := B0_1
    obtain ⟨b0z, ⟨b0_0, b0_1, b0_2, b0_3⟩, b0f0, b0f1, b0f2, b0f3⟩ := D0
    have D1 := B1_1
    obtain ⟨b1z, ⟨b1_0, b1_1, b1_2, b1_3⟩, b1f0, b1f1, b1f2, b1f3⟩ := D1
    go_wp2_with fail
    refine (c1 _).mono ?_
    rintro r w2 ⟨rfl, E2⟩
    have X2 : Ext w w2 := Ext.trans (by with_reducible repeat (first | assumption | exact Ext.refl _ | apply Ext.alloc | apply Ext.drewN | (refine Ext.setCell ?_ (by simp) _))) E2
    have B1_2 := (B1_1.far (c := w.heap.size) (by simp) _ _ _ _).ext E2
    go_wp2_with fail
    refine (c2 _).mono ?_
    rintro r w3 ⟨rfl, E3⟩
    have X3 : Ext w w3 := Ext.trans (by with_reducible repeat (first | assumption | exact Ext.refl _ | apply Ext.alloc | apply Ext.drewN | (refine Ext.setCell ?_ (by simp) _))) E3
    have B1_3 := B1_2.ext E3
    have D1 := B1_3
    obtain ⟨b1z, ⟨b1_0, b1_1, b1_2, b1_3⟩, b1f0, b1f1, b1f2, b1f3⟩ := D1
    go_wp2_with fail
    exact finB (B1_3.set _ _ _ _) rfl (by with_reducible repeat (first | assumption | exact Ext.refl _ | apply Ext.alloc | apply Ext.drewN | (refine Ext.setCell ?_ (by simp) _))) (fun g0 g1 g2 g3 => by simp [results, Tryz.results12, go_sem, g0, g1, g2, g3]) (fun h => ⟨by rw [H.out]; rfl, h⟩)
  | err e =>
    simp only [V.dat] at c0
    clear ok
    go_enter Tryz.func12, Tryz.ntmps12
    go_wp2_with fail
    refine (c0 _).mono ?_
    rintro r w1 ⟨rfl, E1⟩
    have X1 : Ext w w1 := Ext.trans (by with_reducible repeat (first | assumption | exact Ext.refl _ | apply Ext.alloc | apply Ext.drewN | (refine Ext.setCell ?_ (by simp) _))) E1
    have B0_1 := blk_top (b := w.heap.size) (by simp) (((Ext.refl _).alloc _).trans E1)
    have B1_1 := blk_top (b := w.heap.size + 1) (by simp) E1
    have D0 := B0_1
    obtain ⟨b0z, ⟨b0_0, b0_1, b0_2, b0_3⟩, b0f0, b0f1, b0f2, b0f3⟩ := D0
    have D1 := B1_1
    obtain ⟨b1z, ⟨b1_0, b1_1, b1_2, b1_3⟩, b1f0, b1f1, b1f2, b1f3⟩ := D1
    go_wp2_with fail
    exact finB ((B1_1.far (c := w.heap.size) (by simp) _ _ _ _).set _ _ _ _) rfl (by with_reducible repeat (first | assumption | exact Ext.refl _ | apply Ext.alloc | apply Ext.drewN | (refine Ext.setCell ?_ (by simp) _))) (fun g0 g1 g2 g3 => by simp [results, Tryz.results12, go_sem, g0, g1, g2, g3]) (fun h => ⟨rfl, h⟩)
theorem rtobool_any (k n : Int) (s : ByteArray) (e : Int) (w : World) (hn : I64 n) :
    Calls Tryz.prog 14 #[.agg #[.int .i64 k, .int .i64 n, .string s, .int .i64 e]] w fun r w' => r = .returned ((nm k n s e).toBool.dat) ∧ Ext w w' := by
  have c0 := fun W => rnormal_any k n s e W
  have ok := nm_ok k n s e hn
  clear hn
  generalize nm k n s e = v at c0 ok ⊢
  cases v with
  | blank =>
    simp only [V.dat] at c0
    have c1 := fun W => rbool_any false W
    simp only [V.dat, Bool.false_eq_true, if_false] at c1
    clear ok
    go_enter Tryz.func14, Tryz.ntmps14
    go_wp2_with fail
    refine (c0 _).mono ?_
    rintro r w1 ⟨rfl, E1⟩
    have X1 : Ext w w1 := Ext.trans (by with_reducible repeat (first | assumption | exact Ext.refl _ | apply Ext.alloc | apply Ext.drewN | (refine Ext.setCell ?_ (by simp) _))) E1
    have B0_1 := blk_top (b := w.heap.size) (by simp) (((Ext.refl _).alloc _).trans E1)
    have B1_1 := blk_top (b := w.heap.size + 1) (by simp) E1
    have D0 := B0_1
    obtain ⟨b0z, ⟨b0_0, b0_1, b0_2, b0_3⟩, b0f0, b0f1, b0f2, b0f3⟩ := D0
    have D1 := B1_1
    obtain ⟨b1z, ⟨b1_0, b1_1, b1_2, b1_3⟩, b1f0, b1f1, b1f2, b1f3⟩ := D1
    go_wp2_with fail
    refine (c1 _).mono ?_
    rintro r w2 ⟨rfl, E2⟩
    have X2 : Ext w w2 := Ext.trans (by with_reducible repeat (first | assumption | exact Ext.refl _ | apply Ext.alloc | apply Ext.drewN | (refine Ext.setCell ?_ (by simp) _))) E2
    have B1_2 := (B1_1.far (c := w.heap.size) (by simp) _ _ _ _).ext E2
    have D1 := B1_2
    obtain ⟨b1z, ⟨b1_0, b1_1, b1_2, b1_3⟩, b1f0, b1f1, b1f2, b1f3⟩ := D1
    go_wp2_with fail
    exact finB (B1_2.set _ _ _ _) rfl (by with_reducible repeat (first | assumption | exact Ext.refl _ | apply Ext.alloc | apply Ext.drewN | (refine Ext.setCell ?_ (by simp) _))) (fun g0 g1 g2 g3 => by simp [results, Tryz.results14, go_sem, g0, g1, g2, g3]) (fun h => ⟨rfl, h⟩)
  | tf b =>
    simp only [V.dat] at c0
    clear ok
    have H : Hid ((V.tf b).toBool.dat = .agg #[.int .i64 1, .int .i64 (if b = true then 1 else 0), .string ⟨#[]⟩, .int .i64 0]) := rfl
    generalize (if b = true then (1 : Int) else 0) = m at *
    go_enter Tryz.func14, Tryz.ntmps14
    go_wp2_with fail
    refine (c0 _).mono ?_
    rintro r w1 ⟨rfl, E1⟩
    have X1 : Ext w w1 := Ext.trans (by with_reducible repeat (first | assumption | exact Ext.refl _ | apply Ext.alloc | apply Ext.drewN | (refine Ext.setCell ?_ (by simp) _))) E1
    have B0_1 := blk_top (b := w.heap.size) (by simp) (((Ext.refl _).alloc _).trans E1)
    have B1_1 := blk_top (b := w.heap.size + 1) (by simp) E1
    have D0 := B0_1
    obtain ⟨b0z, ⟨b0_0, b0_1, b0_2, b0_3⟩, b0f0, b0f1, b0f2, b0f3⟩ := D0
    have D1 := B1_1
    obtain ⟨b1z, ⟨b1_0, b1_1, b1_2, b1_3⟩, b1f0, b1f1, b1f2, b1f3⟩ := D1
    go_wp2_with fail
    exact finB ((B1_1.far (c := w.heap.size) (by simp) _ _ _ _).set _ _ _ _) rfl (by with_reducible repeat (first | assumption | exact Ext.refl _ | apply Ext.alloc | apply Ext.drewN | (refine Ext.setCell ?_ (by simp) _))) (fun g0 g1 g2 g3 => by simp [results, Tryz.results14, go_sem, g0, g1, g2, g3]) (fun h => ⟨by rw [H.out], h⟩)
  | num n =>
    simp only [V.dat] at c0
    obtain ⟨q0, q1, q2, q3, hq⟩ := dat4 (V.tf (n != 0))
    have c1 := fun W => rbool_any (n != 0) W
    rw [hq] at c1
    have H : Hid ((V.num n).toBool.dat = .agg #[.int .i64 q0, .int .i64 q1, .string q2, .int .i64 q3]) := hq
    clear hq ok
    go_enter Tryz.func14, Tryz.ntmps14
    go_wp2_with fail
    refine (c0 _).mono ?_
    rintro r w1 ⟨rfl, E1⟩
    have X1 : Ext w w1 := Ext.trans (by with_reducible repeat (first | assumption | exact Ext.refl _ | apply Ext.alloc | apply Ext.drewN | (refine Ext.setCell ?_ (by simp) _))) E1
    have B0_1 := blk_top (b := w.heap.size) (by simp) (((Ext.refl _).alloc _).trans E1)
    have B1_1 := blk_top (b := w.heap.size + 1) (by simp) E1
    have D0 := B0_1
    obtain ⟨b0z, ⟨b0_0, b0_1, b0_2, b0_3⟩, b0f0, b0f1, b0f2, b0f3⟩ := D0
    have D1 := B1_1
    obtain ⟨b1z, ⟨b1_0, b1_1, b1_2, b1_3⟩, b1f0, b1f1, b1f2, b1f3⟩ := D1
    go_wp2_with fail
    refine (c1 _).mono ?_
    rintro r w2 ⟨rfl, E2⟩
    have X2 : Ext w w2 := Ext.trans (by with_reducible repeat (first | assumption | exact Ext.refl _ | apply Ext.alloc | apply Ext.drewN | (refine Ext.setCell ?_ (by simp) _))) E2
    have B1_2 := (B1_1.far (c := w.heap.size) (by simp) _ _ _ _).ext E2
    have D1 := B1_2
    obtain ⟨b1z, ⟨b1_0, b1_1, b1_2, b1_3⟩, b1f0, b1f1, b1f2, b1f3⟩ := D1
    go_wp2_with fail
    exact finB (B1_2.set _ _ _ _) rfl (by with_reducible repeat (first | assumption | exact Ext.refl _ | apply Ext.alloc | apply Ext.drewN | (refine Ext.setCell ?_ (by simp) _))) (fun g0 g1 g2 g3 => by simp [results, Tryz.results14, go_sem, g0, g1, g2, g3]) (fun h => ⟨by rw [H.out], h⟩)
  | text s =>
    simp only [V.dat] at c0
    by_cases h : s.data.toList = trueL
    · have H : Hid ((V.text s).toBool = .tf true) := by show _ = _; unfold V.toBool; exact if_pos h
      have h1 : (s.toList != [84, 82, 85, 69]) = false := by rw [ByteArray.toList_eq, h]; decide
      have h2 : (s.toList == [84, 82, 85, 69]) = true := by rw [ByteArray.toList_eq, h]; decide
      have c1 := fun W => rbool_any true W
      simp only [V.dat, if_true] at c1
      clear ok h
      go_enter Tryz.func14, Tryz.ntmps14
      go_wp2_with fail
      refine (c0 _).mono ?_
      rintro r w1 ⟨rfl, E1⟩
      have X1 : Ext w w1 := Ext.trans (by with_reducible repeat (first | assumption | exact Ext.refl _ | apply Ext.alloc | apply Ext.drewN | (refine Ext.setCell ?_ (by simp) _))) E1
      have B0_1 := blk_top (b := w.heap.size) (by simp) (((Ext.refl _).alloc _).trans E1)
      have B1_1 := blk_top (b := w.heap.size + 1) (by simp) E1
      have D0 := B0_1
      obtain ⟨b0z, ⟨b0_0, b0_1, b0_2, b0_3⟩, b0f0, b0f1, b0f2, b0f3⟩ := D0
      have D1 := B1_1
      obtain ⟨b1z, ⟨b1_0, b1_1, b1_2, b1_3⟩, b1f0, b1f1, b1f2, b1f3⟩ := D1
      go_wp2_with fail
      refine (c1 _).mono ?_
      rintro r w2 ⟨rfl, E2⟩
      have X2 : Ext w w2 := Ext.trans (by with_reducible repeat (first | assumption | exact Ext.refl _ | apply Ext.alloc | apply Ext.drewN | (refine Ext.setCell ?_ (by simp) _))) E2
      have B1_2 := (B1_1.far (c := w.heap.size) (by simp) _ _ _ _).ext E2
      have D1 := B1_2
      obtain ⟨b1z, ⟨b1_0, b1_1, b1_2, b1_3⟩, b1f0, b1f1, b1f2, b1f3⟩ := D1
      go_wp2_with fail
      exact finB (B1_2.set _ _ _ _) rfl (by with_reducible repeat (first | assumption | exact Ext.refl _ | apply Ext.alloc | apply Ext.drewN | (refine Ext.setCell ?_ (by simp) _))) (fun g0 g1 g2 g3 => by simp [results, Tryz.results14, go_sem, g0, g1, g2, g3]) (fun h => ⟨by rw [H.out]; rfl, h⟩)
    · by_cases g : s.data.toList = falseL
      · have H : Hid ((V.text s).toBool = .tf false) := by show _ = _; unfold V.toBool; exact (if_neg h).trans (if_pos g)
        have h1 : (s.toList != [84, 82, 85, 69]) = true := by rw [ByteArray.toList_eq]; simpa [trueL] using h
        have h2 : (s.toList == [84, 82, 85, 69]) = false := by rw [ByteArray.toList_eq]; simpa [trueL] using h
        have h3 : (s.toList != [70, 65, 76, 83, 69]) = false := by rw [ByteArray.toList_eq, g]; decide
        have h4 : (s.toList == [70, 65, 76, 83, 69]) = true := by rw [ByteArray.toList_eq, g]; decide
        have c1 := fun W => rbool_any false W
        simp only [V.dat, Bool.false_eq_true, if_false] at c1
        clear ok h g
        go_enter Tryz.func14, Tryz.ntmps14
        go_wp2_with fail
        refine (c0 _).mono ?_
        rintro r w1 ⟨rfl, E1⟩
        have X1 : Ext w w1 := Ext.trans (by with_reducible repeat (first | assumption | exact Ext.refl _ | apply Ext.alloc | apply Ext.drewN | (refine Ext.setCell ?_ (by simp) _))) E1
        have B0_1 := blk_top (b := w.heap.size) (by simp) (((Ext.refl _).alloc _).trans E1)
        have B1_1 := blk_top (b := w.heap.size + 1) (by simp) E1
        have D0 := B0_1
        obtain ⟨b0z, ⟨b0_0, b0_1, b0_2, b0_3⟩, b0f0, b0f1, b0f2, b0f3⟩ := D0
        have D1 := B1_1
        obtain ⟨b1z, ⟨b1_0, b1_1, b1_2, b1_3⟩, b1f0, b1f1, b1f2, b1f3⟩ := D1
        go_wp2_with fail
        refine (c1 _).mono ?_
        rintro r w2 ⟨rfl, E2⟩
        have X2 : Ext w w2 := Ext.trans (by with_reducible repeat (first | assumption | exact Ext.refl _ | apply Ext.alloc | apply Ext.drewN | (refine Ext.setCell ?_ (by simp) _))) E2
        have B1_2 := (B1_1.far (c := w.heap.size) (by simp) _ _ _ _).ext E2
        have D1 := B1_2
        obtain ⟨b1z, ⟨b1_0, b1_1, b1_2, b1_3⟩, b1f0, b1f1, b1f2, b1f3⟩ := D1
        go_wp2_with fail
        exact finB (B1_2.set _ _ _ _) rfl (by with_reducible repeat (first | assumption | exact Ext.refl _ | apply Ext.alloc | apply Ext.drewN | (refine Ext.setCell ?_ (by simp) _))) (fun g0 g1 g2 g3 => by simp [results, Tryz.results14, go_sem, g0, g1, g2, g3]) (fun h => ⟨by rw [H.out]; rfl, h⟩)
      · have H : Hid ((V.text s).toBool = .err 2) := by show _ = _; unfold V.toBool; exact (if_neg h).trans (if_neg g)
        have h1 : (s.toList != [84, 82, 85, 69]) = true := by rw [ByteArray.toList_eq]; simpa [trueL] using h
        have h2 : (s.toList == [84, 82, 85, 69]) = false := by rw [ByteArray.toList_eq]; simpa [trueL] using h
        have h3 : (s.toList != [70, 65, 76, 83, 69]) = true := by rw [ByteArray.toList_eq]; simpa [falseL] using g
        have h4 : (s.toList == [70, 65, 76, 83, 69]) = false := by rw [ByteArray.toList_eq]; simpa [falseL] using g
        have c2 := fun W => rerr_any 2 W
        rw [mkErr_is ⟨by decide, by decide⟩] at c2
        simp only [V.dat] at c2
        clear ok h g
        go_enter Tryz.func14, Tryz.ntmps14
        go_wp2_with fail
        refine (c0 _).mono ?_
        rintro r w1 ⟨rfl, E1⟩
        have X1 : Ext w w1 := Ext.trans (by with_reducible repeat (first | assumption | exact Ext.refl _ | apply Ext.alloc | apply Ext.drewN | (refine Ext.setCell ?_ (by simp) _))) E1
        have B0_1 := blk_top (b := w.heap.size) (by simp) (((Ext.refl _).alloc _).trans E1)
        have B1_1 := blk_top (b := w.heap.size + 1) (by simp) E1
        have D0 := B0_1
        obtain ⟨b0z, ⟨b0_0, b0_1, b0_2, b0_3⟩, b0f0, b0f1, b0f2, b0f3⟩ := D0
        have D1 := B1_1
        obtain ⟨b1z, ⟨b1_0, b1_1, b1_2, b1_3⟩, b1f0, b1f1, b1f2, b1f3⟩ := D1
        go_wp2_with fail
        refine (c2 _).mono ?_
        rintro r w2 ⟨rfl, E2⟩
        have X2 : Ext w w2 := Ext.trans (by with_reducible repeat (first | assumption | exact Ext.refl _ | apply Ext.alloc | apply Ext.drewN | (refine Ext.setCell ?_ (by simp) _))) E2
        have B1_2 := (B1_1.far (c := w.heap.size) (by simp) _ _ _ _).ext E2
        have D1 := B1_2
        obtain ⟨b1z, ⟨b1_0, b1_1, b1_2, b1_3⟩, b1f0, b1f1, b1f2, b1f3⟩ := D1
        go_wp2_with fail
        exact finB (B1_2.set _ _ _ _) rfl (by with_reducible repeat (first | assumption | exact Ext.refl _ | apply Ext.alloc | apply Ext.drewN | (refine Ext.setCell ?_ (by simp) _))) (fun g0 g1 g2 g3 => by simp [results, Tryz.results14, go_sem, g0, g1, g2, g3]) (fun h => ⟨by rw [H.out]; rfl, h⟩)
  | err e =>
    simp only [V.dat] at c0
    clear ok
    go_enter Tryz.func14, Tryz.ntmps14
    go_wp2_with fail
    refine (c0 _).mono ?_
    rintro r w1 ⟨rfl, E1⟩
    have X1 : Ext w w1 := Ext.trans (by with_reducible repeat (first | assumption | exact Ext.refl _ | apply Ext.alloc | apply Ext.drewN | (refine Ext.setCell ?_ (by simp) _))) E1
    have B0_1 := blk_top (b := w.heap.size) (by simp) (((Ext.refl _).alloc _).trans E1)
    have B1_1 := blk_top (b := w.heap.size + 1) (by simp) E1
    have D0 := B0_1
    obtain ⟨b0z, ⟨b0_0, b0_1, b0_2, b0_3⟩, b0f0, b0f1, b0f2, b0f3⟩ := D0
    have D1 := B1_1
    obtain ⟨b1z, ⟨b1_0, b1_1, b1_2, b1_3⟩, b1f0, b1f1, b1f2, b1f3⟩ := D1
    go_wp2_with fail
    exact finB ((B1_1.far (c := w.heap.size) (by simp) _ _ _ _).set _ _ _ _) rfl (by with_reducible repeat (first | assumption | exact Ext.refl _ | apply Ext.alloc | apply Ext.drewN | (refine Ext.setCell ?_ (by simp) _))) (fun g0 g1 g2 g3 => by simp [results, Tryz.results14, go_sem, g0, g1, g2, g3]) (fun h => ⟨rfl, h⟩)
theorem rneg_any (k n : Int) (s : ByteArray) (e : Int) (w : World) (hn : I64 n) :
    Calls Tryz.prog 16 #[.agg #[.int .i64 k, .int .i64 n, .string s, .int .i64 e]] w fun r w' => r = .returned (nm k n s e).neg.dat ∧ Ext w w' := by
  have c0 := fun W => rtonum_any k n s e W hn
  have ok := toNum_cases (nm k n s e) (nm_ok k n s e hn)
  clear hn
  unfold V.neg
  generalize (nm k n s e).toNum = v at c0 ok ⊢
  rcases ok with ⟨m, rfl, im, cm⟩ | ⟨x, rfl, _⟩
  · simp only [V.dat] at c0
    obtain ⟨i1, i2⟩ := im
    have i3 : m ≠ -9223372036854775808 := by simpa [canB] using cm
    have i4 : -9223372036854775808 < m := by omega
    have hw : IntKind.i64.wrap (-m) = -m := by rw [IntKind.wrap_i64]; omega
    clear cm i1 i3
    go_enter Tryz.func16, Tryz.ntmps16
    go_wp2_with fail
    refine (c0 _).mono ?_
    rintro r w1 ⟨rfl, E1⟩
    have B0_1 := blk_top (b := w.heap.size) (by simp) (((Ext.refl _).alloc _).trans E1)
    have B1_1 := blk_top (b := w.heap.size + 1) (by simp) E1
    have D0 := B0_1
    obtain ⟨b0z, ⟨b0_0, b0_1, b0_2, b0_3⟩, b0f0, b0f1, b0f2, b0f3⟩ := D0
    have X1 : Ext w w1 := Ext.trans (((Ext.refl _).alloc _).alloc _) E1
    go_upto_region 2 with fail
    obtain ⟨W2, hW2⟩ : ∃ W2, W2 = ((((w1.setCell ⟨w.heap.size, 0, none⟩ (.int .i64 2)).setCell ⟨w.heap.size, 1, none⟩ (.int .i64 m)).setCell ⟨w.heap.size, 2, none⟩ (.string ⟨#[]⟩)).setCell ⟨w.heap.size, 3, none⟩ (.int .i64 0)) := ⟨_, rfl⟩
    rw [← hW2]
    have A : Blk W2 w.heap.size (.int .i64 2) (.int .i64 m) (.string ⟨#[]⟩) (.int .i64 0) := by rw [hW2]; exact B0_1.set _ _ _ _
    have R : Blk W2 (w.heap.size + 1) (.int .i64 0) (.int .i64 0) (.string ⟨#[]⟩) (.int .i64 0) := by rw [hW2]; exact B1_1.far (by omega) _ _ _ _
    have X2 : Ext w W2 := by rw [hW2]; ((with_reducible (repeat' (first | assumption | exact Ext.refl _ | apply Ext.alloc | apply Ext.drew | apply Ext.drewN | apply Ext.setCell))); all_goals (first | omega | (simp; done) | (simp; omega)))
    clear hW2 B0_1 B1_1 E1 X1 b0z b0_0 b0_1 b0_2 b0_3 b0f0 b0f1 b0f2 b0f3 c0
    have A' := A
    obtain ⟨az, ⟨a0, a1, a2, a3⟩, af0, af1, af2, af3⟩ := A'
    go_upto_region 4 with fail
    obtain ⟨W3, hW3⟩ : ∃ W3, W3 = W2.setCell ⟨w.heap.size, 1, none⟩ (.int .i64 (-m)) := ⟨_, rfl⟩
    rw [← hW3]
    have A3 : Blk W3 w.heap.size (.int .i64 2) (.int .i64 (-m)) (.string ⟨#[]⟩) (.int .i64 0) := by rw [hW3]; exact A.put1 _
    have R3 : Blk W3 (w.heap.size + 1) (.int .i64 0) (.int .i64 0) (.string ⟨#[]⟩) (.int .i64 0) := by rw [hW3]; exact R.far1 (by omega) 1 _
    have X3 : Ext w W3 := by rw [hW3]; exact X2.setCell (Nat.le_refl _) _
    clear hW3 A R X2 az a0 a1 a2 a3 af0 af1 af2 af3
    have R' := R3
    obtain ⟨az, ⟨a0, a1, a2, a3⟩, af0, af1, af2, af3⟩ := A3
    obtain ⟨rz, ⟨r0, r1, r2, r3⟩, rf0, rf1, rf2, rf3⟩ := R'
    go_wp2_with fail
    apply finB (b := w.heap.size + 1) (w := w)
    case B => ((with_reducible (repeat' (first | assumption | apply Blk.set | apply Blk.far | apply Blk.far1 | apply Blk.al | apply Blk.dr))); all_goals omega)
    case hd => rfl
    case E => ((with_reducible (repeat' (first | assumption | exact Ext.refl _ | apply Ext.alloc | apply Ext.drew | apply Ext.drewN | apply Ext.setCell))); all_goals (first | omega | (simp; done) | (simp; omega)))
    case hr => intro g0 g1 g2 g3; simp [results, Tryz.results16, go_sem, g0, g1, g2, g3]
    case hQ => exact fun h => ⟨rfl, h⟩
  · simp only [V.dat] at c0
    go_enter Tryz.func16, Tryz.ntmps16
    go_wp2_with fail
    refine (c0 _).mono ?_
    rintro r w1 ⟨rfl, E1⟩
    have X1 : Ext w w1 := Ext.trans (by with_reducible repeat (first | assumption | exact Ext.refl _ | apply Ext.alloc | apply Ext.drewN | (refine Ext.setCell ?_ (by simp) _))) E1
    have B0_1 := blk_top (b := w.heap.size) (by simp) (((Ext.refl _).alloc _).trans E1)
    have B1_1 := blk_top (b := w.heap.size + 1) (by simp) E1
    have D0 := B0_1
    obtain ⟨b0z, ⟨b0_0, b0_1, b0_2, b0_3⟩, b0f0, b0f1, b0f2, b0f3⟩ := D0
    have D1 := B1_1
    obtain ⟨b1z, ⟨b1_0, b1_1, b1_2, b1_3⟩, b1f0, b1f1, b1f2, b1f3⟩ := D1
    go_wp2_with fail
    exact finB ((B1_1.far (c := w.heap.size) (by simp) _ _ _ _).set _ _ _ _) rfl (by with_reducible repeat (first | assumption | exact Ext.refl _ | apply Ext.alloc | apply Ext.drewN | (refine Ext.setCell ?_ (by simp) _))) (fun g0 g1 g2 g3 => by simp [results, Tryz.results16, go_sem, g0, g1, g2, g3]) (fun h => ⟨rfl, h⟩)
end Go.Proofs.YtlfkiepnahgbeaaGreatDoor
