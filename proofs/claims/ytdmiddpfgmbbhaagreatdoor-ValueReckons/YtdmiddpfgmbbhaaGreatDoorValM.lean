/-
  The contracts of the document's Show, ToNum, ToText, ToBool, Neg.
-/
import Derived.Test.YtdmiddpfgmbbhaaGreatDoorValK
import Derived.Test.YtdmiddpfgmbbhaaGreatDoorDecF
import Derived.Deep.DeepCutAuto
namespace Go.Proofs.YtdmiddpfgmbbhaaGreatDoor
open Go.RowKit
set_option maxHeartbeats 1000000

theorem Blk.put1 {w : World} {b : Nat} {x0 x1 x2 x3 : Value} (h : Blk w b x0 x1 x2 x3) (v : Value) : Blk (w.setCell ⟨b, 1, none⟩ v) b x0 v x2 x3 := by
  obtain ⟨z, ⟨k0, k1, k2, k3⟩, f0, f1, f2, f3⟩ := h
  refine ⟨by simpa [World.setCell] using z, ⟨?_, World.cell?_setCell_same _ ⟨b, 1, none⟩ _ (by rw [k1]), ?_, ?_⟩, ?_, ?_, ?_, ?_⟩
  · rw [World.cell?_setCell_other _ _ _ _ (by simp)]; exact k0
  · rw [World.cell?_setCell_other _ _ _ _ (by simp)]; exact k2
  · rw [World.cell?_setCell_other _ _ _ _ (by simp)]; exact k3
  · rw [World.frozen?_setCell]; exact f0
  · rw [World.frozen?_setCell]; exact f1
  · rw [World.frozen?_setCell]; exact f2
  · rw [World.frozen?_setCell]; exact f3
theorem rshow_any (k n : Int) (s : ByteArray) (e : Int) (w : World) (hn : I64 n) :
    Calls Tryz.prog 47 #[.agg #[.int .i64 k, .int .i64 n, .string s, .int .i64 e]] w fun r w' => r = .returned (.string (nm k n s e).shown) ∧ Ext w w' := by
  have c0 := fun W => rnormal_any k n s e W
  have ok := nm_ok k n s e hn
  clear hn
  generalize nm k n s e = v at c0 ok ⊢
  cases v with
  | blank =>
    simp only [V.dat] at c0
    clear ok
    go_enter Tryz.func47, Tryz.ntmps47
    go_wp2_with fail
    refine (c0 _).mono ?_
    rintro r w1 ⟨rfl, E1⟩
    have X1 : Ext w w1 := Ext.trans (by with_reducible repeat (first | assumption | exact Ext.refl _ | apply Ext.alloc | apply Ext.drewN | (refine Ext.setCell ?_ (by simp) _))) E1
    have B0_1 := blk_top (b := w.heap.size) (by simp) E1
    have D0 := B0_1
    obtain ⟨b0z, ⟨b0_0, b0_1, b0_2, b0_3⟩, b0f0, b0f1, b0f2, b0f3⟩ := D0
    go_wp2_with fail
    go_ret
    exact ⟨rfl, (by with_reducible repeat (first | assumption | exact Ext.refl _ | apply Ext.alloc | apply Ext.drewN | (refine Ext.setCell ?_ (by simp) _)))⟩
  | tf b =>
    simp only [V.dat] at c0
    cases b with
    | false =>
      simp only [Bool.false_eq_true, if_false] at c0
      clear ok
      go_enter Tryz.func47, Tryz.ntmps47
      go_wp2_with fail
      refine (c0 _).mono ?_
      rintro r w1 ⟨rfl, E1⟩
      have X1 : Ext w w1 := Ext.trans (by with_reducible repeat (first | assumption | exact Ext.refl _ | apply Ext.alloc | apply Ext.drewN | (refine Ext.setCell ?_ (by simp) _))) E1
      have B0_1 := blk_top (b := w.heap.size) (by simp) E1
      have D0 := B0_1
      obtain ⟨b0z, ⟨b0_0, b0_1, b0_2, b0_3⟩, b0f0, b0f1, b0f2, b0f3⟩ := D0
      go_wp2_with fail
      go_ret
      exact ⟨rfl, (by with_reducible repeat (first | assumption | exact Ext.refl _ | apply Ext.alloc | apply Ext.drewN | (refine Ext.setCell ?_ (by simp) _)))⟩
    | true =>
      simp only [if_true] at c0
      clear ok
      go_enter Tryz.func47, Tryz.ntmps47
      go_wp2_with fail
      refine (c0 _).mono ?_
      rintro r w1 ⟨rfl, E1⟩
      have X1 : Ext w w1 := Ext.trans (by with_reducible repeat (first | assumption | exact Ext.refl _ | apply Ext.alloc | apply Ext.drewN | (refine Ext.setCell ?_ (by simp) _))) E1
      have B0_1 := blk_top (b := w.heap.size) (by simp) E1
      have D0 := B0_1
      obtain ⟨b0z, ⟨b0_0, b0_1, b0_2, b0_3⟩, b0f0, b0f1, b0f2, b0f3⟩ := D0
      go_wp2_with fail
      go_ret
      exact ⟨rfl, (by with_reducible repeat (first | assumption | exact Ext.refl _ | apply Ext.alloc | apply Ext.drewN | (refine Ext.setCell ?_ (by simp) _)))⟩
  | num n =>
    simp only [V.dat] at c0
    have c1 := fun W => rprint_any n ok.1 W
    have H : Hid ((V.num n).shown = ⟨(printL n).toArray⟩) := rfl
    generalize (⟨(printL n).toArray⟩ : ByteArray) = q at *
    clear ok
    go_enter Tryz.func47, Tryz.ntmps47
    go_wp2_with fail
    refine (c0 _).mono ?_
    rintro r w1 ⟨rfl, E1⟩
    have X1 : Ext w w1 := Ext.trans (by with_reducible repeat (first | assumption | exact Ext.refl _ | apply Ext.alloc | apply Ext.drewN | (refine Ext.setCell ?_ (by simp) _))) E1
    have B0_1 := blk_top (b := w.heap.size) (by simp) E1
    have D0 := B0_1
    obtain ⟨b0z, ⟨b0_0, b0_1, b0_2, b0_3⟩, b0f0, b0f1, b0f2, b0f3⟩ := D0
    go_wp2_with fail
    refine (c1 _).mono ?_
    rintro r w2 ⟨rfl, E2⟩
    have X2 : Ext w w2 := Ext.trans (by with_reducible repeat (first | assumption | exact Ext.refl _ | apply Ext.alloc | apply Ext.drewN | (refine Ext.setCell ?_ (by simp) _))) E2
    go_wp2_with fail
    go_ret
    exact ⟨by rw [H.out]; rfl, (by with_reducible repeat (first | assumption | exact Ext.refl _ | apply Ext.alloc | apply Ext.drewN | (refine Ext.setCell ?_ (by simp) _)))⟩
  | text s =>
    simp only [V.dat] at c0
    clear ok
    go_enter Tryz.func47, Tryz.ntmps47
    go_wp2_with fail
    refine (c0 _).mono ?_
    rintro r w1 ⟨rfl, E1⟩
    have X1 : Ext w w1 := Ext.trans (by with_reducible repeat (first | assumption | exact Ext.refl _ | apply Ext.alloc | apply Ext.drewN | (refine Ext.setCell ?_ (by simp) _))) E1
    have B0_1 := blk_top (b := w.heap.size) (by simp) E1
    have D0 := B0_1
    obtain ⟨b0z, ⟨b0_0, b0_1, b0_2, b0_3⟩, b0f0, b0f1, b0f2, b0f3⟩ := D0
    go_wp2_with fail
    go_ret
    exact ⟨rfl, (by with_reducible repeat (first | assumption | exact Ext.refl _ | apply Ext.alloc | apply Ext.drewN | (refine Ext.setCell ?_ (by simp) _)))⟩
  | err e =>
    simp only [V.dat] at c0
    have c1 := fun W => rerrname_any e W
    have H : Hid ((V.err e).shown = bs (errName e)) := rfl
    generalize bs (errName e) = q at *
    clear ok
    go_enter Tryz.func47, Tryz.ntmps47
    go_wp2_with fail
    refine (c0 _).mono ?_
    rintro r w1 ⟨rfl, E1⟩
    have X1 : Ext w w1 := Ext.trans (by with_reducible repeat (first | assumption | exact Ext.refl _ | apply Ext.alloc | apply Ext.drewN | (refine Ext.setCell ?_ (by simp) _))) E1
    have B0_1 := blk_top (b := w.heap.size) (by simp) E1
    have D0 := B0_1
    obtain ⟨b0z, ⟨b0_0, b0_1, b0_2, b0_3⟩, b0f0, b0f1, b0f2, b0f3⟩ := D0
    go_wp2_with fail
    refine (c1 _).mono ?_
    rintro r w2 ⟨rfl, rfl⟩
    go_wp2_with fail
    go_ret
    exact ⟨by rw [H.out]; rfl, (by with_reducible repeat (first | assumption | exact Ext.refl _ | apply Ext.alloc | apply Ext.drewN | (refine Ext.setCell ?_ (by simp) _)))⟩
theorem redK_cases (s : ByteArray) : (numK s = true ∧ redR s = readV s) ∨ (numK s = false ∧ readV s = .err 2) := by
  unfold numK redR readV
  rcases rdK_cases s.data.toList with h | h | h <;> rw [h]
  · exact .inr ⟨rfl, rfl⟩
  · exact .inl ⟨rfl, rfl⟩
  · exact .inl ⟨rfl, rfl⟩
theorem rtonum_any (k n : Int) (s : ByteArray) (e : Int) (w : World) (hn : I64 n) :
    Calls Tryz.prog 16 #[.agg #[.int .i64 k, .int .i64 n, .string s, .int .i64 e]] w fun r w' => r = .returned ((nm k n s e).toNum.dat) ∧ Ext w w' := by
  have c0 := fun W => rnormal_any k n s e W
  have ok := nm_ok k n s e hn
  clear hn
  generalize nm k n s e = v at c0 ok ⊢
  cases v with
  | blank =>
    simp only [V.dat] at c0
    have c1 := fun W => rnum_any 0 W
    rw [mkNum_is (by decide)] at c1
    simp only [V.dat] at c1
    clear ok
    go_enter Tryz.func16, Tryz.ntmps16
    go_wp2_with fail
    refine (c0 _).mono ?_
    rintro r w1 ⟨rfl, E1⟩
    have X1 : Ext w w1 := Ext.trans (by with_reducible repeat (first | assumption | exact Ext.refl _ | apply Ext.alloc | apply Ext.drewN | (refine Ext.setCell ?_ (by simp) _))) E1
    have B0_1 := blk_top (b := w.heap.size) (by simp) (((Ext.refl _).alloc _).trans E1)
    have B1_1 := blk_top (b := w.heap.size + 1) (by simp) E1
    have D0 := B0_1
    obtain ⟨b0z, ⟨b0_0, b0_1, b0_2, b0_3⟩, b0f0, b0f1, b0f2, b0f3⟩ := D0
    have D1 := B1_1
    obtain ⟨b1z, ⟨b1_0, b1_1, b1_2, b1_3⟩, b1f0, b1f1, b1f2, b1f3⟩ := D1
    go_wp2_with fail
    refine (c1 _).mono ?_
    rintro r w2 ⟨rfl, E2⟩
    have X2 : Ext w w2 := Ext.trans (by with_reducible repeat (first | assumption | exact Ext.refl _ | apply Ext.alloc | apply Ext.drewN | (refine Ext.setCell ?_ (by simp) _))) E2
    have B1_2 := (B1_1.far (c := w.heap.size) (by simp) _ _ _ _).ext E2
    have D1 := B1_2
    obtain ⟨b1z, ⟨b1_0, b1_1, b1_2, b1_3⟩, b1f0, b1f1, b1f2, b1f3⟩ := D1
    go_wp2_with fail
    exact finB (B1_2.set _ _ _ _) rfl (by with_reducible repeat (first | assumption | exact Ext.refl _ | apply Ext.alloc | apply Ext.drewN | (refine Ext.setCell ?_ (by simp) _))) (fun g0 g1 g2 g3 => by simp [results, Tryz.results16, go_sem, g0, g1, g2, g3]) (fun h => ⟨rfl, h⟩)
  | tf b =>
    simp only [V.dat] at c0
    cases b with
    | false =>
      simp only [Bool.false_eq_true, if_false] at c0
      have c1 := fun W => rnum_any 0 W
      rw [mkNum_is (by decide)] at c1
      simp only [V.dat] at c1
      clear ok
      go_enter Tryz.func16, Tryz.ntmps16
      go_wp2_with fail
      refine (c0 _).mono ?_
      rintro r w1 ⟨rfl, E1⟩
      have X1 : Ext w w1 := Ext.trans (by with_reducible repeat (first | assumption | exact Ext.refl _ | apply Ext.alloc | apply Ext.drewN | (refine Ext.setCell ?_ (by simp) _))) E1
      have B0_1 := blk_top (b := w.heap.size) (by simp) (((Ext.refl _).alloc _).trans E1)
      have B1_1 := blk_top (b := w.heap.size + 1) (by simp) E1
      have D0 := B0_1
      obtain ⟨b0z, ⟨b0_0, b0_1, b0_2, b0_3⟩, b0f0, b0f1, b0f2, b0f3⟩ := D0
      have D1 := B1_1
      obtain ⟨b1z, ⟨b1_0, b1_1, b1_2, b1_3⟩, b1f0, b1f1, b1f2, b1f3⟩ := D1
      go_wp2_with fail
      refine (c1 _).mono ?_
      rintro r w2 ⟨rfl, E2⟩
      have X2 : Ext w w2 := Ext.trans (by with_reducible repeat (first | assumption | exact Ext.refl _ | apply Ext.alloc | apply Ext.drewN | (refine Ext.setCell ?_ (by simp) _))) E2
      have B1_2 := (B1_1.far (c := w.heap.size) (by simp) _ _ _ _).ext E2
      have D1 := B1_2
      obtain ⟨b1z, ⟨b1_0, b1_1, b1_2, b1_3⟩, b1f0, b1f1, b1f2, b1f3⟩ := D1
      go_wp2_with fail
      exact finB (B1_2.set _ _ _ _) rfl (by with_reducible repeat (first | assumption | exact Ext.refl _ | apply Ext.alloc | apply Ext.drewN | (refine Ext.setCell ?_ (by simp) _))) (fun g0 g1 g2 g3 => by simp [results, Tryz.results16, go_sem, g0, g1, g2, g3]) (fun h => ⟨rfl, h⟩)
    | true =>
      simp only [if_true] at c0
      have c1 := fun W => rnum_any 10000 W
      rw [mkNum_is (by decide)] at c1
      simp only [V.dat] at c1
      clear ok
      go_enter Tryz.func16, Tryz.ntmps16
      go_wp2_with fail
      refine (c0 _).mono ?_
      rintro r w1 ⟨rfl, E1⟩
      have X1 : Ext w w1 := Ext.trans (by with_reducible repeat (first | assumption | exact Ext.refl _ | apply Ext.alloc | apply Ext.drewN | (refine Ext.setCell ?_ (by simp) _))) E1
      have B0_1 := blk_top (b := w.heap.size) (by simp) (((Ext.refl _).alloc _).trans E1)
      have B1_1 := blk_top (b := w.heap.size + 1) (by simp) E1
      have D0 := B0_1
      obtain ⟨b0z, ⟨b0_0, b0_1, b0_2, b0_3⟩, b0f0, b0f1, b0f2, b0f3⟩ := D0
      have D1 := B1_1
      obtain ⟨b1z, ⟨b1_0, b1_1, b1_2, b1_3⟩, b1f0, b1f1, b1f2, b1f3⟩ := D1
      go_wp2_with fail
      refine (c1 _).mono ?_
      rintro r w2 ⟨rfl, E2⟩
      have X2 : Ext w w2 := Ext.trans (by with_reducible repeat (first | assumption | exact Ext.refl _ | apply Ext.alloc | apply Ext.drewN | (refine Ext.setCell ?_ (by simp) _))) E2
      have B1_2 := (B1_1.far (c := w.heap.size) (by simp) _ _ _ _).ext E2
      have D1 := B1_2
      obtain ⟨b1z, ⟨b1_0, b1_1, b1_2, b1_3⟩, b1f0, b1f1, b1f2, b1f3⟩ := D1
      go_wp2_with fail
      exact finB (B1_2.set _ _ _ _) rfl (by with_reducible repeat (first | assumption | exact Ext.refl _ | apply Ext.alloc | apply Ext.drewN | (refine Ext.setCell ?_ (by simp) _))) (fun g0 g1 g2 g3 => by simp [results, Tryz.results16, go_sem, g0, g1, g2, g3]) (fun h => ⟨rfl, h⟩)
  | num n =>
    simp only [V.dat] at c0
    clear ok
    go_enter Tryz.func16, Tryz.ntmps16
    go_wp2_with fail
    refine (c0 _).mono ?_
    rintro r w1 ⟨rfl, E1⟩
    have X1 : Ext w w1 := Ext.trans (by with_reducible repeat (first | assumption | exact Ext.refl _ | apply Ext.alloc | apply Ext.drewN | (refine Ext.setCell ?_ (by simp) _))) E1
    have B0_1 := blk_top (b := w.heap.size) (by simp) (((Ext.refl _).alloc _).trans E1)
    have B1_1 := blk_top (b := w.heap.size + 1) (by simp) E1
    have D0 := B0_1
    obtain ⟨b0z, ⟨b0_0, b0_1, b0_2, b0_3⟩, b0f0, b0f1, b0f2, b0f3⟩ := D0
    have D1 := B1_1
    obtain ⟨b1z, ⟨b1_0, b1_1, b1_2, b1_3⟩, b1f0, b1f1, b1f2, b1f3⟩ := D1
    go_wp2_with fail
    exact finB ((B1_1.far (c := w.heap.size) (by simp) _ _ _ _).set _ _ _ _) rfl (by with_reducible repeat (first | assumption | exact Ext.refl _ | apply Ext.alloc | apply Ext.drewN | (refine Ext.setCell ?_ (by simp) _))) (fun g0 g1 g2 g3 => by simp [results, Tryz.results16, go_sem, g0, g1, g2, g3]) (fun h => ⟨rfl, h⟩)
  | text s =>
    simp only [V.dat] at c0
    have c1 := fun W => rread_any s W (Nat.le_trans ok (by decide))
    have c2 := fun W => rerr_any 2 W
    rw [mkErr_is ⟨by decide, by decide⟩] at c2
    simp only [V.dat] at c2
    have hk := redK_cases s
    clear ok
    rcases hk with ⟨h1, h2⟩ | ⟨h1, h2⟩
    · rw [h1] at c1
      obtain ⟨q0, q1, q2, q3, hq⟩ := dat4 (redR s)
      rw [hq] at c1
      have H : Hid ((V.text s).toNum.dat = .agg #[.int .i64 q0, .int .i64 q1, .string q2, .int .i64 q3]) := by show (readV s).dat = _; rw [← h2]; exact hq
      clear hq h1 h2 c2
      go_enter Tryz.func16, Tryz.ntmps16
      go_wp2_with fail
      refine (c0 _).mono ?_
      rintro r w1 ⟨rfl, E1⟩
      have X1 : Ext w w1 := Ext.trans (by with_reducible repeat (first | assumption | exact Ext.refl _ | apply Ext.alloc | apply Ext.drewN | (refine Ext.setCell ?_ (by simp) _))) E1
      have B0_1 := blk_top (b := w.heap.size) (by simp) (((Ext.refl _).alloc _).trans E1)
      have B1_1 := blk_top (b := w.heap.size + 1) (by simp) E1
      have D0 := B0_1
      obtain ⟨b0z, ⟨b0_0, b0_1, b0_2, b0_3⟩, b0f0, b0f1, b0f2, b0f3⟩ := D0
      have D1 := B1_1
      obtain ⟨b1z, ⟨b1_0, b1_1, b1_2, b1_3⟩, b1f0, b1f1, b1f2, b1f3⟩ := D1
      go_wp2_with fail
      refine (c1 _).mono ?_
      rintro r w2 ⟨rfl, E2⟩
      have X2 : Ext w w2 := Ext.trans (by with_reducible repeat (first | assumption | exact Ext.refl _ | apply Ext.alloc | apply Ext.drewN | (refine Ext.setCell ?_ (by simp) _))) E2
      have B1_2 := (B1_1.far (c := w.heap.size) (by simp) _ _ _ _).ext E2
      have D1 := B1_2
      obtain ⟨b1z, ⟨b1_0, b1_1, b1_2, b1_3⟩, b1f0, b1f1, b1f2, b1f3⟩ := D1
      go_wp2_with fail
      exact finB ((B1_2.set _ _ _ _).ext ((Ext.refl _).alloc _)) rfl (by with_reducible repeat (first | assumption | exact Ext.refl _ | apply Ext.alloc | apply Ext.drewN | (refine Ext.setCell ?_ (by simp) _))) (fun g0 g1 g2 g3 => by simp [results, Tryz.results16, go_sem, g0, g1, g2, g3]) (fun h => ⟨by rw [H.out], h⟩)
    · rw [h1] at c1
      obtain ⟨q0, q1, q2, q3, hq⟩ := dat4 (redR s)
      rw [hq] at c1
      have H : Hid ((V.text s).toNum = .err 2) := h2
      clear hq h1 h2
      go_enter Tryz.func16, Tryz.ntmps16
      go_wp2_with fail
      refine (c0 _).mono ?_
      rintro r w1 ⟨rfl, E1⟩
      have X1 : Ext w w1 := Ext.trans (by with_reducible repeat (first | assumption | exact Ext.refl _ | apply Ext.alloc | apply Ext.drewN | (refine Ext.setCell ?_ (by simp) _))) E1
      have B0_1 := blk_top (b := w.heap.size) (by simp) (((Ext.refl _).alloc _).trans E1)
      have B1_1 := blk_top (b := w.heap.size + 1) (by simp) E1
      have D0 := B0_1
      obtain ⟨b0z, ⟨b0_0, b0_1, b0_2, b0_3⟩, b0f0, b0f1, b0f2, b0f3⟩ := D0
      have D1 := B1_1
      obtain ⟨b1z, ⟨b1_0, b1_1, b1_2, b1_3⟩, b1f0, b1f1, b1f2, b1f3⟩ := D1
      go_wp2_with fail
      refine (c1 _).mono ?_
      rintro r w2 ⟨rfl, E2⟩
      have X2 : Ext w w2 := Ext.trans (by with_reducible repeat (first | assumption | exact Ext.refl _ | apply Ext.alloc | apply Ext.drewN | (refine Ext.setCell ?_ (by simp) _))) E2
      have B1_2 := (B1_1.far (c := w.heap.size) (by simp) _ _ _ _).ext E2
      have D1 := B1_2
      obtain ⟨b1z, ⟨b1_0, b1_1, b1_2, b1_3⟩, b1f0, b1f1, b1f2, b1f3⟩ := D1
      go_wp2_with fail
      refine (c2 _).mono ?_
      rintro r w3 ⟨rfl, E3⟩
      have X3 : Ext w w3 := Ext.trans (by with_reducible repeat (first | assumption | exact Ext.refl _ | apply Ext.alloc | apply Ext.drewN | (refine Ext.setCell ?_ (by simp) _))) E3
      have B1_3 := (B1_2.ext ((Ext.refl _).alloc _)).ext E3
      have D1 := B1_3
      obtain ⟨b1z, ⟨b1_0, b1_1, b1_2, b1_3⟩, b1f0, b1f1, b1f2, b1f3⟩ := D1
      go_wp2_with fail
      exact finB (B1_3.set _ _ _ _) rfl (by with_reducible repeat (first | assumption | exact Ext.refl _ | apply Ext.alloc | apply Ext.drewN | (refine Ext.setCell ?_ (by simp) _))) (fun g0 g1 g2 g3 => by simp [results, Tryz.results16, go_sem, g0, g1, g2, g3]) (fun h => ⟨by rw [H.out]; rfl, h⟩)
  | err e =>
    simp only [V.dat] at c0
    clear ok
    go_enter Tryz.func16, Tryz.ntmps16
    go_wp2_with fail
    refine (c0 _).mono ?_
    rintro r w1 ⟨rfl, E1⟩
    have X1 : Ext w w1 := Ext.trans (by with_reducible repeat (first | assumption | exact Ext.refl _ | apply Ext.alloc | apply Ext.drewN | (refine Ext.setCell ?_ (by simp) _))) E1
    have B0_1 := blk_top (b := w.heap.size) (by simp) (((Ext.refl _).alloc _).trans E1)
    have B1_1 := blk_top (b := w.heap.size + 1) (by simp) E1
    have D0 := B0_1
    obtain ⟨b0z, ⟨b0_0, b0_1, b0_2, b0_3⟩, b0f0, b0f1, b0f2, b0f3⟩ := D0
    have D1 := B1_1
    obtain ⟨b1z, ⟨b1_0, b1_1, b1_2, b1_3⟩, b1f0, b1f1, b1f2, b1f3⟩ := D1
    go_wp2_with fail
    exact finB ((B1_1.far (c := w.heap.size) (by simp) _ _ _ _).set _ _ _ _) rfl (by with_reducible repeat (first | assumption | exact Ext.refl _ | apply Ext.alloc | apply Ext.drewN | (refine Ext.setCell ?_ (by simp) _))) (fun g0 g1 g2 g3 => by simp [results, Tryz.results16, go_sem, g0, g1, g2, g3]) (fun h => ⟨rfl, h⟩)
theorem rtotext_any (k n : Int) (s : ByteArray) (e : Int) (w : World) (hn : I64 n) :
    Calls Tryz.prog 24 #[.agg #[.int .i64 k, .int .i64 n, .string s, .int .i64 e]] w fun r w' => r = .returned ((nm k n s e).toText.dat) ∧ Ext w w' := by
  have c0 := fun W => rnormal_any k n s e W
  have ok := nm_ok k n s e hn
  clear hn
  generalize nm k n s e = v at c0 ok ⊢
  cases v with
  | blank =>
    simp only [V.dat] at c0
    have c1 := fun W => rshow_any 0 0 ⟨#[]⟩ 0 W ⟨by decide, by decide⟩
    rw [nm_blank] at c1
    have hz := shown_size (V.blank) ok
    have c2 := fun W => rtext_any (V.blank).shown W
    rw [mkText_is hz] at c2
    simp only [V.dat] at c2
    have H : Hid ((V.blank).toText = .text (V.blank).shown) := rfl
    generalize (V.blank).shown = q at *
    clear hz ok
    go_enter Tryz.func24, Tryz.ntmps24
    go_wp2_with fail
    refine (c0 _).mono ?_
    rintro r w1 ⟨rfl, E1⟩
    have X1 : Ext w w1 := Ext.trans (by with_reducible repeat (first | assumption | exact Ext.refl _ | apply Ext.alloc | apply Ext.drewN | (refine Ext.setCell ?_ (by simp) _))) E1
    have B0_1 := blk_top (b := w.heap.size) (by simp) (((Ext.refl _).alloc _).trans E1)
    have B1_1 := blk_top (b := w.heap.size + 1) (by simp) E1
    have D0 := B0_1
    obtain ⟨b0z, ⟨b0_0, b0_1, b0_2, b0_3⟩, b0f0, b0f1, b0f2, b0f3⟩ := D0
    have D1 := B1_1
    obtain ⟨b1z, ⟨b1_0, b1_1, b1_2, b1_3⟩, b1f0, b1f1, b1f2, b1f3⟩ := D1
    go_wp2_with fail
    refine (c1 _).mono ?_
    rintro r w2 ⟨rfl, E2⟩
    have X2 : Ext w w2 := Ext.trans (by with_reducible repeat (first | assumption | exact Ext.refl _ | apply Ext.alloc | apply Ext.drewN | (refine Ext.setCell ?_ (by simp) _))) E2
    have B1_2 := (B1_1.far (c := w.heap.size) (by simp) _ _ _ _).ext E2
    go_wp2_with fail
    refine (c2 _).mono ?_
    rintro r w3 ⟨rfl, E3⟩
    have X3 : Ext w w3 := Ext.trans (by with_reducible repeat (first | assumption | exact Ext.refl _ | apply Ext.alloc | apply Ext.drewN | (refine Ext.setCell ?_ (by simp) _))) E3
    have B1_3 := B1_2.ext E3
    have D1 := B1_3
    obtain ⟨b1z, ⟨b1_0, b1_1, b1_2, b1_3⟩, b1f0, b1f1, b1f2, b1f3⟩ := D1
    go_wp2_with fail
    exact finB (B1_3.set _ _ _ _) rfl (by with_reducible repeat (first | assumption | exact Ext.refl _ | apply Ext.alloc | apply Ext.drewN | (refine Ext.setCell ?_ (by simp) _))) (fun g0 g1 g2 g3 => by simp [results, Tryz.results24, go_sem, g0, g1, g2, g3]) (fun h => ⟨by rw [H.out]; rfl, h⟩)
  | tf b =>
    simp only [V.dat] at c0
    cases b with
    | false =>
      simp only [Bool.false_eq_true, if_false] at c0
      have c1 := fun W => rshow_any 1 0 ⟨#[]⟩ 0 W ⟨by decide, by decide⟩
      rw [show nm 1 0 ⟨#[]⟩ 0 = .tf false from rfl] at c1
      have hz := shown_size (V.tf false) ok
      have c2 := fun W => rtext_any (V.tf false).shown W
      rw [mkText_is hz] at c2
      simp only [V.dat] at c2
      have H : Hid ((V.tf false).toText = .text (V.tf false).shown) := rfl
      generalize (V.tf false).shown = q at *
      clear hz ok
      go_enter Tryz.func24, Tryz.ntmps24
      go_wp2_with fail
      refine (c0 _).mono ?_
      rintro r w1 ⟨rfl, E1⟩
      have X1 : Ext w w1 := Ext.trans (by with_reducible repeat (first | assumption | exact Ext.refl _ | apply Ext.alloc | apply Ext.drewN | (refine Ext.setCell ?_ (by simp) _))) E1
      have B0_1 := blk_top (b := w.heap.size) (by simp) (((Ext.refl _).alloc _).trans E1)
      have B1_1 := blk_top (b := w.heap.size + 1) (by simp) E1
      have D0 := B0_1
      obtain ⟨b0z, ⟨b0_0, b0_1, b0_2, b0_3⟩, b0f0, b0f1, b0f2, b0f3⟩ := D0
      have D1 := B1_1
      obtain ⟨b1z, ⟨b1_0, b1_1, b1_2, b1_3⟩, b1f0, b1f1, b1f2, b1f3⟩ := D1
      go_wp2_with fail
      refine (c1 _).mono ?_
      rintro r w2 ⟨rfl, E2⟩
      have X2 : Ext w w2 := Ext.trans (by with_reducible repeat (first | assumption | exact Ext.refl _ | apply Ext.alloc | apply Ext.drewN | (refine Ext.setCell ?_ (by simp) _))) E2
      have B1_2 := (B1_1.far (c := w.heap.size) (by simp) _ _ _ _).ext E2
      go_wp2_with fail
      refine (c2 _).mono ?_
      rintro r w3 ⟨rfl, E3⟩
      have X3 : Ext w w3 := Ext.trans (by with_reducible repeat (first | assumption | exact Ext.refl _ | apply Ext.alloc | apply Ext.drewN | (refine Ext.setCell ?_ (by simp) _))) E3
      have B1_3 := B1_2.ext E3
      have D1 := B1_3
      obtain ⟨b1z, ⟨b1_0, b1_1, b1_2, b1_3⟩, b1f0, b1f1, b1f2, b1f3⟩ := D1
      go_wp2_with fail
      exact finB (B1_3.set _ _ _ _) rfl (by with_reducible repeat (first | assumption | exact Ext.refl _ | apply Ext.alloc | apply Ext.drewN | (refine Ext.setCell ?_ (by simp) _))) (fun g0 g1 g2 g3 => by simp [results, Tryz.results24, go_sem, g0, g1, g2, g3]) (fun h => ⟨by rw [H.out]; rfl, h⟩)
    | true =>
      simp only [if_true] at c0
      have c1 := fun W => rshow_any 1 1 ⟨#[]⟩ 0 W ⟨by decide, by decide⟩
      rw [show nm 1 1 ⟨#[]⟩ 0 = .tf true from rfl] at c1
      have hz := shown_size (V.tf true) ok
      have c2 := fun W => rtext_any (V.tf true).shown W
      rw [mkText_is hz] at c2
      simp only [V.dat] at c2
      have H : Hid ((V.tf true).toText = .text (V.tf true).shown) := rfl
      generalize (V.tf true).shown = q at *
      clear hz ok
      go_enter Tryz.func24, Tryz.ntmps24
      go_wp2_with fail
      refine (c0 _).mono ?_
      rintro r w1 ⟨rfl, E1⟩
      have X1 : Ext w w1 := Ext.trans (by with_reducible repeat (first | assumption | exact Ext.refl _ | apply Ext.alloc | apply Ext.drewN | (refine Ext.setCell ?_ (by simp) _))) E1
      have B0_1 := blk_top (b := w.heap.size) (by simp) (((Ext.refl _).alloc _).trans E1)
      have B1_1 := blk_top (b := w.heap.size + 1) (by simp) E1
      have D0 := B0_1
      obtain ⟨b0z, ⟨b0_0, b0_1, b0_2, b0_3⟩, b0f0, b0f1, b0f2, b0f3⟩ := D0
      have D1 := B1_1
      obtain ⟨b1z, ⟨b1_0, b1_1, b1_2, b1_3⟩, b1f0, b1f1, b1f2, b1f3⟩ := D1
      go_wp2_with fail
      refine (c1 _).mono ?_
      rintro r w2 ⟨rfl, E2⟩
      have X2 : Ext w w2 := Ext.trans (by with_reducible repeat (first | assumption | exact Ext.refl _ | apply Ext.alloc | apply Ext.drewN | (refine Ext.setCell ?_ (by simp) _))) E2
      have B1_2 := (B1_1.far (c := w.heap.size) (by simp) _ _ _ _).ext E2
      go_wp2_with fail
      refine (c2 _).mono ?_
      rintro r w3 ⟨rfl, E3⟩
      have X3 : Ext w w3 := Ext.trans (by with_reducible repeat (first | assumption | exact Ext.refl _ | apply Ext.alloc | apply Ext.drewN | (refine Ext.setCell ?_ (by simp) _))) E3
      have B1_3 := B1_2.ext E3
      have D1 := B1_3
      obtain ⟨b1z, ⟨b1_0, b1_1, b1_2, b1_3⟩, b1f0, b1f1, b1f2, b1f3⟩ := D1
      go_wp2_with fail
      exact finB (B1_3.set _ _ _ _) rfl (by with_reducible repeat (first | assumption | exact Ext.refl _ | apply Ext.alloc | apply Ext.drewN | (refine Ext.setCell ?_ (by simp) _))) (fun g0 g1 g2 g3 => by simp [results, Tryz.results24, go_sem, g0, g1, g2, g3]) (fun h => ⟨by rw [H.out]; rfl, h⟩)
  | num n =>
    simp only [V.dat] at c0
    have c1 := fun W => rshow_any 2 n ⟨#[]⟩ 0 W ok.1
    rw [nm_num ok.2] at c1
    have hz := shown_size (V.num n) ok
    have c2 := fun W => rtext_any (V.num n).shown W
    rw [mkText_is hz] at c2
    simp only [V.dat] at c2
    have H : Hid ((V.num n).toText = .text (V.num n).shown) := rfl
    generalize (V.num n).shown = q at *
    clear hz ok
    go_enter Tryz.func24, Tryz.ntmps24
    go_wp2_with fail
    refine (c0 _).mono ?_
    rintro r w1 ⟨rfl, E1⟩
    have X1 : Ext w w1 := Ext.trans (by with_reducible repeat (first | assumption | exact Ext.refl _ | apply Ext.alloc | apply Ext.drewN | (refine Ext.setCell ?_ (by simp) _))) E1
    have B0_1 := blk_top (b := w.heap.size) (by simp) (((Ext.refl _).alloc _).trans E1)
    have B1_1 := blk_top (b := w.heap.size + 1) (by simp) E1
    have D0 := B0_1
    obtain ⟨b0z, ⟨b0_0, b0_1, b0_2, b0_3⟩, b0f0, b0f1, b0f2, b0f3⟩ := D0
    have D1 := B1_1
    obtain ⟨b1z, ⟨b1_0, b1_1, b1_2, b1_3⟩, b1f0, b1f1, b1f2, b1f3⟩ := D1
    go_wp2_with fail
    refine (c1 _).mono ?_
    rintro r w2 ⟨rfl, E2⟩
    have X2 : Ext w w2 := Ext.trans (by with_reducible repeat (first | assumption | exact Ext.refl _ | apply Ext.alloc | apply Ext.drewN | (refine Ext.setCell ?_ (by simp) _))) E2
    have B1_2 := (B1_1.far (c := w.heap.size) (by simp) _ _ _ _).ext E2
    go_wp2_with fail
    refine (c2 _).mono ?_
    rintro r w3 ⟨rfl, E3⟩
    have X3 : Ext w w3 := Ext.trans (by with_reducible repeat (first | assumption | exact Ext.refl _ | apply Ext.alloc | apply Ext.drewN | (refine Ext.setCell ?_ (by simp) _))) E3
    have B1_3 := B1_2.ext E3
    have D1 := B1_3
    obtain ⟨b1z, ⟨b1_0, b1_1, b1_2, b1_3⟩, b1f0, b1f1, b1f2, b1f3⟩ := D1
    go_wp2_with fail
    exact finB (B1_3.set _ _ _ _) rfl (by with_reducible repeat (first | assumption | exact Ext.refl _ | apply Ext.alloc | apply Ext.drewN | (refine Ext.setCell ?_ (by simp) _))) (fun g0 g1 g2 g3 => by simp [results, Tryz.results24, go_sem, g0, g1, g2, g3]) (fun h => ⟨by rw [H.out]; rfl, h⟩)
  | text s =>
    simp only [V.dat] at c0
    have c1 := fun W => rshow_any 3 0 s 0 W ⟨by decide, by decide⟩
    rw [nm_text ok] at c1
    have hz := shown_size (V.text s) ok
    have c2 := fun W => rtext_any (V.text s).shown W
    rw [mkText_is hz] at c2
    simp only [V.dat] at c2
    have H : Hid ((V.text s).toText = .text (V.text s).shown) := rfl
    generalize (V.text s).shown = q at *
    clear hz ok
    go_enter Tryz.func24, Tryz.ntmps24
    go_wp2_with fail
    refine (c0 _).mono ?_
    rintro r w1 ⟨rfl, E1⟩
    have X1 : Ext w w1 := Ext.trans (by with_reducible repeat (first | assumption | exact Ext.refl _ | apply Ext.alloc | apply Ext.drewN | (refine Ext.setCell ?_ (by simp) _))) E1
    have B0_1 := blk_top (b := w.heap.size) (by simp) (((Ext.refl _).alloc _).trans E1)
    have B1_1 := blk_top (b := w.heap.size + 1) (by simp) E1
    have D0 := B0_1
    obtain ⟨b0z, ⟨b0_0, b0_1, b0_2, b0_3⟩, b0f0, b0f1, b0f2, b0f3⟩ := D0
    have D1 := B1_1
    obtain ⟨b1z, ⟨b1_0, b1_1, b1_2, b1_3⟩, b1f0, b1f1, b1f2, b1f3⟩ := D1
    go_wp2_with fail
    refine (c1 _).mono ?_
    rintro r w2 ⟨rfl, E2⟩
    have X2 : Ext w w2 := Ext.trans (by with_reducible repeat (first | assumption | exact Ext.refl _ | apply Ext.alloc | apply Ext.drewN | (refine Ext.setCell ?_ (by simp) _))) E2
    have B1_2 := (B1_1.far (c := w.heap.size) (by simp) _ _ _ _).ext E2
    go_wp2_with fail
    refine (c2 _).mono ?_
    rintro r w3 ⟨rfl, E3⟩
    have X3 : Ext w w3 := Ext.trans (by with_reducible repeat (first | assumption | exact Ext.refl _ | apply Ext.alloc | apply Ext.drewN | (refine Ext.setCell ?_ (by simp) _))) E3
    have B1_3 := B1_2.ext E3
    have D1 := B1_3
    obtain ⟨b1z, ⟨b1_0, b1_1, b1_2, b1_3⟩, b1f0, b1f1, b1f2, b1f3⟩ := D1
    go_wp2_with fail
    exact finB (B1_3.set _ _ _ _) rfl (by with_reducible repeat (first | assumption | exact Ext.refl _ | apply Ext.alloc | apply Ext.drewN | (refine Ext.setCell ?_ (by simp) _))) (fun g0 g1 g2 g3 => by simp [results, Tryz.results24, go_sem, g0, g1, g2, g3]) (fun h => ⟨by rw [H.out]; rfl, h⟩)
  | err e =>
    simp only [V.dat] at c0
    clear ok
    go_enter Tryz.func24, Tryz.ntmps24
    go_wp2_with fail
    refine (c0 _).mono ?_
    rintro r w1 ⟨rfl, E1⟩
    have X1 : Ext w w1 := Ext.trans (by with_reducible repeat (first | assumption | exact Ext.refl _ | apply Ext.alloc | apply Ext.drewN | (refine Ext.setCell ?_ (by simp) _))) E1
    have B0_1 := blk_top (b := w.heap.size) (by simp) (((Ext.refl _).alloc _).trans E1)
    have B1_1 := blk_top (b := w.heap.size + 1) (by simp) E1
    have D0 := B0_1
    obtain ⟨b0z, ⟨b0_0, b0_1, b0_2, b0_3⟩, b0f0, b0f1, b0f2, b0f3⟩ := D0
    have D1 := B1_1
    obtain ⟨b1z, ⟨b1_0, b1_1, b1_2, b1_3⟩, b1f0, b1f1, b1f2, b1f3⟩ := D1
    go_wp2_with fail
    exact finB ((B1_1.far (c := w.heap.size) (by simp) _ _ _ _).set _ _ _ _) rfl (by with_reducible repeat (first | assumption | exact Ext.refl _ | apply Ext.alloc | apply Ext.drewN | (refine Ext.setCell ?_ (by simp) _))) (fun g0 g1 g2 g3 => by simp [results, Tryz.results24, go_sem, g0, g1, g2, g3]) (fun h => ⟨rfl, h⟩)
end Go.Proofs.YtdmiddpfgmbbhaaGreatDoor
