/-
  The contracts of package value's truth and named.
-/
import Derived.Test.YtlfkiepnahgbeaaDoorValG
namespace Go.Proofs.YtlfkiepnahgbeaaDoor
open Go.RowKit
set_option maxHeartbeats 1000000

/-- The truth of a name. -/
def truR (s : ByteArray) : V := if s.data.toList = trueL then .tf true else if s.data.toList = falseL then .tf false else .blank
def truK (s : ByteArray) : Bool := decide (s.data.toList = trueL) || decide (s.data.toList = falseL)
theorem truth_any (s : ByteArray) (w : World) : Calls Tryd.prog 39 #[.string s] w fun r w' => r = .returned (.tuple #[(truR s).dat, .bool (truK s)]) ∧ Ext w w' := by
  by_cases h : s.data.toList = trueL
  · have c1 := fun W => vbool_any true W
    simp only [V.dat, if_true] at c1
    have H : Hid (truR s = .tf true ∧ truK s = true) := by show _ ∧ _; unfold truR truK; rw [if_pos h]; simp [h]
    have h1 : (s.toList == [84, 82, 85, 69]) = true := by rw [ByteArray.toList_eq, h]; decide
    clear h
    go_enter Tryd.func39, Tryd.ntmps39
    go_wp2_with fail
    refine (c1 _).mono ?_
    rintro r w1 ⟨rfl, E1⟩
    have X1 : Ext w w1 := Ext.trans (by with_reducible repeat (first | assumption | exact Ext.refl _ | apply Ext.alloc | apply Ext.drewN | (refine Ext.setCell ?_ (by simp) _))) E1
    have B0_1 := blk_top (b := w.heap.size) (by simp) E1
    have D0 := B0_1
    obtain ⟨b0z, ⟨b0_0, b0_1, b0_2, b0_3⟩, b0f0, b0f1, b0f2, b0f3⟩ := D0
    go_wp2_with fail
    exact finBb true (B0_1.set _ _ _ _) rfl (by with_reducible repeat (first | assumption | exact Ext.refl _ | apply Ext.alloc | apply Ext.drewN | (refine Ext.setCell ?_ (by simp) _))) (fun g0 g1 g2 g3 => by simp [results, Tryd.results39, go_sem, g0, g1, g2, g3]) (fun h => ⟨by rw [H.out.1, H.out.2]; rfl, h⟩)
  · have h1 : (s.toList == [84, 82, 85, 69]) = false := by rw [ByteArray.toList_eq]; simpa [trueL] using h
    by_cases g : s.data.toList = falseL
    · have c1 := fun W => vbool_any false W
      simp only [V.dat, Bool.false_eq_true, if_false] at c1
      have H : Hid (truR s = .tf false ∧ truK s = true) := by show _ ∧ _; unfold truR truK; rw [if_neg h, if_pos g]; simp [g]
      have h2 : (s.toList == [70, 65, 76, 83, 69]) = true := by rw [ByteArray.toList_eq, g]; decide
      clear h g
      go_enter Tryd.func39, Tryd.ntmps39
      go_wp2_with fail
      refine (c1 _).mono ?_
      rintro r w1 ⟨rfl, E1⟩
      have X1 : Ext w w1 := Ext.trans (by with_reducible repeat (first | assumption | exact Ext.refl _ | apply Ext.alloc | apply Ext.drewN | (refine Ext.setCell ?_ (by simp) _))) E1
      have B0_1 := blk_top (b := w.heap.size) (by simp) E1
      have D0 := B0_1
      obtain ⟨b0z, ⟨b0_0, b0_1, b0_2, b0_3⟩, b0f0, b0f1, b0f2, b0f3⟩ := D0
      go_wp2_with fail
      exact finBb true (B0_1.set _ _ _ _) rfl (by with_reducible repeat (first | assumption | exact Ext.refl _ | apply Ext.alloc | apply Ext.drewN | (refine Ext.setCell ?_ (by simp) _))) (fun g0 g1 g2 g3 => by simp [results, Tryd.results39, go_sem, g0, g1, g2, g3]) (fun h => ⟨by rw [H.out.1, H.out.2]; rfl, h⟩)
    · have H : Hid (truR s = .blank ∧ truK s = false) := by show _ ∧ _; unfold truR truK; rw [if_neg h, if_neg g]; simp [h, g]
      have h2 : (s.toList == [70, 65, 76, 83, 69]) = false := by rw [ByteArray.toList_eq]; simpa [falseL] using g
      clear h g
      go_enter Tryd.func39, Tryd.ntmps39
      go_wp2_with fail
      simp [bodyPost, results, Tryd.results39, go_sem]
      rw [H.out.1, H.out.2]
      exact ⟨⟨rfl, rfl⟩, ((Ext.refl _).alloc _)⟩
theorem idx_0 (W : World) : (Instr.index 39 (.agg #[.string ⟨#[]⟩, .string ⟨#[35, 82, 69, 70, 33]⟩, .string ⟨#[35, 86, 65, 76, 85, 69, 33]⟩, .string ⟨#[35, 68, 73, 86, 47, 48, 33]⟩, .string ⟨#[35, 78, 85, 77, 33]⟩, .string ⟨#[35, 67, 89, 67, 76, 69, 33]⟩]) (.int .i64 0)).run Tryd.prog W = .ok (.string ⟨#[]⟩) W := by kernel_rfl
theorem idx_1 (W : World) : (Instr.index 39 (.agg #[.string ⟨#[]⟩, .string ⟨#[35, 82, 69, 70, 33]⟩, .string ⟨#[35, 86, 65, 76, 85, 69, 33]⟩, .string ⟨#[35, 68, 73, 86, 47, 48, 33]⟩, .string ⟨#[35, 78, 85, 77, 33]⟩, .string ⟨#[35, 67, 89, 67, 76, 69, 33]⟩]) (.int .i64 1)).run Tryd.prog W = .ok (.string ⟨#[35, 82, 69, 70, 33]⟩) W := by kernel_rfl
theorem idx_2 (W : World) : (Instr.index 39 (.agg #[.string ⟨#[]⟩, .string ⟨#[35, 82, 69, 70, 33]⟩, .string ⟨#[35, 86, 65, 76, 85, 69, 33]⟩, .string ⟨#[35, 68, 73, 86, 47, 48, 33]⟩, .string ⟨#[35, 78, 85, 77, 33]⟩, .string ⟨#[35, 67, 89, 67, 76, 69, 33]⟩]) (.int .i64 2)).run Tryd.prog W = .ok (.string ⟨#[35, 86, 65, 76, 85, 69, 33]⟩) W := by kernel_rfl
theorem idx_3 (W : World) : (Instr.index 39 (.agg #[.string ⟨#[]⟩, .string ⟨#[35, 82, 69, 70, 33]⟩, .string ⟨#[35, 86, 65, 76, 85, 69, 33]⟩, .string ⟨#[35, 68, 73, 86, 47, 48, 33]⟩, .string ⟨#[35, 78, 85, 77, 33]⟩, .string ⟨#[35, 67, 89, 67, 76, 69, 33]⟩]) (.int .i64 3)).run Tryd.prog W = .ok (.string ⟨#[35, 68, 73, 86, 47, 48, 33]⟩) W := by kernel_rfl
theorem idx_4 (W : World) : (Instr.index 39 (.agg #[.string ⟨#[]⟩, .string ⟨#[35, 82, 69, 70, 33]⟩, .string ⟨#[35, 86, 65, 76, 85, 69, 33]⟩, .string ⟨#[35, 68, 73, 86, 47, 48, 33]⟩, .string ⟨#[35, 78, 85, 77, 33]⟩, .string ⟨#[35, 67, 89, 67, 76, 69, 33]⟩]) (.int .i64 4)).run Tryd.prog W = .ok (.string ⟨#[35, 78, 85, 77, 33]⟩) W := by kernel_rfl
theorem idx_5 (W : World) : (Instr.index 39 (.agg #[.string ⟨#[]⟩, .string ⟨#[35, 82, 69, 70, 33]⟩, .string ⟨#[35, 86, 65, 76, 85, 69, 33]⟩, .string ⟨#[35, 68, 73, 86, 47, 48, 33]⟩, .string ⟨#[35, 78, 85, 77, 33]⟩, .string ⟨#[35, 67, 89, 67, 76, 69, 33]⟩]) (.int .i64 5)).run Tryd.prog W = .ok (.string ⟨#[35, 67, 89, 67, 76, 69, 33]⟩) W := by kernel_rfl
def nmdR (s : ByteArray) : V := if nameE s.data.toList ≠ 0 then .err (nameE s.data.toList) else .blank
def nmdK (s : ByteArray) : Bool := nameE s.data.toList != 0
set_option maxRecDepth 100000 in
theorem named_1 (s : ByteArray) (w : World) (hN : Nm w)  (h1 : s.data.toList = errName 1) : Calls Tryd.prog 40 #[.string s] w fun r w' => r = .returned (.tuple #[(V.err 1).dat, .bool true]) ∧ Ext w w' := by
  have g1 : ([35, 82, 69, 70, 33] == s.toList) = true := by rw [ByteArray.toList_eq, h1]; decide
  clear h1
  have i0 := idx_0
  have i1 := idx_1
  have hN' := hN
  obtain ⟨hs, m0, m1, m2, m3, m4, m5⟩ := hN'
  have c1 := fun W h => err_any 1 W h
  rw [mkErr_is ⟨by decide, by decide⟩] at c1
  simp only [V.dat] at c1
  go_enter Tryd.func40, Tryd.ntmps40
  go_wp2_with fail
  refine wp_loop_rounds 7 ?_
  rw [rounds_succ]
  go_wp2_with fail
  rw [rounds_succ]
  go_wp2_with fail
  refine (c1 _ (hN.ext (by with_reducible repeat (first | assumption | exact Ext.refl _ | apply Ext.alloc | apply Ext.drewN | (refine Ext.setCell ?_ (by simp) _))))).mono ?_
  rintro r w1 ⟨rfl, E1⟩
  have X1 : Ext w w1 := Ext.trans (by with_reducible repeat (first | assumption | exact Ext.refl _ | apply Ext.alloc | apply Ext.drewN | (refine Ext.setCell ?_ (by simp) _))) E1
  have B0_1 := blk_top (b := w.heap.size) (by simp) E1
  have D0 := B0_1
  obtain ⟨b0z, ⟨b0_0, b0_1, b0_2, b0_3⟩, b0f0, b0f1, b0f2, b0f3⟩ := D0
  go_wp2_with fail
  exact finBb true (B0_1.set _ _ _ _) rfl (by with_reducible repeat (first | assumption | exact Ext.refl _ | apply Ext.alloc | apply Ext.drewN | (refine Ext.setCell ?_ (by simp) _))) (fun g0 g1 g2 g3 => by simp [results, Tryd.results40, go_sem, g0, g1, g2, g3]) (fun h => ⟨rfl, h⟩)
set_option maxRecDepth 100000 in
theorem named_2 (s : ByteArray) (w : World) (hN : Nm w) (h1 : s.data.toList ≠ errName 1) (h2 : s.data.toList = errName 2) : Calls Tryd.prog 40 #[.string s] w fun r w' => r = .returned (.tuple #[(V.err 2).dat, .bool true]) ∧ Ext w w' := by
  have g1 : ([35, 82, 69, 70, 33] == s.toList) = false := by rw [ByteArray.toList_eq]; have := Ne.symm h1; simpa [errName] using this
  have g2 : ([35, 86, 65, 76, 85, 69, 33] == s.toList) = true := by rw [ByteArray.toList_eq, h2]; decide
  clear h1 h2
  have i0 := idx_0
  have i1 := idx_1
  have i2 := idx_2
  have hN' := hN
  obtain ⟨hs, m0, m1, m2, m3, m4, m5⟩ := hN'
  have c1 := fun W h => err_any 2 W h
  rw [mkErr_is ⟨by decide, by decide⟩] at c1
  simp only [V.dat] at c1
  go_enter Tryd.func40, Tryd.ntmps40
  go_wp2_with fail
  refine wp_loop_rounds 7 ?_
  rw [rounds_succ]
  go_wp2_with fail
  rw [rounds_succ]
  go_wp2_with fail
  rw [rounds_succ]
  go_wp2_with fail
  refine (c1 _ (hN.ext (by with_reducible repeat (first | assumption | exact Ext.refl _ | apply Ext.alloc | apply Ext.drewN | (refine Ext.setCell ?_ (by simp) _))))).mono ?_
  rintro r w1 ⟨rfl, E1⟩
  have X1 : Ext w w1 := Ext.trans (by with_reducible repeat (first | assumption | exact Ext.refl _ | apply Ext.alloc | apply Ext.drewN | (refine Ext.setCell ?_ (by simp) _))) E1
  have B0_1 := blk_top (b := w.heap.size) (by simp) E1
  have D0 := B0_1
  obtain ⟨b0z, ⟨b0_0, b0_1, b0_2, b0_3⟩, b0f0, b0f1, b0f2, b0f3⟩ := D0
  go_wp2_with fail
  exact finBb true (B0_1.set _ _ _ _) rfl (by with_reducible repeat (first | assumption | exact Ext.refl _ | apply Ext.alloc | apply Ext.drewN | (refine Ext.setCell ?_ (by simp) _))) (fun g0 g1 g2 g3 => by simp [results, Tryd.results40, go_sem, g0, g1, g2, g3]) (fun h => ⟨rfl, h⟩)
set_option maxRecDepth 100000 in
theorem named_3 (s : ByteArray) (w : World) (hN : Nm w) (h1 : s.data.toList ≠ errName 1) (h2 : s.data.toList ≠ errName 2) (h3 : s.data.toList = errName 3) : Calls Tryd.prog 40 #[.string s] w fun r w' => r = .returned (.tuple #[(V.err 3).dat, .bool true]) ∧ Ext w w' := by
  have g1 : ([35, 82, 69, 70, 33] == s.toList) = false := by rw [ByteArray.toList_eq]; have := Ne.symm h1; simpa [errName] using this
  have g2 : ([35, 86, 65, 76, 85, 69, 33] == s.toList) = false := by rw [ByteArray.toList_eq]; have := Ne.symm h2; simpa [errName] using this
  have g3 : ([35, 68, 73, 86, 47, 48, 33] == s.toList) = true := by rw [ByteArray.toList_eq, h3]; decide
  clear h1 h2 h3
  have i0 := idx_0
  have i1 := idx_1
  have i2 := idx_2
  have i3 := idx_3
  have hN' := hN
  obtain ⟨hs, m0, m1, m2, m3, m4, m5⟩ := hN'
  have c1 := fun W h => err_any 3 W h
  rw [mkErr_is ⟨by decide, by decide⟩] at c1
  simp only [V.dat] at c1
  go_enter Tryd.func40, Tryd.ntmps40
  go_wp2_with fail
  refine wp_loop_rounds 7 ?_
  rw [rounds_succ]
  go_wp2_with fail
  rw [rounds_succ]
  go_wp2_with fail
  rw [rounds_succ]
  go_wp2_with fail
  rw [rounds_succ]
  go_wp2_with fail
  refine (c1 _ (hN.ext (by with_reducible repeat (first | assumption | exact Ext.refl _ | apply Ext.alloc | apply Ext.drewN | (refine Ext.setCell ?_ (by simp) _))))).mono ?_
  rintro r w1 ⟨rfl, E1⟩
  have X1 : Ext w w1 := Ext.trans (by with_reducible repeat (first | assumption | exact Ext.refl _ | apply Ext.alloc | apply Ext.drewN | (refine Ext.setCell ?_ (by simp) _))) E1
  have B0_1 := blk_top (b := w.heap.size) (by simp) E1
  have D0 := B0_1
  obtain ⟨b0z, ⟨b0_0, b0_1, b0_2, b0_3⟩, b0f0, b0f1, b0f2, b0f3⟩ := D0
  go_wp2_with fail
  exact finBb true (B0_1.set _ _ _ _) rfl (by with_reducible repeat (first | assumption | exact Ext.refl _ | apply Ext.alloc | apply Ext.drewN | (refine Ext.setCell ?_ (by simp) _))) (fun g0 g1 g2 g3 => by simp [results, Tryd.results40, go_sem, g0, g1, g2, g3]) (fun h => ⟨rfl, h⟩)
set_option maxRecDepth 100000 in
theorem named_4 (s : ByteArray) (w : World) (hN : Nm w) (h1 : s.data.toList ≠ errName 1) (h2 : s.data.toList ≠ errName 2) (h3 : s.data.toList ≠ errName 3) (h4 : s.data.toList = errName 4) : Calls Tryd.prog 40 #[.string s] w fun r w' => r = .returned (.tuple #[(V.err 4).dat, .bool true]) ∧ Ext w w' := by
  have g1 : ([35, 82, 69, 70, 33] == s.toList) = false := by rw [ByteArray.toList_eq]; have := Ne.symm h1; simpa [errName] using this
  have g2 : ([35, 86, 65, 76, 85, 69, 33] == s.toList) = false := by rw [ByteArray.toList_eq]; have := Ne.symm h2; simpa [errName] using this
  have g3 : ([35, 68, 73, 86, 47, 48, 33] == s.toList) = false := by rw [ByteArray.toList_eq]; have := Ne.symm h3; simpa [errName] using this
  have g4 : ([35, 78, 85, 77, 33] == s.toList) = true := by rw [ByteArray.toList_eq, h4]; decide
  clear h1 h2 h3 h4
  have i0 := idx_0
  have i1 := idx_1
  have i2 := idx_2
  have i3 := idx_3
  have i4 := idx_4
  have hN' := hN
  obtain ⟨hs, m0, m1, m2, m3, m4, m5⟩ := hN'
  have c1 := fun W h => err_any 4 W h
  rw [mkErr_is ⟨by decide, by decide⟩] at c1
  simp only [V.dat] at c1
  go_enter Tryd.func40, Tryd.ntmps40
  go_wp2_with fail
  refine wp_loop_rounds 7 ?_
  rw [rounds_succ]
  go_wp2_with fail
  rw [rounds_succ]
  go_wp2_with fail
  rw [rounds_succ]
  go_wp2_with fail
  rw [rounds_succ]
  go_wp2_with fail
  rw [rounds_succ]
  go_wp2_with fail
  refine (c1 _ (hN.ext (by with_reducible repeat (first | assumption | exact Ext.refl _ | apply Ext.alloc | apply Ext.drewN | (refine Ext.setCell ?_ (by simp) _))))).mono ?_
  rintro r w1 ⟨rfl, E1⟩
  have X1 : Ext w w1 := Ext.trans (by with_reducible repeat (first | assumption | exact Ext.refl _ | apply Ext.alloc | apply Ext.drewN | (refine Ext.setCell ?_ (by simp) _))) E1
  have B0_1 := blk_top (b := w.heap.size) (by simp) E1
  have D0 := B0_1
  obtain ⟨b0z, ⟨b0_0, b0_1, b0_2, b0_3⟩, b0f0, b0f1, b0f2, b0f3⟩ := D0
  go_wp2_with fail
  exact finBb true (B0_1.set _ _ _ _) rfl (by with_reducible repeat (first | assumption | exact Ext.refl _ | apply Ext.alloc | apply Ext.drewN | (refine Ext.setCell ?_ (by simp) _))) (fun g0 g1 g2 g3 => by simp [results, Tryd.results40, go_sem, g0, g1, g2, g3]) (fun h => ⟨rfl, h⟩)
set_option maxRecDepth 100000 in
theorem named_5 (s : ByteArray) (w : World) (hN : Nm w) (h1 : s.data.toList ≠ errName 1) (h2 : s.data.toList ≠ errName 2) (h3 : s.data.toList ≠ errName 3) (h4 : s.data.toList ≠ errName 4) (h5 : s.data.toList = errName 5) : Calls Tryd.prog 40 #[.string s] w fun r w' => r = .returned (.tuple #[(V.err 5).dat, .bool true]) ∧ Ext w w' := by
  have g1 : ([35, 82, 69, 70, 33] == s.toList) = false := by rw [ByteArray.toList_eq]; have := Ne.symm h1; simpa [errName] using this
  have g2 : ([35, 86, 65, 76, 85, 69, 33] == s.toList) = false := by rw [ByteArray.toList_eq]; have := Ne.symm h2; simpa [errName] using this
  have g3 : ([35, 68, 73, 86, 47, 48, 33] == s.toList) = false := by rw [ByteArray.toList_eq]; have := Ne.symm h3; simpa [errName] using this
  have g4 : ([35, 78, 85, 77, 33] == s.toList) = false := by rw [ByteArray.toList_eq]; have := Ne.symm h4; simpa [errName] using this
  have g5 : ([35, 67, 89, 67, 76, 69, 33] == s.toList) = true := by rw [ByteArray.toList_eq, h5]; decide
  clear h1 h2 h3 h4 h5
  have i0 := idx_0
  have i1 := idx_1
  have i2 := idx_2
  have i3 := idx_3
  have i4 := idx_4
  have i5 := idx_5
  have hN' := hN
  obtain ⟨hs, m0, m1, m2, m3, m4, m5⟩ := hN'
  have c1 := fun W h => err_any 5 W h
  rw [mkErr_is ⟨by decide, by decide⟩] at c1
  simp only [V.dat] at c1
  go_enter Tryd.func40, Tryd.ntmps40
  go_wp2_with fail
  refine wp_loop_rounds 7 ?_
  rw [rounds_succ]
  go_wp2_with fail
  rw [rounds_succ]
  go_wp2_with fail
  rw [rounds_succ]
  go_wp2_with fail
  rw [rounds_succ]
  go_wp2_with fail
  rw [rounds_succ]
  go_wp2_with fail
  rw [rounds_succ]
  go_wp2_with fail
  refine (c1 _ (hN.ext (by with_reducible repeat (first | assumption | exact Ext.refl _ | apply Ext.alloc | apply Ext.drewN | (refine Ext.setCell ?_ (by simp) _))))).mono ?_
  rintro r w1 ⟨rfl, E1⟩
  have X1 : Ext w w1 := Ext.trans (by with_reducible repeat (first | assumption | exact Ext.refl _ | apply Ext.alloc | apply Ext.drewN | (refine Ext.setCell ?_ (by simp) _))) E1
  have B0_1 := blk_top (b := w.heap.size) (by simp) E1
  have D0 := B0_1
  obtain ⟨b0z, ⟨b0_0, b0_1, b0_2, b0_3⟩, b0f0, b0f1, b0f2, b0f3⟩ := D0
  go_wp2_with fail
  exact finBb true (B0_1.set _ _ _ _) rfl (by with_reducible repeat (first | assumption | exact Ext.refl _ | apply Ext.alloc | apply Ext.drewN | (refine Ext.setCell ?_ (by simp) _))) (fun g0 g1 g2 g3 => by simp [results, Tryd.results40, go_sem, g0, g1, g2, g3]) (fun h => ⟨rfl, h⟩)
set_option maxRecDepth 100000 in
theorem named_6 (s : ByteArray) (w : World) (hN : Nm w) (h1 : s.data.toList ≠ errName 1) (h2 : s.data.toList ≠ errName 2) (h3 : s.data.toList ≠ errName 3) (h4 : s.data.toList ≠ errName 4) (h5 : s.data.toList ≠ errName 5) : Calls Tryd.prog 40 #[.string s] w fun r w' => r = .returned (.tuple #[(V.blank).dat, .bool false]) ∧ Ext w w' := by
  have g1 : ([35, 82, 69, 70, 33] == s.toList) = false := by rw [ByteArray.toList_eq]; have := Ne.symm h1; simpa [errName] using this
  have g2 : ([35, 86, 65, 76, 85, 69, 33] == s.toList) = false := by rw [ByteArray.toList_eq]; have := Ne.symm h2; simpa [errName] using this
  have g3 : ([35, 68, 73, 86, 47, 48, 33] == s.toList) = false := by rw [ByteArray.toList_eq]; have := Ne.symm h3; simpa [errName] using this
  have g4 : ([35, 78, 85, 77, 33] == s.toList) = false := by rw [ByteArray.toList_eq]; have := Ne.symm h4; simpa [errName] using this
  have g5 : ([35, 67, 89, 67, 76, 69, 33] == s.toList) = false := by rw [ByteArray.toList_eq]; have := Ne.symm h5; simpa [errName] using this
  clear h1 h2 h3 h4 h5
  have i0 := idx_0
  have i1 := idx_1
  have i2 := idx_2
  have i3 := idx_3
  have i4 := idx_4
  have i5 := idx_5
  have hN' := hN
  obtain ⟨hs, m0, m1, m2, m3, m4, m5⟩ := hN'
  go_enter Tryd.func40, Tryd.ntmps40
  go_wp2_with fail
  refine wp_loop_rounds 7 ?_
  rw [rounds_succ]
  go_wp2_with fail
  rw [rounds_succ]
  go_wp2_with fail
  rw [rounds_succ]
  go_wp2_with fail
  rw [rounds_succ]
  go_wp2_with fail
  rw [rounds_succ]
  go_wp2_with fail
  rw [rounds_succ]
  go_wp2_with fail
  rw [rounds_succ]
  go_wp2_with fail
  simp [bodyPost, results, Tryd.results40, go_sem]
  exact ⟨rfl, ((Ext.refl _).alloc _)⟩
theorem named_any (s : ByteArray) (w : World) (hN : Nm w) : Calls Tryd.prog 40 #[.string s] w fun r w' => r = .returned (.tuple #[(nmdR s).dat, .bool (nmdK s)]) ∧ Ext w w' := by
  unfold nmdR nmdK nameE
  by_cases h1 : s.data.toList = errName 1
  · rw [if_pos h1]; exact named_1 s w hN h1
  · rw [if_neg h1]
    by_cases h2 : s.data.toList = errName 2
    · rw [if_pos h2]; exact named_2 s w hN h1 h2
    · rw [if_neg h2]
      by_cases h3 : s.data.toList = errName 3
      · rw [if_pos h3]; exact named_3 s w hN h1 h2 h3
      · rw [if_neg h3]
        by_cases h4 : s.data.toList = errName 4
        · rw [if_pos h4]; exact named_4 s w hN h1 h2 h3 h4
        · rw [if_neg h4]
          by_cases h5 : s.data.toList = errName 5
          · rw [if_pos h5]; exact named_5 s w hN h1 h2 h3 h4 h5
          · rw [if_neg h5]; exact named_6 s w hN h1 h2 h3 h4 h5
end Go.Proofs.YtlfkiepnahgbeaaDoor
