/-
  The contract of the document's Literal.
-/
import Derived.Test.YtlfkiepnahgbeaaDoorValI
namespace Go.Proofs.YtlfkiepnahgbeaaDoor
open Go.RowKit
set_option maxHeartbeats 1000000

theorem head_eq (s : ByteArray) (h : 0 < s.size) : s.data.toList.head? = some s[0] := by
  obtain ⟨⟨l⟩⟩ := s
  cases l with
  | nil => simp [ByteArray.size] at h
  | cons c l => rfl
theorem head_is (s : ByteArray) (h : 0 < s.size) (g : s.data.toList.head? = some 39) : ((s[0].toNat : Int) == 39) = true := by
  rw [head_eq s h] at g
  have : s[0] = 39 := by simpa using g
  rw [this]; rfl
theorem head_not (s : ByteArray) (h : 0 < s.size) (g : ¬ s.data.toList.head? = some 39) : ((s[0].toNat : Int) == 39) = false := by
  rw [head_eq s h] at g
  have k : s[0] ≠ 39 := by simpa using g
  have : s[0].toNat ≠ 39 := fun e => k (UInt8.toNat_inj.1 (by rw [e]; rfl))
  simp; omega
theorem ext_drop (s : ByteArray) : s.extract 1 s.size = bs (s.data.toList.drop 1) := by
  have : (s.extract 1 s.size).data.toList = s.data.toList.drop 1 := by
    rw [Lib.extract_data, ← size_list]
    exact List.take_of_length_le (by simp)
  unfold bs
  rw [← this]
theorem quo_num (l : List UInt8) : rdK (39 :: l) = 0 := by
  have h1 : sizeL (39 :: l) = 39 :: l := rfl
  have h2 : okD (cutA (39 :: l)) = false := by
    have : cutA (39 :: l) = 39 :: cutA l := by simp [cutA]
    rw [this]; simp [okD, dgB]
  unfold rdK numB
  rw [h1, h2]; rfl
theorem num_head {s : ByteArray} (k : numK s = true) : ¬ s.data.toList.head? = some 39 := by
  intro h
  cases hl : s.data.toList with
  | nil => rw [hl] at h; cases h
  | cons c l =>
    rw [hl] at h
    obtain rfl : c = 39 := by simpa using h
    have := (numK_k s).1 k
    rw [hl, quo_num] at this
    omega
theorem lit_name {s : ByteArray} (i : Int) (hi : i = 1 ∨ i = 2 ∨ i = 3 ∨ i = 4 ∨ i = 5) (h : s.data.toList = errName i) : lit s = .err i := by
  have hk : numK s = false := by unfold numK; rw [h]; rcases hi with rfl | rfl | rfl | rfl | rfl <;> decide
  have ht : truK s = false := by unfold truK; rw [h]; rcases hi with rfl | rfl | rfl | rfl | rfl <;> decide
  have hn : nameE s.data.toList = i := by rw [h]; rcases hi with rfl | rfl | rfl | rfl | rfl <;> decide
  have he : s.data.toList ≠ [] := by rw [h]; rcases hi with rfl | rfl | rfl | rfl | rfl <;> decide
  have hq : ¬ s.data.toList.head? = some 39 := by rw [h]; rcases hi with rfl | rfl | rfl | rfl | rfl <;> decide
  rw [lit_m he hq hk ht (by unfold nmdK; rw [hn]; rcases hi with rfl | rfl | rfl | rfl | rfl <;> rfl)]
  unfold nmdR
  rw [hn, if_pos (by omega)]
theorem lit_true {s : ByteArray} (h : s.data.toList = trueL) : lit s = .tf true := by
  rw [lit_t (by rw [h]; decide) (by rw [h]; decide) (by unfold numK; rw [h]; decide) (by unfold truK; rw [h]; decide)]
  unfold truR; rw [if_pos h]
theorem lit_false {s : ByteArray} (h : s.data.toList = falseL) : lit s = .tf false := by
  rw [lit_t (by rw [h]; decide) (by rw [h]; decide) (by unfold numK; rw [h]; decide) (by unfold truK; rw [h]; decide)]
  unfold truR; rw [if_neg (by rw [h]; decide), if_pos h]
theorem nmd_no {s : ByteArray} (h1 : s.data.toList ≠ errName 1) (h2 : s.data.toList ≠ errName 2) (h3 : s.data.toList ≠ errName 3) (h4 : s.data.toList ≠ errName 4) (h5 : s.data.toList ≠ errName 5) : nmdK s = false := by
  unfold nmdK nameE; rw [if_neg h1, if_neg h2, if_neg h3, if_neg h4, if_neg h5]; rfl
theorem tru_no {s : ByteArray} (h1 : s.data.toList ≠ trueL) (h2 : s.data.toList ≠ falseL) : truK s = false := by unfold truK; simp [h1, h2]
theorem rlit_e (s : ByteArray) (w : World) (he : s.data.toList = []) : Calls Tryd.prog 21 #[.string s] w fun r w' => r = .returned (lit s).dat ∧ Ext w w' := by
  have H : Hid (lit s = .blank) := lit_e he
  have h1 : s.toList.isEmpty = true := by rw [ByteArray.toList_eq, he]; rfl
  clear he
  go_enter Tryd.func21, Tryd.ntmps21
  go_wp2_with fail
  simp [bodyPost, results, Tryd.results21, go_sem]
  exact ⟨by rw [H.out]; rfl, ((Ext.refl _).alloc _)⟩
theorem rlit_true (s : ByteArray) (w : World) (h : s.data.toList = trueL) : Calls Tryd.prog 21 #[.string s] w fun r w' => r = .returned (lit s).dat ∧ Ext w w' := by
  have H : Hid (lit s = .tf true) := lit_true h
  have h0 : s.toList.isEmpty = false := by rw [ByteArray.toList_eq, h]; rfl
  have h1 : (s.toList == [84, 82, 85, 69]) = true := by rw [ByteArray.toList_eq, h]; decide
  have h2 : (s.toList == [70, 65, 76, 83, 69]) = false := by rw [ByteArray.toList_eq, h]; decide
  have c1 := fun W => rbool_any true W
  simp only [V.dat, if_true] at c1
  clear h
  go_enter Tryd.func21, Tryd.ntmps21
  go_wp2_with fail
  refine (c1 _).mono ?_
  rintro r w1 ⟨rfl, E1⟩
  have X1 : Ext w w1 := Ext.trans (by with_reducible repeat (first | assumption | exact Ext.refl _ | apply Ext.alloc | apply Ext.drewN | (refine Ext.setCell ?_ (by simp) _))) E1
  have B0_1 := blk_top (b := w.heap.size) (by simp) E1
  have D0 := B0_1
  obtain ⟨b0z, ⟨b0_0, b0_1, b0_2, b0_3⟩, b0f0, b0f1, b0f2, b0f3⟩ := D0
  go_wp2_with fail
  exact finB (B0_1.set _ _ _ _) rfl (by with_reducible repeat (first | assumption | exact Ext.refl _ | apply Ext.alloc | apply Ext.drewN | (refine Ext.setCell ?_ (by simp) _))) (fun g0 g1 g2 g3 => by simp [results, Tryd.results21, go_sem, g0, g1, g2, g3]) (fun h => ⟨by rw [H.out]; rfl, h⟩)
theorem rlit_false (s : ByteArray) (w : World) (h : s.data.toList = falseL) : Calls Tryd.prog 21 #[.string s] w fun r w' => r = .returned (lit s).dat ∧ Ext w w' := by
  have H : Hid (lit s = .tf false) := lit_false h
  have h0 : s.toList.isEmpty = false := by rw [ByteArray.toList_eq, h]; rfl
  have h1 : (s.toList == [84, 82, 85, 69]) = false := by rw [ByteArray.toList_eq, h]; decide
  have h2 : (s.toList == [70, 65, 76, 83, 69]) = true := by rw [ByteArray.toList_eq, h]; decide
  have c1 := fun W => rbool_any false W
  simp only [V.dat, Bool.false_eq_true, if_false] at c1
  clear h
  go_enter Tryd.func21, Tryd.ntmps21
  go_wp2_with fail
  refine (c1 _).mono ?_
  rintro r w1 ⟨rfl, E1⟩
  have X1 : Ext w w1 := Ext.trans (by with_reducible repeat (first | assumption | exact Ext.refl _ | apply Ext.alloc | apply Ext.drewN | (refine Ext.setCell ?_ (by simp) _))) E1
  have B0_1 := blk_top (b := w.heap.size) (by simp) E1
  have D0 := B0_1
  obtain ⟨b0z, ⟨b0_0, b0_1, b0_2, b0_3⟩, b0f0, b0f1, b0f2, b0f3⟩ := D0
  go_wp2_with fail
  exact finB (B0_1.set _ _ _ _) rfl (by with_reducible repeat (first | assumption | exact Ext.refl _ | apply Ext.alloc | apply Ext.drewN | (refine Ext.setCell ?_ (by simp) _))) (fun g0 g1 g2 g3 => by simp [results, Tryd.results21, go_sem, g0, g1, g2, g3]) (fun h => ⟨by rw [H.out]; rfl, h⟩)
set_option maxRecDepth 100000 in
theorem rlit_1 (s : ByteArray) (w : World) (he : s.data.toList ≠ []) (ht : s.data.toList ≠ trueL) (hf : s.data.toList ≠ falseL)  (h1 : s.data.toList = errName 1) : Calls Tryd.prog 21 #[.string s] w fun r w' => r = .returned (lit s).dat ∧ Ext w w' := by
  have H : Hid (lit s = .err 1) := lit_name 1 (by decide) h1
  have h0 : s.toList.isEmpty = false := by rw [ByteArray.toList_eq]; simpa using he
  have t1 : (s.toList == [84, 82, 85, 69]) = false := by rw [ByteArray.toList_eq]; simpa [trueL] using ht
  have t2 : (s.toList == [70, 65, 76, 83, 69]) = false := by rw [ByteArray.toList_eq]; simpa [falseL] using hf
  have e1 := fun W => rerrname_any 1 W
  rw [show bs (errName 1) = ⟨#[35, 82, 69, 70, 33]⟩ from rfl] at e1
  have g1 : ([35, 82, 69, 70, 33] == s.toList) = true := by rw [ByteArray.toList_eq, h1]; decide
  have c1 := fun W => rerr_any 1 W
  rw [mkErr_is ⟨by decide, by decide⟩] at c1
  simp only [V.dat] at c1
  clear he ht hf h1
  go_enter Tryd.func21, Tryd.ntmps21
  go_wp2_with fail
  refine wp_loop_rounds 6 ?_
  rw [rounds_succ]
  go_wp2_with fail
  refine (e1 _).mono ?_
  rintro r w0 ⟨rfl, rfl⟩
  go_wp2_with fail
  refine (c1 _).mono ?_
  rintro r w1 ⟨rfl, E1⟩
  have X1 : Ext w w1 := Ext.trans (by with_reducible repeat (first | assumption | exact Ext.refl _ | apply Ext.alloc | apply Ext.drewN | (refine Ext.setCell ?_ (by simp) _))) E1
  have B0_1 := blk_top (b := w.heap.size) (by simp) E1
  have D0 := B0_1
  obtain ⟨b0z, ⟨b0_0, b0_1, b0_2, b0_3⟩, b0f0, b0f1, b0f2, b0f3⟩ := D0
  go_wp2_with fail
  exact finB (B0_1.set _ _ _ _) rfl (by with_reducible repeat (first | assumption | exact Ext.refl _ | apply Ext.alloc | apply Ext.drewN | (refine Ext.setCell ?_ (by simp) _))) (fun g0 g1 g2 g3 => by simp [results, Tryd.results21, go_sem, g0, g1, g2, g3]) (fun h => ⟨by rw [H.out]; rfl, h⟩)
set_option maxRecDepth 100000 in
theorem rlit_2 (s : ByteArray) (w : World) (he : s.data.toList ≠ []) (ht : s.data.toList ≠ trueL) (hf : s.data.toList ≠ falseL) (h1 : s.data.toList ≠ errName 1) (h2 : s.data.toList = errName 2) : Calls Tryd.prog 21 #[.string s] w fun r w' => r = .returned (lit s).dat ∧ Ext w w' := by
  have H : Hid (lit s = .err 2) := lit_name 2 (by decide) h2
  have h0 : s.toList.isEmpty = false := by rw [ByteArray.toList_eq]; simpa using he
  have t1 : (s.toList == [84, 82, 85, 69]) = false := by rw [ByteArray.toList_eq]; simpa [trueL] using ht
  have t2 : (s.toList == [70, 65, 76, 83, 69]) = false := by rw [ByteArray.toList_eq]; simpa [falseL] using hf
  have e1 := fun W => rerrname_any 1 W
  rw [show bs (errName 1) = ⟨#[35, 82, 69, 70, 33]⟩ from rfl] at e1
  have e2 := fun W => rerrname_any 2 W
  rw [show bs (errName 2) = ⟨#[35, 86, 65, 76, 85, 69, 33]⟩ from rfl] at e2
  have g1 : ([35, 82, 69, 70, 33] == s.toList) = false := by rw [ByteArray.toList_eq]; have := Ne.symm h1; simpa [errName] using this
  have g2 : ([35, 86, 65, 76, 85, 69, 33] == s.toList) = true := by rw [ByteArray.toList_eq, h2]; decide
  have c1 := fun W => rerr_any 2 W
  rw [mkErr_is ⟨by decide, by decide⟩] at c1
  simp only [V.dat] at c1
  clear he ht hf h1 h2
  go_enter Tryd.func21, Tryd.ntmps21
  go_wp2_with fail
  refine wp_loop_rounds 6 ?_
  rw [rounds_succ]
  go_wp2_with fail
  refine (e1 _).mono ?_
  rintro r w0 ⟨rfl, rfl⟩
  go_wp2_with fail
  rw [rounds_succ]
  go_wp2_with fail
  refine (e2 _).mono ?_
  rintro r w0 ⟨rfl, rfl⟩
  go_wp2_with fail
  refine (c1 _).mono ?_
  rintro r w1 ⟨rfl, E1⟩
  have X1 : Ext w w1 := Ext.trans (by with_reducible repeat (first | assumption | exact Ext.refl _ | apply Ext.alloc | apply Ext.drewN | (refine Ext.setCell ?_ (by simp) _))) E1
  have B0_1 := blk_top (b := w.heap.size) (by simp) E1
  have D0 := B0_1
  obtain ⟨b0z, ⟨b0_0, b0_1, b0_2, b0_3⟩, b0f0, b0f1, b0f2, b0f3⟩ := D0
  go_wp2_with fail
  exact finB (B0_1.set _ _ _ _) rfl (by with_reducible repeat (first | assumption | exact Ext.refl _ | apply Ext.alloc | apply Ext.drewN | (refine Ext.setCell ?_ (by simp) _))) (fun g0 g1 g2 g3 => by simp [results, Tryd.results21, go_sem, g0, g1, g2, g3]) (fun h => ⟨by rw [H.out]; rfl, h⟩)
set_option maxRecDepth 100000 in
theorem rlit_3 (s : ByteArray) (w : World) (he : s.data.toList ≠ []) (ht : s.data.toList ≠ trueL) (hf : s.data.toList ≠ falseL) (h1 : s.data.toList ≠ errName 1) (h2 : s.data.toList ≠ errName 2) (h3 : s.data.toList = errName 3) : Calls Tryd.prog 21 #[.string s] w fun r w' => r = .returned (lit s).dat ∧ Ext w w' := by
  have H : Hid (lit s = .err 3) := lit_name 3 (by decide) h3
  have h0 : s.toList.isEmpty = false := by rw [ByteArray.toList_eq]; simpa using he
  have t1 : (s.toList == [84, 82, 85, 69]) = false := by rw [ByteArray.toList_eq]; simpa [trueL] using ht
  have t2 : (s.toList == [70, 65, 76, 83, 69]) = false := by rw [ByteArray.toList_eq]; simpa [falseL] using hf
  have e1 := fun W => rerrname_any 1 W
  rw [show bs (errName 1) = ⟨#[35, 82, 69, 70, 33]⟩ from rfl] at e1
  have e2 := fun W => rerrname_any 2 W
  rw [show bs (errName 2) = ⟨#[35, 86, 65, 76, 85, 69, 33]⟩ from rfl] at e2
  have e3 := fun W => rerrname_any 3 W
  rw [show bs (errName 3) = ⟨#[35, 68, 73, 86, 47, 48, 33]⟩ from rfl] at e3
  have g1 : ([35, 82, 69, 70, 33] == s.toList) = false := by rw [ByteArray.toList_eq]; have := Ne.symm h1; simpa [errName] using this
  have g2 : ([35, 86, 65, 76, 85, 69, 33] == s.toList) = false := by rw [ByteArray.toList_eq]; have := Ne.symm h2; simpa [errName] using this
  have g3 : ([35, 68, 73, 86, 47, 48, 33] == s.toList) = true := by rw [ByteArray.toList_eq, h3]; decide
  have c1 := fun W => rerr_any 3 W
  rw [mkErr_is ⟨by decide, by decide⟩] at c1
  simp only [V.dat] at c1
  clear he ht hf h1 h2 h3
  go_enter Tryd.func21, Tryd.ntmps21
  go_wp2_with fail
  refine wp_loop_rounds 6 ?_
  rw [rounds_succ]
  go_wp2_with fail
  refine (e1 _).mono ?_
  rintro r w0 ⟨rfl, rfl⟩
  go_wp2_with fail
  rw [rounds_succ]
  go_wp2_with fail
  refine (e2 _).mono ?_
  rintro r w0 ⟨rfl, rfl⟩
  go_wp2_with fail
  rw [rounds_succ]
  go_wp2_with fail
  refine (e3 _).mono ?_
  rintro r w0 ⟨rfl, rfl⟩
  go_wp2_with fail
  refine (c1 _).mono ?_
  rintro r w1 ⟨rfl, E1⟩
  have X1 : Ext w w1 := Ext.trans (by with_reducible repeat (first | assumption | exact Ext.refl _ | apply Ext.alloc | apply Ext.drewN | (refine Ext.setCell ?_ (by simp) _))) E1
  have B0_1 := blk_top (b := w.heap.size) (by simp) E1
  have D0 := B0_1
  obtain ⟨b0z, ⟨b0_0, b0_1, b0_2, b0_3⟩, b0f0, b0f1, b0f2, b0f3⟩ := D0
  go_wp2_with fail
  exact finB (B0_1.set _ _ _ _) rfl (by with_reducible repeat (first | assumption | exact Ext.refl _ | apply Ext.alloc | apply Ext.drewN | (refine Ext.setCell ?_ (by simp) _))) (fun g0 g1 g2 g3 => by simp [results, Tryd.results21, go_sem, g0, g1, g2, g3]) (fun h => ⟨by rw [H.out]; rfl, h⟩)
set_option maxRecDepth 100000 in
theorem rlit_4 (s : ByteArray) (w : World) (he : s.data.toList ≠ []) (ht : s.data.toList ≠ trueL) (hf : s.data.toList ≠ falseL) (h1 : s.data.toList ≠ errName 1) (h2 : s.data.toList ≠ errName 2) (h3 : s.data.toList ≠ errName 3) (h4 : s.data.toList = errName 4) : Calls Tryd.prog 21 #[.string s] w fun r w' => r = .returned (lit s).dat ∧ Ext w w' := by
  have H : Hid (lit s = .err 4) := lit_name 4 (by decide) h4
  have h0 : s.toList.isEmpty = false := by rw [ByteArray.toList_eq]; simpa using he
  have t1 : (s.toList == [84, 82, 85, 69]) = false := by rw [ByteArray.toList_eq]; simpa [trueL] using ht
  have t2 : (s.toList == [70, 65, 76, 83, 69]) = false := by rw [ByteArray.toList_eq]; simpa [falseL] using hf
  have e1 := fun W => rerrname_any 1 W
  rw [show bs (errName 1) = ⟨#[35, 82, 69, 70, 33]⟩ from rfl] at e1
  have e2 := fun W => rerrname_any 2 W
  rw [show bs (errName 2) = ⟨#[35, 86, 65, 76, 85, 69, 33]⟩ from rfl] at e2
  have e3 := fun W => rerrname_any 3 W
  rw [show bs (errName 3) = ⟨#[35, 68, 73, 86, 47, 48, 33]⟩ from rfl] at e3
  have e4 := fun W => rerrname_any 4 W
  rw [show bs (errName 4) = ⟨#[35, 78, 85, 77, 33]⟩ from rfl] at e4
  have g1 : ([35, 82, 69, 70, 33] == s.toList) = false := by rw [ByteArray.toList_eq]; have := Ne.symm h1; simpa [errName] using this
  have g2 : ([35, 86, 65, 76, 85, 69, 33] == s.toList) = false := by rw [ByteArray.toList_eq]; have := Ne.symm h2; simpa [errName] using this
  have g3 : ([35, 68, 73, 86, 47, 48, 33] == s.toList) = false := by rw [ByteArray.toList_eq]; have := Ne.symm h3; simpa [errName] using this
  have g4 : ([35, 78, 85, 77, 33] == s.toList) = true := by rw [ByteArray.toList_eq, h4]; decide
  have c1 := fun W => rerr_any 4 W
  rw [mkErr_is ⟨by decide, by decide⟩] at c1
  simp only [V.dat] at c1
  clear he ht hf h1 h2 h3 h4
  go_enter Tryd.func21, Tryd.ntmps21
  go_wp2_with fail
  refine wp_loop_rounds 6 ?_
  rw [rounds_succ]
  go_wp2_with fail
  refine (e1 _).mono ?_
  rintro r w0 ⟨rfl, rfl⟩
  go_wp2_with fail
  rw [rounds_succ]
  go_wp2_with fail
  refine (e2 _).mono ?_
  rintro r w0 ⟨rfl, rfl⟩
  go_wp2_with fail
  rw [rounds_succ]
  go_wp2_with fail
  refine (e3 _).mono ?_
  rintro r w0 ⟨rfl, rfl⟩
  go_wp2_with fail
  rw [rounds_succ]
  go_wp2_with fail
  refine (e4 _).mono ?_
  rintro r w0 ⟨rfl, rfl⟩
  go_wp2_with fail
  refine (c1 _).mono ?_
  rintro r w1 ⟨rfl, E1⟩
  have X1 : Ext w w1 := Ext.trans (by with_reducible repeat (first | assumption | exact Ext.refl _ | apply Ext.alloc | apply Ext.drewN | (refine Ext.setCell ?_ (by simp) _))) E1
  have B0_1 := blk_top (b := w.heap.size) (by simp) E1
  have D0 := B0_1
  obtain ⟨b0z, ⟨b0_0, b0_1, b0_2, b0_3⟩, b0f0, b0f1, b0f2, b0f3⟩ := D0
  go_wp2_with fail
  exact finB (B0_1.set _ _ _ _) rfl (by with_reducible repeat (first | assumption | exact Ext.refl _ | apply Ext.alloc | apply Ext.drewN | (refine Ext.setCell ?_ (by simp) _))) (fun g0 g1 g2 g3 => by simp [results, Tryd.results21, go_sem, g0, g1, g2, g3]) (fun h => ⟨by rw [H.out]; rfl, h⟩)
set_option maxRecDepth 100000 in
theorem rlit_5 (s : ByteArray) (w : World) (he : s.data.toList ≠ []) (ht : s.data.toList ≠ trueL) (hf : s.data.toList ≠ falseL) (h1 : s.data.toList ≠ errName 1) (h2 : s.data.toList ≠ errName 2) (h3 : s.data.toList ≠ errName 3) (h4 : s.data.toList ≠ errName 4) (h5 : s.data.toList = errName 5) : Calls Tryd.prog 21 #[.string s] w fun r w' => r = .returned (lit s).dat ∧ Ext w w' := by
  have H : Hid (lit s = .err 5) := lit_name 5 (by decide) h5
  have h0 : s.toList.isEmpty = false := by rw [ByteArray.toList_eq]; simpa using he
  have t1 : (s.toList == [84, 82, 85, 69]) = false := by rw [ByteArray.toList_eq]; simpa [trueL] using ht
  have t2 : (s.toList == [70, 65, 76, 83, 69]) = false := by rw [ByteArray.toList_eq]; simpa [falseL] using hf
  have e1 := fun W => rerrname_any 1 W
  rw [show bs (errName 1) = ⟨#[35, 82, 69, 70, 33]⟩ from rfl] at e1
  have e2 := fun W => rerrname_any 2 W
  rw [show bs (errName 2) = ⟨#[35, 86, 65, 76, 85, 69, 33]⟩ from rfl] at e2
  have e3 := fun W => rerrname_any 3 W
  rw [show bs (errName 3) = ⟨#[35, 68, 73, 86, 47, 48, 33]⟩ from rfl] at e3
  have e4 := fun W => rerrname_any 4 W
  rw [show bs (errName 4) = ⟨#[35, 78, 85, 77, 33]⟩ from rfl] at e4
  have e5 := fun W => rerrname_any 5 W
  rw [show bs (errName 5) = ⟨#[35, 67, 89, 67, 76, 69, 33]⟩ from rfl] at e5
  have g1 : ([35, 82, 69, 70, 33] == s.toList) = false := by rw [ByteArray.toList_eq]; have := Ne.symm h1; simpa [errName] using this
  have g2 : ([35, 86, 65, 76, 85, 69, 33] == s.toList) = false := by rw [ByteArray.toList_eq]; have := Ne.symm h2; simpa [errName] using this
  have g3 : ([35, 68, 73, 86, 47, 48, 33] == s.toList) = false := by rw [ByteArray.toList_eq]; have := Ne.symm h3; simpa [errName] using this
  have g4 : ([35, 78, 85, 77, 33] == s.toList) = false := by rw [ByteArray.toList_eq]; have := Ne.symm h4; simpa [errName] using this
  have g5 : ([35, 67, 89, 67, 76, 69, 33] == s.toList) = true := by rw [ByteArray.toList_eq, h5]; decide
  have c1 := fun W => rerr_any 5 W
  rw [mkErr_is ⟨by decide, by decide⟩] at c1
  simp only [V.dat] at c1
  clear he ht hf h1 h2 h3 h4 h5
  go_enter Tryd.func21, Tryd.ntmps21
  go_wp2_with fail
  refine wp_loop_rounds 6 ?_
  rw [rounds_succ]
  go_wp2_with fail
  refine (e1 _).mono ?_
  rintro r w0 ⟨rfl, rfl⟩
  go_wp2_with fail
  rw [rounds_succ]
  go_wp2_with fail
  refine (e2 _).mono ?_
  rintro r w0 ⟨rfl, rfl⟩
  go_wp2_with fail
  rw [rounds_succ]
  go_wp2_with fail
  refine (e3 _).mono ?_
  rintro r w0 ⟨rfl, rfl⟩
  go_wp2_with fail
  rw [rounds_succ]
  go_wp2_with fail
  refine (e4 _).mono ?_
  rintro r w0 ⟨rfl, rfl⟩
  go_wp2_with fail
  rw [rounds_succ]
  go_wp2_with fail
  refine (e5 _).mono ?_
  rintro r w0 ⟨rfl, rfl⟩
  go_wp2_with fail
  refine (c1 _).mono ?_
  rintro r w1 ⟨rfl, E1⟩
  have X1 : Ext w w1 := Ext.trans (by with_reducible repeat (first | assumption | exact Ext.refl _ | apply Ext.alloc | apply Ext.drewN | (refine Ext.setCell ?_ (by simp) _))) E1
  have B0_1 := blk_top (b := w.heap.size) (by simp) E1
  have D0 := B0_1
  obtain ⟨b0z, ⟨b0_0, b0_1, b0_2, b0_3⟩, b0f0, b0f1, b0f2, b0f3⟩ := D0
  go_wp2_with fail
  exact finB (B0_1.set _ _ _ _) rfl (by with_reducible repeat (first | assumption | exact Ext.refl _ | apply Ext.alloc | apply Ext.drewN | (refine Ext.setCell ?_ (by simp) _))) (fun g0 g1 g2 g3 => by simp [results, Tryd.results21, go_sem, g0, g1, g2, g3]) (fun h => ⟨by rw [H.out]; rfl, h⟩)
set_option maxRecDepth 100000 in
theorem rlit_num (s : ByteArray) (w : World) (hs : s.size ≤ maxLen) (he : s.data.toList ≠ []) (ht : s.data.toList ≠ trueL) (hf : s.data.toList ≠ falseL) (h1 : s.data.toList ≠ errName 1) (h2 : s.data.toList ≠ errName 2) (h3 : s.data.toList ≠ errName 3) (h4 : s.data.toList ≠ errName 4) (h5 : s.data.toList ≠ errName 5) (hk : numK s = true) : Calls Tryd.prog 21 #[.string s] w fun r w' => r = .returned (lit s).dat ∧ Ext w w' := by
  have h0 : s.toList.isEmpty = false := by rw [ByteArray.toList_eq]; simpa using he
  have t1 : (s.toList == [84, 82, 85, 69]) = false := by rw [ByteArray.toList_eq]; simpa [trueL] using ht
  have t2 : (s.toList == [70, 65, 76, 83, 69]) = false := by rw [ByteArray.toList_eq]; simpa [falseL] using hf
  have e1 := fun W => rerrname_any 1 W
  rw [show bs (errName 1) = ⟨#[35, 82, 69, 70, 33]⟩ from rfl] at e1
  have e2 := fun W => rerrname_any 2 W
  rw [show bs (errName 2) = ⟨#[35, 86, 65, 76, 85, 69, 33]⟩ from rfl] at e2
  have e3 := fun W => rerrname_any 3 W
  rw [show bs (errName 3) = ⟨#[35, 68, 73, 86, 47, 48, 33]⟩ from rfl] at e3
  have e4 := fun W => rerrname_any 4 W
  rw [show bs (errName 4) = ⟨#[35, 78, 85, 77, 33]⟩ from rfl] at e4
  have e5 := fun W => rerrname_any 5 W
  rw [show bs (errName 5) = ⟨#[35, 67, 89, 67, 76, 69, 33]⟩ from rfl] at e5
  have g1 : ([35, 82, 69, 70, 33] == s.toList) = false := by rw [ByteArray.toList_eq]; have := Ne.symm h1; simpa [errName] using this
  have g2 : ([35, 86, 65, 76, 85, 69, 33] == s.toList) = false := by rw [ByteArray.toList_eq]; have := Ne.symm h2; simpa [errName] using this
  have g3 : ([35, 68, 73, 86, 47, 48, 33] == s.toList) = false := by rw [ByteArray.toList_eq]; have := Ne.symm h3; simpa [errName] using this
  have g4 : ([35, 78, 85, 77, 33] == s.toList) = false := by rw [ByteArray.toList_eq]; have := Ne.symm h4; simpa [errName] using this
  have g5 : ([35, 67, 89, 67, 76, 69, 33] == s.toList) = false := by rw [ByteArray.toList_eq]; have := Ne.symm h5; simpa [errName] using this
  have c1 := fun W => rread_any s W hs
  rw [hk] at c1
  have er : redR s = numR s := by
    unfold redR numR
    rcases (numK_k s).1 hk with k | k <;> rw [k] <;> rfl
  rw [er] at c1
  obtain ⟨u0, u1, u2, u3, uh⟩ := dat4 (numR s)
  rw [uh] at c1
  have H : Hid ((lit s).dat = .agg #[.int .i64 u0, .int .i64 u1, .string u2, .int .i64 u3]) := by show (lit s).dat = _; rw [lit_n he (num_head hk) hk]; exact uh
  clear uh er hk hs
  clear he ht hf h1 h2 h3 h4 h5
  go_enter Tryd.func21, Tryd.ntmps21
  go_wp2_with fail
  refine wp_loop_rounds 6 ?_
  rw [rounds_succ]
  go_wp2_with fail
  refine (e1 _).mono ?_
  rintro r w0 ⟨rfl, rfl⟩
  go_wp2_with fail
  rw [rounds_succ]
  go_wp2_with fail
  refine (e2 _).mono ?_
  rintro r w0 ⟨rfl, rfl⟩
  go_wp2_with fail
  rw [rounds_succ]
  go_wp2_with fail
  refine (e3 _).mono ?_
  rintro r w0 ⟨rfl, rfl⟩
  go_wp2_with fail
  rw [rounds_succ]
  go_wp2_with fail
  refine (e4 _).mono ?_
  rintro r w0 ⟨rfl, rfl⟩
  go_wp2_with fail
  rw [rounds_succ]
  go_wp2_with fail
  refine (e5 _).mono ?_
  rintro r w0 ⟨rfl, rfl⟩
  go_wp2_with fail
  rw [rounds_succ]
  go_wp2_with fail
  refine (c1 _).mono ?_
  rintro r w1 ⟨rfl, E1⟩
  have X1 : Ext w w1 := Ext.trans (by with_reducible repeat (first | assumption | exact Ext.refl _ | apply Ext.alloc | apply Ext.drewN | (refine Ext.setCell ?_ (by simp) _))) E1
  have B0_1 := blk_top (b := w.heap.size) (by simp) E1
  have D0 := B0_1
  obtain ⟨b0z, ⟨b0_0, b0_1, b0_2, b0_3⟩, b0f0, b0f1, b0f2, b0f3⟩ := D0
  go_wp2_with fail
  exact finB ((B0_1.set _ _ _ _).ext ((Ext.refl _).alloc _)) rfl (by with_reducible repeat (first | assumption | exact Ext.refl _ | apply Ext.alloc | apply Ext.drewN | (refine Ext.setCell ?_ (by simp) _))) (fun g0 g1 g2 g3 => by simp [results, Tryd.results21, go_sem, g0, g1, g2, g3]) (fun h => ⟨by rw [H.out], h⟩)
set_option maxRecDepth 100000 in
theorem rlit_quo (s : ByteArray) (w : World) (hs : s.size ≤ maxLen) (he : s.data.toList ≠ []) (ht : s.data.toList ≠ trueL) (hf : s.data.toList ≠ falseL) (h1 : s.data.toList ≠ errName 1) (h2 : s.data.toList ≠ errName 2) (h3 : s.data.toList ≠ errName 3) (h4 : s.data.toList ≠ errName 4) (h5 : s.data.toList ≠ errName 5) (hk : numK s = false) (hq : s.data.toList.head? = some 39) : Calls Tryd.prog 21 #[.string s] w fun r w' => r = .returned (lit s).dat ∧ Ext w w' := by
  have h0 : s.toList.isEmpty = false := by rw [ByteArray.toList_eq]; simpa using he
  have t1 : (s.toList == [84, 82, 85, 69]) = false := by rw [ByteArray.toList_eq]; simpa [trueL] using ht
  have t2 : (s.toList == [70, 65, 76, 83, 69]) = false := by rw [ByteArray.toList_eq]; simpa [falseL] using hf
  have e1 := fun W => rerrname_any 1 W
  rw [show bs (errName 1) = ⟨#[35, 82, 69, 70, 33]⟩ from rfl] at e1
  have e2 := fun W => rerrname_any 2 W
  rw [show bs (errName 2) = ⟨#[35, 86, 65, 76, 85, 69, 33]⟩ from rfl] at e2
  have e3 := fun W => rerrname_any 3 W
  rw [show bs (errName 3) = ⟨#[35, 68, 73, 86, 47, 48, 33]⟩ from rfl] at e3
  have e4 := fun W => rerrname_any 4 W
  rw [show bs (errName 4) = ⟨#[35, 78, 85, 77, 33]⟩ from rfl] at e4
  have e5 := fun W => rerrname_any 5 W
  rw [show bs (errName 5) = ⟨#[35, 67, 89, 67, 76, 69, 33]⟩ from rfl] at e5
  have g1 : ([35, 82, 69, 70, 33] == s.toList) = false := by rw [ByteArray.toList_eq]; have := Ne.symm h1; simpa [errName] using this
  have g2 : ([35, 86, 65, 76, 85, 69, 33] == s.toList) = false := by rw [ByteArray.toList_eq]; have := Ne.symm h2; simpa [errName] using this
  have g3 : ([35, 68, 73, 86, 47, 48, 33] == s.toList) = false := by rw [ByteArray.toList_eq]; have := Ne.symm h3; simpa [errName] using this
  have g4 : ([35, 78, 85, 77, 33] == s.toList) = false := by rw [ByteArray.toList_eq]; have := Ne.symm h4; simpa [errName] using this
  have g5 : ([35, 67, 89, 67, 76, 69, 33] == s.toList) = false := by rw [ByteArray.toList_eq]; have := Ne.symm h5; simpa [errName] using this
  have c1 := fun W => rread_any s W hs
  rw [hk] at c1
  obtain ⟨u0, u1, u2, u3, uh⟩ := dat4 (redR s)
  rw [uh] at c1
  have hz : 0 < s.size := by rw [← size_list]; exact List.length_pos_iff.2 he
  have hz1 : (1 : Int) ≤ (s.size : Int) := by omega
  have hh : ((s[0].toNat : Int) == 39) = true := head_is s hz hq
  have c2 := fun W => rtext_any (s.extract 1 s.size) W
  obtain ⟨x0, x1, x2, x3, xh⟩ := dat4 (mkText (s.extract 1 s.size))
  rw [xh] at c2
  have H : Hid ((lit s).dat = .agg #[.int .i64 x0, .int .i64 x1, .string x2, .int .i64 x3]) := by show (lit s).dat = _; rw [lit_q he hq, ← ext_drop s]; exact xh
  unfold maxLen at hs
  clear uh xh hk hq
  clear he ht hf h1 h2 h3 h4 h5
  go_enter Tryd.func21, Tryd.ntmps21
  go_wp2_with fail
  refine wp_loop_rounds 6 ?_
  rw [rounds_succ]
  go_wp2_with fail
  refine (e1 _).mono ?_
  rintro r w0 ⟨rfl, rfl⟩
  go_wp2_with fail
  rw [rounds_succ]
  go_wp2_with fail
  refine (e2 _).mono ?_
  rintro r w0 ⟨rfl, rfl⟩
  go_wp2_with fail
  rw [rounds_succ]
  go_wp2_with fail
  refine (e3 _).mono ?_
  rintro r w0 ⟨rfl, rfl⟩
  go_wp2_with fail
  rw [rounds_succ]
  go_wp2_with fail
  refine (e4 _).mono ?_
  rintro r w0 ⟨rfl, rfl⟩
  go_wp2_with fail
  rw [rounds_succ]
  go_wp2_with fail
  refine (e5 _).mono ?_
  rintro r w0 ⟨rfl, rfl⟩
  go_wp2_with fail
  rw [rounds_succ]
  go_wp2_with fail
  refine (c1 _).mono ?_
  rintro r w1 ⟨rfl, E1⟩
  have X1 : Ext w w1 := Ext.trans (by with_reducible repeat (first | assumption | exact Ext.refl _ | apply Ext.alloc | apply Ext.drewN | (refine Ext.setCell ?_ (by simp) _))) E1
  have B0_1 := blk_top (b := w.heap.size) (by simp) E1
  have D0 := B0_1
  obtain ⟨b0z, ⟨b0_0, b0_1, b0_2, b0_3⟩, b0f0, b0f1, b0f2, b0f3⟩ := D0
  go_wp2_with fail
  refine (c2 _).mono ?_
  rintro r w2 ⟨rfl, E2⟩
  have X2 : Ext w w2 := Ext.trans (by with_reducible repeat (first | assumption | exact Ext.refl _ | apply Ext.alloc | apply Ext.drewN | (refine Ext.setCell ?_ (by simp) _))) E2
  have B0_2 := (B0_1.ext ((Ext.refl _).alloc _)).ext E2
  have D0 := B0_2
  obtain ⟨b0z, ⟨b0_0, b0_1, b0_2, b0_3⟩, b0f0, b0f1, b0f2, b0f3⟩ := D0
  go_wp2_with fail
  exact finB (B0_2.set _ _ _ _) rfl (by with_reducible repeat (first | assumption | exact Ext.refl _ | apply Ext.alloc | apply Ext.drewN | (refine Ext.setCell ?_ (by simp) _))) (fun g0 g1 g2 g3 => by simp [results, Tryd.results21, go_sem, g0, g1, g2, g3]) (fun h => ⟨by rw [H.out], h⟩)
set_option maxRecDepth 100000 in
theorem rlit_text (s : ByteArray) (w : World) (hs : s.size ≤ maxLen) (he : s.data.toList ≠ []) (ht : s.data.toList ≠ trueL) (hf : s.data.toList ≠ falseL) (h1 : s.data.toList ≠ errName 1) (h2 : s.data.toList ≠ errName 2) (h3 : s.data.toList ≠ errName 3) (h4 : s.data.toList ≠ errName 4) (h5 : s.data.toList ≠ errName 5) (hk : numK s = false) (hq : ¬ s.data.toList.head? = some 39) : Calls Tryd.prog 21 #[.string s] w fun r w' => r = .returned (lit s).dat ∧ Ext w w' := by
  have h0 : s.toList.isEmpty = false := by rw [ByteArray.toList_eq]; simpa using he
  have t1 : (s.toList == [84, 82, 85, 69]) = false := by rw [ByteArray.toList_eq]; simpa [trueL] using ht
  have t2 : (s.toList == [70, 65, 76, 83, 69]) = false := by rw [ByteArray.toList_eq]; simpa [falseL] using hf
  have e1 := fun W => rerrname_any 1 W
  rw [show bs (errName 1) = ⟨#[35, 82, 69, 70, 33]⟩ from rfl] at e1
  have e2 := fun W => rerrname_any 2 W
  rw [show bs (errName 2) = ⟨#[35, 86, 65, 76, 85, 69, 33]⟩ from rfl] at e2
  have e3 := fun W => rerrname_any 3 W
  rw [show bs (errName 3) = ⟨#[35, 68, 73, 86, 47, 48, 33]⟩ from rfl] at e3
  have e4 := fun W => rerrname_any 4 W
  rw [show bs (errName 4) = ⟨#[35, 78, 85, 77, 33]⟩ from rfl] at e4
  have e5 := fun W => rerrname_any 5 W
  rw [show bs (errName 5) = ⟨#[35, 67, 89, 67, 76, 69, 33]⟩ from rfl] at e5
  have g1 : ([35, 82, 69, 70, 33] == s.toList) = false := by rw [ByteArray.toList_eq]; have := Ne.symm h1; simpa [errName] using this
  have g2 : ([35, 86, 65, 76, 85, 69, 33] == s.toList) = false := by rw [ByteArray.toList_eq]; have := Ne.symm h2; simpa [errName] using this
  have g3 : ([35, 68, 73, 86, 47, 48, 33] == s.toList) = false := by rw [ByteArray.toList_eq]; have := Ne.symm h3; simpa [errName] using this
  have g4 : ([35, 78, 85, 77, 33] == s.toList) = false := by rw [ByteArray.toList_eq]; have := Ne.symm h4; simpa [errName] using this
  have g5 : ([35, 67, 89, 67, 76, 69, 33] == s.toList) = false := by rw [ByteArray.toList_eq]; have := Ne.symm h5; simpa [errName] using this
  have c1 := fun W => rread_any s W hs
  rw [hk] at c1
  obtain ⟨u0, u1, u2, u3, uh⟩ := dat4 (redR s)
  rw [uh] at c1
  have hz : 0 < s.size := by rw [← size_list]; exact List.length_pos_iff.2 he
  have hz1 : (1 : Int) ≤ (s.size : Int) := by omega
  have hh : ((s[0].toNat : Int) == 39) = false := head_not s hz hq
  have c2 := fun W => rtext_any s W
  obtain ⟨x0, x1, x2, x3, xh⟩ := dat4 (mkText s)
  rw [xh] at c2
  have H : Hid ((lit s).dat = .agg #[.int .i64 x0, .int .i64 x1, .string x2, .int .i64 x3]) := by show (lit s).dat = _; rw [lit_x he hq hk (tru_no ht hf) (nmd_no h1 h2 h3 h4 h5)]; exact xh
  unfold maxLen at hs
  clear uh xh hk hq
  clear he ht hf h1 h2 h3 h4 h5
  go_enter Tryd.func21, Tryd.ntmps21
  go_wp2_with fail
  refine wp_loop_rounds 6 ?_
  rw [rounds_succ]
  go_wp2_with fail
  refine (e1 _).mono ?_
  rintro r w0 ⟨rfl, rfl⟩
  go_wp2_with fail
  rw [rounds_succ]
  go_wp2_with fail
  refine (e2 _).mono ?_
  rintro r w0 ⟨rfl, rfl⟩
  go_wp2_with fail
  rw [rounds_succ]
  go_wp2_with fail
  refine (e3 _).mono ?_
  rintro r w0 ⟨rfl, rfl⟩
  go_wp2_with fail
  rw [rounds_succ]
  go_wp2_with fail
  refine (e4 _).mono ?_
  rintro r w0 ⟨rfl, rfl⟩
  go_wp2_with fail
  rw [rounds_succ]
  go_wp2_with fail
  refine (e5 _).mono ?_
  rintro r w0 ⟨rfl, rfl⟩
  go_wp2_with fail
  rw [rounds_succ]
  go_wp2_with fail
  refine (c1 _).mono ?_
  rintro r w1 ⟨rfl, E1⟩
  have X1 : Ext w w1 := Ext.trans (by with_reducible repeat (first | assumption | exact Ext.refl _ | apply Ext.alloc | apply Ext.drewN | (refine Ext.setCell ?_ (by simp) _))) E1
  have B0_1 := blk_top (b := w.heap.size) (by simp) E1
  have D0 := B0_1
  obtain ⟨b0z, ⟨b0_0, b0_1, b0_2, b0_3⟩, b0f0, b0f1, b0f2, b0f3⟩ := D0
  go_wp2_with fail
  refine (c2 _).mono ?_
  rintro r w2 ⟨rfl, E2⟩
  have X2 : Ext w w2 := Ext.trans (by with_reducible repeat (first | assumption | exact Ext.refl _ | apply Ext.alloc | apply Ext.drewN | (refine Ext.setCell ?_ (by simp) _))) E2
  have B0_2 := (B0_1.ext ((Ext.refl _).alloc _)).ext E2
  have D0 := B0_2
  obtain ⟨b0z, ⟨b0_0, b0_1, b0_2, b0_3⟩, b0f0, b0f1, b0f2, b0f3⟩ := D0
  go_wp2_with fail
  exact finB (B0_2.set _ _ _ _) rfl (by with_reducible repeat (first | assumption | exact Ext.refl _ | apply Ext.alloc | apply Ext.drewN | (refine Ext.setCell ?_ (by simp) _))) (fun g0 g1 g2 g3 => by simp [results, Tryd.results21, go_sem, g0, g1, g2, g3]) (fun h => ⟨by rw [H.out], h⟩)
theorem rliteral_any (s : ByteArray) (w : World) (hs : s.size ≤ maxLen) : Calls Tryd.prog 21 #[.string s] w fun r w' => r = .returned (lit s).dat ∧ Ext w w' := by
  by_cases he : s.data.toList = []
  · exact rlit_e s w he
  · by_cases ht : s.data.toList = trueL
    · exact rlit_true s w ht
    · by_cases hf : s.data.toList = falseL
      · exact rlit_false s w hf
      · by_cases h1 : s.data.toList = errName 1
        · exact rlit_1 s w he ht hf h1
        · by_cases h2 : s.data.toList = errName 2
          · exact rlit_2 s w he ht hf h1 h2
          · by_cases h3 : s.data.toList = errName 3
            · exact rlit_3 s w he ht hf h1 h2 h3
            · by_cases h4 : s.data.toList = errName 4
              · exact rlit_4 s w he ht hf h1 h2 h3 h4
              · by_cases h5 : s.data.toList = errName 5
                · exact rlit_5 s w he ht hf h1 h2 h3 h4 h5
                · cases hk : numK s
                  · by_cases hq : s.data.toList.head? = some 39
                    · exact rlit_quo s w hs he ht hf h1 h2 h3 h4 h5 hk hq
                    · exact rlit_text s w hs he ht hf h1 h2 h3 h4 h5 hk hq
                  · exact rlit_num s w hs he ht hf h1 h2 h3 h4 h5 hk
end Go.Proofs.YtlfkiepnahgbeaaDoor
