/-
  The contract of package value's Literal.
-/
import Derived.Test.YtlfkiepnahgbeaaDoorValH
namespace Go.Proofs.YtlfkiepnahgbeaaDoor
open Go.RowKit
set_option maxHeartbeats 1000000

theorem quo_pre (l : List UInt8) : Lib.hasPrefix l [39] = decide (l.head? = some 39) := by
  cases l with
  | nil => rfl
  | cons c l =>
    simp [Lib.hasPrefix, List.isPrefixOf]
    by_cases h : c = 39
    · subst h; rfl
    · have h1 : (39 == c) = false := by simpa using fun e => h e.symm
      simp [h, h1]
theorem quo_cut (l : List UInt8) (h : l.head? = some 39) : Lib.trimPrefix l [39] = l.drop 1 := by
  unfold Lib.trimPrefix; rw [quo_pre, decide_eq_true h]; rfl
theorem numK_k (s : ByteArray) : numK s = true ↔ rdK s.data.toList = 1 ∨ rdK s.data.toList = 2 := by unfold numK; simp
theorem lit_e {s : ByteArray} (h : s.data.toList = []) : lit s = .blank := by unfold lit; rw [if_pos h]
theorem lit_q {s : ByteArray} (h : s.data.toList ≠ []) (g : s.data.toList.head? = some 39) : lit s = mkText (bs (s.data.toList.drop 1)) := by unfold lit; rw [if_neg h, if_pos g]
theorem lit_n {s : ByteArray} (h : s.data.toList ≠ []) (g : ¬ s.data.toList.head? = some 39) (k : numK s = true) : lit s = numR s := by
  unfold lit numR; rw [if_neg h, if_neg g]
  rcases (numK_k s).1 k with k | k
  · rw [if_pos k, if_pos k]
  · rw [k]; rfl
theorem not_num {s : ByteArray} (k : numK s = false) : rdK s.data.toList ≠ 1 ∧ rdK s.data.toList ≠ 2 := by
  constructor <;> (intro h; have := (numK_k s).2 (by simp [h]); rw [k] at this; cases this)
theorem lit_t {s : ByteArray} (h : s.data.toList ≠ []) (g : ¬ s.data.toList.head? = some 39) (k : numK s = false) (t : truK s = true) : lit s = truR s := by
  unfold lit truR; rw [if_neg h, if_neg g, if_neg (not_num k).1, if_neg (not_num k).2]
  unfold truK at t; simp at t
  rcases t with t | t
  · rw [if_pos t, if_pos t]
  · rw [if_pos t, if_pos t]
theorem not_tru {s : ByteArray} (t : truK s = false) : s.data.toList ≠ trueL ∧ s.data.toList ≠ falseL := by unfold truK at t; simpa using t
theorem lit_m {s : ByteArray} (h : s.data.toList ≠ []) (g : ¬ s.data.toList.head? = some 39) (k : numK s = false) (t : truK s = false) (m : nmdK s = true) : lit s = nmdR s := by
  unfold lit nmdR; rw [if_neg h, if_neg g, if_neg (not_num k).1, if_neg (not_num k).2, if_neg (not_tru t).1, if_neg (not_tru t).2]
  have : nameE s.data.toList ≠ 0 := by unfold nmdK at m; simpa using m
  rw [if_pos this, if_pos this]
theorem lit_x {s : ByteArray} (h : s.data.toList ≠ []) (g : ¬ s.data.toList.head? = some 39) (k : numK s = false) (t : truK s = false) (m : nmdK s = false) : lit s = mkText s := by
  unfold lit; rw [if_neg h, if_neg g, if_neg (not_num k).1, if_neg (not_num k).2, if_neg (not_tru t).1, if_neg (not_tru t).2]
  have : ¬ nameE s.data.toList ≠ 0 := by unfold nmdK at m; simpa using m
  rw [if_neg this]
theorem literal_any (s : ByteArray) (w : World) (hs : s.size ≤ maxLen) (hN : Nm w) : Calls Tryd.prog 20 #[.string s] w fun r w' => r = .returned (lit s).dat ∧ Ext w w' := by
  have c1 := fun W => Tryd.strings_CutPrefix s ⟨#[39]⟩ W
  rw [show (⟨#[39]⟩ : ByteArray).data.toList = [39] from rfl, quo_pre] at c1
  have c2 := fun W h => numeral_any s W hs h
  have c3 := fun W => truth_any s W
  have c4 := fun W h => named_any s W h
  have c5 := fun W h => vtext_any s W h
  clear hs
  by_cases he : s.data.toList = []
  · have H : Hid (lit s = .blank) := lit_e he
    have h1 : s.toList.isEmpty = true := by rw [ByteArray.toList_eq, he]; rfl
    clear c1 c2 c3 c4 c5 he
    go_enter Tryd.func20, Tryd.ntmps20
    go_wp2_with fail
    simp [bodyPost, results, Tryd.results20, go_sem]
    exact ⟨by rw [H.out]; rfl, ((Ext.refl _).alloc _)⟩
  · have h1 : s.toList.isEmpty = false := by rw [ByteArray.toList_eq]; simpa using he
    by_cases hq : s.data.toList.head? = some 39
    · rw [decide_eq_true hq, quo_cut _ hq] at c1
      have c6 := fun W h => vtext_any (bs (s.data.toList.drop 1)) W h
      have c7 : ∀ W, Calls Tryd.prog 37 #[.string s, .string ⟨#[39]⟩] W fun e w' => e = .returned (.tuple #[.string (bs (s.data.toList.drop 1)), .bool true]) ∧ w' = W := c1
      obtain ⟨q0, q1, q2, q3, hq'⟩ := dat4 (mkText (bs (s.data.toList.drop 1)))
      rw [hq'] at c6
      have H : Hid ((lit s).dat = .agg #[.int .i64 q0, .int .i64 q1, .string q2, .int .i64 q3]) := by show (lit s).dat = _; rw [lit_q he hq]; exact hq'
      generalize bs (s.data.toList.drop 1) = t at *
      clear c1 c2 c3 c4 c5 he hq hq'
      go_enter Tryd.func20, Tryd.ntmps20
      go_wp2_with fail
      refine (c7 _).mono ?_
      rintro r w0 ⟨rfl, rfl⟩
      go_wp2_with fail
      refine (c6 _ (hN.ext (by with_reducible repeat (first | assumption | exact Ext.refl _ | apply Ext.alloc | apply Ext.drewN | (refine Ext.setCell ?_ (by simp) _))))).mono ?_
      rintro r w1 ⟨rfl, E1⟩
      have X1 : Ext w w1 := Ext.trans (by with_reducible repeat (first | assumption | exact Ext.refl _ | apply Ext.alloc | apply Ext.drewN | (refine Ext.setCell ?_ (by simp) _))) E1
      have B0_1 := blk_top (b := w.heap.size) (by simp) E1
      have D0 := B0_1
      obtain ⟨b0z, ⟨b0_0, b0_1, b0_2, b0_3⟩, b0f0, b0f1, b0f2, b0f3⟩ := D0
      go_wp2_with fail
      exact finB (B0_1.set _ _ _ _) rfl (by with_reducible repeat (first | assumption | exact Ext.refl _ | apply Ext.alloc | apply Ext.drewN | (refine Ext.setCell ?_ (by simp) _))) (fun g0 g1 g2 g3 => by simp [results, Tryd.results20, go_sem, g0, g1, g2, g3]) (fun h => ⟨by rw [H.out], h⟩)
    · rw [decide_eq_false hq] at c1
      generalize (⟨(Lib.trimPrefix s.data.toList [39]).toArray⟩ : ByteArray) = t at c1
      obtain ⟨u0, u1, u2, u3, uh⟩ := dat4 (numR s)
      rw [uh] at c2
      cases hk : numK s
      · rw [hk] at c2
        obtain ⟨v0, v1, v2, v3, vh⟩ := dat4 (truR s)
        rw [vh] at c3
        cases ht : truK s
        · rw [ht] at c3
          obtain ⟨m0, m1, m2, m3, mh⟩ := dat4 (nmdR s)
          rw [mh] at c4
          cases hm : nmdK s
          · rw [hm] at c4
            obtain ⟨x0, x1, x2, x3, xh⟩ := dat4 (mkText s)
            rw [xh] at c5
            have H : Hid ((lit s).dat = .agg #[.int .i64 x0, .int .i64 x1, .string x2, .int .i64 x3]) := by show (lit s).dat = _; rw [lit_x he hq hk ht hm]; exact xh
            clear he hq hk ht hm uh vh mh xh
            go_enter Tryd.func20, Tryd.ntmps20
            go_wp2_with fail
            refine (c1 _).mono ?_
            rintro r w0 ⟨rfl, rfl⟩
            go_wp2_with fail
            refine (c2 _ (hN.ext (by with_reducible repeat (first | assumption | exact Ext.refl _ | apply Ext.alloc | apply Ext.drewN | (refine Ext.setCell ?_ (by simp) _))))).mono ?_
            rintro r w1 ⟨rfl, E1⟩
            have X1 : Ext w w1 := Ext.trans (by with_reducible repeat (first | assumption | exact Ext.refl _ | apply Ext.alloc | apply Ext.drewN | (refine Ext.setCell ?_ (by simp) _))) E1
            have B0_1 := blk_top (b := w.heap.size) (by simp) E1
            have D0 := B0_1
            obtain ⟨b0z, ⟨b0_0, b0_1, b0_2, b0_3⟩, b0f0, b0f1, b0f2, b0f3⟩ := D0
            go_wp2_with fail
            refine (c3 _).mono ?_
            rintro r w2 ⟨rfl, E2⟩
            have X2 : Ext w w2 := Ext.trans (by with_reducible repeat (first | assumption | exact Ext.refl _ | apply Ext.alloc | apply Ext.drewN | (refine Ext.setCell ?_ (by simp) _))) E2
            have B0_2 := (B0_1.ext ((Ext.refl _).alloc _)).ext E2
            have D0 := B0_2
            obtain ⟨b0z, ⟨b0_0, b0_1, b0_2, b0_3⟩, b0f0, b0f1, b0f2, b0f3⟩ := D0
            go_wp2_with fail
            refine (c4 _ (hN.ext (by with_reducible repeat (first | assumption | exact Ext.refl _ | apply Ext.alloc | apply Ext.drewN | (refine Ext.setCell ?_ (by simp) _))))).mono ?_
            rintro r w3 ⟨rfl, E3⟩
            have X3 : Ext w w3 := Ext.trans (by with_reducible repeat (first | assumption | exact Ext.refl _ | apply Ext.alloc | apply Ext.drewN | (refine Ext.setCell ?_ (by simp) _))) E3
            have B0_3 := (B0_2.ext ((Ext.refl _).alloc _)).ext E3
            have D0 := B0_3
            obtain ⟨b0z, ⟨b0_0, b0_1, b0_2, b0_3⟩, b0f0, b0f1, b0f2, b0f3⟩ := D0
            go_wp2_with fail
            refine (c5 _ (hN.ext (by with_reducible repeat (first | assumption | exact Ext.refl _ | apply Ext.alloc | apply Ext.drewN | (refine Ext.setCell ?_ (by simp) _))))).mono ?_
            rintro r w4 ⟨rfl, E4⟩
            have X4 : Ext w w4 := Ext.trans (by with_reducible repeat (first | assumption | exact Ext.refl _ | apply Ext.alloc | apply Ext.drewN | (refine Ext.setCell ?_ (by simp) _))) E4
            have B0_4 := (B0_3.ext ((Ext.refl _).alloc _)).ext E4
            have D0 := B0_4
            obtain ⟨b0z, ⟨b0_0, b0_1, b0_2, b0_3⟩, b0f0, b0f1, b0f2, b0f3⟩ := D0
            go_wp2_with fail
            exact finB (B0_4.set _ _ _ _) rfl (by with_reducible repeat (first | assumption | exact Ext.refl _ | apply Ext.alloc | apply Ext.drewN | (refine Ext.setCell ?_ (by simp) _))) (fun g0 g1 g2 g3 => by simp [results, Tryd.results20, go_sem, g0, g1, g2, g3]) (fun h => ⟨by rw [H.out], h⟩)
          · rw [hm] at c4
            have H : Hid ((lit s).dat = .agg #[.int .i64 m0, .int .i64 m1, .string m2, .int .i64 m3]) := by show (lit s).dat = _; rw [lit_m he hq hk ht hm]; exact mh
            clear he hq hk ht hm uh vh mh c5
            go_enter Tryd.func20, Tryd.ntmps20
            go_wp2_with fail
            refine (c1 _).mono ?_
            rintro r w0 ⟨rfl, rfl⟩
            go_wp2_with fail
            refine (c2 _ (hN.ext (by with_reducible repeat (first | assumption | exact Ext.refl _ | apply Ext.alloc | apply Ext.drewN | (refine Ext.setCell ?_ (by simp) _))))).mono ?_
            rintro r w1 ⟨rfl, E1⟩
            have X1 : Ext w w1 := Ext.trans (by with_reducible repeat (first | assumption | exact Ext.refl _ | apply Ext.alloc | apply Ext.drewN | (refine Ext.setCell ?_ (by simp) _))) E1
            have B0_1 := blk_top (b := w.heap.size) (by simp) E1
            have D0 := B0_1
            obtain ⟨b0z, ⟨b0_0, b0_1, b0_2, b0_3⟩, b0f0, b0f1, b0f2, b0f3⟩ := D0
            go_wp2_with fail
            refine (c3 _).mono ?_
            rintro r w2 ⟨rfl, E2⟩
            have X2 : Ext w w2 := Ext.trans (by with_reducible repeat (first | assumption | exact Ext.refl _ | apply Ext.alloc | apply Ext.drewN | (refine Ext.setCell ?_ (by simp) _))) E2
            have B0_2 := (B0_1.ext ((Ext.refl _).alloc _)).ext E2
            have D0 := B0_2
            obtain ⟨b0z, ⟨b0_0, b0_1, b0_2, b0_3⟩, b0f0, b0f1, b0f2, b0f3⟩ := D0
            go_wp2_with fail
            refine (c4 _ (hN.ext (by with_reducible repeat (first | assumption | exact Ext.refl _ | apply Ext.alloc | apply Ext.drewN | (refine Ext.setCell ?_ (by simp) _))))).mono ?_
            rintro r w3 ⟨rfl, E3⟩
            have X3 : Ext w w3 := Ext.trans (by with_reducible repeat (first | assumption | exact Ext.refl _ | apply Ext.alloc | apply Ext.drewN | (refine Ext.setCell ?_ (by simp) _))) E3
            have B0_3 := (B0_2.ext ((Ext.refl _).alloc _)).ext E3
            have D0 := B0_3
            obtain ⟨b0z, ⟨b0_0, b0_1, b0_2, b0_3⟩, b0f0, b0f1, b0f2, b0f3⟩ := D0
            go_wp2_with fail
            exact finB ((B0_3.set _ _ _ _).ext ((Ext.refl _).alloc _)) rfl (by with_reducible repeat (first | assumption | exact Ext.refl _ | apply Ext.alloc | apply Ext.drewN | (refine Ext.setCell ?_ (by simp) _))) (fun g0 g1 g2 g3 => by simp [results, Tryd.results20, go_sem, g0, g1, g2, g3]) (fun h => ⟨by rw [H.out], h⟩)
        · rw [ht] at c3
          have H : Hid ((lit s).dat = .agg #[.int .i64 v0, .int .i64 v1, .string v2, .int .i64 v3]) := by show (lit s).dat = _; rw [lit_t he hq hk ht]; exact vh
          clear he hq hk ht uh vh c4 c5
          go_enter Tryd.func20, Tryd.ntmps20
          go_wp2_with fail
          refine (c1 _).mono ?_
          rintro r w0 ⟨rfl, rfl⟩
          go_wp2_with fail
          refine (c2 _ (hN.ext (by with_reducible repeat (first | assumption | exact Ext.refl _ | apply Ext.alloc | apply Ext.drewN | (refine Ext.setCell ?_ (by simp) _))))).mono ?_
          rintro r w1 ⟨rfl, E1⟩
          have X1 : Ext w w1 := Ext.trans (by with_reducible repeat (first | assumption | exact Ext.refl _ | apply Ext.alloc | apply Ext.drewN | (refine Ext.setCell ?_ (by simp) _))) E1
          have B0_1 := blk_top (b := w.heap.size) (by simp) E1
          have D0 := B0_1
          obtain ⟨b0z, ⟨b0_0, b0_1, b0_2, b0_3⟩, b0f0, b0f1, b0f2, b0f3⟩ := D0
          go_wp2_with fail
          refine (c3 _).mono ?_
          rintro r w2 ⟨rfl, E2⟩
          have X2 : Ext w w2 := Ext.trans (by with_reducible repeat (first | assumption | exact Ext.refl _ | apply Ext.alloc | apply Ext.drewN | (refine Ext.setCell ?_ (by simp) _))) E2
          have B0_2 := (B0_1.ext ((Ext.refl _).alloc _)).ext E2
          have D0 := B0_2
          obtain ⟨b0z, ⟨b0_0, b0_1, b0_2, b0_3⟩, b0f0, b0f1, b0f2, b0f3⟩ := D0
          go_wp2_with fail
          exact finB ((B0_2.set _ _ _ _).ext ((Ext.refl _).alloc _)) rfl (by with_reducible repeat (first | assumption | exact Ext.refl _ | apply Ext.alloc | apply Ext.drewN | (refine Ext.setCell ?_ (by simp) _))) (fun g0 g1 g2 g3 => by simp [results, Tryd.results20, go_sem, g0, g1, g2, g3]) (fun h => ⟨by rw [H.out], h⟩)
      · rw [hk] at c2
        have H : Hid ((lit s).dat = .agg #[.int .i64 u0, .int .i64 u1, .string u2, .int .i64 u3]) := by show (lit s).dat = _; rw [lit_n he hq hk]; exact uh
        clear he hq hk uh c3 c4 c5
        go_enter Tryd.func20, Tryd.ntmps20
        go_wp2_with fail
        refine (c1 _).mono ?_
        rintro r w0 ⟨rfl, rfl⟩
        go_wp2_with fail
        refine (c2 _ (hN.ext (by with_reducible repeat (first | assumption | exact Ext.refl _ | apply Ext.alloc | apply Ext.drewN | (refine Ext.setCell ?_ (by simp) _))))).mono ?_
        rintro r w1 ⟨rfl, E1⟩
        have X1 : Ext w w1 := Ext.trans (by with_reducible repeat (first | assumption | exact Ext.refl _ | apply Ext.alloc | apply Ext.drewN | (refine Ext.setCell ?_ (by simp) _))) E1
        have B0_1 := blk_top (b := w.heap.size) (by simp) E1
        have D0 := B0_1
        obtain ⟨b0z, ⟨b0_0, b0_1, b0_2, b0_3⟩, b0f0, b0f1, b0f2, b0f3⟩ := D0
        go_wp2_with fail
        exact finB ((B0_1.set _ _ _ _).ext ((Ext.refl _).alloc _)) rfl (by with_reducible repeat (first | assumption | exact Ext.refl _ | apply Ext.alloc | apply Ext.drewN | (refine Ext.setCell ?_ (by simp) _))) (fun g0 g1 g2 g3 => by simp [results, Tryd.results20, go_sem, g0, g1, g2, g3]) (fun h => ⟨by rw [H.out], h⟩)
end Go.Proofs.YtlfkiepnahgbeaaDoor
