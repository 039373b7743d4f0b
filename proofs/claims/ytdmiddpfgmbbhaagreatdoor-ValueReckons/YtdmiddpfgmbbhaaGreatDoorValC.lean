/-
  The contracts of package value's and the document's Normal, and of what reads a numeral.
-/
import Derived.Test.YtdmiddpfgmbbhaaGreatDoorValB
import Derived.Test.YtdmiddpfgmbbhaaGreatDoorDecC
import Derived.Test.YtdmiddpfgmbbhaaGreatDoorDecI
namespace Go.Proofs.YtdmiddpfgmbbhaaGreatDoor
open Go.RowKit
set_option maxHeartbeats 1000000

theorem vnormal_any (k n : Int) (s : ByteArray) (e : Int) (w : World) (hN : Nm w) :
    Calls Tryz.prog 36 #[.agg #[.int .i64 k, .int .i64 n, .string s, .int .i64 e]] w fun r w' => r = .returned (nm k n s e).dat ∧ Ext w w' := by
  have c1 := fun W => vbool_any (n != 0) W
  have c2 := fun W h => vnum_any n W h
  have c3 := fun W h => vtext_any s W h
  have c4 := fun W h => err_any e W h
  by_cases h1 : k = 1
  · subst h1
    obtain ⟨q0, q1, q2, q3, hq⟩ := dat4 (V.tf (n != 0))
    rw [hq] at c1
    have H : Hid ((nm 1 n s e).dat = .agg #[.int .i64 q0, .int .i64 q1, .string q2, .int .i64 q3]) := hq
    clear hq
    go_enter Tryz.func36, Tryz.ntmps36
    go_wp2_with fail
    refine (c1 _).mono ?_
    rintro r w1 ⟨rfl, E1⟩
    obtain ⟨z, ⟨k0, k1, k2, k3⟩, f0, f1, f2, f3⟩ := blk_top (b := w.heap.size + 1) (by simp) (E1)
    go_wp2_with fail
    exact fin4 k0 k1 k2 k3 rfl (by simp) ((((Ext.refl _).alloc _).alloc _).trans E1) (fun W g0 g1 g2 g3 => by simp [results, Tryz.results36, go_sem, g0, g1, g2, g3]) (fun W h => ⟨by rw [H.out], h⟩)
  · skip
    by_cases h2 : k = 2
    · subst h2
      obtain ⟨q0, q1, q2, q3, hq⟩ := dat4 (mkNum n)
      rw [hq] at c2
      have H : Hid ((nm 2 n s e).dat = .agg #[.int .i64 q0, .int .i64 q1, .string q2, .int .i64 q3]) := hq
      clear hq h1
      go_enter Tryz.func36, Tryz.ntmps36
      go_wp2_with fail
      refine (c2 _ (hN.ext (((Ext.refl _).alloc _).alloc _))).mono ?_
      rintro r w1 ⟨rfl, E1⟩
      obtain ⟨z, ⟨k0, k1, k2, k3⟩, f0, f1, f2, f3⟩ := blk_top (b := w.heap.size + 1) (by simp) (E1)
      go_wp2_with fail
      exact fin4 k0 k1 k2 k3 rfl (by simp) ((((Ext.refl _).alloc _).alloc _).trans E1) (fun W g0 g1 g2 g3 => by simp [results, Tryz.results36, go_sem, g0, g1, g2, g3]) (fun W h => ⟨by rw [H.out], h⟩)
    · skip
      by_cases h3 : k = 3
      · subst h3
        obtain ⟨q0, q1, q2, q3, hq⟩ := dat4 (mkText s)
        rw [hq] at c3
        have H : Hid ((nm 3 n s e).dat = .agg #[.int .i64 q0, .int .i64 q1, .string q2, .int .i64 q3]) := hq
        clear hq h1 h2
        go_enter Tryz.func36, Tryz.ntmps36
        go_wp2_with fail
        refine (c3 _ (hN.ext (((Ext.refl _).alloc _).alloc _))).mono ?_
        rintro r w1 ⟨rfl, E1⟩
        obtain ⟨z, ⟨k0, k1, k2, k3⟩, f0, f1, f2, f3⟩ := blk_top (b := w.heap.size + 1) (by simp) (E1)
        go_wp2_with fail
        exact fin4 k0 k1 k2 k3 rfl (by simp) ((((Ext.refl _).alloc _).alloc _).trans E1) (fun W g0 g1 g2 g3 => by simp [results, Tryz.results36, go_sem, g0, g1, g2, g3]) (fun W h => ⟨by rw [H.out], h⟩)
      · skip
        by_cases h4 : k = 4
        · subst h4
          obtain ⟨q0, q1, q2, q3, hq⟩ := dat4 (mkErr e)
          rw [hq] at c4
          have H : Hid ((nm 4 n s e).dat = .agg #[.int .i64 q0, .int .i64 q1, .string q2, .int .i64 q3]) := hq
          clear hq h1 h2 h3
          go_enter Tryz.func36, Tryz.ntmps36
          go_wp2_with fail
          refine (c4 _ (hN.ext (((Ext.refl _).alloc _).alloc _))).mono ?_
          rintro r w1 ⟨rfl, E1⟩
          obtain ⟨z, ⟨k0, k1, k2, k3⟩, f0, f1, f2, f3⟩ := blk_top (b := w.heap.size + 1) (by simp) (E1)
          go_wp2_with fail
          exact fin4 k0 k1 k2 k3 rfl (by simp) ((((Ext.refl _).alloc _).alloc _).trans E1) (fun W g0 g1 g2 g3 => by simp [results, Tryz.results36, go_sem, g0, g1, g2, g3]) (fun W h => ⟨by rw [H.out], h⟩)
        · have H : Hid (nm k n s e = .blank) := by show nm k n s e = _; unfold nm; rw [if_neg h1, if_neg h2, if_neg h3, if_neg h4]
          clear c1 c2 c3 c4
          go_enter Tryz.func36, Tryz.ntmps36
          go_wp2_with fail
          simp [bodyPost, results, Tryz.results36, go_sem]
          exact ⟨by rw [H.out]; rfl, (((Ext.refl _).alloc _).alloc _)⟩
theorem rnormal_any (k n : Int) (s : ByteArray) (e : Int) (w : World) :
    Calls Tryz.prog 8 #[.agg #[.int .i64 k, .int .i64 n, .string s, .int .i64 e]] w fun r w' => r = .returned (nm k n s e).dat ∧ Ext w w' := by
  have c1 := fun W => rbool_any (n != 0) W
  have c2 := fun W => rnum_any n W
  have c3 := fun W => rtext_any s W
  have c4 := fun W => rerr_any e W
  by_cases h1 : k = 1
  · subst h1
    obtain ⟨q0, q1, q2, q3, hq⟩ := dat4 (V.tf (n != 0))
    rw [hq] at c1
    have H : Hid ((nm 1 n s e).dat = .agg #[.int .i64 q0, .int .i64 q1, .string q2, .int .i64 q3]) := hq
    clear hq
    go_enter Tryz.func8, Tryz.ntmps8
    go_wp2_with fail
    refine (c1 _).mono ?_
    rintro r w1 ⟨rfl, E1⟩
    obtain ⟨z, ⟨k0, k1, k2, k3⟩, f0, f1, f2, f3⟩ := blk_top (b := w.heap.size + 1) (by simp) (E1)
    go_wp2_with fail
    exact fin4 k0 k1 k2 k3 rfl (by simp) ((((Ext.refl _).alloc _).alloc _).trans E1) (fun W g0 g1 g2 g3 => by simp [results, Tryz.results8, go_sem, g0, g1, g2, g3]) (fun W h => ⟨by rw [H.out], h⟩)
  · skip
    by_cases h2 : k = 2
    · subst h2
      obtain ⟨q0, q1, q2, q3, hq⟩ := dat4 (mkNum n)
      rw [hq] at c2
      have H : Hid ((nm 2 n s e).dat = .agg #[.int .i64 q0, .int .i64 q1, .string q2, .int .i64 q3]) := hq
      clear hq h1
      go_enter Tryz.func8, Tryz.ntmps8
      go_wp2_with fail
      refine (c2 _).mono ?_
      rintro r w1 ⟨rfl, E1⟩
      obtain ⟨z, ⟨k0, k1, k2, k3⟩, f0, f1, f2, f3⟩ := blk_top (b := w.heap.size + 1) (by simp) (E1)
      go_wp2_with fail
      exact fin4 k0 k1 k2 k3 rfl (by simp) ((((Ext.refl _).alloc _).alloc _).trans E1) (fun W g0 g1 g2 g3 => by simp [results, Tryz.results8, go_sem, g0, g1, g2, g3]) (fun W h => ⟨by rw [H.out], h⟩)
    · skip
      by_cases h3 : k = 3
      · subst h3
        obtain ⟨q0, q1, q2, q3, hq⟩ := dat4 (mkText s)
        rw [hq] at c3
        have H : Hid ((nm 3 n s e).dat = .agg #[.int .i64 q0, .int .i64 q1, .string q2, .int .i64 q3]) := hq
        clear hq h1 h2
        go_enter Tryz.func8, Tryz.ntmps8
        go_wp2_with fail
        refine (c3 _).mono ?_
        rintro r w1 ⟨rfl, E1⟩
        obtain ⟨z, ⟨k0, k1, k2, k3⟩, f0, f1, f2, f3⟩ := blk_top (b := w.heap.size + 1) (by simp) (E1)
        go_wp2_with fail
        exact fin4 k0 k1 k2 k3 rfl (by simp) ((((Ext.refl _).alloc _).alloc _).trans E1) (fun W g0 g1 g2 g3 => by simp [results, Tryz.results8, go_sem, g0, g1, g2, g3]) (fun W h => ⟨by rw [H.out], h⟩)
      · skip
        by_cases h4 : k = 4
        · subst h4
          obtain ⟨q0, q1, q2, q3, hq⟩ := dat4 (mkErr e)
          rw [hq] at c4
          have H : Hid ((nm 4 n s e).dat = .agg #[.int .i64 q0, .int .i64 q1, .string q2, .int .i64 q3]) := hq
          clear hq h1 h2 h3
          go_enter Tryz.func8, Tryz.ntmps8
          go_wp2_with fail
          refine (c4 _).mono ?_
          rintro r w1 ⟨rfl, E1⟩
          obtain ⟨z, ⟨k0, k1, k2, k3⟩, f0, f1, f2, f3⟩ := blk_top (b := w.heap.size + 1) (by simp) (E1)
          go_wp2_with fail
          exact fin4 k0 k1 k2 k3 rfl (by simp) ((((Ext.refl _).alloc _).alloc _).trans E1) (fun W g0 g1 g2 g3 => by simp [results, Tryz.results8, go_sem, g0, g1, g2, g3]) (fun W h => ⟨by rw [H.out], h⟩)
        · have H : Hid (nm k n s e = .blank) := by show nm k n s e = _; unfold nm; rw [if_neg h1, if_neg h2, if_neg h3, if_neg h4]
          clear c1 c2 c3 c4
          go_enter Tryz.func8, Tryz.ntmps8
          go_wp2_with fail
          simp [bodyPost, results, Tryz.results8, go_sem]
          exact ⟨by rw [H.out]; rfl, (((Ext.refl _).alloc _).alloc _)⟩
def numR (s : ByteArray) : V := if rdK s.data.toList = 1 then .num (rdV s.data.toList) else if rdK s.data.toList = 2 then .err 4 else .blank
def numK (s : ByteArray) : Bool := rdK s.data.toList == 1 || rdK s.data.toList == 2
theorem numeral_any (s : ByteArray) (w : World) (hs : s.size ≤ maxLen) (hN : Nm w) :
    Calls Tryz.prog 37 #[.string s] w fun r w' => r = .returned (.tuple #[(numR s).dat, .bool (numK s)]) ∧ Ext w w' := by
  have c1 := fun W => parse_any s W hs
  have c2 := fun W h => vnum_any (rdV s.data.toList) W h
  have c3 := fun W h => err_any 4 W h
  rw [mkNum_is (rdV_can _).2] at c2
  rw [mkErr_is ⟨by decide, by decide⟩] at c3
  simp only [V.dat] at c2 c3
  rcases rdK_cases s.data.toList with h | h | h
  · have H : Hid (numR s = .blank ∧ numK s = false) := by show numR s = _ ∧ numK s = _; unfold numR numK; rw [h]; exact ⟨rfl, rfl⟩
    rw [h] at c1
    clear h hs
    generalize rdV s.data.toList = n at *
    go_enter Tryz.func37, Tryz.ntmps37
    go_wp2_with fail
    refine (c1 _).mono ?_
    rintro r w1 ⟨rfl, E1⟩
    obtain ⟨z, ⟨k0, k1, k2, k3⟩, f0, f1, f2, f3⟩ := blk_top (b := w.heap.size) (by simp) (E1)
    go_wp2_with fail
    exact fin4b false k0 k1 k2 k3 rfl (by simp) (((Ext.refl _).alloc _).trans E1) (fun W g0 g1 g2 g3 => by simp [results, Tryz.results37, go_sem, g0, g1, g2, g3]) (fun W h => ⟨by rw [H.out.1, H.out.2]; rfl, h⟩)
  · have H : Hid (numR s = .num (rdV s.data.toList) ∧ numK s = true) := by show numR s = _ ∧ numK s = _; unfold numR numK; rw [h]; exact ⟨rfl, rfl⟩
    rw [h] at c1
    clear h hs
    generalize rdV s.data.toList = n at *
    go_enter Tryz.func37, Tryz.ntmps37
    go_wp2_with fail
    refine (c1 _).mono ?_
    rintro r w1 ⟨rfl, E1⟩
    go_wp2_with fail
    refine (c2 _ (hN.ext (((Ext.refl _).alloc _).trans E1))).mono ?_
    rintro r w2 ⟨rfl, E2⟩
    obtain ⟨z, ⟨k0, k1, k2, k3⟩, f0, f1, f2, f3⟩ := blk_top (b := w.heap.size) (by simp) (E1.trans E2)
    go_wp2_with fail
    exact fin4b true k0 k1 k2 k3 rfl (by simp) (((Ext.refl _).alloc _).trans (E1.trans E2)) (fun W g0 g1 g2 g3 => by simp [results, Tryz.results37, go_sem, g0, g1, g2, g3]) (fun W h => ⟨by rw [H.out.1, H.out.2]; rfl, h⟩)
  · have H : Hid (numR s = .err 4 ∧ numK s = true) := by show numR s = _ ∧ numK s = _; unfold numR numK; rw [h]; exact ⟨rfl, rfl⟩
    rw [h] at c1
    clear h hs
    generalize rdV s.data.toList = n at *
    go_enter Tryz.func37, Tryz.ntmps37
    go_wp2_with fail
    refine (c1 _).mono ?_
    rintro r w1 ⟨rfl, E1⟩
    go_wp2_with fail
    refine (c3 _ (hN.ext (((Ext.refl _).alloc _).trans E1))).mono ?_
    rintro r w2 ⟨rfl, E2⟩
    obtain ⟨z, ⟨k0, k1, k2, k3⟩, f0, f1, f2, f3⟩ := blk_top (b := w.heap.size) (by simp) (E1.trans E2)
    go_wp2_with fail
    exact fin4b true k0 k1 k2 k3 rfl (by simp) (((Ext.refl _).alloc _).trans (E1.trans E2)) (fun W g0 g1 g2 g3 => by simp [results, Tryz.results37, go_sem, g0, g1, g2, g3]) (fun W h => ⟨by rw [H.out.1, H.out.2]; rfl, h⟩)
def redR (s : ByteArray) : V := if rdK s.data.toList = 2 then .err 4 else .num (rdV s.data.toList)
theorem rread_any (s : ByteArray) (w : World) (hs : s.size ≤ maxLen) :
    Calls Tryz.prog 38 #[.string s] w fun r w' => r = .returned (.tuple #[(redR s).dat, .bool (numK s)]) ∧ Ext w w' := by
  have c1 := fun W => rparse_any s W hs
  have c2 := fun W => rnum_any (rdV s.data.toList) W
  have c3 := fun W => rerr_any 4 W
  rw [mkNum_is (rdV_can _).2] at c2
  rw [mkErr_is ⟨by decide, by decide⟩] at c3
  simp only [V.dat] at c2 c3
  rcases rdK_cases s.data.toList with h | h | h
  · have H : Hid (redR s = .num (rdV s.data.toList) ∧ numK s = false) := by show redR s = _ ∧ numK s = _; unfold redR numK; rw [h]; exact ⟨rfl, rfl⟩
    rw [h] at c1
    clear h hs
    generalize rdV s.data.toList = n at *
    go_enter Tryz.func38, Tryz.ntmps38
    go_wp2_with fail
    refine (c1 _).mono ?_
    rintro r w1 ⟨rfl, E1⟩
    go_wp2_with fail
    refine (c2 _).mono ?_
    rintro r w2 ⟨rfl, E2⟩
    obtain ⟨z, ⟨k0, k1, k2, k3⟩, f0, f1, f2, f3⟩ := blk_top (b := w.heap.size) (by simp) (E1.trans E2)
    go_wp2_with fail
    exact fin4b false k0 k1 k2 k3 rfl (by simp) (((Ext.refl _).alloc _).trans (E1.trans E2)) (fun W g0 g1 g2 g3 => by simp [results, Tryz.results38, go_sem, g0, g1, g2, g3]) (fun W h => ⟨by rw [H.out.1, H.out.2]; rfl, h⟩)
  · have H : Hid (redR s = .num (rdV s.data.toList) ∧ numK s = true) := by show redR s = _ ∧ numK s = _; unfold redR numK; rw [h]; exact ⟨rfl, rfl⟩
    rw [h] at c1
    clear h hs
    generalize rdV s.data.toList = n at *
    go_enter Tryz.func38, Tryz.ntmps38
    go_wp2_with fail
    refine (c1 _).mono ?_
    rintro r w1 ⟨rfl, E1⟩
    go_wp2_with fail
    refine (c2 _).mono ?_
    rintro r w2 ⟨rfl, E2⟩
    obtain ⟨z, ⟨k0, k1, k2, k3⟩, f0, f1, f2, f3⟩ := blk_top (b := w.heap.size) (by simp) (E1.trans E2)
    go_wp2_with fail
    exact fin4b true k0 k1 k2 k3 rfl (by simp) (((Ext.refl _).alloc _).trans (E1.trans E2)) (fun W g0 g1 g2 g3 => by simp [results, Tryz.results38, go_sem, g0, g1, g2, g3]) (fun W h => ⟨by rw [H.out.1, H.out.2]; rfl, h⟩)
  · have H : Hid (redR s = .err 4 ∧ numK s = true) := by show redR s = _ ∧ numK s = _; unfold redR numK; rw [h]; exact ⟨rfl, rfl⟩
    rw [h] at c1
    clear h hs
    generalize rdV s.data.toList = n at *
    go_enter Tryz.func38, Tryz.ntmps38
    go_wp2_with fail
    refine (c1 _).mono ?_
    rintro r w1 ⟨rfl, E1⟩
    go_wp2_with fail
    refine (c3 _).mono ?_
    rintro r w2 ⟨rfl, E2⟩
    obtain ⟨z, ⟨k0, k1, k2, k3⟩, f0, f1, f2, f3⟩ := blk_top (b := w.heap.size) (by simp) (E1.trans E2)
    go_wp2_with fail
    exact fin4b true k0 k1 k2 k3 rfl (by simp) (((Ext.refl _).alloc _).trans (E1.trans E2)) (fun W g0 g1 g2 g3 => by simp [results, Tryz.results38, go_sem, g0, g1, g2, g3]) (fun W h => ⟨by rw [H.out.1, H.out.2]; rfl, h⟩)
end Go.Proofs.YtdmiddpfgmbbhaaGreatDoor
