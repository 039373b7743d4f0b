/-
  The contracts of package value's and the document's Join.
-/
import Derived.Test.YtdmiddpfgmbbhaaGreatDoorValL
import Derived.Test.YtdmiddpfgmbbhaaGreatDoorValM
import Derived.Deep.DeepCutAuto
namespace Go.Proofs.YtdmiddpfgmbbhaaGreatDoor
open Go.RowKit
set_option maxHeartbeats 1000000

/-! ### Texts, joined -/
def TE (v : V) : Prop := (∃ s, v = .text s ∧ s.size ≤ 300) ∨ (∃ e, v = .err e ∧ 1 ≤ e ∧ e ≤ 5)
theorem jo_ea {a : V} (h : TE a) (k : a.k = 4) (b : V) : join2 a b = a := by
  rcases h with ⟨n, rfl, _⟩ | ⟨e, rfl, _⟩
  · simp [V.k] at k
  · cases b <;> rfl
theorem jo_eb {a b : V} (h : TE a) (g : TE b) (k : a.k ≠ 4) (l : b.k = 4) : join2 a b = b := by
  rcases h with ⟨n, rfl, _⟩ | ⟨e, rfl, _⟩
  · rcases g with ⟨m, rfl, _⟩ | ⟨e, rfl, _⟩
    · simp [V.k] at l
    · rfl
  · simp [V.k] at k
theorem jo_n {a b : V} (h : TE a) (g : TE b) (k : a.k ≠ 4) (l : b.k ≠ 4) : join2 a b = mkText (a.s ++ b.s) ∧ a.s.size ≤ 300 ∧ b.s.size ≤ 300 := by
  rcases h with ⟨n, rfl, i⟩ | ⟨e, rfl, _⟩
  · rcases g with ⟨m, rfl, j⟩ | ⟨e, rfl, _⟩
    · exact ⟨rfl, i, j⟩
    · simp [V.k] at l
  · simp [V.k] at k
set_option maxRecDepth 100000 in
theorem vjoin_any (ka na : Int) (sa : ByteArray) (ea kb nb : Int) (sb : ByteArray) (eb : Int) (w : World) (hna : I64 na) (hnb : I64 nb) (hN : Nm w) (hT : Tab w) :
    Calls Tryz.prog 6 #[.agg #[.int .i64 ka, .int .i64 na, .string sa, .int .i64 ea], .agg #[.int .i64 kb, .int .i64 nb, .string sb, .int .i64 eb]] w fun r w' => r = .returned (join (nm ka na sa ea) (nm kb nb sb eb)).dat ∧ Ext w w' := by
  have c1 := fun W h t => vtotext_any ka na sa ea W hna t h
  have c2 := fun W h t => vtotext_any kb nb sb eb W hnb t h
  have n1 : TE _ := toText_cases (nm ka na sa ea) (nm_ok _ _ _ _ hna)
  have n2 : TE _ := toText_cases (nm kb nb sb eb) (nm_ok _ _ _ _ hnb)
  unfold join
  generalize (nm ka na sa ea).toText = a at c1 n1 ⊢
  generalize (nm kb nb sb eb).toText = b at c2 n2 ⊢
  rw [dat_eq] at c1 c2
  have H1 : Hid (a.k = 4 → (join2 a b).dat = .agg #[.int .i64 4, .int .i64 a.n, .string a.s, .int .i64 a.e]) := fun h => by rw [jo_ea n1 h b, dat_eq, h]
  have H2 : Hid (a.k ≠ 4 → b.k = 4 → (join2 a b).dat = .agg #[.int .i64 4, .int .i64 b.n, .string b.s, .int .i64 b.e]) := fun h g => by rw [jo_eb n1 n2 h g, dat_eq, g]
  have H3 : Hid (a.k ≠ 4 → b.k ≠ 4 → join2 a b = mkText (a.s ++ b.s) ∧ a.s.size ≤ 300 ∧ b.s.size ≤ 300) := fun h g => jo_n n1 n2 h g
  clear n1 n2 hna hnb
  generalize a.k = pk at *
  generalize a.n = pn at *
  generalize a.s = ps at *
  generalize a.e = pe at *
  generalize b.k = qk at *
  generalize b.n = qn at *
  generalize b.s = qs at *
  generalize b.e = qe at *
  generalize join2 a b = J at *
  clear a b
  go_enter Tryz.func6, Tryz.ntmps6
  go_upto_region 1 with fail
  obtain ⟨W0, hW0⟩ : ∃ W0, W0 = ((w.alloc (.cells #[.int .i64 ka, .int .i64 na, .string sa, .int .i64 ea] 23)).alloc (.cells #[.int .i64 kb, .int .i64 nb, .string sb, .int .i64 eb] 23)).alloc (.cells #[.int .i64 0, .int .i64 0, .string ⟨#[]⟩, .int .i64 0] 23) := ⟨_, rfl⟩
  rw [← hW0]
  have XW : Ext w W0 := by rw [hW0]; exact (((Ext.refl _).alloc _).alloc _).alloc _
  have hK : Hid (∀ W, Ext W0 W → Blk W (w.heap.size) (.int .i64 ka) (.int .i64 na) (.string sa) (.int .i64 ea) ∧ Blk W (w.heap.size + 1) (.int .i64 kb) (.int .i64 nb) (.string sb) (.int .i64 eb) ∧ Blk W (w.heap.size + 1 + 1) (.int .i64 0) (.int .i64 0) (.string ⟨#[]⟩) (.int .i64 0)) := by
    show ∀ W, _
    intro W h
    rw [hW0] at h
    exact ⟨blk_top (by simp) ((((Ext.refl _).alloc _).alloc _).trans h), blk_top (by simp) (((Ext.refl _).alloc _).trans h), blk_top (by simp) h⟩
  clear hW0
  go_cut [] (fun wx => Ext w wx ∧ Blk wx (w.heap.size) (.int .i64 pk) (.int .i64 pn) (.string ps) (.int .i64 pe) ∧ Blk wx (w.heap.size + 1) (.int .i64 qk) (.int .i64 qn) (.string qs) (.int .i64 qe) ∧ Blk wx (w.heap.size + 1 + 1) (.int .i64 0) (.int .i64 0) (.string ⟨#[]⟩) (.int .i64 0))
  case first =>
    obtain ⟨⟨az, ⟨a0, a1, a2, a3⟩, af0, af1, af2, af3⟩, ⟨bz, ⟨b0, b1, b2, b3⟩, bf0, bf1, bf2, bf3⟩, _⟩ := hK.out W0 (Ext.refl _)
    have d1 := fun W (h : Ext W0 W) => c1 W (hN.ext (XW.trans h)) (hT.ext (XW.trans h))
    have d2 := fun W (h : Ext W0 W) => c2 W (hN.ext (XW.trans h)) (hT.ext (XW.trans h))
    clear c1 c2 H1 H2 H3
    go_region_with (first | (go_at_call 22; have q1 := E5; refine Calls.mono (d2 _ ?hh) ?_; (case hh => (with_reducible repeat (first | assumption | exact Ext.refl _ | apply Ext.drew | apply Ext.drewN))); rintro e w6 ⟨rfl, E6⟩; have X6 : Ext W0 w6 := Ext.trans (by (with_reducible repeat (first | assumption | exact Ext.refl _ | apply Ext.drew | apply Ext.drewN))) E6; obtain ⟨⟨az, ⟨a0, a1, a2, a3⟩, af0, af1, af2, af3⟩, ⟨bz, ⟨b0, b1, b2, b3⟩, bf0, bf1, bf2, bf3⟩, _⟩ := hK.out  w6 X6) | (go_at_call 22; refine Calls.mono (d1 _ ?hh) ?_; (case hh => (with_reducible repeat (first | assumption | exact Ext.refl _ | apply Ext.drew | apply Ext.drewN))); rintro e w5 ⟨rfl, E5⟩; have X5 : Ext W0 w5 := Ext.trans (by (with_reducible repeat (first | assumption | exact Ext.refl _ | apply Ext.drew | apply Ext.drewN))) E5; obtain ⟨⟨az, ⟨a0, a1, a2, a3⟩, af0, af1, af2, af3⟩, ⟨bz, ⟨b0, b1, b2, b3⟩, bf0, bf1, bf2, bf3⟩, _⟩ := hK.out  w5 X5))
    all_goals
      obtain ⟨A6, B6, R6⟩ := hK.out w6 X6
      have X7 : Ext w w6 := XW.trans X6
      go_wp2_with fail
      go_meet
      case rel =>
        refine ⟨?_, ?_, ?_, ?_⟩
        · ((with_reducible (repeat' (first | assumption | exact Ext.refl _ | apply Ext.alloc | apply Ext.drew | apply Ext.drewN | apply Ext.setCell))); all_goals (first | omega | (simp; done) | (simp; omega)))
        · ((with_reducible (repeat' (first | assumption | apply Blk.set | apply Blk.far | apply Blk.al | apply Blk.dr))); all_goals omega)
        · ((with_reducible (repeat' (first | assumption | apply Blk.set | apply Blk.far | apply Blk.al | apply Blk.dr))); all_goals omega)
        · ((with_reducible (repeat' (first | assumption | apply Blk.set | apply Blk.far | apply Blk.al | apply Blk.dr))); all_goals omega)
  case rest =>
    obtain ⟨X, A, B, R⟩ := hcut
    have A' := A
    have B' := B
    have R' := R
    obtain ⟨az, ⟨a0, a1, a2, a3⟩, af0, af1, af2, af3⟩ := A'
    obtain ⟨bz, ⟨b0, b1, b2, b3⟩, bf0, bf1, bf2, bf3⟩ := B'
    obtain ⟨rz, ⟨r0, r1, r2, r3⟩, rf0, rf1, rf2, rf3⟩ := R'
    clear c1 c2 hK XW
    by_cases ha : pk = 4
    · have H : Hid (J.dat = _) := H1.out ha
      subst ha
      have c := fun W h => firsterr_a 4 pn ps pe qk qn qs qe wc.heap.size W h (by decide)
      clear H1 H2 H3 hN hT
      go_wp2_with fail
      refine (c _ two_alloc).mono ?_
      rintro r w2 ⟨rfl, E2⟩
      have X2 : Ext w w2 := Ext.trans (by with_reducible repeat (first | assumption | exact Ext.refl _ | apply Ext.alloc | apply Ext.drewN | (refine Ext.setCell ?_ (by simp) _))) E2
      have R2 := (R.ext ((Ext.refl _).alloc _)).ext E2
      have R3 := R2
      obtain ⟨rz, ⟨r0, r1, r2, r3⟩, rf0, rf1, rf2, rf3⟩ := R3
      go_wp2_with fail
      apply finB (b := w.heap.size + 1 + 1) (w := w)
      case B => ((with_reducible (repeat' (first | assumption | apply Blk.set | apply Blk.far | apply Blk.al | apply Blk.dr))); all_goals omega)
      case hd => rfl
      case E => ((with_reducible (repeat' (first | assumption | exact Ext.refl _ | apply Ext.alloc | apply Ext.drew | apply Ext.drewN | apply Ext.setCell))); all_goals (first | omega | (simp; done) | (simp; omega)))
      case hr => intro g0 g1 g2 g3; simp [results, Tryz.results6, go_sem, g0, g1, g2, g3]
      case hQ => exact fun h => ⟨by rw [H.out], h⟩
    · by_cases hb : qk = 4
      · have H : Hid (J.dat = _) := H2.out ha hb
        subst hb
        have c := fun W h => firsterr_b pk pn ps pe 4 qn qs qe wc.heap.size W h (by simpa using ha) (by decide)
        clear H1 H2 H3 ha hN hT
        go_wp2_with fail
        refine (c _ two_alloc).mono ?_
        rintro r w2 ⟨rfl, E2⟩
        have X2 : Ext w w2 := Ext.trans (by with_reducible repeat (first | assumption | exact Ext.refl _ | apply Ext.alloc | apply Ext.drewN | (refine Ext.setCell ?_ (by simp) _))) E2
        have R2 := (R.ext ((Ext.refl _).alloc _)).ext E2
        have R3 := R2
        obtain ⟨rz, ⟨r0, r1, r2, r3⟩, rf0, rf1, rf2, rf3⟩ := R3
        go_wp2_with fail
        apply finB (b := w.heap.size + 1 + 1) (w := w)
        case B => ((with_reducible (repeat' (first | assumption | apply Blk.set | apply Blk.far | apply Blk.al | apply Blk.dr))); all_goals omega)
        case hd => rfl
        case E => ((with_reducible (repeat' (first | assumption | exact Ext.refl _ | apply Ext.alloc | apply Ext.drew | apply Ext.drewN | apply Ext.setCell))); all_goals (first | omega | (simp; done) | (simp; omega)))
        case hr => intro g0 g1 g2 g3; simp [results, Tryz.results6, go_sem, g0, g1, g2, g3]
        case hQ => exact fun h => ⟨by rw [H.out], h⟩
      · obtain ⟨rfl, i1, i2⟩ := H3.out ha hb
        have c := fun W h => firsterr_n pk pn ps pe qk qn qs qe wc.heap.size W h (by simpa using ha) (by simpa using hb)
        have ct := fun W h => vtext_any (ps ++ qs) W h
        obtain ⟨u0, u1, u2, u3, hu⟩ := dat4 (mkText (ps ++ qs))
        rw [hu] at ct
        have H : Hid ((mkText (ps ++ qs)).dat = _) := hu
        clear hu
        clear H1 H2 H3 ha hb hT
        go_wp2_with fail
        refine (c _ two_alloc).mono ?_
        rintro r w2 ⟨rfl, E2⟩
        have A2 := (A.ext ((Ext.refl _).alloc _)).ext E2
        have B2 := (B.ext ((Ext.refl _).alloc _)).ext E2
        have X2 : Ext w w2 := Ext.trans (by with_reducible repeat (first | assumption | exact Ext.refl _ | apply Ext.alloc | apply Ext.drewN | (refine Ext.setCell ?_ (by simp) _))) E2
        have R2 := (R.ext ((Ext.refl _).alloc _)).ext E2
        clear A B R E2 X c az a0 a1 a2 a3 af0 af1 af2 af3 bz b0 b1 b2 b3 bf0 bf1 bf2 bf3 rz r0 r1 r2 r3 rf0 rf1 rf2 rf3
        obtain ⟨az, ⟨a0, a1, a2, a3⟩, af0, af1, af2, af3⟩ := A2
        obtain ⟨bz, ⟨b0, b1, b2, b3⟩, bf0, bf1, bf2, bf3⟩ := B2
        go_wp2_with fail
        refine (ct _ ?hn).mono ?_
        case hn => exact hN.ext (by ((with_reducible (repeat' (first | assumption | exact Ext.refl _ | apply Ext.alloc | apply Ext.drew | apply Ext.drewN | apply Ext.setCell))); all_goals (first | omega | (simp; done) | (simp; omega))))
        rintro r w3 ⟨rfl, E3⟩
        have X3 : Ext w w3 := Ext.trans (by ((with_reducible (repeat' (first | assumption | exact Ext.refl _ | apply Ext.alloc | apply Ext.drew | apply Ext.drewN | apply Ext.setCell))); all_goals (first | omega | (simp; done) | (simp; omega)))) E3
        have R3 := (R2.ext ((Ext.refl _).alloc _)).ext E3
        have R4 := R3
        obtain ⟨rz, ⟨r0, r1, r2, r3⟩, rf0, rf1, rf2, rf3⟩ := R4
        clear ct X2 E3 az a0 a1 a2 a3 af0 af1 af2 af3 bz b0 b1 b2 b3 bf0 bf1 bf2 bf3
        go_wp2_with fail
        apply finB (b := w.heap.size + 1 + 1) (w := w)
        case B => ((with_reducible (repeat' (first | assumption | apply Blk.set | apply Blk.far | apply Blk.al | apply Blk.dr))); all_goals omega)
        case hd => rfl
        case E => ((with_reducible (repeat' (first | assumption | exact Ext.refl _ | apply Ext.alloc | apply Ext.drew | apply Ext.drewN | apply Ext.setCell))); all_goals (first | omega | (simp; done) | (simp; omega)))
        case hr => intro g0 g1 g2 g3; simp [results, Tryz.results6, go_sem, g0, g1, g2, g3]
        case hQ => exact fun h => ⟨by rw [H.out], h⟩
set_option maxRecDepth 100000 in
theorem rjoin_any (ka na : Int) (sa : ByteArray) (ea kb nb : Int) (sb : ByteArray) (eb : Int) (w : World) (hna : I64 na) (hnb : I64 nb) :
    Calls Tryz.prog 7 #[.agg #[.int .i64 ka, .int .i64 na, .string sa, .int .i64 ea], .agg #[.int .i64 kb, .int .i64 nb, .string sb, .int .i64 eb]] w fun r w' => r = .returned (join (nm ka na sa ea) (nm kb nb sb eb)).dat ∧ Ext w w' := by
  have c1 := fun W => rtotext_any ka na sa ea W hna
  have c2 := fun W => rtotext_any kb nb sb eb W hnb
  have n1 : TE _ := toText_cases (nm ka na sa ea) (nm_ok _ _ _ _ hna)
  have n2 : TE _ := toText_cases (nm kb nb sb eb) (nm_ok _ _ _ _ hnb)
  unfold join
  generalize (nm ka na sa ea).toText = a at c1 n1 ⊢
  generalize (nm kb nb sb eb).toText = b at c2 n2 ⊢
  rw [dat_eq] at c1 c2
  have H1 : Hid (a.k = 4 → (join2 a b).dat = .agg #[.int .i64 4, .int .i64 a.n, .string a.s, .int .i64 a.e]) := fun h => by rw [jo_ea n1 h b, dat_eq, h]
  have H2 : Hid (a.k ≠ 4 → b.k = 4 → (join2 a b).dat = .agg #[.int .i64 4, .int .i64 b.n, .string b.s, .int .i64 b.e]) := fun h g => by rw [jo_eb n1 n2 h g, dat_eq, g]
  have H3 : Hid (a.k ≠ 4 → b.k ≠ 4 → join2 a b = mkText (a.s ++ b.s) ∧ a.s.size ≤ 300 ∧ b.s.size ≤ 300) := fun h g => jo_n n1 n2 h g
  clear n1 n2 hna hnb
  generalize a.k = pk at *
  generalize a.n = pn at *
  generalize a.s = ps at *
  generalize a.e = pe at *
  generalize b.k = qk at *
  generalize b.n = qn at *
  generalize b.s = qs at *
  generalize b.e = qe at *
  generalize join2 a b = J at *
  clear a b
  go_enter Tryz.func7, Tryz.ntmps7
  go_upto_region 1 with fail
  obtain ⟨W0, hW0⟩ : ∃ W0, W0 = ((w.alloc (.cells #[.int .i64 ka, .int .i64 na, .string sa, .int .i64 ea] 23)).alloc (.cells #[.int .i64 kb, .int .i64 nb, .string sb, .int .i64 eb] 23)).alloc (.cells #[.int .i64 0, .int .i64 0, .string ⟨#[]⟩, .int .i64 0] 23) := ⟨_, rfl⟩
  rw [← hW0]
  have XW : Ext w W0 := by rw [hW0]; exact (((Ext.refl _).alloc _).alloc _).alloc _
  have hK : Hid (∀ W, Ext W0 W → Blk W (w.heap.size) (.int .i64 ka) (.int .i64 na) (.string sa) (.int .i64 ea) ∧ Blk W (w.heap.size + 1) (.int .i64 kb) (.int .i64 nb) (.string sb) (.int .i64 eb) ∧ Blk W (w.heap.size + 1 + 1) (.int .i64 0) (.int .i64 0) (.string ⟨#[]⟩) (.int .i64 0)) := by
    show ∀ W, _
    intro W h
    rw [hW0] at h
    exact ⟨blk_top (by simp) ((((Ext.refl _).alloc _).alloc _).trans h), blk_top (by simp) (((Ext.refl _).alloc _).trans h), blk_top (by simp) h⟩
  clear hW0
  go_cut [] (fun wx => Ext w wx ∧ Blk wx (w.heap.size) (.int .i64 pk) (.int .i64 pn) (.string ps) (.int .i64 pe) ∧ Blk wx (w.heap.size + 1) (.int .i64 qk) (.int .i64 qn) (.string qs) (.int .i64 qe) ∧ Blk wx (w.heap.size + 1 + 1) (.int .i64 0) (.int .i64 0) (.string ⟨#[]⟩) (.int .i64 0))
  case first =>
    obtain ⟨⟨az, ⟨a0, a1, a2, a3⟩, af0, af1, af2, af3⟩, ⟨bz, ⟨b0, b1, b2, b3⟩, bf0, bf1, bf2, bf3⟩, _⟩ := hK.out W0 (Ext.refl _)
    have d1 := fun W (h : Ext W0 W) => c1 W
    have d2 := fun W (h : Ext W0 W) => c2 W
    clear c1 c2 H1 H2 H3
    go_region_with (first | (go_at_call 24; have q1 := E5; refine Calls.mono (d2 _ ?hh) ?_; (case hh => (with_reducible repeat (first | assumption | exact Ext.refl _ | apply Ext.drew | apply Ext.drewN))); rintro e w6 ⟨rfl, E6⟩; have X6 : Ext W0 w6 := Ext.trans (by (with_reducible repeat (first | assumption | exact Ext.refl _ | apply Ext.drew | apply Ext.drewN))) E6; obtain ⟨⟨az, ⟨a0, a1, a2, a3⟩, af0, af1, af2, af3⟩, ⟨bz, ⟨b0, b1, b2, b3⟩, bf0, bf1, bf2, bf3⟩, _⟩ := hK.out  w6 X6) | (go_at_call 24; refine Calls.mono (d1 _ ?hh) ?_; (case hh => (with_reducible repeat (first | assumption | exact Ext.refl _ | apply Ext.drew | apply Ext.drewN))); rintro e w5 ⟨rfl, E5⟩; have X5 : Ext W0 w5 := Ext.trans (by (with_reducible repeat (first | assumption | exact Ext.refl _ | apply Ext.drew | apply Ext.drewN))) E5; obtain ⟨⟨az, ⟨a0, a1, a2, a3⟩, af0, af1, af2, af3⟩, ⟨bz, ⟨b0, b1, b2, b3⟩, bf0, bf1, bf2, bf3⟩, _⟩ := hK.out  w5 X5))
    all_goals
      obtain ⟨A6, B6, R6⟩ := hK.out w6 X6
      have X7 : Ext w w6 := XW.trans X6
      go_wp2_with fail
      go_meet
      case rel =>
        refine ⟨?_, ?_, ?_, ?_⟩
        · ((with_reducible (repeat' (first | assumption | exact Ext.refl _ | apply Ext.alloc | apply Ext.drew | apply Ext.drewN | apply Ext.setCell))); all_goals (first | omega | (simp; done) | (simp; omega)))
        · ((with_reducible (repeat' (first | assumption | apply Blk.set | apply Blk.far | apply Blk.al | apply Blk.dr))); all_goals omega)
        · ((with_reducible (repeat' (first | assumption | apply Blk.set | apply Blk.far | apply Blk.al | apply Blk.dr))); all_goals omega)
        · ((with_reducible (repeat' (first | assumption | apply Blk.set | apply Blk.far | apply Blk.al | apply Blk.dr))); all_goals omega)
  case rest =>
    obtain ⟨X, A, B, R⟩ := hcut
    have A' := A
    have B' := B
    have R' := R
    obtain ⟨az, ⟨a0, a1, a2, a3⟩, af0, af1, af2, af3⟩ := A'
    obtain ⟨bz, ⟨b0, b1, b2, b3⟩, bf0, bf1, bf2, bf3⟩ := B'
    obtain ⟨rz, ⟨r0, r1, r2, r3⟩, rf0, rf1, rf2, rf3⟩ := R'
    clear c1 c2 hK XW
    by_cases ha : pk = 4
    · have H : Hid (J.dat = _) := H1.out ha
      subst ha
      clear H1 H2 H3
      go_wp2_with fail
      apply finB (b := w.heap.size + 1 + 1) (w := w)
      case B => ((with_reducible (repeat' (first | assumption | apply Blk.set | apply Blk.far | apply Blk.al | apply Blk.dr))); all_goals omega)
      case hd => rfl
      case E => ((with_reducible (repeat' (first | assumption | exact Ext.refl _ | apply Ext.alloc | apply Ext.drew | apply Ext.drewN | apply Ext.setCell))); all_goals (first | omega | (simp; done) | (simp; omega)))
      case hr => intro g0 g1 g2 g3; simp [results, Tryz.results7, go_sem, g0, g1, g2, g3]
      case hQ => exact fun h => ⟨by rw [H.out], h⟩
    · have ha' : (pk == 4) = false := by simpa using ha
      by_cases hb : qk = 4
      · have H : Hid (J.dat = _) := H2.out ha hb
        subst hb
        clear H1 H2 H3 ha
        go_wp2_with fail
        apply finB (b := w.heap.size + 1 + 1) (w := w)
        case B => ((with_reducible (repeat' (first | assumption | apply Blk.set | apply Blk.far | apply Blk.al | apply Blk.dr))); all_goals omega)
        case hd => rfl
        case E => ((with_reducible (repeat' (first | assumption | exact Ext.refl _ | apply Ext.alloc | apply Ext.drew | apply Ext.drewN | apply Ext.setCell))); all_goals (first | omega | (simp; done) | (simp; omega)))
        case hr => intro g0 g1 g2 g3; simp [results, Tryz.results7, go_sem, g0, g1, g2, g3]
        case hQ => exact fun h => ⟨by rw [H.out], h⟩
      · obtain ⟨rfl, i1, i2⟩ := H3.out ha hb
        have hb' : (qk == 4) = false := by simpa using hb
        have ct := fun W => rtext_any (ps ++ qs) W
        obtain ⟨u0, u1, u2, u3, hu⟩ := dat4 (mkText (ps ++ qs))
        rw [hu] at ct
        have H : Hid ((mkText (ps ++ qs)).dat = _) := hu
        clear hu
        clear H1 H2 H3 ha hb
        go_wp2_with fail
        refine (ct _).mono ?_
        rintro r w3 ⟨rfl, E3⟩
        have X3 : Ext w w3 := Ext.trans (by ((with_reducible (repeat' (first | assumption | exact Ext.refl _ | apply Ext.alloc | apply Ext.drew | apply Ext.drewN | apply Ext.setCell))); all_goals (first | omega | (simp; done) | (simp; omega)))) E3
        have R3 := R.ext E3
        have R4 := R3
        clear R
        obtain ⟨rz, ⟨r0, r1, r2, r3⟩, rf0, rf1, rf2, rf3⟩ := R4
        clear ct E3 A B az a0 a1 a2 a3 af0 af1 af2 af3 bz b0 b1 b2 b3 bf0 bf1 bf2 bf3
        go_wp2_with fail
        apply finB (b := w.heap.size + 1 + 1) (w := w)
        case B => ((with_reducible (repeat' (first | assumption | apply Blk.set | apply Blk.far | apply Blk.al | apply Blk.dr))); all_goals omega)
        case hd => rfl
        case E => ((with_reducible (repeat' (first | assumption | exact Ext.refl _ | apply Ext.alloc | apply Ext.drew | apply Ext.drewN | apply Ext.setCell))); all_goals (first | omega | (simp; done) | (simp; omega)))
        case hr => intro g0 g1 g2 g3; simp [results, Tryz.results7, go_sem, g0, g1, g2, g3]
        case hQ => exact fun h => ⟨by rw [H.out], h⟩
end Go.Proofs.YtdmiddpfgmbbhaaGreatDoor
