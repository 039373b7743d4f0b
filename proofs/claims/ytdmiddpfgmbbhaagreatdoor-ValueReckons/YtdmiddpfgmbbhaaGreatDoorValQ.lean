/-
  The contract of the document's Arith, whatever the operator.
-/
import Derived.Test.YtdmiddpfgmbbhaaGreatDoorValP
import Derived.Test.YtdmiddpfgmbbhaaGreatDoorFixL
import Derived.Deep.DeepCutAuto
namespace Go.Proofs.YtdmiddpfgmbbhaaGreatDoor
open Go.RowKit
set_option maxHeartbeats 1000000

set_option maxRecDepth 100000 in
theorem rarith_mul (ka na : Int) (sa : ByteArray) (ea kb nb : Int) (sb : ByteArray) (eb : Int) (w : World) (hna : I64 na) (hnb : I64 nb) :
    Calls Tryz.prog 5 #[.int .u8 42, .agg #[.int .i64 ka, .int .i64 na, .string sa, .int .i64 ea], .agg #[.int .i64 kb, .int .i64 nb, .string sb, .int .i64 eb]] w fun r w' => r = .returned (arith2 42 (nm ka na sa ea).toNum (nm kb nb sb eb).toNum).dat ∧ Ext w w' := by
  have c1 := fun W => rtonum_any ka na sa ea W hna
  have c2 := fun W => rtonum_any kb nb sb eb W hnb
  have n1 : NE _ := toNum_cases (nm ka na sa ea) (nm_ok _ _ _ _ hna)
  have n2 : NE _ := toNum_cases (nm kb nb sb eb) (nm_ok _ _ _ _ hnb)
  generalize (nm ka na sa ea).toNum = a at c1 n1 ⊢
  generalize (nm kb nb sb eb).toNum = b at c2 n2 ⊢
  rw [dat_eq] at c1 c2
  have H1 : Hid (a.k = 4 → (arith2 42 a b).dat = .agg #[.int .i64 4, .int .i64 a.n, .string a.s, .int .i64 a.e]) := fun h => by rw [ar_ea 42 n1 h b, dat_eq, h]
  have H2 : Hid (a.k ≠ 4 → b.k = 4 → (arith2 42 a b).dat = .agg #[.int .i64 4, .int .i64 b.n, .string b.s, .int .i64 b.e]) := fun h g => by rw [ar_eb 42 n1 n2 h g, dat_eq, g]
  have H3 : Hid (a.k ≠ 4 → b.k ≠ 4 → arith2 42 a b = reckon 42 a.n b.n ∧ I64 a.n ∧ I64 b.n) := fun h g => ar_n 42 n1 n2 h g
  clear n1 n2 hna hnb
  generalize a.k = pk at *
  generalize a.n = pn at *
  generalize a.s = ps at *
  generalize a.e = pe at *
  generalize b.k = qk at *
  generalize b.n = qn at *
  generalize b.s = qs at *
  generalize b.e = qe at *
  generalize arith2 42 a b = J at *
  clear a b
  go_enter Tryz.func5, Tryz.ntmps5
  go_upto_region 3 with fail
  obtain ⟨W0, hW0⟩ : ∃ W0, W0 = ((w.alloc (.cells #[.int .i64 ka, .int .i64 na, .string sa, .int .i64 ea] 23)).alloc (.cells #[.int .i64 kb, .int .i64 nb, .string sb, .int .i64 eb] 23)).alloc (.cells #[.int .i64 0, .int .i64 0, .string ⟨#[]⟩, .int .i64 0] 23) := ⟨_, rfl⟩
  rw [← hW0]
  have XW : Ext w W0 := by rw [hW0]; exact (((Ext.refl _).alloc _).alloc _).alloc _
  have hK : Hid (∀ W, Ext W0 W → Blk W (w.heap.size) (.int .i64 ka) (.int .i64 na) (.string sa) (.int .i64 ea) ∧ Blk W (w.heap.size + 1) (.int .i64 kb) (.int .i64 nb) (.string sb) (.int .i64 eb) ∧ Blk W (w.heap.size + 1 + 1) (.int .i64 0) (.int .i64 0) (.string ⟨#[]⟩) (.int .i64 0)) := by
    show ∀ W, _
    intro W h
    rw [hW0] at h
    exact ⟨blk_top (by simp) ((((Ext.refl _).alloc _).alloc _).trans h), blk_top (by simp) (((Ext.refl _).alloc _).trans h), blk_top (by simp) h⟩
  clear hW0
  go_cut [] (fun wx => Ext w wx ∧ Blk wx (w.heap.size) (.int .i64 pk) (.int .i64 pn) (.string ps) (.int .i64 pe) ∧ Blk wx (w.heap.size + 1) (.int .i64 qk) (.int .i64 qn) (.string qs) (.int .i64 qe) ∧ Blk wx (w.heap.size + 1 + 1) (.int .i64 0) (.int .i64 0) (.string ⟨#[]⟩) (.int .i64 0))
  case first =>
    obtain ⟨⟨az, ⟨a0, a1, a2, a3⟩, af0, af1, af2, af3⟩, ⟨bz, ⟨b0, b1, b2, b3⟩, bf0, bf1, bf2, bf3⟩, _⟩ := hK.out W0 (Ext.refl _)
    have d1 := fun W (h : Ext W0 W) => c1 W
    have d2 := fun W (h : Ext W0 W) => c2 W
    clear c1 c2 H1 H2 H3
    go_region_with (first | (go_at_call 16; have q1 := E5; refine Calls.mono (d2 _ ?hh) ?_; (case hh => (with_reducible repeat (first | assumption | exact Ext.refl _ | apply Ext.drew | apply Ext.drewN))); rintro e w6 ⟨rfl, E6⟩; have X6 : Ext W0 w6 := Ext.trans (by (with_reducible repeat (first | assumption | exact Ext.refl _ | apply Ext.drew | apply Ext.drewN))) E6; obtain ⟨⟨az, ⟨a0, a1, a2, a3⟩, af0, af1, af2, af3⟩, ⟨bz, ⟨b0, b1, b2, b3⟩, bf0, bf1, bf2, bf3⟩, _⟩ := hK.out  w6 X6) | (go_at_call 16; refine Calls.mono (d1 _ ?hh) ?_; (case hh => (with_reducible repeat (first | assumption | exact Ext.refl _ | apply Ext.drew | apply Ext.drewN))); rintro e w5 ⟨rfl, E5⟩; have X5 : Ext W0 w5 := Ext.trans (by (with_reducible repeat (first | assumption | exact Ext.refl _ | apply Ext.drew | apply Ext.drewN))) E5; obtain ⟨⟨az, ⟨a0, a1, a2, a3⟩, af0, af1, af2, af3⟩, ⟨bz, ⟨b0, b1, b2, b3⟩, bf0, bf1, bf2, bf3⟩, _⟩ := hK.out  w5 X5))
    all_goals
      obtain ⟨A6, B6, R6⟩ := hK.out w6 X6
      have X7 : Ext w w6 := XW.trans X6
      go_wp2_with fail
      go_meet
      case rel =>
        refine ⟨?_, ?_, ?_, ?_⟩
        · ((with_reducible (repeat' (first | assumption | exact Ext.refl _ | apply Ext.alloc | apply Ext.drew | apply Ext.drewN | apply Ext.setCell))); all_goals (first | omega | (simp; done) | (simp; omega)))
        · ((with_reducible (repeat' (first | assumption | apply Blk.set | apply Blk.far | apply Blk.al | apply Blk.dr))); all_goals omega)
        · ((with_reducible (repeat' (first | assumption | apply Blk.set | apply Blk.far | apply Blk.al | apply Blk.dr))); all_goals omega)
        · ((with_reducible (repeat' (first | assumption | apply Blk.set | apply Blk.far | apply Blk.al | apply Blk.dr))); all_goals omega)
  case rest =>
    obtain ⟨X, A, B, R⟩ := hcut
    have A' := A
    have B' := B
    have R' := R
    obtain ⟨az, ⟨a0, a1, a2, a3⟩, af0, af1, af2, af3⟩ := A'
    obtain ⟨bz, ⟨b0, b1, b2, b3⟩, bf0, bf1, bf2, bf3⟩ := B'
    obtain ⟨rz, ⟨r0, r1, r2, r3⟩, rf0, rf1, rf2, rf3⟩ := R'
    clear c1 c2 hK XW
    by_cases ha : pk = 4
    · have H : Hid (J.dat = _) := H1.out ha
      subst ha
      clear H1 H2 H3
      go_wp2_with fail
      apply finB (b := w.heap.size + 1 + 1) (w := w)
      case B => ((with_reducible (repeat' (first | assumption | apply Blk.set | apply Blk.far | apply Blk.al | apply Blk.dr))); all_goals omega)
      case hd => rfl
      case E => ((with_reducible (repeat' (first | assumption | exact Ext.refl _ | apply Ext.alloc | apply Ext.drew | apply Ext.drewN | apply Ext.setCell))); all_goals (first | omega | (simp; done) | (simp; omega)))
      case hr => intro g0 g1 g2 g3; simp [results, Tryz.results5, go_sem, g0, g1, g2, g3]
      case hQ => exact fun h => ⟨by rw [H.out], h⟩
    · have ha' : (pk == 4) = false := by simpa using ha
      by_cases hb : qk = 4
      · have H : Hid (J.dat = _) := H2.out ha hb
        subst hb
        clear H1 H2 H3 ha
        go_wp2_with fail
        apply finB (b := w.heap.size + 1 + 1) (w := w)
        case B => ((with_reducible (repeat' (first | assumption | apply Blk.set | apply Blk.far | apply Blk.al | apply Blk.dr))); all_goals omega)
        case hd => rfl
        case E => ((with_reducible (repeat' (first | assumption | exact Ext.refl _ | apply Ext.alloc | apply Ext.drew | apply Ext.drewN | apply Ext.setCell))); all_goals (first | omega | (simp; done) | (simp; omega)))
        case hr => intro g0 g1 g2 g3; simp [results, Tryz.results5, go_sem, g0, g1, g2, g3]
        case hQ => exact fun h => ⟨by rw [H.out], h⟩
      · obtain ⟨rfl, i1, i2⟩ := H3.out ha hb
        have hb' : (qk == 4) = false := by simpa using hb
        clear H1 H2 H3 ha hb
        have cf := fun W => rmul_any pn qn i1 i2 W
        cases hz : mulB pn qn
        · rw [hz] at cf
          have H : Hid (reckon 42 pn qn = .err 4) := by show reckon 42 pn qn = _; unfold reckon; rw [if_neg (by decide), if_neg (by decide), if_pos rfl]; rw [hz]; rfl
          have ce := fun W => rerr_any 4 W
          rw [mkErr_is ⟨by decide, by decide⟩] at ce
          simp only [V.dat] at ce
          clear hz i1 i2
          generalize mulV pn qn = m at *
          go_wp2_with fail
          refine (cf _).mono ?_
          rintro r w2 ⟨rfl, E2⟩
          have X2 : Ext w w2 := Ext.trans (by ((with_reducible (repeat' (first | assumption | exact Ext.refl _ | apply Ext.alloc | apply Ext.drew | apply Ext.drewN | apply Ext.setCell))); all_goals (first | omega | (simp; done) | (simp; omega)))) E2
          have R2 := R.ext E2
          clear A B R X E2 cf az a0 a1 a2 a3 af0 af1 af2 af3 bz b0 b1 b2 b3 bf0 bf1 bf2 bf3 rz r0 r1 r2 r3 rf0 rf1 rf2 rf3
          go_wp2_with fail
          refine (ce _).mono ?_
          rintro r w3 ⟨rfl, E3⟩
          have X3 : Ext w w3 := Ext.trans (by ((with_reducible (repeat' (first | assumption | exact Ext.refl _ | apply Ext.alloc | apply Ext.drew | apply Ext.drewN | apply Ext.setCell))); all_goals (first | omega | (simp; done) | (simp; omega)))) E3
          have R3 := R2.ext E3
          have Rz := R3
          obtain ⟨rz, ⟨r0, r1, r2, r3⟩, rf0, rf1, rf2, rf3⟩ := Rz
          go_wp2_with fail
          apply finB (b := w.heap.size + 1 + 1) (w := w)
          case B => ((with_reducible (repeat' (first | assumption | apply Blk.set | apply Blk.far | apply Blk.al | apply Blk.dr))); all_goals omega)
          case hd => rfl
          case E => ((with_reducible (repeat' (first | assumption | exact Ext.refl _ | apply Ext.alloc | apply Ext.drew | apply Ext.drewN | apply Ext.setCell))); all_goals (first | omega | (simp; done) | (simp; omega)))
          case hr => intro g0 g1 g2 g3; simp [results, Tryz.results5, go_sem, g0, g1, g2, g3]
          case hQ => exact fun h => ⟨by rw [H.out]; rfl, h⟩
        · rw [hz] at cf
          have cn := fun W => rnum_any (mulV pn qn) W
          obtain ⟨u0, u1, u2, u3, hu⟩ := dat4 (mkNum (mulV pn qn))
          rw [hu] at cn
          have H : Hid ((reckon 42 pn qn).dat = .agg #[.int .i64 u0, .int .i64 u1, .string u2, .int .i64 u3]) := by show (reckon 42 pn qn).dat = _; rw [← hu]; unfold reckon; rw [if_neg (by decide), if_neg (by decide), if_pos rfl]; rw [hz]; rfl
          clear hu hz i1 i2
          generalize mulV pn qn = m at *
          go_wp2_with fail
          refine (cf _).mono ?_
          rintro r w2 ⟨rfl, E2⟩
          have X2 : Ext w w2 := Ext.trans (by ((with_reducible (repeat' (first | assumption | exact Ext.refl _ | apply Ext.alloc | apply Ext.drew | apply Ext.drewN | apply Ext.setCell))); all_goals (first | omega | (simp; done) | (simp; omega)))) E2
          have R2 := R.ext E2
          clear A B R X E2 cf az a0 a1 a2 a3 af0 af1 af2 af3 bz b0 b1 b2 b3 bf0 bf1 bf2 bf3 rz r0 r1 r2 r3 rf0 rf1 rf2 rf3
          go_wp2_with fail
          refine (cn _).mono ?_
          rintro r w3 ⟨rfl, E3⟩
          have X3 : Ext w w3 := Ext.trans (by ((with_reducible (repeat' (first | assumption | exact Ext.refl _ | apply Ext.alloc | apply Ext.drew | apply Ext.drewN | apply Ext.setCell))); all_goals (first | omega | (simp; done) | (simp; omega)))) E3
          have R3 := R2.ext E3
          have Rz := R3
          obtain ⟨rz, ⟨r0, r1, r2, r3⟩, rf0, rf1, rf2, rf3⟩ := Rz
          go_wp2_with fail
          apply finB (b := w.heap.size + 1 + 1) (w := w)
          case B => ((with_reducible (repeat' (first | assumption | apply Blk.set | apply Blk.far | apply Blk.al | apply Blk.dr))); all_goals omega)
          case hd => rfl
          case E => ((with_reducible (repeat' (first | assumption | exact Ext.refl _ | apply Ext.alloc | apply Ext.drew | apply Ext.drewN | apply Ext.setCell))); all_goals (first | omega | (simp; done) | (simp; omega)))
          case hr => intro g0 g1 g2 g3; simp [results, Tryz.results5, go_sem, g0, g1, g2, g3]
          case hQ => exact fun h => ⟨by rw [H.out], h⟩
set_option maxRecDepth 100000 in
theorem rarith_div (ka na : Int) (sa : ByteArray) (ea kb nb : Int) (sb : ByteArray) (eb : Int) (w : World) (hna : I64 na) (hnb : I64 nb) :
    Calls Tryz.prog 5 #[.int .u8 47, .agg #[.int .i64 ka, .int .i64 na, .string sa, .int .i64 ea], .agg #[.int .i64 kb, .int .i64 nb, .string sb, .int .i64 eb]] w fun r w' => r = .returned (arith2 47 (nm ka na sa ea).toNum (nm kb nb sb eb).toNum).dat ∧ Ext w w' := by
  have c1 := fun W => rtonum_any ka na sa ea W hna
  have c2 := fun W => rtonum_any kb nb sb eb W hnb
  have n1 : NE _ := toNum_cases (nm ka na sa ea) (nm_ok _ _ _ _ hna)
  have n2 : NE _ := toNum_cases (nm kb nb sb eb) (nm_ok _ _ _ _ hnb)
  generalize (nm ka na sa ea).toNum = a at c1 n1 ⊢
  generalize (nm kb nb sb eb).toNum = b at c2 n2 ⊢
  rw [dat_eq] at c1 c2
  have H1 : Hid (a.k = 4 → (arith2 47 a b).dat = .agg #[.int .i64 4, .int .i64 a.n, .string a.s, .int .i64 a.e]) := fun h => by rw [ar_ea 47 n1 h b, dat_eq, h]
  have H2 : Hid (a.k ≠ 4 → b.k = 4 → (arith2 47 a b).dat = .agg #[.int .i64 4, .int .i64 b.n, .string b.s, .int .i64 b.e]) := fun h g => by rw [ar_eb 47 n1 n2 h g, dat_eq, g]
  have H3 : Hid (a.k ≠ 4 → b.k ≠ 4 → arith2 47 a b = reckon 47 a.n b.n ∧ I64 a.n ∧ I64 b.n) := fun h g => ar_n 47 n1 n2 h g
  clear n1 n2 hna hnb
  generalize a.k = pk at *
  generalize a.n = pn at *
  generalize a.s = ps at *
  generalize a.e = pe at *
  generalize b.k = qk at *
  generalize b.n = qn at *
  generalize b.s = qs at *
  generalize b.e = qe at *
  generalize arith2 47 a b = J at *
  clear a b
  go_enter Tryz.func5, Tryz.ntmps5
  go_upto_region 3 with fail
  obtain ⟨W0, hW0⟩ : ∃ W0, W0 = ((w.alloc (.cells #[.int .i64 ka, .int .i64 na, .string sa, .int .i64 ea] 23)).alloc (.cells #[.int .i64 kb, .int .i64 nb, .string sb, .int .i64 eb] 23)).alloc (.cells #[.int .i64 0, .int .i64 0, .string ⟨#[]⟩, .int .i64 0] 23) := ⟨_, rfl⟩
  rw [← hW0]
  have XW : Ext w W0 := by rw [hW0]; exact (((Ext.refl _).alloc _).alloc _).alloc _
  have hK : Hid (∀ W, Ext W0 W → Blk W (w.heap.size) (.int .i64 ka) (.int .i64 na) (.string sa) (.int .i64 ea) ∧ Blk W (w.heap.size + 1) (.int .i64 kb) (.int .i64 nb) (.string sb) (.int .i64 eb) ∧ Blk W (w.heap.size + 1 + 1) (.int .i64 0) (.int .i64 0) (.string ⟨#[]⟩) (.int .i64 0)) := by
    show ∀ W, _
    intro W h
    rw [hW0] at h
    exact ⟨blk_top (by simp) ((((Ext.refl _).alloc _).alloc _).trans h), blk_top (by simp) (((Ext.refl _).alloc _).trans h), blk_top (by simp) h⟩
  clear hW0
  go_cut [] (fun wx => Ext w wx ∧ Blk wx (w.heap.size) (.int .i64 pk) (.int .i64 pn) (.string ps) (.int .i64 pe) ∧ Blk wx (w.heap.size + 1) (.int .i64 qk) (.int .i64 qn) (.string qs) (.int .i64 qe) ∧ Blk wx (w.heap.size + 1 + 1) (.int .i64 0) (.int .i64 0) (.string ⟨#[]⟩) (.int .i64 0))
  case first =>
    obtain ⟨⟨az, ⟨a0, a1, a2, a3⟩, af0, af1, af2, af3⟩, ⟨bz, ⟨b0, b1, b2, b3⟩, bf0, bf1, bf2, bf3⟩, _⟩ := hK.out W0 (Ext.refl _)
    have d1 := fun W (h : Ext W0 W) => c1 W
    have d2 := fun W (h : Ext W0 W) => c2 W
    clear c1 c2 H1 H2 H3
    go_region_with (first | (go_at_call 16; have q1 := E5; refine Calls.mono (d2 _ ?hh) ?_; (case hh => (with_reducible repeat (first | assumption | exact Ext.refl _ | apply Ext.drew | apply Ext.drewN))); rintro e w6 ⟨rfl, E6⟩; have X6 : Ext W0 w6 := Ext.trans (by (with_reducible repeat (first | assumption | exact Ext.refl _ | apply Ext.drew | apply Ext.drewN))) E6; obtain ⟨⟨az, ⟨a0, a1, a2, a3⟩, af0, af1, af2, af3⟩, ⟨bz, ⟨b0, b1, b2, b3⟩, bf0, bf1, bf2, bf3⟩, _⟩ := hK.out  w6 X6) | (go_at_call 16; refine Calls.mono (d1 _ ?hh) ?_; (case hh => (with_reducible repeat (first | assumption | exact Ext.refl _ | apply Ext.drew | apply Ext.drewN))); rintro e w5 ⟨rfl, E5⟩; have X5 : Ext W0 w5 := Ext.trans (by (with_reducible repeat (first | assumption | exact Ext.refl _ | apply Ext.drew | apply Ext.drewN))) E5; obtain ⟨⟨az, ⟨a0, a1, a2, a3⟩, af0, af1, af2, af3⟩, ⟨bz, ⟨b0, b1, b2, b3⟩, bf0, bf1, bf2, bf3⟩, _⟩ := hK.out  w5 X5))
    all_goals
      obtain ⟨A6, B6, R6⟩ := hK.out w6 X6
      have X7 : Ext w w6 := XW.trans X6
      go_wp2_with fail
      go_meet
      case rel =>
        refine ⟨?_, ?_, ?_, ?_⟩
        · ((with_reducible (repeat' (first | assumption | exact Ext.refl _ | apply Ext.alloc | apply Ext.drew | apply Ext.drewN | apply Ext.setCell))); all_goals (first | omega | (simp; done) | (simp; omega)))
        · ((with_reducible (repeat' (first | assumption | apply Blk.set | apply Blk.far | apply Blk.al | apply Blk.dr))); all_goals omega)
        · ((with_reducible (repeat' (first | assumption | apply Blk.set | apply Blk.far | apply Blk.al | apply Blk.dr))); all_goals omega)
        · ((with_reducible (repeat' (first | assumption | apply Blk.set | apply Blk.far | apply Blk.al | apply Blk.dr))); all_goals omega)
  case rest =>
    obtain ⟨X, A, B, R⟩ := hcut
    have A' := A
    have B' := B
    have R' := R
    obtain ⟨az, ⟨a0, a1, a2, a3⟩, af0, af1, af2, af3⟩ := A'
    obtain ⟨bz, ⟨b0, b1, b2, b3⟩, bf0, bf1, bf2, bf3⟩ := B'
    obtain ⟨rz, ⟨r0, r1, r2, r3⟩, rf0, rf1, rf2, rf3⟩ := R'
    clear c1 c2 hK XW
    by_cases ha : pk = 4
    · have H : Hid (J.dat = _) := H1.out ha
      subst ha
      clear H1 H2 H3
      go_wp2_with fail
      apply finB (b := w.heap.size + 1 + 1) (w := w)
      case B => ((with_reducible (repeat' (first | assumption | apply Blk.set | apply Blk.far | apply Blk.al | apply Blk.dr))); all_goals omega)
      case hd => rfl
      case E => ((with_reducible (repeat' (first | assumption | exact Ext.refl _ | apply Ext.alloc | apply Ext.drew | apply Ext.drewN | apply Ext.setCell))); all_goals (first | omega | (simp; done) | (simp; omega)))
      case hr => intro g0 g1 g2 g3; simp [results, Tryz.results5, go_sem, g0, g1, g2, g3]
      case hQ => exact fun h => ⟨by rw [H.out], h⟩
    · have ha' : (pk == 4) = false := by simpa using ha
      by_cases hb : qk = 4
      · have H : Hid (J.dat = _) := H2.out ha hb
        subst hb
        clear H1 H2 H3 ha
        go_wp2_with fail
        apply finB (b := w.heap.size + 1 + 1) (w := w)
        case B => ((with_reducible (repeat' (first | assumption | apply Blk.set | apply Blk.far | apply Blk.al | apply Blk.dr))); all_goals omega)
        case hd => rfl
        case E => ((with_reducible (repeat' (first | assumption | exact Ext.refl _ | apply Ext.alloc | apply Ext.drew | apply Ext.drewN | apply Ext.setCell))); all_goals (first | omega | (simp; done) | (simp; omega)))
        case hr => intro g0 g1 g2 g3; simp [results, Tryz.results5, go_sem, g0, g1, g2, g3]
        case hQ => exact fun h => ⟨by rw [H.out], h⟩
      · obtain ⟨rfl, i1, i2⟩ := H3.out ha hb
        have hb' : (qk == 4) = false := by simpa using hb
        clear H1 H2 H3 ha hb
        by_cases h0 : qn = 0
        · subst h0
          have H : Hid (reckon 47 pn 0 = .err 3) := rfl
          have ce := fun W => rerr_any 3 W
          rw [mkErr_is ⟨by decide, by decide⟩] at ce
          simp only [V.dat] at ce
          clear i1 i2
          go_wp2_with fail
          refine (ce _).mono ?_
          rintro r w2 ⟨rfl, E2⟩
          have X2 : Ext w w2 := Ext.trans (by ((with_reducible (repeat' (first | assumption | exact Ext.refl _ | apply Ext.alloc | apply Ext.drew | apply Ext.drewN | apply Ext.setCell))); all_goals (first | omega | (simp; done) | (simp; omega)))) E2
          have R2 := R.ext E2
          have Rz := R2
          obtain ⟨rz, ⟨r0, r1, r2, r3⟩, rf0, rf1, rf2, rf3⟩ := Rz
          go_wp2_with fail
          apply finB (b := w.heap.size + 1 + 1) (w := w)
          case B => ((with_reducible (repeat' (first | assumption | apply Blk.set | apply Blk.far | apply Blk.al | apply Blk.dr))); all_goals omega)
          case hd => rfl
          case E => ((with_reducible (repeat' (first | assumption | exact Ext.refl _ | apply Ext.alloc | apply Ext.drew | apply Ext.drewN | apply Ext.setCell))); all_goals (first | omega | (simp; done) | (simp; omega)))
          case hr => intro g0 g1 g2 g3; simp [results, Tryz.results5, go_sem, g0, g1, g2, g3]
          case hQ => exact fun h => ⟨by rw [H.out]; rfl, h⟩
        · have h0' : (qn == 0) = false := by simpa using h0
          have cf := fun W => rdiv_any pn qn i1 i2 W
          cases hz : divB pn qn
          · rw [hz] at cf
            have H : Hid (reckon 47 pn qn = .err 4) := by show reckon 47 pn qn = _; unfold reckon; rw [if_neg (by decide), if_neg (by decide), if_neg (by decide), if_neg h0]; rw [hz]; rfl
            have ce := fun W => rerr_any 4 W
            rw [mkErr_is ⟨by decide, by decide⟩] at ce
            simp only [V.dat] at ce
            clear hz i1 i2 h0
            generalize divV pn qn = m at *
            go_wp2_with fail
            refine (cf _).mono ?_
            rintro r w2 ⟨rfl, E2⟩
            have X2 : Ext w w2 := Ext.trans (by ((with_reducible (repeat' (first | assumption | exact Ext.refl _ | apply Ext.alloc | apply Ext.drew | apply Ext.drewN | apply Ext.setCell))); all_goals (first | omega | (simp; done) | (simp; omega)))) E2
            have R2 := R.ext E2
            clear A B R X E2 cf az a0 a1 a2 a3 af0 af1 af2 af3 bz b0 b1 b2 b3 bf0 bf1 bf2 bf3 rz r0 r1 r2 r3 rf0 rf1 rf2 rf3
            go_wp2_with fail
            refine (ce _).mono ?_
            rintro r w3 ⟨rfl, E3⟩
            have X3 : Ext w w3 := Ext.trans (by ((with_reducible (repeat' (first | assumption | exact Ext.refl _ | apply Ext.alloc | apply Ext.drew | apply Ext.drewN | apply Ext.setCell))); all_goals (first | omega | (simp; done) | (simp; omega)))) E3
            have R3 := R2.ext E3
            have Rz := R3
            obtain ⟨rz, ⟨r0, r1, r2, r3⟩, rf0, rf1, rf2, rf3⟩ := Rz
            go_wp2_with fail
            apply finB (b := w.heap.size + 1 + 1) (w := w)
            case B => ((with_reducible (repeat' (first | assumption | apply Blk.set | apply Blk.far | apply Blk.al | apply Blk.dr))); all_goals omega)
            case hd => rfl
            case E => ((with_reducible (repeat' (first | assumption | exact Ext.refl _ | apply Ext.alloc | apply Ext.drew | apply Ext.drewN | apply Ext.setCell))); all_goals (first | omega | (simp; done) | (simp; omega)))
            case hr => intro g0 g1 g2 g3; simp [results, Tryz.results5, go_sem, g0, g1, g2, g3]
            case hQ => exact fun h => ⟨by rw [H.out]; rfl, h⟩
          · rw [hz] at cf
            have cn := fun W => rnum_any (divV pn qn) W
            obtain ⟨u0, u1, u2, u3, hu⟩ := dat4 (mkNum (divV pn qn))
            rw [hu] at cn
            have H : Hid ((reckon 47 pn qn).dat = .agg #[.int .i64 u0, .int .i64 u1, .string u2, .int .i64 u3]) := by show (reckon 47 pn qn).dat = _; rw [← hu]; unfold reckon; rw [if_neg (by decide), if_neg (by decide), if_neg (by decide), if_neg h0]; rw [hz]; rfl
            clear hu hz i1 i2 h0
            generalize divV pn qn = m at *
            go_wp2_with fail
            refine (cf _).mono ?_
            rintro r w2 ⟨rfl, E2⟩
            have X2 : Ext w w2 := Ext.trans (by ((with_reducible (repeat' (first | assumption | exact Ext.refl _ | apply Ext.alloc | apply Ext.drew | apply Ext.drewN | apply Ext.setCell))); all_goals (first | omega | (simp; done) | (simp; omega)))) E2
            have R2 := R.ext E2
            clear A B R X E2 cf az a0 a1 a2 a3 af0 af1 af2 af3 bz b0 b1 b2 b3 bf0 bf1 bf2 bf3 rz r0 r1 r2 r3 rf0 rf1 rf2 rf3
            go_wp2_with fail
            refine (cn _).mono ?_
            rintro r w3 ⟨rfl, E3⟩
            have X3 : Ext w w3 := Ext.trans (by ((with_reducible (repeat' (first | assumption | exact Ext.refl _ | apply Ext.alloc | apply Ext.drew | apply Ext.drewN | apply Ext.setCell))); all_goals (first | omega | (simp; done) | (simp; omega)))) E3
            have R3 := R2.ext E3
            have Rz := R3
            obtain ⟨rz, ⟨r0, r1, r2, r3⟩, rf0, rf1, rf2, rf3⟩ := Rz
            go_wp2_with fail
            apply finB (b := w.heap.size + 1 + 1) (w := w)
            case B => ((with_reducible (repeat' (first | assumption | apply Blk.set | apply Blk.far | apply Blk.al | apply Blk.dr))); all_goals omega)
            case hd => rfl
            case E => ((with_reducible (repeat' (first | assumption | exact Ext.refl _ | apply Ext.alloc | apply Ext.drew | apply Ext.drewN | apply Ext.setCell))); all_goals (first | omega | (simp; done) | (simp; omega)))
            case hr => intro g0 g1 g2 g3; simp [results, Tryz.results5, go_sem, g0, g1, g2, g3]
            case hQ => exact fun h => ⟨by rw [H.out], h⟩
theorem rarith_no (op : Int) (h : opB op = false) (ka na : Int) (sa : ByteArray) (ea kb nb : Int) (sb : ByteArray) (eb : Int) (w : World) :
    Calls Tryz.prog 5 #[.int .u8 op, .agg #[.int .i64 ka, .int .i64 na, .string sa, .int .i64 ea], .agg #[.int .i64 kb, .int .i64 nb, .string sb, .int .i64 eb]] w fun r w' => r = .returned (arith op (nm ka na sa ea) (nm kb nb sb eb)).dat ∧ Ext w w' := by
  have H : Hid (arith op (nm ka na sa ea) (nm kb nb sb eb) = .err 2) := by show arith _ _ _ = _; unfold arith; rw [h]; rfl
  have n1 : (op != 43) = true := by simp; rintro rfl; cases h
  have n2 : (op != 45) = true := by simp; rintro rfl; cases h
  have n3 : (op != 42) = true := by simp; rintro rfl; cases h
  have n4 : (op != 47) = true := by simp; rintro rfl; cases h
  have m1 : (op == 43) = false := by simpa using n1
  have m2 : (op == 45) = false := by simpa using n2
  have m3 : (op == 42) = false := by simpa using n3
  have m4 : (op == 47) = false := by simpa using n4
  have c2 := fun W => rerr_any 2 W
  rw [mkErr_is ⟨by decide, by decide⟩] at c2
  simp only [V.dat] at c2
  generalize arith op (nm ka na sa ea) (nm kb nb sb eb) = J at *
  clear h
  go_enter Tryz.func5, Tryz.ntmps5
  go_wp2_with fail
  refine (c2 _).mono ?_
  rintro r w2 ⟨rfl, E2⟩
  have R2 := blk_top (b := w.heap.size + 1 + 1) (by simp) E2
  have X2 : Ext w w2 := Ext.trans ((((Ext.refl _).alloc _).alloc _).alloc _) E2
  have R3 := R2
  obtain ⟨rz, ⟨r0, r1, r2, r3⟩, rf0, rf1, rf2, rf3⟩ := R3
  go_wp2_with fail
  exact finB (R2.set _ _ _ _) rfl ((((X2.setCell (by simp; omega) _).setCell (by simp; omega) _).setCell (by simp; omega) _).setCell (by simp; omega) _) (fun g0 g1 g2 g3 => by simp [results, Tryz.results5, go_sem, g0, g1, g2, g3]) (fun h => ⟨by rw [H.out]; rfl, h⟩)
theorem rarith_any (op : Int) (ka na : Int) (sa : ByteArray) (ea kb nb : Int) (sb : ByteArray) (eb : Int) (w : World) (hna : I64 na) (hnb : I64 nb) :
    Calls Tryz.prog 5 #[.int .u8 op, .agg #[.int .i64 ka, .int .i64 na, .string sa, .int .i64 ea], .agg #[.int .i64 kb, .int .i64 nb, .string sb, .int .i64 eb]] w fun r w' => r = .returned (arith op (nm ka na sa ea) (nm kb nb sb eb)).dat ∧ Ext w w' := by
  cases h : opB op
  · exact rarith_no op h ka na sa ea kb nb sb eb w
  · unfold arith
    rw [if_pos h]
    rcases opB_cases op h with rfl | rfl | rfl | rfl
    · exact rarith_add ka na sa ea kb nb sb eb w hna hnb
    · exact rarith_sub ka na sa ea kb nb sb eb w hna hnb
    · exact rarith_mul ka na sa ea kb nb sb eb w hna hnb
    · exact rarith_div ka na sa ea kb nb sb eb w hna hnb
end Go.Proofs.YtdmiddpfgmbbhaaGreatDoor
