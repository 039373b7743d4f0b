/-
  The contract of the document's Compare.
-/
import Derived.Test.YtlfkiepnahgbeaaDoorValBef
import Derived.Test.YtlfkiepnahgbeaaDoorValF
import Derived.Test.YtlfkiepnahgbeaaDoorBar
import Derived.Deep.DeepCutAuto
namespace Go.Proofs.YtlfkiepnahgbeaaDoor
open Go.RowKit
set_option maxHeartbeats 1000000

def r3 (x y : Bool) : Int := if x then -1 else if y then 1 else 0
theorem Blk.put0 {w : World} {b : Nat} {x0 x1 x2 x3 : Value} (h : Blk w b x0 x1 x2 x3) (v : Value) : Blk (w.setCell ⟨b, 0, none⟩ v) b v x1 x2 x3 := by
  obtain ⟨z, ⟨k0, k1, k2, k3⟩, f0, f1, f2, f3⟩ := h
  refine ⟨by simpa [World.setCell] using z, ⟨World.cell?_setCell_same _ ⟨b, 0, none⟩ _ (by rw [k0]), ?_, ?_, ?_⟩, ?_, ?_, ?_, ?_⟩
  · rw [World.cell?_setCell_other _ _ _ _ (by simp)]; exact k1
  · rw [World.cell?_setCell_other _ _ _ _ (by simp)]; exact k2
  · rw [World.cell?_setCell_other _ _ _ _ (by simp)]; exact k3
  · rw [World.frozen?_setCell]; exact f0
  · rw [World.frozen?_setCell]; exact f1
  · rw [World.frozen?_setCell]; exact f2
  · rw [World.frozen?_setCell]; exact f3
theorem r3_sg (x y : Int) : r3 (decide (x < y)) (decide (y < x)) = sg3 x y := by
  unfold r3 sg3; simp only [decide_eq_true_eq]
theorem r3_cb (a b : ByteArray) : r3 (befB a b) (befB b a) = Lib.compareBytes a.data.toList b.data.toList := by
  unfold r3 befB
  have h := cb_anti a.data.toList b.data.toList
  rcases cb_range a.data.toList b.data.toList with g | g | g <;> rw [g] at h <;> rw [g, h] <;> decide
/-- The document's way to hold two values against each other is the same order. -/
theorem cmp_r {a b : V} (h : a.k ≠ 4) (g : b.k ≠ 4) (x y : Int) (hx : x = if a.k = 0 then b.k else a.k) (hy : y = if b.k = 0 then x else b.k) : cmpE a b = .blank ∧ cmpV a b = r3 (lessL x a.n a.s y b.n b.s) (lessL y b.n b.s x a.n a.s) := by
  subst hx hy
  refine ⟨(cmp_n h g).1, ?_⟩
  cases a <;> cases b <;> first | (exfalso; revert h g; simp [V.k]; done) | skip
  all_goals
    simp only [cmpV, asBy, V.zeroOf, ord, V.k, V.n, V.s, rankV, lessL]
    first | (exact (r3_sg _ _).symm) | (exact (r3_cb _ _).symm) | (simp [r3]; done) | (simp; first | exact (r3_sg _ _).symm | exact (r3_cb _ _).symm | exact (r3_cb ⟨#[]⟩ _).symm | exact (r3_cb _ ⟨#[]⟩).symm | rfl | decide)
set_option maxRecDepth 100000 in
theorem rcompare_any (ka na : Int) (sa : ByteArray) (ea kb nb : Int) (sb : ByteArray) (eb : Int) (w : World) (hna : I64 na) (hnb : I64 nb) :
    Calls Tryd.prog 19 #[.agg #[.int .i64 ka, .int .i64 na, .string sa, .int .i64 ea], .agg #[.int .i64 kb, .int .i64 nb, .string sb, .int .i64 eb]] w fun r w' =>
      r = .returned (.tuple #[.int .i64 (cmpV (nm ka na sa ea) (nm kb nb sb eb)), (cmpE (nm ka na sa ea) (nm kb nb sb eb)).dat]) ∧ Ext w w' := by
  have c1 := fun W => rnormal_any ka na sa ea W
  have c2 := fun W => rnormal_any kb nb sb eb W
  have o1 := nm_ok ka na sa ea hna
  have o2 := nm_ok kb nb sb eb hnb
  generalize nm ka na sa ea = a at c1 o1 ⊢
  generalize nm kb nb sb eb = b at c2 o2 ⊢
  rw [dat_eq] at c1 c2
  have z1 : a.s.size ≤ 300 := by cases a <;> first | exact o1 | exact Nat.zero_le _
  have z2 : b.s.size ≤ 300 := by cases b <;> first | exact o2 | exact Nat.zero_le _
  have H1 : Hid (a.k = 4 → cmpV a b = 0 ∧ (cmpE a b).dat = .agg #[.int .i64 4, .int .i64 a.n, .string a.s, .int .i64 a.e]) := fun ha => ⟨(cmp_ea b ha).1, by rw [(cmp_ea b ha).2, dat_eq, ha]⟩
  have H2 : Hid (a.k ≠ 4 → b.k = 4 → cmpV a b = 0 ∧ (cmpE a b).dat = .agg #[.int .i64 4, .int .i64 b.n, .string b.s, .int .i64 b.e]) := fun ha hb => ⟨(cmp_eb ha hb).1, by rw [(cmp_eb ha hb).2, dat_eq, hb]⟩
  have H3 : Hid (a.k ≠ 4 → b.k ≠ 4 → ∀ x y, x = (if a.k = 0 then b.k else a.k) → y = (if b.k = 0 then x else b.k) → cmpE a b = .blank ∧ cmpV a b = r3 (lessL x a.n a.s y b.n b.s) (lessL y b.n b.s x a.n a.s)) := fun ha hb x y hx hy => cmp_r ha hb x y hx hy
  clear o1 o2 hna hnb
  generalize a.k = pk at *
  generalize a.n = pn at *
  generalize a.s = ps at *
  generalize a.e = pe at *
  generalize b.k = qk at *
  generalize b.n = qn at *
  generalize b.s = qs at *
  generalize b.e = qe at *
  generalize cmpV a b = I at *
  generalize cmpE a b = J at *
  clear a b
  go_enter Tryd.func19, Tryd.ntmps19
  go_upto_region 1 with fail
  obtain ⟨W0, hW0⟩ : ∃ W0, W0 = ((w.alloc (.cells #[.int .i64 ka, .int .i64 na, .string sa, .int .i64 ea] 23)).alloc (.cells #[.int .i64 kb, .int .i64 nb, .string sb, .int .i64 eb] 23)).alloc (.cells #[.int .i64 0, .int .i64 0, .string ⟨#[]⟩, .int .i64 0] 23) := ⟨_, rfl⟩
  rw [← hW0]
  have XW : Ext w W0 := by rw [hW0]; exact (((Ext.refl _).alloc _).alloc _).alloc _
  have hK : Hid (∀ W, Ext W0 W → Blk W (w.heap.size) (.int .i64 ka) (.int .i64 na) (.string sa) (.int .i64 ea) ∧ Blk W (w.heap.size + 1) (.int .i64 kb) (.int .i64 nb) (.string sb) (.int .i64 eb) ∧ Blk W (w.heap.size + 1 + 1) (.int .i64 0) (.int .i64 0) (.string ⟨#[]⟩) (.int .i64 0)) := by
    show ∀ W, _
    intro W h
    rw [hW0] at h
    exact ⟨blk_top (by simp) ((((Ext.refl _).alloc _).alloc _).trans h), blk_top (by simp) (((Ext.refl _).alloc _).trans h), blk_top (by simp) h⟩
  clear hW0
  go_cut [] (fun wx => Ext w wx ∧ Blk wx w.heap.size (.int .i64 pk) (.int .i64 pn) (.string ps) (.int .i64 pe) ∧ Blk wx (w.heap.size + 1) (.int .i64 qk) (.int .i64 qn) (.string qs) (.int .i64 qe) ∧ Blk wx (w.heap.size + 1 + 1) (.int .i64 0) (.int .i64 0) (.string ⟨#[]⟩) (.int .i64 0))
  case first =>
    clear H1 H2 H3 z1 z2
    have mkS : Hid (∀ W, Ext W0 W → (W.cell? ⟨w.heap.size, 0, none⟩ = some (.int .i64 ka) ∧ W.cell? ⟨w.heap.size, 1, none⟩ = some (.int .i64 na) ∧ W.cell? ⟨w.heap.size, 2, none⟩ = some (.string sa) ∧ W.cell? ⟨w.heap.size, 3, none⟩ = some (.int .i64 ea)) ∧ (W.cell? ⟨w.heap.size + 1, 0, none⟩ = some (.int .i64 kb) ∧ W.cell? ⟨w.heap.size + 1, 1, none⟩ = some (.int .i64 nb) ∧ W.cell? ⟨w.heap.size + 1, 2, none⟩ = some (.string sb) ∧ W.cell? ⟨w.heap.size + 1, 3, none⟩ = some (.int .i64 eb)) ∧ Ext W0 W) := by
      show ∀ W, _
      intro W h
      exact ⟨(hK.out W h).1.2.1, (hK.out W h).2.1.2.1, h⟩
    refine bar_begin (B := fun i => i == 4 || i == 5) (S := fun W => (W.cell? ⟨w.heap.size, 0, none⟩ = some (.int .i64 ka) ∧ W.cell? ⟨w.heap.size, 1, none⟩ = some (.int .i64 na) ∧ W.cell? ⟨w.heap.size, 2, none⟩ = some (.string sa) ∧ W.cell? ⟨w.heap.size, 3, none⟩ = some (.int .i64 ea)) ∧ (W.cell? ⟨w.heap.size + 1, 0, none⟩ = some (.int .i64 kb) ∧ W.cell? ⟨w.heap.size + 1, 1, none⟩ = some (.int .i64 nb) ∧ W.cell? ⟨w.heap.size + 1, 2, none⟩ = some (.string sb) ∧ W.cell? ⟨w.heap.size + 1, 3, none⟩ = some (.int .i64 eb)) ∧ Ext W0 W) (by kernel_rfl) ?_
    have hS0 := mkS.out (World.drew W0) (Ext.refl _).drew
    refine bar_take (i := 0) (v := ?va0) rfl (by kernel_rfl) (by kernel_rfl) (by kernel_rfl) (by kernel_rfl) (fun _ _ _ h => h) (Or.inl ⟨by rfl, ?hya0⟩) hS0 ?resta0
    case hya0 => (intro W hSW; (try dsimp only at hSW); go_simp; with_reducible rfl)
    simp only [Act.put, List.setIfInBounds_toArray]
    refine bar_take (i := 2) (v := ?va2) rfl (by kernel_rfl) (by kernel_rfl) (by kernel_rfl) (by kernel_rfl) (fun _ _ _ h => h) (Or.inl ⟨by rfl, ?hya2⟩) hS0 ?resta2
    case hya2 => (intro W hSW; (try dsimp only at hSW); go_simp; with_reducible rfl)
    simp only [Act.put]
    refine bar_one (i := 1) (by kernel_rfl) rfl (fun KK hKK => ?_)
    go_simp
    go_wp2_with (go_at_call 22; refine Calls.mono (c1 _) ?_; rintro e w5 ⟨rfl, E5⟩)
    have X5 : Ext W0 w5 := Ext.trans (Ext.refl _).drew E5
    refine hKK.out _ _ (fun _ => mkS.out _ X5) ?_
    clear hKK KK hS0
    refine bar_one (i := 3) (by kernel_rfl) rfl (fun KK hKK => ?_)
    go_simp
    go_wp2_with (go_at_call 22; refine Calls.mono (c2 _) ?_; rintro e w6 ⟨rfl, E6⟩)
    have X6 : Ext W0 w6 := X5.trans E6
    refine hKK.out _ _ (fun _ => mkS.out _ X6) ?_
    clear hKK KK mkS
    obtain ⟨A6, B6, R6⟩ := hK.out w6 X6
    have A7 := A6
    have B7 := B6
    obtain ⟨az, ⟨a0, a1, a2, a3⟩, af0, af1, af2, af3⟩ := A7
    obtain ⟨bz, ⟨b0, b1, b2, b3⟩, bf0, bf1, bf2, bf3⟩ := B7
    have X7 : Ext w w6 := XW.trans X6
    refine bar_one (i := 4) (by kernel_rfl) rfl (fun KK hKK => ?_)
    go_simp
    refine hKK.out _ _ (fun h => absurd h (by decide)) ?_
    clear hKK KK
    refine bar_one (i := 5) (by kernel_rfl) rfl (fun KK hKK => ?_)
    go_simp
    refine hKK.out _ _ (fun h => absurd h (by decide)) ?_
    clear hKK KK
    refine bar_done (by kernel_rfl) ?_ _
    go_wp2_with fail
    go_meet
    case rel =>
      refine ⟨?_, ?_, ?_, ?_⟩
      · ((with_reducible (repeat' (first | assumption | exact Ext.refl _ | apply Ext.alloc | apply Ext.drew | apply Ext.drewN | apply Ext.setCell))); all_goals (first | omega | (simp; done) | (simp; omega)))
      · ((with_reducible (repeat' (first | assumption | apply Blk.set | apply Blk.far | apply Blk.al | apply Blk.dr))); all_goals omega)
      · ((with_reducible (repeat' (first | assumption | apply Blk.set | apply Blk.far | apply Blk.al | apply Blk.dr))); all_goals omega)
      · ((with_reducible (repeat' (first | assumption | apply Blk.set | apply Blk.far | apply Blk.al | apply Blk.dr))); all_goals omega)
  case rest =>
    obtain ⟨X, A, B, R⟩ := hcut
    clear c1 c2 hK XW
    have A' := A
    have B' := B
    have R' := R
    obtain ⟨az, ⟨a0, a1, a2, a3⟩, af0, af1, af2, af3⟩ := A'
    obtain ⟨bz, ⟨b0, b1, b2, b3⟩, bf0, bf1, bf2, bf3⟩ := B'
    obtain ⟨rz, ⟨r0, r1, r2, r3⟩, rf0, rf1, rf2, rf3⟩ := R'
    by_cases ha : pk = 4
    · obtain ⟨rfl, H⟩ := H1.out ha
      have H : Hid (J.dat = _) := H
      subst ha
      clear H1 H2 H3
      go_wp2_with fail
      go_region
      all_goals
        go_wp2_with fail
        apply finBi 0 (b := w.heap.size + 1 + 1) (w := w)
        case B => ((with_reducible (repeat' (first | assumption | apply Blk.set | apply Blk.far | apply Blk.far1 | apply Blk.al | apply Blk.dr))); all_goals omega)
        case hd => rfl
        case E => ((with_reducible (repeat' (first | assumption | exact Ext.refl _ | apply Ext.alloc | apply Ext.drew | apply Ext.drewN | apply Ext.setCell))); all_goals (first | omega | (simp; done) | (simp; omega)))
        case hr => intro g0 g1 g2 g3; simp [results, Tryd.results19, go_sem, g0, g1, g2, g3]
        case hQ => exact fun h => ⟨by rw [H.out], h⟩
    · have ha' : (pk == 4) = false := by simpa using ha
      by_cases hb : qk = 4
      · obtain ⟨rfl, H⟩ := H2.out ha hb
        have H : Hid (J.dat = _) := H
        subst hb
        clear H1 H2 H3 ha
        go_wp2_with fail
        go_region
        all_goals
          go_wp2_with fail
          apply finBi 0 (b := w.heap.size + 1 + 1) (w := w)
          case B => ((with_reducible (repeat' (first | assumption | apply Blk.set | apply Blk.far | apply Blk.far1 | apply Blk.al | apply Blk.dr))); all_goals omega)
          case hd => rfl
          case E => ((with_reducible (repeat' (first | assumption | exact Ext.refl _ | apply Ext.alloc | apply Ext.drew | apply Ext.drewN | apply Ext.setCell))); all_goals (first | omega | (simp; done) | (simp; omega)))
          case hr => intro g0 g1 g2 g3; simp [results, Tryd.results19, go_sem, g0, g1, g2, g3]
          case hQ => exact fun h => ⟨by rw [H.out], h⟩
      · have hb' : (qk == 4) = false := by simpa using hb
        by_cases hp : pk = 0
        · obtain ⟨rfl, HI⟩ := H3.out ha hb (qk) (qk) (by rw [if_pos hp]) (by split <;> rfl)
          have HI : Hid (I = _) := HI
          have l1 := fun W => less_any (qk) pn ps pe (qk) qn qs qe (Nat.le_trans z1 (by decide)) W
          have l2 := fun W => less_any (qk) qn qs qe (qk) pn ps pe (Nat.le_trans z2 (by decide)) W
          generalize lessL (qk) pn ps (qk) qn qs = x at *
          generalize lessL (qk) qn qs (qk) pn ps = y at *
          clear H1 H2 H3 ha hb z1 z2
          subst hp
          by_cases hq : qk = 0
          · subst hq
            cases x
            · cases y
              · go_wp2_with fail
                refine (l1 _).mono ?_
                rintro r w2 ⟨rfl, E2⟩
                have X2 : Ext w w2 := Ext.trans (by ((with_reducible (repeat' (first | assumption | exact Ext.refl _ | apply Ext.alloc | apply Ext.drew | apply Ext.drewN | apply Ext.setCell))); all_goals (first | omega | (simp; done) | (simp; omega)))) E2
                have A2 := ((A.put0 _).far1 (by omega) 0 _).ext E2
                have B2 := ((B.far1 (by omega) 0 _).put0 _).ext E2
                have R2 := ((R.far1 (by omega) 0 _).far1 (by omega) 0 _).ext E2
                clear E2 A B R X az a0 a1 a2 a3 af0 af1 af2 af3 bz b0 b1 b2 b3 bf0 bf1 bf2 bf3 rz r0 r1 r2 r3 rf0 rf1 rf2 rf3 l1
                have A3 := A2
                have B3 := B2
                have R3 := R2
                obtain ⟨az, ⟨a0, a1, a2, a3⟩, af0, af1, af2, af3⟩ := A3
                obtain ⟨bz, ⟨b0, b1, b2, b3⟩, bf0, bf1, bf2, bf3⟩ := B3
                obtain ⟨rz, ⟨r0, r1, r2, r3⟩, rf0, rf1, rf2, rf3⟩ := R3
                go_wp2_with fail
                refine (l2 _).mono ?_
                rintro r w3 ⟨rfl, E3⟩
                have X3 : Ext w w3 := X2.trans E3
                have R4 := R2.ext E3
                clear E3 A2 B2 R2 X2 az a0 a1 a2 a3 af0 af1 af2 af3 bz b0 b1 b2 b3 bf0 bf1 bf2 bf3 rz r0 r1 r2 r3 rf0 rf1 rf2 rf3 l2
                have R5 := R4
                obtain ⟨rz, ⟨r0, r1, r2, r3⟩, rf0, rf1, rf2, rf3⟩ := R5
                go_wp2_with fail
                (try go_region)
                all_goals
                  (try go_wp2_with fail)
                  apply finBi (0) (b := w.heap.size + 1 + 1) (w := w)
                  case B => ((with_reducible (repeat' (first | assumption | apply Blk.set | apply Blk.far | apply Blk.far1 | apply Blk.al | apply Blk.dr))); all_goals omega)
                  case hd => rfl
                  case E => ((with_reducible (repeat' (first | assumption | exact Ext.refl _ | apply Ext.alloc | apply Ext.drew | apply Ext.drewN | apply Ext.setCell))); all_goals (first | omega | (simp; done) | (simp; omega)))
                  case hr => intro g0 g1 g2 g3; simp [results, Tryd.results19, go_sem, g0, g1, g2, g3]
                  case hQ => exact fun h => ⟨by rw [HI.out]; rfl, h⟩
              · go_wp2_with fail
                refine (l1 _).mono ?_
                rintro r w2 ⟨rfl, E2⟩
                have X2 : Ext w w2 := Ext.trans (by ((with_reducible (repeat' (first | assumption | exact Ext.refl _ | apply Ext.alloc | apply Ext.drew | apply Ext.drewN | apply Ext.setCell))); all_goals (first | omega | (simp; done) | (simp; omega)))) E2
                have A2 := ((A.put0 _).far1 (by omega) 0 _).ext E2
                have B2 := ((B.far1 (by omega) 0 _).put0 _).ext E2
                have R2 := ((R.far1 (by omega) 0 _).far1 (by omega) 0 _).ext E2
                clear E2 A B R X az a0 a1 a2 a3 af0 af1 af2 af3 bz b0 b1 b2 b3 bf0 bf1 bf2 bf3 rz r0 r1 r2 r3 rf0 rf1 rf2 rf3 l1
                have A3 := A2
                have B3 := B2
                have R3 := R2
                obtain ⟨az, ⟨a0, a1, a2, a3⟩, af0, af1, af2, af3⟩ := A3
                obtain ⟨bz, ⟨b0, b1, b2, b3⟩, bf0, bf1, bf2, bf3⟩ := B3
                obtain ⟨rz, ⟨r0, r1, r2, r3⟩, rf0, rf1, rf2, rf3⟩ := R3
                go_wp2_with fail
                refine (l2 _).mono ?_
                rintro r w3 ⟨rfl, E3⟩
                have X3 : Ext w w3 := X2.trans E3
                have R4 := R2.ext E3
                clear E3 A2 B2 R2 X2 az a0 a1 a2 a3 af0 af1 af2 af3 bz b0 b1 b2 b3 bf0 bf1 bf2 bf3 rz r0 r1 r2 r3 rf0 rf1 rf2 rf3 l2
                have R5 := R4
                obtain ⟨rz, ⟨r0, r1, r2, r3⟩, rf0, rf1, rf2, rf3⟩ := R5
                go_wp2_with fail
                (try go_region)
                all_goals
                  (try go_wp2_with fail)
                  apply finBi (1) (b := w.heap.size + 1 + 1) (w := w)
                  case B => ((with_reducible (repeat' (first | assumption | apply Blk.set | apply Blk.far | apply Blk.far1 | apply Blk.al | apply Blk.dr))); all_goals omega)
                  case hd => rfl
                  case E => ((with_reducible (repeat' (first | assumption | exact Ext.refl _ | apply Ext.alloc | apply Ext.drew | apply Ext.drewN | apply Ext.setCell))); all_goals (first | omega | (simp; done) | (simp; omega)))
                  case hr => intro g0 g1 g2 g3; simp [results, Tryd.results19, go_sem, g0, g1, g2, g3]
                  case hQ => exact fun h => ⟨by rw [HI.out]; rfl, h⟩
            · go_wp2_with fail
              refine (l1 _).mono ?_
              rintro r w2 ⟨rfl, E2⟩
              have X2 : Ext w w2 := Ext.trans (by ((with_reducible (repeat' (first | assumption | exact Ext.refl _ | apply Ext.alloc | apply Ext.drew | apply Ext.drewN | apply Ext.setCell))); all_goals (first | omega | (simp; done) | (simp; omega)))) E2
              have A2 := ((A.put0 _).far1 (by omega) 0 _).ext E2
              have B2 := ((B.far1 (by omega) 0 _).put0 _).ext E2
              have R2 := ((R.far1 (by omega) 0 _).far1 (by omega) 0 _).ext E2
              clear E2 A B R X az a0 a1 a2 a3 af0 af1 af2 af3 bz b0 b1 b2 b3 bf0 bf1 bf2 bf3 rz r0 r1 r2 r3 rf0 rf1 rf2 rf3 l1
              have A3 := A2
              have B3 := B2
              have R3 := R2
              obtain ⟨az, ⟨a0, a1, a2, a3⟩, af0, af1, af2, af3⟩ := A3
              obtain ⟨bz, ⟨b0, b1, b2, b3⟩, bf0, bf1, bf2, bf3⟩ := B3
              obtain ⟨rz, ⟨r0, r1, r2, r3⟩, rf0, rf1, rf2, rf3⟩ := R3
              go_wp2_with fail
              (try go_region)
              all_goals
                (try go_wp2_with fail)
                apply finBi (-1) (b := w.heap.size + 1 + 1) (w := w)
                case B => ((with_reducible (repeat' (first | assumption | apply Blk.set | apply Blk.far | apply Blk.far1 | apply Blk.al | apply Blk.dr))); all_goals omega)
                case hd => rfl
                case E => ((with_reducible (repeat' (first | assumption | exact Ext.refl _ | apply Ext.alloc | apply Ext.drew | apply Ext.drewN | apply Ext.setCell))); all_goals (first | omega | (simp; done) | (simp; omega)))
                case hr => intro g0 g1 g2 g3; simp [results, Tryd.results19, go_sem, g0, g1, g2, g3]
                case hQ => exact fun h => ⟨by rw [HI.out]; rfl, h⟩
          · have hq' : (qk == 0) = false := by simpa using hq
            clear hq
            cases x
            · cases y
              · go_wp2_with fail
                refine (l1 _).mono ?_
                rintro r w2 ⟨rfl, E2⟩
                have X2 : Ext w w2 := Ext.trans (by ((with_reducible (repeat' (first | assumption | exact Ext.refl _ | apply Ext.alloc | apply Ext.drew | apply Ext.drewN | apply Ext.setCell))); all_goals (first | omega | (simp; done) | (simp; omega)))) E2
                have A2 := (A.put0 _).ext E2
                have B2 := (B.far1 (by omega) 0 _).ext E2
                have R2 := (R.far1 (by omega) 0 _).ext E2
                clear E2 A B R X az a0 a1 a2 a3 af0 af1 af2 af3 bz b0 b1 b2 b3 bf0 bf1 bf2 bf3 rz r0 r1 r2 r3 rf0 rf1 rf2 rf3 l1
                have A3 := A2
                have B3 := B2
                have R3 := R2
                obtain ⟨az, ⟨a0, a1, a2, a3⟩, af0, af1, af2, af3⟩ := A3
                obtain ⟨bz, ⟨b0, b1, b2, b3⟩, bf0, bf1, bf2, bf3⟩ := B3
                obtain ⟨rz, ⟨r0, r1, r2, r3⟩, rf0, rf1, rf2, rf3⟩ := R3
                go_wp2_with fail
                refine (l2 _).mono ?_
                rintro r w3 ⟨rfl, E3⟩
                have X3 : Ext w w3 := X2.trans E3
                have R4 := R2.ext E3
                clear E3 A2 B2 R2 X2 az a0 a1 a2 a3 af0 af1 af2 af3 bz b0 b1 b2 b3 bf0 bf1 bf2 bf3 rz r0 r1 r2 r3 rf0 rf1 rf2 rf3 l2
                have R5 := R4
                obtain ⟨rz, ⟨r0, r1, r2, r3⟩, rf0, rf1, rf2, rf3⟩ := R5
                go_wp2_with fail
                (try go_region)
                all_goals
                  (try go_wp2_with fail)
                  apply finBi (0) (b := w.heap.size + 1 + 1) (w := w)
                  case B => ((with_reducible (repeat' (first | assumption | apply Blk.set | apply Blk.far | apply Blk.far1 | apply Blk.al | apply Blk.dr))); all_goals omega)
                  case hd => rfl
                  case E => ((with_reducible (repeat' (first | assumption | exact Ext.refl _ | apply Ext.alloc | apply Ext.drew | apply Ext.drewN | apply Ext.setCell))); all_goals (first | omega | (simp; done) | (simp; omega)))
                  case hr => intro g0 g1 g2 g3; simp [results, Tryd.results19, go_sem, g0, g1, g2, g3]
                  case hQ => exact fun h => ⟨by rw [HI.out]; rfl, h⟩
              · go_wp2_with fail
                refine (l1 _).mono ?_
                rintro r w2 ⟨rfl, E2⟩
                have X2 : Ext w w2 := Ext.trans (by ((with_reducible (repeat' (first | assumption | exact Ext.refl _ | apply Ext.alloc | apply Ext.drew | apply Ext.drewN | apply Ext.setCell))); all_goals (first | omega | (simp; done) | (simp; omega)))) E2
                have A2 := (A.put0 _).ext E2
                have B2 := (B.far1 (by omega) 0 _).ext E2
                have R2 := (R.far1 (by omega) 0 _).ext E2
                clear E2 A B R X az a0 a1 a2 a3 af0 af1 af2 af3 bz b0 b1 b2 b3 bf0 bf1 bf2 bf3 rz r0 r1 r2 r3 rf0 rf1 rf2 rf3 l1
                have A3 := A2
                have B3 := B2
                have R3 := R2
                obtain ⟨az, ⟨a0, a1, a2, a3⟩, af0, af1, af2, af3⟩ := A3
                obtain ⟨bz, ⟨b0, b1, b2, b3⟩, bf0, bf1, bf2, bf3⟩ := B3
                obtain ⟨rz, ⟨r0, r1, r2, r3⟩, rf0, rf1, rf2, rf3⟩ := R3
                go_wp2_with fail
                refine (l2 _).mono ?_
                rintro r w3 ⟨rfl, E3⟩
                have X3 : Ext w w3 := X2.trans E3
                have R4 := R2.ext E3
                clear E3 A2 B2 R2 X2 az a0 a1 a2 a3 af0 af1 af2 af3 bz b0 b1 b2 b3 bf0 bf1 bf2 bf3 rz r0 r1 r2 r3 rf0 rf1 rf2 rf3 l2
                have R5 := R4
                obtain ⟨rz, ⟨r0, r1, r2, r3⟩, rf0, rf1, rf2, rf3⟩ := R5
                go_wp2_with fail
                (try go_region)
                all_goals
                  (try go_wp2_with fail)
                  apply finBi (1) (b := w.heap.size + 1 + 1) (w := w)
                  case B => ((with_reducible (repeat' (first | assumption | apply Blk.set | apply Blk.far | apply Blk.far1 | apply Blk.al | apply Blk.dr))); all_goals omega)
                  case hd => rfl
                  case E => ((with_reducible (repeat' (first | assumption | exact Ext.refl _ | apply Ext.alloc | apply Ext.drew | apply Ext.drewN | apply Ext.setCell))); all_goals (first | omega | (simp; done) | (simp; omega)))
                  case hr => intro g0 g1 g2 g3; simp [results, Tryd.results19, go_sem, g0, g1, g2, g3]
                  case hQ => exact fun h => ⟨by rw [HI.out]; rfl, h⟩
            · go_wp2_with fail
              refine (l1 _).mono ?_
              rintro r w2 ⟨rfl, E2⟩
              have X2 : Ext w w2 := Ext.trans (by ((with_reducible (repeat' (first | assumption | exact Ext.refl _ | apply Ext.alloc | apply Ext.drew | apply Ext.drewN | apply Ext.setCell))); all_goals (first | omega | (simp; done) | (simp; omega)))) E2
              have A2 := (A.put0 _).ext E2
              have B2 := (B.far1 (by omega) 0 _).ext E2
              have R2 := (R.far1 (by omega) 0 _).ext E2
              clear E2 A B R X az a0 a1 a2 a3 af0 af1 af2 af3 bz b0 b1 b2 b3 bf0 bf1 bf2 bf3 rz r0 r1 r2 r3 rf0 rf1 rf2 rf3 l1
              have A3 := A2
              have B3 := B2
              have R3 := R2
              obtain ⟨az, ⟨a0, a1, a2, a3⟩, af0, af1, af2, af3⟩ := A3
              obtain ⟨bz, ⟨b0, b1, b2, b3⟩, bf0, bf1, bf2, bf3⟩ := B3
              obtain ⟨rz, ⟨r0, r1, r2, r3⟩, rf0, rf1, rf2, rf3⟩ := R3
              go_wp2_with fail
              (try go_region)
              all_goals
                (try go_wp2_with fail)
                apply finBi (-1) (b := w.heap.size + 1 + 1) (w := w)
                case B => ((with_reducible (repeat' (first | assumption | apply Blk.set | apply Blk.far | apply Blk.far1 | apply Blk.al | apply Blk.dr))); all_goals omega)
                case hd => rfl
                case E => ((with_reducible (repeat' (first | assumption | exact Ext.refl _ | apply Ext.alloc | apply Ext.drew | apply Ext.drewN | apply Ext.setCell))); all_goals (first | omega | (simp; done) | (simp; omega)))
                case hr => intro g0 g1 g2 g3; simp [results, Tryd.results19, go_sem, g0, g1, g2, g3]
                case hQ => exact fun h => ⟨by rw [HI.out]; rfl, h⟩
        · have hp' : (pk == 0) = false := by simpa using hp
          by_cases hq : qk = 0
          · obtain ⟨rfl, HI⟩ := H3.out ha hb (pk) (pk) (by rw [if_neg hp]) (by rw [if_pos hq])
            have HI : Hid (I = _) := HI
            have l1 := fun W => less_any (pk) pn ps pe (pk) qn qs qe (Nat.le_trans z1 (by decide)) W
            have l2 := fun W => less_any (pk) qn qs qe (pk) pn ps pe (Nat.le_trans z2 (by decide)) W
            generalize lessL (pk) pn ps (pk) qn qs = x at *
            generalize lessL (pk) qn qs (pk) pn ps = y at *
            clear H1 H2 H3 ha hb z1 z2
            subst hq
            clear hp
            cases x
            · cases y
              · go_wp2_with fail
                refine (l1 _).mono ?_
                rintro r w2 ⟨rfl, E2⟩
                have X2 : Ext w w2 := Ext.trans (by ((with_reducible (repeat' (first | assumption | exact Ext.refl _ | apply Ext.alloc | apply Ext.drew | apply Ext.drewN | apply Ext.setCell))); all_goals (first | omega | (simp; done) | (simp; omega)))) E2
                have A2 := (A.far1 (by omega) 0 _).ext E2
                have B2 := (B.put0 _).ext E2
                have R2 := (R.far1 (by omega) 0 _).ext E2
                clear E2 A B R X az a0 a1 a2 a3 af0 af1 af2 af3 bz b0 b1 b2 b3 bf0 bf1 bf2 bf3 rz r0 r1 r2 r3 rf0 rf1 rf2 rf3 l1
                have A3 := A2
                have B3 := B2
                have R3 := R2
                obtain ⟨az, ⟨a0, a1, a2, a3⟩, af0, af1, af2, af3⟩ := A3
                obtain ⟨bz, ⟨b0, b1, b2, b3⟩, bf0, bf1, bf2, bf3⟩ := B3
                obtain ⟨rz, ⟨r0, r1, r2, r3⟩, rf0, rf1, rf2, rf3⟩ := R3
                go_wp2_with fail
                refine (l2 _).mono ?_
                rintro r w3 ⟨rfl, E3⟩
                have X3 : Ext w w3 := X2.trans E3
                have R4 := R2.ext E3
                clear E3 A2 B2 R2 X2 az a0 a1 a2 a3 af0 af1 af2 af3 bz b0 b1 b2 b3 bf0 bf1 bf2 bf3 rz r0 r1 r2 r3 rf0 rf1 rf2 rf3 l2
                have R5 := R4
                obtain ⟨rz, ⟨r0, r1, r2, r3⟩, rf0, rf1, rf2, rf3⟩ := R5
                go_wp2_with fail
                (try go_region)
                all_goals
                  (try go_wp2_with fail)
                  apply finBi (0) (b := w.heap.size + 1 + 1) (w := w)
                  case B => ((with_reducible (repeat' (first | assumption | apply Blk.set | apply Blk.far | apply Blk.far1 | apply Blk.al | apply Blk.dr))); all_goals omega)
                  case hd => rfl
                  case E => ((with_reducible (repeat' (first | assumption | exact Ext.refl _ | apply Ext.alloc | apply Ext.drew | apply Ext.drewN | apply Ext.setCell))); all_goals (first | omega | (simp; done) | (simp; omega)))
                  case hr => intro g0 g1 g2 g3; simp [results, Tryd.results19, go_sem, g0, g1, g2, g3]
                  case hQ => exact fun h => ⟨by rw [HI.out]; rfl, h⟩
              · go_wp2_with fail
                refine (l1 _).mono ?_
                rintro r w2 ⟨rfl, E2⟩
                have X2 : Ext w w2 := Ext.trans (by ((with_reducible (repeat' (first | assumption | exact Ext.refl _ | apply Ext.alloc | apply Ext.drew | apply Ext.drewN | apply Ext.setCell))); all_goals (first | omega | (simp; done) | (simp; omega)))) E2
                have A2 := (A.far1 (by omega) 0 _).ext E2
                have B2 := (B.put0 _).ext E2
                have R2 := (R.far1 (by omega) 0 _).ext E2
                clear E2 A B R X az a0 a1 a2 a3 af0 af1 af2 af3 bz b0 b1 b2 b3 bf0 bf1 bf2 bf3 rz r0 r1 r2 r3 rf0 rf1 rf2 rf3 l1
                have A3 := A2
                have B3 := B2
                have R3 := R2
                obtain ⟨az, ⟨a0, a1, a2, a3⟩, af0, af1, af2, af3⟩ := A3
                obtain ⟨bz, ⟨b0, b1, b2, b3⟩, bf0, bf1, bf2, bf3⟩ := B3
                obtain ⟨rz, ⟨r0, r1, r2, r3⟩, rf0, rf1, rf2, rf3⟩ := R3
                go_wp2_with fail
                refine (l2 _).mono ?_
                rintro r w3 ⟨rfl, E3⟩
                have X3 : Ext w w3 := X2.trans E3
                have R4 := R2.ext E3
                clear E3 A2 B2 R2 X2 az a0 a1 a2 a3 af0 af1 af2 af3 bz b0 b1 b2 b3 bf0 bf1 bf2 bf3 rz r0 r1 r2 r3 rf0 rf1 rf2 rf3 l2
                have R5 := R4
                obtain ⟨rz, ⟨r0, r1, r2, r3⟩, rf0, rf1, rf2, rf3⟩ := R5
                go_wp2_with fail
                (try go_region)
                all_goals
                  (try go_wp2_with fail)
                  apply finBi (1) (b := w.heap.size + 1 + 1) (w := w)
                  case B => ((with_reducible (repeat' (first | assumption | apply Blk.set | apply Blk.far | apply Blk.far1 | apply Blk.al | apply Blk.dr))); all_goals omega)
                  case hd => rfl
                  case E => ((with_reducible (repeat' (first | assumption | exact Ext.refl _ | apply Ext.alloc | apply Ext.drew | apply Ext.drewN | apply Ext.setCell))); all_goals (first | omega | (simp; done) | (simp; omega)))
                  case hr => intro g0 g1 g2 g3; simp [results, Tryd.results19, go_sem, g0, g1, g2, g3]
                  case hQ => exact fun h => ⟨by rw [HI.out]; rfl, h⟩
            · go_wp2_with fail
              refine (l1 _).mono ?_
              rintro r w2 ⟨rfl, E2⟩
              have X2 : Ext w w2 := Ext.trans (by ((with_reducible (repeat' (first | assumption | exact Ext.refl _ | apply Ext.alloc | apply Ext.drew | apply Ext.drewN | apply Ext.setCell))); all_goals (first | omega | (simp; done) | (simp; omega)))) E2
              have A2 := (A.far1 (by omega) 0 _).ext E2
              have B2 := (B.put0 _).ext E2
              have R2 := (R.far1 (by omega) 0 _).ext E2
              clear E2 A B R X az a0 a1 a2 a3 af0 af1 af2 af3 bz b0 b1 b2 b3 bf0 bf1 bf2 bf3 rz r0 r1 r2 r3 rf0 rf1 rf2 rf3 l1
              have A3 := A2
              have B3 := B2
              have R3 := R2
              obtain ⟨az, ⟨a0, a1, a2, a3⟩, af0, af1, af2, af3⟩ := A3
              obtain ⟨bz, ⟨b0, b1, b2, b3⟩, bf0, bf1, bf2, bf3⟩ := B3
              obtain ⟨rz, ⟨r0, r1, r2, r3⟩, rf0, rf1, rf2, rf3⟩ := R3
              go_wp2_with fail
              (try go_region)
              all_goals
                (try go_wp2_with fail)
                apply finBi (-1) (b := w.heap.size + 1 + 1) (w := w)
                case B => ((with_reducible (repeat' (first | assumption | apply Blk.set | apply Blk.far | apply Blk.far1 | apply Blk.al | apply Blk.dr))); all_goals omega)
                case hd => rfl
                case E => ((with_reducible (repeat' (first | assumption | exact Ext.refl _ | apply Ext.alloc | apply Ext.drew | apply Ext.drewN | apply Ext.setCell))); all_goals (first | omega | (simp; done) | (simp; omega)))
                case hr => intro g0 g1 g2 g3; simp [results, Tryd.results19, go_sem, g0, g1, g2, g3]
                case hQ => exact fun h => ⟨by rw [HI.out]; rfl, h⟩
          · obtain ⟨rfl, HI⟩ := H3.out ha hb (pk) (qk) (by rw [if_neg hp]) (by rw [if_neg hq])
            have HI : Hid (I = _) := HI
            have l1 := fun W => less_any (pk) pn ps pe (qk) qn qs qe (Nat.le_trans z1 (by decide)) W
            have l2 := fun W => less_any (qk) qn qs qe (pk) pn ps pe (Nat.le_trans z2 (by decide)) W
            generalize lessL (pk) pn ps (qk) qn qs = x at *
            generalize lessL (qk) qn qs (pk) pn ps = y at *
            clear H1 H2 H3 ha hb z1 z2
            have hq' : (qk == 0) = false := by simpa using hq
            clear hp hq
            cases x
            · cases y
              · go_wp2_with fail
                refine (l1 _).mono ?_
                rintro r w2 ⟨rfl, E2⟩
                have X2 : Ext w w2 := Ext.trans (by ((with_reducible (repeat' (first | assumption | exact Ext.refl _ | apply Ext.alloc | apply Ext.drew | apply Ext.drewN | apply Ext.setCell))); all_goals (first | omega | (simp; done) | (simp; omega)))) E2
                have A2 := A.ext E2
                have B2 := B.ext E2
                have R2 := R.ext E2
                clear E2 A B R X az a0 a1 a2 a3 af0 af1 af2 af3 bz b0 b1 b2 b3 bf0 bf1 bf2 bf3 rz r0 r1 r2 r3 rf0 rf1 rf2 rf3 l1
                have A3 := A2
                have B3 := B2
                have R3 := R2
                obtain ⟨az, ⟨a0, a1, a2, a3⟩, af0, af1, af2, af3⟩ := A3
                obtain ⟨bz, ⟨b0, b1, b2, b3⟩, bf0, bf1, bf2, bf3⟩ := B3
                obtain ⟨rz, ⟨r0, r1, r2, r3⟩, rf0, rf1, rf2, rf3⟩ := R3
                go_wp2_with fail
                refine (l2 _).mono ?_
                rintro r w3 ⟨rfl, E3⟩
                have X3 : Ext w w3 := X2.trans E3
                have R4 := R2.ext E3
                clear E3 A2 B2 R2 X2 az a0 a1 a2 a3 af0 af1 af2 af3 bz b0 b1 b2 b3 bf0 bf1 bf2 bf3 rz r0 r1 r2 r3 rf0 rf1 rf2 rf3 l2
                have R5 := R4
                obtain ⟨rz, ⟨r0, r1, r2, r3⟩, rf0, rf1, rf2, rf3⟩ := R5
                go_wp2_with fail
                (try go_region)
                all_goals
                  (try go_wp2_with fail)
                  apply finBi (0) (b := w.heap.size + 1 + 1) (w := w)
                  case B => ((with_reducible (repeat' (first | assumption | apply Blk.set | apply Blk.far | apply Blk.far1 | apply Blk.al | apply Blk.dr))); all_goals omega)
                  case hd => rfl
                  case E => ((with_reducible (repeat' (first | assumption | exact Ext.refl _ | apply Ext.alloc | apply Ext.drew | apply Ext.drewN | apply Ext.setCell))); all_goals (first | omega | (simp; done) | (simp; omega)))
                  case hr => intro g0 g1 g2 g3; simp [results, Tryd.results19, go_sem, g0, g1, g2, g3]
                  case hQ => exact fun h => ⟨by rw [HI.out]; rfl, h⟩
              · go_wp2_with fail
                refine (l1 _).mono ?_
                rintro r w2 ⟨rfl, E2⟩
                have X2 : Ext w w2 := Ext.trans (by ((with_reducible (repeat' (first | assumption | exact Ext.refl _ | apply Ext.alloc | apply Ext.drew | apply Ext.drewN | apply Ext.setCell))); all_goals (first | omega | (simp; done) | (simp; omega)))) E2
                have A2 := A.ext E2
                have B2 := B.ext E2
                have R2 := R.ext E2
                clear E2 A B R X az a0 a1 a2 a3 af0 af1 af2 af3 bz b0 b1 b2 b3 bf0 bf1 bf2 bf3 rz r0 r1 r2 r3 rf0 rf1 rf2 rf3 l1
                have A3 := A2
                have B3 := B2
                have R3 := R2
                obtain ⟨az, ⟨a0, a1, a2, a3⟩, af0, af1, af2, af3⟩ := A3
                obtain ⟨bz, ⟨b0, b1, b2, b3⟩, bf0, bf1, bf2, bf3⟩ := B3
                obtain ⟨rz, ⟨r0, r1, r2, r3⟩, rf0, rf1, rf2, rf3⟩ := R3
                go_wp2_with fail
                refine (l2 _).mono ?_
                rintro r w3 ⟨rfl, E3⟩
                have X3 : Ext w w3 := X2.trans E3
                have R4 := R2.ext E3
                clear E3 A2 B2 R2 X2 az a0 a1 a2 a3 af0 af1 af2 af3 bz b0 b1 b2 b3 bf0 bf1 bf2 bf3 rz r0 r1 r2 r3 rf0 rf1 rf2 rf3 l2
                have R5 := R4
                obtain ⟨rz, ⟨r0, r1, r2, r3⟩, rf0, rf1, rf2, rf3⟩ := R5
                go_wp2_with fail
                (try go_region)
                all_goals
                  (try go_wp2_with fail)
                  apply finBi (1) (b := w.heap.size + 1 + 1) (w := w)
                  case B => ((with_reducible (repeat' (first | assumption | apply Blk.set | apply Blk.far | apply Blk.far1 | apply Blk.al | apply Blk.dr))); all_goals omega)
                  case hd => rfl
                  case E => ((with_reducible (repeat' (first | assumption | exact Ext.refl _ | apply Ext.alloc | apply Ext.drew | apply Ext.drewN | apply Ext.setCell))); all_goals (first | omega | (simp; done) | (simp; omega)))
                  case hr => intro g0 g1 g2 g3; simp [results, Tryd.results19, go_sem, g0, g1, g2, g3]
                  case hQ => exact fun h => ⟨by rw [HI.out]; rfl, h⟩
            · go_wp2_with fail
              refine (l1 _).mono ?_
              rintro r w2 ⟨rfl, E2⟩
              have X2 : Ext w w2 := Ext.trans (by ((with_reducible (repeat' (first | assumption | exact Ext.refl _ | apply Ext.alloc | apply Ext.drew | apply Ext.drewN | apply Ext.setCell))); all_goals (first | omega | (simp; done) | (simp; omega)))) E2
              have A2 := A.ext E2
              have B2 := B.ext E2
              have R2 := R.ext E2
              clear E2 A B R X az a0 a1 a2 a3 af0 af1 af2 af3 bz b0 b1 b2 b3 bf0 bf1 bf2 bf3 rz r0 r1 r2 r3 rf0 rf1 rf2 rf3 l1
              have A3 := A2
              have B3 := B2
              have R3 := R2
              obtain ⟨az, ⟨a0, a1, a2, a3⟩, af0, af1, af2, af3⟩ := A3
              obtain ⟨bz, ⟨b0, b1, b2, b3⟩, bf0, bf1, bf2, bf3⟩ := B3
              obtain ⟨rz, ⟨r0, r1, r2, r3⟩, rf0, rf1, rf2, rf3⟩ := R3
              go_wp2_with fail
              (try go_region)
              all_goals
                (try go_wp2_with fail)
                apply finBi (-1) (b := w.heap.size + 1 + 1) (w := w)
                case B => ((with_reducible (repeat' (first | assumption | apply Blk.set | apply Blk.far | apply Blk.far1 | apply Blk.al | apply Blk.dr))); all_goals omega)
                case hd => rfl
                case E => ((with_reducible (repeat' (first | assumption | exact Ext.refl _ | apply Ext.alloc | apply Ext.drew | apply Ext.drewN | apply Ext.setCell))); all_goals (first | omega | (simp; done) | (simp; omega)))
                case hr => intro g0 g1 g2 g3; simp [results, Tryd.results19, go_sem, g0, g1, g2, g3]
                case hQ => exact fun h => ⟨by rw [HI.out]; rfl, h⟩
end Go.Proofs.YtlfkiepnahgbeaaDoor
