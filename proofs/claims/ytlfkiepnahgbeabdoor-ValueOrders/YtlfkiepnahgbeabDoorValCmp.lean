/- trial -/
import Derived.Test.YtlfkiepnahgbeabDoorValF
import Derived.Test.YtlfkiepnahgbeabDoorBar
import Derived.Deep.DeepCutAuto
namespace Go.Proofs.YtlfkiepnahgbeabDoor
open Go.RowKit
set_option maxHeartbeats 1000000
set_option maxRecDepth 100000 in
theorem vcompare_any (ka na : Int) (sa : ByteArray) (ea kb nb : Int) (sb : ByteArray) (eb : Int) (w : World) (hN : Nm w) :
    Calls Tryd.prog 6 #[.agg #[.int .i64 ka, .int .i64 na, .string sa, .int .i64 ea], .agg #[.int .i64 kb, .int .i64 nb, .string sb, .int .i64 eb]] w fun r w' =>
      r = .returned (.tuple #[.int .i64 (cmpV (nm ka na sa ea) (nm kb nb sb eb)), (cmpE (nm ka na sa ea) (nm kb nb sb eb)).dat]) ∧ Ext w w' := by
  have c1 := fun W h => vnormal_any ka na sa ea W h
  have c2 := fun W h => vnormal_any kb nb sb eb W h
  generalize nm ka na sa ea = a at c1 ⊢
  generalize nm kb nb sb eb = b at c2 ⊢
  rw [dat_eq] at c1 c2
  have H1 : Hid (a.k = 4 → cmpV a b = 0 ∧ (cmpE a b).dat = .agg #[.int .i64 4, .int .i64 a.n, .string a.s, .int .i64 a.e]) := fun ha => ⟨(cmp_ea b ha).1, by rw [(cmp_ea b ha).2, dat_eq, ha]⟩
  have H2 : Hid (a.k ≠ 4 → b.k = 4 → cmpV a b = 0 ∧ (cmpE a b).dat = .agg #[.int .i64 4, .int .i64 b.n, .string b.s, .int .i64 b.e]) := fun ha hb => ⟨(cmp_eb ha hb).1, by rw [(cmp_eb ha hb).2, dat_eq, hb]⟩
  have H3 : Hid (a.k ≠ 4 → b.k ≠ 4 → cmpE a b = .blank ∧ cmpV a b = or3 (sg3 (rk (bk0 b.k a.k)) (rk (bk0 a.k b.k))) (sg3 (if a.k = 0 then 0 else a.n) (if b.k = 0 then 0 else b.n)) (Lib.compareBytes (bkS a.k a.s).data.toList (bkS b.k b.s).data.toList)) := fun ha hb => cmp_n ha hb
  generalize a.k = pk at *
  generalize a.n = pn at *
  generalize a.s = ps at *
  generalize a.e = pe at *
  generalize b.k = qk at *
  generalize b.n = qn at *
  generalize b.s = qs at *
  generalize b.e = qe at *
  generalize cmpV a b = I at *
  generalize cmpE a b = J at *
  clear a b
  go_enter Tryd.func6, Tryd.ntmps6
  go_upto_region 1 with fail
  obtain ⟨W0, hW0⟩ : ∃ W0, W0 = ((w.alloc (.cells #[.int .i64 ka, .int .i64 na, .string sa, .int .i64 ea] 23)).alloc (.cells #[.int .i64 kb, .int .i64 nb, .string sb, .int .i64 eb] 23)).alloc (.cells #[.int .i64 0, .int .i64 0, .string ⟨#[]⟩, .int .i64 0] 23) := ⟨_, rfl⟩
  rw [← hW0]
  have XW : Ext w W0 := by rw [hW0]; exact (((Ext.refl _).alloc _).alloc _).alloc _
  have hK : Hid (∀ W, Ext W0 W → Blk W w.heap.size (.int .i64 ka) (.int .i64 na) (.string sa) (.int .i64 ea) ∧ Blk W (w.heap.size + 1) (.int .i64 kb) (.int .i64 nb) (.string sb) (.int .i64 eb) ∧ Blk W (w.heap.size + 1 + 1) (.int .i64 0) (.int .i64 0) (.string ⟨#[]⟩) (.int .i64 0)) := by
    show ∀ W, _
    intro W h
    rw [hW0] at h
    exact ⟨blk_top (by simp) ((((Ext.refl _).alloc _).alloc _).trans h), blk_top (by simp) (((Ext.refl _).alloc _).trans h), blk_top (by simp) h⟩
  clear hW0
  go_cut [] (fun wx => Ext w wx ∧ Blk wx w.heap.size (.int .i64 pk) (.int .i64 pn) (.string ps) (.int .i64 pe) ∧ Blk wx (w.heap.size + 1) (.int .i64 qk) (.int .i64 qn) (.string qs) (.int .i64 qe) ∧ Blk wx (w.heap.size + 1 + 1) (.int .i64 0) (.int .i64 0) (.string ⟨#[]⟩) (.int .i64 0))
  case first =>
    clear H1 H2 H3
    have mkS : Hid (∀ W, Ext W0 W → (W.cell? ⟨w.heap.size, 0, none⟩ = some (.int .i64 ka) ∧ W.cell? ⟨w.heap.size, 1, none⟩ = some (.int .i64 na) ∧ W.cell? ⟨w.heap.size, 2, none⟩ = some (.string sa) ∧ W.cell? ⟨w.heap.size, 3, none⟩ = some (.int .i64 ea)) ∧ (W.cell? ⟨w.heap.size + 1, 0, none⟩ = some (.int .i64 kb) ∧ W.cell? ⟨w.heap.size + 1, 1, none⟩ = some (.int .i64 nb) ∧ W.cell? ⟨w.heap.size + 1, 2, none⟩ = some (.string sb) ∧ W.cell? ⟨w.heap.size + 1, 3, none⟩ = some (.int .i64 eb)) ∧ Ext W0 W) := by
      show ∀ W, _
      intro W h
      exact ⟨(hK.out W h).1.2.1, (hK.out W h).2.1.2.1, h⟩
    refine bar_begin (B := fun i => i == 4 || i == 5) (S := fun W => (W.cell? ⟨w.heap.size, 0, none⟩ = some (.int .i64 ka) ∧ W.cell? ⟨w.heap.size, 1, none⟩ = some (.int .i64 na) ∧ W.cell? ⟨w.heap.size, 2, none⟩ = some (.string sa) ∧ W.cell? ⟨w.heap.size, 3, none⟩ = some (.int .i64 ea)) ∧ (W.cell? ⟨w.heap.size + 1, 0, none⟩ = some (.int .i64 kb) ∧ W.cell? ⟨w.heap.size + 1, 1, none⟩ = some (.int .i64 nb) ∧ W.cell? ⟨w.heap.size + 1, 2, none⟩ = some (.string sb) ∧ W.cell? ⟨w.heap.size + 1, 3, none⟩ = some (.int .i64 eb)) ∧ Ext W0 W) (by kernel_rfl) ?_
    have hS0 := mkS.out (World.drew W0) (Ext.refl _).drew
    refine bar_take (i := 0) (v := ?va0) rfl (by kernel_rfl) (by kernel_rfl) (by kernel_rfl) (by kernel_rfl) (fun _ _ _ h => h) (Or.inl ⟨by rfl, ?hya0⟩) hS0 ?resta0
    case hya0 => (intro W hSW; (try dsimp only at hSW); go_simp; with_reducible rfl)
    simp only [Act.put, List.setIfInBounds_toArray]
    refine bar_take (i := 2) (v := ?va2) rfl (by kernel_rfl) (by kernel_rfl) (by kernel_rfl) (by kernel_rfl) (fun _ _ _ h => h) (Or.inl ⟨by rfl, ?hya2⟩) hS0 ?resta2
    case hya2 => (intro W hSW; (try dsimp only at hSW); go_simp; with_reducible rfl)
    simp only [Act.put]
    refine bar_one (i := 1) (by kernel_rfl) rfl (fun KK hKK => ?_)
    go_simp
    go_wp2_with (go_at_call 18; refine Calls.mono (c1 _ (hN.ext (XW.trans (Ext.refl _).drew))) ?_; rintro e w5 ⟨rfl, E5⟩)
    have X5 : Ext W0 w5 := Ext.trans (Ext.refl _).drew E5
    refine hKK.out _ _ (fun _ => mkS.out _ X5) ?_
    clear hKK KK hS0
    refine bar_one (i := 3) (by kernel_rfl) rfl (fun KK hKK => ?_)
    go_simp
    go_wp2_with (go_at_call 18; refine Calls.mono (c2 _ (hN.ext (XW.trans X5))) ?_; rintro e w6 ⟨rfl, E6⟩)
    have X6 : Ext W0 w6 := X5.trans E6
    refine hKK.out _ _ (fun _ => mkS.out _ X6) ?_
    clear hKK KK mkS
    obtain ⟨A6, B6, R6⟩ := hK.out w6 X6
    have A7 := A6
    have B7 := B6
    obtain ⟨az, ⟨a0, a1, a2, a3⟩, af0, af1, af2, af3⟩ := A7
    obtain ⟨bz, ⟨b0, b1, b2, b3⟩, bf0, bf1, bf2, bf3⟩ := B7
    have X7 : Ext w w6 := XW.trans X6
    refine bar_one (i := 4) (by kernel_rfl) rfl (fun KK hKK => ?_)
    go_simp
    refine hKK.out _ _ (fun h => absurd h (by decide)) ?_
    clear hKK KK
    refine bar_one (i := 5) (by kernel_rfl) rfl (fun KK hKK => ?_)
    go_simp
    refine hKK.out _ _ (fun h => absurd h (by decide)) ?_
    clear hKK KK
    refine bar_done (by kernel_rfl) ?_ _
    go_wp2_with fail
    go_meet
    case rel =>
      refine ⟨?_, ?_, ?_, ?_⟩
      · ((with_reducible (repeat' (first | assumption | exact Ext.refl _ | apply Ext.alloc | apply Ext.drew | apply Ext.drewN | apply Ext.setCell))); all_goals (first | omega | (simp; done) | (simp; omega)))
      · ((with_reducible (repeat' (first | assumption | apply Blk.set | apply Blk.far | apply Blk.al | apply Blk.dr))); all_goals omega)
      · ((with_reducible (repeat' (first | assumption | apply Blk.set | apply Blk.far | apply Blk.al | apply Blk.dr))); all_goals omega)
      · ((with_reducible (repeat' (first | assumption | apply Blk.set | apply Blk.far | apply Blk.al | apply Blk.dr))); all_goals omega)
  case rest =>
    obtain ⟨X, A, B, R⟩ := hcut
    have A' := A
    have B' := B
    obtain ⟨az, ⟨a0, a1, a2, a3⟩, af0, af1, af2, af3⟩ := A'
    obtain ⟨bz, ⟨b0, b1, b2, b3⟩, bf0, bf1, bf2, bf3⟩ := B'
    clear c1 c2 hK XW hN
    by_cases ha : pk = 4
    · obtain ⟨rfl, H⟩ := H1.out ha
      have H : Hid (J.dat = _) := H
      subst ha
      have c := fun W h => firsterr_a 4 pn ps pe qk qn qs qe wc.heap.size W h (by decide)
      go_wp2_with fail
      refine (c _ two_alloc).mono ?_
      rintro r w2 ⟨rfl, E2⟩
      have X2 : Ext w w2 := Ext.trans (by ((with_reducible (repeat' (first | assumption | exact Ext.refl _ | apply Ext.alloc | apply Ext.drew | apply Ext.drewN | apply Ext.setCell))); all_goals (first | omega | (simp; done) | (simp; omega)))) E2
      have R2 := (R.ext ((Ext.refl _).alloc _)).ext E2
      have R3 := R2
      obtain ⟨rz, ⟨r0, r1, r2, r3⟩, rf0, rf1, rf2, rf3⟩ := R3
      clear H1 H2 H3
      go_wp2_with fail
      go_region
      all_goals
        go_wp2_with fail
        apply finBi 0 (b := w.heap.size + 1 + 1) (w := w)
        case B => ((with_reducible (repeat' (first | assumption | apply Blk.set | apply Blk.far | apply Blk.al | apply Blk.dr))); all_goals omega)
        case hd => rfl
        case E => ((with_reducible (repeat' (first | assumption | exact Ext.refl _ | apply Ext.alloc | apply Ext.drew | apply Ext.drewN | apply Ext.setCell))); all_goals (first | omega | (simp; done) | (simp; omega)))
        case hr => intro g0 g1 g2 g3; simp [results, Tryd.results6, go_sem, g0, g1, g2, g3]
        case hQ => exact fun h => ⟨by rw [H.out], h⟩
    · by_cases hb : qk = 4
      · obtain ⟨rfl, H⟩ := H2.out ha hb
        have H : Hid (J.dat = _) := H
        subst hb
        have c := fun W h => firsterr_b pk pn ps pe 4 qn qs qe wc.heap.size W h (by simpa using ha) (by decide)
        clear H1 H2 H3 ha
        go_wp2_with fail
        refine (c _ two_alloc).mono ?_
        rintro r w2 ⟨rfl, E2⟩
        have X2 : Ext w w2 := Ext.trans (by ((with_reducible (repeat' (first | assumption | exact Ext.refl _ | apply Ext.alloc | apply Ext.drew | apply Ext.drewN | apply Ext.setCell))); all_goals (first | omega | (simp; done) | (simp; omega)))) E2
        have R2 := (R.ext ((Ext.refl _).alloc _)).ext E2
        have R3 := R2
        obtain ⟨rz, ⟨r0, r1, r2, r3⟩, rf0, rf1, rf2, rf3⟩ := R3
        go_wp2_with fail
        go_region
        all_goals
          go_wp2_with fail
          apply finBi 0 (b := w.heap.size + 1 + 1) (w := w)
          case B => ((with_reducible (repeat' (first | assumption | apply Blk.set | apply Blk.far | apply Blk.al | apply Blk.dr))); all_goals omega)
          case hd => rfl
          case E => ((with_reducible (repeat' (first | assumption | exact Ext.refl _ | apply Ext.alloc | apply Ext.drew | apply Ext.drewN | apply Ext.setCell))); all_goals (first | omega | (simp; done) | (simp; omega)))
          case hr => intro g0 g1 g2 g3; simp [results, Tryd.results6, go_sem, g0, g1, g2, g3]
          case hQ => exact fun h => ⟨by rw [H.out], h⟩
      · obtain ⟨rfl, H⟩ := H3.out ha hb
        have H : Hid (I = _) := H
        have c := fun W h => firsterr_n pk pn ps pe qk qn qs qe wc.heap.size W h (by simpa using ha) (by simpa using hb)
        clear H1 H2 H3 ha hb
        go_wp2_with fail
        refine (c _ two_alloc).mono ?_
        rintro r w2 ⟨rfl, E2⟩
        have X2 : Ext w w2 := Ext.trans (by ((with_reducible (repeat' (first | assumption | exact Ext.refl _ | apply Ext.alloc | apply Ext.drew | apply Ext.drewN | apply Ext.setCell))); all_goals (first | omega | (simp; done) | (simp; omega)))) E2
        have R2 := (R.ext ((Ext.refl _).alloc _)).ext E2
        have A2 := (A.ext ((Ext.refl _).alloc _)).ext E2
        have B2 := (B.ext ((Ext.refl _).alloc _)).ext E2
        clear A B R X E2 c az a0 a1 a2 a3 af0 af1 af2 af3 bz b0 b1 b2 b3 bf0 bf1 bf2 bf3
        go_wp2_with fail
        have d1 := fun W => blankas_any qk pk pn ps pe W
        have d2 := fun W => blankas_any pk qk qn qs qe W
        generalize bk0 qk pk = xk at *
        generalize bk0 pk qk = yk at *
        generalize (if pk = 0 then 0 else pn) = xn at *
        generalize (if qk = 0 then 0 else qn) = yn at *
        generalize (if pk = 0 then 0 else pe) = xe at *
        generalize (if qk = 0 then 0 else qe) = ye at *
        generalize bkS pk ps = xs at *
        generalize bkS qk qs = ys at *
        have hK : Hid (∀ W, Ext w2 W → Ext w W ∧ Blk W w.heap.size (.int .i64 pk) (.int .i64 pn) (.string ps) (.int .i64 pe) ∧ Blk W (w.heap.size + 1) (.int .i64 qk) (.int .i64 qn) (.string qs) (.int .i64 qe) ∧ Blk W (w.heap.size + 1 + 1) (.int .i64 0) (.int .i64 0) (.string ⟨#[]⟩) (.int .i64 0)) := fun W h => ⟨X2.trans h, A2.ext h, B2.ext h, R2.ext h⟩
        clear A2 B2 X2 R2
        go_cut [] (fun wx => Ext w wx ∧ Blk wx w.heap.size (.int .i64 xk) (.int .i64 xn) (.string xs) (.int .i64 xe) ∧ Blk wx (w.heap.size + 1) (.int .i64 yk) (.int .i64 yn) (.string ys) (.int .i64 ye) ∧ Blk wx (w.heap.size + 1 + 1) (.int .i64 0) (.int .i64 0) (.string ⟨#[]⟩) (.int .i64 0))
        case first =>
          clear H
          have mkS : Hid (∀ W, Ext w2 W → (W.cell? ⟨w.heap.size, 0, none⟩ = some (.int .i64 pk) ∧ W.cell? ⟨w.heap.size, 1, none⟩ = some (.int .i64 pn) ∧ W.cell? ⟨w.heap.size, 2, none⟩ = some (.string ps) ∧ W.cell? ⟨w.heap.size, 3, none⟩ = some (.int .i64 pe)) ∧ (W.cell? ⟨w.heap.size + 1, 0, none⟩ = some (.int .i64 qk) ∧ W.cell? ⟨w.heap.size + 1, 1, none⟩ = some (.int .i64 qn) ∧ W.cell? ⟨w.heap.size + 1, 2, none⟩ = some (.string qs) ∧ W.cell? ⟨w.heap.size + 1, 3, none⟩ = some (.int .i64 qe)) ∧ Ext w2 W) := by
            show ∀ W, _
            intro W h
            exact ⟨(hK.out W h).2.1.2.1, (hK.out W h).2.2.1.2.1, h⟩
          refine bar_begin (B := fun i => i == 8 || i == 9) (S := fun W => (W.cell? ⟨w.heap.size, 0, none⟩ = some (.int .i64 pk) ∧ W.cell? ⟨w.heap.size, 1, none⟩ = some (.int .i64 pn) ∧ W.cell? ⟨w.heap.size, 2, none⟩ = some (.string ps) ∧ W.cell? ⟨w.heap.size, 3, none⟩ = some (.int .i64 pe)) ∧ (W.cell? ⟨w.heap.size + 1, 0, none⟩ = some (.int .i64 qk) ∧ W.cell? ⟨w.heap.size + 1, 1, none⟩ = some (.int .i64 qn) ∧ W.cell? ⟨w.heap.size + 1, 2, none⟩ = some (.string qs) ∧ W.cell? ⟨w.heap.size + 1, 3, none⟩ = some (.int .i64 qe)) ∧ Ext w2 W) (by kernel_rfl) ?_
          have hS0 := mkS.out (World.drew (w2.alloc (.cells #[.int .i64 0, .int .i64 0, .string ⟨#[]⟩, .int .i64 0] 23))) ((Ext.refl _).alloc _).drew
          refine bar_take (i := 0) (v := ?v0) rfl (by kernel_rfl) (by kernel_rfl) (by kernel_rfl) (by kernel_rfl) (fun _ _ _ h => h) (Or.inl ⟨by rfl, ?hy0⟩) hS0 ?rest0
          case hy0 => (intro W hSW; (try dsimp only at hSW); go_simp; with_reducible rfl)
          simp only [Act.put, List.setIfInBounds_toArray]
          refine bar_take (i := 1) (v := ?v1) rfl (by kernel_rfl) (by kernel_rfl) (by kernel_rfl) (by kernel_rfl) (fun _ _ _ h => h) (Or.inl ⟨by rfl, ?hy1⟩) hS0 ?rest1
          case hy1 => (intro W hSW; (try dsimp only at hSW); go_simp; with_reducible rfl)
          simp only [Act.put]
          refine bar_take (i := 2) (v := ?v2) rfl (by kernel_rfl) (by kernel_rfl) (by kernel_rfl) (by kernel_rfl) (fun _ _ _ h => h) (Or.inl ⟨by rfl, ?hy2⟩) hS0 ?rest2
          case hy2 => (intro W hSW; (try dsimp only at hSW); go_simp; with_reducible rfl)
          simp only [Act.put]
          refine bar_take (i := 4) (v := ?v4) rfl (by kernel_rfl) (by kernel_rfl) (by kernel_rfl) (by kernel_rfl) (fun _ _ _ h => h) (Or.inl ⟨by rfl, ?hy4⟩) hS0 ?rest4
          case hy4 => (intro W hSW; (try dsimp only at hSW); go_simp; with_reducible rfl)
          simp only [Act.put]
          refine bar_take (i := 5) (v := ?v5) rfl (by kernel_rfl) (by kernel_rfl) (by kernel_rfl) (by kernel_rfl) (fun _ _ _ h => h) (Or.inl ⟨by rfl, ?hy5⟩) hS0 ?rest5
          case hy5 => (intro W hSW; (try dsimp only at hSW); go_simp; with_reducible rfl)
          simp only [Act.put]
          refine bar_take (i := 6) (v := ?v6) rfl (by kernel_rfl) (by kernel_rfl) (by kernel_rfl) (by kernel_rfl) (fun _ _ _ h => h) (Or.inl ⟨by rfl, ?hy6⟩) hS0 ?rest6
          case hy6 => (intro W hSW; (try dsimp only at hSW); go_simp; with_reducible rfl)
          simp only [Act.put]
          refine bar_one (i := 3) (by kernel_rfl) rfl (fun KK hKK => ?_)
          go_simp
          go_wp2_with (go_at_call 20; refine Calls.mono (d1 _) ?_; rintro e w5 ⟨rfl, E5⟩)
          have X5 : Ext w2 w5 := Ext.trans ((Ext.refl _).alloc _).drew E5
          refine hKK.out _ _ (fun _ => mkS.out _ X5) ?_
          clear hKK KK hS0
          refine bar_one (i := 7) (by kernel_rfl) rfl (fun KK hKK => ?_)
          go_simp
          go_wp2_with (go_at_call 20; refine Calls.mono (d2 _) ?_; rintro e w6 ⟨rfl, E6⟩)
          have X6 : Ext w2 w6 := X5.trans E6
          refine hKK.out _ _ (fun _ => mkS.out _ X6) ?_
          clear hKK KK mkS
          obtain ⟨N6, A6, B6, R6⟩ := hK.out w6 X6
          have A7 := A6
          have B7 := B6
          obtain ⟨az, ⟨a0, a1, a2, a3⟩, af0, af1, af2, af3⟩ := A7
          obtain ⟨bz, ⟨b0, b1, b2, b3⟩, bf0, bf1, bf2, bf3⟩ := B7
          refine bar_one (i := 8) (by kernel_rfl) rfl (fun KK hKK => ?_)
          go_simp
          refine hKK.out _ _ (fun h => absurd h (by decide)) ?_
          clear hKK KK
          refine bar_one (i := 9) (by kernel_rfl) rfl (fun KK hKK => ?_)
          go_simp
          refine hKK.out _ _ (fun h => absurd h (by decide)) ?_
          clear hKK KK
          refine bar_done (by kernel_rfl) ?_ _
          go_wp2_with fail
          go_meet
          case rel =>
            refine ⟨?_, ?_, ?_, ?_⟩
            · ((with_reducible (repeat' (first | assumption | exact Ext.refl _ | apply Ext.alloc | apply Ext.drew | apply Ext.drewN | apply Ext.setCell))); all_goals (first | omega | (simp; done) | (simp; omega)))
            · ((with_reducible (repeat' (first | assumption | apply Blk.set | apply Blk.far | apply Blk.al | apply Blk.dr))); all_goals omega)
            · ((with_reducible (repeat' (first | assumption | apply Blk.set | apply Blk.far | apply Blk.al | apply Blk.dr))); all_goals omega)
            · ((with_reducible (repeat' (first | assumption | apply Blk.set | apply Blk.far | apply Blk.al | apply Blk.dr))); all_goals omega)
        case rest =>
          obtain ⟨X3, A3, B3, R3⟩ := hcut
          clear hK d1 d2
          have H : Hid (I = or3 (sg3 (rk xk) (rk yk)) (sg3 xn yn) (Lib.compareBytes xs.data.toList ys.data.toList)) := H
          have e1 := fun W => rank_any xk W
          have e2 := fun W => rank_any yk W
          have e3 := fun W => Tryd.cmp_Compare_int (rk xk) (rk yk) W
          have e4 := fun W => cmp64_any xn yn W
          have e5 := fun W => Tryd.strings_Compare xs ys W
          have e6 := fun L W h0 h1 h2 => or_any (sg3 (rk xk) (rk yk)) (sg3 xn yn) (Lib.compareBytes xs.data.toList ys.data.toList) L W h0 h1 h2
          rw [show Lib.compareInt (rk xk) (rk yk) = sg3 (rk xk) (rk yk) from rfl] at e3
          generalize or3 (sg3 (rk xk) (rk yk)) (sg3 xn yn) (Lib.compareBytes xs.data.toList ys.data.toList) = o at *
          generalize sg3 (rk xk) (rk yk) = c1 at *
          generalize sg3 xn yn = c2 at *
          generalize Lib.compareBytes xs.data.toList ys.data.toList = c3 at *
          generalize rk xk = k1 at *
          generalize rk yk = k2 at *
          have mkS : Hid (∀ W, (Blk W w.heap.size (.int .i64 xk) (.int .i64 xn) (.string xs) (.int .i64 xe) ∧ Blk W (w.heap.size + 1) (.int .i64 yk) (.int .i64 yn) (.string ys) (.int .i64 ye)) → (W.cell? ⟨w.heap.size, 0, none⟩ = some (.int .i64 xk) ∧ W.cell? ⟨w.heap.size, 1, none⟩ = some (.int .i64 xn) ∧ W.cell? ⟨w.heap.size, 2, none⟩ = some (.string xs) ∧ W.cell? ⟨w.heap.size, 3, none⟩ = some (.int .i64 xe)) ∧ (W.cell? ⟨w.heap.size + 1, 0, none⟩ = some (.int .i64 yk) ∧ W.cell? ⟨w.heap.size + 1, 1, none⟩ = some (.int .i64 yn) ∧ W.cell? ⟨w.heap.size + 1, 2, none⟩ = some (.string ys) ∧ W.cell? ⟨w.heap.size + 1, 3, none⟩ = some (.int .i64 ye))) := by
            show ∀ W, _
            intro W h
            exact ⟨h.1.2.1, h.2.2.1⟩
          have R4 := R3
          obtain ⟨rz, ⟨r0, r1, r2, r3⟩, rf0, rf1, rf2, rf3⟩ := R4
          go_upto_region 6 with fail
          go_region_held3 (fun W => (W.cell? ⟨w.heap.size, 0, none⟩ = some (.int .i64 xk) ∧ W.cell? ⟨w.heap.size, 1, none⟩ = some (.int .i64 xn) ∧ W.cell? ⟨w.heap.size, 2, none⟩ = some (.string xs) ∧ W.cell? ⟨w.heap.size, 3, none⟩ = some (.int .i64 xe)) ∧ (W.cell? ⟨w.heap.size + 1, 0, none⟩ = some (.int .i64 yk) ∧ W.cell? ⟨w.heap.size + 1, 1, none⟩ = some (.int .i64 yn) ∧ W.cell? ⟨w.heap.size + 1, 2, none⟩ = some (.string ys) ∧ W.cell? ⟨w.heap.size + 1, 3, none⟩ = some (.int .i64 ye)))
            ((refine mkS.out _ ?_; refine ⟨?_, ?_⟩ <;> ((with_reducible (repeat' (first | assumption | apply Blk.set | apply Blk.far | apply Blk.al | apply Blk.dr))); all_goals omega)))
            (first
              | (go_at_call 23; have q1 := F1; refine Calls.mono (e2 _) ?_; rintro e w' ⟨rfl, rfl⟩)
              | (go_at_call 23; refine Calls.mono (e1 _) ?_; rintro e w' ⟨rfl, rfl⟩; have F1 : True := trivial)
              | (go_at_call 22; refine Calls.mono (e3 _) ?_; rintro e w' ⟨rfl, rfl⟩)
              | (go_at_call 24; refine Calls.mono (e4 _) ?_; rintro e w' ⟨rfl, rfl⟩)
              | (go_at_call 25; refine Calls.mono (e5 _) ?_; rintro e w' ⟨rfl, rfl⟩)
              | (go_at_call 21; refine Calls.mono (e6 _ _ (by simp [go_sem]) (by simp [go_sem]) (by simp [go_sem])) ?_; rintro e w' ⟨rfl, rfl⟩))
          all_goals
            go_wp2_with fail
            apply finBi o (b := w.heap.size + 1 + 1) (w := w)
            case B => ((with_reducible (repeat' (first | assumption | apply Blk.set | apply Blk.far | apply Blk.al | apply Blk.dr))); all_goals omega)
            case hd => rfl
            case E => ((with_reducible (repeat' (first | assumption | exact Ext.refl _ | apply Ext.alloc | apply Ext.drew | apply Ext.drewN | apply Ext.setCell))); all_goals (first | omega | (simp; done) | (simp; omega)))
            case hr => intro g0 g1 g2 g3; simp [results, Tryd.results6, go_sem, g0, g1, g2, g3]
            case hQ => exact fun h => ⟨by rw [H.out]; rfl, h⟩
end Go.Proofs.YtlfkiepnahgbeabDoor
