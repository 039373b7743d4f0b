/-
  The contract of package value's Arith.
-/
import Derived.Test.YtdmiddpfgmbbhaaGreatDoorValE
import Derived.Deep.DeepCutAuto
import Derived.Deep.Light
namespace Go.Proofs.YtdmiddpfgmbbhaaGreatDoor
open Go.RowKit
set_option maxHeartbeats 1000000

/-! ### Which of two -/
theorem two_alloc {w : World} {ak an : Int} {sa : ByteArray} {ae bk bn : Int} {sb : ByteArray} {be : Int} {T : TypeId} :
    Two (w.alloc (.cells #[.int .i64 ak, .int .i64 an, .string sa, .int .i64 ae, .int .i64 bk, .int .i64 bn, .string sb, .int .i64 be] T)) w.heap.size ak an sa ae bk bn sb be := by
  unfold Two; simp [go_sem]
def NE (v : V) : Prop := (∃ n, v = .num n ∧ I64 n ∧ canB n = true) ∨ (∃ e, v = .err e ∧ 1 ≤ e ∧ e ≤ 5)
theorem ar_ea (op : Int) {a : V} (h : NE a) (k : a.k = 4) (b : V) : arith2 op a b = a := by
  rcases h with ⟨n, rfl, _⟩ | ⟨e, rfl, _⟩
  · simp [V.k] at k
  · cases b <;> rfl
theorem ar_eb (op : Int) {a b : V} (h : NE a) (g : NE b) (k : a.k ≠ 4) (l : b.k = 4) : arith2 op a b = b := by
  rcases h with ⟨n, rfl, _⟩ | ⟨e, rfl, _⟩
  · rcases g with ⟨m, rfl, _⟩ | ⟨e, rfl, _⟩
    · simp [V.k] at l
    · rfl
  · simp [V.k] at k
theorem ar_n (op : Int) {a b : V} (h : NE a) (g : NE b) (k : a.k ≠ 4) (l : b.k ≠ 4) : arith2 op a b = reckon op a.n b.n ∧ I64 a.n ∧ I64 b.n := by
  rcases h with ⟨n, rfl, i, _⟩ | ⟨e, rfl, _⟩
  · rcases g with ⟨m, rfl, j, _⟩ | ⟨e, rfl, _⟩
    · exact ⟨rfl, i, j⟩
    · simp [V.k] at l
  · simp [V.k] at k
theorem eq_nil (fn : Fn) (a b : Array Value) (W : World) : (binOp .eql 30 (.func fn a b) .nilFunc).run Tryz.prog W = .ok (.bool false) W := by
  have h := Tryz.underlying30
  obtain ⟨d, hd⟩ : ∃ d, Op.maxDepth = d + 1 := ⟨_, rfl⟩
  simp only [binOp, Op.equal, hd]
  simp [Op.equalIn, go_sem, run_underlying h]
theorem eq_nil2 (W : World) : (binOp .eql 30 .nilFunc .nilFunc).run Tryz.prog W = .ok (.bool true) W := by
  have h := Tryz.underlying30
  obtain ⟨d, hd⟩ : ∃ d, Op.maxDepth = d + 1 := ⟨_, rfl⟩
  simp only [binOp, Op.equal, hd]
  simp [Op.equalIn, go_sem, run_underlying h]
set_option maxRecDepth 100000 in
theorem arith_told (op : Int) (ka na : Int) (sa : ByteArray) (ea kb nb : Int) (sb : ByteArray) (eb : Int) (w : World) (hna : I64 na) (hnb : I64 nb) (hN : Nm w)
    (co : ∀ W, Calls Tryz.prog 11 #[.int .u8 op] W fun r w' => ∃ B, r = .returned (.func (.func 49) #[] #[.pointer (some ⟨B, 0, none⟩)]) ∧ Ext W w' ∧ Does op 49 B W.heap.size w') :
    Calls Tryz.prog 4 #[.int .u8 op, .agg #[.int .i64 ka, .int .i64 na, .string sa, .int .i64 ea], .agg #[.int .i64 kb, .int .i64 nb, .string sb, .int .i64 eb]] w fun r w' =>
      r = .returned (arith2 op (nm ka na sa ea).toNum (nm kb nb sb eb).toNum).dat ∧ Ext w w' := by
  have c1 := fun W h => vtonum_any ka na sa ea W hna h
  have c2 := fun W h => vtonum_any kb nb sb eb W hnb h
  have n1 := toNum_cases (nm ka na sa ea) (nm_ok _ _ _ _ hna)
  have n2 := toNum_cases (nm kb nb sb eb) (nm_ok _ _ _ _ hnb)
  have e0 := fun fn a b W => eq_nil fn a b W
  generalize (nm ka na sa ea).toNum = a at c1 n1 ⊢
  generalize (nm kb nb sb eb).toNum = b at c2 n2 ⊢
  rw [dat_eq] at c1 c2
  have H1 : Hid (a.k = 4 → (arith2 op a b).dat = .agg #[.int .i64 4, .int .i64 a.n, .string a.s, .int .i64 a.e]) := fun h => by rw [ar_ea op n1 h b, dat_eq, h]
  have H2 : Hid (a.k ≠ 4 → b.k = 4 → (arith2 op a b).dat = .agg #[.int .i64 4, .int .i64 b.n, .string b.s, .int .i64 b.e]) := fun h g => by rw [ar_eb op n1 n2 h g, dat_eq, g]
  have H3 : Hid (a.k ≠ 4 → b.k ≠ 4 → arith2 op a b = reckon op a.n b.n ∧ I64 a.n ∧ I64 b.n) := fun h g => ar_n op n1 n2 h g
  clear n1 n2 hna hnb
  generalize a.k = pk at *
  generalize a.n = pn at *
  generalize a.s = ps at *
  generalize a.e = pe at *
  generalize b.k = qk at *
  generalize b.n = qn at *
  generalize b.s = qs at *
  generalize b.e = qe at *
  generalize arith2 op a b = J at *
  clear a b
  go_enter Tryz.func4, Tryz.ntmps4
  go_wp2_with fail
  refine (co _).mono ?_
  rintro r w1 ⟨B, rfl, E1, hD⟩
  have hD : Hid (Does op 49 B (w.heap.size + 1 + 1 + 1) w1) := by show Does _ _ _ _ _; simpa using hD
  have XW : Ext w w1 := Ext.trans (by with_reducible repeat (first | assumption | exact Ext.refl _ | apply Ext.alloc | apply Ext.drewN | (refine Ext.setCell ?_ (by simp) _))) E1
  have hK : Hid (∀ W, Ext w1 W → Blk W (w.heap.size) (.int .i64 ka) (.int .i64 na) (.string sa) (.int .i64 ea) ∧ Blk W (w.heap.size + 1) (.int .i64 kb) (.int .i64 nb) (.string sb) (.int .i64 eb) ∧ Blk W (w.heap.size + 1 + 1) (.int .i64 0) (.int .i64 0) (.string ⟨#[]⟩) (.int .i64 0)) := by
    show ∀ W, _
    intro W h
    exact ⟨blk_top (by simp) ((((Ext.refl _).alloc _).alloc _).trans (E1.trans h)), blk_top (by simp) (((Ext.refl _).alloc _).trans (E1.trans h)), blk_top (by simp) (E1.trans h)⟩
  clear E1 co
  go_upto_region 3 with fail
  go_cut [] (fun wx => Ext w wx ∧ Blk wx (w.heap.size) (.int .i64 pk) (.int .i64 pn) (.string ps) (.int .i64 pe) ∧ Blk wx (w.heap.size + 1) (.int .i64 qk) (.int .i64 qn) (.string qs) (.int .i64 qe) ∧ Blk wx (w.heap.size + 1 + 1) (.int .i64 0) (.int .i64 0) (.string ⟨#[]⟩) (.int .i64 0) ∧ Same (w.heap.size + 1 + 1 + 1) w1 wx)
  case first =>
    obtain ⟨⟨az, ⟨a0, a1, a2, a3⟩, af0, af1, af2, af3⟩, ⟨bz, ⟨b0, b1, b2, b3⟩, bf0, bf1, bf2, bf3⟩, _⟩ := hK.out w1 (Ext.refl _)
    have d1 := fun W (h : Ext w1 W) => c1 W (hN.ext (XW.trans h))
    have d2 := fun W (h : Ext w1 W) => c2 W (hN.ext (XW.trans h))
    clear c1 c2 hD e0 H1 H2 H3
    go_region_with (first | (go_at_call 13; have q1 := E5; refine Calls.mono (d2 _ ?hh) ?_; (case hh => (with_reducible repeat (first | assumption | exact Ext.refl _ | apply Ext.drew | apply Ext.drewN))); rintro e w6 ⟨rfl, E6⟩; have X6 : Ext w1 w6 := Ext.trans (by (with_reducible repeat (first | assumption | exact Ext.refl _ | apply Ext.drew | apply Ext.drewN))) E6; obtain ⟨⟨az, ⟨a0, a1, a2, a3⟩, af0, af1, af2, af3⟩, ⟨bz, ⟨b0, b1, b2, b3⟩, bf0, bf1, bf2, bf3⟩, _⟩ := hK.out  w6 X6) | (go_at_call 13; refine Calls.mono (d1 _ ?hh) ?_; (case hh => (with_reducible repeat (first | assumption | exact Ext.refl _ | apply Ext.drew | apply Ext.drewN))); rintro e w5 ⟨rfl, E5⟩; have X5 : Ext w1 w5 := Ext.trans (by (with_reducible repeat (first | assumption | exact Ext.refl _ | apply Ext.drew | apply Ext.drewN))) E5; obtain ⟨⟨az, ⟨a0, a1, a2, a3⟩, af0, af1, af2, af3⟩, ⟨bz, ⟨b0, b1, b2, b3⟩, bf0, bf1, bf2, bf3⟩, _⟩ := hK.out  w5 X5))
    all_goals
      obtain ⟨A6, B6, R6⟩ := hK.out w6 X6
      have X7 : Ext w w6 := XW.trans X6
      have S6 : Same (w.heap.size + 1 + 1 + 1) w1 w6 := (Same.refl _ _).ext X6
      go_wp2_with fail
      go_meet
      case rel =>
        refine ⟨?_, ?_, ?_, ?_, ?_⟩
        · ((with_reducible (repeat' (first | assumption | exact Ext.refl _ | apply Ext.alloc | apply Ext.drew | apply Ext.drewN | apply Ext.setCell))); all_goals (first | omega | (simp; done) | (simp; omega)))
        · ((with_reducible (repeat' (first | assumption | apply Blk.set | apply Blk.far | apply Blk.al | apply Blk.dr))); all_goals omega)
        · ((with_reducible (repeat' (first | assumption | apply Blk.set | apply Blk.far | apply Blk.al | apply Blk.dr))); all_goals omega)
        · ((with_reducible (repeat' (first | assumption | apply Blk.set | apply Blk.far | apply Blk.al | apply Blk.dr))); all_goals omega)
        · ((with_reducible (repeat' (first | assumption | exact Same.refl _ _ | (apply Same.ext <;> assumption) | apply Same.al | apply Same.dr | apply Same.set))); all_goals (first | omega | (simp; done) | (simp; omega)))
  case rest =>
    obtain ⟨X, A, B', R, SS⟩ := hcut
    have A' := A
    have B2 := B'
    obtain ⟨az, ⟨a0, a1, a2, a3⟩, af0, af1, af2, af3⟩ := A'
    obtain ⟨bz, ⟨b0, b1, b2, b3⟩, bf0, bf1, bf2, bf3⟩ := B2
    clear c1 c2 hK XW e0
    by_cases ha : pk = 4
    · have H : Hid (J.dat = _) := H1.out ha
      subst ha
      have c := fun W h => firsterr_a 4 pn ps pe qk qn qs qe wc.heap.size W h (by decide)
      clear H1 H2 H3 hD hN SS
      go_wp2_with fail
      refine (c _ two_alloc).mono ?_
      rintro r w2 ⟨rfl, E2⟩
      have X2 : Ext w w2 := Ext.trans (by with_reducible repeat (first | assumption | exact Ext.refl _ | apply Ext.alloc | apply Ext.drewN | (refine Ext.setCell ?_ (by simp) _))) E2
      have R2 := (R.ext ((Ext.refl _).alloc _)).ext E2
      have R3 := R2
      obtain ⟨rz, ⟨r0, r1, r2, r3⟩, rf0, rf1, rf2, rf3⟩ := R3
      go_wp2_with fail
      apply finB (b := w.heap.size + 1 + 1) (w := w)
      case B => ((with_reducible (repeat' (first | assumption | apply Blk.set | apply Blk.far | apply Blk.al | apply Blk.dr))); all_goals omega)
      case hd => rfl
      case E => ((with_reducible (repeat' (first | assumption | exact Ext.refl _ | apply Ext.alloc | apply Ext.drew | apply Ext.drewN | apply Ext.setCell))); all_goals (first | omega | (simp; done) | (simp; omega)))
      case hr => intro g0 g1 g2 g3; simp [results, Tryz.results4, go_sem, g0, g1, g2, g3]
      case hQ => exact fun h => ⟨by rw [H.out], h⟩
    · by_cases hb : qk = 4
      · have H : Hid (J.dat = _) := H2.out ha hb
        subst hb
        have c := fun W h => firsterr_b pk pn ps pe 4 qn qs qe wc.heap.size W h (by simpa using ha) (by decide)
        clear H1 H2 H3 ha hD hN SS
        go_wp2_with fail
        refine (c _ two_alloc).mono ?_
        rintro r w2 ⟨rfl, E2⟩
        have X2 : Ext w w2 := Ext.trans (by with_reducible repeat (first | assumption | exact Ext.refl _ | apply Ext.alloc | apply Ext.drewN | (refine Ext.setCell ?_ (by simp) _))) E2
        have R2 := (R.ext ((Ext.refl _).alloc _)).ext E2
        have R3 := R2
        obtain ⟨rz, ⟨r0, r1, r2, r3⟩, rf0, rf1, rf2, rf3⟩ := R3
        go_wp2_with fail
        apply finB (b := w.heap.size + 1 + 1) (w := w)
        case B => ((with_reducible (repeat' (first | assumption | apply Blk.set | apply Blk.far | apply Blk.al | apply Blk.dr))); all_goals omega)
        case hd => rfl
        case E => ((with_reducible (repeat' (first | assumption | exact Ext.refl _ | apply Ext.alloc | apply Ext.drew | apply Ext.drewN | apply Ext.setCell))); all_goals (first | omega | (simp; done) | (simp; omega)))
        case hr => intro g0 g1 g2 g3; simp [results, Tryz.results4, go_sem, g0, g1, g2, g3]
        case hQ => exact fun h => ⟨by rw [H.out], h⟩
      · obtain ⟨rfl, i1, i2⟩ := H3.out ha hb
        have c := fun W h => firsterr_n pk pn ps pe qk qn qs qe wc.heap.size W h (by simpa using ha) (by simpa using hb)
        have cr := fun W hS hW => hD.out W pn qn hS i1 i2 hW
        clear H1 H2 H3 ha hb i1 i2
        obtain ⟨u0, u1, u2, u3, hu⟩ := dat4 (reckon op pn qn)
        rw [hu] at cr
        have H : Hid ((reckon op pn qn).dat = _) := hu
        clear hu
        go_wp2_with fail
        refine (c _ two_alloc).mono ?_
        rintro r w2 ⟨rfl, E2⟩
        have A2 := (A.ext ((Ext.refl _).alloc _)).ext E2
        have B2 := (B'.ext ((Ext.refl _).alloc _)).ext E2
        have S2 := (SS.al _).ext E2
        have X2 : Ext w w2 := Ext.trans (by with_reducible repeat (first | assumption | exact Ext.refl _ | apply Ext.alloc | apply Ext.drewN | (refine Ext.setCell ?_ (by simp) _))) E2
        have R2 := (R.ext ((Ext.refl _).alloc _)).ext E2
        clear A B' SS E2 X R c az a0 a1 a2 a3 af0 af1 af2 af3 bz b0 b1 b2 b3 bf0 bf1 bf2 bf3
        have A3 := A2
        have B3 := B2
        obtain ⟨az, ⟨a0, a1, a2, a3⟩, af0, af1, af2, af3⟩ := A3
        obtain ⟨bz, ⟨b0, b1, b2, b3⟩, bf0, bf1, bf2, bf3⟩ := B3
        go_wp2_with fail
        refine (cr _ ?hs ?hn).mono ?_
        case hs => ((with_reducible (repeat' (first | assumption | exact Same.refl _ _ | (apply Same.ext <;> assumption) | apply Same.al | apply Same.dr | apply Same.set))); all_goals (first | omega | (simp; done) | (simp; omega)))
        case hn => exact hN.ext (by ((with_reducible (repeat' (first | assumption | exact Ext.refl _ | apply Ext.alloc | apply Ext.drew | apply Ext.drewN | apply Ext.setCell))); all_goals (first | omega | (simp; done) | (simp; omega))))
        rintro r w3 ⟨rfl, E3⟩
        have X3 : Ext w w3 := Ext.trans (by ((with_reducible (repeat' (first | assumption | exact Ext.refl _ | apply Ext.alloc | apply Ext.drew | apply Ext.drewN | apply Ext.setCell))); all_goals (first | omega | (simp; done) | (simp; omega)))) E3
        have R3 := (R2.ext ((Ext.refl _).alloc _)).ext E3
        have R4 := R3
        obtain ⟨rz, ⟨r0, r1, r2, r3⟩, rf0, rf1, rf2, rf3⟩ := R4
        clear A2 B2 S2 cr X2 E3 az a0 a1 a2 a3 af0 af1 af2 af3 bz b0 b1 b2 b3 bf0 bf1 bf2 bf3
        go_wp2_with fail
        apply finB (b := w.heap.size + 1 + 1) (w := w)
        case B => ((with_reducible (repeat' (first | assumption | apply Blk.set | apply Blk.far | apply Blk.al | apply Blk.dr))); all_goals omega)
        case hd => rfl
        case E => ((with_reducible (repeat' (first | assumption | exact Ext.refl _ | apply Ext.alloc | apply Ext.drew | apply Ext.drewN | apply Ext.setCell))); all_goals (first | omega | (simp; done) | (simp; omega)))
        case hr => intro g0 g1 g2 g3; simp [results, Tryz.results4, go_sem, g0, g1, g2, g3]
        case hQ => exact fun h => ⟨by rw [H.out], h⟩
set_option maxRecDepth 100000 in
theorem arith_div (op : Int) (ka na : Int) (sa : ByteArray) (ea kb nb : Int) (sb : ByteArray) (eb : Int) (w : World) (hna : I64 na) (hnb : I64 nb) (hN : Nm w)
    (co : ∀ W, Calls Tryz.prog 11 #[.int .u8 op] W fun r w' => ∃ B, r = .returned (.func (.func 55) #[] #[.pointer (some ⟨B, 0, none⟩)]) ∧ Ext W w' ∧ Does op 55 B W.heap.size w') :
    Calls Tryz.prog 4 #[.int .u8 op, .agg #[.int .i64 ka, .int .i64 na, .string sa, .int .i64 ea], .agg #[.int .i64 kb, .int .i64 nb, .string sb, .int .i64 eb]] w fun r w' =>
      r = .returned (arith2 op (nm ka na sa ea).toNum (nm kb nb sb eb).toNum).dat ∧ Ext w w' := by
  have c1 := fun W h => vtonum_any ka na sa ea W hna h
  have c2 := fun W h => vtonum_any kb nb sb eb W hnb h
  have n1 := toNum_cases (nm ka na sa ea) (nm_ok _ _ _ _ hna)
  have n2 := toNum_cases (nm kb nb sb eb) (nm_ok _ _ _ _ hnb)
  have e0 := fun fn a b W => eq_nil fn a b W
  generalize (nm ka na sa ea).toNum = a at c1 n1 ⊢
  generalize (nm kb nb sb eb).toNum = b at c2 n2 ⊢
  rw [dat_eq] at c1 c2
  have H1 : Hid (a.k = 4 → (arith2 op a b).dat = .agg #[.int .i64 4, .int .i64 a.n, .string a.s, .int .i64 a.e]) := fun h => by rw [ar_ea op n1 h b, dat_eq, h]
  have H2 : Hid (a.k ≠ 4 → b.k = 4 → (arith2 op a b).dat = .agg #[.int .i64 4, .int .i64 b.n, .string b.s, .int .i64 b.e]) := fun h g => by rw [ar_eb op n1 n2 h g, dat_eq, g]
  have H3 : Hid (a.k ≠ 4 → b.k ≠ 4 → arith2 op a b = reckon op a.n b.n ∧ I64 a.n ∧ I64 b.n) := fun h g => ar_n op n1 n2 h g
  clear n1 n2 hna hnb
  generalize a.k = pk at *
  generalize a.n = pn at *
  generalize a.s = ps at *
  generalize a.e = pe at *
  generalize b.k = qk at *
  generalize b.n = qn at *
  generalize b.s = qs at *
  generalize b.e = qe at *
  generalize arith2 op a b = J at *
  clear a b
  go_enter Tryz.func4, Tryz.ntmps4
  go_wp2_with fail
  refine (co _).mono ?_
  rintro r w1 ⟨B, rfl, E1, hD⟩
  have hD : Hid (Does op 55 B (w.heap.size + 1 + 1 + 1) w1) := by show Does _ _ _ _ _; simpa using hD
  have XW : Ext w w1 := Ext.trans (by with_reducible repeat (first | assumption | exact Ext.refl _ | apply Ext.alloc | apply Ext.drewN | (refine Ext.setCell ?_ (by simp) _))) E1
  have hK : Hid (∀ W, Ext w1 W → Blk W (w.heap.size) (.int .i64 ka) (.int .i64 na) (.string sa) (.int .i64 ea) ∧ Blk W (w.heap.size + 1) (.int .i64 kb) (.int .i64 nb) (.string sb) (.int .i64 eb) ∧ Blk W (w.heap.size + 1 + 1) (.int .i64 0) (.int .i64 0) (.string ⟨#[]⟩) (.int .i64 0)) := by
    show ∀ W, _
    intro W h
    exact ⟨blk_top (by simp) ((((Ext.refl _).alloc _).alloc _).trans (E1.trans h)), blk_top (by simp) (((Ext.refl _).alloc _).trans (E1.trans h)), blk_top (by simp) (E1.trans h)⟩
  clear E1 co
  go_upto_region 3 with fail
  go_cut [] (fun wx => Ext w wx ∧ Blk wx (w.heap.size) (.int .i64 pk) (.int .i64 pn) (.string ps) (.int .i64 pe) ∧ Blk wx (w.heap.size + 1) (.int .i64 qk) (.int .i64 qn) (.string qs) (.int .i64 qe) ∧ Blk wx (w.heap.size + 1 + 1) (.int .i64 0) (.int .i64 0) (.string ⟨#[]⟩) (.int .i64 0) ∧ Same (w.heap.size + 1 + 1 + 1) w1 wx)
  case first =>
    obtain ⟨⟨az, ⟨a0, a1, a2, a3⟩, af0, af1, af2, af3⟩, ⟨bz, ⟨b0, b1, b2, b3⟩, bf0, bf1, bf2, bf3⟩, _⟩ := hK.out w1 (Ext.refl _)
    have d1 := fun W (h : Ext w1 W) => c1 W (hN.ext (XW.trans h))
    have d2 := fun W (h : Ext w1 W) => c2 W (hN.ext (XW.trans h))
    clear c1 c2 hD e0 H1 H2 H3
    go_region_with (first | (go_at_call 13; have q1 := E5; refine Calls.mono (d2 _ ?hh) ?_; (case hh => (with_reducible repeat (first | assumption | exact Ext.refl _ | apply Ext.drew | apply Ext.drewN))); rintro e w6 ⟨rfl, E6⟩; have X6 : Ext w1 w6 := Ext.trans (by (with_reducible repeat (first | assumption | exact Ext.refl _ | apply Ext.drew | apply Ext.drewN))) E6; obtain ⟨⟨az, ⟨a0, a1, a2, a3⟩, af0, af1, af2, af3⟩, ⟨bz, ⟨b0, b1, b2, b3⟩, bf0, bf1, bf2, bf3⟩, _⟩ := hK.out  w6 X6) | (go_at_call 13; refine Calls.mono (d1 _ ?hh) ?_; (case hh => (with_reducible repeat (first | assumption | exact Ext.refl _ | apply Ext.drew | apply Ext.drewN))); rintro e w5 ⟨rfl, E5⟩; have X5 : Ext w1 w5 := Ext.trans (by (with_reducible repeat (first | assumption | exact Ext.refl _ | apply Ext.drew | apply Ext.drewN))) E5; obtain ⟨⟨az, ⟨a0, a1, a2, a3⟩, af0, af1, af2, af3⟩, ⟨bz, ⟨b0, b1, b2, b3⟩, bf0, bf1, bf2, bf3⟩, _⟩ := hK.out  w5 X5))
    all_goals
      obtain ⟨A6, B6, R6⟩ := hK.out w6 X6
      have X7 : Ext w w6 := XW.trans X6
      have S6 : Same (w.heap.size + 1 + 1 + 1) w1 w6 := (Same.refl _ _).ext X6
      go_wp2_with fail
      go_meet
      case rel =>
        refine ⟨?_, ?_, ?_, ?_, ?_⟩
        · ((with_reducible (repeat' (first | assumption | exact Ext.refl _ | apply Ext.alloc | apply Ext.drew | apply Ext.drewN | apply Ext.setCell))); all_goals (first | omega | (simp; done) | (simp; omega)))
        · ((with_reducible (repeat' (first | assumption | apply Blk.set | apply Blk.far | apply Blk.al | apply Blk.dr))); all_goals omega)
        · ((with_reducible (repeat' (first | assumption | apply Blk.set | apply Blk.far | apply Blk.al | apply Blk.dr))); all_goals omega)
        · ((with_reducible (repeat' (first | assumption | apply Blk.set | apply Blk.far | apply Blk.al | apply Blk.dr))); all_goals omega)
        · ((with_reducible (repeat' (first | assumption | exact Same.refl _ _ | (apply Same.ext <;> assumption) | apply Same.al | apply Same.dr | apply Same.set))); all_goals (first | omega | (simp; done) | (simp; omega)))
  case rest =>
    obtain ⟨X, A, B', R, SS⟩ := hcut
    have A' := A
    have B2 := B'
    obtain ⟨az, ⟨a0, a1, a2, a3⟩, af0, af1, af2, af3⟩ := A'
    obtain ⟨bz, ⟨b0, b1, b2, b3⟩, bf0, bf1, bf2, bf3⟩ := B2
    clear c1 c2 hK XW e0
    by_cases ha : pk = 4
    · have H : Hid (J.dat = _) := H1.out ha
      subst ha
      have c := fun W h => firsterr_a 4 pn ps pe qk qn qs qe wc.heap.size W h (by decide)
      clear H1 H2 H3 hD hN SS
      go_wp2_with fail
      refine (c _ two_alloc).mono ?_
      rintro r w2 ⟨rfl, E2⟩
      have X2 : Ext w w2 := Ext.trans (by with_reducible repeat (first | assumption | exact Ext.refl _ | apply Ext.alloc | apply Ext.drewN | (refine Ext.setCell ?_ (by simp) _))) E2
      have R2 := (R.ext ((Ext.refl _).alloc _)).ext E2
      have R3 := R2
      obtain ⟨rz, ⟨r0, r1, r2, r3⟩, rf0, rf1, rf2, rf3⟩ := R3
      go_wp2_with fail
      apply finB (b := w.heap.size + 1 + 1) (w := w)
      case B => ((with_reducible (repeat' (first | assumption | apply Blk.set | apply Blk.far | apply Blk.al | apply Blk.dr))); all_goals omega)
      case hd => rfl
      case E => ((with_reducible (repeat' (first | assumption | exact Ext.refl _ | apply Ext.alloc | apply Ext.drew | apply Ext.drewN | apply Ext.setCell))); all_goals (first | omega | (simp; done) | (simp; omega)))
      case hr => intro g0 g1 g2 g3; simp [results, Tryz.results4, go_sem, g0, g1, g2, g3]
      case hQ => exact fun h => ⟨by rw [H.out], h⟩
    · by_cases hb : qk = 4
      · have H : Hid (J.dat = _) := H2.out ha hb
        subst hb
        have c := fun W h => firsterr_b pk pn ps pe 4 qn qs qe wc.heap.size W h (by simpa using ha) (by decide)
        clear H1 H2 H3 ha hD hN SS
        go_wp2_with fail
        refine (c _ two_alloc).mono ?_
        rintro r w2 ⟨rfl, E2⟩
        have X2 : Ext w w2 := Ext.trans (by with_reducible repeat (first | assumption | exact Ext.refl _ | apply Ext.alloc | apply Ext.drewN | (refine Ext.setCell ?_ (by simp) _))) E2
        have R2 := (R.ext ((Ext.refl _).alloc _)).ext E2
        have R3 := R2
        obtain ⟨rz, ⟨r0, r1, r2, r3⟩, rf0, rf1, rf2, rf3⟩ := R3
        go_wp2_with fail
        apply finB (b := w.heap.size + 1 + 1) (w := w)
        case B => ((with_reducible (repeat' (first | assumption | apply Blk.set | apply Blk.far | apply Blk.al | apply Blk.dr))); all_goals omega)
        case hd => rfl
        case E => ((with_reducible (repeat' (first | assumption | exact Ext.refl _ | apply Ext.alloc | apply Ext.drew | apply Ext.drewN | apply Ext.setCell))); all_goals (first | omega | (simp; done) | (simp; omega)))
        case hr => intro g0 g1 g2 g3; simp [results, Tryz.results4, go_sem, g0, g1, g2, g3]
        case hQ => exact fun h => ⟨by rw [H.out], h⟩
      · obtain ⟨rfl, i1, i2⟩ := H3.out ha hb
        have c := fun W h => firsterr_n pk pn ps pe qk qn qs qe wc.heap.size W h (by simpa using ha) (by simpa using hb)
        have cr := fun W hS hW => hD.out W pn qn hS i1 i2 hW
        clear H1 H2 H3 ha hb i1 i2
        obtain ⟨u0, u1, u2, u3, hu⟩ := dat4 (reckon op pn qn)
        rw [hu] at cr
        have H : Hid ((reckon op pn qn).dat = _) := hu
        clear hu
        go_wp2_with fail
        refine (c _ two_alloc).mono ?_
        rintro r w2 ⟨rfl, E2⟩
        have A2 := (A.ext ((Ext.refl _).alloc _)).ext E2
        have B2 := (B'.ext ((Ext.refl _).alloc _)).ext E2
        have S2 := (SS.al _).ext E2
        have X2 : Ext w w2 := Ext.trans (by with_reducible repeat (first | assumption | exact Ext.refl _ | apply Ext.alloc | apply Ext.drewN | (refine Ext.setCell ?_ (by simp) _))) E2
        have R2 := (R.ext ((Ext.refl _).alloc _)).ext E2
        clear A B' SS E2 X R c az a0 a1 a2 a3 af0 af1 af2 af3 bz b0 b1 b2 b3 bf0 bf1 bf2 bf3
        have A3 := A2
        have B3 := B2
        obtain ⟨az, ⟨a0, a1, a2, a3⟩, af0, af1, af2, af3⟩ := A3
        obtain ⟨bz, ⟨b0, b1, b2, b3⟩, bf0, bf1, bf2, bf3⟩ := B3
        go_wp2_with fail
        refine (cr _ ?hs ?hn).mono ?_
        case hs => ((with_reducible (repeat' (first | assumption | exact Same.refl _ _ | (apply Same.ext <;> assumption) | apply Same.al | apply Same.dr | apply Same.set))); all_goals (first | omega | (simp; done) | (simp; omega)))
        case hn => exact hN.ext (by ((with_reducible (repeat' (first | assumption | exact Ext.refl _ | apply Ext.alloc | apply Ext.drew | apply Ext.drewN | apply Ext.setCell))); all_goals (first | omega | (simp; done) | (simp; omega))))
        rintro r w3 ⟨rfl, E3⟩
        have X3 : Ext w w3 := Ext.trans (by ((with_reducible (repeat' (first | assumption | exact Ext.refl _ | apply Ext.alloc | apply Ext.drew | apply Ext.drewN | apply Ext.setCell))); all_goals (first | omega | (simp; done) | (simp; omega)))) E3
        have R3 := (R2.ext ((Ext.refl _).alloc _)).ext E3
        have R4 := R3
        obtain ⟨rz, ⟨r0, r1, r2, r3⟩, rf0, rf1, rf2, rf3⟩ := R4
        clear A2 B2 S2 cr X2 E3 az a0 a1 a2 a3 af0 af1 af2 af3 bz b0 b1 b2 b3 bf0 bf1 bf2 bf3
        go_wp2_with fail
        apply finB (b := w.heap.size + 1 + 1) (w := w)
        case B => ((with_reducible (repeat' (first | assumption | apply Blk.set | apply Blk.far | apply Blk.al | apply Blk.dr))); all_goals omega)
        case hd => rfl
        case E => ((with_reducible (repeat' (first | assumption | exact Ext.refl _ | apply Ext.alloc | apply Ext.drew | apply Ext.drewN | apply Ext.setCell))); all_goals (first | omega | (simp; done) | (simp; omega)))
        case hr => intro g0 g1 g2 g3; simp [results, Tryz.results4, go_sem, g0, g1, g2, g3]
        case hQ => exact fun h => ⟨by rw [H.out], h⟩
end Go.Proofs.YtdmiddpfgmbbhaaGreatDoor
