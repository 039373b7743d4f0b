/-
  The contracts of Meet (package coord's and the document's).
-/
import Derived.Test.YtdklhgfkaablbaaDoorCooS
namespace Go.Proofs.YtdklhgfkaablbaaDoor
open Go.RowKit
set_option maxHeartbeats 1000000

/-- What two rectangles both have. -/
def mtB (p q u v p' q' u' v' : Int) : Bool := canR p q u v && canR p' q' u' v' && canR (mxI p p') (mxI q q') (mnI u u') (mnI v v')
def mtD (p q u v p' q' u' v' : Int) : Value := if mtB p q u v p' q' u' v' then rectD (mxI p p') (mxI q q') (mnI u u') (mnI v v') else rectD 0 0 0 0
theorem mt_no {p q u v p' q' u' v' : Int} (h : mtB p q u v p' q' u' v' = false) : mtD p q u v p' q' u' v' = rectD 0 0 0 0 := by unfold mtD; rw [h]; rfl
theorem mt_yes {p q u v p' q' u' v' : Int} (h : mtB p q u v p' q' u' v' = true) : mtD p q u v p' q' u' v' = rectD (mxI p p') (mxI q q') (mnI u u') (mnI v v') := by unfold mtD; rw [h]; rfl
/-- The document's test. -/
theorem mt_ref (p q u v p' q' u' v' : Int) (h1 : canR p q u v = true) (h2 : canR p' q' u' v' = true) : mtB p q u v p' q' u' v' = (decide (p ≤ u') && decide (p' ≤ u) && decide (q ≤ v') && decide (q' ≤ v)) := by
  unfold mtB
  rw [h1, h2]
  obtain ⟨a1, a2, a3, a4, a5, a6⟩ := can_bd h1
  obtain ⟨b1, b2, b3, b4, b5, b6⟩ := can_bd h2
  unfold canR inB mxI mnI
  rw [Bool.eq_iff_iff]
  simp only [Bool.true_and, Bool.and_eq_true, decide_eq_true_eq]
  constructor
  · rintro h
    split at h <;> split at h <;> split at h <;> split at h <;> omega
  · rintro h
    split <;> split <;> split <;> split <;> omega
theorem area_zero (p q u v : Int) : (areaR p q u v == 0) = !canR p q u v := by
  have := (area_bd p q u v).2.2
  cases h : canR p q u v
  · rw [this.2 h]; rfl
  · have : areaR p q u v ≠ 0 := fun e => by rw [this.1 e] at h; cases h
    simpa using this

set_option maxRecDepth 100000 in
theorem meet_any (p q u v p' q' u' v' : Int) (w : World) : Calls Tryd.prog 26 #[.agg #[.int .i64 p, .int .i64 q, .int .i64 u, .int .i64 v], .agg #[.int .i64 p', .int .i64 q', .int .i64 u', .int .i64 v']] w fun e w' => e = .returned (.tuple #[mtD p q u v p' q' u' v', .bool (mtB p q u v p' q' u' v')]) ∧ Ext w w' := by
  obtain ⟨W0, hW0⟩ : ∃ W0, W0 = ((w.alloc (.cells #[.int .i64 p, .int .i64 q, .int .i64 u, .int .i64 v] 35)).alloc (.cells #[.int .i64 p', .int .i64 q', .int .i64 u', .int .i64 v'] 35)).alloc (.cells #[.int .i64 0, .int .i64 0, .int .i64 0, .int .i64 0] 35) := ⟨_, rfl⟩
  obtain ⟨X0, BA, BB, BZ⟩ := three hW0
  have cA := fun W => area_any p q u v W
  have cB := fun W => area_any p' q' u' v' W
  have cM := fun W => area_any (mxI p p') (mxI q q') (mnI u u') (mnI v v') W
  have zA := area_zero p q u v
  have zB := area_zero p' q' u' v'
  have zM := area_zero (mxI p p') (mxI q q') (mnI u u') (mnI v v')
  have HM0 : Hid (mtB p q u v p' q' u' v' = (canR p q u v && canR p' q' u' v' && canR (mxI p p') (mxI q q') (mnI u u') (mnI v v'))) := rfl
  have e1 := mx_eq p p'
  have e2 := mx_eq q q'
  have e3 := mn_eq u u'
  have e4 := mn_eq v v'
  generalize areaR p q u v = xA at *
  generalize areaR p' q' u' v' = xB at *
  generalize areaR (mxI p p') (mxI q q') (mnI u u') (mnI v v') = xM at *
  cases hA : canR p q u v
  · rw [hA] at zA HM0
    have HM : Hid (mtB p q u v p' q' u' v' = false) := HM0.out
    have zA' : (xA == 0) = true := zA
    clear zA zB zM HM0 e1 e2 e3 e4
    go_enter Tryd.func26, Tryd.ntmps26
    go_wp2_with fail
    rw [← hW0]
    clear hW0
    refine (cA _).mono ?_
    rintro e w1 ⟨rfl, E1⟩
    replace X0 := X0.trans E1
    replace BA := BA.ext E1
    replace BB := BB.ext E1
    replace BZ := BZ.ext E1
    clear E1
    have BA_ := BA
    have BB_ := BB
    have BZ_ := BZ
    obtain ⟨_, ⟨k0, k1, k2, k3⟩, _⟩ := BA_
    obtain ⟨_, ⟨m0, m1, m2, m3⟩, _⟩ := BB_
    obtain ⟨_, ⟨n0, n1, n2, n3⟩, f0, f1, f2, f3⟩ := BZ_
    go_wp2_with fail
    exact fin4b false n0 n1 n2 n3 rfl (by omega) X0 (fun W g0 g1 g2 g3 => by simp [results, Tryd.results26, go_sem, g0, g1, g2, g3]) (fun W h => ⟨ret_ref (by rw [mt_no HM.out]; rfl) HM.out.symm, h⟩)
  cases hB : canR p' q' u' v'
  · rw [hA] at zA HM0
    rw [hB] at zB HM0
    have HM : Hid (mtB p q u v p' q' u' v' = false) := HM0.out
    have zA' : (xA == 0) = false := zA
    have zB' : (xB == 0) = true := zB
    clear zA zB zM HM0 e1 e2 e3 e4
    go_enter Tryd.func26, Tryd.ntmps26
    go_wp2_with fail
    rw [← hW0]
    clear hW0
    refine (cA _).mono ?_
    rintro e w1 ⟨rfl, E1⟩
    replace X0 := X0.trans E1
    replace BA := BA.ext E1
    replace BB := BB.ext E1
    replace BZ := BZ.ext E1
    clear E1
    have BA_ := BA
    have BB_ := BB
    have BZ_ := BZ
    obtain ⟨_, ⟨k0, k1, k2, k3⟩, _⟩ := BA_
    obtain ⟨_, ⟨m0, m1, m2, m3⟩, _⟩ := BB_
    obtain ⟨_, ⟨n0, n1, n2, n3⟩, f0, f1, f2, f3⟩ := BZ_
    go_wp2_with fail
    refine (cB _).mono ?_
    rintro e w2 ⟨rfl, E2⟩
    replace X0 := X0.trans E2
    replace BA := BA.ext E2
    replace BB := BB.ext E2
    replace BZ := BZ.ext E2
    clear E2
    clear k0 k1 k2 k3 m0 m1 m2 m3 n0 n1 n2 n3 f0 f1 f2 f3
    have BA_ := BA
    have BB_ := BB
    have BZ_ := BZ
    obtain ⟨_, ⟨k0, k1, k2, k3⟩, _⟩ := BA_
    obtain ⟨_, ⟨m0, m1, m2, m3⟩, _⟩ := BB_
    obtain ⟨_, ⟨n0, n1, n2, n3⟩, f0, f1, f2, f3⟩ := BZ_
    go_wp2_with fail
    exact fin4b false n0 n1 n2 n3 rfl (by omega) X0 (fun W g0 g1 g2 g3 => by simp [results, Tryd.results26, go_sem, g0, g1, g2, g3]) (fun W h => ⟨ret_ref (by rw [mt_no HM.out]; rfl) HM.out.symm, h⟩)
  cases hM : canR (mxI p p') (mxI q q') (mnI u u') (mnI v v')
  · rw [hA] at zA HM0
    rw [hB] at zB HM0
    rw [hM] at zM HM0
    have HM : Hid (mtB p q u v p' q' u' v' = false) := HM0.out
    have zA' : (xA == 0) = false := zA
    have zB' : (xB == 0) = false := zB
    have zM' : (xM == 0) = true := zM
    clear zA zB zM HM0
    go_enter Tryd.func26, Tryd.ntmps26
    go_wp2_with fail
    rw [← hW0]
    clear hW0
    refine (cA _).mono ?_
    rintro e w1 ⟨rfl, E1⟩
    replace X0 := X0.trans E1
    replace BA := BA.ext E1
    replace BB := BB.ext E1
    replace BZ := BZ.ext E1
    clear E1
    have BA_ := BA
    have BB_ := BB
    have BZ_ := BZ
    obtain ⟨_, ⟨k0, k1, k2, k3⟩, _⟩ := BA_
    obtain ⟨_, ⟨m0, m1, m2, m3⟩, _⟩ := BB_
    obtain ⟨_, ⟨n0, n1, n2, n3⟩, f0, f1, f2, f3⟩ := BZ_
    go_wp2_with fail
    refine (cB _).mono ?_
    rintro e w2 ⟨rfl, E2⟩
    replace X0 := X0.trans E2
    replace BA := BA.ext E2
    replace BB := BB.ext E2
    replace BZ := BZ.ext E2
    clear E2
    clear k0 k1 k2 k3 m0 m1 m2 m3 n0 n1 n2 n3 f0 f1 f2 f3
    have BA_ := BA
    have BB_ := BB
    have BZ_ := BZ
    obtain ⟨_, ⟨k0, k1, k2, k3⟩, _⟩ := BA_
    obtain ⟨_, ⟨m0, m1, m2, m3⟩, _⟩ := BB_
    obtain ⟨_, ⟨n0, n1, n2, n3⟩, f0, f1, f2, f3⟩ := BZ_
    go_wp2_with fail
    refine (cM _).mono ?_
    rintro e w3 ⟨rfl, E3⟩
    have BM := blk_top rfl E3
    have E4 := ((Ext.refl _).alloc _).trans E3
    clear E3
    replace X0 := X0.trans E4
    replace BA := BA.ext E4
    replace BB := BB.ext E4
    replace BZ := BZ.ext E4
    clear E4
    clear k0 k1 k2 k3 m0 m1 m2 m3 n0 n1 n2 n3 f0 f1 f2 f3
    have BA_ := BA
    have BB_ := BB
    have BZ_ := BZ
    obtain ⟨_, ⟨k0, k1, k2, k3⟩, _⟩ := BA_
    obtain ⟨_, ⟨m0, m1, m2, m3⟩, _⟩ := BB_
    obtain ⟨_, ⟨n0, n1, n2, n3⟩, f0, f1, f2, f3⟩ := BZ_
    obtain ⟨_, ⟨o0, o1, o2, o3⟩, _⟩ := BM
    go_wp2_with fail
    exact fin4b false n0 n1 n2 n3 rfl (by omega) X0 (fun W g0 g1 g2 g3 => by simp [results, Tryd.results26, go_sem, g0, g1, g2, g3]) (fun W h => ⟨ret_ref (by rw [mt_no HM.out]; rfl) HM.out.symm, h⟩)
  · rw [hA] at zA HM0
    rw [hB] at zB HM0
    rw [hM] at zM HM0
    have HM : Hid (mtB p q u v p' q' u' v' = true) := HM0.out
    have zA' : (xA == 0) = false := zA
    have zB' : (xB == 0) = false := zB
    have zM' : (xM == 0) = false := zM
    clear zA zB zM HM0
    go_enter Tryd.func26, Tryd.ntmps26
    go_wp2_with fail
    rw [← hW0]
    clear hW0
    refine (cA _).mono ?_
    rintro e w1 ⟨rfl, E1⟩
    replace X0 := X0.trans E1
    replace BA := BA.ext E1
    replace BB := BB.ext E1
    replace BZ := BZ.ext E1
    clear E1
    have BA_ := BA
    have BB_ := BB
    have BZ_ := BZ
    obtain ⟨_, ⟨k0, k1, k2, k3⟩, _⟩ := BA_
    obtain ⟨_, ⟨m0, m1, m2, m3⟩, _⟩ := BB_
    obtain ⟨_, ⟨n0, n1, n2, n3⟩, f0, f1, f2, f3⟩ := BZ_
    go_wp2_with fail
    refine (cB _).mono ?_
    rintro e w2 ⟨rfl, E2⟩
    replace X0 := X0.trans E2
    replace BA := BA.ext E2
    replace BB := BB.ext E2
    replace BZ := BZ.ext E2
    clear E2
    clear k0 k1 k2 k3 m0 m1 m2 m3 n0 n1 n2 n3 f0 f1 f2 f3
    have BA_ := BA
    have BB_ := BB
    have BZ_ := BZ
    obtain ⟨_, ⟨k0, k1, k2, k3⟩, _⟩ := BA_
    obtain ⟨_, ⟨m0, m1, m2, m3⟩, _⟩ := BB_
    obtain ⟨_, ⟨n0, n1, n2, n3⟩, f0, f1, f2, f3⟩ := BZ_
    go_wp2_with fail
    refine (cM _).mono ?_
    rintro e w3 ⟨rfl, E3⟩
    have BM := blk_top rfl E3
    have E4 := ((Ext.refl _).alloc _).trans E3
    clear E3
    replace X0 := X0.trans E4
    replace BA := BA.ext E4
    replace BB := BB.ext E4
    replace BZ := BZ.ext E4
    clear E4
    clear k0 k1 k2 k3 m0 m1 m2 m3 n0 n1 n2 n3 f0 f1 f2 f3
    have BA_ := BA
    have BB_ := BB
    have BZ_ := BZ
    obtain ⟨_, ⟨k0, k1, k2, k3⟩, _⟩ := BA_
    obtain ⟨_, ⟨m0, m1, m2, m3⟩, _⟩ := BB_
    obtain ⟨_, ⟨n0, n1, n2, n3⟩, f0, f1, f2, f3⟩ := BZ_
    obtain ⟨_, ⟨o0, o1, o2, o3⟩, _⟩ := BM
    go_wp2_with fail
    exact fin4b true n0 n1 n2 n3 rfl (by omega) X0 (fun W g0 g1 g2 g3 => by simp [results, Tryd.results26, go_sem, g0, g1, g2, g3]) (fun W h => ⟨ret_ref (by rw [mt_yes HM.out]; rfl) HM.out.symm, h⟩)

set_option maxRecDepth 100000 in
theorem rmeet_any (p q u v p' q' u' v' : Int) (w : World) : Calls Tryd.prog 27 #[.agg #[.int .i64 p, .int .i64 q, .int .i64 u, .int .i64 v], .agg #[.int .i64 p', .int .i64 q', .int .i64 u', .int .i64 v']] w fun e w' => e = .returned (.tuple #[mtD p q u v p' q' u' v', .bool (mtB p q u v p' q' u' v')]) ∧ Ext w w' := by
  obtain ⟨W0, hW0⟩ : ∃ W0, W0 = ((w.alloc (.cells #[.int .i64 p, .int .i64 q, .int .i64 u, .int .i64 v] 35)).alloc (.cells #[.int .i64 p', .int .i64 q', .int .i64 u', .int .i64 v'] 35)).alloc (.cells #[.int .i64 0, .int .i64 0, .int .i64 0, .int .i64 0] 35) := ⟨_, rfl⟩
  obtain ⟨X0, BA, BB, BZ⟩ := three hW0
  have cA := fun W => rcan6_any p q u v W
  have cB := fun W => rcan6_any p' q' u' v' W
  have HM0 : Hid (mtB p q u v p' q' u' v' = (canR p q u v && canR p' q' u' v' && canR (mxI p p') (mxI q q') (mnI u u') (mnI v v'))) := rfl
  cases hA : canR p q u v
  · rw [hA] at cA HM0
    have HM : Hid (mtB p q u v p' q' u' v' = false) := HM0.out
    go_enter Tryd.func27, Tryd.ntmps27
    go_wp2_with fail
    rw [← hW0]
    clear hW0
    refine (cA _).mono ?_
    rintro e w1 ⟨rfl, E1⟩
    replace X0 := X0.trans E1
    replace BA := BA.ext E1
    replace BB := BB.ext E1
    replace BZ := BZ.ext E1
    clear E1
    have BA_ := BA
    have BB_ := BB
    have BZ_ := BZ
    obtain ⟨_, ⟨k0, k1, k2, k3⟩, _⟩ := BA_
    obtain ⟨_, ⟨m0, m1, m2, m3⟩, _⟩ := BB_
    obtain ⟨_, ⟨n0, n1, n2, n3⟩, f0, f1, f2, f3⟩ := BZ_
    go_wp2_with fail
    exact fin4b false n0 n1 n2 n3 rfl (by omega) X0 (fun W g0 g1 g2 g3 => by simp [results, Tryd.results27, go_sem, g0, g1, g2, g3]) (fun W h => ⟨ret_ref (by rw [mt_no HM.out]; rfl) HM.out.symm, h⟩)
  cases hB : canR p' q' u' v'
  · rw [hA] at cA HM0
    rw [hB] at cB HM0
    have HM : Hid (mtB p q u v p' q' u' v' = false) := HM0.out
    go_enter Tryd.func27, Tryd.ntmps27
    go_wp2_with fail
    rw [← hW0]
    clear hW0
    refine (cA _).mono ?_
    rintro e w1 ⟨rfl, E1⟩
    replace X0 := X0.trans E1
    replace BA := BA.ext E1
    replace BB := BB.ext E1
    replace BZ := BZ.ext E1
    clear E1
    have BA_ := BA
    have BB_ := BB
    have BZ_ := BZ
    obtain ⟨_, ⟨k0, k1, k2, k3⟩, _⟩ := BA_
    obtain ⟨_, ⟨m0, m1, m2, m3⟩, _⟩ := BB_
    obtain ⟨_, ⟨n0, n1, n2, n3⟩, f0, f1, f2, f3⟩ := BZ_
    go_wp2_with fail
    refine (cB _).mono ?_
    rintro e w2 ⟨rfl, E2⟩
    replace X0 := X0.trans E2
    replace BA := BA.ext E2
    replace BB := BB.ext E2
    replace BZ := BZ.ext E2
    clear E2
    clear k0 k1 k2 k3 m0 m1 m2 m3 n0 n1 n2 n3 f0 f1 f2 f3
    have BA_ := BA
    have BB_ := BB
    have BZ_ := BZ
    obtain ⟨_, ⟨k0, k1, k2, k3⟩, _⟩ := BA_
    obtain ⟨_, ⟨m0, m1, m2, m3⟩, _⟩ := BB_
    obtain ⟨_, ⟨n0, n1, n2, n3⟩, f0, f1, f2, f3⟩ := BZ_
    go_wp2_with fail
    exact fin4b false n0 n1 n2 n3 rfl (by omega) X0 (fun W g0 g1 g2 g3 => by simp [results, Tryd.results27, go_sem, g0, g1, g2, g3]) (fun W h => ⟨ret_ref (by rw [mt_no HM.out]; rfl) HM.out.symm, h⟩)
  have HMR : Hid (mtB p q u v p' q' u' v' = (decide (p ≤ u') && decide (p' ≤ u) && decide (q ≤ v') && decide (q' ≤ v))) := mt_ref p q u v p' q' u' v' hA hB
  rw [hA] at cA
  rw [hB] at cB
  clear HM0 hA hB
  cases g1 : decide (p ≤ u') <;> cases g2 : decide (p' ≤ u) <;> cases g3 : decide (q ≤ v') <;> cases g4 : decide (q' ≤ v)
  all_goals rw [g1, g2, g3, g4] at HMR
  case true.true.true.true =>
    have HM : Hid (mtB p q u v p' q' u' v' = true) := HMR.out
    have i1 := of_decide_eq_true g1
    have i2 := of_decide_eq_true g2
    have i3 := of_decide_eq_true g3
    have i4 := of_decide_eq_true g4
    clear HMR g1 g2 g3 g4
    have cL := fun a b W => least_any a b W
    have cG := fun a b W => great_any a b W
    have mkS : Hid (∀ W, Three w (.int .i64 p) (.int .i64 q) (.int .i64 u) (.int .i64 v) (.int .i64 p') (.int .i64 q') (.int .i64 u') (.int .i64 v') W → (W.cell? ⟨w.heap.size, 0, none⟩ = some (.int .i64 p) ∧ W.cell? ⟨w.heap.size, 1, none⟩ = some (.int .i64 q) ∧ W.cell? ⟨w.heap.size, 2, none⟩ = some (.int .i64 u) ∧ W.cell? ⟨w.heap.size, 3, none⟩ = some (.int .i64 v) ∧ W.cell? ⟨w.heap.size + 1, 0, none⟩ = some (.int .i64 p') ∧ W.cell? ⟨w.heap.size + 1, 1, none⟩ = some (.int .i64 q') ∧ W.cell? ⟨w.heap.size + 1, 2, none⟩ = some (.int .i64 u') ∧ W.cell? ⟨w.heap.size + 1, 3, none⟩ = some (.int .i64 v')) ∧ Three w (.int .i64 p) (.int .i64 q) (.int .i64 u) (.int .i64 v) (.int .i64 p') (.int .i64 q') (.int .i64 u') (.int .i64 v') W) := by
      intro W hW
      have hW' := hW
      obtain ⟨_, ⟨_, ⟨i0, i1, i2, i3⟩, _⟩, ⟨_, ⟨j0, j1, j2, j3⟩, _⟩, _⟩ := hW
      exact ⟨⟨i0, i1, i2, i3, j0, j1, j2, j3⟩, hW'⟩
    go_enter Tryd.func27, Tryd.ntmps27
    go_wp2_with fail
    rw [← hW0]
    clear hW0
    refine (cA _).mono ?_
    rintro e w1 ⟨rfl, E1⟩
    replace X0 := X0.trans E1
    replace BA := BA.ext E1
    replace BB := BB.ext E1
    replace BZ := BZ.ext E1
    clear E1
    have BA_ := BA
    have BB_ := BB
    have BZ_ := BZ
    obtain ⟨_, ⟨k0, k1, k2, k3⟩, _⟩ := BA_
    obtain ⟨_, ⟨m0, m1, m2, m3⟩, _⟩ := BB_
    obtain ⟨_, ⟨n0, n1, n2, n3⟩, f0, f1, f2, f3⟩ := BZ_
    go_wp2_with fail
    refine (cB _).mono ?_
    rintro e w2 ⟨rfl, E2⟩
    replace X0 := X0.trans E2
    replace BA := BA.ext E2
    replace BB := BB.ext E2
    replace BZ := BZ.ext E2
    clear E2
    clear k0 k1 k2 k3 m0 m1 m2 m3 n0 n1 n2 n3 f0 f1 f2 f3
    have BA_ := BA
    have BB_ := BB
    have BZ_ := BZ
    obtain ⟨_, ⟨k0, k1, k2, k3⟩, _⟩ := BA_
    obtain ⟨_, ⟨m0, m1, m2, m3⟩, _⟩ := BB_
    obtain ⟨_, ⟨n0, n1, n2, n3⟩, f0, f1, f2, f3⟩ := BZ_
    go_wp2_with fail
    have hTH : Three w (.int .i64 p) (.int .i64 q) (.int .i64 u) (.int .i64 v) (.int .i64 p') (.int .i64 q') (.int .i64 u') (.int .i64 v') w2 := ⟨X0, BA, BB, _, _, _, _, BZ⟩
    clear k0 k1 k2 k3 m0 m1 m2 m3
    go_region_held3 (fun W => (W.cell? ⟨w.heap.size, 0, none⟩ = some (.int .i64 p) ∧ W.cell? ⟨w.heap.size, 1, none⟩ = some (.int .i64 q) ∧ W.cell? ⟨w.heap.size, 2, none⟩ = some (.int .i64 u) ∧ W.cell? ⟨w.heap.size, 3, none⟩ = some (.int .i64 v) ∧ W.cell? ⟨w.heap.size + 1, 0, none⟩ = some (.int .i64 p') ∧ W.cell? ⟨w.heap.size + 1, 1, none⟩ = some (.int .i64 q') ∧ W.cell? ⟨w.heap.size + 1, 2, none⟩ = some (.int .i64 u') ∧ W.cell? ⟨w.heap.size + 1, 3, none⟩ = some (.int .i64 v')) ∧ Three w (.int .i64 p) (.int .i64 q) (.int .i64 u) (.int .i64 v) (.int .i64 p') (.int .i64 q') (.int .i64 u') (.int .i64 v') W)
      ((refine mkS.out _ ?_; with_reducible (repeat (first | assumption | apply Three.drew | apply Three.drewN | apply Three.put)); done))
      (first | (go_at_call 35; refine Calls.mono (cL _ _ _) ?_; rintro e y1 ⟨rfl, rfl⟩) | (go_at_call 36; refine Calls.mono (cG _ _ _) ?_; rintro e y1 ⟨rfl, rfl⟩))
    all_goals
      go_wp2_with fail
      exact finBb true (BZ.set _ _ _ _).dr rfl (((((X0.setCell (by simp; omega) _).setCell (by simp; omega) _).setCell (by simp; omega) _).setCell (by simp; omega) _).drew) (fun g0 g1 g2 g3 => by simp [results, Tryd.results27, go_sem, g0, g1, g2, g3]) (fun h => ⟨ret_ref (by rw [mt_yes HM.out]; rfl) HM.out.symm, h⟩)
  all_goals
    have HM : Hid (mtB p q u v p' q' u' v' = false) := HMR.out
    have i1 := g1
    have i2 := g2
    have i3 := g3
    have i4 := g4
    simp only [decide_eq_true_eq, decide_eq_false_iff_not] at i1 i2 i3 i4
    clear HMR g1 g2 g3 g4
    go_enter Tryd.func27, Tryd.ntmps27
    go_wp2_with fail
    rw [← hW0]
    clear hW0
    refine (cA _).mono ?_
    rintro e w1 ⟨rfl, E1⟩
    replace X0 := X0.trans E1
    replace BA := BA.ext E1
    replace BB := BB.ext E1
    replace BZ := BZ.ext E1
    clear E1
    have BA_ := BA
    have BB_ := BB
    have BZ_ := BZ
    obtain ⟨_, ⟨k0, k1, k2, k3⟩, _⟩ := BA_
    obtain ⟨_, ⟨m0, m1, m2, m3⟩, _⟩ := BB_
    obtain ⟨_, ⟨n0, n1, n2, n3⟩, f0, f1, f2, f3⟩ := BZ_
    go_wp2_with fail
    refine (cB _).mono ?_
    rintro e w2 ⟨rfl, E2⟩
    replace X0 := X0.trans E2
    replace BA := BA.ext E2
    replace BB := BB.ext E2
    replace BZ := BZ.ext E2
    clear E2
    clear k0 k1 k2 k3 m0 m1 m2 m3 n0 n1 n2 n3 f0 f1 f2 f3
    have BA_ := BA
    have BB_ := BB
    have BZ_ := BZ
    obtain ⟨_, ⟨k0, k1, k2, k3⟩, _⟩ := BA_
    obtain ⟨_, ⟨m0, m1, m2, m3⟩, _⟩ := BB_
    obtain ⟨_, ⟨n0, n1, n2, n3⟩, f0, f1, f2, f3⟩ := BZ_
    go_wp2_with fail
    exact fin4b false n0 n1 n2 n3 rfl (by omega) X0 (fun W g0 g1 g2 g3 => by simp [results, Tryd.results27, go_sem, g0, g1, g2, g3]) (fun W h => ⟨ret_ref (by rw [mt_no HM.out]; rfl) HM.out.symm, h⟩)
end Go.Proofs.YtdklhgfkaablbaaDoor
