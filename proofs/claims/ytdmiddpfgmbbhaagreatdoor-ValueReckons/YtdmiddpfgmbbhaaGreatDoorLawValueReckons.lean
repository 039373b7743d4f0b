/-
  ValueReckons is proved: for every operator and any two values the call returns true and the arguments read as they did. Its condition: the listed tables and the errors' names lie as the program's text lays them (the card ties them).
-/
import Derived.Test.YtdmiddpfgmbbhaaGreatDoorValO
import Derived.Test.YtdmiddpfgmbbhaaGreatDoorValQ
import Derived.Test.YtdmiddpfgmbbhaaGreatDoorBar2
import Derived.Test.YtdmiddpfgmbbhaaGreatDoorLaid4R
import Derived.Test.YtdmiddpfgmbbhaaGreatDoorCards
import Derived.Test.YtdmiddpfgmbbhaaGreatDoorTie
import Derived.ChangeMaps5
import Derived.Lib.SmallJoins
namespace Go.Proofs.YtdmiddpfgmbbhaaGreatDoor.valueReckons
open Go.ChangeShapes Go.WideShapes Go.ChangeAt Go.RowKit
open Go.ChangeMaps (open_string shut_string)
open Go.Joins
set_option maxHeartbeats 1000000

theorem _root_.Go.Proofs.YtdmiddpfgmbbhaaGreatDoor.Blk.newE {w : World} {x0 x1 x2 x3 : Value} {T : TypeId} {b : Nat} (hb : b = w.heap.size) : Blk (w.alloc (.cells #[x0, x1, x2, x3] T)) b x0 x1 x2 x3 := blk_top hb (Ext.refl _)
theorem ne_name (e : Int) (h : 1 ≤ e ∧ e ≤ 5) : (bs (errName e)).toList.isEmpty = false := by
  have hh : e = 1 ∨ e = 2 ∨ e = 3 ∨ e = 4 ∨ e = 5 := by omega
  rw [ByteArray.toList_eq]
  rcases hh with rfl | rfl | rfl | rfl | rfl <;> decide
theorem join_a {a : V} (b : V) (h : a.k = 4) : join a b = a := by
  cases a <;> first | (simp [V.k] at h; done) | skip
  unfold join
  show join2 (.err _) _ = _
  cases b.toText <;> rfl
theorem join_b {a b : V} (ha : a.ok) (g : a.k ≠ 4) (h : b.k = 4) : join a b = b := by
  cases b <;> first | (simp [V.k] at h; done) | skip
  unfold join
  rcases toText_cases a ha with ⟨s, hs, _⟩ | ⟨e, hs, _⟩
  · rw [hs]; rfl
  · exfalso
    cases a <;> first | (cases hs; done) | (exact g rfl)
set_option maxRecDepth 100000 in
set_option maxHeartbeats 8000000 in
theorem walk (op ka na : Int) (sa : ByteArray) (ea kb nb : Int) (sb : ByteArray) (eb : Int) (_ : (Lit.int .u8 op).wf = true) (_ : (Lit.int .i64 ka).wf = true) (wna : (Lit.int .i64 na).wf = true) (_ : sa.size ≤ maxLen) (_ : (Lit.int .i64 ea).wf = true) (_ : (Lit.int .i64 kb).wf = true) (wnb : (Lit.int .i64 nb).wf = true) (_ : sb.size ≤ maxLen) (_ : (Lit.int .i64 eb).wf = true) (w : World) (hN : Nm w) (hT : Tab w) :
    Calls Tryz.prog 3 #[.int .u8 op, .agg #[.int .i64 ka, .int .i64 na, .string sa, .int .i64 ea], .agg #[.int .i64 kb, .int .i64 nb, .string sb, .int .i64 eb]] w fun e w' => e = .returned (.bool true) ∧ Ext w w' := by
  have hna := i64_of_wf wna
  have hnb := i64_of_wf wnb
  have c1 := fun W h => arith_any op ka na sa ea kb nb sb eb W hna hnb h
  have c2 := fun W => rarith_any op ka na sa ea kb nb sb eb W hna hnb
  have c3 := fun W h t => vjoin_any ka na sa ea kb nb sb eb W hna hnb h t
  have c4 := fun W => rjoin_any ka na sa ea kb nb sb eb W hna hnb
  have d1 := fun W => rnormal_any ka na sa ea W
  have d2 := fun W => rnormal_any kb nb sb eb W
  have o1 := nm_ok ka na sa ea hna
  have o2 := nm_ok kb nb sb eb hnb
  generalize nm ka na sa ea = a at *
  generalize nm kb nb sb eb = b at *
  have HA : Hid (a.k = 4 → (join a b).k = 4 ∧ (join a b).n = a.n ∧ (join a b).s = a.s ∧ (join a b).e = a.e ∧ 1 ≤ a.e ∧ a.e ≤ 5) := by
    show _ → _
    intro h
    rw [join_a b h]
    cases a <;> first | (simp [V.k] at h; done) | skip
    exact ⟨rfl, rfl, rfl, rfl, o1⟩
  have HB : Hid (a.k ≠ 4 → b.k = 4 → (join a b).k = 4 ∧ (join a b).n = b.n ∧ (join a b).s = b.s ∧ (join a b).e = b.e) := by
    show _ → _ → _
    intro g h
    rw [join_b o1 g h]
    exact ⟨h, rfl, rfl, rfl⟩
  clear o1 o2 hna hnb wna wnb
  generalize join a b = j at *
  rw [dat_eq] at c3 c4 d1 d2
  obtain ⟨u0, u1, u2, u3, hu⟩ := dat4 (arith op a b)
  rw [hu] at c1 c2
  clear hu
  generalize a.k = pk at *
  generalize a.n = pn at *
  generalize a.s = ps at *
  generalize a.e = pe at *
  generalize b.k = qk at *
  generalize b.n = qn at *
  generalize b.s = qs at *
  generalize b.e = qe at *
  generalize j.k = jk at *
  generalize j.n = jn at *
  generalize j.s = js at *
  generalize j.e = je at *
  clear a b
  have cl := fun W h => lives_v W h
  go_enter Tryz.func3, Tryz.ntmps3
  go_wp2_with fail
  refine (c1 _ (hN.ext (((Ext.refl _).alloc _).alloc _))).mono ?_
  rintro r w1 ⟨rfl, E1⟩
  clear c1
  go_upto_region 2 with fail
  obtain ⟨W0, hW0⟩ : ∃ W0, W0 = w1.alloc (.cells #[.int .i64 u0, .int .i64 u1, .string u2, .int .i64 u3] 23) := ⟨_, rfl⟩
  rw [← hW0]
  have XW : Ext w W0 := by rw [hW0]; exact ((((Ext.refl _).alloc _).alloc _).trans E1).alloc _
  have NV : Blk W0 w1.heap.size (.int .i64 u0) (.int .i64 u1) (.string u2) (.int .i64 u3) := blk_top rfl (by rw [hW0]; exact Ext.refl _)
  have NA : Blk W0 (w.heap.size) (.int .i64 ka) (.int .i64 na) (.string sa) (.int .i64 ea) := by rw [hW0]; exact (blk_top rfl (((Ext.refl _).alloc _).trans E1)).al _
  have NB : Blk W0 (w.heap.size + 1) (.int .i64 kb) (.int .i64 nb) (.string sb) (.int .i64 eb) := by rw [hW0]; exact (blk_top (by simp) E1).al _
  clear hW0 E1
  generalize w1.heap.size = vb at *
  have mkS : Hid (∀ W, Ext W0 W → (W.cell? ⟨vb, 0, none⟩ = some (.int .i64 u0) ∧ W.cell? ⟨vb, 1, none⟩ = some (.int .i64 u1) ∧ W.cell? ⟨vb, 2, none⟩ = some (.string u2) ∧ W.cell? ⟨vb, 3, none⟩ = some (.int .i64 u3)) ∧ (W.cell? ⟨w.heap.size, 0, none⟩ = some (.int .i64 ka) ∧ W.cell? ⟨w.heap.size, 1, none⟩ = some (.int .i64 na) ∧ W.cell? ⟨w.heap.size, 2, none⟩ = some (.string sa) ∧ W.cell? ⟨w.heap.size, 3, none⟩ = some (.int .i64 ea)) ∧ (W.cell? ⟨w.heap.size + 1, 0, none⟩ = some (.int .i64 kb) ∧ W.cell? ⟨w.heap.size + 1, 1, none⟩ = some (.int .i64 nb) ∧ W.cell? ⟨w.heap.size + 1, 2, none⟩ = some (.string sb) ∧ W.cell? ⟨w.heap.size + 1, 3, none⟩ = some (.int .i64 eb)) ∧ Ext W0 W) := by
    show ∀ W, _
    intro W h
    exact ⟨(NV.ext h).2.1, (NA.ext h).2.1, (NB.ext h).2.1, h⟩
  have NAB : Hid (∀ W, Ext W0 W → Blk W (w.heap.size) (.int .i64 ka) (.int .i64 na) (.string sa) (.int .i64 ea) ∧ Blk W (w.heap.size + 1) (.int .i64 kb) (.int .i64 nb) (.string sb) (.int .i64 eb)) := fun W h => ⟨NA.ext h, NB.ext h⟩
  clear NV NA NB
  have g2 := fun W (_ : Ext W0 W) => c2 W
  have g3 := fun W (g : Ext W0 W) => c3 W (hN.ext (XW.trans g)) (hT.ext (XW.trans g))
  have g4 := fun W (_ : Ext W0 W) => c4 W
  clear c2 c4
  go_region_held3 (fun W => (W.cell? ⟨vb, 0, none⟩ = some (.int .i64 u0) ∧ W.cell? ⟨vb, 1, none⟩ = some (.int .i64 u1) ∧ W.cell? ⟨vb, 2, none⟩ = some (.string u2) ∧ W.cell? ⟨vb, 3, none⟩ = some (.int .i64 u3)) ∧ (W.cell? ⟨w.heap.size, 0, none⟩ = some (.int .i64 ka) ∧ W.cell? ⟨w.heap.size, 1, none⟩ = some (.int .i64 na) ∧ W.cell? ⟨w.heap.size, 2, none⟩ = some (.string sa) ∧ W.cell? ⟨w.heap.size, 3, none⟩ = some (.int .i64 ea)) ∧ (W.cell? ⟨w.heap.size + 1, 0, none⟩ = some (.int .i64 kb) ∧ W.cell? ⟨w.heap.size + 1, 1, none⟩ = some (.int .i64 nb) ∧ W.cell? ⟨w.heap.size + 1, 2, none⟩ = some (.string sb) ∧ W.cell? ⟨w.heap.size + 1, 3, none⟩ = some (.int .i64 eb)) ∧ Ext W0 W)
    ((refine mkS.out _ ?_; ((with_reducible (repeat (first | assumption | exact Ext.refl _ | apply Ext.alloc | apply Ext.drew | apply Ext.drewN))); done)))
    (first | (go_at_call 5; refine Calls.mono (g2 _ ?hh) ?_; (case hh => ((with_reducible (repeat (first | assumption | exact Ext.refl _ | apply Ext.alloc | apply Ext.drew | apply Ext.drewN))); done)); rintro e y2 ⟨rfl, Ey2⟩; have Zy2 : Ext W0 y2 := Ext.trans (by ((with_reducible (repeat (first | assumption | exact Ext.refl _ | apply Ext.alloc | apply Ext.drew | apply Ext.drewN))); done)) Ey2) | (go_at_call 6; refine Calls.mono (g3 _ ?hh) ?_; (case hh => ((with_reducible (repeat (first | assumption | exact Ext.refl _ | apply Ext.alloc | apply Ext.drew | apply Ext.drewN))); done)); rintro e y3 ⟨rfl, Ey3⟩; have Zy3 : Ext W0 y3 := Ext.trans (by ((with_reducible (repeat (first | assumption | exact Ext.refl _ | apply Ext.alloc | apply Ext.drew | apply Ext.drewN))); done)) Ey3) | (go_at_call 7; refine Calls.mono (g4 _ ?hh) ?_; (case hh => ((with_reducible (repeat (first | assumption | exact Ext.refl _ | apply Ext.alloc | apply Ext.drew | apply Ext.drewN))); done)); rintro e y4 ⟨rfl, Ey4⟩; have Zy4 : Ext W0 y4 := Ext.trans (by ((with_reducible (repeat (first | assumption | exact Ext.refl _ | apply Ext.alloc | apply Ext.drew | apply Ext.drewN))); done)) Ey4))
  clear g2 g3 g4 mkS
  go_upto_region 4 with fail
  obtain ⟨PA, PB⟩ := NAB.out y4 Zy4
  have XY : Ext w y4 := XW.trans Zy4
  clear NAB XW Zy4
  generalize hW1 : y4 = W1 at *
  clear hW1
  go_cut [8, 9] (fun px py wx => ∃ bx bY : Nat, px = .pointer (some ⟨bx, 0, none⟩) ∧ py = .pointer (some ⟨bY, 0, none⟩) ∧ Blk wx bx (.int .i64 pk) (.int .i64 pn) (.string ps) (.int .i64 pe) ∧ Blk wx bY (.int .i64 qk) (.int .i64 qn) (.string qs) (.int .i64 qe) ∧ Ext W1 wx)
  case first =>
    clear cl c3 HA HB hN hT XY
    have mkS : Hid (∀ W, Ext W1 W → (W.cell? ⟨w.heap.size, 0, none⟩ = some (.int .i64 ka) ∧ W.cell? ⟨w.heap.size, 1, none⟩ = some (.int .i64 na) ∧ W.cell? ⟨w.heap.size, 2, none⟩ = some (.string sa) ∧ W.cell? ⟨w.heap.size, 3, none⟩ = some (.int .i64 ea)) ∧ (W.cell? ⟨w.heap.size + 1, 0, none⟩ = some (.int .i64 kb) ∧ W.cell? ⟨w.heap.size + 1, 1, none⟩ = some (.int .i64 nb) ∧ W.cell? ⟨w.heap.size + 1, 2, none⟩ = some (.string sb) ∧ W.cell? ⟨w.heap.size + 1, 3, none⟩ = some (.int .i64 eb)) ∧ Ext W1 W) := by
      show ∀ W, _
      intro W h
      exact ⟨(PA.ext h).2.1, (PB.ext h).2.1, h⟩
    clear PA PB
    refine bar_begin (B := fun i => i == 6 || i == 7) (S := fun W => (W.cell? ⟨w.heap.size, 0, none⟩ = some (.int .i64 ka) ∧ W.cell? ⟨w.heap.size, 1, none⟩ = some (.int .i64 na) ∧ W.cell? ⟨w.heap.size, 2, none⟩ = some (.string sa) ∧ W.cell? ⟨w.heap.size, 3, none⟩ = some (.int .i64 ea)) ∧ (W.cell? ⟨w.heap.size + 1, 0, none⟩ = some (.int .i64 kb) ∧ W.cell? ⟨w.heap.size + 1, 1, none⟩ = some (.int .i64 nb) ∧ W.cell? ⟨w.heap.size + 1, 2, none⟩ = some (.string sb) ∧ W.cell? ⟨w.heap.size + 1, 3, none⟩ = some (.int .i64 eb)) ∧ Ext W1 W) (by kernel_rfl) ?_
    have hS0 := mkS.out (World.drew W1) (Ext.refl _).drew
    refine bar_take (i := 0) (v := ?v0) rfl (by kernel_rfl) (by kernel_rfl) (by kernel_rfl) (by kernel_rfl) (fun _ _ _ h => h) (Or.inl ⟨by rfl, ?hy0⟩) hS0 ?rest0
    case hy0 => (intro W hSW; (try dsimp only at hSW); go_simp; with_reducible rfl)
    simp only [Act.put, List.setIfInBounds_toArray]
    refine bar_take (i := 2) (v := ?v2) rfl (by kernel_rfl) (by kernel_rfl) (by kernel_rfl) (by kernel_rfl) (fun _ _ _ h => h) (Or.inl ⟨by rfl, ?hy2⟩) hS0 ?rest2
    case hy2 => (intro W hSW; (try dsimp only at hSW); go_simp; with_reducible rfl)
    simp only [Act.put]
    clear hS0
    refine bar_list (rs := [1, 4, 5]) (by kernel_rfl) (by simp) ?_
    refine Bars.cons rfl (fun KK hKK => ?_) ?_
    · go_simp
      go_wp2_with (go_at_call 8; refine Calls.mono (d1 _) ?_; rintro e y5 ⟨rfl, Ey5⟩)
      have Ty5 : Ext W1 y5 := Ext.trans (Ext.refl _).drew Ey5
      have Zy5 : Ext W1 y5 := Ty5
      have ty5 := Zy5.sz
      refine hKK.out _ _ (fun _ => mkS.out _ Zy5) ?_
      clear hKK KK
      refine bar_list (rs := [3, 4, 5]) (by kernel_rfl) (by simp) ?_
      refine Bars.cons rfl (fun KK hKK => ?_) ?_
      · go_simp
        go_wp2_with (go_at_call 8; refine Calls.mono (d2 _) ?_; rintro e y6 ⟨rfl, Ey6⟩)
        have Ty6 : Ext y5 y6 := Ext.trans (Ext.refl _) Ey6
        have Zy6 : Ext W1 y6 := Zy5.trans Ty6
        have ty6 := Zy6.sz
        refine hKK.out _ _ (fun _ => mkS.out _ Zy6) ?_
        clear hKK KK
        refine bar_list (rs := [4, 5]) (by kernel_rfl) (by simp) ?_
        refine Bars.cons rfl (fun KK hKK => ?_) ?_
        · go_simp
          refine hKK.out _ _ (fun _ => mkS.out _ (by ((with_reducible (repeat' (first | assumption | exact Ext.refl _ | apply Ext.alloc | apply Ext.drew | apply Ext.drewN | apply Ext.setCell))); all_goals (first | omega | (simp; done) | (simp; omega))))) ?_
          clear hKK KK
          refine bar_list (rs := [5]) (by kernel_rfl) (by simp) ?_
          refine Bars.cons rfl (fun KK hKK => ?_) ?_
          · go_simp
            refine hKK.out _ _ (fun _ => mkS.out _ (by ((with_reducible (repeat' (first | assumption | exact Ext.refl _ | apply Ext.alloc | apply Ext.drew | apply Ext.drewN | apply Ext.setCell))); all_goals (first | omega | (simp; done) | (simp; omega))))) ?_
            clear hKK KK
            refine bar_one (i := 6) (by kernel_rfl) rfl (fun KK hKK => ?_)
            go_simp
            refine hKK.out _ _ (fun h => absurd h (by decide)) ?_
            clear hKK KK
            refine bar_one (i := 7) (by kernel_rfl) rfl (fun KK hKK => ?_)
            go_simp
            refine hKK.out _ _ (fun h => absurd h (by decide)) ?_
            clear hKK KK
            refine bar_done (by kernel_rfl) ?_ _
            go_wp2_with fail
            go_meet
            case rel =>
              refine ⟨_, _, rfl, rfl, ?_, ?_, ?_⟩
              · ((with_reducible (repeat' (first | assumption | apply Blk.set | (apply Blk.newE; (simp; done)) | apply Blk.far | apply Blk.al | apply Blk.dr))); all_goals (first | omega | (simp; done) | (simp; omega)))
              · ((with_reducible (repeat' (first | assumption | apply Blk.set | (apply Blk.newE; (simp; done)) | apply Blk.far | apply Blk.al | apply Blk.dr))); all_goals (first | omega | (simp; done) | (simp; omega)))
              · ((with_reducible (repeat' (first | assumption | exact Ext.refl _ | apply Ext.alloc | apply Ext.drew | apply Ext.drewN | apply Ext.setCell))); all_goals (first | omega | (simp; done) | (simp; omega)))
          · exact Bars.nil
        · refine Bars.cons rfl (fun KK hKK => ?_) ?_
          · go_simp
            refine hKK.out _ _ (fun _ => mkS.out _ (by ((with_reducible (repeat' (first | assumption | exact Ext.refl _ | apply Ext.alloc | apply Ext.drew | apply Ext.drewN | apply Ext.setCell))); all_goals (first | omega | (simp; done) | (simp; omega))))) ?_
            clear hKK KK
            refine bar_list (rs := [4]) (by kernel_rfl) (by simp) ?_
            refine Bars.cons rfl (fun KK hKK => ?_) ?_
            · go_simp
              refine hKK.out _ _ (fun _ => mkS.out _ (by ((with_reducible (repeat' (first | assumption | exact Ext.refl _ | apply Ext.alloc | apply Ext.drew | apply Ext.drewN | apply Ext.setCell))); all_goals (first | omega | (simp; done) | (simp; omega))))) ?_
              clear hKK KK
              refine bar_one (i := 6) (by kernel_rfl) rfl (fun KK hKK => ?_)
              go_simp
              refine hKK.out _ _ (fun h => absurd h (by decide)) ?_
              clear hKK KK
              refine bar_one (i := 7) (by kernel_rfl) rfl (fun KK hKK => ?_)
              go_simp
              refine hKK.out _ _ (fun h => absurd h (by decide)) ?_
              clear hKK KK
              refine bar_done (by kernel_rfl) ?_ _
              go_wp2_with fail
              go_meet
              case rel =>
                refine ⟨_, _, rfl, rfl, ?_, ?_, ?_⟩
                · ((with_reducible (repeat' (first | assumption | apply Blk.set | (apply Blk.newE; (simp; done)) | apply Blk.far | apply Blk.al | apply Blk.dr))); all_goals (first | omega | (simp; done) | (simp; omega)))
                · ((with_reducible (repeat' (first | assumption | apply Blk.set | (apply Blk.newE; (simp; done)) | apply Blk.far | apply Blk.al | apply Blk.dr))); all_goals (first | omega | (simp; done) | (simp; omega)))
                · ((with_reducible (repeat' (first | assumption | exact Ext.refl _ | apply Ext.alloc | apply Ext.drew | apply Ext.drewN | apply Ext.setCell))); all_goals (first | omega | (simp; done) | (simp; omega)))
            · exact Bars.nil
          · exact Bars.nil
      · refine Bars.cons rfl (fun KK hKK => ?_) ?_
        · go_simp
          refine hKK.out _ _ (fun _ => mkS.out _ (by ((with_reducible (repeat' (first | assumption | exact Ext.refl _ | apply Ext.alloc | apply Ext.drew | apply Ext.drewN | apply Ext.setCell))); all_goals (first | omega | (simp; done) | (simp; omega))))) ?_
          clear hKK KK
          refine bar_list (rs := [3, 5]) (by kernel_rfl) (by simp) ?_
          refine Bars.cons rfl (fun KK hKK => ?_) ?_
          · go_simp
            go_wp2_with (go_at_call 8; refine Calls.mono (d2 _) ?_; rintro e y6 ⟨rfl, Ey6⟩)
            have Ty6 : Ext y5 y6 := Ext.trans ((Ext.refl _).alloc _) Ey6
            have Zy6 : Ext W1 y6 := Zy5.trans Ty6
            have ty6 := Zy6.sz
            have Ky60 := blk_top (b := y5.heap.size) (by simp) Ey6
            refine hKK.out _ _ (fun _ => mkS.out _ Zy6) ?_
            clear hKK KK
            refine bar_list (rs := [5]) (by kernel_rfl) (by simp) ?_
            refine Bars.cons rfl (fun KK hKK => ?_) ?_
            · go_simp
              refine hKK.out _ _ (fun _ => mkS.out _ (by ((with_reducible (repeat' (first | assumption | exact Ext.refl _ | apply Ext.alloc | apply Ext.drew | apply Ext.drewN | apply Ext.setCell))); all_goals (first | omega | (simp; done) | (simp; omega))))) ?_
              clear hKK KK
              have D0 := Ky60
              obtain ⟨q0z, ⟨q0_0, q0_1, q0_2, q0_3⟩, q0f0, q0f1, q0f2, q0f3⟩ := D0
              refine bar_one (i := 6) (by kernel_rfl) rfl (fun KK hKK => ?_)
              go_simp
              refine hKK.out _ _ (fun h => absurd h (by decide)) ?_
              clear hKK KK
              refine bar_one (i := 7) (by kernel_rfl) rfl (fun KK hKK => ?_)
              go_simp
              refine hKK.out _ _ (fun h => absurd h (by decide)) ?_
              clear hKK KK
              refine bar_done (by kernel_rfl) ?_ _
              go_wp2_with fail
              go_meet
              case rel =>
                refine ⟨_, _, rfl, rfl, ?_, ?_, ?_⟩
                · ((with_reducible (repeat' (first | assumption | apply Blk.set | (apply Blk.newE; (simp; done)) | apply Blk.far | apply Blk.al | apply Blk.dr))); all_goals (first | omega | (simp; done) | (simp; omega)))
                · ((with_reducible (repeat' (first | assumption | apply Blk.set | (apply Blk.newE; (simp; done)) | apply Blk.far | apply Blk.al | apply Blk.dr))); all_goals (first | omega | (simp; done) | (simp; omega)))
                · ((with_reducible (repeat' (first | assumption | exact Ext.refl _ | apply Ext.alloc | apply Ext.drew | apply Ext.drewN | apply Ext.setCell))); all_goals (first | omega | (simp; done) | (simp; omega)))
            · exact Bars.nil
          · refine Bars.cons rfl (fun KK hKK => ?_) ?_
            · go_simp
              refine hKK.out _ _ (fun _ => mkS.out _ (by ((with_reducible (repeat' (first | assumption | exact Ext.refl _ | apply Ext.alloc | apply Ext.drew | apply Ext.drewN | apply Ext.setCell))); all_goals (first | omega | (simp; done) | (simp; omega))))) ?_
              clear hKK KK
              refine bar_list (rs := [3]) (by kernel_rfl) (by simp) ?_
              refine Bars.cons rfl (fun KK hKK => ?_) ?_
              · go_simp
                go_wp2_with (go_at_call 8; refine Calls.mono (d2 _) ?_; rintro e y6 ⟨rfl, Ey6⟩)
                have Ty6 : Ext y5 y6 := Ext.trans (((Ext.refl _).alloc _).alloc _) Ey6
                have Zy6 : Ext W1 y6 := Zy5.trans Ty6
                have ty6 := Zy6.sz
                have Ky60 := blk_top (b := y5.heap.size) (by simp) (((Ext.refl _).alloc _).trans Ey6)
                have Ky61 := blk_top (b := y5.heap.size + 1) (by simp) Ey6
                refine hKK.out _ _ (fun _ => mkS.out _ Zy6) ?_
                clear hKK KK
                have D0 := Ky60
                obtain ⟨q0z, ⟨q0_0, q0_1, q0_2, q0_3⟩, q0f0, q0f1, q0f2, q0f3⟩ := D0
                have D1 := Ky61
                obtain ⟨q1z, ⟨q1_0, q1_1, q1_2, q1_3⟩, q1f0, q1f1, q1f2, q1f3⟩ := D1
                refine bar_one (i := 6) (by kernel_rfl) rfl (fun KK hKK => ?_)
                go_simp
                refine hKK.out _ _ (fun h => absurd h (by decide)) ?_
                clear hKK KK
                refine bar_one (i := 7) (by kernel_rfl) rfl (fun KK hKK => ?_)
                go_simp
                refine hKK.out _ _ (fun h => absurd h (by decide)) ?_
                clear hKK KK
                refine bar_done (by kernel_rfl) ?_ _
                go_wp2_with fail
                go_meet
                case rel =>
                  refine ⟨_, _, rfl, rfl, ?_, ?_, ?_⟩
                  · ((with_reducible (repeat' (first | assumption | apply Blk.set | (apply Blk.newE; (simp; done)) | apply Blk.far | apply Blk.al | apply Blk.dr))); all_goals (first | omega | (simp; done) | (simp; omega)))
                  · ((with_reducible (repeat' (first | assumption | apply Blk.set | (apply Blk.newE; (simp; done)) | apply Blk.far | apply Blk.al | apply Blk.dr))); all_goals (first | omega | (simp; done) | (simp; omega)))
                  · ((with_reducible (repeat' (first | assumption | exact Ext.refl _ | apply Ext.alloc | apply Ext.drew | apply Ext.drewN | apply Ext.setCell))); all_goals (first | omega | (simp; done) | (simp; omega)))
              · exact Bars.nil
            · exact Bars.nil
        · refine Bars.cons rfl (fun KK hKK => ?_) ?_
          · go_simp
            refine hKK.out _ _ (fun _ => mkS.out _ (by ((with_reducible (repeat' (first | assumption | exact Ext.refl _ | apply Ext.alloc | apply Ext.drew | apply Ext.drewN | apply Ext.setCell))); all_goals (first | omega | (simp; done) | (simp; omega))))) ?_
            clear hKK KK
            refine bar_list (rs := [3, 4]) (by kernel_rfl) (by simp) ?_
            refine Bars.cons rfl (fun KK hKK => ?_) ?_
            · go_simp
              go_wp2_with (go_at_call 8; refine Calls.mono (d2 _) ?_; rintro e y6 ⟨rfl, Ey6⟩)
              have Ty6 : Ext y5 y6 := Ext.trans ((Ext.refl _).alloc _) Ey6
              have Zy6 : Ext W1 y6 := Zy5.trans Ty6
              have ty6 := Zy6.sz
              have Ky60 := blk_top (b := y5.heap.size) (by simp) Ey6
              refine hKK.out _ _ (fun _ => mkS.out _ Zy6) ?_
              clear hKK KK
              refine bar_list (rs := [4]) (by kernel_rfl) (by simp) ?_
              refine Bars.cons rfl (fun KK hKK => ?_) ?_
              · go_simp
                refine hKK.out _ _ (fun _ => mkS.out _ (by ((with_reducible (repeat' (first | assumption | exact Ext.refl _ | apply Ext.alloc | apply Ext.drew | apply Ext.drewN | apply Ext.setCell))); all_goals (first | omega | (simp; done) | (simp; omega))))) ?_
                clear hKK KK
                have D0 := Ky60
                obtain ⟨q0z, ⟨q0_0, q0_1, q0_2, q0_3⟩, q0f0, q0f1, q0f2, q0f3⟩ := D0
                refine bar_one (i := 6) (by kernel_rfl) rfl (fun KK hKK => ?_)
                go_simp
                refine hKK.out _ _ (fun h => absurd h (by decide)) ?_
                clear hKK KK
                refine bar_one (i := 7) (by kernel_rfl) rfl (fun KK hKK => ?_)
                go_simp
                refine hKK.out _ _ (fun h => absurd h (by decide)) ?_
                clear hKK KK
                refine bar_done (by kernel_rfl) ?_ _
                go_wp2_with fail
                go_meet
                case rel =>
                  refine ⟨_, _, rfl, rfl, ?_, ?_, ?_⟩
                  · ((with_reducible (repeat' (first | assumption | apply Blk.set | (apply Blk.newE; (simp; done)) | apply Blk.far | apply Blk.al | apply Blk.dr))); all_goals (first | omega | (simp; done) | (simp; omega)))
                  · ((with_reducible (repeat' (first | assumption | apply Blk.set | (apply Blk.newE; (simp; done)) | apply Blk.far | apply Blk.al | apply Blk.dr))); all_goals (first | omega | (simp; done) | (simp; omega)))
                  · ((with_reducible (repeat' (first | assumption | exact Ext.refl _ | apply Ext.alloc | apply Ext.drew | apply Ext.drewN | apply Ext.setCell))); all_goals (first | omega | (simp; done) | (simp; omega)))
              · exact Bars.nil
            · refine Bars.cons rfl (fun KK hKK => ?_) ?_
              · go_simp
                refine hKK.out _ _ (fun _ => mkS.out _ (by ((with_reducible (repeat' (first | assumption | exact Ext.refl _ | apply Ext.alloc | apply Ext.drew | apply Ext.drewN | apply Ext.setCell))); all_goals (first | omega | (simp; done) | (simp; omega))))) ?_
                clear hKK KK
                refine bar_list (rs := [3]) (by kernel_rfl) (by simp) ?_
                refine Bars.cons rfl (fun KK hKK => ?_) ?_
                · go_simp
                  go_wp2_with (go_at_call 8; refine Calls.mono (d2 _) ?_; rintro e y6 ⟨rfl, Ey6⟩)
                  have Ty6 : Ext y5 y6 := Ext.trans (((Ext.refl _).alloc _).alloc _) Ey6
                  have Zy6 : Ext W1 y6 := Zy5.trans Ty6
                  have ty6 := Zy6.sz
                  have Ky60 := blk_top (b := y5.heap.size) (by simp) (((Ext.refl _).alloc _).trans Ey6)
                  have Ky61 := blk_top (b := y5.heap.size + 1) (by simp) Ey6
                  refine hKK.out _ _ (fun _ => mkS.out _ Zy6) ?_
                  clear hKK KK
                  have D0 := Ky60
                  obtain ⟨q0z, ⟨q0_0, q0_1, q0_2, q0_3⟩, q0f0, q0f1, q0f2, q0f3⟩ := D0
                  have D1 := Ky61
                  obtain ⟨q1z, ⟨q1_0, q1_1, q1_2, q1_3⟩, q1f0, q1f1, q1f2, q1f3⟩ := D1
                  refine bar_one (i := 6) (by kernel_rfl) rfl (fun KK hKK => ?_)
                  go_simp
                  refine hKK.out _ _ (fun h => absurd h (by decide)) ?_
                  clear hKK KK
                  refine bar_one (i := 7) (by kernel_rfl) rfl (fun KK hKK => ?_)
                  go_simp
                  refine hKK.out _ _ (fun h => absurd h (by decide)) ?_
                  clear hKK KK
                  refine bar_done (by kernel_rfl) ?_ _
                  go_wp2_with fail
                  go_meet
                  case rel =>
                    refine ⟨_, _, rfl, rfl, ?_, ?_, ?_⟩
                    · ((with_reducible (repeat' (first | assumption | apply Blk.set | (apply Blk.newE; (simp; done)) | apply Blk.far | apply Blk.al | apply Blk.dr))); all_goals (first | omega | (simp; done) | (simp; omega)))
                    · ((with_reducible (repeat' (first | assumption | apply Blk.set | (apply Blk.newE; (simp; done)) | apply Blk.far | apply Blk.al | apply Blk.dr))); all_goals (first | omega | (simp; done) | (simp; omega)))
                    · ((with_reducible (repeat' (first | assumption | exact Ext.refl _ | apply Ext.alloc | apply Ext.drew | apply Ext.drewN | apply Ext.setCell))); all_goals (first | omega | (simp; done) | (simp; omega)))
                · exact Bars.nil
              · exact Bars.nil
          · exact Bars.nil
    · refine Bars.cons rfl (fun KK hKK => ?_) ?_
      · go_simp
        refine hKK.out _ _ (fun _ => mkS.out _ (by ((with_reducible (repeat' (first | assumption | exact Ext.refl _ | apply Ext.alloc | apply Ext.drew | apply Ext.drewN | apply Ext.setCell))); all_goals (first | omega | (simp; done) | (simp; omega))))) ?_
        clear hKK KK
        refine bar_list (rs := [1, 5]) (by kernel_rfl) (by simp) ?_
        refine Bars.cons rfl (fun KK hKK => ?_) ?_
        · go_simp
          go_wp2_with (go_at_call 8; refine Calls.mono (d1 _) ?_; rintro e y5 ⟨rfl, Ey5⟩)
          have Ty5 : Ext W1 y5 := Ext.trans ((Ext.refl _).alloc _).drew Ey5
          have Zy5 : Ext W1 y5 := Ty5
          have ty5 := Zy5.sz
          have Ky50 := blk_top (b := W1.heap.size) (by simp) ((Ext.refl _).drew.trans Ey5)
          refine hKK.out _ _ (fun _ => mkS.out _ Zy5) ?_
          clear hKK KK
          refine bar_list (rs := [3, 5]) (by kernel_rfl) (by simp) ?_
          refine Bars.cons rfl (fun KK hKK => ?_) ?_
          · go_simp
            go_wp2_with (go_at_call 8; refine Calls.mono (d2 _) ?_; rintro e y6 ⟨rfl, Ey6⟩)
            have Ty6 : Ext y5 y6 := Ext.trans (Ext.refl _) Ey6
            have Zy6 : Ext W1 y6 := Zy5.trans Ty6
            have ty6 := Zy6.sz
            have Ky50' := Ky50.ext Ty6
            refine hKK.out _ _ (fun _ => mkS.out _ Zy6) ?_
            clear hKK KK
            refine bar_list (rs := [5]) (by kernel_rfl) (by simp) ?_
            refine Bars.cons rfl (fun KK hKK => ?_) ?_
            · go_simp
              refine hKK.out _ _ (fun _ => mkS.out _ (by ((with_reducible (repeat' (first | assumption | exact Ext.refl _ | apply Ext.alloc | apply Ext.drew | apply Ext.drewN | apply Ext.setCell))); all_goals (first | omega | (simp; done) | (simp; omega))))) ?_
              clear hKK KK
              have D0 := Ky50'
              obtain ⟨q0z, ⟨q0_0, q0_1, q0_2, q0_3⟩, q0f0, q0f1, q0f2, q0f3⟩ := D0
              refine bar_one (i := 6) (by kernel_rfl) rfl (fun KK hKK => ?_)
              go_simp
              refine hKK.out _ _ (fun h => absurd h (by decide)) ?_
              clear hKK KK
              refine bar_one (i := 7) (by kernel_rfl) rfl (fun KK hKK => ?_)
              go_simp
              refine hKK.out _ _ (fun h => absurd h (by decide)) ?_
              clear hKK KK
              refine bar_done (by kernel_rfl) ?_ _
              go_wp2_with fail
              go_meet
              case rel =>
                refine ⟨_, _, rfl, rfl, ?_, ?_, ?_⟩
                · ((with_reducible (repeat' (first | assumption | apply Blk.set | (apply Blk.newE; (simp; done)) | apply Blk.far | apply Blk.al | apply Blk.dr))); all_goals (first | omega | (simp; done) | (simp; omega)))
                · ((with_reducible (repeat' (first | assumption | apply Blk.set | (apply Blk.newE; (simp; done)) | apply Blk.far | apply Blk.al | apply Blk.dr))); all_goals (first | omega | (simp; done) | (simp; omega)))
                · ((with_reducible (repeat' (first | assumption | exact Ext.refl _ | apply Ext.alloc | apply Ext.drew | apply Ext.drewN | apply Ext.setCell))); all_goals (first | omega | (simp; done) | (simp; omega)))
            · exact Bars.nil
          · refine Bars.cons rfl (fun KK hKK => ?_) ?_
            · go_simp
              refine hKK.out _ _ (fun _ => mkS.out _ (by ((with_reducible (repeat' (first | assumption | exact Ext.refl _ | apply Ext.alloc | apply Ext.drew | apply Ext.drewN | apply Ext.setCell))); all_goals (first | omega | (simp; done) | (simp; omega))))) ?_
              clear hKK KK
              refine bar_list (rs := [3]) (by kernel_rfl) (by simp) ?_
              refine Bars.cons rfl (fun KK hKK => ?_) ?_
              · go_simp
                go_wp2_with (go_at_call 8; refine Calls.mono (d2 _) ?_; rintro e y6 ⟨rfl, Ey6⟩)
                have Ty6 : Ext y5 y6 := Ext.trans ((Ext.refl _).alloc _) Ey6
                have Zy6 : Ext W1 y6 := Zy5.trans Ty6
                have ty6 := Zy6.sz
                have Ky50' := Ky50.ext Ty6
                have Ky60 := blk_top (b := y5.heap.size) (by simp) Ey6
                refine hKK.out _ _ (fun _ => mkS.out _ Zy6) ?_
                clear hKK KK
                have D0 := Ky50'
                obtain ⟨q0z, ⟨q0_0, q0_1, q0_2, q0_3⟩, q0f0, q0f1, q0f2, q0f3⟩ := D0
                have D1 := Ky60
                obtain ⟨q1z, ⟨q1_0, q1_1, q1_2, q1_3⟩, q1f0, q1f1, q1f2, q1f3⟩ := D1
                have hne : W1.heap.size ≠ y5.heap.size := by have := Ky50.1; omega
                have hne2 : y5.heap.size ≠ W1.heap.size := fun q => hne q.symm
                refine bar_one (i := 6) (by kernel_rfl) rfl (fun KK hKK => ?_)
                go_simp
                refine hKK.out _ _ (fun h => absurd h (by decide)) ?_
                clear hKK KK
                refine bar_one (i := 7) (by kernel_rfl) rfl (fun KK hKK => ?_)
                go_simp
                refine hKK.out _ _ (fun h => absurd h (by decide)) ?_
                clear hKK KK
                refine bar_done (by kernel_rfl) ?_ _
                go_wp2_with fail
                go_meet
                case rel =>
                  refine ⟨_, _, rfl, rfl, ?_, ?_, ?_⟩
                  · ((with_reducible (repeat' (first | assumption | apply Blk.set | (apply Blk.newE; (simp; done)) | apply Blk.far | apply Blk.al | apply Blk.dr))); all_goals (first | omega | (simp; done) | (simp; omega)))
                  · ((with_reducible (repeat' (first | assumption | apply Blk.set | (apply Blk.newE; (simp; done)) | apply Blk.far | apply Blk.al | apply Blk.dr))); all_goals (first | omega | (simp; done) | (simp; omega)))
                  · ((with_reducible (repeat' (first | assumption | exact Ext.refl _ | apply Ext.alloc | apply Ext.drew | apply Ext.drewN | apply Ext.setCell))); all_goals (first | omega | (simp; done) | (simp; omega)))
              · exact Bars.nil
            · exact Bars.nil
        · refine Bars.cons rfl (fun KK hKK => ?_) ?_
          · go_simp
            refine hKK.out _ _ (fun _ => mkS.out _ (by ((with_reducible (repeat' (first | assumption | exact Ext.refl _ | apply Ext.alloc | apply Ext.drew | apply Ext.drewN | apply Ext.setCell))); all_goals (first | omega | (simp; done) | (simp; omega))))) ?_
            clear hKK KK
            refine bar_list (rs := [1]) (by kernel_rfl) (by simp) ?_
            refine Bars.cons rfl (fun KK hKK => ?_) ?_
            · go_simp
              go_wp2_with (go_at_call 8; refine Calls.mono (d1 _) ?_; rintro e y5 ⟨rfl, Ey5⟩)
              have Ty5 : Ext W1 y5 := Ext.trans (((Ext.refl _).alloc _).alloc _).drew Ey5
              have Zy5 : Ext W1 y5 := Ty5
              have ty5 := Zy5.sz
              have Ky50 := blk_top (b := W1.heap.size) (by simp) (((Ext.refl _).alloc _).drew.trans Ey5)
              have Ky51 := blk_top (b := W1.heap.size + 1) (by simp) ((Ext.refl _).drew.trans Ey5)
              refine hKK.out _ _ (fun _ => mkS.out _ Zy5) ?_
              clear hKK KK
              refine bar_list (rs := [3]) (by kernel_rfl) (by simp) ?_
              refine Bars.cons rfl (fun KK hKK => ?_) ?_
              · go_simp
                go_wp2_with (go_at_call 8; refine Calls.mono (d2 _) ?_; rintro e y6 ⟨rfl, Ey6⟩)
                have Ty6 : Ext y5 y6 := Ext.trans (Ext.refl _) Ey6
                have Zy6 : Ext W1 y6 := Zy5.trans Ty6
                have ty6 := Zy6.sz
                have Ky50' := Ky50.ext Ty6
                have Ky51' := Ky51.ext Ty6
                refine hKK.out _ _ (fun _ => mkS.out _ Zy6) ?_
                clear hKK KK
                have D0 := Ky50'
                obtain ⟨q0z, ⟨q0_0, q0_1, q0_2, q0_3⟩, q0f0, q0f1, q0f2, q0f3⟩ := D0
                have D1 := Ky51'
                obtain ⟨q1z, ⟨q1_0, q1_1, q1_2, q1_3⟩, q1f0, q1f1, q1f2, q1f3⟩ := D1
                refine bar_one (i := 6) (by kernel_rfl) rfl (fun KK hKK => ?_)
                go_simp
                refine hKK.out _ _ (fun h => absurd h (by decide)) ?_
                clear hKK KK
                refine bar_one (i := 7) (by kernel_rfl) rfl (fun KK hKK => ?_)
                go_simp
                refine hKK.out _ _ (fun h => absurd h (by decide)) ?_
                clear hKK KK
                refine bar_done (by kernel_rfl) ?_ _
                go_wp2_with fail
                go_meet
                case rel =>
                  refine ⟨_, _, rfl, rfl, ?_, ?_, ?_⟩
                  · ((with_reducible (repeat' (first | assumption | apply Blk.set | (apply Blk.newE; (simp; done)) | apply Blk.far | apply Blk.al | apply Blk.dr))); all_goals (first | omega | (simp; done) | (simp; omega)))
                  · ((with_reducible (repeat' (first | assumption | apply Blk.set | (apply Blk.newE; (simp; done)) | apply Blk.far | apply Blk.al | apply Blk.dr))); all_goals (first | omega | (simp; done) | (simp; omega)))
                  · ((with_reducible (repeat' (first | assumption | exact Ext.refl _ | apply Ext.alloc | apply Ext.drew | apply Ext.drewN | apply Ext.setCell))); all_goals (first | omega | (simp; done) | (simp; omega)))
              · exact Bars.nil
            · exact Bars.nil
          · exact Bars.nil
      · refine Bars.cons rfl (fun KK hKK => ?_) ?_
        · go_simp
          refine hKK.out _ _ (fun _ => mkS.out _ (by ((with_reducible (repeat' (first | assumption | exact Ext.refl _ | apply Ext.alloc | apply Ext.drew | apply Ext.drewN | apply Ext.setCell))); all_goals (first | omega | (simp; done) | (simp; omega))))) ?_
          clear hKK KK
          refine bar_list (rs := [1, 4]) (by kernel_rfl) (by simp) ?_
          refine Bars.cons rfl (fun KK hKK => ?_) ?_
          · go_simp
            go_wp2_with (go_at_call 8; refine Calls.mono (d1 _) ?_; rintro e y5 ⟨rfl, Ey5⟩)
            have Ty5 : Ext W1 y5 := Ext.trans ((Ext.refl _).alloc _).drew Ey5
            have Zy5 : Ext W1 y5 := Ty5
            have ty5 := Zy5.sz
            have Ky50 := blk_top (b := W1.heap.size) (by simp) ((Ext.refl _).drew.trans Ey5)
            refine hKK.out _ _ (fun _ => mkS.out _ Zy5) ?_
            clear hKK KK
            refine bar_list (rs := [3, 4]) (by kernel_rfl) (by simp) ?_
            refine Bars.cons rfl (fun KK hKK => ?_) ?_
            · go_simp
              go_wp2_with (go_at_call 8; refine Calls.mono (d2 _) ?_; rintro e y6 ⟨rfl, Ey6⟩)
              have Ty6 : Ext y5 y6 := Ext.trans (Ext.refl _) Ey6
              have Zy6 : Ext W1 y6 := Zy5.trans Ty6
              have ty6 := Zy6.sz
              have Ky50' := Ky50.ext Ty6
              refine hKK.out _ _ (fun _ => mkS.out _ Zy6) ?_
              clear hKK KK
              refine bar_list (rs := [4]) (by kernel_rfl) (by simp) ?_
              refine Bars.cons rfl (fun KK hKK => ?_) ?_
              · go_simp
                refine hKK.out _ _ (fun _ => mkS.out _ (by ((with_reducible (repeat' (first | assumption | exact Ext.refl _ | apply Ext.alloc | apply Ext.drew | apply Ext.drewN | apply Ext.setCell))); all_goals (first | omega | (simp; done) | (simp; omega))))) ?_
                clear hKK KK
                have D0 := Ky50'
                obtain ⟨q0z, ⟨q0_0, q0_1, q0_2, q0_3⟩, q0f0, q0f1, q0f2, q0f3⟩ := D0
                refine bar_one (i := 6) (by kernel_rfl) rfl (fun KK hKK => ?_)
                go_simp
                refine hKK.out _ _ (fun h => absurd h (by decide)) ?_
                clear hKK KK
                refine bar_one (i := 7) (by kernel_rfl) rfl (fun KK hKK => ?_)
                go_simp
                refine hKK.out _ _ (fun h => absurd h (by decide)) ?_
                clear hKK KK
                refine bar_done (by kernel_rfl) ?_ _
                go_wp2_with fail
                go_meet
                case rel =>
                  refine ⟨_, _, rfl, rfl, ?_, ?_, ?_⟩
                  · ((with_reducible (repeat' (first | assumption | apply Blk.set | (apply Blk.newE; (simp; done)) | apply Blk.far | apply Blk.al | apply Blk.dr))); all_goals (first | omega | (simp; done) | (simp; omega)))
                  · ((with_reducible (repeat' (first | assumption | apply Blk.set | (apply Blk.newE; (simp; done)) | apply Blk.far | apply Blk.al | apply Blk.dr))); all_goals (first | omega | (simp; done) | (simp; omega)))
                  · ((with_reducible (repeat' (first | assumption | exact Ext.refl _ | apply Ext.alloc | apply Ext.drew | apply Ext.drewN | apply Ext.setCell))); all_goals (first | omega | (simp; done) | (simp; omega)))
              · exact Bars.nil
            · refine Bars.cons rfl (fun KK hKK => ?_) ?_
              · go_simp
                refine hKK.out _ _ (fun _ => mkS.out _ (by ((with_reducible (repeat' (first | assumption | exact Ext.refl _ | apply Ext.alloc | apply Ext.drew | apply Ext.drewN | apply Ext.setCell))); all_goals (first | omega | (simp; done) | (simp; omega))))) ?_
                clear hKK KK
                refine bar_list (rs := [3]) (by kernel_rfl) (by simp) ?_
                refine Bars.cons rfl (fun KK hKK => ?_) ?_
                · go_simp
                  go_wp2_with (go_at_call 8; refine Calls.mono (d2 _) ?_; rintro e y6 ⟨rfl, Ey6⟩)
                  have Ty6 : Ext y5 y6 := Ext.trans ((Ext.refl _).alloc _) Ey6
                  have Zy6 : Ext W1 y6 := Zy5.trans Ty6
                  have ty6 := Zy6.sz
                  have Ky50' := Ky50.ext Ty6
                  have Ky60 := blk_top (b := y5.heap.size) (by simp) Ey6
                  refine hKK.out _ _ (fun _ => mkS.out _ Zy6) ?_
                  clear hKK KK
                  have D0 := Ky50'
                  obtain ⟨q0z, ⟨q0_0, q0_1, q0_2, q0_3⟩, q0f0, q0f1, q0f2, q0f3⟩ := D0
                  have D1 := Ky60
                  obtain ⟨q1z, ⟨q1_0, q1_1, q1_2, q1_3⟩, q1f0, q1f1, q1f2, q1f3⟩ := D1
                  have hne : W1.heap.size ≠ y5.heap.size := by have := Ky50.1; omega
                  have hne2 : y5.heap.size ≠ W1.heap.size := fun q => hne q.symm
                  refine bar_one (i := 6) (by kernel_rfl) rfl (fun KK hKK => ?_)
                  go_simp
                  refine hKK.out _ _ (fun h => absurd h (by decide)) ?_
                  clear hKK KK
                  refine bar_one (i := 7) (by kernel_rfl) rfl (fun KK hKK => ?_)
                  go_simp
                  refine hKK.out _ _ (fun h => absurd h (by decide)) ?_
                  clear hKK KK
                  refine bar_done (by kernel_rfl) ?_ _
                  go_wp2_with fail
                  go_meet
                  case rel =>
                    refine ⟨_, _, rfl, rfl, ?_, ?_, ?_⟩
                    · ((with_reducible (repeat' (first | assumption | apply Blk.set | (apply Blk.newE; (simp; done)) | apply Blk.far | apply Blk.al | apply Blk.dr))); all_goals (first | omega | (simp; done) | (simp; omega)))
                    · ((with_reducible (repeat' (first | assumption | apply Blk.set | (apply Blk.newE; (simp; done)) | apply Blk.far | apply Blk.al | apply Blk.dr))); all_goals (first | omega | (simp; done) | (simp; omega)))
                    · ((with_reducible (repeat' (first | assumption | exact Ext.refl _ | apply Ext.alloc | apply Ext.drew | apply Ext.drewN | apply Ext.setCell))); all_goals (first | omega | (simp; done) | (simp; omega)))
                · exact Bars.nil
              · exact Bars.nil
          · refine Bars.cons rfl (fun KK hKK => ?_) ?_
            · go_simp
              refine hKK.out _ _ (fun _ => mkS.out _ (by ((with_reducible (repeat' (first | assumption | exact Ext.refl _ | apply Ext.alloc | apply Ext.drew | apply Ext.drewN | apply Ext.setCell))); all_goals (first | omega | (simp; done) | (simp; omega))))) ?_
              clear hKK KK
              refine bar_list (rs := [1]) (by kernel_rfl) (by simp) ?_
              refine Bars.cons rfl (fun KK hKK => ?_) ?_
              · go_simp
                go_wp2_with (go_at_call 8; refine Calls.mono (d1 _) ?_; rintro e y5 ⟨rfl, Ey5⟩)
                have Ty5 : Ext W1 y5 := Ext.trans (((Ext.refl _).alloc _).alloc _).drew Ey5
                have Zy5 : Ext W1 y5 := Ty5
                have ty5 := Zy5.sz
                have Ky50 := blk_top (b := W1.heap.size) (by simp) (((Ext.refl _).alloc _).drew.trans Ey5)
                have Ky51 := blk_top (b := W1.heap.size + 1) (by simp) ((Ext.refl _).drew.trans Ey5)
                refine hKK.out _ _ (fun _ => mkS.out _ Zy5) ?_
                clear hKK KK
                refine bar_list (rs := [3]) (by kernel_rfl) (by simp) ?_
                refine Bars.cons rfl (fun KK hKK => ?_) ?_
                · go_simp
                  go_wp2_with (go_at_call 8; refine Calls.mono (d2 _) ?_; rintro e y6 ⟨rfl, Ey6⟩)
                  have Ty6 : Ext y5 y6 := Ext.trans (Ext.refl _) Ey6
                  have Zy6 : Ext W1 y6 := Zy5.trans Ty6
                  have ty6 := Zy6.sz
                  have Ky50' := Ky50.ext Ty6
                  have Ky51' := Ky51.ext Ty6
                  refine hKK.out _ _ (fun _ => mkS.out _ Zy6) ?_
                  clear hKK KK
                  have D0 := Ky50'
                  obtain ⟨q0z, ⟨q0_0, q0_1, q0_2, q0_3⟩, q0f0, q0f1, q0f2, q0f3⟩ := D0
                  have D1 := Ky51'
                  obtain ⟨q1z, ⟨q1_0, q1_1, q1_2, q1_3⟩, q1f0, q1f1, q1f2, q1f3⟩ := D1
                  refine bar_one (i := 6) (by kernel_rfl) rfl (fun KK hKK => ?_)
                  go_simp
                  refine hKK.out _ _ (fun h => absurd h (by decide)) ?_
                  clear hKK KK
                  refine bar_one (i := 7) (by kernel_rfl) rfl (fun KK hKK => ?_)
                  go_simp
                  refine hKK.out _ _ (fun h => absurd h (by decide)) ?_
                  clear hKK KK
                  refine bar_done (by kernel_rfl) ?_ _
                  go_wp2_with fail
                  go_meet
                  case rel =>
                    refine ⟨_, _, rfl, rfl, ?_, ?_, ?_⟩
                    · ((with_reducible (repeat' (first | assumption | apply Blk.set | (apply Blk.newE; (simp; done)) | apply Blk.far | apply Blk.al | apply Blk.dr))); all_goals (first | omega | (simp; done) | (simp; omega)))
                    · ((with_reducible (repeat' (first | assumption | apply Blk.set | (apply Blk.newE; (simp; done)) | apply Blk.far | apply Blk.al | apply Blk.dr))); all_goals (first | omega | (simp; done) | (simp; omega)))
                    · ((with_reducible (repeat' (first | assumption | exact Ext.refl _ | apply Ext.alloc | apply Ext.drew | apply Ext.drewN | apply Ext.setCell))); all_goals (first | omega | (simp; done) | (simp; omega)))
                · exact Bars.nil
              · exact Bars.nil
            · exact Bars.nil
        · exact Bars.nil
  case rest =>
    obtain ⟨bx, bY, rfl, rfl, NX, NY, XZ⟩ := hcut
    have NA := PA.ext XZ
    have NB := PB.ext XZ
    have XV : Ext w wc := XY.trans XZ
    clear PA PB XY XZ d1 d2
    have g3 := fun W (g : Ext wc W) => c3 W (hN.ext (XV.trans g)) (hT.ext (XV.trans g))
    have gl := fun W (g : Ext wc W) => cl W (hN.ext (XV.trans g))
    clear c3 cl
    by_cases hp : pk = 4
    · obtain ⟨rfl, rfl, rfl, rfl, he1, he2⟩ := HA.out hp
      subst hp
      clear HA HB hN hT
      have ge := fun W => rerrname_any je W
      have hz := ne_name je ⟨he1, he2⟩
      generalize bs (errName je) = nq at *
      clear he1 he2
      have mkS : Hid (∀ W, Ext wc W → (W.cell? ⟨bx, 0, none⟩ = some (.int .i64 4) ∧ W.cell? ⟨bx, 1, none⟩ = some (.int .i64 jn) ∧ W.cell? ⟨bx, 2, none⟩ = some (.string js) ∧ W.cell? ⟨bx, 3, none⟩ = some (.int .i64 je)) ∧ (W.cell? ⟨bY, 0, none⟩ = some (.int .i64 qk) ∧ W.cell? ⟨bY, 1, none⟩ = some (.int .i64 qn) ∧ W.cell? ⟨bY, 2, none⟩ = some (.string qs) ∧ W.cell? ⟨bY, 3, none⟩ = some (.int .i64 qe)) ∧ (W.cell? ⟨w.heap.size, 0, none⟩ = some (.int .i64 ka) ∧ W.cell? ⟨w.heap.size, 1, none⟩ = some (.int .i64 na) ∧ W.cell? ⟨w.heap.size, 2, none⟩ = some (.string sa) ∧ W.cell? ⟨w.heap.size, 3, none⟩ = some (.int .i64 ea)) ∧ (W.cell? ⟨w.heap.size + 1, 0, none⟩ = some (.int .i64 kb) ∧ W.cell? ⟨w.heap.size + 1, 1, none⟩ = some (.int .i64 nb) ∧ W.cell? ⟨w.heap.size + 1, 2, none⟩ = some (.string sb) ∧ W.cell? ⟨w.heap.size + 1, 3, none⟩ = some (.int .i64 eb)) ∧ Ext wc W) := by
        show ∀ W, _
        intro W h
        exact ⟨(NX.ext h).2.1, (NY.ext h).2.1, (NA.ext h).2.1, (NB.ext h).2.1, h⟩
      clear NX NY NA NB
      go_upto_region 5 with fail
      refine wp_region_held_drew (S := (fun W => (W.cell? ⟨bx, 0, none⟩ = some (.int .i64 4) ∧ W.cell? ⟨bx, 1, none⟩ = some (.int .i64 jn) ∧ W.cell? ⟨bx, 2, none⟩ = some (.string js) ∧ W.cell? ⟨bx, 3, none⟩ = some (.int .i64 je)) ∧ (W.cell? ⟨bY, 0, none⟩ = some (.int .i64 qk) ∧ W.cell? ⟨bY, 1, none⟩ = some (.int .i64 qn) ∧ W.cell? ⟨bY, 2, none⟩ = some (.string qs) ∧ W.cell? ⟨bY, 3, none⟩ = some (.int .i64 qe)) ∧ (W.cell? ⟨w.heap.size, 0, none⟩ = some (.int .i64 ka) ∧ W.cell? ⟨w.heap.size, 1, none⟩ = some (.int .i64 na) ∧ W.cell? ⟨w.heap.size, 2, none⟩ = some (.string sa) ∧ W.cell? ⟨w.heap.size, 3, none⟩ = some (.int .i64 ea)) ∧ (W.cell? ⟨w.heap.size + 1, 0, none⟩ = some (.int .i64 kb) ∧ W.cell? ⟨w.heap.size + 1, 1, none⟩ = some (.int .i64 nb) ∧ W.cell? ⟨w.heap.size + 1, 2, none⟩ = some (.string sb) ∧ W.cell? ⟨w.heap.size + 1, 3, none⟩ = some (.int .i64 eb)) ∧ Ext wc W)) (by kernel_rfl) ?_ (fun hHeld0 => ?_)
      · (refine mkS.out _ ?_; ((with_reducible (repeat (first | assumption | exact Ext.refl _ | apply Ext.alloc | apply Ext.drew | apply Ext.drewN))); done))
      refine wpAnyH_take (i := 0) (oi := { dst := some 33, op := Op.fieldAddr 23 (Operand.tmp 8) 0, type := 0, pos := "law.go:40", after := #[], guard := none }) (v := ?_) rfl (by kernel_rfl) (by kernel_rfl) (by kernel_rfl) (fun _ _ _ h => h) (Or.inl ⟨by rfl, ?_⟩) (by assumption) ?_
      rotate_left
      · intro w hSw; (try dsimp only at hSw); first | (go_simp; done) | (go_simp; with_reducible rfl)
      try simp only [Act.put, List.setIfInBounds_toArray, List.set_cons_zero, List.set_cons_succ]
      refine wpAnyH_take (i := 1) (oi := { dst := some 34, op := Op.load 3 (Operand.tmp 33), type := 3, pos := "law.go:40", after := #[{ on := 0, ground := Ground.data }], guard := none }) (v := ?_) rfl (by kernel_rfl) (by kernel_rfl) (by kernel_rfl) (fun _ _ _ h => h) (Or.inl ⟨by rfl, ?_⟩) (by assumption) ?_
      rotate_left
      · intro w hSw; (try dsimp only at hSw); first | (go_simp; done) | (go_simp; with_reducible rfl)
      try simp only [Act.put, List.setIfInBounds_toArray, List.set_cons_zero, List.set_cons_succ]
      refine wpAnyH_take (i := 2) (oi := { dst := some 35, op := Op.binOp BinOp.eql 3 (Operand.tmp 34) (Operand.const (Value.int IntKind.i64 4)) 3, type := 4, pos := "law.go:40", after := #[{ on := 1, ground := Ground.data }], guard := none }) (v := ?_) rfl (by kernel_rfl) (by kernel_rfl) (by kernel_rfl) (fun _ _ _ h => h) (Or.inl ⟨by rfl, ?_⟩) (by assumption) ?_
      rotate_left
      · intro w hSw; (try dsimp only at hSw); first | (go_simp; done) | (go_simp; with_reducible rfl)
      try simp only [Act.put, List.setIfInBounds_toArray, List.set_cons_zero, List.set_cons_succ]
      refine wpAnyH_take (i := 3) (oi := { dst := some 36, op := Op.move (Operand.tmp 35), type := 4, pos := "law.go:40", after := #[{ on := 2, ground := Ground.data }], guard := none }) (v := ?_) rfl (by kernel_rfl) (by kernel_rfl) (by kernel_rfl) (fun _ _ _ h => h) (Or.inl ⟨by rfl, ?_⟩) (by assumption) ?_
      rotate_left
      · intro w hSw; (try dsimp only at hSw); first | (go_simp; done) | (go_simp; with_reducible rfl)
      try simp only [Act.put, List.setIfInBounds_toArray, List.set_cons_zero, List.set_cons_succ]
      refine wpAnyH_take (i := 4) (oi := { dst := some 37, op := Op.fieldAddr 23 (Operand.tmp 8) 3, type := 0, pos := "law.go:40", after := #[{ on := 3, ground := Ground.guard }], guard := some (3, true) }) (v := ?_) rfl (by kernel_rfl) (by kernel_rfl) (by kernel_rfl) (fun _ _ _ h => h) (Or.inl ⟨by rfl, ?_⟩) (by assumption) ?_
      rotate_left
      · intro w hSw; (try dsimp only at hSw); first | (go_simp; done) | (go_simp; with_reducible rfl)
      try simp only [Act.put, List.setIfInBounds_toArray, List.set_cons_zero, List.set_cons_succ]
      refine wpAnyH_take (i := 5) (oi := { dst := some 38, op := Op.load 3 (Operand.tmp 37), type := 3, pos := "law.go:40", after := #[{ on := 4, ground := Ground.data }, { on := 3, ground := Ground.guard }], guard := some (3, true) }) (v := ?_) rfl (by kernel_rfl) (by kernel_rfl) (by kernel_rfl) (fun _ _ _ h => h) (Or.inl ⟨by rfl, ?_⟩) (by assumption) ?_
      rotate_left
      · intro w hSw; (try dsimp only at hSw); first | (go_simp; done) | (go_simp; with_reducible rfl)
      try simp only [Act.put, List.setIfInBounds_toArray, List.set_cons_zero, List.set_cons_succ]
      refine wpAnyH_ready (rs := [6]) (by kernel_rfl) (by simp) ?_
      refine AllReadyH.cons (o := { dst := some 39, op := Op.call { callee := Callee.value (Operand.func 9), args := #[Operand.tmp 38], argTypes := #[3] }, type := 9, pos := "law.go:40", after := #[{ on := 5, ground := Ground.data }, { on := 3, ground := Ground.chain }, { on := 3, ground := Ground.guard }], guard := some (3, true) }) rfl (fun K hK => ?_) AllReadyH.nil
      go_simp
      (go_at_call 9; refine Calls.mono (ge _) ?_; rintro e yE ⟨rfl, rfl⟩)
      try go_wp2_with fail
      refine hK.out _ _ ?_ (fun hHeld1 => ?_)
      · (try dsimp only); (refine mkS.out _ ?_; ((with_reducible (repeat (first | assumption | exact Ext.refl _ | apply Ext.alloc | apply Ext.drew | apply Ext.drewN))); done))
      clear hK K hHeld0
      try simp only [Act.put, List.setIfInBounds_toArray, List.set_cons_zero, List.set_cons_succ]
      refine wpAnyH_take (i := 7) (oi := { dst := some 40, op := Op.binOp BinOp.neq 9 (Operand.tmp 39) (Operand.const (Value.string { data := #[] })) 9, type := 4, pos := "law.go:40", after := #[{ on := 6, ground := Ground.data }, { on := 3, ground := Ground.guard }], guard := some (3, true) }) (v := ?_) rfl (by kernel_rfl) (by kernel_rfl) (by kernel_rfl) (fun _ _ _ h => h) (Or.inl ⟨by rfl, ?_⟩) (by assumption) ?_
      rotate_left
      · intro w hSw; (try dsimp only at hSw); first | (go_simp; done) | (go_simp; with_reducible rfl)
      try simp only [Act.put, List.setIfInBounds_toArray, List.set_cons_zero, List.set_cons_succ]
      refine wpAnyH_take (i := 8) (oi := { dst := some 41, op := Op.pick (Operand.tmp 36) (Operand.tmp 40) (Operand.const (Value.bool false)), type := 4, pos := "law.go:40", after := #[{ on := 3, ground := Ground.data }, { on := 7, ground := Ground.data }], guard := none }) (v := ?_) rfl (by kernel_rfl) (by kernel_rfl) (by kernel_rfl) (fun _ _ _ h => h) (Or.inl ⟨by rfl, ?_⟩) (by assumption) ?_
      rotate_left
      · intro w hSw; (try dsimp only at hSw); first | (go_simp; done) | (go_simp; with_reducible rfl)
      try simp only [Act.put, List.setIfInBounds_toArray, List.set_cons_zero, List.set_cons_succ]
      refine wpAnyH_take (i := 9) (oi := { dst := some 42, op := Op.move (Operand.tmp 41), type := 4, pos := "law.go:40", after := #[{ on := 8, ground := Ground.data }, { on := 6, ground := Ground.chain }], guard := none }) (v := ?_) rfl (by kernel_rfl) (by kernel_rfl) (by kernel_rfl) (fun _ _ _ h => h) (Or.inl ⟨by rfl, ?_⟩) (by assumption) ?_
      rotate_left
      · intro w hSw; (try dsimp only at hSw); first | (go_simp; done) | (go_simp; with_reducible rfl)
      try simp only [Act.put, List.setIfInBounds_toArray, List.set_cons_zero, List.set_cons_succ]
      refine wpAnyH_take (i := 10) (oi := { dst := some 43, op := Op.load 23 (Operand.tmp 4), type := 23, pos := "law.go:40", after := #[{ on := 9, ground := Ground.guard }], guard := some (9, true) }) (v := ?_) rfl (by kernel_rfl) (by kernel_rfl) (by kernel_rfl) (fun _ _ _ h => h) (Or.inl ⟨by rfl, ?_⟩) (by assumption) ?_
      rotate_left
      · intro w hSw; (try dsimp only at hSw); first | (go_simp; done) | (go_simp; with_reducible rfl)
      try simp only [Act.put, List.setIfInBounds_toArray, List.set_cons_zero, List.set_cons_succ]
      refine wpAnyH_take (i := 11) (oi := { dst := some 44, op := Op.load 23 (Operand.tmp 5), type := 23, pos := "law.go:40", after := #[{ on := 9, ground := Ground.guard }], guard := some (9, true) }) (v := ?_) rfl (by kernel_rfl) (by kernel_rfl) (by kernel_rfl) (fun _ _ _ h => h) (Or.inl ⟨by rfl, ?_⟩) (by assumption) ?_
      rotate_left
      · intro w hSw; (try dsimp only at hSw); first | (go_simp; done) | (go_simp; with_reducible rfl)
      try simp only [Act.put, List.setIfInBounds_toArray, List.set_cons_zero, List.set_cons_succ]
      refine wpAnyH_take (i := 13) (oi := { dst := some 46, op := Op.load 23 (Operand.tmp 8), type := 23, pos := "law.go:40", after := #[{ on := 9, ground := Ground.guard }], guard := some (9, true) }) (v := ?_) rfl (by kernel_rfl) (by kernel_rfl) (by kernel_rfl) (fun _ _ _ h => h) (Or.inl ⟨by rfl, ?_⟩) (by assumption) ?_
      rotate_left
      · intro w hSw; (try dsimp only at hSw); first | (go_simp; done) | (go_simp; with_reducible rfl)
      try simp only [Act.put, List.setIfInBounds_toArray, List.set_cons_zero, List.set_cons_succ]
      refine wpAnyH_ready (rs := [12]) (by kernel_rfl) (by simp) ?_
      refine AllReadyH.cons (o := { dst := some 45, op := Op.call { callee := Callee.value (Operand.func 6), args := #[Operand.tmp 43, Operand.tmp 44], argTypes := #[23, 23] }, type := 23, pos := "law.go:40", after := #[{ on := 10, ground := Ground.data }, { on := 11, ground := Ground.data }, { on := 9, ground := Ground.chain }, { on := 9, ground := Ground.guard }], guard := some (9, true) }) rfl (fun K hK => ?_) AllReadyH.nil
      go_simp
      (go_at_call 6; refine Calls.mono (g3 _ ?hjfI7) ?_; (case hjfI7 => ((with_reducible (repeat (first | assumption | exact Ext.refl _ | apply Ext.alloc | apply Ext.drew | apply Ext.drewN))); done)); rintro e y7 ⟨rfl, Ey7⟩; have Zy7 : Ext wc y7 := Ext.trans (by ((with_reducible (repeat (first | assumption | exact Ext.refl _ | apply Ext.alloc | apply Ext.drew | apply Ext.drewN))); done)) Ey7)
      try go_wp2_with fail
      refine hK.out _ _ ?_ (fun hHeld2 => ?_)
      · (try dsimp only); (refine mkS.out _ ?_; ((with_reducible (repeat (first | assumption | exact Ext.refl _ | apply Ext.alloc | apply Ext.drew | apply Ext.drewN))); done))
      clear hK K hHeld1
      try simp only [Act.put, List.setIfInBounds_toArray, List.set_cons_zero, List.set_cons_succ]
      refine wpAnyH_take (i := 14) (oi := { dst := some 47, op := Op.binOp BinOp.neq 23 (Operand.tmp 45) (Operand.tmp 46) 23, type := 4, pos := "law.go:40", after := #[{ on := 12, ground := Ground.data }, { on := 13, ground := Ground.data }, { on := 9, ground := Ground.guard }], guard := some (9, true) }) (v := ?_) rfl (by kernel_rfl) (by kernel_rfl) (by kernel_rfl) (fun _ _ _ h => h) (Or.inl ⟨by rfl, ?_⟩) (by assumption) ?_
      rotate_left
      · intro w hSw; (try dsimp only at hSw); first | (go_simp; done) | (go_simp; with_reducible rfl)
      try simp only [Act.put, List.setIfInBounds_toArray, List.set_cons_zero, List.set_cons_succ]
      refine wpAnyH_take (i := 15) (oi := { dst := some 48, op := Op.pick (Operand.tmp 42) (Operand.tmp 47) (Operand.const (Value.bool false)), type := 4, pos := "law.go:40", after := #[{ on := 9, ground := Ground.data }, { on := 14, ground := Ground.data }], guard := none }) (v := ?_) rfl (by kernel_rfl) (by kernel_rfl) (by kernel_rfl) (fun _ _ _ h => h) (Or.inl ⟨by rfl, ?_⟩) (by assumption) ?_
      rotate_left
      · intro w hSw; (try dsimp only at hSw); first | (go_simp; done) | (go_simp; with_reducible rfl)
      try simp only [Act.put, List.setIfInBounds_toArray, List.set_cons_zero, List.set_cons_succ]
      refine wpAnyH_done (by kernel_rfl) ?_ _
      go_wp2_with fail
      refine wp_region_held_drew (S := (fun W => (W.cell? ⟨bx, 0, none⟩ = some (.int .i64 4) ∧ W.cell? ⟨bx, 1, none⟩ = some (.int .i64 jn) ∧ W.cell? ⟨bx, 2, none⟩ = some (.string js) ∧ W.cell? ⟨bx, 3, none⟩ = some (.int .i64 je)) ∧ (W.cell? ⟨bY, 0, none⟩ = some (.int .i64 qk) ∧ W.cell? ⟨bY, 1, none⟩ = some (.int .i64 qn) ∧ W.cell? ⟨bY, 2, none⟩ = some (.string qs) ∧ W.cell? ⟨bY, 3, none⟩ = some (.int .i64 qe)) ∧ (W.cell? ⟨w.heap.size, 0, none⟩ = some (.int .i64 ka) ∧ W.cell? ⟨w.heap.size, 1, none⟩ = some (.int .i64 na) ∧ W.cell? ⟨w.heap.size, 2, none⟩ = some (.string sa) ∧ W.cell? ⟨w.heap.size, 3, none⟩ = some (.int .i64 ea)) ∧ (W.cell? ⟨w.heap.size + 1, 0, none⟩ = some (.int .i64 kb) ∧ W.cell? ⟨w.heap.size + 1, 1, none⟩ = some (.int .i64 nb) ∧ W.cell? ⟨w.heap.size + 1, 2, none⟩ = some (.string sb) ∧ W.cell? ⟨w.heap.size + 1, 3, none⟩ = some (.int .i64 eb)) ∧ Ext wc W)) (by kernel_rfl) ?_ (fun hHeld0 => ?_)
      · (refine mkS.out _ ?_; ((with_reducible (repeat (first | assumption | exact Ext.refl _ | apply Ext.alloc | apply Ext.drew | apply Ext.drewN))); done))
      refine wpAnyH_take (i := 0) (oi := { dst := some 49, op := Op.fieldAddr 23 (Operand.tmp 8) 0, type := 0, pos := "law.go:43", after := #[], guard := none }) (v := ?_) rfl (by kernel_rfl) (by kernel_rfl) (by kernel_rfl) (fun _ _ _ h => h) (Or.inl ⟨by rfl, ?_⟩) (by assumption) ?_
      rotate_left
      · intro w hSw; (try dsimp only at hSw); first | (go_simp; done) | (go_simp; with_reducible rfl)
      try simp only [Act.put, List.setIfInBounds_toArray, List.set_cons_zero, List.set_cons_succ]
      refine wpAnyH_take (i := 1) (oi := { dst := some 50, op := Op.load 3 (Operand.tmp 49), type := 3, pos := "law.go:43", after := #[{ on := 0, ground := Ground.data }], guard := none }) (v := ?_) rfl (by kernel_rfl) (by kernel_rfl) (by kernel_rfl) (fun _ _ _ h => h) (Or.inl ⟨by rfl, ?_⟩) (by assumption) ?_
      rotate_left
      · intro w hSw; (try dsimp only at hSw); first | (go_simp; done) | (go_simp; with_reducible rfl)
      try simp only [Act.put, List.setIfInBounds_toArray, List.set_cons_zero, List.set_cons_succ]
      refine wpAnyH_take (i := 2) (oi := { dst := some 51, op := Op.binOp BinOp.eql 3 (Operand.tmp 50) (Operand.const (Value.int IntKind.i64 4)) 3, type := 4, pos := "law.go:43", after := #[{ on := 1, ground := Ground.data }], guard := none }) (v := ?_) rfl (by kernel_rfl) (by kernel_rfl) (by kernel_rfl) (fun _ _ _ h => h) (Or.inl ⟨by rfl, ?_⟩) (by assumption) ?_
      rotate_left
      · intro w hSw; (try dsimp only at hSw); first | (go_simp; done) | (go_simp; with_reducible rfl)
      try simp only [Act.put, List.setIfInBounds_toArray, List.set_cons_zero, List.set_cons_succ]
      refine wpAnyH_take (i := 3) (oi := { dst := some 52, op := Op.move (Operand.tmp 51), type := 4, pos := "law.go:43", after := #[{ on := 2, ground := Ground.data }], guard := none }) (v := ?_) rfl (by kernel_rfl) (by kernel_rfl) (by kernel_rfl) (fun _ _ _ h => h) (Or.inl ⟨by rfl, ?_⟩) (by assumption) ?_
      rotate_left
      · intro w hSw; (try dsimp only at hSw); first | (go_simp; done) | (go_simp; with_reducible rfl)
      try simp only [Act.put, List.setIfInBounds_toArray, List.set_cons_zero, List.set_cons_succ]
      refine wpAnyH_take (i := 4) (oi := { dst := some 53, op := Op.fieldAddr 23 (Operand.tmp 9) 0, type := 0, pos := "law.go:43", after := #[{ on := 3, ground := Ground.guard }], guard := some (3, false) }) (v := undef) rfl (by kernel_rfl) (by kernel_rfl) (by kernel_rfl) (fun _ _ _ h => h) (Or.inr ⟨by rfl, rfl⟩) (by assumption) ?_
      try simp only [Act.put, List.setIfInBounds_toArray, List.set_cons_zero, List.set_cons_succ]
      refine wpAnyH_take (i := 5) (oi := { dst := some 54, op := Op.load 3 (Operand.tmp 53), type := 3, pos := "law.go:43", after := #[{ on := 4, ground := Ground.data }, { on := 3, ground := Ground.guard }], guard := some (3, false) }) (v := undef) rfl (by kernel_rfl) (by kernel_rfl) (by kernel_rfl) (fun _ _ _ h => h) (Or.inr ⟨by rfl, rfl⟩) (by assumption) ?_
      try simp only [Act.put, List.setIfInBounds_toArray, List.set_cons_zero, List.set_cons_succ]
      refine wpAnyH_take (i := 6) (oi := { dst := some 55, op := Op.binOp BinOp.neq 3 (Operand.tmp 54) (Operand.const (Value.int IntKind.i64 4)) 3, type := 4, pos := "law.go:43", after := #[{ on := 5, ground := Ground.data }, { on := 3, ground := Ground.guard }], guard := some (3, false) }) (v := undef) rfl (by kernel_rfl) (by kernel_rfl) (by kernel_rfl) (fun _ _ _ h => h) (Or.inr ⟨by rfl, rfl⟩) (by assumption) ?_
      try simp only [Act.put, List.setIfInBounds_toArray, List.set_cons_zero, List.set_cons_succ]
      refine wpAnyH_take (i := 7) (oi := { dst := some 56, op := Op.pick (Operand.tmp 52) (Operand.const (Value.bool true)) (Operand.tmp 55), type := 4, pos := "law.go:43", after := #[{ on := 3, ground := Ground.data }, { on := 6, ground := Ground.data }], guard := none }) (v := ?_) rfl (by kernel_rfl) (by kernel_rfl) (by kernel_rfl) (fun _ _ _ h => h) (Or.inl ⟨by rfl, ?_⟩) (by assumption) ?_
      rotate_left
      · intro w hSw; (try dsimp only at hSw); first | (go_simp; done) | (go_simp; with_reducible rfl)
      try simp only [Act.put, List.setIfInBounds_toArray, List.set_cons_zero, List.set_cons_succ]
      refine wpAnyH_take (i := 8) (oi := { dst := some 57, op := Op.move (Operand.tmp 56), type := 4, pos := "law.go:43", after := #[{ on := 7, ground := Ground.data }, { on := 3, ground := Ground.chain }], guard := none }) (v := ?_) rfl (by kernel_rfl) (by kernel_rfl) (by kernel_rfl) (fun _ _ _ h => h) (Or.inl ⟨by rfl, ?_⟩) (by assumption) ?_
      rotate_left
      · intro w hSw; (try dsimp only at hSw); first | (go_simp; done) | (go_simp; with_reducible rfl)
      try simp only [Act.put, List.setIfInBounds_toArray, List.set_cons_zero, List.set_cons_succ]
      refine wpAnyH_take (i := 9) (oi := { dst := some 58, op := Op.load 23 (Operand.tmp 4), type := 23, pos := "law.go:43", after := #[{ on := 8, ground := Ground.guard }], guard := some (8, false) }) (v := undef) rfl (by kernel_rfl) (by kernel_rfl) (by kernel_rfl) (fun _ _ _ h => h) (Or.inr ⟨by rfl, rfl⟩) (by assumption) ?_
      try simp only [Act.put, List.setIfInBounds_toArray, List.set_cons_zero, List.set_cons_succ]
      refine wpAnyH_take (i := 10) (oi := { dst := some 59, op := Op.load 23 (Operand.tmp 5), type := 23, pos := "law.go:43", after := #[{ on := 8, ground := Ground.guard }], guard := some (8, false) }) (v := undef) rfl (by kernel_rfl) (by kernel_rfl) (by kernel_rfl) (fun _ _ _ h => h) (Or.inr ⟨by rfl, rfl⟩) (by assumption) ?_
      try simp only [Act.put, List.setIfInBounds_toArray, List.set_cons_zero, List.set_cons_succ]
      refine wpAnyH_take (i := 11) (oi := { dst := some 60, op := Op.call { callee := Callee.value (Operand.func 6), args := #[Operand.tmp 58, Operand.tmp 59], argTypes := #[23, 23] }, type := 23, pos := "law.go:43", after := #[{ on := 9, ground := Ground.data }, { on := 10, ground := Ground.data }, { on := 8, ground := Ground.chain }, { on := 8, ground := Ground.guard }], guard := some (8, false) }) (v := undef) rfl (by kernel_rfl) (by kernel_rfl) (by kernel_rfl) (fun _ _ _ h => h) (Or.inr ⟨by rfl, rfl⟩) (by assumption) ?_
      try simp only [Act.put, List.setIfInBounds_toArray, List.set_cons_zero, List.set_cons_succ]
      refine wpAnyH_take (i := 12) (oi := { dst := some 61, op := Op.load 23 (Operand.tmp 9), type := 23, pos := "law.go:43", after := #[{ on := 8, ground := Ground.guard }], guard := some (8, false) }) (v := undef) rfl (by kernel_rfl) (by kernel_rfl) (by kernel_rfl) (fun _ _ _ h => h) (Or.inr ⟨by rfl, rfl⟩) (by assumption) ?_
      try simp only [Act.put, List.setIfInBounds_toArray, List.set_cons_zero, List.set_cons_succ]
      refine wpAnyH_take (i := 13) (oi := { dst := some 62, op := Op.binOp BinOp.eql 23 (Operand.tmp 60) (Operand.tmp 61) 23, type := 4, pos := "law.go:43", after := #[{ on := 11, ground := Ground.data }, { on := 12, ground := Ground.data }, { on := 8, ground := Ground.guard }], guard := some (8, false) }) (v := undef) rfl (by kernel_rfl) (by kernel_rfl) (by kernel_rfl) (fun _ _ _ h => h) (Or.inr ⟨by rfl, rfl⟩) (by assumption) ?_
      try simp only [Act.put, List.setIfInBounds_toArray, List.set_cons_zero, List.set_cons_succ]
      refine wpAnyH_take (i := 14) (oi := { dst := some 63, op := Op.pick (Operand.tmp 57) (Operand.const (Value.bool true)) (Operand.tmp 62), type := 4, pos := "law.go:43", after := #[{ on := 8, ground := Ground.data }, { on := 13, ground := Ground.data }], guard := none }) (v := ?_) rfl (by kernel_rfl) (by kernel_rfl) (by kernel_rfl) (fun _ _ _ h => h) (Or.inl ⟨by rfl, ?_⟩) (by assumption) ?_
      rotate_left
      · intro w hSw; (try dsimp only at hSw); first | (go_simp; done) | (go_simp; with_reducible rfl)
      try simp only [Act.put, List.setIfInBounds_toArray, List.set_cons_zero, List.set_cons_succ]
      refine wpAnyH_take (i := 15) (oi := { dst := some 64, op := Op.move (Operand.tmp 63), type := 4, pos := "law.go:43", after := #[{ on := 14, ground := Ground.data }, { on := 11, ground := Ground.chain }], guard := none }) (v := ?_) rfl (by kernel_rfl) (by kernel_rfl) (by kernel_rfl) (fun _ _ _ h => h) (Or.inl ⟨by rfl, ?_⟩) (by assumption) ?_
      rotate_left
      · intro w hSw; (try dsimp only at hSw); first | (go_simp; done) | (go_simp; with_reducible rfl)
      try simp only [Act.put, List.setIfInBounds_toArray, List.set_cons_zero, List.set_cons_succ]
      refine wpAnyH_ready (rs := [16]) (by kernel_rfl) (by simp) ?_
      refine AllReadyH.cons (o := { dst := some 65, op := Op.call { callee := Callee.value (Operand.func 10), args := #[], argTypes := #[] }, type := 4, pos := "law.go:43", after := #[{ on := 15, ground := Ground.chain }, { on := 15, ground := Ground.guard }], guard := some (15, true) }) rfl (fun K hK => ?_) AllReadyH.nil
      go_simp
      (go_at_call 10; refine Calls.mono (gl _ ?hlgI) ?_; (case hlgI => ((with_reducible (repeat (first | assumption | exact Ext.refl _ | apply Ext.alloc | apply Ext.drew | apply Ext.drewN))); done)); rintro e y9 ⟨rfl, Ey9⟩; have Zy9 : Ext wc y9 := Ext.trans (by ((with_reducible (repeat (first | assumption | exact Ext.refl _ | apply Ext.alloc | apply Ext.drew | apply Ext.drewN))); done)) Ey9)
      try go_wp2_with fail
      refine hK.out _ _ ?_ (fun hHeld1 => ?_)
      · (try dsimp only); (refine mkS.out _ ?_; ((with_reducible (repeat (first | assumption | exact Ext.refl _ | apply Ext.alloc | apply Ext.drew | apply Ext.drewN))); done))
      clear hK K hHeld0
      try simp only [Act.put, List.setIfInBounds_toArray, List.set_cons_zero, List.set_cons_succ]
      refine wpAnyH_take (i := 17) (oi := { dst := some 66, op := Op.pick (Operand.tmp 64) (Operand.tmp 65) (Operand.const (Value.bool false)), type := 4, pos := "law.go:43", after := #[{ on := 15, ground := Ground.data }, { on := 16, ground := Ground.data }], guard := none }) (v := ?_) rfl (by kernel_rfl) (by kernel_rfl) (by kernel_rfl) (fun _ _ _ h => h) (Or.inl ⟨by rfl, ?_⟩) (by assumption) ?_
      rotate_left
      · intro w hSw; (try dsimp only at hSw); first | (go_simp; done) | (go_simp; with_reducible rfl)
      try simp only [Act.put, List.setIfInBounds_toArray, List.set_cons_zero, List.set_cons_succ]
      refine wpAnyH_take (i := 18) (oi := { dst := some 6, op := Op.assign (Operand.tmp 66), type := 4, pos := "law.go:43", after := #[{ on := 17, ground := Ground.data }, { on := 16, ground := Ground.chain }, { on := 0, ground := Ground.phase }, { on := 1, ground := Ground.phase }, { on := 2, ground := Ground.phase }, { on := 3, ground := Ground.phase }, { on := 4, ground := Ground.phase }, { on := 5, ground := Ground.phase }, { on := 6, ground := Ground.phase }, { on := 7, ground := Ground.phase }, { on := 8, ground := Ground.phase }, { on := 9, ground := Ground.phase }, { on := 10, ground := Ground.phase }, { on := 11, ground := Ground.phase }, { on := 12, ground := Ground.phase }, { on := 13, ground := Ground.phase }, { on := 14, ground := Ground.phase }, { on := 15, ground := Ground.phase }, { on := 16, ground := Ground.phase }, { on := 17, ground := Ground.phase }], guard := none }) (v := ?_) rfl (by kernel_rfl) (by kernel_rfl) (by kernel_rfl) (fun _ _ _ h => h) (Or.inl ⟨by rfl, ?_⟩) (by assumption) ?_
      rotate_left
      · intro w hSw; (try dsimp only at hSw); first | (go_simp; done) | (go_simp; with_reducible rfl)
      try simp only [Act.put, List.setIfInBounds_toArray, List.set_cons_zero, List.set_cons_succ]
      refine wpAnyH_done (by kernel_rfl) ?_ _
      go_wp2_with fail
      go_ret
      exact ⟨ret_bool rfl, XV.trans (by assumption)⟩
    · have hp' : (pk == 4) = false := by simpa using hp
      by_cases hq : qk = 4
      · obtain ⟨rfl, rfl, rfl, rfl⟩ := HB.out hp hq
        subst hq
        clear HA HB hN hT hp
        have mkS : Hid (∀ W, Ext wc W → (W.cell? ⟨bx, 0, none⟩ = some (.int .i64 pk) ∧ W.cell? ⟨bx, 1, none⟩ = some (.int .i64 pn) ∧ W.cell? ⟨bx, 2, none⟩ = some (.string ps) ∧ W.cell? ⟨bx, 3, none⟩ = some (.int .i64 pe)) ∧ (W.cell? ⟨bY, 0, none⟩ = some (.int .i64 4) ∧ W.cell? ⟨bY, 1, none⟩ = some (.int .i64 jn) ∧ W.cell? ⟨bY, 2, none⟩ = some (.string js) ∧ W.cell? ⟨bY, 3, none⟩ = some (.int .i64 je)) ∧ (W.cell? ⟨w.heap.size, 0, none⟩ = some (.int .i64 ka) ∧ W.cell? ⟨w.heap.size, 1, none⟩ = some (.int .i64 na) ∧ W.cell? ⟨w.heap.size, 2, none⟩ = some (.string sa) ∧ W.cell? ⟨w.heap.size, 3, none⟩ = some (.int .i64 ea)) ∧ (W.cell? ⟨w.heap.size + 1, 0, none⟩ = some (.int .i64 kb) ∧ W.cell? ⟨w.heap.size + 1, 1, none⟩ = some (.int .i64 nb) ∧ W.cell? ⟨w.heap.size + 1, 2, none⟩ = some (.string sb) ∧ W.cell? ⟨w.heap.size + 1, 3, none⟩ = some (.int .i64 eb)) ∧ Ext wc W) := by
          show ∀ W, _
          intro W h
          exact ⟨(NX.ext h).2.1, (NY.ext h).2.1, (NA.ext h).2.1, (NB.ext h).2.1, h⟩
        clear NX NY NA NB
        go_upto_region 5 with fail
        refine wp_region_held_drew (S := (fun W => (W.cell? ⟨bx, 0, none⟩ = some (.int .i64 pk) ∧ W.cell? ⟨bx, 1, none⟩ = some (.int .i64 pn) ∧ W.cell? ⟨bx, 2, none⟩ = some (.string ps) ∧ W.cell? ⟨bx, 3, none⟩ = some (.int .i64 pe)) ∧ (W.cell? ⟨bY, 0, none⟩ = some (.int .i64 4) ∧ W.cell? ⟨bY, 1, none⟩ = some (.int .i64 jn) ∧ W.cell? ⟨bY, 2, none⟩ = some (.string js) ∧ W.cell? ⟨bY, 3, none⟩ = some (.int .i64 je)) ∧ (W.cell? ⟨w.heap.size, 0, none⟩ = some (.int .i64 ka) ∧ W.cell? ⟨w.heap.size, 1, none⟩ = some (.int .i64 na) ∧ W.cell? ⟨w.heap.size, 2, none⟩ = some (.string sa) ∧ W.cell? ⟨w.heap.size, 3, none⟩ = some (.int .i64 ea)) ∧ (W.cell? ⟨w.heap.size + 1, 0, none⟩ = some (.int .i64 kb) ∧ W.cell? ⟨w.heap.size + 1, 1, none⟩ = some (.int .i64 nb) ∧ W.cell? ⟨w.heap.size + 1, 2, none⟩ = some (.string sb) ∧ W.cell? ⟨w.heap.size + 1, 3, none⟩ = some (.int .i64 eb)) ∧ Ext wc W)) (by kernel_rfl) ?_ (fun hHeld0 => ?_)
        · (refine mkS.out _ ?_; ((with_reducible (repeat (first | assumption | exact Ext.refl _ | apply Ext.alloc | apply Ext.drew | apply Ext.drewN))); done))
        refine wpAnyH_take (i := 0) (oi := { dst := some 33, op := Op.fieldAddr 23 (Operand.tmp 8) 0, type := 0, pos := "law.go:40", after := #[], guard := none }) (v := ?_) rfl (by kernel_rfl) (by kernel_rfl) (by kernel_rfl) (fun _ _ _ h => h) (Or.inl ⟨by rfl, ?_⟩) (by assumption) ?_
        rotate_left
        · intro w hSw; (try dsimp only at hSw); first | (go_simp; done) | (go_simp; with_reducible rfl)
        try simp only [Act.put, List.setIfInBounds_toArray, List.set_cons_zero, List.set_cons_succ]
        refine wpAnyH_take (i := 1) (oi := { dst := some 34, op := Op.load 3 (Operand.tmp 33), type := 3, pos := "law.go:40", after := #[{ on := 0, ground := Ground.data }], guard := none }) (v := ?_) rfl (by kernel_rfl) (by kernel_rfl) (by kernel_rfl) (fun _ _ _ h => h) (Or.inl ⟨by rfl, ?_⟩) (by assumption) ?_
        rotate_left
        · intro w hSw; (try dsimp only at hSw); first | (go_simp; done) | (go_simp; with_reducible rfl)
        try simp only [Act.put, List.setIfInBounds_toArray, List.set_cons_zero, List.set_cons_succ]
        refine wpAnyH_take (i := 2) (oi := { dst := some 35, op := Op.binOp BinOp.eql 3 (Operand.tmp 34) (Operand.const (Value.int IntKind.i64 4)) 3, type := 4, pos := "law.go:40", after := #[{ on := 1, ground := Ground.data }], guard := none }) (v := ?_) rfl (by kernel_rfl) (by kernel_rfl) (by kernel_rfl) (fun _ _ _ h => h) (Or.inl ⟨by rfl, ?_⟩) (by assumption) ?_
        rotate_left
        · intro w hSw; (try dsimp only at hSw); first | (go_simp; done) | (go_simp; with_reducible rfl)
        try simp only [Act.put, List.setIfInBounds_toArray, List.set_cons_zero, List.set_cons_succ]
        refine wpAnyH_take (i := 3) (oi := { dst := some 36, op := Op.move (Operand.tmp 35), type := 4, pos := "law.go:40", after := #[{ on := 2, ground := Ground.data }], guard := none }) (v := ?_) rfl (by kernel_rfl) (by kernel_rfl) (by kernel_rfl) (fun _ _ _ h => h) (Or.inl ⟨by rfl, ?_⟩) (by assumption) ?_
        rotate_left
        · intro w hSw; (try dsimp only at hSw); first | (go_simp; done) | (go_simp; with_reducible rfl)
        try simp only [Act.put, List.setIfInBounds_toArray, List.set_cons_zero, List.set_cons_succ]
        refine wpAnyH_take (i := 4) (oi := { dst := some 37, op := Op.fieldAddr 23 (Operand.tmp 8) 3, type := 0, pos := "law.go:40", after := #[{ on := 3, ground := Ground.guard }], guard := some (3, true) }) (v := undef) rfl (by kernel_rfl) (by kernel_rfl) (by kernel_rfl) (fun _ _ _ h => h) (Or.inr ⟨by rfl, rfl⟩) (by assumption) ?_
        try simp only [Act.put, List.setIfInBounds_toArray, List.set_cons_zero, List.set_cons_succ]
        refine wpAnyH_take (i := 5) (oi := { dst := some 38, op := Op.load 3 (Operand.tmp 37), type := 3, pos := "law.go:40", after := #[{ on := 4, ground := Ground.data }, { on := 3, ground := Ground.guard }], guard := some (3, true) }) (v := undef) rfl (by kernel_rfl) (by kernel_rfl) (by kernel_rfl) (fun _ _ _ h => h) (Or.inr ⟨by rfl, rfl⟩) (by assumption) ?_
        try simp only [Act.put, List.setIfInBounds_toArray, List.set_cons_zero, List.set_cons_succ]
        refine wpAnyH_take (i := 6) (oi := { dst := some 39, op := Op.call { callee := Callee.value (Operand.func 9), args := #[Operand.tmp 38], argTypes := #[3] }, type := 9, pos := "law.go:40", after := #[{ on := 5, ground := Ground.data }, { on := 3, ground := Ground.chain }, { on := 3, ground := Ground.guard }], guard := some (3, true) }) (v := undef) rfl (by kernel_rfl) (by kernel_rfl) (by kernel_rfl) (fun _ _ _ h => h) (Or.inr ⟨by rfl, rfl⟩) (by assumption) ?_
        try simp only [Act.put, List.setIfInBounds_toArray, List.set_cons_zero, List.set_cons_succ]
        refine wpAnyH_take (i := 7) (oi := { dst := some 40, op := Op.binOp BinOp.neq 9 (Operand.tmp 39) (Operand.const (Value.string { data := #[] })) 9, type := 4, pos := "law.go:40", after := #[{ on := 6, ground := Ground.data }, { on := 3, ground := Ground.guard }], guard := some (3, true) }) (v := undef) rfl (by kernel_rfl) (by kernel_rfl) (by kernel_rfl) (fun _ _ _ h => h) (Or.inr ⟨by rfl, rfl⟩) (by assumption) ?_
        try simp only [Act.put, List.setIfInBounds_toArray, List.set_cons_zero, List.set_cons_succ]
        refine wpAnyH_take (i := 8) (oi := { dst := some 41, op := Op.pick (Operand.tmp 36) (Operand.tmp 40) (Operand.const (Value.bool false)), type := 4, pos := "law.go:40", after := #[{ on := 3, ground := Ground.data }, { on := 7, ground := Ground.data }], guard := none }) (v := ?_) rfl (by kernel_rfl) (by kernel_rfl) (by kernel_rfl) (fun _ _ _ h => h) (Or.inl ⟨by rfl, ?_⟩) (by assumption) ?_
        rotate_left
        · intro w hSw; (try dsimp only at hSw); first | (go_simp; done) | (go_simp; with_reducible rfl)
        try simp only [Act.put, List.setIfInBounds_toArray, List.set_cons_zero, List.set_cons_succ]
        refine wpAnyH_take (i := 9) (oi := { dst := some 42, op := Op.move (Operand.tmp 41), type := 4, pos := "law.go:40", after := #[{ on := 8, ground := Ground.data }, { on := 6, ground := Ground.chain }], guard := none }) (v := ?_) rfl (by kernel_rfl) (by kernel_rfl) (by kernel_rfl) (fun _ _ _ h => h) (Or.inl ⟨by rfl, ?_⟩) (by assumption) ?_
        rotate_left
        · intro w hSw; (try dsimp only at hSw); first | (go_simp; done) | (go_simp; with_reducible rfl)
        try simp only [Act.put, List.setIfInBounds_toArray, List.set_cons_zero, List.set_cons_succ]
        refine wpAnyH_take (i := 10) (oi := { dst := some 43, op := Op.load 23 (Operand.tmp 4), type := 23, pos := "law.go:40", after := #[{ on := 9, ground := Ground.guard }], guard := some (9, true) }) (v := undef) rfl (by kernel_rfl) (by kernel_rfl) (by kernel_rfl) (fun _ _ _ h => h) (Or.inr ⟨by rfl, rfl⟩) (by assumption) ?_
        try simp only [Act.put, List.setIfInBounds_toArray, List.set_cons_zero, List.set_cons_succ]
        refine wpAnyH_take (i := 11) (oi := { dst := some 44, op := Op.load 23 (Operand.tmp 5), type := 23, pos := "law.go:40", after := #[{ on := 9, ground := Ground.guard }], guard := some (9, true) }) (v := undef) rfl (by kernel_rfl) (by kernel_rfl) (by kernel_rfl) (fun _ _ _ h => h) (Or.inr ⟨by rfl, rfl⟩) (by assumption) ?_
        try simp only [Act.put, List.setIfInBounds_toArray, List.set_cons_zero, List.set_cons_succ]
        refine wpAnyH_take (i := 12) (oi := { dst := some 45, op := Op.call { callee := Callee.value (Operand.func 6), args := #[Operand.tmp 43, Operand.tmp 44], argTypes := #[23, 23] }, type := 23, pos := "law.go:40", after := #[{ on := 10, ground := Ground.data }, { on := 11, ground := Ground.data }, { on := 9, ground := Ground.chain }, { on := 9, ground := Ground.guard }], guard := some (9, true) }) (v := undef) rfl (by kernel_rfl) (by kernel_rfl) (by kernel_rfl) (fun _ _ _ h => h) (Or.inr ⟨by rfl, rfl⟩) (by assumption) ?_
        try simp only [Act.put, List.setIfInBounds_toArray, List.set_cons_zero, List.set_cons_succ]
        refine wpAnyH_take (i := 13) (oi := { dst := some 46, op := Op.load 23 (Operand.tmp 8), type := 23, pos := "law.go:40", after := #[{ on := 9, ground := Ground.guard }], guard := some (9, true) }) (v := undef) rfl (by kernel_rfl) (by kernel_rfl) (by kernel_rfl) (fun _ _ _ h => h) (Or.inr ⟨by rfl, rfl⟩) (by assumption) ?_
        try simp only [Act.put, List.setIfInBounds_toArray, List.set_cons_zero, List.set_cons_succ]
        refine wpAnyH_take (i := 14) (oi := { dst := some 47, op := Op.binOp BinOp.neq 23 (Operand.tmp 45) (Operand.tmp 46) 23, type := 4, pos := "law.go:40", after := #[{ on := 12, ground := Ground.data }, { on := 13, ground := Ground.data }, { on := 9, ground := Ground.guard }], guard := some (9, true) }) (v := undef) rfl (by kernel_rfl) (by kernel_rfl) (by kernel_rfl) (fun _ _ _ h => h) (Or.inr ⟨by rfl, rfl⟩) (by assumption) ?_
        try simp only [Act.put, List.setIfInBounds_toArray, List.set_cons_zero, List.set_cons_succ]
        refine wpAnyH_take (i := 15) (oi := { dst := some 48, op := Op.pick (Operand.tmp 42) (Operand.tmp 47) (Operand.const (Value.bool false)), type := 4, pos := "law.go:40", after := #[{ on := 9, ground := Ground.data }, { on := 14, ground := Ground.data }], guard := none }) (v := ?_) rfl (by kernel_rfl) (by kernel_rfl) (by kernel_rfl) (fun _ _ _ h => h) (Or.inl ⟨by rfl, ?_⟩) (by assumption) ?_
        rotate_left
        · intro w hSw; (try dsimp only at hSw); first | (go_simp; done) | (go_simp; with_reducible rfl)
        try simp only [Act.put, List.setIfInBounds_toArray, List.set_cons_zero, List.set_cons_succ]
        refine wpAnyH_done (by kernel_rfl) ?_ _
        go_wp2_with fail
        refine wp_region_held_drew (S := (fun W => (W.cell? ⟨bx, 0, none⟩ = some (.int .i64 pk) ∧ W.cell? ⟨bx, 1, none⟩ = some (.int .i64 pn) ∧ W.cell? ⟨bx, 2, none⟩ = some (.string ps) ∧ W.cell? ⟨bx, 3, none⟩ = some (.int .i64 pe)) ∧ (W.cell? ⟨bY, 0, none⟩ = some (.int .i64 4) ∧ W.cell? ⟨bY, 1, none⟩ = some (.int .i64 jn) ∧ W.cell? ⟨bY, 2, none⟩ = some (.string js) ∧ W.cell? ⟨bY, 3, none⟩ = some (.int .i64 je)) ∧ (W.cell? ⟨w.heap.size, 0, none⟩ = some (.int .i64 ka) ∧ W.cell? ⟨w.heap.size, 1, none⟩ = some (.int .i64 na) ∧ W.cell? ⟨w.heap.size, 2, none⟩ = some (.string sa) ∧ W.cell? ⟨w.heap.size, 3, none⟩ = some (.int .i64 ea)) ∧ (W.cell? ⟨w.heap.size + 1, 0, none⟩ = some (.int .i64 kb) ∧ W.cell? ⟨w.heap.size + 1, 1, none⟩ = some (.int .i64 nb) ∧ W.cell? ⟨w.heap.size + 1, 2, none⟩ = some (.string sb) ∧ W.cell? ⟨w.heap.size + 1, 3, none⟩ = some (.int .i64 eb)) ∧ Ext wc W)) (by kernel_rfl) ?_ (fun hHeld0 => ?_)
        · (refine mkS.out _ ?_; ((with_reducible (repeat (first | assumption | exact Ext.refl _ | apply Ext.alloc | apply Ext.drew | apply Ext.drewN))); done))
        refine wpAnyH_take (i := 0) (oi := { dst := some 49, op := Op.fieldAddr 23 (Operand.tmp 8) 0, type := 0, pos := "law.go:43", after := #[], guard := none }) (v := ?_) rfl (by kernel_rfl) (by kernel_rfl) (by kernel_rfl) (fun _ _ _ h => h) (Or.inl ⟨by rfl, ?_⟩) (by assumption) ?_
        rotate_left
        · intro w hSw; (try dsimp only at hSw); first | (go_simp; done) | (go_simp; with_reducible rfl)
        try simp only [Act.put, List.setIfInBounds_toArray, List.set_cons_zero, List.set_cons_succ]
        refine wpAnyH_take (i := 1) (oi := { dst := some 50, op := Op.load 3 (Operand.tmp 49), type := 3, pos := "law.go:43", after := #[{ on := 0, ground := Ground.data }], guard := none }) (v := ?_) rfl (by kernel_rfl) (by kernel_rfl) (by kernel_rfl) (fun _ _ _ h => h) (Or.inl ⟨by rfl, ?_⟩) (by assumption) ?_
        rotate_left
        · intro w hSw; (try dsimp only at hSw); first | (go_simp; done) | (go_simp; with_reducible rfl)
        try simp only [Act.put, List.setIfInBounds_toArray, List.set_cons_zero, List.set_cons_succ]
        refine wpAnyH_take (i := 2) (oi := { dst := some 51, op := Op.binOp BinOp.eql 3 (Operand.tmp 50) (Operand.const (Value.int IntKind.i64 4)) 3, type := 4, pos := "law.go:43", after := #[{ on := 1, ground := Ground.data }], guard := none }) (v := ?_) rfl (by kernel_rfl) (by kernel_rfl) (by kernel_rfl) (fun _ _ _ h => h) (Or.inl ⟨by rfl, ?_⟩) (by assumption) ?_
        rotate_left
        · intro w hSw; (try dsimp only at hSw); first | (go_simp; done) | (go_simp; with_reducible rfl)
        try simp only [Act.put, List.setIfInBounds_toArray, List.set_cons_zero, List.set_cons_succ]
        refine wpAnyH_take (i := 3) (oi := { dst := some 52, op := Op.move (Operand.tmp 51), type := 4, pos := "law.go:43", after := #[{ on := 2, ground := Ground.data }], guard := none }) (v := ?_) rfl (by kernel_rfl) (by kernel_rfl) (by kernel_rfl) (fun _ _ _ h => h) (Or.inl ⟨by rfl, ?_⟩) (by assumption) ?_
        rotate_left
        · intro w hSw; (try dsimp only at hSw); first | (go_simp; done) | (go_simp; with_reducible rfl)
        try simp only [Act.put, List.setIfInBounds_toArray, List.set_cons_zero, List.set_cons_succ]
        refine wpAnyH_take (i := 4) (oi := { dst := some 53, op := Op.fieldAddr 23 (Operand.tmp 9) 0, type := 0, pos := "law.go:43", after := #[{ on := 3, ground := Ground.guard }], guard := some (3, false) }) (v := ?_) rfl (by kernel_rfl) (by kernel_rfl) (by kernel_rfl) (fun _ _ _ h => h) (Or.inl ⟨by rfl, ?_⟩) (by assumption) ?_
        rotate_left
        · intro w hSw; (try dsimp only at hSw); first | (go_simp; done) | (go_simp; with_reducible rfl)
        try simp only [Act.put, List.setIfInBounds_toArray, List.set_cons_zero, List.set_cons_succ]
        refine wpAnyH_take (i := 5) (oi := { dst := some 54, op := Op.load 3 (Operand.tmp 53), type := 3, pos := "law.go:43", after := #[{ on := 4, ground := Ground.data }, { on := 3, ground := Ground.guard }], guard := some (3, false) }) (v := ?_) rfl (by kernel_rfl) (by kernel_rfl) (by kernel_rfl) (fun _ _ _ h => h) (Or.inl ⟨by rfl, ?_⟩) (by assumption) ?_
        rotate_left
        · intro w hSw; (try dsimp only at hSw); first | (go_simp; done) | (go_simp; with_reducible rfl)
        try simp only [Act.put, List.setIfInBounds_toArray, List.set_cons_zero, List.set_cons_succ]
        refine wpAnyH_take (i := 6) (oi := { dst := some 55, op := Op.binOp BinOp.neq 3 (Operand.tmp 54) (Operand.const (Value.int IntKind.i64 4)) 3, type := 4, pos := "law.go:43", after := #[{ on := 5, ground := Ground.data }, { on := 3, ground := Ground.guard }], guard := some (3, false) }) (v := ?_) rfl (by kernel_rfl) (by kernel_rfl) (by kernel_rfl) (fun _ _ _ h => h) (Or.inl ⟨by rfl, ?_⟩) (by assumption) ?_
        rotate_left
        · intro w hSw; (try dsimp only at hSw); first | (go_simp; done) | (go_simp; with_reducible rfl)
        try simp only [Act.put, List.setIfInBounds_toArray, List.set_cons_zero, List.set_cons_succ]
        refine wpAnyH_take (i := 7) (oi := { dst := some 56, op := Op.pick (Operand.tmp 52) (Operand.const (Value.bool true)) (Operand.tmp 55), type := 4, pos := "law.go:43", after := #[{ on := 3, ground := Ground.data }, { on := 6, ground := Ground.data }], guard := none }) (v := ?_) rfl (by kernel_rfl) (by kernel_rfl) (by kernel_rfl) (fun _ _ _ h => h) (Or.inl ⟨by rfl, ?_⟩) (by assumption) ?_
        rotate_left
        · intro w hSw; (try dsimp only at hSw); first | (go_simp; done) | (go_simp; with_reducible rfl)
        try simp only [Act.put, List.setIfInBounds_toArray, List.set_cons_zero, List.set_cons_succ]
        refine wpAnyH_take (i := 8) (oi := { dst := some 57, op := Op.move (Operand.tmp 56), type := 4, pos := "law.go:43", after := #[{ on := 7, ground := Ground.data }, { on := 3, ground := Ground.chain }], guard := none }) (v := ?_) rfl (by kernel_rfl) (by kernel_rfl) (by kernel_rfl) (fun _ _ _ h => h) (Or.inl ⟨by rfl, ?_⟩) (by assumption) ?_
        rotate_left
        · intro w hSw; (try dsimp only at hSw); first | (go_simp; done) | (go_simp; with_reducible rfl)
        try simp only [Act.put, List.setIfInBounds_toArray, List.set_cons_zero, List.set_cons_succ]
        refine wpAnyH_take (i := 9) (oi := { dst := some 58, op := Op.load 23 (Operand.tmp 4), type := 23, pos := "law.go:43", after := #[{ on := 8, ground := Ground.guard }], guard := some (8, false) }) (v := ?_) rfl (by kernel_rfl) (by kernel_rfl) (by kernel_rfl) (fun _ _ _ h => h) (Or.inl ⟨by rfl, ?_⟩) (by assumption) ?_
        rotate_left
        · intro w hSw; (try dsimp only at hSw); first | (go_simp; done) | (go_simp; with_reducible rfl)
        try simp only [Act.put, List.setIfInBounds_toArray, List.set_cons_zero, List.set_cons_succ]
        refine wpAnyH_take (i := 10) (oi := { dst := some 59, op := Op.load 23 (Operand.tmp 5), type := 23, pos := "law.go:43", after := #[{ on := 8, ground := Ground.guard }], guard := some (8, false) }) (v := ?_) rfl (by kernel_rfl) (by kernel_rfl) (by kernel_rfl) (fun _ _ _ h => h) (Or.inl ⟨by rfl, ?_⟩) (by assumption) ?_
        rotate_left
        · intro w hSw; (try dsimp only at hSw); first | (go_simp; done) | (go_simp; with_reducible rfl)
        try simp only [Act.put, List.setIfInBounds_toArray, List.set_cons_zero, List.set_cons_succ]
        refine wpAnyH_take (i := 12) (oi := { dst := some 61, op := Op.load 23 (Operand.tmp 9), type := 23, pos := "law.go:43", after := #[{ on := 8, ground := Ground.guard }], guard := some (8, false) }) (v := ?_) rfl (by kernel_rfl) (by kernel_rfl) (by kernel_rfl) (fun _ _ _ h => h) (Or.inl ⟨by rfl, ?_⟩) (by assumption) ?_
        rotate_left
        · intro w hSw; (try dsimp only at hSw); first | (go_simp; done) | (go_simp; with_reducible rfl)
        try simp only [Act.put, List.setIfInBounds_toArray, List.set_cons_zero, List.set_cons_succ]
        refine wpAnyH_ready (rs := [11]) (by kernel_rfl) (by simp) ?_
        refine AllReadyH.cons (o := { dst := some 60, op := Op.call { callee := Callee.value (Operand.func 6), args := #[Operand.tmp 58, Operand.tmp 59], argTypes := #[23, 23] }, type := 23, pos := "law.go:43", after := #[{ on := 9, ground := Ground.data }, { on := 10, ground := Ground.data }, { on := 8, ground := Ground.chain }, { on := 8, ground := Ground.guard }], guard := some (8, false) }) rfl (fun K hK => ?_) AllReadyH.nil
        go_simp
        (go_at_call 6; refine Calls.mono (g3 _ ?hjgJ8) ?_; (case hjgJ8 => ((with_reducible (repeat (first | assumption | exact Ext.refl _ | apply Ext.alloc | apply Ext.drew | apply Ext.drewN))); done)); rintro e y8 ⟨rfl, Ey8⟩; have Zy8 : Ext wc y8 := Ext.trans (by ((with_reducible (repeat (first | assumption | exact Ext.refl _ | apply Ext.alloc | apply Ext.drew | apply Ext.drewN))); done)) Ey8)
        try go_wp2_with fail
        refine hK.out _ _ ?_ (fun hHeld1 => ?_)
        · (try dsimp only); (refine mkS.out _ ?_; ((with_reducible (repeat (first | assumption | exact Ext.refl _ | apply Ext.alloc | apply Ext.drew | apply Ext.drewN))); done))
        clear hK K hHeld0
        try simp only [Act.put, List.setIfInBounds_toArray, List.set_cons_zero, List.set_cons_succ]
        refine wpAnyH_take (i := 13) (oi := { dst := some 62, op := Op.binOp BinOp.eql 23 (Operand.tmp 60) (Operand.tmp 61) 23, type := 4, pos := "law.go:43", after := #[{ on := 11, ground := Ground.data }, { on := 12, ground := Ground.data }, { on := 8, ground := Ground.guard }], guard := some (8, false) }) (v := ?_) rfl (by kernel_rfl) (by kernel_rfl) (by kernel_rfl) (fun _ _ _ h => h) (Or.inl ⟨by rfl, ?_⟩) (by assumption) ?_
        rotate_left
        · intro w hSw; (try dsimp only at hSw); first | (go_simp; done) | (go_simp; with_reducible rfl)
        try simp only [Act.put, List.setIfInBounds_toArray, List.set_cons_zero, List.set_cons_succ]
        refine wpAnyH_take (i := 14) (oi := { dst := some 63, op := Op.pick (Operand.tmp 57) (Operand.const (Value.bool true)) (Operand.tmp 62), type := 4, pos := "law.go:43", after := #[{ on := 8, ground := Ground.data }, { on := 13, ground := Ground.data }], guard := none }) (v := ?_) rfl (by kernel_rfl) (by kernel_rfl) (by kernel_rfl) (fun _ _ _ h => h) (Or.inl ⟨by rfl, ?_⟩) (by assumption) ?_
        rotate_left
        · intro w hSw; (try dsimp only at hSw); first | (go_simp; done) | (go_simp; with_reducible rfl)
        try simp only [Act.put, List.setIfInBounds_toArray, List.set_cons_zero, List.set_cons_succ]
        refine wpAnyH_take (i := 15) (oi := { dst := some 64, op := Op.move (Operand.tmp 63), type := 4, pos := "law.go:43", after := #[{ on := 14, ground := Ground.data }, { on := 11, ground := Ground.chain }], guard := none }) (v := ?_) rfl (by kernel_rfl) (by kernel_rfl) (by kernel_rfl) (fun _ _ _ h => h) (Or.inl ⟨by rfl, ?_⟩) (by assumption) ?_
        rotate_left
        · intro w hSw; (try dsimp only at hSw); first | (go_simp; done) | (go_simp; with_reducible rfl)
        try simp only [Act.put, List.setIfInBounds_toArray, List.set_cons_zero, List.set_cons_succ]
        refine wpAnyH_ready (rs := [16]) (by kernel_rfl) (by simp) ?_
        refine AllReadyH.cons (o := { dst := some 65, op := Op.call { callee := Callee.value (Operand.func 10), args := #[], argTypes := #[] }, type := 4, pos := "law.go:43", after := #[{ on := 15, ground := Ground.chain }, { on := 15, ground := Ground.guard }], guard := some (15, true) }) rfl (fun K hK => ?_) AllReadyH.nil
        go_simp
        (go_at_call 10; refine Calls.mono (gl _ ?hlgJ) ?_; (case hlgJ => ((with_reducible (repeat (first | assumption | exact Ext.refl _ | apply Ext.alloc | apply Ext.drew | apply Ext.drewN))); done)); rintro e y9 ⟨rfl, Ey9⟩; have Zy9 : Ext wc y9 := Ext.trans (by ((with_reducible (repeat (first | assumption | exact Ext.refl _ | apply Ext.alloc | apply Ext.drew | apply Ext.drewN))); done)) Ey9)
        try go_wp2_with fail
        refine hK.out _ _ ?_ (fun hHeld2 => ?_)
        · (try dsimp only); (refine mkS.out _ ?_; ((with_reducible (repeat (first | assumption | exact Ext.refl _ | apply Ext.alloc | apply Ext.drew | apply Ext.drewN))); done))
        clear hK K hHeld1
        try simp only [Act.put, List.setIfInBounds_toArray, List.set_cons_zero, List.set_cons_succ]
        refine wpAnyH_take (i := 17) (oi := { dst := some 66, op := Op.pick (Operand.tmp 64) (Operand.tmp 65) (Operand.const (Value.bool false)), type := 4, pos := "law.go:43", after := #[{ on := 15, ground := Ground.data }, { on := 16, ground := Ground.data }], guard := none }) (v := ?_) rfl (by kernel_rfl) (by kernel_rfl) (by kernel_rfl) (fun _ _ _ h => h) (Or.inl ⟨by rfl, ?_⟩) (by assumption) ?_
        rotate_left
        · intro w hSw; (try dsimp only at hSw); first | (go_simp; done) | (go_simp; with_reducible rfl)
        try simp only [Act.put, List.setIfInBounds_toArray, List.set_cons_zero, List.set_cons_succ]
        refine wpAnyH_take (i := 18) (oi := { dst := some 6, op := Op.assign (Operand.tmp 66), type := 4, pos := "law.go:43", after := #[{ on := 17, ground := Ground.data }, { on := 16, ground := Ground.chain }, { on := 0, ground := Ground.phase }, { on := 1, ground := Ground.phase }, { on := 2, ground := Ground.phase }, { on := 3, ground := Ground.phase }, { on := 4, ground := Ground.phase }, { on := 5, ground := Ground.phase }, { on := 6, ground := Ground.phase }, { on := 7, ground := Ground.phase }, { on := 8, ground := Ground.phase }, { on := 9, ground := Ground.phase }, { on := 10, ground := Ground.phase }, { on := 11, ground := Ground.phase }, { on := 12, ground := Ground.phase }, { on := 13, ground := Ground.phase }, { on := 14, ground := Ground.phase }, { on := 15, ground := Ground.phase }, { on := 16, ground := Ground.phase }, { on := 17, ground := Ground.phase }], guard := none }) (v := ?_) rfl (by kernel_rfl) (by kernel_rfl) (by kernel_rfl) (fun _ _ _ h => h) (Or.inl ⟨by rfl, ?_⟩) (by assumption) ?_
        rotate_left
        · intro w hSw; (try dsimp only at hSw); first | (go_simp; done) | (go_simp; with_reducible rfl)
        try simp only [Act.put, List.setIfInBounds_toArray, List.set_cons_zero, List.set_cons_succ]
        refine wpAnyH_done (by kernel_rfl) ?_ _
        go_wp2_with fail
        go_ret
        exact ⟨ret_bool rfl, XV.trans (by assumption)⟩
      · have hq' : (qk == 4) = false := by simpa using hq
        have hq2 : (qk != 4) = true := by simpa using hq
        clear HA HB hN hT hp hq g3
        have mkS : Hid (∀ W, Ext wc W → (W.cell? ⟨bx, 0, none⟩ = some (.int .i64 pk) ∧ W.cell? ⟨bx, 1, none⟩ = some (.int .i64 pn) ∧ W.cell? ⟨bx, 2, none⟩ = some (.string ps) ∧ W.cell? ⟨bx, 3, none⟩ = some (.int .i64 pe)) ∧ (W.cell? ⟨bY, 0, none⟩ = some (.int .i64 qk) ∧ W.cell? ⟨bY, 1, none⟩ = some (.int .i64 qn) ∧ W.cell? ⟨bY, 2, none⟩ = some (.string qs) ∧ W.cell? ⟨bY, 3, none⟩ = some (.int .i64 qe)) ∧ (W.cell? ⟨w.heap.size, 0, none⟩ = some (.int .i64 ka) ∧ W.cell? ⟨w.heap.size, 1, none⟩ = some (.int .i64 na) ∧ W.cell? ⟨w.heap.size, 2, none⟩ = some (.string sa) ∧ W.cell? ⟨w.heap.size, 3, none⟩ = some (.int .i64 ea)) ∧ (W.cell? ⟨w.heap.size + 1, 0, none⟩ = some (.int .i64 kb) ∧ W.cell? ⟨w.heap.size + 1, 1, none⟩ = some (.int .i64 nb) ∧ W.cell? ⟨w.heap.size + 1, 2, none⟩ = some (.string sb) ∧ W.cell? ⟨w.heap.size + 1, 3, none⟩ = some (.int .i64 eb)) ∧ Ext wc W) := by
          show ∀ W, _
          intro W h
          exact ⟨(NX.ext h).2.1, (NY.ext h).2.1, (NA.ext h).2.1, (NB.ext h).2.1, h⟩
        clear NX NY NA NB
        go_upto_region 5 with fail
        refine wp_region_held_drew (S := (fun W => (W.cell? ⟨bx, 0, none⟩ = some (.int .i64 pk) ∧ W.cell? ⟨bx, 1, none⟩ = some (.int .i64 pn) ∧ W.cell? ⟨bx, 2, none⟩ = some (.string ps) ∧ W.cell? ⟨bx, 3, none⟩ = some (.int .i64 pe)) ∧ (W.cell? ⟨bY, 0, none⟩ = some (.int .i64 qk) ∧ W.cell? ⟨bY, 1, none⟩ = some (.int .i64 qn) ∧ W.cell? ⟨bY, 2, none⟩ = some (.string qs) ∧ W.cell? ⟨bY, 3, none⟩ = some (.int .i64 qe)) ∧ (W.cell? ⟨w.heap.size, 0, none⟩ = some (.int .i64 ka) ∧ W.cell? ⟨w.heap.size, 1, none⟩ = some (.int .i64 na) ∧ W.cell? ⟨w.heap.size, 2, none⟩ = some (.string sa) ∧ W.cell? ⟨w.heap.size, 3, none⟩ = some (.int .i64 ea)) ∧ (W.cell? ⟨w.heap.size + 1, 0, none⟩ = some (.int .i64 kb) ∧ W.cell? ⟨w.heap.size + 1, 1, none⟩ = some (.int .i64 nb) ∧ W.cell? ⟨w.heap.size + 1, 2, none⟩ = some (.string sb) ∧ W.cell? ⟨w.heap.size + 1, 3, none⟩ = some (.int .i64 eb)) ∧ Ext wc W)) (by kernel_rfl) ?_ (fun hHeld0 => ?_)
        · (refine mkS.out _ ?_; ((with_reducible (repeat (first | assumption | exact Ext.refl _ | apply Ext.alloc | apply Ext.drew | apply Ext.drewN))); done))
        refine wpAnyH_take (i := 0) (oi := { dst := some 33, op := Op.fieldAddr 23 (Operand.tmp 8) 0, type := 0, pos := "law.go:40", after := #[], guard := none }) (v := ?_) rfl (by kernel_rfl) (by kernel_rfl) (by kernel_rfl) (fun _ _ _ h => h) (Or.inl ⟨by rfl, ?_⟩) (by assumption) ?_
        rotate_left
        · intro w hSw; (try dsimp only at hSw); first | (go_simp; done) | (go_simp; with_reducible rfl)
        try simp only [Act.put, List.setIfInBounds_toArray, List.set_cons_zero, List.set_cons_succ]
        refine wpAnyH_take (i := 1) (oi := { dst := some 34, op := Op.load 3 (Operand.tmp 33), type := 3, pos := "law.go:40", after := #[{ on := 0, ground := Ground.data }], guard := none }) (v := ?_) rfl (by kernel_rfl) (by kernel_rfl) (by kernel_rfl) (fun _ _ _ h => h) (Or.inl ⟨by rfl, ?_⟩) (by assumption) ?_
        rotate_left
        · intro w hSw; (try dsimp only at hSw); first | (go_simp; done) | (go_simp; with_reducible rfl)
        try simp only [Act.put, List.setIfInBounds_toArray, List.set_cons_zero, List.set_cons_succ]
        refine wpAnyH_take (i := 2) (oi := { dst := some 35, op := Op.binOp BinOp.eql 3 (Operand.tmp 34) (Operand.const (Value.int IntKind.i64 4)) 3, type := 4, pos := "law.go:40", after := #[{ on := 1, ground := Ground.data }], guard := none }) (v := ?_) rfl (by kernel_rfl) (by kernel_rfl) (by kernel_rfl) (fun _ _ _ h => h) (Or.inl ⟨by rfl, ?_⟩) (by assumption) ?_
        rotate_left
        · intro w hSw; (try dsimp only at hSw); first | (go_simp; done) | (go_simp; with_reducible rfl)
        try simp only [Act.put, List.setIfInBounds_toArray, List.set_cons_zero, List.set_cons_succ]
        refine wpAnyH_take (i := 3) (oi := { dst := some 36, op := Op.move (Operand.tmp 35), type := 4, pos := "law.go:40", after := #[{ on := 2, ground := Ground.data }], guard := none }) (v := ?_) rfl (by kernel_rfl) (by kernel_rfl) (by kernel_rfl) (fun _ _ _ h => h) (Or.inl ⟨by rfl, ?_⟩) (by assumption) ?_
        rotate_left
        · intro w hSw; (try dsimp only at hSw); first | (go_simp; done) | (go_simp; with_reducible rfl)
        try simp only [Act.put, List.setIfInBounds_toArray, List.set_cons_zero, List.set_cons_succ]
        refine wpAnyH_take (i := 4) (oi := { dst := some 37, op := Op.fieldAddr 23 (Operand.tmp 8) 3, type := 0, pos := "law.go:40", after := #[{ on := 3, ground := Ground.guard }], guard := some (3, true) }) (v := undef) rfl (by kernel_rfl) (by kernel_rfl) (by kernel_rfl) (fun _ _ _ h => h) (Or.inr ⟨by rfl, rfl⟩) (by assumption) ?_
        try simp only [Act.put, List.setIfInBounds_toArray, List.set_cons_zero, List.set_cons_succ]
        refine wpAnyH_take (i := 5) (oi := { dst := some 38, op := Op.load 3 (Operand.tmp 37), type := 3, pos := "law.go:40", after := #[{ on := 4, ground := Ground.data }, { on := 3, ground := Ground.guard }], guard := some (3, true) }) (v := undef) rfl (by kernel_rfl) (by kernel_rfl) (by kernel_rfl) (fun _ _ _ h => h) (Or.inr ⟨by rfl, rfl⟩) (by assumption) ?_
        try simp only [Act.put, List.setIfInBounds_toArray, List.set_cons_zero, List.set_cons_succ]
        refine wpAnyH_take (i := 6) (oi := { dst := some 39, op := Op.call { callee := Callee.value (Operand.func 9), args := #[Operand.tmp 38], argTypes := #[3] }, type := 9, pos := "law.go:40", after := #[{ on := 5, ground := Ground.data }, { on := 3, ground := Ground.chain }, { on := 3, ground := Ground.guard }], guard := some (3, true) }) (v := undef) rfl (by kernel_rfl) (by kernel_rfl) (by kernel_rfl) (fun _ _ _ h => h) (Or.inr ⟨by rfl, rfl⟩) (by assumption) ?_
        try simp only [Act.put, List.setIfInBounds_toArray, List.set_cons_zero, List.set_cons_succ]
        refine wpAnyH_take (i := 7) (oi := { dst := some 40, op := Op.binOp BinOp.neq 9 (Operand.tmp 39) (Operand.const (Value.string { data := #[] })) 9, type := 4, pos := "law.go:40", after := #[{ on := 6, ground := Ground.data }, { on := 3, ground := Ground.guard }], guard := some (3, true) }) (v := undef) rfl (by kernel_rfl) (by kernel_rfl) (by kernel_rfl) (fun _ _ _ h => h) (Or.inr ⟨by rfl, rfl⟩) (by assumption) ?_
        try simp only [Act.put, List.setIfInBounds_toArray, List.set_cons_zero, List.set_cons_succ]
        refine wpAnyH_take (i := 8) (oi := { dst := some 41, op := Op.pick (Operand.tmp 36) (Operand.tmp 40) (Operand.const (Value.bool false)), type := 4, pos := "law.go:40", after := #[{ on := 3, ground := Ground.data }, { on := 7, ground := Ground.data }], guard := none }) (v := ?_) rfl (by kernel_rfl) (by kernel_rfl) (by kernel_rfl) (fun _ _ _ h => h) (Or.inl ⟨by rfl, ?_⟩) (by assumption) ?_
        rotate_left
        · intro w hSw; (try dsimp only at hSw); first | (go_simp; done) | (go_simp; with_reducible rfl)
        try simp only [Act.put, List.setIfInBounds_toArray, List.set_cons_zero, List.set_cons_succ]
        refine wpAnyH_take (i := 9) (oi := { dst := some 42, op := Op.move (Operand.tmp 41), type := 4, pos := "law.go:40", after := #[{ on := 8, ground := Ground.data }, { on := 6, ground := Ground.chain }], guard := none }) (v := ?_) rfl (by kernel_rfl) (by kernel_rfl) (by kernel_rfl) (fun _ _ _ h => h) (Or.inl ⟨by rfl, ?_⟩) (by assumption) ?_
        rotate_left
        · intro w hSw; (try dsimp only at hSw); first | (go_simp; done) | (go_simp; with_reducible rfl)
        try simp only [Act.put, List.setIfInBounds_toArray, List.set_cons_zero, List.set_cons_succ]
        refine wpAnyH_take (i := 10) (oi := { dst := some 43, op := Op.load 23 (Operand.tmp 4), type := 23, pos := "law.go:40", after := #[{ on := 9, ground := Ground.guard }], guard := some (9, true) }) (v := undef) rfl (by kernel_rfl) (by kernel_rfl) (by kernel_rfl) (fun _ _ _ h => h) (Or.inr ⟨by rfl, rfl⟩) (by assumption) ?_
        try simp only [Act.put, List.setIfInBounds_toArray, List.set_cons_zero, List.set_cons_succ]
        refine wpAnyH_take (i := 11) (oi := { dst := some 44, op := Op.load 23 (Operand.tmp 5), type := 23, pos := "law.go:40", after := #[{ on := 9, ground := Ground.guard }], guard := some (9, true) }) (v := undef) rfl (by kernel_rfl) (by kernel_rfl) (by kernel_rfl) (fun _ _ _ h => h) (Or.inr ⟨by rfl, rfl⟩) (by assumption) ?_
        try simp only [Act.put, List.setIfInBounds_toArray, List.set_cons_zero, List.set_cons_succ]
        refine wpAnyH_take (i := 12) (oi := { dst := some 45, op := Op.call { callee := Callee.value (Operand.func 6), args := #[Operand.tmp 43, Operand.tmp 44], argTypes := #[23, 23] }, type := 23, pos := "law.go:40", after := #[{ on := 10, ground := Ground.data }, { on := 11, ground := Ground.data }, { on := 9, ground := Ground.chain }, { on := 9, ground := Ground.guard }], guard := some (9, true) }) (v := undef) rfl (by kernel_rfl) (by kernel_rfl) (by kernel_rfl) (fun _ _ _ h => h) (Or.inr ⟨by rfl, rfl⟩) (by assumption) ?_
        try simp only [Act.put, List.setIfInBounds_toArray, List.set_cons_zero, List.set_cons_succ]
        refine wpAnyH_take (i := 13) (oi := { dst := some 46, op := Op.load 23 (Operand.tmp 8), type := 23, pos := "law.go:40", after := #[{ on := 9, ground := Ground.guard }], guard := some (9, true) }) (v := undef) rfl (by kernel_rfl) (by kernel_rfl) (by kernel_rfl) (fun _ _ _ h => h) (Or.inr ⟨by rfl, rfl⟩) (by assumption) ?_
        try simp only [Act.put, List.setIfInBounds_toArray, List.set_cons_zero, List.set_cons_succ]
        refine wpAnyH_take (i := 14) (oi := { dst := some 47, op := Op.binOp BinOp.neq 23 (Operand.tmp 45) (Operand.tmp 46) 23, type := 4, pos := "law.go:40", after := #[{ on := 12, ground := Ground.data }, { on := 13, ground := Ground.data }, { on := 9, ground := Ground.guard }], guard := some (9, true) }) (v := undef) rfl (by kernel_rfl) (by kernel_rfl) (by kernel_rfl) (fun _ _ _ h => h) (Or.inr ⟨by rfl, rfl⟩) (by assumption) ?_
        try simp only [Act.put, List.setIfInBounds_toArray, List.set_cons_zero, List.set_cons_succ]
        refine wpAnyH_take (i := 15) (oi := { dst := some 48, op := Op.pick (Operand.tmp 42) (Operand.tmp 47) (Operand.const (Value.bool false)), type := 4, pos := "law.go:40", after := #[{ on := 9, ground := Ground.data }, { on := 14, ground := Ground.data }], guard := none }) (v := ?_) rfl (by kernel_rfl) (by kernel_rfl) (by kernel_rfl) (fun _ _ _ h => h) (Or.inl ⟨by rfl, ?_⟩) (by assumption) ?_
        rotate_left
        · intro w hSw; (try dsimp only at hSw); first | (go_simp; done) | (go_simp; with_reducible rfl)
        try simp only [Act.put, List.setIfInBounds_toArray, List.set_cons_zero, List.set_cons_succ]
        refine wpAnyH_done (by kernel_rfl) ?_ _
        go_wp2_with fail
        refine wp_region_held_drew (S := (fun W => (W.cell? ⟨bx, 0, none⟩ = some (.int .i64 pk) ∧ W.cell? ⟨bx, 1, none⟩ = some (.int .i64 pn) ∧ W.cell? ⟨bx, 2, none⟩ = some (.string ps) ∧ W.cell? ⟨bx, 3, none⟩ = some (.int .i64 pe)) ∧ (W.cell? ⟨bY, 0, none⟩ = some (.int .i64 qk) ∧ W.cell? ⟨bY, 1, none⟩ = some (.int .i64 qn) ∧ W.cell? ⟨bY, 2, none⟩ = some (.string qs) ∧ W.cell? ⟨bY, 3, none⟩ = some (.int .i64 qe)) ∧ (W.cell? ⟨w.heap.size, 0, none⟩ = some (.int .i64 ka) ∧ W.cell? ⟨w.heap.size, 1, none⟩ = some (.int .i64 na) ∧ W.cell? ⟨w.heap.size, 2, none⟩ = some (.string sa) ∧ W.cell? ⟨w.heap.size, 3, none⟩ = some (.int .i64 ea)) ∧ (W.cell? ⟨w.heap.size + 1, 0, none⟩ = some (.int .i64 kb) ∧ W.cell? ⟨w.heap.size + 1, 1, none⟩ = some (.int .i64 nb) ∧ W.cell? ⟨w.heap.size + 1, 2, none⟩ = some (.string sb) ∧ W.cell? ⟨w.heap.size + 1, 3, none⟩ = some (.int .i64 eb)) ∧ Ext wc W)) (by kernel_rfl) ?_ (fun hHeld0 => ?_)
        · (refine mkS.out _ ?_; ((with_reducible (repeat (first | assumption | exact Ext.refl _ | apply Ext.alloc | apply Ext.drew | apply Ext.drewN))); done))
        refine wpAnyH_take (i := 0) (oi := { dst := some 49, op := Op.fieldAddr 23 (Operand.tmp 8) 0, type := 0, pos := "law.go:43", after := #[], guard := none }) (v := ?_) rfl (by kernel_rfl) (by kernel_rfl) (by kernel_rfl) (fun _ _ _ h => h) (Or.inl ⟨by rfl, ?_⟩) (by assumption) ?_
        rotate_left
        · intro w hSw; (try dsimp only at hSw); first | (go_simp; done) | (go_simp; with_reducible rfl)
        try simp only [Act.put, List.setIfInBounds_toArray, List.set_cons_zero, List.set_cons_succ]
        refine wpAnyH_take (i := 1) (oi := { dst := some 50, op := Op.load 3 (Operand.tmp 49), type := 3, pos := "law.go:43", after := #[{ on := 0, ground := Ground.data }], guard := none }) (v := ?_) rfl (by kernel_rfl) (by kernel_rfl) (by kernel_rfl) (fun _ _ _ h => h) (Or.inl ⟨by rfl, ?_⟩) (by assumption) ?_
        rotate_left
        · intro w hSw; (try dsimp only at hSw); first | (go_simp; done) | (go_simp; with_reducible rfl)
        try simp only [Act.put, List.setIfInBounds_toArray, List.set_cons_zero, List.set_cons_succ]
        refine wpAnyH_take (i := 2) (oi := { dst := some 51, op := Op.binOp BinOp.eql 3 (Operand.tmp 50) (Operand.const (Value.int IntKind.i64 4)) 3, type := 4, pos := "law.go:43", after := #[{ on := 1, ground := Ground.data }], guard := none }) (v := ?_) rfl (by kernel_rfl) (by kernel_rfl) (by kernel_rfl) (fun _ _ _ h => h) (Or.inl ⟨by rfl, ?_⟩) (by assumption) ?_
        rotate_left
        · intro w hSw; (try dsimp only at hSw); first | (go_simp; done) | (go_simp; with_reducible rfl)
        try simp only [Act.put, List.setIfInBounds_toArray, List.set_cons_zero, List.set_cons_succ]
        refine wpAnyH_take (i := 3) (oi := { dst := some 52, op := Op.move (Operand.tmp 51), type := 4, pos := "law.go:43", after := #[{ on := 2, ground := Ground.data }], guard := none }) (v := ?_) rfl (by kernel_rfl) (by kernel_rfl) (by kernel_rfl) (fun _ _ _ h => h) (Or.inl ⟨by rfl, ?_⟩) (by assumption) ?_
        rotate_left
        · intro w hSw; (try dsimp only at hSw); first | (go_simp; done) | (go_simp; with_reducible rfl)
        try simp only [Act.put, List.setIfInBounds_toArray, List.set_cons_zero, List.set_cons_succ]
        refine wpAnyH_take (i := 4) (oi := { dst := some 53, op := Op.fieldAddr 23 (Operand.tmp 9) 0, type := 0, pos := "law.go:43", after := #[{ on := 3, ground := Ground.guard }], guard := some (3, false) }) (v := ?_) rfl (by kernel_rfl) (by kernel_rfl) (by kernel_rfl) (fun _ _ _ h => h) (Or.inl ⟨by rfl, ?_⟩) (by assumption) ?_
        rotate_left
        · intro w hSw; (try dsimp only at hSw); first | (go_simp; done) | (go_simp; with_reducible rfl)
        try simp only [Act.put, List.setIfInBounds_toArray, List.set_cons_zero, List.set_cons_succ]
        refine wpAnyH_take (i := 5) (oi := { dst := some 54, op := Op.load 3 (Operand.tmp 53), type := 3, pos := "law.go:43", after := #[{ on := 4, ground := Ground.data }, { on := 3, ground := Ground.guard }], guard := some (3, false) }) (v := ?_) rfl (by kernel_rfl) (by kernel_rfl) (by kernel_rfl) (fun _ _ _ h => h) (Or.inl ⟨by rfl, ?_⟩) (by assumption) ?_
        rotate_left
        · intro w hSw; (try dsimp only at hSw); first | (go_simp; done) | (go_simp; with_reducible rfl)
        try simp only [Act.put, List.setIfInBounds_toArray, List.set_cons_zero, List.set_cons_succ]
        refine wpAnyH_take (i := 6) (oi := { dst := some 55, op := Op.binOp BinOp.neq 3 (Operand.tmp 54) (Operand.const (Value.int IntKind.i64 4)) 3, type := 4, pos := "law.go:43", after := #[{ on := 5, ground := Ground.data }, { on := 3, ground := Ground.guard }], guard := some (3, false) }) (v := ?_) rfl (by kernel_rfl) (by kernel_rfl) (by kernel_rfl) (fun _ _ _ h => h) (Or.inl ⟨by rfl, ?_⟩) (by assumption) ?_
        rotate_left
        · intro w hSw; (try dsimp only at hSw); first | (go_simp; done) | (go_simp; with_reducible rfl)
        try simp only [Act.put, List.setIfInBounds_toArray, List.set_cons_zero, List.set_cons_succ]
        refine wpAnyH_take (i := 7) (oi := { dst := some 56, op := Op.pick (Operand.tmp 52) (Operand.const (Value.bool true)) (Operand.tmp 55), type := 4, pos := "law.go:43", after := #[{ on := 3, ground := Ground.data }, { on := 6, ground := Ground.data }], guard := none }) (v := ?_) rfl (by kernel_rfl) (by kernel_rfl) (by kernel_rfl) (fun _ _ _ h => h) (Or.inl ⟨by rfl, ?_⟩) (by assumption) ?_
        rotate_left
        · intro w hSw; (try dsimp only at hSw); first | (go_simp; done) | (go_simp; with_reducible rfl)
        try simp only [Act.put, List.setIfInBounds_toArray, List.set_cons_zero, List.set_cons_succ]
        refine wpAnyH_take (i := 8) (oi := { dst := some 57, op := Op.move (Operand.tmp 56), type := 4, pos := "law.go:43", after := #[{ on := 7, ground := Ground.data }, { on := 3, ground := Ground.chain }], guard := none }) (v := ?_) rfl (by kernel_rfl) (by kernel_rfl) (by kernel_rfl) (fun _ _ _ h => h) (Or.inl ⟨by rfl, ?_⟩) (by assumption) ?_
        rotate_left
        · intro w hSw; (try dsimp only at hSw); first | (go_simp; done) | (go_simp; with_reducible rfl)
        try simp only [Act.put, List.setIfInBounds_toArray, List.set_cons_zero, List.set_cons_succ]
        refine wpAnyH_take (i := 9) (oi := { dst := some 58, op := Op.load 23 (Operand.tmp 4), type := 23, pos := "law.go:43", after := #[{ on := 8, ground := Ground.guard }], guard := some (8, false) }) (v := undef) rfl (by kernel_rfl) (by kernel_rfl) (by kernel_rfl) (fun _ _ _ h => h) (Or.inr ⟨by rfl, rfl⟩) (by assumption) ?_
        try simp only [Act.put, List.setIfInBounds_toArray, List.set_cons_zero, List.set_cons_succ]
        refine wpAnyH_take (i := 10) (oi := { dst := some 59, op := Op.load 23 (Operand.tmp 5), type := 23, pos := "law.go:43", after := #[{ on := 8, ground := Ground.guard }], guard := some (8, false) }) (v := undef) rfl (by kernel_rfl) (by kernel_rfl) (by kernel_rfl) (fun _ _ _ h => h) (Or.inr ⟨by rfl, rfl⟩) (by assumption) ?_
        try simp only [Act.put, List.setIfInBounds_toArray, List.set_cons_zero, List.set_cons_succ]
        refine wpAnyH_take (i := 11) (oi := { dst := some 60, op := Op.call { callee := Callee.value (Operand.func 6), args := #[Operand.tmp 58, Operand.tmp 59], argTypes := #[23, 23] }, type := 23, pos := "law.go:43", after := #[{ on := 9, ground := Ground.data }, { on := 10, ground := Ground.data }, { on := 8, ground := Ground.chain }, { on := 8, ground := Ground.guard }], guard := some (8, false) }) (v := undef) rfl (by kernel_rfl) (by kernel_rfl) (by kernel_rfl) (fun _ _ _ h => h) (Or.inr ⟨by rfl, rfl⟩) (by assumption) ?_
        try simp only [Act.put, List.setIfInBounds_toArray, List.set_cons_zero, List.set_cons_succ]
        refine wpAnyH_take (i := 12) (oi := { dst := some 61, op := Op.load 23 (Operand.tmp 9), type := 23, pos := "law.go:43", after := #[{ on := 8, ground := Ground.guard }], guard := some (8, false) }) (v := undef) rfl (by kernel_rfl) (by kernel_rfl) (by kernel_rfl) (fun _ _ _ h => h) (Or.inr ⟨by rfl, rfl⟩) (by assumption) ?_
        try simp only [Act.put, List.setIfInBounds_toArray, List.set_cons_zero, List.set_cons_succ]
        refine wpAnyH_take (i := 13) (oi := { dst := some 62, op := Op.binOp BinOp.eql 23 (Operand.tmp 60) (Operand.tmp 61) 23, type := 4, pos := "law.go:43", after := #[{ on := 11, ground := Ground.data }, { on := 12, ground := Ground.data }, { on := 8, ground := Ground.guard }], guard := some (8, false) }) (v := undef) rfl (by kernel_rfl) (by kernel_rfl) (by kernel_rfl) (fun _ _ _ h => h) (Or.inr ⟨by rfl, rfl⟩) (by assumption) ?_
        try simp only [Act.put, List.setIfInBounds_toArray, List.set_cons_zero, List.set_cons_succ]
        refine wpAnyH_take (i := 14) (oi := { dst := some 63, op := Op.pick (Operand.tmp 57) (Operand.const (Value.bool true)) (Operand.tmp 62), type := 4, pos := "law.go:43", after := #[{ on := 8, ground := Ground.data }, { on := 13, ground := Ground.data }], guard := none }) (v := ?_) rfl (by kernel_rfl) (by kernel_rfl) (by kernel_rfl) (fun _ _ _ h => h) (Or.inl ⟨by rfl, ?_⟩) (by assumption) ?_
        rotate_left
        · intro w hSw; (try dsimp only at hSw); first | (go_simp; done) | (go_simp; with_reducible rfl)
        try simp only [Act.put, List.setIfInBounds_toArray, List.set_cons_zero, List.set_cons_succ]
        refine wpAnyH_take (i := 15) (oi := { dst := some 64, op := Op.move (Operand.tmp 63), type := 4, pos := "law.go:43", after := #[{ on := 14, ground := Ground.data }, { on := 11, ground := Ground.chain }], guard := none }) (v := ?_) rfl (by kernel_rfl) (by kernel_rfl) (by kernel_rfl) (fun _ _ _ h => h) (Or.inl ⟨by rfl, ?_⟩) (by assumption) ?_
        rotate_left
        · intro w hSw; (try dsimp only at hSw); first | (go_simp; done) | (go_simp; with_reducible rfl)
        try simp only [Act.put, List.setIfInBounds_toArray, List.set_cons_zero, List.set_cons_succ]
        refine wpAnyH_ready (rs := [16]) (by kernel_rfl) (by simp) ?_
        refine AllReadyH.cons (o := { dst := some 65, op := Op.call { callee := Callee.value (Operand.func 10), args := #[], argTypes := #[] }, type := 4, pos := "law.go:43", after := #[{ on := 15, ground := Ground.chain }, { on := 15, ground := Ground.guard }], guard := some (15, true) }) rfl (fun K hK => ?_) AllReadyH.nil
        go_simp
        (go_at_call 10; refine Calls.mono (gl _ ?hlgN) ?_; (case hlgN => ((with_reducible (repeat (first | assumption | exact Ext.refl _ | apply Ext.alloc | apply Ext.drew | apply Ext.drewN))); done)); rintro e y9 ⟨rfl, Ey9⟩; have Zy9 : Ext wc y9 := Ext.trans (by ((with_reducible (repeat (first | assumption | exact Ext.refl _ | apply Ext.alloc | apply Ext.drew | apply Ext.drewN))); done)) Ey9)
        try go_wp2_with fail
        refine hK.out _ _ ?_ (fun hHeld1 => ?_)
        · (try dsimp only); (refine mkS.out _ ?_; ((with_reducible (repeat (first | assumption | exact Ext.refl _ | apply Ext.alloc | apply Ext.drew | apply Ext.drewN))); done))
        clear hK K hHeld0
        try simp only [Act.put, List.setIfInBounds_toArray, List.set_cons_zero, List.set_cons_succ]
        refine wpAnyH_take (i := 17) (oi := { dst := some 66, op := Op.pick (Operand.tmp 64) (Operand.tmp 65) (Operand.const (Value.bool false)), type := 4, pos := "law.go:43", after := #[{ on := 15, ground := Ground.data }, { on := 16, ground := Ground.data }], guard := none }) (v := ?_) rfl (by kernel_rfl) (by kernel_rfl) (by kernel_rfl) (fun _ _ _ h => h) (Or.inl ⟨by rfl, ?_⟩) (by assumption) ?_
        rotate_left
        · intro w hSw; (try dsimp only at hSw); first | (go_simp; done) | (go_simp; with_reducible rfl)
        try simp only [Act.put, List.setIfInBounds_toArray, List.set_cons_zero, List.set_cons_succ]
        refine wpAnyH_take (i := 18) (oi := { dst := some 6, op := Op.assign (Operand.tmp 66), type := 4, pos := "law.go:43", after := #[{ on := 17, ground := Ground.data }, { on := 16, ground := Ground.chain }, { on := 0, ground := Ground.phase }, { on := 1, ground := Ground.phase }, { on := 2, ground := Ground.phase }, { on := 3, ground := Ground.phase }, { on := 4, ground := Ground.phase }, { on := 5, ground := Ground.phase }, { on := 6, ground := Ground.phase }, { on := 7, ground := Ground.phase }, { on := 8, ground := Ground.phase }, { on := 9, ground := Ground.phase }, { on := 10, ground := Ground.phase }, { on := 11, ground := Ground.phase }, { on := 12, ground := Ground.phase }, { on := 13, ground := Ground.phase }, { on := 14, ground := Ground.phase }, { on := 15, ground := Ground.phase }, { on := 16, ground := Ground.phase }, { on := 17, ground := Ground.phase }], guard := none }) (v := ?_) rfl (by kernel_rfl) (by kernel_rfl) (by kernel_rfl) (fun _ _ _ h => h) (Or.inl ⟨by rfl, ?_⟩) (by assumption) ?_
        rotate_left
        · intro w hSw; (try dsimp only at hSw); first | (go_simp; done) | (go_simp; with_reducible rfl)
        try simp only [Act.put, List.setIfInBounds_toArray, List.set_cons_zero, List.set_cons_succ]
        refine wpAnyH_done (by kernel_rfl) ?_ _
        go_wp2_with fail
        go_ret
        exact ⟨ret_bool rfl, XV.trans (by assumption)⟩

theorem laidOut : laidOutB Tryz.prog = true := by kernel_rfl
theorem cellsVal : Tryz.prog.cellsOf 23 = 4 := by kernel_rfl
set_option maxRecDepth 100000 in
theorem contract (H : Type) (enc : TypeId × Value → H) (W : World) (base : Nat) (args : Array Value) (ds gs : List (DataW H)) (before : List MemPlace)
    (hval0 : ∀ (j : Nat) t v, Tryz.f3.params[j]? = some t → args[j]? = some v → Value.okWide Tryz.prog W .any base t v)
    (hW : DataW.Whole enc Tryz.prog Tryz.f3.params.toList Rows.valueReckonsSpec.vars false W args.toList ds gs before) (hL : laidMetH Tryz.prog Rows.valueReckonsRow.laid W) :
    Calls Tryz.prog 3 args W fun e W' => ∃ v, e = .returned v ∧ Rows.valueReckonsSpec.post enc Tryz.prog Tryz.f3 false true false false W args v W' := by
  have hval := hval0
  have hW' := hW
  obtain ⟨p, q, hA0, hV, rfl, hfz, hnd⟩ := hW
  have hA : DataW.TrodAll enc Tryz.prog W 0 (fun _ => true) true Tryz.f3.params.toList args.toList ds p := hA0
  rw [Tryz.params3] at hA hval
  obtain ⟨v0, vs0, d0, ds0, p0, q0, hargs, rfl, rfl, h0, r0⟩ := trodAll_cons hA
  obtain ⟨v1, vs1, d1, ds1, p1, q1, rfl, rfl, rfl, h1, r1⟩ := trodAll_cons r0
  obtain ⟨v2, vs2, d2, ds2, p2, q2, rfl, rfl, rfl, h2, r2⟩ := trodAll_cons r1
  obtain ⟨rfl, rfl, rfl⟩ := trodAll_nil r2
  obtain rfl : args = #[v0, v1, v2] := by cases args; simp_all
  obtain ⟨rfl, rfl⟩ := trodVars_none hV
  obtain ⟨a0, rfl, rfl, rfl, w0⟩ := open_int Tryz.underlying5 (hval 0 5 v0 rfl rfl) h0
  have j1 := h1
  have lt1 : ∀ x ∈ p1, x.block < W.heap.size := by obtain ⟨m, hm⟩ := j1; exact DataW.trod_lt m _ _ _ hm
  obtain ⟨c0, c1, c2, c3, y0, y1, y2, y3, m1, rfl, hd1, hp1, hy0, hy1, hy2, hy3⟩ := open_agg4 Tryz.underlying23 (by kernel_rfl) cellsVal (hval 1 23 v1 rfl rfl) h1
  obtain ⟨k1, f0, _, wk1⟩ := DataW.trod_int Tryz.underlying3 hy0
  obtain ⟨n1, f1, _, wn1⟩ := DataW.trod_int Tryz.underlying2 hy1
  obtain ⟨e1, f3, _, we1⟩ := DataW.trod_int Tryz.underlying3 hy3
  obtain ⟨s1, f2, _, ws1⟩ := DataW.trod_string Tryz.underlying9 hy2
  simp only [List.cons.injEq, and_true] at f0 f1 f2 f3
  obtain rfl := f0
  obtain rfl := f1
  obtain rfl := f2
  obtain rfl := f3
  have j2 := h2
  have lt2 : ∀ x ∈ p2, x.block < W.heap.size := by obtain ⟨m, hm⟩ := j2; exact DataW.trod_lt m _ _ _ hm
  obtain ⟨c0, c1, c2, c3, y0, y1, y2, y3, m2, rfl, hd2, hp2, hy0, hy1, hy2, hy3⟩ := open_agg4 Tryz.underlying23 (by kernel_rfl) cellsVal (hval 2 23 v2 rfl rfl) h2
  obtain ⟨k2, f0, _, wk2⟩ := DataW.trod_int Tryz.underlying3 hy0
  obtain ⟨n2, f1, _, wn2⟩ := DataW.trod_int Tryz.underlying2 hy1
  obtain ⟨e2, f3, _, we2⟩ := DataW.trod_int Tryz.underlying3 hy3
  obtain ⟨s2, f2, _, ws2⟩ := DataW.trod_string Tryz.underlying9 hy2
  simp only [List.cons.injEq, and_true] at f0 f1 f2 f3
  obtain rfl := f0
  obtain rfl := f1
  obtain rfl := f2
  obtain rfl := f3
  clear hA0 hval0
  refine (walk a0 k1 n1 s1 e1 k2 n2 s2 e2 w0 wk1 wn1 ws1 we1 wk2 wn2 ws2 we2 W (nm_ofR hL) (tab_ofR hL)).mono fun e W' ⟨he, bel⟩ => ?_
  subst he
  exact ⟨_, rfl, _, _, _, [], _, [], hW', trodAll_mk1 (shut_bool Tryz.underlying4 _), (trodAll_cons_mk (shut_int Tryz.underlying5 w0) (trodAll_cons_mk (Below.trod laidOut (by kernel_rfl) (of_decide_eq_true (by kernel_rfl)) j1 bel lt1) (trodAll_cons_mk (Below.trod laidOut (by kernel_rfl) (of_decide_eq_true (by kernel_rfl)) j2 bel lt2) trodAll_mk0))), rfl, Below.frame bel _, fun h => by cases h⟩

theorem laid_met (os : Os) : laidMet Tryz.prog Rows.valueReckonsRow.laid ((laidWorldR os).forCall (fun _ _ => 0) ⟨#[], #[.int .u8 0, .agg #[.int .i64 0, .int .i64 0, .string ⟨#[]⟩, .int .i64 0], .agg #[.int .i64 0, .int .i64 0, .string ⟨#[]⟩, .int .i64 0]], []⟩).memory :=
  laidMet_of_run' 8 (by kernel_rfl) (by kernel_rfl)
theorem reads (os : Os) {H : Type} (enc : TypeId × Value → H) : ∃ places, DataW.whole enc Tryz.prog ((laidWorldR os).forCall (fun _ _ => 0) ⟨#[], #[.int .u8 0, .agg #[.int .i64 0, .int .i64 0, .string ⟨#[]⟩, .int .i64 0], .agg #[.int .i64 0, .int .i64 0, .string ⟨#[]⟩, .int .i64 0]], []⟩).memory Tryz.f3.params.toList Rows.valueReckonsSpec.vars false (#[.int .u8 0, .agg #[.int .i64 0, .int .i64 0, .string ⟨#[]⟩, .int .i64 0], .agg #[.int .i64 0, .int .i64 0, .string ⟨#[]⟩, .int .i64 0]] : Array Value).toList 8 = some ([.lit (.int .u8 0), .agg [.lit (.int .i64 0), .lit (.int .i64 0), .lit (.string []), .lit (.int .i64 0)], .agg [.lit (.int .i64 0), .lit (.int .i64 0), .lit (.string []), .lit (.int .i64 0)]], [], places) :=
  ⟨[], by kernel_rfl⟩

set_option maxRecDepth 100000 in
theorem lifted (os : Os) (started : os.Started) (H : Type) (enc : TypeId × Value → H) (F : Stop.Interp) :
    ReturnsInHanded {} Tryz.checked os 3 .any ((OpenSpec.ofChange Rows.valueReckonsSpec).preRow enc Tryz.prog Tryz.f3 Rows.valueReckonsRow.domain false Rows.valueReckonsRow.laid) (((OpenSpec.ofChange Rows.valueReckonsSpec).at F).post enc Tryz.prog Tryz.f3 false true false false) := by
  obtain ⟨places, hx⟩ := reads os enc
  refine returnsInHanded_of_row (C := Tryz.checked) (s := OpenSpec.ofChange Rows.valueReckonsSpec) ownK started (by kernel_rfl) Tryz.func3
    (witness_row_at (enc := enc) (C := Tryz.checked) false (laidWorldR os) #[.int .u8 0, .agg #[.int .i64 0, .int .i64 0, .string ⟨#[]⟩, .int .i64 0], .agg #[.int .i64 0, .int .i64 0, .string ⟨#[]⟩, .int .i64 0]] rfl (by kernel_rfl) (by kernel_rfl) (by kernel_rfl)
      (OpenSpec.preRow_of_cond 8 hx (by kernel_rfl) (fun k hk => by cases hk) (by kernel_rfl) (by
        rw [MakeChecks.laidMetH_plain _ _ _ (by kernel_rfl)]
        exact laid_met os))) ?_
  intro W base args ds gs before hval hW _ _ _ hL _ _
  exact contract H enc W base args ds gs before hval hW hL

theorem said : Rows.ValueReckonsSaid :=
  OpenClaim.holds_of_cond 3 Tryz.f3 rfl rfl rfl rfl rfl rfl rfl ⟨rfl, rfl, rfl, rfl, rfl⟩ rfl rfl rfl rfl rfl (by kernel_rfl) Tryz.func3 (by kernel_rfl)
    (of_decide_eq_true (by kernel_rfl)) (by unfold Func.isWrapper; first | (rw [if_pos (by decide +kernel)]; kernel_rfl) | (rw [if_neg (by decide +kernel)]; exact ⟨rfl, rfl⟩))
    (fun os started H enc _ F => by rw [OpenClaim.pre_eq_preRow]; exact lifted os started H enc F)

theorem plain (f : FuncId) (fn : Func) (hf : Tryz.pinned.checked.prog.funcNamed Rows.valueReckonsRow.func = some f) (hfn : Tryz.pinned.checked.prog.funcs[f]? = some fn) :
    false = Tryz.pinned.checked.prog.looks [] ∧ ∀ (j : Nat) t, fn.params[j]? = some t → Tryz.pinned.checked.prog.wantsStandIn t = false := by
  obtain rfl : f = 3 := Option.some.inj ((show Tryz.prog.funcNamed Rows.valueReckonsRow.func = some 3 by kernel_rfl).symm.trans hf) |>.symm
  obtain rfl : fn = Tryz.f3 := (Option.some.inj (Tryz.func3.symm.trans hfn)).symm
  refine ⟨by kernel_rfl, fun j t ht => ?_⟩
  rw [Tryz.params3] at ht
  have hm : t ∈ [5, 23, 23] := by simpa using Array.mem_of_getElem? ht
  have hall : ([5, 23, 23].all fun u => !Tryz.prog.wantsStandIn u) = true := by kernel_rfl
  exact (show Tryz.prog.wantsStandIn t = false by simpa using List.all_eq_true.1 hall t hm)

theorem card : Rows.ValueReckonsCardSaid :=
  Claim7.holds_tied_plain_at .later [] _ _ _ _ said (fun _ h => by cases h) (by kernel_rfl) (fun _ h => by cases h) valueReckons_row_tie rfl ⟨rfl, rfl⟩ (by kernel_rfl) rfl plain (by kernel_rfl)
end Go.Proofs.YtdmiddpfgmbbhaaGreatDoor.valueReckons
namespace Go.Proofs.YtdmiddpfgmbbhaaGreatDoor
theorem valueReckons_card : Rows.ValueReckonsCardSaid := valueReckons.card
end Go.Proofs.YtdmiddpfgmbbhaaGreatDoor
