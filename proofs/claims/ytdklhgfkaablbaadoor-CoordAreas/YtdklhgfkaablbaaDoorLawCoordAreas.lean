/-
  CoordAreas is proved: for every two rectangles the call returns true and the arguments read as they did. Its condition: the listed library tables lie as the program text lays them (the card ties them).
-/
import Derived.Test.YtdklhgfkaablbaaDoorCooV
import Derived.Test.YtdklhgfkaablbaaDoorLaid6
import Derived.Test.YtdklhgfkaablbaaDoorCards
import Derived.Test.YtdklhgfkaablbaaDoorTie
import Derived.ChangeMaps5
import Derived.Lib.SmallJoins
namespace Go.Proofs.YtdklhgfkaablbaaDoor.coordAreas
open Go.ChangeShapes Go.WideShapes Go.ChangeAt Go.RowKit
open Go.ChangeMaps (open_string shut_string)
open Go.Joins
set_option maxHeartbeats 1000000

set_option maxRecDepth 100000 in
theorem walk (p0 q0 u0 v0 p1 q1 u1 v1 : Int) (_ : (Lit.int .i64 p0).wf = true) (_ : (Lit.int .i64 q0).wf = true) (_ : (Lit.int .i64 u0).wf = true) (_ : (Lit.int .i64 v0).wf = true) (_ : (Lit.int .i64 p1).wf = true) (_ : (Lit.int .i64 q1).wf = true) (_ : (Lit.int .i64 u1).wf = true) (_ : (Lit.int .i64 v1).wf = true) (w : World) (hT : Tab w) :
    Calls Tryd.prog 8 #[.agg #[.int .i64 p0, .int .i64 q0, .int .i64 u0, .int .i64 v0], .agg #[.int .i64 p1, .int .i64 q1, .int .i64 u1, .int .i64 v1]] w fun e w' => e = .returned (.bool true) ∧ Ext w w' := by
  have cA := fun W => meet_any p0 q0 u0 v0 p1 q1 u1 v1 W
  obtain ⟨d0, d1, d2, d3, hd, _⟩ := mt_parts p0 q0 u0 v0 p1 q1 u1 v1
  have HM : Hid (canR p0 q0 u0 v0 = true → canR p1 q1 u1 v1 = true → areaR d0 d1 d2 d3 = between p0 p1 u1 (u0 + 1) * between q0 q1 v1 (v0 + 1)) := fun h1 h2 => meet_area p0 q0 u0 v0 p1 q1 u1 v1 d0 d1 d2 d3 h1 h2 hd
  rw [hd] at cA
  generalize mtB p0 q0 u0 v0 p1 q1 u1 v1 = mb at cA
  clear hd
  have cB := fun W => area_any p0 q0 u0 v0 W
  have cC := fun W => area_any p1 q1 u1 v1 W
  have cD := fun W => area_any d0 d1 d2 d3 W
  have zA := area_zero p0 q0 u0 v0
  have zB := area_zero p1 q1 u1 v1
  have cL := fun W h => lives6 W h
  have cH := fun r c W => has_any p1 q1 u1 v1 r c W
  generalize areaR p0 q0 u0 v0 = xA at *
  generalize areaR p1 q1 u1 v1 = xB at *
  obtain ⟨W0, hW0⟩ : ∃ W0, W0 = (w.alloc (.cells #[.int .i64 p0, .int .i64 q0, .int .i64 u0, .int .i64 v0] 35)).alloc (.cells #[.int .i64 p1, .int .i64 q1, .int .i64 u1, .int .i64 v1] 35) := ⟨_, rfl⟩
  have X0 : Ext w W0 := by rw [hW0]; exact ((Ext.refl _).alloc _).alloc _
  have BA : Blk W0 w.heap.size (.int .i64 p0) (.int .i64 q0) (.int .i64 u0) (.int .i64 v0) := by rw [hW0]; exact (blk_top rfl (Ext.refl _)).al _
  have BB : Blk W0 (w.heap.size + 1) (.int .i64 p1) (.int .i64 q1) (.int .i64 u1) (.int .i64 v1) := by rw [hW0]; exact blk_top (by simp) (Ext.refl _)
  go_enter Tryd.func8, Tryd.ntmps8
  go_wp2_with fail
  rw [← hW0]
  clear hW0
  refine (cA _).mono ?_
  rintro e w1 ⟨rfl, E1⟩
  have X1 := (X0.trans E1).alloc (.cells #[.int .i64 d0, .int .i64 d1, .int .i64 d2, .int .i64 d3] 35)
  have B1 := (BA.ext E1).al (.cells #[.int .i64 d0, .int .i64 d1, .int .i64 d2, .int .i64 d3] 35)
  have B2 := (BB.ext E1).al (.cells #[.int .i64 d0, .int .i64 d1, .int .i64 d2, .int .i64 d3] 35)
  have B3 : Blk (w1.alloc (.cells #[.int .i64 d0, .int .i64 d1, .int .i64 d2, .int .i64 d3] 35)) w1.heap.size (.int .i64 d0) (.int .i64 d1) (.int .i64 d2) (.int .i64 d3) := blk_top rfl (Ext.refl _)
  clear X0 BA BB E1
  go_upto_region 2 with fail
  generalize w1.alloc (.cells #[.int .i64 d0, .int .i64 d1, .int .i64 d2, .int .i64 d3] 35) = W1 at *
  generalize w1.heap.size = nb at *
  have mkS : Hid (∀ W, Ext W1 W → (W.cell? ⟨w.heap.size, 0, none⟩ = some (.int .i64 p0) ∧ W.cell? ⟨w.heap.size, 1, none⟩ = some (.int .i64 q0) ∧ W.cell? ⟨w.heap.size, 2, none⟩ = some (.int .i64 u0) ∧ W.cell? ⟨w.heap.size, 3, none⟩ = some (.int .i64 v0) ∧ W.cell? ⟨w.heap.size + 1, 0, none⟩ = some (.int .i64 p1) ∧ W.cell? ⟨w.heap.size + 1, 1, none⟩ = some (.int .i64 q1) ∧ W.cell? ⟨w.heap.size + 1, 2, none⟩ = some (.int .i64 u1) ∧ W.cell? ⟨w.heap.size + 1, 3, none⟩ = some (.int .i64 v1) ∧ W.cell? ⟨nb, 0, none⟩ = some (.int .i64 d0) ∧ W.cell? ⟨nb, 1, none⟩ = some (.int .i64 d1) ∧ W.cell? ⟨nb, 2, none⟩ = some (.int .i64 d2) ∧ W.cell? ⟨nb, 3, none⟩ = some (.int .i64 d3)) ∧ Ext W1 W) := by
    intro W E
    obtain ⟨_, ⟨i0, i1, i2, i3⟩, _⟩ := B1.ext E
    obtain ⟨_, ⟨j0, j1, j2, j3⟩, _⟩ := B2.ext E
    obtain ⟨_, ⟨k0, k1, k2, k3⟩, _⟩ := B3.ext E
    exact ⟨⟨i0, i1, i2, i3, j0, j1, j2, j3, k0, k1, k2, k3⟩, E⟩
  have HTT : Hid (∀ W, Ext W1 W → Tab W) := fun W E => (hT.ext X1).ext E
  clear B1 B2 B3
  obtain ⟨⟨i0, i1, i2, i3, j0, j1, j2, j3, k0, k1, k2, k3⟩, _⟩ := mkS.out W1 (Ext.refl _)
  cases hA : canR p0 q0 u0 v0
  · rw [hA] at zA
    have zA' : (xA == 0) = true := zA
    clear zA zB HM
    go_wp2_with fail
    refine (cB _).mono ?_
    rintro e w2 ⟨rfl, E2⟩
    go_wp2_with fail
    refine (cL _ (HTT.out _ E2)).mono ?_
    rintro e w9 ⟨rfl, E9⟩
    go_wp2_with fail
    go_ret
    exact ⟨ret_bool rfl, (X1.trans E2).trans E9⟩

  cases hB : canR p1 q1 u1 v1
  · rw [hA] at zA
    rw [hB] at zB
    have zA' : (xA == 0) = false := zA
    have zB' : (xB == 0) = true := zB
    clear zA zB HM
    go_wp2_with fail
    refine (cB _).mono ?_
    rintro e w2 ⟨rfl, E2⟩
    clear i0 i1 i2 i3 j0 j1 j2 j3 k0 k1 k2 k3
    obtain ⟨⟨i0, i1, i2, i3, j0, j1, j2, j3, k0, k1, k2, k3⟩, _⟩ := mkS.out w2 E2
    go_wp2_with fail
    refine (cC _).mono ?_
    rintro e w3 ⟨rfl, E3⟩
    have E4 := E2.trans E3
    clear E2 E3
    go_wp2_with fail
    refine (cL _ (HTT.out _ E4)).mono ?_
    rintro e w9 ⟨rfl, E9⟩
    go_wp2_with fail
    go_ret
    exact ⟨ret_bool rfl, (X1.trans E4).trans E9⟩

  have zA' : (xA == 0) = false := by rw [zA, hA]; rfl
  have zB' : (xB == 0) = false := by rw [zB, hB]; rfl
  have HM2 : Hid (areaR d0 d1 d2 d3 = between p0 p1 u1 (u0 + 1) * between q0 q1 v1 (v0 + 1)) := HM.out hA hB
  obtain ⟨a1, a2, a3, a4, a5, a6⟩ := can_bd hA
  have HH : Hid (∀ r c, hasR p1 q1 u1 v1 r c = decide ((p1 ≤ r ∧ r ≤ u1) ∧ (q1 ≤ c ∧ c ≤ v1))) := has_of hB
  clear zA zB HM hA hB
  by_cases hg : 400 < xA
  · go_wp2_with fail
    refine (cB _).mono ?_
    rintro e w2 ⟨rfl, E2⟩
    clear i0 i1 i2 i3 j0 j1 j2 j3 k0 k1 k2 k3
    obtain ⟨⟨i0, i1, i2, i3, j0, j1, j2, j3, k0, k1, k2, k3⟩, _⟩ := mkS.out w2 E2
    go_wp2_with fail
    refine (cC _).mono ?_
    rintro e w3 ⟨rfl, E3⟩
    have E4 := E2.trans E3
    clear E2 E3
    clear i0 i1 i2 i3 j0 j1 j2 j3 k0 k1 k2 k3
    obtain ⟨⟨i0, i1, i2, i3, j0, j1, j2, j3, k0, k1, k2, k3⟩, _⟩ := mkS.out w3 E4
    go_wp2_with fail
    refine (cB _).mono ?_
    rintro e w5 ⟨rfl, E5⟩
    replace E4 := E4.trans E5
    clear E5
    go_wp2_with fail
    refine (cL _ (HTT.out _ E4)).mono ?_
    rintro e w9 ⟨rfl, E9⟩
    go_wp2_with fail
    go_ret
    exact ⟨ret_bool rfl, (X1.trans E4).trans E9⟩

  · go_wp2_with fail
    refine (cB _).mono ?_
    rintro e w2 ⟨rfl, E2⟩
    clear i0 i1 i2 i3 j0 j1 j2 j3 k0 k1 k2 k3
    obtain ⟨⟨i0, i1, i2, i3, j0, j1, j2, j3, k0, k1, k2, k3⟩, _⟩ := mkS.out w2 E2
    go_wp2_with fail
    refine (cC _).mono ?_
    rintro e w3 ⟨rfl, E3⟩
    have E4 := E2.trans E3
    clear E2 E3
    clear i0 i1 i2 i3 j0 j1 j2 j3 k0 k1 k2 k3
    obtain ⟨⟨i0, i1, i2, i3, j0, j1, j2, j3, k0, k1, k2, k3⟩, _⟩ := mkS.out w3 E4
    go_wp2_with fail
    refine (cB _).mono ?_
    rintro e w5 ⟨rfl, E5⟩
    replace E4 := E4.trans E5
    clear E5
    clear i0 i1 i2 i3 j0 j1 j2 j3 k0 k1 k2 k3
    obtain ⟨⟨i0, i1, i2, i3, j0, j1, j2, j3, k0, k1, k2, k3⟩, _⟩ := mkS.out w5 E4
    go_wp2_with fail
    clear i0 i1 i2 i3 j0 j1 j2 j3 k0 k1 k2 k3
    clear cA cB cC hg
    obtain ⟨C, hC⟩ : ∃ C : Int, C = between q0 q1 v1 (v0 + 1) := ⟨_, rfl⟩
    have HC : Hid (C = between q0 q1 v1 (v0 + 1)) := hC
    have cb := bet_bd q0 q1 v1 (v0 + 1) (by omega)
    rw [← hC] at cb HM2
    obtain ⟨C0, C1⟩ := cb
    clear hC
    go_loopw [7, 8] (fun v7 v8 wx => ∃ n r : Int, v7 = .int .i64 n ∧ v8 = .int .i64 r ∧ p0 ≤ r ∧ r ≤ u0 + 1 ∧ Hid (n = between p0 p1 u1 r * C) ∧ Ext W1 wx) (fun _ v8 _ => (u0 + 1 - intOf v8).toNat)
    case atStart => exact ⟨0, p0, rfl, rfl, Int.le_refl _, by omega, by show _ = _; rw [bet_zero, Int.zero_mul], E4⟩
    case round =>
      clear E4
      obtain ⟨n, r, rfl, rfl, r1, r2, HN, ER⟩ := hrel
      have rb := bet_bd p0 p1 u1 r r1
      obtain ⟨R0, R1⟩ := rb
      have nb1 : 0 ≤ n ∧ n ≤ 1000 * 52 := by
        rw [HN.out]
        exact ⟨Int.mul_nonneg R0 C0, Int.mul_le_mul (by omega) (by omega) C0 (by omega)⟩
      obtain ⟨n0, n1⟩ := nb1
      obtain ⟨⟨i0, i1, i2, i3, j0, j1, j2, j3, k0, k1, k2, k3⟩, _⟩ := mkS.out wr ER
      by_cases hr : r ≤ u0
      · go_wp2_with fail
        clear i0 i1 i2 i3 j0 j1 j2 j3 k0 k1 k2 k3
        go_loopw [7, 9] (fun v7 v9 wx => ∃ m c : Int, v7 = .int .i64 m ∧ v9 = .int .i64 c ∧ q0 ≤ c ∧ c ≤ v0 + 1 ∧ Hid (m = n + if p1 ≤ r ∧ r ≤ u1 then between q0 q1 v1 c else 0) ∧ Ext W1 wx) (fun _ v9 _ => (v0 + 1 - intOf v9).toNat)
        case atStart => exact ⟨n, q0, rfl, rfl, Int.le_refl _, by omega, by show _ = _; rw [bet_zero]; split <;> omega, ER⟩
        case round =>
          clear ER
          obtain ⟨m, c, rfl, rfl, c1, c2, HMM, EC⟩ := hrel
          have cb := bet_bd q0 q1 v1 c c1
          obtain ⟨K0, K1⟩ := cb
          have mb1 : 0 ≤ m ∧ m ≤ 53000 := by
            have := HMM.out
            split at this <;> omega
          obtain ⟨m0, m1⟩ := mb1
          obtain ⟨⟨i0, i1, i2, i3, j0, j1, j2, j3, k0, k1, k2, k3⟩, _⟩ := mkS.out wr EC
          by_cases hc : c ≤ v0
          · have HST : Hid (between q0 q1 v1 (c + 1) = between q0 q1 v1 c + if q1 ≤ c ∧ c ≤ v1 then 1 else 0) := bet_step q0 q1 v1 c c1
            have ch := fun W => cH r c W
            rw [HH.out r c] at ch
            by_cases hx : (p1 ≤ r ∧ r ≤ u1) ∧ (q1 ≤ c ∧ c ≤ v1)
            · rw [show decide ((p1 ≤ r ∧ r ≤ u1) ∧ (q1 ≤ c ∧ c ≤ v1)) = true from decide_eq_true hx] at ch
              have HX : Hid (m + 1 = n + if p1 ≤ r ∧ r ≤ u1 then between q0 q1 v1 (c + 1) else 0) := by
                show _ = _
                rw [HMM.out, HST.out, if_pos hx.1, if_pos hx.1, if_pos hx.2]; omega
              clear hx
              go_wp2_with fail
              refine (ch _).mono ?_
              rintro e w7 ⟨rfl, E7⟩
              go_wp2_with fail
              go_roundw
              case rel => exact ⟨m + 1, c + 1, by go_num, by go_num, by omega, by omega, HX, EC.trans E7⟩
              case measure => simp [intOf]; omega
            · rw [show decide ((p1 ≤ r ∧ r ≤ u1) ∧ (q1 ≤ c ∧ c ≤ v1)) = false from decide_eq_false hx] at ch
              have HX : Hid (m = n + if p1 ≤ r ∧ r ≤ u1 then between q0 q1 v1 (c + 1) else 0) := by
                show _ = _
                rw [HMM.out, HST.out]
                by_cases g : p1 ≤ r ∧ r ≤ u1
                · rw [if_pos g, if_pos g, if_neg (fun k => hx ⟨g, k⟩)]; omega
                · rw [if_neg g, if_neg g]
              clear hx
              go_wp2_with fail
              refine (ch _).mono ?_
              rintro e w7 ⟨rfl, E7⟩
              go_wp2_with fail
              go_roundw
              case rel => exact ⟨m, c + 1, rfl, by go_num, by omega, by omega, HX, EC.trans E7⟩
              case measure => simp [intOf]; omega
          · obtain rfl : c = v0 + 1 := by omega
            have HST : Hid (between p0 p1 u1 (r + 1) = between p0 p1 u1 r + if p1 ≤ r ∧ r ≤ u1 then 1 else 0) := bet_step p0 p1 u1 r r1
            have HX : Hid (m = between p0 p1 u1 (r + 1) * C) := by
              show _ = _
              rw [HMM.out, HST.out, HN.out, ← HC.out]
              by_cases g : p1 ≤ r ∧ r ≤ u1
              · rw [if_pos g, if_pos g, Int.add_mul, Int.one_mul]
              · rw [if_neg g, if_neg g, Int.add_zero, Int.add_zero]
            have hc' : ¬ v0 + 1 ≤ v0 := by omega
            go_wp2_with fail
            go_roundw
            case rel => exact ⟨m, r + 1, rfl, by go_num, by omega, by omega, HX, EC⟩
            case measure => simp [intOf]; omega
      · obtain rfl : r = u0 + 1 := by omega
        have hr' : ¬ u0 + 1 ≤ u0 := by omega
        have HE : Hid (n = areaR d0 d1 d2 d3) := by show _ = _; rw [HM2.out, HN.out]
        have cd := fun W => cD W
        rw [← HE.out] at cd
        go_wp2_with fail
        refine (cd _).mono ?_
        rintro e w7 ⟨rfl, E7⟩
        have E8 := ER.trans E7
        go_wp2_with fail
        refine (cL _ (HTT.out _ E8)).mono ?_
        rintro e w9 ⟨rfl, E9⟩
        go_wp2_with fail
        go_ret
        exact ⟨ret_bool rfl, (X1.trans E8).trans E9⟩

theorem laidOut : laidOutB Tryd.prog = true := by kernel_rfl
theorem cells_rect : Tryd.prog.cellsOf 35 = 4 := by kernel_rfl
set_option maxRecDepth 100000 in
theorem contract (H : Type) (enc : TypeId × Value → H) (W : World) (base : Nat) (args : Array Value) (ds gs : List (DataW H)) (before : List MemPlace)
    (hval0 : ∀ (j : Nat) t v, Tryd.f8.params[j]? = some t → args[j]? = some v → Value.okWide Tryd.prog W .any base t v)
    (hW : DataW.Whole enc Tryd.prog Tryd.f8.params.toList Rows.coordAreasSpec.vars false W args.toList ds gs before) (hL : laidMetH Tryd.prog Rows.coordAreasRow.laid W) :
    Calls Tryd.prog 8 args W fun e W' => ∃ v, e = .returned v ∧ Rows.coordAreasSpec.post enc Tryd.prog Tryd.f8 false true false false W args v W' := by
  have hval := hval0
  have hW' := hW
  obtain ⟨p, q, hA0, hV, rfl, hfz, hnd⟩ := hW
  have hA : DataW.TrodAll enc Tryd.prog W 0 (fun _ => true) true Tryd.f8.params.toList args.toList ds p := hA0
  rw [Tryd.params8] at hA hval
  obtain ⟨v0, vs0, d0, ds0, p0, q0, hargs, rfl, rfl, h0, r0⟩ := trodAll_cons hA
  obtain ⟨v1, vs1, d1, ds1, p1, q1, rfl, rfl, rfl, h1, r1⟩ := trodAll_cons r0
  obtain ⟨rfl, rfl, rfl⟩ := trodAll_nil r1
  obtain rfl : args = #[v0, v1] := by cases args; simp_all
  obtain ⟨rfl, rfl⟩ := trodVars_none hV
  have j0 := h0
  have lt0 : ∀ x ∈ p0, x.block < W.heap.size := by obtain ⟨m, hm⟩ := j0; exact DataW.trod_lt m _ _ _ hm
  obtain ⟨cc0, cc1, cc2, cc3, yy0, yy1, yy2, yy3, m0, rfl, hd0, hp0, hy0, hy1, hy2, hy3⟩ := open_agg4 Tryd.underlying35 (by kernel_rfl) cells_rect (hval 0 35 v0 rfl rfl) h0
  obtain ⟨Lp0, f0, _, wLp0⟩ := DataW.trod_int Tryd.underlying3 hy0
  obtain ⟨Lq0, f1, _, wLq0⟩ := DataW.trod_int Tryd.underlying3 hy1
  obtain ⟨Lu0, f2, _, wLu0⟩ := DataW.trod_int Tryd.underlying3 hy2
  obtain ⟨Lv0, f3, _, wLv0⟩ := DataW.trod_int Tryd.underlying3 hy3
  simp only [List.cons.injEq, and_true] at f0 f1 f2 f3
  obtain rfl := f0
  obtain rfl := f1
  obtain rfl := f2
  obtain rfl := f3
  have j1 := h1
  have lt1 : ∀ x ∈ p1, x.block < W.heap.size := by obtain ⟨m, hm⟩ := j1; exact DataW.trod_lt m _ _ _ hm
  obtain ⟨cc0, cc1, cc2, cc3, yy0, yy1, yy2, yy3, m1, rfl, hd1, hp1, hy0, hy1, hy2, hy3⟩ := open_agg4 Tryd.underlying35 (by kernel_rfl) cells_rect (hval 1 35 v1 rfl rfl) h1
  obtain ⟨Lp1, f0, _, wLp1⟩ := DataW.trod_int Tryd.underlying3 hy0
  obtain ⟨Lq1, f1, _, wLq1⟩ := DataW.trod_int Tryd.underlying3 hy1
  obtain ⟨Lu1, f2, _, wLu1⟩ := DataW.trod_int Tryd.underlying3 hy2
  obtain ⟨Lv1, f3, _, wLv1⟩ := DataW.trod_int Tryd.underlying3 hy3
  simp only [List.cons.injEq, and_true] at f0 f1 f2 f3
  obtain rfl := f0
  obtain rfl := f1
  obtain rfl := f2
  obtain rfl := f3
  clear hA0 hval0
  refine (walk Lp0 Lq0 Lu0 Lv0 Lp1 Lq1 Lu1 Lv1 wLp0 wLq0 wLu0 wLv0 wLp1 wLq1 wLu1 wLv1 W (tab_of hL)).mono fun e W' ⟨he, bel⟩ => ?_
  subst he
  exact ⟨_, rfl, _, _, _, [], _, [], hW', trodAll_mk1 (shut_bool Tryd.underlying4 _), (trodAll_cons_mk (Below.trod laidOut (by kernel_rfl) (of_decide_eq_true (by kernel_rfl)) j0 bel lt0) (trodAll_cons_mk (Below.trod laidOut (by kernel_rfl) (of_decide_eq_true (by kernel_rfl)) j1 bel lt1) trodAll_mk0)), rfl, Below.frame bel _, fun h => by cases h⟩

theorem laid_met (os : Os) : laidMet Tryd.prog Rows.coordAreasRow.laid ((laidWorld os).forCall (fun _ _ => 0) ⟨#[], #[.agg #[.int .i64 0, .int .i64 0, .int .i64 0, .int .i64 0], .agg #[.int .i64 0, .int .i64 0, .int .i64 0, .int .i64 0]], []⟩).memory :=
  laidMet_of_run' 8 (by kernel_rfl) (by kernel_rfl)
theorem reads (os : Os) {H : Type} (enc : TypeId × Value → H) : ∃ places, DataW.whole enc Tryd.prog ((laidWorld os).forCall (fun _ _ => 0) ⟨#[], #[.agg #[.int .i64 0, .int .i64 0, .int .i64 0, .int .i64 0], .agg #[.int .i64 0, .int .i64 0, .int .i64 0, .int .i64 0]], []⟩).memory Tryd.f8.params.toList Rows.coordAreasSpec.vars false (#[.agg #[.int .i64 0, .int .i64 0, .int .i64 0, .int .i64 0], .agg #[.int .i64 0, .int .i64 0, .int .i64 0, .int .i64 0]] : Array Value).toList 8 = some ([.agg [.lit (.int .i64 0), .lit (.int .i64 0), .lit (.int .i64 0), .lit (.int .i64 0)], .agg [.lit (.int .i64 0), .lit (.int .i64 0), .lit (.int .i64 0), .lit (.int .i64 0)]], [], places) :=
  ⟨[], by kernel_rfl⟩

set_option maxRecDepth 100000 in
theorem lifted (os : Os) (started : os.Started) (H : Type) (enc : TypeId × Value → H) (F : Stop.Interp) :
    ReturnsInHanded {} Tryd.checked os 8 .any ((OpenSpec.ofChange Rows.coordAreasSpec).preRow enc Tryd.prog Tryd.f8 Rows.coordAreasRow.domain false Rows.coordAreasRow.laid) (((OpenSpec.ofChange Rows.coordAreasSpec).at F).post enc Tryd.prog Tryd.f8 false true false false) := by
  obtain ⟨places, hx⟩ := reads os enc
  refine returnsInHanded_of_row (C := Tryd.checked) (s := OpenSpec.ofChange Rows.coordAreasSpec) ownK started (by kernel_rfl) Tryd.func8
    (witness_row_at (enc := enc) (C := Tryd.checked) false (laidWorld os) #[.agg #[.int .i64 0, .int .i64 0, .int .i64 0, .int .i64 0], .agg #[.int .i64 0, .int .i64 0, .int .i64 0, .int .i64 0]] rfl (by kernel_rfl) (by kernel_rfl) (by kernel_rfl)
      (OpenSpec.preRow_of_cond 8 hx (by kernel_rfl) (fun k hk => by cases hk) (by kernel_rfl) (by
        rw [MakeChecks.laidMetH_plain _ _ _ (by kernel_rfl)]
        exact laid_met os))) ?_
  intro W base args ds gs before hval hW _ _ _ hL _ _
  exact contract H enc W base args ds gs before hval hW hL

theorem said : Rows.CoordAreasSaid :=
  OpenClaim.holds_of_cond 8 Tryd.f8 rfl rfl rfl rfl rfl rfl rfl ⟨rfl, rfl, rfl, rfl, rfl⟩ rfl rfl rfl rfl rfl (by kernel_rfl) Tryd.func8 (by kernel_rfl)
    (of_decide_eq_true (by kernel_rfl)) (by unfold Func.isWrapper; first | (rw [if_pos (by decide +kernel)]; kernel_rfl) | (rw [if_neg (by decide +kernel)]; exact ⟨rfl, rfl⟩))
    (fun os started H enc _ F => by rw [OpenClaim.pre_eq_preRow]; exact lifted os started H enc F)

theorem plain (f : FuncId) (fn : Func) (hf : Tryd.pinned.checked.prog.funcNamed Rows.coordAreasRow.func = some f) (hfn : Tryd.pinned.checked.prog.funcs[f]? = some fn) :
    false = Tryd.pinned.checked.prog.looks [] ∧ ∀ (j : Nat) t, fn.params[j]? = some t → Tryd.pinned.checked.prog.wantsStandIn t = false := by
  obtain rfl : f = 8 := Option.some.inj ((show Tryd.prog.funcNamed Rows.coordAreasRow.func = some 8 by kernel_rfl).symm.trans hf) |>.symm
  obtain rfl : fn = Tryd.f8 := (Option.some.inj (Tryd.func8.symm.trans hfn)).symm
  refine ⟨by kernel_rfl, fun j t ht => ?_⟩
  rw [Tryd.params8] at ht
  have hm : t ∈ [35, 35] := by simpa using Array.mem_of_getElem? ht
  have hall : ([35, 35].all fun u => !Tryd.prog.wantsStandIn u) = true := by kernel_rfl
  exact (show Tryd.prog.wantsStandIn t = false by simpa using List.all_eq_true.1 hall t hm)

theorem card : Rows.CoordAreasCardSaid :=
  Claim7.holds_tied_plain_at .later [] _ _ _ _ said (fun _ h => by cases h) (by kernel_rfl) (fun _ h => by cases h) coordAreas_row_tie rfl ⟨rfl, rfl⟩ (by kernel_rfl) rfl plain (by kernel_rfl)
end Go.Proofs.YtdklhgfkaablbaaDoor.coordAreas
namespace Go.Proofs.YtdklhgfkaablbaaDoor
theorem coordAreas_card : Rows.CoordAreasCardSaid := coordAreas.card
end Go.Proofs.YtdklhgfkaablbaaDoor
