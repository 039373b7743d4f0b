/-
  CoordRects is proved: for every two references and every row the call returns true and the arguments read as they did. Its condition: the listed library tables lie as the program text lays them (the card ties them).
-/
import Derived.Test.YtdklhgfkaablbaaDoorCooU
import Derived.Test.YtdklhgfkaablbaaDoorLaid6
import Derived.Test.YtdklhgfkaablbaaDoorCards
import Derived.Test.YtdklhgfkaablbaaDoorTie
import Derived.ChangeMaps5
import Derived.Lib.SmallJoins
namespace Go.Proofs.YtdklhgfkaablbaaDoor.coordRects
open Go.ChangeShapes Go.WideShapes Go.ChangeAt Go.RowKit
open Go.ChangeMaps (open_string shut_string)
open Go.Joins
set_option maxHeartbeats 1000000

theorem walk (r0 c0 : Int) (x0 y0 : Bool) (r1 c1 : Int) (x1 y1 : Bool) (a2 : Int) (_ : (Lit.int .i64 r0).wf = true) (_ : (Lit.int .i64 c0).wf = true) (_ : (Lit.int .i64 r1).wf = true) (_ : (Lit.int .i64 c1).wf = true) (_ : (Lit.int .i64 a2).wf = true) (w : World) (hT : Tab w) :
    Calls Tryd.prog 6 #[.agg #[.int .i64 r0, .int .i64 c0, .bool x0, .bool y0], .agg #[.int .i64 r1, .int .i64 c1, .bool x1, .bool y1], .int .i64 a2] w fun e w' => e = .returned (.bool true) ∧ Ext w w' := by
  have cA := fun W => rect_any r0 c0 r1 c1 x0 y0 x1 y1 W
  have cB := fun W => rrect_any r0 c0 r1 c1 x0 y0 x1 y1 W
  have cC := fun W => rect_any r1 c1 r0 c0 x1 y1 x0 y0 W
  rw [← rc_comm] at cC
  obtain ⟨d0, d1, d2, d3, hd, hh⟩ := rc_parts r0 c0 r1 c1
  rw [hd] at cA cB cC
  have cD := fun W => area_any d0 d1 d2 d3 W
  have cE := fun W => rarea6_any d0 d1 d2 d3 W
  generalize areaR d0 d1 d2 d3 = z at cD cE
  have cI := fun W => rin_any r0 c0 W
  have cJ := fun W => rin_any r1 c1 W
  have cH := fun x y W => has_any d0 d1 d2 d3 x y W
  have cK := fun x y W => rhas6_any d0 d1 d2 d3 x y W
  have cL := fun W h => lives6 W h
  generalize hasR d0 d1 d2 d3 = hs at cH cK hh
  clear hd
  obtain ⟨W0, hW0⟩ : ∃ W0, W0 = (w.alloc (.cells #[.int .i64 r0, .int .i64 c0, .bool x0, .bool y0] 23)).alloc (.cells #[.int .i64 r1, .int .i64 c1, .bool x1, .bool y1] 23) := ⟨_, rfl⟩
  have X0 : Ext w W0 := by rw [hW0]; exact ((Ext.refl _).alloc _).alloc _
  have BA : Blk W0 w.heap.size (.int .i64 r0) (.int .i64 c0) (.bool x0) (.bool y0) := by rw [hW0]; exact (blk_top rfl (Ext.refl _)).al _
  have BB : Blk W0 (w.heap.size + 1) (.int .i64 r1) (.int .i64 c1) (.bool x1) (.bool y1) := by rw [hW0]; exact blk_top (by simp) (Ext.refl _)
  go_enter Tryd.func6, Tryd.ntmps6
  go_wp2_with fail
  rw [← hW0]
  clear hW0
  refine (cA _).mono ?_
  rintro e w1 ⟨rfl, E1⟩
  have X1 := (X0.trans E1).alloc (.cells #[.int .i64 d0, .int .i64 d1, .int .i64 d2, .int .i64 d3] 35)
  have B1 := (BA.ext E1).al (.cells #[.int .i64 d0, .int .i64 d1, .int .i64 d2, .int .i64 d3] 35)
  have B2 := (BB.ext E1).al (.cells #[.int .i64 d0, .int .i64 d1, .int .i64 d2, .int .i64 d3] 35)
  have B3 : Blk (w1.alloc (.cells #[.int .i64 d0, .int .i64 d1, .int .i64 d2, .int .i64 d3] 35)) w1.heap.size (.int .i64 d0) (.int .i64 d1) (.int .i64 d2) (.int .i64 d3) := blk_top rfl (Ext.refl _)
  clear X0 BA BB E1
  go_upto_region 2 with fail
  generalize w1.alloc (.cells #[.int .i64 d0, .int .i64 d1, .int .i64 d2, .int .i64 d3] 35) = W1 at *
  generalize w1.heap.size = nb at *
  have mkS : Hid (∀ W, Ext W1 W → (W.cell? ⟨w.heap.size, 0, none⟩ = some (.int .i64 r0) ∧ W.cell? ⟨w.heap.size, 1, none⟩ = some (.int .i64 c0) ∧ W.cell? ⟨w.heap.size, 2, none⟩ = some (.bool x0) ∧ W.cell? ⟨w.heap.size, 3, none⟩ = some (.bool y0) ∧ W.cell? ⟨w.heap.size + 1, 0, none⟩ = some (.int .i64 r1) ∧ W.cell? ⟨w.heap.size + 1, 1, none⟩ = some (.int .i64 c1) ∧ W.cell? ⟨w.heap.size + 1, 2, none⟩ = some (.bool x1) ∧ W.cell? ⟨w.heap.size + 1, 3, none⟩ = some (.bool y1) ∧ W.cell? ⟨nb, 0, none⟩ = some (.int .i64 d0) ∧ W.cell? ⟨nb, 1, none⟩ = some (.int .i64 d1) ∧ W.cell? ⟨nb, 2, none⟩ = some (.int .i64 d2) ∧ W.cell? ⟨nb, 3, none⟩ = some (.int .i64 d3)) ∧ Ext W1 W) := by
    intro W E
    obtain ⟨_, ⟨i0, i1, i2, i3⟩, _⟩ := B1.ext E
    obtain ⟨_, ⟨j0, j1, j2, j3⟩, _⟩ := B2.ext E
    obtain ⟨_, ⟨k0, k1, k2, k3⟩, _⟩ := B3.ext E
    exact ⟨⟨i0, i1, i2, i3, j0, j1, j2, j3, k0, k1, k2, k3⟩, E⟩
  have HTT : Hid (∀ W, Ext W1 W → Tab W) := fun W E => (hT.ext X1).ext E
  clear B1 B2 B3
  go_region_held3 (fun W => (W.cell? ⟨w.heap.size, 0, none⟩ = some (.int .i64 r0) ∧ W.cell? ⟨w.heap.size, 1, none⟩ = some (.int .i64 c0) ∧ W.cell? ⟨w.heap.size, 2, none⟩ = some (.bool x0) ∧ W.cell? ⟨w.heap.size, 3, none⟩ = some (.bool y0) ∧ W.cell? ⟨w.heap.size + 1, 0, none⟩ = some (.int .i64 r1) ∧ W.cell? ⟨w.heap.size + 1, 1, none⟩ = some (.int .i64 c1) ∧ W.cell? ⟨w.heap.size + 1, 2, none⟩ = some (.bool x1) ∧ W.cell? ⟨w.heap.size + 1, 3, none⟩ = some (.bool y1) ∧ W.cell? ⟨nb, 0, none⟩ = some (.int .i64 d0) ∧ W.cell? ⟨nb, 1, none⟩ = some (.int .i64 d1) ∧ W.cell? ⟨nb, 2, none⟩ = some (.int .i64 d2) ∧ W.cell? ⟨nb, 3, none⟩ = some (.int .i64 d3)) ∧ Ext W1 W)
    ((refine mkS.out _ ?_; ((with_reducible (repeat (first | assumption | exact Ext.refl _ | apply Ext.alloc | apply Ext.drew | apply Ext.drewN))); done)))
    (first | (go_at_call 21; refine Calls.mono (cB _ ) ?_; rintro e ww1 ⟨rfl, E1⟩; have Z1 : Ext W1 ww1 := Ext.trans (by ((with_reducible (repeat (first | assumption | exact Ext.refl _ | apply Ext.alloc | apply Ext.drew | apply Ext.drewN))); done)) E1) | (go_at_call 20; refine Calls.mono (cC _ ) ?_; rintro e ww2 ⟨rfl, E2⟩; have Z2 : Ext W1 ww2 := Ext.trans (by ((with_reducible (repeat (first | assumption | exact Ext.refl _ | apply Ext.alloc | apply Ext.drew | apply Ext.drewN))); done)) E2) | (go_at_call 22; refine Calls.mono (cD _ ) ?_; rintro e ww3 ⟨rfl, E3⟩; have Z3 : Ext W1 ww3 := Ext.trans (by ((with_reducible (repeat (first | assumption | exact Ext.refl _ | apply Ext.alloc | apply Ext.drew | apply Ext.drewN))); done)) E3) | (go_at_call 23; refine Calls.mono (cE _ ) ?_; rintro e ww4 ⟨rfl, E4⟩; have Z4 : Ext W1 ww4 := Ext.trans (by ((with_reducible (repeat (first | assumption | exact Ext.refl _ | apply Ext.alloc | apply Ext.drew | apply Ext.drewN))); done)) E4))
  go_upto_region 4 with fail
  have Q4 : (ww4.cell? ⟨w.heap.size, 0, none⟩ = some (.int .i64 r0) ∧ ww4.cell? ⟨w.heap.size, 1, none⟩ = some (.int .i64 c0) ∧ ww4.cell? ⟨w.heap.size, 2, none⟩ = some (.bool x0) ∧ ww4.cell? ⟨w.heap.size, 3, none⟩ = some (.bool y0) ∧ ww4.cell? ⟨w.heap.size + 1, 0, none⟩ = some (.int .i64 r1) ∧ ww4.cell? ⟨w.heap.size + 1, 1, none⟩ = some (.int .i64 c1) ∧ ww4.cell? ⟨w.heap.size + 1, 2, none⟩ = some (.bool x1) ∧ ww4.cell? ⟨w.heap.size + 1, 3, none⟩ = some (.bool y1) ∧ ww4.cell? ⟨nb, 0, none⟩ = some (.int .i64 d0) ∧ ww4.cell? ⟨nb, 1, none⟩ = some (.int .i64 d1) ∧ ww4.cell? ⟨nb, 2, none⟩ = some (.int .i64 d2) ∧ ww4.cell? ⟨nb, 3, none⟩ = some (.int .i64 d3)) ∧ Ext W1 ww4 := mkS.out ww4 Z4
  obtain ⟨⟨i0, i1, i2, i3, j0, j1, j2, j3, k0, k1, k2, k3⟩, _⟩ := Q4
  have HCH : Hid (hs r0 c1 = (inB r0 c0 && inB r1 c1)) := hh
  clear hh
  cases g1 : inB r0 c0
  · rw [g1] at cI HCH
    have HH : hs r0 c1 = false := HCH.out
    clear HCH
    go_wp2_with fail
    refine (cI _).mono ?_
    rintro e w5 ⟨rfl, rfl⟩
    go_wp2_with fail
    clear i0 i1 i2 i3 j0 j1 j2 j3 k0 k1 k2 k3
    go_region_held3 (fun W => (W.cell? ⟨w.heap.size, 0, none⟩ = some (.int .i64 r0) ∧ W.cell? ⟨w.heap.size, 1, none⟩ = some (.int .i64 c0) ∧ W.cell? ⟨w.heap.size, 2, none⟩ = some (.bool x0) ∧ W.cell? ⟨w.heap.size, 3, none⟩ = some (.bool y0) ∧ W.cell? ⟨w.heap.size + 1, 0, none⟩ = some (.int .i64 r1) ∧ W.cell? ⟨w.heap.size + 1, 1, none⟩ = some (.int .i64 c1) ∧ W.cell? ⟨w.heap.size + 1, 2, none⟩ = some (.bool x1) ∧ W.cell? ⟨w.heap.size + 1, 3, none⟩ = some (.bool y1) ∧ W.cell? ⟨nb, 0, none⟩ = some (.int .i64 d0) ∧ W.cell? ⟨nb, 1, none⟩ = some (.int .i64 d1) ∧ W.cell? ⟨nb, 2, none⟩ = some (.int .i64 d2) ∧ W.cell? ⟨nb, 3, none⟩ = some (.int .i64 d3)) ∧ Ext W1 W)
      ((refine mkS.out _ ?_; ((with_reducible (repeat (first | assumption | exact Ext.refl _ | apply Ext.alloc | apply Ext.drew | apply Ext.drewN))); done)))
      (first | (go_at_call 24; refine Calls.mono (cH _ _ _ ) ?_; rintro e ww5 ⟨rfl, E5⟩; have Z5 : Ext W1 ww5 := Ext.trans (by ((with_reducible (repeat (first | assumption | exact Ext.refl _ | apply Ext.alloc | apply Ext.drew | apply Ext.drewN))); done)) E5) | (go_at_call 25; refine Calls.mono (cK _ _ _ ) ?_; rintro e ww6 ⟨rfl, E6⟩; have Z6 : Ext W1 ww6 := Ext.trans (by ((with_reducible (repeat (first | assumption | exact Ext.refl _ | apply Ext.alloc | apply Ext.drew | apply Ext.drewN))); done)) E6) | (go_at_call 12; refine Calls.mono (cL _ (HTT.out _ ?hh)) ?_; (case hh => ((with_reducible (repeat (first | assumption | exact Ext.refl _ | apply Ext.alloc | apply Ext.drew | apply Ext.drewN))); done)); rintro e ww7 ⟨rfl, E7⟩; have Z7 : Ext W1 ww7 := Ext.trans (by ((with_reducible (repeat (first | assumption | exact Ext.refl _ | apply Ext.alloc | apply Ext.drew | apply Ext.drewN))); done)) E7))
    go_wp2_with fail
    go_ret
    exact ⟨ret_bool rfl, X1.trans (by assumption)⟩
  cases g2 : inB r1 c1
  · rw [g1] at cI HCH
    rw [g2] at cJ HCH
    have HH : hs r0 c1 = false := HCH.out
    clear HCH
    go_wp2_with fail
    refine (cI _).mono ?_
    rintro e w5 ⟨rfl, rfl⟩
    go_wp2_with fail
    refine (cJ _).mono ?_
    rintro e w6 ⟨rfl, rfl⟩
    go_wp2_with fail
    clear i0 i1 i2 i3 j0 j1 j2 j3 k0 k1 k2 k3
    go_region_held3 (fun W => (W.cell? ⟨w.heap.size, 0, none⟩ = some (.int .i64 r0) ∧ W.cell? ⟨w.heap.size, 1, none⟩ = some (.int .i64 c0) ∧ W.cell? ⟨w.heap.size, 2, none⟩ = some (.bool x0) ∧ W.cell? ⟨w.heap.size, 3, none⟩ = some (.bool y0) ∧ W.cell? ⟨w.heap.size + 1, 0, none⟩ = some (.int .i64 r1) ∧ W.cell? ⟨w.heap.size + 1, 1, none⟩ = some (.int .i64 c1) ∧ W.cell? ⟨w.heap.size + 1, 2, none⟩ = some (.bool x1) ∧ W.cell? ⟨w.heap.size + 1, 3, none⟩ = some (.bool y1) ∧ W.cell? ⟨nb, 0, none⟩ = some (.int .i64 d0) ∧ W.cell? ⟨nb, 1, none⟩ = some (.int .i64 d1) ∧ W.cell? ⟨nb, 2, none⟩ = some (.int .i64 d2) ∧ W.cell? ⟨nb, 3, none⟩ = some (.int .i64 d3)) ∧ Ext W1 W)
      ((refine mkS.out _ ?_; ((with_reducible (repeat (first | assumption | exact Ext.refl _ | apply Ext.alloc | apply Ext.drew | apply Ext.drewN))); done)))
      (first | (go_at_call 24; refine Calls.mono (cH _ _ _ ) ?_; rintro e ww5 ⟨rfl, E5⟩; have Z5 : Ext W1 ww5 := Ext.trans (by ((with_reducible (repeat (first | assumption | exact Ext.refl _ | apply Ext.alloc | apply Ext.drew | apply Ext.drewN))); done)) E5) | (go_at_call 25; refine Calls.mono (cK _ _ _ ) ?_; rintro e ww6 ⟨rfl, E6⟩; have Z6 : Ext W1 ww6 := Ext.trans (by ((with_reducible (repeat (first | assumption | exact Ext.refl _ | apply Ext.alloc | apply Ext.drew | apply Ext.drewN))); done)) E6) | (go_at_call 12; refine Calls.mono (cL _ (HTT.out _ ?hh)) ?_; (case hh => ((with_reducible (repeat (first | assumption | exact Ext.refl _ | apply Ext.alloc | apply Ext.drew | apply Ext.drewN))); done)); rintro e ww7 ⟨rfl, E7⟩; have Z7 : Ext W1 ww7 := Ext.trans (by ((with_reducible (repeat (first | assumption | exact Ext.refl _ | apply Ext.alloc | apply Ext.drew | apply Ext.drewN))); done)) E7))
    go_wp2_with fail
    go_ret
    exact ⟨ret_bool rfl, X1.trans (by assumption)⟩
  · rw [g1] at cI HCH
    rw [g2] at cJ HCH
    have HH : hs r0 c1 = true := HCH.out
    clear HCH
    go_wp2_with fail
    refine (cI _).mono ?_
    rintro e w5 ⟨rfl, rfl⟩
    go_wp2_with fail
    refine (cJ _).mono ?_
    rintro e w6 ⟨rfl, rfl⟩
    go_wp2_with fail
    clear i0 i1 i2 i3 j0 j1 j2 j3 k0 k1 k2 k3
    go_region_held3 (fun W => (W.cell? ⟨w.heap.size, 0, none⟩ = some (.int .i64 r0) ∧ W.cell? ⟨w.heap.size, 1, none⟩ = some (.int .i64 c0) ∧ W.cell? ⟨w.heap.size, 2, none⟩ = some (.bool x0) ∧ W.cell? ⟨w.heap.size, 3, none⟩ = some (.bool y0) ∧ W.cell? ⟨w.heap.size + 1, 0, none⟩ = some (.int .i64 r1) ∧ W.cell? ⟨w.heap.size + 1, 1, none⟩ = some (.int .i64 c1) ∧ W.cell? ⟨w.heap.size + 1, 2, none⟩ = some (.bool x1) ∧ W.cell? ⟨w.heap.size + 1, 3, none⟩ = some (.bool y1) ∧ W.cell? ⟨nb, 0, none⟩ = some (.int .i64 d0) ∧ W.cell? ⟨nb, 1, none⟩ = some (.int .i64 d1) ∧ W.cell? ⟨nb, 2, none⟩ = some (.int .i64 d2) ∧ W.cell? ⟨nb, 3, none⟩ = some (.int .i64 d3)) ∧ Ext W1 W)
      ((refine mkS.out _ ?_; ((with_reducible (repeat (first | assumption | exact Ext.refl _ | apply Ext.alloc | apply Ext.drew | apply Ext.drewN))); done)))
      (first | (go_at_call 24; refine Calls.mono (cH _ _ _ ) ?_; rintro e ww5 ⟨rfl, E5⟩; have Z5 : Ext W1 ww5 := Ext.trans (by ((with_reducible (repeat (first | assumption | exact Ext.refl _ | apply Ext.alloc | apply Ext.drew | apply Ext.drewN))); done)) E5) | (go_at_call 25; refine Calls.mono (cK _ _ _ ) ?_; rintro e ww6 ⟨rfl, E6⟩; have Z6 : Ext W1 ww6 := Ext.trans (by ((with_reducible (repeat (first | assumption | exact Ext.refl _ | apply Ext.alloc | apply Ext.drew | apply Ext.drewN))); done)) E6) | (go_at_call 12; refine Calls.mono (cL _ (HTT.out _ ?hh)) ?_; (case hh => ((with_reducible (repeat (first | assumption | exact Ext.refl _ | apply Ext.alloc | apply Ext.drew | apply Ext.drewN))); done)); rintro e ww7 ⟨rfl, E7⟩; have Z7 : Ext W1 ww7 := Ext.trans (by ((with_reducible (repeat (first | assumption | exact Ext.refl _ | apply Ext.alloc | apply Ext.drew | apply Ext.drewN))); done)) E7))
    go_wp2_with fail
    go_ret
    exact ⟨ret_bool rfl, X1.trans (by assumption)⟩

theorem laidOut : laidOutB Tryd.prog = true := by kernel_rfl
theorem cells_ref : Tryd.prog.cellsOf 23 = 4 := by kernel_rfl
set_option maxRecDepth 100000 in
theorem contract (H : Type) (enc : TypeId × Value → H) (W : World) (base : Nat) (args : Array Value) (ds gs : List (DataW H)) (before : List MemPlace)
    (hval0 : ∀ (j : Nat) t v, Tryd.f6.params[j]? = some t → args[j]? = some v → Value.okWide Tryd.prog W .any base t v)
    (hW : DataW.Whole enc Tryd.prog Tryd.f6.params.toList Rows.coordRectsSpec.vars false W args.toList ds gs before) (hL : laidMetH Tryd.prog Rows.coordRectsRow.laid W) :
    Calls Tryd.prog 6 args W fun e W' => ∃ v, e = .returned v ∧ Rows.coordRectsSpec.post enc Tryd.prog Tryd.f6 false true false false W args v W' := by
  have hval := hval0
  have hW' := hW
  obtain ⟨p, q, hA0, hV, rfl, hfz, hnd⟩ := hW
  have hA : DataW.TrodAll enc Tryd.prog W 0 (fun _ => true) true Tryd.f6.params.toList args.toList ds p := hA0
  rw [Tryd.params6] at hA hval
  obtain ⟨v0, vs0, d0, ds0, p0, q0, hargs, rfl, rfl, h0, r0⟩ := trodAll_cons hA
  obtain ⟨v1, vs1, d1, ds1, p1, q1, rfl, rfl, rfl, h1, r1⟩ := trodAll_cons r0
  obtain ⟨v2, vs2, d2, ds2, p2, q2, rfl, rfl, rfl, h2, r2⟩ := trodAll_cons r1
  obtain ⟨rfl, rfl, rfl⟩ := trodAll_nil r2
  obtain rfl : args = #[v0, v1, v2] := by cases args; simp_all
  obtain ⟨rfl, rfl⟩ := trodVars_none hV
  have j0 := h0
  have lt0 : ∀ x ∈ p0, x.block < W.heap.size := by obtain ⟨m, hm⟩ := j0; exact DataW.trod_lt m _ _ _ hm
  obtain ⟨cc0, cc1, cc2, cc3, yy0, yy1, yy2, yy3, m0, rfl, hd0, hp0, hy0, hy1, hy2, hy3⟩ := open_agg4 Tryd.underlying23 (by kernel_rfl) cells_ref (hval 0 23 v0 rfl rfl) h0
  obtain ⟨Lr0, f0, _, wLr0⟩ := DataW.trod_int Tryd.underlying3 hy0
  obtain ⟨Lc0, f1, _, wLc0⟩ := DataW.trod_int Tryd.underlying3 hy1
  obtain ⟨Lx0, f2, _⟩ := DataW.trod_bool Tryd.underlying4 hy2
  obtain ⟨Ly0, f3, _⟩ := DataW.trod_bool Tryd.underlying4 hy3
  simp only [List.cons.injEq, and_true] at f0 f1 f2 f3
  obtain rfl := f0
  obtain rfl := f1
  obtain rfl := f2
  obtain rfl := f3
  have j1 := h1
  have lt1 : ∀ x ∈ p1, x.block < W.heap.size := by obtain ⟨m, hm⟩ := j1; exact DataW.trod_lt m _ _ _ hm
  obtain ⟨cc0, cc1, cc2, cc3, yy0, yy1, yy2, yy3, m1, rfl, hd1, hp1, hy0, hy1, hy2, hy3⟩ := open_agg4 Tryd.underlying23 (by kernel_rfl) cells_ref (hval 1 23 v1 rfl rfl) h1
  obtain ⟨Lr1, f0, _, wLr1⟩ := DataW.trod_int Tryd.underlying3 hy0
  obtain ⟨Lc1, f1, _, wLc1⟩ := DataW.trod_int Tryd.underlying3 hy1
  obtain ⟨Lx1, f2, _⟩ := DataW.trod_bool Tryd.underlying4 hy2
  obtain ⟨Ly1, f3, _⟩ := DataW.trod_bool Tryd.underlying4 hy3
  simp only [List.cons.injEq, and_true] at f0 f1 f2 f3
  obtain rfl := f0
  obtain rfl := f1
  obtain rfl := f2
  obtain rfl := f3
  obtain ⟨a2, rfl, rfl, rfl, w2⟩ := open_int Tryd.underlying3 (hval 2 3 v2 rfl rfl) h2
  clear hA0 hval0
  refine (walk Lr0 Lc0 Lx0 Ly0 Lr1 Lc1 Lx1 Ly1 a2 wLr0 wLc0 wLr1 wLc1 w2 W (tab_of hL)).mono fun e W' ⟨he, bel⟩ => ?_
  subst he
  exact ⟨_, rfl, _, _, _, [], _, [], hW', trodAll_mk1 (shut_bool Tryd.underlying4 _), (trodAll_cons_mk (Below.trod laidOut (by kernel_rfl) (of_decide_eq_true (by kernel_rfl)) j0 bel lt0) (trodAll_cons_mk (Below.trod laidOut (by kernel_rfl) (of_decide_eq_true (by kernel_rfl)) j1 bel lt1) (trodAll_cons_mk (shut_int Tryd.underlying3 w2) trodAll_mk0))), rfl, Below.frame bel _, fun h => by cases h⟩

theorem laid_met (os : Os) : laidMet Tryd.prog Rows.coordRectsRow.laid ((laidWorld os).forCall (fun _ _ => 0) ⟨#[], #[.agg #[.int .i64 0, .int .i64 0, .bool false, .bool false], .agg #[.int .i64 0, .int .i64 0, .bool false, .bool false], .int .i64 0], []⟩).memory :=
  laidMet_of_run' 8 (by kernel_rfl) (by kernel_rfl)
theorem reads (os : Os) {H : Type} (enc : TypeId × Value → H) : ∃ places, DataW.whole enc Tryd.prog ((laidWorld os).forCall (fun _ _ => 0) ⟨#[], #[.agg #[.int .i64 0, .int .i64 0, .bool false, .bool false], .agg #[.int .i64 0, .int .i64 0, .bool false, .bool false], .int .i64 0], []⟩).memory Tryd.f6.params.toList Rows.coordRectsSpec.vars false (#[.agg #[.int .i64 0, .int .i64 0, .bool false, .bool false], .agg #[.int .i64 0, .int .i64 0, .bool false, .bool false], .int .i64 0] : Array Value).toList 8 = some ([.agg [.lit (.int .i64 0), .lit (.int .i64 0), .lit (.bool false), .lit (.bool false)], .agg [.lit (.int .i64 0), .lit (.int .i64 0), .lit (.bool false), .lit (.bool false)], .lit (.int .i64 0)], [], places) :=
  ⟨[], by kernel_rfl⟩

set_option maxRecDepth 100000 in
theorem lifted (os : Os) (started : os.Started) (H : Type) (enc : TypeId × Value → H) (F : Stop.Interp) :
    ReturnsInHanded {} Tryd.checked os 6 .any ((OpenSpec.ofChange Rows.coordRectsSpec).preRow enc Tryd.prog Tryd.f6 Rows.coordRectsRow.domain false Rows.coordRectsRow.laid) (((OpenSpec.ofChange Rows.coordRectsSpec).at F).post enc Tryd.prog Tryd.f6 false true false false) := by
  obtain ⟨places, hx⟩ := reads os enc
  refine returnsInHanded_of_row (C := Tryd.checked) (s := OpenSpec.ofChange Rows.coordRectsSpec) ownK started (by kernel_rfl) Tryd.func6
    (witness_row_at (enc := enc) (C := Tryd.checked) false (laidWorld os) #[.agg #[.int .i64 0, .int .i64 0, .bool false, .bool false], .agg #[.int .i64 0, .int .i64 0, .bool false, .bool false], .int .i64 0] rfl (by kernel_rfl) (by kernel_rfl) (by kernel_rfl)
      (OpenSpec.preRow_of_cond 8 hx (by kernel_rfl) (fun k hk => by cases hk) (by kernel_rfl) (by
        rw [MakeChecks.laidMetH_plain _ _ _ (by kernel_rfl)]
        exact laid_met os))) ?_
  intro W base args ds gs before hval hW _ _ _ hL _ _
  exact contract H enc W base args ds gs before hval hW hL

theorem said : Rows.CoordRectsSaid :=
  OpenClaim.holds_of_cond 6 Tryd.f6 rfl rfl rfl rfl rfl rfl rfl ⟨rfl, rfl, rfl, rfl, rfl⟩ rfl rfl rfl rfl rfl (by kernel_rfl) Tryd.func6 (by kernel_rfl)
    (of_decide_eq_true (by kernel_rfl)) (by unfold Func.isWrapper; first | (rw [if_pos (by decide +kernel)]; kernel_rfl) | (rw [if_neg (by decide +kernel)]; exact ⟨rfl, rfl⟩))
    (fun os started H enc _ F => by rw [OpenClaim.pre_eq_preRow]; exact lifted os started H enc F)

theorem plain (f : FuncId) (fn : Func) (hf : Tryd.pinned.checked.prog.funcNamed Rows.coordRectsRow.func = some f) (hfn : Tryd.pinned.checked.prog.funcs[f]? = some fn) :
    false = Tryd.pinned.checked.prog.looks [] ∧ ∀ (j : Nat) t, fn.params[j]? = some t → Tryd.pinned.checked.prog.wantsStandIn t = false := by
  obtain rfl : f = 6 := Option.some.inj ((show Tryd.prog.funcNamed Rows.coordRectsRow.func = some 6 by kernel_rfl).symm.trans hf) |>.symm
  obtain rfl : fn = Tryd.f6 := (Option.some.inj (Tryd.func6.symm.trans hfn)).symm
  refine ⟨by kernel_rfl, fun j t ht => ?_⟩
  rw [Tryd.params6] at ht
  have hm : t ∈ [23, 23, 3] := by simpa using Array.mem_of_getElem? ht
  have hall : ([23, 23, 3].all fun u => !Tryd.prog.wantsStandIn u) = true := by kernel_rfl
  exact (show Tryd.prog.wantsStandIn t = false by simpa using List.all_eq_true.1 hall t hm)

theorem card : Rows.CoordRectsCardSaid :=
  Claim7.holds_tied_plain_at .later [] _ _ _ _ said (fun _ h => by cases h) (by kernel_rfl) (fun _ h => by cases h) coordRects_row_tie rfl ⟨rfl, rfl⟩ (by kernel_rfl) rfl plain (by kernel_rfl)
end Go.Proofs.YtdklhgfkaablbaaDoor.coordRects
namespace Go.Proofs.YtdklhgfkaablbaaDoor
theorem coordRects_card : Rows.CoordRectsCardSaid := coordRects.card
end Go.Proofs.YtdklhgfkaablbaaDoor
