/-
  ValueForms is proved: for every value the call returns true and the argument reads as it did. Its condition: the listed tables and the errors' names lie as the program's text lays them (the card ties them).
-/
import Derived.Test.YtlfkiepnahgbeaaGreatDoorValL
import Derived.Test.YtlfkiepnahgbeaaGreatDoorValM
import Derived.Test.YtlfkiepnahgbeaaGreatDoorLaid4F
import Derived.Test.YtlfkiepnahgbeaaGreatDoorCards
import Derived.Test.YtlfkiepnahgbeaaGreatDoorTie
import Derived.ChangeMaps5
import Derived.Lib.SmallJoins
import Derived.Deep.DeepCutAuto
namespace Go.Proofs.YtlfkiepnahgbeaaGreatDoor.valueForms
open Go.ChangeShapes Go.WideShapes Go.ChangeAt Go.RowKit
open Go.ChangeMaps (open_string shut_string)
open Go.Joins
set_option maxHeartbeats 1000000

set_option maxRecDepth 100000 in
theorem walk (k0 n0 : Int) (s0 : ByteArray) (e0 : Int) (_ : (Lit.int .i64 k0).wf = true) (wn : (Lit.int .i64 n0).wf = true) (_ : s0.size ≤ maxLen) (_ : (Lit.int .i64 e0).wf = true) (w : World) (hN : Nm w) (hT : Tab w) :
    Calls Tryz.prog 3 #[.agg #[.int .i64 k0, .int .i64 n0, .string s0, .int .i64 e0]] w fun e w' => e = .returned (.bool true) ∧ Ext w w' := by
  have hn := i64_of_wf wn
  obtain ⟨W0, hW0⟩ : ∃ W0, W0 = w.alloc (.cells #[.int .i64 k0, .int .i64 n0, .string s0, .int .i64 e0] 23) := ⟨_, rfl⟩
  have XW : Ext w W0 := by rw [hW0]; exact (Ext.refl _).alloc _
  have N : Blk W0 w.heap.size (.int .i64 k0) (.int .i64 n0) (.string s0) (.int .i64 e0) := blk_top rfl (by rw [hW0]; exact Ext.refl _)
  have mkS : Hid (∀ W, Ext W0 W → (W.cell? ⟨w.heap.size, 0, none⟩ = some (.int .i64 k0) ∧ W.cell? ⟨w.heap.size, 1, none⟩ = some (.int .i64 n0) ∧ W.cell? ⟨w.heap.size, 2, none⟩ = some (.string s0) ∧ W.cell? ⟨w.heap.size, 3, none⟩ = some (.int .i64 e0)) ∧ Ext W0 W) := by
    show ∀ W, _
    intro W h
    exact ⟨(N.ext h).2.1, h⟩
  have c1 := fun W (g : Ext W0 W) => vnormal_any k0 n0 s0 e0 W (hN.ext (XW.trans g))
  have c2 := fun W (g : Ext W0 W) => rnormal_any k0 n0 s0 e0 W
  have c3 := fun W (g : Ext W0 W) => vshow_any k0 n0 s0 e0 W hn (hT.ext (XW.trans g)) (hN.ext (XW.trans g))
  have c4 := fun W (g : Ext W0 W) => rshow_any k0 n0 s0 e0 W hn
  have c5 := fun W (g : Ext W0 W) => vtonum_any k0 n0 s0 e0 W hn (hN.ext (XW.trans g))
  have c6 := fun W (g : Ext W0 W) => rtonum_any k0 n0 s0 e0 W hn
  have c7 := fun W (g : Ext W0 W) => vtotext_any k0 n0 s0 e0 W hn (hT.ext (XW.trans g)) (hN.ext (XW.trans g))
  have c8 := fun W (g : Ext W0 W) => rtotext_any k0 n0 s0 e0 W hn
  have c9 := fun W (g : Ext W0 W) => vtobool_any k0 n0 s0 e0 W hn (hN.ext (XW.trans g))
  have cA := fun W (g : Ext W0 W) => rtobool_any k0 n0 s0 e0 W hn
  have cB := fun W (g : Ext W0 W) => vneg_any k0 n0 s0 e0 W hn (hN.ext (XW.trans g))
  have cC := fun W (g : Ext W0 W) => rneg_any k0 n0 s0 e0 W hn
  have cD := fun W (g : Ext W0 W) => lives_v W (hN.ext (XW.trans g))
  obtain ⟨p0, p1, p2, p3, ph⟩ := dat4 (nm k0 n0 s0 e0)
  rw [ph] at c1 c2
  generalize (nm k0 n0 s0 e0).shown = q at c3 c4
  obtain ⟨x0, x1, x2, x3, xh⟩ := dat4 ((nm k0 n0 s0 e0).toNum)
  rw [xh] at c5 c6
  obtain ⟨t0, t1, t2, t3, th⟩ := dat4 ((nm k0 n0 s0 e0).toText)
  rw [th] at c7 c8
  obtain ⟨b0, b1, b2, b3, bh⟩ := dat4 ((nm k0 n0 s0 e0).toBool)
  rw [bh] at c9 cA
  obtain ⟨m0, m1, m2, m3, mh⟩ := dat4 ((nm k0 n0 s0 e0).neg)
  rw [mh] at cB cC
  clear ph xh th bh mh hn wn N hT
  go_enter Tryz.func3, Tryz.ntmps3
  go_upto_region 1 with fail
  rw [← hW0]
  clear hW0
  go_region_held3 (fun W => (W.cell? ⟨w.heap.size, 0, none⟩ = some (.int .i64 k0) ∧ W.cell? ⟨w.heap.size, 1, none⟩ = some (.int .i64 n0) ∧ W.cell? ⟨w.heap.size, 2, none⟩ = some (.string s0) ∧ W.cell? ⟨w.heap.size, 3, none⟩ = some (.int .i64 e0)) ∧ Ext W0 W)
    ((refine mkS.out _ ?_; ((with_reducible (repeat (first | assumption | exact Ext.refl _ | apply Ext.alloc | apply Ext.drew | apply Ext.drewN))); done)))
    (first | (go_at_call 5; refine Calls.mono (c1 _ ?hh) ?_; (case hh => ((with_reducible (repeat (first | assumption | exact Ext.refl _ | apply Ext.alloc | apply Ext.drew | apply Ext.drewN))); done)); rintro e y1 ⟨rfl, E1⟩; have Z1 : Ext W0 y1 := Ext.trans (by ((with_reducible (repeat (first | assumption | exact Ext.refl _ | apply Ext.alloc | apply Ext.drew | apply Ext.drewN))); done)) E1) | (go_at_call 6; refine Calls.mono (c2 _ ?hh) ?_; (case hh => ((with_reducible (repeat (first | assumption | exact Ext.refl _ | apply Ext.alloc | apply Ext.drew | apply Ext.drewN))); done)); rintro e y2 ⟨rfl, E2⟩; have Z2 : Ext W0 y2 := Ext.trans (by ((with_reducible (repeat (first | assumption | exact Ext.refl _ | apply Ext.alloc | apply Ext.drew | apply Ext.drewN))); done)) E2) | (go_at_call 7; refine Calls.mono (c3 _ ?hh) ?_; (case hh => ((with_reducible (repeat (first | assumption | exact Ext.refl _ | apply Ext.alloc | apply Ext.drew | apply Ext.drewN))); done)); rintro e y3 ⟨rfl, E3⟩; have Z3 : Ext W0 y3 := Ext.trans (by ((with_reducible (repeat (first | assumption | exact Ext.refl _ | apply Ext.alloc | apply Ext.drew | apply Ext.drewN))); done)) E3) | (go_at_call 8; refine Calls.mono (c4 _ ?hh) ?_; (case hh => ((with_reducible (repeat (first | assumption | exact Ext.refl _ | apply Ext.alloc | apply Ext.drew | apply Ext.drewN))); done)); rintro e y4 ⟨rfl, E4⟩; have Z4 : Ext W0 y4 := Ext.trans (by ((with_reducible (repeat (first | assumption | exact Ext.refl _ | apply Ext.alloc | apply Ext.drew | apply Ext.drewN))); done)) E4) | (go_at_call 9; refine Calls.mono (c5 _ ?hh) ?_; (case hh => ((with_reducible (repeat (first | assumption | exact Ext.refl _ | apply Ext.alloc | apply Ext.drew | apply Ext.drewN))); done)); rintro e y5 ⟨rfl, E5⟩; have Z5 : Ext W0 y5 := Ext.trans (by ((with_reducible (repeat (first | assumption | exact Ext.refl _ | apply Ext.alloc | apply Ext.drew | apply Ext.drewN))); done)) E5) | (go_at_call 10; refine Calls.mono (c6 _ ?hh) ?_; (case hh => ((with_reducible (repeat (first | assumption | exact Ext.refl _ | apply Ext.alloc | apply Ext.drew | apply Ext.drewN))); done)); rintro e y6 ⟨rfl, E6⟩; have Z6 : Ext W0 y6 := Ext.trans (by ((with_reducible (repeat (first | assumption | exact Ext.refl _ | apply Ext.alloc | apply Ext.drew | apply Ext.drewN))); done)) E6) | (go_at_call 11; refine Calls.mono (c7 _ ?hh) ?_; (case hh => ((with_reducible (repeat (first | assumption | exact Ext.refl _ | apply Ext.alloc | apply Ext.drew | apply Ext.drewN))); done)); rintro e y7 ⟨rfl, E7⟩; have Z7 : Ext W0 y7 := Ext.trans (by ((with_reducible (repeat (first | assumption | exact Ext.refl _ | apply Ext.alloc | apply Ext.drew | apply Ext.drewN))); done)) E7) | (go_at_call 12; refine Calls.mono (c8 _ ?hh) ?_; (case hh => ((with_reducible (repeat (first | assumption | exact Ext.refl _ | apply Ext.alloc | apply Ext.drew | apply Ext.drewN))); done)); rintro e y8 ⟨rfl, E8⟩; have Z8 : Ext W0 y8 := Ext.trans (by ((with_reducible (repeat (first | assumption | exact Ext.refl _ | apply Ext.alloc | apply Ext.drew | apply Ext.drewN))); done)) E8) | (go_at_call 13; refine Calls.mono (c9 _ ?hh) ?_; (case hh => ((with_reducible (repeat (first | assumption | exact Ext.refl _ | apply Ext.alloc | apply Ext.drew | apply Ext.drewN))); done)); rintro e y9 ⟨rfl, E9⟩; have Z9 : Ext W0 y9 := Ext.trans (by ((with_reducible (repeat (first | assumption | exact Ext.refl _ | apply Ext.alloc | apply Ext.drew | apply Ext.drewN))); done)) E9) | (go_at_call 14; refine Calls.mono (cA _ ?hh) ?_; (case hh => ((with_reducible (repeat (first | assumption | exact Ext.refl _ | apply Ext.alloc | apply Ext.drew | apply Ext.drewN))); done)); rintro e yA ⟨rfl, EA⟩; have ZA : Ext W0 yA := Ext.trans (by ((with_reducible (repeat (first | assumption | exact Ext.refl _ | apply Ext.alloc | apply Ext.drew | apply Ext.drewN))); done)) EA) | (go_at_call 15; refine Calls.mono (cB _ ?hh) ?_; (case hh => ((with_reducible (repeat (first | assumption | exact Ext.refl _ | apply Ext.alloc | apply Ext.drew | apply Ext.drewN))); done)); rintro e yB ⟨rfl, EB⟩; have ZB : Ext W0 yB := Ext.trans (by ((with_reducible (repeat (first | assumption | exact Ext.refl _ | apply Ext.alloc | apply Ext.drew | apply Ext.drewN))); done)) EB) | (go_at_call 16; refine Calls.mono (cC _ ?hh) ?_; (case hh => ((with_reducible (repeat (first | assumption | exact Ext.refl _ | apply Ext.alloc | apply Ext.drew | apply Ext.drewN))); done)); rintro e yC ⟨rfl, EC⟩; have ZC : Ext W0 yC := Ext.trans (by ((with_reducible (repeat (first | assumption | exact Ext.refl _ | apply Ext.alloc | apply Ext.drew | apply Ext.drewN))); done)) EC) | (go_at_call 17; refine Calls.mono (cD _ ?hh) ?_; (case hh => ((with_reducible (repeat (first | assumption | exact Ext.refl _ | apply Ext.alloc | apply Ext.drew | apply Ext.drewN))); done)); rintro e yD ⟨rfl, ED⟩; have ZD : Ext W0 yD := Ext.trans (by ((with_reducible (repeat (first | assumption | exact Ext.refl _ | apply Ext.alloc | apply Ext.drew | apply Ext.drewN))); done)) ED))
  go_wp2_with fail
  go_ret
  exact ⟨ret_bool rfl, XW.trans (by assumption)⟩

theorem laidOut : laidOutB Tryz.prog = true := by kernel_rfl
theorem cellsVal : Tryz.prog.cellsOf 23 = 4 := by kernel_rfl
set_option maxRecDepth 100000 in
theorem contract (H : Type) (enc : TypeId × Value → H) (W : World) (base : Nat) (args : Array Value) (ds gs : List (DataW H)) (before : List MemPlace)
    (hval0 : ∀ (j : Nat) t v, Tryz.f3.params[j]? = some t → args[j]? = some v → Value.okWide Tryz.prog W .any base t v)
    (hW : DataW.Whole enc Tryz.prog Tryz.f3.params.toList Rows.valueFormsSpec.vars false W args.toList ds gs before) (hL : laidMetH Tryz.prog Rows.valueFormsRow.laid W) :
    Calls Tryz.prog 3 args W fun e W' => ∃ v, e = .returned v ∧ Rows.valueFormsSpec.post enc Tryz.prog Tryz.f3 false true false false W args v W' := by
  have hval := hval0
  have hW' := hW
  obtain ⟨p, q, hA0, hV, rfl, hfz, hnd⟩ := hW
  have hA : DataW.TrodAll enc Tryz.prog W 0 (fun _ => true) true Tryz.f3.params.toList args.toList ds p := hA0
  rw [Tryz.params3] at hA hval
  obtain ⟨v0, vs0, d0, ds0, p0, q0, hargs, rfl, rfl, h0, r0⟩ := trodAll_cons hA
  obtain ⟨rfl, rfl, rfl⟩ := trodAll_nil r0
  obtain rfl : args = #[v0] := by cases args; simp_all
  obtain ⟨rfl, rfl⟩ := trodVars_none hV
  have j0 := h0
  have lt0 : ∀ x ∈ p0, x.block < W.heap.size := by obtain ⟨m, hm⟩ := j0; exact DataW.trod_lt m _ _ _ hm
  obtain ⟨c0, c1, c2, c3, y0, y1, y2, y3, m0, rfl, hd0, hp0, hy0, hy1, hy2, hy3⟩ := open_agg4 Tryz.underlying23 (by kernel_rfl) cellsVal (hval 0 23 v0 rfl rfl) h0
  obtain ⟨k0, f0, _, wk0⟩ := DataW.trod_int Tryz.underlying3 hy0
  obtain ⟨n0, f1, _, wn0⟩ := DataW.trod_int Tryz.underlying2 hy1
  obtain ⟨e0, f3, _, we0⟩ := DataW.trod_int Tryz.underlying3 hy3
  obtain ⟨s0, f2, _, ws0⟩ := DataW.trod_string Tryz.underlying9 hy2
  simp only [List.cons.injEq, and_true] at f0 f1 f2 f3
  obtain rfl := f0
  obtain rfl := f1
  obtain rfl := f2
  obtain rfl := f3
  clear hA0 hval0
  refine (walk k0 n0 s0 e0 wk0 wn0 ws0 we0 W (nm_ofF hL) (tab_ofF hL)).mono fun e W' ⟨he, bel⟩ => ?_
  subst he
  exact ⟨_, rfl, _, _, _, [], _, [], hW', trodAll_mk1 (shut_bool Tryz.underlying4 _), (trodAll_cons_mk (Below.trod laidOut (by kernel_rfl) (of_decide_eq_true (by kernel_rfl)) j0 bel lt0) trodAll_mk0), rfl, Below.frame bel _, fun h => by cases h⟩

theorem laid_met (os : Os) : laidMet Tryz.prog Rows.valueFormsRow.laid ((laidWorldF os).forCall (fun _ _ => 0) ⟨#[], #[.agg #[.int .i64 0, .int .i64 0, .string ⟨#[]⟩, .int .i64 0]], []⟩).memory :=
  laidMet_of_run' 8 (by kernel_rfl) (by kernel_rfl)
theorem reads (os : Os) {H : Type} (enc : TypeId × Value → H) : ∃ places, DataW.whole enc Tryz.prog ((laidWorldF os).forCall (fun _ _ => 0) ⟨#[], #[.agg #[.int .i64 0, .int .i64 0, .string ⟨#[]⟩, .int .i64 0]], []⟩).memory Tryz.f3.params.toList Rows.valueFormsSpec.vars false (#[.agg #[.int .i64 0, .int .i64 0, .string ⟨#[]⟩, .int .i64 0]] : Array Value).toList 8 = some ([.agg [.lit (.int .i64 0), .lit (.int .i64 0), .lit (.string []), .lit (.int .i64 0)]], [], places) :=
  ⟨[], by kernel_rfl⟩

set_option maxRecDepth 100000 in
theorem lifted (os : Os) (started : os.Started) (H : Type) (enc : TypeId × Value → H) (F : Stop.Interp) :
    ReturnsInHanded {} Tryz.checked os 3 .any ((OpenSpec.ofChange Rows.valueFormsSpec).preRow enc Tryz.prog Tryz.f3 Rows.valueFormsRow.domain false Rows.valueFormsRow.laid) (((OpenSpec.ofChange Rows.valueFormsSpec).at F).post enc Tryz.prog Tryz.f3 false true false false) := by
  obtain ⟨places, hx⟩ := reads os enc
  refine returnsInHanded_of_row (C := Tryz.checked) (s := OpenSpec.ofChange Rows.valueFormsSpec) ownK started (by kernel_rfl) Tryz.func3
    (witness_row_at (enc := enc) (C := Tryz.checked) false (laidWorldF os) #[.agg #[.int .i64 0, .int .i64 0, .string ⟨#[]⟩, .int .i64 0]] rfl (by kernel_rfl) (by kernel_rfl) (by kernel_rfl)
      (OpenSpec.preRow_of_cond 8 hx (by kernel_rfl) (fun k hk => by cases hk) (by kernel_rfl) (by
        rw [MakeChecks.laidMetH_plain _ _ _ (by kernel_rfl)]
        exact laid_met os))) ?_
  intro W base args ds gs before hval hW _ _ _ hL _ _
  exact contract H enc W base args ds gs before hval hW hL

theorem said : Rows.ValueFormsSaid :=
  OpenClaim.holds_of_cond 3 Tryz.f3 rfl rfl rfl rfl rfl rfl rfl ⟨rfl, rfl, rfl, rfl, rfl⟩ rfl rfl rfl rfl rfl (by kernel_rfl) Tryz.func3 (by kernel_rfl)
    (of_decide_eq_true (by kernel_rfl)) (by unfold Func.isWrapper; first | (rw [if_pos (by decide +kernel)]; kernel_rfl) | (rw [if_neg (by decide +kernel)]; exact ⟨rfl, rfl⟩))
    (fun os started H enc _ F => by rw [OpenClaim.pre_eq_preRow]; exact lifted os started H enc F)

theorem plain (f : FuncId) (fn : Func) (hf : Tryz.pinned.checked.prog.funcNamed Rows.valueFormsRow.func = some f) (hfn : Tryz.pinned.checked.prog.funcs[f]? = some fn) :
    false = Tryz.pinned.checked.prog.looks [] ∧ ∀ (j : Nat) t, fn.params[j]? = some t → Tryz.pinned.checked.prog.wantsStandIn t = false := by
  obtain rfl : f = 3 := Option.some.inj ((show Tryz.prog.funcNamed Rows.valueFormsRow.func = some 3 by kernel_rfl).symm.trans hf) |>.symm
  obtain rfl : fn = Tryz.f3 := (Option.some.inj (Tryz.func3.symm.trans hfn)).symm
  refine ⟨by kernel_rfl, fun j t ht => ?_⟩
  rw [Tryz.params3] at ht
  have hm : t ∈ [23] := by simpa using Array.mem_of_getElem? ht
  have hall : ([23].all fun u => !Tryz.prog.wantsStandIn u) = true := by kernel_rfl
  exact (show Tryz.prog.wantsStandIn t = false by simpa using List.all_eq_true.1 hall t hm)

theorem card : Rows.ValueFormsCardSaid :=
  Claim7.holds_tied_plain_at .later [] _ _ _ _ said (fun _ h => by cases h) (by kernel_rfl) (fun _ h => by cases h) valueForms_row_tie rfl ⟨rfl, rfl⟩ (by kernel_rfl) rfl plain (by kernel_rfl)
end Go.Proofs.YtlfkiepnahgbeaaGreatDoor.valueForms
namespace Go.Proofs.YtlfkiepnahgbeaaGreatDoor
theorem valueForms_card : Rows.ValueFormsCardSaid := valueForms.card
end Go.Proofs.YtlfkiepnahgbeaaGreatDoor
