/-
  ValueMakes is proved: for every number, text and error's number the call returns true and the arguments read as they did. Its condition: the errors' names lie as the program's text lays them (the card ties them).
-/
import Derived.Test.YtlfkiepnahgbeaaDoorValG
import Derived.Test.YtlfkiepnahgbeaaDoorLaid4N
import Derived.Test.YtlfkiepnahgbeaaDoorCards
import Derived.Test.YtlfkiepnahgbeaaDoorTie
import Derived.ChangeMaps5
import Derived.Lib.SmallJoins
namespace Go.Proofs.YtlfkiepnahgbeaaDoor.valueMakes
open Go.ChangeShapes Go.WideShapes Go.ChangeAt Go.RowKit
open Go.ChangeMaps (open_string shut_string)
open Go.Joins
set_option maxHeartbeats 1000000

theorem walk (a0 : Int) (a1 : ByteArray) (a2 : Int) (_ : (Lit.int .i64 a0).wf = true) (_ : a1.size ≤ maxLen) (_ : (Lit.int .i64 a2).wf = true) (w : World) (hN : Nm w) :
    Calls Tryd.prog 3 #[.int .i64 a0, .string a1, .int .i64 a2] w fun e w' => e = .returned (.bool true) ∧ Ext w w' := by
  have c1 := fun W h => vnum_any a0 W h
  have c2 := fun W => rnum_any a0 W
  have c3 := fun W h => vtext_any a1 W h
  have c4 := fun W => rtext_any a1 W
  have c5 := fun W => vbool_any (decide (a0 > 0)) W
  have c6 := fun W => rbool_any (decide (a0 > 0)) W
  have c7 := fun W h => err_any a2 W h
  have c8 := fun W => rerr_any a2 W
  have c9 := fun W h => errname_any a2 W h
  have cA := fun W => rerrname_any a2 W
  have cB := fun W h => lives_v W h
  obtain ⟨q0, q1, q2, q3, hq⟩ := dat4 (mkNum a0)
  rw [hq] at c1 c2
  obtain ⟨t0, t1, t2, t3, ht⟩ := dat4 (mkText a1)
  rw [ht] at c3 c4
  obtain ⟨b0, b1, b2, b3, hb⟩ := dat4 (V.tf (decide (a0 > 0)))
  rw [hb] at c5 c6
  obtain ⟨e0, e1, e2, e3, he⟩ := dat4 (mkErr a2)
  rw [he] at c7 c8
  generalize bs (errName a2) = n at c9 cA
  clear hq ht hb he
  go_enter Tryd.func3, Tryd.ntmps3
  go_wp2_with fail
  refine (c1 _ (hN.ext (Ext.refl _))).mono ?_
  rintro r x1 ⟨rfl, E1⟩
  have X1 : Ext w x1 := E1
  go_wp2_with fail
  refine (c2 _).mono ?_
  rintro r x2 ⟨rfl, E2⟩
  have X2 : Ext w x2 := X1.trans E2
  clear E2 X1
  go_wp2_with fail
  refine (c3 _ (hN.ext X2)).mono ?_
  rintro r x3 ⟨rfl, E3⟩
  have X3 : Ext w x3 := X2.trans E3
  clear E3 X2
  go_wp2_with fail
  refine (c4 _).mono ?_
  rintro r x4 ⟨rfl, E4⟩
  have X4 : Ext w x4 := X3.trans E4
  clear E4 X3
  go_wp2_with fail
  refine (c5 _).mono ?_
  rintro r x5 ⟨rfl, E5⟩
  have X5 : Ext w x5 := X4.trans E5
  clear E5 X4
  go_wp2_with fail
  refine (c6 _).mono ?_
  rintro r x6 ⟨rfl, E6⟩
  have X6 : Ext w x6 := X5.trans E6
  clear E6 X5
  go_wp2_with fail
  refine (c7 _ (hN.ext X6)).mono ?_
  rintro r x7 ⟨rfl, E7⟩
  have X7 : Ext w x7 := X6.trans E7
  clear E7 X6
  go_wp2_with fail
  refine (c8 _).mono ?_
  rintro r x8 ⟨rfl, E8⟩
  have X8 : Ext w x8 := X7.trans E8
  clear E8 X7
  go_wp2_with fail
  refine (c9 _ (hN.ext X8)).mono ?_
  rintro r x0 ⟨rfl, rfl⟩
  go_wp2_with fail
  refine (cA _).mono ?_
  rintro r x0 ⟨rfl, rfl⟩
  go_wp2_with fail
  refine (cB _ (hN.ext X8)).mono ?_
  rintro r x9 ⟨rfl, E9⟩
  have X9 : Ext w x9 := X8.trans E9
  clear E9 X8
  go_wp2_with fail
  go_ret
  exact ⟨ret_bool rfl, X9⟩

set_option maxRecDepth 100000 in
theorem contract (H : Type) (enc : TypeId × Value → H) (W : World) (base : Nat) (args : Array Value) (ds gs : List (DataW H)) (before : List MemPlace)
    (hval0 : ∀ (j : Nat) t v, Tryd.f3.params[j]? = some t → args[j]? = some v → Value.okWide Tryd.prog W .any base t v)
    (hW : DataW.Whole enc Tryd.prog Tryd.f3.params.toList Rows.valueMakesSpec.vars false W args.toList ds gs before) (hL : laidMetH Tryd.prog Rows.valueMakesRow.laid W) :
    Calls Tryd.prog 3 args W fun e W' => ∃ v, e = .returned v ∧ Rows.valueMakesSpec.post enc Tryd.prog Tryd.f3 false true false false W args v W' := by
  have hval := hval0
  have hW' := hW
  obtain ⟨p, q, hA0, hV, rfl, hfz, hnd⟩ := hW
  have hA : DataW.TrodAll enc Tryd.prog W 0 (fun _ => true) true Tryd.f3.params.toList args.toList ds p := hA0
  rw [Tryd.params3] at hA hval
  obtain ⟨v0, vs0, d0, ds0, p0, q0, hargs, rfl, rfl, h0, r0⟩ := trodAll_cons hA
  obtain ⟨v1, vs1, d1, ds1, p1, q1, rfl, rfl, rfl, h1, r1⟩ := trodAll_cons r0
  obtain ⟨v2, vs2, d2, ds2, p2, q2, rfl, rfl, rfl, h2, r2⟩ := trodAll_cons r1
  obtain ⟨rfl, rfl, rfl⟩ := trodAll_nil r2
  obtain rfl : args = #[v0, v1, v2] := by cases args; simp_all
  obtain ⟨rfl, rfl⟩ := trodVars_none hV
  obtain ⟨a0, rfl, rfl, rfl, w0⟩ := open_int Tryd.underlying2 (hval 0 2 v0 rfl rfl) h0
  obtain ⟨a1, rfl, rfl, rfl, w1⟩ := open_string Tryd.underlying9 (hval 1 9 v1 rfl rfl) h1
  obtain ⟨a2, rfl, rfl, rfl, w2⟩ := open_int Tryd.underlying3 (hval 2 3 v2 rfl rfl) h2
  clear hA0 hval0
  simp only [List.append_nil] at hW'
  refine (walk a0 a1 a2 w0 w1 w2 W (nm_ofN hL)).mono fun e W' ⟨he, bel⟩ => ?_
  subst he
  exact ⟨_, rfl, _, _, _, [], [], [], hW', trodAll_mk1 (shut_bool Tryd.underlying4 _), (trodAll_cons_mk (shut_int Tryd.underlying2 w0) (trodAll_cons_mk (shut_string Tryd.underlying9 w1) (trodAll_cons_mk (shut_int Tryd.underlying3 w2) trodAll_mk0))), rfl, Below.frame bel _, fun h => by cases h⟩

theorem laid_met (os : Os) : laidMet Tryd.prog Rows.valueMakesRow.laid ((laidWorldN os).forCall (fun _ _ => 0) ⟨#[], #[.int .i64 0, .string ⟨#[]⟩, .int .i64 0], []⟩).memory :=
  laidMet_of_run' 8 (by kernel_rfl) (by kernel_rfl)
theorem reads (os : Os) {H : Type} (enc : TypeId × Value → H) : ∃ places, DataW.whole enc Tryd.prog ((laidWorldN os).forCall (fun _ _ => 0) ⟨#[], #[.int .i64 0, .string ⟨#[]⟩, .int .i64 0], []⟩).memory Tryd.f3.params.toList Rows.valueMakesSpec.vars false (#[.int .i64 0, .string ⟨#[]⟩, .int .i64 0] : Array Value).toList 8 = some ([.lit (.int .i64 0), .lit (.string []), .lit (.int .i64 0)], [], places) :=
  ⟨[], by kernel_rfl⟩

set_option maxRecDepth 100000 in
theorem lifted (os : Os) (started : os.Started) (H : Type) (enc : TypeId × Value → H) (F : Stop.Interp) :
    ReturnsInHanded {} Tryd.checked os 3 .any ((OpenSpec.ofChange Rows.valueMakesSpec).preRow enc Tryd.prog Tryd.f3 Rows.valueMakesRow.domain false Rows.valueMakesRow.laid) (((OpenSpec.ofChange Rows.valueMakesSpec).at F).post enc Tryd.prog Tryd.f3 false true false false) := by
  obtain ⟨places, hx⟩ := reads os enc
  refine returnsInHanded_of_row (C := Tryd.checked) (s := OpenSpec.ofChange Rows.valueMakesSpec) ownK started (by kernel_rfl) Tryd.func3
    (witness_row_at (enc := enc) (C := Tryd.checked) false (laidWorldN os) #[.int .i64 0, .string ⟨#[]⟩, .int .i64 0] rfl (by kernel_rfl) (by kernel_rfl) (by kernel_rfl)
      (OpenSpec.preRow_of_cond 8 hx (by kernel_rfl) (fun k hk => by cases hk) (by kernel_rfl) (by
        rw [MakeChecks.laidMetH_plain _ _ _ (by kernel_rfl)]
        exact laid_met os))) ?_
  intro W base args ds gs before hval hW _ _ _ hL _ _
  exact contract H enc W base args ds gs before hval hW hL

theorem said : Rows.ValueMakesSaid :=
  OpenClaim.holds_of_cond 3 Tryd.f3 rfl rfl rfl rfl rfl rfl rfl ⟨rfl, rfl, rfl, rfl, rfl⟩ rfl rfl rfl rfl rfl (by kernel_rfl) Tryd.func3 (by kernel_rfl)
    (of_decide_eq_true (by kernel_rfl)) (by unfold Func.isWrapper; first | (rw [if_pos (by decide +kernel)]; kernel_rfl) | (rw [if_neg (by decide +kernel)]; exact ⟨rfl, rfl⟩))
    (fun os started H enc _ F => by rw [OpenClaim.pre_eq_preRow]; exact lifted os started H enc F)

theorem plain (f : FuncId) (fn : Func) (hf : Tryd.pinned.checked.prog.funcNamed Rows.valueMakesRow.func = some f) (hfn : Tryd.pinned.checked.prog.funcs[f]? = some fn) :
    false = Tryd.pinned.checked.prog.looks [] ∧ ∀ (j : Nat) t, fn.params[j]? = some t → Tryd.pinned.checked.prog.wantsStandIn t = false := by
  obtain rfl : f = 3 := Option.some.inj ((show Tryd.prog.funcNamed Rows.valueMakesRow.func = some 3 by kernel_rfl).symm.trans hf) |>.symm
  obtain rfl : fn = Tryd.f3 := (Option.some.inj (Tryd.func3.symm.trans hfn)).symm
  refine ⟨by kernel_rfl, fun j t ht => ?_⟩
  rw [Tryd.params3] at ht
  have hm : t ∈ [2, 9, 3] := by simpa using Array.mem_of_getElem? ht
  have hall : ([2, 9, 3].all fun u => !Tryd.prog.wantsStandIn u) = true := by kernel_rfl
  exact (show Tryd.prog.wantsStandIn t = false by simpa using List.all_eq_true.1 hall t hm)

theorem card : Rows.ValueMakesCardSaid :=
  Claim7.holds_tied_plain_at .later [] _ _ _ _ said (fun _ h => by cases h) (by kernel_rfl) (fun _ h => by cases h) valueMakes_row_tie rfl ⟨rfl, rfl⟩ (by kernel_rfl) rfl plain (by kernel_rfl)
end Go.Proofs.YtlfkiepnahgbeaaDoor.valueMakes
namespace Go.Proofs.YtlfkiepnahgbeaaDoor
theorem valueMakes_card : Rows.ValueMakesCardSaid := valueMakes.card
end Go.Proofs.YtlfkiepnahgbeaaDoor
