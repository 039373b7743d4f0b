/-
  CoordPrints is proved: for every reference the call returns true and the argument reads as it did. Its condition: the listed library tables lie as the program text lays them (the card ties them).
-/
import Derived.Test.YtdklhgfkaablbaaDoorCooL
import Derived.Test.YtdklhgfkaablbaaDoorLaid6
import Derived.Test.YtdklhgfkaablbaaDoorCards
import Derived.Test.YtdklhgfkaablbaaDoorTie
import Derived.ChangeMaps5
import Derived.Lib.SmallJoins
namespace Go.Proofs.YtdklhgfkaablbaaDoor.coordPrints
open Go.ChangeShapes Go.WideShapes Go.ChangeAt Go.RowKit
open Go.ChangeMaps (open_string shut_string)
open Go.Joins
set_option maxHeartbeats 1000000

theorem walk (r c : Int) (x y : Bool) (hr : (Lit.int .i64 r).wf = true) (hc : (Lit.int .i64 c).wf = true) (w : World) (hT : Tab w) :
    Calls Tryd.prog 4 #[.agg #[.int .i64 r, .int .i64 c, .bool x, .bool y]] w fun e w' => e = .returned (.bool true) ∧ Ext w w' := by
  have ir := i64_of_wf hr
  have ic := i64_of_wf hc
  clear hr hc
  have c1 := fun W h => cprint_any r c x y ir ic W h
  have c2 := fun W h => cparse_any ⟨(printR r c x y).toArray⟩ W (by rw [← size_list]; exact Nat.le_trans (print_len r c x y) (by decide)) h
  have c3 := fun W => rin_any r c W
  have c4 := fun W => rprint6_any r c x y ir ic W
  have c5 := fun W => in_any r c W
  have cL := fun W h => lives6 W h
  simp only at c2
  cases hin : inB r c
  · obtain ⟨o, v⟩ := print_none r c x y hin
    rw [hin] at c3 c5
    rw [o, v] at c2
    unfold refD at c2
    clear hin o v ir ic
    generalize (⟨(printR r c x y).toArray⟩ : ByteArray) = s at *
    go_enter Tryd.func4, Tryd.ntmps4
    have B0 : Blk (w.alloc (.cells #[.int .i64 r, .int .i64 c, .bool x, .bool y] 23)) w.heap.size (.int .i64 r) (.int .i64 c) (.bool x) (.bool y) := blk_top rfl (Ext.refl _)
    have X0 : Ext w (w.alloc (.cells #[.int .i64 r, .int .i64 c, .bool x, .bool y] 23)) := (Ext.refl _).alloc _
    go_wp2_with fail
    generalize w.alloc (.cells #[.int .i64 r, .int .i64 c, .bool x, .bool y] 23) = W0 at *
    refine (c1 _ (hT.ext X0)).mono ?_
    rintro e w1 ⟨rfl, E1⟩
    have X1 := X0.trans E1
    have B1 := B0.ext E1
    clear X0 B0 E1
    go_wp2_with fail
    refine (c2 _ (hT.ext X1)).mono ?_
    rintro e w2 ⟨rfl, E2⟩
    have X2 := X1.trans E2
    have B2 := B1.ext E2
    clear X1 B1 E2
    have X3 := X2.alloc (.cells #[.int .i64 0, .int .i64 0, .bool false, .bool false] 23)
    have B3 := B2.al (.cells #[.int .i64 0, .int .i64 0, .bool false, .bool false] 23)
    have C3 : Blk (w2.alloc (.cells #[.int .i64 0, .int .i64 0, .bool false, .bool false] 23)) w2.heap.size (.int .i64 0) (.int .i64 0) (.bool false) (.bool false) := blk_top rfl (Ext.refl _)
    obtain ⟨_, ⟨k0, k1, k2, k3⟩, f0, f1, f2, f3⟩ := B2
    go_wp2_with fail
    clear X2 k0 k1 k2 k3 f0 f1 f2 f3
    generalize w2.alloc (.cells #[.int .i64 0, .int .i64 0, .bool false, .bool false] 23) = w3 at *
    generalize w2.heap.size = nb at *
    refine (c3 _).mono ?_
    rintro e w4 ⟨rfl, rfl⟩
    have B4 := B3
    obtain ⟨_, ⟨k0, k1, k2, k3⟩, f0, f1, f2, f3⟩ := B4
    go_wp2_with fail
    refine (c4 _).mono ?_
    rintro e w5 ⟨rfl, E5⟩
    have X5 := X3.trans E5
    have B5 := B3.ext E5
    have C5 := C3.ext E5
    clear X3 B3 C3 E5 k0 k1 k2 k3 f0 f1 f2 f3
    obtain ⟨_, ⟨k0, k1, k2, k3⟩, f0, f1, f2, f3⟩ := B5
    obtain ⟨_, ⟨m0, m1, m2, m3⟩, _⟩ := C5
    go_wp2_with fail
    refine (c5 _).mono ?_
    rintro e w6 ⟨rfl, rfl⟩
    go_wp2_with fail
    refine (cL _ (hT.ext X5)).mono ?_
    rintro e w7 ⟨rfl, E7⟩
    go_wp2_with fail
    go_ret
    exact ⟨ret_bool rfl, X5.trans E7⟩
  · obtain ⟨o, v⟩ := print_read r c x y hin
    rw [hin] at c3 c5
    rw [o, v] at c2
    unfold refD at c2
    clear hin o v ir ic
    generalize (⟨(printR r c x y).toArray⟩ : ByteArray) = s at *
    go_enter Tryd.func4, Tryd.ntmps4
    have B0 : Blk (w.alloc (.cells #[.int .i64 r, .int .i64 c, .bool x, .bool y] 23)) w.heap.size (.int .i64 r) (.int .i64 c) (.bool x) (.bool y) := blk_top rfl (Ext.refl _)
    have X0 : Ext w (w.alloc (.cells #[.int .i64 r, .int .i64 c, .bool x, .bool y] 23)) := (Ext.refl _).alloc _
    go_wp2_with fail
    generalize w.alloc (.cells #[.int .i64 r, .int .i64 c, .bool x, .bool y] 23) = W0 at *
    refine (c1 _ (hT.ext X0)).mono ?_
    rintro e w1 ⟨rfl, E1⟩
    have X1 := X0.trans E1
    have B1 := B0.ext E1
    clear X0 B0 E1
    go_wp2_with fail
    refine (c2 _ (hT.ext X1)).mono ?_
    rintro e w2 ⟨rfl, E2⟩
    have X2 := X1.trans E2
    have B2 := B1.ext E2
    clear X1 B1 E2
    have X3 := X2.alloc (.cells #[.int .i64 r, .int .i64 c, .bool x, .bool y] 23)
    have B3 := B2.al (.cells #[.int .i64 r, .int .i64 c, .bool x, .bool y] 23)
    have C3 : Blk (w2.alloc (.cells #[.int .i64 r, .int .i64 c, .bool x, .bool y] 23)) w2.heap.size (.int .i64 r) (.int .i64 c) (.bool x) (.bool y) := blk_top rfl (Ext.refl _)
    obtain ⟨_, ⟨k0, k1, k2, k3⟩, f0, f1, f2, f3⟩ := B2
    go_wp2_with fail
    clear X2 k0 k1 k2 k3 f0 f1 f2 f3
    generalize w2.alloc (.cells #[.int .i64 r, .int .i64 c, .bool x, .bool y] 23) = w3 at *
    generalize w2.heap.size = nb at *
    refine (c3 _).mono ?_
    rintro e w4 ⟨rfl, rfl⟩
    have B4 := B3
    obtain ⟨_, ⟨k0, k1, k2, k3⟩, f0, f1, f2, f3⟩ := B4
    go_wp2_with fail
    refine (c4 _).mono ?_
    rintro e w5 ⟨rfl, E5⟩
    have X5 := X3.trans E5
    have B5 := B3.ext E5
    have C5 := C3.ext E5
    clear X3 B3 C3 E5 k0 k1 k2 k3 f0 f1 f2 f3
    obtain ⟨_, ⟨k0, k1, k2, k3⟩, f0, f1, f2, f3⟩ := B5
    obtain ⟨_, ⟨m0, m1, m2, m3⟩, _⟩ := C5
    go_wp2_with fail
    refine (c5 _).mono ?_
    rintro e w6 ⟨rfl, rfl⟩
    go_wp2_with fail
    refine (cL _ (hT.ext X5)).mono ?_
    rintro e w7 ⟨rfl, E7⟩
    go_wp2_with fail
    go_ret
    exact ⟨ret_bool rfl, X5.trans E7⟩

theorem laidOut : laidOutB Tryd.prog = true := by kernel_rfl
theorem cells_ref : Tryd.prog.cellsOf 23 = 4 := by kernel_rfl
set_option maxRecDepth 100000 in
theorem contract (H : Type) (enc : TypeId × Value → H) (W : World) (base : Nat) (args : Array Value) (ds gs : List (DataW H)) (before : List MemPlace)
    (hval0 : ∀ (j : Nat) t v, Tryd.f4.params[j]? = some t → args[j]? = some v → Value.okWide Tryd.prog W .any base t v)
    (hW : DataW.Whole enc Tryd.prog Tryd.f4.params.toList Rows.coordPrintsSpec.vars false W args.toList ds gs before) (hL : laidMetH Tryd.prog Rows.coordPrintsRow.laid W) :
    Calls Tryd.prog 4 args W fun e W' => ∃ v, e = .returned v ∧ Rows.coordPrintsSpec.post enc Tryd.prog Tryd.f4 false true false false W args v W' := by
  have hval := hval0
  have hW' := hW
  obtain ⟨p, q, hA0, hV, rfl, hfz, hnd⟩ := hW
  have hA : DataW.TrodAll enc Tryd.prog W 0 (fun _ => true) true Tryd.f4.params.toList args.toList ds p := hA0
  rw [Tryd.params4] at hA hval
  obtain ⟨v0, vs0, d0, ds0, p0, q0, hargs, rfl, rfl, h0, r0⟩ := trodAll_cons hA
  obtain ⟨rfl, rfl, rfl⟩ := trodAll_nil r0
  obtain rfl : args = #[v0] := by cases args; simp_all
  obtain ⟨rfl, rfl⟩ := trodVars_none hV
  have j0 := h0
  have lt0 : ∀ x ∈ p0, x.block < W.heap.size := by obtain ⟨m, hm⟩ := j0; exact DataW.trod_lt m _ _ _ hm
  obtain ⟨c0, c1, c2, c3, y0, y1, y2, y3, m0, rfl, hd0, hp0, hy0, hy1, hy2, hy3⟩ := open_agg4 Tryd.underlying23 (by kernel_rfl) cells_ref (hval 0 23 v0 rfl rfl) h0
  obtain ⟨r0, f0, _, wr0⟩ := DataW.trod_int Tryd.underlying3 hy0
  obtain ⟨c0, f1, _, wc0⟩ := DataW.trod_int Tryd.underlying3 hy1
  obtain ⟨x0, f2, _⟩ := DataW.trod_bool Tryd.underlying4 hy2
  obtain ⟨y0, f3, _⟩ := DataW.trod_bool Tryd.underlying4 hy3
  simp only [List.cons.injEq, and_true] at f0 f1 f2 f3
  obtain rfl := f0
  obtain rfl := f1
  obtain rfl := f2
  obtain rfl := f3
  clear hA0 hval0
  refine (walk r0 c0 x0 y0 wr0 wc0 W (tab_of hL)).mono fun e W' ⟨he, bel⟩ => ?_
  subst he
  exact ⟨_, rfl, _, _, _, [], _, [], hW', trodAll_mk1 (shut_bool Tryd.underlying4 _), (trodAll_cons_mk (Below.trod laidOut (by kernel_rfl) (of_decide_eq_true (by kernel_rfl)) j0 bel lt0) trodAll_mk0), rfl, Below.frame bel _, fun h => by cases h⟩

theorem laid_met (os : Os) : laidMet Tryd.prog Rows.coordPrintsRow.laid ((laidWorld os).forCall (fun _ _ => 0) ⟨#[], #[.agg #[.int .i64 0, .int .i64 0, .bool false, .bool false]], []⟩).memory :=
  laidMet_of_run' 8 (by kernel_rfl) (by kernel_rfl)
theorem reads (os : Os) {H : Type} (enc : TypeId × Value → H) : ∃ places, DataW.whole enc Tryd.prog ((laidWorld os).forCall (fun _ _ => 0) ⟨#[], #[.agg #[.int .i64 0, .int .i64 0, .bool false, .bool false]], []⟩).memory Tryd.f4.params.toList Rows.coordPrintsSpec.vars false (#[.agg #[.int .i64 0, .int .i64 0, .bool false, .bool false]] : Array Value).toList 8 = some ([.agg [.lit (.int .i64 0), .lit (.int .i64 0), .lit (.bool false), .lit (.bool false)]], [], places) :=
  ⟨[], by kernel_rfl⟩

set_option maxRecDepth 100000 in
theorem lifted (os : Os) (started : os.Started) (H : Type) (enc : TypeId × Value → H) (F : Stop.Interp) :
    ReturnsInHanded {} Tryd.checked os 4 .any ((OpenSpec.ofChange Rows.coordPrintsSpec).preRow enc Tryd.prog Tryd.f4 Rows.coordPrintsRow.domain false Rows.coordPrintsRow.laid) (((OpenSpec.ofChange Rows.coordPrintsSpec).at F).post enc Tryd.prog Tryd.f4 false true false false) := by
  obtain ⟨places, hx⟩ := reads os enc
  refine returnsInHanded_of_row (C := Tryd.checked) (s := OpenSpec.ofChange Rows.coordPrintsSpec) ownK started (by kernel_rfl) Tryd.func4
    (witness_row_at (enc := enc) (C := Tryd.checked) false (laidWorld os) #[.agg #[.int .i64 0, .int .i64 0, .bool false, .bool false]] rfl (by kernel_rfl) (by kernel_rfl) (by kernel_rfl)
      (OpenSpec.preRow_of_cond 8 hx (by kernel_rfl) (fun k hk => by cases hk) (by kernel_rfl) (by
        rw [MakeChecks.laidMetH_plain _ _ _ (by kernel_rfl)]
        exact laid_met os))) ?_
  intro W base args ds gs before hval hW _ _ _ hL _ _
  exact contract H enc W base args ds gs before hval hW hL

theorem said : Rows.CoordPrintsSaid :=
  OpenClaim.holds_of_cond 4 Tryd.f4 rfl rfl rfl rfl rfl rfl rfl ⟨rfl, rfl, rfl, rfl, rfl⟩ rfl rfl rfl rfl rfl (by kernel_rfl) Tryd.func4 (by kernel_rfl)
    (of_decide_eq_true (by kernel_rfl)) (by unfold Func.isWrapper; first | (rw [if_pos (by decide +kernel)]; kernel_rfl) | (rw [if_neg (by decide +kernel)]; exact ⟨rfl, rfl⟩))
    (fun os started H enc _ F => by rw [OpenClaim.pre_eq_preRow]; exact lifted os started H enc F)

theorem plain (f : FuncId) (fn : Func) (hf : Tryd.pinned.checked.prog.funcNamed Rows.coordPrintsRow.func = some f) (hfn : Tryd.pinned.checked.prog.funcs[f]? = some fn) :
    false = Tryd.pinned.checked.prog.looks [] ∧ ∀ (j : Nat) t, fn.params[j]? = some t → Tryd.pinned.checked.prog.wantsStandIn t = false := by
  obtain rfl : f = 4 := Option.some.inj ((show Tryd.prog.funcNamed Rows.coordPrintsRow.func = some 4 by kernel_rfl).symm.trans hf) |>.symm
  obtain rfl : fn = Tryd.f4 := (Option.some.inj (Tryd.func4.symm.trans hfn)).symm
  refine ⟨by kernel_rfl, fun j t ht => ?_⟩
  rw [Tryd.params4] at ht
  have hm : t ∈ [23] := by simpa using Array.mem_of_getElem? ht
  have hall : ([23].all fun u => !Tryd.prog.wantsStandIn u) = true := by kernel_rfl
  exact (show Tryd.prog.wantsStandIn t = false by simpa using List.all_eq_true.1 hall t hm)

theorem card : Rows.CoordPrintsCardSaid :=
  Claim7.holds_tied_plain_at .later [] _ _ _ _ said (fun _ h => by cases h) (by kernel_rfl) (fun _ h => by cases h) coordPrints_row_tie rfl ⟨rfl, rfl⟩ (by kernel_rfl) rfl plain (by kernel_rfl)
end Go.Proofs.YtdklhgfkaablbaaDoor.coordPrints
namespace Go.Proofs.YtdklhgfkaablbaaDoor
theorem coordPrints_card : Rows.CoordPrintsCardSaid := coordPrints.card
end Go.Proofs.YtdklhgfkaablbaaDoor
