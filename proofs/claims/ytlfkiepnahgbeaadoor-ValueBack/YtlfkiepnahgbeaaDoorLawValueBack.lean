/-
  ValueBack is proved: for every value the call returns true and the argument reads as it did. Its condition: the listed tables and the errors' names lie as the program's text lays them (the card ties them).
-/
import Derived.Test.YtlfkiepnahgbeaaDoorValK
import Derived.Test.YtlfkiepnahgbeaaDoorLaid4B
import Derived.Test.YtlfkiepnahgbeaaDoorCards
import Derived.Test.YtlfkiepnahgbeaaDoorTie
import Derived.ChangeMaps5
import Derived.Lib.SmallJoins
namespace Go.Proofs.YtlfkiepnahgbeaaDoor.valueBack
open Go.ChangeShapes Go.WideShapes Go.ChangeAt Go.RowKit
open Go.ChangeMaps (open_string shut_string)
open Go.Joins
set_option maxHeartbeats 1000000

theorem walk (k0 n0 : Int) (s0 : ByteArray) (e0 : Int) (_ : (Lit.int .i64 k0).wf = true) (wn : (Lit.int .i64 n0).wf = true) (_ : s0.size ≤ maxLen) (_ : (Lit.int .i64 e0).wf = true) (w : World) (hN : Nm w) (hT : Tab w) :
    Calls Tryd.prog 6 #[.agg #[.int .i64 k0, .int .i64 n0, .string s0, .int .i64 e0]] w fun e w' => e = .returned (.bool true) ∧ Ext w w' := by
  have hn := i64_of_wf wn
  have c1 := fun W => rnormal_any k0 n0 s0 e0 W
  have c2 := fun W h t => vshow_any k0 n0 s0 e0 W hn t h
  have ok := nm_ok k0 n0 s0 e0 hn
  have c5 := fun W h => lives_v W h
  generalize nm k0 n0 s0 e0 = v at *
  by_cases hk : v.k = 3
  · cases v with
    | text s =>
      have ok' : s.size ≤ 300 := ok
      have c3 := fun W h => literal_any ((⟨#[39]⟩ : ByteArray) ++ s) W (by
        rw [← size_list, app_list]
        have := size_list s
        simp only [List.length_append, this]
        show 1 + s.size ≤ maxLen
        unfold maxLen; omega) h
      rw [lit_quo s ok'] at c3
      simp only [V.dat] at c1 c3
      have hsum : ∀ W : World, (Op.stringOp .add (⟨#[39]⟩ : ByteArray) s).run Tryd.prog W = .ok (.string (⟨#[39]⟩ ++ s)) W := fun W => run_string_add_sum W _ _ (by show 1 + s.size ≤ _; omega)
      have hs1 : (1 + s.size ≤ 9223372036854775807) = True := by simp; omega
      clear hk c2 ok hn wn
      go_enter Tryd.func6, Tryd.ntmps6
      go_wp2_with fail
      refine (c1 _).mono ?_
      rintro r w1 ⟨rfl, E1⟩
      go_wp2_with fail
      obtain ⟨W0, hW0⟩ : ∃ W0, W0 = w1.alloc (.cells #[.int .i64 3, .int .i64 0, .string s, .int .i64 0] 23) := ⟨_, rfl⟩
      rw [← hW0]
      have XW : Ext w W0 := by rw [hW0]; exact (((Ext.refl _).alloc _).trans E1).alloc _
      have N : Blk W0 w1.heap.size (.int .i64 3) (.int .i64 0) (.string s) (.int .i64 0) := blk_top rfl (by rw [hW0]; exact Ext.refl _)
      have A : Blk W0 w.heap.size (.int .i64 k0) (.int .i64 n0) (.string s0) (.int .i64 e0) := by rw [hW0]; exact (blk_top rfl E1).al _
      have mkS : Hid (∀ W, Ext W0 W → (W.cell? ⟨w1.heap.size, 0, none⟩ = some (.int .i64 3) ∧ W.cell? ⟨w1.heap.size, 1, none⟩ = some (.int .i64 0) ∧ W.cell? ⟨w1.heap.size, 2, none⟩ = some (.string s) ∧ W.cell? ⟨w1.heap.size, 3, none⟩ = some (.int .i64 0)) ∧ Ext W0 W) := by
        show ∀ W, _
        intro W h
        exact ⟨(N.ext h).2.1, h⟩
      clear hW0 E1 N A
      generalize w1.heap.size = nb at *
      have d3 := fun W (h : Ext W0 W) => c3 W (hN.ext (XW.trans h))
      have d5 := fun W (h : Ext W0 W) => c5 W (hN.ext (XW.trans h))
      clear c3 c5 c1
      go_region_held3 (fun W => (W.cell? ⟨nb, 0, none⟩ = some (.int .i64 3) ∧ W.cell? ⟨nb, 1, none⟩ = some (.int .i64 0) ∧ W.cell? ⟨nb, 2, none⟩ = some (.string s) ∧ W.cell? ⟨nb, 3, none⟩ = some (.int .i64 0)) ∧ Ext W0 W)
        ((refine mkS.out _ ?_; ((with_reducible (repeat (first | assumption | exact Ext.refl _ | apply Ext.alloc | apply Ext.drew | apply Ext.drewN))); done)))
        (first | (go_at_call 20; refine Calls.mono (d3 _ ?hh) ?_; (case hh => ((with_reducible (repeat (first | assumption | exact Ext.refl _ | apply Ext.alloc | apply Ext.drew | apply Ext.drewN))); done)); rintro e w4 ⟨rfl, E4⟩; have X4 : Ext W0 w4 := Ext.trans (by ((with_reducible (repeat (first | assumption | exact Ext.refl _ | apply Ext.alloc | apply Ext.drew | apply Ext.drewN))); done)) E4) | (go_at_call 17; refine Calls.mono (d5 _ ?hh) ?_; (case hh => ((with_reducible (repeat (first | assumption | exact Ext.refl _ | apply Ext.alloc | apply Ext.drew | apply Ext.drewN))); done)); rintro e w6 ⟨rfl, E6⟩; have X6 : Ext W0 w6 := Ext.trans (by ((with_reducible (repeat (first | assumption | exact Ext.refl _ | apply Ext.alloc | apply Ext.drew | apply Ext.drewN))); done)) E6))
      go_wp2_with fail
      go_ret
      exact ⟨ret_bool rfl, XW.trans (by assumption)⟩
    | blank => exact absurd hk (by decide)
    | tf b => exact absurd hk (fun h => by cases h)
    | num n => exact absurd hk (fun h => by cases h)
    | err e => exact absurd hk (fun h => by cases h)
  · have c3 := fun W h => literal_any v.shown W (Nat.le_trans (shown_size v ok) (by decide)) h
    rw [lit_back v ok hk] at c3
    rw [dat_eq] at c1 c3
    have hk' : (v.k == 3) = false := by simpa using hk
    generalize v.shown = q at *
    generalize v.k = pk at *
    generalize v.n = pn at *
    generalize v.s = ps at *
    generalize v.e = pe at *
    clear hk ok hn wn
    go_enter Tryd.func6, Tryd.ntmps6
    go_wp2_with fail
    refine (c1 _).mono ?_
    rintro r w1 ⟨rfl, E1⟩
    go_wp2_with fail
    obtain ⟨W0, hW0⟩ : ∃ W0, W0 = w1.alloc (.cells #[.int .i64 pk, .int .i64 pn, .string ps, .int .i64 pe] 23) := ⟨_, rfl⟩
    rw [← hW0]
    have XW : Ext w W0 := by rw [hW0]; exact (((Ext.refl _).alloc _).trans E1).alloc _
    have N : Blk W0 w1.heap.size (.int .i64 pk) (.int .i64 pn) (.string ps) (.int .i64 pe) := blk_top rfl (by rw [hW0]; exact Ext.refl _)
    have A : Blk W0 w.heap.size (.int .i64 k0) (.int .i64 n0) (.string s0) (.int .i64 e0) := by rw [hW0]; exact (blk_top rfl E1).al _
    have mkS : Hid (∀ W, Ext W0 W → (W.cell? ⟨w1.heap.size, 0, none⟩ = some (.int .i64 pk) ∧ W.cell? ⟨w1.heap.size, 1, none⟩ = some (.int .i64 pn) ∧ W.cell? ⟨w1.heap.size, 2, none⟩ = some (.string ps) ∧ W.cell? ⟨w1.heap.size, 3, none⟩ = some (.int .i64 pe)) ∧ (W.cell? ⟨w.heap.size, 0, none⟩ = some (.int .i64 k0) ∧ W.cell? ⟨w.heap.size, 1, none⟩ = some (.int .i64 n0) ∧ W.cell? ⟨w.heap.size, 2, none⟩ = some (.string s0) ∧ W.cell? ⟨w.heap.size, 3, none⟩ = some (.int .i64 e0)) ∧ Ext W0 W) := by
      show ∀ W, _
      intro W h
      exact ⟨(N.ext h).2.1, (A.ext h).2.1, h⟩
    clear hW0 E1 N A
    generalize w1.heap.size = nb at *
    have d2 := fun W (h : Ext W0 W) => c2 W (hN.ext (XW.trans h)) (hT.ext (XW.trans h))
    have d3 := fun W (h : Ext W0 W) => c3 W (hN.ext (XW.trans h))
    have d5 := fun W (h : Ext W0 W) => c5 W (hN.ext (XW.trans h))
    clear c2 c3 c5 c1
    go_region_held3 (fun W => (W.cell? ⟨nb, 0, none⟩ = some (.int .i64 pk) ∧ W.cell? ⟨nb, 1, none⟩ = some (.int .i64 pn) ∧ W.cell? ⟨nb, 2, none⟩ = some (.string ps) ∧ W.cell? ⟨nb, 3, none⟩ = some (.int .i64 pe)) ∧ (W.cell? ⟨w.heap.size, 0, none⟩ = some (.int .i64 k0) ∧ W.cell? ⟨w.heap.size, 1, none⟩ = some (.int .i64 n0) ∧ W.cell? ⟨w.heap.size, 2, none⟩ = some (.string s0) ∧ W.cell? ⟨w.heap.size, 3, none⟩ = some (.int .i64 e0)) ∧ Ext W0 W)
      ((refine mkS.out _ ?_; ((with_reducible (repeat (first | assumption | exact Ext.refl _ | apply Ext.alloc | apply Ext.drew | apply Ext.drewN))); done)))
      (first | (go_at_call 23; refine Calls.mono (d2 _ ?hh) ?_; (case hh => ((with_reducible (repeat (first | assumption | exact Ext.refl _ | apply Ext.alloc | apply Ext.drew | apply Ext.drewN))); done)); rintro e w3 ⟨rfl, E3⟩; have X3 : Ext W0 w3 := Ext.trans (by ((with_reducible (repeat (first | assumption | exact Ext.refl _ | apply Ext.alloc | apply Ext.drew | apply Ext.drewN))); done)) E3) | (go_at_call 20; refine Calls.mono (d3 _ ?hh) ?_; (case hh => ((with_reducible (repeat (first | assumption | exact Ext.refl _ | apply Ext.alloc | apply Ext.drew | apply Ext.drewN))); done)); rintro e w4 ⟨rfl, E4⟩; have X4 : Ext W0 w4 := Ext.trans (by ((with_reducible (repeat (first | assumption | exact Ext.refl _ | apply Ext.alloc | apply Ext.drew | apply Ext.drewN))); done)) E4) | (go_at_call 17; refine Calls.mono (d5 _ ?hh) ?_; (case hh => ((with_reducible (repeat (first | assumption | exact Ext.refl _ | apply Ext.alloc | apply Ext.drew | apply Ext.drewN))); done)); rintro e w6 ⟨rfl, E6⟩; have X6 : Ext W0 w6 := Ext.trans (by ((with_reducible (repeat (first | assumption | exact Ext.refl _ | apply Ext.alloc | apply Ext.drew | apply Ext.drewN))); done)) E6))
    go_wp2_with fail
    go_ret
    exact ⟨ret_bool rfl, XW.trans (by assumption)⟩

theorem laidOut : laidOutB Tryd.prog = true := by kernel_rfl
theorem cellsVal : Tryd.prog.cellsOf 23 = 4 := by kernel_rfl
set_option maxRecDepth 100000 in
theorem contract (H : Type) (enc : TypeId × Value → H) (W : World) (base : Nat) (args : Array Value) (ds gs : List (DataW H)) (before : List MemPlace)
    (hval0 : ∀ (j : Nat) t v, Tryd.f6.params[j]? = some t → args[j]? = some v → Value.okWide Tryd.prog W .any base t v)
    (hW : DataW.Whole enc Tryd.prog Tryd.f6.params.toList Rows.valueBackSpec.vars false W args.toList ds gs before) (hL : laidMetH Tryd.prog Rows.valueBackRow.laid W) :
    Calls Tryd.prog 6 args W fun e W' => ∃ v, e = .returned v ∧ Rows.valueBackSpec.post enc Tryd.prog Tryd.f6 false true false false W args v W' := by
  have hval := hval0
  have hW' := hW
  obtain ⟨p, q, hA0, hV, rfl, hfz, hnd⟩ := hW
  have hA : DataW.TrodAll enc Tryd.prog W 0 (fun _ => true) true Tryd.f6.params.toList args.toList ds p := hA0
  rw [Tryd.params6] at hA hval
  obtain ⟨v0, vs0, d0, ds0, p0, q0, hargs, rfl, rfl, h0, r0⟩ := trodAll_cons hA
  obtain ⟨rfl, rfl, rfl⟩ := trodAll_nil r0
  obtain rfl : args = #[v0] := by cases args; simp_all
  obtain ⟨rfl, rfl⟩ := trodVars_none hV
  have j0 := h0
  have lt0 : ∀ x ∈ p0, x.block < W.heap.size := by obtain ⟨m, hm⟩ := j0; exact DataW.trod_lt m _ _ _ hm
  obtain ⟨c0, c1, c2, c3, y0, y1, y2, y3, m0, rfl, hd0, hp0, hy0, hy1, hy2, hy3⟩ := open_agg4 Tryd.underlying23 (by kernel_rfl) cellsVal (hval 0 23 v0 rfl rfl) h0
  obtain ⟨k0, f0, _, wk0⟩ := DataW.trod_int Tryd.underlying3 hy0
  obtain ⟨n0, f1, _, wn0⟩ := DataW.trod_int Tryd.underlying2 hy1
  obtain ⟨e0, f3, _, we0⟩ := DataW.trod_int Tryd.underlying3 hy3
  obtain ⟨s0, f2, _, ws0⟩ := DataW.trod_string Tryd.underlying9 hy2
  simp only [List.cons.injEq, and_true] at f0 f1 f2 f3
  obtain rfl := f0
  obtain rfl := f1
  obtain rfl := f2
  obtain rfl := f3
  clear hA0 hval0
  refine (walk k0 n0 s0 e0 wk0 wn0 ws0 we0 W (nm_ofB hL) (tab_ofB hL)).mono fun e W' ⟨he, bel⟩ => ?_
  subst he
  exact ⟨_, rfl, _, _, _, [], _, [], hW', trodAll_mk1 (shut_bool Tryd.underlying4 _), (trodAll_cons_mk (Below.trod laidOut (by kernel_rfl) (of_decide_eq_true (by kernel_rfl)) j0 bel lt0) trodAll_mk0), rfl, Below.frame bel _, fun h => by cases h⟩

theorem laid_met (os : Os) : laidMet Tryd.prog Rows.valueBackRow.laid ((laidWorldB os).forCall (fun _ _ => 0) ⟨#[], #[.agg #[.int .i64 0, .int .i64 0, .string ⟨#[]⟩, .int .i64 0]], []⟩).memory :=
  laidMet_of_run' 8 (by kernel_rfl) (by kernel_rfl)
theorem reads (os : Os) {H : Type} (enc : TypeId × Value → H) : ∃ places, DataW.whole enc Tryd.prog ((laidWorldB os).forCall (fun _ _ => 0) ⟨#[], #[.agg #[.int .i64 0, .int .i64 0, .string ⟨#[]⟩, .int .i64 0]], []⟩).memory Tryd.f6.params.toList Rows.valueBackSpec.vars false (#[.agg #[.int .i64 0, .int .i64 0, .string ⟨#[]⟩, .int .i64 0]] : Array Value).toList 8 = some ([.agg [.lit (.int .i64 0), .lit (.int .i64 0), .lit (.string []), .lit (.int .i64 0)]], [], places) :=
  ⟨[], by kernel_rfl⟩

set_option maxRecDepth 100000 in
theorem lifted (os : Os) (started : os.Started) (H : Type) (enc : TypeId × Value → H) (F : Stop.Interp) :
    ReturnsInHanded {} Tryd.checked os 6 .any ((OpenSpec.ofChange Rows.valueBackSpec).preRow enc Tryd.prog Tryd.f6 Rows.valueBackRow.domain false Rows.valueBackRow.laid) (((OpenSpec.ofChange Rows.valueBackSpec).at F).post enc Tryd.prog Tryd.f6 false true false false) := by
  obtain ⟨places, hx⟩ := reads os enc
  refine returnsInHanded_of_row (C := Tryd.checked) (s := OpenSpec.ofChange Rows.valueBackSpec) ownK started (by kernel_rfl) Tryd.func6
    (witness_row_at (enc := enc) (C := Tryd.checked) false (laidWorldB os) #[.agg #[.int .i64 0, .int .i64 0, .string ⟨#[]⟩, .int .i64 0]] rfl (by kernel_rfl) (by kernel_rfl) (by kernel_rfl)
      (OpenSpec.preRow_of_cond 8 hx (by kernel_rfl) (fun k hk => by cases hk) (by kernel_rfl) (by
        rw [MakeChecks.laidMetH_plain _ _ _ (by kernel_rfl)]
        exact laid_met os))) ?_
  intro W base args ds gs before hval hW _ _ _ hL _ _
  exact contract H enc W base args ds gs before hval hW hL

theorem said : Rows.ValueBackSaid :=
  OpenClaim.holds_of_cond 6 Tryd.f6 rfl rfl rfl rfl rfl rfl rfl ⟨rfl, rfl, rfl, rfl, rfl⟩ rfl rfl rfl rfl rfl (by kernel_rfl) Tryd.func6 (by kernel_rfl)
    (of_decide_eq_true (by kernel_rfl)) (by unfold Func.isWrapper; first | (rw [if_pos (by decide +kernel)]; kernel_rfl) | (rw [if_neg (by decide +kernel)]; exact ⟨rfl, rfl⟩))
    (fun os started H enc _ F => by rw [OpenClaim.pre_eq_preRow]; exact lifted os started H enc F)

theorem plain (f : FuncId) (fn : Func) (hf : Tryd.pinned.checked.prog.funcNamed Rows.valueBackRow.func = some f) (hfn : Tryd.pinned.checked.prog.funcs[f]? = some fn) :
    false = Tryd.pinned.checked.prog.looks [] ∧ ∀ (j : Nat) t, fn.params[j]? = some t → Tryd.pinned.checked.prog.wantsStandIn t = false := by
  obtain rfl : f = 6 := Option.some.inj ((show Tryd.prog.funcNamed Rows.valueBackRow.func = some 6 by kernel_rfl).symm.trans hf) |>.symm
  obtain rfl : fn = Tryd.f6 := (Option.some.inj (Tryd.func6.symm.trans hfn)).symm
  refine ⟨by kernel_rfl, fun j t ht => ?_⟩
  rw [Tryd.params6] at ht
  have hm : t ∈ [23] := by simpa using Array.mem_of_getElem? ht
  have hall : ([23].all fun u => !Tryd.prog.wantsStandIn u) = true := by kernel_rfl
  exact (show Tryd.prog.wantsStandIn t = false by simpa using List.all_eq_true.1 hall t hm)

theorem card : Rows.ValueBackCardSaid :=
  Claim7.holds_tied_plain_at .later [] _ _ _ _ said (fun _ h => by cases h) (by kernel_rfl) (fun _ h => by cases h) valueBack_row_tie rfl ⟨rfl, rfl⟩ (by kernel_rfl) rfl plain (by kernel_rfl)
end Go.Proofs.YtlfkiepnahgbeaaDoor.valueBack
namespace Go.Proofs.YtlfkiepnahgbeaaDoor
theorem valueBack_card : Rows.ValueBackCardSaid := valueBack.card
end Go.Proofs.YtlfkiepnahgbeaaDoor
