/-
  PrintFormulas is proved: for every tree (without a ring) the call returns true and the argument reads as it did. Its condition: the listed tables lie as the program text lays them (the card ties them).
-/
import Derived.Test.YtdjniiginnlmhaaGreatDoorQ25
import Derived.Test.YtdjniiginnlmhaaGreatDoorQ31
import Derived.Test.YtdjniiginnlmhaaGreatDoorQ32
import Derived.Test.YtdjniiginnlmhaaGreatDoorCards
import Derived.Test.YtdjniiginnlmhaaGreatDoorTie
import Derived.ChangeMaps5
import Derived.Lib.SmallJoins
namespace Go.Proofs.YtdjniiginnlmhaaGreatDoor.printFormulas
open Go.ChangeShapes Go.WideShapes Go.ChangeAt Go.RowKit
open Go.ChangeMaps (open_string shut_string)
open Go.Joins
set_option maxHeartbeats 6000000
set_option maxRecDepth 100000

theorem small_law (t : T) (pp : Option Addr) (ln cl : Nat) (w : World) (hL : IsL w (fun _ => True) (.slice pp ln cl) t.l) :
    Calls Tryz.prog 8 #[.agg #[.int .i64 t.k, .int .i64 t.n, .string (bs t.s), .int .i64 t.e, .int .i64 t.r.1, .int .i64 t.r.2.1, .bool t.r.2.2.1, .bool t.r.2.2.2, .int .i64 t.q.1, .int .i64 t.q.2.1, .bool t.q.2.2.1, .bool t.q.2.2.2, .slice pp ln cl]] w fun e w' => ∃ ok, e = .returned (.bool ok) ∧ Ext w w' ∧ (ok = true → Hr 401 t ∧ szT 401 t ≤ 1000) := by
  have c1 := fun W h => small_any 401 (Nat.le_refl _) t W (fun _ => True) pp ln cl 1000 (by decide) (by decide) h
  rw [show (401 : Int) - ((401 : Nat) : Int) = 0 from rfl] at c1
  have HI : Hid (IsL w (fun _ => True) (.slice pp ln cl) t.l) := hL
  clear hL
  go_enter Tryz.func8, Tryz.ntmps8
  go_wp2_with fail
  refine (c1 _ (HI.out.ext ((Ext.refl _).alloc _))).mono ?_
  rintro e w1 ⟨m, ok, rfl, E1, h1, h2, h3, hok⟩
  have HR : Hid (Ext w w1 ∧ (ok = true → m = szT 401 t ∧ Hr 401 t ∧ m ≤ max 1000 1)) := ⟨((Ext.refl _).alloc _).trans E1, hok⟩
  clear hok E1 h3
  go_wp2_with fail
  go_ret
  refine ⟨ok, rfl, HR.out.1, fun h => ?_⟩
  obtain ⟨q1, q2, q3⟩ := HR.out.2 h
  exact ⟨q2, by omega⟩
theorem walk (t : T) (pp : Option Addr) (ln cl : Nat) (hW : Wf t) {w : World} (hL : IsL w (fun _ => True) (.slice pp ln cl) t.l) (hT : TabP w) :
    Calls Tryz.prog 3 #[.agg #[.int .i64 t.k, .int .i64 t.n, .string (bs t.s), .int .i64 t.e, .int .i64 t.r.1, .int .i64 t.r.2.1, .bool t.r.2.2.1, .bool t.r.2.2.2, .int .i64 t.q.1, .int .i64 t.q.2.1, .bool t.q.2.2.1, .bool t.q.2.2.2, .slice pp ln cl]] w fun e w' => e = .returned (.bool true) ∧ Ext w w' := by
  have HT : Hid (TabP w) := hT
  have HI : Hid (IsL w (fun _ => True) (.slice pp ln cl) t.l) := hL
  have HW : Hid (Wf t) := hW
  clear hW hL hT
  go_enter Tryz.func3, Tryz.ntmps3
  go_wp2_with fail
  refine (small_law t pp ln cl _ (HI.out.ext ((Ext.refl _).alloc _))).mono ?_
  rintro e w1 ⟨ok, rfl, E1, hok⟩
  have HE1 : Hid (Ext w w1) := ((Ext.refl _).alloc _).trans E1
  obtain ⟨qz, ⟨k0, k1, k2, k3, k4, k5, k6, k7, k8, k9, k10, k11, k12⟩, gz⟩ := blk13_top (b := w.heap.size) rfl E1
  cases ok
  · clear hok E1 gz k0 k1 k2 k3 k4 k5 k6 k7 k8 k9 k10 k11 k12
    go_wp2_with fail
    refine (lives9_any _ (HT.out.ext HE1.out)).mono ?_
    rintro e w9 ⟨rfl, E9⟩
    have HE9 : Hid (Ext w w9) := Ext.trans HE1.out E9
    clear E9
    go_wp2_with fail
    go_ret
    exact ⟨rfl, HE9.out⟩
  · have HH : Hid (Hr 401 t ∧ szT 401 t ≤ 1000) := hok rfl
    have HB1 : Hid (BlkX w1 w.heap.size t (.slice pp ln cl)) := blk13_top rfl E1
    have hz1 : w.heap.size < w1.heap.size := HB1.out.1
    clear hok E1 gz
    go_wp2_with fail
    refine (own_any 401 t HH.out.1 _ (fun _ => True) pp ln cl (HI.out.ext HE1.out)).mono ?_
    rintro e w2 ⟨lv, rfl, hL2, E2⟩
    obtain ⟨qq, cm, hlv, hcl⟩ := hL2.form
    obtain ⟨lm, hlm⟩ : ∃ lm, t.l.length = lm := ⟨_, rfl⟩
    rw [hlm] at hlv
    subst hlv
    have HE2 : Hid (Ext w w2 ∧ IsL w2 (w1.heap.size ≤ ·) (.slice qq lm cm) t.l) := ⟨HE1.out.trans E2, hL2⟩
    have HB2 : Hid (BlkX w2 w.heap.size t (.slice pp ln cl)) := HB1.out.ext E2
    clear hL2 hcl hlm E2 k0 k1 k2 k3 k4 k5 k6 k7 k8 k9 k10 k11 k12
    unfold aggX
    go_wp2_with fail
    refine (pform_any 401 t HH.out.1 HW.out (by have := HH.out.2; omega) _ qq lm cm _ (HT.out.ext HE2.out.1).to9 HE2.out.2).mono ?_
    rintro e w3 ⟨rfl, E3⟩
    have HE3 : Hid (Ext w w3) := HE2.out.1.trans E3
    have HB3 : Hid (BlkX w3 w.heap.size t (.slice pp ln cl)) := HB2.out.ext E3
    obtain ⟨qz, ⟨k0, k1, k2, k3, k4, k5, k6, k7, k8, k9, k10, k11, k12⟩, gz⟩ := HB3.out
    have HWL : Hid (∀ V, Ext w3 V → Calls Tryz.prog 12 #[.agg #[.int .i64 t.k, .int .i64 t.n, .string (bs t.s), .int .i64 t.e, .int .i64 t.r.1, .int .i64 t.r.2.1, .bool t.r.2.2.1, .bool t.r.2.2.2, .int .i64 t.q.1, .int .i64 t.q.2.1, .bool t.q.2.2.1, .bool t.q.2.2.2, .slice pp ln cl]] V fun e w' => e = .returned (.bool (wellT 401 t)) ∧ Ext V w') := fun V e => rwell_any (fun _ => True) 401 t HH.out.1 V pp ln cl (HI.out.ext (HE3.out.trans e))
    clear E3 gz
    cases hwl : wellT 401 t
    · rw [hwl] at HWL
      simp only [Bool.false_eq_true, if_false]
      clear hwl
      go_wp2_with fail
      refine (HWL.out _ (Ext.refl _)).mono ?_
      rintro e w4 ⟨rfl, E4⟩
      have HE4 : Hid (Ext w w4) := HE3.out.trans E4
      clear E4 k0 k1 k2 k3 k4 k5 k6 k7 k8 k9 k10 k11 k12
      have e0 : (bs []).toList.isEmpty = true := by rw [ByteArray.toList_eq]; rfl
      generalize bs [] = q at *
      go_wp2_with fail
      refine (lives9_any _ (HT.out.ext HE4.out)).mono ?_
      rintro e w9 ⟨rfl, E9⟩
      have HE9 : Hid (Ext w w9) := Ext.trans HE4.out E9
      clear E9
      go_wp2_with fail
      go_ret
      exact ⟨rfl, HE9.out⟩
    · rw [hwl] at HWL
      have HSH : Hid (∀ V, Ext w3 V → Calls Tryz.prog 13 #[.agg #[.int .i64 t.k, .int .i64 t.n, .string (bs t.s), .int .i64 t.e, .int .i64 t.r.1, .int .i64 t.r.2.1, .bool t.r.2.2.1, .bool t.r.2.2.2, .int .i64 t.q.1, .int .i64 t.q.2.1, .bool t.q.2.2.1, .bool t.q.2.2.2, .slice pp ln cl]] V fun e w' => e = .returned (.string (bs (shT 401 t))) ∧ Ext V w') := fun V e => show_any 401 t HH.out.1 HW.out (.inl hwl) (by have := HH.out.2; omega) V (fun _ => True) pp ln cl (HI.out.ext (HE3.out.trans e))
      simp only [if_true]
      clear hwl
      generalize bs (shT 401 t) = q at *
      go_wp2_with fail
      refine (HWL.out _ (Ext.refl _)).mono ?_
      rintro e w4 ⟨rfl, E4⟩
      have HE4 : Hid (Ext w w4 ∧ Ext w3 w4) := ⟨HE3.out.trans E4, E4⟩
      obtain ⟨qz, ⟨c0, c1, c2, c3, c4, c5, c6, c7, c8, c9, c10, c11, c12⟩, gz⟩ := HB3.out.ext E4
      clear E4 gz k0 k1 k2 k3 k4 k5 k6 k7 k8 k9 k10 k11 k12
      have e0 : (q.toList == q.toList) = true := by simp
      go_wp2_with fail
      refine (HSH.out _ HE4.out.2).mono ?_
      rintro e w5 ⟨rfl, E5⟩
      have HE5 : Hid (Ext w w5) := HE4.out.1.trans E5
      clear E5 c0 c1 c2 c3 c4 c5 c6 c7 c8 c9 c10 c11 c12
      go_wp2_with fail
      refine (lives9_any _ (HT.out.ext HE5.out)).mono ?_
      rintro e w9 ⟨rfl, E9⟩
      have HE9 : Hid (Ext w w9) := Ext.trans HE5.out E9
      clear E9
      go_wp2_with fail
      go_ret
      exact ⟨rfl, HE9.out⟩

theorem laidOut : laidOutB Tryz.prog = true := by kernel_rfl
set_option maxRecDepth 100000 in
theorem contract (H : Type) (enc : TypeId × Value → H) (W : World) (base : Nat) (args : Array Value) (ds gs : List (DataW H)) (before : List MemPlace)
    (hval0 : ∀ (j : Nat) t v, Tryz.f3.params[j]? = some t → args[j]? = some v → Value.okWide Tryz.prog W .any base t v)
    (hW : DataW.Whole enc Tryz.prog Tryz.f3.params.toList Rows.printFormulasSpec.vars false W args.toList ds gs before) (hL : laidMetH Tryz.prog Rows.printFormulasRow.laid W) (hSh : W.ShapedOpen Tryz.prog) :
    Calls Tryz.prog 3 args W fun e W' => ∃ v, e = .returned v ∧ Rows.printFormulasSpec.post enc Tryz.prog Tryz.f3 false true false false W args v W' := by
  have hval := hval0
  have hW' := hW
  obtain ⟨p, q, hA0, hV, rfl, hfz, hnd⟩ := hW
  have hA : DataW.TrodAll enc Tryz.prog W 0 (fun _ => true) true Tryz.f3.params.toList args.toList ds p := hA0
  rw [Tryz.params3] at hA hval
  obtain ⟨v0, vs0, d0, ds0, p0, q0, hargs, rfl, rfl, h0, r0⟩ := trodAll_cons hA
  obtain ⟨rfl, rfl, rfl⟩ := trodAll_nil r0
  obtain rfl : args = #[v0] := by cases args; simp_all
  obtain ⟨rfl, rfl⟩ := trodVars_none hV
  have j0 := h0
  have lt0 : ∀ x ∈ p0, x.block < W.heap.size := by obtain ⟨m, hm⟩ := j0; exact DataW.trod_lt m _ _ _ hm
  obtain ⟨cs0, rfl, _⟩ := okWide_struct Tryz.underlying26 (hval 0 26 v0 rfl rfl)
  obtain ⟨fu0, hf0⟩ := h0
  obtain ⟨T0, lv0, hcs0, hLI0, wT0⟩ := open_exp fu0 _ _ hf0
  obtain ⟨pp0, cl0, hlv0, _⟩ := hLI0.form
  obtain ⟨ln0, hln0⟩ : ∃ ln, T0.l.length = ln := ⟨_, rfl⟩
  rw [hln0] at hlv0
  subst hlv0
  obtain rfl : cs0 = (cellsT T0 (.slice pp0 ln0 cl0)).toArray := by rw [← hcs0]; simp [Value.cells]
  clear hA0 hval0
  refine (walk T0 pp0 ln0 cl0 wT0 hLI0 (tabP_of hL hSh)).mono fun e W' ⟨he, bel⟩ => ?_
  subst he
  exact ⟨_, rfl, _, _, _, [], _, [], hW', trodAll_mk1 (shut_bool Tryz.underlying4 _), (trodAll_cons_mk (Below.trod laidOut (by kernel_rfl) (of_decide_eq_true (by kernel_rfl)) j0 bel lt0) trodAll_mk0), rfl, Below.frame bel _, fun h => by cases h⟩

theorem laid_met (os : Os) : laidMet Tryz.prog Rows.printFormulasRow.laid ((laidWorld os).forCall (fun _ _ => 0) ⟨#[], #[.agg #[.int .i64 0, .int .i64 0, .string ⟨#[]⟩, .int .i64 0, .int .i64 0, .int .i64 0, .bool false, .bool false, .int .i64 0, .int .i64 0, .bool false, .bool false, .slice none 0 0]], []⟩).memory :=
  laidMet_of_run' 8 (by kernel_rfl) (by kernel_rfl)
theorem reads (os : Os) {H : Type} (enc : TypeId × Value → H) : ∃ places, DataW.whole enc Tryz.prog ((laidWorld os).forCall (fun _ _ => 0) ⟨#[], #[.agg #[.int .i64 0, .int .i64 0, .string ⟨#[]⟩, .int .i64 0, .int .i64 0, .int .i64 0, .bool false, .bool false, .int .i64 0, .int .i64 0, .bool false, .bool false, .slice none 0 0]], []⟩).memory Tryz.f3.params.toList Rows.printFormulasSpec.vars false (#[.agg #[.int .i64 0, .int .i64 0, .string ⟨#[]⟩, .int .i64 0, .int .i64 0, .int .i64 0, .bool false, .bool false, .int .i64 0, .int .i64 0, .bool false, .bool false, .slice none 0 0]] : Array Value).toList 8 = some ([.agg [.lit (.int .i64 0), .lit (.int .i64 0), .lit (.string []), .lit (.int .i64 0), .agg [.lit (.int .i64 0), .lit (.int .i64 0), .lit (.bool false), .lit (.bool false)], .agg [.lit (.int .i64 0), .lit (.int .i64 0), .lit (.bool false), .lit (.bool false)], .nil]], [], places) :=
  ⟨[], by kernel_rfl⟩

set_option maxRecDepth 100000 in
theorem lifted (os : Os) (started : os.Started) (H : Type) (enc : TypeId × Value → H) (F : Stop.Interp) :
    ReturnsInHanded {} Tryz.checked os 3 .any ((OpenSpec.ofChange Rows.printFormulasSpec).preRow enc Tryz.prog Tryz.f3 Rows.printFormulasRow.domain false Rows.printFormulasRow.laid) (((OpenSpec.ofChange Rows.printFormulasSpec).at F).post enc Tryz.prog Tryz.f3 false true false false) := by
  obtain ⟨places, hx⟩ := reads os enc
  refine returnsInHanded_of_row (C := Tryz.checked) (s := OpenSpec.ofChange Rows.printFormulasSpec) ownK started (by kernel_rfl) Tryz.func3
    (witness_row_at (enc := enc) (C := Tryz.checked) false (laidWorld os) #[.agg #[.int .i64 0, .int .i64 0, .string ⟨#[]⟩, .int .i64 0, .int .i64 0, .int .i64 0, .bool false, .bool false, .int .i64 0, .int .i64 0, .bool false, .bool false, .slice none 0 0]] rfl (by kernel_rfl) (by kernel_rfl) (by kernel_rfl)
      (OpenSpec.preRow_of_cond 8 hx (by kernel_rfl) (fun k hk => by cases hk) (by kernel_rfl) (by
        rw [MakeChecks.laidMetH_plain _ _ _ (by kernel_rfl)]
        exact laid_met os))) ?_
  intro W base args ds gs before hval hW _ _ _ hL hSh _
  exact contract H enc W base args ds gs before hval hW hL hSh

theorem said : Rows.PrintFormulasSaid :=
  OpenClaim.holds_of_cond 3 Tryz.f3 rfl rfl rfl rfl rfl rfl rfl ⟨rfl, rfl, rfl, rfl, rfl⟩ rfl rfl rfl rfl rfl (by kernel_rfl) Tryz.func3 (by kernel_rfl)
    (of_decide_eq_true (by kernel_rfl)) (by unfold Func.isWrapper; first | (rw [if_pos (by decide +kernel)]; kernel_rfl) | (rw [if_neg (by decide +kernel)]; exact ⟨rfl, rfl⟩))
    (fun os started H enc _ F => by rw [OpenClaim.pre_eq_preRow]; exact lifted os started H enc F)

theorem plain (f : FuncId) (fn : Func) (hf : Tryz.pinned.checked.prog.funcNamed Rows.printFormulasRow.func = some f) (hfn : Tryz.pinned.checked.prog.funcs[f]? = some fn) :
    true = Tryz.pinned.checked.prog.looks [] ∧ ∀ (j : Nat) t, fn.params[j]? = some t → Tryz.pinned.checked.prog.wantsStandIn t = false := by
  obtain rfl : f = 3 := Option.some.inj ((show Tryz.prog.funcNamed Rows.printFormulasRow.func = some 3 by kernel_rfl).symm.trans hf) |>.symm
  obtain rfl : fn = Tryz.f3 := (Option.some.inj (Tryz.func3.symm.trans hfn)).symm
  refine ⟨by kernel_rfl, fun j t ht => ?_⟩
  rw [Tryz.params3] at ht
  have hm : t ∈ [26] := by simpa using Array.mem_of_getElem? ht
  have hall : ([26].all fun u => !Tryz.prog.wantsStandIn u) = true := by kernel_rfl
  exact (show Tryz.prog.wantsStandIn t = false by simpa using List.all_eq_true.1 hall t hm)

theorem card : Rows.PrintFormulasCardSaid :=
  Claim7.holds_tied_plain_at .later [] _ _ _ _ said (fun _ h => by cases h) (by kernel_rfl) (fun _ h => by cases h) printFormulas_row_tie rfl ⟨rfl, rfl⟩ (by kernel_rfl) rfl plain (by kernel_rfl)
end Go.Proofs.YtdjniiginnlmhaaGreatDoor.printFormulas
namespace Go.Proofs.YtdjniiginnlmhaaGreatDoor
theorem printFormulas_card : Rows.PrintFormulasCardSaid := printFormulas.card
end Go.Proofs.YtdjniiginnlmhaaGreatDoor
