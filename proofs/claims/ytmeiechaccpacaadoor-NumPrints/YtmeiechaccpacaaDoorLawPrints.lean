/-
  NumPrints is proved: for every int64 the call returns true and the argument reads as it did. Its condition: the library's listed tables lie as the program's text lays them (the card ties them).
-/
import Derived.Test.YtmeiechaccpacaaDoorDecJ
import Derived.Test.YtmeiechaccpacaaDoorDecK
import Derived.Test.YtmeiechaccpacaaDoorLaid3
import Derived.Test.YtmeiechaccpacaaDoorCards
import Derived.Test.YtmeiechaccpacaaDoorTie
namespace Go.Proofs.YtmeiechaccpacaaDoor.numPrints
open Go.ChangeShapes Go.WideShapes Go.ChangeAt Go.RowKit
set_option maxHeartbeats 1000000

theorem print_size (a : Int) (ha : I64 a) : (⟨(printL a).toArray⟩ : ByteArray).size ≤ maxLen := by
  obtain ⟨h1, h2⟩ := ha
  rw [← size_list]
  show (printL a).length ≤ maxLen
  unfold maxLen
  cases hc : canB a
  · have : printL a = [110, 111, 110, 101] := by unfold printL; rw [hc]; rfl
    rw [this]; decide
  · rw [print_sgn a hc]
    obtain ⟨k, hk, hl⟩ := frac_back (a.natAbs % 10000) (Nat.mod_lt _ (by decide))
    have hd := dec_len (a.natAbs / 10000) 14 (by omega)
    have hb : (bodyL a.natAbs).length ≤ 20 := by
      unfold bodyL; rw [List.length_append]
      split
      · simp; omega
      · simp; omega
    unfold sgnL; split
    · simp; omega
    · omega
theorem walk (a0 : Int) (w0 : (Lit.int .i64 a0).wf = true) (w : World) (hT : Tab w) :
    Calls Tryd.prog 4 #[.int .i64 a0] w fun e w' => e = .returned (.bool true) ∧ Ext w w' := by
  have ha := i64_of_wf w0
  have c1 := fun W h => print_any a0 ha W h
  have c2 := fun W => rprint_any a0 ha W
  have c3 := fun W => parse_any ⟨(printL a0).toArray⟩ W (print_size a0 ha)
  have c4 := fun W => rcan_any a0 W
  have c5 := fun W h => lives_any W h
  have e1 := fun h => read_back a0 h ha
  have e2 := fun h => read_none a0 h
  simp only at c3
  clear w0 ha
  cases hc : canB a0
  · obtain ⟨r1, r2⟩ := e2 hc
    rw [r1, r2] at c3
    rw [hc] at c4
    clear e1 e2 hc r1 r2
    generalize (⟨(printL a0).toArray⟩ : ByteArray) = q at *
    go_enter Tryd.func4, Tryd.ntmps4
    go_wp2_with fail
    refine (c1 _ hT).mono ?_
    rintro e w1 ⟨rfl, E1⟩
    go_wp2_with fail
    refine (c2 _).mono ?_
    rintro e w2 ⟨rfl, E2⟩
    go_wp2_with fail
    refine (c3 _).mono ?_
    rintro e w3 ⟨rfl, E3⟩
    go_wp2_with fail
    refine (c4 _).mono ?_
    rintro e w4 ⟨rfl, rfl⟩
    go_wp2_with fail
    refine (c5 _ (hT.ext ((E1.trans E2).trans E3))).mono ?_
    rintro e w5 ⟨rfl, E5⟩
    go_wp2_with fail
    go_ret
    exact ⟨ret_bool rfl, ((E1.trans E2).trans E3).trans E5⟩
  · obtain ⟨r1, r2⟩ := e1 hc
    rw [r1, r2] at c3
    rw [hc] at c4
    clear e1 e2 hc r1 r2
    generalize (⟨(printL a0).toArray⟩ : ByteArray) = q at *
    go_enter Tryd.func4, Tryd.ntmps4
    go_wp2_with fail
    refine (c1 _ hT).mono ?_
    rintro e w1 ⟨rfl, E1⟩
    go_wp2_with fail
    refine (c2 _).mono ?_
    rintro e w2 ⟨rfl, E2⟩
    go_wp2_with fail
    refine (c3 _).mono ?_
    rintro e w3 ⟨rfl, E3⟩
    go_wp2_with fail
    refine (c4 _).mono ?_
    rintro e w4 ⟨rfl, rfl⟩
    go_wp2_with fail
    refine (c5 _ (hT.ext ((E1.trans E2).trans E3))).mono ?_
    rintro e w5 ⟨rfl, E5⟩
    go_wp2_with fail
    go_ret
    exact ⟨ret_bool rfl, ((E1.trans E2).trans E3).trans E5⟩

theorem contract (H : Type) (enc : TypeId × Value → H) (W : World) (base : Nat) (args : Array Value) (ds gs : List (DataW H)) (before : List MemPlace)
    (hval0 : ∀ (j : Nat) t v, Tryd.f4.params[j]? = some t → args[j]? = some v → Value.okWide Tryd.prog W .any base t v)
    (hW : DataW.Whole enc Tryd.prog Tryd.f4.params.toList Rows.numPrintsSpec.vars false W args.toList ds gs before) (hL : laidMetH Tryd.prog Rows.numPrintsRow.laid W) :
    Calls Tryd.prog 4 args W fun e W' => ∃ v, e = .returned v ∧ Rows.numPrintsSpec.post enc Tryd.prog Tryd.f4 false true false false W args v W' := by
  have hval : ∀ (j : Nat) t v, Tryd.f4.params[j]? = some t → args[j]? = some v → Value.okWide Tryd.prog W .any base t v := hval0
  have hW' := hW
  obtain ⟨p, q, hA0, hV, rfl, hfz, hnd⟩ := hW
  have hA : DataW.TrodAll enc Tryd.prog W 0 (fun _ => true) true Tryd.f4.params.toList args.toList ds p := hA0
  rw [Tryd.params4] at hA hval
  obtain ⟨v0, vs0, d0, ds0, p0, q0, hargs, rfl, rfl, h0, r0⟩ := trodAll_cons hA
  obtain ⟨rfl, rfl, rfl⟩ := trodAll_nil r0
  obtain rfl : args = #[v0] := by cases args; simp_all
  obtain ⟨rfl, rfl⟩ := trodVars_none hV
  obtain ⟨a0, rfl, rfl, rfl, w0⟩ := open_int Tryd.underlying2 (hval 0 2 v0 rfl rfl) h0
  clear hA0 hval0
  simp only [List.append_nil] at hW'
  refine (walk a0 w0 W (tab_of hL)).mono fun e W' ⟨he, bel⟩ => ?_
  subst he
  exact ⟨_, rfl, _, _, _, [], [], [], hW', trodAll_mk1 (shut_bool Tryd.underlying4 _), (trodAll_cons_mk (shut_int Tryd.underlying2 w0) trodAll_mk0), rfl, Below.frame bel _, fun h => by cases h⟩

theorem laid_met (os : Os) : laidMet Tryd.prog Rows.numPrintsRow.laid ((laidWorld os).forCall (fun _ _ => 0) ⟨#[], #[.int .i64 0], []⟩).memory :=
  laidMet_of_run' 8 (by kernel_rfl) (by kernel_rfl)
theorem reads (os : Os) {H : Type} (enc : TypeId × Value → H) : ∃ places, DataW.whole enc Tryd.prog ((laidWorld os).forCall (fun _ _ => 0) ⟨#[], #[.int .i64 0], []⟩).memory Tryd.f4.params.toList Rows.numPrintsSpec.vars false (#[.int .i64 0] : Array Value).toList 8 = some ([.lit (.int .i64 0)], [], places) :=
  ⟨[], by kernel_rfl⟩

set_option maxRecDepth 100000 in
theorem lifted (os : Os) (started : os.Started) (H : Type) (enc : TypeId × Value → H) (F : Stop.Interp) :
    ReturnsInHanded {} Tryd.checked os 4 .any ((OpenSpec.ofChange Rows.numPrintsSpec).preRow enc Tryd.prog Tryd.f4 Rows.numPrintsRow.domain false Rows.numPrintsRow.laid) (((OpenSpec.ofChange Rows.numPrintsSpec).at F).post enc Tryd.prog Tryd.f4 false true false false) := by
  obtain ⟨places, hx⟩ := reads os enc
  refine returnsInHanded_of_row (C := Tryd.checked) (s := OpenSpec.ofChange Rows.numPrintsSpec) ownK started (by kernel_rfl) Tryd.func4
    (witness_row_at (enc := enc) (C := Tryd.checked) false (laidWorld os) #[.int .i64 0] rfl (by kernel_rfl) (by kernel_rfl) (by kernel_rfl)
      (OpenSpec.preRow_of_cond 8 hx (by kernel_rfl) (fun k hk => by cases hk) (by kernel_rfl) (by
        rw [MakeChecks.laidMetH_plain _ _ _ (by kernel_rfl)]
        exact laid_met os))) ?_
  intro W base args ds gs before hval hW _ _ _ hL _ _
  exact contract H enc W base args ds gs before hval hW hL

theorem said : Rows.NumPrintsSaid :=
  OpenClaim.holds_of_cond 4 Tryd.f4 rfl rfl rfl rfl rfl rfl rfl ⟨rfl, rfl, rfl, rfl, rfl⟩ rfl rfl rfl rfl rfl (by kernel_rfl) Tryd.func4 (by kernel_rfl)
    (of_decide_eq_true (by kernel_rfl)) (by unfold Func.isWrapper; first | (rw [if_pos (by decide +kernel)]; kernel_rfl) | (rw [if_neg (by decide +kernel)]; exact ⟨rfl, rfl⟩))
    (fun os started H enc _ F => by rw [OpenClaim.pre_eq_preRow]; exact lifted os started H enc F)

theorem plain (f : FuncId) (fn : Func) (hf : Tryd.pinned.checked.prog.funcNamed Rows.numPrintsRow.func = some f) (hfn : Tryd.pinned.checked.prog.funcs[f]? = some fn) :
    false = Tryd.pinned.checked.prog.looks [] ∧ ∀ (j : Nat) t, fn.params[j]? = some t → Tryd.pinned.checked.prog.wantsStandIn t = false := by
  obtain rfl : f = 4 := Option.some.inj ((show Tryd.prog.funcNamed Rows.numPrintsRow.func = some 4 by kernel_rfl).symm.trans hf) |>.symm
  obtain rfl : fn = Tryd.f4 := (Option.some.inj (Tryd.func4.symm.trans hfn)).symm
  refine ⟨by kernel_rfl, fun j t ht => ?_⟩
  rw [Tryd.params4] at ht
  have hm : t ∈ [2] := by simpa using Array.mem_of_getElem? ht
  have hall : ([2].all fun u => !Tryd.prog.wantsStandIn u) = true := by kernel_rfl
  exact (show Tryd.prog.wantsStandIn t = false by simpa using List.all_eq_true.1 hall t hm)

theorem card : Rows.NumPrintsCardSaid :=
  Claim7.holds_tied_plain_at .later [] _ _ _ _ said (fun _ h => by cases h) (by kernel_rfl) (fun _ h => by cases h) numPrints_row_tie rfl ⟨rfl, rfl⟩ (by kernel_rfl) rfl plain (by kernel_rfl)
end Go.Proofs.YtmeiechaccpacaaDoor.numPrints
namespace Go.Proofs.YtmeiechaccpacaaDoor
theorem numPrints_card : Rows.NumPrintsCardSaid := numPrints.card
end Go.Proofs.YtmeiechaccpacaaDoor
