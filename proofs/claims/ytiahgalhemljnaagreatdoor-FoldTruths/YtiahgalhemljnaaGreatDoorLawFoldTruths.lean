/-
 FoldTruths is proved: of whatever arguments, whether all, or any, are true, and all texts joined, are as the document has them. Its condition: the listed variables lie as the program's text lays them (the card ties them).
-/
import Derived.Test.YtiahgalhemljnaaGreatDoorV14
import Derived.Test.YtiahgalhemljnaaGreatDoorV15
import Derived.Test.YtiahgalhemljnaaGreatDoorV19
import Derived.Test.YtiahgalhemljnaaGreatDoorV20
import Derived.Test.YtiahgalhemljnaaGreatDoorCards
import Derived.Test.YtiahgalhemljnaaGreatDoorTie
import Derived.ChangeMaps5
import Derived.Lib.SmallJoins
namespace Go.Proofs.YtiahgalhemljnaaGreatDoor.foldTruths
open Go.ChangeShapes Go.WideShapes Go.ChangeAt Go.RowKit
open Go.Joins
set_option maxHeartbeats 4000000

set_option maxRecDepth 100000 in
theorem walk (gs : List Ag) (p : Option Addr) (n c : Nat) (w : World) (rd : RdA w.heap.size w (.slice p n c) gs) (ai : AgI gs) (_ : AgM gs) (_ : gs.length ≤ maxLen) (hr : ∀ a ∈ gs, a.l.length ≤ 140737488351232) (hT : Tab w) (hN : Nm w) :
   Calls Tryz.prog 3 #[.slice p n c] w fun e w' => e = .returned (.bool true) ∧ Ext w w' := by
 have c0 := fun W g => lives13_any W g
 have HT : Hid (Tab w) := hT
 clear hT
 have cF := fits_any gs p n c w rd hr
 by_cases hf : fitN gs ≤ 5000
 rotate_left
 · rw [show decide (fitN gs ≤ 5000) = false by simpa using hf] at cF
   clear rd ai hr hf
   go_enter Tryz.func3, Tryz.ntmps3
   go_wp2_with fail
   refine cF.mono ?_
   rintro e w1 ⟨rfl, rfl⟩
   go_wp2_with fail
   refine (c0 _ hN).mono ?_
   rintro e w2 ⟨rfl, E2⟩
   go_wp2_with fail
   go_ret
   exact ⟨rfl, E2⟩
 rw [show decide (fitN gs ≤ 5000) = true by simpa using hf] at cF
 have F : Hid (∀ W v, RdA W.heap.size W v gs → Fit W v gs) := fun W v h => ⟨h, ai, by have := (fit_seen gs).1; omega, by have := (fit_seen gs).2; omega⟩
 have HR : Hid (RdA w.heap.size w (.slice p n c) gs) := rd
 have CO : Hid (∀ W, Ext w W → Calls Tryz.prog 8 #[.slice p n c] W fun e w' => ∃ p' c', e = .returned (.slice p' n c') ∧ RdA w'.heap.size w' (.slice p' n c') gs ∧ Ext W w') := fun W e => own13_any gs p n c W (rd.to (Nat.le_refl _) e) hf
 obtain ⟨V0, hV0⟩ : ∃ v, fAnd gs = v := ⟨_, rfl⟩
 have CL0 : Hid (∀ W p' c', Ext w W → RdA W.heap.size W (.slice p' n c') gs → Calls Tryz.prog 7 #[.slice p' n c'] W fun e w' => e = .returned (.agg #[.int .i64 V0.k, .int .i64 V0.n, .string V0.s, .int .i64 V0.e]) ∧ Ext W w') := fun W p' c' e h => by
   have q := fand_any _ W p' n c' (F.out W _ h) (hN.ext e)
   rw [hV0, dat_eq] at q
   exact q
 have CM0 : Hid (∀ W, Ext w W → Calls Tryz.prog 9 #[.string ⟨#[65, 78, 68]⟩, .slice p n c] W fun e w' => e = .returned (.agg #[.int .i64 V0.k, .int .i64 V0.n, .string V0.s, .int .i64 V0.e]) ∧ Ext W w') := fun W e => by
   have q := rcall_and gs W p n c (F.out W _ (rd.to (Nat.le_refl _) e))
   rw [hV0, dat_eq] at q
   exact q
 obtain ⟨V1, hV1⟩ : ∃ v, fOr gs = v := ⟨_, rfl⟩
 have CL1 : Hid (∀ W p' c', Ext w W → RdA W.heap.size W (.slice p' n c') gs → Calls Tryz.prog 10 #[.slice p' n c'] W fun e w' => e = .returned (.agg #[.int .i64 V1.k, .int .i64 V1.n, .string V1.s, .int .i64 V1.e]) ∧ Ext W w') := fun W p' c' e h => by
   have q := for_any _ W p' n c' (F.out W _ h) (hN.ext e)
   rw [hV1, dat_eq] at q
   exact q
 have CM1 : Hid (∀ W, Ext w W → Calls Tryz.prog 9 #[.string ⟨#[79, 82]⟩, .slice p n c] W fun e w' => e = .returned (.agg #[.int .i64 V1.k, .int .i64 V1.n, .string V1.s, .int .i64 V1.e]) ∧ Ext W w') := fun W e => by
   have q := rcall_or gs W p n c (F.out W _ (rd.to (Nat.le_refl _) e))
   rw [hV1, dat_eq] at q
   exact q
 obtain ⟨V2, hV2⟩ : ∃ v, fCat gs = v := ⟨_, rfl⟩
 have CL2 : Hid (∀ W p' c', Ext w W → RdA W.heap.size W (.slice p' n c') gs → Calls Tryz.prog 11 #[.slice p' n c'] W fun e w' => e = .returned (.agg #[.int .i64 V2.k, .int .i64 V2.n, .string V2.s, .int .i64 V2.e]) ∧ Ext W w') := fun W p' c' e h => by
   have q := fcat_any _ W p' n c' (F.out W _ h) (HT.out.ext e) (hN.ext e)
   rw [hV2, dat_eq] at q
   exact q
 have CM2 : Hid (∀ W, Ext w W → Calls Tryz.prog 9 #[.string ⟨#[67, 79, 78, 67, 65, 84]⟩, .slice p n c] W fun e w' => e = .returned (.agg #[.int .i64 V2.k, .int .i64 V2.n, .string V2.s, .int .i64 V2.e]) ∧ Ext W w') := fun W e => by
   have q := rcall_cat gs W p n c (F.out W _ (rd.to (Nat.le_refl _) e))
   rw [hV2, dat_eq] at q
   exact q
 generalize V0.k = V0k at *
 generalize V0.n = V0n at *
 generalize V0.s = V0s at *
 generalize V0.e = V0e at *
 generalize V1.k = V1k at *
 generalize V1.n = V1n at *
 generalize V1.s = V1s at *
 generalize V1.e = V1e at *
 generalize V2.k = V2k at *
 generalize V2.n = V2n at *
 generalize V2.s = V2s at *
 generalize V2.e = V2e at *
 have qE := eq_val
 have qG := gd_val
 clear rd ai hr hf hV0 hV1 hV2
 go_enter Tryz.func3, Tryz.ntmps3
 go_wp2_with fail
 refine cF.mono ?_
 rintro e w1 ⟨rfl, rfl⟩
 have X5 := Ext.refl w1
 go_wp2_with fail
 refine (CO.out _ X5).mono ?_
 rintro e w10 ⟨p10, c10', rfl, R10, E10⟩
 have X10 : Ext w1 w10 := X5.trans E10
 have HR10 : Hid (RdA w10.heap.size w10 (.slice p10 n c10') gs) := R10
 clear E10 R10 X5
 go_wp2_with fail
 refine (CL0.out _ _ _ X10 HR10.out).mono ?_
 rintro e w11 ⟨rfl, E11⟩
 have X11 : Ext w1 w11 := X10.trans E11
 clear E11 X10
 go_wp2_with fail
 refine (CM0.out _ X11).mono ?_
 rintro e w12 ⟨rfl, E12⟩
 have X12 : Ext w1 w12 := X11.trans E12
 clear E12 X11
 go_wp2_with fail
 refine (CO.out _ X12).mono ?_
 rintro e w13 ⟨p13, c13', rfl, R13, E13⟩
 have X13 : Ext w1 w13 := X12.trans E13
 have HR13 : Hid (RdA w13.heap.size w13 (.slice p13 n c13') gs) := R13
 clear E13 R13 X12
 go_wp2_with fail
 refine (CL1.out _ _ _ X13 HR13.out).mono ?_
 rintro e w14 ⟨rfl, E14⟩
 have X14 : Ext w1 w14 := X13.trans E14
 clear E14 X13
 go_wp2_with fail
 refine (CM1.out _ X14).mono ?_
 rintro e w15 ⟨rfl, E15⟩
 have X15 : Ext w1 w15 := X14.trans E15
 clear E15 X14
 go_wp2_with fail
 refine (CO.out _ X15).mono ?_
 rintro e w16 ⟨p16, c16', rfl, R16, E16⟩
 have X16 : Ext w1 w16 := X15.trans E16
 have HR16 : Hid (RdA w16.heap.size w16 (.slice p16 n c16') gs) := R16
 clear E16 R16 X15
 go_wp2_with fail
 refine (CL2.out _ _ _ X16 HR16.out).mono ?_
 rintro e w17 ⟨rfl, E17⟩
 have X17 : Ext w1 w17 := X16.trans E17
 clear E17 X16
 go_wp2_with fail
 refine (CM2.out _ X17).mono ?_
 rintro e w18 ⟨rfl, E18⟩
 have X18 : Ext w1 w18 := X17.trans E18
 clear E18 X17
 go_wp2_with fail
 refine (c0 _ (hN.ext X18)).mono ?_
 rintro e w90 ⟨rfl, E90⟩
 have X90 : Ext w1 w90 := X18.trans E90
 go_wp2_with fail
 go_ret
 exact ⟨rfl, X90⟩

theorem laidOut : laidOutB Tryz.prog = true := by kernel_rfl
set_option maxRecDepth 100000 in
theorem contract (H : Type) (enc : TypeId × Value → H) (W : World) (base : Nat) (args : Array Value) (ds gs : List (DataW H)) (before : List MemPlace)
   (hval0 : ∀ (j : Nat) t v, Tryz.f3.params[j]? = some t → args[j]? = some v → Value.okWide Tryz.prog W .any base t v)
   (hW : DataW.Whole enc Tryz.prog Tryz.f3.params.toList Rows.foldTruthsSpec.vars false W args.toList ds gs before) (hsz0 : (DataW.weightsEach Tryz.prog (Tryz.f3.params.toList ++ (OpenSpec.ofChange Rows.foldTruthsSpec).bare.plain.varTypes Tryz.prog) (ds ++ gs)).all (· ≤ reachBytes) = true) (hL : laidMetH Tryz.prog Rows.foldTruthsRow.laid W) :
   Calls Tryz.prog 3 args W fun e W' => ∃ v, e = .returned v ∧ Rows.foldTruthsSpec.post enc Tryz.prog Tryz.f3 false true false false W args v W' := by
 have hval := hval0
 have hW' := hW
 obtain ⟨p, q, hA0, hV, rfl, hfz, hnd⟩ := hW'
 have hA : DataW.TrodAll enc Tryz.prog W 0 (fun _ => true) true Tryz.f3.params.toList args.toList ds p := hA0
 rw [Tryz.params3] at hA hval
 obtain ⟨v0, vs0, d0, ds0, p0, q0, hargs, rfl, rfl, h0, r0⟩ := trodAll_cons hA
 obtain ⟨rfl, rfl, rfl⟩ := trodAll_nil r0
 obtain rfl : args = #[v0] := by cases args; simp_all
 obtain ⟨rfl, rfl⟩ := trodVars_none hV
 have j0 := h0
 have lt0 : ∀ x ∈ p0, x.block < W.heap.size := by obtain ⟨m, hm⟩ := j0; exact DataW.trod_lt m _ _ _ hm
 obtain ⟨pp0, ln0, cl0, rfl⟩ := okWide_slice Tryz.underlying22 (hval 0 22 v0 rfl rfl)
 obtain ⟨gs0, rd0, ai0, am0, al0⟩ : ∃ l, RdA W.heap.size W (.slice pp0 ln0 cl0) l ∧ AgI l ∧ AgM l ∧ l.length ≤ maxLen := by
   obtain ⟨fuel, hf⟩ := h0
   exact open_args hf
 have hr0 : ∀ a ∈ gs0, a.l.length ≤ 140737488351232 := by
   obtain ⟨fuel, hf⟩ := j0
   exact args_len hf rd0 (fun n hn => by
     have := List.all_eq_true.1 hsz0 n (DataW.weights_mem_each (j := 0) (t := 22) rfl rfl n hn)
     simpa using this)
 clear hA0 hval0 hsz0
 refine (walk gs0 pp0 ln0 cl0 W rd0 ai0 am0 al0 hr0 (tab_ofZ hL) (nm_ofZ hL)).mono fun e W' ⟨he, bel⟩ => ?_
 subst he
 exact ⟨_, rfl, _, _, _, [], _, [], hW, trodAll_mk1 (shut_bool Tryz.underlying4 _), (trodAll_cons_mk (Below.trod laidOut (by kernel_rfl) (of_decide_eq_true (by kernel_rfl)) j0 bel lt0) trodAll_mk0), rfl, Below.frame bel _, fun h => by cases h⟩

theorem laid_met (os : Os) : laidMet Tryz.prog Rows.foldTruthsRow.laid ((laidWorldZ os).forCall (fun _ _ => 0) ⟨#[], #[.slice none 0 0], []⟩).memory :=
 laidMet_of_run' 8 (by kernel_rfl) (by kernel_rfl)
theorem reads (os : Os) {H : Type} (enc : TypeId × Value → H) : ∃ places, DataW.whole enc Tryz.prog ((laidWorldZ os).forCall (fun _ _ => 0) ⟨#[], #[.slice none 0 0], []⟩).memory Tryz.f3.params.toList Rows.foldTruthsSpec.vars false (#[.slice none 0 0] : Array Value).toList 8 = some ([.nil], [], places) :=
 ⟨[], by kernel_rfl⟩

set_option maxRecDepth 100000 in
theorem lifted (os : Os) (started : os.Started) (H : Type) (enc : TypeId × Value → H) (F : Stop.Interp) :
   ReturnsInHanded {} Tryz.checked os 3 .any ((OpenSpec.ofChange Rows.foldTruthsSpec).preRow enc Tryz.prog Tryz.f3 Rows.foldTruthsRow.domain false Rows.foldTruthsRow.laid) (((OpenSpec.ofChange Rows.foldTruthsSpec).at F).post enc Tryz.prog Tryz.f3 false true false false) := by
 obtain ⟨places, hx⟩ := reads os enc
 refine returnsInHanded_of_row (C := Tryz.checked) (s := OpenSpec.ofChange Rows.foldTruthsSpec) ownK started (by kernel_rfl) Tryz.func3
   (witness_row_at (enc := enc) (C := Tryz.checked) false (laidWorldZ os) #[.slice none 0 0] rfl (by kernel_rfl) (by kernel_rfl) (by kernel_rfl)
     (OpenSpec.preRow_of_cond 8 hx (by kernel_rfl) (fun k hk => by cases hk) (by kernel_rfl) (by
       rw [MakeChecks.laidMetH_plain _ _ _ (by kernel_rfl)]
       exact laid_met os))) ?_
 intro W base args ds gs before hval hW _ _ hsz hL _ _
 exact contract H enc W base args ds gs before hval hW hsz hL

theorem said : Rows.FoldTruthsSaid :=
 OpenClaim.holds_of_cond 3 Tryz.f3 rfl rfl rfl rfl rfl rfl rfl ⟨rfl, rfl, rfl, rfl, rfl⟩ rfl rfl rfl rfl rfl (by kernel_rfl) Tryz.func3 (by kernel_rfl)
   (of_decide_eq_true (by kernel_rfl)) (by unfold Func.isWrapper; first | (rw [if_pos (by decide +kernel)]; kernel_rfl) | (rw [if_neg (by decide +kernel)]; exact ⟨rfl, rfl⟩))
   (fun os started H enc _ F => by rw [OpenClaim.pre_eq_preRow]; exact lifted os started H enc F)

theorem plain (f : FuncId) (fn : Func) (hf : Tryz.pinned.checked.prog.funcNamed Rows.foldTruthsRow.func = some f) (hfn : Tryz.pinned.checked.prog.funcs[f]? = some fn) :
   false = Tryz.pinned.checked.prog.looks [] ∧ ∀ (j : Nat) t, fn.params[j]? = some t → Tryz.pinned.checked.prog.wantsStandIn t = false := by
 obtain rfl : f = 3 := Option.some.inj ((show Tryz.prog.funcNamed Rows.foldTruthsRow.func = some 3 by kernel_rfl).symm.trans hf) |>.symm
 obtain rfl : fn = Tryz.f3 := (Option.some.inj (Tryz.func3.symm.trans hfn)).symm
 refine ⟨by kernel_rfl, fun j t ht => ?_⟩
 rw [Tryz.params3] at ht
 have hm : t ∈ [22] := by simpa using Array.mem_of_getElem? ht
 have hall : ([22].all fun u => !Tryz.prog.wantsStandIn u) = true := by kernel_rfl
 exact (show Tryz.prog.wantsStandIn t = false by simpa using List.all_eq_true.1 hall t hm)

theorem card : Rows.FoldTruthsCardSaid :=
 Claim7.holds_tied_plain_at .later [] _ _ _ _ said (fun _ h => by cases h) (by kernel_rfl) (fun _ h => by cases h) foldTruths_row_tie rfl ⟨rfl, rfl⟩ (by kernel_rfl) rfl plain (by kernel_rfl)
end Go.Proofs.YtiahgalhemljnaaGreatDoor.foldTruths
namespace Go.Proofs.YtiahgalhemljnaaGreatDoor
theorem foldTruths_card : Rows.FoldTruthsCardSaid := foldTruths.card
end Go.Proofs.YtiahgalhemljnaaGreatDoor
