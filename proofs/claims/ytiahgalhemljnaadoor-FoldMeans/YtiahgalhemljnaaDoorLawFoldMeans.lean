/-
 FoldMeans is proved: whatever the sum and the number, fold.Mean answers as the document's reckoning does. Its condition: the listed variables lie as the program's text lays them (the card ties them).
-/
import Derived.Test.YtiahgalhemljnaaDoorQ14
import Derived.Test.YtiahgalhemljnaaDoorQ15
import Derived.Test.YtiahgalhemljnaaDoorCards
import Derived.Test.YtiahgalhemljnaaDoorTie
import Derived.ChangeMaps5
import Derived.Lib.SmallJoins
namespace Go.Proofs.YtiahgalhemljnaaDoor.foldMeans
open Go.ChangeShapes Go.WideShapes Go.ChangeAt Go.RowKit
open Go.Joins
set_option maxHeartbeats 4000000

set_option maxRecDepth 100000 in
theorem walk (h l a1 : Int) (w : World) (wh : (Lit.int .i64 h).wf = true) (wl : (Lit.int .u64 l).wf = true) (w1 : (Lit.int .i64 a1).wf = true) (hN : Nm w) :
   Calls Tryd.prog 4 #[.agg #[.int .i64 h, .int .u64 l], .int .i64 a1] w fun e w' => e = .returned (.bool true) ∧ Ext w w' := by
 have ih := i64_of_wf wh
 have ul := u64_of_wf wl
 have e1 := hiOf_mk h l ih ul
 have e2 := loOf_mk h l ul
 have hx : I128 (h * 18446744073709551616 + l) := by obtain ⟨_, _⟩ := ih; obtain ⟨_, _⟩ := ul; exact ⟨by omega, by omega⟩
 have c1 := fun W => fmean_any (h * 18446744073709551616 + l) hx a1 (i64_of_wf w1) W
 have c2 := fun W => rmean_any (h * 18446744073709551616 + l) hx a1 (i64_of_wf w1) W
 rw [e1, e2] at c1 c2
 generalize meanV (h * 18446744073709551616 + l) a1 = m at *
 generalize meanB (h * 18446744073709551616 + l) a1 = b at *
 have c3 := fun W g => lives13_any W g
 have hbb : (b == b) = true := by simp
 clear e1 e2 hx ih ul
 go_enter Tryd.func4, Tryd.ntmps4
 go_wp2_with fail
 refine (c1 _).mono ?_
 rintro e w1 ⟨rfl, E1⟩
 have X1 : Ext w w1 := ((Ext.refl _).alloc _).trans E1
 obtain ⟨hc, hf⟩ := E1.cell
 have m0 := hc w.heap.size 0 (by simp)
 have m1 := hc w.heap.size 1 (by simp)
 simp [go_sem] at m0 m1
 clear E1 hc hf
 go_wp2_with fail
 refine (c2 _).mono ?_
 rintro e w2 ⟨rfl, E2⟩
 have X2 : Ext w w2 := X1.trans E2
 clear E2 X1 m0 m1
 go_wp2_with fail
 refine (c3 _ (hN.ext X2)).mono ?_
 rintro e w3 ⟨rfl, E3⟩
 go_wp2_with fail
 go_ret
 exact ⟨rfl, X2.trans E3⟩

theorem laidOut : laidOutB Tryd.prog = true := by kernel_rfl
theorem cells_acc : Tryd.prog.cellsOf 32 = 2 := by kernel_rfl
set_option maxRecDepth 100000 in
theorem contract (H : Type) (enc : TypeId × Value → H) (W : World) (base : Nat) (args : Array Value) (ds gs : List (DataW H)) (before : List MemPlace)
   (hval0 : ∀ (j : Nat) t v, Tryd.f4.params[j]? = some t → args[j]? = some v → Value.okWide Tryd.prog W .any base t v)
   (hW : DataW.Whole enc Tryd.prog Tryd.f4.params.toList Rows.foldMeansSpec.vars false W args.toList ds gs before) (hL : laidMetH Tryd.prog Rows.foldMeansRow.laid W) :
   Calls Tryd.prog 4 args W fun e W' => ∃ v, e = .returned v ∧ Rows.foldMeansSpec.post enc Tryd.prog Tryd.f4 false true false false W args v W' := by
 have hval := hval0
 have hW' := hW
 obtain ⟨p, q, hA0, hV, rfl, hfz, hnd⟩ := hW'
 have hA : DataW.TrodAll enc Tryd.prog W 0 (fun _ => true) true Tryd.f4.params.toList args.toList ds p := hA0
 rw [Tryd.params4] at hA hval
 obtain ⟨v0, vs0, d0, ds0, p0, q0, hargs, rfl, rfl, h0, r0⟩ := trodAll_cons hA
 obtain ⟨v1, vs1, d1, ds1, p1, q1, rfl, rfl, rfl, h1, r1⟩ := trodAll_cons r0
 obtain ⟨rfl, rfl, rfl⟩ := trodAll_nil r1
 obtain rfl : args = #[v0, v1] := by cases args; simp_all
 obtain ⟨rfl, rfl⟩ := trodVars_none hV
 have j0 := h0
 have lt0 : ∀ x ∈ p0, x.block < W.heap.size := by obtain ⟨m, hm⟩ := j0; exact DataW.trod_lt m _ _ _ hm
 obtain ⟨cc0, cc1, yy0, yy1, m0, rfl, hd0, hp0, hy0, hy1⟩ := open_agg2 Tryd.underlying32 (by kernel_rfl) cells_acc (hval 0 32 v0 rfl rfl) h0
 obtain ⟨Lh0, f0, _, wh0⟩ := DataW.trod_int Tryd.underlying2 hy0
 obtain ⟨Ll0, f1, _, wl0⟩ := DataW.trod_int Tryd.underlying30 hy1
 simp only [List.cons.injEq, and_true] at f0 f1
 obtain rfl := f0
 obtain rfl := f1
 obtain ⟨a1, rfl, rfl, rfl, w1⟩ := open_int Tryd.underlying3 (hval 1 3 v1 rfl rfl) h1
 clear hA0 hval0
 refine (walk Lh0 Ll0 a1 W wh0 wl0 w1 (nm_ofN hL)).mono fun e W' ⟨he, bel⟩ => ?_
 subst he
 exact ⟨_, rfl, _, _, _, [], _, [], hW, trodAll_mk1 (shut_bool Tryd.underlying4 _), (trodAll_cons_mk (Below.trod laidOut (by kernel_rfl) (of_decide_eq_true (by kernel_rfl)) j0 bel lt0) (trodAll_cons_mk (shut_int Tryd.underlying3 w1) trodAll_mk0)), rfl, Below.frame bel _, fun h => by cases h⟩

theorem laid_met (os : Os) : laidMet Tryd.prog Rows.foldMeansRow.laid ((laidWorldN os).forCall (fun _ _ => 0) ⟨#[], #[.agg #[.int .i64 0, .int .u64 0], .int .i64 0], []⟩).memory :=
 laidMet_of_run' 8 (by kernel_rfl) (by kernel_rfl)
theorem reads (os : Os) {H : Type} (enc : TypeId × Value → H) : ∃ places, DataW.whole enc Tryd.prog ((laidWorldN os).forCall (fun _ _ => 0) ⟨#[], #[.agg #[.int .i64 0, .int .u64 0], .int .i64 0], []⟩).memory Tryd.f4.params.toList Rows.foldMeansSpec.vars false (#[.agg #[.int .i64 0, .int .u64 0], .int .i64 0] : Array Value).toList 8 = some ([.agg [.lit (.int .i64 0), .lit (.int .u64 0)], .lit (.int .i64 0)], [], places) :=
 ⟨[], by kernel_rfl⟩

set_option maxRecDepth 100000 in
theorem lifted (os : Os) (started : os.Started) (H : Type) (enc : TypeId × Value → H) (F : Stop.Interp) :
   ReturnsInHanded {} Tryd.checked os 4 .any ((OpenSpec.ofChange Rows.foldMeansSpec).preRow enc Tryd.prog Tryd.f4 Rows.foldMeansRow.domain false Rows.foldMeansRow.laid) (((OpenSpec.ofChange Rows.foldMeansSpec).at F).post enc Tryd.prog Tryd.f4 false true false false) := by
 obtain ⟨places, hx⟩ := reads os enc
 refine returnsInHanded_of_row (C := Tryd.checked) (s := OpenSpec.ofChange Rows.foldMeansSpec) ownK started (by kernel_rfl) Tryd.func4
   (witness_row_at (enc := enc) (C := Tryd.checked) false (laidWorldN os) #[.agg #[.int .i64 0, .int .u64 0], .int .i64 0] rfl (by kernel_rfl) (by kernel_rfl) (by kernel_rfl)
     (OpenSpec.preRow_of_cond 8 hx (by kernel_rfl) (fun k hk => by cases hk) (by kernel_rfl) (by
       rw [MakeChecks.laidMetH_plain _ _ _ (by kernel_rfl)]
       exact laid_met os))) ?_
 intro W base args ds gs before hval hW _ _ _ hL _ _
 exact contract H enc W base args ds gs before hval hW hL

theorem said : Rows.FoldMeansSaid :=
 OpenClaim.holds_of_cond 4 Tryd.f4 rfl rfl rfl rfl rfl rfl rfl ⟨rfl, rfl, rfl, rfl, rfl⟩ rfl rfl rfl rfl rfl (by kernel_rfl) Tryd.func4 (by kernel_rfl)
   (of_decide_eq_true (by kernel_rfl)) (by unfold Func.isWrapper; first | (rw [if_pos (by decide +kernel)]; kernel_rfl) | (rw [if_neg (by decide +kernel)]; exact ⟨rfl, rfl⟩))
   (fun os started H enc _ F => by rw [OpenClaim.pre_eq_preRow]; exact lifted os started H enc F)

theorem plain (f : FuncId) (fn : Func) (hf : Tryd.pinned.checked.prog.funcNamed Rows.foldMeansRow.func = some f) (hfn : Tryd.pinned.checked.prog.funcs[f]? = some fn) :
   false = Tryd.pinned.checked.prog.looks [] ∧ ∀ (j : Nat) t, fn.params[j]? = some t → Tryd.pinned.checked.prog.wantsStandIn t = false := by
 obtain rfl : f = 4 := Option.some.inj ((show Tryd.prog.funcNamed Rows.foldMeansRow.func = some 4 by kernel_rfl).symm.trans hf) |>.symm
 obtain rfl : fn = Tryd.f4 := (Option.some.inj (Tryd.func4.symm.trans hfn)).symm
 refine ⟨by kernel_rfl, fun j t ht => ?_⟩
 rw [Tryd.params4] at ht
 have hm : t ∈ [32, 3] := by simpa using Array.mem_of_getElem? ht
 have hall : ([32, 3].all fun u => !Tryd.prog.wantsStandIn u) = true := by kernel_rfl
 exact (show Tryd.prog.wantsStandIn t = false by simpa using List.all_eq_true.1 hall t hm)

theorem card : Rows.FoldMeansCardSaid :=
 Claim7.holds_tied_plain_at .later [] _ _ _ _ said (fun _ h => by cases h) (by kernel_rfl) (fun _ h => by cases h) foldMeans_row_tie rfl ⟨rfl, rfl⟩ (by kernel_rfl) rfl plain (by kernel_rfl)
end Go.Proofs.YtiahgalhemljnaaDoor.foldMeans
namespace Go.Proofs.YtiahgalhemljnaaDoor
theorem foldMeans_card : Rows.FoldMeansCardSaid := foldMeans.card
end Go.Proofs.YtiahgalhemljnaaDoor
