/-
 EvalBoards is proved: for every list of values and every place the call returns true and the arguments read as they did. Its condition: the listed tables lie as the program text lays them (the card ties them).
-/
import Derived.Test.YtcfgbiaahangmaaGreatDoorB34
import Derived.Test.YtcfgbiaahangmaaGreatDoorCards
import Derived.Test.YtcfgbiaahangmaaGreatDoorTie
import Derived.ChangeMaps5
import Derived.SizedLaws
set_option maxHeartbeats 1000000
set_option maxRecDepth 100000
namespace Go.Proofs.YtcfgbiaahangmaaGreatDoor.evalBoards
open Go.Proofs.Tryz
open Go.ChangeShapes Go.WideShapes Go.ChangeAt Go.RowKit
open Go.ChangeMaps (open_string shut_string)
open Go.Joins
theorem laidOut : laidOutB Tryz.prog = true := J3
theorem cells_place : Tryz.prog.cellsOf 24 = 2 := J3
theorem contract (H : Type) (enc : TypeId × Value → H) (W : World) (base : Nat) (args : Array Value) (ds gs : List (DataW H)) (before : List MemPlace)
   (hval0 : ∀ (j : Nat) t v, Tryz.f3.params[j]? = some t → args[j]? = some v → Value.okWide Tryz.prog W .any base t v)
   (hW : DataW.Whole enc Tryz.prog Tryz.f3.params.toList Rows.evalBoardsSpec.vars false W args.toList ds gs before) (hL : laidMetH Tryz.prog Rows.evalBoardsRow.laid W) :
   Calls Tryz.prog 3 args W fun e W' => ∃ v, e = .returned v ∧ Rows.evalBoardsSpec.post enc Tryz.prog Tryz.f3 false true false false W args v W' := by
 have hval := hval0
 have hW' := hW
 obtain ⟨p, q, hA0, hV, rfl, hfz, hnd⟩ := hW'
 have hA : DataW.TrodAll enc Tryz.prog W 0 (fun _ => true) true Tryz.f3.params.toList args.toList ds p := hA0
 rw [Tryz.params3] at hA hval
 obtain ⟨v0, vs0, d0, ds0, p0, q0, hargs, rfl, rfl, h0, r0⟩ := trodAll_cons hA
 obtain ⟨v1, vs1, d1, ds1, p1, q1, rfl, rfl, rfl, h1, r1⟩ := trodAll_cons r0
 obtain ⟨rfl, rfl, rfl⟩ := trodAll_nil r1
 obtain rfl : args = #[v0, v1] := by cases args; simp_all
 obtain ⟨rfl, rfl⟩ := trodVars_none hV
 have j0 := h0
 have lt0 : ∀ x ∈ p0, x.block < W.heap.size := by obtain ⟨m, hm⟩ := j0; exact DataW.trod_lt m _ _ _ hm
 obtain ⟨pp0, ln0, cl0, rfl⟩ := okWide_slice Tryz.underlying22 (hval 0 22 v0 rfl rfl)
 obtain ⟨l0, rd0, ki0⟩ : ∃ l, RdKn W (.slice pp0 ln0 cl0) l ∧ KnI l := by
   obtain ⟨fuel, hf⟩ := h0
   obtain ⟨l, g1, g2, _⟩ := open_kns hf
   exact ⟨l, g1, g2⟩
 have j1 := h1
 have lt1 : ∀ x ∈ p1, x.block < W.heap.size := by obtain ⟨m, hm⟩ := j1; exact DataW.trod_lt m _ _ _ hm
 obtain ⟨cc0, cc1, yy0, yy1, m1, rfl, hd1, hp1, hy0, hy1⟩ := open_agg2 Tryz.underlying24 J3 cells_place (hval 1 24 v1 rfl rfl) h1
 obtain ⟨Lp1, f0, _, wp1⟩ := DataW.trod_int Tryz.underlying3 hy0
 obtain ⟨Lq1, f1, _, wq1⟩ := DataW.trod_int Tryz.underlying3 hy1
 simp only [List.cons.injEq, and_true] at f0 f1
 obtain rfl := f0
 obtain rfl := f1
 clear hA0 hval0
 refine (walk_evalBoards l0 pp0 ln0 cl0 Lp1 Lq1 W rd0 ki0 wp1 wq1 (nm_ofE hL) (tab_ofE hL)).mono fun e W' ⟨he, bel⟩ => ?_
 subst he
 exact ⟨_, rfl, _, _, _, [], _, [], hW, trodAll_mk1 (shut_bool Tryz.underlying4 _), (trodAll_cons_mk (Below.trod laidOut J3 (of_decide_eq_true J3) j0 bel lt0) (trodAll_cons_mk (Below.trod laidOut J3 (of_decide_eq_true J3) j1 bel lt1) trodAll_mk0)), rfl, Below.frame bel _, fun h => by cases h⟩
theorem laid_met (os : Os) : laidMet Tryz.prog Rows.evalBoardsRow.laid ((laidWorldE os).forCall (fun _ _ => 0) ⟨#[], #[.slice none 0 0, .agg #[.int .i64 0, .int .i64 0]], []⟩).memory :=
 laidMet_of_run' 8 J3 J3
theorem reads (os : Os) {H : Type} (enc : TypeId × Value → H) : ∃ places, DataW.whole enc Tryz.prog ((laidWorldE os).forCall (fun _ _ => 0) ⟨#[], #[.slice none 0 0, .agg #[.int .i64 0, .int .i64 0]], []⟩).memory Tryz.f3.params.toList Rows.evalBoardsSpec.vars false (#[.slice none 0 0, .agg #[.int .i64 0, .int .i64 0]] : Array Value).toList 8 = some ([.nil, .agg [.lit (.int .i64 0), .lit (.int .i64 0)]], [], places) :=
 ⟨[], by kernel_rfl⟩
theorem lifted (os : Os) (started : os.Started) (H : Type) (enc : TypeId × Value → H) (F : Stop.Interp) :
   ReturnsInHanded {} Tryz.checked os 3 .any ((OpenSpec.ofChange Rows.evalBoardsSpec).preRow enc Tryz.prog Tryz.f3 Rows.evalBoardsRow.domain false Rows.evalBoardsRow.laid) (((OpenSpec.ofChange Rows.evalBoardsSpec).at F).post enc Tryz.prog Tryz.f3 false true false false) := by
 obtain ⟨places, hx⟩ := reads os enc
 refine returnsInHanded_of_row (C := Tryz.checked) (s := (OpenSpec.ofChange Rows.evalBoardsSpec)) ownK started J3 func3
   (witness_row_at (enc := enc) (C := Tryz.checked) false (laidWorldE os) #[.slice none 0 0, .agg #[.int .i64 0, .int .i64 0]] rfl J3 J3 J3
     (OpenSpec.preRow_of_cond 8 hx J3 (fun k hk => by cases hk) J3 (by
       rw [MakeChecks.laidMetH_plain _ _ _ J3]
       exact laid_met os))) ?_
 intro W base args ds gs before hval hW _ _ _ hL _ _
 exact contract H enc W base args ds gs before hval hW hL
theorem said : Rows.EvalBoardsSaid :=
 OpenClaim.holds_of_cond 3 Tryz.f3 rfl rfl rfl rfl rfl rfl rfl ⟨rfl, rfl, rfl, rfl, rfl⟩ rfl rfl rfl rfl rfl J3 func3 J3
   (of_decide_eq_true J3) (by unfold Func.isWrapper; first | (rw [if_pos (by decide +kernel)]; kernel_rfl) | (rw [if_neg (by decide +kernel)]; exact ⟨rfl, rfl⟩))
   (fun os started H enc _ F => by rw [OpenClaim.pre_eq_preRow]; exact lifted os started H enc F)
theorem plain (f : FuncId) (fn : Func) (hf : Tryz.pinned.checked.prog.funcNamed Rows.evalBoardsRow.func = some f) (hfn : Tryz.pinned.checked.prog.funcs[f]? = some fn) :
   true = Tryz.pinned.checked.prog.looks [] ∧ ∀ (j : Nat) t, fn.params[j]? = some t → Tryz.pinned.checked.prog.wantsStandIn t = false := by
 obtain rfl : f = 3 := Option.some.inj ((show Tryz.prog.funcNamed Rows.evalBoardsRow.func = some 3 by kernel_rfl).symm.trans hf) |>.symm
 obtain rfl : fn = Tryz.f3 := (Option.some.inj (Tryz.func3.symm.trans hfn)).symm
 refine ⟨by kernel_rfl, fun j t ht => ?_⟩
 rw [Tryz.params3] at ht
 have hm : t ∈ [22, 24] := by simpa using Array.mem_of_getElem? ht
 have hall : ([22, 24].all fun u => !Tryz.prog.wantsStandIn u) = true := J3
 exact (show Tryz.prog.wantsStandIn t = false by simpa using List.all_eq_true.1 hall t hm)
theorem card : Rows.EvalBoardsCardSaid :=
 Claim7.holds_tied_plain_at .later [] _ _ _ _ said (fun _ h => by cases h) J3 (fun _ h => by cases h) evalBoards_row_tie rfl ⟨rfl, rfl⟩ J3 rfl plain J3
end Go.Proofs.YtcfgbiaahangmaaGreatDoor.evalBoards
namespace Go.Proofs.YtcfgbiaahangmaaGreatDoor
theorem evalBoards_card : Rows.EvalBoardsCardSaid := evalBoards.card
end Go.Proofs.YtcfgbiaahangmaaGreatDoor
