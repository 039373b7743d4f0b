/-
 FuncsAnswer is proved for arguments of bulk at most 1048576 (the second form): for every name and every such arguments the call returns true and the arguments read as they did. Its condition: the listed tables (the errors, the powers of ten) lie as the program text lays them (the card ties them).
-/
import Derived.Test.YtalejeknigbhjaaGreatDoorY28
import Derived.Test.YtalejeknigbhjaaGreatDoorY29
import Derived.Test.YtalejeknigbhjaaGreatDoorCards
import Derived.Test.YtalejeknigbhjaaGreatDoorTie
import Derived.ChangeMaps5
import Derived.Lib.SmallJoins
namespace Go.Proofs.YtalejeknigbhjaaGreatDoor.funcsAnswer
open Go.ChangeShapes Go.WideShapes Go.ChangeAt Go.RowKit
open Go.ChangeMaps (open_string shut_string)
open Go.Joins
set_option maxHeartbeats 1000000

theorem walk (a0 : ByteArray) (l : List Bg) (pp : Option Addr) (n cl : Nat) (w : World) (_ : a0.size ≤ maxLen) (rd : RdB w.heap.size w (.slice pp n cl) l) (ai : AgI (gsOf l)) (ir : ∀ a ∈ l, I64 a.rows ∧ I64 a.cols) (fb : fitG l ≤ 1048576) (hN : Nm w) (hT : Tab w) :
   Calls Tryz.prog 3 #[.string a0, .slice pp n cl] w fun e w' => e = .returned (.bool true) ∧ Ext w w' := by
 have qE := eq_val
 have qG := gd_val
 have cV := fun W (e : Ext w W) => lives14_any W (hN.ext e) (hT.ext e)
 have hn := rd.len
 have hs := fitG_seen l
 have nI : (n : Int) ≤ 1500000 := by omega
 by_cases hz : n > 25
 · have hzI : (n : Int) > 25 := by omega
   clear hn hs hz
   go_enter Tryz.func3, Tryz.ntmps3
   go_wp2_with fail
   refine (cV _ (Ext.refl _)).mono ?_
   rintro e w1 ⟨rfl, E1⟩
   go_wp2_with fail
   go_ret
   exact ⟨rfl, E1⟩
 have hzI : ¬ (n : Int) > 25 := by omega
 have hF : ∀ V v, RdB V.heap.size V v l → FitB V v l := fun V v h => ⟨h, ai, by omega, by omega, ir⟩
 have cO := own14_any l pp n cl w rd ⟨by omega, fun a ha => by have := fitG_mem ha; omega⟩
 have cC := fun V p c (e : Ext w V) (h : RdB V.heap.size V (.slice p n c) l) => xcall_any a0 l p n c V ⟨hF _ _ h, hN.ext e, hT.ext e⟩
 have cR := fun V (e : Ext w V) => rcall14_any a0 l pp n cl V (hF _ _ (rd.to (Nat.le_refl _) e))
 rw [dat_eq] at cC
 generalize fnV a0.data.toList l = v at *
 clear hn hs hz hF ai ir fb
 go_enter Tryz.func3, Tryz.ntmps3
 go_wp2_with fail
 refine cO.mono ?_
 rintro e w1 ⟨p', c', rfl, R1, E1⟩
 have H1 : Hid (RdB w1.heap.size w1 (.slice p' n c') l ∧ Ext w w1) := ⟨R1, E1⟩
 clear R1 E1
 go_wp2_with fail
 refine (cC _ _ _ H1.out.2 H1.out.1).mono ?_
 rintro e w2 ⟨rfl, E2⟩
 have H2 : Hid (Ext w w2) := H1.out.2.trans E2
 clear E2
 go_wp2_with fail
 refine (cR _ H2.out).mono ?_
 rintro e w3 ⟨rfl, E3⟩
 have H3 : Hid (Ext w w3) := H2.out.trans E3
 clear E3
 go_wp2_with fail
 refine (cV _ H3.out).mono ?_
 rintro e w4 ⟨rfl, E4⟩
 have H4 : Hid (Ext w w4) := H3.out.trans E4
 clear E4
 go_wp2_with fail
 go_ret
 exact ⟨rfl, H4.out⟩

theorem laidOut : laidOutB Tryz.prog = true := by kernel_rfl
set_option maxRecDepth 100000 in
theorem contract (H : Type) (enc : TypeId × Value → H) (W : World) (base : Nat) (args : Array Value) (ds gs : List (DataW H)) (before : List MemPlace)
   (hval0 : ∀ (j : Nat) t v, Tryz.f3.params[j]? = some t → args[j]? = some v → Value.okWide Tryz.prog W .any base t v)
   (hW : DataW.Whole enc Tryz.prog Tryz.f3.params.toList Rows.funcsAnswerSpec.vars false W args.toList ds gs before) (hk0 : Rows.uptoSmall H (ds ++ gs) = true) (hL : laidMetH Tryz.prog Rows.funcsAnswerUptoRow.laid W) :
   Calls Tryz.prog 3 args W fun e W' => ∃ v, e = .returned v ∧ Rows.funcsAnswerSpec.post enc Tryz.prog Tryz.f3 false true false false W args v W' := by
 have hval := hval0
 have hW' := hW
 obtain ⟨p, q, hA0, hV, rfl, hfz, hnd⟩ := hW'
 have hA : DataW.TrodAll enc Tryz.prog W 0 (fun _ => true) true Tryz.f3.params.toList args.toList ds p := hA0
 rw [Tryz.params3] at hA hval
 obtain ⟨v0, vs0, d0, ds0, p0, q0, hargs, rfl, rfl, h0, r0⟩ := trodAll_cons hA
 obtain ⟨v1, vs1, d1, ds1, p1, q1, rfl, rfl, rfl, h1, r1⟩ := trodAll_cons r0
 obtain ⟨rfl, rfl, rfl⟩ := trodAll_nil r1
 obtain rfl : args = #[v0, v1] := by cases args; simp_all
 obtain ⟨rfl, rfl⟩ := trodVars_none hV
 obtain ⟨a0, rfl, rfl, rfl, w0⟩ := open_string Tryz.underlying9 (hval 0 9 v0 rfl rfl) h0
 have j1 := h1
 have lt1 : ∀ x ∈ p1, x.block < W.heap.size := by obtain ⟨m, hm⟩ := j1; exact DataW.trod_lt m _ _ _ hm
 obtain ⟨pp1, ln1, cl1, rfl⟩ := okWide_slice Tryz.underlying22 (hval 1 22 v1 rfl rfl)
 obtain ⟨l1, rd1, ai1, ir1, ft1⟩ : ∃ l : List Bg, RdB W.heap.size W (.slice pp1 ln1 cl1) l ∧ AgI (gsOf l) ∧ (∀ a ∈ l, I64 a.rows ∧ I64 a.cols) ∧ fitG l ≤ Rows.uptoBulk d1 := by
   obtain ⟨fuel, hf⟩ := h1
   obtain ⟨l, g1, g2, g3, g4, _⟩ := open_bargs hf
   exact ⟨l, g1, g2, g3, g4⟩
 have fb1 : fitG l1 ≤ 1048576 := by
   have hb := of_decide_eq_true hk0
   simp only [List.cons_append, List.nil_append, Rows.uptoBulkAll] at hb
   omega
 clear hA0 hval0 hk0
 refine (walk a0 l1 pp1 ln1 cl1 W w0 rd1 ai1 ir1 fb1 (nm_ofU hL) (tab_ofU hL)).mono fun e W' ⟨he, bel⟩ => ?_
 subst he
 exact ⟨_, rfl, _, _, _, [], _, [], hW, trodAll_mk1 (shut_bool Tryz.underlying4 _), (trodAll_cons_mk (shut_string Tryz.underlying9 w0) (trodAll_cons_mk (Below.trod laidOut (by kernel_rfl) (of_decide_eq_true (by kernel_rfl)) j1 bel lt1) trodAll_mk0)), rfl, Below.frame bel _, fun h => by cases h⟩

theorem laid_met (os : Os) : laidMet Tryz.prog Rows.funcsAnswerUptoRow.laid ((laidWorldU os).forCall (fun _ _ => 0) ⟨#[], #[.string ⟨#[]⟩, .slice none 0 0], []⟩).memory :=
 laidMet_of_run' 8 (by kernel_rfl) (by kernel_rfl)
theorem reads (os : Os) {H : Type} (enc : TypeId × Value → H) : ∃ places, DataW.whole enc Tryz.prog ((laidWorldU os).forCall (fun _ _ => 0) ⟨#[], #[.string ⟨#[]⟩, .slice none 0 0], []⟩).memory Tryz.f3.params.toList Rows.funcsAnswerSpec.vars false (#[.string ⟨#[]⟩, .slice none 0 0] : Array Value).toList 8 = some ([.lit (.string []), .nil], [], places) :=
 ⟨[], by kernel_rfl⟩

set_option maxRecDepth 100000 in
theorem lifted (os : Os) (started : os.Started) (H : Type) (enc : TypeId × Value → H) (F : Stop.Interp) :
   ReturnsInHanded {} Tryz.checked os 3 .any ((Rows.OpenSpec.upto Rows.funcsAnswerSpec).preRow enc Tryz.prog Tryz.f3 Rows.funcsAnswerUptoRow.domain false Rows.funcsAnswerUptoRow.laid) (((Rows.OpenSpec.upto Rows.funcsAnswerSpec).at F).post enc Tryz.prog Tryz.f3 false true false false) := by
 obtain ⟨places, hx⟩ := reads os enc
 refine returnsInHanded_of_row (C := Tryz.checked) (s := (Rows.OpenSpec.upto Rows.funcsAnswerSpec)) ownK started (by kernel_rfl) Tryz.func3
   (witness_row_at (enc := enc) (C := Tryz.checked) false (laidWorldU os) #[.string ⟨#[]⟩, .slice none 0 0] rfl (by kernel_rfl) (by kernel_rfl) (by kernel_rfl)
     (OpenSpec.preRow_of_cond 8 hx (by kernel_rfl) (fun k hk => by cases hk; kernel_rfl) (by kernel_rfl) (by
       rw [MakeChecks.laidMetH_plain _ _ _ (by kernel_rfl)]
       exact laid_met os))) ?_
 intro W base args ds gs before hval hW _ hcond _ hL _ _
 exact contract H enc W base args ds gs before hval hW (hcond _ rfl) hL

theorem said : Rows.FuncsAnswerUptoSaid :=
 OpenClaim.holds_of_cond 3 Tryz.f3 rfl rfl rfl rfl rfl rfl rfl ⟨rfl, rfl, rfl, rfl, rfl⟩ rfl rfl rfl rfl rfl (by kernel_rfl) Tryz.func3 (by kernel_rfl)
   (of_decide_eq_true (by kernel_rfl)) (by unfold Func.isWrapper; first | (rw [if_pos (by decide +kernel)]; kernel_rfl) | (rw [if_neg (by decide +kernel)]; exact ⟨rfl, rfl⟩))
   (fun os started H enc _ F => by rw [OpenClaim.pre_eq_preRow]; exact lifted os started H enc F)

theorem plain (f : FuncId) (fn : Func) (hf : Tryz.pinned.checked.prog.funcNamed Rows.funcsAnswerUptoRow.func = some f) (hfn : Tryz.pinned.checked.prog.funcs[f]? = some fn) :
   true = Tryz.pinned.checked.prog.looks [] ∧ ∀ (j : Nat) t, fn.params[j]? = some t → Tryz.pinned.checked.prog.wantsStandIn t = false := by
 obtain rfl : f = 3 := Option.some.inj ((show Tryz.prog.funcNamed Rows.funcsAnswerUptoRow.func = some 3 by kernel_rfl).symm.trans hf) |>.symm
 obtain rfl : fn = Tryz.f3 := (Option.some.inj (Tryz.func3.symm.trans hfn)).symm
 refine ⟨by kernel_rfl, fun j t ht => ?_⟩
 rw [Tryz.params3] at ht
 have hm : t ∈ [9, 22] := by simpa using Array.mem_of_getElem? ht
 have hall : ([9, 22].all fun u => !Tryz.prog.wantsStandIn u) = true := by kernel_rfl
 exact (show Tryz.prog.wantsStandIn t = false by simpa using List.all_eq_true.1 hall t hm)

theorem card : Rows.FuncsAnswerUptoCardSaid :=
 Claim7.holds_tied_plain_at .later [] _ _ _ _ said (fun _ h => by cases h) (by kernel_rfl) (fun _ h => by cases h) funcsAnswerUpto_row_tie rfl ⟨rfl, rfl⟩ (by kernel_rfl) rfl plain (by kernel_rfl)
end Go.Proofs.YtalejeknigbhjaaGreatDoor.funcsAnswer
namespace Go.Proofs.YtalejeknigbhjaaGreatDoor
theorem funcsAnswer_card : Rows.FuncsAnswerUptoCardSaid := funcsAnswer.card
end Go.Proofs.YtalejeknigbhjaaGreatDoor
