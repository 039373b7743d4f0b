/-
 RegionKinds is proved: what values are together is as the document's words have it, and a run is found. Its condition: the listed variables lie as the program's text lays them (the card ties them).
-/
import Derived.Test.YtjhmbkdkjgjoaaaDoorX6
import Derived.Test.YtjhmbkdkjgjoaaaDoorX31
import Derived.Test.YtjhmbkdkjgjoaaaDoorCards
import Derived.Test.YtjhmbkdkjgjoaaaDoorTie
import Derived.ChangeMaps5
import Derived.Lib.SmallJoins
namespace Go.Proofs.YtjhmbkdkjgjoaaaDoor.regionKinds
open Go.ChangeShapes Go.WideShapes Go.ChangeAt Go.RowKit
open Go.Joins
set_option maxHeartbeats 4000000

set_option maxRecDepth 100000 in
theorem walk (l : List Rw) (p0 : Option Addr) (n0 c0 : Nat) (w : World) (rd : RdV w.heap.size w (.slice p0 n0 c0) l) (vi : ∀ r ∈ l, I64 r.n) (hr : l.length * 40 ≤ reachBytes) (hN : Nm w) :
   Calls Tryd.prog 3 #[.slice p0 n0 c0] w fun e w' => e = .returned (.bool true) ∧ Ext w w' := by
 unfold reachBytes at hr
 have cK := fun W a (e : Ext w W) h => kind_any W a l (hN.ext e) h vi (by omega)
 have cR := fun W (e : Ext w W) => rkind_any W (.slice p0 n0 c0) l ((rd.low e).up e.size) (by omega)
 have cL := fun W => lives20_any W
 obtain ⟨kd, hkd⟩ : ∃ k, kindP l = k := ⟨_, rfl⟩
 rw [hkd] at cK cR
 have RD : Hid (RdV w.heap.size w (.slice p0 n0 c0) l) := rd
 have HNL : Hid (n0 = l.length) := rd.len
 have HR : Hid (l.length * 40 ≤ 140737488351232) := hr
 clear hkd rd hr hN vi
 go_enter Tryd.func3, Tryd.ntmps3
 go_wp2_with (at_builtin; refine own_app eltV _ w _ _ _ _ 0 l.length [] (l.flatMap cV) w.heap.size rfl rfl (by rfl) (by rfl) (own_new w w (Nat.le_refl _)) (RD.out.low ((Ext.refl _).alloc _)).row (cV_one l) (by have := HR.out; unfold maxLen; omega) (by have := HR.out; omega) ((Ext.refl _).alloc _) (Nat.le_refl _) (by simp) ?_; intro v' W' k1 k2 _; rw [Nat.zero_add, List.nil_append] at k1; obtain ⟨p2, c2, rfl, hc2⟩ := own_form k1; have K1 : Hid (RdV W'.heap.size W' (.slice p2 l.length c2) l) := own_rdV k1; have K2 : Hid (Ext w W') := k2; clear k1 k2 hc2)
 refine (cK _ _ K2.out K1.out).mono ?_
 rintro r1 w1 ⟨rfl, Y1⟩
 have X1 : Hid (Ext w w1) := K2.out.trans Y1
 clear cK Y1 K1 K2
 go_wp2_with fail
 refine (cR _ X1.out).mono ?_
 rintro r2 w2 ⟨rfl, Y2⟩
 have X2 : Hid (Ext w w2) := X1.out.trans Y2
 have he : (kd == kd) = true := by simp
 clear cR Y2
 go_wp2_with fail
 refine (cL _).mono ?_
 rintro r3 w3 ⟨rfl, Y3⟩
 have X3 : Hid (Ext w w3) := X2.out.trans Y3
 clear cL Y3
 go_wp2_with fail
 go_ret
 exact ⟨rfl, X3.out⟩
theorem laidOut : laidOutB Tryd.prog = true := by kernel_rfl
set_option maxRecDepth 100000 in
theorem contract (H : Type) (enc : TypeId × Value → H) (W : World) (base : Nat) (args : Array Value) (ds gs : List (DataW H)) (before : List MemPlace)
   (hval0 : ∀ (j : Nat) t v, Tryd.f3.params[j]? = some t → args[j]? = some v → Value.okWide Tryd.prog W .any base t v)
   (hW : DataW.Whole enc Tryd.prog Tryd.f3.params.toList Rows.regionKindsSpec.vars false W args.toList ds gs before) (hsz0 : (DataW.weightsEach Tryd.prog (Tryd.f3.params.toList ++ (OpenSpec.ofChange Rows.regionKindsSpec).bare.plain.varTypes Tryd.prog) (ds ++ gs)).all (· ≤ reachBytes) = true) (hL : laidMetH Tryd.prog Rows.regionKindsRow.laid W) :
   Calls Tryd.prog 3 args W fun e W' => ∃ v, e = .returned v ∧ Rows.regionKindsSpec.post enc Tryd.prog Tryd.f3 false true false false W args v W' := by
 have hval := hval0
 have hW' := hW
 obtain ⟨p, q, hA0, hV, rfl, hfz, hnd⟩ := hW'
 have hA : DataW.TrodAll enc Tryd.prog W 0 (fun _ => true) true Tryd.f3.params.toList args.toList ds p := hA0
 rw [Tryd.params3] at hA hval
 obtain ⟨v0, vs0, d0, ds0, p0, q0, hargs, rfl, rfl, h0, r0⟩ := trodAll_cons hA
 obtain ⟨rfl, rfl, rfl⟩ := trodAll_nil r0
 obtain rfl : args = #[v0] := by cases args; simp_all
 obtain ⟨rfl, rfl⟩ := trodVars_none hV
 have j0 := h0
 have lt0 : ∀ x ∈ p0, x.block < W.heap.size := by obtain ⟨m, hm⟩ := j0; exact DataW.trod_lt m _ _ _ hm
 obtain ⟨pp0, ln0, cl0, rfl⟩ := okWide_slice Tryd.underlying22 (hval 0 22 v0 rfl rfl)
 obtain ⟨l0, rd0, vi0, vm0⟩ : ∃ l, RdV W.heap.size W (.slice pp0 ln0 cl0) l ∧ (∀ r ∈ l, I64 r.n) ∧ l.length ≤ maxLen := by
   obtain ⟨fuel, hf⟩ := h0
   exact open_vals hf
 have hr0 : l0.length * 40 ≤ reachBytes := by
   obtain ⟨fuel, hf⟩ := j0
   exact vals_len40 hf rd0 (fun n hn => by
     have := List.all_eq_true.1 hsz0 n (DataW.weights_mem_each (j := 0) (t := 22) rfl rfl n hn)
     simpa using this)
 clear hA0 hval0 hsz0
 refine (walk l0 pp0 ln0 cl0 W rd0 vi0 hr0 (nm_ofK hL)).mono fun e W' ⟨he, bel⟩ => ?_
 subst he
 exact ⟨_, rfl, _, _, _, [], _, [], hW, trodAll_mk1 (shut_bool Tryd.underlying4 _), (trodAll_cons_mk (Below.trod laidOut (by kernel_rfl) (of_decide_eq_true (by kernel_rfl)) j0 bel lt0) trodAll_mk0), rfl, Below.frame bel _, fun h => by cases h⟩

theorem laid_met (os : Os) : laidMet Tryd.prog Rows.regionKindsRow.laid ((laidWorldK os).forCall (fun _ _ => 0) ⟨#[], #[.slice none 0 0], []⟩).memory :=
 laidMet_of_run' 8 (by kernel_rfl) (by kernel_rfl)
theorem reads (os : Os) {H : Type} (enc : TypeId × Value → H) : ∃ places, DataW.whole enc Tryd.prog ((laidWorldK os).forCall (fun _ _ => 0) ⟨#[], #[.slice none 0 0], []⟩).memory Tryd.f3.params.toList Rows.regionKindsSpec.vars false (#[.slice none 0 0] : Array Value).toList 8 = some ([.nil], [], places) :=
 ⟨[], by kernel_rfl⟩

set_option maxRecDepth 100000 in
theorem lifted (os : Os) (started : os.Started) (H : Type) (enc : TypeId × Value → H) (F : Stop.Interp) :
   ReturnsInHanded {} Tryd.checked os 3 .any ((OpenSpec.ofChange Rows.regionKindsSpec).preRow enc Tryd.prog Tryd.f3 Rows.regionKindsRow.domain false Rows.regionKindsRow.laid) (((OpenSpec.ofChange Rows.regionKindsSpec).at F).post enc Tryd.prog Tryd.f3 false true false false) := by
 obtain ⟨places, hx⟩ := reads os enc
 refine returnsInHanded_of_row (C := Tryd.checked) (s := OpenSpec.ofChange Rows.regionKindsSpec) ownK started (by kernel_rfl) Tryd.func3
   (witness_row_at (enc := enc) (C := Tryd.checked) false (laidWorldK os) #[.slice none 0 0] rfl (by kernel_rfl) (by kernel_rfl) (by kernel_rfl)
     (OpenSpec.preRow_of_cond 8 hx (by kernel_rfl) (fun k hk => by cases hk) (by kernel_rfl) (by
       rw [MakeChecks.laidMetH_plain _ _ _ (by kernel_rfl)]
       exact laid_met os))) ?_
 intro W base args ds gs before hval hW _ _ hsz hL _ _
 exact contract H enc W base args ds gs before hval hW hsz hL

theorem said : Rows.RegionKindsSaid :=
 OpenClaim.holds_of_cond 3 Tryd.f3 rfl rfl rfl rfl rfl rfl rfl ⟨rfl, rfl, rfl, rfl, rfl⟩ rfl rfl rfl rfl rfl (by kernel_rfl) Tryd.func3 (by kernel_rfl)
   (of_decide_eq_true (by kernel_rfl)) (by unfold Func.isWrapper; first | (rw [if_pos (by decide +kernel)]; kernel_rfl) | (rw [if_neg (by decide +kernel)]; exact ⟨rfl, rfl⟩))
   (fun os started H enc _ F => by rw [OpenClaim.pre_eq_preRow]; exact lifted os started H enc F)

theorem plain (f : FuncId) (fn : Func) (hf : Tryd.pinned.checked.prog.funcNamed Rows.regionKindsRow.func = some f) (hfn : Tryd.pinned.checked.prog.funcs[f]? = some fn) :
   false = Tryd.pinned.checked.prog.looks [] ∧ ∀ (j : Nat) t, fn.params[j]? = some t → Tryd.pinned.checked.prog.wantsStandIn t = false := by
 obtain rfl : f = 3 := Option.some.inj ((show Tryd.prog.funcNamed Rows.regionKindsRow.func = some 3 by kernel_rfl).symm.trans hf) |>.symm
 obtain rfl : fn = Tryd.f3 := (Option.some.inj (Tryd.func3.symm.trans hfn)).symm
 refine ⟨by kernel_rfl, fun j t ht => ?_⟩
 rw [Tryd.params3] at ht
 have hm : t ∈ [22] := by simpa using Array.mem_of_getElem? ht
 have hall : ([22].all fun u => !Tryd.prog.wantsStandIn u) = true := by kernel_rfl
 exact (show Tryd.prog.wantsStandIn t = false by simpa using List.all_eq_true.1 hall t hm)

theorem card : Rows.RegionKindsCardSaid :=
 Claim7.holds_tied_plain_at .later [] _ _ _ _ said (fun _ h => by cases h) (by kernel_rfl) (fun _ h => by cases h) regionKinds_row_tie rfl ⟨rfl, rfl⟩ (by kernel_rfl) rfl plain (by kernel_rfl)
end Go.Proofs.YtjhmbkdkjgjoaaaDoor.regionKinds
namespace Go.Proofs.YtjhmbkdkjgjoaaaDoor
theorem regionKinds_card : Rows.RegionKindsCardSaid := regionKinds.card
end Go.Proofs.YtjhmbkdkjgjoaaaDoor
