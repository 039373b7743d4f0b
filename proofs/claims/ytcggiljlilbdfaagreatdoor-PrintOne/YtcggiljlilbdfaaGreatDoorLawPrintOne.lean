/-
 PrintOne is proved: for every two texts the call returns true. Its condition: the listed tables lie as the program text lays them (the card ties them).
-/
import Derived.Test.YtcggiljlilbdfaaGreatDoorQ36
import Derived.Test.YtcggiljlilbdfaaGreatDoorQ31
import Derived.Test.YtcggiljlilbdfaaGreatDoorQ43
import Derived.Test.YtcggiljlilbdfaaGreatDoorQ34
import Derived.Test.YtcggiljlilbdfaaGreatDoorCards
import Derived.Test.YtcggiljlilbdfaaGreatDoorTie
import Derived.ChangeMaps5
import Derived.Lib.SmallJoins
namespace Go.Proofs.YtcggiljlilbdfaaGreatDoor.printOne
open Go.ChangeShapes Go.WideShapes Go.ChangeAt Go.RowKit
open Go.ChangeMaps (open_string shut_string)
open Go.Joins
set_option maxHeartbeats 6000000
set_option maxRecDepth 100000

theorem ok_gt {l : List UInt8} (h : (parR l).2.2 = 0) : Hr 401 (parR l).1 ∧ Wf (parR l).1 ∧ szT 401 (parR l).1 ≤ 100000 ∧ wellT 401 (parR l).1 = true :=
 ⟨(par_gt h).hr, (par_gt h).wf, by have := (par_gt h).sz; omega, (par_gt h).wl⟩
theorem walk (a0 a1 : ByteArray) (h0 : a0.size ≤ maxLen) (h1 : a1.size ≤ maxLen) (w : World) (hT : TabP w) :
   Calls Tryz.prog 3 #[.string a0, .string a1] w fun e w' => e = .returned (.bool true) ∧ Ext w w' := by
 have HT : Hid (TabP w) := hT
 have C1 : Hid (∀ V, TabP V → Calls Tryz.prog 4 #[.string a0] V fun e w' => e = .returned (.tuple #[.string (bs (if (parR a0.data.toList).2.2 = 0 then shT 401 (parR a0.data.toList).1 else [])), .int .i64 (parR a0.data.toList).2.1, .int .i64 (parR a0.data.toList).2.2]) ∧ Ext V w') := fun V h => ptidy_any 401 a0 _ rfl V h0 h (fun h => ok_gt h)
 have C2 : Hid (∀ V, TabP V → Calls Tryz.prog 4 #[.string a1] V fun e w' => e = .returned (.tuple #[.string (bs (if (parR a1.data.toList).2.2 = 0 then shT 401 (parR a1.data.toList).1 else [])), .int .i64 (parR a1.data.toList).2.1, .int .i64 (parR a1.data.toList).2.2]) ∧ Ext V w') := fun V h => ptidy_any 401 a1 _ rfl V h1 h (fun h => ok_gt h)
 have C3 : Hid (∀ V, Calls Tryz.prog 5 #[.string a0] V (RFormQ V a0.data.toList)) := fun V => rformula_any a0 V h0
 have C4 : Hid (∀ V, Calls Tryz.prog 5 #[.string a1] V (RFormQ V a1.data.toList)) := fun V => rformula_any a1 V h1
 have HG : Hid ((parR a0.data.toList).2.2 = 0 → (parR a1.data.toList).2.2 = 0 → ((bs (if (parR a0.data.toList).2.2 = 0 then shT 401 (parR a0.data.toList).1 else [])).toList == (bs (if (parR a1.data.toList).2.2 = 0 then shT 401 (parR a1.data.toList).1 else [])).toList) = sameT 401 (parR a0.data.toList).1 (parR a1.data.toList).1 ∧ Hr 401 (parR a0.data.toList).1) := fun q0 q1 => ⟨by
   rw [if_pos q0, if_pos q1, ByteArray.toList_eq, ByteArray.toList_eq]
   exact one_text (par_gt q0) (par_gt q1), (par_gt q0).hr⟩
 unfold RFormQ at C3 C4
 obtain ⟨s0, e1⟩ : ∃ s, bs (if (parR a0.data.toList).2.2 = 0 then shT 401 (parR a0.data.toList).1 else []) = s := ⟨_, rfl⟩
 obtain ⟨s1, e2⟩ : ∃ s, bs (if (parR a1.data.toList).2.2 = 0 then shT 401 (parR a1.data.toList).1 else []) = s := ⟨_, rfl⟩
 rw [e1] at C1 HG
 rw [e2] at C2 HG
 obtain ⟨x0, e3⟩ : ∃ x, (parR a0.data.toList).1 = x := ⟨_, rfl⟩
 obtain ⟨x1, e4⟩ : ∃ x, (parR a1.data.toList).1 = x := ⟨_, rfl⟩
 obtain ⟨r0, e5⟩ : ∃ x, (parR a0.data.toList).2.1 = x := ⟨_, rfl⟩
 obtain ⟨r1, e6⟩ : ∃ x, (parR a1.data.toList).2.1 = x := ⟨_, rfl⟩
 obtain ⟨f0, e7⟩ : ∃ x, (parR a0.data.toList).2.2 = x := ⟨_, rfl⟩
 obtain ⟨f1, e8⟩ : ∃ x, (parR a1.data.toList).2.2 = x := ⟨_, rfl⟩
 rw [e5, e7] at C1
 rw [e6, e8] at C2
 rw [e3, e7] at C3
 rw [e4, e8] at C4
 rw [e3, e4, e7, e8] at HG
 clear e1 e2 e3 e4 e5 e6 e7 e8 hT h0 h1
 go_enter Tryz.func3, Tryz.ntmps3
 go_wp2_with fail
 refine (C1.out _ HT.out).mono ?_
 rintro e w1 ⟨rfl, E1⟩
 have HE1 : Hid (Ext w w1) := E1
 clear E1
 go_wp2_with fail
 refine (C2.out _ (HT.out.ext HE1.out)).mono ?_
 rintro e w2 ⟨rfl, E2⟩
 have HE2 : Hid (Ext w w2) := HE1.out.trans E2
 clear E2
 go_wp2_with fail
 refine (C3.out _).mono ?_
 rintro e w3 ⟨x, lv, pa, pe, rfl, L3, E3, q3⟩
 obtain ⟨pp, cl, hlv, hcl⟩ := L3.form
 obtain ⟨ln, hln⟩ : ∃ ln, x.l.length = ln := ⟨_, rfl⟩
 rw [hln] at hlv
 subst hlv
 have HQ3 : Hid (if f0 = 0 then x = x0 ∧ pa = 0 ∧ pe = 0 else x = tz ∧ pe ≠ 0) := q3
 have HL3 : Hid (IsL w3 (fun _ => True) (.slice pp ln cl) x.l ∧ Ext w w3) := ⟨L3.mono (fun _ _ _ => trivial), HE2.out.trans E3⟩
 clear L3 E3 q3 hcl hln
 unfold aggX
 go_wp2_with fail
 have HL3 : Hid (IsL (w3.alloc (.cells #[.int .i64 x.k, .int .i64 x.n, .string (bs x.s), .int .i64 x.e, .int .i64 x.r.1, .int .i64 x.r.2.1, .bool x.r.2.2.1, .bool x.r.2.2.2, .int .i64 x.q.1, .int .i64 x.q.2.1, .bool x.q.2.2.1, .bool x.q.2.2.2, .slice pp ln cl] 29)) (fun _ => True) (.slice pp ln cl) x.l ∧ Ext w (w3.alloc (.cells #[.int .i64 x.k, .int .i64 x.n, .string (bs x.s), .int .i64 x.e, .int .i64 x.r.1, .int .i64 x.r.2.1, .bool x.r.2.2.1, .bool x.r.2.2.2, .int .i64 x.q.1, .int .i64 x.q.2.1, .bool x.q.2.2.1, .bool x.q.2.2.2, .slice pp ln cl] 29)) ∧ BlkX (w3.alloc (.cells #[.int .i64 x.k, .int .i64 x.n, .string (bs x.s), .int .i64 x.e, .int .i64 x.r.1, .int .i64 x.r.2.1, .bool x.r.2.2.1, .bool x.r.2.2.2, .int .i64 x.q.1, .int .i64 x.q.2.1, .bool x.q.2.2.1, .bool x.q.2.2.2, .slice pp ln cl] 29)) w3.heap.size x (.slice pp ln cl)) := ⟨HL3.out.1.ext ((Ext.refl _).alloc _), HL3.out.2.alloc _, blk13_top rfl (Ext.refl _)⟩
 refine (C4.out _).mono ?_
 rintro e w4 ⟨y, lv, pb, pf, rfl, L4, E4, q4⟩
 obtain ⟨qq, cm, hlv, hcl⟩ := L4.form
 obtain ⟨lm, hlm⟩ : ∃ lm, y.l.length = lm := ⟨_, rfl⟩
 rw [hlm] at hlv
 subst hlv
 have HQ4 : Hid (if f1 = 0 then y = x1 ∧ pb = 0 ∧ pf = 0 else y = tz ∧ pf ≠ 0) := q4
 have HL4 : Hid (IsL w4 (fun _ => True) (.slice pp ln cl) x.l ∧ Ext w w4 ∧ BlkX w4 w3.heap.size x (.slice pp ln cl) ∧ IsL w4 (fun _ => True) (.slice qq lm cm) y.l) := ⟨HL3.out.1.ext E4, HL3.out.2.1.trans E4, HL3.out.2.2.ext E4, L4.mono (fun _ _ _ => trivial)⟩
 clear L4 E4 q4 hcl hlm
 unfold aggX
 by_cases z0 : f0 = 0
 · have b0 : (f0 != 0) = false := by rw [z0]; rfl
   by_cases z1 : f1 = 0
   · have b1 : (f1 != 0) = false := by rw [z1]; rfl
     have q3 := HQ3.out
     have q4 := HQ4.out
     rw [if_pos z0] at q3
     rw [if_pos z1] at q4
     obtain ⟨rfl, rfl, rfl⟩ := q3
     obtain ⟨rfl, rfl, rfl⟩ := q4
     obtain ⟨hs, hr⟩ := HG.out z0 z1
     have HR : Hid (Hr 401 x) := hr
     obtain ⟨b, hb⟩ : ∃ b, sameT 401 x y = b := ⟨_, rfl⟩
     have HBB : Hid (sameT 401 x y = b) := hb
     rw [hb] at hs
     have hbb : (b == b) = true := by simp
     clear z0 z1 hr hb HQ3 HQ4 HG C1 C2 C3 C4
     go_upto_region 7 with fail
     have HL5 : Hid (IsL (w4.alloc (.cells #[.int .i64 y.k, .int .i64 y.n, .string (bs y.s), .int .i64 y.e, .int .i64 y.r.1, .int .i64 y.r.2.1, .bool y.r.2.2.1, .bool y.r.2.2.2, .int .i64 y.q.1, .int .i64 y.q.2.1, .bool y.q.2.2.1, .bool y.q.2.2.2, .slice qq lm cm] 29)) (fun _ => True) (.slice pp ln cl) x.l ∧ Ext w (w4.alloc (.cells #[.int .i64 y.k, .int .i64 y.n, .string (bs y.s), .int .i64 y.e, .int .i64 y.r.1, .int .i64 y.r.2.1, .bool y.r.2.2.1, .bool y.r.2.2.2, .int .i64 y.q.1, .int .i64 y.q.2.1, .bool y.q.2.2.1, .bool y.q.2.2.2, .slice qq lm cm] 29)) ∧ BlkX (w4.alloc (.cells #[.int .i64 y.k, .int .i64 y.n, .string (bs y.s), .int .i64 y.e, .int .i64 y.r.1, .int .i64 y.r.2.1, .bool y.r.2.2.1, .bool y.r.2.2.2, .int .i64 y.q.1, .int .i64 y.q.2.1, .bool y.q.2.2.1, .bool y.q.2.2.2, .slice qq lm cm] 29)) w3.heap.size x (.slice pp ln cl) ∧ IsL (w4.alloc (.cells #[.int .i64 y.k, .int .i64 y.n, .string (bs y.s), .int .i64 y.e, .int .i64 y.r.1, .int .i64 y.r.2.1, .bool y.r.2.2.1, .bool y.r.2.2.2, .int .i64 y.q.1, .int .i64 y.q.2.1, .bool y.q.2.2.1, .bool y.q.2.2.2, .slice qq lm cm] 29)) (fun _ => True) (.slice qq lm cm) y.l ∧ BlkX (w4.alloc (.cells #[.int .i64 y.k, .int .i64 y.n, .string (bs y.s), .int .i64 y.e, .int .i64 y.r.1, .int .i64 y.r.2.1, .bool y.r.2.2.1, .bool y.r.2.2.2, .int .i64 y.q.1, .int .i64 y.q.2.1, .bool y.q.2.2.1, .bool y.q.2.2.2, .slice qq lm cm] 29)) w4.heap.size y (.slice qq lm cm)) := ⟨HL4.out.1.ext ((Ext.refl _).alloc _), HL4.out.2.1.alloc _, HL4.out.2.2.1.ext ((Ext.refl _).alloc _), HL4.out.2.2.2.ext ((Ext.refl _).alloc _), blk13_top rfl (Ext.refl _)⟩
     generalize w4.heap.size = gb at *
     generalize w4.alloc (.cells #[.int .i64 y.k, .int .i64 y.n, .string (bs y.s), .int .i64 y.e, .int .i64 y.r.1, .int .i64 y.r.2.1, .bool y.r.2.2.1, .bool y.r.2.2.2, .int .i64 y.q.1, .int .i64 y.q.2.1, .bool y.q.2.2.1, .bool y.q.2.2.2, .slice qq lm cm] 29) = w5 at *
     have CS := rsame_any (fun _ => True) 401 x HR.out y w5 pp qq ln cl lm cm HL5.out.1 HL5.out.2.2.2.1
     rw [HBB.out] at CS
     obtain ⟨qz, ⟨k0, k1, k2, k3, k4, k5, k6, k7, k8, k9, k10, k11, k12⟩, gz⟩ := HL5.out.2.2.1
     obtain ⟨qy, ⟨m0, m1, m2, m3, m4, m5, m6, m7, m8, m9, m10, m11, m12⟩, gy⟩ := HL5.out.2.2.2.2
     clear gz gy
     go_wp2_with fail
     refine CS.mono ?_
     rintro e w6 ⟨rfl, E6⟩
     have HE6 : Hid (Ext w w6) := HL5.out.2.1.trans E6
     clear E6 CS k0 k1 k2 k3 k4 k5 k6 k7 k8 k9 k10 k11 k12 m0 m1 m2 m3 m4 m5 m6 m7 m8 m9 m10 m11 m12
     go_wp2_with fail
     refine (lives9_any _ (HT.out.ext HE6.out)).mono ?_
     rintro e w9 ⟨rfl, E9⟩
     have HE9 : Hid (Ext w w9) := Ext.trans HE6.out E9
     clear E9
     go_wp2_with fail
     go_ret
     exact ⟨rfl, HE9.out⟩
   · have b1 : (f1 != 0) = true := by simpa using z1
     clear z0 z1 HQ3 HQ4 HG C1 C2 C3 C4
     go_wp2_with fail
     refine (lives9_any _ (HT.out.ext (HL4.out.2.1.alloc _))).mono ?_
     rintro e w9 ⟨rfl, E9⟩
     have HE9 : Hid (Ext w w9) := Ext.trans (HL4.out.2.1.alloc _) E9
     clear E9
     go_wp2_with fail
     go_ret
     exact ⟨rfl, HE9.out⟩
 · have b0 : (f0 != 0) = true := by simpa using z0
   clear z0 HQ3 HQ4 HG C1 C2 C3 C4
   go_wp2_with fail
   refine (lives9_any _ (HT.out.ext (HL4.out.2.1.alloc _))).mono ?_
   rintro e w9 ⟨rfl, E9⟩
   have HE9 : Hid (Ext w w9) := Ext.trans (HL4.out.2.1.alloc _) E9
   clear E9
   go_wp2_with fail
   go_ret
   exact ⟨rfl, HE9.out⟩

set_option maxRecDepth 100000 in
theorem contract (H : Type) (enc : TypeId × Value → H) (W : World) (base : Nat) (args : Array Value) (ds gs : List (DataW H)) (before : List MemPlace)
   (hval0 : ∀ (j : Nat) t v, Tryz.f3.params[j]? = some t → args[j]? = some v → Value.okWide Tryz.prog W .any base t v)
   (hW : DataW.Whole enc Tryz.prog Tryz.f3.params.toList Rows.printOneSpec.vars false W args.toList ds gs before) (hL : laidMetH Tryz.prog Rows.printOneRow.laid W) (hSh : W.ShapedOpen Tryz.prog) :
   Calls Tryz.prog 3 args W fun e W' => ∃ v, e = .returned v ∧ Rows.printOneSpec.post enc Tryz.prog Tryz.f3 false true false false W args v W' := by
 have hval := hval0
 have hW' := hW
 obtain ⟨p, q, hA0, hV, rfl, hfz, hnd⟩ := hW
 have hA : DataW.TrodAll enc Tryz.prog W 0 (fun _ => true) true Tryz.f3.params.toList args.toList ds p := hA0
 rw [Tryz.params3] at hA hval
 obtain ⟨v0, vs0, d0, ds0, p0, q0, hargs, rfl, rfl, h0, r0⟩ := trodAll_cons hA
 obtain ⟨v1, vs1, d1, ds1, p1, q1, rfl, rfl, rfl, h1, r1⟩ := trodAll_cons r0
 obtain ⟨rfl, rfl, rfl⟩ := trodAll_nil r1
 obtain rfl : args = #[v0, v1] := by cases args; simp_all
 obtain ⟨rfl, rfl⟩ := trodVars_none hV
 obtain ⟨a0, rfl, rfl, rfl, w0⟩ := open_string Tryz.underlying9 (hval 0 9 v0 rfl rfl) h0
 obtain ⟨a1, rfl, rfl, rfl, w1⟩ := open_string Tryz.underlying9 (hval 1 9 v1 rfl rfl) h1
 clear hA0 hval0
 simp only [List.append_nil] at hW'
 refine (walk a0 a1 w0 w1 W (tabP_of hL hSh)).mono fun e W' ⟨he, bel⟩ => ?_
 subst he
 exact ⟨_, rfl, _, _, _, [], [], [], hW', trodAll_mk1 (shut_bool Tryz.underlying4 _), (trodAll_cons_mk (shut_string Tryz.underlying9 w0) (trodAll_cons_mk (shut_string Tryz.underlying9 w1) trodAll_mk0)), rfl, Below.frame bel _, fun h => by cases h⟩

theorem laid_met (os : Os) : laidMet Tryz.prog Rows.printOneRow.laid ((laidWorld os).forCall (fun _ _ => 0) ⟨#[], #[.string ⟨#[]⟩, .string ⟨#[]⟩], []⟩).memory :=
 laidMet_of_run' 8 (by kernel_rfl) (by kernel_rfl)
theorem reads (os : Os) {H : Type} (enc : TypeId × Value → H) : ∃ places, DataW.whole enc Tryz.prog ((laidWorld os).forCall (fun _ _ => 0) ⟨#[], #[.string ⟨#[]⟩, .string ⟨#[]⟩], []⟩).memory Tryz.f3.params.toList Rows.printOneSpec.vars false (#[.string ⟨#[]⟩, .string ⟨#[]⟩] : Array Value).toList 8 = some ([.lit (.string []), .lit (.string [])], [], places) :=
 ⟨[], by kernel_rfl⟩

set_option maxRecDepth 100000 in
theorem lifted (os : Os) (started : os.Started) (H : Type) (enc : TypeId × Value → H) (F : Stop.Interp) :
   ReturnsInHanded {} Tryz.checked os 3 .any ((OpenSpec.ofChange Rows.printOneSpec).preRow enc Tryz.prog Tryz.f3 Rows.printOneRow.domain false Rows.printOneRow.laid) (((OpenSpec.ofChange Rows.printOneSpec).at F).post enc Tryz.prog Tryz.f3 false true false false) := by
 obtain ⟨places, hx⟩ := reads os enc
 refine returnsInHanded_of_row (C := Tryz.checked) (s := OpenSpec.ofChange Rows.printOneSpec) ownK started (by kernel_rfl) Tryz.func3
   (witness_row_at (enc := enc) (C := Tryz.checked) false (laidWorld os) #[.string ⟨#[]⟩, .string ⟨#[]⟩] rfl (by kernel_rfl) (by kernel_rfl) (by kernel_rfl)
     (OpenSpec.preRow_of_cond 8 hx (by kernel_rfl) (fun k hk => by cases hk) (by kernel_rfl) (by
       rw [MakeChecks.laidMetH_plain _ _ _ (by kernel_rfl)]
       exact laid_met os))) ?_
 intro W base args ds gs before hval hW _ _ _ hL hSh _
 exact contract H enc W base args ds gs before hval hW hL hSh

theorem said : Rows.PrintOneSaid :=
 OpenClaim.holds_of_cond 3 Tryz.f3 rfl rfl rfl rfl rfl rfl rfl ⟨rfl, rfl, rfl, rfl, rfl⟩ rfl rfl rfl rfl rfl (by kernel_rfl) Tryz.func3 (by kernel_rfl)
   (of_decide_eq_true (by kernel_rfl)) (by unfold Func.isWrapper; first | (rw [if_pos (by decide +kernel)]; kernel_rfl) | (rw [if_neg (by decide +kernel)]; exact ⟨rfl, rfl⟩))
   (fun os started H enc _ F => by rw [OpenClaim.pre_eq_preRow]; exact lifted os started H enc F)

theorem plain (f : FuncId) (fn : Func) (hf : Tryz.pinned.checked.prog.funcNamed Rows.printOneRow.func = some f) (hfn : Tryz.pinned.checked.prog.funcs[f]? = some fn) :
   true = Tryz.pinned.checked.prog.looks [] ∧ ∀ (j : Nat) t, fn.params[j]? = some t → Tryz.pinned.checked.prog.wantsStandIn t = false := by
 obtain rfl : f = 3 := Option.some.inj ((show Tryz.prog.funcNamed Rows.printOneRow.func = some 3 by kernel_rfl).symm.trans hf) |>.symm
 obtain rfl : fn = Tryz.f3 := (Option.some.inj (Tryz.func3.symm.trans hfn)).symm
 refine ⟨by kernel_rfl, fun j t ht => ?_⟩
 rw [Tryz.params3] at ht
 have hm : t ∈ [9, 9] := by simpa using Array.mem_of_getElem? ht
 have hall : ([9, 9].all fun u => !Tryz.prog.wantsStandIn u) = true := by kernel_rfl
 exact (show Tryz.prog.wantsStandIn t = false by simpa using List.all_eq_true.1 hall t hm)

theorem card : Rows.PrintOneCardSaid :=
 Claim7.holds_tied_plain_at .later [] _ _ _ _ said (fun _ h => by cases h) (by kernel_rfl) (fun _ h => by cases h) printOne_row_tie rfl ⟨rfl, rfl⟩ (by kernel_rfl) rfl plain (by kernel_rfl)
end Go.Proofs.YtcggiljlilbdfaaGreatDoor.printOne
namespace Go.Proofs.YtcggiljlilbdfaaGreatDoor
theorem printOne_card : Rows.PrintOneCardSaid := printOne.card
end Go.Proofs.YtcggiljlilbdfaaGreatDoor
