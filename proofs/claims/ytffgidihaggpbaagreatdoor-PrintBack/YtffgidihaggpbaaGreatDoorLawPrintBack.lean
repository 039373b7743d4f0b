/-
 PrintBack is proved: for every tree (without a ring) the call returns true and the argument reads as it did. Its condition: the listed tables lie as the program text lays them (the card ties them).
-/
import Derived.Test.YtffgidihaggpbaaGreatDoorQ30
import Derived.Test.YtffgidihaggpbaaGreatDoorQ31
import Derived.Test.YtffgidihaggpbaaGreatDoorQ33
import Derived.Test.YtffgidihaggpbaaGreatDoorQ35
import Derived.Test.YtffgidihaggpbaaGreatDoorQ43
import Derived.Test.YtffgidihaggpbaaGreatDoorCards
import Derived.Test.YtffgidihaggpbaaGreatDoorTie
import Derived.ChangeMaps5
import Derived.Lib.SmallJoins
namespace Go.Proofs.YtffgidihaggpbaaGreatDoor.printBack
open Go.ChangeShapes Go.WideShapes Go.ChangeAt Go.RowKit
open Go.ChangeMaps (open_string shut_string)
open Go.Joins
set_option maxHeartbeats 6000000
set_option maxRecDepth 100000

theorem small_law (t : T) (pp : Option Addr) (ln cl : Nat) (w : World) (hL : IsL w (fun _ => True) (.slice pp ln cl) t.l) :
   Calls Tryz.prog 5 #[.agg #[.int .i64 t.k, .int .i64 t.n, .string (bs t.s), .int .i64 t.e, .int .i64 t.r.1, .int .i64 t.r.2.1, .bool t.r.2.2.1, .bool t.r.2.2.2, .int .i64 t.q.1, .int .i64 t.q.2.1, .bool t.q.2.2.1, .bool t.q.2.2.2, .slice pp ln cl]] w fun e w' => ∃ ok, e = .returned (.bool ok) ∧ Ext w w' ∧ (ok = true → Hr 401 t ∧ szT 401 t ≤ 1000) := by
 have c1 := fun W h => small_any 401 (Nat.le_refl _) t W (fun _ => True) pp ln cl 1000 (by decide) (by decide) h
 rw [show (401 : Int) - ((401 : Nat) : Int) = 0 from rfl] at c1
 have HI : Hid (IsL w (fun _ => True) (.slice pp ln cl) t.l) := hL
 clear hL
 go_enter Tryz.func5, Tryz.ntmps5
 go_wp2_with fail
 refine (c1 _ (HI.out.ext ((Ext.refl _).alloc _))).mono ?_
 rintro e w1 ⟨m, ok, rfl, E1, h1, h2, h3, hok⟩
 have HR : Hid (Ext w w1 ∧ (ok = true → m = szT 401 t ∧ Hr 401 t ∧ m ≤ max 1000 1)) := ⟨((Ext.refl _).alloc _).trans E1, hok⟩
 clear hok E1 h3
 go_wp2_with fail
 go_ret
 refine ⟨ok, rfl, HR.out.1, fun h => ?_⟩
 obtain ⟨q1, q2, q3⟩ := HR.out.2 h
 exact ⟨q2, by omega⟩
theorem walk (t : T) (pp : Option Addr) (ln cl : Nat) (hW : Wf t) {w : World} (hL : IsL w (fun _ => True) (.slice pp ln cl) t.l) (hT : TabP w) :
   Calls Tryz.prog 3 #[.agg #[.int .i64 t.k, .int .i64 t.n, .string (bs t.s), .int .i64 t.e, .int .i64 t.r.1, .int .i64 t.r.2.1, .bool t.r.2.2.1, .bool t.r.2.2.2, .int .i64 t.q.1, .int .i64 t.q.2.1, .bool t.q.2.2.1, .bool t.q.2.2.2, .slice pp ln cl]] w fun e w' => e = .returned (.bool true) ∧ Ext w w' := by
 have HT : Hid (TabP w) := hT
 have HI : Hid (IsL w (fun _ => True) (.slice pp ln cl) t.l) := hL
 have HW : Hid (Wf t) := hW
 clear hW hL hT
 go_enter Tryz.func3, Tryz.ntmps3
 go_wp2_with fail
 refine (small_law t pp ln cl _ (HI.out.ext ((Ext.refl _).alloc _))).mono ?_
 rintro e w1 ⟨ok, rfl, E1, hok⟩
 have HE1 : Hid (Ext w w1) := ((Ext.refl _).alloc _).trans E1
 have HB1 : Hid (BlkX w1 w.heap.size t (.slice pp ln cl)) := blk13_top rfl E1
 cases ok
 · clear hok E1
   go_wp2_with fail
   refine (lives9_any _ (HT.out.ext HE1.out)).mono ?_
   rintro e w9 ⟨rfl, E9⟩
   have HE9 : Hid (Ext w w9) := Ext.trans HE1.out E9
   clear E9
   go_wp2_with fail
   go_ret
   exact ⟨rfl, HE9.out⟩
 · have HH : Hid (Hr 401 t ∧ szT 401 t ≤ 1000) := hok rfl
   have hz1 : w.heap.size < w1.heap.size := HB1.out.1
   obtain ⟨qz, ⟨k0, k1, k2, k3, k4, k5, k6, k7, k8, k9, k10, k11, k12⟩, gz⟩ := HB1.out
   have HWL := rwell_any (fun _ => True) 401 t HH.out.1 w1 pp ln cl (HI.out.ext HE1.out)
   clear hok E1 gz
   go_wp2_with fail
   refine HWL.mono ?_
   rintro e w2 ⟨rfl, E2⟩
   have HE2 : Hid (Ext w w2) := HE1.out.trans E2
   have HB2 : Hid (BlkX w2 w.heap.size t (.slice pp ln cl)) := HB1.out.ext E2
   clear E2 HWL k0 k1 k2 k3 k4 k5 k6 k7 k8 k9 k10 k11 k12
   cases hwl : wellT 401 t
   · clear hwl
     go_wp2_with fail
     refine (lives9_any _ (HT.out.ext HE2.out)).mono ?_
     rintro e w9 ⟨rfl, E9⟩
     have HE9 : Hid (Ext w w9) := Ext.trans HE2.out E9
     clear E9
     go_wp2_with fail
     go_ret
     exact ⟨rfl, HE9.out⟩
   · have HWT : Hid (wellT 401 t = true) := hwl
     obtain ⟨qz, ⟨k0, k1, k2, k3, k4, k5, k6, k7, k8, k9, k10, k11, k12⟩, gz⟩ := HB2.out
     have HD := rdeep_any 401 (by decide) t HH.out.1 w2 (fun _ => True) pp ln cl (HI.out.ext HE2.out)
     obtain ⟨dp, hdp⟩ : ∃ dp, depT 401 t = dp := ⟨_, rfl⟩
     rw [hdp] at HD
     have HDP : Hid (depT 401 t = dp) := hdp
     have hdp4 : dp ≤ 401 := by rw [← hdp]; exact dep_le 401 t
     clear hwl gz hdp
     go_wp2_with fail
     refine HD.mono ?_
     rintro e w3 ⟨rfl, E3⟩
     have HE3 : Hid (Ext w w3) := HE2.out.trans E3
     have HB3 : Hid (BlkX w3 w.heap.size t (.slice pp ln cl)) := HB2.out.ext E3
     clear E3 HD k0 k1 k2 k3 k4 k5 k6 k7 k8 k9 k10 k11 k12
     by_cases hd40 : 40 < dp
     · have hdI : (40 : Int) < (dp : Int) := by omega
       clear hd40
       go_wp2_with fail
       refine (lives9_any _ (HT.out.ext HE3.out)).mono ?_
       rintro e w9 ⟨rfl, E9⟩
       have HE9 : Hid (Ext w w9) := Ext.trans HE3.out E9
       clear E9
       go_wp2_with fail
       go_ret
       exact ⟨rfl, HE9.out⟩
     · have hdI : ¬ (40 : Int) < (dp : Int) := by omega
       have HD40 : Hid (¬ 40 < dp) := hd40
       obtain ⟨qz, ⟨k0, k1, k2, k3, k4, k5, k6, k7, k8, k9, k10, k11, k12⟩, gz⟩ := HB3.out
       clear hd40 gz
       go_wp2_with fail
       refine (own_any 401 t HH.out.1 _ (fun _ => True) pp ln cl (HI.out.ext HE3.out)).mono ?_
       rintro e w4 ⟨lv, rfl, hL4, E4⟩
       obtain ⟨qq, cm, hlv, hcl⟩ := hL4.form
       obtain ⟨lm, hlm⟩ : ∃ lm, t.l.length = lm := ⟨_, rfl⟩
       rw [hlm] at hlv
       subst hlv
       have HE4 : Hid (Ext w w4 ∧ IsL w4 (w3.heap.size ≤ ·) (.slice qq lm cm) t.l) := ⟨HE3.out.trans E4, hL4⟩
       have HB4 : Hid (BlkX w4 w.heap.size t (.slice pp ln cl)) := HB3.out.ext E4
       clear hL4 hcl hlm E4 k0 k1 k2 k3 k4 k5 k6 k7 k8 k9 k10 k11 k12
       unfold aggX
       go_wp2_with fail
       refine (pform_any 401 t HH.out.1 HW.out (by have := HH.out.2; omega) _ qq lm cm _ (HT.out.ext HE4.out.1).to9 HE4.out.2).mono ?_
       rintro e w5 ⟨rfl, E5⟩
       have HE5 : Hid (Ext w w5) := HE4.out.1.trans E5
       have HB5 : Hid (BlkX w5 w.heap.size t (.slice pp ln cl)) := HB4.out.ext E5
       clear E5
       rw [HWT.out]
       simp only [if_true]
       have HSZ : Hid ((shT 401 t).length = (bs (shT 401 t)).size) := (bs_size _).symm
       have hszm : (bs (shT 401 t)).size ≤ 701000 := by
         have h1 := sh_len 401 t HW.out (.inl HWT.out)
         have h2 := HH.out.2
         rw [bs_size]
         have : 701 * szT 401 t ≤ 701 * 1000 := Nat.mul_le_mul_left _ h2
         omega
       have HQD : Hid ((bs (shT 401 t)).data.toList = shT 401 t) := rfl
       generalize bs (shT 401 t) = q at *
       by_cases h300 : 300 < q.size
       · have h300I : (300 : Int) < (q.size : Int) := by omega
         clear h300
         go_wp2_with fail
         refine (lives9_any _ (HT.out.ext HE5.out)).mono ?_
         rintro e w9 ⟨rfl, E9⟩
         have HE9 : Hid (Ext w w9) := Ext.trans HE5.out E9
         clear E9
         go_wp2_with fail
         go_ret
         exact ⟨rfl, HE9.out⟩
       · have h300I : ¬ (300 : Int) < (q.size : Int) := by omega
         have HPB : Hid (parR q.data.toList = (nf 401 t, 0, 0)) := by
           show _ = _
           rw [HQD.out]
           refine par_back HW.out HH.out.1 HWT.out (by rw [HSZ.out]; omega) ?_
           have h1 := (dp_dep 401 t HH.out.1 HWT.out).1
           rw [HDP.out] at h1
           have := HD40.out
           omega
         clear h300
         go_wp2_with fail
         refine (rformula_any q _ (by unfold maxLen; omega)).mono ?_
         rintro e w6 ⟨x, lv, pa, pe, rfl, hLx, E6, hx⟩
         rw [HPB.out] at hx
         simp only [if_true] at hx
         obtain ⟨rfl, rfl, rfl⟩ := hx
         obtain ⟨px, cx, hlv, hcx⟩ := hLx.form
         obtain ⟨lx, hlx⟩ : ∃ lx, (nf 401 t).l.length = lx := ⟨_, rfl⟩
         rw [hlx] at hlv
         subst hlv
         have HE6 : Hid (Ext w w6 ∧ IsL w6 (fun _ => True) (.slice px lx cx) (nf 401 t).l) := ⟨HE5.out.trans E6, hLx.mono (fun _ _ _ => trivial)⟩
         have HB6 : Hid (BlkX w6 w.heap.size t (.slice pp ln cl)) := HB5.out.ext E6
         have HSM : Hid (∀ V, Ext w6 V → Calls Tryz.prog 12 #[.agg #[.int .i64 (nf 401 t).k, .int .i64 (nf 401 t).n, .string (bs (nf 401 t).s), .int .i64 (nf 401 t).e, .int .i64 (nf 401 t).r.1, .int .i64 (nf 401 t).r.2.1, .bool (nf 401 t).r.2.2.1, .bool (nf 401 t).r.2.2.2, .int .i64 (nf 401 t).q.1, .int .i64 (nf 401 t).q.2.1, .bool (nf 401 t).q.2.2.1, .bool (nf 401 t).q.2.2.2, .slice px lx cx], .agg #[.int .i64 t.k, .int .i64 t.n, .string (bs t.s), .int .i64 t.e, .int .i64 t.r.1, .int .i64 t.r.2.1, .bool t.r.2.2.1, .bool t.r.2.2.2, .int .i64 t.q.1, .int .i64 t.q.2.1, .bool t.q.2.2.1, .bool t.q.2.2.2, .slice pp ln cl]] V fun e w' => e = .returned (.bool true) ∧ Ext V w') := by
           intro V e
           have h1 := nf_same 401 t HH.out.1 (well_arg HWT.out)
           have h2 := rsame_any (fun _ => True) 401 (nf 401 t) h1.1 t V px pp lx cx ln cl (HE6.out.2.ext e) (HI.out.ext (HE6.out.1.trans e))
           rw [h1.2] at h2
           exact h2
         clear hLx E6 hcx hlx
         generalize nf 401 t = y at *
         have E7 : Ext w6 (w6.alloc (.cells #[.int .i64 y.k, .int .i64 y.n, .string (bs y.s), .int .i64 y.e, .int .i64 y.r.1, .int .i64 y.r.2.1, .bool y.r.2.2.1, .bool y.r.2.2.2, .int .i64 y.q.1, .int .i64 y.q.2.1, .bool y.q.2.2.1, .bool y.q.2.2.2, .slice px lx cx] 26)) := (Ext.refl _).alloc _
         have B7 : BlkX (w6.alloc (.cells #[.int .i64 y.k, .int .i64 y.n, .string (bs y.s), .int .i64 y.e, .int .i64 y.r.1, .int .i64 y.r.2.1, .bool y.r.2.2.1, .bool y.r.2.2.2, .int .i64 y.q.1, .int .i64 y.q.2.1, .bool y.q.2.2.1, .bool y.q.2.2.2, .slice px lx cx] 26)) w6.heap.size y (.slice px lx cx) := blk13_top rfl (Ext.refl _)
         have B8 := HB6.out.ext E7
         obtain ⟨qz, ⟨k0, k1, k2, k3, k4, k5, k6, k7, k8, k9, k10, k11, k12⟩, gz⟩ := B8
         obtain ⟨qy, ⟨m0, m1, m2, m3, m4, m5, m6, m7, m8, m9, m10, m11, m12⟩, gy⟩ := B7
         have HE7 : Hid (Ext w6 (w6.alloc (.cells #[.int .i64 y.k, .int .i64 y.n, .string (bs y.s), .int .i64 y.e, .int .i64 y.r.1, .int .i64 y.r.2.1, .bool y.r.2.2.1, .bool y.r.2.2.2, .int .i64 y.q.1, .int .i64 y.q.2.1, .bool y.q.2.2.1, .bool y.q.2.2.2, .slice px lx cx] 26))) := E7
         clear gz gy E7
         unfold aggX
         go_wp2_with fail
         refine (HSM.out _ HE7.out).mono ?_
         rintro e w8 ⟨rfl, E8⟩
         have HE8 : Hid (Ext w w8) := HE6.out.1.trans (HE7.out.trans E8)
         clear E8 k0 k1 k2 k3 k4 k5 k6 k7 k8 k9 k10 k11 k12 m0 m1 m2 m3 m4 m5 m6 m7 m8 m9 m10 m11 m12
         go_wp2_with fail
         refine (lives9_any _ (HT.out.ext HE8.out)).mono ?_
         rintro e w9 ⟨rfl, E9⟩
         have HE9 : Hid (Ext w w9) := Ext.trans HE8.out E9
         clear E9
         go_wp2_with fail
         go_ret
         exact ⟨rfl, HE9.out⟩

theorem laidOut : laidOutB Tryz.prog = true := by kernel_rfl
set_option maxRecDepth 100000 in
theorem contract (H : Type) (enc : TypeId × Value → H) (W : World) (base : Nat) (args : Array Value) (ds gs : List (DataW H)) (before : List MemPlace)
   (hval0 : ∀ (j : Nat) t v, Tryz.f3.params[j]? = some t → args[j]? = some v → Value.okWide Tryz.prog W .any base t v)
   (hW : DataW.Whole enc Tryz.prog Tryz.f3.params.toList Rows.printBackSpec.vars false W args.toList ds gs before) (hL : laidMetH Tryz.prog Rows.printBackRow.laid W) (hSh : W.ShapedOpen Tryz.prog) :
   Calls Tryz.prog 3 args W fun e W' => ∃ v, e = .returned v ∧ Rows.printBackSpec.post enc Tryz.prog Tryz.f3 false true false false W args v W' := by
 have hval := hval0
 have hW' := hW
 obtain ⟨p, q, hA0, hV, rfl, hfz, hnd⟩ := hW
 have hA : DataW.TrodAll enc Tryz.prog W 0 (fun _ => true) true Tryz.f3.params.toList args.toList ds p := hA0
 rw [Tryz.params3] at hA hval
 obtain ⟨v0, vs0, d0, ds0, p0, q0, hargs, rfl, rfl, h0, r0⟩ := trodAll_cons hA
 obtain ⟨rfl, rfl, rfl⟩ := trodAll_nil r0
 obtain rfl : args = #[v0] := by cases args; simp_all
 obtain ⟨rfl, rfl⟩ := trodVars_none hV
 have j0 := h0
 have lt0 : ∀ x ∈ p0, x.block < W.heap.size := by obtain ⟨m, hm⟩ := j0; exact DataW.trod_lt m _ _ _ hm
 obtain ⟨cs0, rfl, _⟩ := okWide_struct Tryz.underlying26 (hval 0 26 v0 rfl rfl)
 obtain ⟨fu0, hf0⟩ := h0
 obtain ⟨T0, lv0, hcs0, hLI0, wT0⟩ := open_exp fu0 _ _ hf0
 obtain ⟨pp0, cl0, hlv0, _⟩ := hLI0.form
 obtain ⟨ln0, hln0⟩ : ∃ ln, T0.l.length = ln := ⟨_, rfl⟩
 rw [hln0] at hlv0
 subst hlv0
 obtain rfl : cs0 = (cellsT T0 (.slice pp0 ln0 cl0)).toArray := by rw [← hcs0]; simp [Value.cells]
 clear hA0 hval0
 refine (walk T0 pp0 ln0 cl0 wT0 hLI0 (tabP_of hL hSh)).mono fun e W' ⟨he, bel⟩ => ?_
 subst he
 exact ⟨_, rfl, _, _, _, [], _, [], hW', trodAll_mk1 (shut_bool Tryz.underlying4 _), (trodAll_cons_mk (Below.trod laidOut (by kernel_rfl) (of_decide_eq_true (by kernel_rfl)) j0 bel lt0) trodAll_mk0), rfl, Below.frame bel _, fun h => by cases h⟩

theorem laid_met (os : Os) : laidMet Tryz.prog Rows.printBackRow.laid ((laidWorld os).forCall (fun _ _ => 0) ⟨#[], #[.agg #[.int .i64 0, .int .i64 0, .string ⟨#[]⟩, .int .i64 0, .int .i64 0, .int .i64 0, .bool false, .bool false, .int .i64 0, .int .i64 0, .bool false, .bool false, .slice none 0 0]], []⟩).memory :=
 laidMet_of_run' 8 (by kernel_rfl) (by kernel_rfl)
theorem reads (os : Os) {H : Type} (enc : TypeId × Value → H) : ∃ places, DataW.whole enc Tryz.prog ((laidWorld os).forCall (fun _ _ => 0) ⟨#[], #[.agg #[.int .i64 0, .int .i64 0, .string ⟨#[]⟩, .int .i64 0, .int .i64 0, .int .i64 0, .bool false, .bool false, .int .i64 0, .int .i64 0, .bool false, .bool false, .slice none 0 0]], []⟩).memory Tryz.f3.params.toList Rows.printBackSpec.vars false (#[.agg #[.int .i64 0, .int .i64 0, .string ⟨#[]⟩, .int .i64 0, .int .i64 0, .int .i64 0, .bool false, .bool false, .int .i64 0, .int .i64 0, .bool false, .bool false, .slice none 0 0]] : Array Value).toList 8 = some ([.agg [.lit (.int .i64 0), .lit (.int .i64 0), .lit (.string []), .lit (.int .i64 0), .agg [.lit (.int .i64 0), .lit (.int .i64 0), .lit (.bool false), .lit (.bool false)], .agg [.lit (.int .i64 0), .lit (.int .i64 0), .lit (.bool false), .lit (.bool false)], .nil]], [], places) :=
 ⟨[], by kernel_rfl⟩

set_option maxRecDepth 100000 in
theorem lifted (os : Os) (started : os.Started) (H : Type) (enc : TypeId × Value → H) (F : Stop.Interp) :
   ReturnsInHanded {} Tryz.checked os 3 .any ((OpenSpec.ofChange Rows.printBackSpec).preRow enc Tryz.prog Tryz.f3 Rows.printBackRow.domain false Rows.printBackRow.laid) (((OpenSpec.ofChange Rows.printBackSpec).at F).post enc Tryz.prog Tryz.f3 false true false false) := by
 obtain ⟨places, hx⟩ := reads os enc
 refine returnsInHanded_of_row (C := Tryz.checked) (s := OpenSpec.ofChange Rows.printBackSpec) ownK started (by kernel_rfl) Tryz.func3
   (witness_row_at (enc := enc) (C := Tryz.checked) false (laidWorld os) #[.agg #[.int .i64 0, .int .i64 0, .string ⟨#[]⟩, .int .i64 0, .int .i64 0, .int .i64 0, .bool false, .bool false, .int .i64 0, .int .i64 0, .bool false, .bool false, .slice none 0 0]] rfl (by kernel_rfl) (by kernel_rfl) (by kernel_rfl)
     (OpenSpec.preRow_of_cond 8 hx (by kernel_rfl) (fun k hk => by cases hk) (by kernel_rfl) (by
       rw [MakeChecks.laidMetH_plain _ _ _ (by kernel_rfl)]
       exact laid_met os))) ?_
 intro W base args ds gs before hval hW _ _ _ hL hSh _
 exact contract H enc W base args ds gs before hval hW hL hSh

theorem said : Rows.PrintBackSaid :=
 OpenClaim.holds_of_cond 3 Tryz.f3 rfl rfl rfl rfl rfl rfl rfl ⟨rfl, rfl, rfl, rfl, rfl⟩ rfl rfl rfl rfl rfl (by kernel_rfl) Tryz.func3 (by kernel_rfl)
   (of_decide_eq_true (by kernel_rfl)) (by unfold Func.isWrapper; first | (rw [if_pos (by decide +kernel)]; kernel_rfl) | (rw [if_neg (by decide +kernel)]; exact ⟨rfl, rfl⟩))
   (fun os started H enc _ F => by rw [OpenClaim.pre_eq_preRow]; exact lifted os started H enc F)

theorem plain (f : FuncId) (fn : Func) (hf : Tryz.pinned.checked.prog.funcNamed Rows.printBackRow.func = some f) (hfn : Tryz.pinned.checked.prog.funcs[f]? = some fn) :
   true = Tryz.pinned.checked.prog.looks [] ∧ ∀ (j : Nat) t, fn.params[j]? = some t → Tryz.pinned.checked.prog.wantsStandIn t = false := by
 obtain rfl : f = 3 := Option.some.inj ((show Tryz.prog.funcNamed Rows.printBackRow.func = some 3 by kernel_rfl).symm.trans hf) |>.symm
 obtain rfl : fn = Tryz.f3 := (Option.some.inj (Tryz.func3.symm.trans hfn)).symm
 refine ⟨by kernel_rfl, fun j t ht => ?_⟩
 rw [Tryz.params3] at ht
 have hm : t ∈ [26] := by simpa using Array.mem_of_getElem? ht
 have hall : ([26].all fun u => !Tryz.prog.wantsStandIn u) = true := by kernel_rfl
 exact (show Tryz.prog.wantsStandIn t = false by simpa using List.all_eq_true.1 hall t hm)

theorem card : Rows.PrintBackCardSaid :=
 Claim7.holds_tied_plain_at .later [] _ _ _ _ said (fun _ h => by cases h) (by kernel_rfl) (fun _ h => by cases h) printBack_row_tie rfl ⟨rfl, rfl⟩ (by kernel_rfl) rfl plain (by kernel_rfl)
end Go.Proofs.YtffgidihaggpbaaGreatDoor.printBack
namespace Go.Proofs.YtffgidihaggpbaaGreatDoor
theorem printBack_card : Rows.PrintBackCardSaid := printBack.card
end Go.Proofs.YtffgidihaggpbaaGreatDoor
