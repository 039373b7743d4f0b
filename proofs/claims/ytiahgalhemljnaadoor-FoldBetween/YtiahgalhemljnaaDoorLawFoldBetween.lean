/-
 FoldBetween is proved: of whatever values, a mean that is a number is between the least and the greatest. Its condition: the listed variables lie as the program's text lays them (the card ties them).
-/
import Derived.Test.YtiahgalhemljnaaDoorQ14
import Derived.Test.YtiahgalhemljnaaDoorQ16
import Derived.Test.YtiahgalhemljnaaDoorQ15
import Derived.Test.YtiahgalhemljnaaDoorCards
import Derived.Test.YtiahgalhemljnaaDoorTie
import Derived.ChangeMaps5
import Derived.Lib.SmallJoins
namespace Go.Proofs.YtiahgalhemljnaaDoor.foldBetween
open Go.ChangeShapes Go.WideShapes Go.ChangeAt Go.RowKit
open Go.Joins
set_option maxHeartbeats 4000000

set_option maxRecDepth 100000 in
theorem walk (l : List Rw) (p : Option Addr) (n c : Nat) (w : World) (rd : RdV w.heap.size w (.slice p n c) l) (vi : ∀ r ∈ l, I64 r.n) (vm : l.length ≤ maxLen) (hN : Nm w) :
   Calls Tryd.prog 6 #[.slice p n c] w fun e w' => e = .returned (.bool true) ∧ Ext w w' := by
 have c0 := fun W g => lives13_any W g
 have hn := rd.len
 unfold maxLen at vm
 by_cases hl : 2000 < n
 · have hd : decide ((n : Int) > 2000) = true := by simp; omega
   have hI : (n : Int) > 2000 := by omega
   clear rd vi vm hn hl
   go_enter Tryd.func6, Tryd.ntmps6
   go_wp2_with fail
   refine (c0 _ (hN.ext (by with_reducible repeat (first | assumption | exact Ext.refl _ | apply Ext.alloc | apply Ext.drew | apply Ext.drewN | (refine Ext.setCell ?_ (by simp) _))))).mono ?_
   rintro e w1 ⟨rfl, E1⟩
   go_wp2_with fail
   go_ret
   exact ⟨rfl, E1⟩
 have hd : decide ((n : Int) > 2000) = false := by simp; omega
 have hI : ¬ (n : Int) > 2000 := by omega
 have hl2 : l.length ≤ 2000 := by omega
 have HV : Hid (RdV w.heap.size w (.slice p n c) l) := rd
 have AG : AgI [⟨true, l⟩] := fun a ha r hr => by simp at ha; subst ha; exact vi r hr
 have hs : (seen [⟨true, l⟩]).length ≤ 15000 := by rw [area_seen]; simp; omega
 have CA : Hid (∀ W, Ext w W → Calls Tryd.prog 19 #[.slice p n c] W fun e w' => ∃ p' c', e = .returned (.slice p' 1 c') ∧ RdA w'.heap.size w' (.slice p' 1 c') [⟨true, l⟩] ∧ Ext W w') := fun W e => area_any l p n c W (rd.to (Nat.le_refl _) e) (by omega)
 have F : Hid (∀ W v, RdA W.heap.size W v [⟨true, l⟩] → Fit W v [⟨true, l⟩]) := fun W v h => ⟨h, AG, hs, by simp⟩
 have HB := between _ AG
 have CMi : Hid (∀ W p' c', Ext w W → RdA W.heap.size W (.slice p' 1 c') [⟨true, l⟩] → Calls Tryd.prog 12 #[.slice p' 1 c'] W fun e w' => e = .returned (.agg #[.int .i64 (fBest ltB [⟨true, l⟩]).k, .int .i64 (fBest ltB [⟨true, l⟩]).n, .string (fBest ltB [⟨true, l⟩]).s, .int .i64 (fBest ltB [⟨true, l⟩]).e]) ∧ Ext W w') := fun W p' c' e h => by
   have q := fmin_any _ W p' 1 c' (F.out W _ h) (hN.ext e)
   rw [dat_eq] at q
   exact q
 have CMx : Hid (∀ W p' c', Ext w W → RdA W.heap.size W (.slice p' 1 c') [⟨true, l⟩] → Calls Tryd.prog 13 #[.slice p' 1 c'] W fun e w' => e = .returned (.agg #[.int .i64 (fBest gtB [⟨true, l⟩]).k, .int .i64 (fBest gtB [⟨true, l⟩]).n, .string (fBest gtB [⟨true, l⟩]).s, .int .i64 (fBest gtB [⟨true, l⟩]).e]) ∧ Ext W w') := fun W p' c' e h => by
   have q := fmax_any _ W p' 1 c' (F.out W _ h) (hN.ext e)
   rw [dat_eq] at q
   exact q
 have CAv : Hid (∀ W p' c', Ext w W → RdA W.heap.size W (.slice p' 1 c') [⟨true, l⟩] → Calls Tryd.prog 14 #[.slice p' 1 c'] W fun e w' => e = .returned (.agg #[.int .i64 (fMean [⟨true, l⟩]).k, .int .i64 (fMean [⟨true, l⟩]).n, .string (fMean [⟨true, l⟩]).s, .int .i64 (fMean [⟨true, l⟩]).e]) ∧ Ext W w') := fun W p' c' e h => by
   have q := favg_any _ W p' 1 c' (F.out W _ h) (hN.ext e)
   rw [dat_eq] at q
   exact q
 generalize fBest ltB [⟨true, l⟩] = A at *
 generalize fMean [⟨true, l⟩] = B at *
 generalize fBest gtB [⟨true, l⟩] = C at *
 generalize A.k = Ak at *
 generalize A.n = An at *
 generalize A.s = As at *
 generalize A.e = Ae at *
 generalize B.k = Bk' at *
 generalize B.n = Bn at *
 generalize B.s = Bs at *
 generalize B.e = Be at *
 generalize C.k = Ck at *
 generalize C.n = Cn at *
 generalize C.s = Cs at *
 generalize C.e = Ce at *
 clear rd vi vm hl hl2 AG hs hn
 rcases HB with hb | ⟨hb, ha, hc, h1, h2⟩
 · have eb : (Bk' != 2) = true := by rw [hb]; rfl
   have eb4 : (Bk' == 4) = true := by rw [hb]; rfl
   clear hb
   go_enter Tryd.func6, Tryd.ntmps6
   go_wp2_with fail
   refine (CA.out _ (by with_reducible repeat (first | assumption | exact Ext.refl _ | apply Ext.alloc | apply Ext.drew | apply Ext.drewN | (refine Ext.setCell ?_ (by simp) _)))).mono ?_
   rintro e w1 ⟨p0, c0', rfl, R0, E1⟩
   have X1 : Ext w w1 := Ext.trans (by with_reducible repeat (first | assumption | exact Ext.refl _ | apply Ext.alloc | apply Ext.drew | apply Ext.drewN | (refine Ext.setCell ?_ (by simp) _))) E1
   have HR0 : Hid (RdA w1.heap.size w1 (.slice p0 1 c0') [⟨true, l⟩]) := R0
   clear E1 R0
   go_wp2_with fail
   refine (CMi.out _ _ _ (by with_reducible repeat (first | assumption | exact Ext.refl _ | apply Ext.alloc | apply Ext.drew | apply Ext.drewN | (refine Ext.setCell ?_ (by simp) _))) HR0.out).mono ?_
   rintro e w2 ⟨rfl, E2⟩
   have X2 : Ext w w2 := X1.trans E2
   clear E2 X1
   go_wp2_with fail
   refine (CA.out _ (by with_reducible repeat (first | assumption | exact Ext.refl _ | apply Ext.alloc | apply Ext.drew | apply Ext.drewN | (refine Ext.setCell ?_ (by simp) _)))).mono ?_
   rintro e w3 ⟨p2, c2', rfl, R2, E3⟩
   have X3 : Ext w w3 := Ext.trans (by with_reducible repeat (first | assumption | exact Ext.refl _ | apply Ext.alloc | apply Ext.drew | apply Ext.drewN | (refine Ext.setCell ?_ (by simp) _))) E3
   have HR2 : Hid (RdA w3.heap.size w3 (.slice p2 1 c2') [⟨true, l⟩]) := R2
   clear E3 R2
   go_wp2_with fail
   refine (CAv.out _ _ _ (by with_reducible repeat (first | assumption | exact Ext.refl _ | apply Ext.alloc | apply Ext.drew | apply Ext.drewN | (refine Ext.setCell ?_ (by simp) _))) HR2.out).mono ?_
   rintro e w4 ⟨rfl, E4⟩
   have X4 : Ext w w4 := X3.trans E4
   clear E4 X3
   go_wp2_with fail
   refine (CA.out _ (by with_reducible repeat (first | assumption | exact Ext.refl _ | apply Ext.alloc | apply Ext.drew | apply Ext.drewN | (refine Ext.setCell ?_ (by simp) _)))).mono ?_
   rintro e w5 ⟨p4, c4', rfl, R4, E5⟩
   have X5 : Ext w w5 := Ext.trans (by with_reducible repeat (first | assumption | exact Ext.refl _ | apply Ext.alloc | apply Ext.drew | apply Ext.drewN | (refine Ext.setCell ?_ (by simp) _))) E5
   have HR4 : Hid (RdA w5.heap.size w5 (.slice p4 1 c4') [⟨true, l⟩]) := R4
   clear E5 R4
   go_wp2_with fail
   refine (CMx.out _ _ _ (by with_reducible repeat (first | assumption | exact Ext.refl _ | apply Ext.alloc | apply Ext.drew | apply Ext.drewN | (refine Ext.setCell ?_ (by simp) _))) HR4.out).mono ?_
   rintro e w6 ⟨rfl, E6⟩
   have X6 : Ext w w6 := X5.trans E6
   clear E6 X5
   go_wp2_with fail
   refine (c0 _ (hN.ext (by with_reducible repeat (first | assumption | exact Ext.refl _ | apply Ext.alloc | apply Ext.drew | apply Ext.drewN | (refine Ext.setCell ?_ (by simp) _))))).mono ?_
   rintro e w7 ⟨rfl, E7⟩
   have X7 : Ext w w7 := Ext.trans (by with_reducible repeat (first | assumption | exact Ext.refl _ | apply Ext.alloc | apply Ext.drew | apply Ext.drewN | (refine Ext.setCell ?_ (by simp) _))) E7
   go_wp2_with fail
   go_ret
   exact ⟨rfl, X7⟩
 · have eb : (Bk' != 2) = false := by rw [hb]; rfl
   have ea : (Ak == 2) = true := by rw [ha]; rfl
   have ec : (Ck == 2) = true := by rw [hc]; rfl
   have d1 : decide (An ≤ Bn) = true := by simpa using h1
   have d2 : decide (Bn ≤ Cn) = true := by simpa using h2
   clear hb ha hc
   go_enter Tryd.func6, Tryd.ntmps6
   go_wp2_with fail
   refine (CA.out _ (by with_reducible repeat (first | assumption | exact Ext.refl _ | apply Ext.alloc | apply Ext.drew | apply Ext.drewN | (refine Ext.setCell ?_ (by simp) _)))).mono ?_
   rintro e w1 ⟨p0, c0', rfl, R0, E1⟩
   have X1 : Ext w w1 := Ext.trans (by with_reducible repeat (first | assumption | exact Ext.refl _ | apply Ext.alloc | apply Ext.drew | apply Ext.drewN | (refine Ext.setCell ?_ (by simp) _))) E1
   have HR0 : Hid (RdA w1.heap.size w1 (.slice p0 1 c0') [⟨true, l⟩]) := R0
   clear E1 R0
   go_wp2_with fail
   refine (CMi.out _ _ _ (by with_reducible repeat (first | assumption | exact Ext.refl _ | apply Ext.alloc | apply Ext.drew | apply Ext.drewN | (refine Ext.setCell ?_ (by simp) _))) HR0.out).mono ?_
   rintro e w2 ⟨rfl, E2⟩
   have X2 : Ext w w2 := X1.trans E2
   clear E2 X1
   go_wp2_with fail
   refine (CA.out _ (by with_reducible repeat (first | assumption | exact Ext.refl _ | apply Ext.alloc | apply Ext.drew | apply Ext.drewN | (refine Ext.setCell ?_ (by simp) _)))).mono ?_
   rintro e w3 ⟨p2, c2', rfl, R2, E3⟩
   have X3 : Ext w w3 := Ext.trans (by with_reducible repeat (first | assumption | exact Ext.refl _ | apply Ext.alloc | apply Ext.drew | apply Ext.drewN | (refine Ext.setCell ?_ (by simp) _))) E3
   have HR2 : Hid (RdA w3.heap.size w3 (.slice p2 1 c2') [⟨true, l⟩]) := R2
   clear E3 R2
   go_wp2_with fail
   refine (CAv.out _ _ _ (by with_reducible repeat (first | assumption | exact Ext.refl _ | apply Ext.alloc | apply Ext.drew | apply Ext.drewN | (refine Ext.setCell ?_ (by simp) _))) HR2.out).mono ?_
   rintro e w4 ⟨rfl, E4⟩
   have X4 : Ext w w4 := X3.trans E4
   clear E4 X3
   go_wp2_with fail
   refine (CA.out _ (by with_reducible repeat (first | assumption | exact Ext.refl _ | apply Ext.alloc | apply Ext.drew | apply Ext.drewN | (refine Ext.setCell ?_ (by simp) _)))).mono ?_
   rintro e w5 ⟨p4, c4', rfl, R4, E5⟩
   have X5 : Ext w w5 := Ext.trans (by with_reducible repeat (first | assumption | exact Ext.refl _ | apply Ext.alloc | apply Ext.drew | apply Ext.drewN | (refine Ext.setCell ?_ (by simp) _))) E5
   have HR4 : Hid (RdA w5.heap.size w5 (.slice p4 1 c4') [⟨true, l⟩]) := R4
   clear E5 R4
   go_wp2_with fail
   refine (CMx.out _ _ _ (by with_reducible repeat (first | assumption | exact Ext.refl _ | apply Ext.alloc | apply Ext.drew | apply Ext.drewN | (refine Ext.setCell ?_ (by simp) _))) HR4.out).mono ?_
   rintro e w6 ⟨rfl, E6⟩
   have X6 : Ext w w6 := X5.trans E6
   clear E6 X5
   go_wp2_with fail
   refine (c0 _ (hN.ext (by with_reducible repeat (first | assumption | exact Ext.refl _ | apply Ext.alloc | apply Ext.drew | apply Ext.drewN | (refine Ext.setCell ?_ (by simp) _))))).mono ?_
   rintro e w7 ⟨rfl, E7⟩
   have X7 : Ext w w7 := Ext.trans (by with_reducible repeat (first | assumption | exact Ext.refl _ | apply Ext.alloc | apply Ext.drew | apply Ext.drewN | (refine Ext.setCell ?_ (by simp) _))) E7
   go_wp2_with fail
   go_ret
   exact ⟨rfl, X7⟩

theorem laidOut : laidOutB Tryd.prog = true := by kernel_rfl
set_option maxRecDepth 100000 in
theorem contract (H : Type) (enc : TypeId × Value → H) (W : World) (base : Nat) (args : Array Value) (ds gs : List (DataW H)) (before : List MemPlace)
   (hval0 : ∀ (j : Nat) t v, Tryd.f6.params[j]? = some t → args[j]? = some v → Value.okWide Tryd.prog W .any base t v)
   (hW : DataW.Whole enc Tryd.prog Tryd.f6.params.toList Rows.foldBetweenSpec.vars false W args.toList ds gs before) (hL : laidMetH Tryd.prog Rows.foldBetweenRow.laid W) :
   Calls Tryd.prog 6 args W fun e W' => ∃ v, e = .returned v ∧ Rows.foldBetweenSpec.post enc Tryd.prog Tryd.f6 false true false false W args v W' := by
 have hval := hval0
 have hW' := hW
 obtain ⟨p, q, hA0, hV, rfl, hfz, hnd⟩ := hW'
 have hA : DataW.TrodAll enc Tryd.prog W 0 (fun _ => true) true Tryd.f6.params.toList args.toList ds p := hA0
 rw [Tryd.params6] at hA hval
 obtain ⟨v0, vs0, d0, ds0, p0, q0, hargs, rfl, rfl, h0, r0⟩ := trodAll_cons hA
 obtain ⟨rfl, rfl, rfl⟩ := trodAll_nil r0
 obtain rfl : args = #[v0] := by cases args; simp_all
 obtain ⟨rfl, rfl⟩ := trodVars_none hV
 have j0 := h0
 have lt0 : ∀ x ∈ p0, x.block < W.heap.size := by obtain ⟨m, hm⟩ := j0; exact DataW.trod_lt m _ _ _ hm
 obtain ⟨pp0, ln0, cl0, rfl⟩ := okWide_slice Tryd.underlying36 (hval 0 36 v0 rfl rfl)
 obtain ⟨l0, rd0, vi0, vm0⟩ : ∃ l, RdV W.heap.size W (.slice pp0 ln0 cl0) l ∧ (∀ r ∈ l, I64 r.n) ∧ l.length ≤ maxLen := by
   obtain ⟨fuel, hf⟩ := h0
   exact open_vals hf
 clear hA0 hval0
 refine (walk l0 pp0 ln0 cl0 W rd0 vi0 vm0 (nm_ofN hL)).mono fun e W' ⟨he, bel⟩ => ?_
 subst he
 exact ⟨_, rfl, _, _, _, [], _, [], hW, trodAll_mk1 (shut_bool Tryd.underlying4 _), (trodAll_cons_mk (Below.trod laidOut (by kernel_rfl) (of_decide_eq_true (by kernel_rfl)) j0 bel lt0) trodAll_mk0), rfl, Below.frame bel _, fun h => by cases h⟩

theorem laid_met (os : Os) : laidMet Tryd.prog Rows.foldBetweenRow.laid ((laidWorldN os).forCall (fun _ _ => 0) ⟨#[], #[.slice none 0 0], []⟩).memory :=
 laidMet_of_run' 8 (by kernel_rfl) (by kernel_rfl)
theorem reads (os : Os) {H : Type} (enc : TypeId × Value → H) : ∃ places, DataW.whole enc Tryd.prog ((laidWorldN os).forCall (fun _ _ => 0) ⟨#[], #[.slice none 0 0], []⟩).memory Tryd.f6.params.toList Rows.foldBetweenSpec.vars false (#[.slice none 0 0] : Array Value).toList 8 = some ([.nil], [], places) :=
 ⟨[], by kernel_rfl⟩

set_option maxRecDepth 100000 in
theorem lifted (os : Os) (started : os.Started) (H : Type) (enc : TypeId × Value → H) (F : Stop.Interp) :
   ReturnsInHanded {} Tryd.checked os 6 .any ((OpenSpec.ofChange Rows.foldBetweenSpec).preRow enc Tryd.prog Tryd.f6 Rows.foldBetweenRow.domain false Rows.foldBetweenRow.laid) (((OpenSpec.ofChange Rows.foldBetweenSpec).at F).post enc Tryd.prog Tryd.f6 false true false false) := by
 obtain ⟨places, hx⟩ := reads os enc
 refine returnsInHanded_of_row (C := Tryd.checked) (s := OpenSpec.ofChange Rows.foldBetweenSpec) ownK started (by kernel_rfl) Tryd.func6
   (witness_row_at (enc := enc) (C := Tryd.checked) false (laidWorldN os) #[.slice none 0 0] rfl (by kernel_rfl) (by kernel_rfl) (by kernel_rfl)
     (OpenSpec.preRow_of_cond 8 hx (by kernel_rfl) (fun k hk => by cases hk) (by kernel_rfl) (by
       rw [MakeChecks.laidMetH_plain _ _ _ (by kernel_rfl)]
       exact laid_met os))) ?_
 intro W base args ds gs before hval hW _ _ _ hL _ _
 exact contract H enc W base args ds gs before hval hW hL

theorem said : Rows.FoldBetweenSaid :=
 OpenClaim.holds_of_cond 6 Tryd.f6 rfl rfl rfl rfl rfl rfl rfl ⟨rfl, rfl, rfl, rfl, rfl⟩ rfl rfl rfl rfl rfl (by kernel_rfl) Tryd.func6 (by kernel_rfl)
   (of_decide_eq_true (by kernel_rfl)) (by unfold Func.isWrapper; first | (rw [if_pos (by decide +kernel)]; kernel_rfl) | (rw [if_neg (by decide +kernel)]; exact ⟨rfl, rfl⟩))
   (fun os started H enc _ F => by rw [OpenClaim.pre_eq_preRow]; exact lifted os started H enc F)

theorem plain (f : FuncId) (fn : Func) (hf : Tryd.pinned.checked.prog.funcNamed Rows.foldBetweenRow.func = some f) (hfn : Tryd.pinned.checked.prog.funcs[f]? = some fn) :
   false = Tryd.pinned.checked.prog.looks [] ∧ ∀ (j : Nat) t, fn.params[j]? = some t → Tryd.pinned.checked.prog.wantsStandIn t = false := by
 obtain rfl : f = 6 := Option.some.inj ((show Tryd.prog.funcNamed Rows.foldBetweenRow.func = some 6 by kernel_rfl).symm.trans hf) |>.symm
 obtain rfl : fn = Tryd.f6 := (Option.some.inj (Tryd.func6.symm.trans hfn)).symm
 refine ⟨by kernel_rfl, fun j t ht => ?_⟩
 rw [Tryd.params6] at ht
 have hm : t ∈ [36] := by simpa using Array.mem_of_getElem? ht
 have hall : ([36].all fun u => !Tryd.prog.wantsStandIn u) = true := by kernel_rfl
 exact (show Tryd.prog.wantsStandIn t = false by simpa using List.all_eq_true.1 hall t hm)

theorem card : Rows.FoldBetweenCardSaid :=
 Claim7.holds_tied_plain_at .later [] _ _ _ _ said (fun _ h => by cases h) (by kernel_rfl) (fun _ h => by cases h) foldBetween_row_tie rfl ⟨rfl, rfl⟩ (by kernel_rfl) rfl plain (by kernel_rfl)
end Go.Proofs.YtiahgalhemljnaaDoor.foldBetween
namespace Go.Proofs.YtiahgalhemljnaaDoor
theorem foldBetween_card : Rows.FoldBetweenCardSaid := foldBetween.card
end Go.Proofs.YtiahgalhemljnaaDoor
