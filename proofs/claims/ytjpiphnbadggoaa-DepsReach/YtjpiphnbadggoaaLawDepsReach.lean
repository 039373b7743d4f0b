/-
 DepsReach is proved: for every list of acts and every list of places the call returns true and the arguments read as they did. No condition but the form's own reach.
-/
import Derived.Test.YtjpiphnbadggoaaR7
import Derived.Test.YtjpiphnbadggoaaRows
import Derived.ProofKit
import Derived.OpenShut
import Derived.ChangeOld
import Derived.SizedLaws
import Derived.Lib.SmallJoins
namespace Go.Proofs.Ytjpiphnbadggoaa.depsReach
open Go.ChangeShapes Go.WideShapes Go.ChangeAt Go.RowKit Go.Joins
set_option maxHeartbeats 6000000
set_option maxRecDepth 100000

theorem own : ownKnob Try.prog.godebug = none := by kernel_rfl
theorem walk (l0 : List Zt) (pp0 : Option Addr) (ln0 cl0 : Nat) (l1 : List Pl) (pp1 : Option Addr) (ln1 cl1 : Nat) {w : World} (rd0 : RdG cZ 3 w (.slice pp0 ln0 cl0) l0) (az0 : ∀ z ∈ l0, RdR w z.v z.e.2) (rd1 : RdP w (.slice pp1 ln1 cl1) l1) :
   Calls Try.prog 4 #[.slice pp0 ln0 cl0, .slice pp1 ln1 cl1] w fun e w' => e = .returned (.bool true) ∧ Ext w w' := by
 have cB := begins_any w (.slice pp0 ln0 cl0) l0 rd0 az0
 have c1 := fun V (e : Ext w V) => few_any V _ l1 (rd1.ext e)
 clear rd0 az0 rd1
 obtain ⟨p, hp⟩ : ∃ p, l1.take 20 = p := ⟨_, rfl⟩
 have HM0 : Hid (p.length ≤ 20) := by show _ ≤ _; rw [← hp]; simp; omega
 rw [hp] at c1
 clear hp
 go_enter Try.func4, Try.ntmps4
 go_wp2_with fail
 refine cB.mono ?_
 rintro e w2 ⟨b, bm, g, vs, rfl, D2, M2, E2⟩
 have HE2 : Hid (Ext w w2) := E2
 have HN : Hid ((actK l0 30).length ≤ 30) := D2.n
 have cE := fun V v d (e : Ext w2 V) (h : RdP V v d) (hl : d.length ≤ 50000) => reach_any V _ b 30 g vs (actK l0 30) v d (D2.ext e) (by decide) h hl
 have cM := fun V v d (e : Ext w2 V) (h : RdP V v d) (hl : d.length ≤ 50000) => mreach_any V _ bm (actK l0 30) v d (M2.ext e) (Nat.le_trans HN.out (by decide)) (act_8 l0 30) h hl
 clear cB D2 M2 E2
 go_wp2_with fail
 refine (c1 _ HE2.out).mono ?_
 rintro e w4 ⟨v3, rfl, R3, rfl⟩
 obtain ⟨pp, pc, hv3, _⟩ := R3.form
 obtain ⟨pm, hpm⟩ : ∃ pm, p.length = pm := ⟨_, rfl⟩
 rw [hpm] at hv3
 subst hv3
 have HP : Hid (RdP w4 (.slice pp pm pc) p ∧ p.length = pm) := ⟨R3, hpm⟩
 have HM : Hid (pm ≤ 20) := by show _ ≤ _; rw [← hpm]; exact HM0.out
 clear R3 hpm c1
 go_wp2_with (at_builtin; refine app_g eltP cP_len cP_one (by decide) _ w4 _ _ _ _ 0 pm [] (p) w4.heap.size rfl rfl (by rfl) (by rfl) (own_new w4 w4 (Nat.le_refl _)) HP.out.2 (HP.out.1.ext ((Ext.refl _).alloc _)) (by have := HM.out; omega) ((Ext.refl w4).alloc _) (Nat.le_refl _) (((Ext.refl w4).alloc _)).size ?_; intro v9 w9 O9 E9 _ _; have HA : Hid (w9.ownsRow w4.heap.size 24 2 v9 (0 + pm) ((([] : List Pl) ++ p).flatMap cP) ∧ Ext w4 w9) := ⟨O9, E9⟩; clear O9 E9)
 refine (cE _ _ p HA.out.2 (own_rdG cP_len (by simpa using HA.out.1) HP.out.2.symm) (by have := HM0.out; omega)).mono ?_
 rintro e w5 ⟨a, ha, va, rfl, O5, E5⟩
 have H5 : Hid (IsRch (actK l0 30) p a ∧ RdP w5 va a ∧ Ext w4 w5 ∧ a.length ≤ 50) := ⟨ha, own_rdG cP_len O5 rfl, HA.out.2.trans E5, by have := ha.2.2; have := HM0.out; have := HN.out; omega⟩
 clear ha O5 E5 HA
 go_wp2_with fail
 refine (cM _ _ p H5.out.2.2.1 (HP.out.1.ext H5.out.2.2.1) (by have := HM0.out; omega)).mono ?_
 rintro e w6 ⟨d, vb, hd, rfl, R6, E6⟩
 have e6 : d = a := rch_one hd H5.out.1
 subst e6
 have cS := psame_any w6 va vb d d (H5.out.2.1.ext E6) R6 (by have := H5.out.2.2.2; omega)
 rw [show decide (d = d) = true by simp] at cS
 have H6 : Hid (Ext w4 w6) := H5.out.2.2.1.trans E6
 clear hd R6 E6
 go_wp2_with fail
 refine cS.mono ?_
 rintro e w7 ⟨rfl, E7⟩
 have H7 : Hid (Ext w4 w7) := H6.out.trans E7
 clear cS E7
 go_wp2_with fail
 refine (lives_any w7).mono ?_
 rintro e w8 ⟨rfl, E8⟩
 have H8 : Hid (Ext w w8) := HE2.out.trans (H7.out.trans E8)
 clear E8
 go_wp2_with fail
 go_ret
 exact ⟨rfl, H8.out⟩
theorem laidOut : laidOutB Try.prog = true := by kernel_rfl
set_option maxRecDepth 100000 in
theorem lifted (os : Os) (started : os.Started) (H : Type) (enc : TypeId × Value → H) :
   ReturnsInHanded {} Try.checked os 4 .any (Rows.depsReachSpec.pre6 enc Try.prog Try.f4 Rows.depsReachRow.domain false) (Rows.depsReachSpec.post enc Try.prog Try.f4 false true false false) := by
 refine returnsInHanded_of_change (C := Try.checked) own started (by kernel_rfl) Try.func4
   (ChangeSpec.witness6 (enc := enc) (C := Try.checked) false ⟨#[], #[.slice none 0 0, .slice none 0 0], []⟩ 8 (by kernel_rfl) (by kernel_rfl) (by kernel_rfl) (by kernel_rfl)) ?_
 intro W base args ds gs before hval0 hW hcnd _
 have hval : ∀ (j : Nat) t v, Try.f4.params[j]? = some t → args[j]? = some v → Value.okWide Try.prog W .any base t v := hval0
 have hW' := hW
 obtain ⟨p, q, hA0, hV, rfl, hfz, hnd⟩ := hW
 have hA : DataW.TrodAll enc Try.prog W 0 (fun _ => true) true Try.f4.params.toList args.toList ds p := hA0
 rw [Try.params4] at hA hval
 obtain ⟨v0, vs0, d0, ds0, p0, q0, hargs, rfl, rfl, h0, r0⟩ := trodAll_cons hA
 obtain ⟨v1, vs1, d1, ds1, p1, q1, rfl, rfl, rfl, h1, r1⟩ := trodAll_cons r0
 obtain ⟨rfl, rfl, rfl⟩ := trodAll_nil r1
 obtain rfl : args = #[v0, v1] := by cases args; simp_all
 obtain ⟨rfl, rfl⟩ := trodVars_none hV
 have j0 := h0
 have lt0 : ∀ x ∈ p0, x.block < W.heap.size := by obtain ⟨m, hm⟩ := j0; exact DataW.trod_lt m _ _ _ hm
 obtain ⟨pp0, ln0, cl0, rfl⟩ := okWide_slice Try.underlying22 (hval 0 22 v0 rfl rfl)
 obtain ⟨l0, rd0, az0⟩ : ∃ l, RdG cZ 3 W (.slice pp0 ln0 cl0) l ∧ ∀ z ∈ l, RdR W z.v z.e.2 := by
   obtain ⟨fuel, hf⟩ := h0
   exact open_acts hf
 have j1 := h1
 have lt1 : ∀ x ∈ p1, x.block < W.heap.size := by obtain ⟨m, hm⟩ := j1; exact DataW.trod_lt m _ _ _ hm
 obtain ⟨pp1, ln1, cl1, rfl⟩ := okWide_slice Try.underlying34 (hval 1 34 v1 rfl rfl)
 obtain ⟨l1, rd1⟩ : ∃ l, RdP W (.slice pp1 ln1 cl1) l := by
   obtain ⟨fuel, hf⟩ := h1
   exact open_pls hf
 clear hA0 hval0
 refine (walk l0 pp0 ln0 cl0 l1 pp1 ln1 cl1 rd0 az0 rd1).mono fun e W' ⟨he, bel⟩ => ?_
 subst he
 exact ⟨_, rfl, _, _, _, [], _, [], hW', trodAll_mk1 (shut_bool Try.underlying4 _), (trodAll_cons_mk (Below.trod laidOut (by kernel_rfl) (of_decide_eq_true (by kernel_rfl)) j0 bel lt0) (trodAll_cons_mk (Below.trod laidOut (by kernel_rfl) (of_decide_eq_true (by kernel_rfl)) j1 bel lt1) trodAll_mk0)), rfl, Below.frame bel _, fun h => by cases h⟩

theorem over : Rows.depsReachRow.holds Try.pinned (OpenSpec.ofChange Rows.depsReachSpec) :=
 OpenClaim.holds_of_wide 4 Try.f4 rfl rfl rfl rfl rfl rfl rfl ⟨rfl, rfl, rfl, rfl, rfl⟩ rfl rfl rfl rfl rfl (by kernel_rfl) Try.func4 (by kernel_rfl)
   (of_decide_eq_true (by kernel_rfl)) (by unfold Func.isWrapper; first | (rw [if_pos (by decide +kernel)]; kernel_rfl) | (rw [if_neg (by decide +kernel)]; exact ⟨rfl, rfl⟩))
   (fun os started H enc _ => lifted os started H enc)

theorem proved : Rows.DepsReachSaid := over
end Go.Proofs.Ytjpiphnbadggoaa.depsReach
namespace Go.Proofs.Ytjpiphnbadggoaa
theorem depsReach_holds : Rows.DepsReachSaid := depsReach.proved
end Go.Proofs.Ytjpiphnbadggoaa
