/-
 DepsParts is proved: for every list of acts and any two lists of places the call returns true and the arguments read as they did. No condition but the form's own reach.
-/
import Derived.Test.YtjpiphnbadggoaaP6
import Derived.Test.YtjpiphnbadggoaaRows
import Derived.ProofKit
import Derived.OpenShut
import Derived.ChangeOld
import Derived.SizedLaws
import Derived.Lib.SmallJoins
namespace Go.Proofs.Ytjpiphnbadggoaa.depsParts
open Go.ChangeShapes Go.WideShapes Go.ChangeAt Go.RowKit Go.Joins
set_option maxHeartbeats 6000000
set_option maxRecDepth 100000

theorem own : ownKnob Try.prog.godebug = none := by kernel_rfl
theorem parts_eq {σ : Sg} {l k a b c : List Pl} (ha : IsRch σ l a) (hb : IsRch σ k b) (hc : IsRch σ (l ++ k) c) : c = b.foldl putP a :=
 ltp_one hc.1 (putAll_sorted ha.1) (fun x => by rw [hc.2.1, rch_app, putAll_mem, ha.2.1, hb.2.1])
theorem again_eq {σ : Sg} (hs : SgOk σ) {l c d : List Pl} (hc : IsRch σ l c) (hd : IsRch σ c d) : d = c :=
 ltp_one hd.1 hc.1 (fun x => by
   rw [hd.2.1, hc.2.1]
   constructor
   · exact rch_mono (fun a ha => (hc.2.1 a).1 ha)
   · intro hx
     exact .base ((hc.2.1 x).2 hx) (rch_pin hs hx))
theorem put_snoc {a b : List Pl} {k : Nat} {s : Pl} (hs : b[k]? = some s) : (b.take (k + 1)).foldl putP a = putP ((b.take k).foldl putP a) s := by
 rw [take_at hs, List.foldl_append]
 rfl
theorem puts_len (m : List Pl) : ∀ l : List Pl, (m.foldl putP l).length ≤ l.length + m.length := by
 induction m with
 | nil => simp
 | cons q m ih =>
   intro l
   have := ih (putP l q)
   have := (put_len l q).2
   rw [List.foldl_cons, List.length_cons]
   omega
theorem walk (l0 : List Zt) (pp0 : Option Addr) (ln0 cl0 : Nat) (l1 : List Pl) (pp1 : Option Addr) (ln1 cl1 : Nat) (l2 : List Pl) (pp2 : Option Addr) (ln2 cl2 : Nat) {w : World} (rd0 : RdG cZ 3 w (.slice pp0 ln0 cl0) l0) (az0 : ∀ z ∈ l0, RdR w z.v z.e.2) (rd1 : RdP w (.slice pp1 ln1 cl1) l1) (rd2 : RdP w (.slice pp2 ln2 cl2) l2) :
   Calls Try.prog 5 #[.slice pp0 ln0 cl0, .slice pp1 ln1 cl1, .slice pp2 ln2 cl2] w fun e w' => e = .returned (.bool true) ∧ Ext w w' := by
 have cB := begins_any w (.slice pp0 ln0 cl0) l0 rd0 az0
 have c1 := fun V (e : Ext w V) => few_any V _ l1 (rd1.ext e)
 have c2 := fun V (e : Ext w V) => few_any V _ l2 (rd2.ext e)
 clear rd0 az0 rd1 rd2
 obtain ⟨p, hp⟩ : ∃ p, l1.take 20 = p := ⟨_, rfl⟩
 obtain ⟨q, hq⟩ : ∃ q, l2.take 20 = q := ⟨_, rfl⟩
 have HM0 : Hid (p.length ≤ 20 ∧ q.length ≤ 20) := ⟨by rw [← hp]; simp; omega, by rw [← hq]; simp; omega⟩
 rw [hp] at c1
 rw [hq] at c2
 clear hp hq
 go_enter Try.func5, Try.ntmps5
 go_wp2_with fail
 refine cB.mono ?_
 rintro e w2 ⟨b, bm, g, vs, rfl, D2, _, E2⟩
 have HE2 : Hid (Ext w w2) := E2
 have cR := fun V v d (e : Ext w2 V) (h : RdP V v d) (hl : d.length ≤ 50000) => reach_any V _ b 30 g vs (actK l0 30) v d (D2.ext e) (by decide) h hl
 have HN : Hid ((actK l0 30).length ≤ 30 ∧ SgOk (actK l0 30)) := ⟨D2.n, D2.ok⟩
 clear cB D2 E2
 go_wp2_with fail
 refine (c1 _ HE2.out).mono ?_
 rintro e w3 ⟨v3, rfl, R3, rfl⟩
 go_wp2_with fail
 refine (c2 _ HE2.out).mono ?_
 rintro e w4 ⟨v4, rfl, R4, rfl⟩
 obtain ⟨pp, pc, hv3, _⟩ := R3.form
 obtain ⟨qp, qc, hv4, _⟩ := R4.form
 obtain ⟨pm, hpm⟩ : ∃ pm, p.length = pm := ⟨_, rfl⟩
 obtain ⟨qm, hqm⟩ : ∃ qm, q.length = qm := ⟨_, rfl⟩
 rw [hpm] at hv3
 rw [hqm] at hv4
 subst hv3
 subst hv4
 have HP : Hid (RdP w4 (.slice pp pm pc) p ∧ RdP w4 (.slice qp qm qc) q ∧ p.length = pm ∧ q.length = qm) := ⟨R3, R4, hpm, hqm⟩
 have HM : Hid (pm ≤ 20 ∧ qm ≤ 20) := ⟨by rw [← hpm]; exact HM0.out.1, by rw [← hqm]; exact HM0.out.2⟩
 clear R3 R4 hpm hqm c1 c2
 go_wp2_with (at_builtin; refine app_g eltP cP_len cP_one (by decide) _ w4 _ _ _ _ 0 pm [] (p) w4.heap.size rfl rfl (by rfl) (by rfl) (own_new w4 w4 (Nat.le_refl _)) HP.out.2.2.1 (HP.out.1.ext ((Ext.refl _).alloc _)) (by have := HM.out; omega) ((Ext.refl w4).alloc _) (Nat.le_refl _) (((Ext.refl w4).alloc _)).size ?_; intro v9 w9 O9 E9 _ _; have HA : Hid (w9.ownsRow w4.heap.size 24 2 v9 (0 + pm) ((([] : List Pl) ++ p).flatMap cP) ∧ Ext w4 w9) := ⟨O9, E9⟩; clear O9 E9)
 refine (cR _ _ p HA.out.2 (own_rdG cP_len (by simpa using HA.out.1) HP.out.2.2.1.symm) (by have := HM0.out; omega)).mono ?_
 rintro e w5 ⟨a, ha, va, rfl, O5, E5⟩
 have H5 : Hid (IsRch (actK l0 30) p a ∧ w5.ownsRow w9.heap.size 24 2 va a.length (a.flatMap cP) ∧ Ext w4 w5 ∧ a.length ≤ 50) := ⟨ha, O5, HA.out.2.trans E5, by have := ha.2.2; have := HM0.out; have := HN.out.1; omega⟩
 clear ha O5 E5
 generalize w9 = wa at *
 go_wp2_with (at_builtin; refine app_g eltP cP_len cP_one (by decide) _ w5 _ _ _ _ 0 qm [] (q) w5.heap.size rfl rfl (by rfl) (by rfl) (own_new w5 w5 (Nat.le_refl _)) HP.out.2.2.2 ((HP.out.2.1.ext H5.out.2.2.1).ext ((Ext.refl _).alloc _)) (by have := HM.out; omega) ((Ext.refl w5).alloc _) (Nat.le_refl _) (((Ext.refl w5).alloc _)).size ?_; intro v9 w9 O9 E9 _ _; have HB : Hid (w9.ownsRow w5.heap.size 24 2 v9 (0 + qm) ((([] : List Pl) ++ q).flatMap cP) ∧ Ext w5 w9) := ⟨O9, E9⟩; clear O9 E9)
 refine (cR _ _ q (H5.out.2.2.1.trans HB.out.2) (own_rdG cP_len (by simpa using HB.out.1) HP.out.2.2.2.symm) (by have := HM0.out; omega)).mono ?_
 rintro e w6 ⟨bb, hb, vb, rfl, O6, E6⟩
 obtain ⟨bp, bc, hvb, _⟩ := own_form O6
 obtain ⟨bn, hbn⟩ : ∃ bn, bb.length = bn := ⟨_, rfl⟩
 rw [hbn] at hvb
 subst hvb
 have H6 : Hid (IsRch (actK l0 30) q bb ∧ RdP w6 (.slice bp bn bc) bb ∧ Ext w5 w6 ∧ bb.length ≤ 50 ∧ bb.length = bn) := ⟨hb, own_rdG cP_len O6 rfl, HB.out.2.trans E6, by have := hb.2.2; have := HM0.out; have := HN.out.1; omega, hbn⟩
 have HRA : Hid (RdP w6 va a) := (own_rdG cP_len H5.out.2.1 rfl).ext H6.out.2.2.1
 clear hb O6 E6 hbn
 go_wp2_with fail
 go_loopw [12, 13] (fun vo x wr => ∃ k : Nat, x = .int .i64 (k : Int) ∧ k ≤ bn ∧ RdP wr vo ((bb.take k).foldl putP a) ∧ Ext w6 wr) (fun _ x _ => bn - (intOf x).toNat)
 case atStart => exact ⟨0, rfl, Nat.zero_le _, by simpa using HRA.out, Ext.refl _⟩
 case round =>
   obtain ⟨k, rfl, hk, hR, hE⟩ := hrel
   have wk := wrapI k (by have := H6.out.2.2.2; omega)
   rcases Nat.lt_or_ge k bn with hlt | hge
   · have hltI : (k : Int) < (bn : Int) := Int.ofNat_lt.2 hlt
     obtain ⟨s, hs⟩ : ∃ s, bb[k]? = some s := ⟨_, List.getElem?_eq_getElem (by rw [H6.out.2.2.2.2]; exact hlt)⟩
     obtain ⟨sb, so, rfl, _, d1, d2⟩ := RdP.cell (H6.out.2.1.ext hE) hs
     obtain ⟨s1, s2⟩ := s
     have cP := put_any wr u12 ((bb.take k).foldl putP a) s1 s2 hR (by
       have h1 := puts_len (bb.take k) a
       have h2 := H5.out.2.2.2
       have h3 := H6.out.2.2.2.1
       simp only [List.length_take] at h1
       omega)
     rw [← put_snoc hs] at cP
     have HE : Hid (Ext w6 wr) := hE
     clear hs hR hE
     go_wp2_with fail
     refine cP.mono ?_
     rintro e w7 ⟨v7, rfl, R7, E7⟩
     have H7 : Hid (RdP w7 v7 ((bb.take (k + 1)).foldl putP a) ∧ Ext w6 w7) := ⟨R7, HE.out.trans E7⟩
     clear cP R7 E7 d1 d2
     go_wp2_with fail
     go_roundw
     case rel => exact ⟨k + 1, by rw [wk], hlt, H7.out.1, H7.out.2⟩
     case measure => rw [wk]; simp [intOf]; omega
   · have hltI : ¬ (k : Int) < (bn : Int) := fun h => Nat.not_lt.2 hge (Int.ofNat_lt.1 h)
     have H7 : Hid (RdP wr u12 (bb.foldl putP a) ∧ Ext w4 wr) := by
       have := hR
       rw [List.take_of_length_le (by rw [H6.out.2.2.2.2]; exact hge)] at this
       exact ⟨this, H5.out.2.2.1.trans (H6.out.2.2.1.trans hE)⟩
     clear hR hE wk
     go_wp2_with (first | (have _ := HC.out.1; at_builtin; refine app_g eltP cP_len cP_one (by decide) _ wr _ _ _ _ (0 + pm) qm ([] ++ p) q wr.heap.size rfl rfl (by rfl) (by rfl) HC.out.1 HP.out.2.2.2 (HP.out.2.1.ext (H7.out.2.trans HC.out.2)) (by have := HM.out; omega) HC.out.2 (Nat.le_refl _) HC.out.2.size ?_; intro v9 w9 O9 E9 _ _; have HD : Hid (w9.ownsRow wr.heap.size 24 2 v9 (0 + pm + qm) ((([] : List Pl) ++ p ++ q).flatMap cP) ∧ Ext wr w9) := ⟨O9, E9⟩; clear O9 E9) | (at_builtin; refine app_g eltP cP_len cP_one (by decide) _ wr _ _ _ _ 0 pm [] (p) wr.heap.size rfl rfl (by rfl) (by rfl) (own_new wr wr (Nat.le_refl _)) HP.out.2.2.1 ((HP.out.1.ext H7.out.2).ext ((Ext.refl _).alloc _)) (by have := HM.out; omega) ((Ext.refl wr).alloc _) (Nat.le_refl _) (((Ext.refl wr).alloc _)).size ?_; intro v9 w9 O9 E9 _ _; have HC : Hid (w9.ownsRow wr.heap.size 24 2 v9 (0 + pm) ((([] : List Pl) ++ p).flatMap cP) ∧ Ext wr w9) := ⟨O9, E9⟩; clear O9 E9))
     refine (cR _ _ (p ++ q) (H7.out.2.trans HD.out.2) (own_rdG cP_len (by simpa using HD.out.1) (by simp [HP.out.2.2.1, HP.out.2.2.2])) (by have := HM0.out; simp; omega)).mono ?_
     rintro e w10 ⟨cc, hc, vc, rfl, O10, E10⟩
     have hcl : cc.length ≤ 100 := by have := hc.2.2; have := HM0.out; have := HN.out.1; simp at *; omega
     have e10 : cc = bb.foldl putP a := parts_eq H5.out.1 H6.out.1 hc
     have X10 : Ext wr w10 := HD.out.2.trans E10
     have cS := psame_any w10 vc u12 cc (bb.foldl putP a) (own_rdG cP_len O10 rfl) (H7.out.1.ext X10) (by omega)
     rw [show decide (cc = bb.foldl putP a) = true by simpa using e10] at cS
     have H10 : Hid (IsRch (actK l0 30) (p ++ q) cc ∧ RdP w10 vc cc ∧ Ext w4 w10 ∧ cc.length ≤ 100) := ⟨hc, own_rdG cP_len O10 rfl, H7.out.2.trans X10, hcl⟩
     clear hc O10 E10 hcl e10 X10
     go_wp2_with fail
     refine cS.mono ?_
     rintro e w11 ⟨rfl, E11⟩
     have R11 := H10.out.2.1.ext E11
     have HE11 : Hid (Ext w4 w11 ∧ RdP w11 vc cc) := ⟨H10.out.2.2.1.trans E11, R11⟩
     clear cS E11 R11
     go_wp2_with fail
     refine (cR _ _ cc HE11.out.1 HE11.out.2 (by have := H10.out.2.2.2; omega)).mono ?_
     rintro e w12 ⟨dd, hd, vd, rfl, O12, E12⟩
     have e12 : dd = cc := again_eq HN.out.2 H10.out.1 hd
     subst e12
     have cT := psame_any w12 vd vc dd dd (own_rdG cP_len O12 rfl) (HE11.out.2.ext E12) (by have := H10.out.2.2.2; omega)
     rw [show decide (dd = dd) = true by simp] at cT
     have HE12 : Hid (Ext w4 w12) := HE11.out.1.trans E12
     clear hd O12 E12
     go_wp2_with fail
     refine cT.mono ?_
     rintro e w13 ⟨rfl, E13⟩
     have HE13 : Hid (Ext w4 w13) := HE12.out.trans E13
     clear cT E13
     go_wp2_with fail
     refine (lives_any w13).mono ?_
     rintro e w14 ⟨rfl, E14⟩
     have HE14 : Hid (Ext w w14) := HE2.out.trans (HE13.out.trans E14)
     clear E14
     go_wp2_with fail
     go_ret
     exact ⟨rfl, HE14.out⟩
theorem laidOut : laidOutB Try.prog = true := by kernel_rfl
set_option maxRecDepth 100000 in
theorem lifted (os : Os) (started : os.Started) (H : Type) (enc : TypeId × Value → H) :
   ReturnsInHanded {} Try.checked os 5 .any (Rows.depsPartsSpec.pre6 enc Try.prog Try.f5 Rows.depsPartsRow.domain false) (Rows.depsPartsSpec.post enc Try.prog Try.f5 false true false false) := by
 refine returnsInHanded_of_change (C := Try.checked) own started (by kernel_rfl) Try.func5
   (ChangeSpec.witness6 (enc := enc) (C := Try.checked) false ⟨#[], #[.slice none 0 0, .slice none 0 0, .slice none 0 0], []⟩ 8 (by kernel_rfl) (by kernel_rfl) (by kernel_rfl) (by kernel_rfl)) ?_
 intro W base args ds gs before hval0 hW hcnd _
 have hval : ∀ (j : Nat) t v, Try.f5.params[j]? = some t → args[j]? = some v → Value.okWide Try.prog W .any base t v := hval0
 have hW' := hW
 obtain ⟨p, q, hA0, hV, rfl, hfz, hnd⟩ := hW
 have hA : DataW.TrodAll enc Try.prog W 0 (fun _ => true) true Try.f5.params.toList args.toList ds p := hA0
 rw [Try.params5] at hA hval
 obtain ⟨v0, vs0, d0, ds0, p0, q0, hargs, rfl, rfl, h0, r0⟩ := trodAll_cons hA
 obtain ⟨v1, vs1, d1, ds1, p1, q1, rfl, rfl, rfl, h1, r1⟩ := trodAll_cons r0
 obtain ⟨v2, vs2, d2, ds2, p2, q2, rfl, rfl, rfl, h2, r2⟩ := trodAll_cons r1
 obtain ⟨rfl, rfl, rfl⟩ := trodAll_nil r2
 obtain rfl : args = #[v0, v1, v2] := by cases args; simp_all
 obtain ⟨rfl, rfl⟩ := trodVars_none hV
 have j0 := h0
 have lt0 : ∀ x ∈ p0, x.block < W.heap.size := by obtain ⟨m, hm⟩ := j0; exact DataW.trod_lt m _ _ _ hm
 obtain ⟨pp0, ln0, cl0, rfl⟩ := okWide_slice Try.underlying22 (hval 0 22 v0 rfl rfl)
 obtain ⟨l0, rd0, az0⟩ : ∃ l, RdG cZ 3 W (.slice pp0 ln0 cl0) l ∧ ∀ z ∈ l, RdR W z.v z.e.2 := by
   obtain ⟨fuel, hf⟩ := h0
   exact open_acts hf
 have j1 := h1
 have lt1 : ∀ x ∈ p1, x.block < W.heap.size := by obtain ⟨m, hm⟩ := j1; exact DataW.trod_lt m _ _ _ hm
 obtain ⟨pp1, ln1, cl1, rfl⟩ := okWide_slice Try.underlying34 (hval 1 34 v1 rfl rfl)
 obtain ⟨l1, rd1⟩ : ∃ l, RdP W (.slice pp1 ln1 cl1) l := by
   obtain ⟨fuel, hf⟩ := h1
   exact open_pls hf
 have j2 := h2
 have lt2 : ∀ x ∈ p2, x.block < W.heap.size := by obtain ⟨m, hm⟩ := j2; exact DataW.trod_lt m _ _ _ hm
 obtain ⟨pp2, ln2, cl2, rfl⟩ := okWide_slice Try.underlying34 (hval 2 34 v2 rfl rfl)
 obtain ⟨l2, rd2⟩ : ∃ l, RdP W (.slice pp2 ln2 cl2) l := by
   obtain ⟨fuel, hf⟩ := h2
   exact open_pls hf
 clear hA0 hval0
 refine (walk l0 pp0 ln0 cl0 l1 pp1 ln1 cl1 l2 pp2 ln2 cl2 rd0 az0 rd1 rd2).mono fun e W' ⟨he, bel⟩ => ?_
 subst he
 exact ⟨_, rfl, _, _, _, [], _, [], hW', trodAll_mk1 (shut_bool Try.underlying4 _), (trodAll_cons_mk (Below.trod laidOut (by kernel_rfl) (of_decide_eq_true (by kernel_rfl)) j0 bel lt0) (trodAll_cons_mk (Below.trod laidOut (by kernel_rfl) (of_decide_eq_true (by kernel_rfl)) j1 bel lt1) (trodAll_cons_mk (Below.trod laidOut (by kernel_rfl) (of_decide_eq_true (by kernel_rfl)) j2 bel lt2) trodAll_mk0))), rfl, Below.frame bel _, fun h => by cases h⟩

theorem over : Rows.depsPartsRow.holds Try.pinned (OpenSpec.ofChange Rows.depsPartsSpec) :=
 OpenClaim.holds_of_wide 5 Try.f5 rfl rfl rfl rfl rfl rfl rfl ⟨rfl, rfl, rfl, rfl, rfl⟩ rfl rfl rfl rfl rfl (by kernel_rfl) Try.func5 (by kernel_rfl)
   (of_decide_eq_true (by kernel_rfl)) (by unfold Func.isWrapper; first | (rw [if_pos (by decide +kernel)]; kernel_rfl) | (rw [if_neg (by decide +kernel)]; exact ⟨rfl, rfl⟩))
   (fun os started H enc _ => lifted os started H enc)

theorem proved : Rows.DepsPartsSaid := over
end Go.Proofs.Ytjpiphnbadggoaa.depsParts
namespace Go.Proofs.Ytjpiphnbadggoaa
theorem depsParts_holds : Rows.DepsPartsSaid := depsParts.proved
end Go.Proofs.Ytjpiphnbadggoaa
