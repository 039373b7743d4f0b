/-
  SpanHas is proved: a number is in either list, both, or the first alone, just as it is in what comes of them, for every two lists of spans and every int. No condition but the form's own reach.
-/
import Derived.Test.YtplidbcifljfoaaSpR
namespace Go.Proofs.Ytplidbcifljfoaa.spanHas
open Go.ChangeShapes Go.WideShapes Go.ChangeAt Go.RowKit
set_option maxHeartbeats 4000000

set_option maxRecDepth 100000 in
theorem walk (va : Value) (a : List Sp) (vb : Value) (b : List Sp) (n : Int) (w0 : World) (ha : Ra w0 va a) (aa : AllI a) (ba : a.length ≤ 9223372036854775807) (hb : Ra w0 vb b) (ab : AllI b) (bb : b.length ≤ 9223372036854775807) (_ : I64 n) :
    Calls Try.prog 4 #[va, vb, .int .i64 n] w0 fun e w' => e = .returned (.bool true) ∧ Ext w0 w' := by
  have RRa : Hid (Ra w0 va a) := ha
  have Ha : Hid (AllI a) := aa
  have Na : Hid (a.length ≤ 9223372036854775807) := ba
  have RRb : Hid (Ra w0 vb b) := hb
  have Hb : Hid (AllI b) := ab
  have Nb : Hid (b.length ≤ 9223372036854775807) := bb
  clear ha aa ba hb ab bb
  go_enter Try.func4, Try.ntmps4
  go_wp2_with fail
  refine (few_any _ _ a (RRa.out.ext (Ext.refl _)) Na.out).mono ?_
  rintro e w1 ⟨⟨f1, rfl, R⟩, hw⟩
  have HX1 : Hid (Ext w0 w1) := by rw [hw]; exact Ext.refl _
  have HF2 : Hid (Ra w1 f1 (a.take 60)) := R
  clear hw
  clear R
  go_wp2_with fail
  refine (few_any _ _ b (RRb.out.ext HX1.out) Nb.out).mono ?_
  rintro e w2 ⟨⟨f3, rfl, R⟩, hw⟩
  have HX2 : Hid (Ext w1 w2) := by rw [hw]; exact Ext.refl _
  have HF4 : Hid (Ra w2 f3 (b.take 60)) := R
  clear hw
  clear R
  go_wp2_with fail
  refine (rhas_any _ _ (a.take 60) n (HF2.out.ext HX2.out) (by have := (len60 a); omega)).mono ?_
  rintro e w3 ⟨rfl, E⟩
  have HX3 : Hid (Ext w2 w3) := E
  clear E
  go_wp2_with fail
  refine (rhas_any _ _ (b.take 60) n (HF4.out.ext HX3.out) (by have := (len60 b); omega)).mono ?_
  rintro e w4 ⟨rfl, E⟩
  have HX4 : Hid (Ext w3 w4) := E
  clear E
  have HV : Hid (∃ x y, hasB (a.take 60) n = x ∧ hasB (b.take 60) n = y) := ⟨_, _, rfl, rfl⟩
  obtain ⟨x, y, ex, ey⟩ := HV.out
  have HXY : Hid (hasB (a.take 60) n = x ∧ hasB (b.take 60) n = y) := ⟨ex, ey⟩
  rw [ex, ey]
  clear HV ex ey
  cases x <;> cases y
  all_goals
    go_wp2_with fail
    refine (own_any _ _ (a.take 60) (HF2.out.ext ((HX2.out.trans HX3.out).trans HX4.out)) (by have := (len60 a); omega)).mono ?_
    rintro e w5 ⟨o5, rfl, O, E⟩
    have HX5 : Hid (Ext w4 w5) := E
    have HO6 : Hid (Rd w5 o5 (a.take 60)) := O.rd
    clear O E
    go_wp2_with fail
    refine (has_any _ _ (a.take 60) n (HO6.out.ext (Ext.refl _)) (by have := (len60 a); omega)).mono ?_
    rintro e w6 ⟨rfl, E⟩
    have HX6 : Hid (Ext w5 w6) := E
    clear E
    rw [HXY.out.1]
    go_wp2_with fail
    refine (own_any _ _ (a.take 60) (HF2.out.ext ((((HX2.out.trans HX3.out).trans HX4.out).trans HX5.out).trans HX6.out)) (by have := (len60 a); omega)).mono ?_
    rintro e w7 ⟨o7, rfl, O, E⟩
    have HX7 : Hid (Ext w6 w7) := E
    have HO8 : Hid (Rd w7 o7 (a.take 60)) := O.rd
    clear O E
    go_wp2_with fail
    refine (own_any _ _ (b.take 60) (HF4.out.ext ((((HX3.out.trans HX4.out).trans HX5.out).trans HX6.out).trans HX7.out)) (by have := (len60 b); omega)).mono ?_
    rintro e w8 ⟨o9, rfl, O, E⟩
    have HX8 : Hid (Ext w7 w8) := E
    have HO10 : Hid (Rd w8 o9 (b.take 60)) := O.rd
    clear O E
    go_wp2_with fail
    refine (union_any _ _ _ (a.take 60) (b.take 60) (HO8.out.ext HX8.out) (HO10.out.ext (Ext.refl _)) (by have := (len60 a); omega) (by have := (len60 b); omega) (AllI.take Ha.out) (AllI.take Hb.out)).mono ?_
    rintro e w9 ⟨s11, r12, rfl, k1, k2, k3, k4, k5, E⟩
    have HX9 : Hid (Ext w8 w9) := E
    have HS13 : Hid (Rd w9 s11 r12) := k1.rd
    have HP14 : Hid (Plain r12 ∧ (∀ n, hasB r12 n = (hasB (a.take 60) n || hasB (b.take 60) n)) ∧ AllI r12 ∧ r12.length ≤ 121) := ⟨k2, k3, k4, by have := k5; have := (len60 a); have := (len60 b); omega⟩
    clear k1 k2 k3 k4 k5 E
    go_wp2_with fail
    refine (has_any _ _ r12 n (HS13.out.ext (Ext.refl _)) (by have := HP14.out.2.2.2; omega)).mono ?_
    rintro e w10 ⟨rfl, E⟩
    have HX10 : Hid (Ext w9 w10) := E
    clear E
    rw [HP14.out.2.1, HXY.out.1, HXY.out.2]
    go_wp2_with fail
    refine (own_any _ _ (a.take 60) (HF2.out.ext ((((((((HX2.out.trans HX3.out).trans HX4.out).trans HX5.out).trans HX6.out).trans HX7.out).trans HX8.out).trans HX9.out).trans HX10.out)) (by have := (len60 a); omega)).mono ?_
    rintro e w11 ⟨o15, rfl, O, E⟩
    have HX11 : Hid (Ext w10 w11) := E
    have HO16 : Hid (Rd w11 o15 (a.take 60)) := O.rd
    clear O E
    go_wp2_with fail
    refine (own_any _ _ (b.take 60) (HF4.out.ext ((((((((HX3.out.trans HX4.out).trans HX5.out).trans HX6.out).trans HX7.out).trans HX8.out).trans HX9.out).trans HX10.out).trans HX11.out)) (by have := (len60 b); omega)).mono ?_
    rintro e w12 ⟨o17, rfl, O, E⟩
    have HX12 : Hid (Ext w11 w12) := E
    have HO18 : Hid (Rd w12 o17 (b.take 60)) := O.rd
    clear O E
    go_wp2_with fail
    refine (meet_any _ _ _ (a.take 60) (b.take 60) (HO16.out.ext HX12.out) (HO18.out.ext (Ext.refl _)) (by have := (len60 a); omega) (by have := (len60 b); omega) (AllI.take Ha.out) (AllI.take Hb.out)).mono ?_
    rintro e w13 ⟨s19, r20, rfl, k1, k2, k3, k4, k5, E⟩
    have HX13 : Hid (Ext w12 w13) := E
    have HS21 : Hid (Rd w13 s19 r20) := k1.rd
    have HP22 : Hid (Plain r20 ∧ (∀ n, hasB r20 n = (hasB (a.take 60) n && hasB (b.take 60) n)) ∧ AllI r20 ∧ r20.length ≤ 121) := ⟨k2, k3, k4, by have := k5; have := (len60 a); have := (len60 b); omega⟩
    clear k1 k2 k3 k4 k5 E
    go_wp2_with fail
    refine (has_any _ _ r20 n (HS21.out.ext (Ext.refl _)) (by have := HP22.out.2.2.2; omega)).mono ?_
    rintro e w14 ⟨rfl, E⟩
    have HX14 : Hid (Ext w13 w14) := E
    clear E
    rw [HP22.out.2.1, HXY.out.1, HXY.out.2]
    go_wp2_with fail
    refine (own_any _ _ (a.take 60) (HF2.out.ext ((((((((((((HX2.out.trans HX3.out).trans HX4.out).trans HX5.out).trans HX6.out).trans HX7.out).trans HX8.out).trans HX9.out).trans HX10.out).trans HX11.out).trans HX12.out).trans HX13.out).trans HX14.out)) (by have := (len60 a); omega)).mono ?_
    rintro e w15 ⟨o23, rfl, O, E⟩
    have HX15 : Hid (Ext w14 w15) := E
    have HO24 : Hid (Rd w15 o23 (a.take 60)) := O.rd
    clear O E
    go_wp2_with fail
    refine (own_any _ _ (b.take 60) (HF4.out.ext ((((((((((((HX3.out.trans HX4.out).trans HX5.out).trans HX6.out).trans HX7.out).trans HX8.out).trans HX9.out).trans HX10.out).trans HX11.out).trans HX12.out).trans HX13.out).trans HX14.out).trans HX15.out)) (by have := (len60 b); omega)).mono ?_
    rintro e w16 ⟨o25, rfl, O, E⟩
    have HX16 : Hid (Ext w15 w16) := E
    have HO26 : Hid (Rd w16 o25 (b.take 60)) := O.rd
    clear O E
    go_wp2_with fail
    refine (minus_any _ _ _ (a.take 60) (b.take 60) (HO24.out.ext HX16.out) (HO26.out.ext (Ext.refl _)) (by have := (len60 a); omega) (by have := (len60 b); omega) (AllI.take Ha.out) (AllI.take Hb.out)).mono ?_
    rintro e w17 ⟨s27, r28, rfl, k1, k2, k3, k4, k5, E⟩
    have HX17 : Hid (Ext w16 w17) := E
    have HS29 : Hid (Rd w17 s27 r28) := k1.rd
    have HP30 : Hid (Plain r28 ∧ (∀ n, hasB r28 n = (hasB (a.take 60) n && !hasB (b.take 60) n)) ∧ AllI r28 ∧ r28.length ≤ 121) := ⟨k2, k3, k4, by have := k5; have := (len60 a); have := (len60 b); omega⟩
    clear k1 k2 k3 k4 k5 E
    go_wp2_with fail
    refine (has_any _ _ r28 n (HS29.out.ext (Ext.refl _)) (by have := HP30.out.2.2.2; omega)).mono ?_
    rintro e w18 ⟨rfl, E⟩
    have HX18 : Hid (Ext w17 w18) := E
    clear E
    rw [HP30.out.2.1, HXY.out.1, HXY.out.2]
    go_wp2_with fail
    refine (lives_any _).mono ?_
    rintro e w19 ⟨rfl, E⟩
    have HX19 : Hid (Ext w18 w19) := E
    clear E
    go_wp2
    go_ret
    exact ⟨rfl, ((((((((((((((((((HX1.out.trans HX2.out).trans HX3.out).trans HX4.out).trans HX5.out).trans HX6.out).trans HX7.out).trans HX8.out).trans HX9.out).trans HX10.out).trans HX11.out).trans HX12.out).trans HX13.out).trans HX14.out).trans HX15.out).trans HX16.out).trans HX17.out).trans HX18.out).trans HX19.out)⟩

set_option maxRecDepth 100000 in
theorem lifted (os : Os) (started : os.Started) (H : Type) (enc : TypeId × Value → H) :
    ReturnsInHanded {} Try.checked os 4 .any (Rows.spanHasSpec.pre6 enc Try.prog Try.f4 Rows.spanHasRow.domain false) (Rows.spanHasSpec.post enc Try.prog Try.f4 false true false false) := by
  refine returnsInHanded_of_change (C := Try.checked) own5 started (by kernel_rfl) Try.func4
    (ChangeSpec.witness6 (enc := enc) (C := Try.checked) false ⟨#[], #[.slice none 0 0, .slice none 0 0, .int .i64 0], []⟩ 8 (by kernel_rfl) (by kernel_rfl) (by kernel_rfl) (by kernel_rfl)) ?_
  intro W base args ds gs before hval0 hW hcnd _
  have hval : ∀ (j : Nat) t v, Try.f4.params[j]? = some t → args[j]? = some v → Value.okWide Try.prog W .any base t v := hval0
  have hW' := hW
  obtain ⟨p, q, hA0, hV, rfl, hfz, hnd⟩ := hW
  have hA : DataW.TrodAll enc Try.prog W 0 (fun _ => true) true Try.f4.params.toList args.toList ds p := hA0
  rw [Try.params4] at hA hval
  obtain ⟨v0, vs0, d0, ds0, p0, q0, hargs, rfl, rfl, h0, r0⟩ := trodAll_cons hA
  obtain ⟨v1, vs1, d1, ds1, p1, q1, rfl, rfl, rfl, h1, r1⟩ := trodAll_cons r0
  obtain ⟨v2, vs2, d2, ds2, p2, q2, rfl, rfl, rfl, h2, r2⟩ := trodAll_cons r1
  obtain ⟨rfl, rfl, rfl⟩ := trodAll_nil r2
  obtain rfl : args = #[v0, v1, v2] := by cases args; simp_all
  obtain ⟨rfl, rfl⟩ := trodVars_none hV
  have k0 := h0
  have lt0 : ∀ x ∈ p0, x.block < W.heap.size := by obtain ⟨m, hm⟩ := k0; exact DataW.trod_lt m _ _ _ hm
  obtain ⟨a0, n0, c0, rfl⟩ := okWide_slice Try.underlying22 (hval 0 22 v0 rfl rfl)
  obtain ⟨l0, R0, A0, B0⟩ : ∃ l, Ra W (.slice a0 n0 c0) l ∧ AllI l ∧ l.length ≤ 9223372036854775807 := by
    obtain ⟨fuel, hf⟩ := h0
    exact rd_open hf
  have k1 := h1
  have lt1 : ∀ x ∈ p1, x.block < W.heap.size := by obtain ⟨m, hm⟩ := k1; exact DataW.trod_lt m _ _ _ hm
  obtain ⟨a1, n1, c1, rfl⟩ := okWide_slice Try.underlying22 (hval 1 22 v1 rfl rfl)
  obtain ⟨l1, R1, A1, B1⟩ : ∃ l, Ra W (.slice a1 n1 c1) l ∧ AllI l ∧ l.length ≤ 9223372036854775807 := by
    obtain ⟨fuel, hf⟩ := h1
    exact rd_open hf
  obtain ⟨a2, rfl, rfl, rfl, w2⟩ := open_int Try.underlying3 (hval 2 3 v2 rfl rfl) h2
  clear hA0 hval0
  refine (walk _ l0 _ l1 a2 W R0 A0 B0 R1 A1 B1 (i64_of_wf w2)).mono fun e W' ⟨he, bel⟩ => ?_
  subst he
  exact ⟨_, rfl, _, _, _, [], _, [], hW', trodAll_mk1 (shut_bool Try.underlying4 _), (trodAll_cons_mk (Below.trod laidOut5 (by kernel_rfl) (of_decide_eq_true (by kernel_rfl)) k0 bel lt0) (trodAll_cons_mk (Below.trod laidOut5 (by kernel_rfl) (of_decide_eq_true (by kernel_rfl)) k1 bel lt1) (trodAll_cons_mk (shut_int Try.underlying3 w2) trodAll_mk0))), rfl, Below.frame bel _, fun h => by cases h⟩

theorem over : Rows.spanHasRow.holds Try.pinned (OpenSpec.ofChange Rows.spanHasSpec) :=
  OpenClaim.holds_of_wide 4 Try.f4 rfl rfl rfl rfl rfl rfl rfl ⟨rfl, rfl, rfl, rfl, rfl⟩ rfl rfl rfl rfl rfl (by kernel_rfl) Try.func4 (by kernel_rfl)
    (of_decide_eq_true (by kernel_rfl)) (by unfold Func.isWrapper; first | (rw [if_pos (by decide +kernel)]; kernel_rfl) | (rw [if_neg (by decide +kernel)]; exact ⟨rfl, rfl⟩))
    (fun os started H enc _ => lifted os started H enc)

theorem proved : Rows.SpanHasSaid := over
end Go.Proofs.Ytplidbcifljfoaa.spanHas
namespace Go.Proofs.Ytplidbcifljfoaa
theorem spanHas_holds : Rows.SpanHasSaid := spanHas.proved
end Go.Proofs.Ytplidbcifljfoaa
