/-
  SpanSets is proved: what lists of spans are together, what both have, and what the first alone has, is in plain form as the document says, for every two lists of spans. No condition but the form's own reach.
-/
import Derived.Test.YtplidbcifljfoaaSpR
import Derived.Test.YtplidbcifljfoaaSpP
namespace Go.Proofs.Ytplidbcifljfoaa.spanSets
open Go.ChangeShapes Go.WideShapes Go.ChangeAt Go.RowKit
set_option maxHeartbeats 4000000

set_option maxRecDepth 100000 in
theorem walk (va : Value) (a : List Sp) (vb : Value) (b : List Sp) (w0 : World) (ha : Ra w0 va a) (aa : AllI a) (ba : a.length ≤ 9223372036854775807) (hb : Ra w0 vb b) (ab : AllI b) (bb : b.length ≤ 9223372036854775807) :
    Calls Try.prog 3 #[va, vb] w0 fun e w' => e = .returned (.bool true) ∧ Ext w0 w' := by
  have RRa : Hid (Ra w0 va a) := ha
  have Ha : Hid (AllI a) := aa
  have Na : Hid (a.length ≤ 9223372036854775807) := ba
  have RRb : Hid (Ra w0 vb b) := hb
  have Hb : Hid (AllI b) := ab
  have Nb : Hid (b.length ≤ 9223372036854775807) := bb
  clear ha aa ba hb ab bb
  go_enter Try.func3, Try.ntmps3
  go_wp2_with fail
  refine (few_any _ _ a (RRa.out.ext (Ext.refl _)) Na.out).mono ?_
  rintro e w1 ⟨⟨f1, rfl, R⟩, hw⟩
  have HX1 : Hid (Ext w0 w1) := by rw [hw]; exact Ext.refl _
  have HF2 : Hid (Ra w1 f1 (a.take 60)) := R
  clear hw
  clear R
  go_wp2_with fail
  refine (few_any _ _ b (RRb.out.ext HX1.out) Nb.out).mono ?_
  rintro e w2 ⟨⟨f3, rfl, R⟩, hw⟩
  have HX2 : Hid (Ext w1 w2) := by rw [hw]; exact Ext.refl _
  have HF4 : Hid (Ra w2 f3 (b.take 60)) := R
  clear hw
  clear R
  go_wp2_with fail
  refine (own_any _ _ (a.take 60) (HF2.out.ext HX2.out) (by have := (len60 a); omega)).mono ?_
  rintro e w3 ⟨o5, rfl, O, E⟩
  have HX3 : Hid (Ext w2 w3) := E
  have HO6 : Hid (Rd w3 o5 (a.take 60)) := O.rd
  clear O E
  go_wp2_with fail
  refine (norm_any _ _ (a.take 60) (HO6.out.ext (Ext.refl _)) (by have := (len60 a); omega) (AllI.take Ha.out)).mono ?_
  rintro e w4 ⟨s7, r8, rfl, k1, k2, k3, k4, k5, E⟩
  have HX4 : Hid (Ext w3 w4) := E
  have HS9 : Hid (Rd w4 s7 r8) := k1.rd
  have HP10 : Hid (Plain r8 ∧ (∀ n, hasB r8 n = hasB (a.take 60) n) ∧ AllI r8 ∧ r8.length ≤ 60) := ⟨k2, k3, k4, by have := k5; have := (len60 a); omega⟩
  clear k1 k2 k3 k4 k5 E
  go_wp2_with fail
  refine (by_any _ 0 _ _ (a.take 60) [] (by decide) (HF2.out.ext ((HX2.out.trans HX3.out).trans HX4.out)) (.inl (Rd.nil _)) (by have := (len60 a); omega) (by simp) (AllI.take Ha.out) (by intro s hs; simp at hs)).mono ?_
  rintro e w5 ⟨s11, r12, rfl, k1, k2, k3, k4, k5, E⟩
  have HX5 : Hid (Ext w4 w5) := E
  have HS13 : Hid (Rd w5 s11 r12) := k1.rd
  have HP14 : Hid (Plain r12 ∧ (∀ n, hasB r12 n = fOf 0 (a.take 60) [] n) ∧ AllI r12 ∧ r12.length ≤ 240) := ⟨k2, k3, k4, by have := k5; have := (len60 a); have : ([] : List Sp).length = 0 := rfl; omega⟩
  clear k1 k2 k3 k4 k5 E
  go_wp2_with fail
  refine (same_any _ _ _ r8 r12 (HS9.out.ext HX5.out) (HS13.out.ext (Ext.refl _)) (by have := HP10.out.2.2.2; omega) (by have := HP14.out.2.2.2; omega)).mono ?_
  rintro e w6 ⟨rfl, E⟩
  have HX6 : Hid (Ext w5 w6) := E
  clear E
  have hd : decide (r8 = r12) = true := by rw [decide_eq_true_eq]; exact plain_one HP10.out.1 HP14.out.1 (fun n => by rw [HP10.out.2.1, HP14.out.2.1]; exact (Bool.or_false _).symm)
  rw [hd]
  clear hd
  go_wp2_with fail
  refine (own_any _ _ (a.take 60) (HF2.out.ext ((((HX2.out.trans HX3.out).trans HX4.out).trans HX5.out).trans HX6.out)) (by have := (len60 a); omega)).mono ?_
  rintro e w7 ⟨o15, rfl, O, E⟩
  have HX7 : Hid (Ext w6 w7) := E
  have HO16 : Hid (Rd w7 o15 (a.take 60)) := O.rd
  clear O E
  go_wp2_with fail
  refine (own_any _ _ (b.take 60) (HF4.out.ext ((((HX3.out.trans HX4.out).trans HX5.out).trans HX6.out).trans HX7.out)) (by have := (len60 b); omega)).mono ?_
  rintro e w8 ⟨o17, rfl, O, E⟩
  have HX8 : Hid (Ext w7 w8) := E
  have HO18 : Hid (Rd w8 o17 (b.take 60)) := O.rd
  clear O E
  go_wp2_with fail
  refine (union_any _ _ _ (a.take 60) (b.take 60) (HO16.out.ext HX8.out) (HO18.out.ext (Ext.refl _)) (by have := (len60 a); omega) (by have := (len60 b); omega) (AllI.take Ha.out) (AllI.take Hb.out)).mono ?_
  rintro e w9 ⟨s19, r20, rfl, k1, k2, k3, k4, k5, E⟩
  have HX9 : Hid (Ext w8 w9) := E
  have HS21 : Hid (Rd w9 s19 r20) := k1.rd
  have HP22 : Hid (Plain r20 ∧ (∀ n, hasB r20 n = (hasB (a.take 60) n || hasB (b.take 60) n)) ∧ AllI r20 ∧ r20.length ≤ 121) := ⟨k2, k3, k4, by have := k5; have := (len60 a); have := (len60 b); omega⟩
  clear k1 k2 k3 k4 k5 E
  go_wp2_with fail
  refine (by_any _ 0 _ _ (a.take 60) (b.take 60) (by decide) (HF2.out.ext (((((((HX2.out.trans HX3.out).trans HX4.out).trans HX5.out).trans HX6.out).trans HX7.out).trans HX8.out).trans HX9.out)) (HF4.out.ext ((((((HX3.out.trans HX4.out).trans HX5.out).trans HX6.out).trans HX7.out).trans HX8.out).trans HX9.out)) (by have := (len60 a); omega) (by have := (len60 b); omega) (AllI.take Ha.out) (AllI.take Hb.out)).mono ?_
  rintro e w10 ⟨s23, r24, rfl, k1, k2, k3, k4, k5, E⟩
  have HX10 : Hid (Ext w9 w10) := E
  have HS25 : Hid (Rd w10 s23 r24) := k1.rd
  have HP26 : Hid (Plain r24 ∧ (∀ n, hasB r24 n = fOf 0 (a.take 60) (b.take 60) n) ∧ AllI r24 ∧ r24.length ≤ 240) := ⟨k2, k3, k4, by have := k5; have := (len60 a); have := (len60 b); omega⟩
  clear k1 k2 k3 k4 k5 E
  go_wp2_with fail
  refine (same_any _ _ _ r20 r24 (HS21.out.ext HX10.out) (HS25.out.ext (Ext.refl _)) (by have := HP22.out.2.2.2; omega) (by have := HP26.out.2.2.2; omega)).mono ?_
  rintro e w11 ⟨rfl, E⟩
  have HX11 : Hid (Ext w10 w11) := E
  clear E
  have hd : decide (r20 = r24) = true := by rw [decide_eq_true_eq]; exact plain_one HP22.out.1 HP26.out.1 (fun n => by rw [HP22.out.2.1, HP26.out.2.1]; rfl)
  rw [hd]
  clear hd
  go_wp2_with fail
  refine (own_any _ _ (a.take 60) (HF2.out.ext (((((((((HX2.out.trans HX3.out).trans HX4.out).trans HX5.out).trans HX6.out).trans HX7.out).trans HX8.out).trans HX9.out).trans HX10.out).trans HX11.out)) (by have := (len60 a); omega)).mono ?_
  rintro e w12 ⟨o27, rfl, O, E⟩
  have HX12 : Hid (Ext w11 w12) := E
  have HO28 : Hid (Rd w12 o27 (a.take 60)) := O.rd
  clear O E
  go_wp2_with fail
  refine (own_any _ _ (b.take 60) (HF4.out.ext (((((((((HX3.out.trans HX4.out).trans HX5.out).trans HX6.out).trans HX7.out).trans HX8.out).trans HX9.out).trans HX10.out).trans HX11.out).trans HX12.out)) (by have := (len60 b); omega)).mono ?_
  rintro e w13 ⟨o29, rfl, O, E⟩
  have HX13 : Hid (Ext w12 w13) := E
  have HO30 : Hid (Rd w13 o29 (b.take 60)) := O.rd
  clear O E
  go_wp2_with fail
  refine (meet_any _ _ _ (a.take 60) (b.take 60) (HO28.out.ext HX13.out) (HO30.out.ext (Ext.refl _)) (by have := (len60 a); omega) (by have := (len60 b); omega) (AllI.take Ha.out) (AllI.take Hb.out)).mono ?_
  rintro e w14 ⟨s31, r32, rfl, k1, k2, k3, k4, k5, E⟩
  have HX14 : Hid (Ext w13 w14) := E
  have HS33 : Hid (Rd w14 s31 r32) := k1.rd
  have HP34 : Hid (Plain r32 ∧ (∀ n, hasB r32 n = (hasB (a.take 60) n && hasB (b.take 60) n)) ∧ AllI r32 ∧ r32.length ≤ 121) := ⟨k2, k3, k4, by have := k5; have := (len60 a); have := (len60 b); omega⟩
  clear k1 k2 k3 k4 k5 E
  go_wp2_with fail
  refine (by_any _ 1 _ _ (a.take 60) (b.take 60) (by decide) (HF2.out.ext ((((((((((((HX2.out.trans HX3.out).trans HX4.out).trans HX5.out).trans HX6.out).trans HX7.out).trans HX8.out).trans HX9.out).trans HX10.out).trans HX11.out).trans HX12.out).trans HX13.out).trans HX14.out)) (HF4.out.ext (((((((((((HX3.out.trans HX4.out).trans HX5.out).trans HX6.out).trans HX7.out).trans HX8.out).trans HX9.out).trans HX10.out).trans HX11.out).trans HX12.out).trans HX13.out).trans HX14.out)) (by have := (len60 a); omega) (by have := (len60 b); omega) (AllI.take Ha.out) (AllI.take Hb.out)).mono ?_
  rintro e w15 ⟨s35, r36, rfl, k1, k2, k3, k4, k5, E⟩
  have HX15 : Hid (Ext w14 w15) := E
  have HS37 : Hid (Rd w15 s35 r36) := k1.rd
  have HP38 : Hid (Plain r36 ∧ (∀ n, hasB r36 n = fOf 1 (a.take 60) (b.take 60) n) ∧ AllI r36 ∧ r36.length ≤ 240) := ⟨k2, k3, k4, by have := k5; have := (len60 a); have := (len60 b); omega⟩
  clear k1 k2 k3 k4 k5 E
  go_wp2_with fail
  refine (same_any _ _ _ r32 r36 (HS33.out.ext HX15.out) (HS37.out.ext (Ext.refl _)) (by have := HP34.out.2.2.2; omega) (by have := HP38.out.2.2.2; omega)).mono ?_
  rintro e w16 ⟨rfl, E⟩
  have HX16 : Hid (Ext w15 w16) := E
  clear E
  have hd : decide (r32 = r36) = true := by rw [decide_eq_true_eq]; exact plain_one HP34.out.1 HP38.out.1 (fun n => by rw [HP34.out.2.1, HP38.out.2.1]; rfl)
  rw [hd]
  clear hd
  go_wp2_with fail
  refine (own_any _ _ (a.take 60) (HF2.out.ext ((((((((((((((HX2.out.trans HX3.out).trans HX4.out).trans HX5.out).trans HX6.out).trans HX7.out).trans HX8.out).trans HX9.out).trans HX10.out).trans HX11.out).trans HX12.out).trans HX13.out).trans HX14.out).trans HX15.out).trans HX16.out)) (by have := (len60 a); omega)).mono ?_
  rintro e w17 ⟨o39, rfl, O, E⟩
  have HX17 : Hid (Ext w16 w17) := E
  have HO40 : Hid (Rd w17 o39 (a.take 60)) := O.rd
  clear O E
  go_wp2_with fail
  refine (own_any _ _ (b.take 60) (HF4.out.ext ((((((((((((((HX3.out.trans HX4.out).trans HX5.out).trans HX6.out).trans HX7.out).trans HX8.out).trans HX9.out).trans HX10.out).trans HX11.out).trans HX12.out).trans HX13.out).trans HX14.out).trans HX15.out).trans HX16.out).trans HX17.out)) (by have := (len60 b); omega)).mono ?_
  rintro e w18 ⟨o41, rfl, O, E⟩
  have HX18 : Hid (Ext w17 w18) := E
  have HO42 : Hid (Rd w18 o41 (b.take 60)) := O.rd
  clear O E
  go_wp2_with fail
  refine (minus_any _ _ _ (a.take 60) (b.take 60) (HO40.out.ext HX18.out) (HO42.out.ext (Ext.refl _)) (by have := (len60 a); omega) (by have := (len60 b); omega) (AllI.take Ha.out) (AllI.take Hb.out)).mono ?_
  rintro e w19 ⟨s43, r44, rfl, k1, k2, k3, k4, k5, E⟩
  have HX19 : Hid (Ext w18 w19) := E
  have HS45 : Hid (Rd w19 s43 r44) := k1.rd
  have HP46 : Hid (Plain r44 ∧ (∀ n, hasB r44 n = (hasB (a.take 60) n && !hasB (b.take 60) n)) ∧ AllI r44 ∧ r44.length ≤ 121) := ⟨k2, k3, k4, by have := k5; have := (len60 a); have := (len60 b); omega⟩
  clear k1 k2 k3 k4 k5 E
  go_wp2_with fail
  refine (by_any _ 2 _ _ (a.take 60) (b.take 60) (by decide) (HF2.out.ext (((((((((((((((((HX2.out.trans HX3.out).trans HX4.out).trans HX5.out).trans HX6.out).trans HX7.out).trans HX8.out).trans HX9.out).trans HX10.out).trans HX11.out).trans HX12.out).trans HX13.out).trans HX14.out).trans HX15.out).trans HX16.out).trans HX17.out).trans HX18.out).trans HX19.out)) (HF4.out.ext ((((((((((((((((HX3.out.trans HX4.out).trans HX5.out).trans HX6.out).trans HX7.out).trans HX8.out).trans HX9.out).trans HX10.out).trans HX11.out).trans HX12.out).trans HX13.out).trans HX14.out).trans HX15.out).trans HX16.out).trans HX17.out).trans HX18.out).trans HX19.out)) (by have := (len60 a); omega) (by have := (len60 b); omega) (AllI.take Ha.out) (AllI.take Hb.out)).mono ?_
  rintro e w20 ⟨s47, r48, rfl, k1, k2, k3, k4, k5, E⟩
  have HX20 : Hid (Ext w19 w20) := E
  have HS49 : Hid (Rd w20 s47 r48) := k1.rd
  have HP50 : Hid (Plain r48 ∧ (∀ n, hasB r48 n = fOf 2 (a.take 60) (b.take 60) n) ∧ AllI r48 ∧ r48.length ≤ 240) := ⟨k2, k3, k4, by have := k5; have := (len60 a); have := (len60 b); omega⟩
  clear k1 k2 k3 k4 k5 E
  go_wp2_with fail
  refine (same_any _ _ _ r44 r48 (HS45.out.ext HX20.out) (HS49.out.ext (Ext.refl _)) (by have := HP46.out.2.2.2; omega) (by have := HP50.out.2.2.2; omega)).mono ?_
  rintro e w21 ⟨rfl, E⟩
  have HX21 : Hid (Ext w20 w21) := E
  clear E
  have hd : decide (r44 = r48) = true := by rw [decide_eq_true_eq]; exact plain_one HP46.out.1 HP50.out.1 (fun n => by rw [HP46.out.2.1, HP50.out.2.1]; rfl)
  rw [hd]
  clear hd
  go_wp2_with fail
  refine (lives_any _).mono ?_
  rintro e w22 ⟨rfl, E⟩
  have HX22 : Hid (Ext w21 w22) := E
  clear E
  go_wp2
  go_ret
  exact ⟨rfl, (((((((((((((((((((((HX1.out.trans HX2.out).trans HX3.out).trans HX4.out).trans HX5.out).trans HX6.out).trans HX7.out).trans HX8.out).trans HX9.out).trans HX10.out).trans HX11.out).trans HX12.out).trans HX13.out).trans HX14.out).trans HX15.out).trans HX16.out).trans HX17.out).trans HX18.out).trans HX19.out).trans HX20.out).trans HX21.out).trans HX22.out)⟩

set_option maxRecDepth 100000 in
theorem lifted (os : Os) (started : os.Started) (H : Type) (enc : TypeId × Value → H) :
    ReturnsInHanded {} Try.checked os 3 .any (Rows.spanSetsSpec.pre6 enc Try.prog Try.f3 Rows.spanSetsRow.domain false) (Rows.spanSetsSpec.post enc Try.prog Try.f3 false true false false) := by
  refine returnsInHanded_of_change (C := Try.checked) own5 started (by kernel_rfl) Try.func3
    (ChangeSpec.witness6 (enc := enc) (C := Try.checked) false ⟨#[], #[.slice none 0 0, .slice none 0 0], []⟩ 8 (by kernel_rfl) (by kernel_rfl) (by kernel_rfl) (by kernel_rfl)) ?_
  intro W base args ds gs before hval0 hW hcnd _
  have hval : ∀ (j : Nat) t v, Try.f3.params[j]? = some t → args[j]? = some v → Value.okWide Try.prog W .any base t v := hval0
  have hW' := hW
  obtain ⟨p, q, hA0, hV, rfl, hfz, hnd⟩ := hW
  have hA : DataW.TrodAll enc Try.prog W 0 (fun _ => true) true Try.f3.params.toList args.toList ds p := hA0
  rw [Try.params3] at hA hval
  obtain ⟨v0, vs0, d0, ds0, p0, q0, hargs, rfl, rfl, h0, r0⟩ := trodAll_cons hA
  obtain ⟨v1, vs1, d1, ds1, p1, q1, rfl, rfl, rfl, h1, r1⟩ := trodAll_cons r0
  obtain ⟨rfl, rfl, rfl⟩ := trodAll_nil r1
  obtain rfl : args = #[v0, v1] := by cases args; simp_all
  obtain ⟨rfl, rfl⟩ := trodVars_none hV
  have k0 := h0
  have lt0 : ∀ x ∈ p0, x.block < W.heap.size := by obtain ⟨m, hm⟩ := k0; exact DataW.trod_lt m _ _ _ hm
  obtain ⟨a0, n0, c0, rfl⟩ := okWide_slice Try.underlying22 (hval 0 22 v0 rfl rfl)
  obtain ⟨l0, R0, A0, B0⟩ : ∃ l, Ra W (.slice a0 n0 c0) l ∧ AllI l ∧ l.length ≤ 9223372036854775807 := by
    obtain ⟨fuel, hf⟩ := h0
    exact rd_open hf
  have k1 := h1
  have lt1 : ∀ x ∈ p1, x.block < W.heap.size := by obtain ⟨m, hm⟩ := k1; exact DataW.trod_lt m _ _ _ hm
  obtain ⟨a1, n1, c1, rfl⟩ := okWide_slice Try.underlying22 (hval 1 22 v1 rfl rfl)
  obtain ⟨l1, R1, A1, B1⟩ : ∃ l, Ra W (.slice a1 n1 c1) l ∧ AllI l ∧ l.length ≤ 9223372036854775807 := by
    obtain ⟨fuel, hf⟩ := h1
    exact rd_open hf
  clear hA0 hval0
  refine (walk _ l0 _ l1 W R0 A0 B0 R1 A1 B1 ).mono fun e W' ⟨he, bel⟩ => ?_
  subst he
  exact ⟨_, rfl, _, _, _, [], _, [], hW', trodAll_mk1 (shut_bool Try.underlying4 _), (trodAll_cons_mk (Below.trod laidOut5 (by kernel_rfl) (of_decide_eq_true (by kernel_rfl)) k0 bel lt0) (trodAll_cons_mk (Below.trod laidOut5 (by kernel_rfl) (of_decide_eq_true (by kernel_rfl)) k1 bel lt1) trodAll_mk0)), rfl, Below.frame bel _, fun h => by cases h⟩

theorem over : Rows.spanSetsRow.holds Try.pinned (OpenSpec.ofChange Rows.spanSetsSpec) :=
  OpenClaim.holds_of_wide 3 Try.f3 rfl rfl rfl rfl rfl rfl rfl ⟨rfl, rfl, rfl, rfl, rfl⟩ rfl rfl rfl rfl rfl (by kernel_rfl) Try.func3 (by kernel_rfl)
    (of_decide_eq_true (by kernel_rfl)) (by unfold Func.isWrapper; first | (rw [if_pos (by decide +kernel)]; kernel_rfl) | (rw [if_neg (by decide +kernel)]; exact ⟨rfl, rfl⟩))
    (fun os started H enc _ => lifted os started H enc)

theorem proved : Rows.SpanSetsSaid := over
end Go.Proofs.Ytplidbcifljfoaa.spanSets
namespace Go.Proofs.Ytplidbcifljfoaa
theorem spanSets_holds : Rows.SpanSetsSaid := spanSets.proved
end Go.Proofs.Ytplidbcifljfoaa
