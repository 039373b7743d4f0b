/-
  SpanCounts is proved: how many numbers there are is as the document says, and of either and both lists together as many as of the two, for every two lists of spans. No condition but the form's own reach.
-/
import Derived.Test.YtplidbcifljfoaaSpS
namespace Go.Proofs.Ytplidbcifljfoaa.spanCounts
open Go.ChangeShapes Go.WideShapes Go.ChangeAt Go.RowKit
set_option maxHeartbeats 4000000

set_option maxRecDepth 100000 in
theorem walk (va : Value) (a : List Sp) (vb : Value) (b : List Sp) (w0 : World) (ha : Ra w0 va a) (aa : AllI a) (ba : a.length ≤ 9223372036854775807) (hb : Ra w0 vb b) (ab : AllI b) (bb : b.length ≤ 9223372036854775807) :
    Calls Try.prog 7 #[va, vb] w0 fun e w' => e = .returned (.bool true) ∧ Ext w0 w' := by
  have RRa : Hid (Ra w0 va a) := ha
  have Ha : Hid (AllI a) := aa
  have Na : Hid (a.length ≤ 9223372036854775807) := ba
  have RRb : Hid (Ra w0 vb b) := hb
  have Hb : Hid (AllI b) := ab
  have Nb : Hid (b.length ≤ 9223372036854775807) := bb
  clear ha aa ba hb ab bb
  go_enter Try.func7, Try.ntmps7
  go_wp2_with fail
  refine (few_any _ _ a (RRa.out.ext (Ext.refl _)) Na.out).mono ?_
  rintro e w1 ⟨⟨f1, rfl, R⟩, hw⟩
  have HX1 : Hid (Ext w0 w1) := by rw [hw]; exact Ext.refl _
  have HF2 : Hid (Ra w1 f1 (a.take 60)) := R
  clear hw
  clear R
  go_wp2_with fail
  refine (few_any _ _ b (RRb.out.ext HX1.out) Nb.out).mono ?_
  rintro e w2 ⟨⟨f3, rfl, R⟩, hw⟩
  have HX2 : Hid (Ext w1 w2) := by rw [hw]; exact Ext.refl _
  have HF4 : Hid (Ra w2 f3 (b.take 60)) := R
  clear hw
  clear R
  go_wp2_with fail
  refine (own_any _ _ (a.take 60) (HF2.out.ext HX2.out) (by have := (len60 a); omega)).mono ?_
  rintro e w3 ⟨o5, rfl, O, E⟩
  have HX3 : Hid (Ext w2 w3) := E
  have HO6 : Hid (Rd w3 o5 (a.take 60)) := O.rd
  clear O E
  go_wp2_with fail
  refine (count_any _ _ (a.take 60) (HO6.out.ext (Ext.refl _)) (by have := (len60 a); omega) (AllI.take Ha.out)).mono ?_
  rintro e w4 ⟨r7, rfl, k1, k2, k3, E⟩
  have HX4 : Hid (Ext w3 w4) := E
  obtain ⟨c9, hc9⟩ : ∃ c, cnt r7 = c := ⟨_, rfl⟩
  have HP8 : Hid (Plain r7 ∧ AllI r7 ∧ (∀ n, hasB r7 n = hasB (a.take 60) n) ∧ cnt r7 = c9) := ⟨k1, k2, k3, hc9⟩
  rw [hc9]
  clear k1 k2 k3 E hc9
  go_wp2_with fail
  refine (own_any _ _ (b.take 60) (HF4.out.ext (HX3.out.trans HX4.out)) (by have := (len60 b); omega)).mono ?_
  rintro e w5 ⟨o10, rfl, O, E⟩
  have HX5 : Hid (Ext w4 w5) := E
  have HO11 : Hid (Rd w5 o10 (b.take 60)) := O.rd
  clear O E
  go_wp2_with fail
  refine (count_any _ _ (b.take 60) (HO11.out.ext (Ext.refl _)) (by have := (len60 b); omega) (AllI.take Hb.out)).mono ?_
  rintro e w6 ⟨r12, rfl, k1, k2, k3, E⟩
  have HX6 : Hid (Ext w5 w6) := E
  obtain ⟨c14, hc14⟩ : ∃ c, cnt r12 = c := ⟨_, rfl⟩
  have HP13 : Hid (Plain r12 ∧ AllI r12 ∧ (∀ n, hasB r12 n = hasB (b.take 60) n) ∧ cnt r12 = c14) := ⟨k1, k2, k3, hc14⟩
  rw [hc14]
  clear k1 k2 k3 E hc14
  go_wp2_with fail
  refine (rcount_any _ _ (a.take 60) (HF2.out.ext ((((HX2.out.trans HX3.out).trans HX4.out).trans HX5.out).trans HX6.out)) (by have := (len60 a); omega) (AllI.take Ha.out)).mono ?_
  rintro e w7 ⟨r15, rfl, k1, k2, k3, E⟩
  have HX7 : Hid (Ext w6 w7) := E
  obtain ⟨c17, hc17⟩ : ∃ c, cnt r15 = c := ⟨_, rfl⟩
  have HP16 : Hid (Plain r15 ∧ AllI r15 ∧ (∀ n, hasB r15 n = hasB (a.take 60) n) ∧ cnt r15 = c17) := ⟨k1, k2, k3, hc17⟩
  rw [hc17]
  clear k1 k2 k3 E hc17
  have hc : c17 = c9 := by rw [← HP16.out.2.2.2, ← HP8.out.2.2.2, plain_one HP16.out.1 HP8.out.1 (fun n => by rw [HP16.out.2.2.1, HP8.out.2.2.1])]
  rw [hc]
  clear hc
  go_wp2_with fail
  refine (rcount_any _ _ (b.take 60) (HF4.out.ext ((((HX3.out.trans HX4.out).trans HX5.out).trans HX6.out).trans HX7.out)) (by have := (len60 b); omega) (AllI.take Hb.out)).mono ?_
  rintro e w8 ⟨r18, rfl, k1, k2, k3, E⟩
  have HX8 : Hid (Ext w7 w8) := E
  obtain ⟨c20, hc20⟩ : ∃ c, cnt r18 = c := ⟨_, rfl⟩
  have HP19 : Hid (Plain r18 ∧ AllI r18 ∧ (∀ n, hasB r18 n = hasB (b.take 60) n) ∧ cnt r18 = c20) := ⟨k1, k2, k3, hc20⟩
  rw [hc20]
  clear k1 k2 k3 E hc20
  have hc : c20 = c14 := by rw [← HP19.out.2.2.2, ← HP13.out.2.2.2, plain_one HP19.out.1 HP13.out.1 (fun n => by rw [HP19.out.2.2.1, HP13.out.2.2.1])]
  rw [hc]
  clear hc
  go_wp2_with fail
  refine (own_any _ _ (a.take 60) (HF2.out.ext ((((((HX2.out.trans HX3.out).trans HX4.out).trans HX5.out).trans HX6.out).trans HX7.out).trans HX8.out)) (by have := (len60 a); omega)).mono ?_
  rintro e w9 ⟨o21, rfl, O, E⟩
  have HX9 : Hid (Ext w8 w9) := E
  have HO22 : Hid (Rd w9 o21 (a.take 60)) := O.rd
  clear O E
  go_wp2_with fail
  refine (own_any _ _ (b.take 60) (HF4.out.ext ((((((HX3.out.trans HX4.out).trans HX5.out).trans HX6.out).trans HX7.out).trans HX8.out).trans HX9.out)) (by have := (len60 b); omega)).mono ?_
  rintro e w10 ⟨o23, rfl, O, E⟩
  have HX10 : Hid (Ext w9 w10) := E
  have HO24 : Hid (Rd w10 o23 (b.take 60)) := O.rd
  clear O E
  go_wp2_with fail
  refine (union_any _ _ _ (a.take 60) (b.take 60) (HO22.out.ext HX10.out) (HO24.out.ext (Ext.refl _)) (by have := (len60 a); omega) (by have := (len60 b); omega) (AllI.take Ha.out) (AllI.take Hb.out)).mono ?_
  rintro e w11 ⟨s25, r26, rfl, k1, k2, k3, k4, k5, E⟩
  have HX11 : Hid (Ext w10 w11) := E
  have HS27 : Hid (Rd w11 s25 r26) := k1.rd
  have HP28 : Hid (Plain r26 ∧ (∀ n, hasB r26 n = (hasB (a.take 60) n || hasB (b.take 60) n)) ∧ AllI r26 ∧ r26.length ≤ 120) := ⟨k2, k3, k4, by have := k5; have := (len60 a); have := (len60 b); omega⟩
  clear k1 k2 k3 k4 k5 E
  go_wp2_with fail
  refine (count_any _ _ r26 (HS27.out.ext (Ext.refl _)) (by have := HP28.out.2.2.2; omega) HP28.out.2.2.1).mono ?_
  rintro e w12 ⟨r29, rfl, k1, k2, k3, E⟩
  have HX12 : Hid (Ext w11 w12) := E
  obtain ⟨c31, hc31⟩ : ∃ c, cnt r29 = c := ⟨_, rfl⟩
  have HP30 : Hid (Plain r29 ∧ AllI r29 ∧ (∀ n, hasB r29 n = hasB r26 n) ∧ cnt r29 = c31) := ⟨k1, k2, k3, hc31⟩
  rw [hc31]
  clear k1 k2 k3 E hc31
  go_wp2_with fail
  refine (own_any _ _ (a.take 60) (HF2.out.ext ((((((((((HX2.out.trans HX3.out).trans HX4.out).trans HX5.out).trans HX6.out).trans HX7.out).trans HX8.out).trans HX9.out).trans HX10.out).trans HX11.out).trans HX12.out)) (by have := (len60 a); omega)).mono ?_
  rintro e w13 ⟨o32, rfl, O, E⟩
  have HX13 : Hid (Ext w12 w13) := E
  have HO33 : Hid (Rd w13 o32 (a.take 60)) := O.rd
  clear O E
  go_wp2_with fail
  refine (own_any _ _ (b.take 60) (HF4.out.ext ((((((((((HX3.out.trans HX4.out).trans HX5.out).trans HX6.out).trans HX7.out).trans HX8.out).trans HX9.out).trans HX10.out).trans HX11.out).trans HX12.out).trans HX13.out)) (by have := (len60 b); omega)).mono ?_
  rintro e w14 ⟨o34, rfl, O, E⟩
  have HX14 : Hid (Ext w13 w14) := E
  have HO35 : Hid (Rd w14 o34 (b.take 60)) := O.rd
  clear O E
  go_wp2_with fail
  refine (meet_any _ _ _ (a.take 60) (b.take 60) (HO33.out.ext HX14.out) (HO35.out.ext (Ext.refl _)) (by have := (len60 a); omega) (by have := (len60 b); omega) (AllI.take Ha.out) (AllI.take Hb.out)).mono ?_
  rintro e w15 ⟨s36, r37, rfl, k1, k2, k3, k4, k5, E⟩
  have HX15 : Hid (Ext w14 w15) := E
  have HS38 : Hid (Rd w15 s36 r37) := k1.rd
  have HP39 : Hid (Plain r37 ∧ (∀ n, hasB r37 n = (hasB (a.take 60) n && hasB (b.take 60) n)) ∧ AllI r37 ∧ r37.length ≤ 120) := ⟨k2, k3, k4, by have := k5; have := (len60 a); have := (len60 b); omega⟩
  clear k1 k2 k3 k4 k5 E
  go_wp2_with fail
  refine (count_any _ _ r37 (HS38.out.ext (Ext.refl _)) (by have := HP39.out.2.2.2; omega) HP39.out.2.2.1).mono ?_
  rintro e w16 ⟨r40, rfl, k1, k2, k3, E⟩
  have HX16 : Hid (Ext w15 w16) := E
  obtain ⟨c42, hc42⟩ : ∃ c, cnt r40 = c := ⟨_, rfl⟩
  have HP41 : Hid (Plain r40 ∧ AllI r40 ∧ (∀ n, hasB r40 n = hasB r37 n) ∧ cnt r40 = c42) := ⟨k1, k2, k3, hc42⟩
  rw [hc42]
  clear k1 k2 k3 E hc42
  have hsum : c31 + c42 = c9 + c14 := by
    rw [← HP30.out.2.2.2, ← HP41.out.2.2.2, ← HP8.out.2.2.2, ← HP13.out.2.2.2]
    exact cnt_two HP8.out.1 HP13.out.1 HP30.out.1 HP41.out.1 HP8.out.2.1 HP13.out.2.1 HP30.out.2.1 HP41.out.2.1 (fun n => by rw [HP30.out.2.2.1, HP28.out.2.1, HP8.out.2.2.1, HP13.out.2.2.1]) (fun n => by rw [HP41.out.2.2.1, HP39.out.2.1, HP8.out.2.2.1, HP13.out.2.2.1])
  have he : IntKind.u64.wrap (c31 % 18446744073709551616 + c42 % 18446744073709551616) = IntKind.u64.wrap (c9 % 18446744073709551616 + c14 % 18446744073709551616) := by rw [wrapU, wrapU]; omega
  clear hsum
  go_wp2_with fail
  refine (lives_any _).mono ?_
  rintro e w17 ⟨rfl, E⟩
  have HX17 : Hid (Ext w16 w17) := E
  clear E
  go_wp2
  go_ret
  exact ⟨rfl, ((((((((((((((((HX1.out.trans HX2.out).trans HX3.out).trans HX4.out).trans HX5.out).trans HX6.out).trans HX7.out).trans HX8.out).trans HX9.out).trans HX10.out).trans HX11.out).trans HX12.out).trans HX13.out).trans HX14.out).trans HX15.out).trans HX16.out).trans HX17.out)⟩

set_option maxRecDepth 100000 in
theorem lifted (os : Os) (started : os.Started) (H : Type) (enc : TypeId × Value → H) :
    ReturnsInHanded {} Try.checked os 7 .any (Rows.spanCountsSpec.pre6 enc Try.prog Try.f7 Rows.spanCountsRow.domain false) (Rows.spanCountsSpec.post enc Try.prog Try.f7 false true false false) := by
  refine returnsInHanded_of_change (C := Try.checked) own5 started (by kernel_rfl) Try.func7
    (ChangeSpec.witness6 (enc := enc) (C := Try.checked) false ⟨#[], #[.slice none 0 0, .slice none 0 0], []⟩ 8 (by kernel_rfl) (by kernel_rfl) (by kernel_rfl) (by kernel_rfl)) ?_
  intro W base args ds gs before hval0 hW hcnd _
  have hval : ∀ (j : Nat) t v, Try.f7.params[j]? = some t → args[j]? = some v → Value.okWide Try.prog W .any base t v := hval0
  have hW' := hW
  obtain ⟨p, q, hA0, hV, rfl, hfz, hnd⟩ := hW
  have hA : DataW.TrodAll enc Try.prog W 0 (fun _ => true) true Try.f7.params.toList args.toList ds p := hA0
  rw [Try.params7] at hA hval
  obtain ⟨v0, vs0, d0, ds0, p0, q0, hargs, rfl, rfl, h0, r0⟩ := trodAll_cons hA
  obtain ⟨v1, vs1, d1, ds1, p1, q1, rfl, rfl, rfl, h1, r1⟩ := trodAll_cons r0
  obtain ⟨rfl, rfl, rfl⟩ := trodAll_nil r1
  obtain rfl : args = #[v0, v1] := by cases args; simp_all
  obtain ⟨rfl, rfl⟩ := trodVars_none hV
  have k0 := h0
  have lt0 : ∀ x ∈ p0, x.block < W.heap.size := by obtain ⟨m, hm⟩ := k0; exact DataW.trod_lt m _ _ _ hm
  obtain ⟨a0, n0, c0, rfl⟩ := okWide_slice Try.underlying22 (hval 0 22 v0 rfl rfl)
  obtain ⟨l0, R0, A0, B0⟩ : ∃ l, Ra W (.slice a0 n0 c0) l ∧ AllI l ∧ l.length ≤ 9223372036854775807 := by
    obtain ⟨fuel, hf⟩ := h0
    exact rd_open hf
  have k1 := h1
  have lt1 : ∀ x ∈ p1, x.block < W.heap.size := by obtain ⟨m, hm⟩ := k1; exact DataW.trod_lt m _ _ _ hm
  obtain ⟨a1, n1, c1, rfl⟩ := okWide_slice Try.underlying22 (hval 1 22 v1 rfl rfl)
  obtain ⟨l1, R1, A1, B1⟩ : ∃ l, Ra W (.slice a1 n1 c1) l ∧ AllI l ∧ l.length ≤ 9223372036854775807 := by
    obtain ⟨fuel, hf⟩ := h1
    exact rd_open hf
  clear hA0 hval0
  refine (walk _ l0 _ l1 W R0 A0 B0 R1 A1 B1 ).mono fun e W' ⟨he, bel⟩ => ?_
  subst he
  exact ⟨_, rfl, _, _, _, [], _, [], hW', trodAll_mk1 (shut_bool Try.underlying4 _), (trodAll_cons_mk (Below.trod laidOut5 (by kernel_rfl) (of_decide_eq_true (by kernel_rfl)) k0 bel lt0) (trodAll_cons_mk (Below.trod laidOut5 (by kernel_rfl) (of_decide_eq_true (by kernel_rfl)) k1 bel lt1) trodAll_mk0)), rfl, Below.frame bel _, fun h => by cases h⟩

theorem over : Rows.spanCountsRow.holds Try.pinned (OpenSpec.ofChange Rows.spanCountsSpec) :=
  OpenClaim.holds_of_wide 7 Try.f7 rfl rfl rfl rfl rfl rfl rfl ⟨rfl, rfl, rfl, rfl, rfl⟩ rfl rfl rfl rfl rfl (by kernel_rfl) Try.func7 (by kernel_rfl)
    (of_decide_eq_true (by kernel_rfl)) (by unfold Func.isWrapper; first | (rw [if_pos (by decide +kernel)]; kernel_rfl) | (rw [if_neg (by decide +kernel)]; exact ⟨rfl, rfl⟩))
    (fun os started H enc _ => lifted os started H enc)

theorem proved : Rows.SpanCountsSaid := over
end Go.Proofs.Ytplidbcifljfoaa.spanCounts
namespace Go.Proofs.Ytplidbcifljfoaa
theorem spanCounts_holds : Rows.SpanCountsSaid := spanCounts.proved
end Go.Proofs.Ytplidbcifljfoaa
