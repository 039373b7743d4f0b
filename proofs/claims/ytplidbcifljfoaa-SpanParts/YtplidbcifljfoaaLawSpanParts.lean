/-
  SpanParts is proved: what a list has without two others is what both leave of it, and it is parted by another one without a rest, for every three lists of spans. No condition but the form's own reach.
-/
import Derived.Test.YtplidbcifljfoaaSpR
namespace Go.Proofs.Ytplidbcifljfoaa.spanParts
open Go.ChangeShapes Go.WideShapes Go.ChangeAt Go.RowKit
set_option maxHeartbeats 4000000

set_option maxRecDepth 100000 in
theorem walk (va : Value) (a : List Sp) (vb : Value) (b : List Sp) (vc : Value) (c : List Sp) (w0 : World) (ha : Ra w0 va a) (aa : AllI a) (ba : a.length ≤ 9223372036854775807) (hb : Ra w0 vb b) (ab : AllI b) (bb : b.length ≤ 9223372036854775807) (hc : Ra w0 vc c) (ac : AllI c) (bc : c.length ≤ 9223372036854775807) :
    Calls Try.prog 8 #[va, vb, vc] w0 fun e w' => e = .returned (.bool true) ∧ Ext w0 w' := by
  have RRa : Hid (Ra w0 va a) := ha
  have Ha : Hid (AllI a) := aa
  have Na : Hid (a.length ≤ 9223372036854775807) := ba
  have RRb : Hid (Ra w0 vb b) := hb
  have Hb : Hid (AllI b) := ab
  have Nb : Hid (b.length ≤ 9223372036854775807) := bb
  have RRc : Hid (Ra w0 vc c) := hc
  have Hc : Hid (AllI c) := ac
  have Nc : Hid (c.length ≤ 9223372036854775807) := bc
  clear ha aa ba hb ab bb hc ac bc
  go_enter Try.func8, Try.ntmps8
  go_wp2_with fail
  refine (few_any _ _ a (RRa.out.ext (Ext.refl _)) Na.out).mono ?_
  rintro e w1 ⟨⟨f1, rfl, R⟩, hw⟩
  have HX1 : Hid (Ext w0 w1) := by rw [hw]; exact Ext.refl _
  have HF2 : Hid (Ra w1 f1 (a.take 60)) := R
  clear hw
  clear R
  go_wp2_with fail
  refine (few_any _ _ b (RRb.out.ext HX1.out) Nb.out).mono ?_
  rintro e w2 ⟨⟨f3, rfl, R⟩, hw⟩
  have HX2 : Hid (Ext w1 w2) := by rw [hw]; exact Ext.refl _
  have HF4 : Hid (Ra w2 f3 (b.take 60)) := R
  clear hw
  clear R
  go_wp2_with fail
  refine (few_any _ _ c (RRc.out.ext (HX1.out.trans HX2.out)) Nc.out).mono ?_
  rintro e w3 ⟨⟨f5, rfl, R⟩, hw⟩
  have HX3 : Hid (Ext w2 w3) := by rw [hw]; exact Ext.refl _
  have HF6 : Hid (Ra w3 f5 (c.take 60)) := R
  clear hw
  clear R
  go_wp2_with fail
  refine (own_any _ _ (a.take 60) (HF2.out.ext (HX2.out.trans HX3.out)) (by have := (len60 a); omega)).mono ?_
  rintro e w4 ⟨o7, rfl, O, E⟩
  have HX4 : Hid (Ext w3 w4) := E
  have HO8 : Hid (Rd w4 o7 (a.take 60)) := O.rd
  clear O E
  go_wp2_with fail
  refine (own_any _ _ (b.take 60) (HF4.out.ext (HX3.out.trans HX4.out)) (by have := (len60 b); omega)).mono ?_
  rintro e w5 ⟨o9, rfl, O, E⟩
  have HX5 : Hid (Ext w4 w5) := E
  have HO10 : Hid (Rd w5 o9 (b.take 60)) := O.rd
  clear O E
  go_wp2_with fail
  refine (own_any _ _ (c.take 60) (HF6.out.ext (HX4.out.trans HX5.out)) (by have := (len60 c); omega)).mono ?_
  rintro e w6 ⟨o11, rfl, O, E⟩
  have HX6 : Hid (Ext w5 w6) := E
  have HO12 : Hid (Rd w6 o11 (c.take 60)) := O.rd
  clear O E
  go_wp2_with fail
  refine (union_any _ _ _ (b.take 60) (c.take 60) (HO10.out.ext HX6.out) (HO12.out.ext (Ext.refl _)) (by have := (len60 b); omega) (by have := (len60 c); omega) (AllI.take Hb.out) (AllI.take Hc.out)).mono ?_
  rintro e w7 ⟨s13, r14, rfl, k1, k2, k3, k4, k5, E⟩
  have HX7 : Hid (Ext w6 w7) := E
  have HS15 : Hid (Rd w7 s13 r14) := k1.rd
  have HP16 : Hid (Plain r14 ∧ (∀ n, hasB r14 n = (hasB (b.take 60) n || hasB (c.take 60) n)) ∧ AllI r14 ∧ r14.length ≤ 120) := ⟨k2, k3, k4, by have := k5; have := (len60 b); have := (len60 c); omega⟩
  clear k1 k2 k3 k4 k5 E
  go_wp2_with fail
  refine (minus_any _ _ _ (a.take 60) r14 (HO8.out.ext ((HX5.out.trans HX6.out).trans HX7.out)) (HS15.out.ext (Ext.refl _)) (by have := (len60 a); omega) (by have := HP16.out.2.2.2; omega) (AllI.take Ha.out) HP16.out.2.2.1).mono ?_
  rintro e w8 ⟨s17, r18, rfl, k1, k2, k3, k4, k5, E⟩
  have HX8 : Hid (Ext w7 w8) := E
  have HS19 : Hid (Rd w8 s17 r18) := k1.rd
  have HP20 : Hid (Plain r18 ∧ (∀ n, hasB r18 n = (hasB (a.take 60) n && !hasB r14 n)) ∧ AllI r18 ∧ r18.length ≤ 181) := ⟨k2, k3, k4, by have := k5; have := (len60 a); have := HP16.out.2.2.2; omega⟩
  clear k1 k2 k3 k4 k5 E
  go_wp2_with fail
  refine (own_any _ _ (a.take 60) (HF2.out.ext ((((((HX2.out.trans HX3.out).trans HX4.out).trans HX5.out).trans HX6.out).trans HX7.out).trans HX8.out)) (by have := (len60 a); omega)).mono ?_
  rintro e w9 ⟨o21, rfl, O, E⟩
  have HX9 : Hid (Ext w8 w9) := E
  have HO22 : Hid (Rd w9 o21 (a.take 60)) := O.rd
  clear O E
  go_wp2_with fail
  refine (own_any _ _ (b.take 60) (HF4.out.ext ((((((HX3.out.trans HX4.out).trans HX5.out).trans HX6.out).trans HX7.out).trans HX8.out).trans HX9.out)) (by have := (len60 b); omega)).mono ?_
  rintro e w10 ⟨o23, rfl, O, E⟩
  have HX10 : Hid (Ext w9 w10) := E
  have HO24 : Hid (Rd w10 o23 (b.take 60)) := O.rd
  clear O E
  go_wp2_with fail
  refine (minus_any _ _ _ (a.take 60) (b.take 60) (HO22.out.ext HX10.out) (HO24.out.ext (Ext.refl _)) (by have := (len60 a); omega) (by have := (len60 b); omega) (AllI.take Ha.out) (AllI.take Hb.out)).mono ?_
  rintro e w11 ⟨s25, r26, rfl, k1, k2, k3, k4, k5, E⟩
  have HX11 : Hid (Ext w10 w11) := E
  have HS27 : Hid (Rd w11 s25 r26) := k1.rd
  have HP28 : Hid (Plain r26 ∧ (∀ n, hasB r26 n = (hasB (a.take 60) n && !hasB (b.take 60) n)) ∧ AllI r26 ∧ r26.length ≤ 121) := ⟨k2, k3, k4, by have := k5; have := (len60 a); have := (len60 b); omega⟩
  clear k1 k2 k3 k4 k5 E
  go_wp2_with fail
  refine (own_any _ _ (a.take 60) (HF2.out.ext (((((((((HX2.out.trans HX3.out).trans HX4.out).trans HX5.out).trans HX6.out).trans HX7.out).trans HX8.out).trans HX9.out).trans HX10.out).trans HX11.out)) (by have := (len60 a); omega)).mono ?_
  rintro e w12 ⟨o29, rfl, O, E⟩
  have HX12 : Hid (Ext w11 w12) := E
  have HO30 : Hid (Rd w12 o29 (a.take 60)) := O.rd
  clear O E
  go_wp2_with fail
  refine (own_any _ _ (c.take 60) (HF6.out.ext ((((((((HX4.out.trans HX5.out).trans HX6.out).trans HX7.out).trans HX8.out).trans HX9.out).trans HX10.out).trans HX11.out).trans HX12.out)) (by have := (len60 c); omega)).mono ?_
  rintro e w13 ⟨o31, rfl, O, E⟩
  have HX13 : Hid (Ext w12 w13) := E
  have HO32 : Hid (Rd w13 o31 (c.take 60)) := O.rd
  clear O E
  go_wp2_with fail
  refine (minus_any _ _ _ (a.take 60) (c.take 60) (HO30.out.ext HX13.out) (HO32.out.ext (Ext.refl _)) (by have := (len60 a); omega) (by have := (len60 c); omega) (AllI.take Ha.out) (AllI.take Hc.out)).mono ?_
  rintro e w14 ⟨s33, r34, rfl, k1, k2, k3, k4, k5, E⟩
  have HX14 : Hid (Ext w13 w14) := E
  have HS35 : Hid (Rd w14 s33 r34) := k1.rd
  have HP36 : Hid (Plain r34 ∧ (∀ n, hasB r34 n = (hasB (a.take 60) n && !hasB (c.take 60) n)) ∧ AllI r34 ∧ r34.length ≤ 121) := ⟨k2, k3, k4, by have := k5; have := (len60 a); have := (len60 c); omega⟩
  clear k1 k2 k3 k4 k5 E
  go_wp2_with fail
  refine (meet_any _ _ _ r26 r34 (HS27.out.ext ((HX12.out.trans HX13.out).trans HX14.out)) (HS35.out.ext (Ext.refl _)) (by have := HP28.out.2.2.2; omega) (by have := HP36.out.2.2.2; omega) HP28.out.2.2.1 HP36.out.2.2.1).mono ?_
  rintro e w15 ⟨s37, r38, rfl, k1, k2, k3, k4, k5, E⟩
  have HX15 : Hid (Ext w14 w15) := E
  have HS39 : Hid (Rd w15 s37 r38) := k1.rd
  have HP40 : Hid (Plain r38 ∧ (∀ n, hasB r38 n = (hasB r26 n && hasB r34 n)) ∧ AllI r38 ∧ r38.length ≤ 242) := ⟨k2, k3, k4, by have := k5; have := HP28.out.2.2.2; have := HP36.out.2.2.2; omega⟩
  clear k1 k2 k3 k4 k5 E
  go_wp2_with fail
  refine (own_any _ _ (a.take 60) (HF2.out.ext (((((((((((((HX2.out.trans HX3.out).trans HX4.out).trans HX5.out).trans HX6.out).trans HX7.out).trans HX8.out).trans HX9.out).trans HX10.out).trans HX11.out).trans HX12.out).trans HX13.out).trans HX14.out).trans HX15.out)) (by have := (len60 a); omega)).mono ?_
  rintro e w16 ⟨o41, rfl, O, E⟩
  have HX16 : Hid (Ext w15 w16) := E
  have HO42 : Hid (Rd w16 o41 (a.take 60)) := O.rd
  clear O E
  go_wp2_with fail
  refine (own_any _ _ (b.take 60) (HF4.out.ext (((((((((((((HX3.out.trans HX4.out).trans HX5.out).trans HX6.out).trans HX7.out).trans HX8.out).trans HX9.out).trans HX10.out).trans HX11.out).trans HX12.out).trans HX13.out).trans HX14.out).trans HX15.out).trans HX16.out)) (by have := (len60 b); omega)).mono ?_
  rintro e w17 ⟨o43, rfl, O, E⟩
  have HX17 : Hid (Ext w16 w17) := E
  have HO44 : Hid (Rd w17 o43 (b.take 60)) := O.rd
  clear O E
  go_wp2_with fail
  refine (meet_any _ _ _ (a.take 60) (b.take 60) (HO42.out.ext HX17.out) (HO44.out.ext (Ext.refl _)) (by have := (len60 a); omega) (by have := (len60 b); omega) (AllI.take Ha.out) (AllI.take Hb.out)).mono ?_
  rintro e w18 ⟨s45, r46, rfl, k1, k2, k3, k4, k5, E⟩
  have HX18 : Hid (Ext w17 w18) := E
  have HS47 : Hid (Rd w18 s45 r46) := k1.rd
  have HP48 : Hid (Plain r46 ∧ (∀ n, hasB r46 n = (hasB (a.take 60) n && hasB (b.take 60) n)) ∧ AllI r46 ∧ r46.length ≤ 120) := ⟨k2, k3, k4, by have := k5; have := (len60 a); have := (len60 b); omega⟩
  clear k1 k2 k3 k4 k5 E
  go_wp2_with fail
  refine (own_any _ _ (a.take 60) (HF2.out.ext ((((((((((((((((HX2.out.trans HX3.out).trans HX4.out).trans HX5.out).trans HX6.out).trans HX7.out).trans HX8.out).trans HX9.out).trans HX10.out).trans HX11.out).trans HX12.out).trans HX13.out).trans HX14.out).trans HX15.out).trans HX16.out).trans HX17.out).trans HX18.out)) (by have := (len60 a); omega)).mono ?_
  rintro e w19 ⟨o49, rfl, O, E⟩
  have HX19 : Hid (Ext w18 w19) := E
  have HO50 : Hid (Rd w19 o49 (a.take 60)) := O.rd
  clear O E
  go_wp2_with fail
  refine (own_any _ _ (b.take 60) (HF4.out.ext ((((((((((((((((HX3.out.trans HX4.out).trans HX5.out).trans HX6.out).trans HX7.out).trans HX8.out).trans HX9.out).trans HX10.out).trans HX11.out).trans HX12.out).trans HX13.out).trans HX14.out).trans HX15.out).trans HX16.out).trans HX17.out).trans HX18.out).trans HX19.out)) (by have := (len60 b); omega)).mono ?_
  rintro e w20 ⟨o51, rfl, O, E⟩
  have HX20 : Hid (Ext w19 w20) := E
  have HO52 : Hid (Rd w20 o51 (b.take 60)) := O.rd
  clear O E
  go_wp2_with fail
  refine (minus_any _ _ _ (a.take 60) (b.take 60) (HO50.out.ext HX20.out) (HO52.out.ext (Ext.refl _)) (by have := (len60 a); omega) (by have := (len60 b); omega) (AllI.take Ha.out) (AllI.take Hb.out)).mono ?_
  rintro e w21 ⟨s53, r54, rfl, k1, k2, k3, k4, k5, E⟩
  have HX21 : Hid (Ext w20 w21) := E
  have HS55 : Hid (Rd w21 s53 r54) := k1.rd
  have HP56 : Hid (Plain r54 ∧ (∀ n, hasB r54 n = (hasB (a.take 60) n && !hasB (b.take 60) n)) ∧ AllI r54 ∧ r54.length ≤ 121) := ⟨k2, k3, k4, by have := k5; have := (len60 a); have := (len60 b); omega⟩
  clear k1 k2 k3 k4 k5 E
  go_wp2_with fail
  refine (union_any _ _ _ r46 r54 (HS47.out.ext ((HX19.out.trans HX20.out).trans HX21.out)) (HS55.out.ext (Ext.refl _)) (by have := HP48.out.2.2.2; omega) (by have := HP56.out.2.2.2; omega) HP48.out.2.2.1 HP56.out.2.2.1).mono ?_
  rintro e w22 ⟨s57, r58, rfl, k1, k2, k3, k4, k5, E⟩
  have HX22 : Hid (Ext w21 w22) := E
  have HS59 : Hid (Rd w22 s57 r58) := k1.rd
  have HP60 : Hid (Plain r58 ∧ (∀ n, hasB r58 n = (hasB r46 n || hasB r54 n)) ∧ AllI r58 ∧ r58.length ≤ 241) := ⟨k2, k3, k4, by have := k5; have := HP48.out.2.2.2; have := HP56.out.2.2.2; omega⟩
  clear k1 k2 k3 k4 k5 E
  go_wp2_with fail
  refine (same_any _ _ _ r18 r38 (HS19.out.ext (((((((((((((HX9.out.trans HX10.out).trans HX11.out).trans HX12.out).trans HX13.out).trans HX14.out).trans HX15.out).trans HX16.out).trans HX17.out).trans HX18.out).trans HX19.out).trans HX20.out).trans HX21.out).trans HX22.out)) (HS39.out.ext ((((((HX16.out.trans HX17.out).trans HX18.out).trans HX19.out).trans HX20.out).trans HX21.out).trans HX22.out)) (by have := HP20.out.2.2.2; omega) (by have := HP40.out.2.2.2; omega)).mono ?_
  rintro e w23 ⟨rfl, E⟩
  have HX23 : Hid (Ext w22 w23) := E
  clear E
  have hd : decide (r18 = r38) = true := by rw [decide_eq_true_eq]; exact plain_one HP20.out.1 HP40.out.1 (fun n => by rw [HP20.out.2.1, HP16.out.2.1, HP40.out.2.1, HP28.out.2.1, HP36.out.2.1]; cases hasB (a.take 60) n <;> cases hasB (b.take 60) n <;> cases hasB (c.take 60) n <;> rfl)
  rw [hd]
  clear hd
  go_wp2_with fail
  refine (own_any _ _ (a.take 60) (HF2.out.ext (((((((((((((((((((((HX2.out.trans HX3.out).trans HX4.out).trans HX5.out).trans HX6.out).trans HX7.out).trans HX8.out).trans HX9.out).trans HX10.out).trans HX11.out).trans HX12.out).trans HX13.out).trans HX14.out).trans HX15.out).trans HX16.out).trans HX17.out).trans HX18.out).trans HX19.out).trans HX20.out).trans HX21.out).trans HX22.out).trans HX23.out)) (by have := (len60 a); omega)).mono ?_
  rintro e w24 ⟨o61, rfl, O, E⟩
  have HX24 : Hid (Ext w23 w24) := E
  have HO62 : Hid (Rd w24 o61 (a.take 60)) := O.rd
  clear O E
  go_wp2_with fail
  refine (norm_any _ _ (a.take 60) (HO62.out.ext (Ext.refl _)) (by have := (len60 a); omega) (AllI.take Ha.out)).mono ?_
  rintro e w25 ⟨s63, r64, rfl, k1, k2, k3, k4, k5, E⟩
  have HX25 : Hid (Ext w24 w25) := E
  have HS65 : Hid (Rd w25 s63 r64) := k1.rd
  have HP66 : Hid (Plain r64 ∧ (∀ n, hasB r64 n = hasB (a.take 60) n) ∧ AllI r64 ∧ r64.length ≤ 60) := ⟨k2, k3, k4, by have := k5; have := (len60 a); omega⟩
  clear k1 k2 k3 k4 k5 E
  go_wp2_with fail
  refine (same_any _ _ _ r58 r64 (HS59.out.ext ((HX23.out.trans HX24.out).trans HX25.out)) (HS65.out.ext (Ext.refl _)) (by have := HP60.out.2.2.2; omega) (by have := HP66.out.2.2.2; omega)).mono ?_
  rintro e w26 ⟨rfl, E⟩
  have HX26 : Hid (Ext w25 w26) := E
  clear E
  have hd : decide (r58 = r64) = true := by rw [decide_eq_true_eq]; exact plain_one HP60.out.1 HP66.out.1 (fun n => by rw [HP60.out.2.1, HP48.out.2.1, HP56.out.2.1, HP66.out.2.1]; cases hasB (a.take 60) n <;> cases hasB (b.take 60) n <;> rfl)
  rw [hd]
  clear hd
  go_wp2_with fail
  refine (own_any _ _ (a.take 60) (HF2.out.ext ((((((((((((((((((((((((HX2.out.trans HX3.out).trans HX4.out).trans HX5.out).trans HX6.out).trans HX7.out).trans HX8.out).trans HX9.out).trans HX10.out).trans HX11.out).trans HX12.out).trans HX13.out).trans HX14.out).trans HX15.out).trans HX16.out).trans HX17.out).trans HX18.out).trans HX19.out).trans HX20.out).trans HX21.out).trans HX22.out).trans HX23.out).trans HX24.out).trans HX25.out).trans HX26.out)) (by have := (len60 a); omega)).mono ?_
  rintro e w27 ⟨o67, rfl, O, E⟩
  have HX27 : Hid (Ext w26 w27) := E
  have HO68 : Hid (Rd w27 o67 (a.take 60)) := O.rd
  clear O E
  go_wp2_with fail
  refine (own_any _ _ (b.take 60) (HF4.out.ext ((((((((((((((((((((((((HX3.out.trans HX4.out).trans HX5.out).trans HX6.out).trans HX7.out).trans HX8.out).trans HX9.out).trans HX10.out).trans HX11.out).trans HX12.out).trans HX13.out).trans HX14.out).trans HX15.out).trans HX16.out).trans HX17.out).trans HX18.out).trans HX19.out).trans HX20.out).trans HX21.out).trans HX22.out).trans HX23.out).trans HX24.out).trans HX25.out).trans HX26.out).trans HX27.out)) (by have := (len60 b); omega)).mono ?_
  rintro e w28 ⟨o69, rfl, O, E⟩
  have HX28 : Hid (Ext w27 w28) := E
  have HO70 : Hid (Rd w28 o69 (b.take 60)) := O.rd
  clear O E
  go_wp2_with fail
  refine (meet_any _ _ _ (a.take 60) (b.take 60) (HO68.out.ext HX28.out) (HO70.out.ext (Ext.refl _)) (by have := (len60 a); omega) (by have := (len60 b); omega) (AllI.take Ha.out) (AllI.take Hb.out)).mono ?_
  rintro e w29 ⟨s71, r72, rfl, k1, k2, k3, k4, k5, E⟩
  have HX29 : Hid (Ext w28 w29) := E
  have HS73 : Hid (Rd w29 s71 r72) := k1.rd
  have HP74 : Hid (Plain r72 ∧ (∀ n, hasB r72 n = (hasB (a.take 60) n && hasB (b.take 60) n)) ∧ AllI r72 ∧ r72.length ≤ 120) := ⟨k2, k3, k4, by have := k5; have := (len60 a); have := (len60 b); omega⟩
  clear k1 k2 k3 k4 k5 E
  go_wp2_with fail
  refine (own_any _ _ (a.take 60) (HF2.out.ext (((((((((((((((((((((((((((HX2.out.trans HX3.out).trans HX4.out).trans HX5.out).trans HX6.out).trans HX7.out).trans HX8.out).trans HX9.out).trans HX10.out).trans HX11.out).trans HX12.out).trans HX13.out).trans HX14.out).trans HX15.out).trans HX16.out).trans HX17.out).trans HX18.out).trans HX19.out).trans HX20.out).trans HX21.out).trans HX22.out).trans HX23.out).trans HX24.out).trans HX25.out).trans HX26.out).trans HX27.out).trans HX28.out).trans HX29.out)) (by have := (len60 a); omega)).mono ?_
  rintro e w30 ⟨o75, rfl, O, E⟩
  have HX30 : Hid (Ext w29 w30) := E
  have HO76 : Hid (Rd w30 o75 (a.take 60)) := O.rd
  clear O E
  go_wp2_with fail
  refine (own_any _ _ (b.take 60) (HF4.out.ext (((((((((((((((((((((((((((HX3.out.trans HX4.out).trans HX5.out).trans HX6.out).trans HX7.out).trans HX8.out).trans HX9.out).trans HX10.out).trans HX11.out).trans HX12.out).trans HX13.out).trans HX14.out).trans HX15.out).trans HX16.out).trans HX17.out).trans HX18.out).trans HX19.out).trans HX20.out).trans HX21.out).trans HX22.out).trans HX23.out).trans HX24.out).trans HX25.out).trans HX26.out).trans HX27.out).trans HX28.out).trans HX29.out).trans HX30.out)) (by have := (len60 b); omega)).mono ?_
  rintro e w31 ⟨o77, rfl, O, E⟩
  have HX31 : Hid (Ext w30 w31) := E
  have HO78 : Hid (Rd w31 o77 (b.take 60)) := O.rd
  clear O E
  go_wp2_with fail
  refine (minus_any _ _ _ (a.take 60) (b.take 60) (HO76.out.ext HX31.out) (HO78.out.ext (Ext.refl _)) (by have := (len60 a); omega) (by have := (len60 b); omega) (AllI.take Ha.out) (AllI.take Hb.out)).mono ?_
  rintro e w32 ⟨s79, r80, rfl, k1, k2, k3, k4, k5, E⟩
  have HX32 : Hid (Ext w31 w32) := E
  have HS81 : Hid (Rd w32 s79 r80) := k1.rd
  have HP82 : Hid (Plain r80 ∧ (∀ n, hasB r80 n = (hasB (a.take 60) n && !hasB (b.take 60) n)) ∧ AllI r80 ∧ r80.length ≤ 121) := ⟨k2, k3, k4, by have := k5; have := (len60 a); have := (len60 b); omega⟩
  clear k1 k2 k3 k4 k5 E
  go_wp2_with fail
  refine (meet_any _ _ _ r72 r80 (HS73.out.ext ((HX30.out.trans HX31.out).trans HX32.out)) (HS81.out.ext (Ext.refl _)) (by have := HP74.out.2.2.2; omega) (by have := HP82.out.2.2.2; omega) HP74.out.2.2.1 HP82.out.2.2.1).mono ?_
  rintro e w33 ⟨s83, r84, rfl, k1, k2, k3, k4, k5, E⟩
  have HX33 : Hid (Ext w32 w33) := E
  have HS85 : Hid (Rd w33 s83 r84) := k1.rd
  have HP86 : Hid (Plain r84 ∧ (∀ n, hasB r84 n = (hasB r72 n && hasB r80 n)) ∧ AllI r84 ∧ r84.length ≤ 241) := ⟨k2, k3, k4, by have := k5; have := HP74.out.2.2.2; have := HP82.out.2.2.2; omega⟩
  clear k1 k2 k3 k4 k5 E
  have hn : r84 = [] := plain_none HP86.out.1 (fun n => by rw [HP86.out.2.1, HP74.out.2.1, HP82.out.2.1]; cases hasB (a.take 60) n <;> cases hasB (b.take 60) n <;> rfl)
  obtain ⟨tp, tc, hte⟩ := HS85.out.form
  rw [hn] at hte
  subst hte
  go_wp2_with fail
  refine (lives_any _).mono ?_
  rintro e w34 ⟨rfl, E⟩
  have HX34 : Hid (Ext w33 w34) := E
  clear E
  go_wp2
  go_ret
  exact ⟨rfl, (((((((((((((((((((((((((((((((((HX1.out.trans HX2.out).trans HX3.out).trans HX4.out).trans HX5.out).trans HX6.out).trans HX7.out).trans HX8.out).trans HX9.out).trans HX10.out).trans HX11.out).trans HX12.out).trans HX13.out).trans HX14.out).trans HX15.out).trans HX16.out).trans HX17.out).trans HX18.out).trans HX19.out).trans HX20.out).trans HX21.out).trans HX22.out).trans HX23.out).trans HX24.out).trans HX25.out).trans HX26.out).trans HX27.out).trans HX28.out).trans HX29.out).trans HX30.out).trans HX31.out).trans HX32.out).trans HX33.out).trans HX34.out)⟩

set_option maxRecDepth 100000 in
theorem lifted (os : Os) (started : os.Started) (H : Type) (enc : TypeId × Value → H) :
    ReturnsInHanded {} Try.checked os 8 .any (Rows.spanPartsSpec.pre6 enc Try.prog Try.f8 Rows.spanPartsRow.domain false) (Rows.spanPartsSpec.post enc Try.prog Try.f8 false true false false) := by
  refine returnsInHanded_of_change (C := Try.checked) own5 started (by kernel_rfl) Try.func8
    (ChangeSpec.witness6 (enc := enc) (C := Try.checked) false ⟨#[], #[.slice none 0 0, .slice none 0 0, .slice none 0 0], []⟩ 8 (by kernel_rfl) (by kernel_rfl) (by kernel_rfl) (by kernel_rfl)) ?_
  intro W base args ds gs before hval0 hW hcnd _
  have hval : ∀ (j : Nat) t v, Try.f8.params[j]? = some t → args[j]? = some v → Value.okWide Try.prog W .any base t v := hval0
  have hW' := hW
  obtain ⟨p, q, hA0, hV, rfl, hfz, hnd⟩ := hW
  have hA : DataW.TrodAll enc Try.prog W 0 (fun _ => true) true Try.f8.params.toList args.toList ds p := hA0
  rw [Try.params8] at hA hval
  obtain ⟨v0, vs0, d0, ds0, p0, q0, hargs, rfl, rfl, h0, r0⟩ := trodAll_cons hA
  obtain ⟨v1, vs1, d1, ds1, p1, q1, rfl, rfl, rfl, h1, r1⟩ := trodAll_cons r0
  obtain ⟨v2, vs2, d2, ds2, p2, q2, rfl, rfl, rfl, h2, r2⟩ := trodAll_cons r1
  obtain ⟨rfl, rfl, rfl⟩ := trodAll_nil r2
  obtain rfl : args = #[v0, v1, v2] := by cases args; simp_all
  obtain ⟨rfl, rfl⟩ := trodVars_none hV
  have k0 := h0
  have lt0 : ∀ x ∈ p0, x.block < W.heap.size := by obtain ⟨m, hm⟩ := k0; exact DataW.trod_lt m _ _ _ hm
  obtain ⟨a0, n0, c0, rfl⟩ := okWide_slice Try.underlying22 (hval 0 22 v0 rfl rfl)
  obtain ⟨l0, R0, A0, B0⟩ : ∃ l, Ra W (.slice a0 n0 c0) l ∧ AllI l ∧ l.length ≤ 9223372036854775807 := by
    obtain ⟨fuel, hf⟩ := h0
    exact rd_open hf
  have k1 := h1
  have lt1 : ∀ x ∈ p1, x.block < W.heap.size := by obtain ⟨m, hm⟩ := k1; exact DataW.trod_lt m _ _ _ hm
  obtain ⟨a1, n1, c1, rfl⟩ := okWide_slice Try.underlying22 (hval 1 22 v1 rfl rfl)
  obtain ⟨l1, R1, A1, B1⟩ : ∃ l, Ra W (.slice a1 n1 c1) l ∧ AllI l ∧ l.length ≤ 9223372036854775807 := by
    obtain ⟨fuel, hf⟩ := h1
    exact rd_open hf
  have k2 := h2
  have lt2 : ∀ x ∈ p2, x.block < W.heap.size := by obtain ⟨m, hm⟩ := k2; exact DataW.trod_lt m _ _ _ hm
  obtain ⟨a2, n2, c2, rfl⟩ := okWide_slice Try.underlying22 (hval 2 22 v2 rfl rfl)
  obtain ⟨l2, R2, A2, B2⟩ : ∃ l, Ra W (.slice a2 n2 c2) l ∧ AllI l ∧ l.length ≤ 9223372036854775807 := by
    obtain ⟨fuel, hf⟩ := h2
    exact rd_open hf
  clear hA0 hval0
  refine (walk _ l0 _ l1 _ l2 W R0 A0 B0 R1 A1 B1 R2 A2 B2 ).mono fun e W' ⟨he, bel⟩ => ?_
  subst he
  exact ⟨_, rfl, _, _, _, [], _, [], hW', trodAll_mk1 (shut_bool Try.underlying4 _), (trodAll_cons_mk (Below.trod laidOut5 (by kernel_rfl) (of_decide_eq_true (by kernel_rfl)) k0 bel lt0) (trodAll_cons_mk (Below.trod laidOut5 (by kernel_rfl) (of_decide_eq_true (by kernel_rfl)) k1 bel lt1) (trodAll_cons_mk (Below.trod laidOut5 (by kernel_rfl) (of_decide_eq_true (by kernel_rfl)) k2 bel lt2) trodAll_mk0))), rfl, Below.frame bel _, fun h => by cases h⟩

theorem over : Rows.spanPartsRow.holds Try.pinned (OpenSpec.ofChange Rows.spanPartsSpec) :=
  OpenClaim.holds_of_wide 8 Try.f8 rfl rfl rfl rfl rfl rfl rfl ⟨rfl, rfl, rfl, rfl, rfl⟩ rfl rfl rfl rfl rfl (by kernel_rfl) Try.func8 (by kernel_rfl)
    (of_decide_eq_true (by kernel_rfl)) (by unfold Func.isWrapper; first | (rw [if_pos (by decide +kernel)]; kernel_rfl) | (rw [if_neg (by decide +kernel)]; exact ⟨rfl, rfl⟩))
    (fun os started H enc _ => lifted os started H enc)

theorem proved : Rows.SpanPartsSaid := over
end Go.Proofs.Ytplidbcifljfoaa.spanParts
namespace Go.Proofs.Ytplidbcifljfoaa
theorem spanParts_holds : Rows.SpanPartsSaid := spanParts.proved
end Go.Proofs.Ytplidbcifljfoaa
