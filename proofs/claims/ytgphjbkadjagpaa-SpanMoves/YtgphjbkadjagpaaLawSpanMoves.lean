/-
  SpanMoves is proved: what becomes of a list when a place comes or goes is as the document says, and it is back when the place that came goes, for every list of spans and every place. No condition but the form's own reach.
-/
import Derived.Test.YtgphjbkadjagpaaSpU
namespace Go.Proofs.Ytgphjbkadjagpaa.spanMoves
open Go.ChangeShapes Go.WideShapes Go.ChangeAt Go.RowKit
set_option maxHeartbeats 4000000

set_option maxRecDepth 100000 in
theorem walk (vl : Value) (l : List Sp) (a : Int) (w0 : World) (hl : Ra w0 vl l) (al : AllI l) (bl : l.length ≤ 9223372036854775807) (ja : I64 a) :
    Calls Try.prog 3 #[vl, .int .i64 a] w0 fun e w' => e = .returned (.bool true) ∧ Ext w0 w' := by
  have RRl : Hid (Ra w0 vl l) := hl
  have Hl : Hid (AllI l) := al
  have Nl : Hid (l.length ≤ 9223372036854775807) := bl
  clear hl al bl
  have HJ : Hid (I64 a) := ja
  clear ja
  obtain ⟨p, pp1, pp2⟩ := plain_ex (l.take 60)
  have HPP : Hid (Plain p ∧ ∀ n, hasB p n = hasB (l.take 60) n) := ⟨pp1, pp2⟩
  clear pp1 pp2
  go_enter Try.func3, Try.ntmps3
  go_wp2_with fail
  refine (few_any _ _ l (RRl.out.ext (Ext.refl _)) Nl.out).mono ?_
  rintro e w1 ⟨⟨f1, rfl, R⟩, hw⟩
  have HX1 : Hid (Ext w0 w1) := by rw [hw]; exact Ext.refl _
  have HF2 : Hid (Ra w1 f1 (l.take 60)) := R
  clear hw
  clear R
  go_wp2_with fail
  refine (own_any _ _ (l.take 60) (HF2.out.ext (Ext.refl _)) (by have := (len60 l); omega)).mono ?_
  rintro e w2 ⟨o3, rfl, O, E⟩
  have HX2 : Hid (Ext w1 w2) := E
  have HO4 : Hid (Rd w2 o3 (l.take 60)) := O.rd
  clear O E
  go_wp2_with fail
  refine (opened_any _ _ (l.take 60) p a (HO4.out.ext (Ext.refl _)) (by have := (len60 l); omega) (AllI.take Hl.out) HJ.out HPP.out.1 HPP.out.2).mono ?_
  rintro e w3 ⟨s5, r6, rfl, k1, k2, k3, k4, k5, E⟩
  have HX3 : Hid (Ext w2 w3) := E
  have HS7 : Hid (Rd w3 s5 r6) := k1.rd
  have HP8 : Hid (Plain r6 ∧ (∀ n, hasB r6 n = hasB (p.map (opn a)) n) ∧ AllI r6 ∧ r6.length ≤ 60) := ⟨k2, k3, k4, by have := (len60 l); omega⟩
  clear k1 k2 k3 k4 k5 E
  go_wp2_with fail
  refine (ropened_any _ _ (l.take 60) p a (HF2.out.ext (HX2.out.trans HX3.out)) (len60 l) (AllI.take Hl.out) HJ.out HPP.out.1 HPP.out.2).mono ?_
  rintro e w4 ⟨s9, r10, rfl, k1, k2, k3, k4, k5, E⟩
  have HX4 : Hid (Ext w3 w4) := E
  have HS11 : Hid (Rd w4 s9 r10) := k1.rd
  have HP12 : Hid (Plain r10 ∧ (∀ n, hasB r10 n = hasB (p.map (opn a)) n) ∧ AllI r10 ∧ r10.length ≤ 240) := ⟨k2, k3, k4, k5⟩
  clear k1 k2 k3 k4 k5 E
  go_wp2_with fail
  refine (same_any _ _ _ r6 r10 (HS7.out.ext HX4.out) (HS11.out.ext (Ext.refl _)) (by have := HP8.out.2.2.2; omega) (by have := HP12.out.2.2.2; omega)).mono ?_
  rintro e w5 ⟨rfl, E⟩
  have HX5 : Hid (Ext w4 w5) := E
  clear E
  have hd : decide (r6 = r10) = true := by rw [decide_eq_true_eq]; exact plain_one HP8.out.1 HP12.out.1 (fun n => by rw [HP8.out.2.1, HP12.out.2.1])
  rw [hd]
  clear hd
  go_wp2_with fail
  refine (own_any _ _ (l.take 60) (HF2.out.ext (((HX2.out.trans HX3.out).trans HX4.out).trans HX5.out)) (by have := (len60 l); omega)).mono ?_
  rintro e w6 ⟨o13, rfl, O, E⟩
  have HX6 : Hid (Ext w5 w6) := E
  have HO14 : Hid (Rd w6 o13 (l.take 60)) := O.rd
  clear O E
  go_wp2_with fail
  refine (closed_any _ _ (l.take 60) p a (HO14.out.ext (Ext.refl _)) (by have := (len60 l); omega) (AllI.take Hl.out) HJ.out HPP.out.1 HPP.out.2).mono ?_
  rintro e w7 ⟨s15, r16, rfl, k1, k2, k3, k4, k5, E⟩
  have HX7 : Hid (Ext w6 w7) := E
  have HS17 : Hid (Rd w7 s15 r16) := k1.rd
  have HP18 : Hid (Plain r16 ∧ (∀ n, hasB r16 n = hasB (p.map (cls a)) n) ∧ AllI r16 ∧ r16.length ≤ 60) := ⟨k2, k3, k4, by have := (len60 l); omega⟩
  clear k1 k2 k3 k4 k5 E
  go_wp2_with fail
  refine (rclosed_any _ _ (l.take 60) p a (HF2.out.ext (((((HX2.out.trans HX3.out).trans HX4.out).trans HX5.out).trans HX6.out).trans HX7.out)) (len60 l) (AllI.take Hl.out) HJ.out HPP.out.1 HPP.out.2).mono ?_
  rintro e w8 ⟨s19, r20, rfl, k1, k2, k3, k4, k5, E⟩
  have HX8 : Hid (Ext w7 w8) := E
  have HS21 : Hid (Rd w8 s19 r20) := k1.rd
  have HP22 : Hid (Plain r20 ∧ (∀ n, hasB r20 n = hasB (p.map (cls a)) n) ∧ AllI r20 ∧ r20.length ≤ 240) := ⟨k2, k3, k4, k5⟩
  clear k1 k2 k3 k4 k5 E
  go_wp2_with fail
  refine (same_any _ _ _ r16 r20 (HS17.out.ext HX8.out) (HS21.out.ext (Ext.refl _)) (by have := HP18.out.2.2.2; omega) (by have := HP22.out.2.2.2; omega)).mono ?_
  rintro e w9 ⟨rfl, E⟩
  have HX9 : Hid (Ext w8 w9) := E
  clear E
  have hd : decide (r16 = r20) = true := by rw [decide_eq_true_eq]; exact plain_one HP18.out.1 HP22.out.1 (fun n => by rw [HP18.out.2.1, HP22.out.2.1])
  rw [hd]
  clear hd
  go_wp2_with fail
  refine (by_any _ 0 _ _ (l.take 60) [] (by decide) (HF2.out.ext (((((((HX2.out.trans HX3.out).trans HX4.out).trans HX5.out).trans HX6.out).trans HX7.out).trans HX8.out).trans HX9.out)) (.inl (Rd.nil _)) (by have := (len60 l); omega) (by simp) (AllI.take Hl.out) (by intro s hs; simp at hs)).mono ?_
  rintro e w10 ⟨s23, r24, rfl, k1, k2, k3, k4, k5, E⟩
  have HX10 : Hid (Ext w9 w10) := E
  have HS25 : Hid (Rd w10 s23 r24) := k1.rd
  have HP26 : Hid (Plain r24 ∧ (∀ n, hasB r24 n = fOf 0 (l.take 60) [] n) ∧ AllI r24 ∧ r24.length ≤ 240) := ⟨k2, k3, k4, by have := k5; have := (len60 l); have : ([] : List Sp).length = 0 := rfl; omega⟩
  clear k1 k2 k3 k4 k5 E
  obtain rfl : r24 = p := plain_one HP26.out.1 HPP.out.1 (fun n => by rw [HP26.out.2.1, HPP.out.2]; exact Bool.or_false _)
  have hpl : r24.length ≤ 240 := by have := HP26.out.2.2.2; omega
  obtain ⟨qp, qc, hq⟩ := HS25.out.form
  have HQF : Hid (Plain r24 ∧ AllI r24) := ⟨HP26.out.1, HP26.out.2.2.1⟩
  rcases snoc_cases r24 with hr0 | ⟨q, t, hrs⟩
  · have hz : r24.length = 0 := by rw [hr0]; rfl
    rw [hz] at hq
    subst hq
    have HSP : Hid (Rd w10 (.slice qp 0 qc) r24) := HS25.out
    have HBL : Hid (∀ s ∈ r24, s.1 < s.2 ∧ s.2 < 9223372036854775807) := by intro s hs; rw [hr0] at hs; simp at hs
    clear hr0 hz
    go_wp2_with fail
    refine (closed_any _ _ r6 r6 a (HS7.out.ext ((((((HX4.out.trans HX5.out).trans HX6.out).trans HX7.out).trans HX8.out).trans HX9.out).trans HX10.out)) (by have := HP8.out.2.2.2; omega) HP8.out.2.2.1 HJ.out HP8.out.1 (fun _ => rfl)).mono ?_
    rintro e w11 ⟨s27, r28, rfl, k1, k2, k3, k4, k5, E⟩
    have HX11 : Hid (Ext w10 w11) := E
    have HS29 : Hid (Rd w11 s27 r28) := k1.rd
    have HP30 : Hid (Plain r28 ∧ (∀ n, hasB r28 n = hasB (r6.map (cls a)) n) ∧ AllI r28 ∧ r28.length ≤ 60) := ⟨k2, k3, k4, by have := HP8.out.2.2.2; omega⟩
    clear k1 k2 k3 k4 k5 E
    go_wp2_with fail
    refine (same_any _ _ _ r28 r24 (HS29.out.ext (Ext.refl _)) (HSP.out.ext HX11.out) (by have := HP30.out.2.2.2; omega) (by have := HP26.out.2.2.2; omega)).mono ?_
    rintro e w12 ⟨rfl, E⟩
    have HX12 : Hid (Ext w11 w12) := E
    clear E
    have hd : decide (r28 = r24) = true := by rw [decide_eq_true_eq]; exact way_back HPP.out.1 HBL.out HP8.out.2.1 HP30.out.1 HP30.out.2.1
    rw [hd]
    clear hd
    go_wp2_with fail
    refine (lives_any _).mono ?_
    rintro e w13 ⟨rfl, E⟩
    have HX13 : Hid (Ext w12 w13) := E
    clear E
    go_wp2
    go_ret
    exact ⟨rfl, ((((((((((((HX1.out.trans HX2.out).trans HX3.out).trans HX4.out).trans HX5.out).trans HX6.out).trans HX7.out).trans HX8.out).trans HX9.out).trans HX10.out).trans HX11.out).trans HX12.out).trans HX13.out)⟩
  · obtain ⟨K, hK⟩ : ∃ K : Nat, q.length = K := ⟨_, rfl⟩
    have hz : r24.length = K + 1 := by rw [hrs, List.length_append, hK]; rfl
    rw [hz] at hq
    subst hq
    have HSP : Hid (Rd w10 (.slice qp (K + 1) qc) r24) := HS25.out
    obtain ⟨b, off, s, rfl, hs, hu1, hu2, hc⟩ := HSP.out.at (k := K) (by omega)
    obtain ⟨_, e2⟩ := hc _ (Ext.refl _)
    have hst : s = t := by
      have : r24[K]? = some t := by rw [hrs, List.getElem?_append_right (by omega), hK, Nat.sub_self]; rfl
      rw [this] at hs; exact (Option.some.inj hs).symm
    subst hst
    obtain ⟨s1, s2⟩ := s
    have HLA : Hid (s2 ≠ 9223372036854775807 → ∀ s ∈ r24, s.1 < s.2 ∧ s.2 < 9223372036854775807) := fun h => plain_below HQF.out.1 HQF.out.2 (fun u hu => by
      rw [hrs] at hu
      simp at hu
      rw [← hu]; exact h)
    have w1_ : wrap64 ((K : Int) + 1 - 1) = (K : Int) ∧ wrap64 (K : Int) = (K : Int) := wrap_m K (by omega)
    have w2_ := w1_.2
    replace w1_ := w1_.1
    have w3_ := pos_m K
    have w4_ := lt_m K
    have hKI : (K : Int) ≤ 240 := by omega
    clear hc hs hrs hz hK hpl hu1 hu2
    simp only at e2
    by_cases hg : s2 = 9223372036854775807
    · have hg2 : (s2 == 9223372036854775807) = true := by simpa using hg
      clear HLA hg
      go_wp2_with fail
      refine (lives_any _).mono ?_
      rintro e w11 ⟨rfl, E⟩
      have HX11 : Hid (Ext w10 w11) := E
      clear E
      go_wp2
      go_ret
      exact ⟨rfl, ((((((((((HX1.out.trans HX2.out).trans HX3.out).trans HX4.out).trans HX5.out).trans HX6.out).trans HX7.out).trans HX8.out).trans HX9.out).trans HX10.out).trans HX11.out)⟩
    · have hg2 : (s2 == 9223372036854775807) = false := by simpa using hg
      have HBL : Hid (∀ s ∈ r24, s.1 < s.2 ∧ s.2 < 9223372036854775807) := HLA.out hg
      clear HLA hg
      go_wp2_with fail
      refine (closed_any _ _ r6 r6 a (HS7.out.ext ((((((HX4.out.trans HX5.out).trans HX6.out).trans HX7.out).trans HX8.out).trans HX9.out).trans HX10.out)) (by have := HP8.out.2.2.2; omega) HP8.out.2.2.1 HJ.out HP8.out.1 (fun _ => rfl)).mono ?_
      rintro e w11 ⟨s31, r32, rfl, k1, k2, k3, k4, k5, E⟩
      have HX11 : Hid (Ext w10 w11) := E
      have HS33 : Hid (Rd w11 s31 r32) := k1.rd
      have HP34 : Hid (Plain r32 ∧ (∀ n, hasB r32 n = hasB (r6.map (cls a)) n) ∧ AllI r32 ∧ r32.length ≤ 60) := ⟨k2, k3, k4, by have := HP8.out.2.2.2; omega⟩
      clear k1 k2 k3 k4 k5 E
      go_wp2_with fail
      refine (same_any _ _ _ r32 r24 (HS33.out.ext (Ext.refl _)) (HSP.out.ext HX11.out) (by have := HP34.out.2.2.2; omega) (by have := HP26.out.2.2.2; omega)).mono ?_
      rintro e w12 ⟨rfl, E⟩
      have HX12 : Hid (Ext w11 w12) := E
      clear E
      have hd : decide (r32 = r24) = true := by rw [decide_eq_true_eq]; exact way_back HPP.out.1 HBL.out HP8.out.2.1 HP34.out.1 HP34.out.2.1
      rw [hd]
      clear hd
      go_wp2_with fail
      refine (lives_any _).mono ?_
      rintro e w13 ⟨rfl, E⟩
      have HX13 : Hid (Ext w12 w13) := E
      clear E
      go_wp2
      go_ret
      exact ⟨rfl, ((((((((((((HX1.out.trans HX2.out).trans HX3.out).trans HX4.out).trans HX5.out).trans HX6.out).trans HX7.out).trans HX8.out).trans HX9.out).trans HX10.out).trans HX11.out).trans HX12.out).trans HX13.out)⟩

set_option maxRecDepth 100000 in
theorem lifted (os : Os) (started : os.Started) (H : Type) (enc : TypeId × Value → H) :
    ReturnsInHanded {} Try.checked os 3 .any (Rows.spanMovesSpec.pre6 enc Try.prog Try.f3 Rows.spanMovesRow.domain false) (Rows.spanMovesSpec.post enc Try.prog Try.f3 false true false false) := by
  refine returnsInHanded_of_change (C := Try.checked) own5 started (by kernel_rfl) Try.func3
    (ChangeSpec.witness6 (enc := enc) (C := Try.checked) false ⟨#[], #[.slice none 0 0, .int .i64 0], []⟩ 8 (by kernel_rfl) (by kernel_rfl) (by kernel_rfl) (by kernel_rfl)) ?_
  intro W base args ds gs before hval0 hW hcnd _
  have hval : ∀ (j : Nat) t v, Try.f3.params[j]? = some t → args[j]? = some v → Value.okWide Try.prog W .any base t v := hval0
  have hW' := hW
  obtain ⟨p, q, hA0, hV, rfl, hfz, hnd⟩ := hW
  have hA : DataW.TrodAll enc Try.prog W 0 (fun _ => true) true Try.f3.params.toList args.toList ds p := hA0
  rw [Try.params3] at hA hval
  obtain ⟨v0, vs0, d0, ds0, p0, q0, hargs, rfl, rfl, h0, r0⟩ := trodAll_cons hA
  obtain ⟨v1, vs1, d1, ds1, p1, q1, rfl, rfl, rfl, h1, r1⟩ := trodAll_cons r0
  obtain ⟨rfl, rfl, rfl⟩ := trodAll_nil r1
  obtain rfl : args = #[v0, v1] := by cases args; simp_all
  obtain ⟨rfl, rfl⟩ := trodVars_none hV
  have k0 := h0
  have lt0 : ∀ x ∈ p0, x.block < W.heap.size := by obtain ⟨m, hm⟩ := k0; exact DataW.trod_lt m _ _ _ hm
  obtain ⟨a0, n0, c0, rfl⟩ := okWide_slice Try.underlying22 (hval 0 22 v0 rfl rfl)
  obtain ⟨l0, R0, A0, B0⟩ : ∃ l, Ra W (.slice a0 n0 c0) l ∧ AllI l ∧ l.length ≤ 9223372036854775807 := by
    obtain ⟨fuel, hf⟩ := h0
    exact rd_open hf
  obtain ⟨a1, rfl, rfl, rfl, w1⟩ := open_int Try.underlying3 (hval 1 3 v1 rfl rfl) h1
  clear hA0 hval0
  refine (walk _ l0 a1 W R0 A0 B0 (i64_of_wf w1)).mono fun e W' ⟨he, bel⟩ => ?_
  subst he
  exact ⟨_, rfl, _, _, _, [], _, [], hW', trodAll_mk1 (shut_bool Try.underlying4 _), (trodAll_cons_mk (Below.trod laidOut5 (by kernel_rfl) (of_decide_eq_true (by kernel_rfl)) k0 bel lt0) (trodAll_cons_mk (shut_int Try.underlying3 w1) trodAll_mk0)), rfl, Below.frame bel _, fun h => by cases h⟩

theorem over : Rows.spanMovesRow.holds Try.pinned (OpenSpec.ofChange Rows.spanMovesSpec) :=
  OpenClaim.holds_of_wide 3 Try.f3 rfl rfl rfl rfl rfl rfl rfl ⟨rfl, rfl, rfl, rfl, rfl⟩ rfl rfl rfl rfl rfl (by kernel_rfl) Try.func3 (by kernel_rfl)
    (of_decide_eq_true (by kernel_rfl)) (by unfold Func.isWrapper; first | (rw [if_pos (by decide +kernel)]; kernel_rfl) | (rw [if_neg (by decide +kernel)]; exact ⟨rfl, rfl⟩))
    (fun os started H enc _ => lifted os started H enc)

theorem proved : Rows.SpanMovesSaid := over
end Go.Proofs.Ytgphjbkadjagpaa.spanMoves
namespace Go.Proofs.Ytgphjbkadjagpaa
theorem spanMoves_holds : Rows.SpanMovesSaid := spanMoves.proved
end Go.Proofs.Ytgphjbkadjagpaa
