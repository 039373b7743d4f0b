/-
  Contracts of the document's numbers of any size: quotients, and those that are rounded.
-/
import Derived.Test.YtbonaldlljdaoaaBigD
import Derived.Test.YtbonaldlljdaoaaFixJ
namespace Go.Proofs.Ytbonaldlljdaoaa
open Go.RowKit
set_option maxHeartbeats 2000000

theorem divide_big (x d : Nat) (va vb : Value) (w : World) (ha : IsBig w va x) (hb : IsBig w vb d) (hx : blen x ≤ 20000) (hd : blen d ≤ 20000) (hd0 : 0 < d) :
    Calls Try.prog 49 #[va, vb] w fun e w' => (∃ v u, e = .returned (.tuple #[v, u]) ∧ IsBig w' v (x / d) ∧ IsBig w' u (x % d)) ∧ Ext w w' := by
  have HC : Hid (∀ i W, i < blen x → Ext w W → ∀ p pc, va = .slice (some ⟨p, 0, none⟩) (blen x) pc → W.cell? ⟨p, i, none⟩ = some (.bool (x / 2 ^ i % 2 == 1))) := by
    intro i W h e p pc hp
    obtain ⟨p', pc', hp', _, _, h3⟩ := ha.ext e
    change va = .slice (some ⟨p', 0, none⟩) (blen x) pc' at hp'
    rw [hp] at hp'
    simp at hp'
    rw [hp'.1]
    exact h3 i _ (bits_at x i h)
  have HK : Hid (∀ r W v, r ≤ 2 * d → Ext w W → IsBig W v r → Calls Try.prog 50 #[v, vb] W fun e w' => (∃ c : Int, e = .returned (.int .i64 c) ∧ (c < 0 ↔ r < d) ∧ (0 < c ↔ d < r)) ∧ Ext W w') := by
    intro r W v hr e h
    refine cmp_big r d v vb W h (hb.ext e) ?_ (by omega)
    have : blen (d * 2 ^ 1) = 1 + blen d := blen_shift 1 hd0
    have := blen_mono (show r ≤ d * 2 ^ 1 by omega)
    omega
  have HM : Hid (∀ r W v, r ≤ 2 * d → d ≤ r → Ext w W → IsBig W v r → Calls Try.prog 55 #[v, vb] W fun e w' => (∃ v, e = .returned v ∧ IsBig w' v (r - d)) ∧ Ext W w') := by
    intro r W v hr hdr e h
    refine minus_big r d v vb W h (hb.ext e) ?_ hdr
    have : blen (d * 2 ^ 1) = 1 + blen d := blen_shift 1 hd0
    have := blen_mono (show r ≤ d * 2 ^ 1 by omega)
    omega
  have HX : Hid (x / 2 ^ blen x = 0) := Nat.div_eq_of_lt (lt_blen x)
  obtain ⟨p, pc, hv, k1, k2, k3⟩ := ha
  change va = .slice (some ⟨p, 0, none⟩) (blen x) pc at hv
  have HC2 : Hid (∀ i W, i < blen x → Ext w W → W.cell? ⟨p, i, none⟩ = some (.bool (x / 2 ^ i % 2 == 1))) := fun i W h e => HC.out i W h e p pc hv
  subst hv
  have HD : Hid (0 < d ∧ blen d ≤ 20000) := ⟨hd0, hd⟩
  clear k1 k3 HC hd0 hb hd
  generalize blen x = X at *
  have hXI : (X : Int) ≤ 20000 := by omega
  go_enter Try.func49, Try.ntmps49
  go_wp2
  go_loopw [6, 7, 8] (fun qv rv iv wr => ∃ (j : Nat) (l : List Bool), iv = .int .i64 ((j : Int) - 1) ∧ j ≤ X ∧ Row wr qv l ∧ l.length = X - j ∧ valOf l = x / 2 ^ j / d ∧ IsBig wr rv (x / 2 ^ j % d) ∧ Ext w wr) (fun _ _ iv _ => (intOf iv + 1).toNat)
  case atStart =>
    refine ⟨X, [], rfl, Nat.le_refl _, ⟨_, 0, rfl, Nat.le_refl _, ?_, fun i x hx => by simp at hx⟩, by simp, ?_, ?_, ((Ext.refl _).alloc _).alloc _⟩
    · simp; omega
    · rw [HX.out, Nat.zero_div]; rfl
    · rw [HX.out, Nat.zero_mod]; exact row_nil _ _ (by simp)
  case round =>
    obtain ⟨j, l, rfl, hj, hQ, hl, hv, hR, hE⟩ := hrel
    rcases Nat.eq_zero_or_pos j with rfl | hj0
    · rw [Nat.pow_zero, Nat.div_one] at hv hR
      have cT := fun W (e : Ext wr W) => trim_any l u6 W (hQ.ext e) (by omega)
      rw [hv] at cT
      have HR : Hid (IsBig wr u7 (x % d)) := hR
      clear hv hR hQ hl hj
      go_wp2_with fail
      refine (cT _ (Ext.refl _)).mono ?_
      rintro e w1 ⟨⟨v', rfl, hB⟩, rfl⟩
      go_wp2
      go_ret2
      exact ⟨⟨v', u7, rfl, hB, HR.out⟩, hE⟩
    · obtain ⟨i, rfl⟩ : ∃ i, j = i + 1 := ⟨j - 1, by omega⟩
      have ej : (((i + 1 : Nat) : Int) - 1) = (i : Int) := by omega
      rw [ej]
      clear ej
      have hc := HC2.out i wr (by omega) hE
      obtain ⟨t, ht⟩ : ∃ t : Bool, t = (x / 2 ^ i % 2 == 1) := ⟨_, rfl⟩
      have ht2 : t.toNat = x / 2 ^ i % 2 := by rw [ht]; rcases Nat.mod_two_eq_zero_or_one (x / 2 ^ i) with g | g <;> rw [g] <;> rfl
      rw [← ht] at hc
      have hZ := half_step x i
      rw [← ht2] at hZ
      have hd1 := div_no (x / 2 ^ (i + 1)) d t.toNat HD.out.1
      have hd2 := div_yes (x / 2 ^ (i + 1)) d t.toNat HD.out.1 (Bool.toNat_lt t)
      rw [← hZ] at hd1 hd2
      have hrl := Nat.mod_lt (x / 2 ^ (i + 1)) HD.out.1
      have hgI : (i : Int) < (X : Int) := by omega
      have HI : Hid (i + 1 ≤ X ∧ X ≤ 20000 ∧ l.length = X - (i + 1)) := ⟨hj, hx, hl⟩
      have HRl : Hid ((bitsOf (x / 2 ^ (i + 1) % d)).length ≤ 20000) := by
        have := blen_mono (Nat.le_of_lt hrl)
        have := HD.out.2
        show blen _ ≤ 20000
        omega
      have HV : Hid (valOf l = x / 2 ^ (i + 1) / d) := hv
      have HVR : Hid (∀ b : Bool, valOf ([b] ++ bitsOf (x / 2 ^ (i + 1) % d)) = x / 2 ^ (i + 1) % d * 2 + b.toNat) := by
        intro b; rw [List.singleton_append, valOf, valOf_bitsOf]; omega
      generalize x / 2 ^ (i + 1) % d = r at *
      generalize x / 2 ^ (i + 1) / d = q at *
      have HS : Hid ((r * 2 + t.toNat < d → x / 2 ^ i / d = q * 2 ∧ x / 2 ^ i % d = r * 2 + t.toNat) ∧ (d ≤ r * 2 + t.toNat → x / 2 ^ i / d = q * 2 + 1 ∧ x / 2 ^ i % d = r * 2 + t.toNat - d) ∧ r * 2 + t.toNat ≤ 2 * d) :=
        ⟨hd1, hd2, by have := Bool.toNat_lt t; omega⟩
      have hR' : Row wr u7 (bitsOf r) := hR
      clear hd1 hd2 hZ ht ht2 hv hrl hj hj0 hl hR
      go_wp2_with (at_builtin; refine own_append _ wr _ _ _ _ [t] (bitsOf r) rfl rfl (by rfl) (by rfl) (own_one wr wr (Nat.le_refl _) t) (hR'.ext ((Ext.refl _).alloc _)) (by have := HRl.out; simp; omega) ((Ext.refl _).alloc _) ?_; intro v1 W1 hO1 hE1)
      have cT := trim_any _ v1 W1 hO1.row (by have := HRl.out; simp; omega)
      rw [HVR.out t] at cT
      have hQ1 : Row W1 u6 l := hQ.ext hE1
      have hF1 := hE.trans hE1
      clear hO1 hc hR' hQ hE hE1
      go_wp2_with fail
      refine cT.mono ?_
      rintro e w1 ⟨⟨r1, rfl, hB⟩, rfl⟩
      have cK := HK.out _ w1 r1 HS.out.2.2 hF1 hB
      have HBB : Hid (IsBig w1 r1 (r * 2 + t.toNat)) := hB
      clear hB cT
      go_wp2_with fail
      refine cK.mono ?_
      rintro e w2 ⟨⟨c, rfl, hc1, hc2⟩, E2⟩
      have hQ2 := hQ1.ext E2
      have hE2 := hF1.trans E2
      have HB2 : Hid (IsBig w2 r1 (r * 2 + t.toNat)) := HBB.out.ext E2
      clear hQ1 cK E2 hF1 HBB
      by_cases hlt : r * 2 + t.toNat < d
      · have hc0 : decide (0 ≤ c) = false := by have := hc1.mpr hlt; simp; omega
        have HFF : Hid (x / 2 ^ i / d = q * 2 ∧ x / 2 ^ i % d = r * 2 + t.toNat) := HS.out.1 hlt
        clear hc1 hc2 hlt
        go_wp2_with (at_builtin; refine own_append _ w2 _ _ _ _ [false] l rfl rfl (by rfl) (by rfl) (own_one w2 w2 (Nat.le_refl _) false) (hQ2.ext ((Ext.refl _).alloc _)) (by have := HI.out; simp; omega) ((Ext.refl _).alloc _) ?_; intro v3 W3 hO3 hE3)
        have hV3 : valOf ([false] ++ l) = q * 2 := by rw [List.singleton_append, valOf, HV.out]; simp; omega
        have HR3 : Hid (IsBig W3 r1 (x / 2 ^ i % d)) := by
          show IsBig W3 r1 (x / 2 ^ i % d)
          rw [HFF.out.2]; exact HB2.out.ext hE3
        have HV3 : Hid (valOf ([false] ++ l) = x / 2 ^ i / d) := by
          show valOf ([false] ++ l) = _
          rw [HFF.out.1]; exact hV3
        clear hV3
        go_wp2
        go_roundw
        case rel => exact ⟨i, [false] ++ l, rfl, by have := HI.out; omega, hO3.row, by have := HI.out; simp; omega, HV3.out, HR3.out, hE2.trans hE3⟩
        case measure => simp [intOf]
      · have hc0 : decide (0 ≤ c) = true := by
          have : ¬ c < 0 := fun h => hlt (hc1.mp h)
          simp; omega
        have HFF : Hid (x / 2 ^ i / d = q * 2 + 1 ∧ x / 2 ^ i % d = r * 2 + t.toNat - d) := HS.out.2.1 (by omega)
        have cM := HM.out _ w2 r1 HS.out.2.2 (by omega) hE2 HB2.out
        clear hc1 hc2 hlt HB2
        go_wp2_with fail
        refine cM.mono ?_
        rintro e w4 ⟨⟨r4, rfl, hB4⟩, E4⟩
        have hQ4 := hQ2.ext E4
        have hE4 := hE2.trans E4
        have HB4 : Hid (IsBig w4 r4 (r * 2 + t.toNat - d)) := hB4
        clear hQ2 hE2 E4 hB4 cM
        go_wp2_with (at_builtin; refine own_append _ w4 _ _ _ _ [true] l rfl rfl (by rfl) (by rfl) (own_one w4 w4 (Nat.le_refl _) true) (hQ4.ext ((Ext.refl _).alloc _)) (by have := HI.out; simp; omega) ((Ext.refl _).alloc _) ?_; intro v3 W3 hO3 hE3)
        have hV3 : valOf ([true] ++ l) = q * 2 + 1 := by rw [List.singleton_append, valOf, HV.out]; simp; omega
        have HR3 : Hid (IsBig W3 r4 (x / 2 ^ i % d)) := by
          show IsBig W3 r4 (x / 2 ^ i % d)
          rw [HFF.out.2]; exact HB4.out.ext hE3
        have HV3 : Hid (valOf ([true] ++ l) = x / 2 ^ i / d) := by
          show valOf ([true] ++ l) = _
          rw [HFF.out.1]; exact hV3
        clear hV3
        go_wp2
        go_roundw
        case rel => exact ⟨i, [true] ++ l, rfl, by have := HI.out; omega, hO3.row, by have := HI.out; simp; omega, HV3.out, HR3.out, hE4.trans hE3⟩
        case measure => simp [intOf]
theorem even_big (x d : Nat) (va vb : Value) (w : World) (ha : IsBig w va x) (hb : IsBig w vb d) (hx : blen x ≤ 20000) (hd : blen d ≤ 20000) (hd0 : 0 < d) :
    Calls Try.prog 30 #[va, vb] w fun e w' => (∃ v, e = .returned v ∧ IsBig w' v (evenQ x d)) ∧ Ext w w' := by
  have c1 := divide_big x d va vb w ha hb hx hd hd0
  have hq1 : blen (x / d) ≤ 20000 := Nat.le_trans (blen_mono (Nat.div_le_self x d)) hx
  have hr1 : blen (x % d) ≤ 20000 := Nat.le_trans (blen_mono (Nat.le_of_lt (Nat.mod_lt x hd0))) hd
  have HU : Hid (∀ W v, IsBig W v (x % d) → Calls Try.prog 29 #[v, .int .i64 1] W fun e w' => (∃ v, e = .returned v ∧ IsBig w' v (x % d * 2)) ∧ Ext W w') := by
    intro W v h
    exact up_big (x % d) 1 v W h (by omega) (by omega)
  have HK : Hid (∀ W v, Ext w W → IsBig W v (x % d * 2) → Calls Try.prog 50 #[v, vb] W fun e w' => (∃ c : Int, e = .returned (.int .i64 c) ∧ (c < 0 ↔ x % d * 2 < d) ∧ (0 < c ↔ d < x % d * 2)) ∧ Ext W w') := by
    intro W v e h
    refine cmp_big _ d v vb W h (hb.ext e) ?_ (by omega)
    have := blen_mono (show x % d * 2 ≤ d * 2 ^ 1 by have := Nat.mod_lt x hd0; omega)
    have : blen (d * 2 ^ 1) = 1 + blen d := blen_shift 1 hd0
    omega
  have HV : Hid (evenQ x d = x / d + if d < 2 * (x % d) ∨ (d = 2 * (x % d) ∧ x / d % 2 = 1) then 1 else 0) := rfl
  have HL : Hid (blen (x / d) ≤ 20000) := hq1
  generalize x / d = q at *
  generalize x % d = r at *
  clear hr1 hq1 ha hb hx hd
  go_enter Try.func30, Try.ntmps30
  go_wp2_with fail
  refine c1.mono ?_
  rintro e w1 ⟨⟨qv, rv, rfl, hQ, hR⟩, E1⟩
  have cU := HU.out w1 rv hR
  clear c1 hR HU
  go_wp2_with fail
  refine cU.mono ?_
  rintro e w2 ⟨⟨ru, rfl, hRu⟩, E2⟩
  have cK := HK.out w2 ru (E1.trans E2) hRu
  clear cU hRu HK
  go_wp2_with fail
  refine cK.mono ?_
  rintro e w3 ⟨⟨c, rfl, hc1, hc2⟩, E3⟩
  have hE := E1.trans (E2.trans E3)
  have hQ3 := hQ.ext (E2.trans E3)
  have HQ : Hid (∀ W, Ext w3 W → IsBig W qv q) := fun W e => hQ3.ext e
  clear cK hQ E1 E2 E3
  by_cases g1 : d < 2 * r
  · have HE : Hid (evenQ x d = q + 1) := by show evenQ x d = q + 1; rw [HV.out, if_pos (Or.inl g1)]
    have hc : 0 < c := hc2.mpr (by omega)
    clear hc1 hc2 g1
    have cO := fun W => of_any 1 (by omega) W
    rw [show ((1 : Nat) : Int) = 1 from rfl] at cO
    go_wp2_with fail
    refine (cO _).mono ?_
    rintro e w4 ⟨⟨o, rfl, hO⟩, E4⟩
    have cP := plus_big q 1 _ _ _ (HQ.out _ E4) hO (by have := HL.out; omega) (by have : blen 1 ≤ 1 := blen_le (by decide); omega)
    have E5 := hE.trans E4
    clear hO
    go_wp2_with fail
    refine cP.mono ?_
    rintro e w5 ⟨⟨t, rfl, ht⟩, E6⟩
    have HT : Hid (IsBig w5 t (evenQ x d)) := by
      show IsBig w5 t (evenQ x d)
      rw [HE.out]; exact ht
    clear ht
    go_wp2
    go_ret
    exact ⟨⟨t, rfl, HT.out⟩, E5.trans E6⟩
  by_cases g2 : d = 2 * r
  · have hc : c = 0 := by
      have : ¬ c < 0 := fun h => by have := hc1.mp h; omega
      have : ¬ 0 < c := fun h => by have := hc2.mp h; omega
      omega
    subst hc
    have cA := at_bit q qv 0 w3 hQ3 (by have := HL.out; omega)
    rw [Nat.pow_zero, Nat.div_one, show ((0 : Nat) : Int) = 0 from rfl] at cA
    rcases Nat.mod_two_eq_zero_or_one q with gq | gq
    · have HE : Hid (evenQ x d = q) := by show evenQ x d = q; rw [HV.out, if_neg (by omega)]; rfl
      rw [gq] at cA
      clear hc1 hc2 g1 g2 gq
      go_wp2_with fail
      refine cA.mono ?_
      rintro e w4 ⟨rfl, rfl⟩
      go_wp2
      go_ret
      refine ⟨⟨qv, rfl, ?_⟩, hE⟩
      rw [HE.out]; exact HQ.out _ (Ext.refl _)
    · have HE : Hid (evenQ x d = q + 1) := by show evenQ x d = q + 1; rw [HV.out, if_pos (Or.inr ⟨g2, gq⟩)]
      rw [gq] at cA
      clear hc1 hc2 g1 g2 gq
      have cO := fun W => of_any 1 (by omega) W
      rw [show ((1 : Nat) : Int) = 1 from rfl] at cO
      go_wp2_with fail
      refine cA.mono ?_
      rintro e w9 ⟨rfl, rfl⟩
      go_wp2_with fail
      refine (cO _).mono ?_
      rintro e w4 ⟨⟨o, rfl, hO⟩, E4⟩
      have cP := plus_big q 1 _ _ _ (HQ.out _ E4) hO (by have := HL.out; omega) (by have : blen 1 ≤ 1 := blen_le (by decide); omega)
      have E5 := hE.trans E4
      clear hO
      go_wp2_with fail
      refine cP.mono ?_
      rintro e w5 ⟨⟨t, rfl, ht⟩, E6⟩
      have HT : Hid (IsBig w5 t (evenQ x d)) := by
        show IsBig w5 t (evenQ x d)
        rw [HE.out]; exact ht
      clear ht
      go_wp2
      go_ret
      exact ⟨⟨t, rfl, HT.out⟩, E5.trans E6⟩
  · have HE : Hid (evenQ x d = q) := by show evenQ x d = q; rw [HV.out, if_neg (by omega)]; rfl
    have hc : c < 0 := hc1.mpr (by omega)
    have hce : (c == 0) = false := by simp; omega
    clear hc1 hc2 g1 g2
    go_wp2
    go_ret
    refine ⟨⟨qv, rfl, ?_⟩, hE⟩
    rw [HE.out]; exact HQ.out _ (Ext.refl _)
end Go.Proofs.Ytbonaldlljdaoaa
