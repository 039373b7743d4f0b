/-
  The contract of the document's Round: the float nearest to a quotient.
-/
import Derived.Test.YtbonaldlljdaoaaBigE
namespace Go.Proofs.Ytbonaldlljdaoaa
open Go.RowKit
set_option maxHeartbeats 4000000

/-- a by d, times two to e less 1075, is A by D. -/
def Inv (A D a d e : Nat) : Prop := A * d * 2 ^ 1075 = a * D * 2 ^ e ∧ 0 < a ∧ 0 < d ∧ 1 ≤ e
/-- r is the rung of the float nearest to A by D. -/
def IsRound (A D r : Nat) : Prop := ∃ a d e, Inv A D a d e ∧ a < d * 2 ^ 53 ∧ (e = 1 ∨ d * 2 ^ 52 ≤ a) ∧ r = min (2047 * 4503599627370496) ((e - 1) * 4503599627370496 + evenQ a d)
theorem Inv.upD {A D a d e : Nat} (h : Inv A D a d e) (k : Nat) : Inv A D a (d * 2 ^ k) (e + k) := by
  obtain ⟨h1, h2, h3, h4⟩ := h
  refine ⟨?_, h2, Nat.mul_pos h3 (Nat.pow_pos (by decide)), by omega⟩
  rw [Nat.pow_add, ← Nat.mul_assoc, ← Nat.mul_assoc (a * D), ← h1, Nat.mul_right_comm]
theorem Inv.upA {A D a d e : Nat} (h : Inv A D a d e) (k : Nat) (hk : k < e) : Inv A D (a * 2 ^ k) d (e - k) := by
  obtain ⟨h1, h2, h3, h4⟩ := h
  refine ⟨?_, Nat.mul_pos h2 (Nat.pow_pos (by decide)), h3, by omega⟩
  rw [h1]
  have e1 : e = (e - k) + k := by omega
  rw [show a * D * 2 ^ e = a * D * 2 ^ ((e - k) + k) by rw [← e1], Nat.pow_add, Nat.mul_right_comm a (2 ^ k) D, Nat.mul_assoc (a * D) (2 ^ k), Nat.mul_comm (2 ^ k)]
theorem blen_one_pos {n : Nat} (h : 0 < n) : 1 ≤ blen n := by rw [blen_pos h]; omega
theorem big_form {W : World} {v : Value} {n : Nat} (h : IsBig W v n) : ∃ p pc, v = .slice (some ⟨p, 0, none⟩) (blen n) pc := by
  obtain ⟨p, pc, hv, _⟩ := h; exact ⟨p, pc, hv⟩

set_option maxRecDepth 100000 in
theorem round_big (A D : Nat) (va vd : Value) (w : World) (ha : IsBig w va A) (hd : IsBig w vd D) (hA : 0 < A) (hD : 0 < D) (bA : blen A ≤ 5000) (bD : blen D ≤ 5000) :
    Calls Try.prog 36 #[va, vd] w fun e w' => (∃ r : Nat, e = .returned (.int .u64 (r : Int)) ∧ IsRound A D r) ∧ Ext w w' := by
  have HA0 : Hid (∀ W, Ext w W → IsBig W va A) := fun W e => ha.ext e
  have HD0 : Hid (∀ W, Ext w W → IsBig W vd D) := fun W e => hd.ext e
  have HI0 : Hid (Inv A D A D 1075) := ⟨rfl, hA, hD, by decide⟩
  obtain ⟨p, pc, rfl⟩ := big_form ha
  obtain ⟨q, qc, rfl⟩ := big_form hd
  have hX1 := blen_one_pos hA
  have hY1 := blen_one_pos hD
  have HB : Hid (∀ k, blen (A * 2 ^ k) = k + blen A) := fun k => blen_shift k hA
  have HC : Hid (∀ k, blen (D * 2 ^ k) = k + blen D) := fun k => blen_shift k hD
  have HUD : Hid (∀ k W, k ≤ 10000 → Ext w W → Calls Try.prog 29 #[.slice (some ⟨q, 0, none⟩) (blen D) qc, .int .i64 (k : Nat)] W fun e w' => (∃ v, e = .returned v ∧ IsBig w' v (D * 2 ^ k)) ∧ Ext W w') := fun k W h e => up_big D k _ W (HD0.out W e) (by omega) (by omega)
  have HUA : Hid (∀ k W, k ≤ 10000 → Ext w W → Calls Try.prog 29 #[.slice (some ⟨p, 0, none⟩) (blen A) pc, .int .i64 (k : Nat)] W fun e w' => (∃ v, e = .returned v ∧ IsBig w' v (A * 2 ^ k)) ∧ Ext W w') := fun k W h e => up_big A k _ W (HA0.out W e) (by omega) (by omega)
  clear ha hd hA hD
  generalize blen A = X at *
  generalize blen D = Y at *
  have hXI : (X : Int) ≤ 5000 := by omega
  have hYI : (Y : Int) ≤ 5000 := by omega
  have hX1I : (1 : Int) ≤ (X : Int) := by omega
  have hY1I : (1 : Int) ≤ (Y : Int) := by omega
  by_cases k1 : (53 : Int) < (X : Int) - (Y : Int)
  · obtain ⟨k, hk⟩ : ∃ k : Nat, X = Y + 53 + k ∧ 0 < k := ⟨X - Y - 53, by omega, by omega⟩
    have hk1 : (X : Int) - (Y : Int) - 53 = (k : Int) := by omega
    have cU := fun W e => HUD.out k W (by omega) e
    have hk0 : (0 : Int) < (k : Int) := by omega
    have hk5 : (k : Int) ≤ 5000 := by omega
    have HK : Hid (X = Y + 53 + k ∧ 0 < k ∧ X ≤ 5000) := ⟨hk.1, hk.2, bA⟩
    clear hk k1
    go_enter Try.func36, Try.ntmps36
    go_wp2_with fail
    refine (cU _ (Ext.refl _)).mono ?_
    rintro e w1 ⟨⟨dv, rfl, hdv⟩, E1⟩
    obtain ⟨q2, q2c, rfl⟩ := big_form hdv
    have hDW : Hid (IsBig w1 (.slice (some ⟨q2, 0, none⟩) (blen (D * 2 ^ k)) q2c) (D * 2 ^ k)) := hdv
    have hbl := HC.out k
    rw [hbl] at hDW ⊢
    obtain ⟨Z, hZ⟩ : ∃ Z, Z = k + Y := ⟨_, rfl⟩
    rw [← hZ] at hDW ⊢
    have hZ2 : 51 - (X : Int) + (Z : Int) = -2 := by have := HK.out; omega
    obtain ⟨e, he⟩ : ∃ e : Nat, e = 1075 + k := ⟨_, rfl⟩
    have heI : (1075 : Int) + (k : Int) = (e : Int) := by omega
    have he1 : (1 : Int) ≤ (e : Int) := by omega
    have he2 : (e : Int) ≤ 6100 := by omega
    have heT : decide ((e : Int) - 1 < -2) = false := by simp; omega
    have HINV : Hid (Inv A D A (D * 2 ^ k) e) := by show Inv A D A (D * 2 ^ k) e; rw [he]; exact HI0.out.upD k
    have HAW : Hid (∀ W, Ext w1 W → IsBig W (.slice (some ⟨p, 0, none⟩) X pc) A) := fun W e => HA0.out W (E1.trans e)
    have HSZ : Hid (blen A ≤ 11200 ∧ blen (D * 2 ^ k) ≤ 11200 ∧ e ≤ 6100) := by
      have hx := HB.out 0
      rw [Nat.pow_zero, Nat.mul_one] at hx
      have := HK.out
      exact ⟨by omega, by omega, by omega⟩
    clear hdv hbl hZ he HI0 HA0 HD0 HB HC HUD HUA cU
    generalize D * 2 ^ k = d at *
    have hE0 := E1
    clear E1
    go_wp2_with fail
    go_loopw [1, 5] (fun dv ev wr => ∃ d1 e1 : Nat, ev = .int .i64 (e1 : Int) ∧ IsBig wr dv d1 ∧ Inv A D A d1 e1 ∧ blen d1 ≤ 11200 ∧ e1 + blen d = e + blen d1 ∧ Ext w1 wr) (fun _ ev _ => (30000 - intOf ev).toNat)
    case atStart => exact ⟨d, e, rfl, hDW.out, HINV.out, HSZ.out.2.1, rfl, Ext.refl _⟩
    case round =>
      obtain ⟨d1, e1, rfl, hB1, hI1, hb1, hbe1, hX1⟩ := hrel
      have he1b : (e1 : Int) ≤ 17300 := by have := HSZ.out; omega
      have HB1 : Hid (∀ W, Ext wr W → IsBig W u1 d1) := fun W e => hB1.ext e
      have cU := up_big d1 53 u1 wr hB1 (by omega) (by omega)
      rw [show ((53 : Nat) : Int) = 53 from rfl] at cU
      have HI1 : Hid (Inv A D A d1 e1) := hI1
      have HS1 : Hid (blen d1 ≤ 11200 ∧ e1 + blen d = e + blen d1 ∧ blen (d1 * 2 ^ 53) = 53 + blen d1 ∧ blen (d1 * 2 ^ 1) = 1 + blen d1) := ⟨hb1, hbe1, blen_shift 53 hI1.2.2.1, blen_shift 1 hI1.2.2.1⟩
      have HX1 : Hid (Ext w1 wr) := hX1
      clear hB1 hI1 hb1 hbe1 hX1 hDW
      go_wp2_with fail
      refine cU.mono ?_
      rintro ev w2 ⟨⟨v2, rfl, hv2⟩, E2⟩
      have cC := cmp_big A (d1 * 2 ^ 53) _ v2 w2 (HAW.out _ (HX1.out.trans E2)) hv2 (by have := HSZ.out; omega) (by have := HS1.out; omega)
      clear hv2 cU
      go_wp2_with fail
      refine cC.mono ?_
      rintro ev w3 ⟨⟨c, rfl, hc1, hc2⟩, E3⟩
      clear cC
      have E23 := E2.trans E3
      clear E2 E3
      by_cases hlt : A < d1 * 2 ^ 53
      · have hc : ¬ 0 ≤ c := by have := hc1.mpr hlt; omega
        have hcd : decide (0 ≤ c) = false := decide_eq_false hc
        have HLT : Hid (A < d1 * 2 ^ 53) := hlt
        clear hc1 hc2 hlt hc
        go_wp2_with fail
        go_loopw [0, 5] (fun av ev wx => ∃ a2 e2 : Nat, ev = .int .i64 (e2 : Int) ∧ IsBig wx av a2 ∧ Inv A D a2 d1 e2 ∧ a2 < d1 * 2 ^ 53 ∧ blen a2 ≤ 11300 ∧ e2 ≤ e1 ∧ Ext w3 wx) (fun _ ev _ => (intOf ev).toNat)
        case atStart => exact ⟨A, e1, rfl, HAW.out _ (HX1.out.trans E23), HI1.out, HLT.out, by have := HSZ.out; omega, Nat.le_refl _, Ext.refl _⟩
        case round =>
          obtain ⟨a2, e2, rfl, hB2, hI2, hl2, hb2, he2e, hX2⟩ := hrel
          have HA2 : Hid (∀ W, Ext wr W → IsBig W u0 a2) := fun W e => hB2.ext e
          have HI2 : Hid (Inv A D a2 d1 e2) := hI2
          have HS2 : Hid (a2 < d1 * 2 ^ 53 ∧ blen a2 ≤ 11300 ∧ e2 ≤ e1) := ⟨hl2, hb2, he2e⟩
          have he2b : (e2 : Int) ≤ 17300 := by omega
          have he2c : (1 : Int) ≤ (e2 : Int) := by have := hI2.2.2.2; omega
          clear hB2 hI2 hl2 hb2 he2e
          by_cases g1 : e2 = 1
          · have HOR : Hid (e2 = 1 ∨ d1 * 2 ^ 52 ≤ a2) := Or.inl g1
            have HOR1 : Hid (e2 = 1) := g1
            have g1I : (e2 : Int) ≤ 1 := by omega
            clear g1
            have hE9 := hE0.trans (HX1.out.trans (E23.trans hX2))
            have cE := even_big a2 d1 _ u1 wr (HA2.out _ (Ext.refl _)) (HB1.out _ (E23.trans hX2)) (by have := HS2.out; omega) (by have := HS1.out; omega) HI2.out.2.2.1
            have hf : evenQ a2 d1 ≤ 9007199254740992 := evenQ_le HI2.out.2.2.1 (by have := HS2.out.1; rw [Nat.mul_comm]; omega)
            have HFN : Hid (1 = 1) := rfl
            have HRR : Hid (∀ r, r = min 9218868437227405312 ((e2 - 1) * 4503599627370496 + evenQ a2 d1) → IsRound A D r) := fun r hr => ⟨a2, d1, e2, HI2.out, HS2.out.1, HOR.out, hr⟩
            generalize evenQ a2 d1 = f at *
            go_wp2_with fail
            refine cE.mono ?_
            rintro ev w7 ⟨⟨v7, rfl, hv7⟩, E7⟩
            have cS := small_any f v7 w7 hv7 (by omega)
            have hE10 := hE9.trans E7
            clear cE hv7 E7 hE9
            go_wp2_with fail
            refine cS.mono ?_
            rintro ev w8 ⟨rfl, rfl⟩
            clear cS
            have he2p : 1 ≤ e2 := HI2.out.2.2.2
            by_cases gf : f = 9007199254740992
            · subst gf
              by_cases gi : 2046 ≤ e2
              · have giI : (2047 : Int) ≤ (e2 : Int) + 1 := by omega
                have HF : Hid (IsRound A D 9218868437227405312) := HRR.out _ (by omega)
                clear HRR gi
                go_wp2
                go_ret
                exact ⟨⟨_, rfl, HF.out⟩, hE10⟩
              · have giI : (e2 : Int) + 1 < (2047 : Int) := by omega
                have giT : decide ((2047 : Int) ≤ (e2 : Int) + 1) = false := by simp; omega
                have HF : Hid (IsRound A D ((e2 + 1) * 4503599627370496)) := HRR.out _ (by omega)
                clear HRR gi
                go_wp2
                go_ret
                refine ⟨⟨_, ret_int ?_, HF.out⟩, hE10⟩
                omega
            · have gfI : (f : Int) < 9007199254740992 := by omega
              have gfT : decide ((9007199254740992 : Int) ≤ (f : Int)) = false := by simp; omega
              by_cases gi : 2047 ≤ e2
              · have giI : (2047 : Int) ≤ (e2 : Int) := by omega
                have HF : Hid (IsRound A D 9218868437227405312) := HRR.out _ (by have := HOR1.out; omega)
                clear HRR gi gf hf
                go_wp2
                go_ret
                exact ⟨⟨_, rfl, HF.out⟩, hE10⟩
              · have giI : (e2 : Int) < (2047 : Int) := by omega
                have giT : decide ((2047 : Int) ≤ (e2 : Int)) = false := by simp; omega
                by_cases gs : f < 4503599627370496
                · have gsI : (f : Int) < 4503599627370496 := by omega
                  have HF : Hid (IsRound A D f) := HRR.out _ (by have := HOR1.out; omega)
                  clear HRR gi gf hf gs
                  go_wp2
                  go_ret
                  exact ⟨⟨_, rfl, HF.out⟩, hE10⟩
                · have gsT : decide ((f : Int) < 4503599627370496) = false := by simp; omega
                  have HGS : Hid (4503599627370496 ≤ f ∧ f < 9007199254740992 ∧ 1 ≤ e2 ∧ e2 < 2047) := ⟨by omega, by omega, by omega, by omega⟩
                  have HF : Hid (IsRound A D ((e2 - 1) * 4503599627370496 + f)) := HRR.out _ (by omega)
                  clear HRR gi gf hf gs
                  go_wp2
                  go_ret
                  refine ⟨⟨_, ret_int ?_, HF.out⟩, hE10⟩
                  have := HGS.out
                  omega
          · have g1I : (1 : Int) < (e2 : Int) := by omega
            have HG1 : Hid (1 < e2) := by show 1 < e2; omega
            have cU := up_big d1 52 u1 wr (HB1.out _ (E23.trans hX2)) (by have := HS1.out; omega) (by omega)
            rw [show ((52 : Nat) : Int) = 52 from rfl] at cU
            have hbl : blen (d1 * 2 ^ 52) = 52 + blen d1 := blen_shift 52 HI2.out.2.2.1
            have HBL : Hid (blen (d1 * 2 ^ 52) ≤ 11300) := by show blen (d1 * 2 ^ 52) ≤ 11300; have := HS1.out; omega
            clear g1 hbl
            go_wp2_with fail
            refine cU.mono ?_
            rintro ev w4 ⟨⟨v4, rfl, hv4⟩, E4⟩
            have cC := cmp_big a2 (d1 * 2 ^ 52) _ v4 w4 (HA2.out _ E4) hv4 (by have := HS2.out; omega) (by have := HBL.out; omega)
            clear hv4 cU
            go_wp2_with fail
            refine cC.mono ?_
            rintro ev w5 ⟨⟨c2, rfl, hc3, hc4⟩, E5⟩
            have E45 := E4.trans E5
            clear cC E4 E5
            by_cases hge : d1 * 2 ^ 52 ≤ a2
            · have hcc : decide (c2 < 0) = false := by
                have : ¬ c2 < 0 := fun h => by have := hc3.mp h; omega
                exact decide_eq_false this
              have HOR : Hid (e2 = 1 ∨ d1 * 2 ^ 52 ≤ a2) := Or.inr hge
              have hE9 := hE0.trans (HX1.out.trans (E23.trans (hX2.trans E45)))
              have cE := even_big a2 d1 _ u1 w5 (HA2.out _ E45) (HB1.out _ (E23.trans (hX2.trans E45))) (by have := HS2.out; omega) (by have := HS1.out; omega) HI2.out.2.2.1
              have hf : evenQ a2 d1 ≤ 9007199254740992 := evenQ_le HI2.out.2.2.1 (by have := HS2.out.1; rw [Nat.mul_comm]; omega)
              have HFN : Hid (4503599627370496 ≤ evenQ a2 d1) := evenQ_ge HI2.out.2.2.1 (by rw [Nat.mul_comm]; exact hge)
              clear hge hc3 hc4
              have HRR : Hid (∀ r, r = min 9218868437227405312 ((e2 - 1) * 4503599627370496 + evenQ a2 d1) → IsRound A D r) := fun r hr => ⟨a2, d1, e2, HI2.out, HS2.out.1, HOR.out, hr⟩
              generalize evenQ a2 d1 = f at *
              go_wp2_with fail
              refine cE.mono ?_
              rintro ev w7 ⟨⟨v7, rfl, hv7⟩, E7⟩
              have cS := small_any f v7 w7 hv7 (by omega)
              have hE10 := hE9.trans E7
              clear cE hv7 E7 hE9
              go_wp2_with fail
              refine cS.mono ?_
              rintro ev w8 ⟨rfl, rfl⟩
              clear cS
              have he2p : 1 ≤ e2 := HI2.out.2.2.2
              by_cases gf : f = 9007199254740992
              · subst gf
                by_cases gi : 2046 ≤ e2
                · have giI : (2047 : Int) ≤ (e2 : Int) + 1 := by omega
                  have HF : Hid (IsRound A D 9218868437227405312) := HRR.out _ (by omega)
                  clear HRR gi
                  go_wp2
                  go_ret
                  exact ⟨⟨_, rfl, HF.out⟩, hE10⟩
                · have giI : (e2 : Int) + 1 < (2047 : Int) := by omega
                  have giT : decide ((2047 : Int) ≤ (e2 : Int) + 1) = false := by simp; omega
                  have HF : Hid (IsRound A D ((e2 + 1) * 4503599627370496)) := HRR.out _ (by omega)
                  clear HRR gi
                  go_wp2
                  go_ret
                  refine ⟨⟨_, ret_int ?_, HF.out⟩, hE10⟩
                  omega
              · have gfI : (f : Int) < 9007199254740992 := by omega
                have gfT : decide ((9007199254740992 : Int) ≤ (f : Int)) = false := by simp; omega
                by_cases gi : 2047 ≤ e2
                · have giI : (2047 : Int) ≤ (e2 : Int) := by omega
                  have HF : Hid (IsRound A D 9218868437227405312) := HRR.out _ (by have := HFN.out; omega)
                  clear HRR gi gf hf
                  go_wp2
                  go_ret
                  exact ⟨⟨_, rfl, HF.out⟩, hE10⟩
                · have giI : (e2 : Int) < (2047 : Int) := by omega
                  have giT : decide ((2047 : Int) ≤ (e2 : Int)) = false := by simp; omega
                  by_cases gs : f < 4503599627370496
                  · have gsI : (f : Int) < 4503599627370496 := by omega
                    have HF : Hid (IsRound A D f) := HRR.out _ (by have := HFN.out; omega)
                    clear HRR gi gf hf gs
                    go_wp2
                    go_ret
                    exact ⟨⟨_, rfl, HF.out⟩, hE10⟩
                  · have gsT : decide ((f : Int) < 4503599627370496) = false := by simp; omega
                    have HGS : Hid (4503599627370496 ≤ f ∧ f < 9007199254740992 ∧ 1 ≤ e2 ∧ e2 < 2047) := ⟨by omega, by omega, by omega, by omega⟩
                    have HF : Hid (IsRound A D ((e2 - 1) * 4503599627370496 + f)) := HRR.out _ (by omega)
                    clear HRR gi gf hf gs
                    go_wp2
                    go_ret
                    refine ⟨⟨_, ret_int ?_, HF.out⟩, hE10⟩
                    have := HGS.out
                    omega
            · have hcc : c2 < 0 := hc3.mpr (by omega)
              have cV := up_big a2 1 u0 w5 (HA2.out _ E45) (by have := HS2.out; omega) (by omega)
              rw [show ((1 : Nat) : Int) = 1 from rfl] at cV
              have HNX : Hid (Inv A D (a2 * 2 ^ 1) d1 (e2 - 1) ∧ a2 * 2 ^ 1 < d1 * 2 ^ 53 ∧ blen (a2 * 2 ^ 1) ≤ 11300 ∧ e2 - 1 ≤ e1) := by
                refine ⟨HI2.out.upA 1 HG1.out, ?_, ?_, by have := HS2.out; omega⟩
                · have : d1 * 2 ^ 53 = d1 * 2 ^ 52 * 2 := by rw [Nat.mul_assoc]
                  rw [this]; omega
                · have h1 := blen_mono (show a2 * 2 ^ 1 ≤ d1 * 2 ^ 53 by have : d1 * 2 ^ 53 = d1 * 2 ^ 52 * 2 := by rw [Nat.mul_assoc]
                                                                         rw [this]; omega)
                  have := HS1.out
                  omega
              have eE : ((e2 - 1 : Nat) : Int) = (e2 : Int) - 1 := by have := HG1.out; omega
              have HEE : Hid (((e2 - 1 : Nat) : Int) = (e2 : Int) - 1) := eE
              clear hge hc3 hc4 eE
              go_wp2_with fail
              refine cV.mono ?_
              rintro ev w6 ⟨⟨v6, rfl, hv6⟩, E6⟩
              have HV6 : Hid (IsBig w6 v6 (a2 * 2 ^ 1)) := hv6
              clear hv6 cV
              go_wp2
              go_roundw
              case rel => exact ⟨a2 * 2 ^ 1, e2 - 1, by rw [HEE.out], HV6.out, HNX.out.1, HNX.out.2.1, HNX.out.2.2.1, HNX.out.2.2.2, hX2.trans (E45.trans E6)⟩
              case measure => simp [intOf]; omega
      · have hc : 0 ≤ c := by
          have : ¬ c < 0 := fun h => hlt (hc1.mp h)
          omega
        have cV := up_big d1 1 u1 w3 (HB1.out _ E23) (by have := HS1.out; omega) (by omega)
        rw [show ((1 : Nat) : Int) = 1 from rfl] at cV
        have HNX : Hid (Inv A D A (d1 * 2 ^ 1) (e1 + 1) ∧ blen (d1 * 2 ^ 1) ≤ 11200 ∧ e1 + 1 + blen d = e + blen (d1 * 2 ^ 1)) := by
          have h1 := blen_mono (show d1 * 2 ^ 53 ≤ A by omega)
          have h2 := HS1.out
          have h3 := HSZ.out
          exact ⟨HI1.out.upD 1, by omega, by omega⟩
        clear hc1 hc2 hlt
        go_wp2_with fail
        refine cV.mono ?_
        rintro ev w6 ⟨⟨v6, rfl, hv6⟩, E6⟩
        have HV6 : Hid (IsBig w6 v6 (d1 * 2 ^ 1)) := hv6
        clear hv6 cV
        go_wp2
        go_roundw
        case rel => exact ⟨d1 * 2 ^ 1, e1 + 1, by go_num, HV6.out, HNX.out.1, HNX.out.2.1, HNX.out.2.2, HX1.out.trans (E23.trans E6)⟩
        case measure => simp [intOf]; omega
  have k1I : (X : Int) - (Y : Int) - 53 ≤ 0 := by omega
  by_cases k2 : (1074 : Int) < 51 - (X : Int) + (Y : Int)
  · obtain ⟨e, he⟩ : ∃ e : Nat, e = 1075 - 1074 := ⟨_, rfl⟩
    have heI : (1075 : Int) - 1074 = (e : Int) := by omega
    have cU := fun W e => HUA.out 1074 W (by omega) e
    rw [show ((1074 : Nat) : Int) = 1074 from rfl] at cU
    have hbl := HB.out 1074
    have HINV : Hid (Inv A D (A * 2 ^ 1074) D e) := by show Inv A D (A * 2 ^ 1074) D e; rw [he]; exact HI0.out.upA 1074 (by omega)
    have HSZ : Hid (blen (A * 2 ^ 1074) ≤ 11200 ∧ blen D ≤ 11200 ∧ e ≤ 6100) := by
      have hy := HC.out 0
      rw [Nat.pow_zero, Nat.mul_one] at hy
      exact ⟨by omega, by omega, by omega⟩
    clear hbl he HI0 HA0 HB HC HUD HUA k1
    go_enter Try.func36, Try.ntmps36
    go_wp2_with fail
    refine (cU _ (Ext.refl _)).mono ?_
    rintro ev w1 ⟨⟨av, rfl, hav⟩, E1⟩
    have HAW : Hid (∀ W, Ext w1 W → IsBig W av (A * 2 ^ 1074)) := fun W e => hav.ext e
    have hDW : Hid (IsBig w1 (.slice (some ⟨q, 0, none⟩) Y qc) D) := HD0.out _ E1
    have hE0 := E1
    clear hav E1 cU HD0
    generalize A * 2 ^ 1074 = a at *
    obtain ⟨d, hdd⟩ : ∃ d, d = D := ⟨_, rfl⟩
    rw [← hdd] at hDW HSZ
    have HINV2 : Hid (Inv A D a d e) := by rw [hdd]; exact HINV
    clear HINV
    have HINV := HINV2
    clear HINV2 hdd
    go_wp2_with fail
    go_loopw [1, 5] (fun dv ev wr => ∃ d1 e1 : Nat, ev = .int .i64 (e1 : Int) ∧ IsBig wr dv d1 ∧ Inv A D a d1 e1 ∧ blen d1 ≤ 11200 ∧ e1 + blen d = e + blen d1 ∧ Ext w1 wr) (fun _ ev _ => (30000 - intOf ev).toNat)
    case atStart => exact ⟨d, e, rfl, hDW.out, HINV.out, HSZ.out.2.1, rfl, Ext.refl _⟩
    case round =>
      obtain ⟨d1, e1, rfl, hB1, hI1, hb1, hbe1, hX1⟩ := hrel
      have he1b : (e1 : Int) ≤ 17300 := by have := HSZ.out; omega
      have HB1 : Hid (∀ W, Ext wr W → IsBig W u1 d1) := fun W e => hB1.ext e
      have cU := up_big d1 53 u1 wr hB1 (by omega) (by omega)
      rw [show ((53 : Nat) : Int) = 53 from rfl] at cU
      have HI1 : Hid (Inv A D a d1 e1) := hI1
      have HS1 : Hid (blen d1 ≤ 11200 ∧ e1 + blen d = e + blen d1 ∧ blen (d1 * 2 ^ 53) = 53 + blen d1 ∧ blen (d1 * 2 ^ 1) = 1 + blen d1) := ⟨hb1, hbe1, blen_shift 53 hI1.2.2.1, blen_shift 1 hI1.2.2.1⟩
      have HX1 : Hid (Ext w1 wr) := hX1
      clear hB1 hI1 hb1 hbe1 hX1 hDW
      go_wp2_with fail
      refine cU.mono ?_
      rintro ev w2 ⟨⟨v2, rfl, hv2⟩, E2⟩
      have cC := cmp_big a (d1 * 2 ^ 53) _ v2 w2 (HAW.out _ (HX1.out.trans E2)) hv2 (by have := HSZ.out; omega) (by have := HS1.out; omega)
      clear hv2 cU
      go_wp2_with fail
      refine cC.mono ?_
      rintro ev w3 ⟨⟨c, rfl, hc1, hc2⟩, E3⟩
      clear cC
      have E23 := E2.trans E3
      clear E2 E3
      by_cases hlt : a < d1 * 2 ^ 53
      · have hc : ¬ 0 ≤ c := by have := hc1.mpr hlt; omega
        have hcd : decide (0 ≤ c) = false := decide_eq_false hc
        have HLT : Hid (a < d1 * 2 ^ 53) := hlt
        clear hc1 hc2 hlt hc
        go_wp2_with fail
        go_loopw [0, 5] (fun av ev wx => ∃ a2 e2 : Nat, ev = .int .i64 (e2 : Int) ∧ IsBig wx av a2 ∧ Inv A D a2 d1 e2 ∧ a2 < d1 * 2 ^ 53 ∧ blen a2 ≤ 11300 ∧ e2 ≤ e1 ∧ Ext w3 wx) (fun _ ev _ => (intOf ev).toNat)
        case atStart => exact ⟨a, e1, rfl, HAW.out _ (HX1.out.trans E23), HI1.out, HLT.out, by have := HSZ.out; omega, Nat.le_refl _, Ext.refl _⟩
        case round =>
          obtain ⟨a2, e2, rfl, hB2, hI2, hl2, hb2, he2e, hX2⟩ := hrel
          have HA2 : Hid (∀ W, Ext wr W → IsBig W u0 a2) := fun W e => hB2.ext e
          have HI2 : Hid (Inv A D a2 d1 e2) := hI2
          have HS2 : Hid (a2 < d1 * 2 ^ 53 ∧ blen a2 ≤ 11300 ∧ e2 ≤ e1) := ⟨hl2, hb2, he2e⟩
          have he2b : (e2 : Int) ≤ 17300 := by omega
          have he2c : (1 : Int) ≤ (e2 : Int) := by have := hI2.2.2.2; omega
          clear hB2 hI2 hl2 hb2 he2e
          by_cases g1 : e2 = 1
          · have HOR : Hid (e2 = 1 ∨ d1 * 2 ^ 52 ≤ a2) := Or.inl g1
            have HOR1 : Hid (e2 = 1) := g1
            have g1I : (e2 : Int) ≤ 1 := by omega
            clear g1
            have hE9 := hE0.trans (HX1.out.trans (E23.trans hX2))
            have cE := even_big a2 d1 _ u1 wr (HA2.out _ (Ext.refl _)) (HB1.out _ (E23.trans hX2)) (by have := HS2.out; omega) (by have := HS1.out; omega) HI2.out.2.2.1
            have hf : evenQ a2 d1 ≤ 9007199254740992 := evenQ_le HI2.out.2.2.1 (by have := HS2.out.1; rw [Nat.mul_comm]; omega)
            have HFN : Hid (1 = 1) := rfl
            have HRR : Hid (∀ r, r = min 9218868437227405312 ((e2 - 1) * 4503599627370496 + evenQ a2 d1) → IsRound A D r) := fun r hr => ⟨a2, d1, e2, HI2.out, HS2.out.1, HOR.out, hr⟩
            generalize evenQ a2 d1 = f at *
            go_wp2_with fail
            refine cE.mono ?_
            rintro ev w7 ⟨⟨v7, rfl, hv7⟩, E7⟩
            have cS := small_any f v7 w7 hv7 (by omega)
            have hE10 := hE9.trans E7
            clear cE hv7 E7 hE9
            go_wp2_with fail
            refine cS.mono ?_
            rintro ev w8 ⟨rfl, rfl⟩
            clear cS
            have he2p : 1 ≤ e2 := HI2.out.2.2.2
            by_cases gf : f = 9007199254740992
            · subst gf
              by_cases gi : 2046 ≤ e2
              · have giI : (2047 : Int) ≤ (e2 : Int) + 1 := by omega
                have HF : Hid (IsRound A D 9218868437227405312) := HRR.out _ (by omega)
                clear HRR gi
                go_wp2
                go_ret
                exact ⟨⟨_, rfl, HF.out⟩, hE10⟩
              · have giI : (e2 : Int) + 1 < (2047 : Int) := by omega
                have giT : decide ((2047 : Int) ≤ (e2 : Int) + 1) = false := by simp; omega
                have HF : Hid (IsRound A D ((e2 + 1) * 4503599627370496)) := HRR.out _ (by omega)
                clear HRR gi
                go_wp2
                go_ret
                refine ⟨⟨_, ret_int ?_, HF.out⟩, hE10⟩
                omega
            · have gfI : (f : Int) < 9007199254740992 := by omega
              have gfT : decide ((9007199254740992 : Int) ≤ (f : Int)) = false := by simp; omega
              by_cases gi : 2047 ≤ e2
              · have giI : (2047 : Int) ≤ (e2 : Int) := by omega
                have HF : Hid (IsRound A D 9218868437227405312) := HRR.out _ (by have := HOR1.out; omega)
                clear HRR gi gf hf
                go_wp2
                go_ret
                exact ⟨⟨_, rfl, HF.out⟩, hE10⟩
              · have giI : (e2 : Int) < (2047 : Int) := by omega
                have giT : decide ((2047 : Int) ≤ (e2 : Int)) = false := by simp; omega
                by_cases gs : f < 4503599627370496
                · have gsI : (f : Int) < 4503599627370496 := by omega
                  have HF : Hid (IsRound A D f) := HRR.out _ (by have := HOR1.out; omega)
                  clear HRR gi gf hf gs
                  go_wp2
                  go_ret
                  exact ⟨⟨_, rfl, HF.out⟩, hE10⟩
                · have gsT : decide ((f : Int) < 4503599627370496) = false := by simp; omega
                  have HGS : Hid (4503599627370496 ≤ f ∧ f < 9007199254740992 ∧ 1 ≤ e2 ∧ e2 < 2047) := ⟨by omega, by omega, by omega, by omega⟩
                  have HF : Hid (IsRound A D ((e2 - 1) * 4503599627370496 + f)) := HRR.out _ (by omega)
                  clear HRR gi gf hf gs
                  go_wp2
                  go_ret
                  refine ⟨⟨_, ret_int ?_, HF.out⟩, hE10⟩
                  have := HGS.out
                  omega
          · have g1I : (1 : Int) < (e2 : Int) := by omega
            have HG1 : Hid (1 < e2) := by show 1 < e2; omega
            have cU := up_big d1 52 u1 wr (HB1.out _ (E23.trans hX2)) (by have := HS1.out; omega) (by omega)
            rw [show ((52 : Nat) : Int) = 52 from rfl] at cU
            have hbl : blen (d1 * 2 ^ 52) = 52 + blen d1 := blen_shift 52 HI2.out.2.2.1
            have HBL : Hid (blen (d1 * 2 ^ 52) ≤ 11300) := by show blen (d1 * 2 ^ 52) ≤ 11300; have := HS1.out; omega
            clear g1 hbl
            go_wp2_with fail
            refine cU.mono ?_
            rintro ev w4 ⟨⟨v4, rfl, hv4⟩, E4⟩
            have cC := cmp_big a2 (d1 * 2 ^ 52) _ v4 w4 (HA2.out _ E4) hv4 (by have := HS2.out; omega) (by have := HBL.out; omega)
            clear hv4 cU
            go_wp2_with fail
            refine cC.mono ?_
            rintro ev w5 ⟨⟨c2, rfl, hc3, hc4⟩, E5⟩
            have E45 := E4.trans E5
            clear cC E4 E5
            by_cases hge : d1 * 2 ^ 52 ≤ a2
            · have hcc : decide (c2 < 0) = false := by
                have : ¬ c2 < 0 := fun h => by have := hc3.mp h; omega
                exact decide_eq_false this
              have HOR : Hid (e2 = 1 ∨ d1 * 2 ^ 52 ≤ a2) := Or.inr hge
              have hE9 := hE0.trans (HX1.out.trans (E23.trans (hX2.trans E45)))
              have cE := even_big a2 d1 _ u1 w5 (HA2.out _ E45) (HB1.out _ (E23.trans (hX2.trans E45))) (by have := HS2.out; omega) (by have := HS1.out; omega) HI2.out.2.2.1
              have hf : evenQ a2 d1 ≤ 9007199254740992 := evenQ_le HI2.out.2.2.1 (by have := HS2.out.1; rw [Nat.mul_comm]; omega)
              have HFN : Hid (4503599627370496 ≤ evenQ a2 d1) := evenQ_ge HI2.out.2.2.1 (by rw [Nat.mul_comm]; exact hge)
              clear hge hc3 hc4
              have HRR : Hid (∀ r, r = min 9218868437227405312 ((e2 - 1) * 4503599627370496 + evenQ a2 d1) → IsRound A D r) := fun r hr => ⟨a2, d1, e2, HI2.out, HS2.out.1, HOR.out, hr⟩
              generalize evenQ a2 d1 = f at *
              go_wp2_with fail
              refine cE.mono ?_
              rintro ev w7 ⟨⟨v7, rfl, hv7⟩, E7⟩
              have cS := small_any f v7 w7 hv7 (by omega)
              have hE10 := hE9.trans E7
              clear cE hv7 E7 hE9
              go_wp2_with fail
              refine cS.mono ?_
              rintro ev w8 ⟨rfl, rfl⟩
              clear cS
              have he2p : 1 ≤ e2 := HI2.out.2.2.2
              by_cases gf : f = 9007199254740992
              · subst gf
                by_cases gi : 2046 ≤ e2
                · have giI : (2047 : Int) ≤ (e2 : Int) + 1 := by omega
                  have HF : Hid (IsRound A D 9218868437227405312) := HRR.out _ (by omega)
                  clear HRR gi
                  go_wp2
                  go_ret
                  exact ⟨⟨_, rfl, HF.out⟩, hE10⟩
                · have giI : (e2 : Int) + 1 < (2047 : Int) := by omega
                  have giT : decide ((2047 : Int) ≤ (e2 : Int) + 1) = false := by simp; omega
                  have HF : Hid (IsRound A D ((e2 + 1) * 4503599627370496)) := HRR.out _ (by omega)
                  clear HRR gi
                  go_wp2
                  go_ret
                  refine ⟨⟨_, ret_int ?_, HF.out⟩, hE10⟩
                  omega
              · have gfI : (f : Int) < 9007199254740992 := by omega
                have gfT : decide ((9007199254740992 : Int) ≤ (f : Int)) = false := by simp; omega
                by_cases gi : 2047 ≤ e2
                · have giI : (2047 : Int) ≤ (e2 : Int) := by omega
                  have HF : Hid (IsRound A D 9218868437227405312) := HRR.out _ (by have := HFN.out; omega)
                  clear HRR gi gf hf
                  go_wp2
                  go_ret
                  exact ⟨⟨_, rfl, HF.out⟩, hE10⟩
                · have giI : (e2 : Int) < (2047 : Int) := by omega
                  have giT : decide ((2047 : Int) ≤ (e2 : Int)) = false := by simp; omega
                  by_cases gs : f < 4503599627370496
                  · have gsI : (f : Int) < 4503599627370496 := by omega
                    have HF : Hid (IsRound A D f) := HRR.out _ (by have := HFN.out; omega)
                    clear HRR gi gf hf gs
                    go_wp2
                    go_ret
                    exact ⟨⟨_, rfl, HF.out⟩, hE10⟩
                  · have gsT : decide ((f : Int) < 4503599627370496) = false := by simp; omega
                    have HGS : Hid (4503599627370496 ≤ f ∧ f < 9007199254740992 ∧ 1 ≤ e2 ∧ e2 < 2047) := ⟨by omega, by omega, by omega, by omega⟩
                    have HF : Hid (IsRound A D ((e2 - 1) * 4503599627370496 + f)) := HRR.out _ (by omega)
                    clear HRR gi gf hf gs
                    go_wp2
                    go_ret
                    refine ⟨⟨_, ret_int ?_, HF.out⟩, hE10⟩
                    have := HGS.out
                    omega
            · have hcc : c2 < 0 := hc3.mpr (by omega)
              have cV := up_big a2 1 u0 w5 (HA2.out _ E45) (by have := HS2.out; omega) (by omega)
              rw [show ((1 : Nat) : Int) = 1 from rfl] at cV
              have HNX : Hid (Inv A D (a2 * 2 ^ 1) d1 (e2 - 1) ∧ a2 * 2 ^ 1 < d1 * 2 ^ 53 ∧ blen (a2 * 2 ^ 1) ≤ 11300 ∧ e2 - 1 ≤ e1) := by
                refine ⟨HI2.out.upA 1 HG1.out, ?_, ?_, by have := HS2.out; omega⟩
                · have : d1 * 2 ^ 53 = d1 * 2 ^ 52 * 2 := by rw [Nat.mul_assoc]
                  rw [this]; omega
                · have h1 := blen_mono (show a2 * 2 ^ 1 ≤ d1 * 2 ^ 53 by have : d1 * 2 ^ 53 = d1 * 2 ^ 52 * 2 := by rw [Nat.mul_assoc]
                                                                         rw [this]; omega)
                  have := HS1.out
                  omega
              have eE : ((e2 - 1 : Nat) : Int) = (e2 : Int) - 1 := by have := HG1.out; omega
              have HEE : Hid (((e2 - 1 : Nat) : Int) = (e2 : Int) - 1) := eE
              clear hge hc3 hc4 eE
              go_wp2_with fail
              refine cV.mono ?_
              rintro ev w6 ⟨⟨v6, rfl, hv6⟩, E6⟩
              have HV6 : Hid (IsBig w6 v6 (a2 * 2 ^ 1)) := hv6
              clear hv6 cV
              go_wp2
              go_roundw
              case rel => exact ⟨a2 * 2 ^ 1, e2 - 1, by rw [HEE.out], HV6.out, HNX.out.1, HNX.out.2.1, HNX.out.2.2.1, HNX.out.2.2.2, hX2.trans (E45.trans E6)⟩
              case measure => simp [intOf]; omega
      · have hc : 0 ≤ c := by
          have : ¬ c < 0 := fun h => hlt (hc1.mp h)
          omega
        have cV := up_big d1 1 u1 w3 (HB1.out _ E23) (by have := HS1.out; omega) (by omega)
        rw [show ((1 : Nat) : Int) = 1 from rfl] at cV
        have HNX : Hid (Inv A D a (d1 * 2 ^ 1) (e1 + 1) ∧ blen (d1 * 2 ^ 1) ≤ 11200 ∧ e1 + 1 + blen d = e + blen (d1 * 2 ^ 1)) := by
          have h1 := blen_mono (show d1 * 2 ^ 53 ≤ a by omega)
          have h2 := HS1.out
          have h3 := HSZ.out
          exact ⟨HI1.out.upD 1, by omega, by omega⟩
        clear hc1 hc2 hlt
        go_wp2_with fail
        refine cV.mono ?_
        rintro ev w6 ⟨⟨v6, rfl, hv6⟩, E6⟩
        have HV6 : Hid (IsBig w6 v6 (d1 * 2 ^ 1)) := hv6
        clear hv6 cV
        go_wp2
        go_roundw
        case rel => exact ⟨d1 * 2 ^ 1, e1 + 1, by go_num, HV6.out, HNX.out.1, HNX.out.2.1, HNX.out.2.2, HX1.out.trans (E23.trans E6)⟩
        case measure => simp [intOf]; omega
  by_cases k3 : (0 : Int) < 51 - (X : Int) + (Y : Int)
  · obtain ⟨k, hk⟩ : ∃ k : Nat, (k : Int) = 51 - (X : Int) + (Y : Int) := ⟨(51 - (X : Int) + (Y : Int)).toNat, by omega⟩
    obtain ⟨e, he⟩ : ∃ e : Nat, e = 1075 - k := ⟨_, rfl⟩
    have hk2 : 51 - (X : Int) + (Y : Int) = (k : Int) := hk.symm
    have hk74 : (k : Int) ≤ 1074 := by omega
    have hk0 : (0 : Int) < (k : Int) := by omega
    have heI : (1075 : Int) - (k : Int) = (e : Int) := by omega
    clear k2 k3 hk
    have cU := fun W e => HUA.out k W (by omega) e
    have hbl := HB.out k
    have HINV : Hid (Inv A D (A * 2 ^ k) D e) := by show Inv A D (A * 2 ^ k) D e; rw [he]; exact HI0.out.upA k (by omega)
    have HSZ : Hid (blen (A * 2 ^ k) ≤ 11200 ∧ blen D ≤ 11200 ∧ e ≤ 6100) := by
      have hy := HC.out 0
      rw [Nat.pow_zero, Nat.mul_one] at hy
      exact ⟨by omega, by omega, by omega⟩
    clear hbl he HI0 HA0 HB HC HUD HUA k1
    go_enter Try.func36, Try.ntmps36
    go_wp2_with fail
    refine (cU _ (Ext.refl _)).mono ?_
    rintro ev w1 ⟨⟨av, rfl, hav⟩, E1⟩
    have HAW : Hid (∀ W, Ext w1 W → IsBig W av (A * 2 ^ k)) := fun W e => hav.ext e
    have hDW : Hid (IsBig w1 (.slice (some ⟨q, 0, none⟩) Y qc) D) := HD0.out _ E1
    have hE0 := E1
    clear hav E1 cU HD0
    generalize A * 2 ^ k = a at *
    obtain ⟨d, hdd⟩ : ∃ d, d = D := ⟨_, rfl⟩
    rw [← hdd] at hDW HSZ
    have HINV2 : Hid (Inv A D a d e) := by rw [hdd]; exact HINV
    clear HINV
    have HINV := HINV2
    clear HINV2 hdd
    go_wp2_with fail
    go_loopw [1, 5] (fun dv ev wr => ∃ d1 e1 : Nat, ev = .int .i64 (e1 : Int) ∧ IsBig wr dv d1 ∧ Inv A D a d1 e1 ∧ blen d1 ≤ 11200 ∧ e1 + blen d = e + blen d1 ∧ Ext w1 wr) (fun _ ev _ => (30000 - intOf ev).toNat)
    case atStart => exact ⟨d, e, rfl, hDW.out, HINV.out, HSZ.out.2.1, rfl, Ext.refl _⟩
    case round =>
      obtain ⟨d1, e1, rfl, hB1, hI1, hb1, hbe1, hX1⟩ := hrel
      have he1b : (e1 : Int) ≤ 17300 := by have := HSZ.out; omega
      have HB1 : Hid (∀ W, Ext wr W → IsBig W u1 d1) := fun W e => hB1.ext e
      have cU := up_big d1 53 u1 wr hB1 (by omega) (by omega)
      rw [show ((53 : Nat) : Int) = 53 from rfl] at cU
      have HI1 : Hid (Inv A D a d1 e1) := hI1
      have HS1 : Hid (blen d1 ≤ 11200 ∧ e1 + blen d = e + blen d1 ∧ blen (d1 * 2 ^ 53) = 53 + blen d1 ∧ blen (d1 * 2 ^ 1) = 1 + blen d1) := ⟨hb1, hbe1, blen_shift 53 hI1.2.2.1, blen_shift 1 hI1.2.2.1⟩
      have HX1 : Hid (Ext w1 wr) := hX1
      clear hB1 hI1 hb1 hbe1 hX1 hDW
      go_wp2_with fail
      refine cU.mono ?_
      rintro ev w2 ⟨⟨v2, rfl, hv2⟩, E2⟩
      have cC := cmp_big a (d1 * 2 ^ 53) _ v2 w2 (HAW.out _ (HX1.out.trans E2)) hv2 (by have := HSZ.out; omega) (by have := HS1.out; omega)
      clear hv2 cU
      go_wp2_with fail
      refine cC.mono ?_
      rintro ev w3 ⟨⟨c, rfl, hc1, hc2⟩, E3⟩
      clear cC
      have E23 := E2.trans E3
      clear E2 E3
      by_cases hlt : a < d1 * 2 ^ 53
      · have hc : ¬ 0 ≤ c := by have := hc1.mpr hlt; omega
        have hcd : decide (0 ≤ c) = false := decide_eq_false hc
        have HLT : Hid (a < d1 * 2 ^ 53) := hlt
        clear hc1 hc2 hlt hc
        go_wp2_with fail
        go_loopw [0, 5] (fun av ev wx => ∃ a2 e2 : Nat, ev = .int .i64 (e2 : Int) ∧ IsBig wx av a2 ∧ Inv A D a2 d1 e2 ∧ a2 < d1 * 2 ^ 53 ∧ blen a2 ≤ 11300 ∧ e2 ≤ e1 ∧ Ext w3 wx) (fun _ ev _ => (intOf ev).toNat)
        case atStart => exact ⟨a, e1, rfl, HAW.out _ (HX1.out.trans E23), HI1.out, HLT.out, by have := HSZ.out; omega, Nat.le_refl _, Ext.refl _⟩
        case round =>
          obtain ⟨a2, e2, rfl, hB2, hI2, hl2, hb2, he2e, hX2⟩ := hrel
          have HA2 : Hid (∀ W, Ext wr W → IsBig W u0 a2) := fun W e => hB2.ext e
          have HI2 : Hid (Inv A D a2 d1 e2) := hI2
          have HS2 : Hid (a2 < d1 * 2 ^ 53 ∧ blen a2 ≤ 11300 ∧ e2 ≤ e1) := ⟨hl2, hb2, he2e⟩
          have he2b : (e2 : Int) ≤ 17300 := by omega
          have he2c : (1 : Int) ≤ (e2 : Int) := by have := hI2.2.2.2; omega
          clear hB2 hI2 hl2 hb2 he2e
          by_cases g1 : e2 = 1
          · have HOR : Hid (e2 = 1 ∨ d1 * 2 ^ 52 ≤ a2) := Or.inl g1
            have HOR1 : Hid (e2 = 1) := g1
            have g1I : (e2 : Int) ≤ 1 := by omega
            clear g1
            have hE9 := hE0.trans (HX1.out.trans (E23.trans hX2))
            have cE := even_big a2 d1 _ u1 wr (HA2.out _ (Ext.refl _)) (HB1.out _ (E23.trans hX2)) (by have := HS2.out; omega) (by have := HS1.out; omega) HI2.out.2.2.1
            have hf : evenQ a2 d1 ≤ 9007199254740992 := evenQ_le HI2.out.2.2.1 (by have := HS2.out.1; rw [Nat.mul_comm]; omega)
            have HFN : Hid (1 = 1) := rfl
            have HRR : Hid (∀ r, r = min 9218868437227405312 ((e2 - 1) * 4503599627370496 + evenQ a2 d1) → IsRound A D r) := fun r hr => ⟨a2, d1, e2, HI2.out, HS2.out.1, HOR.out, hr⟩
            generalize evenQ a2 d1 = f at *
            go_wp2_with fail
            refine cE.mono ?_
            rintro ev w7 ⟨⟨v7, rfl, hv7⟩, E7⟩
            have cS := small_any f v7 w7 hv7 (by omega)
            have hE10 := hE9.trans E7
            clear cE hv7 E7 hE9
            go_wp2_with fail
            refine cS.mono ?_
            rintro ev w8 ⟨rfl, rfl⟩
            clear cS
            have he2p : 1 ≤ e2 := HI2.out.2.2.2
            by_cases gf : f = 9007199254740992
            · subst gf
              by_cases gi : 2046 ≤ e2
              · have giI : (2047 : Int) ≤ (e2 : Int) + 1 := by omega
                have HF : Hid (IsRound A D 9218868437227405312) := HRR.out _ (by omega)
                clear HRR gi
                go_wp2
                go_ret
                exact ⟨⟨_, rfl, HF.out⟩, hE10⟩
              · have giI : (e2 : Int) + 1 < (2047 : Int) := by omega
                have giT : decide ((2047 : Int) ≤ (e2 : Int) + 1) = false := by simp; omega
                have HF : Hid (IsRound A D ((e2 + 1) * 4503599627370496)) := HRR.out _ (by omega)
                clear HRR gi
                go_wp2
                go_ret
                refine ⟨⟨_, ret_int ?_, HF.out⟩, hE10⟩
                omega
            · have gfI : (f : Int) < 9007199254740992 := by omega
              have gfT : decide ((9007199254740992 : Int) ≤ (f : Int)) = false := by simp; omega
              by_cases gi : 2047 ≤ e2
              · have giI : (2047 : Int) ≤ (e2 : Int) := by omega
                have HF : Hid (IsRound A D 9218868437227405312) := HRR.out _ (by have := HOR1.out; omega)
                clear HRR gi gf hf
                go_wp2
                go_ret
                exact ⟨⟨_, rfl, HF.out⟩, hE10⟩
              · have giI : (e2 : Int) < (2047 : Int) := by omega
                have giT : decide ((2047 : Int) ≤ (e2 : Int)) = false := by simp; omega
                by_cases gs : f < 4503599627370496
                · have gsI : (f : Int) < 4503599627370496 := by omega
                  have HF : Hid (IsRound A D f) := HRR.out _ (by have := HOR1.out; omega)
                  clear HRR gi gf hf gs
                  go_wp2
                  go_ret
                  exact ⟨⟨_, rfl, HF.out⟩, hE10⟩
                · have gsT : decide ((f : Int) < 4503599627370496) = false := by simp; omega
                  have HGS : Hid (4503599627370496 ≤ f ∧ f < 9007199254740992 ∧ 1 ≤ e2 ∧ e2 < 2047) := ⟨by omega, by omega, by omega, by omega⟩
                  have HF : Hid (IsRound A D ((e2 - 1) * 4503599627370496 + f)) := HRR.out _ (by omega)
                  clear HRR gi gf hf gs
                  go_wp2
                  go_ret
                  refine ⟨⟨_, ret_int ?_, HF.out⟩, hE10⟩
                  have := HGS.out
                  omega
          · have g1I : (1 : Int) < (e2 : Int) := by omega
            have HG1 : Hid (1 < e2) := by show 1 < e2; omega
            have cU := up_big d1 52 u1 wr (HB1.out _ (E23.trans hX2)) (by have := HS1.out; omega) (by omega)
            rw [show ((52 : Nat) : Int) = 52 from rfl] at cU
            have hbl : blen (d1 * 2 ^ 52) = 52 + blen d1 := blen_shift 52 HI2.out.2.2.1
            have HBL : Hid (blen (d1 * 2 ^ 52) ≤ 11300) := by show blen (d1 * 2 ^ 52) ≤ 11300; have := HS1.out; omega
            clear g1 hbl
            go_wp2_with fail
            refine cU.mono ?_
            rintro ev w4 ⟨⟨v4, rfl, hv4⟩, E4⟩
            have cC := cmp_big a2 (d1 * 2 ^ 52) _ v4 w4 (HA2.out _ E4) hv4 (by have := HS2.out; omega) (by have := HBL.out; omega)
            clear hv4 cU
            go_wp2_with fail
            refine cC.mono ?_
            rintro ev w5 ⟨⟨c2, rfl, hc3, hc4⟩, E5⟩
            have E45 := E4.trans E5
            clear cC E4 E5
            by_cases hge : d1 * 2 ^ 52 ≤ a2
            · have hcc : decide (c2 < 0) = false := by
                have : ¬ c2 < 0 := fun h => by have := hc3.mp h; omega
                exact decide_eq_false this
              have HOR : Hid (e2 = 1 ∨ d1 * 2 ^ 52 ≤ a2) := Or.inr hge
              have hE9 := hE0.trans (HX1.out.trans (E23.trans (hX2.trans E45)))
              have cE := even_big a2 d1 _ u1 w5 (HA2.out _ E45) (HB1.out _ (E23.trans (hX2.trans E45))) (by have := HS2.out; omega) (by have := HS1.out; omega) HI2.out.2.2.1
              have hf : evenQ a2 d1 ≤ 9007199254740992 := evenQ_le HI2.out.2.2.1 (by have := HS2.out.1; rw [Nat.mul_comm]; omega)
              have HFN : Hid (4503599627370496 ≤ evenQ a2 d1) := evenQ_ge HI2.out.2.2.1 (by rw [Nat.mul_comm]; exact hge)
              clear hge hc3 hc4
              have HRR : Hid (∀ r, r = min 9218868437227405312 ((e2 - 1) * 4503599627370496 + evenQ a2 d1) → IsRound A D r) := fun r hr => ⟨a2, d1, e2, HI2.out, HS2.out.1, HOR.out, hr⟩
              generalize evenQ a2 d1 = f at *
              go_wp2_with fail
              refine cE.mono ?_
              rintro ev w7 ⟨⟨v7, rfl, hv7⟩, E7⟩
              have cS := small_any f v7 w7 hv7 (by omega)
              have hE10 := hE9.trans E7
              clear cE hv7 E7 hE9
              go_wp2_with fail
              refine cS.mono ?_
              rintro ev w8 ⟨rfl, rfl⟩
              clear cS
              have he2p : 1 ≤ e2 := HI2.out.2.2.2
              by_cases gf : f = 9007199254740992
              · subst gf
                by_cases gi : 2046 ≤ e2
                · have giI : (2047 : Int) ≤ (e2 : Int) + 1 := by omega
                  have HF : Hid (IsRound A D 9218868437227405312) := HRR.out _ (by omega)
                  clear HRR gi
                  go_wp2
                  go_ret
                  exact ⟨⟨_, rfl, HF.out⟩, hE10⟩
                · have giI : (e2 : Int) + 1 < (2047 : Int) := by omega
                  have giT : decide ((2047 : Int) ≤ (e2 : Int) + 1) = false := by simp; omega
                  have HF : Hid (IsRound A D ((e2 + 1) * 4503599627370496)) := HRR.out _ (by omega)
                  clear HRR gi
                  go_wp2
                  go_ret
                  refine ⟨⟨_, ret_int ?_, HF.out⟩, hE10⟩
                  omega
              · have gfI : (f : Int) < 9007199254740992 := by omega
                have gfT : decide ((9007199254740992 : Int) ≤ (f : Int)) = false := by simp; omega
                by_cases gi : 2047 ≤ e2
                · have giI : (2047 : Int) ≤ (e2 : Int) := by omega
                  have HF : Hid (IsRound A D 9218868437227405312) := HRR.out _ (by have := HFN.out; omega)
                  clear HRR gi gf hf
                  go_wp2
                  go_ret
                  exact ⟨⟨_, rfl, HF.out⟩, hE10⟩
                · have giI : (e2 : Int) < (2047 : Int) := by omega
                  have giT : decide ((2047 : Int) ≤ (e2 : Int)) = false := by simp; omega
                  by_cases gs : f < 4503599627370496
                  · have gsI : (f : Int) < 4503599627370496 := by omega
                    have HF : Hid (IsRound A D f) := HRR.out _ (by have := HFN.out; omega)
                    clear HRR gi gf hf gs
                    go_wp2
                    go_ret
                    exact ⟨⟨_, rfl, HF.out⟩, hE10⟩
                  · have gsT : decide ((f : Int) < 4503599627370496) = false := by simp; omega
                    have HGS : Hid (4503599627370496 ≤ f ∧ f < 9007199254740992 ∧ 1 ≤ e2 ∧ e2 < 2047) := ⟨by omega, by omega, by omega, by omega⟩
                    have HF : Hid (IsRound A D ((e2 - 1) * 4503599627370496 + f)) := HRR.out _ (by omega)
                    clear HRR gi gf hf gs
                    go_wp2
                    go_ret
                    refine ⟨⟨_, ret_int ?_, HF.out⟩, hE10⟩
                    have := HGS.out
                    omega
            · have hcc : c2 < 0 := hc3.mpr (by omega)
              have cV := up_big a2 1 u0 w5 (HA2.out _ E45) (by have := HS2.out; omega) (by omega)
              rw [show ((1 : Nat) : Int) = 1 from rfl] at cV
              have HNX : Hid (Inv A D (a2 * 2 ^ 1) d1 (e2 - 1) ∧ a2 * 2 ^ 1 < d1 * 2 ^ 53 ∧ blen (a2 * 2 ^ 1) ≤ 11300 ∧ e2 - 1 ≤ e1) := by
                refine ⟨HI2.out.upA 1 HG1.out, ?_, ?_, by have := HS2.out; omega⟩
                · have : d1 * 2 ^ 53 = d1 * 2 ^ 52 * 2 := by rw [Nat.mul_assoc]
                  rw [this]; omega
                · have h1 := blen_mono (show a2 * 2 ^ 1 ≤ d1 * 2 ^ 53 by have : d1 * 2 ^ 53 = d1 * 2 ^ 52 * 2 := by rw [Nat.mul_assoc]
                                                                         rw [this]; omega)
                  have := HS1.out
                  omega
              have eE : ((e2 - 1 : Nat) : Int) = (e2 : Int) - 1 := by have := HG1.out; omega
              have HEE : Hid (((e2 - 1 : Nat) : Int) = (e2 : Int) - 1) := eE
              clear hge hc3 hc4 eE
              go_wp2_with fail
              refine cV.mono ?_
              rintro ev w6 ⟨⟨v6, rfl, hv6⟩, E6⟩
              have HV6 : Hid (IsBig w6 v6 (a2 * 2 ^ 1)) := hv6
              clear hv6 cV
              go_wp2
              go_roundw
              case rel => exact ⟨a2 * 2 ^ 1, e2 - 1, by rw [HEE.out], HV6.out, HNX.out.1, HNX.out.2.1, HNX.out.2.2.1, HNX.out.2.2.2, hX2.trans (E45.trans E6)⟩
              case measure => simp [intOf]; omega
      · have hc : 0 ≤ c := by
          have : ¬ c < 0 := fun h => hlt (hc1.mp h)
          omega
        have cV := up_big d1 1 u1 w3 (HB1.out _ E23) (by have := HS1.out; omega) (by omega)
        rw [show ((1 : Nat) : Int) = 1 from rfl] at cV
        have HNX : Hid (Inv A D a (d1 * 2 ^ 1) (e1 + 1) ∧ blen (d1 * 2 ^ 1) ≤ 11200 ∧ e1 + 1 + blen d = e + blen (d1 * 2 ^ 1)) := by
          have h1 := blen_mono (show d1 * 2 ^ 53 ≤ a by omega)
          have h2 := HS1.out
          have h3 := HSZ.out
          exact ⟨HI1.out.upD 1, by omega, by omega⟩
        clear hc1 hc2 hlt
        go_wp2_with fail
        refine cV.mono ?_
        rintro ev w6 ⟨⟨v6, rfl, hv6⟩, E6⟩
        have HV6 : Hid (IsBig w6 v6 (d1 * 2 ^ 1)) := hv6
        clear hv6 cV
        go_wp2
        go_roundw
        case rel => exact ⟨d1 * 2 ^ 1, e1 + 1, by go_num, HV6.out, HNX.out.1, HNX.out.2.1, HNX.out.2.2, HX1.out.trans (E23.trans E6)⟩
        case measure => simp [intOf]; omega
  · have k3I : 51 - (X : Int) + (Y : Int) ≤ 0 := by omega
    have HSZ : Hid (blen A ≤ 11200 ∧ blen D ≤ 11200 ∧ 1075 ≤ 6100) := by
      have hx := HB.out 0
      have hy := HC.out 0
      rw [Nat.pow_zero, Nat.mul_one] at hx hy
      exact ⟨by omega, by omega, by omega⟩
    have HAW := HA0
    have hDW : Hid (IsBig w (.slice (some ⟨q, 0, none⟩) Y qc) D) := HD0.out _ (Ext.refl _)
    have HINV := HI0
    have hE0 := Ext.refl w
    clear HI0 HA0 HB HC HUD HUA k1 k2 k3 HD0
    go_enter Try.func36, Try.ntmps36
    obtain ⟨e, hee⟩ : ∃ e : Nat, e = 1075 := ⟨_, rfl⟩
    obtain ⟨d, hdd⟩ : ∃ d, d = D := ⟨_, rfl⟩
    rw [← hee] at HSZ HINV
    rw [← hdd] at hDW HSZ
    have HINV2 : Hid (Inv A D A d e) := by rw [hdd]; exact HINV
    clear HINV
    have HINV := HINV2
    have HEE : Hid ((1075 : Int) = (e : Int)) := by show (1075 : Int) = (e : Int); omega
    clear HINV2 hdd hee
    go_wp2_with fail
    rw [HEE.out]
    go_loopw [1, 5] (fun dv ev wr => ∃ d1 e1 : Nat, ev = .int .i64 (e1 : Int) ∧ IsBig wr dv d1 ∧ Inv A D A d1 e1 ∧ blen d1 ≤ 11200 ∧ e1 + blen d = e + blen d1 ∧ Ext w wr) (fun _ ev _ => (30000 - intOf ev).toNat)
    case atStart => exact ⟨d, e, rfl, hDW.out, HINV.out, HSZ.out.2.1, rfl, Ext.refl _⟩
    case round =>
      obtain ⟨d1, e1, rfl, hB1, hI1, hb1, hbe1, hX1⟩ := hrel
      have he1b : (e1 : Int) ≤ 17300 := by have := HSZ.out; omega
      have HB1 : Hid (∀ W, Ext wr W → IsBig W u1 d1) := fun W e => hB1.ext e
      have cU := up_big d1 53 u1 wr hB1 (by omega) (by omega)
      rw [show ((53 : Nat) : Int) = 53 from rfl] at cU
      have HI1 : Hid (Inv A D A d1 e1) := hI1
      have HS1 : Hid (blen d1 ≤ 11200 ∧ e1 + blen d = e + blen d1 ∧ blen (d1 * 2 ^ 53) = 53 + blen d1 ∧ blen (d1 * 2 ^ 1) = 1 + blen d1) := ⟨hb1, hbe1, blen_shift 53 hI1.2.2.1, blen_shift 1 hI1.2.2.1⟩
      have HX1 : Hid (Ext w wr) := hX1
      clear hB1 hI1 hb1 hbe1 hX1 hDW
      go_wp2_with fail
      refine cU.mono ?_
      rintro ev w2 ⟨⟨v2, rfl, hv2⟩, E2⟩
      have cC := cmp_big A (d1 * 2 ^ 53) _ v2 w2 (HAW.out _ (HX1.out.trans E2)) hv2 (by have := HSZ.out; omega) (by have := HS1.out; omega)
      clear hv2 cU
      go_wp2_with fail
      refine cC.mono ?_
      rintro ev w3 ⟨⟨c, rfl, hc1, hc2⟩, E3⟩
      clear cC
      have E23 := E2.trans E3
      clear E2 E3
      by_cases hlt : A < d1 * 2 ^ 53
      · have hc : ¬ 0 ≤ c := by have := hc1.mpr hlt; omega
        have hcd : decide (0 ≤ c) = false := decide_eq_false hc
        have HLT : Hid (A < d1 * 2 ^ 53) := hlt
        clear hc1 hc2 hlt hc
        go_wp2_with fail
        go_loopw [0, 5] (fun av ev wx => ∃ a2 e2 : Nat, ev = .int .i64 (e2 : Int) ∧ IsBig wx av a2 ∧ Inv A D a2 d1 e2 ∧ a2 < d1 * 2 ^ 53 ∧ blen a2 ≤ 11300 ∧ e2 ≤ e1 ∧ Ext w3 wx) (fun _ ev _ => (intOf ev).toNat)
        case atStart => exact ⟨A, e1, rfl, HAW.out _ (HX1.out.trans E23), HI1.out, HLT.out, by have := HSZ.out; omega, Nat.le_refl _, Ext.refl _⟩
        case round =>
          obtain ⟨a2, e2, rfl, hB2, hI2, hl2, hb2, he2e, hX2⟩ := hrel
          have HA2 : Hid (∀ W, Ext wr W → IsBig W u0 a2) := fun W e => hB2.ext e
          have HI2 : Hid (Inv A D a2 d1 e2) := hI2
          have HS2 : Hid (a2 < d1 * 2 ^ 53 ∧ blen a2 ≤ 11300 ∧ e2 ≤ e1) := ⟨hl2, hb2, he2e⟩
          have he2b : (e2 : Int) ≤ 17300 := by omega
          have he2c : (1 : Int) ≤ (e2 : Int) := by have := hI2.2.2.2; omega
          clear hB2 hI2 hl2 hb2 he2e
          by_cases g1 : e2 = 1
          · have HOR : Hid (e2 = 1 ∨ d1 * 2 ^ 52 ≤ a2) := Or.inl g1
            have HOR1 : Hid (e2 = 1) := g1
            have g1I : (e2 : Int) ≤ 1 := by omega
            clear g1
            have hE9 := hE0.trans (HX1.out.trans (E23.trans hX2))
            have cE := even_big a2 d1 _ u1 wr (HA2.out _ (Ext.refl _)) (HB1.out _ (E23.trans hX2)) (by have := HS2.out; omega) (by have := HS1.out; omega) HI2.out.2.2.1
            have hf : evenQ a2 d1 ≤ 9007199254740992 := evenQ_le HI2.out.2.2.1 (by have := HS2.out.1; rw [Nat.mul_comm]; omega)
            have HFN : Hid (1 = 1) := rfl
            have HRR : Hid (∀ r, r = min 9218868437227405312 ((e2 - 1) * 4503599627370496 + evenQ a2 d1) → IsRound A D r) := fun r hr => ⟨a2, d1, e2, HI2.out, HS2.out.1, HOR.out, hr⟩
            generalize evenQ a2 d1 = f at *
            go_wp2_with fail
            refine cE.mono ?_
            rintro ev w7 ⟨⟨v7, rfl, hv7⟩, E7⟩
            have cS := small_any f v7 w7 hv7 (by omega)
            have hE10 := hE9.trans E7
            clear cE hv7 E7 hE9
            go_wp2_with fail
            refine cS.mono ?_
            rintro ev w8 ⟨rfl, rfl⟩
            clear cS
            have he2p : 1 ≤ e2 := HI2.out.2.2.2
            by_cases gf : f = 9007199254740992
            · subst gf
              by_cases gi : 2046 ≤ e2
              · have giI : (2047 : Int) ≤ (e2 : Int) + 1 := by omega
                have HF : Hid (IsRound A D 9218868437227405312) := HRR.out _ (by omega)
                clear HRR gi
                go_wp2
                go_ret
                exact ⟨⟨_, rfl, HF.out⟩, hE10⟩
              · have giI : (e2 : Int) + 1 < (2047 : Int) := by omega
                have giT : decide ((2047 : Int) ≤ (e2 : Int) + 1) = false := by simp; omega
                have HF : Hid (IsRound A D ((e2 + 1) * 4503599627370496)) := HRR.out _ (by omega)
                clear HRR gi
                go_wp2
                go_ret
                refine ⟨⟨_, ret_int ?_, HF.out⟩, hE10⟩
                omega
            · have gfI : (f : Int) < 9007199254740992 := by omega
              have gfT : decide ((9007199254740992 : Int) ≤ (f : Int)) = false := by simp; omega
              by_cases gi : 2047 ≤ e2
              · have giI : (2047 : Int) ≤ (e2 : Int) := by omega
                have HF : Hid (IsRound A D 9218868437227405312) := HRR.out _ (by have := HOR1.out; omega)
                clear HRR gi gf hf
                go_wp2
                go_ret
                exact ⟨⟨_, rfl, HF.out⟩, hE10⟩
              · have giI : (e2 : Int) < (2047 : Int) := by omega
                have giT : decide ((2047 : Int) ≤ (e2 : Int)) = false := by simp; omega
                by_cases gs : f < 4503599627370496
                · have gsI : (f : Int) < 4503599627370496 := by omega
                  have HF : Hid (IsRound A D f) := HRR.out _ (by have := HOR1.out; omega)
                  clear HRR gi gf hf gs
                  go_wp2
                  go_ret
                  exact ⟨⟨_, rfl, HF.out⟩, hE10⟩
                · have gsT : decide ((f : Int) < 4503599627370496) = false := by simp; omega
                  have HGS : Hid (4503599627370496 ≤ f ∧ f < 9007199254740992 ∧ 1 ≤ e2 ∧ e2 < 2047) := ⟨by omega, by omega, by omega, by omega⟩
                  have HF : Hid (IsRound A D ((e2 - 1) * 4503599627370496 + f)) := HRR.out _ (by omega)
                  clear HRR gi gf hf gs
                  go_wp2
                  go_ret
                  refine ⟨⟨_, ret_int ?_, HF.out⟩, hE10⟩
                  have := HGS.out
                  omega
          · have g1I : (1 : Int) < (e2 : Int) := by omega
            have HG1 : Hid (1 < e2) := by show 1 < e2; omega
            have cU := up_big d1 52 u1 wr (HB1.out _ (E23.trans hX2)) (by have := HS1.out; omega) (by omega)
            rw [show ((52 : Nat) : Int) = 52 from rfl] at cU
            have hbl : blen (d1 * 2 ^ 52) = 52 + blen d1 := blen_shift 52 HI2.out.2.2.1
            have HBL : Hid (blen (d1 * 2 ^ 52) ≤ 11300) := by show blen (d1 * 2 ^ 52) ≤ 11300; have := HS1.out; omega
            clear g1 hbl
            go_wp2_with fail
            refine cU.mono ?_
            rintro ev w4 ⟨⟨v4, rfl, hv4⟩, E4⟩
            have cC := cmp_big a2 (d1 * 2 ^ 52) _ v4 w4 (HA2.out _ E4) hv4 (by have := HS2.out; omega) (by have := HBL.out; omega)
            clear hv4 cU
            go_wp2_with fail
            refine cC.mono ?_
            rintro ev w5 ⟨⟨c2, rfl, hc3, hc4⟩, E5⟩
            have E45 := E4.trans E5
            clear cC E4 E5
            by_cases hge : d1 * 2 ^ 52 ≤ a2
            · have hcc : decide (c2 < 0) = false := by
                have : ¬ c2 < 0 := fun h => by have := hc3.mp h; omega
                exact decide_eq_false this
              have HOR : Hid (e2 = 1 ∨ d1 * 2 ^ 52 ≤ a2) := Or.inr hge
              have hE9 := hE0.trans (HX1.out.trans (E23.trans (hX2.trans E45)))
              have cE := even_big a2 d1 _ u1 w5 (HA2.out _ E45) (HB1.out _ (E23.trans (hX2.trans E45))) (by have := HS2.out; omega) (by have := HS1.out; omega) HI2.out.2.2.1
              have hf : evenQ a2 d1 ≤ 9007199254740992 := evenQ_le HI2.out.2.2.1 (by have := HS2.out.1; rw [Nat.mul_comm]; omega)
              have HFN : Hid (4503599627370496 ≤ evenQ a2 d1) := evenQ_ge HI2.out.2.2.1 (by rw [Nat.mul_comm]; exact hge)
              clear hge hc3 hc4
              have HRR : Hid (∀ r, r = min 9218868437227405312 ((e2 - 1) * 4503599627370496 + evenQ a2 d1) → IsRound A D r) := fun r hr => ⟨a2, d1, e2, HI2.out, HS2.out.1, HOR.out, hr⟩
              generalize evenQ a2 d1 = f at *
              go_wp2_with fail
              refine cE.mono ?_
              rintro ev w7 ⟨⟨v7, rfl, hv7⟩, E7⟩
              have cS := small_any f v7 w7 hv7 (by omega)
              have hE10 := hE9.trans E7
              clear cE hv7 E7 hE9
              go_wp2_with fail
              refine cS.mono ?_
              rintro ev w8 ⟨rfl, rfl⟩
              clear cS
              have he2p : 1 ≤ e2 := HI2.out.2.2.2
              by_cases gf : f = 9007199254740992
              · subst gf
                by_cases gi : 2046 ≤ e2
                · have giI : (2047 : Int) ≤ (e2 : Int) + 1 := by omega
                  have HF : Hid (IsRound A D 9218868437227405312) := HRR.out _ (by omega)
                  clear HRR gi
                  go_wp2
                  go_ret
                  exact ⟨⟨_, rfl, HF.out⟩, hE10⟩
                · have giI : (e2 : Int) + 1 < (2047 : Int) := by omega
                  have giT : decide ((2047 : Int) ≤ (e2 : Int) + 1) = false := by simp; omega
                  have HF : Hid (IsRound A D ((e2 + 1) * 4503599627370496)) := HRR.out _ (by omega)
                  clear HRR gi
                  go_wp2
                  go_ret
                  refine ⟨⟨_, ret_int ?_, HF.out⟩, hE10⟩
                  omega
              · have gfI : (f : Int) < 9007199254740992 := by omega
                have gfT : decide ((9007199254740992 : Int) ≤ (f : Int)) = false := by simp; omega
                by_cases gi : 2047 ≤ e2
                · have giI : (2047 : Int) ≤ (e2 : Int) := by omega
                  have HF : Hid (IsRound A D 9218868437227405312) := HRR.out _ (by have := HFN.out; omega)
                  clear HRR gi gf hf
                  go_wp2
                  go_ret
                  exact ⟨⟨_, rfl, HF.out⟩, hE10⟩
                · have giI : (e2 : Int) < (2047 : Int) := by omega
                  have giT : decide ((2047 : Int) ≤ (e2 : Int)) = false := by simp; omega
                  by_cases gs : f < 4503599627370496
                  · have gsI : (f : Int) < 4503599627370496 := by omega
                    have HF : Hid (IsRound A D f) := HRR.out _ (by have := HFN.out; omega)
                    clear HRR gi gf hf gs
                    go_wp2
                    go_ret
                    exact ⟨⟨_, rfl, HF.out⟩, hE10⟩
                  · have gsT : decide ((f : Int) < 4503599627370496) = false := by simp; omega
                    have HGS : Hid (4503599627370496 ≤ f ∧ f < 9007199254740992 ∧ 1 ≤ e2 ∧ e2 < 2047) := ⟨by omega, by omega, by omega, by omega⟩
                    have HF : Hid (IsRound A D ((e2 - 1) * 4503599627370496 + f)) := HRR.out _ (by omega)
                    clear HRR gi gf hf gs
                    go_wp2
                    go_ret
                    refine ⟨⟨_, ret_int ?_, HF.out⟩, hE10⟩
                    have := HGS.out
                    omega
            · have hcc : c2 < 0 := hc3.mpr (by omega)
              have cV := up_big a2 1 u0 w5 (HA2.out _ E45) (by have := HS2.out; omega) (by omega)
              rw [show ((1 : Nat) : Int) = 1 from rfl] at cV
              have HNX : Hid (Inv A D (a2 * 2 ^ 1) d1 (e2 - 1) ∧ a2 * 2 ^ 1 < d1 * 2 ^ 53 ∧ blen (a2 * 2 ^ 1) ≤ 11300 ∧ e2 - 1 ≤ e1) := by
                refine ⟨HI2.out.upA 1 HG1.out, ?_, ?_, by have := HS2.out; omega⟩
                · have : d1 * 2 ^ 53 = d1 * 2 ^ 52 * 2 := by rw [Nat.mul_assoc]
                  rw [this]; omega
                · have h1 := blen_mono (show a2 * 2 ^ 1 ≤ d1 * 2 ^ 53 by have : d1 * 2 ^ 53 = d1 * 2 ^ 52 * 2 := by rw [Nat.mul_assoc]
                                                                         rw [this]; omega)
                  have := HS1.out
                  omega
              have eE : ((e2 - 1 : Nat) : Int) = (e2 : Int) - 1 := by have := HG1.out; omega
              have HEE : Hid (((e2 - 1 : Nat) : Int) = (e2 : Int) - 1) := eE
              clear hge hc3 hc4 eE
              go_wp2_with fail
              refine cV.mono ?_
              rintro ev w6 ⟨⟨v6, rfl, hv6⟩, E6⟩
              have HV6 : Hid (IsBig w6 v6 (a2 * 2 ^ 1)) := hv6
              clear hv6 cV
              go_wp2
              go_roundw
              case rel => exact ⟨a2 * 2 ^ 1, e2 - 1, by rw [HEE.out], HV6.out, HNX.out.1, HNX.out.2.1, HNX.out.2.2.1, HNX.out.2.2.2, hX2.trans (E45.trans E6)⟩
              case measure => simp [intOf]; omega
      · have hc : 0 ≤ c := by
          have : ¬ c < 0 := fun h => hlt (hc1.mp h)
          omega
        have cV := up_big d1 1 u1 w3 (HB1.out _ E23) (by have := HS1.out; omega) (by omega)
        rw [show ((1 : Nat) : Int) = 1 from rfl] at cV
        have HNX : Hid (Inv A D A (d1 * 2 ^ 1) (e1 + 1) ∧ blen (d1 * 2 ^ 1) ≤ 11200 ∧ e1 + 1 + blen d = e + blen (d1 * 2 ^ 1)) := by
          have h1 := blen_mono (show d1 * 2 ^ 53 ≤ A by omega)
          have h2 := HS1.out
          have h3 := HSZ.out
          exact ⟨HI1.out.upD 1, by omega, by omega⟩
        clear hc1 hc2 hlt
        go_wp2_with fail
        refine cV.mono ?_
        rintro ev w6 ⟨⟨v6, rfl, hv6⟩, E6⟩
        have HV6 : Hid (IsBig w6 v6 (d1 * 2 ^ 1)) := hv6
        clear hv6 cV
        go_wp2
        go_roundw
        case rel => exact ⟨d1 * 2 ^ 1, e1 + 1, by go_num, HV6.out, HNX.out.1, HNX.out.2.1, HNX.out.2.2, HX1.out.trans (E23.trans E6)⟩
        case measure => simp [intOf]; omega
end Go.Proofs.Ytbonaldlljdaoaa
