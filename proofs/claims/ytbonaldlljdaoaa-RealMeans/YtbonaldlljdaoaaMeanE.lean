/-
  The contract of the document's sum of two floats that are numbers.
-/
import Derived.Test.YtbonaldlljdaoaaMeanD
namespace Go.Proofs.Ytbonaldlljdaoaa
open Go.RowKit
set_option maxHeartbeats 4000000

theorem blen_top (f p : Nat) (hf : f < 9007199254740992) (hp : p ≤ 2047) : blen (f * 2 ^ p) ≤ 2100 := by
  rcases Nat.eq_zero_or_pos f with rfl | h
  · rw [Nat.zero_mul, blen_zero]; omega
  · rw [blen_shift p h]
    have : blen f ≤ 53 := blen_le (by omega)
    omega
set_option maxRecDepth 100000 in
theorem radd_num (x y : Nat) (hx : x < 18446744073709551616) (hy : y < 18446744073709551616) (k1 : expo x ≠ 2047) (k2 : expo y ≠ 2047) (w : World) : Calls Try.prog 45 #[.int .u64 (x : Nat), .int .u64 (y : Nat)] w fun e w' => e = .returned (.int .u64 (addW x y : Nat)) ∧ Ext w w' := by
  have cK := fun W => kind_any x hx W
  have cL := fun W => kind_any y hy W
  have ek : kindI x = 0 := by unfold kindI; rw [if_neg k1]
  have el : kindI y = 0 := by unfold kindI; rw [if_neg k2]
  rw [ek] at cK
  rw [el] at cL
  have cP := fun W => parts_yes x hx k1 W
  have cQ := fun W => parts_yes y hy k2 W
  have hF := partF_lt x
  have hH := partF_lt y
  have hE := partE_bd x
  have hG := partE_bd y
  obtain ⟨hl1, hl2, hl3⟩ := add_low x y
  have HZ : Hid (magS x y = 0 → addW x y = if negB x && negB y then 9223372036854775808 else 0) := by
    intro h
    unfold addW; rw [add_nought x y hx hy k1 k2 h]; rfl
  obtain ⟨r, HP0⟩ : ∃ r, 0 < magS x y → (addW x y = (if sgnS x y then 9223372036854775808 + r else r) ∧ r ≤ 9218868437227405312 ∧ (∀ t, (1075 ≤ lowE x y → IsRound (magS x y * 2 ^ (lowE x y - 1075)) 1 t) ∧ (lowE x y ≤ 1075 → IsRound (magS x y) (1 * 2 ^ (1075 - lowE x y)) t) → t = r)) := by
    rcases Nat.eq_zero_or_pos (magS x y) with h | h
    · exact ⟨0, fun h' => by omega⟩
    · obtain ⟨r, r1, r2, r3, r4⟩ := add_round x y hx hy k1 k2 h
      refine ⟨r, fun _ => ⟨by unfold addW; rw [r1, ← word_val]; rfl, r2, ?_⟩⟩
      intro t ht
      rcases Nat.le_total 1075 (lowE x y) with q | q
      · exact round_one (ht.1 q) (r3 q) (by decide) (by decide) rfl
      · have hD : 0 < 2 ^ (1075 - lowE x y) := Nat.pow_pos (by decide)
        have h1 := ht.2 q
        rw [Nat.one_mul] at h1
        exact round_one h1 (r4 q) hD hD rfl
  have bX : blen (topX x y) ≤ 2100 := blen_top _ _ hF (by omega)
  have bY : blen (topY x y) ≤ 2100 := blen_top _ _ hH (by omega)
  have HSG : Hid (0 < magS x y → sgnS x y = if negB x = negB y then negB x else if topY x y ≤ topX x y then negB x else negB y) := by
    intro h; unfold sgnS; rw [if_neg (by omega)]
  have HMG : Hid (magS x y = if negB x = negB y then topX x y + topY x y else if topY x y ≤ topX x y then topX x y - topY x y else topY x y - topX x y) := rfl
  have HTX : Hid (topX x y = partF x * 2 ^ (partE x - lowE x y) ∧ topY x y = partF y * 2 ^ (partE y - lowE x y) ∧ lowE x y = if partE y < partE x then partE y else partE x) := ⟨rfl, rfl, rfl⟩
  have cO := fun W => of_any (partF x) (by omega) W
  have cR := fun W => of_any (partF y) (by omega) W
  have bF : blen (partF x) ≤ 53 := blen_le (by omega)
  have bH : blen (partF y) ≤ 53 := blen_le (by omega)
  clear hx hy k1 k2 ek el
  generalize addW x y = V at *
  generalize magS x y = M at *
  generalize sgnS x y = sg at *
  generalize topX x y = XX at *
  generalize topY x y = YY at *
  generalize lowE x y = L at *
  generalize negB x = n at *
  generalize negB y = o at *
  generalize partE x = E at *
  generalize partE y = G at *
  generalize partF x = F at *
  generalize partF y = H at *
  have hEI : (E : Int) ≤ 2047 := by omega
  have hGI : (G : Int) ≤ 2047 := by omega
  have HPL : Hid (∀ W a b, IsBig W a XX → IsBig W b YY → Calls Try.prog 48 #[a, b] W fun e w' => (∃ v, e = .returned v ∧ IsBig w' v (XX + YY)) ∧ Ext W w') := fun W a b ha hb => plus_big XX YY a b W ha hb (by omega) (by omega)
  have HCM : Hid (∀ W a b, IsBig W a XX → IsBig W b YY → Calls Try.prog 50 #[a, b] W fun e w' => (∃ c : Int, e = .returned (.int .i64 c) ∧ (c < 0 ↔ XX < YY) ∧ (0 < c ↔ YY < XX)) ∧ Ext W w') := fun W a b ha hb => cmp_big XX YY a b W ha hb (by omega) (by omega)
  have HM1 : Hid (YY ≤ XX → ∀ W a b, IsBig W a XX → IsBig W b YY → Calls Try.prog 55 #[a, b] W fun e w' => (∃ v, e = .returned v ∧ IsBig w' v (XX - YY)) ∧ Ext W w') := fun h W a b ha hb => minus_big XX YY a b W ha hb (by omega) h
  have HM2 : Hid (XX ≤ YY → ∀ W a b, IsBig W a YY → IsBig W b XX → Calls Try.prog 55 #[a, b] W fun e w' => (∃ v, e = .returned v ∧ IsBig w' v (YY - XX)) ∧ Ext W w') := fun h W a b ha hb => minus_big YY XX a b W ha hb (by omega) h
  have bM : blen M ≤ 3000 := by
    have h1 : M ≤ XX + YY := by rw [HMG.out]; split <;> (try split) <;> omega
    have h2 := blen_mono h1
    have h3 : blen (XX + YY) ≤ 2101 := by
      refine blen_le ?_
      have hx := Nat.lt_of_lt_of_le (lt_blen XX) (Nat.pow_le_pow_right (n := 2) (j := 2100) (by decide) bX)
      have hy := Nat.lt_of_lt_of_le (lt_blen YY) (Nat.pow_le_pow_right (n := 2) (j := 2100) (by decide) bY)
      obtain ⟨q, hq⟩ : ∃ q, q = 2100 := ⟨_, rfl⟩
      rw [← hq] at hx hy
      rw [show 2101 = q + 1 by omega, Nat.pow_succ]
      omega
    omega
  have HS : Hid (∀ W v, 0 < M → IsBig W v M → Calls Try.prog 56 #[v, .int .i64 (L : Nat), .int .u64 1] W fun ev w' => (∃ t : Nat, ev = .returned (.int .u64 (t : Int)) ∧ (1075 ≤ L → IsRound (M * 2 ^ (L - 1075)) 1 t) ∧ (L ≤ 1075 → IsRound M (1 * 2 ^ (1075 - L)) t)) ∧ Ext W w') := by
    intro W v h hv
    exact scaled_big M L 1 v W hv h bM hl3 (by omega) (by decide) (by decide)
  clear bX bY bM
  by_cases hGE : G < E
  · have hLG : G = L := by rw [HTX.out.2.2, if_pos hGE]
    subst hLG
    have hlo : (G : Int) < (E : Int) := by omega
    have HU1 : Hid (∀ W v, IsBig W v F → Calls Try.prog 29 #[v, .int .i64 ((E : Int) - (G : Int))] W fun e w' => (∃ v, e = .returned v ∧ IsBig w' v XX) ∧ Ext W w') := by
      intro W v hv
      have h := up_big F (E - G) v W hv (by omega) (by omega)
      rw [← HTX.out.1] at h
      rw [show ((E : Int) - (G : Int) : Int) = ((E - G : Nat) : Int) by omega]
      exact h
    have HU2 : Hid (∀ W v, IsBig W v H → Calls Try.prog 29 #[v, .int .i64 (0)] W fun e w' => (∃ v, e = .returned v ∧ IsBig w' v YY) ∧ Ext W w') := by
      intro W v hv
      have h := up_big H (G - G) v W hv (by omega) (by omega)
      rw [← HTX.out.2.1] at h
      rw [show (0 : Int) = ((G - G : Nat) : Int) by omega]
      exact h
    by_cases hno : n = o
    · subst hno
      have hMM : M = XX + YY := by rw [HMG.out, if_pos rfl]
      have HSS : Hid (0 < M → sg = n) := fun h => by rw [HSG.out h, if_pos rfl]
      go_enter Try.func45, Try.ntmps45
      go_wp2_with fail
      refine (cK _).mono ?_
      rintro ev w1 ⟨rfl, rfl⟩
      go_wp2_with fail
      refine (cL _).mono ?_
      rintro ev w1 ⟨rfl, rfl⟩
      go_wp2_with fail
      refine (cK _).mono ?_
      rintro ev w1 ⟨rfl, rfl⟩
      go_wp2_with fail
      refine (cK _).mono ?_
      rintro ev w1 ⟨rfl, rfl⟩
      go_wp2_with fail
      refine (cL _).mono ?_
      rintro ev w1 ⟨rfl, rfl⟩
      go_wp2_with fail
      refine (cP _).mono ?_
      rintro ev w1 ⟨rfl, rfl⟩
      go_wp2_with fail
      refine (cQ _).mono ?_
      rintro ev w1 ⟨rfl, rfl⟩
      go_wp2_with fail
      refine (cO _).mono ?_
      rintro ev w2 ⟨⟨v2, rfl, h2⟩, E2⟩
      have cU1 := HU1.out _ _ h2
      clear h2
      go_wp2_with fail
      refine cU1.mono ?_
      rintro ev w3 ⟨⟨v3, rfl, h3⟩, E3⟩
      have H3 : Hid (∀ W, Ext w3 W → IsBig W v3 XX) := fun W e => h3.ext e
      clear h3 cU1
      go_wp2_with fail
      refine (cR _).mono ?_
      rintro ev w4 ⟨⟨v4, rfl, h4⟩, E4⟩
      have cU2 := HU2.out _ _ h4
      clear h4
      go_wp2_with fail
      refine cU2.mono ?_
      rintro ev w5 ⟨⟨v5, rfl, h5⟩, E5⟩
      have H5 : Hid (∀ W, Ext w5 W → IsBig W v5 YY) := fun W e => h5.ext e
      have E35 := E4.trans E5
      have Ew5 := E2.trans (E3.trans E35)
      clear h5 cU2 E2 E3 E4 E5
      have cA := HPL.out w5 v3 v5 (H3.out _ E35) (H5.out _ (Ext.refl _))
      go_wp2_with fail
      refine cA.mono ?_
      rintro ev WN ⟨⟨mv, rfl, hmv0⟩, EN⟩
      have hmv : IsBig WN mv M := by rw [hMM]; exact hmv0
      have hEN := Ew5.trans EN
      clear hmv0 cA EN Ew5 E35 hMM
      obtain ⟨mp, mc, rfl⟩ := big_form hmv
      have HMV : Hid (IsBig WN (.slice (some ⟨mp, 0, none⟩) (blen M) mc) M) := hmv
      clear hmv
      rcases Nat.eq_zero_or_pos M with g0 | g0
      · have HEZ : Hid (V = if n && n then 9223372036854775808 else 0) := HZ.out g0
        rw [g0, blen_zero]
        clear HMV HZ g0 HP0
        cases n
        all_goals
          go_wp2
          go_ret
          exact ⟨ret_int (by rw [HEZ.out]; rfl), hEN⟩
      · obtain ⟨eP, hL0, hT0⟩ := HP0 g0
        have HTR : Hid (∀ t, (1075 ≤ G → IsRound (M * 2 ^ (G - 1075)) 1 t) ∧ (G ≤ 1075 → IsRound M (1 * 2 ^ (1075 - G)) t) → t = r) := hT0
        have HL : Hid (r ≤ 9218868437227405312) := hL0
        have cS := HS.out _ _ g0 HMV.out
        have hbl : ((blen M : Int) == 0) = false := by have := blen_one_pos g0; simp; omega
        have HEP : Hid (V = if n then 9223372036854775808 + r else r) := by
          have h := eP
          rw [HSS.out g0] at h
          exact h
        clear HMV HZ eP g0 hL0 hT0 HP0 HSS HSG HMG
        generalize blen M = BM at *
        go_wp2_with fail
        refine cS.mono ?_
        rintro ev wS ⟨⟨t, rfl, ht⟩, ES⟩
        have htr := HTR.out t ht
        subst htr
        clear ht cS
        have ew : IntKind.u64.wrap ((t : Int) + 9223372036854775808) = ((9223372036854775808 + t : Nat) : Int) := by have := HL.out; rw [wrapU]; omega
        cases n
        · go_wp2
          go_ret
          exact ⟨ret_int (by rw [HEP.out]; rfl), hEN.trans ES⟩
        · go_wp2
          go_ret
          exact ⟨ret_int (by rw [HEP.out]; simp), hEN.trans ES⟩
    · have hnoB : (n == o) = false := by simpa using hno
      have hcs : (n = true ∧ o = false) ∨ (n = false ∧ o = true) := by revert hno; cases n <;> cases o <;> simp
      by_cases hle : YY ≤ XX
      · have hMM : M = XX - YY := by rw [HMG.out, if_neg hno, if_pos hle]
        have HSS : Hid (0 < M → sg = n) := fun h => by rw [HSG.out h, if_neg hno, if_pos hle]
        go_enter Try.func45, Try.ntmps45
        go_wp2_with fail
        refine (cK _).mono ?_
        rintro ev w1 ⟨rfl, rfl⟩
        go_wp2_with fail
        refine (cL _).mono ?_
        rintro ev w1 ⟨rfl, rfl⟩
        go_wp2_with fail
        refine (cK _).mono ?_
        rintro ev w1 ⟨rfl, rfl⟩
        go_wp2_with fail
        refine (cK _).mono ?_
        rintro ev w1 ⟨rfl, rfl⟩
        go_wp2_with fail
        refine (cL _).mono ?_
        rintro ev w1 ⟨rfl, rfl⟩
        go_wp2_with fail
        refine (cP _).mono ?_
        rintro ev w1 ⟨rfl, rfl⟩
        go_wp2_with fail
        refine (cQ _).mono ?_
        rintro ev w1 ⟨rfl, rfl⟩
        go_wp2_with fail
        refine (cO _).mono ?_
        rintro ev w2 ⟨⟨v2, rfl, h2⟩, E2⟩
        have cU1 := HU1.out _ _ h2
        clear h2
        go_wp2_with fail
        refine cU1.mono ?_
        rintro ev w3 ⟨⟨v3, rfl, h3⟩, E3⟩
        have H3 : Hid (∀ W, Ext w3 W → IsBig W v3 XX) := fun W e => h3.ext e
        clear h3 cU1
        go_wp2_with fail
        refine (cR _).mono ?_
        rintro ev w4 ⟨⟨v4, rfl, h4⟩, E4⟩
        have cU2 := HU2.out _ _ h4
        clear h4
        go_wp2_with fail
        refine cU2.mono ?_
        rintro ev w5 ⟨⟨v5, rfl, h5⟩, E5⟩
        have H5 : Hid (∀ W, Ext w5 W → IsBig W v5 YY) := fun W e => h5.ext e
        have E35 := E4.trans E5
        have Ew5 := E2.trans (E3.trans E35)
        clear h5 cU2 E2 E3 E4 E5
        have cC := HCM.out w5 v3 v5 (H3.out _ E35) (H5.out _ (Ext.refl _))
        go_wp2_with fail
        refine cC.mono ?_
        rintro ev w6 ⟨⟨c, rfl, hc1, hc2⟩, E6⟩
        have hcc : decide (0 ≤ c) = true := by
          have : ¬ c < 0 := fun h => by have := hc1.mp h; omega
          simp; omega
        have cA := HM1.out hle w6 v3 v5 (H3.out _ (E35.trans E6)) (H5.out _ E6)
        clear hc1 hc2 hle cC
        go_wp2_with fail
        refine cA.mono ?_
        rintro ev WN ⟨⟨mv, rfl, hmv0⟩, EN⟩
        have hmv : IsBig WN mv M := by rw [hMM]; exact hmv0
        have hEN := Ew5.trans (E6.trans EN)
        clear hmv0 cA EN E6 Ew5 E35 hMM
        obtain ⟨mp, mc, rfl⟩ := big_form hmv
        have HMV : Hid (IsBig WN (.slice (some ⟨mp, 0, none⟩) (blen M) mc) M) := hmv
        clear hmv
        rcases Nat.eq_zero_or_pos M with g0 | g0
        · have HEZ : Hid (V = if n && o then 9223372036854775808 else 0) := HZ.out g0
          rw [g0, blen_zero]
          clear HMV HZ g0 HP0
          rcases hcs with ⟨rfl, rfl⟩ | ⟨rfl, rfl⟩
          all_goals
            go_wp2
            go_ret
            exact ⟨ret_int (by rw [HEZ.out]; rfl), hEN⟩
        · obtain ⟨eP, hL0, hT0⟩ := HP0 g0
          have HTR : Hid (∀ t, (1075 ≤ G → IsRound (M * 2 ^ (G - 1075)) 1 t) ∧ (G ≤ 1075 → IsRound M (1 * 2 ^ (1075 - G)) t) → t = r) := hT0
          have HL : Hid (r ≤ 9218868437227405312) := hL0
          have cS := HS.out _ _ g0 HMV.out
          have hbl : ((blen M : Int) == 0) = false := by have := blen_one_pos g0; simp; omega
          have HEP : Hid (V = if n then 9223372036854775808 + r else r) := by
            have h := eP
            rw [HSS.out g0] at h
            exact h
          clear HMV HZ eP g0 hL0 hT0 HP0 HSS HSG HMG
          generalize blen M = BM at *
          go_wp2_with fail
          refine cS.mono ?_
          rintro ev wS ⟨⟨t, rfl, ht⟩, ES⟩
          have htr := HTR.out t ht
          subst htr
          clear ht cS
          have ew : IntKind.u64.wrap ((t : Int) + 9223372036854775808) = ((9223372036854775808 + t : Nat) : Int) := by have := HL.out; rw [wrapU]; omega
          cases n
          · go_wp2
            go_ret
            exact ⟨ret_int (by rw [HEP.out]; rfl), hEN.trans ES⟩
          · go_wp2
            go_ret
            exact ⟨ret_int (by rw [HEP.out]; simp), hEN.trans ES⟩
      · have hMM : M = YY - XX := by rw [HMG.out, if_neg hno, if_neg hle]
        have HSS : Hid (0 < M → sg = o) := fun h => by rw [HSG.out h, if_neg hno, if_neg hle]
        go_enter Try.func45, Try.ntmps45
        go_wp2_with fail
        refine (cK _).mono ?_
        rintro ev w1 ⟨rfl, rfl⟩
        go_wp2_with fail
        refine (cL _).mono ?_
        rintro ev w1 ⟨rfl, rfl⟩
        go_wp2_with fail
        refine (cK _).mono ?_
        rintro ev w1 ⟨rfl, rfl⟩
        go_wp2_with fail
        refine (cK _).mono ?_
        rintro ev w1 ⟨rfl, rfl⟩
        go_wp2_with fail
        refine (cL _).mono ?_
        rintro ev w1 ⟨rfl, rfl⟩
        go_wp2_with fail
        refine (cP _).mono ?_
        rintro ev w1 ⟨rfl, rfl⟩
        go_wp2_with fail
        refine (cQ _).mono ?_
        rintro ev w1 ⟨rfl, rfl⟩
        go_wp2_with fail
        refine (cO _).mono ?_
        rintro ev w2 ⟨⟨v2, rfl, h2⟩, E2⟩
        have cU1 := HU1.out _ _ h2
        clear h2
        go_wp2_with fail
        refine cU1.mono ?_
        rintro ev w3 ⟨⟨v3, rfl, h3⟩, E3⟩
        have H3 : Hid (∀ W, Ext w3 W → IsBig W v3 XX) := fun W e => h3.ext e
        clear h3 cU1
        go_wp2_with fail
        refine (cR _).mono ?_
        rintro ev w4 ⟨⟨v4, rfl, h4⟩, E4⟩
        have cU2 := HU2.out _ _ h4
        clear h4
        go_wp2_with fail
        refine cU2.mono ?_
        rintro ev w5 ⟨⟨v5, rfl, h5⟩, E5⟩
        have H5 : Hid (∀ W, Ext w5 W → IsBig W v5 YY) := fun W e => h5.ext e
        have E35 := E4.trans E5
        have Ew5 := E2.trans (E3.trans E35)
        clear h5 cU2 E2 E3 E4 E5
        have cC := HCM.out w5 v3 v5 (H3.out _ E35) (H5.out _ (Ext.refl _))
        go_wp2_with fail
        refine cC.mono ?_
        rintro ev w6 ⟨⟨c, rfl, hc1, hc2⟩, E6⟩
        have hcc : decide (0 ≤ c) = false := by
          have := hc1.mpr (by omega)
          simp; omega
        have cA := HM2.out (by omega) w6 v5 v3 (H5.out _ E6) (H3.out _ (E35.trans E6))
        clear hc1 hc2 hle cC
        go_wp2_with fail
        refine cA.mono ?_
        rintro ev WN ⟨⟨mv, rfl, hmv0⟩, EN⟩
        have hmv : IsBig WN mv M := by rw [hMM]; exact hmv0
        have hEN := Ew5.trans (E6.trans EN)
        clear hmv0 cA EN E6 Ew5 E35 hMM
        obtain ⟨mp, mc, rfl⟩ := big_form hmv
        have HMV : Hid (IsBig WN (.slice (some ⟨mp, 0, none⟩) (blen M) mc) M) := hmv
        clear hmv
        rcases Nat.eq_zero_or_pos M with g0 | g0
        · have HEZ : Hid (V = if n && o then 9223372036854775808 else 0) := HZ.out g0
          rw [g0, blen_zero]
          clear HMV HZ g0 HP0
          rcases hcs with ⟨rfl, rfl⟩ | ⟨rfl, rfl⟩
          all_goals
            go_wp2
            go_ret
            exact ⟨ret_int (by rw [HEZ.out]; rfl), hEN⟩
        · obtain ⟨eP, hL0, hT0⟩ := HP0 g0
          have HTR : Hid (∀ t, (1075 ≤ G → IsRound (M * 2 ^ (G - 1075)) 1 t) ∧ (G ≤ 1075 → IsRound M (1 * 2 ^ (1075 - G)) t) → t = r) := hT0
          have HL : Hid (r ≤ 9218868437227405312) := hL0
          have cS := HS.out _ _ g0 HMV.out
          have hbl : ((blen M : Int) == 0) = false := by have := blen_one_pos g0; simp; omega
          have HEP : Hid (V = if o then 9223372036854775808 + r else r) := by
            have h := eP
            rw [HSS.out g0] at h
            exact h
          clear HMV HZ eP g0 hL0 hT0 HP0 HSS HSG HMG
          generalize blen M = BM at *
          go_wp2_with fail
          refine cS.mono ?_
          rintro ev wS ⟨⟨t, rfl, ht⟩, ES⟩
          have htr := HTR.out t ht
          subst htr
          clear ht cS
          have ew : IntKind.u64.wrap ((t : Int) + 9223372036854775808) = ((9223372036854775808 + t : Nat) : Int) := by have := HL.out; rw [wrapU]; omega
          cases o
          · go_wp2
            go_ret
            exact ⟨ret_int (by rw [HEP.out]; rfl), hEN.trans ES⟩
          · go_wp2
            go_ret
            exact ⟨ret_int (by rw [HEP.out]; simp), hEN.trans ES⟩
  · have hLE : E = L := by rw [HTX.out.2.2, if_neg hGE]
    subst hLE
    have hlo : (E : Int) ≤ (G : Int) := by omega
    have HU1 : Hid (∀ W v, IsBig W v F → Calls Try.prog 29 #[v, .int .i64 (0)] W fun e w' => (∃ v, e = .returned v ∧ IsBig w' v XX) ∧ Ext W w') := by
      intro W v hv
      have h := up_big F (E - E) v W hv (by omega) (by omega)
      rw [← HTX.out.1] at h
      rw [show (0 : Int) = ((E - E : Nat) : Int) by omega]
      exact h
    have HU2 : Hid (∀ W v, IsBig W v H → Calls Try.prog 29 #[v, .int .i64 ((G : Int) - (E : Int))] W fun e w' => (∃ v, e = .returned v ∧ IsBig w' v YY) ∧ Ext W w') := by
      intro W v hv
      have h := up_big H (G - E) v W hv (by omega) (by omega)
      rw [← HTX.out.2.1] at h
      rw [show ((G : Int) - (E : Int) : Int) = ((G - E : Nat) : Int) by omega]
      exact h
    by_cases hno : n = o
    · subst hno
      have hMM : M = XX + YY := by rw [HMG.out, if_pos rfl]
      have HSS : Hid (0 < M → sg = n) := fun h => by rw [HSG.out h, if_pos rfl]
      go_enter Try.func45, Try.ntmps45
      go_wp2_with fail
      refine (cK _).mono ?_
      rintro ev w1 ⟨rfl, rfl⟩
      go_wp2_with fail
      refine (cL _).mono ?_
      rintro ev w1 ⟨rfl, rfl⟩
      go_wp2_with fail
      refine (cK _).mono ?_
      rintro ev w1 ⟨rfl, rfl⟩
      go_wp2_with fail
      refine (cK _).mono ?_
      rintro ev w1 ⟨rfl, rfl⟩
      go_wp2_with fail
      refine (cL _).mono ?_
      rintro ev w1 ⟨rfl, rfl⟩
      go_wp2_with fail
      refine (cP _).mono ?_
      rintro ev w1 ⟨rfl, rfl⟩
      go_wp2_with fail
      refine (cQ _).mono ?_
      rintro ev w1 ⟨rfl, rfl⟩
      go_wp2_with fail
      refine (cO _).mono ?_
      rintro ev w2 ⟨⟨v2, rfl, h2⟩, E2⟩
      have cU1 := HU1.out _ _ h2
      clear h2
      go_wp2_with fail
      refine cU1.mono ?_
      rintro ev w3 ⟨⟨v3, rfl, h3⟩, E3⟩
      have H3 : Hid (∀ W, Ext w3 W → IsBig W v3 XX) := fun W e => h3.ext e
      clear h3 cU1
      go_wp2_with fail
      refine (cR _).mono ?_
      rintro ev w4 ⟨⟨v4, rfl, h4⟩, E4⟩
      have cU2 := HU2.out _ _ h4
      clear h4
      go_wp2_with fail
      refine cU2.mono ?_
      rintro ev w5 ⟨⟨v5, rfl, h5⟩, E5⟩
      have H5 : Hid (∀ W, Ext w5 W → IsBig W v5 YY) := fun W e => h5.ext e
      have E35 := E4.trans E5
      have Ew5 := E2.trans (E3.trans E35)
      clear h5 cU2 E2 E3 E4 E5
      have cA := HPL.out w5 v3 v5 (H3.out _ E35) (H5.out _ (Ext.refl _))
      go_wp2_with fail
      refine cA.mono ?_
      rintro ev WN ⟨⟨mv, rfl, hmv0⟩, EN⟩
      have hmv : IsBig WN mv M := by rw [hMM]; exact hmv0
      have hEN := Ew5.trans EN
      clear hmv0 cA EN Ew5 E35 hMM
      obtain ⟨mp, mc, rfl⟩ := big_form hmv
      have HMV : Hid (IsBig WN (.slice (some ⟨mp, 0, none⟩) (blen M) mc) M) := hmv
      clear hmv
      rcases Nat.eq_zero_or_pos M with g0 | g0
      · have HEZ : Hid (V = if n && n then 9223372036854775808 else 0) := HZ.out g0
        rw [g0, blen_zero]
        clear HMV HZ g0 HP0
        cases n
        all_goals
          go_wp2
          go_ret
          exact ⟨ret_int (by rw [HEZ.out]; rfl), hEN⟩
      · obtain ⟨eP, hL0, hT0⟩ := HP0 g0
        have HTR : Hid (∀ t, (1075 ≤ E → IsRound (M * 2 ^ (E - 1075)) 1 t) ∧ (E ≤ 1075 → IsRound M (1 * 2 ^ (1075 - E)) t) → t = r) := hT0
        have HL : Hid (r ≤ 9218868437227405312) := hL0
        have cS := HS.out _ _ g0 HMV.out
        have hbl : ((blen M : Int) == 0) = false := by have := blen_one_pos g0; simp; omega
        have HEP : Hid (V = if n then 9223372036854775808 + r else r) := by
          have h := eP
          rw [HSS.out g0] at h
          exact h
        clear HMV HZ eP g0 hL0 hT0 HP0 HSS HSG HMG
        generalize blen M = BM at *
        go_wp2_with fail
        refine cS.mono ?_
        rintro ev wS ⟨⟨t, rfl, ht⟩, ES⟩
        have htr := HTR.out t ht
        subst htr
        clear ht cS
        have ew : IntKind.u64.wrap ((t : Int) + 9223372036854775808) = ((9223372036854775808 + t : Nat) : Int) := by have := HL.out; rw [wrapU]; omega
        cases n
        · go_wp2
          go_ret
          exact ⟨ret_int (by rw [HEP.out]; rfl), hEN.trans ES⟩
        · go_wp2
          go_ret
          exact ⟨ret_int (by rw [HEP.out]; simp), hEN.trans ES⟩
    · have hnoB : (n == o) = false := by simpa using hno
      have hcs : (n = true ∧ o = false) ∨ (n = false ∧ o = true) := by revert hno; cases n <;> cases o <;> simp
      by_cases hle : YY ≤ XX
      · have hMM : M = XX - YY := by rw [HMG.out, if_neg hno, if_pos hle]
        have HSS : Hid (0 < M → sg = n) := fun h => by rw [HSG.out h, if_neg hno, if_pos hle]
        go_enter Try.func45, Try.ntmps45
        go_wp2_with fail
        refine (cK _).mono ?_
        rintro ev w1 ⟨rfl, rfl⟩
        go_wp2_with fail
        refine (cL _).mono ?_
        rintro ev w1 ⟨rfl, rfl⟩
        go_wp2_with fail
        refine (cK _).mono ?_
        rintro ev w1 ⟨rfl, rfl⟩
        go_wp2_with fail
        refine (cK _).mono ?_
        rintro ev w1 ⟨rfl, rfl⟩
        go_wp2_with fail
        refine (cL _).mono ?_
        rintro ev w1 ⟨rfl, rfl⟩
        go_wp2_with fail
        refine (cP _).mono ?_
        rintro ev w1 ⟨rfl, rfl⟩
        go_wp2_with fail
        refine (cQ _).mono ?_
        rintro ev w1 ⟨rfl, rfl⟩
        go_wp2_with fail
        refine (cO _).mono ?_
        rintro ev w2 ⟨⟨v2, rfl, h2⟩, E2⟩
        have cU1 := HU1.out _ _ h2
        clear h2
        go_wp2_with fail
        refine cU1.mono ?_
        rintro ev w3 ⟨⟨v3, rfl, h3⟩, E3⟩
        have H3 : Hid (∀ W, Ext w3 W → IsBig W v3 XX) := fun W e => h3.ext e
        clear h3 cU1
        go_wp2_with fail
        refine (cR _).mono ?_
        rintro ev w4 ⟨⟨v4, rfl, h4⟩, E4⟩
        have cU2 := HU2.out _ _ h4
        clear h4
        go_wp2_with fail
        refine cU2.mono ?_
        rintro ev w5 ⟨⟨v5, rfl, h5⟩, E5⟩
        have H5 : Hid (∀ W, Ext w5 W → IsBig W v5 YY) := fun W e => h5.ext e
        have E35 := E4.trans E5
        have Ew5 := E2.trans (E3.trans E35)
        clear h5 cU2 E2 E3 E4 E5
        have cC := HCM.out w5 v3 v5 (H3.out _ E35) (H5.out _ (Ext.refl _))
        go_wp2_with fail
        refine cC.mono ?_
        rintro ev w6 ⟨⟨c, rfl, hc1, hc2⟩, E6⟩
        have hcc : decide (0 ≤ c) = true := by
          have : ¬ c < 0 := fun h => by have := hc1.mp h; omega
          simp; omega
        have cA := HM1.out hle w6 v3 v5 (H3.out _ (E35.trans E6)) (H5.out _ E6)
        clear hc1 hc2 hle cC
        go_wp2_with fail
        refine cA.mono ?_
        rintro ev WN ⟨⟨mv, rfl, hmv0⟩, EN⟩
        have hmv : IsBig WN mv M := by rw [hMM]; exact hmv0
        have hEN := Ew5.trans (E6.trans EN)
        clear hmv0 cA EN E6 Ew5 E35 hMM
        obtain ⟨mp, mc, rfl⟩ := big_form hmv
        have HMV : Hid (IsBig WN (.slice (some ⟨mp, 0, none⟩) (blen M) mc) M) := hmv
        clear hmv
        rcases Nat.eq_zero_or_pos M with g0 | g0
        · have HEZ : Hid (V = if n && o then 9223372036854775808 else 0) := HZ.out g0
          rw [g0, blen_zero]
          clear HMV HZ g0 HP0
          rcases hcs with ⟨rfl, rfl⟩ | ⟨rfl, rfl⟩
          all_goals
            go_wp2
            go_ret
            exact ⟨ret_int (by rw [HEZ.out]; rfl), hEN⟩
        · obtain ⟨eP, hL0, hT0⟩ := HP0 g0
          have HTR : Hid (∀ t, (1075 ≤ E → IsRound (M * 2 ^ (E - 1075)) 1 t) ∧ (E ≤ 1075 → IsRound M (1 * 2 ^ (1075 - E)) t) → t = r) := hT0
          have HL : Hid (r ≤ 9218868437227405312) := hL0
          have cS := HS.out _ _ g0 HMV.out
          have hbl : ((blen M : Int) == 0) = false := by have := blen_one_pos g0; simp; omega
          have HEP : Hid (V = if n then 9223372036854775808 + r else r) := by
            have h := eP
            rw [HSS.out g0] at h
            exact h
          clear HMV HZ eP g0 hL0 hT0 HP0 HSS HSG HMG
          generalize blen M = BM at *
          go_wp2_with fail
          refine cS.mono ?_
          rintro ev wS ⟨⟨t, rfl, ht⟩, ES⟩
          have htr := HTR.out t ht
          subst htr
          clear ht cS
          have ew : IntKind.u64.wrap ((t : Int) + 9223372036854775808) = ((9223372036854775808 + t : Nat) : Int) := by have := HL.out; rw [wrapU]; omega
          cases n
          · go_wp2
            go_ret
            exact ⟨ret_int (by rw [HEP.out]; rfl), hEN.trans ES⟩
          · go_wp2
            go_ret
            exact ⟨ret_int (by rw [HEP.out]; simp), hEN.trans ES⟩
      · have hMM : M = YY - XX := by rw [HMG.out, if_neg hno, if_neg hle]
        have HSS : Hid (0 < M → sg = o) := fun h => by rw [HSG.out h, if_neg hno, if_neg hle]
        go_enter Try.func45, Try.ntmps45
        go_wp2_with fail
        refine (cK _).mono ?_
        rintro ev w1 ⟨rfl, rfl⟩
        go_wp2_with fail
        refine (cL _).mono ?_
        rintro ev w1 ⟨rfl, rfl⟩
        go_wp2_with fail
        refine (cK _).mono ?_
        rintro ev w1 ⟨rfl, rfl⟩
        go_wp2_with fail
        refine (cK _).mono ?_
        rintro ev w1 ⟨rfl, rfl⟩
        go_wp2_with fail
        refine (cL _).mono ?_
        rintro ev w1 ⟨rfl, rfl⟩
        go_wp2_with fail
        refine (cP _).mono ?_
        rintro ev w1 ⟨rfl, rfl⟩
        go_wp2_with fail
        refine (cQ _).mono ?_
        rintro ev w1 ⟨rfl, rfl⟩
        go_wp2_with fail
        refine (cO _).mono ?_
        rintro ev w2 ⟨⟨v2, rfl, h2⟩, E2⟩
        have cU1 := HU1.out _ _ h2
        clear h2
        go_wp2_with fail
        refine cU1.mono ?_
        rintro ev w3 ⟨⟨v3, rfl, h3⟩, E3⟩
        have H3 : Hid (∀ W, Ext w3 W → IsBig W v3 XX) := fun W e => h3.ext e
        clear h3 cU1
        go_wp2_with fail
        refine (cR _).mono ?_
        rintro ev w4 ⟨⟨v4, rfl, h4⟩, E4⟩
        have cU2 := HU2.out _ _ h4
        clear h4
        go_wp2_with fail
        refine cU2.mono ?_
        rintro ev w5 ⟨⟨v5, rfl, h5⟩, E5⟩
        have H5 : Hid (∀ W, Ext w5 W → IsBig W v5 YY) := fun W e => h5.ext e
        have E35 := E4.trans E5
        have Ew5 := E2.trans (E3.trans E35)
        clear h5 cU2 E2 E3 E4 E5
        have cC := HCM.out w5 v3 v5 (H3.out _ E35) (H5.out _ (Ext.refl _))
        go_wp2_with fail
        refine cC.mono ?_
        rintro ev w6 ⟨⟨c, rfl, hc1, hc2⟩, E6⟩
        have hcc : decide (0 ≤ c) = false := by
          have := hc1.mpr (by omega)
          simp; omega
        have cA := HM2.out (by omega) w6 v5 v3 (H5.out _ E6) (H3.out _ (E35.trans E6))
        clear hc1 hc2 hle cC
        go_wp2_with fail
        refine cA.mono ?_
        rintro ev WN ⟨⟨mv, rfl, hmv0⟩, EN⟩
        have hmv : IsBig WN mv M := by rw [hMM]; exact hmv0
        have hEN := Ew5.trans (E6.trans EN)
        clear hmv0 cA EN E6 Ew5 E35 hMM
        obtain ⟨mp, mc, rfl⟩ := big_form hmv
        have HMV : Hid (IsBig WN (.slice (some ⟨mp, 0, none⟩) (blen M) mc) M) := hmv
        clear hmv
        rcases Nat.eq_zero_or_pos M with g0 | g0
        · have HEZ : Hid (V = if n && o then 9223372036854775808 else 0) := HZ.out g0
          rw [g0, blen_zero]
          clear HMV HZ g0 HP0
          rcases hcs with ⟨rfl, rfl⟩ | ⟨rfl, rfl⟩
          all_goals
            go_wp2
            go_ret
            exact ⟨ret_int (by rw [HEZ.out]; rfl), hEN⟩
        · obtain ⟨eP, hL0, hT0⟩ := HP0 g0
          have HTR : Hid (∀ t, (1075 ≤ E → IsRound (M * 2 ^ (E - 1075)) 1 t) ∧ (E ≤ 1075 → IsRound M (1 * 2 ^ (1075 - E)) t) → t = r) := hT0
          have HL : Hid (r ≤ 9218868437227405312) := hL0
          have cS := HS.out _ _ g0 HMV.out
          have hbl : ((blen M : Int) == 0) = false := by have := blen_one_pos g0; simp; omega
          have HEP : Hid (V = if o then 9223372036854775808 + r else r) := by
            have h := eP
            rw [HSS.out g0] at h
            exact h
          clear HMV HZ eP g0 hL0 hT0 HP0 HSS HSG HMG
          generalize blen M = BM at *
          go_wp2_with fail
          refine cS.mono ?_
          rintro ev wS ⟨⟨t, rfl, ht⟩, ES⟩
          have htr := HTR.out t ht
          subst htr
          clear ht cS
          have ew : IntKind.u64.wrap ((t : Int) + 9223372036854775808) = ((9223372036854775808 + t : Nat) : Int) := by have := HL.out; rw [wrapU]; omega
          cases o
          · go_wp2
            go_ret
            exact ⟨ret_int (by rw [HEP.out]; rfl), hEN.trans ES⟩
          · go_wp2
            go_ret
            exact ⟨ret_int (by rw [HEP.out]; simp), hEN.trans ES⟩
end Go.Proofs.Ytbonaldlljdaoaa
