/-
  Contracts of the document's sums and quotients of floats.
-/
import Derived.Test.YtbonaldlljdaoaaMeanB
namespace Go.Proofs.Ytbonaldlljdaoaa
open Go.RowKit
set_option maxHeartbeats 2000000

set_option maxRecDepth 100000 in
theorem scaled_big (x e d : Nat) (v : Value) (w : World) (hv : IsBig w v x) (hx : 0 < x) (bx : blen x ≤ 3000) (he : 1 ≤ e) (he' : e ≤ 2047) (hb : 0 < d) (hb' : d ≤ 60) :
    Calls Try.prog 56 #[v, .int .i64 (e : Nat), .int .u64 (d : Nat)] w fun ev w' => (∃ r : Nat, ev = .returned (.int .u64 (r : Int)) ∧ (1075 ≤ e → IsRound (x * 2 ^ (e - 1075)) d r) ∧ (e ≤ 1075 → IsRound x (d * 2 ^ (1075 - e)) r)) ∧ Ext w w' := by
  have cO := fun W => of_any d (by omega) W
  have heI : (e : Int) ≤ 2047 := by omega
  have hbb : blen d ≤ 6 := blen_le (by omega)
  have HV : Hid (∀ W, Ext w W → IsBig W v x) := fun W E => hv.ext E
  rcases Nat.lt_or_ge e 1075 with g | g
  · have gT : decide ((1075 : Int) ≤ (e : Int)) = false := by simp; omega
    have eE : ((1075 - e : Nat) : Int) = 1075 - (e : Int) := by omega
    obtain ⟨D, hD⟩ : ∃ D, D = d * 2 ^ (1075 - e) := ⟨_, rfl⟩
    have HU : Hid (∀ W u, IsBig W u d → Calls Try.prog 29 #[u, .int .i64 (1075 - (e : Int))] W fun ev w' => (∃ v, ev = .returned v ∧ IsBig w' v D) ∧ Ext W w') := by
      intro W u hu
      have := up_big d (1075 - e) u W hu (by omega) (by omega)
      rw [eE, ← hD] at this
      exact this
    have hbD : blen D ≤ 1100 := by
      rw [hD, blen_shift _ hb]; omega
    have HR : Hid (∀ W a b, IsBig W a x → IsBig W b D → Calls Try.prog 36 #[a, b] W fun ev w' => (∃ r : Nat, ev = .returned (.int .u64 (r : Int)) ∧ IsRound x D r) ∧ Ext W w') := by
      intro W a b ha hb2
      exact round_big x D a b W ha hb2 hx (by rw [hD]; exact Nat.mul_pos hb (Nat.pow_pos (by decide))) (by omega) (by omega)
    have HF : Hid (∀ r, IsRound x D r → (1075 ≤ e → IsRound (x * 2 ^ (e - 1075)) d r) ∧ (e ≤ 1075 → IsRound x (d * 2 ^ (1075 - e)) r)) := by
      intro r hr
      exact ⟨fun h => by omega, fun _ => by rw [← hD]; exact hr⟩
    clear hv hD eE hbD g he hb hx
    go_enter Try.func56, Try.ntmps56
    go_wp2_with fail
    refine (cO _).mono ?_
    rintro ev w1 ⟨⟨u1, rfl, h1⟩, E1⟩
    have cU := HU.out _ _ h1
    clear h1
    go_wp2_with fail
    refine cU.mono ?_
    rintro ev w2 ⟨⟨u2, rfl, h2⟩, E2⟩
    have cR := HR.out _ v u2 (HV.out _ (E1.trans E2)) h2
    clear h2 cU
    go_wp2_with fail
    refine cR.mono ?_
    rintro ev w3 ⟨⟨r, rfl, hr⟩, E3⟩
    have HRR : Hid _ := HF.out r hr
    clear hr cR
    go_wp2
    go_ret
    exact ⟨⟨r, rfl, HRR.out⟩, E1.trans (E2.trans E3)⟩
  · have gT : decide ((1075 : Int) ≤ (e : Int)) = true := by simp; omega
    have eE : ((e - 1075 : Nat) : Int) = (e : Int) - 1075 := by omega
    obtain ⟨A, hA⟩ : ∃ A, A = x * 2 ^ (e - 1075) := ⟨_, rfl⟩
    have HU : Hid (∀ W u, IsBig W u x → Calls Try.prog 29 #[u, .int .i64 ((e : Int) - 1075)] W fun ev w' => (∃ v, ev = .returned v ∧ IsBig w' v A) ∧ Ext W w') := by
      intro W u hu
      have := up_big x (e - 1075) u W hu (by omega) (by omega)
      rw [eE, ← hA] at this
      exact this
    have hbA : blen A ≤ 4000 := by
      rw [hA, blen_shift _ hx]; omega
    have HR : Hid (∀ W a b, IsBig W a A → IsBig W b d → Calls Try.prog 36 #[a, b] W fun ev w' => (∃ r : Nat, ev = .returned (.int .u64 (r : Int)) ∧ IsRound A d r) ∧ Ext W w') := by
      intro W a b ha hb2
      exact round_big A d a b W ha hb2 (by rw [hA]; exact Nat.mul_pos hx (Nat.pow_pos (by decide))) hb (by omega) (by omega)
    have HF : Hid (∀ r, IsRound A d r → (1075 ≤ e → IsRound (x * 2 ^ (e - 1075)) d r) ∧ (e ≤ 1075 → IsRound x (d * 2 ^ (1075 - e)) r)) := by
      intro r hr
      refine ⟨fun _ => by rw [← hA]; exact hr, fun h => ?_⟩
      have : e = 1075 := by omega
      subst this
      rw [hA] at hr
      simpa using hr
    clear hv hA eE hbA g he hb hx
    go_enter Try.func56, Try.ntmps56
    have cU := HU.out _ _ (HV.out w (Ext.refl _))
    go_wp2_with fail
    refine cU.mono ?_
    rintro ev w1 ⟨⟨u1, rfl, h1⟩, E1⟩
    have H1 : Hid (∀ W, Ext w1 W → IsBig W u1 A) := fun W E => h1.ext E
    clear h1 cU
    go_wp2_with fail
    refine (cO _).mono ?_
    rintro ev w2 ⟨⟨u2, rfl, h2⟩, E2⟩
    have cR := HR.out _ u1 u2 (H1.out _ E2) h2
    clear h2
    go_wp2_with fail
    refine cR.mono ?_
    rintro ev w3 ⟨⟨r, rfl, hr⟩, E3⟩
    have HRR : Hid _ := HF.out r hr
    clear hr cR
    go_wp2
    go_ret
    exact ⟨⟨r, rfl, HRR.out⟩, E1.trans (E2.trans E3)⟩

theorem round_le {A D r : Nat} (h : IsRound A D r) : r ≤ 9218868437227405312 := by
  obtain ⟨a, d, e, _, _, _, rfl⟩ := h
  exact Nat.min_le_left _ _
theorem word_val (neg : Bool) (r : Nat) : Ieee.double.word neg r = if neg then 9223372036854775808 + r else r := by unfold Ieee.Format.word; rw [sw]
/-- By: the quotient's word, or the NaN. -/
def byW (x N : Nat) : Nat := (Ieee.double.div x (floatOfInt .f64 (N : Int))).getD 9221120237041090560
theorem div_zero (x N : Nat) (hx : x < 18446744073709551616) (kx : expo x ≠ 2047) (hf : partF x = 0) (h0 : 0 < N) (hN : N ≤ 60) : Ieee.double.div x (floatOfInt .f64 (N : Int)) = some x := by
  obtain ⟨J, hJ⟩ := count_read N h0 hN
  have hn : 0 < N * 2 ^ J := Nat.mul_pos h0 (Nat.pow_pos (by decide))
  unfold Ieee.Format.div
  rw [hJ, read_num x hx kx, hf]
  unfold Ieee.Datum.quotient
  simp only
  rw [if_neg (by omega)]
  simp only [Nat.shiftLeft_eq, Nat.zero_mul, Nat.zero_div, Nat.zero_mod, Nat.mul_zero, bne_self_eq_false, Bool.toNat_false, Nat.add_zero, Bool.xor_false]
  show some (Ieee.double.nearest (negB x) 0 _) = some x
  unfold Ieee.Format.nearest
  rw [if_pos rfl]
  have hw := word_neg x hx
  have : x % 9223372036854775808 = 0 := by rcases partF_zero x hx hf with h | h <;> omega
  rw [this] at hw
  rw [hw]
theorem div_inf (x N : Nat) (hx : x < 18446744073709551616) (k1 : expo x = 2047) (k2 : x % 4503599627370496 = 0) (h0 : 0 < N) (hN : N ≤ 60) : Ieee.double.div x (floatOfInt .f64 (N : Int)) = some x := by
  obtain ⟨J, hJ⟩ := count_read N h0 hN
  unfold Ieee.Format.div
  rw [read_inf x hx k1 k2, hJ]
  show some (Ieee.double.write (.infinity (negB x ^^ false))) = some x
  rw [Bool.xor_false, inf_word x hx k1 k2]
theorem by_any (x N : Nat) (hx : x < 18446744073709551616) (h0 : 0 < N) (hN : N ≤ 60) (w : World) : Calls Try.prog 46 #[.int .u64 (x : Nat), .int .i64 (N : Nat)] w fun e w' => e = .returned (.int .u64 (byW x N : Nat)) ∧ Ext w w' := by
  have cK := fun W => kind_any x hx W
  have hNI : (N : Int) ≤ 60 := by omega
  by_cases k1 : expo x = 2047
  · have cP := fun W => parts_no x hx k1 W
    by_cases k2 : x % 4503599627370496 = 0
    · have ek : kindI x = 1 := by unfold kindI; rw [if_pos k1, if_pos k2]
      have eR : byW x N = x := by unfold byW; rw [div_inf x N hx k1 k2 h0 hN]; rfl
      rw [eR]
      rw [ek] at cK
      clear ek eR k1 k2 h0 hx
      go_enter Try.func46, Try.ntmps46
      go_wp2_with fail
      refine (cK _).mono ?_
      rintro e w1 ⟨rfl, rfl⟩
      go_wp2_with fail
      refine (cP _).mono ?_
      rintro e w2 ⟨rfl, rfl⟩
      go_wp2
      go_ret
      exact ⟨rfl, Ext.refl _⟩
    · have ek : kindI x = 2 := by unfold kindI; rw [if_pos k1, if_neg k2]
      have eR : byW x N = 9221120237041090560 := by unfold byW; rw [nan_div _ (read_nan x k1 k2)]; rfl
      rw [eR]
      rw [ek] at cK
      clear ek eR k1 k2 h0 hx cP
      go_enter Try.func46, Try.ntmps46
      go_wp2_with fail
      refine (cK _).mono ?_
      rintro e w1 ⟨rfl, rfl⟩
      go_wp2_with fail
      refine (nan_any _).mono ?_
      rintro e w2 ⟨rfl, rfl⟩
      go_wp2
      go_ret
      exact ⟨rfl, Ext.refl _⟩
  · have cP := fun W => parts_yes x hx k1 W
    have ek : kindI x = 0 := by unfold kindI; rw [if_neg k1]
    rw [ek] at cK
    have hF := partF_lt x
    have hE := partE_bd x
    rcases Nat.eq_zero_or_pos (partF x) with g | g
    · have eR : byW x N = x := by unfold byW; rw [div_zero x N hx k1 g h0 hN]; rfl
      rw [eR]
      rw [g] at cP
      have g0 : (((0 : Nat) : Int) == 0) = true := rfl
      clear ek eR k1 h0 hx g hF
      generalize negB x = nb at *
      generalize partE x = E at *
      go_enter Try.func46, Try.ntmps46
      go_wp2_with fail
      refine (cK _).mono ?_
      rintro e w1 ⟨rfl, rfl⟩
      go_wp2_with fail
      refine (cP _).mono ?_
      rintro e w2 ⟨rfl, rfl⟩
      go_wp2
      go_ret
      exact ⟨rfl, Ext.refl _⟩
    · obtain ⟨r, r1, r2, r3, r4⟩ := by_round x N hx k1 g h0 hN
      have HR : Hid (∀ t, (1075 ≤ partE x → IsRound (partF x * 2 ^ (partE x - 1075)) N t) ∧ (partE x ≤ 1075 → IsRound (partF x) (N * 2 ^ (1075 - partE x)) t) → t = r) := by
        intro t ht
        rcases Nat.le_total 1075 (partE x) with q | q
        · exact round_one (ht.1 q) (r3 q) h0 h0 rfl
        · have hD : 0 < N * 2 ^ (1075 - partE x) := Nat.mul_pos h0 (Nat.pow_pos (by decide))
          exact round_one (ht.2 q) (r4 q) hD hD rfl
      have eR : byW x N = if negB x then 9223372036854775808 + r else r := by unfold byW; rw [r1, ← word_val]; rfl
      rw [eR]
      have cO := fun W => of_any (partF x) (by omega) W
      have HS : Hid (∀ W v, IsBig W v (partF x) → Calls Try.prog 56 #[v, .int .i64 (partE x : Nat), .int .u64 (N : Nat)] W fun ev w' => (∃ t : Nat, ev = .returned (.int .u64 (t : Int)) ∧ (1075 ≤ partE x → IsRound (partF x * 2 ^ (partE x - 1075)) N t) ∧ (partE x ≤ 1075 → IsRound (partF x) (N * 2 ^ (1075 - partE x)) t)) ∧ Ext W w') := by
        intro W v hv
        exact scaled_big (partF x) (partE x) N v W hv g (Nat.le_trans (blen_le (k := 53) (by omega)) (by decide)) hE.1 hE.2 h0 hN
      have g0 : ((partF x : Int) == 0) = false := by simp; omega
      have HL : Hid (r ≤ 9218868437227405312) := r2
      clear ek eR k1 h0 hx g hF r1 r2 r3 r4
      generalize negB x = nb at *
      generalize partE x = E at *
      generalize partF x = F at *
      go_enter Try.func46, Try.ntmps46
      go_wp2_with fail
      refine (cK _).mono ?_
      rintro e w1 ⟨rfl, rfl⟩
      go_wp2_with fail
      refine (cP _).mono ?_
      rintro e w2 ⟨rfl, rfl⟩
      go_wp2_with fail
      refine (cO _).mono ?_
      rintro e w3 ⟨⟨v3, rfl, h3⟩, E3⟩
      have cS := HS.out _ _ h3
      clear h3
      go_wp2_with fail
      refine cS.mono ?_
      rintro e w4 ⟨⟨t, rfl, ht⟩, E4⟩
      have htr := HR.out t ht
      subst htr
      clear ht cS
      have ew : IntKind.u64.wrap ((t : Int) + 9223372036854775808) = ((9223372036854775808 + t : Nat) : Int) := by have := HL.out; rw [wrapU]; omega
      cases nb
      · go_wp2
        go_ret
        exact ⟨rfl, E3.trans E4⟩
      · go_wp2
        go_ret
        exact ⟨ret_int (by simp), E3.trans E4⟩
end Go.Proofs.Ytbonaldlljdaoaa
