/-
  Contracts of the document's way from a float's bits to a number.
-/
import Derived.Test.YtbonaldlljdaoaaBigE
import Derived.Test.YtbonaldlljdaoaaRealF
import Derived.Test.YtbonaldlljdaoaaRSigned
namespace Go.Proofs.Ytbonaldlljdaoaa
open Go.RowKit
set_option maxHeartbeats 2000000

def partE (b : Nat) : Nat := if expo b = 0 then 1 else expo b
def partF (b : Nat) : Nat := if expo b = 0 then b % 4503599627370496 else full b
theorem parts_no (b : Nat) (hb : b < 18446744073709551616) (h : expo b = 2047) (w : World) :
    Calls Try.prog 26 #[.int .u64 b] w fun e w' => e = .returned (.tuple #[.bool false, .int .i64 0, .int .u64 0, .bool false]) ∧ w' = w := by
  have e1 : (b : Int) / 4503599627370496 % 2048 = 2047 := by unfold expo at h; omega
  clear h
  go_enter Try.func26, Try.ntmps26
  go_wp2
  simp [bodyPost, results, Try.results26, go_sem]
theorem parts_yes (b : Nat) (hb : b < 18446744073709551616) (h : expo b ≠ 2047) (w : World) :
    Calls Try.prog 26 #[.int .u64 b] w fun e w' => e = .returned (.tuple #[.bool (negB b), .int .i64 (partE b : Nat), .int .u64 (partF b : Nat), .bool true]) ∧ w' = w := by
  have e1 : (b : Int) / 4503599627370496 % 2048 = (expo b : Int) := by unfold expo; omega
  have e3 : ((b : Int) / 9223372036854775808 == 1) = negB b := by unfold negB; rw [Bool.eq_iff_iff]; simp; omega
  have e4 : (b : Int) % 4503599627370496 + 4503599627370496 = ((full b : Nat) : Int) := by unfold full; omega
  have e5 : (b : Int) % 4503599627370496 = ((b % 4503599627370496 : Nat) : Int) := by omega
  have hf := full_bd b
  have h2 : ((expo b : Int) == 2047) = false := by simp; omega
  by_cases h0 : expo b = 0
  · have hE : partE b = 1 := by unfold partE; rw [if_pos h0]
    have hF : partF b = b % 4503599627370496 := by unfold partF; rw [if_pos h0]
    rw [hE, hF, ← e5]
    rw [h0] at e1
    clear h2 e4 hE hF h0 h e5
    generalize negB b = nb at *
    generalize full b = f at *
    go_enter Try.func26, Try.ntmps26
    go_wp2
    simp [bodyPost, results, Try.results26, go_sem]
  · have hE : partE b = expo b := by unfold partE; rw [if_neg h0]
    have hF : partF b = full b := by unfold partF; rw [if_neg h0]
    have h3 : ((expo b : Int) == 0) = false := by simp; omega
    rw [hE, hF]
    clear hE hF h0 h e5
    generalize negB b = nb at *
    generalize full b = f at *
    generalize expo b = E at *
    go_enter Try.func26, Try.ntmps26
    go_wp2
    simp [bodyPost, results, Try.results26, go_sem]
    exact e1
theorem partE_bd (b : Nat) : 1 ≤ partE b ∧ partE b ≤ 2047 := by
  unfold partE
  have := expo_lt b
  split <;> omega
theorem partF_lt (b : Nat) : partF b < 9007199254740992 := by
  unfold partF
  have := full_bd b
  split <;> omega
/-- The size of a float in ten thousandths, rounded, as the document reckons it. -/
def refN (b : Nat) : Nat := if 1075 ≤ partE b then partF b * 10000 * 2 ^ (partE b - 1075) else evenQ (partF b * 10000) (2 ^ (1075 - partE b))
theorem big_pow {n k : Nat} (h : n < 1267650600228229401496703205376) (hk : 100 ≤ k) : n < 2 ^ k :=
  Nat.lt_of_lt_of_le h (Nat.pow_le_pow_right (n := 2) (i := 100) (by decide) hk)
theorem refN_from (b : Nat) : fromB b = decide (refN b ≤ 9223372036854775807) ∧ (fromB b = true → fromN b = refN b) := by
  have hf := full_bd b
  by_cases h0 : expo b = 0
  · have e1 : refN b = 0 := by
      have hE : partE b = 1 := by unfold partE; rw [if_pos h0]
      have hF := partF_lt b
      unfold refN
      rw [if_neg (by omega)]
      exact evenQ_small (big_pow (k := 1075 - partE b) (by omega) (by omega))
    have e2 : fromN b = 0 := by
      rw [fromN_one b (by omega)]
      exact evenQ_small (big_pow (k := 1072 - expo b) (by omega) (by omega))
    refine ⟨?_, fun _ => by rw [e1, e2]⟩
    unfold fromB; rw [e1, e2, h0]; rfl
  · have hE : partE b = expo b := by unfold partE; rw [if_neg h0]
    have hF : partF b = full b := by unfold partF; rw [if_neg h0]
    by_cases h1 : expo b ≤ 1072
    · have e1 : refN b = fromN b := by
        unfold refN
        rw [hE, hF, if_neg (by omega), fromN_one b h1, show 1075 - expo b = 1072 - expo b + 3 by omega, Nat.pow_add, ← evenQ_scale (full b * 1250) _ (2 ^ 3) (by decide), Nat.mul_assoc]
      refine ⟨?_, fun _ => e1.symm⟩
      unfold fromB; rw [e1]; simp [h1]
    · have e1 : 9223372036854775807 < refN b := by
        unfold refN
        rw [hE, hF]
        split
        · have : 1 ≤ 2 ^ (expo b - 1075) := Nat.pow_pos (by decide)
          have := Nat.mul_le_mul (show 45035996273704960000 ≤ full b * 10000 by omega) this
          omega
        · have : expo b = 1073 ∨ expo b = 1074 := by omega
          have g : 9500000000000000000 ≤ evenQ (full b * 10000) (2 ^ (1075 - expo b)) := by
            refine evenQ_ge (Nat.pow_pos (by decide)) ?_
            rcases this with g | g <;> rw [g] <;> omega
          omega
      have e2 : fromB b = false := by unfold fromB; simp; omega
      rw [e2]
      refine ⟨by simp; omega, fun h => by cases h⟩
set_option maxRecDepth 100000 in
theorem rfrom_any (b : Nat) (hb : b < 18446744073709551616) (w : World) :
    Calls Try.prog 10 #[.int .u64 b] w fun e w' => e = .returned (.tuple #[.int .i64 (fromV b), .bool (fromB b)]) ∧ Ext w w' := by
  by_cases h : expo b = 2047
  · have c1 := fun W => parts_no b hb h W
    have e1 : fromB b = false := by unfold fromB; simp; omega
    have e2 : fromV b = 0 := by unfold fromV; rw [e1]; rfl
    rw [e1, e2]
    clear e1 e2
    go_enter Try.func10, Try.ntmps10
    go_wp2_with fail
    refine (c1 _).mono ?_
    rintro e w1 ⟨rfl, rfl⟩
    go_wp2
    go_ret2
    exact ⟨rfl, Ext.refl _⟩
  · have c1 := fun W => parts_yes b hb h W
    obtain ⟨hB, hN⟩ := refN_from b
    have HV : Hid (fromV b = sgnV (negB b) (refN b) ∧ fromB b = sgnB (refN b)) := by
      refine ⟨?_, hB⟩
      unfold fromV sgnV
      rw [show sgnB (refN b) = fromB b from hB.symm]
      cases hf : fromB b
      · rfl
      · rw [hN hf]
    have hE := partE_bd b
    have hF := partF_lt b
    have HR : Hid (refN b = if 1075 ≤ partE b then partF b * 10000 * 2 ^ (partE b - 1075) else evenQ (partF b * 10000) (2 ^ (1075 - partE b))) := rfl
    clear hB hN h
    generalize negB b = nb at *
    generalize refN b = N at *
    generalize fromV b = fv at *
    generalize fromB b = fb at *
    generalize partF b = F at *
    generalize partE b = E at *
    have hb67 : blen (F * 10000) ≤ 67 := blen_le (by omega)
    have cF := fun W => of_any F (by omega) W
    have cT := fun W => of_any 10000 (by omega) W
    have c1' := fun W => of_any 1 (by omega) W
    rw [show ((10000 : Nat) : Int) = 10000 from rfl] at cT
    rw [show ((1 : Nat) : Int) = 1 from rfl] at c1'
    have hEI : (E : Int) ≤ 2047 := by omega
    have HL : Hid (blen F ≤ 64 ∧ blen 10000 ≤ 64 ∧ blen 1 ≤ 64) := ⟨blen_le (by omega), blen_le (by decide), blen_le (by decide)⟩
    have fin : ∀ (v : Value) (W : World), IsBig W v N → ∃ p pc, v = .slice (some ⟨p, 0, none⟩) (blen N) pc := by
      rintro v W ⟨p, pc, h, _⟩; exact ⟨p, pc, h⟩
    have HFin : Hid (∀ (v : Value) (W : World), IsBig W v N → ∃ p pc, v = .slice (some ⟨p, 0, none⟩) (blen N) pc) := fin
    clear fin
    by_cases g : 1075 ≤ E
    · have HN : Hid (N = F * 10000 * 2 ^ (E - 1075)) := by show N = _; rw [HR.out, if_pos g]
      have gI : (1075 : Int) ≤ (E : Int) := by omega
      have eE : ((E - 1075 : Nat) : Int) = (E : Int) - 1075 := by omega
      have HU : Hid (∀ W v, IsBig W v (F * 10000) → Calls Try.prog 29 #[v, .int .i64 ((E : Int) - 1075)] W fun e w' => (∃ v, e = .returned v ∧ IsBig w' v N) ∧ Ext W w') := by
        intro W v hv
        have := up_big (F * 10000) (E - 1075) v W hv (by omega) (by omega)
        rw [eE, ← HN.out] at this
        exact this
      clear g HR eE HN
      go_enter Try.func10, Try.ntmps10
      go_wp2_with fail
      refine (c1 _).mono ?_
      rintro e w1 ⟨rfl, rfl⟩
      go_wp2_with fail
      refine (cF _).mono ?_
      rintro e w2 ⟨⟨fv1, rfl, hf1⟩, E2⟩
      go_wp2_with fail
      refine (cT _).mono ?_
      rintro e w3 ⟨⟨tv, rfl, ht1⟩, E3⟩
      have cM := times_big F 10000 fv1 tv w3 (hf1.ext E3) ht1 (by have := HL.out; omega) (by have := HL.out; omega)
      clear hf1 ht1
      go_wp2_with fail
      refine cM.mono ?_
      rintro e w4 ⟨⟨nv, rfl, hn⟩, E4⟩
      have cU := HU.out w4 nv hn
      clear cM hn HU
      go_wp2_with fail
      refine cU.mono ?_
      rintro e w5 ⟨⟨rv, rfl, hr⟩, E5⟩
      obtain ⟨p, pc, rfl⟩ := HFin.out rv w5 hr
      have hE9 := E2.trans (E3.trans (E4.trans E5))
      clear cU E2 E3 E4 E5
      have hlN := lt_blen N
      have cS := fun (h : N < 18446744073709551616) => small_any N _ w5 hr h
      have hblI : Hid (blen N ≤ 63 ∨ (63 : Int) < (blen N : Int)) := by show _ ∨ _; omega
      have hle63 : blen N ≤ 63 → N < 9223372036854775808 := fun h => Nat.lt_of_lt_of_le hlN (Nat.pow_le_pow_right (n := 2) (j := 63) (by decide) h)
      have hgt63 : 63 < blen N → ¬ N ≤ 9223372036854775807 := fun h k => by
        have := blen_le (n := N) (k := 63) (by omega)
        omega
      clear hlN hr
      generalize blen N = L at *
      rcases hblI.out with hb | hb
      · have hN63 := hle63 hb
        have cS1 := cS (by omega)
        have cG := fun W => rsigned_w nb N (by omega) W
        have hu : uhi (N : Int) = 0 := by unfold uhi; omega
        have hlo : loOf (N : Int) = N := by unfold loOf; omega
        rw [hu, hlo, ← HV.out.1, ← HV.out.2] at cG
        have hbI : (L : Int) ≤ 63 := by omega
        clear hu hlo hN63 hle63 hgt63 cS hblI hb
        go_wp2_with fail
        refine cS1.mono ?_
        rintro e w6 ⟨rfl, rfl⟩
        go_wp2_with fail
        refine (cG _).mono ?_
        rintro e w7 ⟨rfl, E7⟩
        go_wp2
        go_ret2
        exact ⟨rfl, hE9.trans E7⟩
      · have HZ : Hid (fv = 0 ∧ fb = false) := by
          have hno := hgt63 (by omega)
          have h1 := sgnB_no (n := N) (by omega)
          have h2 := sgnV_no nb (n := N) (by omega)
          exact ⟨by rw [HV.out.1, h2], by rw [HV.out.2, h1]⟩
        clear hle63 hgt63 cS hblI
        go_wp2
        go_ret2
        exact ⟨ret_ib HZ.out.1.symm HZ.out.2.symm, hE9⟩
    · have HN : Hid (N = evenQ (F * 10000) (2 ^ (1075 - E))) := by show N = _; rw [HR.out, if_neg g]
      have gI : (E : Int) < (1075 : Int) := by omega
      have eE : ((1075 - E : Nat) : Int) = 1075 - (E : Int) := by omega
      have hbp : blen (2 ^ (1075 - E)) ≤ 1076 := Nat.le_trans (blen_le (Nat.pow_lt_pow_right (by decide) (Nat.lt_succ_self _))) (by omega)
      have HU : Hid (∀ W v, IsBig W v 1 → Calls Try.prog 29 #[v, .int .i64 (1075 - (E : Int))] W fun e w' => (∃ v, e = .returned v ∧ IsBig w' v (2 ^ (1075 - E))) ∧ Ext W w') := by
        intro W v hv
        have := up_big 1 (1075 - E) v W hv (by have := HL.out; omega) (by omega)
        rw [eE, Nat.one_mul] at this
        exact this
      have HE : Hid (∀ W v u, IsBig W v (F * 10000) → IsBig W u (2 ^ (1075 - E)) → Calls Try.prog 30 #[v, u] W fun e w' => (∃ v, e = .returned v ∧ IsBig w' v N) ∧ Ext W w') := by
        intro W v u hv hu
        have := even_big (F * 10000) (2 ^ (1075 - E)) v u W hv hu (by omega) (by omega) (Nat.pow_pos (by decide))
        rw [← HN.out] at this
        exact this
      clear g HR eE HN hbp
      go_enter Try.func10, Try.ntmps10
      go_wp2_with fail
      refine (c1 _).mono ?_
      rintro e w1 ⟨rfl, rfl⟩
      go_wp2_with fail
      refine (cF _).mono ?_
      rintro e w2 ⟨⟨fv1, rfl, hf1⟩, E2⟩
      go_wp2_with fail
      refine (cT _).mono ?_
      rintro e w3 ⟨⟨tv, rfl, ht1⟩, E3⟩
      have cM := times_big F 10000 fv1 tv w3 (hf1.ext E3) ht1 (by have := HL.out; omega) (by have := HL.out; omega)
      clear hf1 ht1
      go_wp2_with fail
      refine cM.mono ?_
      rintro e w4 ⟨⟨nv, rfl, hn⟩, E4⟩
      have HNN : Hid (∀ W, Ext w4 W → IsBig W nv (F * 10000)) := fun W e => hn.ext e
      clear cM hn
      go_wp2_with fail
      refine (c1' _).mono ?_
      rintro e w41 ⟨⟨ov, rfl, ho⟩, E41⟩
      have cU := HU.out w41 ov ho
      clear ho HU
      go_wp2_with fail
      refine cU.mono ?_
      rintro e w42 ⟨⟨dv, rfl, hdv⟩, E42⟩
      have cE := HE.out w42 nv dv (HNN.out _ (E41.trans E42)) hdv
      clear cU hdv HNN HE
      go_wp2_with fail
      refine cE.mono ?_
      rintro e w5 ⟨⟨rv, rfl, hr⟩, E5⟩
      obtain ⟨p, pc, rfl⟩ := HFin.out rv w5 hr
      have hE9 := E2.trans (E3.trans (E4.trans (E41.trans (E42.trans E5))))
      clear cE E2 E3 E4 E5 E41 E42
      have hlN := lt_blen N
      have cS := fun (h : N < 18446744073709551616) => small_any N _ w5 hr h
      have hblI : Hid (blen N ≤ 63 ∨ (63 : Int) < (blen N : Int)) := by show _ ∨ _; omega
      have hle63 : blen N ≤ 63 → N < 9223372036854775808 := fun h => Nat.lt_of_lt_of_le hlN (Nat.pow_le_pow_right (n := 2) (j := 63) (by decide) h)
      have hgt63 : 63 < blen N → ¬ N ≤ 9223372036854775807 := fun h k => by
        have := blen_le (n := N) (k := 63) (by omega)
        omega
      clear hlN hr
      generalize blen N = L at *
      rcases hblI.out with hb | hb
      · have hN63 := hle63 hb
        have cS1 := cS (by omega)
        have cG := fun W => rsigned_w nb N (by omega) W
        have hu : uhi (N : Int) = 0 := by unfold uhi; omega
        have hlo : loOf (N : Int) = N := by unfold loOf; omega
        rw [hu, hlo, ← HV.out.1, ← HV.out.2] at cG
        have hbI : (L : Int) ≤ 63 := by omega
        clear hu hlo hN63 hle63 hgt63 cS hblI hb
        go_wp2_with fail
        refine cS1.mono ?_
        rintro e w6 ⟨rfl, rfl⟩
        go_wp2_with fail
        refine (cG _).mono ?_
        rintro e w7 ⟨rfl, E7⟩
        go_wp2
        go_ret2
        exact ⟨rfl, hE9.trans E7⟩
      · have HZ : Hid (fv = 0 ∧ fb = false) := by
          have hno := hgt63 (by omega)
          have h1 := sgnB_no (n := N) (by omega)
          have h2 := sgnV_no nb (n := N) (by omega)
          exact ⟨by rw [HV.out.1, h2], by rw [HV.out.2, h1]⟩
        clear hle63 hgt63 cS hblI
        go_wp2
        go_ret2
        exact ⟨ret_ib HZ.out.1.symm HZ.out.2.symm, hE9⟩
end Go.Proofs.Ytbonaldlljdaoaa
