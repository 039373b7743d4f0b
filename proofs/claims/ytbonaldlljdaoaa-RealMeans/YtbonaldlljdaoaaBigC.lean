/-
  Contracts of the document's numbers of any size: sums, differences, products.
-/
import Derived.Test.YtbonaldlljdaoaaBigB
namespace Go.Proofs.Ytbonaldlljdaoaa
open Go.RowKit
set_option maxHeartbeats 1000000

/-- One step of a sum. -/
theorem plus_step (x y i c xb yb b S V : Nat) (hx : x / 2 ^ i = 2 * (x / 2 ^ (i + 1)) + xb) (hy : y / 2 ^ i = 2 * (y / 2 ^ (i + 1)) + yb) (hS : S = xb + yb + c) (hb : b = S % 2) (h : V + 2 ^ i * (c + x / 2 ^ i + y / 2 ^ i) = x + y) :
    V + 2 ^ i * b + 2 ^ (i + 1) * (S / 2 + x / 2 ^ (i + 1) + y / 2 ^ (i + 1)) = x + y := by
  rw [← h, hx, hy, Nat.pow_succ]
  generalize x / (2 ^ i * 2) = X at *
  generalize y / (2 ^ i * 2) = Y at *
  generalize 2 ^ i = p at *
  have e : c + (2 * X + xb) + (2 * Y + yb) = b + 2 * (S / 2 + X + Y) := by omega
  have e2 : p * 2 * (S / 2 + X + Y) = p * (2 * (S / 2 + X + Y)) := Nat.mul_assoc _ _ _
  rw [e, e2, Nat.mul_add p b]
  omega
theorem plus_big (x y : Nat) (va vb : Value) (w : World) (ha : IsBig w va x) (hb : IsBig w vb y) (hx : blen x ≤ 50000) (hy : blen y ≤ 50000) :
    Calls Try.prog 48 #[va, vb] w fun e w' => (∃ v, e = .returned v ∧ IsBig w' v (x + y)) ∧ Ext w w' := by
  have HA : Hid (∀ i W, Ext w W → Calls Try.prog 51 #[va, .int .i64 (i : Nat)] W fun e w' => e = .returned (.int .i64 ((x / 2 ^ i % 2 : Nat) : Int)) ∧ w' = W) := fun i W e => at_bit x va i W (ha.ext e) (by omega)
  have HB : Hid (∀ i W, Ext w W → Calls Try.prog 51 #[vb, .int .i64 (i : Nat)] W fun e w' => e = .returned (.int .i64 ((y / 2 ^ i % 2 : Nat) : Int)) ∧ w' = W) := fun i W e => at_bit y vb i W (hb.ext e) (by omega)
  obtain ⟨p, pc, hv, h1, h2, h3⟩ := ha
  obtain ⟨q, qc, hu, k1, k2, k3⟩ := hb
  change va = .slice (some ⟨p, 0, none⟩) (blen x) pc at hv
  change vb = .slice (some ⟨q, 0, none⟩) (blen y) qc at hu
  subst hv hu
  have HX : Hid ((∀ i, blen x ≤ i → x / 2 ^ i = 0) ∧ ∀ i, blen y ≤ i → y / 2 ^ i = 0) :=
    ⟨fun i h => Nat.div_eq_of_lt (Nat.lt_of_lt_of_le (lt_blen x) (Nat.pow_le_pow_right (by decide) h)), fun i h => Nat.div_eq_of_lt (Nat.lt_of_lt_of_le (lt_blen y) (Nat.pow_le_pow_right (by decide) h))⟩
  clear h1 h2 h3 k1 k2 k3
  generalize blen x = X at *
  generalize blen y = Y at *
  have hXI : (X : Int) ≤ 50000 := by omega
  have hYI : (Y : Int) ≤ 50000 := by omega
  go_enter Try.func48, Try.ntmps48
  go_wp2
  go_loopw [5, 6, 7] (fun v cv iv wr => ∃ (i c : Nat) (l : List Bool), cv = .int .i64 (c : Int) ∧ iv = .int .i64 (i : Int) ∧ Own wr w.heap.size v l ∧ l.length = i ∧ c ≤ 1 ∧ i + c ≤ max X Y + 1 ∧ Ext w wr ∧ valOf l + 2 ^ i * (c + x / 2 ^ i + y / 2 ^ i) = x + y) (fun _ _ iv _ => (50002 - intOf iv).toNat)
  case atStart =>
    exact ⟨0, 0, [], rfl, rfl, own_new w w (Nat.le_refl _), rfl, by omega, by omega, (Ext.refl _).alloc _, by simp [valOf]⟩
  case round =>
    obtain ⟨i, c, l, rfl, rfl, hO, hl, hc, hic, hE, hV⟩ := hrel
    have HLN : Hid (l.length = i ∧ i ≤ 50001 ∧ i + c ≤ max X Y + 1 ∧ c ≤ 1) := ⟨hl, by omega, hic, hc⟩
    have hiI : (i : Int) ≤ 50001 := by omega
    have hcI : (c : Int) ≤ 1 := by omega
    have HV : Hid (valOf l + 2 ^ i * (c + x / 2 ^ i + y / 2 ^ i) = x + y) := hV
    clear hV hl hc hic
    by_cases gE : X ≤ i ∧ Y ≤ i ∧ c = 0
    · obtain ⟨g1, g2, rfl⟩ := gE
      have HF : Hid (valOf l = x + y) := by
        show valOf l = x + y
        have e := HV.out
        rw [HX.out.1 i g1, HX.out.2 i g2] at e
        simpa using e
      have cT := fun W (e : Ext wr W) => trim_any l u5 W (hO.row.ext e) (by have := HLN.out; omega)
      rw [HF.out] at cT
      have g1I : (X : Int) ≤ (i : Int) := by omega
      have g2I : (Y : Int) ≤ (i : Int) := by omega
      clear g1 g2 hO
      go_wp2_with fail
      refine (cT _ (Ext.refl _)).mono ?_
      rintro e w1 ⟨⟨v', rfl, hB⟩, rfl⟩
      go_wp2
      go_ret
      exact ⟨⟨v', rfl, hB⟩, hE⟩
    · have cA := HA.out i
      have cB := HB.out i
      have ex := half_step x i
      have ey := half_step y i
      have HG : Hid (¬(X ≤ i ∧ Y ≤ i ∧ c = 0)) := gE
      generalize hxb : x / 2 ^ i % 2 = xb at *
      generalize hyb : y / 2 ^ i % 2 = yb at *
      have xb1 : xb ≤ 1 := by omega
      have yb1 : yb ≤ 1 := by omega
      obtain ⟨S, hS⟩ : ∃ S, S = xb + yb + c := ⟨_, rfl⟩
      have eS : (xb : Int) + (yb : Int) + (c : Int) = (S : Int) := by omega
      have hS3 : (S : Int) ≤ 3 := by have := HLN.out; omega
      have eb := mod_two S
      obtain ⟨b, hbb⟩ : ∃ b, b = (S % 2 == 1) := ⟨_, rfl⟩
      rw [← hbb] at eb
      have HM : Hid (i + 1 + S / 2 ≤ max X Y + 1 ∧ S / 2 ≤ 1 ∧ valOf (l ++ [b]) + 2 ^ (i + 1) * (S / 2 + x / 2 ^ (i + 1) + y / 2 ^ (i + 1)) = x + y) := by
        have hL := HLN.out
        refine ⟨?_, by omega, ?_⟩
        · rcases Nat.lt_or_ge i (max X Y) with g | g
          · omega
          · have z1 := HX.out.1 i (by omega)
            have z2 := HX.out.2 i (by omega)
            rw [z1] at hxb; rw [z2] at hyb
            omega
        · rw [valOf_append, valOf_one, hL.1]
          refine plus_step x y i c xb yb b.toNat S (valOf l) ex ey hS ?_ HV.out
          rw [hbb]
          rcases Nat.mod_two_eq_zero_or_one S with g | g <;> rw [g] <;> rfl
      clear ex ey hxb hyb gE hS hbb HA HB
      by_cases g1 : (i : Int) < (X : Int)
      · clear HG
        go_wp2_with fail
        refine (cA _ hE).mono ?_
        rintro e w1 ⟨rfl, rfl⟩
        go_wp2_with fail
        refine (cB _ hE).mono ?_
        rintro e w2 ⟨rfl, rfl⟩
        go_wp2_with (at_builtin; refine own_append _ w _ _ u5 _ l [b] rfl rfl (by rfl) (by rfl) (hO.alloc _) (row_one _ _) (by have := HLN.out; simp; omega) (hE.alloc _) ?_; intro v' W' hO' hE')
        go_wp2
        go_roundw
        case rel => exact ⟨i + 1, S / 2, l ++ [b], by simp, by go_num, hO', by have := HLN.out; simp; omega, HM.out.2.1, HM.out.1, hE', HM.out.2.2⟩
        case measure => simp [intOf]; omega
      · have g1' : (X : Int) ≤ (i : Int) := by omega
        clear g1
        by_cases g2 : (i : Int) < (Y : Int)
        · clear HG
          go_wp2_with fail
          refine (cA _ hE).mono ?_
          rintro e w1 ⟨rfl, rfl⟩
          go_wp2_with fail
          refine (cB _ hE).mono ?_
          rintro e w2 ⟨rfl, rfl⟩
          go_wp2_with (at_builtin; refine own_append _ w _ _ u5 _ l [b] rfl rfl (by rfl) (by rfl) (hO.alloc _) (row_one _ _) (by have := HLN.out; simp; omega) (hE.alloc _) ?_; intro v' W' hO' hE')
          go_wp2
          go_roundw
          case rel => exact ⟨i + 1, S / 2, l ++ [b], by simp, by go_num, hO', by have := HLN.out; simp; omega, HM.out.2.1, HM.out.1, hE', HM.out.2.2⟩
          case measure => simp [intOf]; omega
        · have g2' : (Y : Int) ≤ (i : Int) := by omega
          have hc1 : (0 : Int) < (c : Int) := by have := HG.out; have := HLN.out; omega
          clear g2 HG
          go_wp2_with fail
          refine (cA _ hE).mono ?_
          rintro e w1 ⟨rfl, rfl⟩
          go_wp2_with fail
          refine (cB _ hE).mono ?_
          rintro e w2 ⟨rfl, rfl⟩
          go_wp2_with (at_builtin; refine own_append _ w _ _ u5 _ l [b] rfl rfl (by rfl) (by rfl) (hO.alloc _) (row_one _ _) (by have := HLN.out; simp; omega) (hE.alloc _) ?_; intro v' W' hO' hE')
          go_wp2
          go_roundw
          case rel => exact ⟨i + 1, S / 2, l ++ [b], by simp, by go_num, hO', by have := HLN.out; simp; omega, HM.out.2.1, HM.out.1, hE', HM.out.2.2⟩
          case measure => simp [intOf]; omega

/-- One step of a difference. -/
theorem minus_step (x y i c xb yb b d V : Nat) (s : Int) (hx : x / 2 ^ i = 2 * (x / 2 ^ (i + 1)) + xb) (hy : y / 2 ^ i = 2 * (y / 2 ^ (i + 1)) + yb) (hs : s = (xb : Int) - yb - c) (hb : (b : Int) = s + 2 * d)
    (h : (V : Int) + 2 ^ i * (((x / 2 ^ i : Nat) : Int) - ((y / 2 ^ i : Nat) : Int) - c) = (x : Int) - y) :
    (V : Int) + 2 ^ i * b + 2 ^ (i + 1) * (((x / 2 ^ (i + 1) : Nat) : Int) - ((y / 2 ^ (i + 1) : Nat) : Int) - d) = (x : Int) - y := by
  rw [← h, hx, hy, Int.pow_succ]
  generalize x / 2 ^ (i + 1) = X at *
  generalize y / 2 ^ (i + 1) = Y at *
  generalize (2 : Int) ^ i = p at *
  have e : ((2 * X + xb : Nat) : Int) - ((2 * Y + yb : Nat) : Int) - (c : Int) = (b : Int) + 2 * ((X : Int) - Y - d) := by omega
  rw [e, Int.mul_add, ← Int.mul_assoc]
  omega
theorem minus_big (x y : Nat) (va vb : Value) (w : World) (ha : IsBig w va x) (hb : IsBig w vb y) (hx : blen x ≤ 50000) (hyx : y ≤ x) :
    Calls Try.prog 55 #[va, vb] w fun e w' => (∃ v, e = .returned v ∧ IsBig w' v (x - y)) ∧ Ext w w' := by
  have hy : blen y ≤ 50000 := Nat.le_trans (blen_mono hyx) hx
  have HA : Hid (∀ i W, Ext w W → Calls Try.prog 51 #[va, .int .i64 (i : Nat)] W fun e w' => e = .returned (.int .i64 ((x / 2 ^ i % 2 : Nat) : Int)) ∧ w' = W) := fun i W e => at_bit x va i W (ha.ext e) (by omega)
  have HB : Hid (∀ i W, Ext w W → Calls Try.prog 51 #[vb, .int .i64 (i : Nat)] W fun e w' => e = .returned (.int .i64 ((y / 2 ^ i % 2 : Nat) : Int)) ∧ w' = W) := fun i W e => at_bit y vb i W (hb.ext e) (by omega)
  obtain ⟨p, pc, hv, h1, h2, h3⟩ := ha
  obtain ⟨q, qc, hu, k1, k2, k3⟩ := hb
  change va = .slice (some ⟨p, 0, none⟩) (blen x) pc at hv
  change vb = .slice (some ⟨q, 0, none⟩) (blen y) qc at hu
  subst hv hu
  have HX : Hid (x / 2 ^ blen x = 0 ∧ y / 2 ^ blen x = 0 ∧ y ≤ x ∧ x < 2 ^ blen x) :=
    ⟨Nat.div_eq_of_lt (lt_blen x), Nat.div_eq_of_lt (Nat.lt_of_le_of_lt hyx (lt_blen x)), hyx, lt_blen x⟩
  clear h1 h2 h3 k1 k2 k3 hyx hy
  generalize blen x = X at *
  generalize blen y = Y at *
  have hXI : (X : Int) ≤ 50000 := by omega
  go_enter Try.func55, Try.ntmps55
  go_wp2
  go_loopw [5, 6, 7] (fun v cv iv wr => ∃ (i c : Nat) (l : List Bool), cv = .int .i64 (c : Int) ∧ iv = .int .i64 (i : Int) ∧ Own wr w.heap.size v l ∧ l.length = i ∧ c ≤ 1 ∧ i ≤ X ∧ Ext w wr ∧ (valOf l : Int) + 2 ^ i * (((x / 2 ^ i : Nat) : Int) - ((y / 2 ^ i : Nat) : Int) - c) = (x : Int) - y) (fun _ _ iv _ => (50002 - intOf iv).toNat)
  case atStart =>
    exact ⟨0, 0, [], rfl, rfl, own_new w w (Nat.le_refl _), rfl, by omega, by omega, (Ext.refl _).alloc _, by simp [valOf]⟩
  case round =>
    obtain ⟨i, c, l, rfl, rfl, hO, hl, hc, hic, hE, hV⟩ := hrel
    have HLN : Hid (l.length = i ∧ i ≤ X ∧ c ≤ 1 ∧ X ≤ 50000) := ⟨hl, hic, hc, hx⟩
    have hiI : (i : Int) ≤ 50000 := by omega
    have hcI : (c : Int) ≤ 1 := by omega
    have HV : Hid ((valOf l : Int) + 2 ^ i * (((x / 2 ^ i : Nat) : Int) - ((y / 2 ^ i : Nat) : Int) - c) = (x : Int) - y) := hV
    clear hV hl hc hic
    rcases Nat.lt_or_ge i X with gE | gE
    · have cA := HA.out i
      have cB := HB.out i
      have ex := half_step x i
      have ey := half_step y i
      generalize hxb : x / 2 ^ i % 2 = xb at *
      generalize hyb : y / 2 ^ i % 2 = yb at *
      have xb1 : xb ≤ 1 := by omega
      have yb1 : yb ≤ 1 := by omega
      obtain ⟨s, hs⟩ : ∃ s : Int, s = (xb : Int) - (yb : Int) - (c : Int) := ⟨_, rfl⟩
      have eS : (xb : Int) - (yb : Int) - (c : Int) = s := hs.symm
      have s1 : -2 ≤ s := by omega
      have s2 : s ≤ 1 := by omega
      have gI : (i : Int) < (X : Int) := by omega
      have HM : Hid (∀ (d : Nat) (b : Bool), ((b.toNat : Nat) : Int) = s + 2 * d → (valOf (l ++ [b]) : Int) + 2 ^ (i + 1) * (((x / 2 ^ (i + 1) : Nat) : Int) - ((y / 2 ^ (i + 1) : Nat) : Int) - d) = (x : Int) - y) := by
        intro d b h
        rw [valOf_append, valOf_one, HLN.out.1]
        have := minus_step x y i c xb yb b.toNat d (valOf l) s ex ey hs h HV.out
        rw [← this]
        simp
      clear ex ey hxb hyb hs HA HB gE
      by_cases g1 : s < 0
      · obtain ⟨b, hb⟩ : ∃ b, b = (s + 2 == 1) := ⟨_, rfl⟩
        have HD : Hid (((b.toNat : Nat) : Int) = s + 2 * (1 : Nat)) := by
          show ((b.toNat : Nat) : Int) = s + 2 * (1 : Nat)
          rcases (show s = -1 ∨ s = -2 by omega) with rfl | rfl <;> subst hb <;> rfl
        have eb := hb.symm
        clear hb
        go_wp2_with fail
        refine (cA _ hE).mono ?_
        rintro e w1 ⟨rfl, rfl⟩
        go_wp2_with fail
        refine (cB _ hE).mono ?_
        rintro e w2 ⟨rfl, rfl⟩
        go_wp2_with (at_builtin; refine own_append _ w _ _ u5 _ l [b] rfl rfl (by rfl) (by rfl) (hO.alloc _) (row_one _ _) (by have := HLN.out; simp; omega) (hE.alloc _) ?_; intro v' W' hO' hE')
        go_wp2
        go_roundw
        case rel => exact ⟨i + 1, 1, l ++ [b], rfl, by go_num, hO', by have := HLN.out; simp; omega, by omega, by omega, hE', HM.out 1 b HD.out⟩
        case measure => simp [intOf]; omega
      · obtain ⟨b, hb⟩ : ∃ b, b = (s == 1) := ⟨_, rfl⟩
        have HD : Hid (((b.toNat : Nat) : Int) = s + 2 * (0 : Nat)) := by
          show ((b.toNat : Nat) : Int) = s + 2 * (0 : Nat)
          rcases (show s = 0 ∨ s = 1 by omega) with rfl | rfl <;> subst hb <;> rfl
        have eb := hb.symm
        have g1' : 0 ≤ s := by omega
        clear hb g1
        go_wp2_with fail
        refine (cA _ hE).mono ?_
        rintro e w1 ⟨rfl, rfl⟩
        go_wp2_with fail
        refine (cB _ hE).mono ?_
        rintro e w2 ⟨rfl, rfl⟩
        go_wp2_with (at_builtin; refine own_append _ w _ _ u5 _ l [b] rfl rfl (by rfl) (by rfl) (hO.alloc _) (row_one _ _) (by have := HLN.out; simp; omega) (hE.alloc _) ?_; intro v' W' hO' hE')
        go_wp2
        go_roundw
        case rel => exact ⟨i + 1, 0, l ++ [b], rfl, by go_num, hO', by have := HLN.out; simp; omega, by omega, by omega, hE', HM.out 0 b HD.out⟩
        case measure => simp [intOf]; omega
    · have hiX : i = X := by have := HLN.out; omega
      subst hiX
      have HF : Hid (valOf l = x - y) := by
        show valOf l = x - y
        have e := HV.out
        have hX := HX.out
        have hv := valOf_lt l
        rw [HLN.out.1] at hv
        rw [hX.1, hX.2.1] at e
        have hp : ((2 : Int) ^ i) = ((2 ^ i : Nat) : Int) := by simp
        rw [hp] at e
        generalize 2 ^ i = P at *
        rcases (show c = 0 ∨ c = 1 by have := HLN.out; omega) with rfl | rfl
        · simp at e; omega
        · simp at e; omega
      have cT := fun W (e : Ext wr W) => trim_any l u5 W (hO.row.ext e) (by have := HLN.out; omega)
      rw [HF.out] at cT
      clear hO gE
      go_wp2_with fail
      refine (cT _ (Ext.refl _)).mono ?_
      rintro e w1 ⟨⟨v', rfl, hB⟩, rfl⟩
      go_wp2
      go_ret
      exact ⟨⟨v', rfl, hB⟩, hE⟩
end Go.Proofs.Ytbonaldlljdaoaa
