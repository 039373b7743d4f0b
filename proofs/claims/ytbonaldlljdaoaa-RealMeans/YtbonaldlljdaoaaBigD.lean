/-
  Contracts of the document's numbers of any size: times a power of two, products.
-/
import Derived.Test.YtbonaldlljdaoaaBigC
namespace Go.Proofs.Ytbonaldlljdaoaa
open Go.RowKit
set_option maxHeartbeats 1000000

theorem up_big (x n : Nat) (va : Value) (w : World) (ha : IsBig w va x) (hx : blen x ≤ 40000) (hn : n ≤ 40000) :
    Calls Try.prog 29 #[va, .int .i64 n] w fun e w' => (∃ v, e = .returned v ∧ IsBig w' v (x * 2 ^ n)) ∧ Ext w w' := by
  have ha' := ha
  obtain ⟨p, pc, hv, h1, h2, h3⟩ := ha
  change va = .slice (some ⟨p, 0, none⟩) (blen x) pc at hv
  subst hv
  have hnI : (n : Int) ≤ 40000 := by omega
  rcases Nat.eq_zero_or_pos x with rfl | h0
  · have HA : Hid (IsBig w (.slice (some ⟨p, 0, none⟩) (blen 0) pc) 0) := ha'
    rw [Nat.zero_mul]
    rw [blen_zero] at HA ⊢
    clear h1 h3 ha'
    go_enter Try.func29, Try.ntmps29
    go_wp2
    go_ret
    exact ⟨⟨_, rfl, HA.out⟩, Ext.refl _⟩
  · have hb0 : 0 < blen x := by rw [blen_pos h0]; omega
    have HA : Hid (∀ W, Ext w W → Row W (.slice (some ⟨p, 0, none⟩) (blen x) pc) (bitsOf x)) := fun W e => Row.ext ha' e
    have HS : Hid (bitsOf (x * 2 ^ n) = List.replicate n false ++ bitsOf x ∧ (bitsOf x).length ≤ 40000) := ⟨bits_shift n h0, hx⟩
    clear h1 h3 ha' h0
    generalize blen x = X at *
    have hXI : (X : Int) ≤ 40000 := by omega
    have hX0 : (0 : Int) < (X : Int) := by omega
    have hXe : ((X : Int) == 0) = false := by simp; omega
    go_enter Try.func29, Try.ntmps29
    go_wp2
    go_loopw [5, 6] (fun v iv wr => ∃ i : Nat, iv = .int .i64 (i : Int) ∧ i ≤ n ∧ Own wr w.heap.size v (List.replicate i false) ∧ Ext w wr) (fun _ iv _ => (50002 - intOf iv).toNat)
    case atStart => exact ⟨0, rfl, Nat.zero_le _, own_new w w (Nat.le_refl _), (Ext.refl _).alloc _⟩
    case round =>
      obtain ⟨i, rfl, hi, hO, hE⟩ := hrel
      have HI : Hid (i ≤ n ∧ n ≤ 40000) := ⟨hi, hn⟩
      rcases Nat.lt_or_ge i n with g | g
      · have gI : (i : Int) < (n : Int) := by omega
        clear hi g
        go_wp2_with (at_builtin; refine own_append _ w _ _ u5 _ (List.replicate i false) [false] rfl rfl (by rfl) (by rfl) (hO.alloc _) (row_one _ _) (by have := HI.out; simp; omega) (hE.alloc _) ?_; intro v' W' hO' hE')
        go_wp2
        go_roundw
        case rel => exact ⟨i + 1, by go_num, by omega, by rw [List.replicate_succ']; exact hO', hE'⟩
        case measure => simp [intOf]; omega
      · have hin : i = n := by omega
        subst hin
        clear hi g
        have hR := HA.out wr hE
        go_wp2_with (at_builtin; refine own_append _ w _ _ u5 _ (List.replicate i false) (bitsOf x) rfl rfl (by rfl) (by rfl) hO hR (by have := HI.out; have := HS.out; simp; omega) hE ?_; intro v' W' hO' hE')
        go_wp2
        go_ret
        refine ⟨⟨v', rfl, ?_⟩, hE'⟩
        show Row W' v' (bitsOf (x * 2 ^ i))
        rw [HS.out.1]
        exact hO'.row
theorem blen_mul (x y : Nat) : blen (x * y) ≤ blen x + blen y := by
  refine blen_le ?_
  rw [Nat.pow_add]
  exact Nat.mul_lt_mul'' (lt_blen x) (lt_blen y)
theorem row_nil (W : World) (b : Nat) (h : b < W.heap.size) : IsBig W (.slice (some ⟨b, 0, none⟩) 0 0) 0 := by
  show Row W _ (bitsOf 0)
  rw [bitsOf_zero]
  exact ⟨b, 0, rfl, Nat.le_refl _, h, fun i x hx => by simp at hx⟩
theorem times_big (x y : Nat) (va vb : Value) (w : World) (ha : IsBig w va x) (hb : IsBig w vb y) (hx : blen x ≤ 20000) (hy : blen y ≤ 10000) :
    Calls Try.prog 27 #[va, vb] w fun e w' => (∃ v, e = .returned v ∧ IsBig w' v (x * y)) ∧ Ext w w' := by
  have HU : Hid (∀ i W, i ≤ 10000 → Ext w W → Calls Try.prog 29 #[va, .int .i64 (i : Nat)] W fun e w' => (∃ v, e = .returned v ∧ IsBig w' v (x * 2 ^ i)) ∧ Ext W w') := fun i W h e => up_big x i va W (ha.ext e) (by omega) (by omega)
  have HC : Hid (∀ i W, i < blen y → Ext w W → ∀ q qc, vb = .slice (some ⟨q, 0, none⟩) (blen y) qc → W.cell? ⟨q, i, none⟩ = some (.bool (y / 2 ^ i % 2 == 1))) := by
    intro i W h e q qc hq
    obtain ⟨q', qc', hq', _, _, h3⟩ := hb.ext e
    change vb = .slice (some ⟨q', 0, none⟩) (blen y) qc' at hq'
    rw [hq] at hq'
    simp at hq'
    rw [hq'.1]
    exact h3 i _ (bits_at y i h)
  have HP : Hid (∀ i W v u, i ≤ blen y → IsBig W v (x * (y % 2 ^ i)) → IsBig W u (x * 2 ^ i) → Calls Try.prog 48 #[v, u] W fun e w' => (∃ v, e = .returned v ∧ IsBig w' v (x * (y % 2 ^ i) + x * 2 ^ i)) ∧ Ext W w') := by
    intro i W v u hi h1 h2
    refine plus_big _ _ v u W h1 h2 ?_ ?_
    · have := blen_mul x (y % 2 ^ i)
      have := blen_mono (Nat.mod_le y (2 ^ i))
      omega
    · have := blen_mul x (2 ^ i)
      have : blen (2 ^ i) ≤ i + 1 := blen_le (Nat.pow_lt_pow_right (by decide) (Nat.lt_succ_self i))
      omega
  have HY : Hid (y % 2 ^ blen y = y) := Nat.mod_eq_of_lt (lt_blen y)
  obtain ⟨q, qc, hu, k1, k2, k3⟩ := hb
  obtain ⟨p, pc, hv, _⟩ := ha
  change vb = .slice (some ⟨q, 0, none⟩) (blen y) qc at hu
  have HC2 : Hid (∀ i W, i < blen y → Ext w W → W.cell? ⟨q, i, none⟩ = some (.bool (y / 2 ^ i % 2 == 1))) := fun i W h e => HC.out i W h e q qc hu
  subst hu
  clear k1 k3 HC hv
  generalize blen y = Y at *
  have hYI : (Y : Int) ≤ 10000 := by omega
  go_enter Try.func27, Try.ntmps27
  go_wp2
  go_loopw [5, 6] (fun v iv wr => ∃ i : Nat, iv = .int .i64 (i : Int) ∧ i ≤ Y ∧ IsBig wr v (x * (y % 2 ^ i)) ∧ Ext w wr) (fun _ iv _ => (50002 - intOf iv).toNat)
  case atStart =>
    refine ⟨0, rfl, Nat.zero_le _, ?_, (Ext.refl _).alloc _⟩
    rw [Nat.pow_zero, Nat.mod_one, Nat.mul_zero]
    exact row_nil _ _ (by simp)
  case round =>
    obtain ⟨i, rfl, hi, hB, hE⟩ := hrel
    rcases Nat.lt_or_ge i Y with g | g
    · have gI : (i : Int) < (Y : Int) := by omega
      have hc := HC2.out i wr g hE
      have HM : Hid (y % 2 ^ (i + 1) = 2 ^ i * (y / 2 ^ i % 2) + y % 2 ^ i) := by
        show y % 2 ^ (i + 1) = _
        rw [Nat.mod_pow_succ]; omega
      have HI : Hid (i + 1 ≤ Y ∧ i ≤ 10000) := ⟨g, by omega⟩
      have HBB : Hid (IsBig wr u5 (x * (y % 2 ^ i))) := hB
      clear hi g hB
      rcases Nat.mod_two_eq_zero_or_one (y / 2 ^ i) with gy | gy
      · rw [gy] at hc HM
        simp only [Nat.reduceBEq] at hc
        clear gy
        go_wp2
        go_roundw
        case rel => exact ⟨i + 1, by go_num, HI.out.1, by rw [HM.out, Nat.mul_zero, Nat.zero_add]; exact HBB.out, hE⟩
        case measure => simp [intOf]; omega
      · rw [gy] at hc HM
        simp only [Nat.reduceBEq] at hc
        clear gy
        have cU := HU.out i wr HI.out.2 hE
        go_wp2_with fail
        refine cU.mono ?_
        rintro e w1 ⟨⟨u, rfl, hu⟩, E1⟩
        have cP := HP.out i w1 u5 u (by have := HI.out; omega) (HBB.out.ext E1) hu
        have E2 := hE.trans E1
        clear hu hc
        go_wp2_with fail
        refine cP.mono ?_
        rintro e w2 ⟨⟨t, rfl, ht⟩, E3⟩
        have HT : Hid (IsBig w2 t (x * (y % 2 ^ i) + x * 2 ^ i)) := ht
        clear ht
        go_wp2
        go_roundw
        case rel =>
          refine ⟨i + 1, by go_num, HI.out.1, ?_, E2.trans E3⟩
          rw [HM.out, Nat.mul_one, Nat.add_comm, Nat.mul_add]
          exact HT.out
        case measure => simp [intOf]; omega
    · have hin : i = Y := by omega
      subst hin
      have HF : Hid (IsBig wr u5 (x * y)) := by
        show IsBig wr u5 (x * y)
        rw [HY.out] at hB; exact hB
      clear hi g hB
      go_wp2
      go_ret
      exact ⟨⟨u5, rfl, HF.out⟩, hE⟩
end Go.Proofs.Ytbonaldlljdaoaa
