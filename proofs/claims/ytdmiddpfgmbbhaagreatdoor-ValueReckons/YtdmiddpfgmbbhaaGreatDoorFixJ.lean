/-
  The contract of the document's own long division, bit by bit.
-/
import Derived.Test.YtdmiddpfgmbbhaaGreatDoorFixI
namespace Go.Proofs.YtdmiddpfgmbbhaaGreatDoor
open Go.RowKit
set_option maxHeartbeats 1000000

theorem Pair.put {w : World} {b : Nat} {x : Int} (h : Pair w b x) (y : Int) (hu : uhi y = uhi x) : Pair (w.setCell ⟨b, 1, none⟩ (.int .u64 (loOf y))) b y := by
  obtain ⟨z, c0, c1, f0, f1⟩ := h
  refine ⟨by simpa [World.setCell] using z, ?_, ?_, ?_, ?_⟩
  · rw [World.cell?_setCell_other _ _ _ _ (by simp), hu]; exact c0
  · exact World.cell?_setCell_same _ ⟨b, 1, none⟩ _ (by rw [c1])
  · rw [World.frozen?_setCell]; exact f0
  · rw [World.frozen?_setCell]; exact f1
/-- What stands still while the division goes on. -/
def Keep (w : World) (X D : Int) (wr : World) : Prop := Ext w wr ∧ Pair wr w.heap.size X ∧ Pair wr (w.heap.size + 1) D ∧ Pair wr (w.heap.size + 2) 0 ∧ Pair wr (w.heap.size + 3) 0
theorem Keep.ext {w W W' : World} {X D : Int} (h : Keep w X D W) (e : Ext W W') : Keep w X D W' :=
  ⟨h.1.trans e, h.2.1.ext e, h.2.2.1.ext e, h.2.2.2.1.ext e, h.2.2.2.2.ext e⟩
theorem Keep.far {w W : World} {X D : Int} (h : Keep w X D W) {c : Nat} (hc : w.heap.size + 4 ≤ c) (o : Nat) (v : Value) : Keep w X D (W.setCell ⟨c, o, none⟩ v) :=
  ⟨h.1.setCell (by show w.heap.size ≤ c; omega) _, h.2.1.far (by omega) _ _, h.2.2.1.far (by omega) _ _, h.2.2.2.1.far (by omega) _ _, h.2.2.2.2.far (by omega) _ _⟩
theorem or_bit (x : Int) (t : Nat) (ht : t < 2) : bits .or .u64 (loOf (x * 2)) (t : Int) = loOf (x * 2 + t) := by
  obtain ⟨l, hl⟩ := Int.eq_ofNat_of_zero_le (lo_bd (x * 2)).1
  have b2 := (lo_bd (x * 2)).2
  have he : l % 2 = 0 := by unfold loOf at hl; omega
  obtain ⟨m, rfl⟩ : ∃ m, l = 2 * m := ⟨l / 2, by omega⟩
  rw [hl, or_even m t ht (by omega)]
  unfold loOf at hl ⊢
  omega
theorem uhi_bit (x : Int) (t : Nat) (ht : t < 2) : uhi (x * 2 + t) = uhi (x * 2) := by unfold uhi; omega
theorem bit_lo (X j : Nat) (hj : j < 64) : X % 18446744073709551616 / 2 ^ j % 2 = X / 2 ^ j % 2 := by
  have e : 18446744073709551616 = 2 ^ j * 2 ^ (64 - j) := by rw [← Nat.pow_add, show j + (64 - j) = 64 from by omega]
  rw [e, Nat.mod_mul_right_div_self]
  obtain ⟨i, hi⟩ : ∃ i, 64 - j = i + 1 := ⟨63 - j, by omega⟩
  rw [hi, Nat.pow_succ]
  exact Nat.mod_mul_left_mod _ _ _
theorem bit_hi (X i : Nat) : X / 18446744073709551616 / 2 ^ i % 2 = X / 2 ^ (i + 64) % 2 := by
  rw [Nat.div_div_eq_div_mul]
  have : 18446744073709551616 * 2 ^ i = 2 ^ (i + 64) := by rw [Nat.pow_add, Nat.mul_comm]
  rw [this]
/-- One step of the division. -/
theorem div_no (Z D t : Nat) (hD : 0 < D) (h : Z % D * 2 + t < D) : (2 * Z + t) / D = Z / D * 2 ∧ (2 * Z + t) % D = Z % D * 2 + t := by
  have e := Nat.div_add_mod Z D
  have : 2 * Z + t = (Z % D * 2 + t) + D * (Z / D * 2) := by rw [Nat.mul_comm (Z / D) 2, ← Nat.mul_assoc, Nat.mul_comm D 2, Nat.mul_assoc]; omega
  rw [this, Nat.add_mul_div_left _ _ hD, Nat.add_mul_mod_self_left, Nat.div_eq_of_lt h, Nat.mod_eq_of_lt h, Nat.zero_add]
  exact ⟨rfl, rfl⟩
theorem div_yes (Z D t : Nat) (hD : 0 < D) (ht : t < 2) (h : D ≤ Z % D * 2 + t) : (2 * Z + t) / D = Z / D * 2 + 1 ∧ (2 * Z + t) % D = Z % D * 2 + t - D := by
  have e := Nat.div_add_mod Z D
  have l := Nat.mod_lt Z hD
  have hl : Z % D * 2 + t - D < D := by omega
  have : 2 * Z + t = (Z % D * 2 + t - D) + D * (Z / D * 2 + 1) := by
    rw [Nat.mul_add, Nat.mul_one, Nat.mul_comm (Z / D) 2, ← Nat.mul_assoc, Nat.mul_comm D 2, Nat.mul_assoc]; omega
  rw [this, Nat.add_mul_div_left _ _ hD, Nat.add_mul_mod_self_left, Nat.div_eq_of_lt hl, Nat.mod_eq_of_lt hl, Nat.zero_add]
  exact ⟨rfl, rfl⟩
theorem ebit_lo (X j : Nat) (hj : j < 64) : bits .and .u64 (loOf (X : Int) / 2 ^ j) 1 = ((X / 2 ^ j % 2 : Nat) : Int) := by
  have e : loOf (X : Int) = ((X % 18446744073709551616 : Nat) : Int) := by unfold loOf; omega
  have f : ((X % 18446744073709551616 : Nat) : Int) / 2 ^ j = ((X % 18446744073709551616 / 2 ^ j : Nat) : Int) := by simp
  rw [e, f, and_one _ (Nat.lt_of_le_of_lt (Nat.div_le_self _ _) (Nat.mod_lt _ (by decide))), bit_lo X j hj]
theorem ebit_hi (X i : Nat) (hX : X < 340282366920938463463374607431768211456) : bits .and .u64 (uhi (X : Int) / 2 ^ i) 1 = ((X / 2 ^ (i + 64) % 2 : Nat) : Int) := by
  have e : uhi (X : Int) = ((X / 18446744073709551616 : Nat) : Int) := by unfold uhi; omega
  have f : ((X / 18446744073709551616 : Nat) : Int) / 2 ^ i = ((X / 18446744073709551616 / 2 ^ i : Nat) : Int) := by simp
  rw [e, f, and_one _ (Nat.lt_of_le_of_lt (Nat.div_le_self _ _) (by omega)), bit_hi X i]
theorem divide_any (X D : Nat) (hX : X < 340282366920938463463374607431768211456) (hD : 0 < D) (hD' : D < 170141183460469231731687303715884105728) (w : World) :
    Calls Tryz.prog 60 #[.agg #[.int .u64 (uhi X), .int .u64 (loOf X)], .agg #[.int .u64 (uhi D), .int .u64 (loOf D)]] w fun e w' =>
      e = .returned (.tuple #[.agg #[.int .u64 (uhi ((X / D : Nat) : Int)), .int .u64 (loOf ((X / D : Nat) : Int))], .agg #[.int .u64 (uhi ((X % D : Nat) : Int)), .int .u64 (loOf ((X % D : Nat) : Int))]]) ∧ Ext w w' := by
  have u0 : uhi 0 = 0 := by decide
  have l0 : loOf 0 = 0 := by decide
  obtain ⟨a1, a2⟩ := uhi_bd X; obtain ⟨a3, a4⟩ := lo_bd X
  have HX : Hid (X < 340282366920938463463374607431768211456) := hX
  have HD' : Hid (D < 170141183460469231731687303715884105728) := hD'
  have HD : Hid (0 < D) := hD
  clear hX hD hD'
  go_enter Tryz.func60, Tryz.ntmps60
  go_wp2
  go_loopw [8, 9] (fun i _ wr => ∃ k : Nat, k ≤ 128 ∧ i = .int .i64 ((k : Int) - 1) ∧ Keep w X D wr ∧ Pair wr (w.heap.size + 4) ((X / 2 ^ k / D : Nat) : Int) ∧ Pair wr (w.heap.size + 5) ((X / 2 ^ k % D : Nat) : Int)) (fun i _ _ => (intOf i + 1).toNat)
  case atStart =>
    have h0 : X / 2 ^ 128 = 0 := Nat.div_eq_of_lt HX.out
    refine ⟨128, Nat.le_refl _, rfl, ⟨?_, ?_, ?_, ?_, ?_⟩, ?_, ?_⟩
    · repeat (first | exact Ext.refl _ | apply Ext.alloc)
    · simp [Pair, go_sem, World.cell?_alloc_past]
    · simp [Pair, go_sem, World.cell?_alloc_past]
    · simp [Pair, u0, l0, go_sem, World.cell?_alloc_past]
    · simp [Pair, u0, l0, go_sem, World.cell?_alloc_past]
    · rw [h0, Nat.zero_div]; simp [Pair, u0, l0, go_sem, World.cell?_alloc_past]
    · rw [h0, Nat.zero_mod]; simp [Pair, u0, l0, go_sem]
  case round =>
    obtain ⟨k, hk, rfl, hK, hq, hr⟩ := hrel
    rcases Nat.eq_zero_or_pos k with rfl | hk0
    · rw [Nat.pow_zero, Nat.div_one] at hq hr
      have hE := hK.1
      obtain ⟨q1, q2, q3, q4, q5⟩ := hq
      obtain ⟨r1, r2, r3, r4, r5⟩ := hr
      obtain ⟨m1, m2, m3, m4, m5⟩ := hK.2.2.2.1
      obtain ⟨n1, n2, n3, n4, n5⟩ := hK.2.2.2.2
      obtain ⟨Qh, hQh⟩ : ∃ v, v = uhi ((X / D : Nat) : Int) := ⟨_, rfl⟩
      obtain ⟨Ql, hQl⟩ : ∃ v, v = loOf ((X / D : Nat) : Int) := ⟨_, rfl⟩
      obtain ⟨Rh, hRh⟩ : ∃ v, v = uhi ((X % D : Nat) : Int) := ⟨_, rfl⟩
      obtain ⟨Rl, hRl⟩ : ∃ v, v = loOf ((X % D : Nat) : Int) := ⟨_, rfl⟩
      rw [← hQh] at q2; rw [← hQl] at q3; rw [← hRh] at r2; rw [← hRl] at r3
      rw [Int.natCast_ediv] at hQh hQl
      rw [Int.natCast_emod] at hRh hRl
      have HH : Hid ((Qh = uhi ((X : Int) / D) ∧ Ql = loOf ((X : Int) / D)) ∧ Rh = uhi ((X : Int) % D) ∧ Rl = loOf ((X : Int) % D)) := ⟨⟨hQh, hQl⟩, hRh, hRl⟩
      clear hK hQh hQl hRh hRl
      go_wp2
      go_region
      all_goals
        go_wp2
        simp [bodyPost, results, Tryz.results60, go_sem, *]
        refine ⟨HH.out, ?_⟩
        repeat (first | exact hE | apply Ext.drew | refine Ext.setCell ?_ (by first | (simp; done) | (simp; omega)) _)
    · obtain ⟨j, rfl⟩ : ∃ j, k = j + 1 := ⟨k - 1, by omega⟩
      have ej : (((j + 1 : Nat) : Int) - 1) = (j : Int) := by omega
      rw [ej]
      clear ej hk0
      have hj : j < 128 := by omega
      have hjI : (j : Int) < 128 := by omega
      clear hk
      obtain ⟨t, ht⟩ : ∃ t, t = X / 2 ^ j % 2 := ⟨_, rfl⟩
      have ht2 : t < 2 := by omega
      have hZ := half_step X j
      rw [← ht] at hZ
      generalize hZe : X / 2 ^ (j + 1) = Z at *
      have cR := fun W => up_w ((Z % D : Nat) : Int) W
      have cQ := fun W => up_w ((Z / D : Nat) : Int) W
      have hrl := Nat.mod_lt Z HD.out
      have eb := or_bit ((Z % D : Nat) : Int) t ht2
      have hub := uhi_bit ((Z % D : Nat) : Int) t ht2
      have cC := fun W => cmp_w (((Z % D : Nat) : Int) * 2 + t) D (by omega) (by have := HD'.out; omega) (by omega) (by have := HD'.out; omega) W
      have cM := fun W => minusW_w (((Z % D : Nat) : Int) * 2 + t) D W
      have hstep : (D ≤ Z % D * 2 + t → X / 2 ^ j / D = Z / D * 2 + 1 ∧ X / 2 ^ j % D = Z % D * 2 + t - D) ∧ (Z % D * 2 + t < D → X / 2 ^ j / D = Z / D * 2 ∧ X / 2 ^ j % D = Z % D * 2 + t) :=
        ⟨fun h => by rw [hZ]; exact div_yes Z D t HD.out ht2 h, fun h => by rw [hZ]; exact div_no Z D t HD.out h⟩
      have HS : Hid _ := hstep
      have HT : Hid (t = X / 2 ^ j % 2) := ht
      have HZ : Hid (X / 2 ^ j = 2 * Z + t) := hZ
      generalize hR : Z % D = R at *
      generalize hQ : Z / D = Q at *
      clear hstep ht hZ hZe hR hQ hrl
      obtain ⟨r, hrI⟩ : ∃ r : Int, r = R := ⟨_, rfl⟩
      obtain ⟨q, hqI⟩ : ∃ q : Int, q = Q := ⟨_, rfl⟩
      obtain ⟨tI, htI⟩ : ∃ tI : Int, tI = t := ⟨_, rfl⟩
      obtain ⟨dI, hdI⟩ : ∃ dI : Int, dI = D := ⟨_, rfl⟩
      rw [← hrI] at hr cR eb hub cC cM
      rw [← htI] at eb hub cC cM
      rw [← hdI] at cC cM hK
      rw [← hqI] at hq cQ
      rw [hub] at cC cM
      have HUB : Hid (uhi (r * 2 + tI) = uhi (r * 2)) := hub
      have HI : Hid (r = R ∧ q = Q ∧ tI = t ∧ dI = D) := ⟨hrI, hqI, htI, hdI⟩
      clear hrI hqI htI hdI
      obtain ⟨y1, y2, y3, y4, y5⟩ := hr
      have hr0 : Pair wr (w.heap.size + 5) r := ⟨y1, y2, y3, y4, y5⟩
      by_cases hj64 : j < 64
      · have b1 := ebit_lo X j hj64
        rw [← HT.out, ← HI.out.2.2.1] at b1
        have jm : (j : Int) % 64 = j := by omega
        have jl : ¬ (64 : Int) ≤ (j : Int) := by omega
        have jd : decide ((64 : Int) ≤ (j : Int)) = false := decide_eq_false jl
        go_wp2_with fail
        refine (cR _).mono ?_
        rintro e w1 ⟨rfl, E1⟩
        have hr1 := hr0.ext E1
        have HR1 : Hid (Pair w1 (w.heap.size + 5) r) := hr1
        have HQ1 : Hid (Pair w1 (w.heap.size + 4) q) := hq.ext E1
        have hK1 := hK.ext E1
        have HK1 : Hid (Keep w X dI w1) := hK1
        obtain ⟨y1, y2, y3, y4, y5⟩ := hr1
        obtain ⟨z1, z2, z3, z4, z5⟩ := hK1.2.1
        obtain ⟨x1, x2, x3, x4, x5⟩ := HQ1.out
        clear hr0 hK hq hK1
        go_wp2_with fail
        refine (cQ _).mono ?_
        rintro e w2 ⟨rfl, E2⟩
        have HR2 : Hid (Pair w2 (w.heap.size + 5) (r * 2 + tI)) := ((HR1.out.set (r * 2)).put (r * 2 + tI) hub).ext E2
        have HQ2 : Hid (Pair w2 (w.heap.size + 4) q) := ((((HQ1.out.far (c := w.heap.size + 5) (by omega) _ _).far (c := w.heap.size + 5) (by omega) _ _).far (c := w.heap.size + 5) (by omega) _ _)).ext E2
        have HK2 : Hid (Keep w X dI w2) := ((((HK1.out.far (c := w.heap.size + 5) (by omega) _ _).far (c := w.heap.size + 5) (by omega) _ _).far (c := w.heap.size + 5) (by omega) _ _)).ext E2
        clear y1 y2 y3 y4 y5 z1 z2 z3 z4 z5 x1 x2 x3 x4 x5
        obtain ⟨y1, y2, y3, y4, y5⟩ := HR2.out
        obtain ⟨x1, x2, x3, x4, x5⟩ := HQ2.out
        obtain ⟨z1, z2, z3, z4, z5⟩ := HK2.out.2.2.1
        go_wp2_with fail
        refine (cC _).mono ?_
        rintro e w3 ⟨rfl, E3⟩
        have HR3 : Hid (Pair w3 (w.heap.size + 5) (r * 2 + tI)) := ((HR2.out.far (c := w.heap.size + 4) (by omega) _ _).far (c := w.heap.size + 4) (by omega) _ _).ext E3
        have HQ3 : Hid (Pair w3 (w.heap.size + 4) (q * 2)) := (HQ2.out.set (q * 2)).ext E3
        have HK3 : Hid (Keep w X dI w3) := ((HK2.out.far (c := w.heap.size + 4) (by omega) _ _).far (c := w.heap.size + 4) (by omega) _ _).ext E3
        clear y1 y2 y3 y4 y5 z1 z2 z3 z4 z5 x1 x2 x3 x4 x5
        obtain ⟨y1, y2, y3, y4, y5⟩ := HR3.out
        obtain ⟨x1, x2, x3, x4, x5⟩ := HQ3.out
        obtain ⟨z1, z2, z3, z4, z5⟩ := HK3.out.2.2.1
        by_cases hge : D ≤ R * 2 + t
        · obtain ⟨s1, s2⟩ := HS.out.1 hge
          have hc1 : decide (0 ≤ cmpI (r * 2 + tI) dI) = true := by
            obtain ⟨i1, i2, i3, i4⟩ := HI.out
            rw [decide_eq_true_eq]; unfold cmpI; rw [if_neg (by omega)]; split <;> omega
          have hc2 : 0 ≤ cmpI (r * 2 + tI) dI := by simpa using hc1
          have HG : Hid (D ≤ R * 2 + t) := hge
          have HS1 : Hid (X / 2 ^ j / D = Q * 2 + 1 ∧ X / 2 ^ j % D = R * 2 + t - D) := ⟨s1, s2⟩
          generalize cmpI (r * 2 + tI) dI = cc at *
          clear s1 s2 hge
          go_wp2_with fail
          refine (cM _).mono ?_
          rintro e w4 ⟨rfl, E4⟩
          have HR4 : Hid (Pair w4 (w.heap.size + 5) (r * 2 + tI)) := HR3.out.ext E4
          have HQ4 : Hid (Pair w4 (w.heap.size + 4) (q * 2)) := HQ3.out.ext E4
          have HK4 : Hid (Keep w X dI w4) := HK3.out.ext E4
          clear y1 y2 y3 y4 y5 z1 z2 z3 z4 z5 x1 x2 x3 x4 x5
          obtain ⟨y1, y2, y3, y4, y5⟩ := HR4.out
          obtain ⟨x1, x2, x3, x4, x5⟩ := HQ4.out
          have ob := or_bit q 1 (by omega)
          have obu := uhi_bit q 1 (by omega)
          have HOB : Hid (uhi (q * 2 + ((1 : Nat) : Int)) = uhi (q * 2)) := obu
          rw [show ((1 : Nat) : Int) = 1 from rfl] at ob
          clear obu
          go_wp2
          go_roundw
          case rel =>
            obtain ⟨i1, i2, i3, i4⟩ := HI.out
            have hge := HG.out
            refine ⟨j, by omega, rfl, ?_, ?_, ?_⟩
            · have := ((HK4.out.far (c := w.heap.size + 5) (by omega) 0 (.int .u64 (uhi (r * 2 + tI - dI)))).far (c := w.heap.size + 5) (by omega) 1 (.int .u64 (loOf (r * 2 + tI - dI)))).far (c := w.heap.size + 4) (by omega) 1 (.int .u64 (loOf (q * 2 + 1)))
              rw [i4] at this ⊢
              exact this
            · have e1 : ((X / 2 ^ j / D : Nat) : Int) = q * 2 + ((1 : Nat) : Int) := by rw [HS1.out.1]; omega
              rw [e1]
              exact ((HQ4.out.far (c := w.heap.size + 5) (by omega) _ _).far (c := w.heap.size + 5) (by omega) _ _).put _ HOB.out
            · have e1 : ((X / 2 ^ j % D : Nat) : Int) = r * 2 + tI - dI := by rw [HS1.out.2]; omega
              rw [e1]
              exact (HR4.out.set _).far (c := w.heap.size + 4) (by omega) _ _
          case measure => simp [intOf]
        · obtain ⟨s1, s2⟩ := HS.out.2 (by omega)
          have hc1 : decide (0 ≤ cmpI (r * 2 + tI) dI) = false := by
            obtain ⟨i1, i2, i3, i4⟩ := HI.out
            rw [decide_eq_false_iff_not]; unfold cmpI; rw [if_pos (by omega)]; omega
          have hc2 : ¬ 0 ≤ cmpI (r * 2 + tI) dI := by simpa using hc1
          have HS1 : Hid (X / 2 ^ j / D = Q * 2 ∧ X / 2 ^ j % D = R * 2 + t) := ⟨s1, s2⟩
          generalize cmpI (r * 2 + tI) dI = cc at *
          clear s1 s2 hge
          go_wp2
          go_roundw
          case rel =>
            obtain ⟨i1, i2, i3, i4⟩ := HI.out
            refine ⟨j, by omega, rfl, ?_, ?_, ?_⟩
            · have := HK3.out
              rw [i4] at this
              exact this
            · have e1 : ((X / 2 ^ j / D : Nat) : Int) = q * 2 := by rw [HS1.out.1]; omega
              rw [e1]
              exact HQ3.out
            · have e1 : ((X / 2 ^ j % D : Nat) : Int) = r * 2 + tI := by rw [HS1.out.2]; omega
              rw [e1]
              exact HR3.out
          case measure => simp [intOf]
      · obtain ⟨i, hi⟩ : ∃ i, j = i + 64 := ⟨j - 64, by omega⟩
        have b1 := ebit_hi X i HX.out
        rw [← hi, ← HT.out, ← HI.out.2.2.1] at b1
        have jm : (j : Int) % 64 = i := by omega
        have jl : (64 : Int) ≤ (j : Int) := by omega
        have jd : decide ((64 : Int) ≤ (j : Int)) = true := decide_eq_true jl
        have js : (j : Int) - 64 = i := by omega
        have ji : (i : Int) < 64 := by omega
        clear hi hj64
        go_wp2_with fail
        refine (cR _).mono ?_
        rintro e w1 ⟨rfl, E1⟩
        have hr1 := hr0.ext E1
        have HR1 : Hid (Pair w1 (w.heap.size + 5) r) := hr1
        have HQ1 : Hid (Pair w1 (w.heap.size + 4) q) := hq.ext E1
        have hK1 := hK.ext E1
        have HK1 : Hid (Keep w X dI w1) := hK1
        obtain ⟨y1, y2, y3, y4, y5⟩ := hr1
        obtain ⟨z1, z2, z3, z4, z5⟩ := hK1.2.1
        obtain ⟨x1, x2, x3, x4, x5⟩ := HQ1.out
        clear hr0 hK hq hK1
        go_wp2_with fail
        refine (cQ _).mono ?_
        rintro e w2 ⟨rfl, E2⟩
        have HR2 : Hid (Pair w2 (w.heap.size + 5) (r * 2 + tI)) := ((HR1.out.set (r * 2)).put (r * 2 + tI) hub).ext E2
        have HQ2 : Hid (Pair w2 (w.heap.size + 4) q) := ((((HQ1.out.far (c := w.heap.size + 5) (by omega) _ _).far (c := w.heap.size + 5) (by omega) _ _).far (c := w.heap.size + 5) (by omega) _ _)).ext E2
        have HK2 : Hid (Keep w X dI w2) := ((((HK1.out.far (c := w.heap.size + 5) (by omega) _ _).far (c := w.heap.size + 5) (by omega) _ _).far (c := w.heap.size + 5) (by omega) _ _)).ext E2
        clear y1 y2 y3 y4 y5 z1 z2 z3 z4 z5 x1 x2 x3 x4 x5
        obtain ⟨y1, y2, y3, y4, y5⟩ := HR2.out
        obtain ⟨x1, x2, x3, x4, x5⟩ := HQ2.out
        obtain ⟨z1, z2, z3, z4, z5⟩ := HK2.out.2.2.1
        go_wp2_with fail
        refine (cC _).mono ?_
        rintro e w3 ⟨rfl, E3⟩
        have HR3 : Hid (Pair w3 (w.heap.size + 5) (r * 2 + tI)) := ((HR2.out.far (c := w.heap.size + 4) (by omega) _ _).far (c := w.heap.size + 4) (by omega) _ _).ext E3
        have HQ3 : Hid (Pair w3 (w.heap.size + 4) (q * 2)) := (HQ2.out.set (q * 2)).ext E3
        have HK3 : Hid (Keep w X dI w3) := ((HK2.out.far (c := w.heap.size + 4) (by omega) _ _).far (c := w.heap.size + 4) (by omega) _ _).ext E3
        clear y1 y2 y3 y4 y5 z1 z2 z3 z4 z5 x1 x2 x3 x4 x5
        obtain ⟨y1, y2, y3, y4, y5⟩ := HR3.out
        obtain ⟨x1, x2, x3, x4, x5⟩ := HQ3.out
        obtain ⟨z1, z2, z3, z4, z5⟩ := HK3.out.2.2.1
        by_cases hge : D ≤ R * 2 + t
        · obtain ⟨s1, s2⟩ := HS.out.1 hge
          have hc1 : decide (0 ≤ cmpI (r * 2 + tI) dI) = true := by
            obtain ⟨i1, i2, i3, i4⟩ := HI.out
            rw [decide_eq_true_eq]; unfold cmpI; rw [if_neg (by omega)]; split <;> omega
          have hc2 : 0 ≤ cmpI (r * 2 + tI) dI := by simpa using hc1
          have HG : Hid (D ≤ R * 2 + t) := hge
          have HS1 : Hid (X / 2 ^ j / D = Q * 2 + 1 ∧ X / 2 ^ j % D = R * 2 + t - D) := ⟨s1, s2⟩
          generalize cmpI (r * 2 + tI) dI = cc at *
          clear s1 s2 hge
          go_wp2_with fail
          refine (cM _).mono ?_
          rintro e w4 ⟨rfl, E4⟩
          have HR4 : Hid (Pair w4 (w.heap.size + 5) (r * 2 + tI)) := HR3.out.ext E4
          have HQ4 : Hid (Pair w4 (w.heap.size + 4) (q * 2)) := HQ3.out.ext E4
          have HK4 : Hid (Keep w X dI w4) := HK3.out.ext E4
          clear y1 y2 y3 y4 y5 z1 z2 z3 z4 z5 x1 x2 x3 x4 x5
          obtain ⟨y1, y2, y3, y4, y5⟩ := HR4.out
          obtain ⟨x1, x2, x3, x4, x5⟩ := HQ4.out
          have ob := or_bit q 1 (by omega)
          have obu := uhi_bit q 1 (by omega)
          have HOB : Hid (uhi (q * 2 + ((1 : Nat) : Int)) = uhi (q * 2)) := obu
          rw [show ((1 : Nat) : Int) = 1 from rfl] at ob
          clear obu
          go_wp2
          go_roundw
          case rel =>
            obtain ⟨i1, i2, i3, i4⟩ := HI.out
            have hge := HG.out
            refine ⟨j, by omega, rfl, ?_, ?_, ?_⟩
            · have := ((HK4.out.far (c := w.heap.size + 5) (by omega) 0 (.int .u64 (uhi (r * 2 + tI - dI)))).far (c := w.heap.size + 5) (by omega) 1 (.int .u64 (loOf (r * 2 + tI - dI)))).far (c := w.heap.size + 4) (by omega) 1 (.int .u64 (loOf (q * 2 + 1)))
              rw [i4] at this ⊢
              exact this
            · have e1 : ((X / 2 ^ j / D : Nat) : Int) = q * 2 + ((1 : Nat) : Int) := by rw [HS1.out.1]; omega
              rw [e1]
              exact ((HQ4.out.far (c := w.heap.size + 5) (by omega) _ _).far (c := w.heap.size + 5) (by omega) _ _).put _ HOB.out
            · have e1 : ((X / 2 ^ j % D : Nat) : Int) = r * 2 + tI - dI := by rw [HS1.out.2]; omega
              rw [e1]
              exact (HR4.out.set _).far (c := w.heap.size + 4) (by omega) _ _
          case measure => simp [intOf]
        · obtain ⟨s1, s2⟩ := HS.out.2 (by omega)
          have hc1 : decide (0 ≤ cmpI (r * 2 + tI) dI) = false := by
            obtain ⟨i1, i2, i3, i4⟩ := HI.out
            rw [decide_eq_false_iff_not]; unfold cmpI; rw [if_pos (by omega)]; omega
          have hc2 : ¬ 0 ≤ cmpI (r * 2 + tI) dI := by simpa using hc1
          have HS1 : Hid (X / 2 ^ j / D = Q * 2 ∧ X / 2 ^ j % D = R * 2 + t) := ⟨s1, s2⟩
          generalize cmpI (r * 2 + tI) dI = cc at *
          clear s1 s2 hge
          go_wp2
          go_roundw
          case rel =>
            obtain ⟨i1, i2, i3, i4⟩ := HI.out
            refine ⟨j, by omega, rfl, ?_, ?_, ?_⟩
            · have := HK3.out
              rw [i4] at this
              exact this
            · have e1 : ((X / 2 ^ j / D : Nat) : Int) = q * 2 := by rw [HS1.out.1]; omega
              rw [e1]
              exact HQ3.out
            · have e1 : ((X / 2 ^ j % D : Nat) : Int) = r * 2 + tI := by rw [HS1.out.2]; omega
              rw [e1]
              exact HR3.out
          case measure => simp [intOf]
end Go.Proofs.YtdmiddpfgmbbhaaGreatDoor
