/-
 The contract of the document's own long division, bit by bit.
 Contracts of the document's products, quotients and rounding.
 Package fold's Mean, and the document's.
-/
import Derived.Test.YtalejeknigbhjaaGreatDoorY6
import Derived.Test.YtalejeknigbhjaaGreatDoorY8
import Derived.Test.YtalejeknigbhjaaGreatDoorY9
import Derived.Deep.RegionHeld3
namespace Go.Proofs.YtalejeknigbhjaaGreatDoor
open Go.RowKit
set_option maxHeartbeats 1000000

theorem Pair.put {w : World} {b : Nat} {x : Int} (h : Pair w b x) (y : Int) (hu : uhi y = uhi x) : Pair (w.setCell ⟨b, 1, none⟩ (.int .u64 (loOf y))) b y := by
 obtain ⟨z, c0, c1, f0, f1⟩ := h
 refine ⟨by simpa [World.setCell] using z, ?_, ?_, ?_, ?_⟩
 · rw [World.cell?_setCell_other _ _ _ _ (by simp), hu]; exact c0
 · exact World.cell?_setCell_same _ ⟨b, 1, none⟩ _ (by rw [c1])
 · rw [World.frozen?_setCell]; exact f0
 · rw [World.frozen?_setCell]; exact f1
/-- What stands still while the division goes on. -/
def Keep (w : World) (X D : Int) (wr : World) : Prop := Ext w wr ∧ Pair wr w.heap.size X ∧ Pair wr (w.heap.size + 1) D ∧ Pair wr (w.heap.size + 2) 0 ∧ Pair wr (w.heap.size + 3) 0
theorem Keep.ext {w W W' : World} {X D : Int} (h : Keep w X D W) (e : Ext W W') : Keep w X D W' :=
 ⟨h.1.trans e, h.2.1.ext e, h.2.2.1.ext e, h.2.2.2.1.ext e, h.2.2.2.2.ext e⟩
theorem Keep.far {w W : World} {X D : Int} (h : Keep w X D W) {c : Nat} (hc : w.heap.size + 4 ≤ c) (o : Nat) (v : Value) : Keep w X D (W.setCell ⟨c, o, none⟩ v) :=
 ⟨h.1.setCell (by show w.heap.size ≤ c; omega) _, h.2.1.far (by omega) _ _, h.2.2.1.far (by omega) _ _, h.2.2.2.1.far (by omega) _ _, h.2.2.2.2.far (by omega) _ _⟩
theorem or_bit (x : Int) (t : Nat) (ht : t < 2) : bits .or .u64 (loOf (x * 2)) (t : Int) = loOf (x * 2 + t) := by
 obtain ⟨l, hl⟩ := Int.eq_ofNat_of_zero_le (lo_bd (x * 2)).1
 have b2 := (lo_bd (x * 2)).2
 have he : l % 2 = 0 := by unfold loOf at hl; omega
 obtain ⟨m, rfl⟩ : ∃ m, l = 2 * m := ⟨l / 2, by omega⟩
 rw [hl, or_even m t ht (by omega)]
 unfold loOf at hl ⊢
 omega
theorem uhi_bit (x : Int) (t : Nat) (ht : t < 2) : uhi (x * 2 + t) = uhi (x * 2) := by unfold uhi; omega
theorem bit_lo (X j : Nat) (hj : j < 64) : X % 18446744073709551616 / 2 ^ j % 2 = X / 2 ^ j % 2 := by
 have e : 18446744073709551616 = 2 ^ j * 2 ^ (64 - j) := by rw [← Nat.pow_add, show j + (64 - j) = 64 from by omega]
 rw [e, Nat.mod_mul_right_div_self]
 obtain ⟨i, hi⟩ : ∃ i, 64 - j = i + 1 := ⟨63 - j, by omega⟩
 rw [hi, Nat.pow_succ]
 exact Nat.mod_mul_left_mod _ _ _
theorem bit_hi (X i : Nat) : X / 18446744073709551616 / 2 ^ i % 2 = X / 2 ^ (i + 64) % 2 := by
 rw [Nat.div_div_eq_div_mul]
 have : 18446744073709551616 * 2 ^ i = 2 ^ (i + 64) := by rw [Nat.pow_add, Nat.mul_comm]
 rw [this]
/-- One step of the division. -/
theorem div_no (Z D t : Nat) (hD : 0 < D) (h : Z % D * 2 + t < D) : (2 * Z + t) / D = Z / D * 2 ∧ (2 * Z + t) % D = Z % D * 2 + t := by
 have e := Nat.div_add_mod Z D
 have : 2 * Z + t = (Z % D * 2 + t) + D * (Z / D * 2) := by rw [Nat.mul_comm (Z / D) 2, ← Nat.mul_assoc, Nat.mul_comm D 2, Nat.mul_assoc]; omega
 rw [this, Nat.add_mul_div_left _ _ hD, Nat.add_mul_mod_self_left, Nat.div_eq_of_lt h, Nat.mod_eq_of_lt h, Nat.zero_add]
 exact ⟨rfl, rfl⟩
theorem div_yes (Z D t : Nat) (hD : 0 < D) (ht : t < 2) (h : D ≤ Z % D * 2 + t) : (2 * Z + t) / D = Z / D * 2 + 1 ∧ (2 * Z + t) % D = Z % D * 2 + t - D := by
 have e := Nat.div_add_mod Z D
 have l := Nat.mod_lt Z hD
 have hl : Z % D * 2 + t - D < D := by omega
 have : 2 * Z + t = (Z % D * 2 + t - D) + D * (Z / D * 2 + 1) := by
   rw [Nat.mul_add, Nat.mul_one, Nat.mul_comm (Z / D) 2, ← Nat.mul_assoc, Nat.mul_comm D 2, Nat.mul_assoc]; omega
 rw [this, Nat.add_mul_div_left _ _ hD, Nat.add_mul_mod_self_left, Nat.div_eq_of_lt hl, Nat.mod_eq_of_lt hl, Nat.zero_add]
 exact ⟨rfl, rfl⟩
theorem ebit_lo (X j : Nat) (hj : j < 64) : bits .and .u64 (loOf (X : Int) / 2 ^ j) 1 = ((X / 2 ^ j % 2 : Nat) : Int) := by
 have e : loOf (X : Int) = ((X % 18446744073709551616 : Nat) : Int) := by unfold loOf; omega
 have f : ((X % 18446744073709551616 : Nat) : Int) / 2 ^ j = ((X % 18446744073709551616 / 2 ^ j : Nat) : Int) := by simp
 rw [e, f, and_one _ (Nat.lt_of_le_of_lt (Nat.div_le_self _ _) (Nat.mod_lt _ (by decide))), bit_lo X j hj]
theorem ebit_hi (X i : Nat) (hX : X < 340282366920938463463374607431768211456) : bits .and .u64 (uhi (X : Int) / 2 ^ i) 1 = ((X / 2 ^ (i + 64) % 2 : Nat) : Int) := by
 have e : uhi (X : Int) = ((X / 18446744073709551616 : Nat) : Int) := by unfold uhi; omega
 have f : ((X / 18446744073709551616 : Nat) : Int) / 2 ^ i = ((X / 18446744073709551616 / 2 ^ i : Nat) : Int) := by simp
 rw [e, f, and_one _ (Nat.lt_of_le_of_lt (Nat.div_le_self _ _) (by omega)), bit_hi X i]
theorem divide_any (X D : Nat) (hX : X < 340282366920938463463374607431768211456) (hD : 0 < D) (hD' : D < 170141183460469231731687303715884105728) (w : World) :
   Calls Tryz.prog 123 #[.agg #[.int .u64 (uhi X), .int .u64 (loOf X)], .agg #[.int .u64 (uhi D), .int .u64 (loOf D)]] w fun e w' =>
     e = .returned (.tuple #[.agg #[.int .u64 (uhi ((X / D : Nat) : Int)), .int .u64 (loOf ((X / D : Nat) : Int))], .agg #[.int .u64 (uhi ((X % D : Nat) : Int)), .int .u64 (loOf ((X % D : Nat) : Int))]]) ∧ Ext w w' := by
 have u0 : uhi 0 = 0 := by decide
 have l0 : loOf 0 = 0 := by decide
 obtain ⟨a1, a2⟩ := uhi_bd X; obtain ⟨a3, a4⟩ := lo_bd X
 have HX : Hid (X < 340282366920938463463374607431768211456) := hX
 have HD' : Hid (D < 170141183460469231731687303715884105728) := hD'
 have HD : Hid (0 < D) := hD
 clear hX hD hD'
 go_enter Tryz.func123, Tryz.ntmps123
 go_wp2
 go_loopw [8, 9] (fun i _ wr => ∃ k : Nat, k ≤ 128 ∧ i = .int .i64 ((k : Int) - 1) ∧ Keep w X D wr ∧ Pair wr (w.heap.size + 4) ((X / 2 ^ k / D : Nat) : Int) ∧ Pair wr (w.heap.size + 5) ((X / 2 ^ k % D : Nat) : Int)) (fun i _ _ => (intOf i + 1).toNat)
 case atStart =>
   have h0 : X / 2 ^ 128 = 0 := Nat.div_eq_of_lt HX.out
   refine ⟨128, Nat.le_refl _, rfl, ⟨?_, ?_, ?_, ?_, ?_⟩, ?_, ?_⟩
   · repeat (first | exact Ext.refl _ | apply Ext.alloc)
   · simp [Pair, go_sem, World.cell?_alloc_past]
   · simp [Pair, go_sem, World.cell?_alloc_past]
   · simp [Pair, u0, l0, go_sem, World.cell?_alloc_past]
   · simp [Pair, u0, l0, go_sem, World.cell?_alloc_past]
   · rw [h0, Nat.zero_div]; simp [Pair, u0, l0, go_sem, World.cell?_alloc_past]
   · rw [h0, Nat.zero_mod]; simp [Pair, u0, l0, go_sem]
 case round =>
   obtain ⟨k, hk, rfl, hK, hq, hr⟩ := hrel
   rcases Nat.eq_zero_or_pos k with rfl | hk0
   · rw [Nat.pow_zero, Nat.div_one] at hq hr
     have hE := hK.1
     obtain ⟨q1, q2, q3, q4, q5⟩ := hq
     obtain ⟨r1, r2, r3, r4, r5⟩ := hr
     obtain ⟨m1, m2, m3, m4, m5⟩ := hK.2.2.2.1
     obtain ⟨n1, n2, n3, n4, n5⟩ := hK.2.2.2.2
     obtain ⟨Qh, hQh⟩ : ∃ v, v = uhi ((X / D : Nat) : Int) := ⟨_, rfl⟩
     obtain ⟨Ql, hQl⟩ : ∃ v, v = loOf ((X / D : Nat) : Int) := ⟨_, rfl⟩
     obtain ⟨Rh, hRh⟩ : ∃ v, v = uhi ((X % D : Nat) : Int) := ⟨_, rfl⟩
     obtain ⟨Rl, hRl⟩ : ∃ v, v = loOf ((X % D : Nat) : Int) := ⟨_, rfl⟩
     rw [← hQh] at q2; rw [← hQl] at q3; rw [← hRh] at r2; rw [← hRl] at r3
     rw [Int.natCast_ediv] at hQh hQl
     rw [Int.natCast_emod] at hRh hRl
     have HH : Hid ((Qh = uhi ((X : Int) / D) ∧ Ql = loOf ((X : Int) / D)) ∧ Rh = uhi ((X : Int) % D) ∧ Rl = loOf ((X : Int) % D)) := ⟨⟨hQh, hQl⟩, hRh, hRl⟩
     clear hK hQh hQl hRh hRl
     go_wp2
     go_region
     all_goals
       go_wp2
       simp [bodyPost, results, Tryz.results123, go_sem, *]
       refine ⟨HH.out, ?_⟩
       repeat (first | exact hE | apply Ext.drew | refine Ext.setCell ?_ (by first | (simp; done) | (simp; omega)) _)
   · obtain ⟨j, rfl⟩ : ∃ j, k = j + 1 := ⟨k - 1, by omega⟩
     have ej : (((j + 1 : Nat) : Int) - 1) = (j : Int) := by omega
     rw [ej]
     clear ej hk0
     have hj : j < 128 := by omega
     have hjI : (j : Int) < 128 := by omega
     clear hk
     obtain ⟨t, ht⟩ : ∃ t, t = X / 2 ^ j % 2 := ⟨_, rfl⟩
     have ht2 : t < 2 := by omega
     have hZ := half_step X j
     rw [← ht] at hZ
     generalize hZe : X / 2 ^ (j + 1) = Z at *
     have cR := fun W => up_w ((Z % D : Nat) : Int) W
     have cQ := fun W => up_w ((Z / D : Nat) : Int) W
     have hrl := Nat.mod_lt Z HD.out
     have eb := or_bit ((Z % D : Nat) : Int) t ht2
     have hub := uhi_bit ((Z % D : Nat) : Int) t ht2
     have cC := fun W => cmp_w (((Z % D : Nat) : Int) * 2 + t) D (by omega) (by have := HD'.out; omega) (by omega) (by have := HD'.out; omega) W
     have cM := fun W => minusW_w (((Z % D : Nat) : Int) * 2 + t) D W
     have hstep : (D ≤ Z % D * 2 + t → X / 2 ^ j / D = Z / D * 2 + 1 ∧ X / 2 ^ j % D = Z % D * 2 + t - D) ∧ (Z % D * 2 + t < D → X / 2 ^ j / D = Z / D * 2 ∧ X / 2 ^ j % D = Z % D * 2 + t) :=
       ⟨fun h => by rw [hZ]; exact div_yes Z D t HD.out ht2 h, fun h => by rw [hZ]; exact div_no Z D t HD.out h⟩
     have HS : Hid _ := hstep
     have HT : Hid (t = X / 2 ^ j % 2) := ht
     have HZ : Hid (X / 2 ^ j = 2 * Z + t) := hZ
     generalize hR : Z % D = R at *
     generalize hQ : Z / D = Q at *
     clear hstep ht hZ hZe hR hQ hrl
     obtain ⟨r, hrI⟩ : ∃ r : Int, r = R := ⟨_, rfl⟩
     obtain ⟨q, hqI⟩ : ∃ q : Int, q = Q := ⟨_, rfl⟩
     obtain ⟨tI, htI⟩ : ∃ tI : Int, tI = t := ⟨_, rfl⟩
     obtain ⟨dI, hdI⟩ : ∃ dI : Int, dI = D := ⟨_, rfl⟩
     rw [← hrI] at hr cR eb hub cC cM
     rw [← htI] at eb hub cC cM
     rw [← hdI] at cC cM hK
     rw [← hqI] at hq cQ
     rw [hub] at cC cM
     have HUB : Hid (uhi (r * 2 + tI) = uhi (r * 2)) := hub
     have HI : Hid (r = R ∧ q = Q ∧ tI = t ∧ dI = D) := ⟨hrI, hqI, htI, hdI⟩
     clear hrI hqI htI hdI
     obtain ⟨y1, y2, y3, y4, y5⟩ := hr
     have hr0 : Pair wr (w.heap.size + 5) r := ⟨y1, y2, y3, y4, y5⟩
     by_cases hj64 : j < 64
     · have b1 := ebit_lo X j hj64
       rw [← HT.out, ← HI.out.2.2.1] at b1
       have jm : (j : Int) % 64 = j := by omega
       have jl : ¬ (64 : Int) ≤ (j : Int) := by omega
       have jd : decide ((64 : Int) ≤ (j : Int)) = false := decide_eq_false jl
       go_wp2_with fail
       refine (cR _).mono ?_
       rintro e w1 ⟨rfl, E1⟩
       have hr1 := hr0.ext E1
       have HR1 : Hid (Pair w1 (w.heap.size + 5) r) := hr1
       have HQ1 : Hid (Pair w1 (w.heap.size + 4) q) := hq.ext E1
       have hK1 := hK.ext E1
       have HK1 : Hid (Keep w X dI w1) := hK1
       obtain ⟨y1, y2, y3, y4, y5⟩ := hr1
       obtain ⟨z1, z2, z3, z4, z5⟩ := hK1.2.1
       obtain ⟨x1, x2, x3, x4, x5⟩ := HQ1.out
       clear hr0 hK hq hK1
       go_wp2_with fail
       refine (cQ _).mono ?_
       rintro e w2 ⟨rfl, E2⟩
       have HR2 : Hid (Pair w2 (w.heap.size + 5) (r * 2 + tI)) := ((HR1.out.set (r * 2)).put (r * 2 + tI) hub).ext E2
       have HQ2 : Hid (Pair w2 (w.heap.size + 4) q) := ((((HQ1.out.far (c := w.heap.size + 5) (by omega) _ _).far (c := w.heap.size + 5) (by omega) _ _).far (c := w.heap.size + 5) (by omega) _ _)).ext E2
       have HK2 : Hid (Keep w X dI w2) := ((((HK1.out.far (c := w.heap.size + 5) (by omega) _ _).far (c := w.heap.size + 5) (by omega) _ _).far (c := w.heap.size + 5) (by omega) _ _)).ext E2
       clear y1 y2 y3 y4 y5 z1 z2 z3 z4 z5 x1 x2 x3 x4 x5
       obtain ⟨y1, y2, y3, y4, y5⟩ := HR2.out
       obtain ⟨x1, x2, x3, x4, x5⟩ := HQ2.out
       obtain ⟨z1, z2, z3, z4, z5⟩ := HK2.out.2.2.1
       go_wp2_with fail
       refine (cC _).mono ?_
       rintro e w3 ⟨rfl, E3⟩
       have HR3 : Hid (Pair w3 (w.heap.size + 5) (r * 2 + tI)) := ((HR2.out.far (c := w.heap.size + 4) (by omega) _ _).far (c := w.heap.size + 4) (by omega) _ _).ext E3
       have HQ3 : Hid (Pair w3 (w.heap.size + 4) (q * 2)) := (HQ2.out.set (q * 2)).ext E3
       have HK3 : Hid (Keep w X dI w3) := ((HK2.out.far (c := w.heap.size + 4) (by omega) _ _).far (c := w.heap.size + 4) (by omega) _ _).ext E3
       clear y1 y2 y3 y4 y5 z1 z2 z3 z4 z5 x1 x2 x3 x4 x5
       obtain ⟨y1, y2, y3, y4, y5⟩ := HR3.out
       obtain ⟨x1, x2, x3, x4, x5⟩ := HQ3.out
       obtain ⟨z1, z2, z3, z4, z5⟩ := HK3.out.2.2.1
       by_cases hge : D ≤ R * 2 + t
       · obtain ⟨s1, s2⟩ := HS.out.1 hge
         have hc1 : decide (0 ≤ cmpI (r * 2 + tI) dI) = true := by
           obtain ⟨i1, i2, i3, i4⟩ := HI.out
           rw [decide_eq_true_eq]; unfold cmpI; rw [if_neg (by omega)]; split <;> omega
         have hc2 : 0 ≤ cmpI (r * 2 + tI) dI := by simpa using hc1
         have HG : Hid (D ≤ R * 2 + t) := hge
         have HS1 : Hid (X / 2 ^ j / D = Q * 2 + 1 ∧ X / 2 ^ j % D = R * 2 + t - D) := ⟨s1, s2⟩
         generalize cmpI (r * 2 + tI) dI = cc at *
         clear s1 s2 hge
         go_wp2_with fail
         refine (cM _).mono ?_
         rintro e w4 ⟨rfl, E4⟩
         have HR4 : Hid (Pair w4 (w.heap.size + 5) (r * 2 + tI)) := HR3.out.ext E4
         have HQ4 : Hid (Pair w4 (w.heap.size + 4) (q * 2)) := HQ3.out.ext E4
         have HK4 : Hid (Keep w X dI w4) := HK3.out.ext E4
         clear y1 y2 y3 y4 y5 z1 z2 z3 z4 z5 x1 x2 x3 x4 x5
         obtain ⟨y1, y2, y3, y4, y5⟩ := HR4.out
         obtain ⟨x1, x2, x3, x4, x5⟩ := HQ4.out
         have ob := or_bit q 1 (by omega)
         have obu := uhi_bit q 1 (by omega)
         have HOB : Hid (uhi (q * 2 + ((1 : Nat) : Int)) = uhi (q * 2)) := obu
         rw [show ((1 : Nat) : Int) = 1 from rfl] at ob
         clear obu
         go_wp2
         go_roundw
         case rel =>
           obtain ⟨i1, i2, i3, i4⟩ := HI.out
           have hge := HG.out
           refine ⟨j, by omega, rfl, ?_, ?_, ?_⟩
           · have := ((HK4.out.far (c := w.heap.size + 5) (by omega) 0 (.int .u64 (uhi (r * 2 + tI - dI)))).far (c := w.heap.size + 5) (by omega) 1 (.int .u64 (loOf (r * 2 + tI - dI)))).far (c := w.heap.size + 4) (by omega) 1 (.int .u64 (loOf (q * 2 + 1)))
             rw [i4] at this ⊢
             exact this
           · have e1 : ((X / 2 ^ j / D : Nat) : Int) = q * 2 + ((1 : Nat) : Int) := by rw [HS1.out.1]; omega
             rw [e1]
             exact ((HQ4.out.far (c := w.heap.size + 5) (by omega) _ _).far (c := w.heap.size + 5) (by omega) _ _).put _ HOB.out
           · have e1 : ((X / 2 ^ j % D : Nat) : Int) = r * 2 + tI - dI := by rw [HS1.out.2]; omega
             rw [e1]
             exact (HR4.out.set _).far (c := w.heap.size + 4) (by omega) _ _
         case measure => simp [intOf]
       · obtain ⟨s1, s2⟩ := HS.out.2 (by omega)
         have hc1 : decide (0 ≤ cmpI (r * 2 + tI) dI) = false := by
           obtain ⟨i1, i2, i3, i4⟩ := HI.out
           rw [decide_eq_false_iff_not]; unfold cmpI; rw [if_pos (by omega)]; omega
         have hc2 : ¬ 0 ≤ cmpI (r * 2 + tI) dI := by simpa using hc1
         have HS1 : Hid (X / 2 ^ j / D = Q * 2 ∧ X / 2 ^ j % D = R * 2 + t) := ⟨s1, s2⟩
         generalize cmpI (r * 2 + tI) dI = cc at *
         clear s1 s2 hge
         go_wp2
         go_roundw
         case rel =>
           obtain ⟨i1, i2, i3, i4⟩ := HI.out
           refine ⟨j, by omega, rfl, ?_, ?_, ?_⟩
           · have := HK3.out
             rw [i4] at this
             exact this
           · have e1 : ((X / 2 ^ j / D : Nat) : Int) = q * 2 := by rw [HS1.out.1]; omega
             rw [e1]
             exact HQ3.out
           · have e1 : ((X / 2 ^ j % D : Nat) : Int) = r * 2 + tI := by rw [HS1.out.2]; omega
             rw [e1]
             exact HR3.out
         case measure => simp [intOf]
     · obtain ⟨i, hi⟩ : ∃ i, j = i + 64 := ⟨j - 64, by omega⟩
       have b1 := ebit_hi X i HX.out
       rw [← hi, ← HT.out, ← HI.out.2.2.1] at b1
       have jm : (j : Int) % 64 = i := by omega
       have jl : (64 : Int) ≤ (j : Int) := by omega
       have jd : decide ((64 : Int) ≤ (j : Int)) = true := decide_eq_true jl
       have js : (j : Int) - 64 = i := by omega
       have ji : (i : Int) < 64 := by omega
       clear hi hj64
       go_wp2_with fail
       refine (cR _).mono ?_
       rintro e w1 ⟨rfl, E1⟩
       have hr1 := hr0.ext E1
       have HR1 : Hid (Pair w1 (w.heap.size + 5) r) := hr1
       have HQ1 : Hid (Pair w1 (w.heap.size + 4) q) := hq.ext E1
       have hK1 := hK.ext E1
       have HK1 : Hid (Keep w X dI w1) := hK1
       obtain ⟨y1, y2, y3, y4, y5⟩ := hr1
       obtain ⟨z1, z2, z3, z4, z5⟩ := hK1.2.1
       obtain ⟨x1, x2, x3, x4, x5⟩ := HQ1.out
       clear hr0 hK hq hK1
       go_wp2_with fail
       refine (cQ _).mono ?_
       rintro e w2 ⟨rfl, E2⟩
       have HR2 : Hid (Pair w2 (w.heap.size + 5) (r * 2 + tI)) := ((HR1.out.set (r * 2)).put (r * 2 + tI) hub).ext E2
       have HQ2 : Hid (Pair w2 (w.heap.size + 4) q) := ((((HQ1.out.far (c := w.heap.size + 5) (by omega) _ _).far (c := w.heap.size + 5) (by omega) _ _).far (c := w.heap.size + 5) (by omega) _ _)).ext E2
       have HK2 : Hid (Keep w X dI w2) := ((((HK1.out.far (c := w.heap.size + 5) (by omega) _ _).far (c := w.heap.size + 5) (by omega) _ _).far (c := w.heap.size + 5) (by omega) _ _)).ext E2
       clear y1 y2 y3 y4 y5 z1 z2 z3 z4 z5 x1 x2 x3 x4 x5
       obtain ⟨y1, y2, y3, y4, y5⟩ := HR2.out
       obtain ⟨x1, x2, x3, x4, x5⟩ := HQ2.out
       obtain ⟨z1, z2, z3, z4, z5⟩ := HK2.out.2.2.1
       go_wp2_with fail
       refine (cC _).mono ?_
       rintro e w3 ⟨rfl, E3⟩
       have HR3 : Hid (Pair w3 (w.heap.size + 5) (r * 2 + tI)) := ((HR2.out.far (c := w.heap.size + 4) (by omega) _ _).far (c := w.heap.size + 4) (by omega) _ _).ext E3
       have HQ3 : Hid (Pair w3 (w.heap.size + 4) (q * 2)) := (HQ2.out.set (q * 2)).ext E3
       have HK3 : Hid (Keep w X dI w3) := ((HK2.out.far (c := w.heap.size + 4) (by omega) _ _).far (c := w.heap.size + 4) (by omega) _ _).ext E3
       clear y1 y2 y3 y4 y5 z1 z2 z3 z4 z5 x1 x2 x3 x4 x5
       obtain ⟨y1, y2, y3, y4, y5⟩ := HR3.out
       obtain ⟨x1, x2, x3, x4, x5⟩ := HQ3.out
       obtain ⟨z1, z2, z3, z4, z5⟩ := HK3.out.2.2.1
       by_cases hge : D ≤ R * 2 + t
       · obtain ⟨s1, s2⟩ := HS.out.1 hge
         have hc1 : decide (0 ≤ cmpI (r * 2 + tI) dI) = true := by
           obtain ⟨i1, i2, i3, i4⟩ := HI.out
           rw [decide_eq_true_eq]; unfold cmpI; rw [if_neg (by omega)]; split <;> omega
         have hc2 : 0 ≤ cmpI (r * 2 + tI) dI := by simpa using hc1
         have HG : Hid (D ≤ R * 2 + t) := hge
         have HS1 : Hid (X / 2 ^ j / D = Q * 2 + 1 ∧ X / 2 ^ j % D = R * 2 + t - D) := ⟨s1, s2⟩
         generalize cmpI (r * 2 + tI) dI = cc at *
         clear s1 s2 hge
         go_wp2_with fail
         refine (cM _).mono ?_
         rintro e w4 ⟨rfl, E4⟩
         have HR4 : Hid (Pair w4 (w.heap.size + 5) (r * 2 + tI)) := HR3.out.ext E4
         have HQ4 : Hid (Pair w4 (w.heap.size + 4) (q * 2)) := HQ3.out.ext E4
         have HK4 : Hid (Keep w X dI w4) := HK3.out.ext E4
         clear y1 y2 y3 y4 y5 z1 z2 z3 z4 z5 x1 x2 x3 x4 x5
         obtain ⟨y1, y2, y3, y4, y5⟩ := HR4.out
         obtain ⟨x1, x2, x3, x4, x5⟩ := HQ4.out
         have ob := or_bit q 1 (by omega)
         have obu := uhi_bit q 1 (by omega)
         have HOB : Hid (uhi (q * 2 + ((1 : Nat) : Int)) = uhi (q * 2)) := obu
         rw [show ((1 : Nat) : Int) = 1 from rfl] at ob
         clear obu
         go_wp2
         go_roundw
         case rel =>
           obtain ⟨i1, i2, i3, i4⟩ := HI.out
           have hge := HG.out
           refine ⟨j, by omega, rfl, ?_, ?_, ?_⟩
           · have := ((HK4.out.far (c := w.heap.size + 5) (by omega) 0 (.int .u64 (uhi (r * 2 + tI - dI)))).far (c := w.heap.size + 5) (by omega) 1 (.int .u64 (loOf (r * 2 + tI - dI)))).far (c := w.heap.size + 4) (by omega) 1 (.int .u64 (loOf (q * 2 + 1)))
             rw [i4] at this ⊢
             exact this
           · have e1 : ((X / 2 ^ j / D : Nat) : Int) = q * 2 + ((1 : Nat) : Int) := by rw [HS1.out.1]; omega
             rw [e1]
             exact ((HQ4.out.far (c := w.heap.size + 5) (by omega) _ _).far (c := w.heap.size + 5) (by omega) _ _).put _ HOB.out
           · have e1 : ((X / 2 ^ j % D : Nat) : Int) = r * 2 + tI - dI := by rw [HS1.out.2]; omega
             rw [e1]
             exact (HR4.out.set _).far (c := w.heap.size + 4) (by omega) _ _
         case measure => simp [intOf]
       · obtain ⟨s1, s2⟩ := HS.out.2 (by omega)
         have hc1 : decide (0 ≤ cmpI (r * 2 + tI) dI) = false := by
           obtain ⟨i1, i2, i3, i4⟩ := HI.out
           rw [decide_eq_false_iff_not]; unfold cmpI; rw [if_pos (by omega)]; omega
         have hc2 : ¬ 0 ≤ cmpI (r * 2 + tI) dI := by simpa using hc1
         have HS1 : Hid (X / 2 ^ j / D = Q * 2 ∧ X / 2 ^ j % D = R * 2 + t) := ⟨s1, s2⟩
         generalize cmpI (r * 2 + tI) dI = cc at *
         clear s1 s2 hge
         go_wp2
         go_roundw
         case rel =>
           obtain ⟨i1, i2, i3, i4⟩ := HI.out
           refine ⟨j, by omega, rfl, ?_, ?_, ?_⟩
           · have := HK3.out
             rw [i4] at this
             exact this
           · have e1 : ((X / 2 ^ j / D : Nat) : Int) = q * 2 := by rw [HS1.out.1]; omega
             rw [e1]
             exact HQ3.out
           · have e1 : ((X / 2 ^ j % D : Nat) : Int) = r * 2 + tI := by rw [HS1.out.2]; omega
             rw [e1]
             exact HR3.out
         case measure => simp [intOf]

open Go.RowKit
set_option maxHeartbeats 1000000

theorem uhi_small (x : Nat) (h : x < 18446744073709551616) : uhi (x : Int) = 0 := by unfold uhi; omega
theorem lo_small' (x : Nat) (h : x < 18446744073709551616) : loOf (x : Int) = x := by unfold loOf; omega
theorem near_w (X d : Nat) (hX : X < 340282366920938463463374607431768211456) (hd : 0 < d) (hd' : d < 18446744073709551616) (w : World) :
   Calls Tryz.prog 85 #[.agg #[.int .u64 (uhi X), .int .u64 (loOf X)], .int .u64 d] w fun e w' => e = .returned (.agg #[.int .u64 (uhi (nearQ X d)), .int .u64 (loOf (nearQ X d))]) ∧ Ext w w' := by
 have u0 : uhi 0 = 0 := by decide
 have l0 : loOf 0 = 0 := by decide
 have cD := fun W => divide_any X d hX hd (by omega) W
 have cU := fun W => up_w ((X % d : Nat) : Int) W
 have hrl := Nat.mod_lt X hd
 have cC := fun W => cmp_w (((X % d : Nat) : Int) * 2) d (by omega) (by omega) (by omega) (by omega) W
 have cP := fun W => plusW_w ((X / d : Nat) : Int) ((1 : Nat) : Int) W
 rw [uhi_small d hd', lo_small' d hd'] at cD cC
 rw [uhi_small 1 (by omega), lo_small' 1 (by omega)] at cP
 have HN : Hid (((nearQ X d : Nat) : Int) = if d ≤ 2 * (X % d) then ((X / d : Nat) : Int) + ((1 : Nat) : Int) else ((X / d : Nat) : Int)) := by
   show ((nearQ X d : Nat) : Int) = _
   unfold nearQ
   split <;> omega
 obtain ⟨u1, u2⟩ := uhi_bd X; obtain ⟨u3, u4⟩ := lo_bd X
 obtain ⟨q, hq⟩ : ∃ q : Int, q = ((X / d : Nat) : Int) := ⟨_, rfl⟩
 obtain ⟨r, hr⟩ : ∃ r : Int, r = ((X % d : Nat) : Int) := ⟨_, rfl⟩
 rw [← hq] at cP HN
 rw [← hr] at cU cC
 rw [← hq, ← hr] at cD
 rw [show ((1 : Nat) : Int) = 1 from rfl] at cP HN
 have HR : Hid (r = ((X % d : Nat) : Int)) := hr
 clear hq hr hrl hX
 by_cases hge : d ≤ 2 * (X % d)
 · have hN := HN.out
   rw [if_pos hge] at hN
   rw [hN]
   have hc1 : decide (0 ≤ cmpI (r * 2) d) = true := by
     rw [decide_eq_true_eq, HR.out]; unfold cmpI; rw [if_neg (by omega)]; split <;> omega
   have hc2 : 0 ≤ cmpI (r * 2) d := by simpa using hc1
   generalize cmpI (r * 2) d = cc at *
   clear hge hN hd hd'
   go_enter Tryz.func85, Tryz.ntmps85
   go_wp2_with fail
   refine (cD _).mono ?_
   rintro e w1 ⟨rfl, E1⟩
   have H1 : Hid (Pair w1 (w.heap.size + 1) 0) := Pair.ext (by simp [Pair, u0, l0, go_sem]) E1
   have X1 : Hid (Ext w w1) := (((Ext.refl _).alloc _).alloc _).trans E1
   have hz := E1.sz
   clear E1
   go_wp2_with fail
   refine (cU _).mono ?_
   rintro e w2 ⟨rfl, E2⟩
   have HQ2 : Hid (Pair w2 w1.heap.size q) := Pair.ext (by simp [Pair, go_sem, World.cell?_alloc_past]) E2
   have H2 : Hid (Pair w2 (w.heap.size + 1) 0) := ((H1.out.ext ((Ext.refl _).alloc _)).ext ((Ext.refl _).alloc _)).ext E2
   have X2 : Hid (Ext w w2) := ((X1.out.alloc _).alloc _).trans E2
   have hne : ¬ w1.heap.size = w.heap.size + 1 := by simp at hz; omega
   clear E2
   go_wp2_with fail
   refine (cC _).mono ?_
   rintro e w3 ⟨rfl, E3⟩
   have HQ3 : Hid (Pair w3 w1.heap.size q) := HQ2.out.ext E3
   have H3 : Hid (Pair w3 (w.heap.size + 1) 0) := H2.out.ext E3
   have X3 : Hid (Ext w w3) := X2.out.trans E3
   have hsz : w.heap.size ≤ w1.heap.size := X1.out.sz
   clear E3
   obtain ⟨x1, x2, x3, x4, x5⟩ := HQ3.out
   obtain ⟨y1, y2, y3, y4, y5⟩ := H3.out
   go_wp2_with fail
   refine (cP _).mono ?_
   rintro e w4 ⟨rfl, E4⟩
   have HQ4 : Hid (Pair w4 w1.heap.size q) := HQ3.out.ext E4
   have H4 : Hid (Pair w4 (w.heap.size + 1) 0) := H3.out.ext E4
   have X4 : Hid (Ext w w4) := X3.out.trans E4
   clear E4 x1 x2 x3 x4 x5 y1 y2 y3 y4 y5
   obtain ⟨x1, x2, x3, x4, x5⟩ := HQ4.out
   obtain ⟨y1, y2, y3, y4, y5⟩ := H4.out
   go_wp2
   simp [bodyPost, results, Tryz.results85, go_sem, *]
   exact (((X4.out.setCell hsz _).setCell hsz _).setCell (by simp) _).setCell (by simp) _
 · have hN := HN.out
   rw [if_neg hge] at hN
   rw [hN]
   have hc1 : decide (0 ≤ cmpI (r * 2) d) = false := by
     rw [decide_eq_false_iff_not, HR.out]; unfold cmpI; rw [if_pos (by omega)]; omega
   have hc2 : ¬ 0 ≤ cmpI (r * 2) d := by simpa using hc1
   generalize cmpI (r * 2) d = cc at *
   clear hge hN hd hd'
   go_enter Tryz.func85, Tryz.ntmps85
   go_wp2_with fail
   refine (cD _).mono ?_
   rintro e w1 ⟨rfl, E1⟩
   have H1 : Hid (Pair w1 (w.heap.size + 1) 0) := Pair.ext (by simp [Pair, u0, l0, go_sem]) E1
   have X1 : Hid (Ext w w1) := (((Ext.refl _).alloc _).alloc _).trans E1
   have hz := E1.sz
   clear E1
   go_wp2_with fail
   refine (cU _).mono ?_
   rintro e w2 ⟨rfl, E2⟩
   have HQ2 : Hid (Pair w2 w1.heap.size q) := Pair.ext (by simp [Pair, go_sem, World.cell?_alloc_past]) E2
   have H2 : Hid (Pair w2 (w.heap.size + 1) 0) := ((H1.out.ext ((Ext.refl _).alloc _)).ext ((Ext.refl _).alloc _)).ext E2
   have X2 : Hid (Ext w w2) := ((X1.out.alloc _).alloc _).trans E2
   have hne : ¬ w1.heap.size = w.heap.size + 1 := by simp at hz; omega
   clear E2
   go_wp2_with fail
   refine (cC _).mono ?_
   rintro e w3 ⟨rfl, E3⟩
   have HQ3 : Hid (Pair w3 w1.heap.size q) := HQ2.out.ext E3
   have H3 : Hid (Pair w3 (w.heap.size + 1) 0) := H2.out.ext E3
   have X3 : Hid (Ext w w3) := X2.out.trans E3
   have hsz : w.heap.size ≤ w1.heap.size := X1.out.sz
   clear E3
   obtain ⟨x1, x2, x3, x4, x5⟩ := HQ3.out
   obtain ⟨y1, y2, y3, y4, y5⟩ := H3.out
   go_wp2
   simp [bodyPost, results, Tryz.results85, go_sem, *]
   exact (X3.out.setCell (by simp) _).setCell (by simp) _

open Go.RowKit
set_option maxHeartbeats 1000000

/-- In 128 bits, with a sign. -/
def I128 (x : Int) : Prop := -170141183460469231731687303715884105728 ≤ x ∧ x ≤ 170141183460469231731687303715884105727
theorem near_eq (X d : Nat) (h : 0 < d) : (nearQ X d : Int) = (2 * (X : Int) + d) / (2 * d) := by
 have e := Nat.div_add_mod X d
 have hm := Nat.mod_lt X h
 unfold nearQ
 generalize hq : X / d = q at *
 generalize hr : X % d = r at *
 have hX : (X : Int) = d * q + r := by rw [← e]; simp
 have e2 : (2 * (X : Int) + d) = (2 * r + d) + (2 * d) * q := by rw [hX, Int.mul_add, Int.mul_assoc]; omega
 rw [e2, Int.add_mul_ediv_left _ _ (by omega)]
 by_cases hc : d ≤ 2 * r
 · rw [if_pos hc]
   have : (2 * (r : Int) + d) / (2 * d) = 1 := by
     apply Int.le_antisymm
     · have : (2 * (r : Int) + d) / (2 * d) < 2 := Int.ediv_lt_of_lt_mul (by omega) (by omega)
       omega
     · exact Int.le_ediv_of_mul_le (by omega) (by omega)
   rw [this]; simp; omega
 · rw [if_neg hc]
   have : (2 * (r : Int) + d) / (2 * d) = 0 := Int.ediv_eq_zero_of_lt (by omega) (by omega)
   rw [this]; simp
theorem abs_nat (x : Int) : absI x = (x.natAbs : Int) := by unfold absI; split <;> omega
theorem mean_near (x : Int) (d : Nat) (h : 0 < d) : meanQ x d = nearQ x.natAbs d := by
 unfold meanQ
 rw [near_eq _ _ h, abs_nat]
theorem meanB_near (x : Int) (d : Nat) (h : 0 < d) : meanB x d = sgnB (nearQ x.natAbs d) := by
 unfold meanB sgnB
 rw [mean_near x d h, Bool.eq_iff_iff]
 simp
 omega
theorem meanV_near (x : Int) (d : Nat) (h : 0 < d) : meanV x d = sgnV (decide (x < 0)) (nearQ x.natAbs d) := by
 unfold meanV sgnV
 rw [meanB_near x d h, mean_near x d h]
 cases sgnB (nearQ x.natAbs d)
 · rfl
 · by_cases hx : x < 0 <;> simp [hx]
theorem hi_neg (x : Int) (h : I128 x) : decide (hiOf x < 0) = decide (x < 0) := by
 obtain ⟨h1, h2⟩ := h
 rw [Bool.eq_iff_iff]
 unfold hiOf sg64
 simp
 omega
set_option maxRecDepth 100000 in
theorem fsize_any (x : Int) (hx : I128 x) (W : World) : Calls Tryz.prog 144 #[.agg #[.int .i64 (hiOf x), .int .u64 (loOf x)]] W fun e w' => e = .returned (.tuple #[.int .u64 (uhi (absI x)), .int .u64 (loOf (absI x))]) ∧ Ext W w' := by
 have p1 := uhi_hiOf x
 have HN := hi_neg x hx
 obtain ⟨u1, u2⟩ := uhi_bd x
 obtain ⟨l1, l2⟩ := lo_bd x
 by_cases hs : x < 0
 · have hd : decide (hiOf x < 0) = true := by rw [HN]; simpa using hs
   have hd' : hiOf x < 0 := by simpa using hd
   have HR : Hid ((0 - uhi x - bor 0 (loOf x)) % 18446744073709551616 = uhi (absI x) ∧ (0 - loOf x) % 18446744073709551616 = loOf (absI x)) := by
     show _ ∧ _
     unfold absI; rw [if_pos hs]; unfold uhi loOf bor
     split <;> (constructor <;> omega)
   obtain ⟨R0, hR0⟩ : ∃ r, uhi (absI x) = r := ⟨_, rfl⟩
   obtain ⟨R1, hR1⟩ : ∃ r, loOf (absI x) = r := ⟨_, rfl⟩
   rw [hR0, hR1] at HR ⊢
   have k1 := fun W => sub64_0 0 (loOf x) (by decide) l1 l2 W
   have bb := bor_bd 0 (loOf x)
   have k2 := fun W => sub64 0 (uhi x) (bor 0 (loOf x)) (by decide) u1 u2 bb.1 bb.2 W
   rw [HR.out.1] at k2
   rw [HR.out.2] at k1
   clear HN hs hR0 hR1
   generalize hiOf x = a0 at *
   generalize loOf x = a1 at *
   generalize uhi x = a2 at *
   generalize bor 0 a1 = a3 at *
   generalize bor 0 (a2 + a3) = a4 at *
   clear HR bb u1 u2 l1 l2
   go_enter Tryz.func144, Tryz.ntmps144
   go_wp2_with fail
   go_region
   go_wp2_with fail
   go_ret2
   exact ⟨rfl, by repeat (first | exact Ext.refl _ | apply Ext.drewN | apply Ext.drew | apply Ext.alloc | refine Ext.setCell ?_ (by simp) _)⟩
 · have hd : decide (hiOf x < 0) = false := by rw [HN]; simpa using hs
   have hd' : ¬ hiOf x < 0 := by simpa using hd
   have e : absI x = x := by unfold absI; rw [if_neg hs]
   rw [e]
   clear HN hs e
   generalize hiOf x = a0 at *
   generalize loOf x = a1 at *
   generalize uhi x = a2 at *
   clear u1 u2 l1 l2
   go_enter Tryz.func144, Tryz.ntmps144
   go_wp2_with fail
   go_region
   go_wp2_with fail
   go_ret2
   exact ⟨rfl, by repeat (first | exact Ext.refl _ | apply Ext.drewN | apply Ext.drew | apply Ext.alloc | refine Ext.setCell ?_ (by simp) _)⟩
set_option maxRecDepth 100000 in
theorem quotient_any (x : Int) (hx : I128 x) (n : Nat) (hn : 0 < n) (hn' : n ≤ 9223372036854775807) (W : World) : Calls Tryz.prog 133 #[.agg #[.int .i64 (hiOf x), .int .u64 (loOf x)], .int .u64 (n : Int)] W fun e w' =>
   e = .returned (.tuple #[.int .i64 (sgnV false (nearQ x.natAbs n)), .bool (sgnB (nearQ x.natAbs n))]) ∧ Ext W w' := by
 have cS := fun W => fsize_any x hx W
 rw [abs_nat] at cS
 have hX : x.natAbs < 340282366920938463463374607431768211456 := by obtain ⟨h1, h2⟩ := hx; omega
 obtain ⟨X, hXX⟩ : ∃ X, x.natAbs = X := ⟨_, rfl⟩
 rw [hXX] at cS hX ⊢
 clear hXX
 obtain ⟨hi, hhi⟩ : ∃ hi, X / 18446744073709551616 = hi := ⟨_, rfl⟩
 obtain ⟨lo, hlo⟩ : ∃ lo, X % 18446744073709551616 = lo := ⟨_, rfl⟩
 have e1 : uhi (X : Int) = (hi : Int) := by unfold uhi; omega
 have e2 : loOf (X : Int) = (lo : Int) := by unfold loOf; omega
 have hl : lo < 18446744073709551616 := by omega
 have hh : hi < 18446744073709551616 := by omega
 have e3 : hi * 18446744073709551616 + lo = X := by omega
 rw [e1, e2] at cS
 clear e1 e2 hhi hlo hx
 generalize hiOf x = a0 at *
 generalize loOf x = a1 at *
 by_cases hg : n ≤ hi
 · have HS : Hid (sgnV false (nearQ X n) = 0 ∧ sgnB (nearQ X n) = false) := by
     have : 9223372036854775807 < nearQ X n := by
       have h2 : 18446744073709551616 ≤ X / n := by
         rw [Nat.le_div_iff_mul_le hn]
         calc 18446744073709551616 * n ≤ 18446744073709551616 * hi := Nat.mul_le_mul_left _ hg
           _ ≤ X := by omega
       unfold nearQ; omega
     exact ⟨sgnV_no _ this, sgnB_no this⟩
   have hgI : (hi : Int) ≥ (n : Int) := by omega
   have hgd : decide ((hi : Int) ≥ (n : Int)) = true := by simpa using hgI
   clear hg e3 hX
   go_enter Tryz.func133, Tryz.ntmps133
   go_wp2_with fail
   refine (cS _).mono ?_
   rintro e w1 ⟨rfl, E1⟩
   go_wp2_with fail
   go_ret2
   exact ⟨ret_ib HS.out.1.symm HS.out.2.symm, ((Ext.refl _).alloc _).trans E1⟩
 · have hgI : ¬ (hi : Int) ≥ (n : Int) := by omega
   have hgd : decide ((hi : Int) ≥ (n : Int)) = false := by simpa using hgI
   have cD := fun W => div64_any hi lo n (by omega) hl (by omega) W
   rw [e3] at cD
   have hq : X / n < 18446744073709551616 := by
     rw [Nat.div_lt_iff_lt_mul hn]
     calc X < (hi + 1) * 18446744073709551616 := by omega
       _ ≤ n * 18446744073709551616 := Nat.mul_le_mul_right _ (by omega)
       _ = 18446744073709551616 * n := Nat.mul_comm _ _
   have hr := Nat.mod_lt X hn
   have hnear : nearQ X n = X / n + (if n ≤ 2 * (X % n) then 1 else 0) := rfl
   obtain ⟨q, hqq⟩ : ∃ q, X / n = q := ⟨_, rfl⟩
   obtain ⟨r, hrr⟩ : ∃ r, X % n = r := ⟨_, rfl⟩
   obtain ⟨N, hNN⟩ : ∃ N, nearQ X n = N := ⟨_, rfl⟩
   rw [hqq] at cD hq hnear
   rw [hrr] at cD hr hnear
   rw [hNN] at hnear ⊢
   clear hqq hrr hNN e3 hX hl hh hg
   by_cases hb : 9223372036854775807 < q
   · have HS : Hid (sgnV false N = 0 ∧ sgnB N = false) := ⟨sgnV_no _ (by omega), sgnB_no (by omega)⟩
     have hbd : decide ((q : Int) > 9223372036854775807) = true := by simp; omega
     have hbI : (q : Int) > 9223372036854775807 := by omega
     clear hnear hb hq
     go_enter Tryz.func133, Tryz.ntmps133
     go_wp2_with fail
     refine (cS _).mono ?_
     rintro e w1 ⟨rfl, E1⟩
     go_wp2_with fail
     refine (cD _).mono ?_
     rintro e w2 ⟨rfl, E2⟩
     go_wp2_with fail
     go_ret2
     exact ⟨ret_ib HS.out.1.symm HS.out.2.symm, (((Ext.refl _).alloc _).trans E1).trans E2⟩
   have hbd : decide ((q : Int) > 9223372036854775807) = false := by simp; omega
   have hbI : ¬ (q : Int) > 9223372036854775807 := by omega
   have w1 : IntKind.u64.wrap ((n : Int) - (r : Int)) = (n : Int) - r := by rw [wrapU]; omega
   have w2 : IntKind.u64.wrap ((q : Int) + 1) = (q : Int) + 1 := by rw [wrapU]; omega
   have w3 : wrap64 ((q : Int) + 1) = (q : Int) + 1 ∨ q = 9223372036854775807 := by unfold wrap64; omega
   have w4 : wrap64 (q : Int) = (q : Int) := by unfold wrap64; omega
   by_cases hc : n ≤ 2 * r
   · rw [if_pos hc] at hnear
     have hcd : decide ((r : Int) ≥ (n : Int) - (r : Int)) = true := by simp; omega
     have hcI : (r : Int) ≥ (n : Int) - (r : Int) := by omega
     by_cases hm : q = 9223372036854775807
     · have HS : Hid (sgnV false N = 0 ∧ sgnB N = false) := ⟨sgnV_no _ (by omega), sgnB_no (by omega)⟩
       subst hm
       clear hnear hb hq hc w3 w2 w4 hbd hbI
       have w5 : IntKind.u64.wrap (((9223372036854775807 : Nat) : Int) + 1) = 9223372036854775808 := by decide
       go_enter Tryz.func133, Tryz.ntmps133
       go_wp2_with fail
       refine (cS _).mono ?_
       rintro e w1 ⟨rfl, E1⟩
       go_wp2_with fail
       refine (cD _).mono ?_
       rintro e w2 ⟨rfl, E2⟩
       go_wp2_with fail
       go_ret2
       exact ⟨ret_ib HS.out.1.symm HS.out.2.symm, (((Ext.refl _).alloc _).trans E1).trans E2⟩
     · have HS : Hid (sgnV false N = (q : Int) + 1 ∧ sgnB N = true) := ⟨by rw [sgnV_yes false (by omega), hnear]; simp, sgnB_yes (by omega)⟩
       have w3' := w3.resolve_right hm
       have hb2 : decide ((q : Int) + 1 > 9223372036854775807) = false := by simp; omega
       have hb3 : ¬ (q : Int) + 1 > 9223372036854775807 := by omega
       obtain ⟨q1, hq1⟩ : ∃ q1 : Int, (q : Int) + 1 = q1 := ⟨_, rfl⟩
       rw [hq1] at w2 w3' hb2 hb3 HS
       have w6 : IntKind.u64.wrap ((q : Int) + 1) = q1 := by rw [hq1]; exact w2
       have WQ : Hid (wrap64 q1 = q1) := w3'
       clear hnear hb hq hc w3 hm w4 w2 hq1 w3'
       go_enter Tryz.func133, Tryz.ntmps133
       go_wp2_with fail
       refine (cS _).mono ?_
       rintro e w1 ⟨rfl, E1⟩
       go_wp2_with fail
       refine (cD _).mono ?_
       rintro e w2 ⟨rfl, E2⟩
       go_wp2_with fail
       go_ret2
       exact ⟨ret_ib (by first | exact HS.out.1.symm | exact WQ.out.trans HS.out.1.symm) HS.out.2.symm, (((Ext.refl _).alloc _).trans E1).trans E2⟩
   · rw [if_neg hc] at hnear
     have hcd : decide ((r : Int) ≥ (n : Int) - (r : Int)) = false := by simp; omega
     have hcI : ¬ (r : Int) ≥ (n : Int) - (r : Int) := by omega
     have HS : Hid (sgnV false N = (q : Int) ∧ sgnB N = true) := ⟨by rw [sgnV_yes false (by omega), hnear]; simp, sgnB_yes (by omega)⟩
     clear hnear hb hq hc w3 w2
     go_enter Tryz.func133, Tryz.ntmps133
     go_wp2_with fail
     refine (cS _).mono ?_
     rintro e w1 ⟨rfl, E1⟩
     go_wp2_with fail
     refine (cD _).mono ?_
     rintro e w2 ⟨rfl, E2⟩
     go_wp2_with fail
     go_ret2
     exact ⟨ret_ib HS.out.1.symm HS.out.2.symm, (((Ext.refl _).alloc _).trans E1).trans E2⟩
theorem sgnV_neg (N : Nat) : sgnV true N = -sgnV false N := by unfold sgnV; split <;> simp
theorem sgnV_bd (N : Nat) : 0 ≤ sgnV false N ∧ sgnV false N ≤ 9223372036854775807 := by
 unfold sgnV
 split
 · rename_i h
   unfold sgnB at h
   simp at h ⊢
   omega
 · omega
theorem sgnV_no0 {N : Nat} (h : sgnB N = false) (b : Bool) : sgnV b N = 0 := by unfold sgnV; rw [h]; rfl
set_option maxRecDepth 100000 in
theorem mean_pos (x : Int) (hx : I128 x) (n : Nat) (hn : 0 < n) (hn' : n ≤ 9223372036854775807) (W : World) : Calls Tryz.prog 100 #[.agg #[.int .i64 (hiOf x), .int .u64 (loOf x)], .int .i64 (n : Int)] W fun e w' =>
   e = .returned (.tuple #[.int .i64 (sgnV (decide (x < 0)) (nearQ x.natAbs n)), .bool (sgnB (nearQ x.natAbs n))]) ∧ Ext W w' := by
 have cQ := fun W => quotient_any x hx n hn hn' W
 have HN := hi_neg x hx
 have d1 : decide ((n : Int) < 1) = false := by simp; omega
 have d2 : ¬ (n : Int) < 1 := by omega
 have wn : IntKind.u64.wrap (n : Int) = (n : Int) := by rw [wrapU]; omega
 obtain ⟨N, hN⟩ : ∃ N, nearQ x.natAbs n = N := ⟨_, rfl⟩
 rw [hN] at cQ ⊢
 have bd := sgnV_bd N
 have hi0 : ∃ z : Int, hiOf x = z := ⟨_, rfl⟩
 obtain ⟨a0, ha0⟩ := hi0
 obtain ⟨a1, ha1⟩ : ∃ z : Int, loOf x = z := ⟨_, rfl⟩
 rw [ha0, ha1] at cQ
 rw [ha0] at HN
 rw [ha0, ha1]
 cases hb : sgnB N
 · rw [sgnV_no0 hb] at cQ ⊢
   rw [hb] at cQ
   clear HN hN bd hb ha0 ha1 hn hn'
   go_enter Tryz.func100, Tryz.ntmps100
   go_wp2_with fail
   refine (cQ _).mono ?_
   rintro e w1 ⟨rfl, E1⟩
   go_wp2_with fail
   go_ret2
   exact ⟨rfl, ((Ext.refl _).alloc _).trans E1⟩
 · rw [hb] at cQ
   by_cases hs : x < 0
   · have hd : decide (a0 < 0) = true := by rw [HN]; simpa using hs
     have hd' : a0 < 0 := by simpa using hd
     have e : decide (x < 0) = true := by simpa using hs
     rw [e, sgnV_neg]
     generalize sgnV false N = y at *
     have wy : wrap64 (-y) = -y := by unfold wrap64; omega
     clear HN hN hb ha0 ha1 hn hn' e hs
     go_enter Tryz.func100, Tryz.ntmps100
     go_wp2_with fail
     refine (cQ _).mono ?_
     rintro e w1 ⟨rfl, E1⟩
     obtain ⟨hc, hf⟩ := E1.cell
     have k0 := hc W.heap.size 0 (by simp)
     simp [go_sem] at k0
     go_wp2_with fail
     go_ret2
     exact ⟨rfl, ((Ext.refl _).alloc _).trans E1⟩
   · have hd : decide (a0 < 0) = false := by rw [HN]; simpa using hs
     have hd' : ¬ a0 < 0 := by simpa using hd
     have e : decide (x < 0) = false := by simpa using hs
     rw [e]
     generalize sgnV false N = y at *
     clear HN hN hb ha0 ha1 hn hn' e hs bd
     go_enter Tryz.func100, Tryz.ntmps100
     go_wp2_with fail
     refine (cQ _).mono ?_
     rintro e w1 ⟨rfl, E1⟩
     obtain ⟨hc, hf⟩ := E1.cell
     have k0 := hc W.heap.size 0 (by simp)
     simp [go_sem] at k0
     go_wp2_with fail
     go_ret2
     exact ⟨rfl, ((Ext.refl _).alloc _).trans E1⟩
theorem mean_no {x n : Int} (h : ¬ 1 ≤ n) : meanB x n = false ∧ meanV x n = 0 := by
 have : meanB x n = false := by unfold meanB; simp; omega
 exact ⟨this, by unfold meanV; rw [this]; rfl⟩
set_option maxRecDepth 100000 in
theorem fmean_any (x : Int) (hx : I128 x) (n : Int) (hn : I64 n) (W : World) : Calls Tryz.prog 100 #[.agg #[.int .i64 (hiOf x), .int .u64 (loOf x)], .int .i64 n] W fun e w' =>
   e = .returned (.tuple #[.int .i64 (meanV x n), .bool (meanB x n)]) ∧ Ext W w' := by
 obtain ⟨h1, h2⟩ := hn
 by_cases h : 1 ≤ n
 · obtain ⟨d, rfl⟩ := Int.eq_ofNat_of_zero_le (show 0 ≤ n by omega)
   rw [meanB_near x d (by omega), meanV_near x d (by omega)]
   exact mean_pos x hx d (by omega) (by omega) W
 · have d1 : decide (n < 1) = true := by simp; omega
   have d2 : n < 1 := by omega
   rw [(mean_no h).1, (mean_no h).2]
   generalize hiOf x = a0
   generalize loOf x = a1
   clear h
   go_enter Tryz.func100, Tryz.ntmps100
   go_wp2_with fail
   go_ret2
   exact ⟨rfl, (Ext.refl _).alloc _⟩
set_option maxRecDepth 100000 in
theorem rmean_pos (x : Int) (hx : I128 x) (n : Nat) (hn : 0 < n) (hn' : n ≤ 9223372036854775807) (W : World) : Calls Tryz.prog 44 #[.agg #[.int .i64 (hiOf x), .int .u64 (loOf x)], .int .i64 (n : Int)] W fun e w' =>
   e = .returned (.tuple #[.int .i64 (sgnV (decide (x < 0)) (nearQ x.natAbs n)), .bool (sgnB (nearQ x.natAbs n))]) ∧ Ext W w' := by
 have HN := hi_neg x hx
 have p1 := uhi_hiOf x
 have hX : x.natAbs < 340282366920938463463374607431768211456 := by obtain ⟨h1, h2⟩ := hx; omega
 have d1 : decide ((n : Int) < 1) = false := by simp; omega
 have d2 : ¬ (n : Int) < 1 := by omega
 have wn : IntKind.u64.wrap (n : Int) = (n : Int) := by rw [wrapU]; omega
 have cN := fun W => near_w x.natAbs n hX hn (by omega) W
 have hq : nearQ x.natAbs n < 340282366920938463463374607431768211456 := by
   have : x.natAbs ≤ 170141183460469231731687303715884105728 := by obtain ⟨h1, h2⟩ := hx; omega
   have h2 : x.natAbs / n ≤ x.natAbs := Nat.div_le_self _ _
   unfold nearQ; split <;> omega
 have cS := fun W => rsigned_w (decide (x < 0)) (nearQ x.natAbs n) hq W
 by_cases hs : x < 0
 · have hd : decide (hiOf x < 0) = true := by rw [HN]; simpa using hs
   have hd' : hiOf x < 0 := by simpa using hd
   have cM := fun W => minusW_w 0 x W
   have e0 : (0 : Int) - x = (x.natAbs : Int) := by omega
   rw [e0, show uhi 0 = 0 by decide, show loOf 0 = 0 by decide] at cM
   rw [show decide (x < 0) = true by simpa using hs] at cS ⊢
   obtain ⟨N, hN⟩ : ∃ N, nearQ x.natAbs n = N := ⟨_, rfl⟩
   rw [hN] at cN cS ⊢
   generalize uhi (x.natAbs : Int) = b0 at *
   generalize loOf (x.natAbs : Int) = b1 at *
   generalize uhi (N : Int) = b2 at *
   generalize loOf (N : Int) = b3 at *
   generalize sgnV true N = b4 at *
   generalize sgnB N = b5 at *
   generalize hiOf x = a0 at *
   generalize loOf x = a1 at *
   generalize uhi x = a2 at *
   clear HN hs hX hq e0 hN hn hn' hx
   go_enter Tryz.func44, Tryz.ntmps44
   go_wp2_with fail
   refine (cM _).mono ?_
   rintro e w1 ⟨rfl, E1⟩
   have X1 : Hid (Ext W w1) := (((Ext.refl _).alloc _).alloc _).trans E1
   obtain ⟨hc, hf⟩ := E1.cell
   have m0 := hc W.heap.size 0 (by simp; omega)
   have m1 := hc (W.heap.size + 1) 0 (by simp)
   have m2 := hc (W.heap.size + 1) 1 (by simp)
   have g1 := hf (W.heap.size + 1) 0 (by simp)
   have g2 := hf (W.heap.size + 1) 1 (by simp)
   have zz : W.heap.size + 1 < w1.heap.size := by have := E1.size; simp at this; omega
   simp [go_sem] at m0 m1 m2 g1 g2
   clear hc hf E1 cM
   go_wp2_with fail
   generalize hW3 : World.setCell _ _ _ = W3
   have k0 : W3.cell? ⟨W.heap.size, 0, none⟩ = some (.int .i64 a0) := by rw [← hW3]; simp [go_sem, m0]
   have k1 : W3.cell? ⟨W.heap.size + 1, 0, none⟩ = some (.int .u64 b0) := by rw [← hW3]; simp [go_sem, m1]
   have k2 : W3.cell? ⟨W.heap.size + 1, 1, none⟩ = some (.int .u64 b1) := by rw [← hW3]; simp [go_sem, m2]
   have zA := World.block_lt_of_cell? _ _ k0
   have zB := World.block_lt_of_cell? _ _ k1
   have XW : Hid (Ext W W3) := by rw [← hW3]; exact (X1.out.setCell (by simp) _).setCell (by simp) _
   have mkS : Hid (∀ V, Ext W3 V → (V.cell? ⟨W.heap.size, 0, none⟩ = some (.int .i64 a0) ∧ V.cell? ⟨W.heap.size + 1, 0, none⟩ = some (.int .u64 b0) ∧ V.cell? ⟨W.heap.size + 1, 1, none⟩ = some (.int .u64 b1)) ∧ Ext W3 V) := fun V e => ⟨⟨(e.cell.1 _ _ zA).trans k0, (e.cell.1 _ _ zB).trans k1, (e.cell.1 _ _ zB).trans k2⟩, e⟩
   clear hW3 m0 m1 m2 g1 g2 zz k0 k1 k2 zA zB
   have hR := Ext.refl W3
   go_region_held3 (fun V => (V.cell? ⟨W.heap.size, 0, none⟩ = some (.int .i64 a0) ∧ V.cell? ⟨W.heap.size + 1, 0, none⟩ = some (.int .u64 b0) ∧ V.cell? ⟨W.heap.size + 1, 1, none⟩ = some (.int .u64 b1)) ∧ Ext W3 V)
     ((refine mkS.out _ ?_; with_reducible (repeat (first | assumption | exact Ext.refl _ | apply Ext.drew | apply Ext.drewN)); done))
     (first | (go_at_call 85; refine Calls.mono (cN _) ?_; rintro e y1 ⟨rfl, F1⟩; have G1 : Ext W3 y1 := Ext.trans (by with_reducible repeat (first | assumption | exact Ext.refl _ | apply Ext.drew | apply Ext.drewN)) F1) | (go_at_call 84; refine Calls.mono (cS _) ?_; rintro e y2 ⟨rfl, F2⟩; have G2 : Ext W3 y2 := Ext.trans (by with_reducible repeat (first | assumption | exact Ext.refl _ | apply Ext.drew | apply Ext.drewN)) F2))
   go_wp2_with fail
   go_ret2
   exact ⟨rfl, XW.out.trans (by with_reducible repeat (first | assumption | exact Ext.refl _ | apply Ext.drew | apply Ext.drewN))⟩
 · have hd : decide (hiOf x < 0) = false := by rw [HN]; simpa using hs
   have hd' : ¬ hiOf x < 0 := by simpa using hd
   rw [show decide (x < 0) = false by simpa using hs] at cS ⊢
   obtain ⟨N, hN⟩ : ∃ N, nearQ x.natAbs n = N := ⟨_, rfl⟩
   rw [hN] at cN cS ⊢
   rw [show (x.natAbs : Int) = x by omega] at cN
   generalize uhi (N : Int) = b2 at *
   generalize loOf (N : Int) = b3 at *
   generalize sgnV false N = b4 at *
   generalize sgnB N = b5 at *
   generalize hiOf x = a0 at *
   generalize loOf x = b1 at *
   generalize uhi x = b0 at *
   clear HN hs hX hq hN hn hn' hx
   go_enter Tryz.func44, Tryz.ntmps44
   go_wp2_with fail
   generalize hW3 : (World.alloc (World.alloc W _) _) = W3
   have k0 : W3.cell? ⟨W.heap.size, 0, none⟩ = some (.int .i64 a0) := by rw [← hW3]; simp [go_sem]
   have k1 : W3.cell? ⟨W.heap.size + 1, 0, none⟩ = some (.int .u64 b0) := by rw [← hW3]; simp [go_sem]
   have k2 : W3.cell? ⟨W.heap.size + 1, 1, none⟩ = some (.int .u64 b1) := by rw [← hW3]; simp [go_sem]
   have zA := World.block_lt_of_cell? _ _ k0
   have zB := World.block_lt_of_cell? _ _ k1
   have XW : Hid (Ext W W3) := by rw [← hW3]; exact ((Ext.refl _).alloc _).alloc _
   have mkS : Hid (∀ V, Ext W3 V → (V.cell? ⟨W.heap.size, 0, none⟩ = some (.int .i64 a0) ∧ V.cell? ⟨W.heap.size + 1, 0, none⟩ = some (.int .u64 b0) ∧ V.cell? ⟨W.heap.size + 1, 1, none⟩ = some (.int .u64 b1)) ∧ Ext W3 V) := fun V e => ⟨⟨(e.cell.1 _ _ zA).trans k0, (e.cell.1 _ _ zB).trans k1, (e.cell.1 _ _ zB).trans k2⟩, e⟩
   clear hW3 k0 k1 k2 zA zB
   have hR := Ext.refl W3
   go_region_held3 (fun V => (V.cell? ⟨W.heap.size, 0, none⟩ = some (.int .i64 a0) ∧ V.cell? ⟨W.heap.size + 1, 0, none⟩ = some (.int .u64 b0) ∧ V.cell? ⟨W.heap.size + 1, 1, none⟩ = some (.int .u64 b1)) ∧ Ext W3 V)
     ((refine mkS.out _ ?_; with_reducible (repeat (first | assumption | exact Ext.refl _ | apply Ext.drew | apply Ext.drewN)); done))
     (first | (go_at_call 85; refine Calls.mono (cN _) ?_; rintro e y1 ⟨rfl, F1⟩; have G1 : Ext W3 y1 := Ext.trans (by with_reducible repeat (first | assumption | exact Ext.refl _ | apply Ext.drew | apply Ext.drewN)) F1) | (go_at_call 84; refine Calls.mono (cS _) ?_; rintro e y2 ⟨rfl, F2⟩; have G2 : Ext W3 y2 := Ext.trans (by with_reducible repeat (first | assumption | exact Ext.refl _ | apply Ext.drew | apply Ext.drewN)) F2))
   go_wp2_with fail
   go_ret2
   exact ⟨rfl, XW.out.trans (by with_reducible repeat (first | assumption | exact Ext.refl _ | apply Ext.drew | apply Ext.drewN))⟩
set_option maxRecDepth 100000 in
theorem rmean_any (x : Int) (hx : I128 x) (n : Int) (hn : I64 n) (W : World) : Calls Tryz.prog 44 #[.agg #[.int .i64 (hiOf x), .int .u64 (loOf x)], .int .i64 n] W fun e w' =>
   e = .returned (.tuple #[.int .i64 (meanV x n), .bool (meanB x n)]) ∧ Ext W w' := by
 obtain ⟨h1, h2⟩ := hn
 by_cases h : 1 ≤ n
 · obtain ⟨d, rfl⟩ := Int.eq_ofNat_of_zero_le (show 0 ≤ n by omega)
   rw [meanB_near x d (by omega), meanV_near x d (by omega)]
   exact rmean_pos x hx d (by omega) (by omega) W
 · have d1 : decide (n < 1) = true := by simp; omega
   have d2 : n < 1 := by omega
   rw [(mean_no h).1, (mean_no h).2]
   generalize hiOf x = a0
   generalize loOf x = a1
   clear h
   go_enter Tryz.func44, Tryz.ntmps44
   go_wp2_with fail
   go_ret2
   exact ⟨rfl, (Ext.refl _).alloc _⟩
end Go.Proofs.YtalejeknigbhjaaGreatDoor
