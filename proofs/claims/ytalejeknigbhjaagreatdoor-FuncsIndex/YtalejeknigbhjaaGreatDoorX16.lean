/-
 The contract of the document's own long division, bit by bit.
 Contracts of the document's products, quotients and rounding.
 Package fold's Mean, and the document's.
 Package fold: Sum, Count, Min, Max, Average, And, Or.
-/
import Derived.Test.YtalejeknigbhjaaGreatDoorX6
import Derived.Test.YtalejeknigbhjaaGreatDoorX8
import Derived.Test.YtalejeknigbhjaaGreatDoorX9
import Derived.Deep.RegionHeld3
import Derived.Test.YtalejeknigbhjaaGreatDoorX15
namespace Go.Proofs.YtalejeknigbhjaaGreatDoor
open Go.RowKit
set_option maxHeartbeats 1000000

theorem Pair.put {w : World} {b : Nat} {x : Int} (h : Pair w b x) (y : Int) (hu : uhi y = uhi x) : Pair (w.setCell ⟨b, 1, none⟩ (.int .u64 (loOf y))) b y := by
 obtain ⟨z, c0, c1, f0, f1⟩ := h
 refine ⟨by simpa [World.setCell] using z, ?_, ?_, ?_, ?_⟩
 · rw [World.cell?_setCell_other _ _ _ _ (by simp), hu]; exact c0
 · exact World.cell?_setCell_same _ ⟨b, 1, none⟩ _ (by rw [c1])
 · rw [World.frozen?_setCell]; exact f0
 · rw [World.frozen?_setCell]; exact f1
/-- What stands still while the division goes on. -/
def Keep (w : World) (X D : Int) (wr : World) : Prop := Ext w wr ∧ Pair wr w.heap.size X ∧ Pair wr (w.heap.size + 1) D ∧ Pair wr (w.heap.size + 2) 0 ∧ Pair wr (w.heap.size + 3) 0
theorem Keep.ext {w W W' : World} {X D : Int} (h : Keep w X D W) (e : Ext W W') : Keep w X D W' :=
 ⟨h.1.trans e, h.2.1.ext e, h.2.2.1.ext e, h.2.2.2.1.ext e, h.2.2.2.2.ext e⟩
theorem Keep.far {w W : World} {X D : Int} (h : Keep w X D W) {c : Nat} (hc : w.heap.size + 4 ≤ c) (o : Nat) (v : Value) : Keep w X D (W.setCell ⟨c, o, none⟩ v) :=
 ⟨h.1.setCell (by show w.heap.size ≤ c; omega) _, h.2.1.far (by omega) _ _, h.2.2.1.far (by omega) _ _, h.2.2.2.1.far (by omega) _ _, h.2.2.2.2.far (by omega) _ _⟩

open Go.RowKit
set_option maxHeartbeats 1000000

open Go.RowKit
set_option maxHeartbeats 1000000

/-- In 128 bits, with a sign. -/
def I128 (x : Int) : Prop := -170141183460469231731687303715884105728 ≤ x ∧ x ≤ 170141183460469231731687303715884105727
theorem near_eq (X d : Nat) (h : 0 < d) : (nearQ X d : Int) = (2 * (X : Int) + d) / (2 * d) := by
 have e := Nat.div_add_mod X d
 have hm := Nat.mod_lt X h
 unfold nearQ
 generalize hq : X / d = q at *
 generalize hr : X % d = r at *
 have hX : (X : Int) = d * q + r := by rw [← e]; simp
 have e2 : (2 * (X : Int) + d) = (2 * r + d) + (2 * d) * q := by rw [hX, Int.mul_add, Int.mul_assoc]; omega
 rw [e2, Int.add_mul_ediv_left _ _ (by omega)]
 by_cases hc : d ≤ 2 * r
 · rw [if_pos hc]
   have : (2 * (r : Int) + d) / (2 * d) = 1 := by
     apply Int.le_antisymm
     · have : (2 * (r : Int) + d) / (2 * d) < 2 := Int.ediv_lt_of_lt_mul (by omega) (by omega)
       omega
     · exact Int.le_ediv_of_mul_le (by omega) (by omega)
   rw [this]; simp; omega
 · rw [if_neg hc]
   have : (2 * (r : Int) + d) / (2 * d) = 0 := Int.ediv_eq_zero_of_lt (by omega) (by omega)
   rw [this]; simp
theorem abs_nat (x : Int) : absI x = (x.natAbs : Int) := by unfold absI; split <;> omega
theorem mean_near (x : Int) (d : Nat) (h : 0 < d) : meanQ x d = nearQ x.natAbs d := by
 unfold meanQ
 rw [near_eq _ _ h, abs_nat]
theorem meanB_near (x : Int) (d : Nat) (h : 0 < d) : meanB x d = sgnB (nearQ x.natAbs d) := by
 unfold meanB sgnB
 rw [mean_near x d h, Bool.eq_iff_iff]
 simp
 omega
theorem meanV_near (x : Int) (d : Nat) (h : 0 < d) : meanV x d = sgnV (decide (x < 0)) (nearQ x.natAbs d) := by
 unfold meanV sgnV
 rw [meanB_near x d h, mean_near x d h]
 cases sgnB (nearQ x.natAbs d)
 · rfl
 · by_cases hx : x < 0 <;> simp [hx]
theorem hi_neg (x : Int) (h : I128 x) : decide (hiOf x < 0) = decide (x < 0) := by
 obtain ⟨h1, h2⟩ := h
 rw [Bool.eq_iff_iff]
 unfold hiOf sg64
 simp
 omega
set_option maxRecDepth 100000 in
theorem fsize_any (x : Int) (hx : I128 x) (W : World) : Calls Tryz.prog 144 #[.agg #[.int .i64 (hiOf x), .int .u64 (loOf x)]] W fun e w' => e = .returned (.tuple #[.int .u64 (uhi (absI x)), .int .u64 (loOf (absI x))]) ∧ Ext W w' := by
 have p1 := uhi_hiOf x
 have HN := hi_neg x hx
 obtain ⟨u1, u2⟩ := uhi_bd x
 obtain ⟨l1, l2⟩ := lo_bd x
 by_cases hs : x < 0
 · have hd : decide (hiOf x < 0) = true := by rw [HN]; simpa using hs
   have hd' : hiOf x < 0 := by simpa using hd
   have HR : Hid ((0 - uhi x - bor 0 (loOf x)) % 18446744073709551616 = uhi (absI x) ∧ (0 - loOf x) % 18446744073709551616 = loOf (absI x)) := by
     show _ ∧ _
     unfold absI; rw [if_pos hs]; unfold uhi loOf bor
     split <;> (constructor <;> omega)
   obtain ⟨R0, hR0⟩ : ∃ r, uhi (absI x) = r := ⟨_, rfl⟩
   obtain ⟨R1, hR1⟩ : ∃ r, loOf (absI x) = r := ⟨_, rfl⟩
   rw [hR0, hR1] at HR ⊢
   have k1 := fun W => sub64_0 0 (loOf x) (by decide) l1 l2 W
   have bb := bor_bd 0 (loOf x)
   have k2 := fun W => sub64 0 (uhi x) (bor 0 (loOf x)) (by decide) u1 u2 bb.1 bb.2 W
   rw [HR.out.1] at k2
   rw [HR.out.2] at k1
   clear HN hs hR0 hR1
   generalize hiOf x = a0 at *
   generalize loOf x = a1 at *
   generalize uhi x = a2 at *
   generalize bor 0 a1 = a3 at *
   generalize bor 0 (a2 + a3) = a4 at *
   clear HR bb u1 u2 l1 l2
   go_enter Tryz.func144, Tryz.ntmps144
   go_wp2_with fail
   go_region
   go_wp2_with fail
   go_ret2
   exact ⟨rfl, by repeat (first | exact Ext.refl _ | apply Ext.drewN | apply Ext.drew | apply Ext.alloc | refine Ext.setCell ?_ (by simp) _)⟩
 · have hd : decide (hiOf x < 0) = false := by rw [HN]; simpa using hs
   have hd' : ¬ hiOf x < 0 := by simpa using hd
   have e : absI x = x := by unfold absI; rw [if_neg hs]
   rw [e]
   clear HN hs e
   generalize hiOf x = a0 at *
   generalize loOf x = a1 at *
   generalize uhi x = a2 at *
   clear u1 u2 l1 l2
   go_enter Tryz.func144, Tryz.ntmps144
   go_wp2_with fail
   go_region
   go_wp2_with fail
   go_ret2
   exact ⟨rfl, by repeat (first | exact Ext.refl _ | apply Ext.drewN | apply Ext.drew | apply Ext.alloc | refine Ext.setCell ?_ (by simp) _)⟩
set_option maxRecDepth 100000 in
theorem quotient_any (x : Int) (hx : I128 x) (n : Nat) (hn : 0 < n) (hn' : n ≤ 9223372036854775807) (W : World) : Calls Tryz.prog 133 #[.agg #[.int .i64 (hiOf x), .int .u64 (loOf x)], .int .u64 (n : Int)] W fun e w' =>
   e = .returned (.tuple #[.int .i64 (sgnV false (nearQ x.natAbs n)), .bool (sgnB (nearQ x.natAbs n))]) ∧ Ext W w' := by
 have cS := fun W => fsize_any x hx W
 rw [abs_nat] at cS
 have hX : x.natAbs < 340282366920938463463374607431768211456 := by obtain ⟨h1, h2⟩ := hx; omega
 obtain ⟨X, hXX⟩ : ∃ X, x.natAbs = X := ⟨_, rfl⟩
 rw [hXX] at cS hX ⊢
 clear hXX
 obtain ⟨hi, hhi⟩ : ∃ hi, X / 18446744073709551616 = hi := ⟨_, rfl⟩
 obtain ⟨lo, hlo⟩ : ∃ lo, X % 18446744073709551616 = lo := ⟨_, rfl⟩
 have e1 : uhi (X : Int) = (hi : Int) := by unfold uhi; omega
 have e2 : loOf (X : Int) = (lo : Int) := by unfold loOf; omega
 have hl : lo < 18446744073709551616 := by omega
 have hh : hi < 18446744073709551616 := by omega
 have e3 : hi * 18446744073709551616 + lo = X := by omega
 rw [e1, e2] at cS
 clear e1 e2 hhi hlo hx
 generalize hiOf x = a0 at *
 generalize loOf x = a1 at *
 by_cases hg : n ≤ hi
 · have HS : Hid (sgnV false (nearQ X n) = 0 ∧ sgnB (nearQ X n) = false) := by
     have : 9223372036854775807 < nearQ X n := by
       have h2 : 18446744073709551616 ≤ X / n := by
         rw [Nat.le_div_iff_mul_le hn]
         calc 18446744073709551616 * n ≤ 18446744073709551616 * hi := Nat.mul_le_mul_left _ hg
           _ ≤ X := by omega
       unfold nearQ; omega
     exact ⟨sgnV_no _ this, sgnB_no this⟩
   have hgI : (hi : Int) ≥ (n : Int) := by omega
   have hgd : decide ((hi : Int) ≥ (n : Int)) = true := by simpa using hgI
   clear hg e3 hX
   go_enter Tryz.func133, Tryz.ntmps133
   go_wp2_with fail
   refine (cS _).mono ?_
   rintro e w1 ⟨rfl, E1⟩
   go_wp2_with fail
   go_ret2
   exact ⟨ret_ib HS.out.1.symm HS.out.2.symm, ((Ext.refl _).alloc _).trans E1⟩
 · have hgI : ¬ (hi : Int) ≥ (n : Int) := by omega
   have hgd : decide ((hi : Int) ≥ (n : Int)) = false := by simpa using hgI
   have cD := fun W => div64_any hi lo n (by omega) hl (by omega) W
   rw [e3] at cD
   have hq : X / n < 18446744073709551616 := by
     rw [Nat.div_lt_iff_lt_mul hn]
     calc X < (hi + 1) * 18446744073709551616 := by omega
       _ ≤ n * 18446744073709551616 := Nat.mul_le_mul_right _ (by omega)
       _ = 18446744073709551616 * n := Nat.mul_comm _ _
   have hr := Nat.mod_lt X hn
   have hnear : nearQ X n = X / n + (if n ≤ 2 * (X % n) then 1 else 0) := rfl
   obtain ⟨q, hqq⟩ : ∃ q, X / n = q := ⟨_, rfl⟩
   obtain ⟨r, hrr⟩ : ∃ r, X % n = r := ⟨_, rfl⟩
   obtain ⟨N, hNN⟩ : ∃ N, nearQ X n = N := ⟨_, rfl⟩
   rw [hqq] at cD hq hnear
   rw [hrr] at cD hr hnear
   rw [hNN] at hnear ⊢
   clear hqq hrr hNN e3 hX hl hh hg
   by_cases hb : 9223372036854775807 < q
   · have HS : Hid (sgnV false N = 0 ∧ sgnB N = false) := ⟨sgnV_no _ (by omega), sgnB_no (by omega)⟩
     have hbd : decide ((q : Int) > 9223372036854775807) = true := by simp; omega
     have hbI : (q : Int) > 9223372036854775807 := by omega
     clear hnear hb hq
     go_enter Tryz.func133, Tryz.ntmps133
     go_wp2_with fail
     refine (cS _).mono ?_
     rintro e w1 ⟨rfl, E1⟩
     go_wp2_with fail
     refine (cD _).mono ?_
     rintro e w2 ⟨rfl, E2⟩
     go_wp2_with fail
     go_ret2
     exact ⟨ret_ib HS.out.1.symm HS.out.2.symm, (((Ext.refl _).alloc _).trans E1).trans E2⟩
   have hbd : decide ((q : Int) > 9223372036854775807) = false := by simp; omega
   have hbI : ¬ (q : Int) > 9223372036854775807 := by omega
   have w1 : IntKind.u64.wrap ((n : Int) - (r : Int)) = (n : Int) - r := by rw [wrapU]; omega
   have w2 : IntKind.u64.wrap ((q : Int) + 1) = (q : Int) + 1 := by rw [wrapU]; omega
   have w3 : wrap64 ((q : Int) + 1) = (q : Int) + 1 ∨ q = 9223372036854775807 := by unfold wrap64; omega
   have w4 : wrap64 (q : Int) = (q : Int) := by unfold wrap64; omega
   by_cases hc : n ≤ 2 * r
   · rw [if_pos hc] at hnear
     have hcd : decide ((r : Int) ≥ (n : Int) - (r : Int)) = true := by simp; omega
     have hcI : (r : Int) ≥ (n : Int) - (r : Int) := by omega
     by_cases hm : q = 9223372036854775807
     · have HS : Hid (sgnV false N = 0 ∧ sgnB N = false) := ⟨sgnV_no _ (by omega), sgnB_no (by omega)⟩
       subst hm
       clear hnear hb hq hc w3 w2 w4 hbd hbI
       have w5 : IntKind.u64.wrap (((9223372036854775807 : Nat) : Int) + 1) = 9223372036854775808 := by decide
       go_enter Tryz.func133, Tryz.ntmps133
       go_wp2_with fail
       refine (cS _).mono ?_
       rintro e w1 ⟨rfl, E1⟩
       go_wp2_with fail
       refine (cD _).mono ?_
       rintro e w2 ⟨rfl, E2⟩
       go_wp2_with fail
       go_ret2
       exact ⟨ret_ib HS.out.1.symm HS.out.2.symm, (((Ext.refl _).alloc _).trans E1).trans E2⟩
     · have HS : Hid (sgnV false N = (q : Int) + 1 ∧ sgnB N = true) := ⟨by rw [sgnV_yes false (by omega), hnear]; simp, sgnB_yes (by omega)⟩
       have w3' := w3.resolve_right hm
       have hb2 : decide ((q : Int) + 1 > 9223372036854775807) = false := by simp; omega
       have hb3 : ¬ (q : Int) + 1 > 9223372036854775807 := by omega
       obtain ⟨q1, hq1⟩ : ∃ q1 : Int, (q : Int) + 1 = q1 := ⟨_, rfl⟩
       rw [hq1] at w2 w3' hb2 hb3 HS
       have w6 : IntKind.u64.wrap ((q : Int) + 1) = q1 := by rw [hq1]; exact w2
       have WQ : Hid (wrap64 q1 = q1) := w3'
       clear hnear hb hq hc w3 hm w4 w2 hq1 w3'
       go_enter Tryz.func133, Tryz.ntmps133
       go_wp2_with fail
       refine (cS _).mono ?_
       rintro e w1 ⟨rfl, E1⟩
       go_wp2_with fail
       refine (cD _).mono ?_
       rintro e w2 ⟨rfl, E2⟩
       go_wp2_with fail
       go_ret2
       exact ⟨ret_ib (by first | exact HS.out.1.symm | exact WQ.out.trans HS.out.1.symm) HS.out.2.symm, (((Ext.refl _).alloc _).trans E1).trans E2⟩
   · rw [if_neg hc] at hnear
     have hcd : decide ((r : Int) ≥ (n : Int) - (r : Int)) = false := by simp; omega
     have hcI : ¬ (r : Int) ≥ (n : Int) - (r : Int) := by omega
     have HS : Hid (sgnV false N = (q : Int) ∧ sgnB N = true) := ⟨by rw [sgnV_yes false (by omega), hnear]; simp, sgnB_yes (by omega)⟩
     clear hnear hb hq hc w3 w2
     go_enter Tryz.func133, Tryz.ntmps133
     go_wp2_with fail
     refine (cS _).mono ?_
     rintro e w1 ⟨rfl, E1⟩
     go_wp2_with fail
     refine (cD _).mono ?_
     rintro e w2 ⟨rfl, E2⟩
     go_wp2_with fail
     go_ret2
     exact ⟨ret_ib HS.out.1.symm HS.out.2.symm, (((Ext.refl _).alloc _).trans E1).trans E2⟩
theorem sgnV_neg (N : Nat) : sgnV true N = -sgnV false N := by unfold sgnV; split <;> simp
theorem sgnV_bd (N : Nat) : 0 ≤ sgnV false N ∧ sgnV false N ≤ 9223372036854775807 := by
 unfold sgnV
 split
 · rename_i h
   unfold sgnB at h
   simp at h ⊢
   omega
 · omega
theorem sgnV_no0 {N : Nat} (h : sgnB N = false) (b : Bool) : sgnV b N = 0 := by unfold sgnV; rw [h]; rfl
set_option maxRecDepth 100000 in
theorem mean_pos (x : Int) (hx : I128 x) (n : Nat) (hn : 0 < n) (hn' : n ≤ 9223372036854775807) (W : World) : Calls Tryz.prog 100 #[.agg #[.int .i64 (hiOf x), .int .u64 (loOf x)], .int .i64 (n : Int)] W fun e w' =>
   e = .returned (.tuple #[.int .i64 (sgnV (decide (x < 0)) (nearQ x.natAbs n)), .bool (sgnB (nearQ x.natAbs n))]) ∧ Ext W w' := by
 have cQ := fun W => quotient_any x hx n hn hn' W
 have HN := hi_neg x hx
 have d1 : decide ((n : Int) < 1) = false := by simp; omega
 have d2 : ¬ (n : Int) < 1 := by omega
 have wn : IntKind.u64.wrap (n : Int) = (n : Int) := by rw [wrapU]; omega
 obtain ⟨N, hN⟩ : ∃ N, nearQ x.natAbs n = N := ⟨_, rfl⟩
 rw [hN] at cQ ⊢
 have bd := sgnV_bd N
 have hi0 : ∃ z : Int, hiOf x = z := ⟨_, rfl⟩
 obtain ⟨a0, ha0⟩ := hi0
 obtain ⟨a1, ha1⟩ : ∃ z : Int, loOf x = z := ⟨_, rfl⟩
 rw [ha0, ha1] at cQ
 rw [ha0] at HN
 rw [ha0, ha1]
 cases hb : sgnB N
 · rw [sgnV_no0 hb] at cQ ⊢
   rw [hb] at cQ
   clear HN hN bd hb ha0 ha1 hn hn'
   go_enter Tryz.func100, Tryz.ntmps100
   go_wp2_with fail
   refine (cQ _).mono ?_
   rintro e w1 ⟨rfl, E1⟩
   go_wp2_with fail
   go_ret2
   exact ⟨rfl, ((Ext.refl _).alloc _).trans E1⟩
 · rw [hb] at cQ
   by_cases hs : x < 0
   · have hd : decide (a0 < 0) = true := by rw [HN]; simpa using hs
     have hd' : a0 < 0 := by simpa using hd
     have e : decide (x < 0) = true := by simpa using hs
     rw [e, sgnV_neg]
     generalize sgnV false N = y at *
     have wy : wrap64 (-y) = -y := by unfold wrap64; omega
     clear HN hN hb ha0 ha1 hn hn' e hs
     go_enter Tryz.func100, Tryz.ntmps100
     go_wp2_with fail
     refine (cQ _).mono ?_
     rintro e w1 ⟨rfl, E1⟩
     obtain ⟨hc, hf⟩ := E1.cell
     have k0 := hc W.heap.size 0 (by simp)
     simp [go_sem] at k0
     go_wp2_with fail
     go_ret2
     exact ⟨rfl, ((Ext.refl _).alloc _).trans E1⟩
   · have hd : decide (a0 < 0) = false := by rw [HN]; simpa using hs
     have hd' : ¬ a0 < 0 := by simpa using hd
     have e : decide (x < 0) = false := by simpa using hs
     rw [e]
     generalize sgnV false N = y at *
     clear HN hN hb ha0 ha1 hn hn' e hs bd
     go_enter Tryz.func100, Tryz.ntmps100
     go_wp2_with fail
     refine (cQ _).mono ?_
     rintro e w1 ⟨rfl, E1⟩
     obtain ⟨hc, hf⟩ := E1.cell
     have k0 := hc W.heap.size 0 (by simp)
     simp [go_sem] at k0
     go_wp2_with fail
     go_ret2
     exact ⟨rfl, ((Ext.refl _).alloc _).trans E1⟩
theorem mean_no {x n : Int} (h : ¬ 1 ≤ n) : meanB x n = false ∧ meanV x n = 0 := by
 have : meanB x n = false := by unfold meanB; simp; omega
 exact ⟨this, by unfold meanV; rw [this]; rfl⟩
set_option maxRecDepth 100000 in
theorem fmean_any (x : Int) (hx : I128 x) (n : Int) (hn : I64 n) (W : World) : Calls Tryz.prog 100 #[.agg #[.int .i64 (hiOf x), .int .u64 (loOf x)], .int .i64 n] W fun e w' =>
   e = .returned (.tuple #[.int .i64 (meanV x n), .bool (meanB x n)]) ∧ Ext W w' := by
 obtain ⟨h1, h2⟩ := hn
 by_cases h : 1 ≤ n
 · obtain ⟨d, rfl⟩ := Int.eq_ofNat_of_zero_le (show 0 ≤ n by omega)
   rw [meanB_near x d (by omega), meanV_near x d (by omega)]
   exact mean_pos x hx d (by omega) (by omega) W
 · have d1 : decide (n < 1) = true := by simp; omega
   have d2 : n < 1 := by omega
   rw [(mean_no h).1, (mean_no h).2]
   generalize hiOf x = a0
   generalize loOf x = a1
   clear h
   go_enter Tryz.func100, Tryz.ntmps100
   go_wp2_with fail
   go_ret2
   exact ⟨rfl, (Ext.refl _).alloc _⟩

open Go.RowKit
set_option maxHeartbeats 1000000

theorem RdA.to {B : Nat} {W W' : World} {v : Value} {l : List Ag} (h : RdA B W v l) (hB : B ≤ W.heap.size) (e : Ext W W') : RdA W'.heap.size W' v l := ((h.up hB).low e).up e.size
theorem RdV.to {B : Nat} {W W' : World} {v : Value} {l : List Rw} (h : RdV B W v l) (hB : B ≤ W.heap.size) (e : Ext W W') : RdV W'.heap.size W' v l := ((h.up hB).low e).up e.size
/-- What is asked of arguments. -/
structure Fit (W : World) (v : Value) (gs : List Ag) : Prop where
 rd : RdA W.heap.size W v gs
 i : AgI gs
 s : (seen gs).length ≤ 1500000
 l : gs.length ≤ 1500000
theorem Fit.ext {W W' : World} {v : Value} {gs : List Ag} (h : Fit W v gs) (e : Ext W W') : Fit W' v gs := ⟨h.rd.to (Nat.le_refl _) e, h.i, h.s, h.l⟩
set_option maxRecDepth 100000 in
theorem ftold_any (n : Int) (b : Bool) (W : World) (hN : Nm W) : Calls Tryz.prog 95 #[.int .i64 n, .bool b] W fun e w' => e = .returned (toldR b n).dat ∧ Ext W w' := by
 have c1 := fun W h => vnum_any n W h
 have c2 := fun W h => err_any 4 W h
 rw [mkErr_is ⟨by decide, by decide⟩] at c2
 cases b with
 | false =>
   have H : Hid (toldR false n = .err 4) := rfl
   simp only [V.dat] at c2
   clear c1
   go_enter Tryz.func95, Tryz.ntmps95
   go_wp2_with fail
   refine (c2 _ (hN.ext ((Ext.refl _).alloc _))).mono ?_
   rintro e w1 ⟨rfl, E1⟩
   obtain ⟨z, ⟨k0, k1, k2, k3⟩, f0, f1, f2, f3⟩ := blk_top (b := W.heap.size) (by simp) E1
   go_wp2_with fail
   exact fin4 k0 k1 k2 k3 rfl (by simp) (((Ext.refl _).alloc _).trans E1) (fun W g0 g1 g2 g3 => by simp [results, Tryz.results95, go_sem, g0, g1, g2, g3]) (fun W h => ⟨by rw [H.out]; rfl, h⟩)
 | true =>
   have H : Hid (toldR true n = mkNum n) := rfl
   obtain ⟨q0, q1, q2, q3, hq⟩ := dat4 (mkNum n)
   rw [hq] at c1
   have HQ : Hid ((mkNum n).dat = .agg #[.int .i64 q0, .int .i64 q1, .string q2, .int .i64 q3]) := hq
   clear c2 hq
   go_enter Tryz.func95, Tryz.ntmps95
   go_wp2_with fail
   refine (c1 _ (hN.ext ((Ext.refl _).alloc _))).mono ?_
   rintro e w1 ⟨rfl, E1⟩
   obtain ⟨z, ⟨k0, k1, k2, k3⟩, f0, f1, f2, f3⟩ := blk_top (b := W.heap.size) (by simp) E1
   go_wp2_with fail
   exact fin4 k0 k1 k2 k3 rfl (by simp) (((Ext.refl _).alloc _).trans E1) (fun W g0 g1 g2 g3 => by simp [results, Tryz.results95, go_sem, g0, g1, g2, g3]) (fun W h => ⟨by rw [H.out, HQ.out], h⟩)
/-! ### A sum's bounds -/
theorem sum_bd {l : List V} (h : AllN l) (hl : l.length ≤ 2000000) : I128 (sumN l) := by
 have hb : ∀ v ∈ l, -9223372036854775808 ≤ v.n ∧ v.n ≤ 9223372036854775807 := fun v hv => by
   obtain ⟨n, rfl, h1, _⟩ := h v hv
   exact h1
 have h1 := sum_le (c := 9223372036854775807) (fun v hv => (hb v hv).2)
 have h2 := le_sum (c := -9223372036854775808) (fun v hv => (hb v hv).1)
 exact ⟨by omega, by omega⟩
theorem Fit.sum {W : World} {v : Value} {gs : List Ag} (h : Fit W v gs) : I128 (sumN (got numF (seen gs))) := sum_bd (got_nums _ (seen_ok gs h.i)) (Nat.le_trans (got_len _ _) (Nat.le_trans h.s (by decide)))
theorem Fit.num {W : World} {v : Value} {gs : List Ag} (h : Fit W v gs) : (got numF (seen gs)).length ≤ 1500000 := Nat.le_trans (got_len _ _) h.s
set_option maxRecDepth 100000 in
theorem fsum_any (gs : List Ag) (W : World) (p : Option Addr) (n c : Nat) (hF : Fit W (.slice p n c) gs) (hN : Nm W) :
   Calls Tryz.prog 58 #[.slice p n c] W fun e w' => e = .returned (fSum gs).dat ∧ Ext W w' := by
 have HF : Hid (Fit W (.slice p n c) gs ∧ Nm W) := ⟨hF, hN⟩
 have HS : Hid (fSum gs = if (bad numF (seen gs)).k = 4 then bad numF (seen gs) else toldR (toldB (sumN (got numF (seen gs)))) (toldV (sumN (got numF (seen gs))))) := rfl
 have CT : Hid (∀ V, Ext W V → Calls Tryz.prog 94 #[.slice p n c] V fun e w' => e = .returned (.tuple #[.agg #[.int .i64 (hiOf (sumN (got numF (seen gs)))), .int .u64 (loOf (sumN (got numF (seen gs))))], .int .i64 ((got numF (seen gs)).length : Int), (bad numF (seen gs)).dat]) ∧ Ext V w') := fun V e =>
   have f := hF.ext e
   total_any V gs p n c f.rd f.i f.s f.l (hN.ext e)
 have cTo := fun W => told_acc (sumN (got numF (seen gs))) W
 have cR := fun W h => ftold_any (toldV (sumN (got numF (seen gs)))) (toldB (sumN (got numF (seen gs)))) W h
 clear hF hN
 rw [dat_eq (bad numF (seen gs))] at CT
 obtain ⟨q0, q1, q2, q3, hq⟩ := dat4 (toldR (toldB (sumN (got numF (seen gs)))) (toldV (sumN (got numF (seen gs)))))
 rw [hq] at cR
 have HQ : Hid ((toldR (toldB (sumN (got numF (seen gs)))) (toldV (sumN (got numF (seen gs))))).dat = .agg #[.int .i64 q0, .int .i64 q1, .string q2, .int .i64 q3]) := hq
 clear hq
 generalize sumN (got numF (seen gs)) = S at *
 generalize hiOf S = S0 at *
 generalize loOf S = S1 at *
 generalize toldV S = tv at *
 generalize toldB S = tb at *
 generalize ((got numF (seen gs)).length : Int) = C0 at *
 have HB : Hid ((bad numF (seen gs)).dat = .agg #[.int .i64 (bad numF (seen gs)).k, .int .i64 (bad numF (seen gs)).n, .string (bad numF (seen gs)).s, .int .i64 (bad numF (seen gs)).e]) := dat_eq _
 generalize bad numF (seen gs) = z at *
 obtain ⟨zk, hzk⟩ : ∃ r, z.k = r := ⟨_, rfl⟩
 obtain ⟨zn, hzn⟩ : ∃ r, z.n = r := ⟨_, rfl⟩
 obtain ⟨zs', hzs⟩ : ∃ r, z.s = r := ⟨_, rfl⟩
 obtain ⟨ze, hze⟩ : ∃ r, z.e = r := ⟨_, rfl⟩
 rw [hzk, hzn, hzs, hze] at CT HB
 rw [hzk] at HS
 clear hzk hzn hzs hze
 by_cases h4 : zk = 4
 · have e4 : (zk == 4) = true := by simpa using h4
   have HZ : Hid (fSum gs = z) := by show _ = _; rw [HS.out, if_pos h4]
   clear h4 HS cTo cR
   go_enter Tryz.func58, Tryz.ntmps58
   go_wp2_with fail
   refine (CT.out _ ((Ext.refl _).alloc _)).mono ?_
   rintro e w1 ⟨rfl, E1⟩
   have X1 : Hid (Ext W w1) := ((Ext.refl _).alloc _).trans E1
   have HB1 : Hid (Blk w1 W.heap.size (.int .i64 0) (.int .i64 0) (.string ⟨#[]⟩) (.int .i64 0)) := blk_top (by simp) E1
   obtain ⟨c0z, ⟨c0_0, c0_1, c0_2, c0_3⟩, c0f0, c0f1, c0f2, c0f3⟩ := HB1.out
   clear E1
   go_wp2_with fail
   exact finB (((HB1.out.set _ _ _ _).al _).al _) rfl (by with_reducible repeat (first | exact X1.out | exact Ext.refl _ | apply Ext.alloc | apply Ext.drewN | (refine Ext.setCell ?_ (by simp) _))) (fun g0 g1 g2 g3 => by simp [results, Tryz.results58, go_sem, g0, g1, g2, g3]) (fun h => ⟨by rw [HZ.out, HB.out], h⟩)
 · have e4 : (zk == 4) = false := by simpa using h4
   have HZ : Hid (fSum gs = toldR tb tv) := by show _ = _; rw [HS.out, if_neg h4]
   clear h4 HS
   go_enter Tryz.func58, Tryz.ntmps58
   go_wp2_with fail
   refine (CT.out _ ((Ext.refl _).alloc _)).mono ?_
   rintro e w1 ⟨rfl, E1⟩
   have X1 : Hid (Ext W w1) := ((Ext.refl _).alloc _).trans E1
   have HB1 : Hid (Blk w1 W.heap.size (.int .i64 0) (.int .i64 0) (.string ⟨#[]⟩) (.int .i64 0)) := blk_top (by simp) E1
   obtain ⟨c0z, ⟨c0_0, c0_1, c0_2, c0_3⟩, c0f0, c0f1, c0f2, c0f3⟩ := HB1.out
   clear E1
   go_wp2_with fail
   refine (cTo _).mono ?_
   rintro e w2 ⟨rfl, E2⟩
   have X2 : Hid (Ext W w2) := Ext.trans (by with_reducible repeat (first | exact X1.out | exact Ext.refl _ | apply Ext.alloc | apply Ext.drewN | (refine Ext.setCell ?_ (by simp) _))) E2
   have HB2 : Hid (Blk w2 W.heap.size (.int .i64 0) (.int .i64 0) (.string ⟨#[]⟩) (.int .i64 0)) := ((HB1.out.al _).al _).ext E2
   clear c0z c0_0 c0_1 c0_2 c0_3 c0f0 c0f1 c0f2 c0f3 E2
   obtain ⟨c0z, ⟨c0_0, c0_1, c0_2, c0_3⟩, c0f0, c0f1, c0f2, c0f3⟩ := HB2.out
   go_wp2_with fail
   refine (cR _ (HF.out.2.ext (by with_reducible repeat (first | exact X2.out | apply Ext.alloc)))).mono ?_
   rintro e w3 ⟨rfl, E3⟩
   have X3 : Hid (Ext W w3) := Ext.trans (by with_reducible repeat (first | exact X2.out | exact Ext.refl _ | apply Ext.alloc | apply Ext.drewN | (refine Ext.setCell ?_ (by simp) _))) E3
   have HB3 : Hid (Blk w3 W.heap.size (.int .i64 0) (.int .i64 0) (.string ⟨#[]⟩) (.int .i64 0)) := (HB2.out).ext E3
   clear c0z c0_0 c0_1 c0_2 c0_3 c0f0 c0f1 c0f2 c0f3 E3
   obtain ⟨c0z, ⟨c0_0, c0_1, c0_2, c0_3⟩, c0f0, c0f1, c0f2, c0f3⟩ := HB3.out
   go_wp2_with fail
   exact finB (HB3.out.set _ _ _ _) rfl (by with_reducible repeat (first | exact X3.out | exact Ext.refl _ | apply Ext.alloc | apply Ext.drewN | (refine Ext.setCell ?_ (by simp) _))) (fun g0 g1 g2 g3 => by simp [results, Tryz.results58, go_sem, g0, g1, g2, g3]) (fun h => ⟨by rw [HZ.out, HQ.out], h⟩)
set_option maxRecDepth 100000 in
theorem fcount_any (gs : List Ag) (W : World) (p : Option Addr) (n c : Nat) (hF : Fit W (.slice p n c) gs) (hN : Nm W) :
   Calls Tryz.prog 59 #[.slice p n c] W fun e w' => e = .returned (fCount gs).dat ∧ Ext W w' := by
 have HF : Hid (Fit W (.slice p n c) gs ∧ Nm W) := ⟨hF, hN⟩
 have HS : Hid (fCount gs = mkNum (((got numF (seen gs)).length : Int) * 10000)) := rfl
 have CT : Hid (∀ V, Ext W V → Calls Tryz.prog 94 #[.slice p n c] V fun e w' => e = .returned (.tuple #[.agg #[.int .i64 (hiOf (sumN (got numF (seen gs)))), .int .u64 (loOf (sumN (got numF (seen gs))))], .int .i64 ((got numF (seen gs)).length : Int), (bad numF (seen gs)).dat]) ∧ Ext V w') := fun V e =>
   have f := hF.ext e
   total_any V gs p n c f.rd f.i f.s f.l (hN.ext e)
 have cR := fun W h => vnum_any (((got numF (seen gs)).length : Int) * 10000) W h
 obtain ⟨q0, q1, q2, q3, hq⟩ := dat4 (mkNum (((got numF (seen gs)).length : Int) * 10000))
 rw [hq] at cR
 have HQ : Hid ((mkNum (((got numF (seen gs)).length : Int) * 10000)).dat = .agg #[.int .i64 q0, .int .i64 q1, .string q2, .int .i64 q3]) := hq
 have hm := hF.num
 have wm : wrap64 (((got numF (seen gs)).length : Int) * 10000) = ((got numF (seen gs)).length : Int) * 10000 := by unfold wrap64; omega
 clear hF hN hq hm
 rw [dat_eq (bad numF (seen gs))] at CT
 generalize sumN (got numF (seen gs)) = S at *
 generalize hiOf S = S0 at *
 generalize loOf S = S1 at *
 generalize (got numF (seen gs)).length = C0 at *
 obtain ⟨C1, hC1⟩ : ∃ r : Int, (C0 : Int) * 10000 = r := ⟨_, rfl⟩
 rw [hC1] at cR HQ HS
 have wm2 : wrap64 ((C0 : Int) * 10000) = C1 := by rw [wm, hC1]
 clear wm hC1
 generalize bad numF (seen gs) = z at *
 generalize z.k = zk at *
 generalize z.n = zn at *
 generalize z.s = zs' at *
 generalize z.e = ze at *
 go_enter Tryz.func59, Tryz.ntmps59
 go_wp2_with fail
 refine (CT.out _ ((Ext.refl _).alloc _)).mono ?_
 rintro e w1 ⟨rfl, E1⟩
 have X1 : Hid (Ext W w1) := ((Ext.refl _).alloc _).trans E1
 have HB1 : Hid (Blk w1 W.heap.size (.int .i64 0) (.int .i64 0) (.string ⟨#[]⟩) (.int .i64 0)) := blk_top (by simp) E1
 obtain ⟨c0z, ⟨c0_0, c0_1, c0_2, c0_3⟩, c0f0, c0f1, c0f2, c0f3⟩ := HB1.out
 clear E1
 go_wp2_with fail
 refine (cR _ (HF.out.2.ext (by with_reducible repeat (first | exact X1.out | apply Ext.alloc)))).mono ?_
 rintro e w2 ⟨rfl, E2⟩
 have X2 : Hid (Ext W w2) := Ext.trans (by with_reducible repeat (first | exact X1.out | exact Ext.refl _ | apply Ext.alloc | apply Ext.drewN | (refine Ext.setCell ?_ (by simp) _))) E2
 have HB2 : Hid (Blk w2 W.heap.size (.int .i64 0) (.int .i64 0) (.string ⟨#[]⟩) (.int .i64 0)) := ((HB1.out.al _).al _).ext E2
 clear c0z c0_0 c0_1 c0_2 c0_3 c0f0 c0f1 c0f2 c0f3 E2
 obtain ⟨c0z, ⟨c0_0, c0_1, c0_2, c0_3⟩, c0f0, c0f1, c0f2, c0f3⟩ := HB2.out
 go_wp2_with fail
 exact finB (HB2.out.set _ _ _ _) rfl (by with_reducible repeat (first | exact X2.out | exact Ext.refl _ | apply Ext.alloc | apply Ext.drewN | (refine Ext.setCell ?_ (by simp) _))) (fun g0 g1 g2 g3 => by simp [results, Tryz.results59, go_sem, g0, g1, g2, g3]) (fun h => ⟨by rw [HS.out, HQ.out], h⟩)
set_option maxRecDepth 100000 in
theorem favg_any (gs : List Ag) (W : World) (p : Option Addr) (n c : Nat) (hF : Fit W (.slice p n c) gs) (hN : Nm W) :
   Calls Tryz.prog 62 #[.slice p n c] W fun e w' => e = .returned (fMean gs).dat ∧ Ext W w' := by
 have HF : Hid (Fit W (.slice p n c) gs ∧ Nm W) := ⟨hF, hN⟩
 have HS : Hid (fMean gs = if (bad numF (seen gs)).k = 4 then bad numF (seen gs) else if (got numF (seen gs)).length = 0 then .err 3 else toldR (meanB (sumN (got numF (seen gs))) (got numF (seen gs)).length) (meanV (sumN (got numF (seen gs))) (got numF (seen gs)).length)) := rfl
 have CT : Hid (∀ V, Ext W V → Calls Tryz.prog 94 #[.slice p n c] V fun e w' => e = .returned (.tuple #[.agg #[.int .i64 (hiOf (sumN (got numF (seen gs)))), .int .u64 (loOf (sumN (got numF (seen gs))))], .int .i64 ((got numF (seen gs)).length : Int), (bad numF (seen gs)).dat]) ∧ Ext V w') := fun V e =>
   have f := hF.ext e
   total_any V gs p n c f.rd f.i f.s f.l (hN.ext e)
 have hm := hF.num
 have cTo := fun W => fmean_any (sumN (got numF (seen gs))) hF.sum ((got numF (seen gs)).length : Int) ⟨by omega, by omega⟩ W
 have cE := fun W h => err_any 3 W h
 rw [mkErr_is ⟨by decide, by decide⟩] at cE
 simp only [V.dat] at cE
 have cR := fun W h => ftold_any (meanV (sumN (got numF (seen gs))) (got numF (seen gs)).length) (meanB (sumN (got numF (seen gs))) (got numF (seen gs)).length) W h
 clear hF hN hm
 rw [dat_eq (bad numF (seen gs))] at CT
 obtain ⟨q0, q1, q2, q3, hq⟩ := dat4 (toldR (meanB (sumN (got numF (seen gs))) (got numF (seen gs)).length) (meanV (sumN (got numF (seen gs))) (got numF (seen gs)).length))
 rw [hq] at cR
 have HQ : Hid ((toldR (meanB (sumN (got numF (seen gs))) (got numF (seen gs)).length) (meanV (sumN (got numF (seen gs))) (got numF (seen gs)).length)).dat = .agg #[.int .i64 q0, .int .i64 q1, .string q2, .int .i64 q3]) := hq
 clear hq
 generalize sumN (got numF (seen gs)) = S at *
 generalize hiOf S = S0 at *
 generalize loOf S = S1 at *
 generalize (got numF (seen gs)).length = C0 at *
 generalize meanV S (C0 : Int) = tv at *
 generalize meanB S (C0 : Int) = tb at *
 have HB : Hid ((bad numF (seen gs)).dat = .agg #[.int .i64 (bad numF (seen gs)).k, .int .i64 (bad numF (seen gs)).n, .string (bad numF (seen gs)).s, .int .i64 (bad numF (seen gs)).e]) := dat_eq _
 generalize bad numF (seen gs) = z at *
 obtain ⟨zk, hzk⟩ : ∃ r, z.k = r := ⟨_, rfl⟩
 obtain ⟨zn, hzn⟩ : ∃ r, z.n = r := ⟨_, rfl⟩
 obtain ⟨zs', hzs⟩ : ∃ r, z.s = r := ⟨_, rfl⟩
 obtain ⟨ze, hze⟩ : ∃ r, z.e = r := ⟨_, rfl⟩
 rw [hzk, hzn, hzs, hze] at CT HB
 rw [hzk] at HS
 clear hzk hzn hzs hze
 by_cases h4 : zk = 4
 · have e4 : (zk == 4) = true := by simpa using h4
   have HZ : Hid (fMean gs = z) := by show _ = _; rw [HS.out, if_pos h4]
   clear h4 HS cTo cR cE
   go_enter Tryz.func62, Tryz.ntmps62
   go_wp2_with fail
   refine (CT.out _ ((Ext.refl _).alloc _)).mono ?_
   rintro e w1 ⟨rfl, E1⟩
   have X1 : Hid (Ext W w1) := ((Ext.refl _).alloc _).trans E1
   have HB1 : Hid (Blk w1 W.heap.size (.int .i64 0) (.int .i64 0) (.string ⟨#[]⟩) (.int .i64 0)) := blk_top (by simp) E1
   obtain ⟨c0z, ⟨c0_0, c0_1, c0_2, c0_3⟩, c0f0, c0f1, c0f2, c0f3⟩ := HB1.out
   clear E1
   go_wp2_with fail
   exact finB (((HB1.out.set _ _ _ _).al _).al _) rfl (by with_reducible repeat (first | exact X1.out | exact Ext.refl _ | apply Ext.alloc | apply Ext.drewN | (refine Ext.setCell ?_ (by simp) _))) (fun g0 g1 g2 g3 => by simp [results, Tryz.results62, go_sem, g0, g1, g2, g3]) (fun h => ⟨by rw [HZ.out, HB.out], h⟩)
 have e4 : (zk == 4) = false := by simpa using h4
 rw [if_neg h4] at HS
 clear h4
 by_cases hc : C0 = 0
 · have ec : ((C0 : Int) == 0) = true := by simp; omega
   have HZ : Hid (fMean gs = .err 3) := by show _ = _; rw [HS.out, if_pos hc]
   clear hc HS cTo cR
   go_enter Tryz.func62, Tryz.ntmps62
   go_wp2_with fail
   refine (CT.out _ ((Ext.refl _).alloc _)).mono ?_
   rintro e w1 ⟨rfl, E1⟩
   have X1 : Hid (Ext W w1) := ((Ext.refl _).alloc _).trans E1
   have HB1 : Hid (Blk w1 W.heap.size (.int .i64 0) (.int .i64 0) (.string ⟨#[]⟩) (.int .i64 0)) := blk_top (by simp) E1
   obtain ⟨c0z, ⟨c0_0, c0_1, c0_2, c0_3⟩, c0f0, c0f1, c0f2, c0f3⟩ := HB1.out
   clear E1
   go_wp2_with fail
   refine (cE _ (HF.out.2.ext (by with_reducible repeat (first | exact X1.out | apply Ext.alloc)))).mono ?_
   rintro e w2 ⟨rfl, E2⟩
   have X2 : Hid (Ext W w2) := Ext.trans (by with_reducible repeat (first | exact X1.out | exact Ext.refl _ | apply Ext.alloc | apply Ext.drewN | (refine Ext.setCell ?_ (by simp) _))) E2
   have HB2 : Hid (Blk w2 W.heap.size (.int .i64 0) (.int .i64 0) (.string ⟨#[]⟩) (.int .i64 0)) := ((HB1.out.al _).al _).ext E2
   clear c0z c0_0 c0_1 c0_2 c0_3 c0f0 c0f1 c0f2 c0f3 E2
   obtain ⟨c0z, ⟨c0_0, c0_1, c0_2, c0_3⟩, c0f0, c0f1, c0f2, c0f3⟩ := HB2.out
   go_wp2_with fail
   exact finB (HB2.out.set _ _ _ _) rfl (by with_reducible repeat (first | exact X2.out | exact Ext.refl _ | apply Ext.alloc | apply Ext.drewN | (refine Ext.setCell ?_ (by simp) _))) (fun g0 g1 g2 g3 => by simp [results, Tryz.results62, go_sem, g0, g1, g2, g3]) (fun h => ⟨by rw [HZ.out]; rfl, h⟩)
 · have ec : ((C0 : Int) == 0) = false := by simp; omega
   have HZ : Hid (fMean gs = toldR tb tv) := by show _ = _; rw [HS.out, if_neg hc]
   clear hc HS cE
   go_enter Tryz.func62, Tryz.ntmps62
   go_wp2_with fail
   refine (CT.out _ ((Ext.refl _).alloc _)).mono ?_
   rintro e w1 ⟨rfl, E1⟩
   have X1 : Hid (Ext W w1) := ((Ext.refl _).alloc _).trans E1
   have HB1 : Hid (Blk w1 W.heap.size (.int .i64 0) (.int .i64 0) (.string ⟨#[]⟩) (.int .i64 0)) := blk_top (by simp) E1
   obtain ⟨c0z, ⟨c0_0, c0_1, c0_2, c0_3⟩, c0f0, c0f1, c0f2, c0f3⟩ := HB1.out
   clear E1
   go_wp2_with fail
   refine (cTo _).mono ?_
   rintro e w2 ⟨rfl, E2⟩
   have X2 : Hid (Ext W w2) := Ext.trans (by with_reducible repeat (first | exact X1.out | exact Ext.refl _ | apply Ext.alloc | apply Ext.drewN | (refine Ext.setCell ?_ (by simp) _))) E2
   have HB2 : Hid (Blk w2 W.heap.size (.int .i64 0) (.int .i64 0) (.string ⟨#[]⟩) (.int .i64 0)) := ((HB1.out.al _).al _).ext E2
   clear c0z c0_0 c0_1 c0_2 c0_3 c0f0 c0f1 c0f2 c0f3 E2
   obtain ⟨c0z, ⟨c0_0, c0_1, c0_2, c0_3⟩, c0f0, c0f1, c0f2, c0f3⟩ := HB2.out
   go_wp2_with fail
   refine (cR _ (HF.out.2.ext (by with_reducible repeat (first | exact X2.out | apply Ext.alloc)))).mono ?_
   rintro e w3 ⟨rfl, E3⟩
   have X3 : Hid (Ext W w3) := Ext.trans (by with_reducible repeat (first | exact X2.out | exact Ext.refl _ | apply Ext.alloc | apply Ext.drewN | (refine Ext.setCell ?_ (by simp) _))) E3
   have HB3 : Hid (Blk w3 W.heap.size (.int .i64 0) (.int .i64 0) (.string ⟨#[]⟩) (.int .i64 0)) := (HB2.out).ext E3
   clear c0z c0_0 c0_1 c0_2 c0_3 c0f0 c0f1 c0f2 c0f3 E3
   obtain ⟨c0z, ⟨c0_0, c0_1, c0_2, c0_3⟩, c0f0, c0f1, c0f2, c0f3⟩ := HB3.out
   go_wp2_with fail
   exact finB (HB3.out.set _ _ _ _) rfl (by with_reducible repeat (first | exact X3.out | exact Ext.refl _ | apply Ext.alloc | apply Ext.drewN | (refine Ext.setCell ?_ (by simp) _))) (fun g0 g1 g2 g3 => by simp [results, Tryz.results62, go_sem, g0, g1, g2, g3]) (fun h => ⟨by rw [HZ.out, HQ.out], h⟩)
set_option maxRecDepth 100000 in
theorem fmin_any (gs : List Ag) (W : World) (p : Option Addr) (n c : Nat) (hF : Fit W (.slice p n c) gs) (hN : Nm W) :
   Calls Tryz.prog 60 #[.slice p n c] W fun e w' => e = .returned (fBest ltB gs).dat ∧ Ext W w' := by
 have HF : Hid (Fit W (.slice p n c) gs ∧ Nm W) := ⟨hF, hN⟩
 have CT : Hid (∀ V, Ext W V → Calls Tryz.prog 97 #[.slice p n c, .func (.func 98) #[] #[]] V fun e w' => e = .returned (fBest ltB gs).dat ∧ Ext V w') := fun V e =>
   have f := hF.ext e
   utmost_any ltB _ ah_min V gs p n c f.rd f.i f.s f.l (hN.ext e)
 clear hF hN
 obtain ⟨q0, q1, q2, q3, hq⟩ := dat4 (fBest ltB gs)
 rw [hq] at CT
 have HQ : Hid ((fBest ltB gs).dat = .agg #[.int .i64 q0, .int .i64 q1, .string q2, .int .i64 q3]) := hq
 clear hq
 go_enter Tryz.func60, Tryz.ntmps60
 go_wp2_with fail
 refine (CT.out _ ((Ext.refl _).alloc _)).mono ?_
 rintro e w1 ⟨rfl, E1⟩
 have X1 : Hid (Ext W w1) := ((Ext.refl _).alloc _).trans E1
 have HB1 : Hid (Blk w1 W.heap.size (.int .i64 0) (.int .i64 0) (.string ⟨#[]⟩) (.int .i64 0)) := blk_top (by simp) E1
 obtain ⟨c0z, ⟨c0_0, c0_1, c0_2, c0_3⟩, c0f0, c0f1, c0f2, c0f3⟩ := HB1.out
 clear E1
 go_wp2_with fail
 exact finB (HB1.out.set _ _ _ _) rfl (by with_reducible repeat (first | exact X1.out | exact Ext.refl _ | apply Ext.alloc | apply Ext.drewN | (refine Ext.setCell ?_ (by simp) _))) (fun g0 g1 g2 g3 => by simp [results, Tryz.results60, go_sem, g0, g1, g2, g3]) (fun h => ⟨by rw [HQ.out], h⟩)
set_option maxRecDepth 100000 in
theorem fmax_any (gs : List Ag) (W : World) (p : Option Addr) (n c : Nat) (hF : Fit W (.slice p n c) gs) (hN : Nm W) :
   Calls Tryz.prog 61 #[.slice p n c] W fun e w' => e = .returned (fBest gtB gs).dat ∧ Ext W w' := by
 have HF : Hid (Fit W (.slice p n c) gs ∧ Nm W) := ⟨hF, hN⟩
 have CT : Hid (∀ V, Ext W V → Calls Tryz.prog 97 #[.slice p n c, .func (.func 99) #[] #[]] V fun e w' => e = .returned (fBest gtB gs).dat ∧ Ext V w') := fun V e =>
   have f := hF.ext e
   utmost_any gtB _ ah_max V gs p n c f.rd f.i f.s f.l (hN.ext e)
 clear hF hN
 obtain ⟨q0, q1, q2, q3, hq⟩ := dat4 (fBest gtB gs)
 rw [hq] at CT
 have HQ : Hid ((fBest gtB gs).dat = .agg #[.int .i64 q0, .int .i64 q1, .string q2, .int .i64 q3]) := hq
 clear hq
 go_enter Tryz.func61, Tryz.ntmps61
 go_wp2_with fail
 refine (CT.out _ ((Ext.refl _).alloc _)).mono ?_
 rintro e w1 ⟨rfl, E1⟩
 have X1 : Hid (Ext W w1) := ((Ext.refl _).alloc _).trans E1
 have HB1 : Hid (Blk w1 W.heap.size (.int .i64 0) (.int .i64 0) (.string ⟨#[]⟩) (.int .i64 0)) := blk_top (by simp) E1
 obtain ⟨c0z, ⟨c0_0, c0_1, c0_2, c0_3⟩, c0f0, c0f1, c0f2, c0f3⟩ := HB1.out
 clear E1
 go_wp2_with fail
 exact finB (HB1.out.set _ _ _ _) rfl (by with_reducible repeat (first | exact X1.out | exact Ext.refl _ | apply Ext.alloc | apply Ext.drewN | (refine Ext.setCell ?_ (by simp) _))) (fun g0 g1 g2 g3 => by simp [results, Tryz.results61, go_sem, g0, g1, g2, g3]) (fun h => ⟨by rw [HQ.out], h⟩)
set_option maxRecDepth 100000 in
theorem truthOf_any (b : Bool) (m : Nat) (z : V) (W : World) (hN : Nm W) : Calls Tryz.prog 102 #[.bool b, .int .i64 (m : Int), z.dat] W fun e w' => e = .returned (orBad z (if m = 0 then .err 2 else .tf b)).dat ∧ Ext W w' := by
 have cE := fun W h => err_any 2 W h
 rw [mkErr_is ⟨by decide, by decide⟩] at cE
 have cB := fun W => vbool_any b W
 obtain ⟨q0, q1, q2, q3, hq⟩ := dat4 (V.tf b)
 rw [hq] at cB
 have HQ : Hid ((V.tf b).dat = .agg #[.int .i64 q0, .int .i64 q1, .string q2, .int .i64 q3]) := hq
 simp only [V.dat] at cE
 have HB : Hid (z.dat = .agg #[.int .i64 z.k, .int .i64 z.n, .string z.s, .int .i64 z.e]) := dat_eq _
 rw [dat_eq z]
 have HS : Hid (orBad z (if m = 0 then .err 2 else .tf b) = if z.k = 4 then z else (if m = 0 then .err 2 else .tf b)) := rfl
 obtain ⟨R, hR⟩ : ∃ R, orBad z (if m = 0 then .err 2 else .tf b) = R := ⟨_, rfl⟩
 rw [hR] at HS ⊢
 clear hq hR
 obtain ⟨zk, hzk⟩ : ∃ r, z.k = r := ⟨_, rfl⟩
 obtain ⟨zn, hzn⟩ : ∃ r, z.n = r := ⟨_, rfl⟩
 obtain ⟨zs', hzs⟩ : ∃ r, z.s = r := ⟨_, rfl⟩
 obtain ⟨ze, hze⟩ : ∃ r, z.e = r := ⟨_, rfl⟩
 rw [hzk, hzn, hzs, hze] at HB ⊢
 rw [hzk] at HS
 clear hzk hzn hzs hze
 have X0 : Hid (∀ o o', Ext W ((W.alloc o).alloc o')) := fun o o' => ((Ext.refl _).alloc _).alloc _
 by_cases h4 : zk = 4
 · have e4 : (zk == 4) = true := by simpa using h4
   have HZ : Hid (R = z) := by show _ = _; rw [HS.out, if_pos h4]
   clear h4 HS cB cE
   go_enter Tryz.func102, Tryz.ntmps102
   go_wp2_with fail
   simp [bodyPost, results, Tryz.results102, go_sem]
   exact ⟨by rw [HZ.out, HB.out], X0.out _ _⟩
 have e4 : (zk == 4) = false := by simpa using h4
 rw [if_neg h4] at HS
 clear h4
 by_cases hc : m = 0
 · have ec : ((m : Int) == 0) = true := by simp; omega
   have HZ : Hid (R = .err 2) := by show _ = _; rw [HS.out, if_pos hc]
   clear hc HS cB
   go_enter Tryz.func102, Tryz.ntmps102
   go_wp2_with fail
   refine (cE _ (hN.ext (X0.out _ _))).mono ?_
   rintro e w1 ⟨rfl, E1⟩
   obtain ⟨z1, ⟨k0, k1, k2, k3⟩, f0, f1, f2, f3⟩ := blk_top (b := W.heap.size + 1) (by simp) E1
   go_wp2_with fail
   exact fin4 k0 k1 k2 k3 rfl (by simp) ((X0.out _ _).trans E1) (fun W g0 g1 g2 g3 => by simp [results, Tryz.results102, go_sem, g0, g1, g2, g3]) (fun W h => ⟨by rw [HZ.out]; rfl, h⟩)
 · have ec : ((m : Int) == 0) = false := by simp; omega
   have HZ : Hid (R = .tf b) := by show _ = _; rw [HS.out, if_neg hc]
   clear hc HS cE
   go_enter Tryz.func102, Tryz.ntmps102
   go_wp2_with fail
   refine (cB _).mono ?_
   rintro e w1 ⟨rfl, E1⟩
   obtain ⟨z1, ⟨k0, k1, k2, k3⟩, f0, f1, f2, f3⟩ := blk_top (b := W.heap.size + 1) (by simp) E1
   go_wp2_with fail
   exact fin4 k0 k1 k2 k3 rfl (by simp) ((X0.out _ _).trans E1) (fun W g0 g1 g2 g3 => by simp [results, Tryz.results102, go_sem, g0, g1, g2, g3]) (fun W h => ⟨by rw [HZ.out, HQ.out], h⟩)
set_option maxRecDepth 100000 in
theorem fand_any (gs : List Ag) (W : World) (p : Option Addr) (n c : Nat) (hF : Fit W (.slice p n c) gs) (hN : Nm W) :
   Calls Tryz.prog 63 #[.slice p n c] W fun e w' => e = .returned (fAnd gs).dat ∧ Ext W w' := by
 have HF : Hid (Fit W (.slice p n c) gs ∧ Nm W) := ⟨hF, hN⟩
 have HS : Hid (fAnd gs = orBad (bad truF (seen gs)) (if (got truF (seen gs)).length = 0 then .err 2 else .tf (decide (truN (got truF (seen gs)) = (got truF (seen gs)).length)))) := rfl
 have CT : Hid (∀ V, Ext W V → Calls Tryz.prog 101 #[.slice p n c] V fun e w' => e = .returned (.tuple #[.int .i64 ((got truF (seen gs)).length : Int), .int .i64 (truN (got truF (seen gs)) : Int), (bad truF (seen gs)).dat]) ∧ Ext V w') := fun V e =>
   have f := hF.ext e
   poll_any V gs p n c f.rd f.i f.s f.l (hN.ext e)
 have cR := fun W h => truthOf_any (decide (truN (got truF (seen gs)) = (got truF (seen gs)).length)) (got truF (seen gs)).length (bad truF (seen gs)) W h
 clear hF hN
 rw [dat_eq (bad truF (seen gs))] at CT cR
 obtain ⟨R, hR⟩ : ∃ R, fAnd gs = R := ⟨_, rfl⟩
 rw [← HS.out, hR] at cR
 rw [hR]
 obtain ⟨q0, q1, q2, q3, hq⟩ := dat4 R
 rw [hq] at cR
 have HQ : Hid (R.dat = .agg #[.int .i64 q0, .int .i64 q1, .string q2, .int .i64 q3]) := hq
 clear hq HS hR
 generalize truN (got truF (seen gs)) = T0 at *
 generalize (got truF (seen gs)).length = C0 at *
 generalize bad truF (seen gs) = z at *
 generalize z.k = zk at *
 generalize z.n = zn at *
 generalize z.s = zs' at *
 generalize z.e = ze at *
 obtain ⟨bb, hbb⟩ : ∃ bb, decide (T0 = C0) = bb := ⟨_, rfl⟩
 rw [hbb] at cR
 have eb : (((T0 : Int)) == ((C0 : Int))) = bb := by rw [← hbb, Bool.eq_iff_iff]; simp; omega
 clear hbb
 go_enter Tryz.func63, Tryz.ntmps63
 go_wp2_with fail
 refine (CT.out _ ((Ext.refl _).alloc _)).mono ?_
 rintro e w1 ⟨rfl, E1⟩
 have X1 : Hid (Ext W w1) := ((Ext.refl _).alloc _).trans E1
 have HB1 : Hid (Blk w1 W.heap.size (.int .i64 0) (.int .i64 0) (.string ⟨#[]⟩) (.int .i64 0)) := blk_top (by simp) E1
 obtain ⟨c0z, ⟨c0_0, c0_1, c0_2, c0_3⟩, c0f0, c0f1, c0f2, c0f3⟩ := HB1.out
 clear E1
 go_wp2_with fail
 refine (cR _ (HF.out.2.ext (by with_reducible repeat (first | exact X1.out | apply Ext.alloc)))).mono ?_
 rintro e w2 ⟨rfl, E2⟩
 have X2 : Hid (Ext W w2) := Ext.trans (by with_reducible repeat (first | exact X1.out | exact Ext.refl _ | apply Ext.alloc | apply Ext.drewN | (refine Ext.setCell ?_ (by simp) _))) E2
 have HB2 : Hid (Blk w2 W.heap.size (.int .i64 0) (.int .i64 0) (.string ⟨#[]⟩) (.int .i64 0)) := (HB1.out.al _).ext E2
 clear c0z c0_0 c0_1 c0_2 c0_3 c0f0 c0f1 c0f2 c0f3 E2
 obtain ⟨c0z, ⟨c0_0, c0_1, c0_2, c0_3⟩, c0f0, c0f1, c0f2, c0f3⟩ := HB2.out
 go_wp2_with fail
 exact finB (HB2.out.set _ _ _ _) rfl (by with_reducible repeat (first | exact X2.out | exact Ext.refl _ | apply Ext.alloc | apply Ext.drewN | (refine Ext.setCell ?_ (by simp) _))) (fun g0 g1 g2 g3 => by simp [results, Tryz.results63, go_sem, g0, g1, g2, g3]) (fun h => ⟨by rw [HQ.out], h⟩)
set_option maxRecDepth 100000 in
theorem for_any (gs : List Ag) (W : World) (p : Option Addr) (n c : Nat) (hF : Fit W (.slice p n c) gs) (hN : Nm W) :
   Calls Tryz.prog 64 #[.slice p n c] W fun e w' => e = .returned (fOr gs).dat ∧ Ext W w' := by
 have HF : Hid (Fit W (.slice p n c) gs ∧ Nm W) := ⟨hF, hN⟩
 have HS : Hid (fOr gs = orBad (bad truF (seen gs)) (if (got truF (seen gs)).length = 0 then .err 2 else .tf (decide (0 < truN (got truF (seen gs)))))) := rfl
 have CT : Hid (∀ V, Ext W V → Calls Tryz.prog 101 #[.slice p n c] V fun e w' => e = .returned (.tuple #[.int .i64 ((got truF (seen gs)).length : Int), .int .i64 (truN (got truF (seen gs)) : Int), (bad truF (seen gs)).dat]) ∧ Ext V w') := fun V e =>
   have f := hF.ext e
   poll_any V gs p n c f.rd f.i f.s f.l (hN.ext e)
 have cR := fun W h => truthOf_any (decide (0 < truN (got truF (seen gs)))) (got truF (seen gs)).length (bad truF (seen gs)) W h
 clear hF hN
 rw [dat_eq (bad truF (seen gs))] at CT cR
 obtain ⟨R, hR⟩ : ∃ R, fOr gs = R := ⟨_, rfl⟩
 rw [← HS.out, hR] at cR
 rw [hR]
 obtain ⟨q0, q1, q2, q3, hq⟩ := dat4 R
 rw [hq] at cR
 have HQ : Hid (R.dat = .agg #[.int .i64 q0, .int .i64 q1, .string q2, .int .i64 q3]) := hq
 clear hq HS hR
 generalize truN (got truF (seen gs)) = T0 at *
 generalize (got truF (seen gs)).length = C0 at *
 generalize bad truF (seen gs) = z at *
 generalize z.k = zk at *
 generalize z.n = zn at *
 generalize z.s = zs' at *
 generalize z.e = ze at *
 obtain ⟨bb, hbb⟩ : ∃ bb, decide (0 < T0) = bb := ⟨_, rfl⟩
 rw [hbb] at cR
 have eb : decide (((T0 : Int)) > 0) = bb := by rw [← hbb, Bool.eq_iff_iff]; simp
 clear eb
 go_enter Tryz.func64, Tryz.ntmps64
 go_wp2_with fail
 refine (CT.out _ ((Ext.refl _).alloc _)).mono ?_
 rintro e w1 ⟨rfl, E1⟩
 have X1 : Hid (Ext W w1) := ((Ext.refl _).alloc _).trans E1
 have HB1 : Hid (Blk w1 W.heap.size (.int .i64 0) (.int .i64 0) (.string ⟨#[]⟩) (.int .i64 0)) := blk_top (by simp) E1
 obtain ⟨c0z, ⟨c0_0, c0_1, c0_2, c0_3⟩, c0f0, c0f1, c0f2, c0f3⟩ := HB1.out
 clear E1
 go_wp2_with fail
 refine (cR _ (HF.out.2.ext (by with_reducible repeat (first | exact X1.out | apply Ext.alloc)))).mono ?_
 rintro e w2 ⟨rfl, E2⟩
 have X2 : Hid (Ext W w2) := Ext.trans (by with_reducible repeat (first | exact X1.out | exact Ext.refl _ | apply Ext.alloc | apply Ext.drewN | (refine Ext.setCell ?_ (by simp) _))) E2
 have HB2 : Hid (Blk w2 W.heap.size (.int .i64 0) (.int .i64 0) (.string ⟨#[]⟩) (.int .i64 0)) := (HB1.out.al _).ext E2
 clear c0z c0_0 c0_1 c0_2 c0_3 c0f0 c0f1 c0f2 c0f3 E2
 obtain ⟨c0z, ⟨c0_0, c0_1, c0_2, c0_3⟩, c0f0, c0f1, c0f2, c0f3⟩ := HB2.out
 go_wp2_with fail
 exact finB (HB2.out.set _ _ _ _) rfl (by with_reducible repeat (first | exact X2.out | exact Ext.refl _ | apply Ext.alloc | apply Ext.drewN | (refine Ext.setCell ?_ (by simp) _))) (fun g0 g1 g2 g3 => by simp [results, Tryz.results64, go_sem, g0, g1, g2, g3]) (fun h => ⟨by rw [HQ.out], h⟩)
end Go.Proofs.YtalejeknigbhjaaGreatDoor
