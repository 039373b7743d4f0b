/-
 The document's functions of many values: Call.
-/
import Derived.Test.YtalejeknigbhjaaGreatDoorY23
import Derived.Test.YtalejeknigbhjaaGreatDoorY16
namespace Go.Proofs.YtalejeknigbhjaaGreatDoor
open Go.RowKit
set_option maxHeartbeats 1000000

set_option maxRecDepth 100000 in
theorem rcall_count (gs : List Ag) (W : World) (p : Option Addr) (n c : Nat) (hF : Fit W (.slice p n c) gs) :
   Calls Tryz.prog 24 #[.string ⟨#[67, 79, 85, 78, 84]⟩, .slice p n c] W fun e w' => e = .returned (fCount gs).dat ∧ Ext W w' := by
 have CT : Hid (∀ V, Ext W V → Calls Tryz.prog 38 #[.slice p n c] V fun e w' => ∃ ov, e = .returned (.tuple #[ov, (bad numF (seen gs)).dat]) ∧ w'.ownsRow V.heap.size 2 1 ov (got numF (seen gs)).length ((got numF (seen gs)).flatMap cI) ∧ Ext V w') := fun V e => numbers_any13 gs p n c V (hF.ext e)
 have hm := hF.num
 have hAll : ∀ v ∈ got numF (seen gs), I64 v.n := fun v hv => by
   obtain ⟨m, rfl, h1, _⟩ := got_nums _ (seen_ok gs hF.i) v hv
   exact h1
 have hsum := hF.sum
 obtain ⟨L, hL⟩ : ∃ L, got numF (seen gs) = L := ⟨_, rfl⟩
 have HB : Hid ((bad numF (seen gs)).dat = .agg #[.int .i64 (bad numF (seen gs)).k, .int .i64 (bad numF (seen gs)).n, .string (bad numF (seen gs)).s, .int .i64 (bad numF (seen gs)).e]) := dat_eq _
 rw [dat_eq (bad numF (seen gs)), hL] at CT
 rw [hL] at hm hAll hsum
 obtain ⟨R, hR⟩ : ∃ R, fCount gs = R := ⟨_, rfl⟩
 rw [hR]
 have HS : Hid (R = mkNum ((L.length : Int) * 10000)) := by show _ = _; rw [← hR, ← hL]; rfl
 have cR := fun V => rnum_any ((L.length : Int) * 10000) V
 obtain ⟨q0, q1, q2, q3, hq⟩ := dat4 (mkNum ((L.length : Int) * 10000))
 rw [hq] at cR
 have HQ : Hid ((mkNum ((L.length : Int) * 10000)).dat = .agg #[.int .i64 q0, .int .i64 q1, .string q2, .int .i64 q3]) := hq
 have wm : wrap64 ((L.length : Int) * 10000) = (L.length : Int) * 10000 := by unfold wrap64; omega
 clear hq hsum hAll hm
 generalize bad numF (seen gs) = z at *
 generalize z.k = zk at *
 generalize z.n = zn at *
 generalize z.s = zs' at *
 generalize z.e = ze at *
 obtain ⟨C0, hC0⟩ : ∃ q, L.length = q := ⟨_, rfl⟩
 have HC0 : Hid (L.length = C0) := hC0
 rw [hC0] at CT cR HQ HS wm
 obtain ⟨C1, hC1⟩ : ∃ r : Int, (C0 : Int) * 10000 = r := ⟨_, rfl⟩
 rw [hC1] at cR HQ HS
 have wm2 : wrap64 ((C0 : Int) * 10000) = C1 := by rw [wm, hC1]
 clear wm hC1 hF hL hR hC0
 go_enter Tryz.func24, Tryz.ntmps24
 go_wp2_with fail
 refine (CT.out _ ((Ext.refl _).alloc _)).mono ?_
 rintro e w1 ⟨ov, rfl, O1, E1⟩
 obtain ⟨pv, cv, rfl, _⟩ := own_form O1
 have X1 : Hid (Ext W w1) := ((Ext.refl _).alloc _).trans E1
 have HB1 : Hid (Blk w1 W.heap.size (.int .i64 0) (.int .i64 0) (.string ⟨#[]⟩) (.int .i64 0)) := blk_top (by simp) E1
 have HI1 : Hid (RdI w1 (.slice pv C0 cv) L) := ⟨_, by rw [HC0.out]; exact O1⟩
 obtain ⟨c0z, ⟨c0_0, c0_1, c0_2, c0_3⟩, c0f0, c0f1, c0f2, c0f3⟩ := HB1.out
 clear E1 O1
 go_wp2_with fail
 refine (cR _).mono ?_
 rintro e w2 ⟨rfl, E2⟩
 have X2 : Hid (Ext W w2) := Ext.trans (by with_reducible repeat (first | exact X1.out | exact Ext.refl _ | apply Ext.alloc | apply Ext.drewN | (refine Ext.setCell ?_ (by simp) _))) E2
 have HB2 : Hid (Blk w2 W.heap.size (.int .i64 0) (.int .i64 0) (.string ⟨#[]⟩) (.int .i64 0)) := ((HB1.out.al _)).ext E2
 clear c0z c0_0 c0_1 c0_2 c0_3 c0f0 c0f1 c0f2 c0f3 E2
 obtain ⟨c0z, ⟨c0_0, c0_1, c0_2, c0_3⟩, c0f0, c0f1, c0f2, c0f3⟩ := HB2.out
 go_wp2_with fail
 exact finB (HB2.out.set _ _ _ _) rfl (by with_reducible repeat (first | exact X2.out | exact Ext.refl _ | apply Ext.alloc | apply Ext.drewN | (refine Ext.setCell ?_ (by simp) _))) (fun g0 g1 g2 g3 => by simp [results, Tryz.results24, go_sem, g0, g1, g2, g3]) (fun h => ⟨by rw [HS.out, HQ.out], h⟩)

set_option maxRecDepth 100000 in
theorem rcall_sum (gs : List Ag) (W : World) (p : Option Addr) (n c : Nat) (hF : Fit W (.slice p n c) gs) :
   Calls Tryz.prog 24 #[.string ⟨#[83, 85, 77]⟩, .slice p n c] W fun e w' => e = .returned (fSum gs).dat ∧ Ext W w' := by
 have CT : Hid (∀ V, Ext W V → Calls Tryz.prog 38 #[.slice p n c] V fun e w' => ∃ ov, e = .returned (.tuple #[ov, (bad numF (seen gs)).dat]) ∧ w'.ownsRow V.heap.size 2 1 ov (got numF (seen gs)).length ((got numF (seen gs)).flatMap cI) ∧ Ext V w') := fun V e => numbers_any13 gs p n c V (hF.ext e)
 have hm := hF.num
 have hAll : ∀ v ∈ got numF (seen gs), I64 v.n := fun v hv => by
   obtain ⟨m, rfl, h1, _⟩ := got_nums _ (seen_ok gs hF.i) v hv
   exact h1
 have hsum := hF.sum
 obtain ⟨L, hL⟩ : ∃ L, got numF (seen gs) = L := ⟨_, rfl⟩
 have HB : Hid ((bad numF (seen gs)).dat = .agg #[.int .i64 (bad numF (seen gs)).k, .int .i64 (bad numF (seen gs)).n, .string (bad numF (seen gs)).s, .int .i64 (bad numF (seen gs)).e]) := dat_eq _
 rw [dat_eq (bad numF (seen gs)), hL] at CT
 rw [hL] at hm hAll hsum
 obtain ⟨R, hR⟩ : ∃ R, fSum gs = R := ⟨_, rfl⟩
 rw [hR]
 have HS : Hid (R = if (bad numF (seen gs)).k = 4 then bad numF (seen gs) else toldR (toldB (sumN L)) (toldV (sumN L))) := by show _ = _; rw [← hR, ← hL]; rfl
 have cTo := fun V => rtold_acc (sumN L) V
 have cR := fun V => rtold13_any (toldV (sumN L)) (toldB (sumN L)) V
 obtain ⟨q0, q1, q2, q3, hq⟩ := dat4 (toldR (toldB (sumN L)) (toldV (sumN L)))
 rw [hq] at cR
 have HQ : Hid ((toldR (toldB (sumN L)) (toldV (sumN L))).dat = .agg #[.int .i64 q0, .int .i64 q1, .string q2, .int .i64 q3]) := hq
 have cS := fun V (h : RdI V (.slice (none : Option Addr) 0 0) L) => h
 clear hq cS
 generalize bad numF (seen gs) = z at *
 obtain ⟨zk, hzk⟩ : ∃ r, z.k = r := ⟨_, rfl⟩
 obtain ⟨zn, hzn⟩ : ∃ r, z.n = r := ⟨_, rfl⟩
 obtain ⟨zs', hzs⟩ : ∃ r, z.s = r := ⟨_, rfl⟩
 obtain ⟨ze, hze⟩ : ∃ r, z.e = r := ⟨_, rfl⟩
 rw [hzk, hzn, hzs, hze] at CT HB
 rw [hzk] at HS
 clear hzk hzn hzs hze
 have HL : Hid (L.length ≤ 1500000 ∧ (∀ v ∈ L, I64 v.n) ∧ I128 (sumN L)) := ⟨hm, hAll, hsum⟩
 obtain ⟨C0, hC0⟩ : ∃ q, L.length = q := ⟨_, rfl⟩
 have HC0 : Hid (L.length = C0) := hC0
 rw [hC0] at CT
 clear hm hAll hsum hF hL hR hC0
 have CS : Hid (∀ V pv cv, RdI V (.slice pv C0 cv) L → Calls Tryz.prog 42 #[.slice pv C0 cv] V fun e w' => e = .returned (.agg #[.int .i64 (hiOf (sumN L)), .int .u64 (loOf (sumN L))]) ∧ Ext V w') := fun V pv cv h => rtotal_any L HL.out.1 HL.out.2.1 pv C0 cv V h
 generalize sumN L = S at *
 generalize hiOf S = S0 at *
 generalize loOf S = S1 at *
 generalize toldV S = tv at *
 generalize toldB S = tb at *
 by_cases h4 : zk = 4
 · have e4 : (zk == 4) = true := by simpa using h4
   have HZ : Hid (R = z) := by show _ = _; rw [HS.out, if_pos h4]
   clear h4 HS cTo cR CS
   go_enter Tryz.func24, Tryz.ntmps24
   go_wp2_with fail
   refine (CT.out _ ((Ext.refl _).alloc _)).mono ?_
   rintro e w1 ⟨ov, rfl, O1, E1⟩
   obtain ⟨pv, cv, rfl, _⟩ := own_form O1
   have X1 : Hid (Ext W w1) := ((Ext.refl _).alloc _).trans E1
   have HB1 : Hid (Blk w1 W.heap.size (.int .i64 0) (.int .i64 0) (.string ⟨#[]⟩) (.int .i64 0)) := blk_top (by simp) E1
   have HI1 : Hid (RdI w1 (.slice pv C0 cv) L) := ⟨_, by rw [HC0.out]; exact O1⟩
   obtain ⟨c0z, ⟨c0_0, c0_1, c0_2, c0_3⟩, c0f0, c0f1, c0f2, c0f3⟩ := HB1.out
   clear E1 O1
   go_wp2_with fail
   exact finB ((HB1.out.set _ _ _ _).al _) rfl (by with_reducible repeat (first | exact X1.out | exact Ext.refl _ | apply Ext.alloc | apply Ext.drewN | (refine Ext.setCell ?_ (by simp) _))) (fun g0 g1 g2 g3 => by simp [results, Tryz.results24, go_sem, g0, g1, g2, g3]) (fun h => ⟨by rw [HZ.out, HB.out], h⟩)
 · have e4 : (zk == 4) = false := by simpa using h4
   have HZ : Hid (R = toldR tb tv) := by show _ = _; rw [HS.out, if_neg h4]
   clear h4 HS
   go_enter Tryz.func24, Tryz.ntmps24
   go_wp2_with fail
   refine (CT.out _ ((Ext.refl _).alloc _)).mono ?_
   rintro e w1 ⟨ov, rfl, O1, E1⟩
   obtain ⟨pv, cv, rfl, _⟩ := own_form O1
   have X1 : Hid (Ext W w1) := ((Ext.refl _).alloc _).trans E1
   have HB1 : Hid (Blk w1 W.heap.size (.int .i64 0) (.int .i64 0) (.string ⟨#[]⟩) (.int .i64 0)) := blk_top (by simp) E1
   have HI1 : Hid (RdI w1 (.slice pv C0 cv) L) := ⟨_, by rw [HC0.out]; exact O1⟩
   obtain ⟨c0z, ⟨c0_0, c0_1, c0_2, c0_3⟩, c0f0, c0f1, c0f2, c0f3⟩ := HB1.out
   clear E1 O1
   go_wp2_with fail
   refine (CS.out _ _ _ (HI1.out.ext ((Ext.refl _).alloc _))).mono ?_
   rintro e w2 ⟨rfl, E2⟩
   have X2 : Hid (Ext W w2) := Ext.trans (by with_reducible repeat (first | exact X1.out | exact Ext.refl _ | apply Ext.alloc | apply Ext.drewN | (refine Ext.setCell ?_ (by simp) _))) E2
   have HB2 : Hid (Blk w2 W.heap.size (.int .i64 0) (.int .i64 0) (.string ⟨#[]⟩) (.int .i64 0)) := ((HB1.out.al _)).ext E2
   clear c0z c0_0 c0_1 c0_2 c0_3 c0f0 c0f1 c0f2 c0f3 E2
   obtain ⟨c0z, ⟨c0_0, c0_1, c0_2, c0_3⟩, c0f0, c0f1, c0f2, c0f3⟩ := HB2.out
   go_wp2_with fail
   refine (cTo _).mono ?_
   rintro e w3 ⟨rfl, E3⟩
   have X3 : Hid (Ext W w3) := Ext.trans (by with_reducible repeat (first | exact X2.out | exact Ext.refl _ | apply Ext.alloc | apply Ext.drewN | (refine Ext.setCell ?_ (by simp) _))) E3
   have HB3 : Hid (Blk w3 W.heap.size (.int .i64 0) (.int .i64 0) (.string ⟨#[]⟩) (.int .i64 0)) := (HB2.out).ext E3
   clear c0z c0_0 c0_1 c0_2 c0_3 c0f0 c0f1 c0f2 c0f3 E3
   obtain ⟨c0z, ⟨c0_0, c0_1, c0_2, c0_3⟩, c0f0, c0f1, c0f2, c0f3⟩ := HB3.out
   go_wp2_with fail
   refine (cR _).mono ?_
   rintro e w4 ⟨rfl, E4⟩
   have X4 : Hid (Ext W w4) := Ext.trans (by with_reducible repeat (first | exact X3.out | exact Ext.refl _ | apply Ext.alloc | apply Ext.drewN | (refine Ext.setCell ?_ (by simp) _))) E4
   have HB4 : Hid (Blk w4 W.heap.size (.int .i64 0) (.int .i64 0) (.string ⟨#[]⟩) (.int .i64 0)) := (HB3.out).ext E4
   clear c0z c0_0 c0_1 c0_2 c0_3 c0f0 c0f1 c0f2 c0f3 E4
   obtain ⟨c0z, ⟨c0_0, c0_1, c0_2, c0_3⟩, c0f0, c0f1, c0f2, c0f3⟩ := HB4.out
   go_wp2_with fail
   exact finB (HB4.out.set _ _ _ _) rfl (by with_reducible repeat (first | exact X4.out | exact Ext.refl _ | apply Ext.alloc | apply Ext.drewN | (refine Ext.setCell ?_ (by simp) _))) (fun g0 g1 g2 g3 => by simp [results, Tryz.results24, go_sem, g0, g1, g2, g3]) (fun h => ⟨by rw [HZ.out, HQ.out], h⟩)

set_option maxRecDepth 100000 in
theorem rcall_avg (gs : List Ag) (W : World) (p : Option Addr) (n c : Nat) (hF : Fit W (.slice p n c) gs) :
   Calls Tryz.prog 24 #[.string ⟨#[65, 86, 69, 82, 65, 71, 69]⟩, .slice p n c] W fun e w' => e = .returned (fMean gs).dat ∧ Ext W w' := by
 have CT : Hid (∀ V, Ext W V → Calls Tryz.prog 38 #[.slice p n c] V fun e w' => ∃ ov, e = .returned (.tuple #[ov, (bad numF (seen gs)).dat]) ∧ w'.ownsRow V.heap.size 2 1 ov (got numF (seen gs)).length ((got numF (seen gs)).flatMap cI) ∧ Ext V w') := fun V e => numbers_any13 gs p n c V (hF.ext e)
 have hm := hF.num
 have hAll : ∀ v ∈ got numF (seen gs), I64 v.n := fun v hv => by
   obtain ⟨m, rfl, h1, _⟩ := got_nums _ (seen_ok gs hF.i) v hv
   exact h1
 have hsum := hF.sum
 obtain ⟨L, hL⟩ : ∃ L, got numF (seen gs) = L := ⟨_, rfl⟩
 have HB : Hid ((bad numF (seen gs)).dat = .agg #[.int .i64 (bad numF (seen gs)).k, .int .i64 (bad numF (seen gs)).n, .string (bad numF (seen gs)).s, .int .i64 (bad numF (seen gs)).e]) := dat_eq _
 rw [dat_eq (bad numF (seen gs)), hL] at CT
 rw [hL] at hm hAll hsum
 obtain ⟨R, hR⟩ : ∃ R, fMean gs = R := ⟨_, rfl⟩
 rw [hR]
 have HS : Hid (R = if (bad numF (seen gs)).k = 4 then bad numF (seen gs) else if L.length = 0 then .err 3 else toldR (meanB (sumN L) L.length) (meanV (sumN L) L.length)) := by show _ = _; rw [← hR, ← hL]; rfl
 have cTo := fun V => rmean_any (sumN L) hsum (L.length : Int) ⟨by omega, by omega⟩ V
 have cE := fun V => rerr_any 3 V
 rw [mkErr_is ⟨by decide, by decide⟩] at cE
 simp only [V.dat] at cE
 have cR := fun V => rtold13_any (meanV (sumN L) L.length) (meanB (sumN L) L.length) V
 obtain ⟨q0, q1, q2, q3, hq⟩ := dat4 (toldR (meanB (sumN L) L.length) (meanV (sumN L) L.length))
 rw [hq] at cR
 have HQ : Hid ((toldR (meanB (sumN L) L.length) (meanV (sumN L) L.length)).dat = .agg #[.int .i64 q0, .int .i64 q1, .string q2, .int .i64 q3]) := hq
 clear hq
 generalize bad numF (seen gs) = z at *
 obtain ⟨zk, hzk⟩ : ∃ r, z.k = r := ⟨_, rfl⟩
 obtain ⟨zn, hzn⟩ : ∃ r, z.n = r := ⟨_, rfl⟩
 obtain ⟨zs', hzs⟩ : ∃ r, z.s = r := ⟨_, rfl⟩
 obtain ⟨ze, hze⟩ : ∃ r, z.e = r := ⟨_, rfl⟩
 rw [hzk, hzn, hzs, hze] at CT HB
 rw [hzk] at HS
 clear hzk hzn hzs hze
 have HL : Hid (L.length ≤ 1500000 ∧ (∀ v ∈ L, I64 v.n) ∧ I128 (sumN L)) := ⟨hm, hAll, hsum⟩
 obtain ⟨C0, hC0⟩ : ∃ q, L.length = q := ⟨_, rfl⟩
 have HC0 : Hid (L.length = C0) := hC0
 rw [hC0] at CT
 clear hm hAll hsum hF hL hR hC0
 rw [HC0.out] at HS cTo cR HQ
 have CS : Hid (∀ V pv cv, RdI V (.slice pv C0 cv) L → Calls Tryz.prog 42 #[.slice pv C0 cv] V fun e w' => e = .returned (.agg #[.int .i64 (hiOf (sumN L)), .int .u64 (loOf (sumN L))]) ∧ Ext V w') := fun V pv cv h => rtotal_any L HL.out.1 HL.out.2.1 pv C0 cv V h
 generalize sumN L = S at *
 generalize hiOf S = S0 at *
 generalize loOf S = S1 at *
 generalize meanV S (C0 : Int) = tv at *
 generalize meanB S (C0 : Int) = tb at *
 by_cases h4 : zk = 4
 · have e4 : (zk == 4) = true := by simpa using h4
   have HZ : Hid (R = z) := by show _ = _; rw [HS.out, if_pos h4]
   clear h4 HS cTo cR CS cE
   go_enter Tryz.func24, Tryz.ntmps24
   go_wp2_with fail
   refine (CT.out _ ((Ext.refl _).alloc _)).mono ?_
   rintro e w1 ⟨ov, rfl, O1, E1⟩
   obtain ⟨pv, cv, rfl, _⟩ := own_form O1
   have X1 : Hid (Ext W w1) := ((Ext.refl _).alloc _).trans E1
   have HB1 : Hid (Blk w1 W.heap.size (.int .i64 0) (.int .i64 0) (.string ⟨#[]⟩) (.int .i64 0)) := blk_top (by simp) E1
   have HI1 : Hid (RdI w1 (.slice pv C0 cv) L) := ⟨_, by rw [HC0.out]; exact O1⟩
   obtain ⟨c0z, ⟨c0_0, c0_1, c0_2, c0_3⟩, c0f0, c0f1, c0f2, c0f3⟩ := HB1.out
   clear E1 O1
   go_wp2_with fail
   exact finB ((HB1.out.set _ _ _ _).al _) rfl (by with_reducible repeat (first | exact X1.out | exact Ext.refl _ | apply Ext.alloc | apply Ext.drewN | (refine Ext.setCell ?_ (by simp) _))) (fun g0 g1 g2 g3 => by simp [results, Tryz.results24, go_sem, g0, g1, g2, g3]) (fun h => ⟨by rw [HZ.out, HB.out], h⟩)
 have e4 : (zk == 4) = false := by simpa using h4
 rw [if_neg h4] at HS
 clear h4
 by_cases hc : C0 = 0
 · have ec : ((C0 : Int) == 0) = true := by simp; omega
   have HZ : Hid (R = .err 3) := by show _ = _; rw [HS.out, if_pos hc]
   clear hc HS cTo cR CS
   go_enter Tryz.func24, Tryz.ntmps24
   go_wp2_with fail
   refine (CT.out _ ((Ext.refl _).alloc _)).mono ?_
   rintro e w1 ⟨ov, rfl, O1, E1⟩
   obtain ⟨pv, cv, rfl, _⟩ := own_form O1
   have X1 : Hid (Ext W w1) := ((Ext.refl _).alloc _).trans E1
   have HB1 : Hid (Blk w1 W.heap.size (.int .i64 0) (.int .i64 0) (.string ⟨#[]⟩) (.int .i64 0)) := blk_top (by simp) E1
   have HI1 : Hid (RdI w1 (.slice pv C0 cv) L) := ⟨_, by rw [HC0.out]; exact O1⟩
   obtain ⟨c0z, ⟨c0_0, c0_1, c0_2, c0_3⟩, c0f0, c0f1, c0f2, c0f3⟩ := HB1.out
   clear E1 O1
   go_wp2_with fail
   refine (cE _).mono ?_
   rintro e w2 ⟨rfl, E2⟩
   have X2 : Hid (Ext W w2) := Ext.trans (by with_reducible repeat (first | exact X1.out | exact Ext.refl _ | apply Ext.alloc | apply Ext.drewN | (refine Ext.setCell ?_ (by simp) _))) E2
   have HB2 : Hid (Blk w2 W.heap.size (.int .i64 0) (.int .i64 0) (.string ⟨#[]⟩) (.int .i64 0)) := ((HB1.out.al _)).ext E2
   clear c0z c0_0 c0_1 c0_2 c0_3 c0f0 c0f1 c0f2 c0f3 E2
   obtain ⟨c0z, ⟨c0_0, c0_1, c0_2, c0_3⟩, c0f0, c0f1, c0f2, c0f3⟩ := HB2.out
   go_wp2_with fail
   exact finB (HB2.out.set _ _ _ _) rfl (by with_reducible repeat (first | exact X2.out | exact Ext.refl _ | apply Ext.alloc | apply Ext.drewN | (refine Ext.setCell ?_ (by simp) _))) (fun g0 g1 g2 g3 => by simp [results, Tryz.results24, go_sem, g0, g1, g2, g3]) (fun h => ⟨by rw [HZ.out]; rfl, h⟩)
 · have ec : ((C0 : Int) == 0) = false := by simp; omega
   have HZ : Hid (R = toldR tb tv) := by show _ = _; rw [HS.out, if_neg hc]
   clear hc HS cE
   go_enter Tryz.func24, Tryz.ntmps24
   go_wp2_with fail
   refine (CT.out _ ((Ext.refl _).alloc _)).mono ?_
   rintro e w1 ⟨ov, rfl, O1, E1⟩
   obtain ⟨pv, cv, rfl, _⟩ := own_form O1
   have X1 : Hid (Ext W w1) := ((Ext.refl _).alloc _).trans E1
   have HB1 : Hid (Blk w1 W.heap.size (.int .i64 0) (.int .i64 0) (.string ⟨#[]⟩) (.int .i64 0)) := blk_top (by simp) E1
   have HI1 : Hid (RdI w1 (.slice pv C0 cv) L) := ⟨_, by rw [HC0.out]; exact O1⟩
   obtain ⟨c0z, ⟨c0_0, c0_1, c0_2, c0_3⟩, c0f0, c0f1, c0f2, c0f3⟩ := HB1.out
   clear E1 O1
   go_wp2_with fail
   refine (CS.out _ _ _ (HI1.out.ext ((Ext.refl _).alloc _))).mono ?_
   rintro e w2 ⟨rfl, E2⟩
   have X2 : Hid (Ext W w2) := Ext.trans (by with_reducible repeat (first | exact X1.out | exact Ext.refl _ | apply Ext.alloc | apply Ext.drewN | (refine Ext.setCell ?_ (by simp) _))) E2
   have HB2 : Hid (Blk w2 W.heap.size (.int .i64 0) (.int .i64 0) (.string ⟨#[]⟩) (.int .i64 0)) := ((HB1.out.al _)).ext E2
   clear c0z c0_0 c0_1 c0_2 c0_3 c0f0 c0f1 c0f2 c0f3 E2
   obtain ⟨c0z, ⟨c0_0, c0_1, c0_2, c0_3⟩, c0f0, c0f1, c0f2, c0f3⟩ := HB2.out
   go_wp2_with fail
   refine (cTo _).mono ?_
   rintro e w3 ⟨rfl, E3⟩
   have X3 : Hid (Ext W w3) := Ext.trans (by with_reducible repeat (first | exact X2.out | exact Ext.refl _ | apply Ext.alloc | apply Ext.drewN | (refine Ext.setCell ?_ (by simp) _))) E3
   have HB3 : Hid (Blk w3 W.heap.size (.int .i64 0) (.int .i64 0) (.string ⟨#[]⟩) (.int .i64 0)) := (HB2.out).ext E3
   clear c0z c0_0 c0_1 c0_2 c0_3 c0f0 c0f1 c0f2 c0f3 E3
   obtain ⟨c0z, ⟨c0_0, c0_1, c0_2, c0_3⟩, c0f0, c0f1, c0f2, c0f3⟩ := HB3.out
   go_wp2_with fail
   refine (cR _).mono ?_
   rintro e w4 ⟨rfl, E4⟩
   have X4 : Hid (Ext W w4) := Ext.trans (by with_reducible repeat (first | exact X3.out | exact Ext.refl _ | apply Ext.alloc | apply Ext.drewN | (refine Ext.setCell ?_ (by simp) _))) E4
   have HB4 : Hid (Blk w4 W.heap.size (.int .i64 0) (.int .i64 0) (.string ⟨#[]⟩) (.int .i64 0)) := (HB3.out).ext E4
   clear c0z c0_0 c0_1 c0_2 c0_3 c0f0 c0f1 c0f2 c0f3 E4
   obtain ⟨c0z, ⟨c0_0, c0_1, c0_2, c0_3⟩, c0f0, c0f1, c0f2, c0f3⟩ := HB4.out
   go_wp2_with fail
   exact finB (HB4.out.set _ _ _ _) rfl (by with_reducible repeat (first | exact X4.out | exact Ext.refl _ | apply Ext.alloc | apply Ext.drewN | (refine Ext.setCell ?_ (by simp) _))) (fun g0 g1 g2 g3 => by simp [results, Tryz.results24, go_sem, g0, g1, g2, g3]) (fun h => ⟨by rw [HZ.out, HQ.out], h⟩)

set_option maxRecDepth 100000 in
theorem rcall_min (gs : List Ag) (W : World) (p : Option Addr) (n c : Nat) (hF : Fit W (.slice p n c) gs) :
   Calls Tryz.prog 24 #[.string ⟨#[77, 73, 78]⟩, .slice p n c] W fun e w' => e = .returned (fBest ltB gs).dat ∧ Ext W w' := by
 have CT : Hid (∀ V, Ext W V → Calls Tryz.prog 38 #[.slice p n c] V fun e w' => ∃ ov, e = .returned (.tuple #[ov, (bad numF (seen gs)).dat]) ∧ w'.ownsRow V.heap.size 2 1 ov (got numF (seen gs)).length ((got numF (seen gs)).flatMap cI) ∧ Ext V w') := fun V e => numbers_any13 gs p n c V (hF.ext e)
 have hm := hF.num
 have hAll : ∀ v ∈ got numF (seen gs), I64 v.n := fun v hv => by
   obtain ⟨m, rfl, h1, _⟩ := got_nums _ (seen_ok gs hF.i) v hv
   exact h1
 have hsum := hF.sum
 obtain ⟨L, hL⟩ : ∃ L, got numF (seen gs) = L := ⟨_, rfl⟩
 have HB : Hid ((bad numF (seen gs)).dat = .agg #[.int .i64 (bad numF (seen gs)).k, .int .i64 (bad numF (seen gs)).n, .string (bad numF (seen gs)).s, .int .i64 (bad numF (seen gs)).e]) := dat_eq _
 rw [dat_eq (bad numF (seen gs)), hL] at CT
 rw [hL] at hm hAll hsum
 obtain ⟨R, hR⟩ : ∃ R, fBest ltB gs = R := ⟨_, rfl⟩
 rw [hR]
 have HS : Hid (R = if (bad numF (seen gs)).k = 4 then bad numF (seen gs) else mkNum (bestN ltB L)) := by show _ = _; rw [← hR, ← hL]; rfl
 generalize bad numF (seen gs) = z at *
 obtain ⟨zk, hzk⟩ : ∃ r, z.k = r := ⟨_, rfl⟩
 obtain ⟨zn, hzn⟩ : ∃ r, z.n = r := ⟨_, rfl⟩
 obtain ⟨zs', hzs⟩ : ∃ r, z.s = r := ⟨_, rfl⟩
 obtain ⟨ze, hze⟩ : ∃ r, z.e = r := ⟨_, rfl⟩
 rw [hzk, hzn, hzs, hze] at CT HB
 rw [hzk] at HS
 clear hzk hzn hzs hze
 have HL : Hid (L.length ≤ 1500000 ∧ (∀ v ∈ L, I64 v.n) ∧ I128 (sumN L)) := ⟨hm, hAll, hsum⟩
 obtain ⟨C0, hC0⟩ : ∃ q, L.length = q := ⟨_, rfl⟩
 have HC0 : Hid (L.length = C0) := hC0
 rw [hC0] at CT
 clear hm hAll hsum hF hL hR hC0
 by_cases h4 : zk = 4
 · have e4 : (zk == 4) = true := by simpa using h4
   have HZ : Hid (R = z) := by show _ = _; rw [HS.out, if_pos h4]
   clear h4 HS
   go_enter Tryz.func24, Tryz.ntmps24
   go_wp2_with fail
   refine (CT.out _ ((Ext.refl _).alloc _)).mono ?_
   rintro e w1 ⟨ov, rfl, O1, E1⟩
   obtain ⟨pv, cv, rfl, _⟩ := own_form O1
   have X1 : Hid (Ext W w1) := ((Ext.refl _).alloc _).trans E1
   have HB1 : Hid (Blk w1 W.heap.size (.int .i64 0) (.int .i64 0) (.string ⟨#[]⟩) (.int .i64 0)) := blk_top (by simp) E1
   have HI1 : Hid (RdI w1 (.slice pv C0 cv) L) := ⟨_, by rw [HC0.out]; exact O1⟩
   obtain ⟨c0z, ⟨c0_0, c0_1, c0_2, c0_3⟩, c0f0, c0f1, c0f2, c0f3⟩ := HB1.out
   clear E1 O1
   go_wp2_with fail
   exact finB ((HB1.out.set _ _ _ _).al _) rfl (by with_reducible repeat (first | exact X1.out | exact Ext.refl _ | apply Ext.alloc | apply Ext.drewN | (refine Ext.setCell ?_ (by simp) _))) (fun g0 g1 g2 g3 => by simp [results, Tryz.results24, go_sem, g0, g1, g2, g3]) (fun h => ⟨by rw [HZ.out, HB.out], h⟩)
 have e4 : (zk == 4) = false := by simpa using h4
 rw [if_neg h4] at HS
 clear h4
 go_enter Tryz.func24, Tryz.ntmps24
 go_wp2_with fail
 refine (CT.out _ ((Ext.refl _).alloc _)).mono ?_
 rintro e w1 ⟨ov, rfl, O1, E1⟩
 obtain ⟨pv, cv, rfl, _⟩ := own_form O1
 have X1 : Hid (Ext W w1) := ((Ext.refl _).alloc _).trans E1
 have HB1 : Hid (Blk w1 W.heap.size (.int .i64 0) (.int .i64 0) (.string ⟨#[]⟩) (.int .i64 0)) := blk_top (by simp) E1
 have HI1 : Hid (RdI w1 (.slice pv C0 cv) L) := ⟨_, by rw [HC0.out]; exact O1⟩
 obtain ⟨c0z, ⟨c0_0, c0_1, c0_2, c0_3⟩, c0f0, c0f1, c0f2, c0f3⟩ := HB1.out
 clear E1 O1
 go_wp2_with fail
 generalize hW2 : World.alloc w1 _ = W2
 have X2 : Hid (Ext W W2) := by rw [← hW2]; exact X1.out.alloc _
 have HB2 : Hid (Blk W2 W.heap.size (.int .i64 0) (.int .i64 0) (.string ⟨#[]⟩) (.int .i64 0)) := by rw [← hW2]; exact HB1.out.al _
 have HI2 : Hid (RdI W2 (.slice pv C0 cv) L) := by rw [← hW2]; exact HI1.out.ext ((Ext.refl _).alloc _)
 clear hW2 c0z c0_0 c0_1 c0_2 c0_3 c0f0 c0f1 c0f2 c0f3 HI1 HB1 X1
 go_loopw [12, 11] (fun iv bv wr => ∃ j : Nat, iv = .int .i64 (j : Int) ∧ bv = .int .i64 (bestN ltB (L.take j)) ∧ j ≤ C0 ∧ wr = W2) (fun iv _ _ => C0 - (intOf iv).toNat)
 case atStart => exact ⟨0, rfl, rfl, Nat.zero_le _, rfl⟩
 case round =>
   obtain ⟨j, rfl, rfl, hj, rfl⟩ := hrel
   by_cases hlt : j < C0
   · have hltI : (j : Int) < (C0 : Int) := by omega
     obtain ⟨g, v, rfl, hv, hg, k0⟩ := HI2.out.at (i := j) (by rw [HC0.out]; exact hlt)
     have WK : Hid (wrap64 ((j : Int) + 1) = ((j + 1 : Nat) : Int)) := wrap_1 j (by have := HL.out.1; have := HC0.out; omega)
     have hj1 : j + 1 ≤ C0 := by omega
     have HT : Hid (bestN ltB (L.take (j + 1)) = if j = 0 then v.n else if ltB v.n (bestN ltB (L.take j)) then v.n else bestN ltB (L.take j)) := best_take ltB hv (by rw [HC0.out]; exact hlt)
     obtain ⟨vn, hvn⟩ : ∃ x, v.n = x := ⟨_, rfl⟩
     rw [hvn] at k0 HT
     obtain ⟨bb, hbb⟩ : ∃ x, bestN ltB (L.take j) = x := ⟨_, rfl⟩
     rw [hbb] at HT ⊢
     clear hlt hj hv hvn hbb
     by_cases h0 : j = 0
     · have e0 : ((j : Int) == 0) = true := by simp; omega
       have HX : Hid (bestN ltB (L.take (j + 1)) = vn) := by show _ = _; rw [HT.out, if_pos h0]
       clear h0
       have wk := WK.out
       go_wp2_with fail
       go_roundw
       case rel => exact ⟨j + 1, by go_num, by rw [HX.out], hj1, by trivial⟩
       case measure => exact meas C0 j hj1 wk
     have e0 : ((j : Int) == 0) = false := by simp; omega
     by_cases hc : vn < bb
     · have ec : decide (vn < bb) = true := by simpa using hc
       have HX : Hid (bestN ltB (L.take (j + 1)) = vn) := by show _ = _; rw [HT.out, if_neg h0, if_pos (by simpa [ltB] using hc)]
       clear h0
       have wk := WK.out
       go_wp2_with fail
       go_roundw
       case rel => exact ⟨j + 1, by go_num, by rw [HX.out], hj1, by trivial⟩
       case measure => exact meas C0 j hj1 wk
     · have ec : decide (vn < bb) = false := by simpa using hc
       have HX : Hid (bestN ltB (L.take (j + 1)) = bb) := by show _ = _; rw [HT.out, if_neg h0, if_neg (by simpa [ltB] using hc)]
       clear h0
       have wk := WK.out
       go_wp2_with fail
       go_roundw
       case rel => exact ⟨j + 1, by go_num, by rw [HX.out], hj1, by trivial⟩
       case measure => exact meas C0 j hj1 wk
   · have hltI : ¬ (j : Int) < (C0 : Int) := by omega
     have HT : Hid (bestN ltB (L.take j) = bestN ltB L) := by
       show _ = _
       rw [show L.take j = L from List.take_of_length_le (by have := HC0.out; omega)]
     have cR := fun V => rnum_any (bestN ltB L) V
     obtain ⟨q0, q1, q2, q3, hq⟩ := dat4 (mkNum (bestN ltB L))
     rw [hq] at cR
     have HQ : Hid ((mkNum (bestN ltB L)).dat = .agg #[.int .i64 q0, .int .i64 q1, .string q2, .int .i64 q3]) := hq
     rw [HT.out]
     obtain ⟨bb, hbb⟩ : ∃ x, bestN ltB L = x := ⟨_, rfl⟩
     rw [hbb] at cR HQ HS ⊢
     clear hlt hj hq hbb
     go_wp2_with fail
     refine (cR _).mono ?_
     rintro e w3 ⟨rfl, E3⟩
     have X3 : Hid (Ext W w3) := X2.out.trans E3
     have HB3 : Hid (Blk w3 W.heap.size (.int .i64 0) (.int .i64 0) (.string ⟨#[]⟩) (.int .i64 0)) := HB2.out.ext E3
     clear E3
     obtain ⟨c0z, ⟨c0_0, c0_1, c0_2, c0_3⟩, c0f0, c0f1, c0f2, c0f3⟩ := HB3.out
     go_wp2_with fail
     exact finB (HB3.out.set _ _ _ _) rfl (by with_reducible repeat (first | exact X3.out | exact Ext.refl _ | apply Ext.alloc | apply Ext.drewN | (refine Ext.setCell ?_ (by simp) _))) (fun g0 g1 g2 g3 => by simp [results, Tryz.results24, go_sem, g0, g1, g2, g3]) (fun h => ⟨by rw [HS.out, HQ.out], h⟩)
set_option maxRecDepth 100000 in
theorem rcall_max (gs : List Ag) (W : World) (p : Option Addr) (n c : Nat) (hF : Fit W (.slice p n c) gs) :
   Calls Tryz.prog 24 #[.string ⟨#[77, 65, 88]⟩, .slice p n c] W fun e w' => e = .returned (fBest gtB gs).dat ∧ Ext W w' := by
 have CT : Hid (∀ V, Ext W V → Calls Tryz.prog 38 #[.slice p n c] V fun e w' => ∃ ov, e = .returned (.tuple #[ov, (bad numF (seen gs)).dat]) ∧ w'.ownsRow V.heap.size 2 1 ov (got numF (seen gs)).length ((got numF (seen gs)).flatMap cI) ∧ Ext V w') := fun V e => numbers_any13 gs p n c V (hF.ext e)
 have hm := hF.num
 have hAll : ∀ v ∈ got numF (seen gs), I64 v.n := fun v hv => by
   obtain ⟨m, rfl, h1, _⟩ := got_nums _ (seen_ok gs hF.i) v hv
   exact h1
 have hsum := hF.sum
 obtain ⟨L, hL⟩ : ∃ L, got numF (seen gs) = L := ⟨_, rfl⟩
 have HB : Hid ((bad numF (seen gs)).dat = .agg #[.int .i64 (bad numF (seen gs)).k, .int .i64 (bad numF (seen gs)).n, .string (bad numF (seen gs)).s, .int .i64 (bad numF (seen gs)).e]) := dat_eq _
 rw [dat_eq (bad numF (seen gs)), hL] at CT
 rw [hL] at hm hAll hsum
 obtain ⟨R, hR⟩ : ∃ R, fBest gtB gs = R := ⟨_, rfl⟩
 rw [hR]
 have HS : Hid (R = if (bad numF (seen gs)).k = 4 then bad numF (seen gs) else mkNum (bestN gtB L)) := by show _ = _; rw [← hR, ← hL]; rfl
 generalize bad numF (seen gs) = z at *
 obtain ⟨zk, hzk⟩ : ∃ r, z.k = r := ⟨_, rfl⟩
 obtain ⟨zn, hzn⟩ : ∃ r, z.n = r := ⟨_, rfl⟩
 obtain ⟨zs', hzs⟩ : ∃ r, z.s = r := ⟨_, rfl⟩
 obtain ⟨ze, hze⟩ : ∃ r, z.e = r := ⟨_, rfl⟩
 rw [hzk, hzn, hzs, hze] at CT HB
 rw [hzk] at HS
 clear hzk hzn hzs hze
 have HL : Hid (L.length ≤ 1500000 ∧ (∀ v ∈ L, I64 v.n) ∧ I128 (sumN L)) := ⟨hm, hAll, hsum⟩
 obtain ⟨C0, hC0⟩ : ∃ q, L.length = q := ⟨_, rfl⟩
 have HC0 : Hid (L.length = C0) := hC0
 rw [hC0] at CT
 clear hm hAll hsum hF hL hR hC0
 by_cases h4 : zk = 4
 · have e4 : (zk == 4) = true := by simpa using h4
   have HZ : Hid (R = z) := by show _ = _; rw [HS.out, if_pos h4]
   clear h4 HS
   go_enter Tryz.func24, Tryz.ntmps24
   go_wp2_with fail
   refine (CT.out _ ((Ext.refl _).alloc _)).mono ?_
   rintro e w1 ⟨ov, rfl, O1, E1⟩
   obtain ⟨pv, cv, rfl, _⟩ := own_form O1
   have X1 : Hid (Ext W w1) := ((Ext.refl _).alloc _).trans E1
   have HB1 : Hid (Blk w1 W.heap.size (.int .i64 0) (.int .i64 0) (.string ⟨#[]⟩) (.int .i64 0)) := blk_top (by simp) E1
   have HI1 : Hid (RdI w1 (.slice pv C0 cv) L) := ⟨_, by rw [HC0.out]; exact O1⟩
   obtain ⟨c0z, ⟨c0_0, c0_1, c0_2, c0_3⟩, c0f0, c0f1, c0f2, c0f3⟩ := HB1.out
   clear E1 O1
   go_wp2_with fail
   exact finB ((HB1.out.set _ _ _ _).al _) rfl (by with_reducible repeat (first | exact X1.out | exact Ext.refl _ | apply Ext.alloc | apply Ext.drewN | (refine Ext.setCell ?_ (by simp) _))) (fun g0 g1 g2 g3 => by simp [results, Tryz.results24, go_sem, g0, g1, g2, g3]) (fun h => ⟨by rw [HZ.out, HB.out], h⟩)
 have e4 : (zk == 4) = false := by simpa using h4
 rw [if_neg h4] at HS
 clear h4
 go_enter Tryz.func24, Tryz.ntmps24
 go_wp2_with fail
 refine (CT.out _ ((Ext.refl _).alloc _)).mono ?_
 rintro e w1 ⟨ov, rfl, O1, E1⟩
 obtain ⟨pv, cv, rfl, _⟩ := own_form O1
 have X1 : Hid (Ext W w1) := ((Ext.refl _).alloc _).trans E1
 have HB1 : Hid (Blk w1 W.heap.size (.int .i64 0) (.int .i64 0) (.string ⟨#[]⟩) (.int .i64 0)) := blk_top (by simp) E1
 have HI1 : Hid (RdI w1 (.slice pv C0 cv) L) := ⟨_, by rw [HC0.out]; exact O1⟩
 obtain ⟨c0z, ⟨c0_0, c0_1, c0_2, c0_3⟩, c0f0, c0f1, c0f2, c0f3⟩ := HB1.out
 clear E1 O1
 go_wp2_with fail
 generalize hW2 : World.alloc w1 _ = W2
 have X2 : Hid (Ext W W2) := by rw [← hW2]; exact X1.out.alloc _
 have HB2 : Hid (Blk W2 W.heap.size (.int .i64 0) (.int .i64 0) (.string ⟨#[]⟩) (.int .i64 0)) := by rw [← hW2]; exact HB1.out.al _
 have HI2 : Hid (RdI W2 (.slice pv C0 cv) L) := by rw [← hW2]; exact HI1.out.ext ((Ext.refl _).alloc _)
 clear hW2 c0z c0_0 c0_1 c0_2 c0_3 c0f0 c0f1 c0f2 c0f3 HI1 HB1 X1
 go_loopw [12, 11] (fun iv bv wr => ∃ j : Nat, iv = .int .i64 (j : Int) ∧ bv = .int .i64 (bestN gtB (L.take j)) ∧ j ≤ C0 ∧ wr = W2) (fun iv _ _ => C0 - (intOf iv).toNat)
 case atStart => exact ⟨0, rfl, rfl, Nat.zero_le _, rfl⟩
 case round =>
   obtain ⟨j, rfl, rfl, hj, rfl⟩ := hrel
   by_cases hlt : j < C0
   · have hltI : (j : Int) < (C0 : Int) := by omega
     obtain ⟨g, v, rfl, hv, hg, k0⟩ := HI2.out.at (i := j) (by rw [HC0.out]; exact hlt)
     have WK : Hid (wrap64 ((j : Int) + 1) = ((j + 1 : Nat) : Int)) := wrap_1 j (by have := HL.out.1; have := HC0.out; omega)
     have hj1 : j + 1 ≤ C0 := by omega
     have HT : Hid (bestN gtB (L.take (j + 1)) = if j = 0 then v.n else if gtB v.n (bestN gtB (L.take j)) then v.n else bestN gtB (L.take j)) := best_take gtB hv (by rw [HC0.out]; exact hlt)
     obtain ⟨vn, hvn⟩ : ∃ x, v.n = x := ⟨_, rfl⟩
     rw [hvn] at k0 HT
     obtain ⟨bb, hbb⟩ : ∃ x, bestN gtB (L.take j) = x := ⟨_, rfl⟩
     rw [hbb] at HT ⊢
     clear hlt hj hv hvn hbb
     by_cases h0 : j = 0
     · have e0 : ((j : Int) == 0) = true := by simp; omega
       have HX : Hid (bestN gtB (L.take (j + 1)) = vn) := by show _ = _; rw [HT.out, if_pos h0]
       clear h0
       have wk := WK.out
       go_wp2_with fail
       go_roundw
       case rel => exact ⟨j + 1, by go_num, by rw [HX.out], hj1, by trivial⟩
       case measure => exact meas C0 j hj1 wk
     have e0 : ((j : Int) == 0) = false := by simp; omega
     by_cases hc : vn > bb
     · have ec : decide (vn > bb) = true := by simpa using hc
       have HX : Hid (bestN gtB (L.take (j + 1)) = vn) := by show _ = _; rw [HT.out, if_neg h0, if_pos (by simpa [gtB] using hc)]
       clear h0
       have wk := WK.out
       go_wp2_with fail
       go_roundw
       case rel => exact ⟨j + 1, by go_num, by rw [HX.out], hj1, by trivial⟩
       case measure => exact meas C0 j hj1 wk
     · have ec : decide (vn > bb) = false := by simpa using hc
       have HX : Hid (bestN gtB (L.take (j + 1)) = bb) := by show _ = _; rw [HT.out, if_neg h0, if_neg (by simpa [gtB] using hc)]
       clear h0
       have wk := WK.out
       go_wp2_with fail
       go_roundw
       case rel => exact ⟨j + 1, by go_num, by rw [HX.out], hj1, by trivial⟩
       case measure => exact meas C0 j hj1 wk
   · have hltI : ¬ (j : Int) < (C0 : Int) := by omega
     have HT : Hid (bestN gtB (L.take j) = bestN gtB L) := by
       show _ = _
       rw [show L.take j = L from List.take_of_length_le (by have := HC0.out; omega)]
     have cR := fun V => rnum_any (bestN gtB L) V
     obtain ⟨q0, q1, q2, q3, hq⟩ := dat4 (mkNum (bestN gtB L))
     rw [hq] at cR
     have HQ : Hid ((mkNum (bestN gtB L)).dat = .agg #[.int .i64 q0, .int .i64 q1, .string q2, .int .i64 q3]) := hq
     rw [HT.out]
     obtain ⟨bb, hbb⟩ : ∃ x, bestN gtB L = x := ⟨_, rfl⟩
     rw [hbb] at cR HQ HS ⊢
     clear hlt hj hq hbb
     go_wp2_with fail
     refine (cR _).mono ?_
     rintro e w3 ⟨rfl, E3⟩
     have X3 : Hid (Ext W w3) := X2.out.trans E3
     have HB3 : Hid (Blk w3 W.heap.size (.int .i64 0) (.int .i64 0) (.string ⟨#[]⟩) (.int .i64 0)) := HB2.out.ext E3
     clear E3
     obtain ⟨c0z, ⟨c0_0, c0_1, c0_2, c0_3⟩, c0f0, c0f1, c0f2, c0f3⟩ := HB3.out
     go_wp2_with fail
     exact finB (HB3.out.set _ _ _ _) rfl (by with_reducible repeat (first | exact X3.out | exact Ext.refl _ | apply Ext.alloc | apply Ext.drewN | (refine Ext.setCell ?_ (by simp) _))) (fun g0 g1 g2 g3 => by simp [results, Tryz.results24, go_sem, g0, g1, g2, g3]) (fun h => ⟨by rw [HS.out, HQ.out], h⟩)
end Go.Proofs.YtalejeknigbhjaaGreatDoor
