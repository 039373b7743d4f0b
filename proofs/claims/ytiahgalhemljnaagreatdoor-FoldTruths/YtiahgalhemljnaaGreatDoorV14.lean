/-
 Contracts of the document's products, quotients and rounding.
 Package fold's Mean, and the document's.
 Package fold: Sum, Count, Min, Max, Average, And, Or.
 The laws of layer 13: the small living call; values held against each other.
-/
import Derived.Test.YtiahgalhemljnaaGreatDoorV13
import Derived.Test.YtiahgalhemljnaaGreatDoorV8
import Derived.Test.YtiahgalhemljnaaGreatDoorV6
import Derived.Test.YtiahgalhemljnaaGreatDoorV9
import Derived.Deep.RegionHeld3
import Derived.Laws.StructEq
namespace Go.Proofs.YtiahgalhemljnaaGreatDoor
open Go.RowKit
set_option maxHeartbeats 1000000

open Go.RowKit
set_option maxHeartbeats 1000000

/-- In 128 bits, with a sign. -/
def I128 (x : Int) : Prop := -170141183460469231731687303715884105728 ≤ x ∧ x ≤ 170141183460469231731687303715884105727

open Go.RowKit
set_option maxHeartbeats 1000000

theorem RdA.to {B : Nat} {W W' : World} {v : Value} {l : List Ag} (h : RdA B W v l) (hB : B ≤ W.heap.size) (e : Ext W W') : RdA W'.heap.size W' v l := ((h.up hB).low e).up e.size
theorem RdV.to {B : Nat} {W W' : World} {v : Value} {l : List Rw} (h : RdV B W v l) (hB : B ≤ W.heap.size) (e : Ext W W') : RdV W'.heap.size W' v l := ((h.up hB).low e).up e.size
/-- What is asked of arguments. -/
structure Fit (W : World) (v : Value) (gs : List Ag) : Prop where
 rd : RdA W.heap.size W v gs
 i : AgI gs
 s : (seen gs).length ≤ 15000
 l : gs.length ≤ 15000
theorem Fit.ext {W W' : World} {v : Value} {gs : List Ag} (h : Fit W v gs) (e : Ext W W') : Fit W' v gs := ⟨h.rd.to (Nat.le_refl _) e, h.i, h.s, h.l⟩
set_option maxRecDepth 100000 in
theorem ftold_any (n : Int) (b : Bool) (W : World) (hN : Nm W) : Calls Tryz.prog 36 #[.int .i64 n, .bool b] W fun e w' => e = .returned (toldR b n).dat ∧ Ext W w' := by
 have c1 := fun W h => vnum_any n W h
 have c2 := fun W h => err_any 4 W h
 rw [mkErr_is ⟨by decide, by decide⟩] at c2
 cases b with
 | false =>
   have H : Hid (toldR false n = .err 4) := rfl
   simp only [V.dat] at c2
   clear c1
   go_enter Tryz.func36, Tryz.ntmps36
   go_wp2_with fail
   refine (c2 _ (hN.ext ((Ext.refl _).alloc _))).mono ?_
   rintro e w1 ⟨rfl, E1⟩
   obtain ⟨z, ⟨k0, k1, k2, k3⟩, f0, f1, f2, f3⟩ := blk_top (b := W.heap.size) (by simp) E1
   go_wp2_with fail
   exact fin4 k0 k1 k2 k3 rfl (by simp) (((Ext.refl _).alloc _).trans E1) (fun W g0 g1 g2 g3 => by simp [results, Tryz.results36, go_sem, g0, g1, g2, g3]) (fun W h => ⟨by rw [H.out]; rfl, h⟩)
 | true =>
   have H : Hid (toldR true n = mkNum n) := rfl
   obtain ⟨q0, q1, q2, q3, hq⟩ := dat4 (mkNum n)
   rw [hq] at c1
   have HQ : Hid ((mkNum n).dat = .agg #[.int .i64 q0, .int .i64 q1, .string q2, .int .i64 q3]) := hq
   clear c2 hq
   go_enter Tryz.func36, Tryz.ntmps36
   go_wp2_with fail
   refine (c1 _ (hN.ext ((Ext.refl _).alloc _))).mono ?_
   rintro e w1 ⟨rfl, E1⟩
   obtain ⟨z, ⟨k0, k1, k2, k3⟩, f0, f1, f2, f3⟩ := blk_top (b := W.heap.size) (by simp) E1
   go_wp2_with fail
   exact fin4 k0 k1 k2 k3 rfl (by simp) (((Ext.refl _).alloc _).trans E1) (fun W g0 g1 g2 g3 => by simp [results, Tryz.results36, go_sem, g0, g1, g2, g3]) (fun W h => ⟨by rw [H.out, HQ.out], h⟩)
/-! ### A sum's bounds -/
theorem sum_bd {l : List V} (h : AllN l) (hl : l.length ≤ 20000) : I128 (sumN l) := by
 have hb : ∀ v ∈ l, -9223372036854775808 ≤ v.n ∧ v.n ≤ 9223372036854775807 := fun v hv => by
   obtain ⟨n, rfl, h1, _⟩ := h v hv
   exact h1
 have h1 := sum_le (c := 9223372036854775807) (fun v hv => (hb v hv).2)
 have h2 := le_sum (c := -9223372036854775808) (fun v hv => (hb v hv).1)
 exact ⟨by omega, by omega⟩
theorem Fit.sum {W : World} {v : Value} {gs : List Ag} (h : Fit W v gs) : I128 (sumN (got numF (seen gs))) := sum_bd (got_nums _ (seen_ok gs h.i)) (Nat.le_trans (got_len _ _) (Nat.le_trans h.s (by decide)))
theorem Fit.num {W : World} {v : Value} {gs : List Ag} (h : Fit W v gs) : (got numF (seen gs)).length ≤ 15000 := Nat.le_trans (got_len _ _) h.s
set_option maxRecDepth 100000 in
theorem fsum_any (gs : List Ag) (W : World) (p : Option Addr) (n c : Nat) (hF : Fit W (.slice p n c) gs) (hN : Nm W) :
   Calls Tryz.prog 13 #[.slice p n c] W fun e w' => e = .returned (fSum gs).dat ∧ Ext W w' := by
 have HF : Hid (Fit W (.slice p n c) gs ∧ Nm W) := ⟨hF, hN⟩
 have HS : Hid (fSum gs = if (bad numF (seen gs)).k = 4 then bad numF (seen gs) else toldR (toldB (sumN (got numF (seen gs)))) (toldV (sumN (got numF (seen gs))))) := rfl
 have CT : Hid (∀ V, Ext W V → Calls Tryz.prog 35 #[.slice p n c] V fun e w' => e = .returned (.tuple #[.agg #[.int .i64 (hiOf (sumN (got numF (seen gs)))), .int .u64 (loOf (sumN (got numF (seen gs))))], .int .i64 ((got numF (seen gs)).length : Int), (bad numF (seen gs)).dat]) ∧ Ext V w') := fun V e =>
   have f := hF.ext e
   total_any V gs p n c f.rd f.i f.s f.l (hN.ext e)
 have cTo := fun W => told_acc (sumN (got numF (seen gs))) W
 have cR := fun W h => ftold_any (toldV (sumN (got numF (seen gs)))) (toldB (sumN (got numF (seen gs)))) W h
 clear hF hN
 rw [dat_eq (bad numF (seen gs))] at CT
 obtain ⟨q0, q1, q2, q3, hq⟩ := dat4 (toldR (toldB (sumN (got numF (seen gs)))) (toldV (sumN (got numF (seen gs)))))
 rw [hq] at cR
 have HQ : Hid ((toldR (toldB (sumN (got numF (seen gs)))) (toldV (sumN (got numF (seen gs))))).dat = .agg #[.int .i64 q0, .int .i64 q1, .string q2, .int .i64 q3]) := hq
 clear hq
 generalize sumN (got numF (seen gs)) = S at *
 generalize hiOf S = S0 at *
 generalize loOf S = S1 at *
 generalize toldV S = tv at *
 generalize toldB S = tb at *
 generalize ((got numF (seen gs)).length : Int) = C0 at *
 have HB : Hid ((bad numF (seen gs)).dat = .agg #[.int .i64 (bad numF (seen gs)).k, .int .i64 (bad numF (seen gs)).n, .string (bad numF (seen gs)).s, .int .i64 (bad numF (seen gs)).e]) := dat_eq _
 generalize bad numF (seen gs) = z at *
 obtain ⟨zk, hzk⟩ : ∃ r, z.k = r := ⟨_, rfl⟩
 obtain ⟨zn, hzn⟩ : ∃ r, z.n = r := ⟨_, rfl⟩
 obtain ⟨zs', hzs⟩ : ∃ r, z.s = r := ⟨_, rfl⟩
 obtain ⟨ze, hze⟩ : ∃ r, z.e = r := ⟨_, rfl⟩
 rw [hzk, hzn, hzs, hze] at CT HB
 rw [hzk] at HS
 clear hzk hzn hzs hze
 by_cases h4 : zk = 4
 · have e4 : (zk == 4) = true := by simpa using h4
   have HZ : Hid (fSum gs = z) := by show _ = _; rw [HS.out, if_pos h4]
   clear h4 HS cTo cR
   go_enter Tryz.func13, Tryz.ntmps13
   go_wp2_with fail
   refine (CT.out _ ((Ext.refl _).alloc _)).mono ?_
   rintro e w1 ⟨rfl, E1⟩
   have X1 : Hid (Ext W w1) := ((Ext.refl _).alloc _).trans E1
   have HB1 : Hid (Blk w1 W.heap.size (.int .i64 0) (.int .i64 0) (.string ⟨#[]⟩) (.int .i64 0)) := blk_top (by simp) E1
   obtain ⟨c0z, ⟨c0_0, c0_1, c0_2, c0_3⟩, c0f0, c0f1, c0f2, c0f3⟩ := HB1.out
   clear E1
   go_wp2_with fail
   exact finB (((HB1.out.set _ _ _ _).al _).al _) rfl (by with_reducible repeat (first | exact X1.out | exact Ext.refl _ | apply Ext.alloc | apply Ext.drewN | (refine Ext.setCell ?_ (by simp) _))) (fun g0 g1 g2 g3 => by simp [results, Tryz.results13, go_sem, g0, g1, g2, g3]) (fun h => ⟨by rw [HZ.out, HB.out], h⟩)
 · have e4 : (zk == 4) = false := by simpa using h4
   have HZ : Hid (fSum gs = toldR tb tv) := by show _ = _; rw [HS.out, if_neg h4]
   clear h4 HS
   go_enter Tryz.func13, Tryz.ntmps13
   go_wp2_with fail
   refine (CT.out _ ((Ext.refl _).alloc _)).mono ?_
   rintro e w1 ⟨rfl, E1⟩
   have X1 : Hid (Ext W w1) := ((Ext.refl _).alloc _).trans E1
   have HB1 : Hid (Blk w1 W.heap.size (.int .i64 0) (.int .i64 0) (.string ⟨#[]⟩) (.int .i64 0)) := blk_top (by simp) E1
   obtain ⟨c0z, ⟨c0_0, c0_1, c0_2, c0_3⟩, c0f0, c0f1, c0f2, c0f3⟩ := HB1.out
   clear E1
   go_wp2_with fail
   refine (cTo _).mono ?_
   rintro e w2 ⟨rfl, E2⟩
   have X2 : Hid (Ext W w2) := Ext.trans (by with_reducible repeat (first | exact X1.out | exact Ext.refl _ | apply Ext.alloc | apply Ext.drewN | (refine Ext.setCell ?_ (by simp) _))) E2
   have HB2 : Hid (Blk w2 W.heap.size (.int .i64 0) (.int .i64 0) (.string ⟨#[]⟩) (.int .i64 0)) := ((HB1.out.al _).al _).ext E2
   clear c0z c0_0 c0_1 c0_2 c0_3 c0f0 c0f1 c0f2 c0f3 E2
   obtain ⟨c0z, ⟨c0_0, c0_1, c0_2, c0_3⟩, c0f0, c0f1, c0f2, c0f3⟩ := HB2.out
   go_wp2_with fail
   refine (cR _ (HF.out.2.ext (by with_reducible repeat (first | exact X2.out | apply Ext.alloc)))).mono ?_
   rintro e w3 ⟨rfl, E3⟩
   have X3 : Hid (Ext W w3) := Ext.trans (by with_reducible repeat (first | exact X2.out | exact Ext.refl _ | apply Ext.alloc | apply Ext.drewN | (refine Ext.setCell ?_ (by simp) _))) E3
   have HB3 : Hid (Blk w3 W.heap.size (.int .i64 0) (.int .i64 0) (.string ⟨#[]⟩) (.int .i64 0)) := (HB2.out).ext E3
   clear c0z c0_0 c0_1 c0_2 c0_3 c0f0 c0f1 c0f2 c0f3 E3
   obtain ⟨c0z, ⟨c0_0, c0_1, c0_2, c0_3⟩, c0f0, c0f1, c0f2, c0f3⟩ := HB3.out
   go_wp2_with fail
   exact finB (HB3.out.set _ _ _ _) rfl (by with_reducible repeat (first | exact X3.out | exact Ext.refl _ | apply Ext.alloc | apply Ext.drewN | (refine Ext.setCell ?_ (by simp) _))) (fun g0 g1 g2 g3 => by simp [results, Tryz.results13, go_sem, g0, g1, g2, g3]) (fun h => ⟨by rw [HZ.out, HQ.out], h⟩)
set_option maxRecDepth 100000 in
theorem truthOf_any (b : Bool) (m : Nat) (z : V) (W : World) (hN : Nm W) : Calls Tryz.prog 18 #[.bool b, .int .i64 (m : Int), z.dat] W fun e w' => e = .returned (orBad z (if m = 0 then .err 2 else .tf b)).dat ∧ Ext W w' := by
 have cE := fun W h => err_any 2 W h
 rw [mkErr_is ⟨by decide, by decide⟩] at cE
 have cB := fun W => vbool_any b W
 obtain ⟨q0, q1, q2, q3, hq⟩ := dat4 (V.tf b)
 rw [hq] at cB
 have HQ : Hid ((V.tf b).dat = .agg #[.int .i64 q0, .int .i64 q1, .string q2, .int .i64 q3]) := hq
 simp only [V.dat] at cE
 have HB : Hid (z.dat = .agg #[.int .i64 z.k, .int .i64 z.n, .string z.s, .int .i64 z.e]) := dat_eq _
 rw [dat_eq z]
 have HS : Hid (orBad z (if m = 0 then .err 2 else .tf b) = if z.k = 4 then z else (if m = 0 then .err 2 else .tf b)) := rfl
 obtain ⟨R, hR⟩ : ∃ R, orBad z (if m = 0 then .err 2 else .tf b) = R := ⟨_, rfl⟩
 rw [hR] at HS ⊢
 clear hq hR
 obtain ⟨zk, hzk⟩ : ∃ r, z.k = r := ⟨_, rfl⟩
 obtain ⟨zn, hzn⟩ : ∃ r, z.n = r := ⟨_, rfl⟩
 obtain ⟨zs', hzs⟩ : ∃ r, z.s = r := ⟨_, rfl⟩
 obtain ⟨ze, hze⟩ : ∃ r, z.e = r := ⟨_, rfl⟩
 rw [hzk, hzn, hzs, hze] at HB ⊢
 rw [hzk] at HS
 clear hzk hzn hzs hze
 have X0 : Hid (∀ o o', Ext W ((W.alloc o).alloc o')) := fun o o' => ((Ext.refl _).alloc _).alloc _
 by_cases h4 : zk = 4
 · have e4 : (zk == 4) = true := by simpa using h4
   have HZ : Hid (R = z) := by show _ = _; rw [HS.out, if_pos h4]
   clear h4 HS cB cE
   go_enter Tryz.func18, Tryz.ntmps18
   go_wp2_with fail
   simp [bodyPost, results, Tryz.results18, go_sem]
   exact ⟨by rw [HZ.out, HB.out], X0.out _ _⟩
 have e4 : (zk == 4) = false := by simpa using h4
 rw [if_neg h4] at HS
 clear h4
 by_cases hc : m = 0
 · have ec : ((m : Int) == 0) = true := by simp; omega
   have HZ : Hid (R = .err 2) := by show _ = _; rw [HS.out, if_pos hc]
   clear hc HS cB
   go_enter Tryz.func18, Tryz.ntmps18
   go_wp2_with fail
   refine (cE _ (hN.ext (X0.out _ _))).mono ?_
   rintro e w1 ⟨rfl, E1⟩
   obtain ⟨z1, ⟨k0, k1, k2, k3⟩, f0, f1, f2, f3⟩ := blk_top (b := W.heap.size + 1) (by simp) E1
   go_wp2_with fail
   exact fin4 k0 k1 k2 k3 rfl (by simp) ((X0.out _ _).trans E1) (fun W g0 g1 g2 g3 => by simp [results, Tryz.results18, go_sem, g0, g1, g2, g3]) (fun W h => ⟨by rw [HZ.out]; rfl, h⟩)
 · have ec : ((m : Int) == 0) = false := by simp; omega
   have HZ : Hid (R = .tf b) := by show _ = _; rw [HS.out, if_neg hc]
   clear hc HS cE
   go_enter Tryz.func18, Tryz.ntmps18
   go_wp2_with fail
   refine (cB _).mono ?_
   rintro e w1 ⟨rfl, E1⟩
   obtain ⟨z1, ⟨k0, k1, k2, k3⟩, f0, f1, f2, f3⟩ := blk_top (b := W.heap.size + 1) (by simp) E1
   go_wp2_with fail
   exact fin4 k0 k1 k2 k3 rfl (by simp) ((X0.out _ _).trans E1) (fun W g0 g1 g2 g3 => by simp [results, Tryz.results18, go_sem, g0, g1, g2, g3]) (fun W h => ⟨by rw [HZ.out, HQ.out], h⟩)
set_option maxRecDepth 100000 in
theorem fand_any (gs : List Ag) (W : World) (p : Option Addr) (n c : Nat) (hF : Fit W (.slice p n c) gs) (hN : Nm W) :
   Calls Tryz.prog 7 #[.slice p n c] W fun e w' => e = .returned (fAnd gs).dat ∧ Ext W w' := by
 have HF : Hid (Fit W (.slice p n c) gs ∧ Nm W) := ⟨hF, hN⟩
 have HS : Hid (fAnd gs = orBad (bad truF (seen gs)) (if (got truF (seen gs)).length = 0 then .err 2 else .tf (decide (truN (got truF (seen gs)) = (got truF (seen gs)).length)))) := rfl
 have CT : Hid (∀ V, Ext W V → Calls Tryz.prog 17 #[.slice p n c] V fun e w' => e = .returned (.tuple #[.int .i64 ((got truF (seen gs)).length : Int), .int .i64 (truN (got truF (seen gs)) : Int), (bad truF (seen gs)).dat]) ∧ Ext V w') := fun V e =>
   have f := hF.ext e
   poll_any V gs p n c f.rd f.i f.s f.l (hN.ext e)
 have cR := fun W h => truthOf_any (decide (truN (got truF (seen gs)) = (got truF (seen gs)).length)) (got truF (seen gs)).length (bad truF (seen gs)) W h
 clear hF hN
 rw [dat_eq (bad truF (seen gs))] at CT cR
 obtain ⟨R, hR⟩ : ∃ R, fAnd gs = R := ⟨_, rfl⟩
 rw [← HS.out, hR] at cR
 rw [hR]
 obtain ⟨q0, q1, q2, q3, hq⟩ := dat4 R
 rw [hq] at cR
 have HQ : Hid (R.dat = .agg #[.int .i64 q0, .int .i64 q1, .string q2, .int .i64 q3]) := hq
 clear hq HS hR
 generalize truN (got truF (seen gs)) = T0 at *
 generalize (got truF (seen gs)).length = C0 at *
 generalize bad truF (seen gs) = z at *
 generalize z.k = zk at *
 generalize z.n = zn at *
 generalize z.s = zs' at *
 generalize z.e = ze at *
 obtain ⟨bb, hbb⟩ : ∃ bb, decide (T0 = C0) = bb := ⟨_, rfl⟩
 rw [hbb] at cR
 have eb : (((T0 : Int)) == ((C0 : Int))) = bb := by rw [← hbb, Bool.eq_iff_iff]; simp; omega
 clear hbb
 go_enter Tryz.func7, Tryz.ntmps7
 go_wp2_with fail
 refine (CT.out _ ((Ext.refl _).alloc _)).mono ?_
 rintro e w1 ⟨rfl, E1⟩
 have X1 : Hid (Ext W w1) := ((Ext.refl _).alloc _).trans E1
 have HB1 : Hid (Blk w1 W.heap.size (.int .i64 0) (.int .i64 0) (.string ⟨#[]⟩) (.int .i64 0)) := blk_top (by simp) E1
 obtain ⟨c0z, ⟨c0_0, c0_1, c0_2, c0_3⟩, c0f0, c0f1, c0f2, c0f3⟩ := HB1.out
 clear E1
 go_wp2_with fail
 refine (cR _ (HF.out.2.ext (by with_reducible repeat (first | exact X1.out | apply Ext.alloc)))).mono ?_
 rintro e w2 ⟨rfl, E2⟩
 have X2 : Hid (Ext W w2) := Ext.trans (by with_reducible repeat (first | exact X1.out | exact Ext.refl _ | apply Ext.alloc | apply Ext.drewN | (refine Ext.setCell ?_ (by simp) _))) E2
 have HB2 : Hid (Blk w2 W.heap.size (.int .i64 0) (.int .i64 0) (.string ⟨#[]⟩) (.int .i64 0)) := (HB1.out.al _).ext E2
 clear c0z c0_0 c0_1 c0_2 c0_3 c0f0 c0f1 c0f2 c0f3 E2
 obtain ⟨c0z, ⟨c0_0, c0_1, c0_2, c0_3⟩, c0f0, c0f1, c0f2, c0f3⟩ := HB2.out
 go_wp2_with fail
 exact finB (HB2.out.set _ _ _ _) rfl (by with_reducible repeat (first | exact X2.out | exact Ext.refl _ | apply Ext.alloc | apply Ext.drewN | (refine Ext.setCell ?_ (by simp) _))) (fun g0 g1 g2 g3 => by simp [results, Tryz.results7, go_sem, g0, g1, g2, g3]) (fun h => ⟨by rw [HQ.out], h⟩)
set_option maxRecDepth 100000 in
theorem for_any (gs : List Ag) (W : World) (p : Option Addr) (n c : Nat) (hF : Fit W (.slice p n c) gs) (hN : Nm W) :
   Calls Tryz.prog 10 #[.slice p n c] W fun e w' => e = .returned (fOr gs).dat ∧ Ext W w' := by
 have HF : Hid (Fit W (.slice p n c) gs ∧ Nm W) := ⟨hF, hN⟩
 have HS : Hid (fOr gs = orBad (bad truF (seen gs)) (if (got truF (seen gs)).length = 0 then .err 2 else .tf (decide (0 < truN (got truF (seen gs)))))) := rfl
 have CT : Hid (∀ V, Ext W V → Calls Tryz.prog 17 #[.slice p n c] V fun e w' => e = .returned (.tuple #[.int .i64 ((got truF (seen gs)).length : Int), .int .i64 (truN (got truF (seen gs)) : Int), (bad truF (seen gs)).dat]) ∧ Ext V w') := fun V e =>
   have f := hF.ext e
   poll_any V gs p n c f.rd f.i f.s f.l (hN.ext e)
 have cR := fun W h => truthOf_any (decide (0 < truN (got truF (seen gs)))) (got truF (seen gs)).length (bad truF (seen gs)) W h
 clear hF hN
 rw [dat_eq (bad truF (seen gs))] at CT cR
 obtain ⟨R, hR⟩ : ∃ R, fOr gs = R := ⟨_, rfl⟩
 rw [← HS.out, hR] at cR
 rw [hR]
 obtain ⟨q0, q1, q2, q3, hq⟩ := dat4 R
 rw [hq] at cR
 have HQ : Hid (R.dat = .agg #[.int .i64 q0, .int .i64 q1, .string q2, .int .i64 q3]) := hq
 clear hq HS hR
 generalize truN (got truF (seen gs)) = T0 at *
 generalize (got truF (seen gs)).length = C0 at *
 generalize bad truF (seen gs) = z at *
 generalize z.k = zk at *
 generalize z.n = zn at *
 generalize z.s = zs' at *
 generalize z.e = ze at *
 obtain ⟨bb, hbb⟩ : ∃ bb, decide (0 < T0) = bb := ⟨_, rfl⟩
 rw [hbb] at cR
 have eb : decide (((T0 : Int)) > 0) = bb := by rw [← hbb, Bool.eq_iff_iff]; simp
 clear eb
 go_enter Tryz.func10, Tryz.ntmps10
 go_wp2_with fail
 refine (CT.out _ ((Ext.refl _).alloc _)).mono ?_
 rintro e w1 ⟨rfl, E1⟩
 have X1 : Hid (Ext W w1) := ((Ext.refl _).alloc _).trans E1
 have HB1 : Hid (Blk w1 W.heap.size (.int .i64 0) (.int .i64 0) (.string ⟨#[]⟩) (.int .i64 0)) := blk_top (by simp) E1
 obtain ⟨c0z, ⟨c0_0, c0_1, c0_2, c0_3⟩, c0f0, c0f1, c0f2, c0f3⟩ := HB1.out
 clear E1
 go_wp2_with fail
 refine (cR _ (HF.out.2.ext (by with_reducible repeat (first | exact X1.out | apply Ext.alloc)))).mono ?_
 rintro e w2 ⟨rfl, E2⟩
 have X2 : Hid (Ext W w2) := Ext.trans (by with_reducible repeat (first | exact X1.out | exact Ext.refl _ | apply Ext.alloc | apply Ext.drewN | (refine Ext.setCell ?_ (by simp) _))) E2
 have HB2 : Hid (Blk w2 W.heap.size (.int .i64 0) (.int .i64 0) (.string ⟨#[]⟩) (.int .i64 0)) := (HB1.out.al _).ext E2
 clear c0z c0_0 c0_1 c0_2 c0_3 c0f0 c0f1 c0f2 c0f3 E2
 obtain ⟨c0z, ⟨c0_0, c0_1, c0_2, c0_3⟩, c0f0, c0f1, c0f2, c0f3⟩ := HB2.out
 go_wp2_with fail
 exact finB (HB2.out.set _ _ _ _) rfl (by with_reducible repeat (first | exact X2.out | exact Ext.refl _ | apply Ext.alloc | apply Ext.drewN | (refine Ext.setCell ?_ (by simp) _))) (fun g0 g1 g2 g3 => by simp [results, Tryz.results10, go_sem, g0, g1, g2, g3]) (fun h => ⟨by rw [HQ.out], h⟩)

open Go.RowKit
set_option maxHeartbeats 1000000

def liveA : List Ag := [⟨true, [⟨2, 10000, ⟨#[]⟩, 0⟩, ⟨3, 0, ⟨#[50]⟩, 0⟩, ⟨1, 1, ⟨#[]⟩, 0⟩]⟩, ⟨false, [⟨3, 0, ⟨#[50]⟩, 0⟩]⟩]
theorem live_seen : seen liveA = [(.num 10000, true), (.text ⟨#[50]⟩, true), (.tf true, true), (.text ⟨#[50]⟩, false)] := by
 have h : nm 3 0 (⟨#[50]⟩ : ByteArray) 0 = .text ⟨#[50]⟩ := nm_text (by decide)
 show [(nm 2 10000 ⟨#[]⟩ 0, true), (nm 3 0 ⟨#[50]⟩ 0, true), (nm 1 1 ⟨#[]⟩ 0, true), (nm 3 0 ⟨#[50]⟩ 0, false)] = _
 rw [h]; rfl
theorem live_two : (V.text ⟨#[50]⟩).toNum = .num 20000 := by
 have h1 : rdK [50] = 1 := by decide
 have h2 : rdV [50] = 20000 := by decide
 show readV ⟨#[50]⟩ = _
 unfold readV
 rw [show (⟨#[50]⟩ : ByteArray).data.toList = [50] from rfl, h1, h2]
 rfl
theorem live_sum : fSum liveA = .num 30000 := by
 have h0 : numF (.text ⟨#[50]⟩) false = .num 20000 := live_two
 have h1 : bad numF (seen liveA) = .blank := by
   rw [live_seen]
   show (if (numF (.text ⟨#[50]⟩) false).k = 4 then numF (.text ⟨#[50]⟩) false else .blank) = _
   rw [h0]; rfl
 have h2 : got numF (seen liveA) = [.num 10000, .num 20000] := by
   rw [live_seen]
   show .num 10000 :: (if goes (numF (.text ⟨#[50]⟩) false) then [numF (.text ⟨#[50]⟩) false] else []) = _
   rw [h0]; rfl
 unfold fSum orBad
 rw [h1, h2]
 rfl
theorem eq_val (k n : Int) (s : ByteArray) (e : Int) (w : World) : Sem.run Tryz.prog (Op.equalIn 10000 26 (.agg #[.int .i64 k, .int .i64 n, .string s, .int .i64 e]) (.agg #[.int .i64 k, .int .i64 n, .string s, .int .i64 e])) w = .ok true w := by
 have u3 := Tryz.underlying3
 have a3 := Tryz.isAgg3
 have z3 := Tryz.sizeOf3
 have u9 := Tryz.underlying9
 have u2 := Tryz.underlying2
 have hS : Tryz.prog.underlying 26 = some (.struct (Tryz.prog.fieldsOf 26)) := by kernel_rfl
 have hp : Tryz.prog.stoodInHeld 26 = false := by kernel_rfl
 rw [show (10000 : Nat) = 9999 + 1 from rfl, run_equalIn_agg w 9999 26 _ _ hS hp]
 simp only [Program.fieldsOf, Tryz.underlying26]
 go_simp
theorem gd_val (x y : Array Value) (op : BinOp) (a b : Operand) (w : World) : (eqGuard op 26 a b (.agg x) (.agg y)).run Tryz.prog w = .ok () w := run_eqGuard_agg w op 26 a b x y (by kernel_rfl)
set_option maxRecDepth 100000 in
theorem lives13_any (w : World) (hN : Nm w) : Calls Tryz.prog 6 #[] w fun r w' => r = .returned (.bool true) ∧ Ext w w' := by
 have qE := eq_val
 have qG := gd_val
 go_enter Tryz.func6, Tryz.ntmps6
 go_wp2_with fail
 generalize hW3 : ((World.alloc (World.alloc w _) _).alloc _) = W3
 have X3 : Ext w W3 := by rw [← hW3]; exact (((Ext.refl _).alloc _).alloc _).alloc _
 have z3 : W3.heap.size = w.heap.size + 3 := by rw [← hW3]; simp
 have hF : Fit W3 (.slice (some ⟨w.heap.size + 1 + 1, 0, none⟩) 2 2) liveA := by
   refine ⟨⟨_, _, rfl, Nat.le_refl _, .inr ⟨w.heap.size + 1 + 1, 0, rfl, by omega, by omega, fun i a ha => ?_⟩⟩, ?_, ?_, by decide⟩
   · match i, ha with
     | 0, ha =>
       simp [liveA] at ha
       subst ha
       refine ⟨0, 0, .slice (some ⟨w.heap.size, 0, none⟩) 3 3, ?_, ?_, ?_, ?_, ⟨_, _, rfl, Nat.le_refl _, .inr ⟨w.heap.size, 0, rfl, by omega, by omega, fun i a ha => ?_⟩⟩⟩
       · rw [← hW3]; simp [go_sem]
       · rw [← hW3]; simp [go_sem]
       · rw [← hW3]; simp [go_sem]
       · rw [← hW3]; simp [go_sem]
       · match i, ha with
         | 0, ha => simp at ha; subst ha; rw [← hW3]; simp [go_sem]
         | 1, ha => simp at ha; subst ha; rw [← hW3]; simp [go_sem]
         | 2, ha => simp at ha; subst ha; rw [← hW3]; simp [go_sem]
         | i + 3, ha => simp at ha
     | 1, ha =>
       simp [liveA] at ha
       subst ha
       refine ⟨0, 0, .slice (some ⟨w.heap.size + 1, 0, none⟩) 1 1, ?_, ?_, ?_, ?_, ⟨_, _, rfl, Nat.le_refl _, .inr ⟨w.heap.size + 1, 0, rfl, by omega, by omega, fun i a ha => ?_⟩⟩⟩
       · rw [← hW3]; simp [go_sem]
       · rw [← hW3]; simp [go_sem]
       · rw [← hW3]; simp [go_sem]
       · rw [← hW3]; simp [go_sem]
       · match i, ha with
         | 0, ha => simp at ha; subst ha; rw [← hW3]; simp [go_sem]
         | i + 1, ha => simp at ha
     | i + 2, ha => simp [liveA] at ha
   · intro a ha r hr
     simp [liveA] at ha
     rcases ha with rfl | rfl
     · simp at hr; rcases hr with rfl | rfl | rfl <;> exact ⟨by decide, by decide⟩
     · simp at hr; subst hr; exact ⟨by decide, by decide⟩
   · rw [live_seen]; decide
 have c := fsum_any liveA W3 _ 2 2 hF (hN.ext X3)
 rw [live_sum] at c
 simp only [V.dat] at c
 have HX : Hid (Ext w W3) := X3
 clear hF hW3 z3 X3
 refine c.mono ?_
 rintro e w4 ⟨rfl, E4⟩
 go_wp2_with fail
 go_ret
 exact ⟨rfl, HX.out.trans E4⟩
end Go.Proofs.YtiahgalhemljnaaGreatDoor
