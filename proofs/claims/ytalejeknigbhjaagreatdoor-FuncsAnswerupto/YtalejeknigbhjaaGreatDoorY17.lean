/-
 Package fold: Sum, Count, Min, Max, Average, And, Or.
 strings.Builder in a block of its own: WriteString, Len, String.
 Package fold: text, Concat.
-/
import Derived.Test.YtalejeknigbhjaaGreatDoorY15
import Derived.Test.YtalejeknigbhjaaGreatDoorY16
import Derived.Test.YtalejeknigbhjaaGreatDoorProg
import Derived.Test.YtalejeknigbhjaaGreatDoorY1
import Derived.Test.YtalejeknigbhjaaGreatDoorShelf
import Derived.Shelf.Strings.BuilderX
import Derived.Lib.Builder
import Derived.Laws.Externs
import Derived.Laws.AppendOwn
import Derived.Lib.OthersKept
import Derived.Lib.OwnKind
import Derived.Lib.AppendStr
import Derived.Lib.AppendIntMem
import Derived.Lib.UnsafeStr
namespace Go.Proofs.YtalejeknigbhjaaGreatDoor
open Go.RowKit
set_option maxHeartbeats 1000000

theorem RdA.to {B : Nat} {W W' : World} {v : Value} {l : List Ag} (h : RdA B W v l) (hB : B ≤ W.heap.size) (e : Ext W W') : RdA W'.heap.size W' v l := ((h.up hB).low e).up e.size
theorem RdV.to {B : Nat} {W W' : World} {v : Value} {l : List Rw} (h : RdV B W v l) (hB : B ≤ W.heap.size) (e : Ext W W') : RdV W'.heap.size W' v l := ((h.up hB).low e).up e.size
/-- What is asked of arguments. -/
structure Fit (W : World) (v : Value) (gs : List Ag) : Prop where
 rd : RdA W.heap.size W v gs
 i : AgI gs
 s : (seen gs).length ≤ 1500000
 l : gs.length ≤ 1500000
theorem Fit.ext {W W' : World} {v : Value} {gs : List Ag} (h : Fit W v gs) (e : Ext W W') : Fit W' v gs := ⟨h.rd.to (Nat.le_refl _) e, h.i, h.s, h.l⟩
set_option maxRecDepth 100000 in
theorem ftold_any (n : Int) (b : Bool) (W : World) (hN : Nm W) : Calls Tryz.prog 95 #[.int .i64 n, .bool b] W fun e w' => e = .returned (toldR b n).dat ∧ Ext W w' := by
 have c1 := fun W h => vnum_any n W h
 have c2 := fun W h => err_any 4 W h
 rw [mkErr_is ⟨by decide, by decide⟩] at c2
 cases b with
 | false =>
   have H : Hid (toldR false n = .err 4) := rfl
   simp only [V.dat] at c2
   clear c1
   go_enter Tryz.func95, Tryz.ntmps95
   go_wp2_with fail
   refine (c2 _ (hN.ext ((Ext.refl _).alloc _))).mono ?_
   rintro e w1 ⟨rfl, E1⟩
   obtain ⟨z, ⟨k0, k1, k2, k3⟩, f0, f1, f2, f3⟩ := blk_top (b := W.heap.size) (by simp) E1
   go_wp2_with fail
   exact fin4 k0 k1 k2 k3 rfl (by simp) (((Ext.refl _).alloc _).trans E1) (fun W g0 g1 g2 g3 => by simp [results, Tryz.results95, go_sem, g0, g1, g2, g3]) (fun W h => ⟨by rw [H.out]; rfl, h⟩)
 | true =>
   have H : Hid (toldR true n = mkNum n) := rfl
   obtain ⟨q0, q1, q2, q3, hq⟩ := dat4 (mkNum n)
   rw [hq] at c1
   have HQ : Hid ((mkNum n).dat = .agg #[.int .i64 q0, .int .i64 q1, .string q2, .int .i64 q3]) := hq
   clear c2 hq
   go_enter Tryz.func95, Tryz.ntmps95
   go_wp2_with fail
   refine (c1 _ (hN.ext ((Ext.refl _).alloc _))).mono ?_
   rintro e w1 ⟨rfl, E1⟩
   obtain ⟨z, ⟨k0, k1, k2, k3⟩, f0, f1, f2, f3⟩ := blk_top (b := W.heap.size) (by simp) E1
   go_wp2_with fail
   exact fin4 k0 k1 k2 k3 rfl (by simp) (((Ext.refl _).alloc _).trans E1) (fun W g0 g1 g2 g3 => by simp [results, Tryz.results95, go_sem, g0, g1, g2, g3]) (fun W h => ⟨by rw [H.out, HQ.out], h⟩)
/-! ### A sum's bounds -/
theorem sum_bd {l : List V} (h : AllN l) (hl : l.length ≤ 2000000) : I128 (sumN l) := by
 have hb : ∀ v ∈ l, -9223372036854775808 ≤ v.n ∧ v.n ≤ 9223372036854775807 := fun v hv => by
   obtain ⟨n, rfl, h1, _⟩ := h v hv
   exact h1
 have h1 := sum_le (c := 9223372036854775807) (fun v hv => (hb v hv).2)
 have h2 := le_sum (c := -9223372036854775808) (fun v hv => (hb v hv).1)
 exact ⟨by omega, by omega⟩
theorem Fit.sum {W : World} {v : Value} {gs : List Ag} (h : Fit W v gs) : I128 (sumN (got numF (seen gs))) := sum_bd (got_nums _ (seen_ok gs h.i)) (Nat.le_trans (got_len _ _) (Nat.le_trans h.s (by decide)))
theorem Fit.num {W : World} {v : Value} {gs : List Ag} (h : Fit W v gs) : (got numF (seen gs)).length ≤ 1500000 := Nat.le_trans (got_len _ _) h.s
set_option maxRecDepth 100000 in
theorem fsum_any (gs : List Ag) (W : World) (p : Option Addr) (n c : Nat) (hF : Fit W (.slice p n c) gs) (hN : Nm W) :
   Calls Tryz.prog 58 #[.slice p n c] W fun e w' => e = .returned (fSum gs).dat ∧ Ext W w' := by
 have HF : Hid (Fit W (.slice p n c) gs ∧ Nm W) := ⟨hF, hN⟩
 have HS : Hid (fSum gs = if (bad numF (seen gs)).k = 4 then bad numF (seen gs) else toldR (toldB (sumN (got numF (seen gs)))) (toldV (sumN (got numF (seen gs))))) := rfl
 have CT : Hid (∀ V, Ext W V → Calls Tryz.prog 94 #[.slice p n c] V fun e w' => e = .returned (.tuple #[.agg #[.int .i64 (hiOf (sumN (got numF (seen gs)))), .int .u64 (loOf (sumN (got numF (seen gs))))], .int .i64 ((got numF (seen gs)).length : Int), (bad numF (seen gs)).dat]) ∧ Ext V w') := fun V e =>
   have f := hF.ext e
   total_any V gs p n c f.rd f.i f.s f.l (hN.ext e)
 have cTo := fun W => told_acc (sumN (got numF (seen gs))) W
 have cR := fun W h => ftold_any (toldV (sumN (got numF (seen gs)))) (toldB (sumN (got numF (seen gs)))) W h
 clear hF hN
 rw [dat_eq (bad numF (seen gs))] at CT
 obtain ⟨q0, q1, q2, q3, hq⟩ := dat4 (toldR (toldB (sumN (got numF (seen gs)))) (toldV (sumN (got numF (seen gs)))))
 rw [hq] at cR
 have HQ : Hid ((toldR (toldB (sumN (got numF (seen gs)))) (toldV (sumN (got numF (seen gs))))).dat = .agg #[.int .i64 q0, .int .i64 q1, .string q2, .int .i64 q3]) := hq
 clear hq
 generalize sumN (got numF (seen gs)) = S at *
 generalize hiOf S = S0 at *
 generalize loOf S = S1 at *
 generalize toldV S = tv at *
 generalize toldB S = tb at *
 generalize ((got numF (seen gs)).length : Int) = C0 at *
 have HB : Hid ((bad numF (seen gs)).dat = .agg #[.int .i64 (bad numF (seen gs)).k, .int .i64 (bad numF (seen gs)).n, .string (bad numF (seen gs)).s, .int .i64 (bad numF (seen gs)).e]) := dat_eq _
 generalize bad numF (seen gs) = z at *
 obtain ⟨zk, hzk⟩ : ∃ r, z.k = r := ⟨_, rfl⟩
 obtain ⟨zn, hzn⟩ : ∃ r, z.n = r := ⟨_, rfl⟩
 obtain ⟨zs', hzs⟩ : ∃ r, z.s = r := ⟨_, rfl⟩
 obtain ⟨ze, hze⟩ : ∃ r, z.e = r := ⟨_, rfl⟩
 rw [hzk, hzn, hzs, hze] at CT HB
 rw [hzk] at HS
 clear hzk hzn hzs hze
 by_cases h4 : zk = 4
 · have e4 : (zk == 4) = true := by simpa using h4
   have HZ : Hid (fSum gs = z) := by show _ = _; rw [HS.out, if_pos h4]
   clear h4 HS cTo cR
   go_enter Tryz.func58, Tryz.ntmps58
   go_wp2_with fail
   refine (CT.out _ ((Ext.refl _).alloc _)).mono ?_
   rintro e w1 ⟨rfl, E1⟩
   have X1 : Hid (Ext W w1) := ((Ext.refl _).alloc _).trans E1
   have HB1 : Hid (Blk w1 W.heap.size (.int .i64 0) (.int .i64 0) (.string ⟨#[]⟩) (.int .i64 0)) := blk_top (by simp) E1
   obtain ⟨c0z, ⟨c0_0, c0_1, c0_2, c0_3⟩, c0f0, c0f1, c0f2, c0f3⟩ := HB1.out
   clear E1
   go_wp2_with fail
   exact finB (((HB1.out.set _ _ _ _).al _).al _) rfl (by with_reducible repeat (first | exact X1.out | exact Ext.refl _ | apply Ext.alloc | apply Ext.drewN | (refine Ext.setCell ?_ (by simp) _))) (fun g0 g1 g2 g3 => by simp [results, Tryz.results58, go_sem, g0, g1, g2, g3]) (fun h => ⟨by rw [HZ.out, HB.out], h⟩)
 · have e4 : (zk == 4) = false := by simpa using h4
   have HZ : Hid (fSum gs = toldR tb tv) := by show _ = _; rw [HS.out, if_neg h4]
   clear h4 HS
   go_enter Tryz.func58, Tryz.ntmps58
   go_wp2_with fail
   refine (CT.out _ ((Ext.refl _).alloc _)).mono ?_
   rintro e w1 ⟨rfl, E1⟩
   have X1 : Hid (Ext W w1) := ((Ext.refl _).alloc _).trans E1
   have HB1 : Hid (Blk w1 W.heap.size (.int .i64 0) (.int .i64 0) (.string ⟨#[]⟩) (.int .i64 0)) := blk_top (by simp) E1
   obtain ⟨c0z, ⟨c0_0, c0_1, c0_2, c0_3⟩, c0f0, c0f1, c0f2, c0f3⟩ := HB1.out
   clear E1
   go_wp2_with fail
   refine (cTo _).mono ?_
   rintro e w2 ⟨rfl, E2⟩
   have X2 : Hid (Ext W w2) := Ext.trans (by with_reducible repeat (first | exact X1.out | exact Ext.refl _ | apply Ext.alloc | apply Ext.drewN | (refine Ext.setCell ?_ (by simp) _))) E2
   have HB2 : Hid (Blk w2 W.heap.size (.int .i64 0) (.int .i64 0) (.string ⟨#[]⟩) (.int .i64 0)) := ((HB1.out.al _).al _).ext E2
   clear c0z c0_0 c0_1 c0_2 c0_3 c0f0 c0f1 c0f2 c0f3 E2
   obtain ⟨c0z, ⟨c0_0, c0_1, c0_2, c0_3⟩, c0f0, c0f1, c0f2, c0f3⟩ := HB2.out
   go_wp2_with fail
   refine (cR _ (HF.out.2.ext (by with_reducible repeat (first | exact X2.out | apply Ext.alloc)))).mono ?_
   rintro e w3 ⟨rfl, E3⟩
   have X3 : Hid (Ext W w3) := Ext.trans (by with_reducible repeat (first | exact X2.out | exact Ext.refl _ | apply Ext.alloc | apply Ext.drewN | (refine Ext.setCell ?_ (by simp) _))) E3
   have HB3 : Hid (Blk w3 W.heap.size (.int .i64 0) (.int .i64 0) (.string ⟨#[]⟩) (.int .i64 0)) := (HB2.out).ext E3
   clear c0z c0_0 c0_1 c0_2 c0_3 c0f0 c0f1 c0f2 c0f3 E3
   obtain ⟨c0z, ⟨c0_0, c0_1, c0_2, c0_3⟩, c0f0, c0f1, c0f2, c0f3⟩ := HB3.out
   go_wp2_with fail
   exact finB (HB3.out.set _ _ _ _) rfl (by with_reducible repeat (first | exact X3.out | exact Ext.refl _ | apply Ext.alloc | apply Ext.drewN | (refine Ext.setCell ?_ (by simp) _))) (fun g0 g1 g2 g3 => by simp [results, Tryz.results58, go_sem, g0, g1, g2, g3]) (fun h => ⟨by rw [HZ.out, HQ.out], h⟩)
set_option maxRecDepth 100000 in
theorem fcount_any (gs : List Ag) (W : World) (p : Option Addr) (n c : Nat) (hF : Fit W (.slice p n c) gs) (hN : Nm W) :
   Calls Tryz.prog 59 #[.slice p n c] W fun e w' => e = .returned (fCount gs).dat ∧ Ext W w' := by
 have HF : Hid (Fit W (.slice p n c) gs ∧ Nm W) := ⟨hF, hN⟩
 have HS : Hid (fCount gs = mkNum (((got numF (seen gs)).length : Int) * 10000)) := rfl
 have CT : Hid (∀ V, Ext W V → Calls Tryz.prog 94 #[.slice p n c] V fun e w' => e = .returned (.tuple #[.agg #[.int .i64 (hiOf (sumN (got numF (seen gs)))), .int .u64 (loOf (sumN (got numF (seen gs))))], .int .i64 ((got numF (seen gs)).length : Int), (bad numF (seen gs)).dat]) ∧ Ext V w') := fun V e =>
   have f := hF.ext e
   total_any V gs p n c f.rd f.i f.s f.l (hN.ext e)
 have cR := fun W h => vnum_any (((got numF (seen gs)).length : Int) * 10000) W h
 obtain ⟨q0, q1, q2, q3, hq⟩ := dat4 (mkNum (((got numF (seen gs)).length : Int) * 10000))
 rw [hq] at cR
 have HQ : Hid ((mkNum (((got numF (seen gs)).length : Int) * 10000)).dat = .agg #[.int .i64 q0, .int .i64 q1, .string q2, .int .i64 q3]) := hq
 have hm := hF.num
 have wm : wrap64 (((got numF (seen gs)).length : Int) * 10000) = ((got numF (seen gs)).length : Int) * 10000 := by unfold wrap64; omega
 clear hF hN hq hm
 rw [dat_eq (bad numF (seen gs))] at CT
 generalize sumN (got numF (seen gs)) = S at *
 generalize hiOf S = S0 at *
 generalize loOf S = S1 at *
 generalize (got numF (seen gs)).length = C0 at *
 obtain ⟨C1, hC1⟩ : ∃ r : Int, (C0 : Int) * 10000 = r := ⟨_, rfl⟩
 rw [hC1] at cR HQ HS
 have wm2 : wrap64 ((C0 : Int) * 10000) = C1 := by rw [wm, hC1]
 clear wm hC1
 generalize bad numF (seen gs) = z at *
 generalize z.k = zk at *
 generalize z.n = zn at *
 generalize z.s = zs' at *
 generalize z.e = ze at *
 go_enter Tryz.func59, Tryz.ntmps59
 go_wp2_with fail
 refine (CT.out _ ((Ext.refl _).alloc _)).mono ?_
 rintro e w1 ⟨rfl, E1⟩
 have X1 : Hid (Ext W w1) := ((Ext.refl _).alloc _).trans E1
 have HB1 : Hid (Blk w1 W.heap.size (.int .i64 0) (.int .i64 0) (.string ⟨#[]⟩) (.int .i64 0)) := blk_top (by simp) E1
 obtain ⟨c0z, ⟨c0_0, c0_1, c0_2, c0_3⟩, c0f0, c0f1, c0f2, c0f3⟩ := HB1.out
 clear E1
 go_wp2_with fail
 refine (cR _ (HF.out.2.ext (by with_reducible repeat (first | exact X1.out | apply Ext.alloc)))).mono ?_
 rintro e w2 ⟨rfl, E2⟩
 have X2 : Hid (Ext W w2) := Ext.trans (by with_reducible repeat (first | exact X1.out | exact Ext.refl _ | apply Ext.alloc | apply Ext.drewN | (refine Ext.setCell ?_ (by simp) _))) E2
 have HB2 : Hid (Blk w2 W.heap.size (.int .i64 0) (.int .i64 0) (.string ⟨#[]⟩) (.int .i64 0)) := ((HB1.out.al _).al _).ext E2
 clear c0z c0_0 c0_1 c0_2 c0_3 c0f0 c0f1 c0f2 c0f3 E2
 obtain ⟨c0z, ⟨c0_0, c0_1, c0_2, c0_3⟩, c0f0, c0f1, c0f2, c0f3⟩ := HB2.out
 go_wp2_with fail
 exact finB (HB2.out.set _ _ _ _) rfl (by with_reducible repeat (first | exact X2.out | exact Ext.refl _ | apply Ext.alloc | apply Ext.drewN | (refine Ext.setCell ?_ (by simp) _))) (fun g0 g1 g2 g3 => by simp [results, Tryz.results59, go_sem, g0, g1, g2, g3]) (fun h => ⟨by rw [HS.out, HQ.out], h⟩)
set_option maxRecDepth 100000 in
theorem favg_any (gs : List Ag) (W : World) (p : Option Addr) (n c : Nat) (hF : Fit W (.slice p n c) gs) (hN : Nm W) :
   Calls Tryz.prog 62 #[.slice p n c] W fun e w' => e = .returned (fMean gs).dat ∧ Ext W w' := by
 have HF : Hid (Fit W (.slice p n c) gs ∧ Nm W) := ⟨hF, hN⟩
 have HS : Hid (fMean gs = if (bad numF (seen gs)).k = 4 then bad numF (seen gs) else if (got numF (seen gs)).length = 0 then .err 3 else toldR (meanB (sumN (got numF (seen gs))) (got numF (seen gs)).length) (meanV (sumN (got numF (seen gs))) (got numF (seen gs)).length)) := rfl
 have CT : Hid (∀ V, Ext W V → Calls Tryz.prog 94 #[.slice p n c] V fun e w' => e = .returned (.tuple #[.agg #[.int .i64 (hiOf (sumN (got numF (seen gs)))), .int .u64 (loOf (sumN (got numF (seen gs))))], .int .i64 ((got numF (seen gs)).length : Int), (bad numF (seen gs)).dat]) ∧ Ext V w') := fun V e =>
   have f := hF.ext e
   total_any V gs p n c f.rd f.i f.s f.l (hN.ext e)
 have hm := hF.num
 have cTo := fun W => fmean_any (sumN (got numF (seen gs))) hF.sum ((got numF (seen gs)).length : Int) ⟨by omega, by omega⟩ W
 have cE := fun W h => err_any 3 W h
 rw [mkErr_is ⟨by decide, by decide⟩] at cE
 simp only [V.dat] at cE
 have cR := fun W h => ftold_any (meanV (sumN (got numF (seen gs))) (got numF (seen gs)).length) (meanB (sumN (got numF (seen gs))) (got numF (seen gs)).length) W h
 clear hF hN hm
 rw [dat_eq (bad numF (seen gs))] at CT
 obtain ⟨q0, q1, q2, q3, hq⟩ := dat4 (toldR (meanB (sumN (got numF (seen gs))) (got numF (seen gs)).length) (meanV (sumN (got numF (seen gs))) (got numF (seen gs)).length))
 rw [hq] at cR
 have HQ : Hid ((toldR (meanB (sumN (got numF (seen gs))) (got numF (seen gs)).length) (meanV (sumN (got numF (seen gs))) (got numF (seen gs)).length)).dat = .agg #[.int .i64 q0, .int .i64 q1, .string q2, .int .i64 q3]) := hq
 clear hq
 generalize sumN (got numF (seen gs)) = S at *
 generalize hiOf S = S0 at *
 generalize loOf S = S1 at *
 generalize (got numF (seen gs)).length = C0 at *
 generalize meanV S (C0 : Int) = tv at *
 generalize meanB S (C0 : Int) = tb at *
 have HB : Hid ((bad numF (seen gs)).dat = .agg #[.int .i64 (bad numF (seen gs)).k, .int .i64 (bad numF (seen gs)).n, .string (bad numF (seen gs)).s, .int .i64 (bad numF (seen gs)).e]) := dat_eq _
 generalize bad numF (seen gs) = z at *
 obtain ⟨zk, hzk⟩ : ∃ r, z.k = r := ⟨_, rfl⟩
 obtain ⟨zn, hzn⟩ : ∃ r, z.n = r := ⟨_, rfl⟩
 obtain ⟨zs', hzs⟩ : ∃ r, z.s = r := ⟨_, rfl⟩
 obtain ⟨ze, hze⟩ : ∃ r, z.e = r := ⟨_, rfl⟩
 rw [hzk, hzn, hzs, hze] at CT HB
 rw [hzk] at HS
 clear hzk hzn hzs hze
 by_cases h4 : zk = 4
 · have e4 : (zk == 4) = true := by simpa using h4
   have HZ : Hid (fMean gs = z) := by show _ = _; rw [HS.out, if_pos h4]
   clear h4 HS cTo cR cE
   go_enter Tryz.func62, Tryz.ntmps62
   go_wp2_with fail
   refine (CT.out _ ((Ext.refl _).alloc _)).mono ?_
   rintro e w1 ⟨rfl, E1⟩
   have X1 : Hid (Ext W w1) := ((Ext.refl _).alloc _).trans E1
   have HB1 : Hid (Blk w1 W.heap.size (.int .i64 0) (.int .i64 0) (.string ⟨#[]⟩) (.int .i64 0)) := blk_top (by simp) E1
   obtain ⟨c0z, ⟨c0_0, c0_1, c0_2, c0_3⟩, c0f0, c0f1, c0f2, c0f3⟩ := HB1.out
   clear E1
   go_wp2_with fail
   exact finB (((HB1.out.set _ _ _ _).al _).al _) rfl (by with_reducible repeat (first | exact X1.out | exact Ext.refl _ | apply Ext.alloc | apply Ext.drewN | (refine Ext.setCell ?_ (by simp) _))) (fun g0 g1 g2 g3 => by simp [results, Tryz.results62, go_sem, g0, g1, g2, g3]) (fun h => ⟨by rw [HZ.out, HB.out], h⟩)
 have e4 : (zk == 4) = false := by simpa using h4
 rw [if_neg h4] at HS
 clear h4
 by_cases hc : C0 = 0
 · have ec : ((C0 : Int) == 0) = true := by simp; omega
   have HZ : Hid (fMean gs = .err 3) := by show _ = _; rw [HS.out, if_pos hc]
   clear hc HS cTo cR
   go_enter Tryz.func62, Tryz.ntmps62
   go_wp2_with fail
   refine (CT.out _ ((Ext.refl _).alloc _)).mono ?_
   rintro e w1 ⟨rfl, E1⟩
   have X1 : Hid (Ext W w1) := ((Ext.refl _).alloc _).trans E1
   have HB1 : Hid (Blk w1 W.heap.size (.int .i64 0) (.int .i64 0) (.string ⟨#[]⟩) (.int .i64 0)) := blk_top (by simp) E1
   obtain ⟨c0z, ⟨c0_0, c0_1, c0_2, c0_3⟩, c0f0, c0f1, c0f2, c0f3⟩ := HB1.out
   clear E1
   go_wp2_with fail
   refine (cE _ (HF.out.2.ext (by with_reducible repeat (first | exact X1.out | apply Ext.alloc)))).mono ?_
   rintro e w2 ⟨rfl, E2⟩
   have X2 : Hid (Ext W w2) := Ext.trans (by with_reducible repeat (first | exact X1.out | exact Ext.refl _ | apply Ext.alloc | apply Ext.drewN | (refine Ext.setCell ?_ (by simp) _))) E2
   have HB2 : Hid (Blk w2 W.heap.size (.int .i64 0) (.int .i64 0) (.string ⟨#[]⟩) (.int .i64 0)) := ((HB1.out.al _).al _).ext E2
   clear c0z c0_0 c0_1 c0_2 c0_3 c0f0 c0f1 c0f2 c0f3 E2
   obtain ⟨c0z, ⟨c0_0, c0_1, c0_2, c0_3⟩, c0f0, c0f1, c0f2, c0f3⟩ := HB2.out
   go_wp2_with fail
   exact finB (HB2.out.set _ _ _ _) rfl (by with_reducible repeat (first | exact X2.out | exact Ext.refl _ | apply Ext.alloc | apply Ext.drewN | (refine Ext.setCell ?_ (by simp) _))) (fun g0 g1 g2 g3 => by simp [results, Tryz.results62, go_sem, g0, g1, g2, g3]) (fun h => ⟨by rw [HZ.out]; rfl, h⟩)
 · have ec : ((C0 : Int) == 0) = false := by simp; omega
   have HZ : Hid (fMean gs = toldR tb tv) := by show _ = _; rw [HS.out, if_neg hc]
   clear hc HS cE
   go_enter Tryz.func62, Tryz.ntmps62
   go_wp2_with fail
   refine (CT.out _ ((Ext.refl _).alloc _)).mono ?_
   rintro e w1 ⟨rfl, E1⟩
   have X1 : Hid (Ext W w1) := ((Ext.refl _).alloc _).trans E1
   have HB1 : Hid (Blk w1 W.heap.size (.int .i64 0) (.int .i64 0) (.string ⟨#[]⟩) (.int .i64 0)) := blk_top (by simp) E1
   obtain ⟨c0z, ⟨c0_0, c0_1, c0_2, c0_3⟩, c0f0, c0f1, c0f2, c0f3⟩ := HB1.out
   clear E1
   go_wp2_with fail
   refine (cTo _).mono ?_
   rintro e w2 ⟨rfl, E2⟩
   have X2 : Hid (Ext W w2) := Ext.trans (by with_reducible repeat (first | exact X1.out | exact Ext.refl _ | apply Ext.alloc | apply Ext.drewN | (refine Ext.setCell ?_ (by simp) _))) E2
   have HB2 : Hid (Blk w2 W.heap.size (.int .i64 0) (.int .i64 0) (.string ⟨#[]⟩) (.int .i64 0)) := ((HB1.out.al _).al _).ext E2
   clear c0z c0_0 c0_1 c0_2 c0_3 c0f0 c0f1 c0f2 c0f3 E2
   obtain ⟨c0z, ⟨c0_0, c0_1, c0_2, c0_3⟩, c0f0, c0f1, c0f2, c0f3⟩ := HB2.out
   go_wp2_with fail
   refine (cR _ (HF.out.2.ext (by with_reducible repeat (first | exact X2.out | apply Ext.alloc)))).mono ?_
   rintro e w3 ⟨rfl, E3⟩
   have X3 : Hid (Ext W w3) := Ext.trans (by with_reducible repeat (first | exact X2.out | exact Ext.refl _ | apply Ext.alloc | apply Ext.drewN | (refine Ext.setCell ?_ (by simp) _))) E3
   have HB3 : Hid (Blk w3 W.heap.size (.int .i64 0) (.int .i64 0) (.string ⟨#[]⟩) (.int .i64 0)) := (HB2.out).ext E3
   clear c0z c0_0 c0_1 c0_2 c0_3 c0f0 c0f1 c0f2 c0f3 E3
   obtain ⟨c0z, ⟨c0_0, c0_1, c0_2, c0_3⟩, c0f0, c0f1, c0f2, c0f3⟩ := HB3.out
   go_wp2_with fail
   exact finB (HB3.out.set _ _ _ _) rfl (by with_reducible repeat (first | exact X3.out | exact Ext.refl _ | apply Ext.alloc | apply Ext.drewN | (refine Ext.setCell ?_ (by simp) _))) (fun g0 g1 g2 g3 => by simp [results, Tryz.results62, go_sem, g0, g1, g2, g3]) (fun h => ⟨by rw [HZ.out, HQ.out], h⟩)
set_option maxRecDepth 100000 in
theorem fmin_any (gs : List Ag) (W : World) (p : Option Addr) (n c : Nat) (hF : Fit W (.slice p n c) gs) (hN : Nm W) :
   Calls Tryz.prog 60 #[.slice p n c] W fun e w' => e = .returned (fBest ltB gs).dat ∧ Ext W w' := by
 have HF : Hid (Fit W (.slice p n c) gs ∧ Nm W) := ⟨hF, hN⟩
 have CT : Hid (∀ V, Ext W V → Calls Tryz.prog 97 #[.slice p n c, .func (.func 98) #[] #[]] V fun e w' => e = .returned (fBest ltB gs).dat ∧ Ext V w') := fun V e =>
   have f := hF.ext e
   utmost_any ltB _ ah_min V gs p n c f.rd f.i f.s f.l (hN.ext e)
 clear hF hN
 obtain ⟨q0, q1, q2, q3, hq⟩ := dat4 (fBest ltB gs)
 rw [hq] at CT
 have HQ : Hid ((fBest ltB gs).dat = .agg #[.int .i64 q0, .int .i64 q1, .string q2, .int .i64 q3]) := hq
 clear hq
 go_enter Tryz.func60, Tryz.ntmps60
 go_wp2_with fail
 refine (CT.out _ ((Ext.refl _).alloc _)).mono ?_
 rintro e w1 ⟨rfl, E1⟩
 have X1 : Hid (Ext W w1) := ((Ext.refl _).alloc _).trans E1
 have HB1 : Hid (Blk w1 W.heap.size (.int .i64 0) (.int .i64 0) (.string ⟨#[]⟩) (.int .i64 0)) := blk_top (by simp) E1
 obtain ⟨c0z, ⟨c0_0, c0_1, c0_2, c0_3⟩, c0f0, c0f1, c0f2, c0f3⟩ := HB1.out
 clear E1
 go_wp2_with fail
 exact finB (HB1.out.set _ _ _ _) rfl (by with_reducible repeat (first | exact X1.out | exact Ext.refl _ | apply Ext.alloc | apply Ext.drewN | (refine Ext.setCell ?_ (by simp) _))) (fun g0 g1 g2 g3 => by simp [results, Tryz.results60, go_sem, g0, g1, g2, g3]) (fun h => ⟨by rw [HQ.out], h⟩)
set_option maxRecDepth 100000 in
theorem fmax_any (gs : List Ag) (W : World) (p : Option Addr) (n c : Nat) (hF : Fit W (.slice p n c) gs) (hN : Nm W) :
   Calls Tryz.prog 61 #[.slice p n c] W fun e w' => e = .returned (fBest gtB gs).dat ∧ Ext W w' := by
 have HF : Hid (Fit W (.slice p n c) gs ∧ Nm W) := ⟨hF, hN⟩
 have CT : Hid (∀ V, Ext W V → Calls Tryz.prog 97 #[.slice p n c, .func (.func 99) #[] #[]] V fun e w' => e = .returned (fBest gtB gs).dat ∧ Ext V w') := fun V e =>
   have f := hF.ext e
   utmost_any gtB _ ah_max V gs p n c f.rd f.i f.s f.l (hN.ext e)
 clear hF hN
 obtain ⟨q0, q1, q2, q3, hq⟩ := dat4 (fBest gtB gs)
 rw [hq] at CT
 have HQ : Hid ((fBest gtB gs).dat = .agg #[.int .i64 q0, .int .i64 q1, .string q2, .int .i64 q3]) := hq
 clear hq
 go_enter Tryz.func61, Tryz.ntmps61
 go_wp2_with fail
 refine (CT.out _ ((Ext.refl _).alloc _)).mono ?_
 rintro e w1 ⟨rfl, E1⟩
 have X1 : Hid (Ext W w1) := ((Ext.refl _).alloc _).trans E1
 have HB1 : Hid (Blk w1 W.heap.size (.int .i64 0) (.int .i64 0) (.string ⟨#[]⟩) (.int .i64 0)) := blk_top (by simp) E1
 obtain ⟨c0z, ⟨c0_0, c0_1, c0_2, c0_3⟩, c0f0, c0f1, c0f2, c0f3⟩ := HB1.out
 clear E1
 go_wp2_with fail
 exact finB (HB1.out.set _ _ _ _) rfl (by with_reducible repeat (first | exact X1.out | exact Ext.refl _ | apply Ext.alloc | apply Ext.drewN | (refine Ext.setCell ?_ (by simp) _))) (fun g0 g1 g2 g3 => by simp [results, Tryz.results61, go_sem, g0, g1, g2, g3]) (fun h => ⟨by rw [HQ.out], h⟩)
set_option maxRecDepth 100000 in
theorem truthOf_any (b : Bool) (m : Nat) (z : V) (W : World) (hN : Nm W) : Calls Tryz.prog 102 #[.bool b, .int .i64 (m : Int), z.dat] W fun e w' => e = .returned (orBad z (if m = 0 then .err 2 else .tf b)).dat ∧ Ext W w' := by
 have cE := fun W h => err_any 2 W h
 rw [mkErr_is ⟨by decide, by decide⟩] at cE
 have cB := fun W => vbool_any b W
 obtain ⟨q0, q1, q2, q3, hq⟩ := dat4 (V.tf b)
 rw [hq] at cB
 have HQ : Hid ((V.tf b).dat = .agg #[.int .i64 q0, .int .i64 q1, .string q2, .int .i64 q3]) := hq
 simp only [V.dat] at cE
 have HB : Hid (z.dat = .agg #[.int .i64 z.k, .int .i64 z.n, .string z.s, .int .i64 z.e]) := dat_eq _
 rw [dat_eq z]
 have HS : Hid (orBad z (if m = 0 then .err 2 else .tf b) = if z.k = 4 then z else (if m = 0 then .err 2 else .tf b)) := rfl
 obtain ⟨R, hR⟩ : ∃ R, orBad z (if m = 0 then .err 2 else .tf b) = R := ⟨_, rfl⟩
 rw [hR] at HS ⊢
 clear hq hR
 obtain ⟨zk, hzk⟩ : ∃ r, z.k = r := ⟨_, rfl⟩
 obtain ⟨zn, hzn⟩ : ∃ r, z.n = r := ⟨_, rfl⟩
 obtain ⟨zs', hzs⟩ : ∃ r, z.s = r := ⟨_, rfl⟩
 obtain ⟨ze, hze⟩ : ∃ r, z.e = r := ⟨_, rfl⟩
 rw [hzk, hzn, hzs, hze] at HB ⊢
 rw [hzk] at HS
 clear hzk hzn hzs hze
 have X0 : Hid (∀ o o', Ext W ((W.alloc o).alloc o')) := fun o o' => ((Ext.refl _).alloc _).alloc _
 by_cases h4 : zk = 4
 · have e4 : (zk == 4) = true := by simpa using h4
   have HZ : Hid (R = z) := by show _ = _; rw [HS.out, if_pos h4]
   clear h4 HS cB cE
   go_enter Tryz.func102, Tryz.ntmps102
   go_wp2_with fail
   simp [bodyPost, results, Tryz.results102, go_sem]
   exact ⟨by rw [HZ.out, HB.out], X0.out _ _⟩
 have e4 : (zk == 4) = false := by simpa using h4
 rw [if_neg h4] at HS
 clear h4
 by_cases hc : m = 0
 · have ec : ((m : Int) == 0) = true := by simp; omega
   have HZ : Hid (R = .err 2) := by show _ = _; rw [HS.out, if_pos hc]
   clear hc HS cB
   go_enter Tryz.func102, Tryz.ntmps102
   go_wp2_with fail
   refine (cE _ (hN.ext (X0.out _ _))).mono ?_
   rintro e w1 ⟨rfl, E1⟩
   obtain ⟨z1, ⟨k0, k1, k2, k3⟩, f0, f1, f2, f3⟩ := blk_top (b := W.heap.size + 1) (by simp) E1
   go_wp2_with fail
   exact fin4 k0 k1 k2 k3 rfl (by simp) ((X0.out _ _).trans E1) (fun W g0 g1 g2 g3 => by simp [results, Tryz.results102, go_sem, g0, g1, g2, g3]) (fun W h => ⟨by rw [HZ.out]; rfl, h⟩)
 · have ec : ((m : Int) == 0) = false := by simp; omega
   have HZ : Hid (R = .tf b) := by show _ = _; rw [HS.out, if_neg hc]
   clear hc HS cE
   go_enter Tryz.func102, Tryz.ntmps102
   go_wp2_with fail
   refine (cB _).mono ?_
   rintro e w1 ⟨rfl, E1⟩
   obtain ⟨z1, ⟨k0, k1, k2, k3⟩, f0, f1, f2, f3⟩ := blk_top (b := W.heap.size + 1) (by simp) E1
   go_wp2_with fail
   exact fin4 k0 k1 k2 k3 rfl (by simp) ((X0.out _ _).trans E1) (fun W g0 g1 g2 g3 => by simp [results, Tryz.results102, go_sem, g0, g1, g2, g3]) (fun W h => ⟨by rw [HZ.out, HQ.out], h⟩)
set_option maxRecDepth 100000 in
theorem fand_any (gs : List Ag) (W : World) (p : Option Addr) (n c : Nat) (hF : Fit W (.slice p n c) gs) (hN : Nm W) :
   Calls Tryz.prog 63 #[.slice p n c] W fun e w' => e = .returned (fAnd gs).dat ∧ Ext W w' := by
 have HF : Hid (Fit W (.slice p n c) gs ∧ Nm W) := ⟨hF, hN⟩
 have HS : Hid (fAnd gs = orBad (bad truF (seen gs)) (if (got truF (seen gs)).length = 0 then .err 2 else .tf (decide (truN (got truF (seen gs)) = (got truF (seen gs)).length)))) := rfl
 have CT : Hid (∀ V, Ext W V → Calls Tryz.prog 101 #[.slice p n c] V fun e w' => e = .returned (.tuple #[.int .i64 ((got truF (seen gs)).length : Int), .int .i64 (truN (got truF (seen gs)) : Int), (bad truF (seen gs)).dat]) ∧ Ext V w') := fun V e =>
   have f := hF.ext e
   poll_any V gs p n c f.rd f.i f.s f.l (hN.ext e)
 have cR := fun W h => truthOf_any (decide (truN (got truF (seen gs)) = (got truF (seen gs)).length)) (got truF (seen gs)).length (bad truF (seen gs)) W h
 clear hF hN
 rw [dat_eq (bad truF (seen gs))] at CT cR
 obtain ⟨R, hR⟩ : ∃ R, fAnd gs = R := ⟨_, rfl⟩
 rw [← HS.out, hR] at cR
 rw [hR]
 obtain ⟨q0, q1, q2, q3, hq⟩ := dat4 R
 rw [hq] at cR
 have HQ : Hid (R.dat = .agg #[.int .i64 q0, .int .i64 q1, .string q2, .int .i64 q3]) := hq
 clear hq HS hR
 generalize truN (got truF (seen gs)) = T0 at *
 generalize (got truF (seen gs)).length = C0 at *
 generalize bad truF (seen gs) = z at *
 generalize z.k = zk at *
 generalize z.n = zn at *
 generalize z.s = zs' at *
 generalize z.e = ze at *
 obtain ⟨bb, hbb⟩ : ∃ bb, decide (T0 = C0) = bb := ⟨_, rfl⟩
 rw [hbb] at cR
 have eb : (((T0 : Int)) == ((C0 : Int))) = bb := by rw [← hbb, Bool.eq_iff_iff]; simp; omega
 clear hbb
 go_enter Tryz.func63, Tryz.ntmps63
 go_wp2_with fail
 refine (CT.out _ ((Ext.refl _).alloc _)).mono ?_
 rintro e w1 ⟨rfl, E1⟩
 have X1 : Hid (Ext W w1) := ((Ext.refl _).alloc _).trans E1
 have HB1 : Hid (Blk w1 W.heap.size (.int .i64 0) (.int .i64 0) (.string ⟨#[]⟩) (.int .i64 0)) := blk_top (by simp) E1
 obtain ⟨c0z, ⟨c0_0, c0_1, c0_2, c0_3⟩, c0f0, c0f1, c0f2, c0f3⟩ := HB1.out
 clear E1
 go_wp2_with fail
 refine (cR _ (HF.out.2.ext (by with_reducible repeat (first | exact X1.out | apply Ext.alloc)))).mono ?_
 rintro e w2 ⟨rfl, E2⟩
 have X2 : Hid (Ext W w2) := Ext.trans (by with_reducible repeat (first | exact X1.out | exact Ext.refl _ | apply Ext.alloc | apply Ext.drewN | (refine Ext.setCell ?_ (by simp) _))) E2
 have HB2 : Hid (Blk w2 W.heap.size (.int .i64 0) (.int .i64 0) (.string ⟨#[]⟩) (.int .i64 0)) := (HB1.out.al _).ext E2
 clear c0z c0_0 c0_1 c0_2 c0_3 c0f0 c0f1 c0f2 c0f3 E2
 obtain ⟨c0z, ⟨c0_0, c0_1, c0_2, c0_3⟩, c0f0, c0f1, c0f2, c0f3⟩ := HB2.out
 go_wp2_with fail
 exact finB (HB2.out.set _ _ _ _) rfl (by with_reducible repeat (first | exact X2.out | exact Ext.refl _ | apply Ext.alloc | apply Ext.drewN | (refine Ext.setCell ?_ (by simp) _))) (fun g0 g1 g2 g3 => by simp [results, Tryz.results63, go_sem, g0, g1, g2, g3]) (fun h => ⟨by rw [HQ.out], h⟩)
set_option maxRecDepth 100000 in
theorem for_any (gs : List Ag) (W : World) (p : Option Addr) (n c : Nat) (hF : Fit W (.slice p n c) gs) (hN : Nm W) :
   Calls Tryz.prog 64 #[.slice p n c] W fun e w' => e = .returned (fOr gs).dat ∧ Ext W w' := by
 have HF : Hid (Fit W (.slice p n c) gs ∧ Nm W) := ⟨hF, hN⟩
 have HS : Hid (fOr gs = orBad (bad truF (seen gs)) (if (got truF (seen gs)).length = 0 then .err 2 else .tf (decide (0 < truN (got truF (seen gs)))))) := rfl
 have CT : Hid (∀ V, Ext W V → Calls Tryz.prog 101 #[.slice p n c] V fun e w' => e = .returned (.tuple #[.int .i64 ((got truF (seen gs)).length : Int), .int .i64 (truN (got truF (seen gs)) : Int), (bad truF (seen gs)).dat]) ∧ Ext V w') := fun V e =>
   have f := hF.ext e
   poll_any V gs p n c f.rd f.i f.s f.l (hN.ext e)
 have cR := fun W h => truthOf_any (decide (0 < truN (got truF (seen gs)))) (got truF (seen gs)).length (bad truF (seen gs)) W h
 clear hF hN
 rw [dat_eq (bad truF (seen gs))] at CT cR
 obtain ⟨R, hR⟩ : ∃ R, fOr gs = R := ⟨_, rfl⟩
 rw [← HS.out, hR] at cR
 rw [hR]
 obtain ⟨q0, q1, q2, q3, hq⟩ := dat4 R
 rw [hq] at cR
 have HQ : Hid (R.dat = .agg #[.int .i64 q0, .int .i64 q1, .string q2, .int .i64 q3]) := hq
 clear hq HS hR
 generalize truN (got truF (seen gs)) = T0 at *
 generalize (got truF (seen gs)).length = C0 at *
 generalize bad truF (seen gs) = z at *
 generalize z.k = zk at *
 generalize z.n = zn at *
 generalize z.s = zs' at *
 generalize z.e = ze at *
 obtain ⟨bb, hbb⟩ : ∃ bb, decide (0 < T0) = bb := ⟨_, rfl⟩
 rw [hbb] at cR
 have eb : decide (((T0 : Int)) > 0) = bb := by rw [← hbb, Bool.eq_iff_iff]; simp
 clear eb
 go_enter Tryz.func64, Tryz.ntmps64
 go_wp2_with fail
 refine (CT.out _ ((Ext.refl _).alloc _)).mono ?_
 rintro e w1 ⟨rfl, E1⟩
 have X1 : Hid (Ext W w1) := ((Ext.refl _).alloc _).trans E1
 have HB1 : Hid (Blk w1 W.heap.size (.int .i64 0) (.int .i64 0) (.string ⟨#[]⟩) (.int .i64 0)) := blk_top (by simp) E1
 obtain ⟨c0z, ⟨c0_0, c0_1, c0_2, c0_3⟩, c0f0, c0f1, c0f2, c0f3⟩ := HB1.out
 clear E1
 go_wp2_with fail
 refine (cR _ (HF.out.2.ext (by with_reducible repeat (first | exact X1.out | apply Ext.alloc)))).mono ?_
 rintro e w2 ⟨rfl, E2⟩
 have X2 : Hid (Ext W w2) := Ext.trans (by with_reducible repeat (first | exact X1.out | exact Ext.refl _ | apply Ext.alloc | apply Ext.drewN | (refine Ext.setCell ?_ (by simp) _))) E2
 have HB2 : Hid (Blk w2 W.heap.size (.int .i64 0) (.int .i64 0) (.string ⟨#[]⟩) (.int .i64 0)) := (HB1.out.al _).ext E2
 clear c0z c0_0 c0_1 c0_2 c0_3 c0f0 c0f1 c0f2 c0f3 E2
 obtain ⟨c0z, ⟨c0_0, c0_1, c0_2, c0_3⟩, c0f0, c0f1, c0f2, c0f3⟩ := HB2.out
 go_wp2_with fail
 exact finB (HB2.out.set _ _ _ _) rfl (by with_reducible repeat (first | exact X2.out | exact Ext.refl _ | apply Ext.alloc | apply Ext.drewN | (refine Ext.setCell ?_ (by simp) _))) (fun g0 g1 g2 g3 => by simp [results, Tryz.results64, go_sem, g0, g1, g2, g3]) (fun h => ⟨by rw [HQ.out], h⟩)

open Go.RowKit
set_option maxHeartbeats 2000000

theorem sb_info : ∃ j, Tryz.prog.info? 106 = some j ∧ j.size = 2 := by
 have h : (Tryz.prog.info? 106).map (fun i => i.size) = some 2 := by kernel_rfl
 obtain ⟨j, h1, h2⟩ := Option.map_eq_some_iff.1 h
 exact ⟨j, h1, h2⟩
theorem sb_byte : ∃ i, Tryz.prog.info? 5 = some i ∧ i.zero = some (.int .u8 0) ∧ i.size = 1 ∧ i.bytes = 1 := by
 have h : (Tryz.prog.info? 5).map (fun i => (i.zero, i.size, i.bytes)) = some (some (.int .u8 0), 1, 1) := by kernel_rfl
 obtain ⟨j, h1, h2⟩ := Option.map_eq_some_iff.1 h
 simp at h2
 exact ⟨j, h1, h2⟩

set_option maxRecDepth 100000 in
/-- A builder that was used is let by. -/
theorem sb_used (b : Nat) (w : World) (h0 : w.cell? ⟨b, 0, none⟩ = some (.pointer (some ⟨b, 0, none⟩))) :
   Calls Tryz.prog 138 #[.pointer (some ⟨b, 0, none⟩)] w fun e w' => e = .returned (.tuple #[]) ∧ w' = w := by
 obtain ⟨j, hj, _⟩ := sb_info
 go_enter Tryz.func138, Tryz.ntmps138
 go_wp2
 rw [Lib.run_neq_ptr_same w _ Tryz.underlying104 hj]
 go_wp2
 go_end0
 exact ⟨rfl, rfl⟩
/-- The builder in block b has written l; of w0 nothing has turned. -/
def BuS (w0 : World) (b : Nat) (l : List UInt8) (W : World) : Prop := Ext w0 W ∧ Lib.IsBuilder 106 5 w0.heap.size b (Lib.byteCells l) W
/-- Nothing else has turned. -/
def OkS9 (b : Nat) (w w' : World) : Prop := Lib.OthersKept 5 (some b) w w' ∧ w.heap.size ≤ w'.heap.size
theorem OkS9.trans {b : Nat} {x y z : World} (h : OkS9 b x y) (k : OkS9 b y z) : OkS9 b x z := ⟨h.1.trans k.1, Nat.le_trans h.2 k.2⟩
theorem OkS9.refl (b : Nat) (w : World) : OkS9 b w w := ⟨Lib.OthersKept.refl _ _ _, Nat.le_refl _⟩
theorem Ext.toKS {w w' : World} (h : Ext w w') (b : Nat) : OkS9 b w w' :=
 ⟨fun k _ hk _ _ => (h.block k (Array.getElem?_eq_some_iff.1 hk).1).trans hk, h.size⟩
theorem BuS.ext {w0 W W' : World} {b : Nat} {l : List UInt8} (h : BuS w0 b l W) (e : Ext W W') : BuS w0 b l W' := by
 refine ⟨h.1.trans e, ?_⟩
 have one : ∀ p, Lib.BuilderAt 106 5 w0.heap.size b p (Lib.byteCells l) W → Lib.BuilderAt 106 5 w0.heap.size b p (Lib.byteCells l) W' := by
   rintro p ⟨hB, v, hb, hown, hne⟩
   refine ⟨hB, v, (e.block b (Array.getElem?_eq_some_iff.1 hb).1).trans hb, ⟨hown.1, ?_⟩, hne⟩
   rcases hown.2 with h | ⟨g, cap, cur, hv, hbg, hg, rest⟩
   · exact .inl h
   · exact .inr ⟨g, cap, cur, hv, hbg, (e.block g (Array.getElem?_eq_some_iff.1 hg).1).trans hg, rest⟩
 exact h.2.imp (one _) (one _)
theorem sb_lies : liesAt Tryz.prog Tryz.prog.depth 106 (2 / Tryz.prog.cellsOf 106) 0 106 1 = true := by kernel_rfl
set_option maxRecDepth 100000 in
theorem scheck_new (b : Nat) (w : World) (h0 : w.cell? ⟨b, 0, none⟩ = some (.pointer none)) (hsh : w.shape? b = some (106, 2)) (hfz : w.frozen? ⟨b, 0, none⟩ = false) :
   Calls Tryz.prog 138 #[.pointer (some ⟨b, 0, none⟩)] w fun e w' => e = .returned (.tuple #[]) ∧ w' = w.setCell ⟨b, 0, none⟩ (.pointer (some ⟨b, 0, none⟩)) := by
 obtain ⟨j, hj, hjs⟩ := sb_info
 have q1 := Lib.run_to_unsafe (P := Tryz.prog) w ⟨b, 0, none⟩ Tryz.underlying104 Tryz.underlying132 hj (by omega) hsh (Nat.zero_lt_succ 1)
 have q3 := Lib.run_from_unsafe (P := Tryz.prog) w ⟨b, 0, none⟩ Tryz.underlying132 Tryz.underlying104 hj hsh sb_lies
 have q2 := run_callFunc_extern (P := Tryz.prog) Tryz.func147 (by kernel_rfl) (by kernel_rfl) (by kernel_rfl) (e := Extern.AbiNoEscape.same) (by kernel_rfl) #[.pointer (some ⟨b, 0, none⟩)] w
 rw [Lib.run_noEscape] at q2
 go_enter Tryz.func138, Tryz.ntmps138
 go_wp2
 go_end0
 exact ⟨rfl, rfl⟩
theorem scheck_any (B b : Nat) (l : List Value) (w : World) (h : Lib.IsBuilder 106 5 B b l w) :
   Calls Tryz.prog 138 #[.pointer (some ⟨b, 0, none⟩)] w fun e w' => e = .returned (.tuple #[]) ∧ Lib.BuilderAt 106 5 B b (.pointer (some ⟨b, 0, none⟩)) l w' ∧ Below B w w' ∧ Lib.OthersKept 5 (some b) w w' := by
 rcases h with h | h
 · refine (scheck_new b w h.cell0 h.shape h.frozen0).mono ?_
   rintro e w' ⟨rfl, rfl⟩
   exact ⟨rfl, h.used _, (Below.refl B w).setCell (p := ⟨b, 0, none⟩) h.1 _, (Lib.OthersKept.refl _ _ w).setCell ⟨b, 0, none⟩ rfl _⟩
 · refine (sb_used b w h.cell0).mono ?_
   rintro e w' ⟨rfl, rfl⟩
   exact ⟨rfl, h, Below.refl B _, Lib.OthersKept.refl _ _ _⟩
set_option maxRecDepth 100000 in
/-- A text more. -/
theorem swrite_any (w0 : World) (b : Nat) (l : List UInt8) (s : ByteArray) (w : World) (hBu : BuS w0 b l w) (hlen : l.length ≤ 100000000) (hs : s.size ≤ 100000000) :
   Calls Tryz.prog 107 #[.pointer (some ⟨b, 0, none⟩), .string s] w fun e w' => e = .returned (.tuple #[.int .i64 s.size, .nilIface]) ∧ BuS w0 b (l ++ s.data.toList) w' ∧ OkS9 b w w' := by
 obtain ⟨i, hi, hz, h1, h2⟩ := sb_byte
 obtain ⟨hE0, h⟩ := hBu
 have HE0 : Hid (Ext w0 w) := hE0
 have hBw : w0.heap.size ≤ w.heap.size := hE0.size
 obtain ⟨B, hBdef⟩ : ∃ B, w0.heap.size = B := ⟨_, rfl⟩
 rw [hBdef] at h hBw
 have HB0 : Hid (w0.heap.size = B) := hBdef
 clear hBdef hE0
 have c0 := fun W h => scheck_any B b (Lib.byteCells l) W h
 have hbl : (Lib.byteCells l).length = l.length := by simp [Lib.byteCells]
 have hbs : Hid (Lib.byteCells (l ++ s.data.toList) = Lib.byteCells l ++ Lib.strCells s) := by show _ = _; simp [Lib.byteCells, Lib.strCells]
 rw [← hbl] at hlen
 clear hbl
 obtain ⟨bl, hbl⟩ : ∃ bl, Lib.byteCells l = bl := ⟨_, rfl⟩
 rw [hbl] at h c0 hbs hlen
 clear hbl
 go_enter Tryz.func107, Tryz.ntmps107
 go_wp2_with fail
 refine (c0 _ h).mono ?_
 rintro e w1 ⟨rfl, ⟨hB, v, hb, hown, hne⟩, hw1, hk1⟩
 have d0 : w1.cell? ⟨b, 0, none⟩ = some (.pointer (some ⟨b, 0, none⟩)) := by rw [Lib.cell_of_heap hb]; rfl
 have d1 : w1.cell? ⟨b, 1, none⟩ = some v := by rw [Lib.cell_of_heap hb]; rfl
 have hlt : b < w1.heap.size := Lib.BuilderAt.lt ⟨hB, v, hb, hown, hne⟩
 have HO : Hid (w1.ownsRow B 5 1 v bl.length bl) := hown
 have HS := hw1.size
 go_wp2_with (at_builtin; refine Lib.wpList_append_own_string _ rfl _ _ 84 9 rfl B 5 i Tryz.underlying84 Tryz.underlying9 hi hz h1 h2 _ _ _ rfl HO.out s rfl ?c3 ?c4 ?c5 ?_)
 case c3 => unfold maxLen; omega
 case c4 => omega
 case c5 => omega
 intro v' w2 hown' hg _
 have hb2 : w2.heap[b]? = some (.cells #[.pointer (some ⟨b, 0, none⟩), v] 106 (0, 0)) := by
   rw [hg.block b hlt (fun e => hne e.symm)]
   exact hb
 have d2 : w2.cell? ⟨b, 0, none⟩ = some (.pointer (some ⟨b, 0, none⟩)) := by rw [Lib.cell_of_heap hb2]; rfl
 have d3 : w2.cell? ⟨b, 1, none⟩ = some v := by rw [Lib.cell_of_heap hb2]; rfl
 have f3 : w2.frozen? ⟨b, 1, none⟩ = false := Lib.frozen_of_heap hb2 1
 obtain ⟨ao, n', cap, rfl⟩ : ∃ ao n' cap, v' = .slice ao n' cap := by
   rcases hown'.2 with ⟨hv, _⟩ | ⟨g, cap, cur, hv, _⟩
   · exact ⟨_, _, _, hv⟩
   · exact ⟨_, _, _, hv⟩
 go_wp2
 go_ret2
 have hbel : Below B w (w2.setCell ⟨b, 1, none⟩ (.slice ao n' cap)) := (hw1.grown hg (by omega) (fun k hk => (hown.lt k hk).1)).setCell (p := ⟨b, 1, none⟩) hB _
 refine ⟨rfl, ⟨?_, ?_⟩, ?_, hbel.size⟩
 · show Below w0.heap.size w0 _
   rw [HB0.out]
   have := HE0.out
   unfold Ext at this
   rw [HB0.out] at this
   exact Below.trans this hbel
 · rw [HB0.out, hbs.out]
   exact .inr (Lib.BuilderAt.put hB hb2 (by simpa [Lib.strCells_length] using hown') (by decide))
 · exact (hk1.grown hg (Lib.ownsRow_kind hown)).setCell ⟨b, 1, none⟩ rfl _

open Go.RowKit
set_option maxHeartbeats 1000000

set_option maxRecDepth 100000 in
theorem text_any (x : V) (a : Bool) (W : World) (hT : Tab W) (hN : Nm W) (hx : x.ok) : Calls Tryz.prog 104 #[x.dat, .bool a] W fun e w' => e = .returned (texF x a).dat ∧ Ext W w' := by
 have c0 := fun W t h => vtotext_any x.k x.n x.s x.e W (nm_of x hx).2 t h
 rw [(nm_of x hx).1] at c0
 have H : Hid (texF x a = x.toText) := rfl
 rw [dat_eq x]
 obtain ⟨q0, q1, q2, q3, hq⟩ := dat4 x.toText
 rw [hq] at c0
 have HQ : Hid (x.toText.dat = .agg #[.int .i64 q0, .int .i64 q1, .string q2, .int .i64 q3]) := hq
 clear hq hx
 generalize x.k = xk at *
 generalize x.n = xn at *
 generalize x.s = xs at *
 generalize x.e = xe at *
 go_enter Tryz.func104, Tryz.ntmps104
 go_wp2_with fail
 refine (c0 _ (hT.ext (((Ext.refl _).alloc _).alloc _)) (hN.ext (((Ext.refl _).alloc _).alloc _))).mono ?_
 rintro e w1 ⟨rfl, E1⟩
 obtain ⟨z, ⟨k0, k1, k2, k3⟩, f0, f1, f2, f3⟩ := blk_top (b := W.heap.size + 1) (by simp) E1
 go_wp2_with fail
 exact fin4 k0 k1 k2 k3 rfl (by simp) ((((Ext.refl _).alloc _).alloc _).trans E1) (fun W g0 g1 g2 g3 => by simp [results, Tryz.results104, go_sem, g0, g1, g2, g3]) (fun W h => ⟨by rw [H.out, HQ.out], h⟩)
theorem turn_text (w0 : World) (hT : Tab w0) (hN : Nm w0) : TurnC w0 (.func (.func 104) #[] #[]) texF :=
 ⟨104, rfl, enters_of Tryz.func104 (by kernel_rfl) rfl, fun W x a e h => text_any x a W (hT.ext e) (hN.ext e) h⟩
theorem texF_okk (x : V) (a : Bool) (h : x.ok) : (texF x a).ok := toText_ok x h
set_option maxRecDepth 100000 in
theorem blen_any (w0 : World) (b : Nat) (l : List UInt8) (w : World) (h : BuS w0 b l w) :
   Calls Tryz.prog 106 #[.pointer (some ⟨b, 0, none⟩)] w fun e w' => e = .returned (.int .i64 (l.length : Int)) ∧ w' = w := by
 obtain ⟨p, hB, v, hb, hown, hne⟩ : ∃ p, Lib.BuilderAt 106 5 w0.heap.size b p (Lib.byteCells l) w := by
   rcases h.2 with h | h
   · exact ⟨_, h⟩
   · exact ⟨_, h⟩
 have hl : (Lib.byteCells l).length = l.length := by simp [Lib.byteCells]
 rw [hl] at hown
 obtain ⟨ao, cap, rfl⟩ : ∃ ao cap, v = .slice ao l.length cap := by
   rcases hown.2 with ⟨hv, h0⟩ | ⟨g, cap, cur, hv, _⟩
   · exact ⟨none, 0, by rw [hv, h0]⟩
   · exact ⟨_, _, hv⟩
 have d1 : w.cell? ⟨b, 1, none⟩ = some (.slice ao l.length cap) := by rw [Lib.cell_of_heap hb]; rfl
 clear h hl hown hne hb hB
 go_enter Tryz.func106, Tryz.ntmps106
 go_wp2_with fail
 go_ret
 exact ⟨rfl, rfl⟩
theorem catF_le (l : List V) (a : List UInt8) (h : ∀ v ∈ l, v.s.size ≤ 300) (ha : a.length ≤ 600) : (catF a l).length ≤ 600 := by
 induction l generalizing a with
 | nil => exact ha
 | cons v l ih =>
   show (catF (if a.length ≤ 300 then a ++ v.s.data.toList else a) l).length ≤ 600
   refine ih _ (fun u hu => h u (by simp [hu])) ?_
   split
   · have := h v (by simp)
     rw [List.length_append, size_list]; omega
   · exact ha
theorem ok_s (v : V) (h : v.ok) : v.s.size ≤ 300 := by
 cases v with
 | text s => exact h
 | _ => exact Nat.zero_le _
/-- The variable joined (block g); of w0 nothing has turned. -/
structure Cat (w0 : World) (g : Nat) (l : List V) (W : World) : Prop where
 b : BuS w0 g (catF [] l) W
 o : ∀ v ∈ l, v.s.size ≤ 300
theorem BuS.env {w0 W W' : World} {g hi : Nat} {l : List UInt8} (h : BuS w0 g l W) (e : Env hi W W') (hg : g < hi) (hh : w0.heap.size ≤ hi) : BuS w0 g l W' := by
 refine ⟨Below.trans h.1 (e.1.mono hh), ?_⟩
 have one : ∀ p, Lib.BuilderAt 106 5 w0.heap.size g p (Lib.byteCells l) W → Lib.BuilderAt 106 5 w0.heap.size g p (Lib.byteCells l) W' := by
   rintro p ⟨hB, v, hb, hown, hne⟩
   refine ⟨hB, v, (e.1.block g hg).trans hb, ⟨hown.1, ?_⟩, hne⟩
   rcases hown.2 with h | ⟨q, cap, cur, hv, hbg, hq, rest⟩
   · exact .inl h
   · exact .inr ⟨q, cap, cur, hv, hbg, (e.2 q ⟨cur, (0, 0), hq⟩).trans hq, rest⟩
 exact h.2.imp (one _) (one _)
theorem Ext.between2 {W V1 V2 : World} (e1 : Ext W V1) (e2 : Ext W V2) (hs : V1.heap.size ≤ V2.heap.size) : Below W.heap.size V1 V2 :=
 ⟨e2.os.trans e1.os.symm, e2.tape.trans e1.tape.symm, e2.output.trans e1.output.symm, hs, fun k hk => (e2.block k hk).trans (e1.block k hk).symm⟩
theorem OkS9.mid {w0 W W' : World} {g hi : Nat} (h : OkS9 g W W') (e : Ext w0 W) (e' : Ext w0 W') (hg : g < hi) : Mid w0.heap.size hi W W' :=
 ⟨Ext.between2 e e' h.2, fun k hk hs hr => by
   have hk2 : W.heap[k]? = some W.heap[k] := Array.getElem?_eq_getElem hs
   rw [hk2]
   exact h.1 k _ hk2 (by intro q; cases q; omega) (fun c fz q => hr ⟨c, fz, by rw [hk2, q]⟩)⟩
set_option maxRecDepth 100000 in
theorem cat1_any (w0 : World) (g : Nat) (l : List V) (W : World) (x : V) (h : Cat w0 g l W) (hx : x.ok) :
   Calls Tryz.prog 105 (encV x ++ #[.pointer (some ⟨g, 0, none⟩)]) W fun e w' => e = .returned (.tuple #[]) ∧ Cat w0 g (l ++ [x]) w' ∧ OkS9 g W w' := by
 have hs := ok_s x hx
 have hle := catF_le l [] h.o (by simp)
 have HO : Hid (∀ v ∈ l ++ [x], v.s.size ≤ 300) := by
   intro v hv
   rcases List.mem_append.1 hv with hv | hv
   · exact h.o v hv
   · simp at hv; subst hv; exact hs
 have HC : Hid (catF [] (l ++ [x]) = if (catF [] l).length ≤ 300 then catF [] l ++ x.s.data.toList else catF [] l) := catF_app [] l x
 rw [show encV x = #[x.dat] from rfl, dat_eq x]
 obtain ⟨L, hL⟩ : ∃ L, catF [] l = L := ⟨_, rfl⟩
 have HB : Hid (BuS w0 g L W) := by rw [← hL]; exact h.b
 rw [hL] at HC hle
 have cL := fun V (q : BuS w0 g L V) => blen_any w0 g L V q
 have cW := fun V (q : BuS w0 g L V) => swrite_any w0 g L x.s V q (by omega) (by omega)
 clear h hx hL
 generalize x.k = xk at *
 generalize x.n = xn at *
 generalize x.e = xe at *
 obtain ⟨xs, hxs⟩ : ∃ q, x.s = q := ⟨_, rfl⟩
 rw [hxs] at cW HC hs ⊢
 clear hxs
 by_cases hc : L.length ≤ 300
 · have hd : decide ((L.length : Int) ≤ 300) = true := by simp; omega
   have hI : (L.length : Int) ≤ 300 := by omega
   rw [if_pos hc] at HC
   clear hc hle hs
   go_enter Tryz.func105, Tryz.ntmps105
   go_wp2_with fail
   refine (cL _ (HB.out.ext ((Ext.refl _).alloc _))).mono ?_
   rintro e w1 ⟨rfl, rfl⟩
   go_wp2_with fail
   refine (cW _ (HB.out.ext ((Ext.refl _).alloc _))).mono ?_
   rintro e w2 ⟨rfl, B2, O2⟩
   have HO2 : Hid (OkS9 g W w2) := (((Ext.refl W).alloc _).toKS g).trans O2
   have HB2 : Hid (BuS w0 g (L ++ xs.data.toList) w2) := B2
   clear B2 O2
   go_wp2_with fail
   go_end0
   exact ⟨rfl, ⟨by rw [HC.out]; exact HB2.out, HO.out⟩, HO2.out⟩
 · have hd : decide ((L.length : Int) ≤ 300) = false := by simp; omega
   have hI : ¬ (L.length : Int) ≤ 300 := by omega
   rw [if_neg hc] at HC
   clear hc hle hs cW
   go_enter Tryz.func105, Tryz.ntmps105
   go_wp2_with fail
   refine (cL _ (HB.out.ext ((Ext.refl _).alloc _))).mono ?_
   rintro e w1 ⟨rfl, rfl⟩
   go_wp2_with fail
   go_end0
   have O2 : ∀ o, OkS9 g W (W.alloc o) := fun o => ((Ext.refl W).alloc o).toKS g
   exact ⟨rfl, ⟨by rw [HC.out]; exact HB.out.ext ((Ext.refl _).alloc _), HO.out⟩, O2 _⟩
theorem ent_cat1 : ∀ args W, (callFunc 105 args).run Tryz.prog W = .ok (.enter 105 args) W := enters_of Tryz.func105 (by kernel_rfl) rfl
theorem cat_fn (w0 wb : World) (hw : Ext w0 wb) (g hi : Nat) (hg : g < hi) (hh : wb.heap.size ≤ hi) : FnC w0 hi (.func (.func 105) #[] #[.pointer (some ⟨g, 0, none⟩)]) encV V.ok (fun l W => Cat wb g l W) := by
 refine ⟨_, _, rfl, ent_cat1, ?_, ?_⟩
 · intro l W W' h hs e
   exact ⟨h.b.env e hg hh, h.o⟩
 · intro l W x h hs e hl hx
   exact (cat1_any wb g l W x h hx).mono (fun e' w' q => ⟨q.1, q.2.1, q.2.2.mid e (hw.trans q.2.1.b.1) hg⟩)
set_option maxRecDepth 100000 in
theorem fcat_any (gs : List Ag) (w0 : World) (p : Option Addr) (n c : Nat) (hF : Fit w0 (.slice p n c) gs) (hT : Tab w0) (hN : Nm w0) :
   Calls Tryz.prog 65 #[.slice p n c] w0 fun e w' => e = .returned (fCat gs).dat ∧ Ext w0 w' := by
 have HF : Hid (Fit w0 (.slice p n c) gs ∧ Tab w0 ∧ Nm w0) := ⟨hF, hT, hN⟩
 obtain ⟨wb, hwb⟩ : ∃ wb, w0.alloc (.cells #[.int .i64 0, .int .i64 0, .string ⟨#[]⟩, .int .i64 0] 25) = wb := ⟨_, rfl⟩
 have hzb : wb.heap.size = w0.heap.size + 1 := by rw [← hwb]; simp
 have HWB : Hid (Ext w0 wb ∧ Blk wb w0.heap.size (.int .i64 0) (.int .i64 0) (.string ⟨#[]⟩) (.int .i64 0)) := by
   rw [← hwb]
   exact ⟨(Ext.refl _).alloc _, blk_top rfl (Ext.refl _)⟩
 have HFN : Hid (FnC w0 (w0.heap.size + 2) (.func (.func 105) #[] #[.pointer (some ⟨w0.heap.size + 1, 0, none⟩)]) encV V.ok (fun l W => Cat wb (w0.heap.size + 1) l W)) := cat_fn w0 wb HWB.out.1 _ _ (by omega) (by omega)
 have HZB : Hid (wb.heap.size = w0.heap.size + 1) := hzb
 have HWE : Hid (w0.alloc (.cells #[.int .i64 0, .int .i64 0, .string ⟨#[]⟩, .int .i64 0] 25) = wb) := hwb
 clear hzb hwb
 clear hF hT hN
 go_enter Tryz.func65, Tryz.ntmps65
 go_wp2_with fail
 rw [HWE.out]
 generalize hW3 : wb.alloc _ = W3
 have z3 : W3.heap.size = w0.heap.size + 2 := by rw [← hW3]; simp; have := HZB.out; omega
 have Eb : Ext wb W3 := by rw [← hW3]; exact (Ext.refl _).alloc _
 have E3 : Ext w0 W3 := HWB.out.1.trans Eb
 have HC : Cat wb (w0.heap.size + 1) [] W3 := by
   refine ⟨⟨Eb, ?_⟩, (fun v hv => by cases hv)⟩
   rw [← hW3, ← HZB.out]
   exact Lib.fresh_isBuilder _ _ wb
 refine (through_any w0 gs _ _ texF (fun l W => Cat wb (w0.heap.size + 1) l W) W3 p n c (turn_text w0 HF.out.2.1 HF.out.2.2) (by rw [z3]; exact HFN.out) texF_okk (HF.out.1.rd.low (Below.mono E3 (Nat.le_refl _))) HF.out.1.i HF.out.1.s HF.out.1.l HC E3 HF.out.2.2).mono ?_
 rintro e w4 ⟨rfl, T4, X4⟩
 have HX4 : Hid (Ext w0 w4) := X4
 have HB4 : Hid (Blk w4 w0.heap.size (.int .i64 0) (.int .i64 0) (.string ⟨#[]⟩) (.int .i64 0)) := HWB.out.2.ext T4.b.1
 obtain ⟨c0z, ⟨c0_0, c0_1, c0_2, c0_3⟩, c0f0, c0f1, c0f2, c0f3⟩ := HB4.out
 have HBu : Hid (BuS wb (w0.heap.size + 1) (catF [] (got texF (seen gs))) w4) := T4.b
 have HR : Hid (fCat gs = if (bad texF (seen gs)).k = 4 then bad texF (seen gs) else mkText (bs (allC (got texF (seen gs))))) := rfl
 have HTX : Hid (mkText (bs (catF [] (got texF (seen gs)))) = mkText (bs (allC (got texF (seen gs))))) := cat_text _
 have HD : Hid ((bad texF (seen gs)).dat = .agg #[.int .i64 (bad texF (seen gs)).k, .int .i64 (bad texF (seen gs)).n, .string (bad texF (seen gs)).s, .int .i64 (bad texF (seen gs)).e]) := dat_eq _
 have hD := dat_eq (bad texF (seen gs))
 obtain ⟨zk, hzk⟩ : ∃ r, (bad texF (seen gs)).k = r := ⟨_, rfl⟩
 obtain ⟨zn, hzn⟩ : ∃ r, (bad texF (seen gs)).n = r := ⟨_, rfl⟩
 obtain ⟨zs', hzs⟩ : ∃ r, (bad texF (seen gs)).s = r := ⟨_, rfl⟩
 obtain ⟨ze, hze⟩ : ∃ r, (bad texF (seen gs)).e = r := ⟨_, rfl⟩
 rw [hzk, hzn, hzs, hze] at HD hD
 rw [hzk] at HR
 rw [hD]
 clear hzk hzn hzs hze hD hW3 z3 E3 Eb HC X4 T4 HFN HWE
 by_cases h4 : zk = 4
 · have e4 : (zk == 4) = true := by simpa using h4
   have HZ : Hid (fCat gs = bad texF (seen gs)) := by show _ = _; rw [HR.out, if_pos h4]
   clear h4 HR
   go_wp2_with fail
   exact finB ((HB4.out.set _ _ _ _).al _) rfl (((((HX4.out.setCell (by simp) _).setCell (by simp) _).setCell (by simp) _).setCell (by simp) _).alloc _) (fun g0 g1 g2 g3 => by simp [results, Tryz.results65, go_sem, g0, g1, g2, g3]) (fun h => ⟨by rw [HZ.out, HD.out], h⟩)
 · have e4 : (zk == 4) = false := by simpa using h4
   have HZ : Hid (fCat gs = mkText (bs (catF [] (got texF (seen gs))))) := by show _ = _; rw [HR.out, if_neg h4, HTX.out]
   clear h4 HR HTX
   obtain ⟨T, hTT⟩ : ∃ T, catF [] (got texF (seen gs)) = T := ⟨_, rfl⟩
   rw [hTT] at HBu HZ
   have cN := fun W h => vtext_any (bs T) W h
   obtain ⟨q0, q1, q2, q3, hq⟩ := dat4 (mkText (bs T))
   rw [hq] at cN
   have HQ : Hid ((mkText (bs T)).dat = .agg #[.int .i64 q0, .int .i64 q1, .string q2, .int .i64 q3]) := hq
   have CS : Hid (∀ V, Ext w4 V → Calls Tryz.prog 108 #[.pointer (some ⟨w0.heap.size + 1, 0, none⟩)] V fun e w' => e = .returned (.string (bs T)) ∧ Below wb.heap.size V w') := fun V e => Tryz.Builder_String_any wb.heap.size (w0.heap.size + 1) T V (HBu.out.ext e).2 (Nat.le_trans HBu.out.1.size e.size)
   clear hq hTT
   generalize bs T = bT at *
   go_wp2_with fail
   refine (CS.out _ ((Ext.refl _).alloc _)).mono ?_
   rintro e w5 ⟨rfl, E5⟩
   have HE5 : Hid (Ext wb w5) := Below.trans (HBu.out.1.alloc _) E5
   have HB5 : Hid (Blk w5 w0.heap.size (.int .i64 0) (.int .i64 0) (.string ⟨#[]⟩) (.int .i64 0)) := HWB.out.2.ext HE5.out
   clear c0z c0_0 c0_1 c0_2 c0_3 c0f0 c0f1 c0f2 c0f3 E5
   go_wp2_with fail
   refine (cN _ (HF.out.2.2.ext (HWB.out.1.trans HE5.out))).mono ?_
   rintro e w6 ⟨rfl, E6⟩
   have HB6 : Hid (Blk w6 w0.heap.size (.int .i64 0) (.int .i64 0) (.string ⟨#[]⟩) (.int .i64 0)) := HB5.out.ext E6
   have HX6 : Hid (Ext w0 w6) := (HWB.out.1.trans HE5.out).trans E6
   clear E6
   obtain ⟨c0z, ⟨c0_0, c0_1, c0_2, c0_3⟩, c0f0, c0f1, c0f2, c0f3⟩ := HB6.out
   go_wp2_with fail
   exact finB (HB6.out.set _ _ _ _) rfl ((((HX6.out.setCell (by simp) _).setCell (by simp) _).setCell (by simp) _).setCell (by simp) _) (fun g0 g1 g2 g3 => by simp [results, Tryz.results65, go_sem, g0, g1, g2, g3]) (fun h => ⟨by rw [HZ.out, HQ.out], h⟩)
end Go.Proofs.YtalejeknigbhjaaGreatDoor
