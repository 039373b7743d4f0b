/-
 The document's functions of many values: Call of AND, OR, CONCAT.
-/
import Derived.Test.YtalejeknigbhjaaGreatDoorY25
namespace Go.Proofs.YtalejeknigbhjaaGreatDoor
open Go.RowKit
set_option maxHeartbeats 1000000

theorem and_is (gs : List Ag) : fTruth (if true then ((noN (seen gs) : Int) == 0) else decide ((yesN (seen gs) : Int) > 0)) gs = fAnd gs := by
 unfold fAnd
 congr 1
 have h1 := truN_le (got truF (seen gs))
 have e : (noN (seen gs) : Int) = ((got truF (seen gs)).length - truN (got truF (seen gs)) : Nat) := rfl
 show ((noN (seen gs) : Int) == 0) = _
 rw [e]
 by_cases h : truN (got truF (seen gs)) = (got truF (seen gs)).length
 · rw [decide_eq_true h]; simp; omega
 · rw [decide_eq_false h]; simp; omega
theorem or_is (gs : List Ag) : fTruth (if false then ((noN (seen gs) : Int) == 0) else decide ((yesN (seen gs) : Int) > 0)) gs = fOr gs := by
 unfold fOr
 congr 1
 show decide ((yesN (seen gs) : Int) > 0) = _
 have e : (yesN (seen gs) : Int) = (truN (got truF (seen gs)) : Nat) := rfl
 rw [e]
 by_cases h : 0 < truN (got truF (seen gs))
 · rw [decide_eq_true h]; simp; omega
 · rw [decide_eq_false h]; simp; omega

set_option maxRecDepth 100000 in
theorem rcall_and (gs : List Ag) (W : World) (p : Option Addr) (n c : Nat) (hF : Fit W (.slice p n c) gs) :
   Calls Tryz.prog 24 #[.string ⟨#[65, 78, 68]⟩, .slice p n c] W fun e w' => e = .returned (fAnd gs).dat ∧ Ext W w' := by
 have CT : Hid (∀ V, Ext W V → Calls Tryz.prog 38 #[.slice p n c] V fun e w' => ∃ ov, e = .returned (.tuple #[ov, (bad numF (seen gs)).dat]) ∧ w'.ownsRow V.heap.size 2 1 ov (got numF (seen gs)).length ((got numF (seen gs)).flatMap cI) ∧ Ext V w') := fun V e => numbers_any13 gs p n c V (hF.ext e)
 have CX : Hid (∀ V, Ext W V → Calls Tryz.prog 39 #[.string ⟨#[65, 78, 68]⟩, .slice p n c] V fun e w' => e = .returned (fAnd gs).dat ∧ Ext V w') := fun V e => rtruth_any gs _ true rfl _ (and_is gs) p n c V (hF.ext e)
 obtain ⟨q0, q1, q2, q3, hq⟩ := dat4 (fAnd gs)
 rw [hq] at CX ⊢
 rw [dat_eq (bad numF (seen gs))] at CT
 generalize (bad numF (seen gs)).k = zk at *
 generalize (bad numF (seen gs)).n = zn at *
 generalize (bad numF (seen gs)).s = zs' at *
 generalize (bad numF (seen gs)).e = ze at *
 clear hq hF
 go_enter Tryz.func24, Tryz.ntmps24
 go_wp2_with fail
 refine (CT.out _ ((Ext.refl _).alloc _)).mono ?_
 rintro e w1 ⟨ov, rfl, O1, E1⟩
 obtain ⟨pv, cv, rfl, _⟩ := own_form O1
 have X1 : Hid (Ext W w1) := ((Ext.refl _).alloc _).trans E1
 have HB1 : Hid (Blk w1 W.heap.size (.int .i64 0) (.int .i64 0) (.string ⟨#[]⟩) (.int .i64 0)) := blk_top (by simp) E1
 obtain ⟨c0z, ⟨c0_0, c0_1, c0_2, c0_3⟩, c0f0, c0f1, c0f2, c0f3⟩ := HB1.out
 clear E1 O1
 go_wp2_with fail
 refine (CX.out _ (X1.out.alloc _)).mono ?_
 rintro e w2 ⟨rfl, E2⟩
 have X2 : Hid (Ext W w2) := (X1.out.alloc _).trans E2
 have HB2 : Hid (Blk w2 W.heap.size (.int .i64 0) (.int .i64 0) (.string ⟨#[]⟩) (.int .i64 0)) := (HB1.out.al _).ext E2
 clear c0z c0_0 c0_1 c0_2 c0_3 c0f0 c0f1 c0f2 c0f3 E2
 obtain ⟨c0z, ⟨c0_0, c0_1, c0_2, c0_3⟩, c0f0, c0f1, c0f2, c0f3⟩ := HB2.out
 go_wp2_with fail
 exact finB (HB2.out.set _ _ _ _) rfl ((((X2.out.setCell (by simp) _).setCell (by simp) _).setCell (by simp) _).setCell (by simp) _) (fun g0 g1 g2 g3 => by simp [results, Tryz.results24, go_sem, g0, g1, g2, g3]) (fun h => ⟨rfl, h⟩)
set_option maxRecDepth 100000 in
theorem rcall_or (gs : List Ag) (W : World) (p : Option Addr) (n c : Nat) (hF : Fit W (.slice p n c) gs) :
   Calls Tryz.prog 24 #[.string ⟨#[79, 82]⟩, .slice p n c] W fun e w' => e = .returned (fOr gs).dat ∧ Ext W w' := by
 have CT : Hid (∀ V, Ext W V → Calls Tryz.prog 38 #[.slice p n c] V fun e w' => ∃ ov, e = .returned (.tuple #[ov, (bad numF (seen gs)).dat]) ∧ w'.ownsRow V.heap.size 2 1 ov (got numF (seen gs)).length ((got numF (seen gs)).flatMap cI) ∧ Ext V w') := fun V e => numbers_any13 gs p n c V (hF.ext e)
 have CX : Hid (∀ V, Ext W V → Calls Tryz.prog 39 #[.string ⟨#[79, 82]⟩, .slice p n c] V fun e w' => e = .returned (fOr gs).dat ∧ Ext V w') := fun V e => rtruth_any gs _ false rfl _ (or_is gs) p n c V (hF.ext e)
 obtain ⟨q0, q1, q2, q3, hq⟩ := dat4 (fOr gs)
 rw [hq] at CX ⊢
 rw [dat_eq (bad numF (seen gs))] at CT
 generalize (bad numF (seen gs)).k = zk at *
 generalize (bad numF (seen gs)).n = zn at *
 generalize (bad numF (seen gs)).s = zs' at *
 generalize (bad numF (seen gs)).e = ze at *
 clear hq hF
 go_enter Tryz.func24, Tryz.ntmps24
 go_wp2_with fail
 refine (CT.out _ ((Ext.refl _).alloc _)).mono ?_
 rintro e w1 ⟨ov, rfl, O1, E1⟩
 obtain ⟨pv, cv, rfl, _⟩ := own_form O1
 have X1 : Hid (Ext W w1) := ((Ext.refl _).alloc _).trans E1
 have HB1 : Hid (Blk w1 W.heap.size (.int .i64 0) (.int .i64 0) (.string ⟨#[]⟩) (.int .i64 0)) := blk_top (by simp) E1
 obtain ⟨c0z, ⟨c0_0, c0_1, c0_2, c0_3⟩, c0f0, c0f1, c0f2, c0f3⟩ := HB1.out
 clear E1 O1
 go_wp2_with fail
 refine (CX.out _ (X1.out.alloc _)).mono ?_
 rintro e w2 ⟨rfl, E2⟩
 have X2 : Hid (Ext W w2) := (X1.out.alloc _).trans E2
 have HB2 : Hid (Blk w2 W.heap.size (.int .i64 0) (.int .i64 0) (.string ⟨#[]⟩) (.int .i64 0)) := (HB1.out.al _).ext E2
 clear c0z c0_0 c0_1 c0_2 c0_3 c0f0 c0f1 c0f2 c0f3 E2
 obtain ⟨c0z, ⟨c0_0, c0_1, c0_2, c0_3⟩, c0f0, c0f1, c0f2, c0f3⟩ := HB2.out
 go_wp2_with fail
 exact finB (HB2.out.set _ _ _ _) rfl ((((X2.out.setCell (by simp) _).setCell (by simp) _).setCell (by simp) _).setCell (by simp) _) (fun g0 g1 g2 g3 => by simp [results, Tryz.results24, go_sem, g0, g1, g2, g3]) (fun h => ⟨rfl, h⟩)
set_option maxRecDepth 100000 in
theorem rcall_cat (gs : List Ag) (W : World) (p : Option Addr) (n c : Nat) (hF : Fit W (.slice p n c) gs) :
   Calls Tryz.prog 24 #[.string ⟨#[67, 79, 78, 67, 65, 84]⟩, .slice p n c] W fun e w' => e = .returned (fCat gs).dat ∧ Ext W w' := by
 have CT : Hid (∀ V, Ext W V → Calls Tryz.prog 38 #[.slice p n c] V fun e w' => ∃ ov, e = .returned (.tuple #[ov, (bad numF (seen gs)).dat]) ∧ w'.ownsRow V.heap.size 2 1 ov (got numF (seen gs)).length ((got numF (seen gs)).flatMap cI) ∧ Ext V w') := fun V e => numbers_any13 gs p n c V (hF.ext e)
 have CX : Hid (∀ V, Ext W V → Calls Tryz.prog 40 #[.slice p n c] V fun e w' => e = .returned (fCat gs).dat ∧ Ext V w') := fun V e => rconcat_any gs p n c V (hF.ext e)
 obtain ⟨q0, q1, q2, q3, hq⟩ := dat4 (fCat gs)
 rw [hq] at CX ⊢
 rw [dat_eq (bad numF (seen gs))] at CT
 generalize (bad numF (seen gs)).k = zk at *
 generalize (bad numF (seen gs)).n = zn at *
 generalize (bad numF (seen gs)).s = zs' at *
 generalize (bad numF (seen gs)).e = ze at *
 clear hq hF
 go_enter Tryz.func24, Tryz.ntmps24
 go_wp2_with fail
 refine (CT.out _ ((Ext.refl _).alloc _)).mono ?_
 rintro e w1 ⟨ov, rfl, O1, E1⟩
 obtain ⟨pv, cv, rfl, _⟩ := own_form O1
 have X1 : Hid (Ext W w1) := ((Ext.refl _).alloc _).trans E1
 have HB1 : Hid (Blk w1 W.heap.size (.int .i64 0) (.int .i64 0) (.string ⟨#[]⟩) (.int .i64 0)) := blk_top (by simp) E1
 obtain ⟨c0z, ⟨c0_0, c0_1, c0_2, c0_3⟩, c0f0, c0f1, c0f2, c0f3⟩ := HB1.out
 clear E1 O1
 go_wp2_with fail
 refine (CX.out _ (X1.out.alloc _)).mono ?_
 rintro e w2 ⟨rfl, E2⟩
 have X2 : Hid (Ext W w2) := (X1.out.alloc _).trans E2
 have HB2 : Hid (Blk w2 W.heap.size (.int .i64 0) (.int .i64 0) (.string ⟨#[]⟩) (.int .i64 0)) := (HB1.out.al _).ext E2
 clear c0z c0_0 c0_1 c0_2 c0_3 c0f0 c0f1 c0f2 c0f3 E2
 obtain ⟨c0z, ⟨c0_0, c0_1, c0_2, c0_3⟩, c0f0, c0f1, c0f2, c0f3⟩ := HB2.out
 go_wp2_with fail
 exact finB (HB2.out.set _ _ _ _) rfl ((((X2.out.setCell (by simp) _).setCell (by simp) _).setCell (by simp) _).setCell (by simp) _) (fun g0 g1 g2 g3 => by simp [results, Tryz.results24, go_sem, g0, g1, g2, g3]) (fun h => ⟨rfl, h⟩)
end Go.Proofs.YtalejeknigbhjaaGreatDoor
