/-
  The contracts of package value's Arith, whatever the operator, and of the statements' look whether anything lives.
-/
import Derived.Test.YtdmiddpfgmbbhaaGreatDoorValF
namespace Go.Proofs.YtdmiddpfgmbbhaaGreatDoor
open Go.RowKit
set_option maxHeartbeats 1000000

theorem opB_cases (op : Int) (h : opB op = true) : op = 43 ∨ op = 45 ∨ op = 42 ∨ op = 47 := by
  unfold opB at h
  simp at h
  omega
theorem arith_yes (op : Int) (h : opB op = true) (ka na : Int) (sa : ByteArray) (ea kb nb : Int) (sb : ByteArray) (eb : Int) (w : World) (hna : I64 na) (hnb : I64 nb) (hN : Nm w) :
    Calls Tryz.prog 4 #[.int .u8 op, .agg #[.int .i64 ka, .int .i64 na, .string sa, .int .i64 ea], .agg #[.int .i64 kb, .int .i64 nb, .string sb, .int .i64 eb]] w fun r w' =>
      r = .returned (arith op (nm ka na sa ea) (nm kb nb sb eb)).dat ∧ Ext w w' := by
  unfold arith
  rw [if_pos h]
  rcases opB_cases op h with rfl | rfl | rfl | rfl
  · exact arith_told 43 ka na sa ea kb nb sb eb w hna hnb hN operator_add
  · exact arith_told 45 ka na sa ea kb nb sb eb w hna hnb hN operator_sub
  · exact arith_told 42 ka na sa ea kb nb sb eb w hna hnb hN operator_mul
  · exact arith_div 47 ka na sa ea kb nb sb eb w hna hnb hN operator_div
set_option maxRecDepth 100000 in
theorem arith_no (op : Int) (h : opB op = false) (ka na : Int) (sa : ByteArray) (ea kb nb : Int) (sb : ByteArray) (eb : Int) (w : World) (hN : Nm w) :
    Calls Tryz.prog 4 #[.int .u8 op, .agg #[.int .i64 ka, .int .i64 na, .string sa, .int .i64 ea], .agg #[.int .i64 kb, .int .i64 nb, .string sb, .int .i64 eb]] w fun r w' =>
      r = .returned (arith op (nm ka na sa ea) (nm kb nb sb eb)).dat ∧ Ext w w' := by
  have H : Hid (arith op (nm ka na sa ea) (nm kb nb sb eb) = .err 2) := by show arith _ _ _ = _; unfold arith; rw [h]; rfl
  have c1 := fun W => operator_no op W h
  have c2 := fun W h => err_any 2 W h
  have e0 := fun W => eq_nil2 W
  rw [mkErr_is ⟨by decide, by decide⟩] at c2
  simp only [V.dat] at c2
  generalize arith op (nm ka na sa ea) (nm kb nb sb eb) = J at *
  clear h
  go_enter Tryz.func4, Tryz.ntmps4
  go_wp2_with fail
  refine (c1 _).mono ?_
  rintro r w1 ⟨rfl, rfl⟩
  go_wp2_with fail
  refine (c2 _ (hN.ext ((((Ext.refl _).alloc _).alloc _).alloc _))).mono ?_
  rintro r w2 ⟨rfl, E2⟩
  have R2 := blk_top (b := w.heap.size + 1 + 1) (by simp) E2
  have X2 : Ext w w2 := Ext.trans ((((Ext.refl _).alloc _).alloc _).alloc _) E2
  have R3 := R2
  obtain ⟨rz, ⟨r0, r1, r2, r3⟩, rf0, rf1, rf2, rf3⟩ := R3
  go_wp2_with fail
  exact finB (R2.set _ _ _ _) rfl ((((X2.setCell (by simp; omega) _).setCell (by simp; omega) _).setCell (by simp; omega) _).setCell (by simp; omega) _) (fun g0 g1 g2 g3 => by simp [results, Tryz.results4, go_sem, g0, g1, g2, g3]) (fun h => ⟨by rw [H.out]; rfl, h⟩)
theorem arith_any (op : Int) (ka na : Int) (sa : ByteArray) (ea kb nb : Int) (sb : ByteArray) (eb : Int) (w : World) (hna : I64 na) (hnb : I64 nb) (hN : Nm w) :
    Calls Tryz.prog 4 #[.int .u8 op, .agg #[.int .i64 ka, .int .i64 na, .string sa, .int .i64 ea], .agg #[.int .i64 kb, .int .i64 nb, .string sb, .int .i64 eb]] w fun r w' =>
      r = .returned (arith op (nm ka na sa ea) (nm kb nb sb eb)).dat ∧ Ext w w' := by
  cases h : opB op
  · exact arith_no op h ka na sa ea kb nb sb eb w hN
  · exact arith_yes op h ka na sa ea kb nb sb eb w hna hnb hN

theorem live_1 : arith 47 (nm 2 10000 ⟨#[]⟩ 0) (nm 1 0 ⟨#[]⟩ 0) = .err 3 := rfl
theorem live_2 : (nm 3 0 ⟨#[49, 46, 53]⟩ 0).toNum = .num 15000 := by
  have h1 : rdK [49, 46, 53] = 1 := by decide
  have h2 : rdV [49, 46, 53] = 15000 := by decide
  show readV ⟨#[49, 46, 53]⟩ = _
  unfold readV
  rw [show (⟨#[49, 46, 53]⟩ : ByteArray).data.toList = [49, 46, 53] from rfl, h1, h2]
  rfl
theorem lives_v (w : World) (hN : Nm w) : Calls Tryz.prog 10 #[] w fun r w' => r = .returned (.bool true) ∧ Ext w w' := by
  have c1 := fun W h => vnum_any 10000 W h
  have c2 := fun W => vbool_any false W
  have c3 := fun W h => arith_any 47 2 10000 ⟨#[]⟩ 0 1 0 ⟨#[]⟩ 0 W ⟨by decide, by decide⟩ ⟨by decide, by decide⟩ h
  have c4 := fun W h => err_any 3 W h
  have c5 := fun W h => vtext_any ⟨#[49, 46, 53]⟩ W h
  have c6 := fun W h => vtonum_any 3 0 ⟨#[49, 46, 53]⟩ 0 W ⟨by decide, by decide⟩ h
  have c7 := fun W h => vnum_any 15000 W h
  have c8 := fun W h => errname_any 3 W h
  rw [mkNum_is (by decide)] at c1 c7
  rw [live_1] at c3
  rw [mkErr_is ⟨by decide, by decide⟩] at c4
  rw [mkText_is (by decide)] at c5
  rw [live_2] at c6
  rw [show bs (errName 3) = ⟨#[35, 68, 73, 86, 47, 48, 33]⟩ from rfl] at c8
  simp only [V.dat, Bool.false_eq_true, if_false] at c1 c2 c3 c4 c5 c6 c7
  go_enter Tryz.func10, Tryz.ntmps10
  go_wp2_with fail
  refine (c1 _ (hN.ext (Ext.refl _))).mono ?_
  rintro r w1 ⟨rfl, E1⟩
  have X1 : Ext w w1 := E1
  go_wp2_with fail
  refine (c2 _).mono ?_
  rintro r w2 ⟨rfl, E2⟩
  have X2 : Ext w w2 := X1.trans E2
  clear E2 X1
  go_wp2_with fail
  refine (c3 _ (hN.ext X2)).mono ?_
  rintro r w3 ⟨rfl, E3⟩
  have X3 : Ext w w3 := X2.trans E3
  clear E3 X2
  go_wp2_with fail
  refine (c4 _ (hN.ext X3)).mono ?_
  rintro r w4 ⟨rfl, E4⟩
  have X4 : Ext w w4 := X3.trans E4
  clear E4 X3
  go_wp2_with fail
  refine (c5 _ (hN.ext X4)).mono ?_
  rintro r w5 ⟨rfl, E5⟩
  have X5 : Ext w w5 := X4.trans E5
  clear E5 X4
  go_wp2_with fail
  refine (c6 _ (hN.ext X5)).mono ?_
  rintro r w6 ⟨rfl, E6⟩
  have X6 : Ext w w6 := X5.trans E6
  clear E6 X5
  go_wp2_with fail
  refine (c7 _ (hN.ext X6)).mono ?_
  rintro r w7 ⟨rfl, E7⟩
  have X7 : Ext w w7 := X6.trans E7
  clear E7 X6
  go_wp2_with fail
  refine (c8 _ (hN.ext X7)).mono ?_
  rintro r w8 ⟨rfl, rfl⟩
  go_wp2_with fail
  go_ret
  exact ⟨ret_bool rfl, X7⟩
end Go.Proofs.YtdmiddpfgmbbhaaGreatDoor
