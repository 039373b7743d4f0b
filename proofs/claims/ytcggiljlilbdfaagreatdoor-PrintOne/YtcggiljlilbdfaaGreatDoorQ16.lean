/-
 The printer writes trees: tree itself: ranges.
-/
import Derived.Test.YtcggiljlilbdfaaGreatDoorQ14
namespace Go.Proofs.YtcggiljlilbdfaaGreatDoor
open Go.RowKit
set_option maxHeartbeats 6000000

set_option maxRecDepth 100000 in
theorem tree_range (n : Nat) (t : T) (hk : t.k = 5) (hW : Wf t) : PTr (n + 1) t := by
 intro w0 W b l pp ln cl hTab hBu hL hlen
 have e0 : (t.k == 0) = false := by rw [hk]; rfl
 have e1 : (t.k == 1) = false := by rw [hk]; rfl
 have e2 : (t.k == 2) = false := by rw [hk]; rfl
 have e3 : (t.k == 3) = false := by rw [hk]; rfl
 have e4 : (t.k == 4) = false := by rw [hk]; rfl
 have e5 : (t.k == 5) = true := by rw [hk]; rfl
 have HX : Hid (shT (n + 1) t = rfL t.r ++ 58 :: rfL t.q) := by show _ = _; unfold shT; simp [hk]
 have HB : Hid (Bu w0 b l W) := hBu
 have HT : Hid (Tab9 w0) := hTab
 have HN : Hid (l.length ≤ 90000000) := by have := szT_pos (n + 1) t; show _ ≤ _; omega
 have HW : Hid (Wf t) := hW
 have c1 := fun W h => cprint_any t.r.1 t.r.2.1 t.r.2.2.1 t.r.2.2.2 (by have := HW.out; cases this; assumption) (by have := HW.out; cases this; assumption) W h
 have HS1 : Hid ((bs (rfL t.r)).size ≤ 8 ∧ (bs (rfL t.r)).data.toList = rfL t.r) := ⟨by rw [bs_size]; exact rfL_len _, rfl⟩
 rw [show (⟨(printR t.r.1 t.r.2.1 t.r.2.2.1 t.r.2.2.2).toArray⟩ : ByteArray) = bs (rfL t.r) from rfl] at c1
 generalize bs (rfL t.r) = q at *
 have c2 := fun W h => cprint_any t.q.1 t.q.2.1 t.q.2.2.1 t.q.2.2.2 (by have := HW.out; cases this; assumption) (by have := HW.out; cases this; assumption) W h
 have HS2 : Hid ((bs (rfL t.q)).size ≤ 8 ∧ (bs (rfL t.q)).data.toList = rfL t.q) := ⟨by rw [bs_size]; exact rfL_len _, rfl⟩
 rw [show (⟨(printR t.q.1 t.q.2.1 t.q.2.2.1 t.q.2.2.2).toArray⟩ : ByteArray) = bs (rfL t.q) from rfl] at c2
 generalize bs (rfL t.q) = q2 at *
 have z1 := HS1.out.1
 have z2 := HS2.out.1
 have s1 : (⟨#[58]⟩ : ByteArray).size = 1 := rfl
 have s2 : (q ++ (⟨#[58]⟩ : ByteArray)).size = q.size + 1 := by rw [ByteArray.size_append, s1]
 have HS : Hid ((q ++ (⟨#[58]⟩ : ByteArray) ++ q2).size ≤ 17 ∧ (q ++ (⟨#[58]⟩ : ByteArray) ++ q2).data.toList = rfL t.r ++ 58 :: rfL t.q) := by
   refine ⟨?_, ?_⟩
   · rw [ByteArray.size_append, s2]; omega
   · rw [app_list, app_list, HS1.out.2, HS2.out.2]; simp
 clear hTab hBu hL hlen hW hk
 go_enter Tryz.func18, Tryz.ntmps18
 go_wp2_with fail
 have HB1 : Hid (Bu w0 b l (W.alloc (.cells #[.int .i64 t.k, .int .i64 t.n, .string (bs t.s), .int .i64 t.e, .int .i64 t.r.1, .int .i64 t.r.2.1, .bool t.r.2.2.1, .bool t.r.2.2.2, .int .i64 t.q.1, .int .i64 t.q.2.1, .bool t.q.2.2.1, .bool t.q.2.2.2, .slice pp ln cl] 29)) ∧ Ext W (W.alloc (.cells #[.int .i64 t.k, .int .i64 t.n, .string (bs t.s), .int .i64 t.e, .int .i64 t.r.1, .int .i64 t.r.2.1, .bool t.r.2.2.1, .bool t.r.2.2.2, .int .i64 t.q.1, .int .i64 t.q.2.1, .bool t.q.2.2.1, .bool t.q.2.2.2, .slice pp ln cl] 29))) := ⟨HB.out.ext ((Ext.refl _).alloc _), (Ext.refl _).alloc _⟩
 obtain ⟨qz, ⟨k0, k1, k2, k3, k4, k5, k6, k7, k8, k9, k10, k11, k12⟩, gz⟩ := blk13_top (b := W.heap.size) rfl (Ext.refl (W.alloc (.cells #[.int .i64 t.k, .int .i64 t.n, .string (bs t.s), .int .i64 t.e, .int .i64 t.r.1, .int .i64 t.r.2.1, .bool t.r.2.2.1, .bool t.r.2.2.2, .int .i64 t.q.1, .int .i64 t.q.2.1, .bool t.q.2.2.1, .bool t.q.2.2.2, .slice pp ln cl] 29)))
 clear gz
 generalize W.alloc (.cells #[.int .i64 t.k, .int .i64 t.n, .string (bs t.s), .int .i64 t.e, .int .i64 t.r.1, .int .i64 t.r.2.1, .bool t.r.2.2.1, .bool t.r.2.2.2, .int .i64 t.q.1, .int .i64 t.q.2.1, .bool t.q.2.2.1, .bool t.q.2.2.2, .slice pp ln cl] 29) = W1 at *
 have C1 : Hid (∀ V, Ext W1 V → Calls Tryz.prog 40 #[.agg #[.int .i64 t.r.1, .int .i64 t.r.2.1, .bool t.r.2.2.1, .bool t.r.2.2.2]] V fun e w' => e = .returned (.string q) ∧ Ext V w') := fun V e => c1 V (HT.out.1.ext (HB1.out.1.1.trans e))
 have C2 : Hid (∀ V, Ext W1 V → Calls Tryz.prog 40 #[.agg #[.int .i64 t.q.1, .int .i64 t.q.2.1, .bool t.q.2.2.1, .bool t.q.2.2.2]] V fun e w' => e = .returned (.string q2) ∧ Ext V w') := fun V e => c2 V (HT.out.1.ext (HB1.out.1.1.trans e))
 have CL : Hid (∀ V, Ext W1 V → V.cell? ⟨W.heap.size, 4, none⟩ = some (.int .i64 t.r.1) ∧ V.cell? ⟨W.heap.size, 5, none⟩ = some (.int .i64 t.r.2.1) ∧ V.cell? ⟨W.heap.size, 6, none⟩ = some (.bool t.r.2.2.1) ∧ V.cell? ⟨W.heap.size, 7, none⟩ = some (.bool t.r.2.2.2) ∧ V.cell? ⟨W.heap.size, 8, none⟩ = some (.int .i64 t.q.1) ∧ V.cell? ⟨W.heap.size, 9, none⟩ = some (.int .i64 t.q.2.1) ∧ V.cell? ⟨W.heap.size, 10, none⟩ = some (.bool t.q.2.2.1) ∧ V.cell? ⟨W.heap.size, 11, none⟩ = some (.bool t.q.2.2.2)) := fun V e => ⟨(e.cell.1 _ _ qz).trans k4, (e.cell.1 _ _ qz).trans k5, (e.cell.1 _ _ qz).trans k6, (e.cell.1 _ _ qz).trans k7, (e.cell.1 _ _ qz).trans k8, (e.cell.1 _ _ qz).trans k9, (e.cell.1 _ _ qz).trans k10, (e.cell.1 _ _ qz).trans k11⟩
 clear c1 c2
 have C9 : Hid (∀ V, Ext W1 V → Calls Tryz.prog 34 #[.pointer (some ⟨b, 0, none⟩), .string (q ++ ⟨#[58]⟩ ++ q2)] V fun e w' => e = .returned (.tuple #[.int .i64 ((q ++ ⟨#[58]⟩ ++ q2)).size, .nilIface]) ∧ Bu w0 b (l ++ shT (n + 1) t) w' ∧ Ok9 b V w') := fun V e => by rw [HX.out, ← HS.out.2]; exact pstr_any w0 b l _ V (HB1.out.1.ext e) (by have := HN.out; omega) (by have := HS.out.1; omega)
 go_region_with (first | (go_at_call_of 40 (Value.int .i64 t.r.1); refine (C1.out _ (by with_reducible repeat (first | assumption | exact Ext.refl _ | apply Ext.drew | apply Ext.drewN))).mono ?_; rintro e w5 ⟨rfl, E5⟩; have X5 : Ext W1 w5 := Ext.trans (by with_reducible repeat (first | assumption | exact Ext.refl _ | apply Ext.drew | apply Ext.drewN)) E5; obtain ⟨y4, y5, y6, y7, y8, y9, y10, y11⟩ := CL.out w5 X5) | (go_at_call_of 40 (Value.int .i64 t.q.1); refine (C2.out _ (by with_reducible repeat (first | assumption | exact Ext.refl _ | apply Ext.drew | apply Ext.drewN))).mono ?_; rintro e w6 ⟨rfl, E6⟩; have X6 : Ext W1 w6 := Ext.trans (by with_reducible repeat (first | assumption | exact Ext.refl _ | apply Ext.drew | apply Ext.drewN)) E6; obtain ⟨v4, v5, v6, v7, v8, v9, v10, v11⟩ := CL.out w6 X6) | (go_at_call 34; refine (C9.out _ (by with_reducible repeat (first | assumption | exact Ext.refl _ | apply Ext.drew | apply Ext.drewN))).mono ?_; rintro e w9 ⟨rfl, B9, K9⟩; have HB9 : Hid (Bu w0 b (l ++ shT (n + 1) t) w9 ∧ Ok9 b W w9) := ⟨B9, (Ok9.trans (HB1.out.2.toK b) (Ext.toK (by with_reducible repeat (first | assumption | exact Ext.refl _ | apply Ext.drew | apply Ext.drewN)) b)).trans K9⟩; clear B9 K9))
 all_goals
   go_wp2_with fail
   go_end0
   exact ⟨rfl, HB9.out.1, HB9.out.2⟩
end Go.Proofs.YtcggiljlilbdfaaGreatDoor
