/-
 The printer writes trees: tree itself.
-/
import Derived.Test.YtcggiljlilbdfaaGreatDoorQ14
namespace Go.Proofs.YtcggiljlilbdfaaGreatDoor
open Go.RowKit
set_option maxHeartbeats 6000000

set_option maxRecDepth 100000 in
theorem tree_num (n : Nat) (t : T) (hk : t.k = 0) (hW : Wf t) : PTr (n + 1) t := by
 intro w0 W b l pp ln cl hTab hBu hL hlen
 have e0 : (t.k == 0) = true := by rw [hk]; rfl
 have HX : Hid (shT (n + 1) t = printL t.n) := by show _ = _; unfold shT; simp [hk]
 have HB : Hid (Bu w0 b l W) := hBu
 have HT : Hid (Tab9 w0) := hTab
 have HN : Hid (l.length ≤ 90000000) := by have := szT_pos (n + 1) t; show _ ≤ _; omega
 have HW : Hid (Wf t) := hW
 have c1 := fun W h => print_any t.n (by have := HW.out; cases this; assumption) W h
 have HS : Hid ((bs (printL t.n)).size ≤ 21 ∧ (bs (printL t.n)).data.toList = printL t.n) := ⟨by rw [bs_size]; exact printL_len t.n (by cases hW; assumption), rfl⟩
 rw [show (⟨(printL t.n).toArray⟩ : ByteArray) = bs (printL t.n) from rfl] at c1
 clear hTab hBu hL hlen hW hk
 generalize bs (printL t.n) = q at *
 go_enter Tryz.func18, Tryz.ntmps18
 go_wp2_with fail
 have HB1 : Hid (Bu w0 b l (W.alloc (.cells #[.int .i64 t.k, .int .i64 t.n, .string (bs t.s), .int .i64 t.e, .int .i64 t.r.1, .int .i64 t.r.2.1, .bool t.r.2.2.1, .bool t.r.2.2.2, .int .i64 t.q.1, .int .i64 t.q.2.1, .bool t.q.2.2.1, .bool t.q.2.2.2, .slice pp ln cl] 29)) ∧ Ext W (W.alloc (.cells #[.int .i64 t.k, .int .i64 t.n, .string (bs t.s), .int .i64 t.e, .int .i64 t.r.1, .int .i64 t.r.2.1, .bool t.r.2.2.1, .bool t.r.2.2.2, .int .i64 t.q.1, .int .i64 t.q.2.1, .bool t.q.2.2.1, .bool t.q.2.2.2, .slice pp ln cl] 29))) := ⟨HB.out.ext ((Ext.refl _).alloc _), (Ext.refl _).alloc _⟩
 obtain ⟨qz, ⟨k0, k1, k2, k3, k4, k5, k6, k7, k8, k9, k10, k11, k12⟩, gz⟩ := blk13_top (b := W.heap.size) rfl (Ext.refl (W.alloc (.cells #[.int .i64 t.k, .int .i64 t.n, .string (bs t.s), .int .i64 t.e, .int .i64 t.r.1, .int .i64 t.r.2.1, .bool t.r.2.2.1, .bool t.r.2.2.2, .int .i64 t.q.1, .int .i64 t.q.2.1, .bool t.q.2.2.1, .bool t.q.2.2.2, .slice pp ln cl] 29)))
 clear qz gz
 generalize W.alloc (.cells #[.int .i64 t.k, .int .i64 t.n, .string (bs t.s), .int .i64 t.e, .int .i64 t.r.1, .int .i64 t.r.2.1, .bool t.r.2.2.1, .bool t.r.2.2.2, .int .i64 t.q.1, .int .i64 t.q.2.1, .bool t.q.2.2.1, .bool t.q.2.2.2, .slice pp ln cl] 29) = W1 at *
 have C1 : Hid (∀ V, Ext W1 V → Calls Tryz.prog 35 #[.int .i64 t.n] V fun e w' => e = .returned (.string q) ∧ Ext V w') := fun V e => c1 V (HT.out.1.ext (HB1.out.1.1.trans e))
 clear c1
 have C9 : Hid (∀ V, Ext W1 V → Calls Tryz.prog 34 #[.pointer (some ⟨b, 0, none⟩), .string q] V fun e w' => e = .returned (.tuple #[.int .i64 (q).size, .nilIface]) ∧ Bu w0 b (l ++ shT (n + 1) t) w' ∧ Ok9 b V w') := fun V e => by rw [HX.out, ← HS.out.2]; exact pstr_any w0 b l _ V (HB1.out.1.ext e) (by have := HN.out; omega) (by have := HS.out.1; omega)
 go_region_with (first | (go_at_call 35; refine (C1.out _ (by with_reducible repeat (first | assumption | exact Ext.refl _ | apply Ext.drew | apply Ext.drewN))).mono ?_; rintro e w5 ⟨rfl, E5⟩; have X5 : Ext W1 w5 := Ext.trans (by with_reducible repeat (first | assumption | exact Ext.refl _ | apply Ext.drew | apply Ext.drewN)) E5) | (go_at_call 34; refine (C9.out _ (by with_reducible repeat (first | assumption | exact Ext.refl _ | apply Ext.drew | apply Ext.drewN))).mono ?_; rintro e w9 ⟨rfl, B9, K9⟩; have HB9 : Hid (Bu w0 b (l ++ shT (n + 1) t) w9 ∧ Ok9 b W w9) := ⟨B9, (Ok9.trans (HB1.out.2.toK b) (Ext.toK (by with_reducible repeat (first | assumption | exact Ext.refl _ | apply Ext.drew | apply Ext.drewN)) b)).trans K9⟩; clear B9 K9))
 all_goals
   go_wp2_with fail
   go_end0
   exact ⟨rfl, HB9.out.1, HB9.out.2⟩
set_option maxRecDepth 100000 in
theorem tree_text (n : Nat) (t : T) (hk : t.k = 1) (hW : Wf t) (hs : t.s.length ≤ 300) : PTr (n + 1) t := by
 intro w0 W b l pp ln cl hTab hBu hL hlen
 have e0 : (t.k == 0) = false := by rw [hk]; rfl
 have e1 : (t.k == 1) = true := by rw [hk]; rfl
 have HX : Hid (shT (n + 1) t = quoL t.s) := by show _ = _; unfold shT; simp [hk]
 have HB : Hid (Bu w0 b l W) := hBu
 have HT : Hid (Tab9 w0) := hTab
 have HN : Hid (l.length ≤ 90000000) := by have := szT_pos (n + 1) t; show _ ≤ _; omega
 have HW : Hid (Wf t) := hW
 have HS0 : Hid ((quoB t.s).length ≤ 600) := by have := quoB_len t.s; show _ ≤ _; omega
 have c1 := fun W h => repl_any (bs t.s) W (by rw [bs_size]; exact hs) h
 rw [show (bs t.s).data.toList = t.s from rfl] at c1
 have HQ : Hid ((bs (quoB t.s)).data.toList = quoB t.s) := rfl
 have hqs : (bs (quoB t.s)).size ≤ 600 := by rw [bs_size]; exact HS0.out
 clear hTab hBu hL hlen hW hk hs
 generalize bs (quoB t.s) = q at *
 have s1 : (⟨#[34]⟩ : ByteArray).size = 1 := rfl
 have s2 : ((⟨#[34]⟩ : ByteArray) ++ q).size = q.size + 1 := by rw [ByteArray.size_append, s1]; omega
 have HS : Hid (((⟨#[34]⟩ : ByteArray) ++ q ++ (⟨#[34]⟩ : ByteArray)).size ≤ 602 ∧ ((⟨#[34]⟩ : ByteArray) ++ q ++ (⟨#[34]⟩ : ByteArray)).data.toList = quoL t.s) := by
   refine ⟨?_, ?_⟩
   · rw [ByteArray.size_append, s2, s1]; omega
   · rw [app_list, app_list, HQ.out]; rfl
 go_enter Tryz.func18, Tryz.ntmps18
 go_wp2_with fail
 have HB1 : Hid (Bu w0 b l (W.alloc (.cells #[.int .i64 t.k, .int .i64 t.n, .string (bs t.s), .int .i64 t.e, .int .i64 t.r.1, .int .i64 t.r.2.1, .bool t.r.2.2.1, .bool t.r.2.2.2, .int .i64 t.q.1, .int .i64 t.q.2.1, .bool t.q.2.2.1, .bool t.q.2.2.2, .slice pp ln cl] 29)) ∧ Ext W (W.alloc (.cells #[.int .i64 t.k, .int .i64 t.n, .string (bs t.s), .int .i64 t.e, .int .i64 t.r.1, .int .i64 t.r.2.1, .bool t.r.2.2.1, .bool t.r.2.2.2, .int .i64 t.q.1, .int .i64 t.q.2.1, .bool t.q.2.2.1, .bool t.q.2.2.2, .slice pp ln cl] 29))) := ⟨HB.out.ext ((Ext.refl _).alloc _), (Ext.refl _).alloc _⟩
 obtain ⟨qz, ⟨k0, k1, k2, k3, k4, k5, k6, k7, k8, k9, k10, k11, k12⟩, gz⟩ := blk13_top (b := W.heap.size) rfl (Ext.refl (W.alloc (.cells #[.int .i64 t.k, .int .i64 t.n, .string (bs t.s), .int .i64 t.e, .int .i64 t.r.1, .int .i64 t.r.2.1, .bool t.r.2.2.1, .bool t.r.2.2.2, .int .i64 t.q.1, .int .i64 t.q.2.1, .bool t.q.2.2.1, .bool t.q.2.2.2, .slice pp ln cl] 29)))
 clear qz gz
 generalize W.alloc (.cells #[.int .i64 t.k, .int .i64 t.n, .string (bs t.s), .int .i64 t.e, .int .i64 t.r.1, .int .i64 t.r.2.1, .bool t.r.2.2.1, .bool t.r.2.2.2, .int .i64 t.q.1, .int .i64 t.q.2.1, .bool t.q.2.2.1, .bool t.q.2.2.2, .slice pp ln cl] 29) = W1 at *
 have C1 : Hid (∀ V, Ext W1 V → Calls Tryz.prog 36 #[.string (bs t.s), .string ⟨#[34]⟩, .string ⟨#[34, 34]⟩] V fun e w' => e = .returned (.string q) ∧ Ext V w') := fun V e => c1 V (HT.out.2.2.ext (HB1.out.1.1.trans e)).2
 clear c1
 have C9 : Hid (∀ V, Ext W1 V → Calls Tryz.prog 34 #[.pointer (some ⟨b, 0, none⟩), .string (⟨#[34]⟩ ++ q ++ ⟨#[34]⟩)] V fun e w' => e = .returned (.tuple #[.int .i64 ((⟨#[34]⟩ ++ q ++ ⟨#[34]⟩)).size, .nilIface]) ∧ Bu w0 b (l ++ shT (n + 1) t) w' ∧ Ok9 b V w') := fun V e => by rw [HX.out, ← HS.out.2]; exact pstr_any w0 b l _ V (HB1.out.1.ext e) (by have := HN.out; omega) (by have := HS.out.1; omega)
 go_region_with (first | (go_at_call 36; refine (C1.out _ (by with_reducible repeat (first | assumption | exact Ext.refl _ | apply Ext.drew | apply Ext.drewN))).mono ?_; rintro e w5 ⟨rfl, E5⟩; have X5 : Ext W1 w5 := Ext.trans (by with_reducible repeat (first | assumption | exact Ext.refl _ | apply Ext.drew | apply Ext.drewN)) E5) | (go_at_call 34; refine (C9.out _ (by with_reducible repeat (first | assumption | exact Ext.refl _ | apply Ext.drew | apply Ext.drewN))).mono ?_; rintro e w9 ⟨rfl, B9, K9⟩; have HB9 : Hid (Bu w0 b (l ++ shT (n + 1) t) w9 ∧ Ok9 b W w9) := ⟨B9, (Ok9.trans (HB1.out.2.toK b) (Ext.toK (by with_reducible repeat (first | assumption | exact Ext.refl _ | apply Ext.drew | apply Ext.drewN)) b)).trans K9⟩; clear B9 K9))
 all_goals
   go_wp2_with fail
   go_end0
   exact ⟨rfl, HB9.out.1, HB9.out.2⟩
set_option maxRecDepth 100000 in
theorem tree_bool (n : Nat) (t : T) (hk : t.k = 2) (hW : Wf t) (hn : t.n = 0 ∨ t.n = 1) : PTr (n + 1) t := by
 intro w0 W b l pp ln cl hTab hBu hL hlen
 have e0 : (t.k == 0) = false := by rw [hk]; rfl
 have e1 : (t.k == 1) = false := by rw [hk]; rfl
 have e2 : (t.k == 2) = true := by rw [hk]; rfl
 have HX : Hid (shT (n + 1) t = tfL (t.n != 0)) := by show _ = _; unfold shT; rcases hn with h | h <;> simp [hk, h, tfL]
 have HB : Hid (Bu w0 b l W) := hBu
 have HT : Hid (Tab9 w0) := hTab
 have HN : Hid (l.length ≤ 90000000) := by have := szT_pos (n + 1) t; show _ ≤ _; omega
 have HW : Hid (Wf t) := hW
 clear hTab hBu hL hlen hW hk hn
 obtain ⟨bb, hbb⟩ : ∃ bb, (t.n != 0) = bb := ⟨_, rfl⟩
 rw [hbb] at HX
 have c1 := fun W => vb9_any bb W
 have c2 := fun W => vs9_any bb W
 have HS : Hid ((bs (tfL bb)).size ≤ 5 ∧ (bs (tfL bb)).data.toList = tfL bb) := by cases bb <;> exact ⟨by decide, rfl⟩
 generalize nB bb = nb at *
 generalize bs (tfL bb) = q at *
 go_enter Tryz.func18, Tryz.ntmps18
 go_wp2_with fail
 have HB1 : Hid (Bu w0 b l (W.alloc (.cells #[.int .i64 t.k, .int .i64 t.n, .string (bs t.s), .int .i64 t.e, .int .i64 t.r.1, .int .i64 t.r.2.1, .bool t.r.2.2.1, .bool t.r.2.2.2, .int .i64 t.q.1, .int .i64 t.q.2.1, .bool t.q.2.2.1, .bool t.q.2.2.2, .slice pp ln cl] 29)) ∧ Ext W (W.alloc (.cells #[.int .i64 t.k, .int .i64 t.n, .string (bs t.s), .int .i64 t.e, .int .i64 t.r.1, .int .i64 t.r.2.1, .bool t.r.2.2.1, .bool t.r.2.2.2, .int .i64 t.q.1, .int .i64 t.q.2.1, .bool t.q.2.2.1, .bool t.q.2.2.2, .slice pp ln cl] 29))) := ⟨HB.out.ext ((Ext.refl _).alloc _), (Ext.refl _).alloc _⟩
 obtain ⟨qz, ⟨k0, k1, k2, k3, k4, k5, k6, k7, k8, k9, k10, k11, k12⟩, gz⟩ := blk13_top (b := W.heap.size) rfl (Ext.refl (W.alloc (.cells #[.int .i64 t.k, .int .i64 t.n, .string (bs t.s), .int .i64 t.e, .int .i64 t.r.1, .int .i64 t.r.2.1, .bool t.r.2.2.1, .bool t.r.2.2.2, .int .i64 t.q.1, .int .i64 t.q.2.1, .bool t.q.2.2.1, .bool t.q.2.2.2, .slice pp ln cl] 29)))
 clear qz gz
 generalize W.alloc (.cells #[.int .i64 t.k, .int .i64 t.n, .string (bs t.s), .int .i64 t.e, .int .i64 t.r.1, .int .i64 t.r.2.1, .bool t.r.2.2.1, .bool t.r.2.2.2, .int .i64 t.q.1, .int .i64 t.q.2.1, .bool t.q.2.2.1, .bool t.q.2.2.2, .slice pp ln cl] 29) = W1 at *
 have C1 : Hid (∀ V, Ext W1 V → Calls Tryz.prog 38 #[.bool bb] V fun e w' => e = .returned (.agg #[.int .i64 1, .int .i64 nb, .string ⟨#[]⟩, .int .i64 0]) ∧ Ext V w') := fun V e => c1 V
 have C2 : Hid (∀ V, Ext W1 V → Calls Tryz.prog 37 #[.agg #[.int .i64 1, .int .i64 nb, .string ⟨#[]⟩, .int .i64 0]] V fun e w' => e = .returned (.string q) ∧ Ext V w') := fun V e => c2 V
 clear c1 c2
 have C9 : Hid (∀ V, Ext W1 V → Calls Tryz.prog 34 #[.pointer (some ⟨b, 0, none⟩), .string q] V fun e w' => e = .returned (.tuple #[.int .i64 (q).size, .nilIface]) ∧ Bu w0 b (l ++ shT (n + 1) t) w' ∧ Ok9 b V w') := fun V e => by rw [HX.out, ← HS.out.2]; exact pstr_any w0 b l _ V (HB1.out.1.ext e) (by have := HN.out; omega) (by have := HS.out.1; omega)
 go_region_with (first | (go_at_call 38; refine (C1.out _ (by with_reducible repeat (first | assumption | exact Ext.refl _ | apply Ext.drew | apply Ext.drewN))).mono ?_; rintro e w5 ⟨rfl, E5⟩; have X5 : Ext W1 w5 := Ext.trans (by with_reducible repeat (first | assumption | exact Ext.refl _ | apply Ext.drew | apply Ext.drewN)) E5) | (go_at_call 37; refine (C2.out _ (by with_reducible repeat (first | assumption | exact Ext.refl _ | apply Ext.drew | apply Ext.drewN))).mono ?_; rintro e w6 ⟨rfl, E6⟩; have X6 : Ext W1 w6 := Ext.trans (by with_reducible repeat (first | assumption | exact Ext.refl _ | apply Ext.drew | apply Ext.drewN)) E6) | (go_at_call 34; refine (C9.out _ (by with_reducible repeat (first | assumption | exact Ext.refl _ | apply Ext.drew | apply Ext.drewN))).mono ?_; rintro e w9 ⟨rfl, B9, K9⟩; have HB9 : Hid (Bu w0 b (l ++ shT (n + 1) t) w9 ∧ Ok9 b W w9) := ⟨B9, (Ok9.trans (HB1.out.2.toK b) (Ext.toK (by with_reducible repeat (first | assumption | exact Ext.refl _ | apply Ext.drew | apply Ext.drewN)) b)).trans K9⟩; clear B9 K9))
 all_goals
   go_wp2_with fail
   go_end0
   exact ⟨rfl, HB9.out.1, HB9.out.2⟩
set_option maxRecDepth 100000 in
theorem tree_err (n : Nat) (t : T) (hk : t.k = 3) (hW : Wf t) (he : 1 ≤ t.e ∧ t.e ≤ 5) : PTr (n + 1) t := by
 intro w0 W b l pp ln cl hTab hBu hL hlen
 have e0 : (t.k == 0) = false := by rw [hk]; rfl
 have e1 : (t.k == 1) = false := by rw [hk]; rfl
 have e2 : (t.k == 2) = false := by rw [hk]; rfl
 have e3 : (t.k == 3) = true := by rw [hk]; rfl
 have HX : Hid (shT (n + 1) t = errL t.e) := by show _ = _; unfold shT; simp [hk]
 have HB : Hid (Bu w0 b l W) := hBu
 have HT : Hid (Tab9 w0) := hTab
 have HN : Hid (l.length ≤ 90000000) := by have := szT_pos (n + 1) t; show _ ≤ _; omega
 have HW : Hid (Wf t) := hW
 have c1 := fun W h => verr9_any t.e he W h
 have HS : Hid ((bs (errL t.e)).size ≤ 7 ∧ (bs (errL t.e)).data.toList = errL t.e) := ⟨by rw [bs_size]; exact errL_len _, rfl⟩
 clear hTab hBu hL hlen hW hk he
 generalize bs (errL t.e) = q at *
 go_enter Tryz.func18, Tryz.ntmps18
 go_wp2_with fail
 have HB1 : Hid (Bu w0 b l (W.alloc (.cells #[.int .i64 t.k, .int .i64 t.n, .string (bs t.s), .int .i64 t.e, .int .i64 t.r.1, .int .i64 t.r.2.1, .bool t.r.2.2.1, .bool t.r.2.2.2, .int .i64 t.q.1, .int .i64 t.q.2.1, .bool t.q.2.2.1, .bool t.q.2.2.2, .slice pp ln cl] 29)) ∧ Ext W (W.alloc (.cells #[.int .i64 t.k, .int .i64 t.n, .string (bs t.s), .int .i64 t.e, .int .i64 t.r.1, .int .i64 t.r.2.1, .bool t.r.2.2.1, .bool t.r.2.2.2, .int .i64 t.q.1, .int .i64 t.q.2.1, .bool t.q.2.2.1, .bool t.q.2.2.2, .slice pp ln cl] 29))) := ⟨HB.out.ext ((Ext.refl _).alloc _), (Ext.refl _).alloc _⟩
 obtain ⟨qz, ⟨k0, k1, k2, k3, k4, k5, k6, k7, k8, k9, k10, k11, k12⟩, gz⟩ := blk13_top (b := W.heap.size) rfl (Ext.refl (W.alloc (.cells #[.int .i64 t.k, .int .i64 t.n, .string (bs t.s), .int .i64 t.e, .int .i64 t.r.1, .int .i64 t.r.2.1, .bool t.r.2.2.1, .bool t.r.2.2.2, .int .i64 t.q.1, .int .i64 t.q.2.1, .bool t.q.2.2.1, .bool t.q.2.2.2, .slice pp ln cl] 29)))
 clear qz gz
 generalize W.alloc (.cells #[.int .i64 t.k, .int .i64 t.n, .string (bs t.s), .int .i64 t.e, .int .i64 t.r.1, .int .i64 t.r.2.1, .bool t.r.2.2.1, .bool t.r.2.2.2, .int .i64 t.q.1, .int .i64 t.q.2.1, .bool t.q.2.2.1, .bool t.q.2.2.2, .slice pp ln cl] 29) = W1 at *
 have C1 : Hid (∀ V, Ext W1 V → Calls Tryz.prog 39 #[.int .i64 t.e] V fun e w' => e = .returned (.string q) ∧ Ext V w') := fun V e => (c1 V (HT.out.2.1.ext (HB1.out.1.1.trans e))).mono (fun e w h => ⟨h.1, by rw [h.2]; exact Ext.refl _⟩)
 clear c1
 have C9 : Hid (∀ V, Ext W1 V → Calls Tryz.prog 34 #[.pointer (some ⟨b, 0, none⟩), .string q] V fun e w' => e = .returned (.tuple #[.int .i64 (q).size, .nilIface]) ∧ Bu w0 b (l ++ shT (n + 1) t) w' ∧ Ok9 b V w') := fun V e => by rw [HX.out, ← HS.out.2]; exact pstr_any w0 b l _ V (HB1.out.1.ext e) (by have := HN.out; omega) (by have := HS.out.1; omega)
 go_region_with (first | (go_at_call 39; refine (C1.out _ (by with_reducible repeat (first | assumption | exact Ext.refl _ | apply Ext.drew | apply Ext.drewN))).mono ?_; rintro e w5 ⟨rfl, E5⟩; have X5 : Ext W1 w5 := Ext.trans (by with_reducible repeat (first | assumption | exact Ext.refl _ | apply Ext.drew | apply Ext.drewN)) E5) | (go_at_call 34; refine (C9.out _ (by with_reducible repeat (first | assumption | exact Ext.refl _ | apply Ext.drew | apply Ext.drewN))).mono ?_; rintro e w9 ⟨rfl, B9, K9⟩; have HB9 : Hid (Bu w0 b (l ++ shT (n + 1) t) w9 ∧ Ok9 b W w9) := ⟨B9, (Ok9.trans (HB1.out.2.toK b) (Ext.toK (by with_reducible repeat (first | assumption | exact Ext.refl _ | apply Ext.drew | apply Ext.drewN)) b)).trans K9⟩; clear B9 K9))
 all_goals
   go_wp2_with fail
   go_end0
   exact ⟨rfl, HB9.out.1, HB9.out.2⟩
set_option maxRecDepth 100000 in
theorem tree_ref (n : Nat) (t : T) (hk : t.k = 4) (hW : Wf t) : PTr (n + 1) t := by
 intro w0 W b l pp ln cl hTab hBu hL hlen
 have e0 : (t.k == 0) = false := by rw [hk]; rfl
 have e1 : (t.k == 1) = false := by rw [hk]; rfl
 have e2 : (t.k == 2) = false := by rw [hk]; rfl
 have e3 : (t.k == 3) = false := by rw [hk]; rfl
 have e4 : (t.k == 4) = true := by rw [hk]; rfl
 have HX : Hid (shT (n + 1) t = rfL t.r) := by show _ = _; unfold shT; simp [hk]
 have HB : Hid (Bu w0 b l W) := hBu
 have HT : Hid (Tab9 w0) := hTab
 have HN : Hid (l.length ≤ 90000000) := by have := szT_pos (n + 1) t; show _ ≤ _; omega
 have HW : Hid (Wf t) := hW
 have c1 := fun W h => cprint_any t.r.1 t.r.2.1 t.r.2.2.1 t.r.2.2.2 (by have := HW.out; cases this; assumption) (by have := HW.out; cases this; assumption) W h
 have HS : Hid ((bs (rfL t.r)).size ≤ 8 ∧ (bs (rfL t.r)).data.toList = rfL t.r) := ⟨by rw [bs_size]; exact rfL_len _, rfl⟩
 rw [show (⟨(printR t.r.1 t.r.2.1 t.r.2.2.1 t.r.2.2.2).toArray⟩ : ByteArray) = bs (rfL t.r) from rfl] at c1
 generalize bs (rfL t.r) = q at *
 clear hTab hBu hL hlen hW hk
 go_enter Tryz.func18, Tryz.ntmps18
 go_wp2_with fail
 have HB1 : Hid (Bu w0 b l (W.alloc (.cells #[.int .i64 t.k, .int .i64 t.n, .string (bs t.s), .int .i64 t.e, .int .i64 t.r.1, .int .i64 t.r.2.1, .bool t.r.2.2.1, .bool t.r.2.2.2, .int .i64 t.q.1, .int .i64 t.q.2.1, .bool t.q.2.2.1, .bool t.q.2.2.2, .slice pp ln cl] 29)) ∧ Ext W (W.alloc (.cells #[.int .i64 t.k, .int .i64 t.n, .string (bs t.s), .int .i64 t.e, .int .i64 t.r.1, .int .i64 t.r.2.1, .bool t.r.2.2.1, .bool t.r.2.2.2, .int .i64 t.q.1, .int .i64 t.q.2.1, .bool t.q.2.2.1, .bool t.q.2.2.2, .slice pp ln cl] 29))) := ⟨HB.out.ext ((Ext.refl _).alloc _), (Ext.refl _).alloc _⟩
 obtain ⟨qz, ⟨k0, k1, k2, k3, k4, k5, k6, k7, k8, k9, k10, k11, k12⟩, gz⟩ := blk13_top (b := W.heap.size) rfl (Ext.refl (W.alloc (.cells #[.int .i64 t.k, .int .i64 t.n, .string (bs t.s), .int .i64 t.e, .int .i64 t.r.1, .int .i64 t.r.2.1, .bool t.r.2.2.1, .bool t.r.2.2.2, .int .i64 t.q.1, .int .i64 t.q.2.1, .bool t.q.2.2.1, .bool t.q.2.2.2, .slice pp ln cl] 29)))
 clear qz gz
 generalize W.alloc (.cells #[.int .i64 t.k, .int .i64 t.n, .string (bs t.s), .int .i64 t.e, .int .i64 t.r.1, .int .i64 t.r.2.1, .bool t.r.2.2.1, .bool t.r.2.2.2, .int .i64 t.q.1, .int .i64 t.q.2.1, .bool t.q.2.2.1, .bool t.q.2.2.2, .slice pp ln cl] 29) = W1 at *
 have C1 : Hid (∀ V, Ext W1 V → Calls Tryz.prog 40 #[.agg #[.int .i64 t.r.1, .int .i64 t.r.2.1, .bool t.r.2.2.1, .bool t.r.2.2.2]] V fun e w' => e = .returned (.string q) ∧ Ext V w') := fun V e => c1 V (HT.out.1.ext (HB1.out.1.1.trans e))
 clear c1
 have C9 : Hid (∀ V, Ext W1 V → Calls Tryz.prog 34 #[.pointer (some ⟨b, 0, none⟩), .string q] V fun e w' => e = .returned (.tuple #[.int .i64 (q).size, .nilIface]) ∧ Bu w0 b (l ++ shT (n + 1) t) w' ∧ Ok9 b V w') := fun V e => by rw [HX.out, ← HS.out.2]; exact pstr_any w0 b l _ V (HB1.out.1.ext e) (by have := HN.out; omega) (by have := HS.out.1; omega)
 go_region_with (first | (go_at_call 40; refine (C1.out _ (by with_reducible repeat (first | assumption | exact Ext.refl _ | apply Ext.drew | apply Ext.drewN))).mono ?_; rintro e w5 ⟨rfl, E5⟩; have X5 : Ext W1 w5 := Ext.trans (by with_reducible repeat (first | assumption | exact Ext.refl _ | apply Ext.drew | apply Ext.drewN)) E5) | (go_at_call 34; refine (C9.out _ (by with_reducible repeat (first | assumption | exact Ext.refl _ | apply Ext.drew | apply Ext.drewN))).mono ?_; rintro e w9 ⟨rfl, B9, K9⟩; have HB9 : Hid (Bu w0 b (l ++ shT (n + 1) t) w9 ∧ Ok9 b W w9) := ⟨B9, (Ok9.trans (HB1.out.2.toK b) (Ext.toK (by with_reducible repeat (first | assumption | exact Ext.refl _ | apply Ext.drew | apply Ext.drewN)) b)).trans K9⟩; clear B9 K9))
 all_goals
   go_wp2_with fail
   go_end0
   exact ⟨rfl, HB9.out.1, HB9.out.2⟩
end Go.Proofs.YtcggiljlilbdfaaGreatDoor
