/-
 ColumnJoins is proved: whatever the two columns, column.Join and column.Same answer as the document's words do. Its condition: the listed variables lie as the program's text lays them (the card ties them).
-/
import Derived.Test.YteaoeichgibgiaaDoorX9
import Derived.Test.YteaoeichgibgiaaDoorX11
import Derived.Test.YteaoeichgibgiaaDoorCards
import Derived.Test.YteaoeichgibgiaaDoorTie
import Derived.ChangeMaps5
import Derived.Lib.SmallJoins
namespace Go.Proofs.YteaoeichgibgiaaDoor.columnJoins
open Go.ChangeShapes Go.WideShapes Go.ChangeAt Go.RowKit
open Go.Joins
set_option maxHeartbeats 4000000

set_option maxRecDepth 100000 in
theorem walk (a0 b0 : Value) (N0 E0 : List Int) (a1 b1 : Value) (N1 E1 : List Int) (w : World) (ra0 : RdI w a0 N0) (rb0 : RdI w b0 E0) (sa0 : N0.length * 8 ≤ reachBytes) (sb0 : E0.length * 8 ≤ reachBytes) (ra1 : RdI w a1 N1) (rb1 : RdI w b1 E1) (sa1 : N1.length * 8 ≤ reachBytes) (sb1 : E1.length * 8 ≤ reachBytes) (hN : Nm w) :
   Calls Tryd.prog 6 #[.agg #[a0, b0], .agg #[a1, b1]] w fun e w' => e = .returned (.bool true) ∧ Ext w w' := by
 unfold reachBytes at sa0 sb0 sa1 sb1
 have cO0 := fun W (e : Ext w W) => own19_any W a0 b0 N0 E0 (ra0.ext e) (rb0.ext e) (by omega) (by omega)
 have cO1 := fun W (e : Ext w W) => own19_any W a1 b1 N1 E1 (ra1.ext e) (rb1.ext e) (by omega) (by omega)
 have cJ := fun W a b c d (e : Ext w W) ha hb hc hd => vjoin_all W a b c d N0 E0 N1 E1 (hN.ext e) ha hb hc hd
 obtain ⟨JN, hJN⟩ : ∃ L, jCol N0 N1 N0 E0 N1 E1 = L := ⟨_, rfl⟩
 obtain ⟨JE, hJE⟩ : ∃ L, jCol E0 E1 N0 E0 N1 E1 = L := ⟨_, rfl⟩
 obtain ⟨er, her⟩ : ∃ L, jErr N0 E0 N1 E1 = L := ⟨_, rfl⟩
 obtain ⟨la, hla⟩ : ∃ L, JN.length = L := ⟨_, rfl⟩
 obtain ⟨lb, hlb⟩ : ∃ L, JE.length = L := ⟨_, rfl⟩
 rw [hJN, hJE, her] at cJ
 have HJ : Hid (jCol N0 N1 N0 E0 N1 E1 = JN ∧ jCol E0 E1 N0 E0 N1 E1 = JE ∧ jErr N0 E0 N1 E1 = er ∧ JN.length = la ∧ JE.length = lb) := ⟨hJN, hJE, her, hla, hlb⟩
 clear hJN hJE her hla hlb
 have cK0 := fun W (e : Ext w W) => rccan_any W a0 b0 N0 E0 (ra0.ext e) (rb0.ext e)
 have cK1 := fun W (e : Ext w W) => rccan_any W a1 b1 N1 E1 (ra1.ext e) (rb1.ext e)
 have cL := fun W (e : Ext w W) => lives19_any W (hN.ext e)
 obtain ⟨p0, c0, rfl, hz⟩ := ra0.form
 clear hz
 obtain ⟨q0, d0, rfl, hz⟩ := rb0.form
 clear hz
 obtain ⟨p1, c1, rfl, hz⟩ := ra1.form
 clear hz
 obtain ⟨q1, d1, rfl, hz⟩ := rb1.form
 clear hz
 obtain ⟨n0, e1⟩ : ∃ n, N0.length = n := ⟨_, rfl⟩
 obtain ⟨m0, e2⟩ : ∃ n, E0.length = n := ⟨_, rfl⟩
 obtain ⟨n1, e3⟩ : ∃ n, N1.length = n := ⟨_, rfl⟩
 obtain ⟨m1, e4⟩ : ∃ n, E1.length = n := ⟨_, rfl⟩
 rw [e1] at ra0 cO0 cK0 sa0
 rw [e2] at rb0 cO0 cK0 sb0
 rw [e3] at ra1 cO1 cK1 sa1
 rw [e4] at rb1 cO1 cK1 sb1
 rw [e1, e2, e3, e4]
 have HL : Hid (N0.length = n0 ∧ E0.length = m0 ∧ N1.length = n1 ∧ E1.length = m1) := ⟨e1, e2, e3, e4⟩
 have HZ : Hid (n0 * 8 ≤ 140737488351232 ∧ m0 * 8 ≤ 140737488351232 ∧ n1 * 8 ≤ 140737488351232 ∧ m1 * 8 ≤ 140737488351232) := ⟨sa0, sb0, sa1, sb1⟩
 have RA0 : Hid (RdI w (.slice p0 n0 c0) N0) := ra0
 have RB0 : Hid (RdI w (.slice q0 m0 d0) E0) := rb0
 have RA1 : Hid (RdI w (.slice p1 n1 c1) N1) := ra1
 have RB1 : Hid (RdI w (.slice q1 m1 d1) E1) := rb1
 clear ra0 rb0 ra1 rb1 sa0 sb0 sa1 sb1 e1 e2 e3 e4 hN
 obtain ⟨W1, hW⟩ : ∃ W1, (w.alloc (.cells #[.slice p0 n0 c0, .slice q0 m0 d0] 26)).alloc (.cells #[.slice p1 n1 c1, .slice q1 m1 d1] 26) = W1 := ⟨_, rfl⟩
 have HW : Hid ((w.alloc (.cells #[.slice p0 n0 c0, .slice q0 m0 d0] 26)).alloc (.cells #[.slice p1 n1 c1, .slice q1 m1 d1] 26) = W1) := hW
 have HX : Hid (Ext w W1) := by rw [← hW]; exact ((Ext.refl _).alloc _).alloc _
 have V0 : Hid (VB W1 w.heap.size (.slice p0 n0 c0) (.slice q0 m0 d0)) := by rw [← hW]; exact vb_top rfl ((Ext.refl _).alloc _)
 have V1 : Hid (VB W1 (w.heap.size + 1) (.slice p1 n1 c1) (.slice q1 m1 d1)) := by rw [← hW]; exact vb_top (by simp) (Ext.refl _)
 have HS : Hid (∀ V, Ext W1 V → V.cell? ⟨w.heap.size, 0, none⟩ = some (.slice p0 n0 c0) ∧ V.cell? ⟨w.heap.size, 1, none⟩ = some (.slice q0 m0 d0) ∧ V.cell? ⟨w.heap.size + 1, 0, none⟩ = some (.slice p1 n1 c1) ∧ V.cell? ⟨w.heap.size + 1, 1, none⟩ = some (.slice q1 m1 d1)) := fun V e => ⟨(V0.out.ext e).blk.2.1.1, (V0.out.ext e).blk.2.1.2, (V1.out.ext e).blk.2.1.1, (V1.out.ext e).blk.2.1.2⟩
 clear hW
 go_enter Tryd.func6, Tryd.ntmps6
 go_upto_region 1 with fail
 rw [HW.out]
 go_cut [5, 6] (fun x5 x6 wx => ∃ g u v, x5 = .pointer (some ⟨g, 0, none⟩) ∧ x6 = .int .i64 er ∧ Ext W1 wx ∧ W1.heap.size ≤ g ∧ VB wx g u v ∧ VecO w.heap.size wx u v JN JE)
 case first =>
   have XC : Ext W1 W1.drew := (Ext.refl _).drew
   refine wp_region_held_drew (S := fun V => V.cell? ⟨w.heap.size, 0, none⟩ = some (.slice p0 n0 c0) ∧ V.cell? ⟨w.heap.size, 1, none⟩ = some (.slice q0 m0 d0) ∧ V.cell? ⟨w.heap.size + 1, 0, none⟩ = some (.slice p1 n1 c1) ∧ V.cell? ⟨w.heap.size + 1, 1, none⟩ = some (.slice q1 m1 d1)) (by kernel_rfl) ?_ (fun hHeld0 => ?_)
   · first | exact HS.out _ XC | exact HS.out _ XS
   refine wpAnyH_take (i := 0) (oi := ⟨some 9, .load 26 (.tmp 2), 26, "law.go:74", #[], none⟩) (v := ?_) rfl (by kernel_rfl) (by kernel_rfl) (by kernel_rfl) (fun _ _ _ h => h) (Or.inl ⟨by rfl, ?_⟩) (by assumption) ?_
   rotate_left
   · intro w hSw; (try dsimp only at hSw); first | (go_simp; done) | (go_simp; with_reducible rfl)
   try simp only [Act.put, List.setIfInBounds_toArray, List.set_cons_zero, List.set_cons_succ]
   refine wpAnyH_take (i := 2) (oi := ⟨some 11, .load 26 (.tmp 3), 26, "law.go:74", #[], none⟩) (v := ?_) rfl (by kernel_rfl) (by kernel_rfl) (by kernel_rfl) (fun _ _ _ h => h) (Or.inl ⟨by rfl, ?_⟩) (by assumption) ?_
   rotate_left
   · intro w hSw; (try dsimp only at hSw); first | (go_simp; done) | (go_simp; with_reducible rfl)
   try simp only [Act.put, List.setIfInBounds_toArray, List.set_cons_zero, List.set_cons_succ]
   refine wpAnyH_ready (rs := [1, 8]) (by kernel_rfl) (by simp) ?_
   refine AllReadyH.cons (o := ⟨some 10, .call { callee := .value (.func 14), args := #[.tmp 9], argTypes := #[26] }, 26, "law.go:74", #[⟨0, .data⟩], none⟩) rfl (fun K hK => ?_) (AllReadyH.cons (o := ⟨some 5, .alloc 26, 0, "law.go:74", #[], none⟩) rfl (fun K hK => ?_) AllReadyH.nil)
   · go_simp
     have XO := XC; refine (cO0 _ (HX.out.trans XC)).mono ?_; rintro r1 w1 ⟨u1, v1, rfl, O1, Y1⟩; have XC := XC.trans Y1
     try go_wp2_with fail
     refine hK.out _ _ ?_ (fun hHeld1 => ?_)
     · (try dsimp only); first | exact HS.out _ XC | exact HS.out _ XS
     clear hK K hHeld0
     try simp only [Act.put, List.setIfInBounds_toArray, List.set_cons_zero, List.set_cons_succ]
     refine wpAnyH_ready (rs := [3, 8]) (by kernel_rfl) (by simp) ?_
     refine AllReadyH.cons (o := ⟨some 12, .call { callee := .value (.func 14), args := #[.tmp 11], argTypes := #[26] }, 26, "law.go:74", #[⟨2, .data⟩, ⟨1, .chain⟩], none⟩) rfl (fun K hK => ?_) (AllReadyH.cons (o := ⟨some 5, .alloc 26, 0, "law.go:74", #[], none⟩) rfl (fun K hK => ?_) AllReadyH.nil)
     · go_simp
       have XO := XC; refine (cO1 _ (HX.out.trans XC)).mono ?_; rintro r3 w3 ⟨u3, v3, rfl, O3, Y3⟩; have XC := XC.trans Y3; have O1 := VecO.ext O1 Y3
       try go_wp2_with fail
       refine hK.out _ _ ?_ (fun hHeld2 => ?_)
       · (try dsimp only); first | exact HS.out _ XC | exact HS.out _ XS
       clear hK K hHeld1
       try simp only [Act.put, List.setIfInBounds_toArray, List.set_cons_zero, List.set_cons_succ]
       refine wpAnyH_ready (rs := [4, 8]) (by kernel_rfl) (by simp) ?_
       refine AllReadyH.cons (o := ⟨some 13, .call { callee := .value (.func 18), args := #[.tmp 10, .tmp 12], argTypes := #[26, 26] }, 40, "law.go:74", #[⟨1, .data⟩, ⟨3, .data⟩, ⟨3, .chain⟩], none⟩) rfl (fun K hK => ?_) (AllReadyH.cons (o := ⟨some 5, .alloc 26, 0, "law.go:74", #[], none⟩) rfl (fun K hK => ?_) AllReadyH.nil)
       · go_simp
         have XO := XC; refine (cJ _ _ _ _ _ (HX.out.trans XC) O1.z1 O1.z2 O3.rd1 O3.rd2).mono ?_; rintro r4 w4 ⟨u4, v4, rfl, O4, Y4⟩; have XC := XC.trans Y4; have O4 := VecO.low O4 (Nat.le_trans HX.out.size XO.size); obtain ⟨p4, c4, hu4, hz4⟩ := own_form O4.1; obtain ⟨q4, d4, hv4, hz5⟩ := own_form O4.2; rw [HJ.out.2.2.2.1] at hu4; rw [HJ.out.2.2.2.2] at hv4; subst hu4 hv4; clear O1 O3 hz4 hz5
         try go_wp2_with fail
         refine hK.out _ _ ?_ (fun hHeld3 => ?_)
         · (try dsimp only); first | exact HS.out _ XC | exact HS.out _ XS
         clear hK K hHeld2
         try simp only [Act.put, List.setIfInBounds_toArray, List.set_cons_zero, List.set_cons_succ]
         refine wpAnyH_take (i := 5) (oi := ⟨some 8, .move (.tmp 13), 40, "law.go:74", #[⟨4, .data⟩], none⟩) (v := ?_) rfl (by kernel_rfl) (by kernel_rfl) (by kernel_rfl) (fun _ _ _ h => h) (Or.inl ⟨by rfl, ?_⟩) (by assumption) ?_
         rotate_left
         · intro w hSw; (try dsimp only at hSw); first | (go_simp; done) | (go_simp; with_reducible rfl)
         try simp only [Act.put, List.setIfInBounds_toArray, List.set_cons_zero, List.set_cons_succ]
         refine wpAnyH_take (i := 6) (oi := ⟨some 14, .extract (.tmp 8) 0, 26, "law.go:74", #[⟨5, .data⟩], none⟩) (v := ?_) rfl (by kernel_rfl) (by kernel_rfl) (by kernel_rfl) (fun _ _ _ h => h) (Or.inl ⟨by rfl, ?_⟩) (by assumption) ?_
         rotate_left
         · intro w hSw; (try dsimp only at hSw); first | (go_simp; done) | (go_simp; with_reducible rfl)
         try simp only [Act.put, List.setIfInBounds_toArray, List.set_cons_zero, List.set_cons_succ]
         refine wpAnyH_take (i := 7) (oi := ⟨some 15, .extract (.tmp 8) 1, 39, "law.go:74", #[⟨5, .data⟩, { on := 9, ground := Ground.gcOnly Departure.lateStores }], none⟩) (v := ?_) rfl (by kernel_rfl) (by kernel_rfl) (by kernel_rfl) (fun _ _ _ h => h) (Or.inl ⟨by rfl, ?_⟩) (by assumption) ?_
         rotate_left
         · intro w hSw; (try dsimp only at hSw); first | (go_simp; done) | (go_simp; with_reducible rfl)
         try simp only [Act.put, List.setIfInBounds_toArray, List.set_cons_zero, List.set_cons_succ]
         refine wpAnyH_ready (rs := [8]) (by kernel_rfl) (by simp) ?_
         refine AllReadyH.cons (o := ⟨some 5, .alloc 26, 0, "law.go:74", #[], none⟩) rfl (fun K hK => ?_) AllReadyH.nil
         go_simp
         have hg8 : W1.heap.size ≤ (w4).heap.size := XC.size; have T8 : VB ((w4).alloc (.cells #[.slice none 0 0, .slice none 0 0] 26)) (w4).heap.size (.slice none 0 0) (.slice none 0 0) := vb_top rfl (Ext.refl _); have Y8 : Ext (w4) ((w4).alloc (.cells #[.slice none 0 0, .slice none 0 0] 26)) := (Ext.refl _).alloc _; have XC := Ext.trans XC Y8; have O4 := VecO.ext O4 Y8; (try rw [show W1.drew.heap.size = W1.heap.size from rfl] at *); generalize (w4).alloc (.cells #[.slice none 0 0, .slice none 0 0] 26) = wz at *; generalize (w4).heap.size = g8 at *; obtain ⟨_, ⟨t0, t1⟩, tf0, tf1⟩ := T8.blk
         try go_wp2_with fail
         refine hK.out _ _ ?_ (fun hHeld4 => ?_)
         · (try dsimp only); first | exact HS.out _ XC | exact HS.out _ XS
         clear hK K hHeld3
         try simp only [Act.put, List.setIfInBounds_toArray, List.set_cons_zero, List.set_cons_succ]
         refine wpAnyH_ready (rs := [9]) (by kernel_rfl) (by simp) ?_
         refine AllReadyH.cons (o := ⟨none, .store 26 (.tmp 5) (.tmp 14), 0, "law.go:74", #[⟨8, .data⟩, ⟨6, .data⟩, ⟨4, .chain⟩, ⟨0, .phase⟩, ⟨1, .phase⟩, ⟨2, .phase⟩, ⟨3, .phase⟩, ⟨4, .phase⟩, ⟨5, .phase⟩, ⟨6, .phase⟩, { on := 7, ground := Ground.textOnly Departure.lateStores }, ⟨8, .phase⟩], none⟩) rfl (fun K hK => ?_) AllReadyH.nil
         go_simp
         have XS := (XC.setCell (p := ⟨g8, 0, none⟩) hg8 (.slice p4 la c4)).setCell (p := ⟨g8, 1, none⟩) hg8 (.slice q4 lb d4)
         try go_wp2_with fail
         refine hK.out _ _ ?_ (fun hHeld5 => ?_)
         · (try dsimp only); first | exact HS.out _ XC | exact HS.out _ XS
         clear hK K hHeld4
         try simp only [Act.put, List.setIfInBounds_toArray, List.set_cons_zero, List.set_cons_succ]
         refine wpAnyH_take (i := 10) (oi := ⟨some 6, .assign (.tmp 15), 39, "law.go:74", #[⟨7, .data⟩, ⟨9, .chain⟩, ⟨0, .phase⟩, ⟨1, .phase⟩, ⟨2, .phase⟩, ⟨3, .phase⟩, ⟨4, .phase⟩, ⟨5, .phase⟩, ⟨6, .phase⟩, ⟨7, .phase⟩, ⟨8, .phase⟩, ⟨9, .phase⟩], none⟩) (v := ?_) rfl (by kernel_rfl) (by kernel_rfl) (by kernel_rfl) (fun _ _ _ h => h) (Or.inl ⟨by rfl, ?_⟩) (by assumption) ?_
         rotate_left
         · intro w hSw; (try dsimp only at hSw); first | (go_simp; done) | (go_simp; with_reducible rfl)
         try simp only [Act.put, List.setIfInBounds_toArray, List.set_cons_zero, List.set_cons_succ]
         refine wpAnyH_done (by kernel_rfl) ?_ _
         have L9 : VB ((wz.setCell ⟨g8, 0, none⟩ (.slice p4 la c4)).setCell ⟨g8, 1, none⟩ (.slice q4 lb d4)) g8 (.slice p4 la c4) (.slice q4 lb d4) := T8.set _ _
         have O9 : VecO w.heap.size ((wz.setCell ⟨g8, 0, none⟩ (.slice p4 la c4)).setCell ⟨g8, 1, none⟩ (.slice q4 lb d4)) (.slice p4 la c4) (.slice q4 lb d4) JN JE := ⟨own_vb O4.1 T8 vec_T.1 _ _, own_vb O4.2 T8 vec_T.2 _ _⟩
         go_wp2_with fail
         go_meet
         case rel => exact ⟨g8, _, _, rfl, rfl, XS, hg8, L9, O9⟩
       · go_simp
         have hg8 : W1.heap.size ≤ (w3).heap.size := XC.size; have T8 : VB ((w3).alloc (.cells #[.slice none 0 0, .slice none 0 0] 26)) (w3).heap.size (.slice none 0 0) (.slice none 0 0) := vb_top rfl (Ext.refl _); have Y8 : Ext (w3) ((w3).alloc (.cells #[.slice none 0 0, .slice none 0 0] 26)) := (Ext.refl _).alloc _; have XC := Ext.trans XC Y8; have O1 := VecO.ext O1 Y8; have O3 := VecO.ext O3 Y8; (try rw [show W1.drew.heap.size = W1.heap.size from rfl] at *); generalize (w3).alloc (.cells #[.slice none 0 0, .slice none 0 0] 26) = wa at *; generalize (w3).heap.size = g8 at *
         try go_wp2_with fail
         refine hK.out _ _ ?_ (fun hHeld3 => ?_)
         · (try dsimp only); first | exact HS.out _ XC | exact HS.out _ XS
         clear hK K hHeld2
         try simp only [Act.put, List.setIfInBounds_toArray, List.set_cons_zero, List.set_cons_succ]
         refine wpAnyH_ready (rs := [4]) (by kernel_rfl) (by simp) ?_
         refine AllReadyH.cons (o := ⟨some 13, .call { callee := .value (.func 18), args := #[.tmp 10, .tmp 12], argTypes := #[26, 26] }, 40, "law.go:74", #[⟨1, .data⟩, ⟨3, .data⟩, ⟨3, .chain⟩], none⟩) rfl (fun K hK => ?_) AllReadyH.nil
         go_simp
         have XO := XC; refine (cJ _ _ _ _ _ (HX.out.trans XC) O1.z1 O1.z2 O3.rd1 O3.rd2).mono ?_; rintro r4 wz ⟨u4, v4, rfl, O4, Y4⟩; have XC := XC.trans Y4; have T8 := VB.ext T8 Y4; have O4 := VecO.low O4 (Nat.le_trans HX.out.size XO.size); obtain ⟨p4, c4, hu4, hz4⟩ := own_form O4.1; obtain ⟨q4, d4, hv4, hz5⟩ := own_form O4.2; rw [HJ.out.2.2.2.1] at hu4; rw [HJ.out.2.2.2.2] at hv4; subst hu4 hv4; clear O1 O3 hz4 hz5; obtain ⟨_, ⟨t0, t1⟩, tf0, tf1⟩ := T8.blk
         try go_wp2_with fail
         refine hK.out _ _ ?_ (fun hHeld4 => ?_)
         · (try dsimp only); first | exact HS.out _ XC | exact HS.out _ XS
         clear hK K hHeld3
         try simp only [Act.put, List.setIfInBounds_toArray, List.set_cons_zero, List.set_cons_succ]
         refine wpAnyH_take (i := 5) (oi := ⟨some 8, .move (.tmp 13), 40, "law.go:74", #[⟨4, .data⟩], none⟩) (v := ?_) rfl (by kernel_rfl) (by kernel_rfl) (by kernel_rfl) (fun _ _ _ h => h) (Or.inl ⟨by rfl, ?_⟩) (by assumption) ?_
         rotate_left
         · intro w hSw; (try dsimp only at hSw); first | (go_simp; done) | (go_simp; with_reducible rfl)
         try simp only [Act.put, List.setIfInBounds_toArray, List.set_cons_zero, List.set_cons_succ]
         refine wpAnyH_take (i := 6) (oi := ⟨some 14, .extract (.tmp 8) 0, 26, "law.go:74", #[⟨5, .data⟩], none⟩) (v := ?_) rfl (by kernel_rfl) (by kernel_rfl) (by kernel_rfl) (fun _ _ _ h => h) (Or.inl ⟨by rfl, ?_⟩) (by assumption) ?_
         rotate_left
         · intro w hSw; (try dsimp only at hSw); first | (go_simp; done) | (go_simp; with_reducible rfl)
         try simp only [Act.put, List.setIfInBounds_toArray, List.set_cons_zero, List.set_cons_succ]
         refine wpAnyH_take (i := 7) (oi := ⟨some 15, .extract (.tmp 8) 1, 39, "law.go:74", #[⟨5, .data⟩, { on := 9, ground := Ground.gcOnly Departure.lateStores }], none⟩) (v := ?_) rfl (by kernel_rfl) (by kernel_rfl) (by kernel_rfl) (fun _ _ _ h => h) (Or.inl ⟨by rfl, ?_⟩) (by assumption) ?_
         rotate_left
         · intro w hSw; (try dsimp only at hSw); first | (go_simp; done) | (go_simp; with_reducible rfl)
         try simp only [Act.put, List.setIfInBounds_toArray, List.set_cons_zero, List.set_cons_succ]
         refine wpAnyH_ready (rs := [9]) (by kernel_rfl) (by simp) ?_
         refine AllReadyH.cons (o := ⟨none, .store 26 (.tmp 5) (.tmp 14), 0, "law.go:74", #[⟨8, .data⟩, ⟨6, .data⟩, ⟨4, .chain⟩, ⟨0, .phase⟩, ⟨1, .phase⟩, ⟨2, .phase⟩, ⟨3, .phase⟩, ⟨4, .phase⟩, ⟨5, .phase⟩, ⟨6, .phase⟩, { on := 7, ground := Ground.textOnly Departure.lateStores }, ⟨8, .phase⟩], none⟩) rfl (fun K hK => ?_) AllReadyH.nil
         go_simp
         have XS := (XC.setCell (p := ⟨g8, 0, none⟩) hg8 (.slice p4 la c4)).setCell (p := ⟨g8, 1, none⟩) hg8 (.slice q4 lb d4)
         try go_wp2_with fail
         refine hK.out _ _ ?_ (fun hHeld5 => ?_)
         · (try dsimp only); first | exact HS.out _ XC | exact HS.out _ XS
         clear hK K hHeld4
         try simp only [Act.put, List.setIfInBounds_toArray, List.set_cons_zero, List.set_cons_succ]
         refine wpAnyH_take (i := 10) (oi := ⟨some 6, .assign (.tmp 15), 39, "law.go:74", #[⟨7, .data⟩, ⟨9, .chain⟩, ⟨0, .phase⟩, ⟨1, .phase⟩, ⟨2, .phase⟩, ⟨3, .phase⟩, ⟨4, .phase⟩, ⟨5, .phase⟩, ⟨6, .phase⟩, ⟨7, .phase⟩, ⟨8, .phase⟩, ⟨9, .phase⟩], none⟩) (v := ?_) rfl (by kernel_rfl) (by kernel_rfl) (by kernel_rfl) (fun _ _ _ h => h) (Or.inl ⟨by rfl, ?_⟩) (by assumption) ?_
         rotate_left
         · intro w hSw; (try dsimp only at hSw); first | (go_simp; done) | (go_simp; with_reducible rfl)
         try simp only [Act.put, List.setIfInBounds_toArray, List.set_cons_zero, List.set_cons_succ]
         refine wpAnyH_done (by kernel_rfl) ?_ _
         have L9 : VB ((wz.setCell ⟨g8, 0, none⟩ (.slice p4 la c4)).setCell ⟨g8, 1, none⟩ (.slice q4 lb d4)) g8 (.slice p4 la c4) (.slice q4 lb d4) := T8.set _ _
         have O9 : VecO w.heap.size ((wz.setCell ⟨g8, 0, none⟩ (.slice p4 la c4)).setCell ⟨g8, 1, none⟩ (.slice q4 lb d4)) (.slice p4 la c4) (.slice q4 lb d4) JN JE := ⟨own_vb O4.1 T8 vec_T.1 _ _, own_vb O4.2 T8 vec_T.2 _ _⟩
         go_wp2_with fail
         go_meet
         case rel => exact ⟨g8, _, _, rfl, rfl, XS, hg8, L9, O9⟩
     · go_simp
       have hg8 : W1.heap.size ≤ (w1).heap.size := XC.size; have T8 : VB ((w1).alloc (.cells #[.slice none 0 0, .slice none 0 0] 26)) (w1).heap.size (.slice none 0 0) (.slice none 0 0) := vb_top rfl (Ext.refl _); have Y8 : Ext (w1) ((w1).alloc (.cells #[.slice none 0 0, .slice none 0 0] 26)) := (Ext.refl _).alloc _; have XC := Ext.trans XC Y8; have O1 := VecO.ext O1 Y8; (try rw [show W1.drew.heap.size = W1.heap.size from rfl] at *); generalize (w1).alloc (.cells #[.slice none 0 0, .slice none 0 0] 26) = wa at *; generalize (w1).heap.size = g8 at *
       try go_wp2_with fail
       refine hK.out _ _ ?_ (fun hHeld2 => ?_)
       · (try dsimp only); first | exact HS.out _ XC | exact HS.out _ XS
       clear hK K hHeld1
       try simp only [Act.put, List.setIfInBounds_toArray, List.set_cons_zero, List.set_cons_succ]
       refine wpAnyH_ready (rs := [3]) (by kernel_rfl) (by simp) ?_
       refine AllReadyH.cons (o := ⟨some 12, .call { callee := .value (.func 14), args := #[.tmp 11], argTypes := #[26] }, 26, "law.go:74", #[⟨2, .data⟩, ⟨1, .chain⟩], none⟩) rfl (fun K hK => ?_) AllReadyH.nil
       go_simp
       have XO := XC; refine (cO1 _ (HX.out.trans XC)).mono ?_; rintro r3 w3 ⟨u3, v3, rfl, O3, Y3⟩; have XC := XC.trans Y3; have O1 := VecO.ext O1 Y3; have T8 := VB.ext T8 Y3
       try go_wp2_with fail
       refine hK.out _ _ ?_ (fun hHeld3 => ?_)
       · (try dsimp only); first | exact HS.out _ XC | exact HS.out _ XS
       clear hK K hHeld2
       try simp only [Act.put, List.setIfInBounds_toArray, List.set_cons_zero, List.set_cons_succ]
       refine wpAnyH_ready (rs := [4]) (by kernel_rfl) (by simp) ?_
       refine AllReadyH.cons (o := ⟨some 13, .call { callee := .value (.func 18), args := #[.tmp 10, .tmp 12], argTypes := #[26, 26] }, 40, "law.go:74", #[⟨1, .data⟩, ⟨3, .data⟩, ⟨3, .chain⟩], none⟩) rfl (fun K hK => ?_) AllReadyH.nil
       go_simp
       have XO := XC; refine (cJ _ _ _ _ _ (HX.out.trans XC) O1.z1 O1.z2 O3.rd1 O3.rd2).mono ?_; rintro r4 wz ⟨u4, v4, rfl, O4, Y4⟩; have XC := XC.trans Y4; have T8 := VB.ext T8 Y4; have O4 := VecO.low O4 (Nat.le_trans HX.out.size XO.size); obtain ⟨p4, c4, hu4, hz4⟩ := own_form O4.1; obtain ⟨q4, d4, hv4, hz5⟩ := own_form O4.2; rw [HJ.out.2.2.2.1] at hu4; rw [HJ.out.2.2.2.2] at hv4; subst hu4 hv4; clear O1 O3 hz4 hz5; obtain ⟨_, ⟨t0, t1⟩, tf0, tf1⟩ := T8.blk
       try go_wp2_with fail
       refine hK.out _ _ ?_ (fun hHeld4 => ?_)
       · (try dsimp only); first | exact HS.out _ XC | exact HS.out _ XS
       clear hK K hHeld3
       try simp only [Act.put, List.setIfInBounds_toArray, List.set_cons_zero, List.set_cons_succ]
       refine wpAnyH_take (i := 5) (oi := ⟨some 8, .move (.tmp 13), 40, "law.go:74", #[⟨4, .data⟩], none⟩) (v := ?_) rfl (by kernel_rfl) (by kernel_rfl) (by kernel_rfl) (fun _ _ _ h => h) (Or.inl ⟨by rfl, ?_⟩) (by assumption) ?_
       rotate_left
       · intro w hSw; (try dsimp only at hSw); first | (go_simp; done) | (go_simp; with_reducible rfl)
       try simp only [Act.put, List.setIfInBounds_toArray, List.set_cons_zero, List.set_cons_succ]
       refine wpAnyH_take (i := 6) (oi := ⟨some 14, .extract (.tmp 8) 0, 26, "law.go:74", #[⟨5, .data⟩], none⟩) (v := ?_) rfl (by kernel_rfl) (by kernel_rfl) (by kernel_rfl) (fun _ _ _ h => h) (Or.inl ⟨by rfl, ?_⟩) (by assumption) ?_
       rotate_left
       · intro w hSw; (try dsimp only at hSw); first | (go_simp; done) | (go_simp; with_reducible rfl)
       try simp only [Act.put, List.setIfInBounds_toArray, List.set_cons_zero, List.set_cons_succ]
       refine wpAnyH_take (i := 7) (oi := ⟨some 15, .extract (.tmp 8) 1, 39, "law.go:74", #[⟨5, .data⟩, { on := 9, ground := Ground.gcOnly Departure.lateStores }], none⟩) (v := ?_) rfl (by kernel_rfl) (by kernel_rfl) (by kernel_rfl) (fun _ _ _ h => h) (Or.inl ⟨by rfl, ?_⟩) (by assumption) ?_
       rotate_left
       · intro w hSw; (try dsimp only at hSw); first | (go_simp; done) | (go_simp; with_reducible rfl)
       try simp only [Act.put, List.setIfInBounds_toArray, List.set_cons_zero, List.set_cons_succ]
       refine wpAnyH_ready (rs := [9]) (by kernel_rfl) (by simp) ?_
       refine AllReadyH.cons (o := ⟨none, .store 26 (.tmp 5) (.tmp 14), 0, "law.go:74", #[⟨8, .data⟩, ⟨6, .data⟩, ⟨4, .chain⟩, ⟨0, .phase⟩, ⟨1, .phase⟩, ⟨2, .phase⟩, ⟨3, .phase⟩, ⟨4, .phase⟩, ⟨5, .phase⟩, ⟨6, .phase⟩, { on := 7, ground := Ground.textOnly Departure.lateStores }, ⟨8, .phase⟩], none⟩) rfl (fun K hK => ?_) AllReadyH.nil
       go_simp
       have XS := (XC.setCell (p := ⟨g8, 0, none⟩) hg8 (.slice p4 la c4)).setCell (p := ⟨g8, 1, none⟩) hg8 (.slice q4 lb d4)
       try go_wp2_with fail
       refine hK.out _ _ ?_ (fun hHeld5 => ?_)
       · (try dsimp only); first | exact HS.out _ XC | exact HS.out _ XS
       clear hK K hHeld4
       try simp only [Act.put, List.setIfInBounds_toArray, List.set_cons_zero, List.set_cons_succ]
       refine wpAnyH_take (i := 10) (oi := ⟨some 6, .assign (.tmp 15), 39, "law.go:74", #[⟨7, .data⟩, ⟨9, .chain⟩, ⟨0, .phase⟩, ⟨1, .phase⟩, ⟨2, .phase⟩, ⟨3, .phase⟩, ⟨4, .phase⟩, ⟨5, .phase⟩, ⟨6, .phase⟩, ⟨7, .phase⟩, ⟨8, .phase⟩, ⟨9, .phase⟩], none⟩) (v := ?_) rfl (by kernel_rfl) (by kernel_rfl) (by kernel_rfl) (fun _ _ _ h => h) (Or.inl ⟨by rfl, ?_⟩) (by assumption) ?_
       rotate_left
       · intro w hSw; (try dsimp only at hSw); first | (go_simp; done) | (go_simp; with_reducible rfl)
       try simp only [Act.put, List.setIfInBounds_toArray, List.set_cons_zero, List.set_cons_succ]
       refine wpAnyH_done (by kernel_rfl) ?_ _
       have L9 : VB ((wz.setCell ⟨g8, 0, none⟩ (.slice p4 la c4)).setCell ⟨g8, 1, none⟩ (.slice q4 lb d4)) g8 (.slice p4 la c4) (.slice q4 lb d4) := T8.set _ _
       have O9 : VecO w.heap.size ((wz.setCell ⟨g8, 0, none⟩ (.slice p4 la c4)).setCell ⟨g8, 1, none⟩ (.slice q4 lb d4)) (.slice p4 la c4) (.slice q4 lb d4) JN JE := ⟨own_vb O4.1 T8 vec_T.1 _ _, own_vb O4.2 T8 vec_T.2 _ _⟩
       go_wp2_with fail
       go_meet
       case rel => exact ⟨g8, _, _, rfl, rfl, XS, hg8, L9, O9⟩
   · go_simp
     have hg8 : W1.heap.size ≤ W1.heap.size := Nat.le_refl _; have T8 : VB ((W1.alloc (.cells #[.slice none 0 0, .slice none 0 0] 26)).drew) W1.heap.size (.slice none 0 0) (.slice none 0 0) := vb_top rfl (Ext.refl _).drew; have XC : Ext W1 ((W1.alloc (.cells #[.slice none 0 0, .slice none 0 0] 26)).drew) := ((Ext.refl _).alloc _).drew; generalize (W1.alloc (.cells #[.slice none 0 0, .slice none 0 0] 26)).drew = wa at *; obtain ⟨g8, hgg⟩ : ∃ g, W1.heap.size = g := ⟨_, rfl⟩; replace hg8 : W1.heap.size ≤ g8 := Nat.le_of_eq hgg; rw [hgg] at T8; rw [hgg]; clear hgg
     try go_wp2_with fail
     refine hK.out _ _ ?_ (fun hHeld1 => ?_)
     · (try dsimp only); first | exact HS.out _ XC | exact HS.out _ XS
     clear hK K hHeld0
     try simp only [Act.put, List.setIfInBounds_toArray, List.set_cons_zero, List.set_cons_succ]
     refine wpAnyH_ready (rs := [1]) (by kernel_rfl) (by simp) ?_
     refine AllReadyH.cons (o := ⟨some 10, .call { callee := .value (.func 14), args := #[.tmp 9], argTypes := #[26] }, 26, "law.go:74", #[⟨0, .data⟩], none⟩) rfl (fun K hK => ?_) AllReadyH.nil
     go_simp
     have XO := XC; refine (cO0 _ (HX.out.trans XC)).mono ?_; rintro r1 w1 ⟨u1, v1, rfl, O1, Y1⟩; have XC := XC.trans Y1; have T8 := VB.ext T8 Y1
     try go_wp2_with fail
     refine hK.out _ _ ?_ (fun hHeld2 => ?_)
     · (try dsimp only); first | exact HS.out _ XC | exact HS.out _ XS
     clear hK K hHeld1
     try simp only [Act.put, List.setIfInBounds_toArray, List.set_cons_zero, List.set_cons_succ]
     refine wpAnyH_ready (rs := [3]) (by kernel_rfl) (by simp) ?_
     refine AllReadyH.cons (o := ⟨some 12, .call { callee := .value (.func 14), args := #[.tmp 11], argTypes := #[26] }, 26, "law.go:74", #[⟨2, .data⟩, ⟨1, .chain⟩], none⟩) rfl (fun K hK => ?_) AllReadyH.nil
     go_simp
     have XO := XC; refine (cO1 _ (HX.out.trans XC)).mono ?_; rintro r3 w3 ⟨u3, v3, rfl, O3, Y3⟩; have XC := XC.trans Y3; have O1 := VecO.ext O1 Y3; have T8 := VB.ext T8 Y3
     try go_wp2_with fail
     refine hK.out _ _ ?_ (fun hHeld3 => ?_)
     · (try dsimp only); first | exact HS.out _ XC | exact HS.out _ XS
     clear hK K hHeld2
     try simp only [Act.put, List.setIfInBounds_toArray, List.set_cons_zero, List.set_cons_succ]
     refine wpAnyH_ready (rs := [4]) (by kernel_rfl) (by simp) ?_
     refine AllReadyH.cons (o := ⟨some 13, .call { callee := .value (.func 18), args := #[.tmp 10, .tmp 12], argTypes := #[26, 26] }, 40, "law.go:74", #[⟨1, .data⟩, ⟨3, .data⟩, ⟨3, .chain⟩], none⟩) rfl (fun K hK => ?_) AllReadyH.nil
     go_simp
     have XO := XC; refine (cJ _ _ _ _ _ (HX.out.trans XC) O1.z1 O1.z2 O3.rd1 O3.rd2).mono ?_; rintro r4 wz ⟨u4, v4, rfl, O4, Y4⟩; have XC := XC.trans Y4; have T8 := VB.ext T8 Y4; have O4 := VecO.low O4 (Nat.le_trans HX.out.size XO.size); obtain ⟨p4, c4, hu4, hz4⟩ := own_form O4.1; obtain ⟨q4, d4, hv4, hz5⟩ := own_form O4.2; rw [HJ.out.2.2.2.1] at hu4; rw [HJ.out.2.2.2.2] at hv4; subst hu4 hv4; clear O1 O3 hz4 hz5; obtain ⟨_, ⟨t0, t1⟩, tf0, tf1⟩ := T8.blk
     try go_wp2_with fail
     refine hK.out _ _ ?_ (fun hHeld4 => ?_)
     · (try dsimp only); first | exact HS.out _ XC | exact HS.out _ XS
     clear hK K hHeld3
     try simp only [Act.put, List.setIfInBounds_toArray, List.set_cons_zero, List.set_cons_succ]
     refine wpAnyH_take (i := 5) (oi := ⟨some 8, .move (.tmp 13), 40, "law.go:74", #[⟨4, .data⟩], none⟩) (v := ?_) rfl (by kernel_rfl) (by kernel_rfl) (by kernel_rfl) (fun _ _ _ h => h) (Or.inl ⟨by rfl, ?_⟩) (by assumption) ?_
     rotate_left
     · intro w hSw; (try dsimp only at hSw); first | (go_simp; done) | (go_simp; with_reducible rfl)
     try simp only [Act.put, List.setIfInBounds_toArray, List.set_cons_zero, List.set_cons_succ]
     refine wpAnyH_take (i := 6) (oi := ⟨some 14, .extract (.tmp 8) 0, 26, "law.go:74", #[⟨5, .data⟩], none⟩) (v := ?_) rfl (by kernel_rfl) (by kernel_rfl) (by kernel_rfl) (fun _ _ _ h => h) (Or.inl ⟨by rfl, ?_⟩) (by assumption) ?_
     rotate_left
     · intro w hSw; (try dsimp only at hSw); first | (go_simp; done) | (go_simp; with_reducible rfl)
     try simp only [Act.put, List.setIfInBounds_toArray, List.set_cons_zero, List.set_cons_succ]
     refine wpAnyH_take (i := 7) (oi := ⟨some 15, .extract (.tmp 8) 1, 39, "law.go:74", #[⟨5, .data⟩, { on := 9, ground := Ground.gcOnly Departure.lateStores }], none⟩) (v := ?_) rfl (by kernel_rfl) (by kernel_rfl) (by kernel_rfl) (fun _ _ _ h => h) (Or.inl ⟨by rfl, ?_⟩) (by assumption) ?_
     rotate_left
     · intro w hSw; (try dsimp only at hSw); first | (go_simp; done) | (go_simp; with_reducible rfl)
     try simp only [Act.put, List.setIfInBounds_toArray, List.set_cons_zero, List.set_cons_succ]
     refine wpAnyH_ready (rs := [9]) (by kernel_rfl) (by simp) ?_
     refine AllReadyH.cons (o := ⟨none, .store 26 (.tmp 5) (.tmp 14), 0, "law.go:74", #[⟨8, .data⟩, ⟨6, .data⟩, ⟨4, .chain⟩, ⟨0, .phase⟩, ⟨1, .phase⟩, ⟨2, .phase⟩, ⟨3, .phase⟩, ⟨4, .phase⟩, ⟨5, .phase⟩, ⟨6, .phase⟩, { on := 7, ground := Ground.textOnly Departure.lateStores }, ⟨8, .phase⟩], none⟩) rfl (fun K hK => ?_) AllReadyH.nil
     go_simp
     have XS := (XC.setCell (p := ⟨g8, 0, none⟩) hg8 (.slice p4 la c4)).setCell (p := ⟨g8, 1, none⟩) hg8 (.slice q4 lb d4)
     try go_wp2_with fail
     refine hK.out _ _ ?_ (fun hHeld5 => ?_)
     · (try dsimp only); first | exact HS.out _ XC | exact HS.out _ XS
     clear hK K hHeld4
     try simp only [Act.put, List.setIfInBounds_toArray, List.set_cons_zero, List.set_cons_succ]
     refine wpAnyH_take (i := 10) (oi := ⟨some 6, .assign (.tmp 15), 39, "law.go:74", #[⟨7, .data⟩, ⟨9, .chain⟩, ⟨0, .phase⟩, ⟨1, .phase⟩, ⟨2, .phase⟩, ⟨3, .phase⟩, ⟨4, .phase⟩, ⟨5, .phase⟩, ⟨6, .phase⟩, ⟨7, .phase⟩, ⟨8, .phase⟩, ⟨9, .phase⟩], none⟩) (v := ?_) rfl (by kernel_rfl) (by kernel_rfl) (by kernel_rfl) (fun _ _ _ h => h) (Or.inl ⟨by rfl, ?_⟩) (by assumption) ?_
     rotate_left
     · intro w hSw; (try dsimp only at hSw); first | (go_simp; done) | (go_simp; with_reducible rfl)
     try simp only [Act.put, List.setIfInBounds_toArray, List.set_cons_zero, List.set_cons_succ]
     refine wpAnyH_done (by kernel_rfl) ?_ _
     have L9 : VB ((wz.setCell ⟨g8, 0, none⟩ (.slice p4 la c4)).setCell ⟨g8, 1, none⟩ (.slice q4 lb d4)) g8 (.slice p4 la c4) (.slice q4 lb d4) := T8.set _ _
     have O9 : VecO w.heap.size ((wz.setCell ⟨g8, 0, none⟩ (.slice p4 la c4)).setCell ⟨g8, 1, none⟩ (.slice q4 lb d4)) (.slice p4 la c4) (.slice q4 lb d4) JN JE := ⟨own_vb O4.1 T8 vec_T.1 _ _, own_vb O4.2 T8 vec_T.2 _ _⟩
     go_wp2_with fail
     go_meet
     case rel => exact ⟨g8, _, _, rfl, rfl, XS, hg8, L9, O9⟩
 case rest =>
   obtain ⟨g, u, v, rfl, rfl, hX, hg, hV, hO⟩ := hcut
   obtain ⟨p4, c4, hu4, hz4⟩ := own_form hO.1
   obtain ⟨q4, d4, hv4, hz5⟩ := own_form hO.2
   rw [HJ.out.2.2.2.1] at hu4
   rw [HJ.out.2.2.2.2] at hv4
   subst hu4 hv4
   have XC0 : Hid (Ext W1 wc) := hX
   have VC : Hid (VB wc g (.slice p4 la c4) (.slice q4 lb d4)) := hV
   have OC : Hid (VecO w.heap.size wc (.slice p4 la c4) (.slice q4 lb d4) JN JE) := hO
   clear hX hg hV hO hz4 hz5
   have cS := fun W (e : Ext w W) u1 v1 u3 v3 B1 B3 (h1 : VecO B1 W u1 v1 N0 E0) (h3 : VecO B3 W u3 v3 N1 E1) => csame_any W u1 v1 u3 v3 N0 E0 N1 E1 h1.rd1 h1.rd2 h3.rd1 h3.rd2 (by have := HL.out; have := HZ.out; unfold maxLen; omega) (by have := HL.out; have := HZ.out; unfold maxLen; omega)
   have cR := fun W (e : Ext w W) => rcsame_any W (.slice p0 n0 c0) (.slice q0 m0 d0) (.slice p1 n1 c1) (.slice q1 m1 d1) N0 E0 N1 E1 (RA0.out.ext e) (RB0.out.ext e) (RA1.out.ext e) (RB1.out.ext e) (by have := HL.out; have := HZ.out; unfold maxLen; omega) (by have := HL.out; have := HZ.out; unfold maxLen; omega)
   have cT := fun W (e : Ext w W) u1 v1 B1 (h1 : VecO B1 W u1 v1 N0 E0) => csame_any W (.slice p0 n0 c0) (.slice q0 m0 d0) u1 v1 N0 E0 N0 E0 (RA0.out.ext e) (RB0.out.ext e) h1.rd1 h1.rd2 (by have := HL.out; have := HZ.out; unfold maxLen; omega) (by have := HL.out; have := HZ.out; unfold maxLen; omega)
   rw [show (decide (N0 = N0) && decide (E0 = E0)) = true by simp] at cT
   generalize (decide (N0 = N1) && decide (E0 = E1)) = sb at cS cR
   go_upto_region 2 with fail
   go_cut [31] (fun x wx => x = .bool false ∧ Ext wc wx)
   case first =>
     have XC : Ext W1 wc.drew := XC0.out.drew
     have YC : Ext wc wc.drew := (Ext.refl _).drew
     refine wp_region_held_drew (S := fun V => V.cell? ⟨w.heap.size, 0, none⟩ = some (.slice p0 n0 c0) ∧ V.cell? ⟨w.heap.size, 1, none⟩ = some (.slice q0 m0 d0) ∧ V.cell? ⟨w.heap.size + 1, 0, none⟩ = some (.slice p1 n1 c1) ∧ V.cell? ⟨w.heap.size + 1, 1, none⟩ = some (.slice q1 m1 d1)) (by kernel_rfl) ?_ (fun hHeld0 => ?_)
     · exact HS.out _ XC
     refine wpAnyH_take (i := 0) (oi := ⟨some 16, .load 26 (.tmp 2), 26, "law.go:75", #[], none⟩) (v := ?_) rfl (by kernel_rfl) (by kernel_rfl) (by kernel_rfl) (fun _ _ _ h => h) (Or.inl ⟨by rfl, ?_⟩) (by assumption) ?_
     rotate_left
     · intro w hSw; (try dsimp only at hSw); first | (go_simp; done) | (go_simp; with_reducible rfl)
     try simp only [Act.put, List.setIfInBounds_toArray, List.set_cons_zero, List.set_cons_succ]
     refine wpAnyH_take (i := 2) (oi := ⟨some 18, .load 26 (.tmp 3), 26, "law.go:75", #[], none⟩) (v := ?_) rfl (by kernel_rfl) (by kernel_rfl) (by kernel_rfl) (fun _ _ _ h => h) (Or.inl ⟨by rfl, ?_⟩) (by assumption) ?_
     rotate_left
     · intro w hSw; (try dsimp only at hSw); first | (go_simp; done) | (go_simp; with_reducible rfl)
     try simp only [Act.put, List.setIfInBounds_toArray, List.set_cons_zero, List.set_cons_succ]
     refine wpAnyH_take (i := 5) (oi := ⟨some 21, .load 26 (.tmp 2), 26, "law.go:75", #[], none⟩) (v := ?_) rfl (by kernel_rfl) (by kernel_rfl) (by kernel_rfl) (fun _ _ _ h => h) (Or.inl ⟨by rfl, ?_⟩) (by assumption) ?_
     rotate_left
     · intro w hSw; (try dsimp only at hSw); first | (go_simp; done) | (go_simp; with_reducible rfl)
     try simp only [Act.put, List.setIfInBounds_toArray, List.set_cons_zero, List.set_cons_succ]
     refine wpAnyH_take (i := 6) (oi := ⟨some 22, .load 26 (.tmp 3), 26, "law.go:75", #[], none⟩) (v := ?_) rfl (by kernel_rfl) (by kernel_rfl) (by kernel_rfl) (fun _ _ _ h => h) (Or.inl ⟨by rfl, ?_⟩) (by assumption) ?_
     rotate_left
     · intro w hSw; (try dsimp only at hSw); first | (go_simp; done) | (go_simp; with_reducible rfl)
     try simp only [Act.put, List.setIfInBounds_toArray, List.set_cons_zero, List.set_cons_succ]
     refine wpAnyH_ready (rs := [1]) (by kernel_rfl) (by simp) ?_
     refine AllReadyH.cons (o := ⟨some 17, .call { callee := .value (.func 14), args := #[.tmp 16], argTypes := #[26] }, 26, "law.go:75", #[⟨0, .data⟩], none⟩) rfl (fun K hK => ?_) AllReadyH.nil
     go_simp
     refine (cO0 _ (HX.out.trans XC)).mono ?_; rintro r1 w1 ⟨u1, v1, rfl, O1, Y1⟩; have XC := XC.trans Y1; have YC := YC.trans Y1
     try go_wp2_with fail
     refine hK.out _ _ ?_ (fun hHeld1 => ?_)
     · (try dsimp only); exact HS.out _ XC
     clear hK K hHeld0
     try simp only [Act.put, List.setIfInBounds_toArray, List.set_cons_zero, List.set_cons_succ]
     refine wpAnyH_ready (rs := [3]) (by kernel_rfl) (by simp) ?_
     refine AllReadyH.cons (o := ⟨some 19, .call { callee := .value (.func 14), args := #[.tmp 18], argTypes := #[26] }, 26, "law.go:75", #[⟨2, .data⟩, ⟨1, .chain⟩], none⟩) rfl (fun K hK => ?_) AllReadyH.nil
     go_simp
     refine (cO1 _ (HX.out.trans XC)).mono ?_; rintro r3 w3 ⟨u3, v3, rfl, O3, Y3⟩; have XC := XC.trans Y3; have YC := YC.trans Y3; have O1 := VecO.ext O1 Y3
     try go_wp2_with fail
     refine hK.out _ _ ?_ (fun hHeld2 => ?_)
     · (try dsimp only); exact HS.out _ XC
     clear hK K hHeld1
     try simp only [Act.put, List.setIfInBounds_toArray, List.set_cons_zero, List.set_cons_succ]
     refine wpAnyH_ready (rs := [4]) (by kernel_rfl) (by simp) ?_
     refine AllReadyH.cons (o := ⟨some 20, .call { callee := .value (.func 19), args := #[.tmp 17, .tmp 19], argTypes := #[26, 26] }, 4, "law.go:75", #[⟨1, .data⟩, ⟨3, .data⟩, ⟨3, .chain⟩], none⟩) rfl (fun K hK => ?_) AllReadyH.nil
     go_simp
     refine (cS _ (HX.out.trans XC) _ _ _ _ _ _ O1 O3).mono ?_; rintro r4 w4 ⟨rfl, Y4⟩; have XC := XC.trans Y4; have YC := YC.trans Y4
     try go_wp2_with fail
     refine hK.out _ _ ?_ (fun hHeld3 => ?_)
     · (try dsimp only); exact HS.out _ XC
     clear hK K hHeld2
     try simp only [Act.put, List.setIfInBounds_toArray, List.set_cons_zero, List.set_cons_succ]
     refine wpAnyH_ready (rs := [7]) (by kernel_rfl) (by simp) ?_
     refine AllReadyH.cons (o := ⟨some 23, .call { callee := .value (.func 9), args := #[.tmp 21, .tmp 22], argTypes := #[26, 26] }, 4, "law.go:75", #[⟨5, .data⟩, ⟨6, .data⟩, ⟨4, .chain⟩], none⟩) rfl (fun K hK => ?_) AllReadyH.nil
     go_simp
     refine (cR _ (HX.out.trans XC)).mono ?_; rintro r5 w5 ⟨rfl, Y5⟩; have XC := XC.trans Y5; have YC := YC.trans Y5
     try go_wp2_with fail
     refine hK.out _ _ ?_ (fun hHeld4 => ?_)
     · (try dsimp only); exact HS.out _ XC
     clear hK K hHeld3
     try simp only [Act.put, List.setIfInBounds_toArray, List.set_cons_zero, List.set_cons_succ]
     refine wpAnyH_take (i := 8) (oi := ⟨some 24, .binOp .neq 4 (.tmp 20) (.tmp 23) 4, 4, "law.go:75", #[⟨4, .data⟩, ⟨7, .data⟩], none⟩) (v := ?_) rfl (by kernel_rfl) (by kernel_rfl) (by kernel_rfl) (fun _ _ _ h => h) (Or.inl ⟨by rfl, ?_⟩) (by assumption) ?_
     rotate_left
     · intro w hSw; (try dsimp only at hSw); first | (go_simp; done) | (go_simp; with_reducible rfl)
     try simp only [Act.put, List.setIfInBounds_toArray, List.set_cons_zero, List.set_cons_succ]
     refine wpAnyH_take (i := 9) (oi := ⟨some 25, .move (.tmp 24), 4, "law.go:75", #[⟨8, .data⟩, ⟨7, .chain⟩], none⟩) (v := ?_) rfl (by kernel_rfl) (by kernel_rfl) (by kernel_rfl) (fun _ _ _ h => h) (Or.inl ⟨by rfl, ?_⟩) (by assumption) ?_
     rotate_left
     · intro w hSw; (try dsimp only at hSw); first | (go_simp; done) | (go_simp; with_reducible rfl)
     try simp only [Act.put, List.setIfInBounds_toArray, List.set_cons_zero, List.set_cons_succ]
     refine wpAnyH_take (i := 10) (oi := ⟨some 26, .load 26 (.tmp 2), 26, "law.go:75", #[⟨9, .guard⟩], some (9, false)⟩) (v := ?_) rfl (by kernel_rfl) (by kernel_rfl) (by kernel_rfl) (fun _ _ _ h => h) (Or.inl ⟨by rfl, ?_⟩) (by assumption) ?_
     rotate_left
     · intro w hSw; (try dsimp only at hSw); first | (go_simp; done) | (go_simp; with_reducible rfl)
     try simp only [Act.put, List.setIfInBounds_toArray, List.set_cons_zero, List.set_cons_succ]
     refine wpAnyH_take (i := 11) (oi := ⟨some 27, .load 26 (.tmp 2), 26, "law.go:75", #[⟨9, .guard⟩], some (9, false)⟩) (v := ?_) rfl (by kernel_rfl) (by kernel_rfl) (by kernel_rfl) (fun _ _ _ h => h) (Or.inl ⟨by rfl, ?_⟩) (by assumption) ?_
     rotate_left
     · intro w hSw; (try dsimp only at hSw); first | (go_simp; done) | (go_simp; with_reducible rfl)
     try simp only [Act.put, List.setIfInBounds_toArray, List.set_cons_zero, List.set_cons_succ]
     refine wpAnyH_ready (rs := [12]) (by kernel_rfl) (by simp) ?_
     refine AllReadyH.cons (o := ⟨some 28, .call { callee := .value (.func 14), args := #[.tmp 27], argTypes := #[26] }, 26, "law.go:75", #[⟨11, .data⟩, ⟨9, .chain⟩, ⟨9, .guard⟩], some (9, false)⟩) rfl (fun K hK => ?_) AllReadyH.nil
     go_simp
     refine (cO0 _ (HX.out.trans XC)).mono ?_; rintro r6 w6 ⟨u6, v6, rfl, O6, Y6⟩; have XC := XC.trans Y6; have YC := YC.trans Y6
     try go_wp2_with fail
     refine hK.out _ _ ?_ (fun hHeld5 => ?_)
     · (try dsimp only); exact HS.out _ XC
     clear hK K hHeld4
     try simp only [Act.put, List.setIfInBounds_toArray, List.set_cons_zero, List.set_cons_succ]
     refine wpAnyH_ready (rs := [13]) (by kernel_rfl) (by simp) ?_
     refine AllReadyH.cons (o := ⟨some 29, .call { callee := .value (.func 19), args := #[.tmp 26, .tmp 28], argTypes := #[26, 26] }, 4, "law.go:75", #[⟨10, .data⟩, ⟨12, .data⟩, ⟨12, .chain⟩, ⟨9, .guard⟩], some (9, false)⟩) rfl (fun K hK => ?_) AllReadyH.nil
     go_simp
     refine (cT _ (HX.out.trans XC) _ _ _ O6).mono ?_; rintro r7 w7 ⟨rfl, Y7⟩; have XC := XC.trans Y7; have YC := YC.trans Y7
     try go_wp2_with fail
     refine hK.out _ _ ?_ (fun hHeld6 => ?_)
     · (try dsimp only); exact HS.out _ XC
     clear hK K hHeld5
     try simp only [Act.put, List.setIfInBounds_toArray, List.set_cons_zero, List.set_cons_succ]
     refine wpAnyH_take (i := 14) (oi := ⟨some 30, .unOp .not 4 (.tmp 29), 4, "law.go:75", #[⟨13, .data⟩, ⟨9, .guard⟩], some (9, false)⟩) (v := ?_) rfl (by kernel_rfl) (by kernel_rfl) (by kernel_rfl) (fun _ _ _ h => h) (Or.inl ⟨by rfl, ?_⟩) (by assumption) ?_
     rotate_left
     · intro w hSw; (try dsimp only at hSw); first | (go_simp; done) | (go_simp; with_reducible rfl)
     try simp only [Act.put, List.setIfInBounds_toArray, List.set_cons_zero, List.set_cons_succ]
     refine wpAnyH_take (i := 15) (oi := ⟨some 31, .pick (.tmp 25) (.const (.bool true)) (.tmp 30), 4, "law.go:75", #[⟨9, .data⟩, ⟨14, .data⟩], none⟩) (v := ?_) rfl (by kernel_rfl) (by kernel_rfl) (by kernel_rfl) (fun _ _ _ h => h) (Or.inl ⟨by rfl, ?_⟩) (by assumption) ?_
     rotate_left
     · intro w hSw; (try dsimp only at hSw); first | (go_simp; done) | (go_simp; with_reducible rfl)
     try simp only [Act.put, List.setIfInBounds_toArray, List.set_cons_zero, List.set_cons_succ]
     refine wpAnyH_done (by kernel_rfl) ?_ _
     go_wp2_with fail
     go_meet
     case rel => exact ⟨rfl, YC⟩
   case rest =>
     rename World => wd
     obtain ⟨rfl, hE2⟩ := hcut
     have X2 : Hid (Ext W1 wd) := XC0.out.trans hE2
     have W2 : Hid (Ext w wd) := HX.out.trans X2.out
     have VC2 : Hid (VB wd g (.slice p4 la c4) (.slice q4 lb d4)) := VC.out.ext hE2
     have OC2 : Hid (VecO w.heap.size wd (.slice p4 la c4) (.slice q4 lb d4) JN JE) := OC.out.ext hE2
     have HB : Hid (∀ V, Ext wd V → (V.cell? ⟨w.heap.size, 0, none⟩ = some (.slice p0 n0 c0) ∧ V.cell? ⟨w.heap.size, 1, none⟩ = some (.slice q0 m0 d0) ∧ V.cell? ⟨w.heap.size + 1, 0, none⟩ = some (.slice p1 n1 c1) ∧ V.cell? ⟨w.heap.size + 1, 1, none⟩ = some (.slice q1 m1 d1)) ∧ V.cell? ⟨g, 0, none⟩ = some (.slice p4 la c4) ∧ V.cell? ⟨g, 1, none⟩ = some (.slice q4 lb d4)) := fun V e => ⟨HS.out _ (X2.out.trans e), (VC2.out.ext e).blk.2.1.1, (VC2.out.ext e).blk.2.1.2⟩
     clear hE2 XC0 VC OC cS cR cT cJ
     obtain ⟨⟨k0, k1, i0, i1⟩, y0, y1⟩ := HB.out _ (Ext.refl _)
     go_wp2_with fail
     refine (cK0 _ W2.out).mono ?_
     rintro r1 w1 ⟨rfl, Y1⟩
     have X3 : Hid (Ext wd w1) := Y1
     clear k0 k1 i0 i1 y0 y1 Y1 cK0
     obtain ⟨⟨k0, k1, i0, i1⟩, y0, y1⟩ := HB.out _ X3.out
     cases hc0 : canC N0 E0
     · have hj : jErr N0 E0 N1 E1 = 1 := by unfold jErr; rw [hc0]; rfl
       have hz : jCol N0 N1 N0 E0 N1 E1 = [] := by unfold jCol; rw [hj]; rfl
       have he : er = 1 := by rw [← HJ.out.2.2.1]; exact hj
       have hl : la = 0 := by rw [← HJ.out.2.2.2.1, ← HJ.out.1, hz]; rfl
       subst he hl
       clear hj hz
       go_wp2_with fail
       refine (cL _ (W2.out.trans X3.out)).mono ?_
       rintro r9 w9 ⟨rfl, Y9⟩
       have X9 : Ext w w9 := W2.out.trans (X3.out.trans Y9)
       clear Y9
       go_wp2_with fail
       go_ret
       exact ⟨rfl, X9⟩
     · go_wp2_with fail
       refine (cK1 _ (W2.out.trans X3.out)).mono ?_
       rintro r1 w2 ⟨rfl, Y2⟩
       have X4 : Hid (Ext wd w2) := X3.out.trans Y2
       clear k0 k1 i0 i1 y0 y1 Y2 cK1 X3
       obtain ⟨⟨k0, k1, i0, i1⟩, y0, y1⟩ := HB.out _ X4.out
       cases hc1 : canC N1 E1
       · have hj : jErr N0 E0 N1 E1 = 1 := by unfold jErr; rw [hc0, hc1]; rfl
         have hz : jCol N0 N1 N0 E0 N1 E1 = [] := by unfold jCol; rw [hj]; rfl
         have he : er = 1 := by rw [← HJ.out.2.2.1]; exact hj
         have hl : la = 0 := by rw [← HJ.out.2.2.2.1, ← HJ.out.1, hz]; rfl
         subst he hl
         clear hj hz
         go_wp2_with fail
         refine (cL _ (W2.out.trans X4.out)).mono ?_
         rintro r9 w9 ⟨rfl, Y9⟩
         have X9 : Ext w w9 := W2.out.trans (X4.out.trans Y9)
         clear Y9
         go_wp2_with fail
         go_ret
         exact ⟨rfl, X9⟩
       · obtain ⟨l1, l2, hz1⟩ := (canC_iff N0 E0).1 hc0
         obtain ⟨l3, l4, hz2⟩ := (canC_iff N1 E1).1 hc1
         clear hz1 hz2
         have wk : wrap64 ((n0 : Int) + (n1 : Int)) = ((n0 + n1 : Nat) : Int) := by have := HL.out; unfold wrap64; omega
         by_cases hlen : 1000 < n0 + n1
         · have hj : jErr N0 E0 N1 E1 = 2 := by unfold jErr; rw [hc0, hc1, HL.out.1, HL.out.2.2.1, if_neg (show ¬ (n0 + n1 ≤ 1000) by omega)]; rfl
           have hI : ((n0 + n1 : Nat) : Int) > 1000 := by omega
           have hd0 : decide (((n0 + n1 : Nat) : Int) > 1000) = true := by simp; omega
           clear hlen l1 l2 l3 l4
           have hz : jCol N0 N1 N0 E0 N1 E1 = [] := by unfold jCol; rw [hj]; rfl
           have he : er = 2 := by rw [← HJ.out.2.2.1]; exact hj
           have hl : la = 0 := by rw [← HJ.out.2.2.2.1, ← HJ.out.1, hz]; rfl
           subst he hl
           clear hj hz
           go_wp2_with fail
           refine (cL _ (W2.out.trans X4.out)).mono ?_
           rintro r9 w9 ⟨rfl, Y9⟩
           have X9 : Ext w w9 := W2.out.trans (X4.out.trans Y9)
           clear Y9
           go_wp2_with fail
           go_ret
           exact ⟨rfl, X9⟩
         · have hj : jErr N0 E0 N1 E1 = 0 := by unfold jErr; rw [hc0, hc1, HL.out.1, HL.out.2.2.1, if_pos (show n0 + n1 ≤ 1000 by omega)]; rfl
           have hI : ¬ ((n0 + n1 : Nat) : Int) > 1000 := by omega
           have hd0 : decide (((n0 + n1 : Nat) : Int) > 1000) = false := by simp; omega
           have HM : Hid (m0 = n0 ∧ m1 = n1 ∧ n0 + n1 ≤ 1000) := ⟨by have := HL.out; omega, by have := HL.out; omega, by omega⟩
           have HE : Hid (er = 0 ∧ JN = N0 ++ N1 ∧ JE = E0 ++ E1) := ⟨by rw [← HJ.out.2.2.1]; exact hj, by rw [← HJ.out.1]; unfold jCol; rw [if_pos hj], by rw [← HJ.out.2.1]; unfold jCol; rw [if_pos hj]⟩
           clear hlen l1 l2 l3 l4 hj hc0 hc1
           go_upto_region 8 with fail
           clear wk hI hd0 k0 k1 i0 i1 y0 y1
           have W8 : Hid (Ext w w2.drew) := (W2.out.trans X4.out).drew
           refine wp_region_held_drew (S := fun V => V.cell? ⟨w.heap.size, 0, none⟩ = some (.slice p0 n0 c0) ∧ V.cell? ⟨w.heap.size, 1, none⟩ = some (.slice q0 m0 d0) ∧ V.cell? ⟨w.heap.size + 1, 0, none⟩ = some (.slice p1 n1 c1) ∧ V.cell? ⟨w.heap.size + 1, 1, none⟩ = some (.slice q1 m1 d1)) (by kernel_rfl) ?_ (fun hHeld0 => ?_)
           · exact HS.out _ (X2.out.trans X4.out).drew
           refine wpAnyH_take (i := 1) (oi := ⟨some 71, .fieldAddr 26 (.tmp 2) 0, 0, "law.go:84", #[], none⟩) (v := ?_) rfl (by kernel_rfl) (by kernel_rfl) (by kernel_rfl) (fun _ _ _ h => h) (Or.inl ⟨by rfl, ?_⟩) (by assumption) ?_
           rotate_left
           · intro w hSw; (try dsimp only at hSw); first | (go_simp; done) | (go_simp; with_reducible rfl)
           try simp only [Act.put, List.setIfInBounds_toArray, List.set_cons_zero, List.set_cons_succ]
           refine wpAnyH_take (i := 2) (oi := ⟨some 72, .load 23 (.tmp 71), 23, "law.go:84", #[⟨1, .data⟩], none⟩) (v := ?_) rfl (by kernel_rfl) (by kernel_rfl) (by kernel_rfl) (fun _ _ _ h => h) (Or.inl ⟨by rfl, ?_⟩) (by assumption) ?_
           rotate_left
           · intro w hSw; (try dsimp only at hSw); first | (go_simp; done) | (go_simp; with_reducible rfl)
           try simp only [Act.put, List.setIfInBounds_toArray, List.set_cons_zero, List.set_cons_succ]
           refine wpAnyH_take (i := 4) (oi := ⟨some 74, .fieldAddr 26 (.tmp 3) 0, 0, "law.go:84", #[], none⟩) (v := ?_) rfl (by kernel_rfl) (by kernel_rfl) (by kernel_rfl) (fun _ _ _ h => h) (Or.inl ⟨by rfl, ?_⟩) (by assumption) ?_
           rotate_left
           · intro w hSw; (try dsimp only at hSw); first | (go_simp; done) | (go_simp; with_reducible rfl)
           try simp only [Act.put, List.setIfInBounds_toArray, List.set_cons_zero, List.set_cons_succ]
           refine wpAnyH_take (i := 5) (oi := ⟨some 75, .load 23 (.tmp 74), 23, "law.go:84", #[⟨4, .data⟩], none⟩) (v := ?_) rfl (by kernel_rfl) (by kernel_rfl) (by kernel_rfl) (fun _ _ _ h => h) (Or.inl ⟨by rfl, ?_⟩) (by assumption) ?_
           rotate_left
           · intro w hSw; (try dsimp only at hSw); first | (go_simp; done) | (go_simp; with_reducible rfl)
           try simp only [Act.put, List.setIfInBounds_toArray, List.set_cons_zero, List.set_cons_succ]
           refine wpAnyH_take (i := 8) (oi := ⟨some 78, .fieldAddr 26 (.tmp 2) 1, 0, "law.go:84", #[], none⟩) (v := ?_) rfl (by kernel_rfl) (by kernel_rfl) (by kernel_rfl) (fun _ _ _ h => h) (Or.inl ⟨by rfl, ?_⟩) (by assumption) ?_
           rotate_left
           · intro w hSw; (try dsimp only at hSw); first | (go_simp; done) | (go_simp; with_reducible rfl)
           try simp only [Act.put, List.setIfInBounds_toArray, List.set_cons_zero, List.set_cons_succ]
           refine wpAnyH_take (i := 9) (oi := ⟨some 79, .load 24 (.tmp 78), 24, "law.go:84", #[⟨8, .data⟩], none⟩) (v := ?_) rfl (by kernel_rfl) (by kernel_rfl) (by kernel_rfl) (fun _ _ _ h => h) (Or.inl ⟨by rfl, ?_⟩) (by assumption) ?_
           rotate_left
           · intro w hSw; (try dsimp only at hSw); first | (go_simp; done) | (go_simp; with_reducible rfl)
           try simp only [Act.put, List.setIfInBounds_toArray, List.set_cons_zero, List.set_cons_succ]
           refine wpAnyH_take (i := 11) (oi := ⟨some 81, .fieldAddr 26 (.tmp 3) 1, 0, "law.go:84", #[], none⟩) (v := ?_) rfl (by kernel_rfl) (by kernel_rfl) (by kernel_rfl) (fun _ _ _ h => h) (Or.inl ⟨by rfl, ?_⟩) (by assumption) ?_
           rotate_left
           · intro w hSw; (try dsimp only at hSw); first | (go_simp; done) | (go_simp; with_reducible rfl)
           try simp only [Act.put, List.setIfInBounds_toArray, List.set_cons_zero, List.set_cons_succ]
           refine wpAnyH_take (i := 12) (oi := ⟨some 82, .load 24 (.tmp 81), 24, "law.go:84", #[⟨11, .data⟩], none⟩) (v := ?_) rfl (by kernel_rfl) (by kernel_rfl) (by kernel_rfl) (fun _ _ _ h => h) (Or.inl ⟨by rfl, ?_⟩) (by assumption) ?_
           rotate_left
           · intro w hSw; (try dsimp only at hSw); first | (go_simp; done) | (go_simp; with_reducible rfl)
           try simp only [Act.put, List.setIfInBounds_toArray, List.set_cons_zero, List.set_cons_succ]
           refine wpAnyH_letter (fun A0 hA0 => ?_)
           refine any_free_gen (l0 := #[false, true, true, false, true, true, false, false, true, true, false, true, true, false, false, false, false]) (lf := #[true, true, true, true, true, true, true, true, true, true, true, true, true, true, true, true, false]) ⟨[0, 3, 6, 7, 10, 13, 14, 15], [], (fun j => match j with | 6 => some 2 | 13 => some 3 | _ => none), (fun j => match j with | 0 => some 2 | 3 => some 2 | 6 => some 2 | 7 => some 3 | 10 => some 3 | 13 => some 3 | 15 => some 26 | _ => none), (fun j => match j with | 0 => 3 | 3 => 6 | 6 => 14 | 7 => 10 | 10 => 13 | 13 => 14 | _ => 1000)⟩ (by kernel_rfl) (by kernel_rfl) 1 w2.drew _ (mkA [(0, 70), (3, 73), (6, 76), (7, 77), (10, 80), (13, 83), (14, 84), (15, 7)] A0) (fun j x w => match j with | 0 => New0 w2.heap.size 2 x w | 3 => w.ownsRow w2.heap.size 2 1 x n0 ((N0).flatMap dI) | 6 => w.ownsRow w2.heap.size 2 1 x (n0 + n1) ((N0 ++ N1).flatMap dI) | 7 => New0 w2.heap.size 3 x w | 10 => w.ownsRow w2.heap.size 3 1 x m0 ((E0).flatMap dI) | 13 => w.ownsRow w2.heap.size 3 1 x (n0 + n1) ((E0 ++ E1).flatMap dI) | 14 => ∃ u v, x = .agg #[u, v] ∧ w.ownsRow w2.heap.size 2 1 u (n0 + n1) ((N0 ++ N1).flatMap dI) ∧ w.ownsRow w2.heap.size 3 1 v (n0 + n1) ((E0 ++ E1).flatMap dI) | 15 => MadeV w2.heap.size x w | _ => True) ?h01 (by assumption) ?hS ?hall ?hfin (fun j => match j with | 0 => A0.tmps.getD 70 undef | 3 => A0.tmps.getD 73 undef | 6 => A0.tmps.getD 76 undef | 7 => A0.tmps.getD 77 undef | 10 => A0.tmps.getD 80 undef | 13 => A0.tmps.getD 83 undef | 14 => A0.tmps.getD 84 undef | 15 => A0.tmps.getD 7 undef | _ => undef) ?hpre ?hX _ (by kernel_rfl)
           case h01 => exact Ext.refl _
           case hX => subst hA0; kernel_rfl
           case hS => intro i hi w w' hw e hg; exact HS.out _ ((X2.out.trans X4.out).drew.trans e)
           case hall =>
             subst hA0
             refine AllS.cons (o := ⟨some 70, .buildSlice 23 0 #[], 23, "law.go:84", #[], none⟩) rfl rfl (fun _ _ => by kernel_rfl) (fun _ _ _ h e => h.ext e) (fun _ _ _ _ _ h ht e => h.keep (fun hh => ht hh) e) (fun X w' hE hSw hX => ?_) ?_
             · exact rt_build0 (base := w2.heap.size) dltL rfl hE.size hE
             refine AllS.cons (o := ⟨some 73, .call { callee := .builtin .append, args := #[.tmp 70, .tmp 72], argTypes := #[23, 23] }, 23, "law.go:84", #[⟨0, .data⟩, ⟨2, .data⟩], none⟩) rfl rfl (fun _ _ => by kernel_rfl) (fun _ _ _ h e => ownsRow_ext h e) (fun _ _ _ _ _ h ht e => ownsRow_keep h (fun hh => ht hh) e) (fun X w' hE hSw hX => ?_) ?_
             · exact rt_append0 (base := w2.heap.size) (v := X 0) (va := .slice p0 n0 c0) dltL dI_len rfl (by kernel_rfl) (by kernel_rfl) (hX 0 (by kernel_rfl)) (RA0.out.ext (W8.out.trans hE)) HL.out.1 (by have := HM.out; unfold maxLen; omega) (by have := HM.out; omega) hE hE.size
             refine AllS.cons (o := ⟨some 76, .call { callee := .builtin .append, args := #[.tmp 73, .tmp 75], argTypes := #[23, 23] }, 23, "law.go:84", #[⟨3, .data⟩, ⟨5, .data⟩, ⟨3, .chain⟩], none⟩) rfl rfl (fun _ _ => by kernel_rfl) (fun _ _ _ h e => ownsRow_ext h e) (fun _ _ _ _ _ h ht e => ownsRow_keep h (fun hh => ht hh) e) (fun X w' hE hSw hX => ?_) ?_
             · have f1 : w'.ownsRow w2.heap.size 2 1 (X 3) n0 (N0.flatMap dI) := (hX 3 (by kernel_rfl))
               exact rt_append (base := w2.heap.size) (v := X 3) (va := .slice p1 n1 c1) (n := n0) (m := n1) (q := n0 + n1) (l := N0) (news := N1) dltL dI_len dI_one rfl (by kernel_rfl) (by kernel_rfl) f1 (RA1.out.ext (W8.out.trans hE)) HL.out.2.2.1 (by have := HM.out; omega) (by have := HM.out; unfold maxLen; omega) (by have := HM.out; omega) hE (Nat.le_refl _) hE.size
             refine AllS.cons (o := ⟨some 77, .buildSlice 24 0 #[], 24, "law.go:84", #[], none⟩) rfl rfl (fun _ _ => by kernel_rfl) (fun _ _ _ h e => h.ext e) (fun _ _ _ _ _ h ht e => h.keep (fun hh => ht hh) e) (fun X w' hE hSw hX => ?_) ?_
             · exact rt_build0 (base := w2.heap.size) dltI rfl hE.size hE
             refine AllS.cons (o := ⟨some 80, .call { callee := .builtin .append, args := #[.tmp 77, .tmp 79], argTypes := #[24, 24] }, 24, "law.go:84", #[⟨7, .data⟩, ⟨9, .data⟩, ⟨6, .chain⟩], none⟩) rfl rfl (fun _ _ => by kernel_rfl) (fun _ _ _ h e => ownsRow_ext h e) (fun _ _ _ _ _ h ht e => ownsRow_keep h (fun hh => ht hh) e) (fun X w' hE hSw hX => ?_) ?_
             · exact rt_append0 (base := w2.heap.size) (v := X 7) (va := .slice q0 m0 d0) dltI dI_len rfl (by kernel_rfl) (by kernel_rfl) (hX 7 (by kernel_rfl)) (RB0.out.ext (W8.out.trans hE)) HL.out.2.1 (by have := HM.out; unfold maxLen; omega) (by have := HM.out; omega) hE hE.size
             refine AllS.cons (o := ⟨some 83, .call { callee := .builtin .append, args := #[.tmp 80, .tmp 82], argTypes := #[24, 24] }, 24, "law.go:84", #[⟨10, .data⟩, ⟨12, .data⟩, ⟨10, .chain⟩], none⟩) rfl rfl (fun _ _ => by kernel_rfl) (fun _ _ _ h e => ownsRow_ext h e) (fun _ _ _ _ _ h ht e => ownsRow_keep h (fun hh => ht hh) e) (fun X w' hE hSw hX => ?_) ?_
             · have f1 : w'.ownsRow w2.heap.size 3 1 (X 10) m0 (E0.flatMap dI) := (hX 10 (by kernel_rfl))
               exact rt_append (base := w2.heap.size) (v := X 10) (va := .slice q1 m1 d1) (n := m0) (m := m1) (q := n0 + n1) (l := E0) (news := E1) dltI dI_len dI_one rfl (by kernel_rfl) (by kernel_rfl) f1 (RB1.out.ext (W8.out.trans hE)) HL.out.2.2.2 (by have := HM.out; omega) (by have := HM.out; unfold maxLen; omega) (by have := HM.out; omega) hE (Nat.le_refl _) hE.size
             refine AllS.cons (o := ⟨some 84, .build 26 #[(0, .tmp 76), (1, .tmp 83)], 26, "law.go:84", #[⟨6, .data⟩, ⟨13, .data⟩], none⟩) rfl rfl (fun _ _ => by kernel_rfl) (fun _ _ _ h e => by obtain ⟨u, v, h1, h2, h3⟩ := h; exact ⟨u, v, h1, ownsRow_ext h2 e, ownsRow_ext h3 e⟩) (fun _ _ _ _ hT => by have h : true = false := hT.symm.trans (by kernel_rfl); cases h) (fun X w' hE hSw hX => ?_) ?_
             · have f6 : w'.ownsRow w2.heap.size 2 1 (X 6) (n0 + n1) ((N0 ++ N1).flatMap dI) := hX 6 (by kernel_rfl)
               have f13 : w'.ownsRow w2.heap.size 3 1 (X 13) (n0 + n1) ((E0 ++ E1).flatMap dI) := hX 13 (by kernel_rfl)
               obtain ⟨p6, c6, h6, _⟩ := own_form f6
               obtain ⟨p7, c7, h7, _⟩ := own_form f13
               refine .inl ⟨.agg #[X 6, X 13], w', ?_, hE, Ext.refl _, X 6, X 13, rfl, f6, f13⟩
               rw [h6, h7]
               exact run_vec_of rfl (by rw [← h6]; kernel_rfl) (by rw [← h7]; kernel_rfl)
             refine AllS.cons (o := ⟨some 7, .alloc 26, 0, "law.go:84", #[], none⟩) rfl rfl (fun _ _ => by kernel_rfl) (fun _ _ _ h e => h.ext e) (fun _ _ _ _ _ h ht e => h.keep (fun hh => ht hh) e) (fun X w' hE hSw hX => ?_) ?_
             · exact rt_alloc (B := w2.heap.size) rfl hE hE.size
             exact AllS.nil
           case hpre =>
             exact AllP.nil
           case hfin =>
             intro X w' n' hE hSw hX
             subst hA0
             obtain ⟨u9, v9, h14, f6, f13⟩ : ∃ u v, X 14 = .agg #[u, v] ∧ w'.ownsRow w2.heap.size 2 1 u (n0 + n1) ((N0 ++ N1).flatMap dI) ∧ w'.ownsRow w2.heap.size 3 1 v (n0 + n1) ((E0 ++ E1).flatMap dI) := hX 14 (by kernel_rfl)
             obtain ⟨g9, h15, hg9, f15⟩ : MadeV w2.heap.size (X 15) w' := hX 15 (by kernel_rfl)
             obtain ⟨p9, c9, hu9, hz9⟩ := own_form f6
             obtain ⟨q9, d9, hv9, hz8⟩ := own_form f13
             subst hu9 hv9
             clear hX hz9 hz8
             try simp only [mkA, List.foldl_cons, List.foldl_nil, Act.put, List.setIfInBounds_toArray, List.set_cons_zero, List.set_cons_succ]
             rw [h14, h15]
             clear h14 h15
             generalize X 0 = x0
             generalize X 3 = x3
             generalize X 6 = x6
             generalize X 7 = x7
             generalize X 10 = x10
             generalize X 13 = x13
             generalize hnn : n0 + n1 = nn at *
             have L9 : VB ((w'.setCell ⟨g9, 0, none⟩ (.slice p9 nn c9)).setCell ⟨g9, 1, none⟩ (.slice q9 nn d9)) g9 (.slice p9 nn c9) (.slice q9 nn d9) := f15.set _ _
             have F3 : VecO w2.heap.size ((w'.setCell ⟨g9, 0, none⟩ (.slice p9 nn c9)).setCell ⟨g9, 1, none⟩ (.slice q9 nn d9)) (.slice p9 nn c9) (.slice q9 nn d9) (N0 ++ N1) (E0 ++ E1) := ⟨by rw [show (N0 ++ N1).length = nn by rw [List.length_append, HL.out.1, HL.out.2.2.1, hnn]]; exact own_vb f6 f15 vec_T.1 _ _, by rw [show (E0 ++ E1).length = nn by rw [List.length_append, HL.out.2.1, HL.out.2.2.2, HM.out.1, HM.out.2.1, hnn]]; exact own_vb f13 f15 vec_T.2 _ _⟩
             have e8 : Ext w2 w' := (Ext.refl _).drew.trans hE
             have X9 : Ext w2 ((w'.setCell ⟨g9, 0, none⟩ (.slice p9 nn c9)).setCell ⟨g9, 1, none⟩ (.slice q9 nn d9)) := (e8.setCell (p := ⟨g9, 0, none⟩) hg9 _).setCell (p := ⟨g9, 1, none⟩) hg9 _
             obtain ⟨_, ⟨t0, t1⟩, tf0, tf1⟩ := f15.blk
             refine wpAnyH_ready (rs := [16]) (by kernel_rfl) (by simp) ?_
             refine AllReadyH.cons (o := ⟨none, .store 26 (.tmp 7) (.tmp 84), 0, "law.go:84", #[⟨15, .data⟩, ⟨14, .data⟩, ⟨13, .chain⟩, ⟨0, .phase⟩, ⟨1, .phase⟩, ⟨2, .phase⟩, ⟨3, .phase⟩, ⟨4, .phase⟩, ⟨5, .phase⟩, ⟨6, .phase⟩, ⟨7, .phase⟩, ⟨8, .phase⟩, ⟨9, .phase⟩, ⟨10, .phase⟩, ⟨11, .phase⟩, ⟨12, .phase⟩, ⟨13, .phase⟩, ⟨14, .phase⟩, ⟨15, .phase⟩], none⟩) rfl (fun K hK => ?_) AllReadyH.nil
             go_simp
             try go_wp2_with fail
             refine hK.out _ _ ?_ (fun hHeld1 => ?_)
             · (try dsimp only); exact HS.out _ (X2.out.trans (X4.out.trans X9))
             clear hK K
             refine wpAnyH_done (by kernel_rfl) ?_ _
             have L10 : Hid (VB ((w'.setCell ⟨g9, 0, none⟩ (.slice p9 nn c9)).setCell ⟨g9, 1, none⟩ (.slice q9 nn d9)) g9 (.slice p9 nn c9) (.slice q9 nn d9)) := L9
             have F10 : Hid (VecO w2.heap.size ((w'.setCell ⟨g9, 0, none⟩ (.slice p9 nn c9)).setCell ⟨g9, 1, none⟩ (.slice q9 nn d9)) (.slice p9 nn c9) (.slice q9 nn d9) (N0 ++ N1) (E0 ++ E1)) := F3
             have X10 : Hid (Ext w2 ((w'.setCell ⟨g9, 0, none⟩ (.slice p9 nn c9)).setCell ⟨g9, 1, none⟩ (.slice q9 nn d9))) := X9
             have hlan : la = nn := by rw [← HJ.out.2.2.2.1, HE.out.2.1, List.length_append, HL.out.1, HL.out.2.2.1, hnn]
             have hlbn : lb = nn := by rw [← HJ.out.2.2.2.2, HE.out.2.2, List.length_append, HL.out.2.1, HL.out.2.2.2, HM.out.1, HM.out.2.1, hnn]
             have her : er = 0 := HE.out.1
             have HNN : Hid (nn ≤ 1000 ∧ (N0 ++ N1).length = nn ∧ (E0 ++ E1).length = nn) := ⟨HM.out.2.2, by rw [List.length_append, HL.out.1, HL.out.2.2.1, hnn], by rw [List.length_append, HL.out.2.1, HL.out.2.2.2, HM.out.1, HM.out.2.1, hnn]⟩
             subst hlan hlbn her
             clear L9 F3 X9 e8 hE f6 f13 f15 t0 t1 tf0 tf1 hHeld0 hHeld1 hSw hnn
             generalize (w'.setCell ⟨g9, 0, none⟩ (.slice p9 lb c9)).setCell ⟨g9, 1, none⟩ (.slice q9 lb d9) = w8 at *
             have X11 : Hid (Ext wd w8) := X4.out.trans X10.out
             obtain ⟨⟨k0, k1, i0, i1⟩, y0, y1⟩ := HB.out _ X11.out
             obtain ⟨_, ⟨t0, t1⟩, tf0, tf1⟩ := L10.out.blk
             have cR := rcsame_any w8 (.slice p4 lb c4) (.slice q4 lb d4) (.slice p9 lb c9) (.slice q9 lb d9) JN JE (N0 ++ N1) (E0 ++ E1) (OC2.out.ext X11.out).rd1 (OC2.out.ext X11.out).rd2 F10.out.rd1 F10.out.rd2 (by rw [HE.out.2.1, HNN.out.2.1]; have := HNN.out; unfold maxLen; omega) (by rw [HE.out.2.2, HNN.out.2.2]; have := HNN.out; unfold maxLen; omega)
             rw [show (decide (JN = N0 ++ N1) && decide (JE = E0 ++ E1)) = true by rw [HE.out.2.1, HE.out.2.2]; simp] at cR
             go_wp2_with fail
             refine cR.mono ?_
             rintro r5 w5 ⟨rfl, Y5⟩
             have X12 : Hid (Ext w w5) := W2.out.trans (X11.out.trans Y5)
             clear cR Y5 k0 k1 i0 i1 y0 y1 t0 t1 tf0 tf1
             go_wp2_with fail
             refine (cL _ X12.out).mono ?_
             rintro r9 w9 ⟨rfl, Y9⟩
             have X9 : Ext w w9 := X12.out.trans Y9
             clear Y9
             go_wp2_with fail
             go_ret
             exact ⟨rfl, X9⟩
theorem laidOut : laidOutB Tryd.prog = true := by kernel_rfl
set_option maxRecDepth 100000 in
theorem contract (H : Type) (enc : TypeId × Value → H) (W : World) (base : Nat) (args : Array Value) (ds gs : List (DataW H)) (before : List MemPlace)
   (hval0 : ∀ (j : Nat) t v, Tryd.f6.params[j]? = some t → args[j]? = some v → Value.okWide Tryd.prog W .any base t v)
   (hW : DataW.Whole enc Tryd.prog Tryd.f6.params.toList Rows.columnJoinsSpec.vars false W args.toList ds gs before) (hsz0 : (DataW.weightsEach Tryd.prog (Tryd.f6.params.toList ++ (OpenSpec.ofChange Rows.columnJoinsSpec).bare.plain.varTypes Tryd.prog) (ds ++ gs)).all (· ≤ reachBytes) = true) (hL : laidMetH Tryd.prog Rows.columnJoinsRow.laid W) :
   Calls Tryd.prog 6 args W fun e W' => ∃ v, e = .returned v ∧ Rows.columnJoinsSpec.post enc Tryd.prog Tryd.f6 false true false false W args v W' := by
 have hval := hval0
 have hW' := hW
 obtain ⟨p, q, hA0, hV, rfl, hfz, hnd⟩ := hW'
 have hA : DataW.TrodAll enc Tryd.prog W 0 (fun _ => true) true Tryd.f6.params.toList args.toList ds p := hA0
 rw [Tryd.params6] at hA hval
 obtain ⟨v0, vs0, d0, ds0, p0, q0, hargs, rfl, rfl, h0, r0⟩ := trodAll_cons hA
 obtain ⟨v1, vs1, d1, ds1, p1, q1, rfl, rfl, rfl, h1, r1⟩ := trodAll_cons r0
 obtain ⟨rfl, rfl, rfl⟩ := trodAll_nil r1
 obtain rfl : args = #[v0, v1] := by cases args; simp_all
 obtain ⟨rfl, rfl⟩ := trodVars_none hV
 have j0 := h0
 have lt0 : ∀ x ∈ p0, x.block < W.heap.size := by obtain ⟨m, hm⟩ := j0; exact DataW.trod_lt m _ _ _ hm
 obtain ⟨cc0, ce0, yy0, yy1, m0, rfl, hd0, hp0, hy0, hy1⟩ := open_agg2 Tryd.underlying26 (by kernel_rfl) cells_vec (hval 0 26 v0 rfl rfl) h0
 obtain ⟨N0, ra0, za0⟩ := open_i64s hy0
 obtain ⟨E0, rb0, zb0⟩ := open_ints hy1
 have sa0 : N0.length * 8 ≤ reachBytes := za0 (fun n hn => by
   have := List.all_eq_true.1 hsz0 n (DataW.weights_mem_each (j := 0) (t := 26) rfl rfl n (by
     rw [hd0]
     simp only [DataW.weights, Tryd.underlying26]
     exact DataW.weights_mem_each (j := 0) rfl rfl n hn))
   simpa using this)
 have sb0 : E0.length * 8 ≤ reachBytes := zb0 (fun n hn => by
   have := List.all_eq_true.1 hsz0 n (DataW.weights_mem_each (j := 0) (t := 26) rfl rfl n (by
     rw [hd0]
     simp only [DataW.weights, Tryd.underlying26]
     exact DataW.weights_mem_each (j := 1) rfl rfl n hn))
   simpa using this)
 have j1 := h1
 have lt1 : ∀ x ∈ p1, x.block < W.heap.size := by obtain ⟨m, hm⟩ := j1; exact DataW.trod_lt m _ _ _ hm
 obtain ⟨cc1, ce1, yy0, yy1, m1, rfl, hd1, hp1, hy0, hy1⟩ := open_agg2 Tryd.underlying26 (by kernel_rfl) cells_vec (hval 1 26 v1 rfl rfl) h1
 obtain ⟨N1, ra1, za1⟩ := open_i64s hy0
 obtain ⟨E1, rb1, zb1⟩ := open_ints hy1
 have sa1 : N1.length * 8 ≤ reachBytes := za1 (fun n hn => by
   have := List.all_eq_true.1 hsz0 n (DataW.weights_mem_each (j := 1) (t := 26) rfl rfl n (by
     rw [hd1]
     simp only [DataW.weights, Tryd.underlying26]
     exact DataW.weights_mem_each (j := 0) rfl rfl n hn))
   simpa using this)
 have sb1 : E1.length * 8 ≤ reachBytes := zb1 (fun n hn => by
   have := List.all_eq_true.1 hsz0 n (DataW.weights_mem_each (j := 1) (t := 26) rfl rfl n (by
     rw [hd1]
     simp only [DataW.weights, Tryd.underlying26]
     exact DataW.weights_mem_each (j := 1) rfl rfl n hn))
   simpa using this)
 clear hA0 hval0 hsz0
 refine (walk cc0 ce0 N0 E0 cc1 ce1 N1 E1 W ra0 rb0 sa0 sb0 ra1 rb1 sa1 sb1 (nm_ofC hL)).mono fun e W' ⟨he, bel⟩ => ?_
 subst he
 exact ⟨_, rfl, _, _, _, [], _, [], hW, trodAll_mk1 (shut_bool Tryd.underlying4 _), (trodAll_cons_mk (Below.trod laidOut (by kernel_rfl) (of_decide_eq_true (by kernel_rfl)) j0 bel lt0) (trodAll_cons_mk (Below.trod laidOut (by kernel_rfl) (of_decide_eq_true (by kernel_rfl)) j1 bel lt1) trodAll_mk0)), rfl, Below.frame bel _, fun h => by cases h⟩

theorem laid_met (os : Os) : laidMet Tryd.prog Rows.columnJoinsRow.laid ((laidWorldC os).forCall (fun _ _ => 0) ⟨#[], #[.agg #[.slice none 0 0, .slice none 0 0], .agg #[.slice none 0 0, .slice none 0 0]], []⟩).memory :=
 laidMet_of_run' 8 (by kernel_rfl) (by kernel_rfl)
theorem reads (os : Os) {H : Type} (enc : TypeId × Value → H) : ∃ places, DataW.whole enc Tryd.prog ((laidWorldC os).forCall (fun _ _ => 0) ⟨#[], #[.agg #[.slice none 0 0, .slice none 0 0], .agg #[.slice none 0 0, .slice none 0 0]], []⟩).memory Tryd.f6.params.toList Rows.columnJoinsSpec.vars false (#[.agg #[.slice none 0 0, .slice none 0 0], .agg #[.slice none 0 0, .slice none 0 0]] : Array Value).toList 8 = some ([.agg [.nil, .nil], .agg [.nil, .nil]], [], places) :=
 ⟨[], by kernel_rfl⟩

set_option maxRecDepth 100000 in
theorem lifted (os : Os) (started : os.Started) (H : Type) (enc : TypeId × Value → H) (F : Stop.Interp) :
   ReturnsInHanded {} Tryd.checked os 6 .any ((OpenSpec.ofChange Rows.columnJoinsSpec).preRow enc Tryd.prog Tryd.f6 Rows.columnJoinsRow.domain false Rows.columnJoinsRow.laid) (((OpenSpec.ofChange Rows.columnJoinsSpec).at F).post enc Tryd.prog Tryd.f6 false true false false) := by
 obtain ⟨places, hx⟩ := reads os enc
 refine returnsInHanded_of_row (C := Tryd.checked) (s := OpenSpec.ofChange Rows.columnJoinsSpec) ownK started (by kernel_rfl) Tryd.func6
   (witness_row_at (enc := enc) (C := Tryd.checked) false (laidWorldC os) #[.agg #[.slice none 0 0, .slice none 0 0], .agg #[.slice none 0 0, .slice none 0 0]] rfl (by kernel_rfl) (by kernel_rfl) (by kernel_rfl)
     (OpenSpec.preRow_of_cond 8 hx (by kernel_rfl) (fun k hk => by cases hk) (by kernel_rfl) (by
       rw [MakeChecks.laidMetH_plain _ _ _ (by kernel_rfl)]
       exact laid_met os))) ?_
 intro W base args ds gs before hval hW _ _ hsz hL _ _
 exact contract H enc W base args ds gs before hval hW hsz hL

theorem said : Rows.ColumnJoinsSaid :=
 OpenClaim.holds_of_cond 6 Tryd.f6 rfl rfl rfl rfl rfl rfl rfl ⟨rfl, rfl, rfl, rfl, rfl⟩ rfl rfl rfl rfl rfl (by kernel_rfl) Tryd.func6 (by kernel_rfl)
   (of_decide_eq_true (by kernel_rfl)) (by unfold Func.isWrapper; first | (rw [if_pos (by decide +kernel)]; kernel_rfl) | (rw [if_neg (by decide +kernel)]; exact ⟨rfl, rfl⟩))
   (fun os started H enc _ F => by rw [OpenClaim.pre_eq_preRow]; exact lifted os started H enc F)

theorem plain (f : FuncId) (fn : Func) (hf : Tryd.pinned.checked.prog.funcNamed Rows.columnJoinsRow.func = some f) (hfn : Tryd.pinned.checked.prog.funcs[f]? = some fn) :
   false = Tryd.pinned.checked.prog.looks [] ∧ ∀ (j : Nat) t, fn.params[j]? = some t → Tryd.pinned.checked.prog.wantsStandIn t = false := by
 obtain rfl : f = 6 := Option.some.inj ((show Tryd.prog.funcNamed Rows.columnJoinsRow.func = some 6 by kernel_rfl).symm.trans hf) |>.symm
 obtain rfl : fn = Tryd.f6 := (Option.some.inj (Tryd.func6.symm.trans hfn)).symm
 refine ⟨by kernel_rfl, fun j t ht => ?_⟩
 rw [Tryd.params6] at ht
 have hm : t ∈ [26, 26] := by simpa using Array.mem_of_getElem? ht
 have hall : ([26, 26].all fun u => !Tryd.prog.wantsStandIn u) = true := by kernel_rfl
 exact (show Tryd.prog.wantsStandIn t = false by simpa using List.all_eq_true.1 hall t hm)

theorem card : Rows.ColumnJoinsCardSaid :=
 Claim7.holds_tied_plain_at .later [] _ _ _ _ said (fun _ h => by cases h) (by kernel_rfl) (fun _ h => by cases h) columnJoins_row_tie rfl ⟨rfl, rfl⟩ (by kernel_rfl) rfl plain (by kernel_rfl)
end Go.Proofs.YteaoeichgibgiaaDoor.columnJoins
namespace Go.Proofs.YteaoeichgibgiaaDoor
theorem columnJoins_card : Rows.ColumnJoinsCardSaid := columnJoins.card
end Go.Proofs.YteaoeichgibgiaaDoor
