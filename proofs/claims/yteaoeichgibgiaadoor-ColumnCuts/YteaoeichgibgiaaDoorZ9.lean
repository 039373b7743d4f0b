/-
 Package column: clone, Slice, Join.
 Package column: Join.
 Package column: Join and Slice, whatever comes in.
 The document's column in memory of its own.
 The document's Can (layer 19).
 Columns held against each other: the document's Same (layer 19).
 Lists made whole and filled place by place, in regions that draw their order.
 The contracts of package value's ToNum and of its operators, which are functions that are answered.
-/
import Derived.Test.YteaoeichgibgiaaDoorZ7
import Derived.Test.YteaoeichgibgiaaDoorShelfG
import Derived.Test.YteaoeichgibgiaaDoorZ6
import Derived.Test.YteaoeichgibgiaaDoorZ5
namespace Go.Proofs.YteaoeichgibgiaaDoor
open Go.RowKit
set_option maxHeartbeats 2000000

theorem cloneL_any (w : World) (v : Value) (l : List Int) (h : RdZ w v l) (hl : l.length ≤ 1000000) :
   Calls Tryd.prog 43 #[v] w fun e w' => ∃ v', e = .returned v' ∧ w'.ownsRow w.heap.size 2 1 v' l.length (l.flatMap dI) ∧ Ext w w' := by
 obtain ⟨⟨p, cp, rfl, hc, hrow⟩, hs⟩ := h
 cases p with
 | none =>
   have hl0 : l = [] := by
     rcases hrow with h | ⟨b, off, h, _⟩
     · exact h
     · cases h
   subst hl0
   refine (AnyE.slices_Clone_nil Tryd.laysClone 0 cp w).mono ?_
   rintro e w' ⟨rfl, rfl⟩
   exact ⟨_, rfl, ⟨by simp, .inl ⟨rfl, rfl⟩⟩, Ext.refl _⟩
 | some a =>
   obtain ⟨b, off, sp⟩ := a
   have hsp : sp = none := hs _ _ _ _ rfl rfl
   subst hsp
   obtain ⟨i, z, hi, hz, hs, hb, hzs⟩ := (dltL).i
   refine (AnyE.slices_Clone Tryd.laysClone i z 1 8 hi hz hs hb hzs (by decide) Tryd.sizeOf2 b off l.length cp (l.flatMap dI) w (gm_len dI_len l) (by unfold maxLen; omega) (by omega) (fun j u hu => ?_) (gm_one dI_one l)).mono ?_
   · rcases hrow with rfl | ⟨b', off', e, _, h6⟩
     · simp at hu
     · cases e
       obtain ⟨x, hx, hu⟩ := gm_get dI_len (by decide) l j u hu
       have := h6 _ x _ u hx hu
       rw [Nat.add_assoc, Nat.mul_comm, Nat.div_add_mod] at this
       exact this
   · rintro e w' ⟨v', rfl, k1, _, k3⟩
     exact ⟨v', rfl, k1, k3⟩
theorem cloneI_any (w : World) (v : Value) (l : List Int) (h : RdZ w v l) (hl : l.length ≤ 1000000) :
   Calls Tryd.prog 44 #[v] w fun e w' => ∃ v', e = .returned v' ∧ w'.ownsRow w.heap.size 3 1 v' l.length (l.flatMap dI) ∧ Ext w w' := by
 obtain ⟨⟨p, cp, rfl, hc, hrow⟩, hs⟩ := h
 cases p with
 | none =>
   have hl0 : l = [] := by
     rcases hrow with h | ⟨b, off, h, _⟩
     · exact h
     · cases h
   subst hl0
   refine (AnyE.slices_Clone_nil Tryd.laysCloneI 0 cp w).mono ?_
   rintro e w' ⟨rfl, rfl⟩
   exact ⟨_, rfl, ⟨by simp, .inl ⟨rfl, rfl⟩⟩, Ext.refl _⟩
 | some a =>
   obtain ⟨b, off, sp⟩ := a
   have hsp : sp = none := hs _ _ _ _ rfl rfl
   subst hsp
   obtain ⟨i, z, hi, hz, hs, hb, hzs⟩ := (dltI).i
   refine (AnyE.slices_Clone Tryd.laysCloneI i z 1 8 hi hz hs hb hzs (by decide) Tryd.sizeOf3 b off l.length cp (l.flatMap dI) w (gm_len dI_len l) (by unfold maxLen; omega) (by omega) (fun j u hu => ?_) (gm_one dI_one l)).mono ?_
   · rcases hrow with rfl | ⟨b', off', e, _, h6⟩
     · simp at hu
     · cases e
       obtain ⟨x, hx, hu⟩ := gm_get dI_len (by decide) l j u hu
       have := h6 _ x _ u hx hu
       rw [Nat.add_assoc, Nat.mul_comm, Nat.div_add_mod] at this
       exact this
   · rintro e w' ⟨v', rfl, k1, _, k3⟩
     exact ⟨v', rfl, k1, k3⟩
theorem Ext.dr {w w' : World} (e : Ext w w') : Ext w w'.drew := e.drew
set_option maxRecDepth 100000 in
theorem vclone_any (W : World) (a b : Value) (N E : List Int) (ha : RdZ W a N) (hb : RdZ W b E) (hn : N.length ≤ 1000000) (hm : E.length ≤ 1000000) :
   Calls Tryd.prog 33 #[.agg #[a, b]] W fun r w' => ∃ u v, r = .returned (.agg #[u, v]) ∧ VecO W.heap.size w' u v N E ∧ Ext W w' := by
 have c1 := fun w (e : Ext W w) => cloneL_any w a N (ha.ext e) hn
 have c2 := fun w (e : Ext W w) => cloneI_any w b E (hb.ext e) hm
 obtain ⟨p, cp, rfl, hzz⟩ := ha.1.form
 clear hzz
 obtain ⟨q, cq, rfl, hzz⟩ := hb.1.form
 clear hzz ha hb
 obtain ⟨n, e1⟩ : ∃ n, N.length = n := ⟨_, rfl⟩
 obtain ⟨m, e2⟩ : ∃ n, E.length = n := ⟨_, rfl⟩
 rw [e1] at hn c1
 rw [e2] at hm c2
 rw [e1, e2]
 have HL : Hid (N.length = n ∧ E.length = m) := ⟨e1, e2⟩
 obtain ⟨W1, hW⟩ : ∃ W1, (W.alloc (.cells #[.slice p n cp, .slice q m cq] 26)).alloc (.cells #[.slice none 0 0, .slice none 0 0] 26) = W1 := ⟨_, rfl⟩
 have XW : Ext W W1 := by rw [← hW]; exact ((Ext.refl _).alloc _).alloc _
 obtain ⟨_, ⟨k0, k1⟩, f0, f1⟩ : Blk2 W1 W.heap.size (.slice p n cp) (.slice q m cq) := by rw [← hW]; exact blk2_top rfl ((Ext.refl _).alloc _)
 have B1 : Hid (Blk2 W1 (W.heap.size + 1) (.slice none 0 0) (.slice none 0 0)) := by rw [← hW]; exact blk2_top (by simp) (Ext.refl _)
 have HW : Hid ((W.alloc (.cells #[.slice p n cp, .slice q m cq] 26)).alloc (.cells #[.slice none 0 0, .slice none 0 0] 26) = W1) := hW
 have HX : Hid (Ext W W1) := XW
 clear hn hm e1 e2 hW XW f0 f1
 go_enter Tryd.func33, Tryd.ntmps33
 go_wp2_with fail
 rw [HW.out]
 refine wp_region_held_drew (S := fun w => w.cell? ⟨W.heap.size, 0, none⟩ = some (.slice p n cp) ∧ w.cell? ⟨W.heap.size, 1, none⟩ = some (.slice q m cq)) (by kernel_rfl) ?_ (fun hHeld0 => ?_)
 · first | exact ⟨k0, k1⟩ | exact ⟨E1.some k0, E1.some k1⟩ | exact ⟨E2.some (E1.some k0), E2.some (E1.some k1)⟩ | exact ⟨by simp [E2.some (E1.some k0), World.cell?_setCell_other], by simp [E2.some (E1.some k1), World.cell?_setCell_other]⟩
 refine wpAnyH_take (i := 0) (oi := ⟨some 3, .fieldAddr 26 (.tmp 1) 0, 0, "column.go:98", #[], none⟩) (v := ?_) rfl (by kernel_rfl) (by kernel_rfl) (by kernel_rfl) (fun _ _ _ h => h) (Or.inl ⟨by rfl, ?_⟩) (by assumption) ?_
 rotate_left
 · intro w hSw; (try dsimp only at hSw); first | (go_simp; done) | (go_simp; with_reducible rfl)
 try simp only [Act.put, List.setIfInBounds_toArray, List.set_cons_zero, List.set_cons_succ]
 refine wpAnyH_take (i := 1) (oi := ⟨some 4, .load 23 (.tmp 3), 23, "column.go:98", #[⟨0, .data⟩], none⟩) (v := ?_) rfl (by kernel_rfl) (by kernel_rfl) (by kernel_rfl) (fun _ _ _ h => h) (Or.inl ⟨by rfl, ?_⟩) (by assumption) ?_
 rotate_left
 · intro w hSw; (try dsimp only at hSw); first | (go_simp; done) | (go_simp; with_reducible rfl)
 try simp only [Act.put, List.setIfInBounds_toArray, List.set_cons_zero, List.set_cons_succ]
 refine wpAnyH_take (i := 3) (oi := ⟨some 6, .fieldAddr 26 (.tmp 1) 1, 0, "column.go:98", #[], none⟩) (v := ?_) rfl (by kernel_rfl) (by kernel_rfl) (by kernel_rfl) (fun _ _ _ h => h) (Or.inl ⟨by rfl, ?_⟩) (by assumption) ?_
 rotate_left
 · intro w hSw; (try dsimp only at hSw); first | (go_simp; done) | (go_simp; with_reducible rfl)
 try simp only [Act.put, List.setIfInBounds_toArray, List.set_cons_zero, List.set_cons_succ]
 refine wpAnyH_take (i := 4) (oi := ⟨some 7, .load 24 (.tmp 6), 24, "column.go:98", #[⟨3, .data⟩], none⟩) (v := ?_) rfl (by kernel_rfl) (by kernel_rfl) (by kernel_rfl) (fun _ _ _ h => h) (Or.inl ⟨by rfl, ?_⟩) (by assumption) ?_
 rotate_left
 · intro w hSw; (try dsimp only at hSw); first | (go_simp; done) | (go_simp; with_reducible rfl)
 try simp only [Act.put, List.setIfInBounds_toArray, List.set_cons_zero, List.set_cons_succ]
 refine wpAnyH_ready (rs := [2]) (by kernel_rfl) (by simp) ?_
 refine AllReadyH.cons (o := ⟨some 5, .call { callee := .value (.func 43), args := #[.tmp 4], argTypes := #[23] }, 23, "column.go:98", #[⟨1, .data⟩], none⟩) rfl (fun K hK => ?_) AllReadyH.nil
 go_simp
 refine (c1 _ HX.out.dr).mono ?_; rintro r w1 ⟨v1, rfl, o1, E1⟩; obtain ⟨p3, c3, rfl, hzz⟩ := own_form o1; clear hzz
 try go_wp2_with fail
 refine hK.out _ _ ?_ (fun hHeld1 => ?_)
 · (try dsimp only); first | exact ⟨k0, k1⟩ | exact ⟨E1.some k0, E1.some k1⟩ | exact ⟨E2.some (E1.some k0), E2.some (E1.some k1)⟩ | exact ⟨by simp [E2.some (E1.some k0), World.cell?_setCell_other], by simp [E2.some (E1.some k1), World.cell?_setCell_other]⟩
 clear hK K hHeld0
 try simp only [Act.put, List.setIfInBounds_toArray, List.set_cons_zero, List.set_cons_succ]
 refine wpAnyH_ready (rs := [5]) (by kernel_rfl) (by simp) ?_
 refine AllReadyH.cons (o := ⟨some 8, .call { callee := .value (.func 44), args := #[.tmp 7], argTypes := #[24] }, 24, "column.go:98", #[⟨4, .data⟩, ⟨2, .chain⟩], none⟩) rfl (fun K hK => ?_) AllReadyH.nil
 go_simp
 refine (c2 _ (HX.out.dr.trans E1)).mono ?_; rintro r w2 ⟨v2, rfl, o2, E2⟩; obtain ⟨p7, c7, rfl, hzz⟩ := own_form o2; clear hzz; obtain ⟨_, ⟨j0, j1⟩, g0, g1⟩ := B1.out.ext ((Ext.refl _).drew.trans (E1.trans E2))
 try go_wp2_with fail
 refine hK.out _ _ ?_ (fun hHeld2 => ?_)
 · (try dsimp only); first | exact ⟨k0, k1⟩ | exact ⟨E1.some k0, E1.some k1⟩ | exact ⟨E2.some (E1.some k0), E2.some (E1.some k1)⟩ | exact ⟨by simp [E2.some (E1.some k0), World.cell?_setCell_other], by simp [E2.some (E1.some k1), World.cell?_setCell_other]⟩
 clear hK K hHeld1
 try simp only [Act.put, List.setIfInBounds_toArray, List.set_cons_zero, List.set_cons_succ]
 refine wpAnyH_take (i := 6) (oi := ⟨some 9, .build 26 #[(0, .tmp 5), (1, .tmp 8)], 26, "column.go:98", #[⟨2, .data⟩, ⟨5, .data⟩], none⟩) (v := ?_) rfl (by kernel_rfl) (by kernel_rfl) (by kernel_rfl) (fun _ _ _ h => h) (Or.inl ⟨by rfl, ?_⟩) (by assumption) ?_
 rotate_left
 · intro w hSw; (try dsimp only at hSw); first | (go_simp; done) | (go_simp; with_reducible rfl)
 try simp only [Act.put, List.setIfInBounds_toArray, List.set_cons_zero, List.set_cons_succ]
 refine wpAnyH_ready (rs := [7]) (by kernel_rfl) (by simp) ?_
 refine AllReadyH.cons (o := ⟨none, .store 26 (.tmp 2) (.tmp 9), 0, "column.go:98", #[⟨6, .data⟩, ⟨5, .chain⟩, ⟨0, .phase⟩, ⟨1, .phase⟩, ⟨2, .phase⟩, ⟨3, .phase⟩, ⟨4, .phase⟩, ⟨5, .phase⟩, ⟨6, .phase⟩], none⟩) rfl (fun K hK => ?_) AllReadyH.nil
 go_simp
 
 try go_wp2_with fail
 refine hK.out _ _ ?_ (fun hHeld3 => ?_)
 · (try dsimp only); first | exact ⟨k0, k1⟩ | exact ⟨E1.some k0, E1.some k1⟩ | exact ⟨E2.some (E1.some k0), E2.some (E1.some k1)⟩ | exact ⟨by simp [E2.some (E1.some k0), World.cell?_setCell_other], by simp [E2.some (E1.some k1), World.cell?_setCell_other]⟩
 clear hK K hHeld2
 try simp only [Act.put, List.setIfInBounds_toArray, List.set_cons_zero, List.set_cons_succ]
 refine wpAnyH_done (by kernel_rfl) ?_ _
 have hs1 := B1.out.1
 have XE : Ext W1 w2 := (Ext.refl _).drew.trans (E1.trans E2)
 have F3 : w2.ownsRow W1.heap.size 2 1 (.slice p3 n c3) n (N.flatMap dI) := ownsRow_ext o1 E2
 have F7 : w2.ownsRow W1.heap.size 3 1 (.slice p7 m c7) m (E.flatMap dI) := ownsRow_mono o2 E1.size
 have Z2 : Hid (Blk2 ((w2.setCell ⟨W.heap.size + 1, 0, none⟩ (.slice p3 n c3)).setCell ⟨W.heap.size + 1, 1, none⟩ (.slice p7 m c7)) (W.heap.size + 1) (.slice p3 n c3) (.slice p7 m c7)) := (B1.out.ext XE).set _ _
 have R3 : Hid (VecO W.heap.size ((w2.setCell ⟨W.heap.size + 1, 0, none⟩ (.slice p3 n c3)).setCell ⟨W.heap.size + 1, 1, none⟩ (.slice p7 m c7)) (.slice p3 n c3) (.slice p7 m c7) N E) := ⟨by rw [HL.out.1]; exact ownsRow_mono (own_off (own_off F3 hs1 _) hs1 _) HX.out.size, by rw [HL.out.2]; exact ownsRow_mono (own_off (own_off F7 hs1 _) hs1 _) HX.out.size⟩
 have X2 : Hid (Ext W ((w2.setCell ⟨W.heap.size + 1, 0, none⟩ (.slice p3 n c3)).setCell ⟨W.heap.size + 1, 1, none⟩ (.slice p7 m c7))) := ((HX.out.trans XE).setCell (by (try dsimp only); omega) _).setCell (by (try dsimp only); omega) _
 clear F3 F7 XE hs1 o1 o2 E1 E2 j0 j1 g0 g1 k0 k1 B1 c1 c2
 try clear hHeld3
 try clear hHeld2
 try clear hHeld1
 generalize (w2.setCell ⟨W.heap.size + 1, 0, none⟩ (.slice p3 n c3)).setCell ⟨W.heap.size + 1, 1, none⟩ (.slice p7 m c7) = W2 at *
 go_wp2_with fail
 exact fin2 _ Z2.out rfl X2.out (fun g0 g1 => by simp [results, Tryd.results33, go_sem, g0, g1]) (fun h => ⟨_, _, rfl, R3.out, h⟩)
set_option maxRecDepth 100000 in
theorem vslice_can (W : World) (a b : Value) (N E : List Int) (x y : Int) (hN : Nm W) (ha : RdZ W a N) (hb : RdZ W b E) (hc : canC N E = false) :
   Calls Tryd.prog 17 #[.agg #[a, b], .int .i64 x, .int .i64 y] W fun r w' => r = .returned (.tuple #[.agg #[.slice none 0 0, .slice none 0 0], .int .i64 1]) ∧ Ext W w' := by
 have c1 := fun w (e : Ext W w) => ccan_any w a b N E (hN.ext e) (ha.1.ext e) (hb.1.ext e)
 obtain ⟨p, cp, rfl, hzz⟩ := ha.1.form
 clear hzz
 obtain ⟨q, cq, rfl, hzz⟩ := hb.1.form
 clear hzz
 obtain ⟨n, e1⟩ : ∃ n, N.length = n := ⟨_, rfl⟩
 obtain ⟨m, e2⟩ : ∃ n, E.length = n := ⟨_, rfl⟩
 rw [e1] at c1 ha
 rw [e2] at c1 hb
 rw [e1, e2]
 obtain ⟨W1, hW⟩ : ∃ W1, (W.alloc (.cells #[.slice p n cp, .slice q m cq] 26)).alloc (.cells #[.slice none 0 0, .slice none 0 0] 26) = W1 := ⟨_, rfl⟩
 have XW : Ext W W1 := by rw [← hW]; exact ((Ext.refl _).alloc _).alloc _
 have B0 : Hid (Blk2 W1 W.heap.size (.slice p n cp) (.slice q m cq)) := by rw [← hW]; exact blk2_top rfl ((Ext.refl _).alloc _)
 have B1 : Hid (Blk2 W1 (W.heap.size + 1) (.slice none 0 0) (.slice none 0 0)) := by rw [← hW]; exact blk2_top (by simp) (Ext.refl _)
 have HW : Hid ((W.alloc (.cells #[.slice p n cp, .slice q m cq] 26)).alloc (.cells #[.slice none 0 0, .slice none 0 0] 26) = W1) := hW
 have HX : Hid (Ext W W1) := XW
 rw [hc] at c1
 clear hc
 clear ha hb hW XW e1 e2 hN
 go_enter Tryd.func17, Tryd.ntmps17
 go_wp2_with fail
 rw [HW.out]
 refine (c1 _ HX.out).mono ?_
 rintro r w1 ⟨rfl, E1⟩
 obtain ⟨_, ⟨k0, k1⟩, f0, f1⟩ := B0.out.ext E1
 obtain ⟨_, ⟨j0, j1⟩, g0, g1⟩ := B1.out.ext E1
 have X1 : Hid (Ext W w1) := HX.out.trans E1
 have Z1 : Hid (Blk2 w1 (W.heap.size + 1) (.slice none 0 0) (.slice none 0 0)) := B1.out.ext E1
 clear E1 c1 B0 B1 HX
 go_wp2_with fail
 exact fin2 _ (Z1.out.set _ _) rfl ((X1.out.setCell (by (try dsimp only); omega) _).setCell (by (try dsimp only); omega) _) (fun g0 g1 => by simp [results, Tryd.results17, go_sem, g0, g1]) (fun h => ⟨rfl, h⟩)
set_option maxRecDepth 100000 in
theorem vslice_neg (W : World) (a b : Value) (N E : List Int) (x y : Int) (hN : Nm W) (ha : RdZ W a N) (hb : RdZ W b E) (hc : canC N E = true) (h : x < 0) :
   Calls Tryd.prog 17 #[.agg #[a, b], .int .i64 x, .int .i64 y] W fun r w' => r = .returned (.tuple #[.agg #[.slice none 0 0, .slice none 0 0], .int .i64 1]) ∧ Ext W w' := by
 have c1 := fun w (e : Ext W w) => ccan_any w a b N E (hN.ext e) (ha.1.ext e) (hb.1.ext e)
 obtain ⟨p, cp, rfl, hzz⟩ := ha.1.form
 clear hzz
 obtain ⟨q, cq, rfl, hzz⟩ := hb.1.form
 clear hzz
 obtain ⟨n, e1⟩ : ∃ n, N.length = n := ⟨_, rfl⟩
 obtain ⟨m, e2⟩ : ∃ n, E.length = n := ⟨_, rfl⟩
 rw [e1] at c1 ha
 rw [e2] at c1 hb
 rw [e1, e2]
 obtain ⟨W1, hW⟩ : ∃ W1, (W.alloc (.cells #[.slice p n cp, .slice q m cq] 26)).alloc (.cells #[.slice none 0 0, .slice none 0 0] 26) = W1 := ⟨_, rfl⟩
 have XW : Ext W W1 := by rw [← hW]; exact ((Ext.refl _).alloc _).alloc _
 have B0 : Hid (Blk2 W1 W.heap.size (.slice p n cp) (.slice q m cq)) := by rw [← hW]; exact blk2_top rfl ((Ext.refl _).alloc _)
 have B1 : Hid (Blk2 W1 (W.heap.size + 1) (.slice none 0 0) (.slice none 0 0)) := by rw [← hW]; exact blk2_top (by simp) (Ext.refl _)
 have HW : Hid ((W.alloc (.cells #[.slice p n cp, .slice q m cq] 26)).alloc (.cells #[.slice none 0 0, .slice none 0 0] 26) = W1) := hW
 have HX : Hid (Ext W W1) := XW
 rw [hc] at c1
 clear hc
 clear ha hb hW XW e1 e2 hN
 go_enter Tryd.func17, Tryd.ntmps17
 go_wp2_with fail
 rw [HW.out]
 refine (c1 _ HX.out).mono ?_
 rintro r w1 ⟨rfl, E1⟩
 obtain ⟨_, ⟨k0, k1⟩, f0, f1⟩ := B0.out.ext E1
 obtain ⟨_, ⟨j0, j1⟩, g0, g1⟩ := B1.out.ext E1
 have X1 : Hid (Ext W w1) := HX.out.trans E1
 have Z1 : Hid (Blk2 w1 (W.heap.size + 1) (.slice none 0 0) (.slice none 0 0)) := B1.out.ext E1
 clear E1 c1 B0 B1 HX
 go_wp2_with fail
 exact fin2 _ (Z1.out.set _ _) rfl ((X1.out.setCell (by (try dsimp only); omega) _).setCell (by (try dsimp only); omega) _) (fun g0 g1 => by simp [results, Tryd.results17, go_sem, g0, g1]) (fun h => ⟨rfl, h⟩)
set_option maxRecDepth 100000 in
theorem vslice_gt (W : World) (a b : Value) (N E : List Int) (x y : Int) (hN : Nm W) (ha : RdZ W a N) (hb : RdZ W b E) (hc : canC N E = true) (h0 : ¬ x < 0) (h : x > y) :
   Calls Tryd.prog 17 #[.agg #[a, b], .int .i64 x, .int .i64 y] W fun r w' => r = .returned (.tuple #[.agg #[.slice none 0 0, .slice none 0 0], .int .i64 1]) ∧ Ext W w' := by
 have c1 := fun w (e : Ext W w) => ccan_any w a b N E (hN.ext e) (ha.1.ext e) (hb.1.ext e)
 obtain ⟨p, cp, rfl, hzz⟩ := ha.1.form
 clear hzz
 obtain ⟨q, cq, rfl, hzz⟩ := hb.1.form
 clear hzz
 obtain ⟨n, e1⟩ : ∃ n, N.length = n := ⟨_, rfl⟩
 obtain ⟨m, e2⟩ : ∃ n, E.length = n := ⟨_, rfl⟩
 rw [e1] at c1 ha
 rw [e2] at c1 hb
 rw [e1, e2]
 obtain ⟨W1, hW⟩ : ∃ W1, (W.alloc (.cells #[.slice p n cp, .slice q m cq] 26)).alloc (.cells #[.slice none 0 0, .slice none 0 0] 26) = W1 := ⟨_, rfl⟩
 have XW : Ext W W1 := by rw [← hW]; exact ((Ext.refl _).alloc _).alloc _
 have B0 : Hid (Blk2 W1 W.heap.size (.slice p n cp) (.slice q m cq)) := by rw [← hW]; exact blk2_top rfl ((Ext.refl _).alloc _)
 have B1 : Hid (Blk2 W1 (W.heap.size + 1) (.slice none 0 0) (.slice none 0 0)) := by rw [← hW]; exact blk2_top (by simp) (Ext.refl _)
 have HW : Hid ((W.alloc (.cells #[.slice p n cp, .slice q m cq] 26)).alloc (.cells #[.slice none 0 0, .slice none 0 0] 26) = W1) := hW
 have HX : Hid (Ext W W1) := XW
 rw [hc] at c1
 clear hc
 clear ha hb hW XW e1 e2 hN
 go_enter Tryd.func17, Tryd.ntmps17
 go_wp2_with fail
 rw [HW.out]
 refine (c1 _ HX.out).mono ?_
 rintro r w1 ⟨rfl, E1⟩
 obtain ⟨_, ⟨k0, k1⟩, f0, f1⟩ := B0.out.ext E1
 obtain ⟨_, ⟨j0, j1⟩, g0, g1⟩ := B1.out.ext E1
 have X1 : Hid (Ext W w1) := HX.out.trans E1
 have Z1 : Hid (Blk2 w1 (W.heap.size + 1) (.slice none 0 0) (.slice none 0 0)) := B1.out.ext E1
 clear E1 c1 B0 B1 HX
 go_wp2_with fail
 exact fin2 _ (Z1.out.set _ _) rfl ((X1.out.setCell (by (try dsimp only); omega) _).setCell (by (try dsimp only); omega) _) (fun g0 g1 => by simp [results, Tryd.results17, go_sem, g0, g1]) (fun h => ⟨rfl, h⟩)
set_option maxRecDepth 100000 in
theorem vslice_len (W : World) (a b : Value) (N E : List Int) (x y : Int) (hN : Nm W) (ha : RdZ W a N) (hb : RdZ W b E) (hc : canC N E = true) (h0 : ¬ x < 0) (h1 : ¬ x > y) (h : y > (N.length : Int)) :
   Calls Tryd.prog 17 #[.agg #[a, b], .int .i64 x, .int .i64 y] W fun r w' => r = .returned (.tuple #[.agg #[.slice none 0 0, .slice none 0 0], .int .i64 1]) ∧ Ext W w' := by
 have c1 := fun w (e : Ext W w) => ccan_any w a b N E (hN.ext e) (ha.1.ext e) (hb.1.ext e)
 obtain ⟨p, cp, rfl, hzz⟩ := ha.1.form
 clear hzz
 obtain ⟨q, cq, rfl, hzz⟩ := hb.1.form
 clear hzz
 obtain ⟨n, e1⟩ : ∃ n, N.length = n := ⟨_, rfl⟩
 obtain ⟨m, e2⟩ : ∃ n, E.length = n := ⟨_, rfl⟩
 rw [e1] at c1 ha
 rw [e2] at c1 hb
 rw [e1, e2]
 obtain ⟨W1, hW⟩ : ∃ W1, (W.alloc (.cells #[.slice p n cp, .slice q m cq] 26)).alloc (.cells #[.slice none 0 0, .slice none 0 0] 26) = W1 := ⟨_, rfl⟩
 have XW : Ext W W1 := by rw [← hW]; exact ((Ext.refl _).alloc _).alloc _
 have B0 : Hid (Blk2 W1 W.heap.size (.slice p n cp) (.slice q m cq)) := by rw [← hW]; exact blk2_top rfl ((Ext.refl _).alloc _)
 have B1 : Hid (Blk2 W1 (W.heap.size + 1) (.slice none 0 0) (.slice none 0 0)) := by rw [← hW]; exact blk2_top (by simp) (Ext.refl _)
 have HW : Hid ((W.alloc (.cells #[.slice p n cp, .slice q m cq] 26)).alloc (.cells #[.slice none 0 0, .slice none 0 0] 26) = W1) := hW
 have HX : Hid (Ext W W1) := XW
 rw [hc] at c1
 clear hc
 rw [e1] at h
 clear ha hb hW XW e1 e2 hN
 go_enter Tryd.func17, Tryd.ntmps17
 go_wp2_with fail
 rw [HW.out]
 refine (c1 _ HX.out).mono ?_
 rintro r w1 ⟨rfl, E1⟩
 obtain ⟨_, ⟨k0, k1⟩, f0, f1⟩ := B0.out.ext E1
 obtain ⟨_, ⟨j0, j1⟩, g0, g1⟩ := B1.out.ext E1
 have X1 : Hid (Ext W w1) := HX.out.trans E1
 have Z1 : Hid (Blk2 w1 (W.heap.size + 1) (.slice none 0 0) (.slice none 0 0)) := B1.out.ext E1
 clear E1 c1 B0 B1 HX
 go_wp2_with fail
 exact fin2 _ (Z1.out.set _ _) rfl ((X1.out.setCell (by (try dsimp only); omega) _).setCell (by (try dsimp only); omega) _) (fun g0 g1 => by simp [results, Tryd.results17, go_sem, g0, g1]) (fun h => ⟨rfl, h⟩)
/-- A part of a list. -/
def cut (l : List Int) (f t : Nat) : List Int := (l.drop f).take (t - f)
theorem cut_len {l : List Int} {f t : Nat} (h1 : f ≤ t) (h2 : t ≤ l.length) : (cut l f t).length = t - f := by
 unfold cut; rw [List.length_take, List.length_drop]; omega
set_option maxRecDepth 100000 in
theorem vslice_ok (W : World) (a b : Value) (N E : List Int) (f t : Nat) (hN : Nm W) (ha : RdZ W a N) (hb : RdZ W b E) (hc : canC N E = true) (hft : f ≤ t) (htn : t ≤ N.length) :
   Calls Tryd.prog 17 #[.agg #[a, b], .int .i64 (f : Int), .int .i64 (t : Int)] W fun r w' => ∃ u v, r = .returned (.tuple #[.agg #[u, v], .int .i64 0]) ∧ VecO W.heap.size w' u v (cut N f t) (cut E f t) ∧ Ext W w' := by
 have c1 := fun w (e : Ext W w) => ccan_any w a b N E (hN.ext e) (ha.1.ext e) (hb.1.ext e)
 rw [hc] at c1
 obtain ⟨l1, l2, _⟩ := (canC_iff N E).1 hc
 obtain ⟨p, cp, rfl, hzz⟩ := ha.1.form
 clear hzz
 obtain ⟨q, cq, rfl, hzz⟩ := hb.1.form
 clear hzz
 obtain ⟨n, e1⟩ : ∃ n, N.length = n := ⟨_, rfl⟩
 obtain ⟨m, e2⟩ : ∃ n, E.length = n := ⟨_, rfl⟩
 rw [e1] at c1 ha l1 l2 htn
 rw [e2] at c1 hb l1
 rw [e1, e2]
 subst l1
 obtain ⟨p', h1, r1, s1⟩ := cut_rd dltL ha.1 f t hft htn
 obtain ⟨q', h2, r2, s2⟩ := cut_rd dltI hb.1 f t hft htn
 have z1 : RdZ W (.slice p' (t - f) (cp - f)) (cut N f t) := ⟨r1, fun _ _ _ ad e e' => by cases e; exact s1 (fun ad h => ha.2 _ _ _ _ rfl h) ad e'⟩
 have z2 : RdZ W (.slice q' (t - f) (cq - f)) (cut E f t) := ⟨r2, fun _ _ _ ad e e' => by cases e; exact s2 (fun ad h => hb.2 _ _ _ _ rfl h) ad e'⟩
 have c2 := fun w (e : Ext W w) => (vclone_any w _ _ _ _ (z1.ext e) (z2.ext e) (by rw [cut_len hft (by omega)]; omega) (by rw [cut_len hft (by omega)]; omega))
 obtain ⟨A, hA⟩ : ∃ A, cut N f t = A := ⟨_, rfl⟩
 obtain ⟨B, hB⟩ : ∃ A, cut E f t = A := ⟨_, rfl⟩
 rw [hA, hB] at c2
 rw [hA, hB]
 have h3 : ¬ ((f : Int) < 0) := by omega
 have h4 : ¬ ((f : Int) > (t : Int)) := by omega
 have h5 : ¬ ((t : Int) > (n : Int)) := by omega
 have d3 : decide ((f : Int) < 0) = false := by simp
 have d4 : decide ((f : Int) > (t : Int)) = false := by simp; omega
 have d5 : decide ((t : Int) > (n : Int)) = false := by simp; omega
 obtain ⟨W1, hW⟩ : ∃ W1, (W.alloc (.cells #[.slice p n cp, .slice q n cq] 26)).alloc (.cells #[.slice none 0 0, .slice none 0 0] 26) = W1 := ⟨_, rfl⟩
 have XW : Ext W W1 := by rw [← hW]; exact ((Ext.refl _).alloc _).alloc _
 have B0 : Hid (Blk2 W1 W.heap.size (.slice p n cp) (.slice q n cq)) := by rw [← hW]; exact blk2_top rfl ((Ext.refl _).alloc _)
 have B1 : Hid (Blk2 W1 (W.heap.size + 1) (.slice none 0 0) (.slice none 0 0)) := by rw [← hW]; exact blk2_top (by simp) (Ext.refl _)
 have HW : Hid ((W.alloc (.cells #[.slice p n cp, .slice q n cq] 26)).alloc (.cells #[.slice none 0 0, .slice none 0 0] 26) = W1) := hW
 have HX : Hid (Ext W W1) := XW
 clear ha hb hW XW e1 e2 hN hA hB z1 z2 r1 r2 s1 s2 hft htn l2 hc
 go_enter Tryd.func17, Tryd.ntmps17
 go_wp2_with fail
 rw [HW.out]
 refine (c1 _ HX.out).mono ?_
 rintro r w1 ⟨rfl, E1⟩
 obtain ⟨_, ⟨k0, k1⟩, f0, f1⟩ := B0.out.ext E1
 obtain ⟨_, ⟨j0, j1⟩, g0, g1⟩ := B1.out.ext E1
 have X1 : Hid (Ext W w1) := HX.out.trans E1
 have Z1 : Hid (Blk2 w1 (W.heap.size + 1) (.slice none 0 0) (.slice none 0 0)) := B1.out.ext E1
 clear E1 c1 B0 B1 HX
 go_upto_region 3 with fail
 refine wp_region_held_drew (S := fun w => w.cell? ⟨W.heap.size, 0, none⟩ = some (.slice p n cp) ∧ w.cell? ⟨W.heap.size, 1, none⟩ = some (.slice q n cq)) (by kernel_rfl) ?_ (fun hHeld0 => ?_)
 · first | exact ⟨k0, k1⟩ | exact ⟨E2.some k0, E2.some k1⟩ | exact ⟨by simp [E2.some k0, World.cell?_setCell_other], by simp [E2.some k1, World.cell?_setCell_other]⟩
 refine wpAnyH_take (i := 0) (oi := ⟨some 28, .fieldAddr 26 (.tmp 3) 0, 0, "column.go:81", #[], none⟩) (v := ?_) rfl (by kernel_rfl) (by kernel_rfl) (by kernel_rfl) (fun _ _ _ h => h) (Or.inl ⟨by rfl, ?_⟩) (by assumption) ?_
 rotate_left
 · intro w hSw; (try dsimp only at hSw); first | (go_simp; done) | (go_simp; with_reducible rfl)
 try simp only [Act.put, List.setIfInBounds_toArray, List.set_cons_zero, List.set_cons_succ]
 refine wpAnyH_take (i := 1) (oi := ⟨some 29, .load 23 (.tmp 28), 23, "column.go:81", #[⟨0, .data⟩], none⟩) (v := ?_) rfl (by kernel_rfl) (by kernel_rfl) (by kernel_rfl) (fun _ _ _ h => h) (Or.inl ⟨by rfl, ?_⟩) (by assumption) ?_
 rotate_left
 · intro w hSw; (try dsimp only at hSw); first | (go_simp; done) | (go_simp; with_reducible rfl)
 try simp only [Act.put, List.setIfInBounds_toArray, List.set_cons_zero, List.set_cons_succ]
 refine wpAnyH_take (i := 2) (oi := ⟨some 30, .move (.tmp 1), 3, "column.go:81", #[], none⟩) (v := ?_) rfl (by kernel_rfl) (by kernel_rfl) (by kernel_rfl) (fun _ _ _ h => h) (Or.inl ⟨by rfl, ?_⟩) (by assumption) ?_
 rotate_left
 · intro w hSw; (try dsimp only at hSw); first | (go_simp; done) | (go_simp; with_reducible rfl)
 try simp only [Act.put, List.setIfInBounds_toArray, List.set_cons_zero, List.set_cons_succ]
 refine wpAnyH_take (i := 3) (oi := ⟨some 31, .move (.tmp 2), 3, "column.go:81", #[], none⟩) (v := ?_) rfl (by kernel_rfl) (by kernel_rfl) (by kernel_rfl) (fun _ _ _ h => h) (Or.inl ⟨by rfl, ?_⟩) (by assumption) ?_
 rotate_left
 · intro w hSw; (try dsimp only at hSw); first | (go_simp; done) | (go_simp; with_reducible rfl)
 try simp only [Act.put, List.setIfInBounds_toArray, List.set_cons_zero, List.set_cons_succ]
 refine wpAnyH_take (i := 4) (oi := ⟨some 32, .slice 23 (.tmp 29) (some (.tmp 30)) (some (.tmp 31)) none, 23, "column.go:81", #[⟨1, .data⟩, ⟨2, .data⟩, ⟨3, .data⟩], none⟩) (v := ?_) rfl (by kernel_rfl) (by kernel_rfl) (by kernel_rfl) (fun _ _ _ h => h) (Or.inl ⟨by rfl, ?_⟩) (by assumption) ?_
 rotate_left
 · intro w hSw; (try dsimp only at hSw); first | (go_simp; done) | (go_simp; with_reducible rfl)
 try simp only [Act.put, List.setIfInBounds_toArray, List.set_cons_zero, List.set_cons_succ]
 refine wpAnyH_take (i := 5) (oi := ⟨some 33, .fieldAddr 26 (.tmp 3) 1, 0, "column.go:81", #[], none⟩) (v := ?_) rfl (by kernel_rfl) (by kernel_rfl) (by kernel_rfl) (fun _ _ _ h => h) (Or.inl ⟨by rfl, ?_⟩) (by assumption) ?_
 rotate_left
 · intro w hSw; (try dsimp only at hSw); first | (go_simp; done) | (go_simp; with_reducible rfl)
 try simp only [Act.put, List.setIfInBounds_toArray, List.set_cons_zero, List.set_cons_succ]
 refine wpAnyH_take (i := 6) (oi := ⟨some 34, .load 24 (.tmp 33), 24, "column.go:81", #[⟨5, .data⟩], none⟩) (v := ?_) rfl (by kernel_rfl) (by kernel_rfl) (by kernel_rfl) (fun _ _ _ h => h) (Or.inl ⟨by rfl, ?_⟩) (by assumption) ?_
 rotate_left
 · intro w hSw; (try dsimp only at hSw); first | (go_simp; done) | (go_simp; with_reducible rfl)
 try simp only [Act.put, List.setIfInBounds_toArray, List.set_cons_zero, List.set_cons_succ]
 refine wpAnyH_take (i := 7) (oi := ⟨some 35, .move (.tmp 1), 3, "column.go:81", #[], none⟩) (v := ?_) rfl (by kernel_rfl) (by kernel_rfl) (by kernel_rfl) (fun _ _ _ h => h) (Or.inl ⟨by rfl, ?_⟩) (by assumption) ?_
 rotate_left
 · intro w hSw; (try dsimp only at hSw); first | (go_simp; done) | (go_simp; with_reducible rfl)
 try simp only [Act.put, List.setIfInBounds_toArray, List.set_cons_zero, List.set_cons_succ]
 refine wpAnyH_take (i := 8) (oi := ⟨some 36, .move (.tmp 2), 3, "column.go:81", #[], none⟩) (v := ?_) rfl (by kernel_rfl) (by kernel_rfl) (by kernel_rfl) (fun _ _ _ h => h) (Or.inl ⟨by rfl, ?_⟩) (by assumption) ?_
 rotate_left
 · intro w hSw; (try dsimp only at hSw); first | (go_simp; done) | (go_simp; with_reducible rfl)
 try simp only [Act.put, List.setIfInBounds_toArray, List.set_cons_zero, List.set_cons_succ]
 refine wpAnyH_take (i := 9) (oi := ⟨some 37, .slice 24 (.tmp 34) (some (.tmp 35)) (some (.tmp 36)) none, 24, "column.go:81", #[⟨6, .data⟩, ⟨7, .data⟩, ⟨8, .data⟩], none⟩) (v := ?_) rfl (by kernel_rfl) (by kernel_rfl) (by kernel_rfl) (fun _ _ _ h => h) (Or.inl ⟨by rfl, ?_⟩) (by assumption) ?_
 rotate_left
 · intro w hSw; (try dsimp only at hSw); first | (go_simp; done) | (go_simp; with_reducible rfl)
 try simp only [Act.put, List.setIfInBounds_toArray, List.set_cons_zero, List.set_cons_succ]
 refine wpAnyH_take (i := 10) (oi := ⟨some 38, .build 26 #[(0, .tmp 32), (1, .tmp 37)], 26, "column.go:81", #[⟨4, .data⟩, ⟨9, .data⟩], none⟩) (v := ?_) rfl (by kernel_rfl) (by kernel_rfl) (by kernel_rfl) (fun _ _ _ h => h) (Or.inl ⟨by rfl, ?_⟩) (by assumption) ?_
 rotate_left
 · intro w hSw; (try dsimp only at hSw); first | (go_simp; done) | (go_simp; with_reducible rfl)
 try simp only [Act.put, List.setIfInBounds_toArray, List.set_cons_zero, List.set_cons_succ]
 refine wpAnyH_ready (rs := [11]) (by kernel_rfl) (by simp) ?_
 refine AllReadyH.cons (o := ⟨some 39, .call { callee := .value (.func 33), args := #[.tmp 38], argTypes := #[26] }, 26, "column.go:81", #[⟨10, .data⟩], none⟩) rfl (fun K hK => ?_) AllReadyH.nil
 go_simp
 refine (c2 _ X1.out.dr).mono ?_; rintro r w2 ⟨u, v, rfl, o1, E2⟩; obtain ⟨p3, c3, rfl, hzz⟩ := own_form o1.1; obtain ⟨p7, c7, rfl, hzz2⟩ := own_form o1.2; clear hzz hzz2; obtain ⟨_, ⟨j0, j1⟩, g0, g1⟩ := Z1.out.ext ((Ext.refl _).drew.trans E2)
 try go_wp2_with fail
 refine hK.out _ _ ?_ (fun hHeld1 => ?_)
 · (try dsimp only); first | exact ⟨k0, k1⟩ | exact ⟨E2.some k0, E2.some k1⟩ | exact ⟨by simp [E2.some k0, World.cell?_setCell_other], by simp [E2.some k1, World.cell?_setCell_other]⟩
 clear hK K hHeld0
 try simp only [Act.put, List.setIfInBounds_toArray, List.set_cons_zero, List.set_cons_succ]
 refine wpAnyH_ready (rs := [12]) (by kernel_rfl) (by simp) ?_
 refine AllReadyH.cons (o := ⟨none, .store 26 (.tmp 6) (.tmp 39), 0, "column.go:81", #[⟨11, .data⟩, ⟨11, .chain⟩, ⟨0, .phase⟩, ⟨1, .phase⟩, ⟨2, .phase⟩, ⟨3, .phase⟩, ⟨4, .phase⟩, ⟨5, .phase⟩, ⟨6, .phase⟩, ⟨7, .phase⟩, ⟨8, .phase⟩, ⟨9, .phase⟩, ⟨10, .phase⟩, ⟨11, .phase⟩], none⟩) rfl (fun K hK => ?_) AllReadyH.nil
 go_simp
 
 try go_wp2_with fail
 refine hK.out _ _ ?_ (fun hHeld2 => ?_)
 · (try dsimp only); first | exact ⟨k0, k1⟩ | exact ⟨E2.some k0, E2.some k1⟩ | exact ⟨by simp [E2.some k0, World.cell?_setCell_other], by simp [E2.some k1, World.cell?_setCell_other]⟩
 clear hK K hHeld1
 try simp only [Act.put, List.setIfInBounds_toArray, List.set_cons_zero, List.set_cons_succ]
 refine wpAnyH_take (i := 13) (oi := ⟨some 7, .assign (.const (.int .i64 0)), 39, "column.go:81", #[⟨12, .chain⟩, ⟨0, .phase⟩, ⟨1, .phase⟩, ⟨2, .phase⟩, ⟨3, .phase⟩, ⟨4, .phase⟩, ⟨5, .phase⟩, ⟨6, .phase⟩, ⟨7, .phase⟩, ⟨8, .phase⟩, ⟨9, .phase⟩, ⟨10, .phase⟩, ⟨11, .phase⟩, ⟨12, .phase⟩], none⟩) (v := ?_) rfl (by kernel_rfl) (by kernel_rfl) (by kernel_rfl) (fun _ _ _ h => h) (Or.inl ⟨by rfl, ?_⟩) (by assumption) ?_
 rotate_left
 · intro w hSw; (try dsimp only at hSw); first | (go_simp; done) | (go_simp; with_reducible rfl)
 try simp only [Act.put, List.setIfInBounds_toArray, List.set_cons_zero, List.set_cons_succ]
 refine wpAnyH_done (by kernel_rfl) ?_ _
 have hs1 := Z1.out.1
 have XE : Ext w1 w2 := (Ext.refl _).drew.trans E2
 have F3 : w2.ownsRow w1.heap.size 2 1 (.slice p3 A.length c3) A.length (A.flatMap dI) := o1.1
 have F7 : w2.ownsRow w1.heap.size 3 1 (.slice p7 B.length c7) B.length (B.flatMap dI) := o1.2
 have Z2 : Hid (Blk2 ((w2.setCell ⟨W.heap.size + 1, 0, none⟩ (.slice p3 A.length c3)).setCell ⟨W.heap.size + 1, 1, none⟩ (.slice p7 B.length c7)) (W.heap.size + 1) (.slice p3 A.length c3) (.slice p7 B.length c7)) := (Z1.out.ext XE).set _ _
 have R3 : Hid (VecO W.heap.size ((w2.setCell ⟨W.heap.size + 1, 0, none⟩ (.slice p3 A.length c3)).setCell ⟨W.heap.size + 1, 1, none⟩ (.slice p7 B.length c7)) (.slice p3 A.length c3) (.slice p7 B.length c7) A B) := ⟨ownsRow_mono (own_off (own_off F3 hs1 _) hs1 _) X1.out.size, ownsRow_mono (own_off (own_off F7 hs1 _) hs1 _) X1.out.size⟩
 have X2 : Hid (Ext W ((w2.setCell ⟨W.heap.size + 1, 0, none⟩ (.slice p3 A.length c3)).setCell ⟨W.heap.size + 1, 1, none⟩ (.slice p7 B.length c7))) := ((X1.out.trans XE).setCell (by (try dsimp only); omega) _).setCell (by (try dsimp only); omega) _
 clear F3 F7 XE hs1 o1 E2 j0 j1 g0 g1 k0 k1 c2
 try clear hHeld3
 try clear hHeld2
 try clear hHeld1
 generalize A.length = la at *
 generalize B.length = lb at *
 generalize (w2.setCell ⟨W.heap.size + 1, 0, none⟩ (.slice p3 la c3)).setCell ⟨W.heap.size + 1, 1, none⟩ (.slice p7 lb c7) = W2 at *
 go_wp2_with fail
 exact fin2 _ Z2.out rfl X2.out (fun g0 g1 => by simp [results, Tryd.results17, go_sem, g0, g1]) (fun h => ⟨_, _, rfl, R3.out, h⟩)

open Go.RowKit
set_option maxHeartbeats 2000000

theorem sj_of {w : World} {b6 b1 b2 : Nat} {u v c d : Value} (h1 : VB w b6 u v) (h2 : VB w b1 c d) (h3 : ∃ x y, VB w b2 x y) : ((w.cell? ⟨b6, 0, none⟩ = some u ∧ w.cell? ⟨b6, 1, none⟩ = some v ∧ w.cell? ⟨b1, 0, none⟩ = some c ∧ w.cell? ⟨b1, 1, none⟩ = some d) ∧ VB w b6 u v ∧ VB w b1 c d ∧ ∃ x y, VB w b2 x y) :=
 ⟨⟨h1.blk.2.1.1, h1.blk.2.1.2, h2.blk.2.1.1, h2.blk.2.1.2⟩, h1, h2, h3⟩
theorem sj_keep {w w' : World} {b6 b1 b2 : Nat} {u v c d : Value} {T : TypeId} (h : ((w.cell? ⟨b6, 0, none⟩ = some u ∧ w.cell? ⟨b6, 1, none⟩ = some v ∧ w.cell? ⟨b1, 0, none⟩ = some c ∧ w.cell? ⟨b1, 1, none⟩ = some d) ∧ VB w b6 u v ∧ VB w b1 c d ∧ ∃ x y, VB w b2 x y)) (hT : 26 ≠ T) (e : ExtT T w w') : ((w'.cell? ⟨b6, 0, none⟩ = some u ∧ w'.cell? ⟨b6, 1, none⟩ = some v ∧ w'.cell? ⟨b1, 0, none⟩ = some c ∧ w'.cell? ⟨b1, 1, none⟩ = some d) ∧ VB w' b6 u v ∧ VB w' b1 c d ∧ ∃ x y, VB w' b2 x y) := by
 obtain ⟨_, h1, h2, x, y, h3⟩ := h
 exact sj_of (h1.extT hT e) (h2.extT hT e) ⟨x, y, h3.extT hT e⟩
theorem vec_T : 26 ≠ 2 ∧ 26 ≠ 3 := by decide
set_option maxRecDepth 100000 in
theorem vjoin_ok (W : World) (a b c d : Value) (N E M G : List Int) (hN : Nm W) (ha : RdZ W a N) (hb : RdZ W b E) (hc : RdI W c M) (hd : RdI W d G) (h1 : canC N E = true) (h2 : canC M G = true) (h : N.length + M.length ≤ 1000) :
   Calls Tryd.prog 18 #[.agg #[a, b], .agg #[c, d]] W fun r w' => ∃ u v, r = .returned (.tuple #[.agg #[u, v], .int .i64 0]) ∧ VecO W.heap.size w' u v (N ++ M) (E ++ G) ∧ Ext W w' := by
 have c1 := fun w (e : Ext W w) => ccan_any w a b N E (hN.ext e) (ha.1.ext e) (hb.1.ext e)
 have c2 := fun w (e : Ext W w) => ccan_any w c d M G (hN.ext e) (hc.ext e) (hd.ext e)
 obtain ⟨l1, l2, _⟩ := (canC_iff N E).1 h1
 obtain ⟨l3, l4, _⟩ := (canC_iff M G).1 h2
 have cv := fun w (e : Ext W w) => vclone_any w a b N E (ha.ext e) (hb.ext e) (by omega) (by omega)
 obtain ⟨p, cp, rfl, hzz⟩ := ha.1.form
 clear hzz
 obtain ⟨q, cq, rfl, hzz⟩ := hb.1.form
 clear hzz
 obtain ⟨p', cp', rfl, hzz⟩ := hc.form
 clear hzz
 obtain ⟨q', cq', rfl, hzz⟩ := hd.form
 clear hzz
 obtain ⟨n, e1⟩ : ∃ n, N.length = n := ⟨_, rfl⟩
 obtain ⟨m, e2⟩ : ∃ n, E.length = n := ⟨_, rfl⟩
 obtain ⟨k, e3⟩ : ∃ n, M.length = n := ⟨_, rfl⟩
 obtain ⟨g, e4⟩ : ∃ n, G.length = n := ⟨_, rfl⟩
 rw [e1] at c1 ha
 rw [e2] at c1 hb
 rw [e3] at c2 hc
 rw [e4] at c2 hd
 rw [e1, e2, e3, e4]
 rw [e1] at l1 l2 h cv
 rw [e2] at l1 cv
 rw [e3] at l3 l4 h
 rw [e4] at l3
 subst l1
 subst l3
 rw [h1] at c1
 rw [h2] at c2
 have wk : wrap64 ((n : Int) + (k : Int)) = ((n + k : Nat) : Int) := by unfold wrap64; omega
 have hI : ¬ ((n + k : Nat) : Int) > 1000 := by omega
 have hd0 : decide (((n + k : Nat) : Int) > 1000) = false := by simp; omega
 have HL : Hid (N.length = n ∧ E.length = n ∧ M.length = k ∧ G.length = k ∧ n + k ≤ 1000) := ⟨e1, e2, e3, e4, h⟩
 obtain ⟨W1, hW⟩ : ∃ W1, ((W.alloc (.cells #[.slice p n cp, .slice q n cq] 26)).alloc (.cells #[.slice p' k cp', .slice q' k cq'] 26)).alloc (.cells #[.slice none 0 0, .slice none 0 0] 26) = W1 := ⟨_, rfl⟩
 have XW : Ext W W1 := by rw [← hW]; exact (((Ext.refl _).alloc _).alloc _).alloc _
 have B0 : Hid (VB W1 W.heap.size (.slice p n cp) (.slice q n cq)) := by rw [← hW]; exact vb_top rfl (((Ext.refl _).alloc _).alloc _)
 have B1 : Hid (VB W1 (W.heap.size + 1) (.slice p' k cp') (.slice q' k cq')) := by rw [← hW]; exact vb_top (by simp) ((Ext.refl _).alloc _)
 have B2 : Hid (VB W1 (W.heap.size + 1 + 1) (.slice none 0 0) (.slice none 0 0)) := by rw [← hW]; exact vb_top (by simp) (Ext.refl _)
 have HW : Hid (((W.alloc (.cells #[.slice p n cp, .slice q n cq] 26)).alloc (.cells #[.slice p' k cp', .slice q' k cq'] 26)).alloc (.cells #[.slice none 0 0, .slice none 0 0] 26) = W1) := hW
 have HX : Hid (Ext W W1) := XW
 have HC : Hid (RdI W (.slice p' k cp') M) := hc
 have HD : Hid (RdI W (.slice q' k cq') G) := hd
 clear h1 h2 e1 e2 e3 e4 l2 l4 h ha hb hc hd hN hW XW
 go_enter Tryd.func18, Tryd.ntmps18
 go_wp2_with fail
 rw [HW.out]
 refine (c1 _ HX.out).mono ?_
 rintro r w1 ⟨rfl, E1⟩
 obtain ⟨_, ⟨k0, k1⟩, f0, f1⟩ := (B0.out.ext E1).blk
 obtain ⟨_, ⟨i0, i1⟩, d0, d1⟩ := (B1.out.ext E1).blk
 obtain ⟨_, ⟨j0, j1⟩, g0, g1⟩ := (B2.out.ext E1).blk
 have X1 : Hid (Ext W w1) := HX.out.trans E1
 clear f0 f1 d0 d1 g0 g1 c1
 go_wp2_with fail
 refine (c2 _ X1.out).mono ?_
 rintro r w2 ⟨rfl, E2⟩
 have E12 : Ext W1 w2 := E1.trans E2
 clear k0 k1 i0 i1 j0 j1 E1
 obtain ⟨_, ⟨k0, k1⟩, f0, f1⟩ := (B0.out.ext E12).blk
 obtain ⟨_, ⟨i0, i1⟩, d0, d1⟩ := (B1.out.ext E12).blk
 obtain ⟨_, ⟨j0, j1⟩, g0, g1⟩ := (B2.out.ext E12).blk
 have X2 : Hid (Ext W w2) := X1.out.trans E2
 clear E2 c2 X1
 go_wp2_with fail
 refine (cv _ X2.out).mono ?_
 rintro r w3 ⟨v1, v2, rfl, o1, E3⟩
 have E13 : Ext W1 w3 := E12.trans E3
 have X3 : Ext W w3 := X2.out.trans E3
 have O : VecO W.heap.size w3 v1 v2 N E := o1.low X2.out.size
 obtain ⟨p3, c3, hv1, hzz⟩ := own_form O.1
 clear hzz
 obtain ⟨p7, c7, hv2, hzz⟩ := own_form O.2
 clear hzz
 rw [HL.out.1] at hv1
 rw [HL.out.2.1] at hv2
 subst hv1
 subst hv2
 clear k0 k1 i0 i1 j0 j1 f0 f1 d0 d1 g0 g1
 have V0 := (vb_top (w := w3) (x := .slice none 0 0) (y := .slice none 0 0) rfl (Ext.refl _)).blk
 obtain ⟨_, ⟨j0, j1⟩, g0, g1⟩ := V0
 clear cv
 go_wp2_with fail
 clear j0 j1 g0 g1
 have V1w := B1.out.ext E13
 have V2w := B2.out.ext E13
 obtain ⟨W6, hW6⟩ : ∃ W6, w3.alloc (.cells #[.slice p3 n c3, .slice p7 n c7] 26) = W6 := ⟨_, rfl⟩
 have e36 : Ext w3 W6 := by rw [← hW6]; exact (Ext.refl _).alloc _
 have v6 : VB W6 w3.heap.size (.slice p3 n c3) (.slice p7 n c7) := by rw [← hW6]; exact vb_top rfl (Ext.refl _)
 rw [hW6]
 clear hW6
 have HB : Hid (w3.heap.size ≠ W.heap.size + 1 + 1) := by have := V2w.lt; show _ ≠ _; omega
 generalize w3.heap.size = b6 at *
 have V6 : Hid (VB W6 b6 (.slice p3 n c3) (.slice p7 n c7)) := v6
 have V1 : Hid (VB W6 (W.heap.size + 1) (.slice p' k cp') (.slice q' k cq')) := V1w.ext e36
 have VR : Hid (VB W6 (W.heap.size + 1 + 1) (.slice none 0 0) (.slice none 0 0)) := V2w.ext e36
 have X6 : Hid (Ext W W6) := X3.trans e36
 have O3 : Hid (W6.ownsRow W.heap.size 2 1 (.slice p3 n c3) n (N.flatMap dI)) := by have := ownsRow_ext O.1 e36; rw [HL.out.1] at this; exact this
 have O7 : Hid (W6.ownsRow W.heap.size 3 1 (.slice p7 n c7) n (E.flatMap dI)) := by have := ownsRow_ext O.2 e36; rw [HL.out.2.1] at this; exact this
 clear v6 e36 V1w V2w E13 E12 E3 X3 X2 O o1 wk hd0 hI B0 B1 B2 HX HW
 refine wp_region_held_drew (S := fun w => ((w.cell? ⟨b6, 0, none⟩ = some (.slice p3 n c3) ∧ w.cell? ⟨b6, 1, none⟩ = some (.slice p7 n c7) ∧ w.cell? ⟨(W.heap.size + 1), 0, none⟩ = some (.slice p' k cp') ∧ w.cell? ⟨(W.heap.size + 1), 1, none⟩ = some (.slice q' k cq')) ∧ VB w b6 (.slice p3 n c3) (.slice p7 n c7) ∧ VB w (W.heap.size + 1) (.slice p' k cp') (.slice q' k cq') ∧ ∃ x y, VB w (W.heap.size + 1 + 1) x y)) (by kernel_rfl) ?_ (fun hHeld0 => ?_)
 · exact sj_of (V6.out.ext (Ext.refl _).drew) (V1.out.ext (Ext.refl _).drew) ⟨_, _, VR.out.ext (Ext.refl _).drew⟩
 refine wpAnyH_take (i := 0) (oi := ⟨some 27, .fieldAddr 26 (.tmp 6) 0, 0, "column.go:93", #[], none⟩) (v := ?_) rfl (by kernel_rfl) (by kernel_rfl) (by kernel_rfl) (fun _ _ _ h => h) (Or.inl ⟨by rfl, ?_⟩) (by assumption) ?_
 rotate_left
 · intro w hSw; (try dsimp only at hSw); first | (go_simp; done) | (go_simp; with_reducible rfl)
 try simp only [Act.put, List.setIfInBounds_toArray, List.set_cons_zero, List.set_cons_succ]
 refine wpAnyH_take (i := 1) (oi := ⟨some 28, .load 23 (.tmp 27), 23, "column.go:93", #[⟨0, .data⟩], none⟩) (v := ?_) rfl (by kernel_rfl) (by kernel_rfl) (by kernel_rfl) (fun _ _ _ h => h) (Or.inl ⟨by rfl, ?_⟩) (by assumption) ?_
 rotate_left
 · intro w hSw; (try dsimp only at hSw); first | (go_simp; done) | (go_simp; with_reducible rfl)
 try simp only [Act.put, List.setIfInBounds_toArray, List.set_cons_zero, List.set_cons_succ]
 refine wpAnyH_take (i := 2) (oi := ⟨some 29, .fieldAddr 26 (.tmp 3) 0, 0, "column.go:93", #[], none⟩) (v := ?_) rfl (by kernel_rfl) (by kernel_rfl) (by kernel_rfl) (fun _ _ _ h => h) (Or.inl ⟨by rfl, ?_⟩) (by assumption) ?_
 rotate_left
 · intro w hSw; (try dsimp only at hSw); first | (go_simp; done) | (go_simp; with_reducible rfl)
 try simp only [Act.put, List.setIfInBounds_toArray, List.set_cons_zero, List.set_cons_succ]
 refine wpAnyH_take (i := 3) (oi := ⟨some 30, .load 23 (.tmp 29), 23, "column.go:93", #[⟨2, .data⟩], none⟩) (v := ?_) rfl (by kernel_rfl) (by kernel_rfl) (by kernel_rfl) (fun _ _ _ h => h) (Or.inl ⟨by rfl, ?_⟩) (by assumption) ?_
 rotate_left
 · intro w hSw; (try dsimp only at hSw); first | (go_simp; done) | (go_simp; with_reducible rfl)
 try simp only [Act.put, List.setIfInBounds_toArray, List.set_cons_zero, List.set_cons_succ]
 refine wpAnyH_take (i := 5) (oi := ⟨some 32, .fieldAddr 26 (.tmp 6) 1, 0, "column.go:93", #[], none⟩) (v := ?_) rfl (by kernel_rfl) (by kernel_rfl) (by kernel_rfl) (fun _ _ _ h => h) (Or.inl ⟨by rfl, ?_⟩) (by assumption) ?_
 rotate_left
 · intro w hSw; (try dsimp only at hSw); first | (go_simp; done) | (go_simp; with_reducible rfl)
 try simp only [Act.put, List.setIfInBounds_toArray, List.set_cons_zero, List.set_cons_succ]
 refine wpAnyH_take (i := 6) (oi := ⟨some 33, .load 24 (.tmp 32), 24, "column.go:93", #[⟨5, .data⟩], none⟩) (v := ?_) rfl (by kernel_rfl) (by kernel_rfl) (by kernel_rfl) (fun _ _ _ h => h) (Or.inl ⟨by rfl, ?_⟩) (by assumption) ?_
 rotate_left
 · intro w hSw; (try dsimp only at hSw); first | (go_simp; done) | (go_simp; with_reducible rfl)
 try simp only [Act.put, List.setIfInBounds_toArray, List.set_cons_zero, List.set_cons_succ]
 refine wpAnyH_take (i := 7) (oi := ⟨some 34, .fieldAddr 26 (.tmp 3) 1, 0, "column.go:93", #[], none⟩) (v := ?_) rfl (by kernel_rfl) (by kernel_rfl) (by kernel_rfl) (fun _ _ _ h => h) (Or.inl ⟨by rfl, ?_⟩) (by assumption) ?_
 rotate_left
 · intro w hSw; (try dsimp only at hSw); first | (go_simp; done) | (go_simp; with_reducible rfl)
 try simp only [Act.put, List.setIfInBounds_toArray, List.set_cons_zero, List.set_cons_succ]
 refine wpAnyH_take (i := 8) (oi := ⟨some 35, .load 24 (.tmp 34), 24, "column.go:93", #[⟨7, .data⟩], none⟩) (v := ?_) rfl (by kernel_rfl) (by kernel_rfl) (by kernel_rfl) (fun _ _ _ h => h) (Or.inl ⟨by rfl, ?_⟩) (by assumption) ?_
 rotate_left
 · intro w hSw; (try dsimp only at hSw); first | (go_simp; done) | (go_simp; with_reducible rfl)
 try simp only [Act.put, List.setIfInBounds_toArray, List.set_cons_zero, List.set_cons_succ]
 refine wpAnyH_letter (fun A0 hA0 => ?_)
 refine any_free_gen (l0 := #[true, true, true, true, false, true, true, true, true, false, false, false, false]) (lf := #[true, true, true, true, true, true, true, true, true, true, false, false, false]) ⟨[4, 9], [1, 6], (fun j => match j with | 4 => some 2 | 9 => some 3 | _ => none), (fun j => match j with | 1 => some 2 | 4 => some 2 | 6 => some 3 | 9 => some 3 | _ => none), (fun j => match j with | 1 => 4 | 6 => 9 | _ => 1000)⟩ (by kernel_rfl) (by kernel_rfl) 3 W _ (mkA [(4, 31), (9, 36)] A0) (fun j x w => match j with | 1 => w.ownsRow W.heap.size 2 1 (.slice p3 n c3) n ((N).flatMap dI) | 4 => w.ownsRow W.heap.size 2 1 x (n + k) ((N ++ M).flatMap dI) | 6 => w.ownsRow W.heap.size 3 1 (.slice p7 n c7) n ((E).flatMap dI) | 9 => w.ownsRow W.heap.size 3 1 x (n + k) ((E ++ G).flatMap dI) | _ => True) ?h01 (by assumption) ?hS ?hall ?hfin (fun j => match j with | 4 => A0.tmps.getD 31 undef | 9 => A0.tmps.getD 36 undef | _ => undef) ?hpre ?hX _ (by kernel_rfl)
 case h01 => exact X6.out.drew
 case hX => subst hA0; kernel_rfl
 case hS => intro i hi w w' hw e hg; (have hi : i = 4 ∨ i = 9 := by simpa using hi); exact hi.elim (fun h => by subst h; exact sj_keep hw vec_T.1 hg) (fun h => by subst h; exact sj_keep hw vec_T.2 hg)
 case hall =>
   subst hA0
   refine AllS.cons (o := ⟨some 31, .call { callee := .builtin .append, args := #[.tmp 28, .tmp 30], argTypes := #[23, 23] }, 23, "column.go:93", #[⟨1, .data⟩, ⟨3, .data⟩], none⟩) rfl rfl (fun _ _ => by kernel_rfl) (fun _ _ _ h e => ownsRow_ext h e) (fun _ _ _ _ _ h ht e => ownsRow_keep h (fun hh => ht hh) e) (fun X w' hE hSw hX => ?_) ?_
   · have f1 := hX 1 (by kernel_rfl)
     exact rt_append (base := W.heap.size) (v := (.slice p3 n c3)) (va := (.slice p' k cp')) (m := k) (n := n) (q := n + k) (l := N) (news := M) dltL dI_len dI_one rfl (by kernel_rfl) (by kernel_rfl) f1 (HC.out.ext hE) (HL.out.2.2.1) rfl (by have := HL.out; unfold maxLen; omega) (by have := HL.out; omega) hE (Nat.le_refl _) hE.size
   refine AllS.cons (o := ⟨some 36, .call { callee := .builtin .append, args := #[.tmp 33, .tmp 35], argTypes := #[24, 24] }, 24, "column.go:93", #[⟨6, .data⟩, ⟨8, .data⟩, ⟨4, .chain⟩], none⟩) rfl rfl (fun _ _ => by kernel_rfl) (fun _ _ _ h e => ownsRow_ext h e) (fun _ _ _ _ _ h ht e => ownsRow_keep h (fun hh => ht hh) e) (fun X w' hE hSw hX => ?_) ?_
   · have f1 := hX 6 (by kernel_rfl)
     exact rt_append (base := W.heap.size) (v := (.slice p7 n c7)) (va := (.slice q' k cq')) (m := k) (n := n) (q := n + k) (l := E) (news := G) dltI dI_len dI_one rfl (by kernel_rfl) (by kernel_rfl) f1 (HD.out.ext hE) (HL.out.2.2.2.1) rfl (by have := HL.out; unfold maxLen; omega) (by have := HL.out; omega) hE (Nat.le_refl _) hE.size
   exact AllS.nil
 case hpre =>
   refine AllP.cons (fun _ _ _ h e => ownsRow_ext h e) (fun _ _ _ _ _ h ht e => ownsRow_keep h (fun hh => ht hh) e) ((ownsRow_ext O3.out (Ext.refl _).drew)) ?_
   refine AllP.cons (fun _ _ _ h e => ownsRow_ext h e) (fun _ _ _ _ _ h ht e => ownsRow_keep h (fun hh => ht hh) e) ((ownsRow_ext O7.out (Ext.refl _).drew)) ?_
   exact AllP.nil
 case hfin =>
   intro X w' n' hE hSw hX
   subst hA0
   have f3 : w'.ownsRow W.heap.size 2 1 (X 4) (n + k) ((N ++ M).flatMap dI) := hX 4 (by kernel_rfl)
   have f7 : w'.ownsRow W.heap.size 3 1 (X 9) (n + k) ((E ++ G).flatMap dI) := hX 9 (by kernel_rfl)
   obtain ⟨p5, c5, h5, hz5⟩ := own_form f3
   obtain ⟨p9, c9, h9, hz9⟩ := own_form f7
   clear hz5 hz9 hX
   try simp only [mkA, List.foldl_cons, List.foldl_nil, Act.put, List.setIfInBounds_toArray, List.set_cons_zero, List.set_cons_succ]
   rw [h5, h9]
   rw [h5] at f3
   rw [h9] at f7
   clear h5 h9
   have F3 : Hid (w'.ownsRow W.heap.size 2 1 (.slice p5 (n + k) c5) (n + k) ((N ++ M).flatMap dI)) := f3
   have F7 : Hid (w'.ownsRow W.heap.size 3 1 (.slice p9 (n + k) c9) (n + k) ((E ++ G).flatMap dI)) := f7
   have XE : Hid (Ext W w') := hE
   obtain ⟨_, s1, s2, x, y, s3⟩ := hSw
   have S1 : Hid (VB w' b6 (.slice p3 n c3) (.slice p7 n c7)) := s1
   have S2 : Hid (VB w' (W.heap.size + 1) (.slice p' k cp') (.slice q' k cq')) := s2
   have S3 : Hid (VB w' (W.heap.size + 1 + 1) x y) := s3
   clear f3 f7 hE s1 s2 s3 hHeld0
   generalize hnk : n + k = nk at *
   obtain ⟨_, ⟨j0, j1⟩, g0, g1⟩ := S3.out.blk
   refine wpAnyH_take (i := 10) (oi := ⟨some 37, .build 26 #[(0, .tmp 31), (1, .tmp 36)], 26, "column.go:93", #[⟨4, .data⟩, ⟨9, .data⟩], none⟩) (v := ?_) rfl (by kernel_rfl) (by kernel_rfl) (by kernel_rfl) (fun _ _ _ h => h) (Or.inl ⟨by rfl, ?_⟩) (by exact sj_of S1.out S2.out ⟨_, _, S3.out⟩) ?_
   rotate_left
   · intro w hSw; (try dsimp only at hSw); first | (go_simp; done) | (go_simp; with_reducible rfl)
   try simp only [Act.put, List.setIfInBounds_toArray, List.set_cons_zero, List.set_cons_succ]
   refine wpAnyH_ready (rs := [11]) (by kernel_rfl) (by simp) ?_
   refine AllReadyH.cons (o := ⟨none, .store 26 (.tmp 4) (.tmp 37), 0, "column.go:93", #[⟨10, .data⟩, ⟨9, .chain⟩, ⟨0, .phase⟩, ⟨1, .phase⟩, ⟨2, .phase⟩, ⟨3, .phase⟩, ⟨4, .phase⟩, ⟨5, .phase⟩, ⟨6, .phase⟩, ⟨7, .phase⟩, ⟨8, .phase⟩, ⟨9, .phase⟩, ⟨10, .phase⟩], none⟩) rfl (fun K hK => ?_) AllReadyH.nil
   go_simp
   try go_wp2_with fail
   refine hK.out _ _ ?_ (fun hHeld0 => ?_)
   · (try dsimp only); exact sj_of ((S1.out.far HB.out _).far HB.out _) ((S2.out.far (by omega) _).far (by omega) _) ⟨_, _, S3.out.set _ _⟩
   clear hK K
   refine wpAnyH_take (i := 12) (oi := ⟨some 5, .assign (.const (.int .i64 0)), 39, "column.go:93", #[⟨11, .chain⟩, ⟨0, .phase⟩, ⟨1, .phase⟩, ⟨2, .phase⟩, ⟨3, .phase⟩, ⟨4, .phase⟩, ⟨5, .phase⟩, ⟨6, .phase⟩, ⟨7, .phase⟩, ⟨8, .phase⟩, ⟨9, .phase⟩, ⟨10, .phase⟩, ⟨11, .phase⟩], none⟩) (v := ?_) rfl (by kernel_rfl) (by kernel_rfl) (by kernel_rfl) (fun _ _ _ h => h) (Or.inl ⟨by rfl, ?_⟩) (by assumption) ?_
   rotate_left
   · intro w hSw; (try dsimp only at hSw); first | (go_simp; done) | (go_simp; with_reducible rfl)
   try simp only [Act.put, List.setIfInBounds_toArray, List.set_cons_zero, List.set_cons_succ]
   refine wpAnyH_done (by kernel_rfl) ?_ _
   have Z2 : Hid (Blk2 ((w'.setCell ⟨W.heap.size + 1 + 1, 0, none⟩ (.slice p5 nk c5)).setCell ⟨W.heap.size + 1 + 1, 1, none⟩ (.slice p9 nk c9)) (W.heap.size + 1 + 1) (.slice p5 nk c5) (.slice p9 nk c9)) := S3.out.blk.set _ _
   have R3 : Hid (VecO W.heap.size ((w'.setCell ⟨W.heap.size + 1 + 1, 0, none⟩ (.slice p5 nk c5)).setCell ⟨W.heap.size + 1 + 1, 1, none⟩ (.slice p9 nk c9)) (.slice p5 nk c5) (.slice p9 nk c9) (N ++ M) (E ++ G)) := ⟨by rw [List.length_append, HL.out.1, HL.out.2.2.1, hnk]; exact own_vb F3.out S3.out vec_T.1 _ _, by rw [List.length_append, HL.out.2.1, HL.out.2.2.2.1, hnk]; exact own_vb F7.out S3.out vec_T.2 _ _⟩
   have X9 : Hid (Ext W ((w'.setCell ⟨W.heap.size + 1 + 1, 0, none⟩ (.slice p5 nk c5)).setCell ⟨W.heap.size + 1 + 1, 1, none⟩ (.slice p9 nk c9))) := (XE.out.setCell (by (try dsimp only); omega) _).setCell (by (try dsimp only); omega) _
   clear hHeld0 hnk j0 j1 g0 g1 S1 S2 S3 XE F3 F7
   generalize (w'.setCell ⟨W.heap.size + 1 + 1, 0, none⟩ (.slice p5 nk c5)).setCell ⟨W.heap.size + 1 + 1, 1, none⟩ (.slice p9 nk c9) = W9 at *
   go_wp2_with fail
   exact fin2 _ Z2.out rfl X9.out (fun g0 g1 => by simp [results, Tryd.results18, go_sem, g0, g1]) (fun h => ⟨_, _, rfl, R3.out, h⟩)

open Go.RowKit
set_option maxHeartbeats 2000000

theorem vec_nil (B : Nat) (W : World) : VecO B W (.slice none 0 0) (.slice none 0 0) [] [] := ⟨⟨by simp, .inl ⟨rfl, by simp⟩⟩, ⟨by simp, .inl ⟨rfl, by simp⟩⟩⟩
/-- What Slice answers. -/
def slcB (N E : List Int) (x y : Int) : Bool := canC N E && !decide (x < 0) && !decide (x > y) && !decide (y > (N.length : Int))
def sErr (N E : List Int) (x y : Int) : Int := if slcB N E x y then 0 else 1
def sCol (X N E : List Int) (x y : Int) : List Int := if slcB N E x y then cut X x.toNat y.toNat else []
theorem vslice_all (W : World) (a b : Value) (N E : List Int) (x y : Int) (hN : Nm W) (ha : RdZ W a N) (hb : RdZ W b E) :
   Calls Tryd.prog 17 #[.agg #[a, b], .int .i64 x, .int .i64 y] W fun r w' => ∃ u v, r = .returned (.tuple #[.agg #[u, v], .int .i64 (sErr N E x y)]) ∧ VecO W.heap.size w' u v (sCol N N E x y) (sCol E N E x y) ∧ Ext W w' := by
 have no : slcB N E x y = false → (Calls Tryd.prog 17 #[.agg #[a, b], .int .i64 x, .int .i64 y] W fun r w' => r = .returned (.tuple #[.agg #[.slice none 0 0, .slice none 0 0], .int .i64 1]) ∧ Ext W w') →
     Calls Tryd.prog 17 #[.agg #[a, b], .int .i64 x, .int .i64 y] W fun r w' => ∃ u v, r = .returned (.tuple #[.agg #[u, v], .int .i64 (sErr N E x y)]) ∧ VecO W.heap.size w' u v (sCol N N E x y) (sCol E N E x y) ∧ Ext W w' := by
   intro h hc
   refine hc.mono ?_
   rintro r w' ⟨rfl, hE⟩
   have e2 : ∀ X, sCol X N E x y = [] := fun X => by unfold sCol; rw [h]; rfl
   exact ⟨_, _, by unfold sErr; rw [h]; rfl, by rw [e2, e2]; exact vec_nil _ _, hE⟩
 cases h1 : canC N E
 · exact no (by unfold slcB; rw [h1]; rfl) (vslice_can W a b N E x y hN ha hb h1)
 · by_cases h2 : x < 0
   · exact no (by unfold slcB; simp [h2]) (vslice_neg W a b N E x y hN ha hb h1 h2)
   · by_cases h3 : x > y
     · exact no (by unfold slcB; simp [h3]) (vslice_gt W a b N E x y hN ha hb h1 h2 h3)
     · by_cases h4 : y > (N.length : Int)
       · exact no (by unfold slcB; simp [h4]) (vslice_len W a b N E x y hN ha hb h1 h2 h3 h4)
       · have h : slcB N E x y = true := by unfold slcB; rw [h1]; simp [h2, h3, h4]
         have e2 : ∀ X, sCol X N E x y = cut X x.toNat y.toNat := fun X => by unfold sCol; rw [h]; rfl
         have := vslice_ok W a b N E x.toNat y.toNat hN ha hb h1 (by omega) (by omega)
         rw [show (x.toNat : Int) = x by omega, show (y.toNat : Int) = y by omega] at this
         refine this.mono ?_
         rintro r w' ⟨u, v, rfl, hO, hE⟩
         exact ⟨u, v, by unfold sErr; rw [h]; rfl, by rw [e2, e2]; exact hO, hE⟩

open Go.RowKit
set_option maxHeartbeats 2000000

set_option maxRecDepth 100000 in
theorem own19_any (W : World) (a b : Value) (N E : List Int) (ha : RdI W a N) (hb : RdI W b E) (hn : N.length * 8 ≤ 140737488355328) (hm : E.length * 8 ≤ 140737488355328) :
   Calls Tryd.prog 14 #[.agg #[a, b]] W fun r w' => ∃ u v, r = .returned (.agg #[u, v]) ∧ VecO W.heap.size w' u v N E ∧ Ext W w' := by
 obtain ⟨p, cp, rfl, hzz⟩ := ha.form
 clear hzz
 obtain ⟨q, cq, rfl, hzz⟩ := hb.form
 clear hzz
 obtain ⟨n, e1⟩ : ∃ n, N.length = n := ⟨_, rfl⟩
 obtain ⟨m, e2⟩ : ∃ n, E.length = n := ⟨_, rfl⟩
 rw [e1] at ha hn
 rw [e2] at hb hm
 rw [e1, e2]
 have HL : Hid (N.length = n ∧ E.length = m ∧ n * 8 ≤ 140737488355328 ∧ m * 8 ≤ 140737488355328) := ⟨e1, e2, hn, hm⟩
 obtain ⟨W1, hW⟩ : ∃ W1, (W.alloc (.cells #[.slice p n cp, .slice q m cq] 26)).alloc (.cells #[.slice none 0 0, .slice none 0 0] 26) = W1 := ⟨_, rfl⟩
 have XW : Ext W W1 := by rw [← hW]; exact ((Ext.refl _).alloc _).alloc _
 obtain ⟨_, ⟨k0, k1⟩, f0, f1⟩ : Blk2 W1 W.heap.size (.slice p n cp) (.slice q m cq) := by rw [← hW]; exact blk2_top rfl ((Ext.refl _).alloc _)
 obtain ⟨hs1, ⟨j0, j1⟩, g0, g1⟩ : Blk2 W1 (W.heap.size + 1) (.slice none 0 0) (.slice none 0 0) := by rw [← hW]; exact blk2_top (by simp) (Ext.refl _)
 have HW : Hid ((W.alloc (.cells #[.slice p n cp, .slice q m cq] 26)).alloc (.cells #[.slice none 0 0, .slice none 0 0] 26) = W1) := hW
 have HA : Hid (RdI W1 (.slice p n cp) N) := ha.ext XW
 have HB : Hid (RdI W1 (.slice q m cq) E) := hb.ext XW
 have HX : Hid (Ext W W1) := XW
 have B1 : Hid (Blk2 W1 (W.heap.size + 1) (.slice none 0 0) (.slice none 0 0)) := by rw [← hW]; exact blk2_top (by simp) (Ext.refl _)
 clear ha hb hn hm e1 e2 hW XW
 go_enter Tryd.func14, Tryd.ntmps14
 go_wp2_with fail
 rw [HW.out]
 refine wp_region_held_drew (S := fun w => w.cell? ⟨W.heap.size, 0, none⟩ = some (.slice p n cp) ∧ w.cell? ⟨W.heap.size, 1, none⟩ = some (.slice q m cq)) (by kernel_rfl) ?_ (fun hHeld0 => ?_)
 · exact ⟨k0, k1⟩
 refine wpAnyH_take (i := 1) (oi := ⟨some 4, .fieldAddr 26 (.tmp 1) 0, 0, "ref.go:88", #[], none⟩) (v := ?_) rfl (by kernel_rfl) (by kernel_rfl) (by kernel_rfl) (fun _ _ _ h => h) (Or.inl ⟨by rfl, ?_⟩) (by assumption) ?_
 rotate_left
 · intro w hSw; (try dsimp only at hSw); first | (go_simp; done) | (go_simp; with_reducible rfl)
 try simp only [Act.put, List.setIfInBounds_toArray, List.set_cons_zero, List.set_cons_succ]
 refine wpAnyH_take (i := 2) (oi := ⟨some 5, .load 23 (.tmp 4), 23, "ref.go:88", #[⟨1, .data⟩], none⟩) (v := ?_) rfl (by kernel_rfl) (by kernel_rfl) (by kernel_rfl) (fun _ _ _ h => h) (Or.inl ⟨by rfl, ?_⟩) (by assumption) ?_
 rotate_left
 · intro w hSw; (try dsimp only at hSw); first | (go_simp; done) | (go_simp; with_reducible rfl)
 try simp only [Act.put, List.setIfInBounds_toArray, List.set_cons_zero, List.set_cons_succ]
 refine wpAnyH_take (i := 5) (oi := ⟨some 8, .fieldAddr 26 (.tmp 1) 1, 0, "ref.go:88", #[], none⟩) (v := ?_) rfl (by kernel_rfl) (by kernel_rfl) (by kernel_rfl) (fun _ _ _ h => h) (Or.inl ⟨by rfl, ?_⟩) (by assumption) ?_
 rotate_left
 · intro w hSw; (try dsimp only at hSw); first | (go_simp; done) | (go_simp; with_reducible rfl)
 try simp only [Act.put, List.setIfInBounds_toArray, List.set_cons_zero, List.set_cons_succ]
 refine wpAnyH_take (i := 6) (oi := ⟨some 9, .load 24 (.tmp 8), 24, "ref.go:88", #[⟨5, .data⟩], none⟩) (v := ?_) rfl (by kernel_rfl) (by kernel_rfl) (by kernel_rfl) (fun _ _ _ h => h) (Or.inl ⟨by rfl, ?_⟩) (by assumption) ?_
 rotate_left
 · intro w hSw; (try dsimp only at hSw); first | (go_simp; done) | (go_simp; with_reducible rfl)
 try simp only [Act.put, List.setIfInBounds_toArray, List.set_cons_zero, List.set_cons_succ]
 refine wpAnyH_letter (fun A0 hA0 => ?_)
 refine any_free_gen (l0 := #[false, true, true, false, false, true, true, false, false, false]) (lf := #[true, true, true, true, true, true, true, true, false, false]) ⟨[0, 3, 4, 7], [], (fun _ => none), (fun j => match j with | 0 => some 2 | 3 => some 2 | 4 => some 3 | 7 => some 3 | _ => none), (fun j => match j with | 0 => 3 | 4 => 7 | _ => 1000)⟩ (by kernel_rfl) (by kernel_rfl) 2 W1.drew _ (mkA [(0, 3), (3, 6), (4, 7), (7, 10)] A0) (fun j x w => match j with | 0 => New0 W1.heap.size 2 x w | 3 => w.ownsRow W1.heap.size 2 1 x n (N.flatMap dI) | 4 => New0 W1.heap.size 3 x w | 7 => w.ownsRow W1.heap.size 3 1 x m (E.flatMap dI) | _ => True) ?h01 (by assumption) ?hS ?hall ?hfin (fun j => match j with | 0 => A0.tmps.getD 3 undef | 3 => A0.tmps.getD 6 undef | 4 => A0.tmps.getD 7 undef | 7 => A0.tmps.getD 10 undef | _ => undef) ?hpre ?hX _ (by kernel_rfl)
 case h01 => exact Ext.refl _
 case hX => subst hA0; kernel_rfl
 case hS => intro i hi w w' hw e hg; exact ⟨e.some hHeld0.1, e.some hHeld0.2⟩
 case hall =>
   subst hA0
   refine AllS.cons (o := ⟨some 3, .buildSlice 23 0 #[], 23, "ref.go:88", #[], none⟩) rfl rfl (fun _ _ => by kernel_rfl) (fun _ _ _ h e => h.ext e) (fun _ _ _ _ _ h ht e => h.keep (fun hh => ht hh) e) (fun X w' hE hSw hX => ?_) ?_
   · exact rt_build0 (base := W1.heap.size) dltL rfl hE.size hE
   refine AllS.cons (o := ⟨some 6, .call { callee := .builtin .append, args := #[.tmp 3, .tmp 5], argTypes := #[23, 23] }, 23, "ref.go:88", #[⟨0, .data⟩, ⟨2, .data⟩], none⟩) rfl rfl (fun _ _ => by kernel_rfl) (fun _ _ _ h e => ownsRow_ext h e) (fun _ _ _ _ _ h ht e => ownsRow_keep h (fun hh => ht hh) e) (fun X w' hE hSw hX => ?_) ?_
   · exact rt_append0 (base := W1.heap.size) (v := X 0) (va := .slice p n cp) dltL dI_len rfl (by kernel_rfl) (by kernel_rfl) (hX 0 (by kernel_rfl)) ((HA.out.ext (Ext.refl _).drew).ext hE) HL.out.1 (by have := HL.out; unfold maxLen; omega) (by have := HL.out; omega) hE hE.size
   refine AllS.cons (o := ⟨some 7, .buildSlice 24 0 #[], 24, "ref.go:88", #[], none⟩) rfl rfl (fun _ _ => by kernel_rfl) (fun _ _ _ h e => h.ext e) (fun _ _ _ _ _ h ht e => h.keep (fun hh => ht hh) e) (fun X w' hE hSw hX => ?_) ?_
   · exact rt_build0 (base := W1.heap.size) dltI rfl hE.size hE
   refine AllS.cons (o := ⟨some 10, .call { callee := .builtin .append, args := #[.tmp 7, .tmp 9], argTypes := #[24, 24] }, 24, "ref.go:88", #[⟨4, .data⟩, ⟨6, .data⟩, ⟨3, .chain⟩], none⟩) rfl rfl (fun _ _ => by kernel_rfl) (fun _ _ _ h e => ownsRow_ext h e) (fun _ _ _ _ _ h ht e => ownsRow_keep h (fun hh => ht hh) e) (fun X w' hE hSw hX => ?_) ?_
   · exact rt_append0 (base := W1.heap.size) (v := X 4) (va := .slice q m cq) dltI dI_len rfl (by kernel_rfl) (by kernel_rfl) (hX 4 (by kernel_rfl)) ((HB.out.ext (Ext.refl _).drew).ext hE) HL.out.2.1 (by have := HL.out; unfold maxLen; omega) (by have := HL.out; omega) hE hE.size
   exact AllS.nil
 case hpre =>
   exact AllP.nil
 case hfin =>
   intro X w' n' hE hSw hX
   subst hA0
   have f3 : w'.ownsRow W1.heap.size 2 1 (X 3) n (N.flatMap dI) := hX 3 (by kernel_rfl)
   have f7 : w'.ownsRow W1.heap.size 3 1 (X 7) m (E.flatMap dI) := hX 7 (by kernel_rfl)
   obtain ⟨p3, c3, h3, hz3⟩ := own_form f3
   obtain ⟨p7, c7, h7, hz7⟩ := own_form f7
   clear hz3 hz7 hX
   try simp only [mkA, List.foldl_cons, List.foldl_nil, Act.put, List.setIfInBounds_toArray, List.set_cons_zero, List.set_cons_succ]
   rw [h3, h7]
   rw [h3] at f3
   rw [h7] at f7
   clear h3 h7
   generalize X 0 = x0
   generalize X 4 = x4
   have F3 : Hid (w'.ownsRow W1.heap.size 2 1 (.slice p3 n c3) n (N.flatMap dI)) := f3
   have F7 : Hid (w'.ownsRow W1.heap.size 3 1 (.slice p7 m c7) m (E.flatMap dI)) := f7
   have XE : Hid (Ext W1 w') := (Ext.refl _).drew.trans hE
   have Z1 : Hid (Blk2 w' (W.heap.size + 1) (.slice none 0 0) (.slice none 0 0)) := B1.out.ext XE.out
   have hHeld1 : w'.cell? ⟨W.heap.size, 0, none⟩ = some (.slice p n cp) ∧ w'.cell? ⟨W.heap.size, 1, none⟩ = some (.slice q m cq) := ⟨hE.some hHeld0.1, hE.some hHeld0.2⟩
   clear f3 f7 hE hHeld0 k0 k1 f0 f1 j0 j1 g0 g1
   obtain ⟨_, ⟨j0, j1⟩, g0, g1⟩ := Z1.out
   refine wpAnyH_take (i := 8) (oi := ⟨some 11, .build 26 #[(0, .tmp 6), (1, .tmp 10)], 26, "ref.go:88", #[⟨3, .data⟩, ⟨7, .data⟩], none⟩) (v := ?_) rfl (by kernel_rfl) (by kernel_rfl) (by kernel_rfl) (fun _ _ _ h => h) (Or.inl ⟨by rfl, ?_⟩) (by assumption) ?_
   rotate_left
   · intro w hSw; (try dsimp only at hSw); first | (go_simp; done) | (go_simp; with_reducible rfl)
   try simp only [Act.put, List.setIfInBounds_toArray, List.set_cons_zero, List.set_cons_succ]
   refine wpAnyH_ready (rs := [9]) (by kernel_rfl) (by simp) ?_
   refine AllReadyH.cons (o := ⟨none, .store 26 (.tmp 2) (.tmp 11), 0, "ref.go:88", #[⟨8, .data⟩, ⟨7, .chain⟩, ⟨0, .phase⟩, ⟨1, .phase⟩, ⟨2, .phase⟩, ⟨3, .phase⟩, ⟨4, .phase⟩, ⟨5, .phase⟩, ⟨6, .phase⟩, ⟨7, .phase⟩, ⟨8, .phase⟩], none⟩) rfl (fun K hK => ?_) AllReadyH.nil
   go_simp
   try go_wp2_with fail
   refine hK.out _ _ ?_ (fun hHeld0 => ?_)
   · (try dsimp only); obtain ⟨r0, r1⟩ := hHeld1; exact ⟨by simp [r0, World.cell?_setCell_other], by simp [r1, World.cell?_setCell_other]⟩
   clear hK K
   refine wpAnyH_done (by kernel_rfl) ?_ _
   have Z2 : Hid (Blk2 ((w'.setCell ⟨W.heap.size + 1, 0, none⟩ (.slice p3 n c3)).setCell ⟨W.heap.size + 1, 1, none⟩ (.slice p7 m c7)) (W.heap.size + 1) (.slice p3 n c3) (.slice p7 m c7)) := Z1.out.set _ _
   have R3 : Hid (VecO W.heap.size ((w'.setCell ⟨W.heap.size + 1, 0, none⟩ (.slice p3 n c3)).setCell ⟨W.heap.size + 1, 1, none⟩ (.slice p7 m c7)) (.slice p3 n c3) (.slice p7 m c7) N E) := ⟨by rw [HL.out.1]; exact ownsRow_mono (own_off (own_off F3.out hs1 _) hs1 _) HX.out.size, by rw [HL.out.2.1]; exact ownsRow_mono (own_off (own_off F7.out hs1 _) hs1 _) HX.out.size⟩
   have X2 : Hid (Ext W ((w'.setCell ⟨W.heap.size + 1, 0, none⟩ (.slice p3 n c3)).setCell ⟨W.heap.size + 1, 1, none⟩ (.slice p7 m c7))) := ((HX.out.trans XE.out).setCell (by simp) _).setCell (by simp) _
   clear hHeld0 hHeld1 j0 j1 g0 g1 Z1 XE F3 F7 hs1
   generalize (w'.setCell ⟨W.heap.size + 1, 0, none⟩ (.slice p3 n c3)).setCell ⟨W.heap.size + 1, 1, none⟩ (.slice p7 m c7) = W2 at *
   go_wp2_with fail
   exact fin2 _ Z2.out rfl X2.out (fun g0 g1 => by simp [results, Tryd.results14, go_sem, g0, g1]) (fun h => ⟨_, _, rfl, R3.out, h⟩)

open Go.RowKit
set_option maxHeartbeats 2000000

set_option maxRecDepth 100000 in
theorem rccan_any (W : World) (a b : Value) (N E : List Int) (ha : RdI W a N) (hb : RdI W b E) :
   Calls Tryd.prog 15 #[.agg #[a, b]] W fun r w' => r = .returned (.bool (canC N E)) ∧ Ext W w' := by
 obtain ⟨p, cp, rfl, _⟩ := ha.form
 obtain ⟨q, cq, rfl, _⟩ := hb.form
 have HA : Hid (RdI W (.slice p N.length cp) N) := ha
 have HB : Hid (RdI W (.slice q E.length cq) E) := hb
 obtain ⟨n, hn⟩ : ∃ n, N.length = n := ⟨_, rfl⟩
 obtain ⟨m, hm⟩ : ∃ m, E.length = m := ⟨_, rfl⟩
 have HL : Hid (N.length = n ∧ E.length = m) := ⟨hn, hm⟩
 rw [hn] at HA
 rw [hm] at HB
 rw [hn, hm]
 clear ha hb hn hm
 by_cases h1 : n = m
 · subst h1
   by_cases h2 : 1000 < n
   · have hd : decide ((n : Int) > 1000) = true := by simp; omega
     have hI : (n : Int) > 1000 := by omega
     have H : Hid (canC N E = false) := canC_len (by have := HL.out; omega)
     clear h2
     go_enter Tryd.func15, Tryd.ntmps15
     go_wp2_with fail
     go_ret
     exact ⟨ret_bool H.out.symm, (Ext.refl _).alloc _⟩
   · have hd : decide ((n : Int) > 1000) = false := by simp; omega
     have hI : ¬ (n : Int) > 1000 := by omega
     have H2 : Hid (n ≤ 1000) := by show _ ≤ _; omega
     clear h2
     go_enter Tryd.func15, Tryd.ntmps15
     go_wp2_with fail
     go_loopw [3] (fun iv wr => ∃ j : Nat, iv = .int .i64 (j : Int) ∧ j ≤ n ∧ wr = W.alloc (.cells #[.slice p n cp, .slice q n cq] 26) ∧ ∀ (i : Nat) (x e : Int), i < j → N[i]? = some x → E[i]? = some e → laneB x e = true) (fun iv _ => n - (intOf iv).toNat)
     case atStart => exact ⟨0, rfl, Nat.zero_le _, rfl, fun i x e h => absurd h (Nat.not_lt_zero _)⟩
     case round =>
       obtain ⟨j, rfl, hj, rfl, hg⟩ := hrel
       have HG : Hid (∀ (i : Nat) (x e : Int), i < j → N[i]? = some x → E[i]? = some e → laneB x e = true) := hg
       clear hg
       by_cases hlt : j < n
       · have hltI : (j : Int) < (n : Int) := by omega
         obtain ⟨x, hx⟩ : ∃ x, N[j]? = some x := ⟨_, List.getElem?_eq_getElem (by have := HL.out; omega)⟩
         obtain ⟨e, he⟩ : ∃ e, E[j]? = some e := ⟨_, List.getElem?_eq_getElem (by have := HL.out; omega)⟩
         obtain ⟨b1, o1, rfl, hb1, k1⟩ := HA.out.cell hx
         obtain ⟨b2, o2, rfl, hb2, k2⟩ := HB.out.cell he
         have HX : Hid (N[j]? = some x ∧ E[j]? = some e) := ⟨hx, he⟩
         have HS : Hid (laneB x e = true → Hid (∀ (i : Nat) (x e : Int), i < j + 1 → N[i]? = some x → E[i]? = some e → laneB x e = true)) := by
           intro hl
           intro i y f hi hy hf
           by_cases hij : i = j
           · subst hij
             rw [HX.out.1] at hy
             rw [HX.out.2] at hf
             cases hy; cases hf
             exact hl
           · exact HG.out i y f (by omega) hy hf
         have wk := wrapC j (by have := H2.out; omega)
         have g1 := Lib.cell?_alloc_some (.cells #[.slice (some ⟨b1, o1, none⟩) n cp, .slice (some ⟨b2, o2, none⟩) n cq] 26) k1
         have g2 := Lib.cell?_alloc_some (.cells #[.slice (some ⟨b1, o1, none⟩) n cp, .slice (some ⟨b2, o2, none⟩) n cq] 26) k2
         have cc := fun W => rcan_any x W
         clear hx he hb1 hb2 k1 k2
         by_cases h0 : e = 0
         · subst h0
           have HZ : Hid (laneB x 0 = canB x) := by show laneB x 0 = _; unfold laneB; rw [if_pos rfl]
           cases hl : canB x
           · have HF : Hid (canC N E = false) := canC_no HX.out.1 HX.out.2 (by rw [HZ.out]; exact hl)
             rw [hl] at cc
             clear hl HS
             go_wp2_with fail
             refine (cc _).mono ?_
             rintro r w1 ⟨rfl, rfl⟩
             go_wp2_with fail
             go_ret
             exact ⟨ret_bool HF.out.symm, (Ext.refl _).alloc _⟩
           · have HG2 := HS.out (by rw [HZ.out]; exact hl)
             rw [hl] at cc
             clear hl HS
             go_wp2_with fail
             refine (cc _).mono ?_
             rintro r w1 ⟨rfl, rfl⟩
             go_wp2_with fail
             go_roundw
             case rel => exact ⟨j + 1, by go_num, hlt, by trivial, HG2.out⟩
             case measure => simp [intOf]; omega
         · clear cc
           have he0 : (e != 0) = true := by simp [h0]
           by_cases h3 : e < 1
           · have HF : Hid (canC N E = false) := canC_no HX.out.1 HX.out.2 (by unfold laneB; rw [if_neg h0]; simp; omega)
             clear HS
             go_wp2_with fail
             go_ret
             exact ⟨ret_bool HF.out.symm, (Ext.refl _).alloc _⟩
           · by_cases h4 : e > 5
             · have HF : Hid (canC N E = false) := canC_no HX.out.1 HX.out.2 (by unfold laneB; rw [if_neg h0]; simp; omega)
               clear HS
               go_wp2_with fail
               go_ret
               exact ⟨ret_bool HF.out.symm, (Ext.refl _).alloc _⟩
             · by_cases h5 : x = 0
               · subst h5
                 have HG2 := HS.out (by show laneB 0 e = true; unfold laneB; rw [if_neg h0]; simp; omega)
                 clear HS
                 go_wp2_with fail
                 go_roundw
                 case rel => exact ⟨j + 1, by go_num, hlt, by trivial, HG2.out⟩
                 case measure => simp [intOf]; omega
               · have hx5 : (x != 0) = true := by simp [h5]
                 have HF : Hid (canC N E = false) := canC_no HX.out.1 HX.out.2 (by unfold laneB; rw [if_neg h0]; simp [h5])
                 clear HS
                 go_wp2_with fail
                 go_ret
                 exact ⟨ret_bool HF.out.symm, (Ext.refl _).alloc _⟩
       · have hltI : ¬ (j : Int) < (n : Int) := by omega
         have H : Hid (canC N E = true) := by
           refine (canC_iff N E).2 ⟨by rw [HL.out.1, HL.out.2], by rw [HL.out.1]; exact H2.out, fun i x e hx he => HG.out i x e ?_ hx he⟩
           have := (List.getElem?_eq_some_iff.1 hx).1
           have := HL.out.1
           omega
         go_wp2_with fail
         go_ret
         exact ⟨ret_bool H.out.symm, (Ext.refl _).alloc _⟩
 · have hd : decide ((n : Int) = (m : Int)) = false := by simp; omega
   have hI : ¬ ((n : Int) = (m : Int)) := by omega
   have H : Hid (canC N E = false) := canC_len (by have := HL.out; omega)
   clear h1
   go_enter Tryd.func15, Tryd.ntmps15
   go_wp2_with fail
   go_ret
   exact ⟨ret_bool H.out.symm, (Ext.refl _).alloc _⟩

open Go.RowKit
set_option maxHeartbeats 2000000

set_option maxRecDepth 100000 in
theorem rcsame_any (W : World) (a b c d : Value) (N E M G : List Int) (ha : RdI W a N) (hb : RdI W b E) (hc : RdI W c M) (hd : RdI W d G) (hn : N.length ≤ maxLen) (hm : E.length ≤ maxLen) :
   Calls Tryd.prog 9 #[.agg #[a, b], .agg #[c, d]] W fun r w' => r = .returned (.bool (decide (N = M) && decide (E = G))) ∧ Ext W w' := by
 obtain ⟨p, cp, rfl, hzz⟩ := ha.form
 clear hzz
 obtain ⟨q, cq, rfl, hzz⟩ := hb.form
 clear hzz
 obtain ⟨p', cp', rfl, hzz⟩ := hc.form
 clear hzz
 obtain ⟨q', cq', rfl, hzz⟩ := hd.form
 clear hzz
 obtain ⟨n, e1⟩ : ∃ n, N.length = n := ⟨_, rfl⟩
 obtain ⟨m, e2⟩ : ∃ n, E.length = n := ⟨_, rfl⟩
 obtain ⟨k, e3⟩ : ∃ n, M.length = n := ⟨_, rfl⟩
 obtain ⟨g, e4⟩ : ∃ n, G.length = n := ⟨_, rfl⟩
 rw [e1] at ha
 rw [e2] at hb
 rw [e3] at hc
 rw [e4] at hd
 rw [e1, e2, e3, e4]
 by_cases h1 : n = k
 · subst h1
   by_cases h2 : m = g
   · subst h2
     obtain ⟨W1, hW⟩ : ∃ W1, (W.alloc (.cells #[.slice p n cp, .slice q m cq] 26)).alloc (.cells #[.slice p' n cp', .slice q' m cq'] 26) = W1 := ⟨_, rfl⟩
     have HW : Hid ((W.alloc (.cells #[.slice p n cp, .slice q m cq] 26)).alloc (.cells #[.slice p' n cp', .slice q' m cq'] 26) = W1) := hW
     have XW : Hid (Ext W W1) := by rw [← hW]; exact ((Ext.refl _).alloc _).alloc _
     have B0 : Hid (Blk2 W1 W.heap.size (.slice p n cp) (.slice q m cq)) := by rw [← hW]; exact blk2_top rfl ((Ext.refl _).alloc _)
     have B1 : Hid (Blk2 W1 (W.heap.size + 1) (.slice p' n cp') (.slice q' m cq')) := by rw [← hW]; exact blk2_top (by simp) (Ext.refl _)
     have HA : Hid (RdI W1 (.slice p n cp) N) := ha.ext XW.out
     have HB : Hid (RdI W1 (.slice q m cq) E) := hb.ext XW.out
     have HC : Hid (RdI W1 (.slice p' n cp') M) := hc.ext XW.out
     have HD : Hid (RdI W1 (.slice q' m cq') G) := hd.ext XW.out
     have HL : Hid (N.length = n ∧ M.length = n ∧ n ≤ maxLen ∧ E.length = m ∧ G.length = m ∧ m ≤ maxLen) := ⟨e1, e3, by omega, e2, e4, by omega⟩
     clear ha hb hc hd e1 e2 e3 e4 hn hm hW
     go_enter Tryd.func9, Tryd.ntmps9
     go_wp2_with fail
     rw [HW.out]
     go_loopw [5] (fun iv wr => ∃ j : Nat, iv = .int .i64 (j : Int) ∧ j ≤ n ∧ Ext W1 wr ∧ N.take j = M.take j) (fun iv _ => n - (intOf iv).toNat)
     case atStart => exact ⟨0, rfl, Nat.zero_le _, Ext.refl _, rfl⟩
     case round =>
       obtain ⟨j, rfl, hj, hE, hg⟩ := hrel
       have HE : Hid (Ext W1 wr) := hE
       have HG : Hid (N.take j = M.take j) := hg
       clear hE hg
       obtain ⟨_, ⟨m0, m1⟩, f0, f1⟩ := B0.out.ext HE.out
       obtain ⟨_, ⟨i0, i1⟩, g0, g1⟩ := B1.out.ext HE.out
       by_cases hlt : j < n
       · have hltI : (j : Int) < (n : Int) := by omega
         obtain ⟨x, hx⟩ : ∃ x, N[j]? = some x := ⟨_, List.getElem?_eq_getElem (by have := HL.out; omega)⟩
         obtain ⟨y, hy⟩ : ∃ y, M[j]? = some y := ⟨_, List.getElem?_eq_getElem (by have := HL.out; omega)⟩
         obtain ⟨b1, o1, hp1, hb1, k1⟩ := RdI.cell (HA.out.ext HE.out) hx
         obtain ⟨b2, o2, hp2, hb2, k2⟩ := RdI.cell (HC.out.ext HE.out) hy
         subst hp1 hp2
         have WK : Hid (wrap64 ((j : Int) + 1) = ((j + 1 : Nat) : Int)) := wrapC j (by have := HL.out; unfold maxLen at *; omega)
         have HX : Hid (N[j]? = some x ∧ M[j]? = some y) := ⟨hx, hy⟩
         clear hx hy hb1 hb2
         go_upto_region 6 with fail
         by_cases he : x = y
         · have HT : Hid (N.take (j + 1) = M.take (j + 1)) := by
             show _ = _
             rw [take_at HX.out.1, take_at HX.out.2, HG.out, he]
           have hq : (x == y) = true := by simp [he]
           subst he
           go_quiet (fail)
           have wk := WK.out
           have HJ : Hid (j < n) := hlt
           clear hlt hj hltI hq k1 k2
           go_wp2_with fail
           go_roundw
           case rel => exact ⟨j + 1, by go_num, HJ.out, HE.out.drewN _, HT.out⟩
           case measure => exact meas_lt (congrArg _ WK.out) HJ.out
         · have HT : Hid (N ≠ M) := by
             show _ ≠ _
             intro h
             have h1 := HX.out.1
             rw [h, HX.out.2] at h1
             exact he (Option.some.inj h1).symm
           have hq : (x == y) = false := by simp [he]
           have hq2 : (x != y) = true := by simp [he]
           clear he
           go_quiet (fail)
           go_wp2_with fail
           go_ret
           exact ⟨ret_bool (by simp [HT.out]), XW.out.trans (HE.out.drewN _)⟩
       · have hltI : ¬ (j : Int) < (n : Int) := by omega
         have H1 : Hid (N = M) := by
           have h1 := HG.out
           rw [List.take_of_length_le (by have := HL.out; omega), List.take_of_length_le (by have := HL.out; omega)] at h1
           exact h1
         go_wp2_with fail
         generalize wr = W2 at *
         have XW2 : Hid (Ext W W2) := XW.out.trans HE.out
         have B02 : Hid (Blk2 W2 W.heap.size (.slice p n cp) (.slice q m cq)) := B0.out.ext HE.out
         have B12 : Hid (Blk2 W2 (W.heap.size + 1) (.slice p' n cp') (.slice q' m cq')) := B1.out.ext HE.out
         have HB2 : Hid (RdI W2 (.slice q m cq) E) := HB.out.ext HE.out
         have HD2 : Hid (RdI W2 (.slice q' m cq') G) := HD.out.ext HE.out
         clear HA HC HB HD B0 B1 HE HG XW m0 m1 f0 f1 i0 i1 g0 g1 hltI hlt hj
         go_loopw [6] (fun iv wr => ∃ j : Nat, iv = .int .i64 (j : Int) ∧ j ≤ m ∧ Ext W2 wr ∧ E.take j = G.take j) (fun iv _ => m - (intOf iv).toNat)
         case atStart => exact ⟨0, rfl, Nat.zero_le _, Ext.refl _, rfl⟩
         case round =>
           obtain ⟨j, rfl, hj, hE, hg⟩ := hrel
           have HE : Hid (Ext W2 wr) := hE
           have HG : Hid (E.take j = G.take j) := hg
           clear hE hg
           obtain ⟨_, ⟨m0, m1⟩, f0, f1⟩ := B02.out.ext HE.out
           obtain ⟨_, ⟨i0, i1⟩, g0, g1⟩ := B12.out.ext HE.out
           by_cases hlt : j < m
           · have hltI : (j : Int) < (m : Int) := by omega
             obtain ⟨x, hx⟩ : ∃ x, E[j]? = some x := ⟨_, List.getElem?_eq_getElem (by have := HL.out; omega)⟩
             obtain ⟨y, hy⟩ : ∃ y, G[j]? = some y := ⟨_, List.getElem?_eq_getElem (by have := HL.out; omega)⟩
             obtain ⟨b1, o1, hp1, hb1, k1⟩ := RdI.cell (HB2.out.ext HE.out) hx
             obtain ⟨b2, o2, hp2, hb2, k2⟩ := RdI.cell (HD2.out.ext HE.out) hy
             subst hp1 hp2
             have WK : Hid (wrap64 ((j : Int) + 1) = ((j + 1 : Nat) : Int)) := wrapC j (by have := HL.out; unfold maxLen at *; omega)
             have HX : Hid (E[j]? = some x ∧ G[j]? = some y) := ⟨hx, hy⟩
             clear hx hy hb1 hb2
             go_upto_region 11 with fail
             by_cases he : x = y
             · have HT : Hid (E.take (j + 1) = G.take (j + 1)) := by
                 show _ = _
                 rw [take_at HX.out.1, take_at HX.out.2, HG.out, he]
               have hq : (x == y) = true := by simp [he]
               subst he
               go_quiet (fail)
               have wk := WK.out
               have HJ : Hid (j < m) := hlt
               clear hlt hj hltI hq k1 k2
               go_wp2_with fail
               go_roundw
               case rel => exact ⟨j + 1, by go_num, HJ.out, HE.out.drewN _, HT.out⟩
               case measure => exact meas_lt (congrArg _ WK.out) HJ.out
             · have HT : Hid (E ≠ G) := by
                 show _ ≠ _
                 intro h
                 have h1 := HX.out.1
                 rw [h, HX.out.2] at h1
                 exact he (Option.some.inj h1).symm
               have hq : (x == y) = false := by simp [he]
               have hq2 : (x != y) = true := by simp [he]
               clear he
               go_quiet (fail)
               go_wp2_with fail
               go_ret
               exact ⟨ret_bool (by simp [HT.out]), XW2.out.trans (HE.out.drewN _)⟩
           · have hltI : ¬ (j : Int) < (m : Int) := by omega
             have H2 : Hid (E = G) := by
               have h1 := HG.out
               rw [List.take_of_length_le (by have := HL.out; omega), List.take_of_length_le (by have := HL.out; omega)] at h1
               exact h1
             go_wp2_with fail
             go_ret
             exact ⟨ret_bool (by simp [H1.out, H2.out]), XW2.out.trans HE.out⟩
   · have H : Hid (¬ (E = G)) := by show ¬ _; intro h; rw [h] at e2; omega
     have hd0 : decide ((m : Int) = (g : Int)) = false := by simp; omega
     have hI : ¬ ((m : Int) = (g : Int)) := by omega
     clear h2 e1 e2 e3 e4 ha hb hc hd hn hm
     go_enter Tryd.func9, Tryd.ntmps9
     go_wp2_with fail
     go_ret
     exact ⟨ret_bool (by simp [H.out]), ((Ext.refl _).alloc _).alloc _⟩
 · have H : Hid (¬ (N = M)) := by show ¬ _; intro h; rw [h] at e1; omega
   have hd0 : decide ((n : Int) = (k : Int)) = false := by simp; omega
   have hI : ¬ ((n : Int) = (k : Int)) := by omega
   clear h1 e1 e2 e3 e4 ha hb hc hd hn hm
   go_enter Tryd.func9, Tryd.ntmps9
   go_wp2_with fail
   go_ret
   exact ⟨ret_bool (by simp [H.out]), ((Ext.refl _).alloc _).alloc _⟩

open Go.RowKit
set_option maxHeartbeats 2000000

/-- The first j of L, noughts behind. -/
def fillI (L : List Int) (j : Nat) : List Int := L.take j ++ List.replicate (L.length - j) 0
theorem fill_zero (L : List Int) : fillI L 0 = List.replicate L.length 0 := by simp [fillI]
theorem fill_full (L : List Int) : fillI L L.length = L := by simp [fillI]
theorem fill_at {L : List Int} {j : Nat} (h : j < L.length) : (fillI L j)[j]? = some 0 := by
 unfold fillI
 rw [List.getElem?_append_right (by simp; omega), List.getElem?_replicate, if_pos (by simp; omega)]
theorem fill_step {L : List Int} {j : Nat} {x : Int} (h : L[j]? = some x) : (fillI L j).set j x = fillI L (j + 1) := by
 have hj := (List.getElem?_eq_some_iff.1 h).1
 apply List.ext_getElem?
 intro i
 unfold fillI
 rw [List.getElem?_set]
 by_cases e : j = i
 · subst e
   rw [if_pos rfl, if_pos (by simp; omega), List.getElem?_append_left (by simp; omega), List.getElem?_take, if_pos (by omega), h]
 · rw [if_neg e]
   rcases Nat.lt_or_ge i j with hi | hi
   · rw [List.getElem?_append_left (by simp; omega), List.getElem?_append_left (by simp; omega), List.getElem?_take, List.getElem?_take, if_pos hi, if_pos (by omega)]
   · rw [List.getElem?_append_right (by simp; omega), List.getElem?_append_right (by simp; omega), List.getElem?_replicate, List.getElem?_replicate]
     simp only [List.length_take]
     split <;> split <;> first | rfl | omega
/-- Two stores into another block. -/
theorem RdG.far2 {α : Type} {c : α → List Value} {k : Nat} {W : World} {g b n cp : Nat} {l : List α} (h : RdG c k W (.slice (some ⟨g, 0, none⟩) n cp) l) (hb : b < g) (u v : Value) : RdG c k ((W.setCell ⟨b, 0, none⟩ u).setCell ⟨b, 1, none⟩ v) (.slice (some ⟨g, 0, none⟩) n cp) l := by
 refine h.keep (by simp [World.setCell]) (fun a ha _ _ => ?_)
 cases ha
 exact (heap_setCell_other _ ⟨b, 1, none⟩ g v (by (try dsimp only); omega)).trans (heap_setCell_other W ⟨b, 0, none⟩ g u (by (try dsimp only); omega))
/-- A list of noughts that has been made. -/
def Made (T : TypeId) (n B : Nat) (v : Value) (w : World) : Prop := ∃ g, v = .slice (some ⟨g, 0, none⟩) n n ∧ B ≤ g ∧ w.heap[g]? = some (.cells (zI n) T (0, 0))
theorem Made.ext {T : TypeId} {n B : Nat} {v : Value} {w w' : World} (h : Made T n B v w) (e : Ext w w') : Made T n B v w' := by
 obtain ⟨g, h1, h2, h3⟩ := h
 exact ⟨g, h1, h2, (e.block g (heap_lt h3)).trans h3⟩
theorem Made.keep {T T' : TypeId} {n B : Nat} {v : Value} {w w' : World} (h : Made T n B v w) (ht : some T ≠ some T') (e : ExtT T' w w') : Made T n B v w' := by
 obtain ⟨g, h1, h2, h3⟩ := h
 exact ⟨g, h1, h2, (e.block g _ _ _ h3 (fun x => ht (congrArg _ x))).trans h3⟩
/-- A column's block that has been made. -/
def MadeV (B : Nat) (v : Value) (w : World) : Prop := ∃ g, v = .pointer (some ⟨g, 0, none⟩) ∧ B ≤ g ∧ VB w g (.slice none 0 0) (.slice none 0 0)
theorem MadeV.ext {B : Nat} {v : Value} {w w' : World} (h : MadeV B v w) (e : Ext w w') : MadeV B v w' := by
 obtain ⟨g, h1, h2, h3⟩ := h
 exact ⟨g, h1, h2, h3.ext e⟩
theorem MadeV.keep {B : Nat} {T' : TypeId} {v : Value} {w w' : World} (h : MadeV B v w) (ht : some 26 ≠ some T') (e : ExtT T' w w') : MadeV B v w' := by
 obtain ⟨g, h1, h2, h3⟩ := h
 exact ⟨g, h1, h2, h3.extT (fun x => ht (congrArg _ x)) e⟩
theorem zI_celi {w : World} {g n : Nat} {T : TypeId} (h : w.heap[g]? = some (.cells (zI n) T (0, 0))) : CelI w g (List.replicate n 0) := by
 refine ⟨heap_lt h, fun i x hx => ?_⟩
 rw [List.getElem?_replicate] at hx
 split at hx
 · rename_i hi
   obtain rfl := Option.some.inj hx
   exact ⟨by rw [cell_of_row _ _ i _ _ (0, 0) h]; exact zI_at n i hi, frozen_of_row _ _ _ _ _ h⟩
 · cases hx
section
variable {o : Oper} {a : Act} {w w0 : World} {B n : Nat}
theorem rt_make {TS T : TypeId} {x y : Operand} (hrun : ∀ W, (Instr.makeSlice TS (.int .i64 (n : Int)) (.int .i64 (n : Int))).run Tryd.prog W = .ok (.slice (some ⟨W.heap.size, 0, none⟩) n n) (W.alloc (.cells (zI n) T))) (ho : o.op = .makeSlice TS x y) (hx : a.eval x = .int .i64 (n : Int)) (hy : a.eval y = .int .i64 (n : Int)) (hE : Ext w0 w) (hb : B ≤ w.heap.size) :
   RunsTo Tryd.prog o a w (fun v w' => Ext w0 w' ∧ GrW none w w' ∧ Made T n B v w') :=
 .inl ⟨_, _, by simp [execOp, ho, hx, hy, hrun, Result.andThen], hE.alloc _, (Ext.refl _).alloc _, _, rfl, hb, top_heap w _⟩
theorem alloc_vec (w : World) : (Instr.alloc 26 true (.tuple #[])).run Tryd.prog w = .ok (.pointer (some ⟨w.heap.size, 0, none⟩)) (w.alloc (.cells #[.slice none 0 0, .slice none 0 0] 26)) := by
 go_simp
theorem rt_alloc (ho : o.op = .alloc 26) (hE : Ext w0 w) (hb : B ≤ w.heap.size) : RunsTo Tryd.prog o a w (fun v w' => Ext w0 w' ∧ GrW none w w' ∧ MadeV B v w') :=
 .inl ⟨_, _, by simp [execOp, ho, alloc_vec, Result.andThen], hE.alloc _, (Ext.refl _).alloc _, _, rfl, hb, top_heap w _⟩
end

open Go.RowKit
set_option maxHeartbeats 1000000

theorem numK_cases (s : ByteArray) : (numK s = true ∧ numR s = readV s) ∨ (numK s = false ∧ readV s = .err 2) := by
 unfold numK numR readV
 rcases rdK_cases s.data.toList with h | h | h <;> rw [h]
 · exact .inr ⟨rfl, rfl⟩
 · exact .inl ⟨rfl, rfl⟩
 · exact .inl ⟨rfl, rfl⟩
theorem vtonum_any (k n : Int) (s : ByteArray) (e : Int) (w : World) (hn : I64 n) (hN : Nm w) :
   Calls Tryd.prog 38 #[.agg #[.int .i64 k, .int .i64 n, .string s, .int .i64 e]] w fun r w' => r = .returned ((nm k n s e).toNum.dat) ∧ Ext w w' := by
 have c0 := fun W h => vnormal_any k n s e W h
 have ok := nm_ok k n s e hn
 clear hn
 generalize nm k n s e = v at c0 ok ⊢
 cases v with
 | blank =>
   simp only [V.dat] at c0
   have c1 := fun W h => vnum_any 0 W h
   rw [mkNum_is (by decide)] at c1
   simp only [V.dat] at c1
   clear ok
   go_enter Tryd.func38, Tryd.ntmps38
   go_wp2_with fail
   refine (c0 _ (hN.ext (by with_reducible repeat (first | assumption | exact Ext.refl _ | apply Ext.alloc | apply Ext.drewN | (refine Ext.setCell ?_ (by simp) _))))).mono ?_
   rintro r w1 ⟨rfl, E1⟩
   have X1 : Ext w w1 := Ext.trans (by with_reducible repeat (first | assumption | exact Ext.refl _ | apply Ext.alloc | apply Ext.drewN | (refine Ext.setCell ?_ (by simp) _))) E1
   have B0_1 := blk_top (b := w.heap.size) (by simp) (((Ext.refl _).alloc _).trans E1)
   have B1_1 := blk_top (b := w.heap.size + 1) (by simp) E1
   have D0 := B0_1
   obtain ⟨b0z, ⟨b0_0, b0_1, b0_2, b0_3⟩, b0f0, b0f1, b0f2, b0f3⟩ := D0
   have D1 := B1_1
   obtain ⟨b1z, ⟨b1_0, b1_1, b1_2, b1_3⟩, b1f0, b1f1, b1f2, b1f3⟩ := D1
   go_wp2_with fail
   refine (c1 _ (hN.ext (by with_reducible repeat (first | assumption | exact Ext.refl _ | apply Ext.alloc | apply Ext.drewN | (refine Ext.setCell ?_ (by simp) _))))).mono ?_
   rintro r w2 ⟨rfl, E2⟩
   have X2 : Ext w w2 := Ext.trans (by with_reducible repeat (first | assumption | exact Ext.refl _ | apply Ext.alloc | apply Ext.drewN | (refine Ext.setCell ?_ (by simp) _))) E2
   have B1_2 := (B1_1.far (c := w.heap.size) (by simp) _ _ _ _).ext E2
   have D1 := B1_2
   obtain ⟨b1z, ⟨b1_0, b1_1, b1_2, b1_3⟩, b1f0, b1f1, b1f2, b1f3⟩ := D1
   go_wp2_with fail
   exact finB (B1_2.set _ _ _ _) rfl (by with_reducible repeat (first | assumption | exact Ext.refl _ | apply Ext.alloc | apply Ext.drewN | (refine Ext.setCell ?_ (by simp) _))) (fun g0 g1 g2 g3 => by simp [results, Tryd.results38, go_sem, g0, g1, g2, g3]) (fun h => ⟨rfl, h⟩)
 | tf b =>
   simp only [V.dat] at c0
   cases b with
   | false =>
     simp only [Bool.false_eq_true, if_false] at c0
     have c1 := fun W h => vnum_any 0 W h
     rw [mkNum_is (by decide)] at c1
     simp only [V.dat] at c1
     clear ok
     go_enter Tryd.func38, Tryd.ntmps38
     go_wp2_with fail
     refine (c0 _ (hN.ext (by with_reducible repeat (first | assumption | exact Ext.refl _ | apply Ext.alloc | apply Ext.drewN | (refine Ext.setCell ?_ (by simp) _))))).mono ?_
     rintro r w1 ⟨rfl, E1⟩
     have X1 : Ext w w1 := Ext.trans (by with_reducible repeat (first | assumption | exact Ext.refl _ | apply Ext.alloc | apply Ext.drewN | (refine Ext.setCell ?_ (by simp) _))) E1
     have B0_1 := blk_top (b := w.heap.size) (by simp) (((Ext.refl _).alloc _).trans E1)
     have B1_1 := blk_top (b := w.heap.size + 1) (by simp) E1
     have D0 := B0_1
     obtain ⟨b0z, ⟨b0_0, b0_1, b0_2, b0_3⟩, b0f0, b0f1, b0f2, b0f3⟩ := D0
     have D1 := B1_1
     obtain ⟨b1z, ⟨b1_0, b1_1, b1_2, b1_3⟩, b1f0, b1f1, b1f2, b1f3⟩ := D1
     go_wp2_with fail
     refine (c1 _ (hN.ext (by with_reducible repeat (first | assumption | exact Ext.refl _ | apply Ext.alloc | apply Ext.drewN | (refine Ext.setCell ?_ (by simp) _))))).mono ?_
     rintro r w2 ⟨rfl, E2⟩
     have X2 : Ext w w2 := Ext.trans (by with_reducible repeat (first | assumption | exact Ext.refl _ | apply Ext.alloc | apply Ext.drewN | (refine Ext.setCell ?_ (by simp) _))) E2
     have B1_2 := (B1_1.far (c := w.heap.size) (by simp) _ _ _ _).ext E2
     have D1 := B1_2
     obtain ⟨b1z, ⟨b1_0, b1_1, b1_2, b1_3⟩, b1f0, b1f1, b1f2, b1f3⟩ := D1
     go_wp2_with fail
     exact finB (B1_2.set _ _ _ _) rfl (by with_reducible repeat (first | assumption | exact Ext.refl _ | apply Ext.alloc | apply Ext.drewN | (refine Ext.setCell ?_ (by simp) _))) (fun g0 g1 g2 g3 => by simp [results, Tryd.results38, go_sem, g0, g1, g2, g3]) (fun h => ⟨rfl, h⟩)
   | true =>
     simp only [if_true] at c0
     have c1 := fun W h => vnum_any 10000 W h
     rw [mkNum_is (by decide)] at c1
     simp only [V.dat] at c1
     clear ok
     go_enter Tryd.func38, Tryd.ntmps38
     go_wp2_with fail
     refine (c0 _ (hN.ext (by with_reducible repeat (first | assumption | exact Ext.refl _ | apply Ext.alloc | apply Ext.drewN | (refine Ext.setCell ?_ (by simp) _))))).mono ?_
     rintro r w1 ⟨rfl, E1⟩
     have X1 : Ext w w1 := Ext.trans (by with_reducible repeat (first | assumption | exact Ext.refl _ | apply Ext.alloc | apply Ext.drewN | (refine Ext.setCell ?_ (by simp) _))) E1
     have B0_1 := blk_top (b := w.heap.size) (by simp) (((Ext.refl _).alloc _).trans E1)
     have B1_1 := blk_top (b := w.heap.size + 1) (by simp) E1
     have D0 := B0_1
     obtain ⟨b0z, ⟨b0_0, b0_1, b0_2, b0_3⟩, b0f0, b0f1, b0f2, b0f3⟩ := D0
     have D1 := B1_1
     obtain ⟨b1z, ⟨b1_0, b1_1, b1_2, b1_3⟩, b1f0, b1f1, b1f2, b1f3⟩ := D1
     go_wp2_with fail
     refine (c1 _ (hN.ext (by with_reducible repeat (first | assumption | exact Ext.refl _ | apply Ext.alloc | apply Ext.drewN | (refine Ext.setCell ?_ (by simp) _))))).mono ?_
     rintro r w2 ⟨rfl, E2⟩
     have X2 : Ext w w2 := Ext.trans (by with_reducible repeat (first | assumption | exact Ext.refl _ | apply Ext.alloc | apply Ext.drewN | (refine Ext.setCell ?_ (by simp) _))) E2
     have B1_2 := (B1_1.far (c := w.heap.size) (by simp) _ _ _ _).ext E2
     have D1 := B1_2
     obtain ⟨b1z, ⟨b1_0, b1_1, b1_2, b1_3⟩, b1f0, b1f1, b1f2, b1f3⟩ := D1
     go_wp2_with fail
     exact finB (B1_2.set _ _ _ _) rfl (by with_reducible repeat (first | assumption | exact Ext.refl _ | apply Ext.alloc | apply Ext.drewN | (refine Ext.setCell ?_ (by simp) _))) (fun g0 g1 g2 g3 => by simp [results, Tryd.results38, go_sem, g0, g1, g2, g3]) (fun h => ⟨rfl, h⟩)
 | num n =>
   simp only [V.dat] at c0
   have c1 := fun W h => vnum_any n W h
   rw [mkNum_is ok.2] at c1
   simp only [V.dat] at c1
   clear ok
   go_enter Tryd.func38, Tryd.ntmps38
   go_wp2_with fail
   refine (c0 _ (hN.ext (by with_reducible repeat (first | assumption | exact Ext.refl _ | apply Ext.alloc | apply Ext.drewN | (refine Ext.setCell ?_ (by simp) _))))).mono ?_
   rintro r w1 ⟨rfl, E1⟩
   have X1 : Ext w w1 := Ext.trans (by with_reducible repeat (first | assumption | exact Ext.refl _ | apply Ext.alloc | apply Ext.drewN | (refine Ext.setCell ?_ (by simp) _))) E1
   have B0_1 := blk_top (b := w.heap.size) (by simp) (((Ext.refl _).alloc _).trans E1)
   have B1_1 := blk_top (b := w.heap.size + 1) (by simp) E1
   have D0 := B0_1
   obtain ⟨b0z, ⟨b0_0, b0_1, b0_2, b0_3⟩, b0f0, b0f1, b0f2, b0f3⟩ := D0
   have D1 := B1_1
   obtain ⟨b1z, ⟨b1_0, b1_1, b1_2, b1_3⟩, b1f0, b1f1, b1f2, b1f3⟩ := D1
   go_wp2_with fail
   refine (c1 _ (hN.ext (by with_reducible repeat (first | assumption | exact Ext.refl _ | apply Ext.alloc | apply Ext.drewN | (refine Ext.setCell ?_ (by simp) _))))).mono ?_
   rintro r w2 ⟨rfl, E2⟩
   have X2 : Ext w w2 := Ext.trans (by with_reducible repeat (first | assumption | exact Ext.refl _ | apply Ext.alloc | apply Ext.drewN | (refine Ext.setCell ?_ (by simp) _))) E2
   have B1_2 := (B1_1.far (c := w.heap.size) (by simp) _ _ _ _).ext E2
   have D1 := B1_2
   obtain ⟨b1z, ⟨b1_0, b1_1, b1_2, b1_3⟩, b1f0, b1f1, b1f2, b1f3⟩ := D1
   go_wp2_with fail
   exact finB (B1_2.set _ _ _ _) rfl (by with_reducible repeat (first | assumption | exact Ext.refl _ | apply Ext.alloc | apply Ext.drewN | (refine Ext.setCell ?_ (by simp) _))) (fun g0 g1 g2 g3 => by simp [results, Tryd.results38, go_sem, g0, g1, g2, g3]) (fun h => ⟨rfl, h⟩)
 | text s =>
   simp only [V.dat] at c0
   have c1 := fun W h => numeral_any s W (Nat.le_trans ok (by decide)) h
   have c2 := fun W h => err_any 2 W h
   rw [mkErr_is ⟨by decide, by decide⟩] at c2
   simp only [V.dat] at c2
   have hk := numK_cases s
   clear ok
   rcases hk with ⟨h1, h2⟩ | ⟨h1, h2⟩
   · rw [h1] at c1
     obtain ⟨q0, q1, q2, q3, hq⟩ := dat4 (numR s)
     rw [hq] at c1
     have H : Hid ((V.text s).toNum.dat = .agg #[.int .i64 q0, .int .i64 q1, .string q2, .int .i64 q3]) := by show (readV s).dat = _; rw [← h2]; exact hq
     clear hq h1 h2 c2
     go_enter Tryd.func38, Tryd.ntmps38
     go_wp2_with fail
     refine (c0 _ (hN.ext (by with_reducible repeat (first | assumption | exact Ext.refl _ | apply Ext.alloc | apply Ext.drewN | (refine Ext.setCell ?_ (by simp) _))))).mono ?_
     rintro r w1 ⟨rfl, E1⟩
     have X1 : Ext w w1 := Ext.trans (by with_reducible repeat (first | assumption | exact Ext.refl _ | apply Ext.alloc | apply Ext.drewN | (refine Ext.setCell ?_ (by simp) _))) E1
     have B0_1 := blk_top (b := w.heap.size) (by simp) (((Ext.refl _).alloc _).trans E1)
     have B1_1 := blk_top (b := w.heap.size + 1) (by simp) E1
     have D0 := B0_1
     obtain ⟨b0z, ⟨b0_0, b0_1, b0_2, b0_3⟩, b0f0, b0f1, b0f2, b0f3⟩ := D0
     have D1 := B1_1
     obtain ⟨b1z, ⟨b1_0, b1_1, b1_2, b1_3⟩, b1f0, b1f1, b1f2, b1f3⟩ := D1
     go_wp2_with fail
     refine (c1 _ (hN.ext (by with_reducible repeat (first | assumption | exact Ext.refl _ | apply Ext.alloc | apply Ext.drewN | (refine Ext.setCell ?_ (by simp) _))))).mono ?_
     rintro r w2 ⟨rfl, E2⟩
     have X2 : Ext w w2 := Ext.trans (by with_reducible repeat (first | assumption | exact Ext.refl _ | apply Ext.alloc | apply Ext.drewN | (refine Ext.setCell ?_ (by simp) _))) E2
     have B1_2 := (B1_1.far (c := w.heap.size) (by simp) _ _ _ _).ext E2
     have D1 := B1_2
     obtain ⟨b1z, ⟨b1_0, b1_1, b1_2, b1_3⟩, b1f0, b1f1, b1f2, b1f3⟩ := D1
     go_wp2_with fail
     exact finB ((B1_2.set _ _ _ _).ext ((Ext.refl _).alloc _)) rfl (by with_reducible repeat (first | assumption | exact Ext.refl _ | apply Ext.alloc | apply Ext.drewN | (refine Ext.setCell ?_ (by simp) _))) (fun g0 g1 g2 g3 => by simp [results, Tryd.results38, go_sem, g0, g1, g2, g3]) (fun h => ⟨by rw [H.out], h⟩)
   · rw [h1] at c1
     obtain ⟨q0, q1, q2, q3, hq⟩ := dat4 (numR s)
     rw [hq] at c1
     have H : Hid ((V.text s).toNum = .err 2) := h2
     clear hq h1 h2
     go_enter Tryd.func38, Tryd.ntmps38
     go_wp2_with fail
     refine (c0 _ (hN.ext (by with_reducible repeat (first | assumption | exact Ext.refl _ | apply Ext.alloc | apply Ext.drewN | (refine Ext.setCell ?_ (by simp) _))))).mono ?_
     rintro r w1 ⟨rfl, E1⟩
     have X1 : Ext w w1 := Ext.trans (by with_reducible repeat (first | assumption | exact Ext.refl _ | apply Ext.alloc | apply Ext.drewN | (refine Ext.setCell ?_ (by simp) _))) E1
     have B0_1 := blk_top (b := w.heap.size) (by simp) (((Ext.refl _).alloc _).trans E1)
     have B1_1 := blk_top (b := w.heap.size + 1) (by simp) E1
     have D0 := B0_1
     obtain ⟨b0z, ⟨b0_0, b0_1, b0_2, b0_3⟩, b0f0, b0f1, b0f2, b0f3⟩ := D0
     have D1 := B1_1
     obtain ⟨b1z, ⟨b1_0, b1_1, b1_2, b1_3⟩, b1f0, b1f1, b1f2, b1f3⟩ := D1
     go_wp2_with fail
     refine (c1 _ (hN.ext (by with_reducible repeat (first | assumption | exact Ext.refl _ | apply Ext.alloc | apply Ext.drewN | (refine Ext.setCell ?_ (by simp) _))))).mono ?_
     rintro r w2 ⟨rfl, E2⟩
     have X2 : Ext w w2 := Ext.trans (by with_reducible repeat (first | assumption | exact Ext.refl _ | apply Ext.alloc | apply Ext.drewN | (refine Ext.setCell ?_ (by simp) _))) E2
     have B1_2 := (B1_1.far (c := w.heap.size) (by simp) _ _ _ _).ext E2
     have D1 := B1_2
     obtain ⟨b1z, ⟨b1_0, b1_1, b1_2, b1_3⟩, b1f0, b1f1, b1f2, b1f3⟩ := D1
     go_wp2_with fail
     refine (c2 _ (hN.ext (by with_reducible repeat (first | assumption | exact Ext.refl _ | apply Ext.alloc | apply Ext.drewN | (refine Ext.setCell ?_ (by simp) _))))).mono ?_
     rintro r w3 ⟨rfl, E3⟩
     have X3 : Ext w w3 := Ext.trans (by with_reducible repeat (first | assumption | exact Ext.refl _ | apply Ext.alloc | apply Ext.drewN | (refine Ext.setCell ?_ (by simp) _))) E3
     have B1_3 := (B1_2.ext ((Ext.refl _).alloc _)).ext E3
     have D1 := B1_3
     obtain ⟨b1z, ⟨b1_0, b1_1, b1_2, b1_3⟩, b1f0, b1f1, b1f2, b1f3⟩ := D1
     go_wp2_with fail
     exact finB (B1_3.set _ _ _ _) rfl (by with_reducible repeat (first | assumption | exact Ext.refl _ | apply Ext.alloc | apply Ext.drewN | (refine Ext.setCell ?_ (by simp) _))) (fun g0 g1 g2 g3 => by simp [results, Tryd.results38, go_sem, g0, g1, g2, g3]) (fun h => ⟨by rw [H.out]; rfl, h⟩)
 | err e =>
   simp only [V.dat] at c0
   clear ok
   go_enter Tryd.func38, Tryd.ntmps38
   go_wp2_with fail
   refine (c0 _ (hN.ext (by with_reducible repeat (first | assumption | exact Ext.refl _ | apply Ext.alloc | apply Ext.drewN | (refine Ext.setCell ?_ (by simp) _))))).mono ?_
   rintro r w1 ⟨rfl, E1⟩
   have X1 : Ext w w1 := Ext.trans (by with_reducible repeat (first | assumption | exact Ext.refl _ | apply Ext.alloc | apply Ext.drewN | (refine Ext.setCell ?_ (by simp) _))) E1
   have B0_1 := blk_top (b := w.heap.size) (by simp) (((Ext.refl _).alloc _).trans E1)
   have B1_1 := blk_top (b := w.heap.size + 1) (by simp) E1
   have D0 := B0_1
   obtain ⟨b0z, ⟨b0_0, b0_1, b0_2, b0_3⟩, b0f0, b0f1, b0f2, b0f3⟩ := D0
   have D1 := B1_1
   obtain ⟨b1z, ⟨b1_0, b1_1, b1_2, b1_3⟩, b1f0, b1f1, b1f2, b1f3⟩ := D1
   go_wp2_with fail
   exact finB ((B1_1.far (c := w.heap.size) (by simp) _ _ _ _).set _ _ _ _) rfl (by with_reducible repeat (first | assumption | exact Ext.refl _ | apply Ext.alloc | apply Ext.drewN | (refine Ext.setCell ?_ (by simp) _))) (fun g0 g1 g2 g3 => by simp [results, Tryd.results38, go_sem, g0, g1, g2, g3]) (fun h => ⟨rfl, h⟩)
/-- From block lo on nothing has turned. -/
def Same (lo : Nat) (w W : World) : Prop := w.heap.size ≤ W.heap.size ∧ ∀ b o, lo ≤ b → b < w.heap.size → W.cell? ⟨b, o, none⟩ = w.cell? ⟨b, o, none⟩
theorem Same.refl (lo : Nat) (w : World) : Same lo w w := ⟨Nat.le_refl _, fun _ _ _ _ => rfl⟩
theorem Same.ext {lo : Nat} {w W W' : World} (h : Same lo w W) (e : Ext W W') : Same lo w W' := ⟨Nat.le_trans h.1 e.sz, fun b o hl hb => (e.cell.1 b o (Nat.lt_of_lt_of_le hb h.1)).trans (h.2 b o hl hb)⟩
theorem Same.set {lo : Nat} {w W : World} {p : Addr} {v : Value} (h : Same lo w W) (hc : p.block < lo) : Same lo w (W.setCell p v) := by
 refine ⟨by simpa [World.setCell] using h.1, fun b o hl hb => ?_⟩
 rw [World.cell?_setCell_far _ _ _ _ (by show p.block ≠ b; omega)]
 exact h.2 b o hl hb
theorem Same.dr {lo : Nat} {w W : World} (h : Same lo w W) : Same lo w W.drew := h.ext ((Ext.refl _).drew)
/-- What an operator's closure does. -/
def Does (op : Int) (G B lo : Nat) (w : World) : Prop := ∀ W x y, Same lo w W → I64 x → I64 y → Nm W → Calls Tryd.prog G #[.int .i64 x, .int .i64 y, .pointer (some ⟨B, 0, none⟩)] W fun r w' => r = .returned (reckon op x y).dat ∧ Ext W w'
end Go.Proofs.YteaoeichgibgiaaDoor
