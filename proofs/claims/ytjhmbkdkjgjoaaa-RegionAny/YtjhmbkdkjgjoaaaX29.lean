import Derived.Test.YtjhmbkdkjgjoaaaX28
namespace Go.Proofs.Ytjhmbkdkjgjoaaa
open Go.RowKit
set_option maxHeartbeats 6000000
set_option maxRecDepth 100000 in
theorem show_bin (n : Nat) (t : T) (hk : t.k = 7) (_hW : Wf t) (x y : T) (hl : t.l = [x, y]) (hx : ShC n x) (hy : ShC n y) (hlen : (shT n x).length + (shT n y).length + t.s.length ≤ 80000000) : ShC (n + 1) t := by
 intro W P pp ln cl hL
 have e0 : (t.k == 0) = false := by rw [hk]; rfl
 have e1 : (t.k == 1) = false := by rw [hk]; rfl
 have e2 : (t.k == 2) = false := by rw [hk]; rfl
 have e3 : (t.k == 3) = false := by rw [hk]; rfl
 have e4 : (t.k == 4) = false := by rw [hk]; rfl
 have e5 : (t.k == 5) = false := by rw [hk]; rfl
 have e6 : (t.k == 6) = false := by rw [hk]; rfl
 have e7 : (t.k == 7) = true := by rw [hk]; rfl
 have HX : Hid (shT (n + 1) t = brkL (loose (bnd t.s) x) (shT n x) ++ t.s ++ brkL (loose (bnd t.s + 1) y) (shT n y)) := by show _ = _; rw [shT]; simp [hk, hl, hdT, sdT]
 obtain ⟨gb, off, qq, lm, cm, hpp, hln, hLx, hce⟩ := elem_at hL (show t.l[0]? = some x by rw [hl]; rfl)
 obtain ⟨gb', off', q2, l2, cz, hpp', hln', hLy, hce'⟩ := elem_at hL (show t.l[1]? = some y by rw [hl]; rfl)
 rw [hpp] at hpp'
 cases hpp'
 rw [hl] at hln
 simp only [Nat.zero_mul, Nat.add_zero] at hce
 simp only [Nat.one_mul] at hce'
 replace hln : ln = 2 := hln
 clear hln'
 subst hpp hln
 have HCx : Hid (∀ V, Ext W V → Calls Try.prog 22 #[.agg #[.int .i64 x.k, .int .i64 x.n, .string (bs x.s), .int .i64 x.e, .int .i64 x.r.1, .int .i64 x.r.2.1, .bool x.r.2.2.1, .bool x.r.2.2.2, .int .i64 x.q.1, .int .i64 x.q.2.1, .bool x.q.2.2.1, .bool x.q.2.2.2, .slice qq lm cm]] V fun e w' => e = .returned (.string (bs (shT n x))) ∧ Ext V w') := fun V e => hx V P qq lm cm (hLx.ext e)
 have HCy : Hid (∀ V, Ext W V → Calls Try.prog 22 #[.agg #[.int .i64 y.k, .int .i64 y.n, .string (bs y.s), .int .i64 y.e, .int .i64 y.r.1, .int .i64 y.r.2.1, .bool y.r.2.2.1, .bool y.r.2.2.2, .int .i64 y.q.1, .int .i64 y.q.2.1, .bool y.q.2.2.1, .bool y.q.2.2.2, .slice q2 l2 cz]] V fun e w' => e = .returned (.string (bs (shT n y))) ∧ Ext V w') := fun V e => hy V P q2 l2 cz (hLy.ext e)
 have HE : Hid (∀ V, Ext W V → (V.cell? ⟨gb, off, none⟩ = some (.int .i64 x.k) ∧ V.cell? ⟨gb, off + 1, none⟩ = some (.int .i64 x.n) ∧ V.cell? ⟨gb, off + 2, none⟩ = some (.string (bs x.s)) ∧ V.cell? ⟨gb, off + 3, none⟩ = some (.int .i64 x.e) ∧ V.cell? ⟨gb, off + 4, none⟩ = some (.int .i64 x.r.1) ∧ V.cell? ⟨gb, off + 5, none⟩ = some (.int .i64 x.r.2.1) ∧ V.cell? ⟨gb, off + 6, none⟩ = some (.bool x.r.2.2.1) ∧ V.cell? ⟨gb, off + 7, none⟩ = some (.bool x.r.2.2.2) ∧ V.cell? ⟨gb, off + 8, none⟩ = some (.int .i64 x.q.1) ∧ V.cell? ⟨gb, off + 9, none⟩ = some (.int .i64 x.q.2.1) ∧ V.cell? ⟨gb, off + 10, none⟩ = some (.bool x.q.2.2.1) ∧ V.cell? ⟨gb, off + 11, none⟩ = some (.bool x.q.2.2.2) ∧ V.cell? ⟨gb, off + 12, none⟩ = some (.slice qq lm cm)) ∧ (V.cell? ⟨gb, off + 13, none⟩ = some (.int .i64 y.k) ∧ V.cell? ⟨gb, off + 13 + 1, none⟩ = some (.int .i64 y.n) ∧ V.cell? ⟨gb, off + 13 + 2, none⟩ = some (.string (bs y.s)) ∧ V.cell? ⟨gb, off + 13 + 3, none⟩ = some (.int .i64 y.e) ∧ V.cell? ⟨gb, off + 13 + 4, none⟩ = some (.int .i64 y.r.1) ∧ V.cell? ⟨gb, off + 13 + 5, none⟩ = some (.int .i64 y.r.2.1) ∧ V.cell? ⟨gb, off + 13 + 6, none⟩ = some (.bool y.r.2.2.1) ∧ V.cell? ⟨gb, off + 13 + 7, none⟩ = some (.bool y.r.2.2.2) ∧ V.cell? ⟨gb, off + 13 + 8, none⟩ = some (.int .i64 y.q.1) ∧ V.cell? ⟨gb, off + 13 + 9, none⟩ = some (.int .i64 y.q.2.1) ∧ V.cell? ⟨gb, off + 13 + 10, none⟩ = some (.bool y.q.2.2.1) ∧ V.cell? ⟨gb, off + 13 + 11, none⟩ = some (.bool y.q.2.2.2) ∧ V.cell? ⟨gb, off + 13 + 12, none⟩ = some (.slice q2 l2 cz))) := fun V e => ⟨hce V e, hce' V e⟩
 have HQx : Hid ((bs (shT n x)).data.toList = shT n x) := rfl
 have HQy : Hid ((bs (shT n y)).data.toList = shT n y) := rfl
 have HQt : Hid ((bs t.s).data.toList = t.s) := rfl
 have hqs : (bs (shT n x)).size + (bs (shT n y)).size + (bs t.s).size ≤ 80000000 := by rw [bs_size, bs_size, bs_size]; exact hlen
 have Px : Hid (∀ V, Calls Try.prog 34 #[.string (bs x.s)] V fun e w' => e = .returned (.int .i64 ((bnd x.s : Nat) : Int)) ∧ w' = V) := fun V => rpow8_any (bs x.s) V
 have Py : Hid (∀ V, Calls Try.prog 34 #[.string (bs y.s)] V fun e w' => e = .returned (.int .i64 ((bnd y.s : Nat) : Int)) ∧ w' = V) := fun V => rpow8_any (bs y.s) V
 have Pt : Hid (∀ V, Calls Try.prog 34 #[.string (bs t.s)] V fun e w' => e = .returned (.int .i64 ((bnd t.s : Nat) : Int)) ∧ w' = V) := fun V => rpow8_any (bs t.s) V
 obtain ⟨bx, hbx⟩ : ∃ bx, bnd x.s = bx := ⟨_, rfl⟩
 obtain ⟨bz, hby⟩ : ∃ bz, bnd y.s = bz := ⟨_, rfl⟩
 obtain ⟨bt, hbt⟩ : ∃ bt, bnd t.s = bt := ⟨_, rfl⟩
 have HBD : Hid (bnd x.s = bx ∧ bnd y.s = bz ∧ bnd t.s = bt) := ⟨hbx, hby, hbt⟩
 rw [hbx] at Px
 rw [hby] at Py
 rw [hbt] at Pt
 generalize bs (shT n x) = qx at *
 generalize bs (shT n y) = qy at *
 have s1 : (⟨#[40]⟩ : ByteArray).size = 1 := rfl
 have s2 : (⟨#[41]⟩ : ByteArray).size = 1 := rfl
 have s3 : ((⟨#[40]⟩ : ByteArray) ++ qx).size = qx.size + 1 := by rw [ByteArray.size_append, s1]; omega
 have s4 : ((⟨#[40]⟩ : ByteArray) ++ qx ++ (⟨#[41]⟩ : ByteArray)).size = qx.size + 2 := by rw [ByteArray.size_append, s3, s2]
 have s5 : ((⟨#[40]⟩ : ByteArray) ++ qy).size = qy.size + 1 := by rw [ByteArray.size_append, s1]; omega
 have s6 : ((⟨#[40]⟩ : ByteArray) ++ qy ++ (⟨#[41]⟩ : ByteArray)).size = qy.size + 2 := by rw [ByteArray.size_append, s5, s2]
 have s7 : (qx ++ bs t.s).size = qx.size + (bs t.s).size := by rw [ByteArray.size_append]
 have s8 : ((⟨#[40]⟩ : ByteArray) ++ qx ++ (⟨#[41]⟩ : ByteArray) ++ bs t.s).size = qx.size + 2 + (bs t.s).size := by rw [ByteArray.size_append, s4]
 clear hL hk hl hx hy hlen hLx hLy hce hce' hbx hby hbt
 go_enter Try.func22, Try.ntmps22
 go_wp2_with fail
 have HF : Hid (BlkX (W.alloc (.cells #[.int .i64 t.k, .int .i64 t.n, .string (bs t.s), .int .i64 t.e, .int .i64 t.r.1, .int .i64 t.r.2.1, .bool t.r.2.2.1, .bool t.r.2.2.2, .int .i64 t.q.1, .int .i64 t.q.2.1, .bool t.q.2.2.1, .bool t.q.2.2.2, .slice (some ⟨gb, off, none⟩) 2 cl] 29)) W.heap.size t (.slice (some ⟨gb, off, none⟩) 2 cl) ∧ Ext W (W.alloc (.cells #[.int .i64 t.k, .int .i64 t.n, .string (bs t.s), .int .i64 t.e, .int .i64 t.r.1, .int .i64 t.r.2.1, .bool t.r.2.2.1, .bool t.r.2.2.2, .int .i64 t.q.1, .int .i64 t.q.2.1, .bool t.q.2.2.1, .bool t.q.2.2.2, .slice (some ⟨gb, off, none⟩) 2 cl] 29))) := ⟨blk13_top (b := W.heap.size) rfl (Ext.refl _), (Ext.refl _).alloc _⟩
 generalize W.alloc (.cells #[.int .i64 t.k, .int .i64 t.n, .string (bs t.s), .int .i64 t.e, .int .i64 t.r.1, .int .i64 t.r.2.1, .bool t.r.2.2.1, .bool t.r.2.2.2, .int .i64 t.q.1, .int .i64 t.q.2.1, .bool t.q.2.2.1, .bool t.q.2.2.2, .slice (some ⟨gb, off, none⟩) 2 cl] 29) = W1 at *
 have mkS : Hid (∀ V, Ext W1 V → V.cell? ⟨W.heap.size, 12, none⟩ = some (.slice (some ⟨gb, off, none⟩) 2 cl) ∧ (V.cell? ⟨gb, off, none⟩ = some (.int .i64 x.k) ∧ V.cell? ⟨gb, off + 1, none⟩ = some (.int .i64 x.n) ∧ V.cell? ⟨gb, off + 2, none⟩ = some (.string (bs x.s)) ∧ V.cell? ⟨gb, off + 3, none⟩ = some (.int .i64 x.e) ∧ V.cell? ⟨gb, off + 4, none⟩ = some (.int .i64 x.r.1) ∧ V.cell? ⟨gb, off + 5, none⟩ = some (.int .i64 x.r.2.1) ∧ V.cell? ⟨gb, off + 6, none⟩ = some (.bool x.r.2.2.1) ∧ V.cell? ⟨gb, off + 7, none⟩ = some (.bool x.r.2.2.2) ∧ V.cell? ⟨gb, off + 8, none⟩ = some (.int .i64 x.q.1) ∧ V.cell? ⟨gb, off + 9, none⟩ = some (.int .i64 x.q.2.1) ∧ V.cell? ⟨gb, off + 10, none⟩ = some (.bool x.q.2.2.1) ∧ V.cell? ⟨gb, off + 11, none⟩ = some (.bool x.q.2.2.2) ∧ V.cell? ⟨gb, off + 12, none⟩ = some (.slice qq lm cm)) ∧ (V.cell? ⟨gb, off + 13, none⟩ = some (.int .i64 y.k) ∧ V.cell? ⟨gb, off + 13 + 1, none⟩ = some (.int .i64 y.n) ∧ V.cell? ⟨gb, off + 13 + 2, none⟩ = some (.string (bs y.s)) ∧ V.cell? ⟨gb, off + 13 + 3, none⟩ = some (.int .i64 y.e) ∧ V.cell? ⟨gb, off + 13 + 4, none⟩ = some (.int .i64 y.r.1) ∧ V.cell? ⟨gb, off + 13 + 5, none⟩ = some (.int .i64 y.r.2.1) ∧ V.cell? ⟨gb, off + 13 + 6, none⟩ = some (.bool y.r.2.2.1) ∧ V.cell? ⟨gb, off + 13 + 7, none⟩ = some (.bool y.r.2.2.2) ∧ V.cell? ⟨gb, off + 13 + 8, none⟩ = some (.int .i64 y.q.1) ∧ V.cell? ⟨gb, off + 13 + 9, none⟩ = some (.int .i64 y.q.2.1) ∧ V.cell? ⟨gb, off + 13 + 10, none⟩ = some (.bool y.q.2.2.1) ∧ V.cell? ⟨gb, off + 13 + 11, none⟩ = some (.bool y.q.2.2.2) ∧ V.cell? ⟨gb, off + 13 + 12, none⟩ = some (.slice q2 l2 cz))) := fun V e => by
   obtain ⟨qz, ⟨k0, k1, k2, k3, k4, k5, k6, k7, k8, k9, k10, k11, k12⟩, gz⟩ := HF.out.1.ext e
   exact ⟨k12, HE.out V (HF.out.2.trans e)⟩
 refine wp_region_held_drew (S := (fun V => V.cell? ⟨W.heap.size, 12, none⟩ = some (.slice (some ⟨gb, off, none⟩) 2 cl) ∧ (V.cell? ⟨gb, off, none⟩ = some (.int .i64 x.k) ∧ V.cell? ⟨gb, off + 1, none⟩ = some (.int .i64 x.n) ∧ V.cell? ⟨gb, off + 2, none⟩ = some (.string (bs x.s)) ∧ V.cell? ⟨gb, off + 3, none⟩ = some (.int .i64 x.e) ∧ V.cell? ⟨gb, off + 4, none⟩ = some (.int .i64 x.r.1) ∧ V.cell? ⟨gb, off + 5, none⟩ = some (.int .i64 x.r.2.1) ∧ V.cell? ⟨gb, off + 6, none⟩ = some (.bool x.r.2.2.1) ∧ V.cell? ⟨gb, off + 7, none⟩ = some (.bool x.r.2.2.2) ∧ V.cell? ⟨gb, off + 8, none⟩ = some (.int .i64 x.q.1) ∧ V.cell? ⟨gb, off + 9, none⟩ = some (.int .i64 x.q.2.1) ∧ V.cell? ⟨gb, off + 10, none⟩ = some (.bool x.q.2.2.1) ∧ V.cell? ⟨gb, off + 11, none⟩ = some (.bool x.q.2.2.2) ∧ V.cell? ⟨gb, off + 12, none⟩ = some (.slice qq lm cm)) ∧ (V.cell? ⟨gb, off + 13, none⟩ = some (.int .i64 y.k) ∧ V.cell? ⟨gb, off + 13 + 1, none⟩ = some (.int .i64 y.n) ∧ V.cell? ⟨gb, off + 13 + 2, none⟩ = some (.string (bs y.s)) ∧ V.cell? ⟨gb, off + 13 + 3, none⟩ = some (.int .i64 y.e) ∧ V.cell? ⟨gb, off + 13 + 4, none⟩ = some (.int .i64 y.r.1) ∧ V.cell? ⟨gb, off + 13 + 5, none⟩ = some (.int .i64 y.r.2.1) ∧ V.cell? ⟨gb, off + 13 + 6, none⟩ = some (.bool y.r.2.2.1) ∧ V.cell? ⟨gb, off + 13 + 7, none⟩ = some (.bool y.r.2.2.2) ∧ V.cell? ⟨gb, off + 13 + 8, none⟩ = some (.int .i64 y.q.1) ∧ V.cell? ⟨gb, off + 13 + 9, none⟩ = some (.int .i64 y.q.2.1) ∧ V.cell? ⟨gb, off + 13 + 10, none⟩ = some (.bool y.q.2.2.1) ∧ V.cell? ⟨gb, off + 13 + 11, none⟩ = some (.bool y.q.2.2.2) ∧ V.cell? ⟨gb, off + 13 + 12, none⟩ = some (.slice q2 l2 cz)))) (by kernel_rfl) ?_ (fun hHeld0 => ?_)
 · (refine mkS.out _ ?_; ((with_reducible (repeat (first | assumption | exact Ext.refl _ | apply Ext.alloc | apply Ext.drew | apply Ext.drewN))); done))
 refine wpAnyH_take (i := 0) (oi := ⟨some 69, .fieldAddr 29 (.tmp 1) 6, 0, "ref.go:46", #[], none⟩) (v := ?_) rfl (by kernel_rfl) (by kernel_rfl) (by kernel_rfl) (fun _ _ _ h => h) (Or.inl ⟨by rfl, ?_⟩) (by assumption) ?_
 rotate_left
 · intro w hSw; (try dsimp only at hSw); first | (go_simp; done) | (go_simp; with_reducible rfl)
 try simp only [Act.put, List.setIfInBounds_toArray, List.set_cons_zero, List.set_cons_succ]
 refine wpAnyH_take (i := 1) (oi := ⟨some 70, .load 27 (.tmp 69), 27, "ref.go:46", #[⟨0, .data⟩], none⟩) (v := ?_) rfl (by kernel_rfl) (by kernel_rfl) (by kernel_rfl) (fun _ _ _ h => h) (Or.inl ⟨by rfl, ?_⟩) (by assumption) ?_
 rotate_left
 · intro w hSw; (try dsimp only at hSw); first | (go_simp; done) | (go_simp; with_reducible rfl)
 try simp only [Act.put, List.setIfInBounds_toArray, List.set_cons_zero, List.set_cons_succ]
 refine wpAnyH_take (i := 2) (oi := ⟨some 71, .indexAddr 27 (.tmp 70) (.const (.int .i64 0)), 0, "ref.go:46", #[⟨1, .data⟩], none⟩) (v := ?_) rfl (by kernel_rfl) (by kernel_rfl) (by kernel_rfl) (fun _ _ _ h => h) (Or.inl ⟨by rfl, ?_⟩) (by assumption) ?_
 rotate_left
 · intro w hSw; (try dsimp only at hSw); first | (go_simp; done) | (go_simp; with_reducible rfl)
 try simp only [Act.put, List.setIfInBounds_toArray, List.set_cons_zero, List.set_cons_succ]
 refine wpAnyH_take (i := 3) (oi := ⟨some 72, .load 29 (.tmp 71), 29, "ref.go:46", #[⟨2, .data⟩], none⟩) (v := ?_) rfl (by kernel_rfl) (by kernel_rfl) (by kernel_rfl) (fun _ _ _ h => h) (Or.inl ⟨by rfl, ?_⟩) (by assumption) ?_
 rotate_left
 · intro w hSw; (try dsimp only at hSw); first | (go_simp; done) | (go_simp; with_reducible rfl)
 try simp only [Act.put, List.setIfInBounds_toArray, List.set_cons_zero, List.set_cons_succ]
 refine wpAnyH_take (i := 5) (oi := ⟨some 74, .fieldAddr 29 (.tmp 1) 6, 0, "ref.go:46", #[], none⟩) (v := ?_) rfl (by kernel_rfl) (by kernel_rfl) (by kernel_rfl) (fun _ _ _ h => h) (Or.inl ⟨by rfl, ?_⟩) (by assumption) ?_
 rotate_left
 · intro w hSw; (try dsimp only at hSw); first | (go_simp; done) | (go_simp; with_reducible rfl)
 try simp only [Act.put, List.setIfInBounds_toArray, List.set_cons_zero, List.set_cons_succ]
 refine wpAnyH_take (i := 6) (oi := ⟨some 75, .load 27 (.tmp 74), 27, "ref.go:46", #[⟨5, .data⟩], none⟩) (v := ?_) rfl (by kernel_rfl) (by kernel_rfl) (by kernel_rfl) (fun _ _ _ h => h) (Or.inl ⟨by rfl, ?_⟩) (by assumption) ?_
 rotate_left
 · intro w hSw; (try dsimp only at hSw); first | (go_simp; done) | (go_simp; with_reducible rfl)
 try simp only [Act.put, List.setIfInBounds_toArray, List.set_cons_zero, List.set_cons_succ]
 refine wpAnyH_take (i := 7) (oi := ⟨some 76, .indexAddr 27 (.tmp 75) (.const (.int .i64 1)), 0, "ref.go:46", #[⟨6, .data⟩], none⟩) (v := ?_) rfl (by kernel_rfl) (by kernel_rfl) (by kernel_rfl) (fun _ _ _ h => h) (Or.inl ⟨by rfl, ?_⟩) (by assumption) ?_
 rotate_left
 · intro w hSw; (try dsimp only at hSw); first | (go_simp; done) | (go_simp; with_reducible rfl)
 try simp only [Act.put, List.setIfInBounds_toArray, List.set_cons_zero, List.set_cons_succ]
 refine wpAnyH_take (i := 8) (oi := ⟨some 77, .load 29 (.tmp 76), 29, "ref.go:46", #[⟨7, .data⟩], none⟩) (v := ?_) rfl (by kernel_rfl) (by kernel_rfl) (by kernel_rfl) (fun _ _ _ h => h) (Or.inl ⟨by rfl, ?_⟩) (by assumption) ?_
 rotate_left
 · intro w hSw; (try dsimp only at hSw); first | (go_simp; done) | (go_simp; with_reducible rfl)
 try simp only [Act.put, List.setIfInBounds_toArray, List.set_cons_zero, List.set_cons_succ]
 refine wpAnyH_ready (rs := [4]) (by kernel_rfl) (by simp) ?_
 refine AllReadyH.cons (o := ⟨some 73, .call { callee := .value (.func 22), args := #[.tmp 72], argTypes := #[29] }, 9, "ref.go:46", #[⟨3, .data⟩], none⟩) rfl (fun K hK => ?_) AllReadyH.nil
 go_simp
 (go_at_call 22; refine Calls.mono (HCx.out _ (HF.out.2.trans (by with_reducible repeat (first | assumption | exact Ext.refl _ | apply Ext.alloc | apply Ext.drew | apply Ext.drewN)))) ?_; rintro e y1 ⟨rfl, E1⟩; have X1 : Ext W1 y1 := Ext.trans (by with_reducible repeat (first | assumption | exact Ext.refl _ | apply Ext.alloc | apply Ext.drew | apply Ext.drewN)) E1)
 try go_wp2_with fail
 refine hK.out _ _ ?_ (fun hHeld1 => ?_)
 · (try dsimp only); (refine mkS.out _ ?_; ((with_reducible (repeat (first | assumption | exact Ext.refl _ | apply Ext.alloc | apply Ext.drew | apply Ext.drewN))); done))
 clear hK K hHeld0
 try simp only [Act.put, List.setIfInBounds_toArray, List.set_cons_zero, List.set_cons_succ]
 refine wpAnyH_ready (rs := [9]) (by kernel_rfl) (by simp) ?_
 refine AllReadyH.cons (o := ⟨some 78, .call { callee := .value (.func 22), args := #[.tmp 77], argTypes := #[29] }, 9, "ref.go:46", #[⟨8, .data⟩, ⟨4, .chain⟩], none⟩) rfl (fun K hK => ?_) AllReadyH.nil
 go_simp
 (go_at_call 22; refine Calls.mono (HCy.out _ (HF.out.2.trans (by with_reducible repeat (first | assumption | exact Ext.refl _ | apply Ext.alloc | apply Ext.drew | apply Ext.drewN)))) ?_; rintro e y2 ⟨rfl, E2⟩; have X2 : Ext W1 y2 := Ext.trans (by with_reducible repeat (first | assumption | exact Ext.refl _ | apply Ext.alloc | apply Ext.drew | apply Ext.drewN)) E2)
 try go_wp2_with fail
 refine hK.out _ _ ?_ (fun hHeld2 => ?_)
 · (try dsimp only); (refine mkS.out _ ?_; ((with_reducible (repeat (first | assumption | exact Ext.refl _ | apply Ext.alloc | apply Ext.drew | apply Ext.drewN))); done))
 clear hK K hHeld1
 try simp only [Act.put, List.setIfInBounds_toArray, List.set_cons_zero, List.set_cons_succ]
 refine wpAnyH_take (i := 10) (oi := ⟨some 4, .assign (.tmp 73), 9, "ref.go:46", #[⟨4, .data⟩, ⟨9, .chain⟩, ⟨0, .phase⟩, ⟨1, .phase⟩, ⟨2, .phase⟩, ⟨3, .phase⟩, ⟨4, .phase⟩, { on := 5, ground := Ground.textOnly Departure.lateStores }, { on := 6, ground := Ground.textOnly Departure.lateStores }, { on := 7, ground := Ground.textOnly Departure.lateStores }, { on := 8, ground := Ground.textOnly Departure.lateStores }, { on := 9, ground := Ground.textOnly Departure.lateStoresUnsure }], none⟩) (v := ?_) rfl (by kernel_rfl) (by kernel_rfl) (by kernel_rfl) (fun _ _ _ h => h) (Or.inl ⟨by rfl, ?_⟩) (by assumption) ?_
 rotate_left
 · intro w hSw; (try dsimp only at hSw); first | (go_simp; done) | (go_simp; with_reducible rfl)
 try simp only [Act.put, List.setIfInBounds_toArray, List.set_cons_zero, List.set_cons_succ]
 refine wpAnyH_take (i := 11) (oi := ⟨some 5, .assign (.tmp 78), 9, "ref.go:46", #[⟨9, .data⟩, ⟨10, .chain⟩, ⟨0, .phase⟩, ⟨1, .phase⟩, ⟨2, .phase⟩, ⟨3, .phase⟩, ⟨4, .phase⟩, ⟨5, .phase⟩, ⟨6, .phase⟩, ⟨7, .phase⟩, ⟨8, .phase⟩, ⟨9, .phase⟩, ⟨10, .phase⟩], none⟩) (v := ?_) rfl (by kernel_rfl) (by kernel_rfl) (by kernel_rfl) (fun _ _ _ h => h) (Or.inl ⟨by rfl, ?_⟩) (by assumption) ?_
 rotate_left
 · intro w hSw; (try dsimp only at hSw); first | (go_simp; done) | (go_simp; with_reducible rfl)
 try simp only [Act.put, List.setIfInBounds_toArray, List.set_cons_zero, List.set_cons_succ]
 refine wpAnyH_done (by kernel_rfl) ?_ _
 have HE2 : Hid (Ext W1 y2) := X2
 obtain ⟨m12, ⟨c0, c1, c2, c3, c4, c5, c6, c7, c8, c9, c10, c11, c12⟩, d0, d1, d2, d3, d4, d5, d6, d7, d8, d9, d10, d11, d12⟩ := mkS.out y2 X2
 go_wp2_with fail
 have HF2 : Hid (BlkX (y2.alloc (.cells #[.int .i64 x.k, .int .i64 x.n, .string (bs x.s), .int .i64 x.e, .int .i64 x.r.1, .int .i64 x.r.2.1, .bool x.r.2.2.1, .bool x.r.2.2.2, .int .i64 x.q.1, .int .i64 x.q.2.1, .bool x.q.2.2.1, .bool x.q.2.2.2, .slice qq lm cm] 29)) y2.heap.size x (.slice qq lm cm) ∧ Ext W1 (y2.alloc (.cells #[.int .i64 x.k, .int .i64 x.n, .string (bs x.s), .int .i64 x.e, .int .i64 x.r.1, .int .i64 x.r.2.1, .bool x.r.2.2.1, .bool x.r.2.2.2, .int .i64 x.q.1, .int .i64 x.q.2.1, .bool x.q.2.2.1, .bool x.q.2.2.2, .slice qq lm cm] 29))) := ⟨blk13_top rfl (Ext.refl _), HE2.out.alloc _⟩
 have hw2 : W.heap.size < y2.heap.size := Nat.lt_of_lt_of_le HF.out.1.1 X2.sz
 obtain ⟨bX, hbX⟩ : ∃ bX, y2.heap.size = bX := ⟨_, rfl⟩
 rw [hbX] at HF2 hw2
 simp only [hbX]
 generalize y2.alloc (.cells #[.int .i64 x.k, .int .i64 x.n, .string (bs x.s), .int .i64 x.e, .int .i64 x.r.1, .int .i64 x.r.2.1, .bool x.r.2.2.1, .bool x.r.2.2.2, .int .i64 x.q.1, .int .i64 x.q.2.1, .bool x.q.2.2.1, .bool x.q.2.2.2, .slice qq lm cm] 29) = W2 at *
 have mkT : Hid (∀ V, Ext W2 V → V.cell? ⟨W.heap.size, 2, none⟩ = some (.string (bs t.s)) ∧ V.cell? ⟨bX, 0, none⟩ = some (.int .i64 x.k) ∧ V.cell? ⟨bX, 2, none⟩ = some (.string (bs x.s))) := fun V e => by
   obtain ⟨qz, ⟨k0, k1, k2, k3, k4, k5, k6, k7, k8, k9, k10, k11, k12⟩, gz⟩ := HF.out.1.ext (HF2.out.2.trans e)
   obtain ⟨qy, ⟨y0, y1, y2, y3, y4, y5, y6, y7, y8, y9, y10, y11, y12⟩, gy⟩ := HF2.out.1.ext e
   exact ⟨k2, y0, y2⟩
 clear hbX E1 X1 E2 X2 m12 c0 c1 c2 c3 c4 c5 c6 c7 c8 c9 c10 c11 c12 d0 d1 d2 d3 d4 d5 d6 d7 d8 d9 d10 d11 d12
 obtain ⟨m12, ⟨c0, c1, c2, c3, c4, c5, c6, c7, c8, c9, c10, c11, c12⟩, d0, d1, d2, d3, d4, d5, d6, d7, d8, d9, d10, d11, d12⟩ := mkS.out W2 HF2.out.2
 have mkU : Hid (∀ V, Ext (W2.alloc (.cells #[.int .i64 y.k, .int .i64 y.n, .string (bs y.s), .int .i64 y.e, .int .i64 y.r.1, .int .i64 y.r.2.1, .bool y.r.2.2.1, .bool y.r.2.2.2, .int .i64 y.q.1, .int .i64 y.q.2.1, .bool y.q.2.2.1, .bool y.q.2.2.2, .slice q2 l2 cz] 29)) V → V.cell? ⟨W.heap.size, 2, none⟩ = some (.string (bs t.s)) ∧ V.cell? ⟨W2.heap.size, 0, none⟩ = some (.int .i64 y.k) ∧ V.cell? ⟨W2.heap.size, 2, none⟩ = some (.string (bs y.s))) := fun V e => by
   obtain ⟨qz, ⟨k0, k1, k2, k3, k4, k5, k6, k7, k8, k9, k10, k11, k12⟩, gz⟩ := HF.out.1.ext ((HF2.out.2.alloc _).trans e)
   obtain ⟨qy, ⟨y0, y1, y2, y3, y4, y5, y6, y7, y8, y9, y10, y11, y12⟩, gy⟩ := blk13_top rfl e
   exact ⟨k2, y0, y2⟩
 obtain ⟨n2, n3, n4⟩ := mkT.out W2 (Ext.refl _)
 have hw3 : W.heap.size < W2.heap.size := Nat.lt_of_lt_of_le HF.out.1.1 HF2.out.2.sz
 clear n3 n4
 by_cases h7 : x.k = 7
 · have x7x : (x.k == 7) = true := by rw [h7]; rfl
   by_cases h8 : bx < bt
   · have i8x : (bx : Int) < (bt : Int) := by omega
     have d8x : decide ((bx : Int) < (bt : Int)) = true := by simpa using i8x
     have HBx : Hid (brkL (loose (bnd t.s) x) (shT n x) = 40 :: (shT n x ++ [41])) := by
       obtain ⟨h9x, h9y, h9t⟩ := HBD.out
       have hlo : loose (bnd t.s) x = true := by unfold loose; rw [h9x, h9t]; simp [h7]; omega
       show _ = _
       rw [hlo]; rfl
     clear h7 h8
     refine wp_region_held_drew (S := (fun V => V.cell? ⟨W.heap.size, 2, none⟩ = some (.string (bs t.s)) ∧ V.cell? ⟨bX, 0, none⟩ = some (.int .i64 x.k) ∧ V.cell? ⟨bX, 2, none⟩ = some (.string (bs x.s)))) (by kernel_rfl) ?_ (fun hHeld0 => ?_)
     · (refine mkT.out _ ?_; ((with_reducible (repeat (first | assumption | exact Ext.refl _ | apply Ext.alloc | apply Ext.drew | apply Ext.drewN))); done))
     refine wpAnyH_take (i := 0) (oi := ⟨some 83, .fieldAddr 29 (.tmp 6) 0, 0, "ref.go:47", #[], none⟩) (v := ?_) rfl (by kernel_rfl) (by kernel_rfl) (by kernel_rfl) (fun _ _ _ h => h) (Or.inl ⟨by rfl, ?_⟩) (by assumption) ?_
     rotate_left
     · intro w hSw; (try dsimp only at hSw); first | (go_simp; done) | (go_simp; with_reducible rfl)
     try simp only [Act.put, List.setIfInBounds_toArray, List.set_cons_zero, List.set_cons_succ]
     refine wpAnyH_take (i := 1) (oi := ⟨some 84, .load 3 (.tmp 83), 3, "ref.go:47", #[⟨0, .data⟩], none⟩) (v := ?_) rfl (by kernel_rfl) (by kernel_rfl) (by kernel_rfl) (fun _ _ _ h => h) (Or.inl ⟨by rfl, ?_⟩) (by assumption) ?_
     rotate_left
     · intro w hSw; (try dsimp only at hSw); first | (go_simp; done) | (go_simp; with_reducible rfl)
     try simp only [Act.put, List.setIfInBounds_toArray, List.set_cons_zero, List.set_cons_succ]
     refine wpAnyH_take (i := 2) (oi := ⟨some 85, .binOp .eql 3 (.tmp 84) (.const (.int .i64 7)) 3, 4, "ref.go:47", #[⟨1, .data⟩], none⟩) (v := ?_) rfl (by kernel_rfl) (by kernel_rfl) (by kernel_rfl) (fun _ _ _ h => h) (Or.inl ⟨by rfl, ?_⟩) (by assumption) ?_
     rotate_left
     · intro w hSw; (try dsimp only at hSw); first | (go_simp; done) | (go_simp; with_reducible rfl)
     try simp only [Act.put, List.setIfInBounds_toArray, List.set_cons_zero, List.set_cons_succ]
     refine wpAnyH_take (i := 3) (oi := ⟨some 86, .move (.tmp 85), 4, "ref.go:47", #[⟨2, .data⟩], none⟩) (v := ?_) rfl (by kernel_rfl) (by kernel_rfl) (by kernel_rfl) (fun _ _ _ h => h) (Or.inl ⟨by rfl, ?_⟩) (by assumption) ?_
     rotate_left
     · intro w hSw; (try dsimp only at hSw); first | (go_simp; done) | (go_simp; with_reducible rfl)
     try simp only [Act.put, List.setIfInBounds_toArray, List.set_cons_zero, List.set_cons_succ]
     refine wpAnyH_take (i := 4) (oi := ⟨some 87, .fieldAddr 29 (.tmp 6) 2, 0, "ref.go:47", #[⟨3, .guard⟩], some (3, true)⟩) (v := ?_) rfl (by kernel_rfl) (by kernel_rfl) (by kernel_rfl) (fun _ _ _ h => h) (Or.inl ⟨by rfl, ?_⟩) (by assumption) ?_
     rotate_left
     · intro w hSw; (try dsimp only at hSw); first | (go_simp; done) | (go_simp; with_reducible rfl)
     try simp only [Act.put, List.setIfInBounds_toArray, List.set_cons_zero, List.set_cons_succ]
     refine wpAnyH_take (i := 5) (oi := ⟨some 88, .load 9 (.tmp 87), 9, "ref.go:47", #[⟨4, .data⟩, ⟨3, .guard⟩], some (3, true)⟩) (v := ?_) rfl (by kernel_rfl) (by kernel_rfl) (by kernel_rfl) (fun _ _ _ h => h) (Or.inl ⟨by rfl, ?_⟩) (by assumption) ?_
     rotate_left
     · intro w hSw; (try dsimp only at hSw); first | (go_simp; done) | (go_simp; with_reducible rfl)
     try simp only [Act.put, List.setIfInBounds_toArray, List.set_cons_zero, List.set_cons_succ]
     refine wpAnyH_take (i := 7) (oi := ⟨some 90, .fieldAddr 29 (.tmp 1) 2, 0, "ref.go:47", #[⟨3, .guard⟩], some (3, true)⟩) (v := ?_) rfl (by kernel_rfl) (by kernel_rfl) (by kernel_rfl) (fun _ _ _ h => h) (Or.inl ⟨by rfl, ?_⟩) (by assumption) ?_
     rotate_left
     · intro w hSw; (try dsimp only at hSw); first | (go_simp; done) | (go_simp; with_reducible rfl)
     try simp only [Act.put, List.setIfInBounds_toArray, List.set_cons_zero, List.set_cons_succ]
     refine wpAnyH_take (i := 8) (oi := ⟨some 91, .load 9 (.tmp 90), 9, "ref.go:47", #[⟨7, .data⟩, ⟨3, .guard⟩], some (3, true)⟩) (v := ?_) rfl (by kernel_rfl) (by kernel_rfl) (by kernel_rfl) (fun _ _ _ h => h) (Or.inl ⟨by rfl, ?_⟩) (by assumption) ?_
     rotate_left
     · intro w hSw; (try dsimp only at hSw); first | (go_simp; done) | (go_simp; with_reducible rfl)
     try simp only [Act.put, List.setIfInBounds_toArray, List.set_cons_zero, List.set_cons_succ]
     refine wpAnyH_ready (rs := [6]) (by kernel_rfl) (by simp) ?_
     refine AllReadyH.cons (o := ⟨some 89, .call { callee := .value (.func 34), args := #[.tmp 88], argTypes := #[9] }, 3, "ref.go:47", #[⟨5, .data⟩, ⟨3, .chain⟩, ⟨3, .guard⟩], some (3, true)⟩) rfl (fun K hK => ?_) AllReadyH.nil
     go_simp
     (go_at_call 34; refine Calls.mono (Px.out _) ?_; rintro e y1 ⟨rfl, rfl⟩)
     try go_wp2_with fail
     refine hK.out _ _ ?_ (fun hHeld1 => ?_)
     · (try dsimp only); (refine mkT.out _ ?_; ((with_reducible (repeat (first | assumption | exact Ext.refl _ | apply Ext.alloc | apply Ext.drew | apply Ext.drewN))); done))
     clear hK K hHeld0
     try simp only [Act.put, List.setIfInBounds_toArray, List.set_cons_zero, List.set_cons_succ]
     refine wpAnyH_ready (rs := [9]) (by kernel_rfl) (by simp) ?_
     refine AllReadyH.cons (o := ⟨some 92, .call { callee := .value (.func 34), args := #[.tmp 91], argTypes := #[9] }, 3, "ref.go:47", #[⟨8, .data⟩, ⟨6, .chain⟩, ⟨3, .guard⟩], some (3, true)⟩) rfl (fun K hK => ?_) AllReadyH.nil
     go_simp
     (go_at_call 34; refine Calls.mono (Pt.out _) ?_; rintro e y1 ⟨rfl, rfl⟩)
     try go_wp2_with fail
     refine hK.out _ _ ?_ (fun hHeld2 => ?_)
     · (try dsimp only); (refine mkT.out _ ?_; ((with_reducible (repeat (first | assumption | exact Ext.refl _ | apply Ext.alloc | apply Ext.drew | apply Ext.drewN))); done))
     clear hK K hHeld1
     try simp only [Act.put, List.setIfInBounds_toArray, List.set_cons_zero, List.set_cons_succ]
     refine wpAnyH_take (i := 10) (oi := ⟨some 93, .binOp .lss 3 (.tmp 89) (.tmp 92) 3, 4, "ref.go:47", #[⟨6, .data⟩, ⟨9, .data⟩, ⟨3, .guard⟩], some (3, true)⟩) (v := ?_) rfl (by kernel_rfl) (by kernel_rfl) (by kernel_rfl) (fun _ _ _ h => h) (Or.inl ⟨by rfl, ?_⟩) (by assumption) ?_
     rotate_left
     · intro w hSw; (try dsimp only at hSw); first | (go_simp; done) | (go_simp; with_reducible rfl)
     try simp only [Act.put, List.setIfInBounds_toArray, List.set_cons_zero, List.set_cons_succ]
     refine wpAnyH_take (i := 11) (oi := ⟨some 94, .pick (.tmp 86) (.tmp 93) (.const (.bool false)), 4, "ref.go:47", #[⟨3, .data⟩, ⟨10, .data⟩], none⟩) (v := ?_) rfl (by kernel_rfl) (by kernel_rfl) (by kernel_rfl) (fun _ _ _ h => h) (Or.inl ⟨by rfl, ?_⟩) (by assumption) ?_
     rotate_left
     · intro w hSw; (try dsimp only at hSw); first | (go_simp; done) | (go_simp; with_reducible rfl)
     try simp only [Act.put, List.setIfInBounds_toArray, List.set_cons_zero, List.set_cons_succ]
     refine wpAnyH_done (by kernel_rfl) ?_ _
     go_wp2_with fail
     clear m12 c0 c1 c2 c3 c4 c5 c6 c7 c8 c9 c10 c11 c12 d0 d1 d2 d3 d4 d5 d6 d7 d8 d9 d10 d11 d12
     by_cases h7 : y.k = 7
     · have x7y : (y.k == 7) = true := by rw [h7]; rfl
       by_cases h8 : bz ≤ bt
       · have i8y : (bz : Int) ≤ (bt : Int) := by omega
         have d8y : decide ((bz : Int) ≤ (bt : Int)) = true := by simpa using i8y
         have HBy : Hid (brkL (loose (bnd t.s + 1) y) (shT n y) = 40 :: (shT n y ++ [41])) := by
           obtain ⟨h9x, h9y, h9t⟩ := HBD.out
           have hlo : loose (bnd t.s + 1) y = true := by unfold loose; rw [h9y, h9t]; simp [h7]; omega
           show _ = _
           rw [hlo]; rfl
         clear h7 h8
         refine wp_region_held_drew (S := (fun V => V.cell? ⟨W.heap.size, 2, none⟩ = some (.string (bs t.s)) ∧ V.cell? ⟨W2.heap.size, 0, none⟩ = some (.int .i64 y.k) ∧ V.cell? ⟨W2.heap.size, 2, none⟩ = some (.string (bs y.s)))) (by kernel_rfl) ?_ (fun hHeld0 => ?_)
         · (refine mkU.out _ ?_; ((with_reducible (repeat (first | assumption | exact Ext.refl _ | apply Ext.alloc | apply Ext.drew | apply Ext.drewN))); done))
         refine wpAnyH_take (i := 0) (oi := ⟨some 102, .fieldAddr 29 (.tmp 7) 0, 0, "ref.go:50", #[], none⟩) (v := ?_) rfl (by kernel_rfl) (by kernel_rfl) (by kernel_rfl) (fun _ _ _ h => h) (Or.inl ⟨by rfl, ?_⟩) (by assumption) ?_
         rotate_left
         · intro w hSw; (try dsimp only at hSw); first | (go_simp; done) | (go_simp; with_reducible rfl)
         try simp only [Act.put, List.setIfInBounds_toArray, List.set_cons_zero, List.set_cons_succ]
         refine wpAnyH_take (i := 1) (oi := ⟨some 103, .load 3 (.tmp 102), 3, "ref.go:50", #[⟨0, .data⟩], none⟩) (v := ?_) rfl (by kernel_rfl) (by kernel_rfl) (by kernel_rfl) (fun _ _ _ h => h) (Or.inl ⟨by rfl, ?_⟩) (by assumption) ?_
         rotate_left
         · intro w hSw; (try dsimp only at hSw); first | (go_simp; done) | (go_simp; with_reducible rfl)
         try simp only [Act.put, List.setIfInBounds_toArray, List.set_cons_zero, List.set_cons_succ]
         refine wpAnyH_take (i := 2) (oi := ⟨some 104, .binOp .eql 3 (.tmp 103) (.const (.int .i64 7)) 3, 4, "ref.go:50", #[⟨1, .data⟩], none⟩) (v := ?_) rfl (by kernel_rfl) (by kernel_rfl) (by kernel_rfl) (fun _ _ _ h => h) (Or.inl ⟨by rfl, ?_⟩) (by assumption) ?_
         rotate_left
         · intro w hSw; (try dsimp only at hSw); first | (go_simp; done) | (go_simp; with_reducible rfl)
         try simp only [Act.put, List.setIfInBounds_toArray, List.set_cons_zero, List.set_cons_succ]
         refine wpAnyH_take (i := 3) (oi := ⟨some 105, .move (.tmp 104), 4, "ref.go:50", #[⟨2, .data⟩], none⟩) (v := ?_) rfl (by kernel_rfl) (by kernel_rfl) (by kernel_rfl) (fun _ _ _ h => h) (Or.inl ⟨by rfl, ?_⟩) (by assumption) ?_
         rotate_left
         · intro w hSw; (try dsimp only at hSw); first | (go_simp; done) | (go_simp; with_reducible rfl)
         try simp only [Act.put, List.setIfInBounds_toArray, List.set_cons_zero, List.set_cons_succ]
         refine wpAnyH_take (i := 4) (oi := ⟨some 106, .fieldAddr 29 (.tmp 7) 2, 0, "ref.go:50", #[⟨3, .guard⟩], some (3, true)⟩) (v := ?_) rfl (by kernel_rfl) (by kernel_rfl) (by kernel_rfl) (fun _ _ _ h => h) (Or.inl ⟨by rfl, ?_⟩) (by assumption) ?_
         rotate_left
         · intro w hSw; (try dsimp only at hSw); first | (go_simp; done) | (go_simp; with_reducible rfl)
         try simp only [Act.put, List.setIfInBounds_toArray, List.set_cons_zero, List.set_cons_succ]
         refine wpAnyH_take (i := 5) (oi := ⟨some 107, .load 9 (.tmp 106), 9, "ref.go:50", #[⟨4, .data⟩, ⟨3, .guard⟩], some (3, true)⟩) (v := ?_) rfl (by kernel_rfl) (by kernel_rfl) (by kernel_rfl) (fun _ _ _ h => h) (Or.inl ⟨by rfl, ?_⟩) (by assumption) ?_
         rotate_left
         · intro w hSw; (try dsimp only at hSw); first | (go_simp; done) | (go_simp; with_reducible rfl)
         try simp only [Act.put, List.setIfInBounds_toArray, List.set_cons_zero, List.set_cons_succ]
         refine wpAnyH_take (i := 7) (oi := ⟨some 109, .fieldAddr 29 (.tmp 1) 2, 0, "ref.go:50", #[⟨3, .guard⟩], some (3, true)⟩) (v := ?_) rfl (by kernel_rfl) (by kernel_rfl) (by kernel_rfl) (fun _ _ _ h => h) (Or.inl ⟨by rfl, ?_⟩) (by assumption) ?_
         rotate_left
         · intro w hSw; (try dsimp only at hSw); first | (go_simp; done) | (go_simp; with_reducible rfl)
         try simp only [Act.put, List.setIfInBounds_toArray, List.set_cons_zero, List.set_cons_succ]
         refine wpAnyH_take (i := 8) (oi := ⟨some 110, .load 9 (.tmp 109), 9, "ref.go:50", #[⟨7, .data⟩, ⟨3, .guard⟩], some (3, true)⟩) (v := ?_) rfl (by kernel_rfl) (by kernel_rfl) (by kernel_rfl) (fun _ _ _ h => h) (Or.inl ⟨by rfl, ?_⟩) (by assumption) ?_
         rotate_left
         · intro w hSw; (try dsimp only at hSw); first | (go_simp; done) | (go_simp; with_reducible rfl)
         try simp only [Act.put, List.setIfInBounds_toArray, List.set_cons_zero, List.set_cons_succ]
         refine wpAnyH_ready (rs := [6]) (by kernel_rfl) (by simp) ?_
         refine AllReadyH.cons (o := ⟨some 108, .call { callee := .value (.func 34), args := #[.tmp 107], argTypes := #[9] }, 3, "ref.go:50", #[⟨5, .data⟩, ⟨3, .chain⟩, ⟨3, .guard⟩], some (3, true)⟩) rfl (fun K hK => ?_) AllReadyH.nil
         go_simp
         (go_at_call 34; refine Calls.mono (Py.out _) ?_; rintro e y1 ⟨rfl, rfl⟩)
         try go_wp2_with fail
         refine hK.out _ _ ?_ (fun hHeld1 => ?_)
         · (try dsimp only); (refine mkU.out _ ?_; ((with_reducible (repeat (first | assumption | exact Ext.refl _ | apply Ext.alloc | apply Ext.drew | apply Ext.drewN))); done))
         clear hK K hHeld0
         try simp only [Act.put, List.setIfInBounds_toArray, List.set_cons_zero, List.set_cons_succ]
         refine wpAnyH_ready (rs := [9]) (by kernel_rfl) (by simp) ?_
         refine AllReadyH.cons (o := ⟨some 111, .call { callee := .value (.func 34), args := #[.tmp 110], argTypes := #[9] }, 3, "ref.go:50", #[⟨8, .data⟩, ⟨6, .chain⟩, ⟨3, .guard⟩], some (3, true)⟩) rfl (fun K hK => ?_) AllReadyH.nil
         go_simp
         (go_at_call 34; refine Calls.mono (Pt.out _) ?_; rintro e y1 ⟨rfl, rfl⟩)
         try go_wp2_with fail
         refine hK.out _ _ ?_ (fun hHeld2 => ?_)
         · (try dsimp only); (refine mkU.out _ ?_; ((with_reducible (repeat (first | assumption | exact Ext.refl _ | apply Ext.alloc | apply Ext.drew | apply Ext.drewN))); done))
         clear hK K hHeld1
         try simp only [Act.put, List.setIfInBounds_toArray, List.set_cons_zero, List.set_cons_succ]
         refine wpAnyH_take (i := 10) (oi := ⟨some 112, .binOp .leq 3 (.tmp 108) (.tmp 111) 3, 4, "ref.go:50", #[⟨6, .data⟩, ⟨9, .data⟩, ⟨3, .guard⟩], some (3, true)⟩) (v := ?_) rfl (by kernel_rfl) (by kernel_rfl) (by kernel_rfl) (fun _ _ _ h => h) (Or.inl ⟨by rfl, ?_⟩) (by assumption) ?_
         rotate_left
         · intro w hSw; (try dsimp only at hSw); first | (go_simp; done) | (go_simp; with_reducible rfl)
         try simp only [Act.put, List.setIfInBounds_toArray, List.set_cons_zero, List.set_cons_succ]
         refine wpAnyH_take (i := 11) (oi := ⟨some 113, .pick (.tmp 105) (.tmp 112) (.const (.bool false)), 4, "ref.go:50", #[⟨3, .data⟩, ⟨10, .data⟩], none⟩) (v := ?_) rfl (by kernel_rfl) (by kernel_rfl) (by kernel_rfl) (fun _ _ _ h => h) (Or.inl ⟨by rfl, ?_⟩) (by assumption) ?_
         rotate_left
         · intro w hSw; (try dsimp only at hSw); first | (go_simp; done) | (go_simp; with_reducible rfl)
         try simp only [Act.put, List.setIfInBounds_toArray, List.set_cons_zero, List.set_cons_succ]
         refine wpAnyH_done (by kernel_rfl) ?_ _
         go_wp2_with fail
         go_ret
         exact ⟨ret_s (mkL _ _ (by rw [HX.out, HBx.out, HBy.out]; simp only [app_list, HQx.out, HQy.out, HQt.out]; try simp)), HF.out.2.trans (HF2.out.2.trans (by with_reducible repeat (first | assumption | exact Ext.refl _ | apply Ext.alloc | apply Ext.drew | apply Ext.drewN)))⟩
       · have i8y : ¬ (bz : Int) ≤ (bt : Int) := by omega
         have d8y : decide ((bz : Int) ≤ (bt : Int)) = false := by simpa using i8y
         have HBy : Hid (brkL (loose (bnd t.s + 1) y) (shT n y) = shT n y) := by
           obtain ⟨h9x, h9y, h9t⟩ := HBD.out
           have hlo : loose (bnd t.s + 1) y = false := by unfold loose; rw [h9y, h9t]; simp [h7]; omega
           show _ = _
           rw [hlo]; rfl
         clear h7 h8
         refine wp_region_held_drew (S := (fun V => V.cell? ⟨W.heap.size, 2, none⟩ = some (.string (bs t.s)) ∧ V.cell? ⟨W2.heap.size, 0, none⟩ = some (.int .i64 y.k) ∧ V.cell? ⟨W2.heap.size, 2, none⟩ = some (.string (bs y.s)))) (by kernel_rfl) ?_ (fun hHeld0 => ?_)
         · (refine mkU.out _ ?_; ((with_reducible (repeat (first | assumption | exact Ext.refl _ | apply Ext.alloc | apply Ext.drew | apply Ext.drewN))); done))
         refine wpAnyH_take (i := 0) (oi := ⟨some 102, .fieldAddr 29 (.tmp 7) 0, 0, "ref.go:50", #[], none⟩) (v := ?_) rfl (by kernel_rfl) (by kernel_rfl) (by kernel_rfl) (fun _ _ _ h => h) (Or.inl ⟨by rfl, ?_⟩) (by assumption) ?_
         rotate_left
         · intro w hSw; (try dsimp only at hSw); first | (go_simp; done) | (go_simp; with_reducible rfl)
         try simp only [Act.put, List.setIfInBounds_toArray, List.set_cons_zero, List.set_cons_succ]
         refine wpAnyH_take (i := 1) (oi := ⟨some 103, .load 3 (.tmp 102), 3, "ref.go:50", #[⟨0, .data⟩], none⟩) (v := ?_) rfl (by kernel_rfl) (by kernel_rfl) (by kernel_rfl) (fun _ _ _ h => h) (Or.inl ⟨by rfl, ?_⟩) (by assumption) ?_
         rotate_left
         · intro w hSw; (try dsimp only at hSw); first | (go_simp; done) | (go_simp; with_reducible rfl)
         try simp only [Act.put, List.setIfInBounds_toArray, List.set_cons_zero, List.set_cons_succ]
         refine wpAnyH_take (i := 2) (oi := ⟨some 104, .binOp .eql 3 (.tmp 103) (.const (.int .i64 7)) 3, 4, "ref.go:50", #[⟨1, .data⟩], none⟩) (v := ?_) rfl (by kernel_rfl) (by kernel_rfl) (by kernel_rfl) (fun _ _ _ h => h) (Or.inl ⟨by rfl, ?_⟩) (by assumption) ?_
         rotate_left
         · intro w hSw; (try dsimp only at hSw); first | (go_simp; done) | (go_simp; with_reducible rfl)
         try simp only [Act.put, List.setIfInBounds_toArray, List.set_cons_zero, List.set_cons_succ]
         refine wpAnyH_take (i := 3) (oi := ⟨some 105, .move (.tmp 104), 4, "ref.go:50", #[⟨2, .data⟩], none⟩) (v := ?_) rfl (by kernel_rfl) (by kernel_rfl) (by kernel_rfl) (fun _ _ _ h => h) (Or.inl ⟨by rfl, ?_⟩) (by assumption) ?_
         rotate_left
         · intro w hSw; (try dsimp only at hSw); first | (go_simp; done) | (go_simp; with_reducible rfl)
         try simp only [Act.put, List.setIfInBounds_toArray, List.set_cons_zero, List.set_cons_succ]
         refine wpAnyH_take (i := 4) (oi := ⟨some 106, .fieldAddr 29 (.tmp 7) 2, 0, "ref.go:50", #[⟨3, .guard⟩], some (3, true)⟩) (v := ?_) rfl (by kernel_rfl) (by kernel_rfl) (by kernel_rfl) (fun _ _ _ h => h) (Or.inl ⟨by rfl, ?_⟩) (by assumption) ?_
         rotate_left
         · intro w hSw; (try dsimp only at hSw); first | (go_simp; done) | (go_simp; with_reducible rfl)
         try simp only [Act.put, List.setIfInBounds_toArray, List.set_cons_zero, List.set_cons_succ]
         refine wpAnyH_take (i := 5) (oi := ⟨some 107, .load 9 (.tmp 106), 9, "ref.go:50", #[⟨4, .data⟩, ⟨3, .guard⟩], some (3, true)⟩) (v := ?_) rfl (by kernel_rfl) (by kernel_rfl) (by kernel_rfl) (fun _ _ _ h => h) (Or.inl ⟨by rfl, ?_⟩) (by assumption) ?_
         rotate_left
         · intro w hSw; (try dsimp only at hSw); first | (go_simp; done) | (go_simp; with_reducible rfl)
         try simp only [Act.put, List.setIfInBounds_toArray, List.set_cons_zero, List.set_cons_succ]
         refine wpAnyH_take (i := 7) (oi := ⟨some 109, .fieldAddr 29 (.tmp 1) 2, 0, "ref.go:50", #[⟨3, .guard⟩], some (3, true)⟩) (v := ?_) rfl (by kernel_rfl) (by kernel_rfl) (by kernel_rfl) (fun _ _ _ h => h) (Or.inl ⟨by rfl, ?_⟩) (by assumption) ?_
         rotate_left
         · intro w hSw; (try dsimp only at hSw); first | (go_simp; done) | (go_simp; with_reducible rfl)
         try simp only [Act.put, List.setIfInBounds_toArray, List.set_cons_zero, List.set_cons_succ]
         refine wpAnyH_take (i := 8) (oi := ⟨some 110, .load 9 (.tmp 109), 9, "ref.go:50", #[⟨7, .data⟩, ⟨3, .guard⟩], some (3, true)⟩) (v := ?_) rfl (by kernel_rfl) (by kernel_rfl) (by kernel_rfl) (fun _ _ _ h => h) (Or.inl ⟨by rfl, ?_⟩) (by assumption) ?_
         rotate_left
         · intro w hSw; (try dsimp only at hSw); first | (go_simp; done) | (go_simp; with_reducible rfl)
         try simp only [Act.put, List.setIfInBounds_toArray, List.set_cons_zero, List.set_cons_succ]
         refine wpAnyH_ready (rs := [6]) (by kernel_rfl) (by simp) ?_
         refine AllReadyH.cons (o := ⟨some 108, .call { callee := .value (.func 34), args := #[.tmp 107], argTypes := #[9] }, 3, "ref.go:50", #[⟨5, .data⟩, ⟨3, .chain⟩, ⟨3, .guard⟩], some (3, true)⟩) rfl (fun K hK => ?_) AllReadyH.nil
         go_simp
         (go_at_call 34; refine Calls.mono (Py.out _) ?_; rintro e y1 ⟨rfl, rfl⟩)
         try go_wp2_with fail
         refine hK.out _ _ ?_ (fun hHeld1 => ?_)
         · (try dsimp only); (refine mkU.out _ ?_; ((with_reducible (repeat (first | assumption | exact Ext.refl _ | apply Ext.alloc | apply Ext.drew | apply Ext.drewN))); done))
         clear hK K hHeld0
         try simp only [Act.put, List.setIfInBounds_toArray, List.set_cons_zero, List.set_cons_succ]
         refine wpAnyH_ready (rs := [9]) (by kernel_rfl) (by simp) ?_
         refine AllReadyH.cons (o := ⟨some 111, .call { callee := .value (.func 34), args := #[.tmp 110], argTypes := #[9] }, 3, "ref.go:50", #[⟨8, .data⟩, ⟨6, .chain⟩, ⟨3, .guard⟩], some (3, true)⟩) rfl (fun K hK => ?_) AllReadyH.nil
         go_simp
         (go_at_call 34; refine Calls.mono (Pt.out _) ?_; rintro e y1 ⟨rfl, rfl⟩)
         try go_wp2_with fail
         refine hK.out _ _ ?_ (fun hHeld2 => ?_)
         · (try dsimp only); (refine mkU.out _ ?_; ((with_reducible (repeat (first | assumption | exact Ext.refl _ | apply Ext.alloc | apply Ext.drew | apply Ext.drewN))); done))
         clear hK K hHeld1
         try simp only [Act.put, List.setIfInBounds_toArray, List.set_cons_zero, List.set_cons_succ]
         refine wpAnyH_take (i := 10) (oi := ⟨some 112, .binOp .leq 3 (.tmp 108) (.tmp 111) 3, 4, "ref.go:50", #[⟨6, .data⟩, ⟨9, .data⟩, ⟨3, .guard⟩], some (3, true)⟩) (v := ?_) rfl (by kernel_rfl) (by kernel_rfl) (by kernel_rfl) (fun _ _ _ h => h) (Or.inl ⟨by rfl, ?_⟩) (by assumption) ?_
         rotate_left
         · intro w hSw; (try dsimp only at hSw); first | (go_simp; done) | (go_simp; with_reducible rfl)
         try simp only [Act.put, List.setIfInBounds_toArray, List.set_cons_zero, List.set_cons_succ]
         refine wpAnyH_take (i := 11) (oi := ⟨some 113, .pick (.tmp 105) (.tmp 112) (.const (.bool false)), 4, "ref.go:50", #[⟨3, .data⟩, ⟨10, .data⟩], none⟩) (v := ?_) rfl (by kernel_rfl) (by kernel_rfl) (by kernel_rfl) (fun _ _ _ h => h) (Or.inl ⟨by rfl, ?_⟩) (by assumption) ?_
         rotate_left
         · intro w hSw; (try dsimp only at hSw); first | (go_simp; done) | (go_simp; with_reducible rfl)
         try simp only [Act.put, List.setIfInBounds_toArray, List.set_cons_zero, List.set_cons_succ]
         refine wpAnyH_done (by kernel_rfl) ?_ _
         go_wp2_with fail
         go_ret
         exact ⟨ret_s (mkL _ _ (by rw [HX.out, HBx.out, HBy.out]; simp only [app_list, HQx.out, HQy.out, HQt.out]; try simp)), HF.out.2.trans (HF2.out.2.trans (by with_reducible repeat (first | assumption | exact Ext.refl _ | apply Ext.alloc | apply Ext.drew | apply Ext.drewN)))⟩
     · have x7y : (y.k == 7) = false := by simpa using h7
       have HBy : Hid (brkL (loose (bnd t.s + 1) y) (shT n y) = shT n y) := by show _ = _; simp [loose, brkL, h7]
       clear h7
       refine wp_region_held_drew (S := (fun V => V.cell? ⟨W.heap.size, 2, none⟩ = some (.string (bs t.s)) ∧ V.cell? ⟨W2.heap.size, 0, none⟩ = some (.int .i64 y.k) ∧ V.cell? ⟨W2.heap.size, 2, none⟩ = some (.string (bs y.s)))) (by kernel_rfl) ?_ (fun hHeld0 => ?_)
       · (refine mkU.out _ ?_; ((with_reducible (repeat (first | assumption | exact Ext.refl _ | apply Ext.alloc | apply Ext.drew | apply Ext.drewN))); done))
       refine wpAnyH_take (i := 0) (oi := ⟨some 102, .fieldAddr 29 (.tmp 7) 0, 0, "ref.go:50", #[], none⟩) (v := ?_) rfl (by kernel_rfl) (by kernel_rfl) (by kernel_rfl) (fun _ _ _ h => h) (Or.inl ⟨by rfl, ?_⟩) (by assumption) ?_
       rotate_left
       · intro w hSw; (try dsimp only at hSw); first | (go_simp; done) | (go_simp; with_reducible rfl)
       try simp only [Act.put, List.setIfInBounds_toArray, List.set_cons_zero, List.set_cons_succ]
       refine wpAnyH_take (i := 1) (oi := ⟨some 103, .load 3 (.tmp 102), 3, "ref.go:50", #[⟨0, .data⟩], none⟩) (v := ?_) rfl (by kernel_rfl) (by kernel_rfl) (by kernel_rfl) (fun _ _ _ h => h) (Or.inl ⟨by rfl, ?_⟩) (by assumption) ?_
       rotate_left
       · intro w hSw; (try dsimp only at hSw); first | (go_simp; done) | (go_simp; with_reducible rfl)
       try simp only [Act.put, List.setIfInBounds_toArray, List.set_cons_zero, List.set_cons_succ]
       refine wpAnyH_take (i := 2) (oi := ⟨some 104, .binOp .eql 3 (.tmp 103) (.const (.int .i64 7)) 3, 4, "ref.go:50", #[⟨1, .data⟩], none⟩) (v := ?_) rfl (by kernel_rfl) (by kernel_rfl) (by kernel_rfl) (fun _ _ _ h => h) (Or.inl ⟨by rfl, ?_⟩) (by assumption) ?_
       rotate_left
       · intro w hSw; (try dsimp only at hSw); first | (go_simp; done) | (go_simp; with_reducible rfl)
       try simp only [Act.put, List.setIfInBounds_toArray, List.set_cons_zero, List.set_cons_succ]
       refine wpAnyH_take (i := 3) (oi := ⟨some 105, .move (.tmp 104), 4, "ref.go:50", #[⟨2, .data⟩], none⟩) (v := ?_) rfl (by kernel_rfl) (by kernel_rfl) (by kernel_rfl) (fun _ _ _ h => h) (Or.inl ⟨by rfl, ?_⟩) (by assumption) ?_
       rotate_left
       · intro w hSw; (try dsimp only at hSw); first | (go_simp; done) | (go_simp; with_reducible rfl)
       try simp only [Act.put, List.setIfInBounds_toArray, List.set_cons_zero, List.set_cons_succ]
       refine wpAnyH_take (i := 4) (oi := ⟨some 106, .fieldAddr 29 (.tmp 7) 2, 0, "ref.go:50", #[⟨3, .guard⟩], some (3, true)⟩) (v := undef) rfl (by kernel_rfl) (by kernel_rfl) (by kernel_rfl) (fun _ _ _ h => h) (Or.inr ⟨by rfl, rfl⟩) (by assumption) ?_
       try simp only [Act.put, List.setIfInBounds_toArray, List.set_cons_zero, List.set_cons_succ]
       refine wpAnyH_take (i := 5) (oi := ⟨some 107, .load 9 (.tmp 106), 9, "ref.go:50", #[⟨4, .data⟩, ⟨3, .guard⟩], some (3, true)⟩) (v := undef) rfl (by kernel_rfl) (by kernel_rfl) (by kernel_rfl) (fun _ _ _ h => h) (Or.inr ⟨by rfl, rfl⟩) (by assumption) ?_
       try simp only [Act.put, List.setIfInBounds_toArray, List.set_cons_zero, List.set_cons_succ]
       refine wpAnyH_take (i := 6) (oi := ⟨some 108, .call { callee := .value (.func 34), args := #[.tmp 107], argTypes := #[9] }, 3, "ref.go:50", #[⟨5, .data⟩, ⟨3, .chain⟩, ⟨3, .guard⟩], some (3, true)⟩) (v := undef) rfl (by kernel_rfl) (by kernel_rfl) (by kernel_rfl) (fun _ _ _ h => h) (Or.inr ⟨by rfl, rfl⟩) (by assumption) ?_
       try simp only [Act.put, List.setIfInBounds_toArray, List.set_cons_zero, List.set_cons_succ]
       refine wpAnyH_take (i := 7) (oi := ⟨some 109, .fieldAddr 29 (.tmp 1) 2, 0, "ref.go:50", #[⟨3, .guard⟩], some (3, true)⟩) (v := undef) rfl (by kernel_rfl) (by kernel_rfl) (by kernel_rfl) (fun _ _ _ h => h) (Or.inr ⟨by rfl, rfl⟩) (by assumption) ?_
       try simp only [Act.put, List.setIfInBounds_toArray, List.set_cons_zero, List.set_cons_succ]
       refine wpAnyH_take (i := 8) (oi := ⟨some 110, .load 9 (.tmp 109), 9, "ref.go:50", #[⟨7, .data⟩, ⟨3, .guard⟩], some (3, true)⟩) (v := undef) rfl (by kernel_rfl) (by kernel_rfl) (by kernel_rfl) (fun _ _ _ h => h) (Or.inr ⟨by rfl, rfl⟩) (by assumption) ?_
       try simp only [Act.put, List.setIfInBounds_toArray, List.set_cons_zero, List.set_cons_succ]
       refine wpAnyH_take (i := 9) (oi := ⟨some 111, .call { callee := .value (.func 34), args := #[.tmp 110], argTypes := #[9] }, 3, "ref.go:50", #[⟨8, .data⟩, ⟨6, .chain⟩, ⟨3, .guard⟩], some (3, true)⟩) (v := undef) rfl (by kernel_rfl) (by kernel_rfl) (by kernel_rfl) (fun _ _ _ h => h) (Or.inr ⟨by rfl, rfl⟩) (by assumption) ?_
       try simp only [Act.put, List.setIfInBounds_toArray, List.set_cons_zero, List.set_cons_succ]
       refine wpAnyH_take (i := 10) (oi := ⟨some 112, .binOp .leq 3 (.tmp 108) (.tmp 111) 3, 4, "ref.go:50", #[⟨6, .data⟩, ⟨9, .data⟩, ⟨3, .guard⟩], some (3, true)⟩) (v := undef) rfl (by kernel_rfl) (by kernel_rfl) (by kernel_rfl) (fun _ _ _ h => h) (Or.inr ⟨by rfl, rfl⟩) (by assumption) ?_
       try simp only [Act.put, List.setIfInBounds_toArray, List.set_cons_zero, List.set_cons_succ]
       refine wpAnyH_take (i := 11) (oi := ⟨some 113, .pick (.tmp 105) (.tmp 112) (.const (.bool false)), 4, "ref.go:50", #[⟨3, .data⟩, ⟨10, .data⟩], none⟩) (v := ?_) rfl (by kernel_rfl) (by kernel_rfl) (by kernel_rfl) (fun _ _ _ h => h) (Or.inl ⟨by rfl, ?_⟩) (by assumption) ?_
       rotate_left
       · intro w hSw; (try dsimp only at hSw); first | (go_simp; done) | (go_simp; with_reducible rfl)
       try simp only [Act.put, List.setIfInBounds_toArray, List.set_cons_zero, List.set_cons_succ]
       refine wpAnyH_done (by kernel_rfl) ?_ _
       go_wp2_with fail
       go_ret
       exact ⟨ret_s (mkL _ _ (by rw [HX.out, HBx.out, HBy.out]; simp only [app_list, HQx.out, HQy.out, HQt.out]; try simp)), HF.out.2.trans (HF2.out.2.trans (by with_reducible repeat (first | assumption | exact Ext.refl _ | apply Ext.alloc | apply Ext.drew | apply Ext.drewN)))⟩
   · have i8x : ¬ (bx : Int) < (bt : Int) := by omega
     have d8x : decide ((bx : Int) < (bt : Int)) = false := by simpa using i8x
     have HBx : Hid (brkL (loose (bnd t.s) x) (shT n x) = shT n x) := by
       obtain ⟨h9x, h9y, h9t⟩ := HBD.out
       have hlo : loose (bnd t.s) x = false := by unfold loose; rw [h9x, h9t]; simp [h7]; omega
       show _ = _
       rw [hlo]; rfl
     clear h7 h8
     refine wp_region_held_drew (S := (fun V => V.cell? ⟨W.heap.size, 2, none⟩ = some (.string (bs t.s)) ∧ V.cell? ⟨bX, 0, none⟩ = some (.int .i64 x.k) ∧ V.cell? ⟨bX, 2, none⟩ = some (.string (bs x.s)))) (by kernel_rfl) ?_ (fun hHeld0 => ?_)
     · (refine mkT.out _ ?_; ((with_reducible (repeat (first | assumption | exact Ext.refl _ | apply Ext.alloc | apply Ext.drew | apply Ext.drewN))); done))
     refine wpAnyH_take (i := 0) (oi := ⟨some 83, .fieldAddr 29 (.tmp 6) 0, 0, "ref.go:47", #[], none⟩) (v := ?_) rfl (by kernel_rfl) (by kernel_rfl) (by kernel_rfl) (fun _ _ _ h => h) (Or.inl ⟨by rfl, ?_⟩) (by assumption) ?_
     rotate_left
     · intro w hSw; (try dsimp only at hSw); first | (go_simp; done) | (go_simp; with_reducible rfl)
     try simp only [Act.put, List.setIfInBounds_toArray, List.set_cons_zero, List.set_cons_succ]
     refine wpAnyH_take (i := 1) (oi := ⟨some 84, .load 3 (.tmp 83), 3, "ref.go:47", #[⟨0, .data⟩], none⟩) (v := ?_) rfl (by kernel_rfl) (by kernel_rfl) (by kernel_rfl) (fun _ _ _ h => h) (Or.inl ⟨by rfl, ?_⟩) (by assumption) ?_
     rotate_left
     · intro w hSw; (try dsimp only at hSw); first | (go_simp; done) | (go_simp; with_reducible rfl)
     try simp only [Act.put, List.setIfInBounds_toArray, List.set_cons_zero, List.set_cons_succ]
     refine wpAnyH_take (i := 2) (oi := ⟨some 85, .binOp .eql 3 (.tmp 84) (.const (.int .i64 7)) 3, 4, "ref.go:47", #[⟨1, .data⟩], none⟩) (v := ?_) rfl (by kernel_rfl) (by kernel_rfl) (by kernel_rfl) (fun _ _ _ h => h) (Or.inl ⟨by rfl, ?_⟩) (by assumption) ?_
     rotate_left
     · intro w hSw; (try dsimp only at hSw); first | (go_simp; done) | (go_simp; with_reducible rfl)
     try simp only [Act.put, List.setIfInBounds_toArray, List.set_cons_zero, List.set_cons_succ]
     refine wpAnyH_take (i := 3) (oi := ⟨some 86, .move (.tmp 85), 4, "ref.go:47", #[⟨2, .data⟩], none⟩) (v := ?_) rfl (by kernel_rfl) (by kernel_rfl) (by kernel_rfl) (fun _ _ _ h => h) (Or.inl ⟨by rfl, ?_⟩) (by assumption) ?_
     rotate_left
     · intro w hSw; (try dsimp only at hSw); first | (go_simp; done) | (go_simp; with_reducible rfl)
     try simp only [Act.put, List.setIfInBounds_toArray, List.set_cons_zero, List.set_cons_succ]
     refine wpAnyH_take (i := 4) (oi := ⟨some 87, .fieldAddr 29 (.tmp 6) 2, 0, "ref.go:47", #[⟨3, .guard⟩], some (3, true)⟩) (v := ?_) rfl (by kernel_rfl) (by kernel_rfl) (by kernel_rfl) (fun _ _ _ h => h) (Or.inl ⟨by rfl, ?_⟩) (by assumption) ?_
     rotate_left
     · intro w hSw; (try dsimp only at hSw); first | (go_simp; done) | (go_simp; with_reducible rfl)
     try simp only [Act.put, List.setIfInBounds_toArray, List.set_cons_zero, List.set_cons_succ]
     refine wpAnyH_take (i := 5) (oi := ⟨some 88, .load 9 (.tmp 87), 9, "ref.go:47", #[⟨4, .data⟩, ⟨3, .guard⟩], some (3, true)⟩) (v := ?_) rfl (by kernel_rfl) (by kernel_rfl) (by kernel_rfl) (fun _ _ _ h => h) (Or.inl ⟨by rfl, ?_⟩) (by assumption) ?_
     rotate_left
     · intro w hSw; (try dsimp only at hSw); first | (go_simp; done) | (go_simp; with_reducible rfl)
     try simp only [Act.put, List.setIfInBounds_toArray, List.set_cons_zero, List.set_cons_succ]
     refine wpAnyH_take (i := 7) (oi := ⟨some 90, .fieldAddr 29 (.tmp 1) 2, 0, "ref.go:47", #[⟨3, .guard⟩], some (3, true)⟩) (v := ?_) rfl (by kernel_rfl) (by kernel_rfl) (by kernel_rfl) (fun _ _ _ h => h) (Or.inl ⟨by rfl, ?_⟩) (by assumption) ?_
     rotate_left
     · intro w hSw; (try dsimp only at hSw); first | (go_simp; done) | (go_simp; with_reducible rfl)
     try simp only [Act.put, List.setIfInBounds_toArray, List.set_cons_zero, List.set_cons_succ]
     refine wpAnyH_take (i := 8) (oi := ⟨some 91, .load 9 (.tmp 90), 9, "ref.go:47", #[⟨7, .data⟩, ⟨3, .guard⟩], some (3, true)⟩) (v := ?_) rfl (by kernel_rfl) (by kernel_rfl) (by kernel_rfl) (fun _ _ _ h => h) (Or.inl ⟨by rfl, ?_⟩) (by assumption) ?_
     rotate_left
     · intro w hSw; (try dsimp only at hSw); first | (go_simp; done) | (go_simp; with_reducible rfl)
     try simp only [Act.put, List.setIfInBounds_toArray, List.set_cons_zero, List.set_cons_succ]
     refine wpAnyH_ready (rs := [6]) (by kernel_rfl) (by simp) ?_
     refine AllReadyH.cons (o := ⟨some 89, .call { callee := .value (.func 34), args := #[.tmp 88], argTypes := #[9] }, 3, "ref.go:47", #[⟨5, .data⟩, ⟨3, .chain⟩, ⟨3, .guard⟩], some (3, true)⟩) rfl (fun K hK => ?_) AllReadyH.nil
     go_simp
     (go_at_call 34; refine Calls.mono (Px.out _) ?_; rintro e y1 ⟨rfl, rfl⟩)
     try go_wp2_with fail
     refine hK.out _ _ ?_ (fun hHeld1 => ?_)
     · (try dsimp only); (refine mkT.out _ ?_; ((with_reducible (repeat (first | assumption | exact Ext.refl _ | apply Ext.alloc | apply Ext.drew | apply Ext.drewN))); done))
     clear hK K hHeld0
     try simp only [Act.put, List.setIfInBounds_toArray, List.set_cons_zero, List.set_cons_succ]
     refine wpAnyH_ready (rs := [9]) (by kernel_rfl) (by simp) ?_
     refine AllReadyH.cons (o := ⟨some 92, .call { callee := .value (.func 34), args := #[.tmp 91], argTypes := #[9] }, 3, "ref.go:47", #[⟨8, .data⟩, ⟨6, .chain⟩, ⟨3, .guard⟩], some (3, true)⟩) rfl (fun K hK => ?_) AllReadyH.nil
     go_simp
     (go_at_call 34; refine Calls.mono (Pt.out _) ?_; rintro e y1 ⟨rfl, rfl⟩)
     try go_wp2_with fail
     refine hK.out _ _ ?_ (fun hHeld2 => ?_)
     · (try dsimp only); (refine mkT.out _ ?_; ((with_reducible (repeat (first | assumption | exact Ext.refl _ | apply Ext.alloc | apply Ext.drew | apply Ext.drewN))); done))
     clear hK K hHeld1
     try simp only [Act.put, List.setIfInBounds_toArray, List.set_cons_zero, List.set_cons_succ]
     refine wpAnyH_take (i := 10) (oi := ⟨some 93, .binOp .lss 3 (.tmp 89) (.tmp 92) 3, 4, "ref.go:47", #[⟨6, .data⟩, ⟨9, .data⟩, ⟨3, .guard⟩], some (3, true)⟩) (v := ?_) rfl (by kernel_rfl) (by kernel_rfl) (by kernel_rfl) (fun _ _ _ h => h) (Or.inl ⟨by rfl, ?_⟩) (by assumption) ?_
     rotate_left
     · intro w hSw; (try dsimp only at hSw); first | (go_simp; done) | (go_simp; with_reducible rfl)
     try simp only [Act.put, List.setIfInBounds_toArray, List.set_cons_zero, List.set_cons_succ]
     refine wpAnyH_take (i := 11) (oi := ⟨some 94, .pick (.tmp 86) (.tmp 93) (.const (.bool false)), 4, "ref.go:47", #[⟨3, .data⟩, ⟨10, .data⟩], none⟩) (v := ?_) rfl (by kernel_rfl) (by kernel_rfl) (by kernel_rfl) (fun _ _ _ h => h) (Or.inl ⟨by rfl, ?_⟩) (by assumption) ?_
     rotate_left
     · intro w hSw; (try dsimp only at hSw); first | (go_simp; done) | (go_simp; with_reducible rfl)
     try simp only [Act.put, List.setIfInBounds_toArray, List.set_cons_zero, List.set_cons_succ]
     refine wpAnyH_done (by kernel_rfl) ?_ _
     go_wp2_with fail
     clear m12 c0 c1 c2 c3 c4 c5 c6 c7 c8 c9 c10 c11 c12 d0 d1 d2 d3 d4 d5 d6 d7 d8 d9 d10 d11 d12
     by_cases h7 : y.k = 7
     · have x7y : (y.k == 7) = true := by rw [h7]; rfl
       by_cases h8 : bz ≤ bt
       · have i8y : (bz : Int) ≤ (bt : Int) := by omega
         have d8y : decide ((bz : Int) ≤ (bt : Int)) = true := by simpa using i8y
         have HBy : Hid (brkL (loose (bnd t.s + 1) y) (shT n y) = 40 :: (shT n y ++ [41])) := by
           obtain ⟨h9x, h9y, h9t⟩ := HBD.out
           have hlo : loose (bnd t.s + 1) y = true := by unfold loose; rw [h9y, h9t]; simp [h7]; omega
           show _ = _
           rw [hlo]; rfl
         clear h7 h8
         refine wp_region_held_drew (S := (fun V => V.cell? ⟨W.heap.size, 2, none⟩ = some (.string (bs t.s)) ∧ V.cell? ⟨W2.heap.size, 0, none⟩ = some (.int .i64 y.k) ∧ V.cell? ⟨W2.heap.size, 2, none⟩ = some (.string (bs y.s)))) (by kernel_rfl) ?_ (fun hHeld0 => ?_)
         · (refine mkU.out _ ?_; ((with_reducible (repeat (first | assumption | exact Ext.refl _ | apply Ext.alloc | apply Ext.drew | apply Ext.drewN))); done))
         refine wpAnyH_take (i := 0) (oi := ⟨some 102, .fieldAddr 29 (.tmp 7) 0, 0, "ref.go:50", #[], none⟩) (v := ?_) rfl (by kernel_rfl) (by kernel_rfl) (by kernel_rfl) (fun _ _ _ h => h) (Or.inl ⟨by rfl, ?_⟩) (by assumption) ?_
         rotate_left
         · intro w hSw; (try dsimp only at hSw); first | (go_simp; done) | (go_simp; with_reducible rfl)
         try simp only [Act.put, List.setIfInBounds_toArray, List.set_cons_zero, List.set_cons_succ]
         refine wpAnyH_take (i := 1) (oi := ⟨some 103, .load 3 (.tmp 102), 3, "ref.go:50", #[⟨0, .data⟩], none⟩) (v := ?_) rfl (by kernel_rfl) (by kernel_rfl) (by kernel_rfl) (fun _ _ _ h => h) (Or.inl ⟨by rfl, ?_⟩) (by assumption) ?_
         rotate_left
         · intro w hSw; (try dsimp only at hSw); first | (go_simp; done) | (go_simp; with_reducible rfl)
         try simp only [Act.put, List.setIfInBounds_toArray, List.set_cons_zero, List.set_cons_succ]
         refine wpAnyH_take (i := 2) (oi := ⟨some 104, .binOp .eql 3 (.tmp 103) (.const (.int .i64 7)) 3, 4, "ref.go:50", #[⟨1, .data⟩], none⟩) (v := ?_) rfl (by kernel_rfl) (by kernel_rfl) (by kernel_rfl) (fun _ _ _ h => h) (Or.inl ⟨by rfl, ?_⟩) (by assumption) ?_
         rotate_left
         · intro w hSw; (try dsimp only at hSw); first | (go_simp; done) | (go_simp; with_reducible rfl)
         try simp only [Act.put, List.setIfInBounds_toArray, List.set_cons_zero, List.set_cons_succ]
         refine wpAnyH_take (i := 3) (oi := ⟨some 105, .move (.tmp 104), 4, "ref.go:50", #[⟨2, .data⟩], none⟩) (v := ?_) rfl (by kernel_rfl) (by kernel_rfl) (by kernel_rfl) (fun _ _ _ h => h) (Or.inl ⟨by rfl, ?_⟩) (by assumption) ?_
         rotate_left
         · intro w hSw; (try dsimp only at hSw); first | (go_simp; done) | (go_simp; with_reducible rfl)
         try simp only [Act.put, List.setIfInBounds_toArray, List.set_cons_zero, List.set_cons_succ]
         refine wpAnyH_take (i := 4) (oi := ⟨some 106, .fieldAddr 29 (.tmp 7) 2, 0, "ref.go:50", #[⟨3, .guard⟩], some (3, true)⟩) (v := ?_) rfl (by kernel_rfl) (by kernel_rfl) (by kernel_rfl) (fun _ _ _ h => h) (Or.inl ⟨by rfl, ?_⟩) (by assumption) ?_
         rotate_left
         · intro w hSw; (try dsimp only at hSw); first | (go_simp; done) | (go_simp; with_reducible rfl)
         try simp only [Act.put, List.setIfInBounds_toArray, List.set_cons_zero, List.set_cons_succ]
         refine wpAnyH_take (i := 5) (oi := ⟨some 107, .load 9 (.tmp 106), 9, "ref.go:50", #[⟨4, .data⟩, ⟨3, .guard⟩], some (3, true)⟩) (v := ?_) rfl (by kernel_rfl) (by kernel_rfl) (by kernel_rfl) (fun _ _ _ h => h) (Or.inl ⟨by rfl, ?_⟩) (by assumption) ?_
         rotate_left
         · intro w hSw; (try dsimp only at hSw); first | (go_simp; done) | (go_simp; with_reducible rfl)
         try simp only [Act.put, List.setIfInBounds_toArray, List.set_cons_zero, List.set_cons_succ]
         refine wpAnyH_take (i := 7) (oi := ⟨some 109, .fieldAddr 29 (.tmp 1) 2, 0, "ref.go:50", #[⟨3, .guard⟩], some (3, true)⟩) (v := ?_) rfl (by kernel_rfl) (by kernel_rfl) (by kernel_rfl) (fun _ _ _ h => h) (Or.inl ⟨by rfl, ?_⟩) (by assumption) ?_
         rotate_left
         · intro w hSw; (try dsimp only at hSw); first | (go_simp; done) | (go_simp; with_reducible rfl)
         try simp only [Act.put, List.setIfInBounds_toArray, List.set_cons_zero, List.set_cons_succ]
         refine wpAnyH_take (i := 8) (oi := ⟨some 110, .load 9 (.tmp 109), 9, "ref.go:50", #[⟨7, .data⟩, ⟨3, .guard⟩], some (3, true)⟩) (v := ?_) rfl (by kernel_rfl) (by kernel_rfl) (by kernel_rfl) (fun _ _ _ h => h) (Or.inl ⟨by rfl, ?_⟩) (by assumption) ?_
         rotate_left
         · intro w hSw; (try dsimp only at hSw); first | (go_simp; done) | (go_simp; with_reducible rfl)
         try simp only [Act.put, List.setIfInBounds_toArray, List.set_cons_zero, List.set_cons_succ]
         refine wpAnyH_ready (rs := [6]) (by kernel_rfl) (by simp) ?_
         refine AllReadyH.cons (o := ⟨some 108, .call { callee := .value (.func 34), args := #[.tmp 107], argTypes := #[9] }, 3, "ref.go:50", #[⟨5, .data⟩, ⟨3, .chain⟩, ⟨3, .guard⟩], some (3, true)⟩) rfl (fun K hK => ?_) AllReadyH.nil
         go_simp
         (go_at_call 34; refine Calls.mono (Py.out _) ?_; rintro e y1 ⟨rfl, rfl⟩)
         try go_wp2_with fail
         refine hK.out _ _ ?_ (fun hHeld1 => ?_)
         · (try dsimp only); (refine mkU.out _ ?_; ((with_reducible (repeat (first | assumption | exact Ext.refl _ | apply Ext.alloc | apply Ext.drew | apply Ext.drewN))); done))
         clear hK K hHeld0
         try simp only [Act.put, List.setIfInBounds_toArray, List.set_cons_zero, List.set_cons_succ]
         refine wpAnyH_ready (rs := [9]) (by kernel_rfl) (by simp) ?_
         refine AllReadyH.cons (o := ⟨some 111, .call { callee := .value (.func 34), args := #[.tmp 110], argTypes := #[9] }, 3, "ref.go:50", #[⟨8, .data⟩, ⟨6, .chain⟩, ⟨3, .guard⟩], some (3, true)⟩) rfl (fun K hK => ?_) AllReadyH.nil
         go_simp
         (go_at_call 34; refine Calls.mono (Pt.out _) ?_; rintro e y1 ⟨rfl, rfl⟩)
         try go_wp2_with fail
         refine hK.out _ _ ?_ (fun hHeld2 => ?_)
         · (try dsimp only); (refine mkU.out _ ?_; ((with_reducible (repeat (first | assumption | exact Ext.refl _ | apply Ext.alloc | apply Ext.drew | apply Ext.drewN))); done))
         clear hK K hHeld1
         try simp only [Act.put, List.setIfInBounds_toArray, List.set_cons_zero, List.set_cons_succ]
         refine wpAnyH_take (i := 10) (oi := ⟨some 112, .binOp .leq 3 (.tmp 108) (.tmp 111) 3, 4, "ref.go:50", #[⟨6, .data⟩, ⟨9, .data⟩, ⟨3, .guard⟩], some (3, true)⟩) (v := ?_) rfl (by kernel_rfl) (by kernel_rfl) (by kernel_rfl) (fun _ _ _ h => h) (Or.inl ⟨by rfl, ?_⟩) (by assumption) ?_
         rotate_left
         · intro w hSw; (try dsimp only at hSw); first | (go_simp; done) | (go_simp; with_reducible rfl)
         try simp only [Act.put, List.setIfInBounds_toArray, List.set_cons_zero, List.set_cons_succ]
         refine wpAnyH_take (i := 11) (oi := ⟨some 113, .pick (.tmp 105) (.tmp 112) (.const (.bool false)), 4, "ref.go:50", #[⟨3, .data⟩, ⟨10, .data⟩], none⟩) (v := ?_) rfl (by kernel_rfl) (by kernel_rfl) (by kernel_rfl) (fun _ _ _ h => h) (Or.inl ⟨by rfl, ?_⟩) (by assumption) ?_
         rotate_left
         · intro w hSw; (try dsimp only at hSw); first | (go_simp; done) | (go_simp; with_reducible rfl)
         try simp only [Act.put, List.setIfInBounds_toArray, List.set_cons_zero, List.set_cons_succ]
         refine wpAnyH_done (by kernel_rfl) ?_ _
         go_wp2_with fail
         go_ret
         exact ⟨ret_s (mkL _ _ (by rw [HX.out, HBx.out, HBy.out]; simp only [app_list, HQx.out, HQy.out, HQt.out]; try simp)), HF.out.2.trans (HF2.out.2.trans (by with_reducible repeat (first | assumption | exact Ext.refl _ | apply Ext.alloc | apply Ext.drew | apply Ext.drewN)))⟩
       · have i8y : ¬ (bz : Int) ≤ (bt : Int) := by omega
         have d8y : decide ((bz : Int) ≤ (bt : Int)) = false := by simpa using i8y
         have HBy : Hid (brkL (loose (bnd t.s + 1) y) (shT n y) = shT n y) := by
           obtain ⟨h9x, h9y, h9t⟩ := HBD.out
           have hlo : loose (bnd t.s + 1) y = false := by unfold loose; rw [h9y, h9t]; simp [h7]; omega
           show _ = _
           rw [hlo]; rfl
         clear h7 h8
         refine wp_region_held_drew (S := (fun V => V.cell? ⟨W.heap.size, 2, none⟩ = some (.string (bs t.s)) ∧ V.cell? ⟨W2.heap.size, 0, none⟩ = some (.int .i64 y.k) ∧ V.cell? ⟨W2.heap.size, 2, none⟩ = some (.string (bs y.s)))) (by kernel_rfl) ?_ (fun hHeld0 => ?_)
         · (refine mkU.out _ ?_; ((with_reducible (repeat (first | assumption | exact Ext.refl _ | apply Ext.alloc | apply Ext.drew | apply Ext.drewN))); done))
         refine wpAnyH_take (i := 0) (oi := ⟨some 102, .fieldAddr 29 (.tmp 7) 0, 0, "ref.go:50", #[], none⟩) (v := ?_) rfl (by kernel_rfl) (by kernel_rfl) (by kernel_rfl) (fun _ _ _ h => h) (Or.inl ⟨by rfl, ?_⟩) (by assumption) ?_
         rotate_left
         · intro w hSw; (try dsimp only at hSw); first | (go_simp; done) | (go_simp; with_reducible rfl)
         try simp only [Act.put, List.setIfInBounds_toArray, List.set_cons_zero, List.set_cons_succ]
         refine wpAnyH_take (i := 1) (oi := ⟨some 103, .load 3 (.tmp 102), 3, "ref.go:50", #[⟨0, .data⟩], none⟩) (v := ?_) rfl (by kernel_rfl) (by kernel_rfl) (by kernel_rfl) (fun _ _ _ h => h) (Or.inl ⟨by rfl, ?_⟩) (by assumption) ?_
         rotate_left
         · intro w hSw; (try dsimp only at hSw); first | (go_simp; done) | (go_simp; with_reducible rfl)
         try simp only [Act.put, List.setIfInBounds_toArray, List.set_cons_zero, List.set_cons_succ]
         refine wpAnyH_take (i := 2) (oi := ⟨some 104, .binOp .eql 3 (.tmp 103) (.const (.int .i64 7)) 3, 4, "ref.go:50", #[⟨1, .data⟩], none⟩) (v := ?_) rfl (by kernel_rfl) (by kernel_rfl) (by kernel_rfl) (fun _ _ _ h => h) (Or.inl ⟨by rfl, ?_⟩) (by assumption) ?_
         rotate_left
         · intro w hSw; (try dsimp only at hSw); first | (go_simp; done) | (go_simp; with_reducible rfl)
         try simp only [Act.put, List.setIfInBounds_toArray, List.set_cons_zero, List.set_cons_succ]
         refine wpAnyH_take (i := 3) (oi := ⟨some 105, .move (.tmp 104), 4, "ref.go:50", #[⟨2, .data⟩], none⟩) (v := ?_) rfl (by kernel_rfl) (by kernel_rfl) (by kernel_rfl) (fun _ _ _ h => h) (Or.inl ⟨by rfl, ?_⟩) (by assumption) ?_
         rotate_left
         · intro w hSw; (try dsimp only at hSw); first | (go_simp; done) | (go_simp; with_reducible rfl)
         try simp only [Act.put, List.setIfInBounds_toArray, List.set_cons_zero, List.set_cons_succ]
         refine wpAnyH_take (i := 4) (oi := ⟨some 106, .fieldAddr 29 (.tmp 7) 2, 0, "ref.go:50", #[⟨3, .guard⟩], some (3, true)⟩) (v := ?_) rfl (by kernel_rfl) (by kernel_rfl) (by kernel_rfl) (fun _ _ _ h => h) (Or.inl ⟨by rfl, ?_⟩) (by assumption) ?_
         rotate_left
         · intro w hSw; (try dsimp only at hSw); first | (go_simp; done) | (go_simp; with_reducible rfl)
         try simp only [Act.put, List.setIfInBounds_toArray, List.set_cons_zero, List.set_cons_succ]
         refine wpAnyH_take (i := 5) (oi := ⟨some 107, .load 9 (.tmp 106), 9, "ref.go:50", #[⟨4, .data⟩, ⟨3, .guard⟩], some (3, true)⟩) (v := ?_) rfl (by kernel_rfl) (by kernel_rfl) (by kernel_rfl) (fun _ _ _ h => h) (Or.inl ⟨by rfl, ?_⟩) (by assumption) ?_
         rotate_left
         · intro w hSw; (try dsimp only at hSw); first | (go_simp; done) | (go_simp; with_reducible rfl)
         try simp only [Act.put, List.setIfInBounds_toArray, List.set_cons_zero, List.set_cons_succ]
         refine wpAnyH_take (i := 7) (oi := ⟨some 109, .fieldAddr 29 (.tmp 1) 2, 0, "ref.go:50", #[⟨3, .guard⟩], some (3, true)⟩) (v := ?_) rfl (by kernel_rfl) (by kernel_rfl) (by kernel_rfl) (fun _ _ _ h => h) (Or.inl ⟨by rfl, ?_⟩) (by assumption) ?_
         rotate_left
         · intro w hSw; (try dsimp only at hSw); first | (go_simp; done) | (go_simp; with_reducible rfl)
         try simp only [Act.put, List.setIfInBounds_toArray, List.set_cons_zero, List.set_cons_succ]
         refine wpAnyH_take (i := 8) (oi := ⟨some 110, .load 9 (.tmp 109), 9, "ref.go:50", #[⟨7, .data⟩, ⟨3, .guard⟩], some (3, true)⟩) (v := ?_) rfl (by kernel_rfl) (by kernel_rfl) (by kernel_rfl) (fun _ _ _ h => h) (Or.inl ⟨by rfl, ?_⟩) (by assumption) ?_
         rotate_left
         · intro w hSw; (try dsimp only at hSw); first | (go_simp; done) | (go_simp; with_reducible rfl)
         try simp only [Act.put, List.setIfInBounds_toArray, List.set_cons_zero, List.set_cons_succ]
         refine wpAnyH_ready (rs := [6]) (by kernel_rfl) (by simp) ?_
         refine AllReadyH.cons (o := ⟨some 108, .call { callee := .value (.func 34), args := #[.tmp 107], argTypes := #[9] }, 3, "ref.go:50", #[⟨5, .data⟩, ⟨3, .chain⟩, ⟨3, .guard⟩], some (3, true)⟩) rfl (fun K hK => ?_) AllReadyH.nil
         go_simp
         (go_at_call 34; refine Calls.mono (Py.out _) ?_; rintro e y1 ⟨rfl, rfl⟩)
         try go_wp2_with fail
         refine hK.out _ _ ?_ (fun hHeld1 => ?_)
         · (try dsimp only); (refine mkU.out _ ?_; ((with_reducible (repeat (first | assumption | exact Ext.refl _ | apply Ext.alloc | apply Ext.drew | apply Ext.drewN))); done))
         clear hK K hHeld0
         try simp only [Act.put, List.setIfInBounds_toArray, List.set_cons_zero, List.set_cons_succ]
         refine wpAnyH_ready (rs := [9]) (by kernel_rfl) (by simp) ?_
         refine AllReadyH.cons (o := ⟨some 111, .call { callee := .value (.func 34), args := #[.tmp 110], argTypes := #[9] }, 3, "ref.go:50", #[⟨8, .data⟩, ⟨6, .chain⟩, ⟨3, .guard⟩], some (3, true)⟩) rfl (fun K hK => ?_) AllReadyH.nil
         go_simp
         (go_at_call 34; refine Calls.mono (Pt.out _) ?_; rintro e y1 ⟨rfl, rfl⟩)
         try go_wp2_with fail
         refine hK.out _ _ ?_ (fun hHeld2 => ?_)
         · (try dsimp only); (refine mkU.out _ ?_; ((with_reducible (repeat (first | assumption | exact Ext.refl _ | apply Ext.alloc | apply Ext.drew | apply Ext.drewN))); done))
         clear hK K hHeld1
         try simp only [Act.put, List.setIfInBounds_toArray, List.set_cons_zero, List.set_cons_succ]
         refine wpAnyH_take (i := 10) (oi := ⟨some 112, .binOp .leq 3 (.tmp 108) (.tmp 111) 3, 4, "ref.go:50", #[⟨6, .data⟩, ⟨9, .data⟩, ⟨3, .guard⟩], some (3, true)⟩) (v := ?_) rfl (by kernel_rfl) (by kernel_rfl) (by kernel_rfl) (fun _ _ _ h => h) (Or.inl ⟨by rfl, ?_⟩) (by assumption) ?_
         rotate_left
         · intro w hSw; (try dsimp only at hSw); first | (go_simp; done) | (go_simp; with_reducible rfl)
         try simp only [Act.put, List.setIfInBounds_toArray, List.set_cons_zero, List.set_cons_succ]
         refine wpAnyH_take (i := 11) (oi := ⟨some 113, .pick (.tmp 105) (.tmp 112) (.const (.bool false)), 4, "ref.go:50", #[⟨3, .data⟩, ⟨10, .data⟩], none⟩) (v := ?_) rfl (by kernel_rfl) (by kernel_rfl) (by kernel_rfl) (fun _ _ _ h => h) (Or.inl ⟨by rfl, ?_⟩) (by assumption) ?_
         rotate_left
         · intro w hSw; (try dsimp only at hSw); first | (go_simp; done) | (go_simp; with_reducible rfl)
         try simp only [Act.put, List.setIfInBounds_toArray, List.set_cons_zero, List.set_cons_succ]
         refine wpAnyH_done (by kernel_rfl) ?_ _
         go_wp2_with fail
         go_ret
         exact ⟨ret_s (mkL _ _ (by rw [HX.out, HBx.out, HBy.out]; simp only [app_list, HQx.out, HQy.out, HQt.out]; try simp)), HF.out.2.trans (HF2.out.2.trans (by with_reducible repeat (first | assumption | exact Ext.refl _ | apply Ext.alloc | apply Ext.drew | apply Ext.drewN)))⟩
     · have x7y : (y.k == 7) = false := by simpa using h7
       have HBy : Hid (brkL (loose (bnd t.s + 1) y) (shT n y) = shT n y) := by show _ = _; simp [loose, brkL, h7]
       clear h7
       refine wp_region_held_drew (S := (fun V => V.cell? ⟨W.heap.size, 2, none⟩ = some (.string (bs t.s)) ∧ V.cell? ⟨W2.heap.size, 0, none⟩ = some (.int .i64 y.k) ∧ V.cell? ⟨W2.heap.size, 2, none⟩ = some (.string (bs y.s)))) (by kernel_rfl) ?_ (fun hHeld0 => ?_)
       · (refine mkU.out _ ?_; ((with_reducible (repeat (first | assumption | exact Ext.refl _ | apply Ext.alloc | apply Ext.drew | apply Ext.drewN))); done))
       refine wpAnyH_take (i := 0) (oi := ⟨some 102, .fieldAddr 29 (.tmp 7) 0, 0, "ref.go:50", #[], none⟩) (v := ?_) rfl (by kernel_rfl) (by kernel_rfl) (by kernel_rfl) (fun _ _ _ h => h) (Or.inl ⟨by rfl, ?_⟩) (by assumption) ?_
       rotate_left
       · intro w hSw; (try dsimp only at hSw); first | (go_simp; done) | (go_simp; with_reducible rfl)
       try simp only [Act.put, List.setIfInBounds_toArray, List.set_cons_zero, List.set_cons_succ]
       refine wpAnyH_take (i := 1) (oi := ⟨some 103, .load 3 (.tmp 102), 3, "ref.go:50", #[⟨0, .data⟩], none⟩) (v := ?_) rfl (by kernel_rfl) (by kernel_rfl) (by kernel_rfl) (fun _ _ _ h => h) (Or.inl ⟨by rfl, ?_⟩) (by assumption) ?_
       rotate_left
       · intro w hSw; (try dsimp only at hSw); first | (go_simp; done) | (go_simp; with_reducible rfl)
       try simp only [Act.put, List.setIfInBounds_toArray, List.set_cons_zero, List.set_cons_succ]
       refine wpAnyH_take (i := 2) (oi := ⟨some 104, .binOp .eql 3 (.tmp 103) (.const (.int .i64 7)) 3, 4, "ref.go:50", #[⟨1, .data⟩], none⟩) (v := ?_) rfl (by kernel_rfl) (by kernel_rfl) (by kernel_rfl) (fun _ _ _ h => h) (Or.inl ⟨by rfl, ?_⟩) (by assumption) ?_
       rotate_left
       · intro w hSw; (try dsimp only at hSw); first | (go_simp; done) | (go_simp; with_reducible rfl)
       try simp only [Act.put, List.setIfInBounds_toArray, List.set_cons_zero, List.set_cons_succ]
       refine wpAnyH_take (i := 3) (oi := ⟨some 105, .move (.tmp 104), 4, "ref.go:50", #[⟨2, .data⟩], none⟩) (v := ?_) rfl (by kernel_rfl) (by kernel_rfl) (by kernel_rfl) (fun _ _ _ h => h) (Or.inl ⟨by rfl, ?_⟩) (by assumption) ?_
       rotate_left
       · intro w hSw; (try dsimp only at hSw); first | (go_simp; done) | (go_simp; with_reducible rfl)
       try simp only [Act.put, List.setIfInBounds_toArray, List.set_cons_zero, List.set_cons_succ]
       refine wpAnyH_take (i := 4) (oi := ⟨some 106, .fieldAddr 29 (.tmp 7) 2, 0, "ref.go:50", #[⟨3, .guard⟩], some (3, true)⟩) (v := undef) rfl (by kernel_rfl) (by kernel_rfl) (by kernel_rfl) (fun _ _ _ h => h) (Or.inr ⟨by rfl, rfl⟩) (by assumption) ?_
       try simp only [Act.put, List.setIfInBounds_toArray, List.set_cons_zero, List.set_cons_succ]
       refine wpAnyH_take (i := 5) (oi := ⟨some 107, .load 9 (.tmp 106), 9, "ref.go:50", #[⟨4, .data⟩, ⟨3, .guard⟩], some (3, true)⟩) (v := undef) rfl (by kernel_rfl) (by kernel_rfl) (by kernel_rfl) (fun _ _ _ h => h) (Or.inr ⟨by rfl, rfl⟩) (by assumption) ?_
       try simp only [Act.put, List.setIfInBounds_toArray, List.set_cons_zero, List.set_cons_succ]
       refine wpAnyH_take (i := 6) (oi := ⟨some 108, .call { callee := .value (.func 34), args := #[.tmp 107], argTypes := #[9] }, 3, "ref.go:50", #[⟨5, .data⟩, ⟨3, .chain⟩, ⟨3, .guard⟩], some (3, true)⟩) (v := undef) rfl (by kernel_rfl) (by kernel_rfl) (by kernel_rfl) (fun _ _ _ h => h) (Or.inr ⟨by rfl, rfl⟩) (by assumption) ?_
       try simp only [Act.put, List.setIfInBounds_toArray, List.set_cons_zero, List.set_cons_succ]
       refine wpAnyH_take (i := 7) (oi := ⟨some 109, .fieldAddr 29 (.tmp 1) 2, 0, "ref.go:50", #[⟨3, .guard⟩], some (3, true)⟩) (v := undef) rfl (by kernel_rfl) (by kernel_rfl) (by kernel_rfl) (fun _ _ _ h => h) (Or.inr ⟨by rfl, rfl⟩) (by assumption) ?_
       try simp only [Act.put, List.setIfInBounds_toArray, List.set_cons_zero, List.set_cons_succ]
       refine wpAnyH_take (i := 8) (oi := ⟨some 110, .load 9 (.tmp 109), 9, "ref.go:50", #[⟨7, .data⟩, ⟨3, .guard⟩], some (3, true)⟩) (v := undef) rfl (by kernel_rfl) (by kernel_rfl) (by kernel_rfl) (fun _ _ _ h => h) (Or.inr ⟨by rfl, rfl⟩) (by assumption) ?_
       try simp only [Act.put, List.setIfInBounds_toArray, List.set_cons_zero, List.set_cons_succ]
       refine wpAnyH_take (i := 9) (oi := ⟨some 111, .call { callee := .value (.func 34), args := #[.tmp 110], argTypes := #[9] }, 3, "ref.go:50", #[⟨8, .data⟩, ⟨6, .chain⟩, ⟨3, .guard⟩], some (3, true)⟩) (v := undef) rfl (by kernel_rfl) (by kernel_rfl) (by kernel_rfl) (fun _ _ _ h => h) (Or.inr ⟨by rfl, rfl⟩) (by assumption) ?_
       try simp only [Act.put, List.setIfInBounds_toArray, List.set_cons_zero, List.set_cons_succ]
       refine wpAnyH_take (i := 10) (oi := ⟨some 112, .binOp .leq 3 (.tmp 108) (.tmp 111) 3, 4, "ref.go:50", #[⟨6, .data⟩, ⟨9, .data⟩, ⟨3, .guard⟩], some (3, true)⟩) (v := undef) rfl (by kernel_rfl) (by kernel_rfl) (by kernel_rfl) (fun _ _ _ h => h) (Or.inr ⟨by rfl, rfl⟩) (by assumption) ?_
       try simp only [Act.put, List.setIfInBounds_toArray, List.set_cons_zero, List.set_cons_succ]
       refine wpAnyH_take (i := 11) (oi := ⟨some 113, .pick (.tmp 105) (.tmp 112) (.const (.bool false)), 4, "ref.go:50", #[⟨3, .data⟩, ⟨10, .data⟩], none⟩) (v := ?_) rfl (by kernel_rfl) (by kernel_rfl) (by kernel_rfl) (fun _ _ _ h => h) (Or.inl ⟨by rfl, ?_⟩) (by assumption) ?_
       rotate_left
       · intro w hSw; (try dsimp only at hSw); first | (go_simp; done) | (go_simp; with_reducible rfl)
       try simp only [Act.put, List.setIfInBounds_toArray, List.set_cons_zero, List.set_cons_succ]
       refine wpAnyH_done (by kernel_rfl) ?_ _
       go_wp2_with fail
       go_ret
       exact ⟨ret_s (mkL _ _ (by rw [HX.out, HBx.out, HBy.out]; simp only [app_list, HQx.out, HQy.out, HQt.out]; try simp)), HF.out.2.trans (HF2.out.2.trans (by with_reducible repeat (first | assumption | exact Ext.refl _ | apply Ext.alloc | apply Ext.drew | apply Ext.drewN)))⟩
 · have x7x : (x.k == 7) = false := by simpa using h7
   have HBx : Hid (brkL (loose (bnd t.s) x) (shT n x) = shT n x) := by show _ = _; simp [loose, brkL, h7]
   clear h7
   refine wp_region_held_drew (S := (fun V => V.cell? ⟨W.heap.size, 2, none⟩ = some (.string (bs t.s)) ∧ V.cell? ⟨bX, 0, none⟩ = some (.int .i64 x.k) ∧ V.cell? ⟨bX, 2, none⟩ = some (.string (bs x.s)))) (by kernel_rfl) ?_ (fun hHeld0 => ?_)
   · (refine mkT.out _ ?_; ((with_reducible (repeat (first | assumption | exact Ext.refl _ | apply Ext.alloc | apply Ext.drew | apply Ext.drewN))); done))
   refine wpAnyH_take (i := 0) (oi := ⟨some 83, .fieldAddr 29 (.tmp 6) 0, 0, "ref.go:47", #[], none⟩) (v := ?_) rfl (by kernel_rfl) (by kernel_rfl) (by kernel_rfl) (fun _ _ _ h => h) (Or.inl ⟨by rfl, ?_⟩) (by assumption) ?_
   rotate_left
   · intro w hSw; (try dsimp only at hSw); first | (go_simp; done) | (go_simp; with_reducible rfl)
   try simp only [Act.put, List.setIfInBounds_toArray, List.set_cons_zero, List.set_cons_succ]
   refine wpAnyH_take (i := 1) (oi := ⟨some 84, .load 3 (.tmp 83), 3, "ref.go:47", #[⟨0, .data⟩], none⟩) (v := ?_) rfl (by kernel_rfl) (by kernel_rfl) (by kernel_rfl) (fun _ _ _ h => h) (Or.inl ⟨by rfl, ?_⟩) (by assumption) ?_
   rotate_left
   · intro w hSw; (try dsimp only at hSw); first | (go_simp; done) | (go_simp; with_reducible rfl)
   try simp only [Act.put, List.setIfInBounds_toArray, List.set_cons_zero, List.set_cons_succ]
   refine wpAnyH_take (i := 2) (oi := ⟨some 85, .binOp .eql 3 (.tmp 84) (.const (.int .i64 7)) 3, 4, "ref.go:47", #[⟨1, .data⟩], none⟩) (v := ?_) rfl (by kernel_rfl) (by kernel_rfl) (by kernel_rfl) (fun _ _ _ h => h) (Or.inl ⟨by rfl, ?_⟩) (by assumption) ?_
   rotate_left
   · intro w hSw; (try dsimp only at hSw); first | (go_simp; done) | (go_simp; with_reducible rfl)
   try simp only [Act.put, List.setIfInBounds_toArray, List.set_cons_zero, List.set_cons_succ]
   refine wpAnyH_take (i := 3) (oi := ⟨some 86, .move (.tmp 85), 4, "ref.go:47", #[⟨2, .data⟩], none⟩) (v := ?_) rfl (by kernel_rfl) (by kernel_rfl) (by kernel_rfl) (fun _ _ _ h => h) (Or.inl ⟨by rfl, ?_⟩) (by assumption) ?_
   rotate_left
   · intro w hSw; (try dsimp only at hSw); first | (go_simp; done) | (go_simp; with_reducible rfl)
   try simp only [Act.put, List.setIfInBounds_toArray, List.set_cons_zero, List.set_cons_succ]
   refine wpAnyH_take (i := 4) (oi := ⟨some 87, .fieldAddr 29 (.tmp 6) 2, 0, "ref.go:47", #[⟨3, .guard⟩], some (3, true)⟩) (v := undef) rfl (by kernel_rfl) (by kernel_rfl) (by kernel_rfl) (fun _ _ _ h => h) (Or.inr ⟨by rfl, rfl⟩) (by assumption) ?_
   try simp only [Act.put, List.setIfInBounds_toArray, List.set_cons_zero, List.set_cons_succ]
   refine wpAnyH_take (i := 5) (oi := ⟨some 88, .load 9 (.tmp 87), 9, "ref.go:47", #[⟨4, .data⟩, ⟨3, .guard⟩], some (3, true)⟩) (v := undef) rfl (by kernel_rfl) (by kernel_rfl) (by kernel_rfl) (fun _ _ _ h => h) (Or.inr ⟨by rfl, rfl⟩) (by assumption) ?_
   try simp only [Act.put, List.setIfInBounds_toArray, List.set_cons_zero, List.set_cons_succ]
   refine wpAnyH_take (i := 6) (oi := ⟨some 89, .call { callee := .value (.func 34), args := #[.tmp 88], argTypes := #[9] }, 3, "ref.go:47", #[⟨5, .data⟩, ⟨3, .chain⟩, ⟨3, .guard⟩], some (3, true)⟩) (v := undef) rfl (by kernel_rfl) (by kernel_rfl) (by kernel_rfl) (fun _ _ _ h => h) (Or.inr ⟨by rfl, rfl⟩) (by assumption) ?_
   try simp only [Act.put, List.setIfInBounds_toArray, List.set_cons_zero, List.set_cons_succ]
   refine wpAnyH_take (i := 7) (oi := ⟨some 90, .fieldAddr 29 (.tmp 1) 2, 0, "ref.go:47", #[⟨3, .guard⟩], some (3, true)⟩) (v := undef) rfl (by kernel_rfl) (by kernel_rfl) (by kernel_rfl) (fun _ _ _ h => h) (Or.inr ⟨by rfl, rfl⟩) (by assumption) ?_
   try simp only [Act.put, List.setIfInBounds_toArray, List.set_cons_zero, List.set_cons_succ]
   refine wpAnyH_take (i := 8) (oi := ⟨some 91, .load 9 (.tmp 90), 9, "ref.go:47", #[⟨7, .data⟩, ⟨3, .guard⟩], some (3, true)⟩) (v := undef) rfl (by kernel_rfl) (by kernel_rfl) (by kernel_rfl) (fun _ _ _ h => h) (Or.inr ⟨by rfl, rfl⟩) (by assumption) ?_
   try simp only [Act.put, List.setIfInBounds_toArray, List.set_cons_zero, List.set_cons_succ]
   refine wpAnyH_take (i := 9) (oi := ⟨some 92, .call { callee := .value (.func 34), args := #[.tmp 91], argTypes := #[9] }, 3, "ref.go:47", #[⟨8, .data⟩, ⟨6, .chain⟩, ⟨3, .guard⟩], some (3, true)⟩) (v := undef) rfl (by kernel_rfl) (by kernel_rfl) (by kernel_rfl) (fun _ _ _ h => h) (Or.inr ⟨by rfl, rfl⟩) (by assumption) ?_
   try simp only [Act.put, List.setIfInBounds_toArray, List.set_cons_zero, List.set_cons_succ]
   refine wpAnyH_take (i := 10) (oi := ⟨some 93, .binOp .lss 3 (.tmp 89) (.tmp 92) 3, 4, "ref.go:47", #[⟨6, .data⟩, ⟨9, .data⟩, ⟨3, .guard⟩], some (3, true)⟩) (v := undef) rfl (by kernel_rfl) (by kernel_rfl) (by kernel_rfl) (fun _ _ _ h => h) (Or.inr ⟨by rfl, rfl⟩) (by assumption) ?_
   try simp only [Act.put, List.setIfInBounds_toArray, List.set_cons_zero, List.set_cons_succ]
   refine wpAnyH_take (i := 11) (oi := ⟨some 94, .pick (.tmp 86) (.tmp 93) (.const (.bool false)), 4, "ref.go:47", #[⟨3, .data⟩, ⟨10, .data⟩], none⟩) (v := ?_) rfl (by kernel_rfl) (by kernel_rfl) (by kernel_rfl) (fun _ _ _ h => h) (Or.inl ⟨by rfl, ?_⟩) (by assumption) ?_
   rotate_left
   · intro w hSw; (try dsimp only at hSw); first | (go_simp; done) | (go_simp; with_reducible rfl)
   try simp only [Act.put, List.setIfInBounds_toArray, List.set_cons_zero, List.set_cons_succ]
   refine wpAnyH_done (by kernel_rfl) ?_ _
   go_wp2_with fail
   clear m12 c0 c1 c2 c3 c4 c5 c6 c7 c8 c9 c10 c11 c12 d0 d1 d2 d3 d4 d5 d6 d7 d8 d9 d10 d11 d12
   by_cases h7 : y.k = 7
   · have x7y : (y.k == 7) = true := by rw [h7]; rfl
     by_cases h8 : bz ≤ bt
     · have i8y : (bz : Int) ≤ (bt : Int) := by omega
       have d8y : decide ((bz : Int) ≤ (bt : Int)) = true := by simpa using i8y
       have HBy : Hid (brkL (loose (bnd t.s + 1) y) (shT n y) = 40 :: (shT n y ++ [41])) := by
         obtain ⟨h9x, h9y, h9t⟩ := HBD.out
         have hlo : loose (bnd t.s + 1) y = true := by unfold loose; rw [h9y, h9t]; simp [h7]; omega
         show _ = _
         rw [hlo]; rfl
       clear h7 h8
       refine wp_region_held_drew (S := (fun V => V.cell? ⟨W.heap.size, 2, none⟩ = some (.string (bs t.s)) ∧ V.cell? ⟨W2.heap.size, 0, none⟩ = some (.int .i64 y.k) ∧ V.cell? ⟨W2.heap.size, 2, none⟩ = some (.string (bs y.s)))) (by kernel_rfl) ?_ (fun hHeld0 => ?_)
       · (refine mkU.out _ ?_; ((with_reducible (repeat (first | assumption | exact Ext.refl _ | apply Ext.alloc | apply Ext.drew | apply Ext.drewN))); done))
       refine wpAnyH_take (i := 0) (oi := ⟨some 102, .fieldAddr 29 (.tmp 7) 0, 0, "ref.go:50", #[], none⟩) (v := ?_) rfl (by kernel_rfl) (by kernel_rfl) (by kernel_rfl) (fun _ _ _ h => h) (Or.inl ⟨by rfl, ?_⟩) (by assumption) ?_
       rotate_left
       · intro w hSw; (try dsimp only at hSw); first | (go_simp; done) | (go_simp; with_reducible rfl)
       try simp only [Act.put, List.setIfInBounds_toArray, List.set_cons_zero, List.set_cons_succ]
       refine wpAnyH_take (i := 1) (oi := ⟨some 103, .load 3 (.tmp 102), 3, "ref.go:50", #[⟨0, .data⟩], none⟩) (v := ?_) rfl (by kernel_rfl) (by kernel_rfl) (by kernel_rfl) (fun _ _ _ h => h) (Or.inl ⟨by rfl, ?_⟩) (by assumption) ?_
       rotate_left
       · intro w hSw; (try dsimp only at hSw); first | (go_simp; done) | (go_simp; with_reducible rfl)
       try simp only [Act.put, List.setIfInBounds_toArray, List.set_cons_zero, List.set_cons_succ]
       refine wpAnyH_take (i := 2) (oi := ⟨some 104, .binOp .eql 3 (.tmp 103) (.const (.int .i64 7)) 3, 4, "ref.go:50", #[⟨1, .data⟩], none⟩) (v := ?_) rfl (by kernel_rfl) (by kernel_rfl) (by kernel_rfl) (fun _ _ _ h => h) (Or.inl ⟨by rfl, ?_⟩) (by assumption) ?_
       rotate_left
       · intro w hSw; (try dsimp only at hSw); first | (go_simp; done) | (go_simp; with_reducible rfl)
       try simp only [Act.put, List.setIfInBounds_toArray, List.set_cons_zero, List.set_cons_succ]
       refine wpAnyH_take (i := 3) (oi := ⟨some 105, .move (.tmp 104), 4, "ref.go:50", #[⟨2, .data⟩], none⟩) (v := ?_) rfl (by kernel_rfl) (by kernel_rfl) (by kernel_rfl) (fun _ _ _ h => h) (Or.inl ⟨by rfl, ?_⟩) (by assumption) ?_
       rotate_left
       · intro w hSw; (try dsimp only at hSw); first | (go_simp; done) | (go_simp; with_reducible rfl)
       try simp only [Act.put, List.setIfInBounds_toArray, List.set_cons_zero, List.set_cons_succ]
       refine wpAnyH_take (i := 4) (oi := ⟨some 106, .fieldAddr 29 (.tmp 7) 2, 0, "ref.go:50", #[⟨3, .guard⟩], some (3, true)⟩) (v := ?_) rfl (by kernel_rfl) (by kernel_rfl) (by kernel_rfl) (fun _ _ _ h => h) (Or.inl ⟨by rfl, ?_⟩) (by assumption) ?_
       rotate_left
       · intro w hSw; (try dsimp only at hSw); first | (go_simp; done) | (go_simp; with_reducible rfl)
       try simp only [Act.put, List.setIfInBounds_toArray, List.set_cons_zero, List.set_cons_succ]
       refine wpAnyH_take (i := 5) (oi := ⟨some 107, .load 9 (.tmp 106), 9, "ref.go:50", #[⟨4, .data⟩, ⟨3, .guard⟩], some (3, true)⟩) (v := ?_) rfl (by kernel_rfl) (by kernel_rfl) (by kernel_rfl) (fun _ _ _ h => h) (Or.inl ⟨by rfl, ?_⟩) (by assumption) ?_
       rotate_left
       · intro w hSw; (try dsimp only at hSw); first | (go_simp; done) | (go_simp; with_reducible rfl)
       try simp only [Act.put, List.setIfInBounds_toArray, List.set_cons_zero, List.set_cons_succ]
       refine wpAnyH_take (i := 7) (oi := ⟨some 109, .fieldAddr 29 (.tmp 1) 2, 0, "ref.go:50", #[⟨3, .guard⟩], some (3, true)⟩) (v := ?_) rfl (by kernel_rfl) (by kernel_rfl) (by kernel_rfl) (fun _ _ _ h => h) (Or.inl ⟨by rfl, ?_⟩) (by assumption) ?_
       rotate_left
       · intro w hSw; (try dsimp only at hSw); first | (go_simp; done) | (go_simp; with_reducible rfl)
       try simp only [Act.put, List.setIfInBounds_toArray, List.set_cons_zero, List.set_cons_succ]
       refine wpAnyH_take (i := 8) (oi := ⟨some 110, .load 9 (.tmp 109), 9, "ref.go:50", #[⟨7, .data⟩, ⟨3, .guard⟩], some (3, true)⟩) (v := ?_) rfl (by kernel_rfl) (by kernel_rfl) (by kernel_rfl) (fun _ _ _ h => h) (Or.inl ⟨by rfl, ?_⟩) (by assumption) ?_
       rotate_left
       · intro w hSw; (try dsimp only at hSw); first | (go_simp; done) | (go_simp; with_reducible rfl)
       try simp only [Act.put, List.setIfInBounds_toArray, List.set_cons_zero, List.set_cons_succ]
       refine wpAnyH_ready (rs := [6]) (by kernel_rfl) (by simp) ?_
       refine AllReadyH.cons (o := ⟨some 108, .call { callee := .value (.func 34), args := #[.tmp 107], argTypes := #[9] }, 3, "ref.go:50", #[⟨5, .data⟩, ⟨3, .chain⟩, ⟨3, .guard⟩], some (3, true)⟩) rfl (fun K hK => ?_) AllReadyH.nil
       go_simp
       (go_at_call 34; refine Calls.mono (Py.out _) ?_; rintro e y1 ⟨rfl, rfl⟩)
       try go_wp2_with fail
       refine hK.out _ _ ?_ (fun hHeld1 => ?_)
       · (try dsimp only); (refine mkU.out _ ?_; ((with_reducible (repeat (first | assumption | exact Ext.refl _ | apply Ext.alloc | apply Ext.drew | apply Ext.drewN))); done))
       clear hK K hHeld0
       try simp only [Act.put, List.setIfInBounds_toArray, List.set_cons_zero, List.set_cons_succ]
       refine wpAnyH_ready (rs := [9]) (by kernel_rfl) (by simp) ?_
       refine AllReadyH.cons (o := ⟨some 111, .call { callee := .value (.func 34), args := #[.tmp 110], argTypes := #[9] }, 3, "ref.go:50", #[⟨8, .data⟩, ⟨6, .chain⟩, ⟨3, .guard⟩], some (3, true)⟩) rfl (fun K hK => ?_) AllReadyH.nil
       go_simp
       (go_at_call 34; refine Calls.mono (Pt.out _) ?_; rintro e y1 ⟨rfl, rfl⟩)
       try go_wp2_with fail
       refine hK.out _ _ ?_ (fun hHeld2 => ?_)
       · (try dsimp only); (refine mkU.out _ ?_; ((with_reducible (repeat (first | assumption | exact Ext.refl _ | apply Ext.alloc | apply Ext.drew | apply Ext.drewN))); done))
       clear hK K hHeld1
       try simp only [Act.put, List.setIfInBounds_toArray, List.set_cons_zero, List.set_cons_succ]
       refine wpAnyH_take (i := 10) (oi := ⟨some 112, .binOp .leq 3 (.tmp 108) (.tmp 111) 3, 4, "ref.go:50", #[⟨6, .data⟩, ⟨9, .data⟩, ⟨3, .guard⟩], some (3, true)⟩) (v := ?_) rfl (by kernel_rfl) (by kernel_rfl) (by kernel_rfl) (fun _ _ _ h => h) (Or.inl ⟨by rfl, ?_⟩) (by assumption) ?_
       rotate_left
       · intro w hSw; (try dsimp only at hSw); first | (go_simp; done) | (go_simp; with_reducible rfl)
       try simp only [Act.put, List.setIfInBounds_toArray, List.set_cons_zero, List.set_cons_succ]
       refine wpAnyH_take (i := 11) (oi := ⟨some 113, .pick (.tmp 105) (.tmp 112) (.const (.bool false)), 4, "ref.go:50", #[⟨3, .data⟩, ⟨10, .data⟩], none⟩) (v := ?_) rfl (by kernel_rfl) (by kernel_rfl) (by kernel_rfl) (fun _ _ _ h => h) (Or.inl ⟨by rfl, ?_⟩) (by assumption) ?_
       rotate_left
       · intro w hSw; (try dsimp only at hSw); first | (go_simp; done) | (go_simp; with_reducible rfl)
       try simp only [Act.put, List.setIfInBounds_toArray, List.set_cons_zero, List.set_cons_succ]
       refine wpAnyH_done (by kernel_rfl) ?_ _
       go_wp2_with fail
       go_ret
       exact ⟨ret_s (mkL _ _ (by rw [HX.out, HBx.out, HBy.out]; simp only [app_list, HQx.out, HQy.out, HQt.out]; try simp)), HF.out.2.trans (HF2.out.2.trans (by with_reducible repeat (first | assumption | exact Ext.refl _ | apply Ext.alloc | apply Ext.drew | apply Ext.drewN)))⟩
     · have i8y : ¬ (bz : Int) ≤ (bt : Int) := by omega
       have d8y : decide ((bz : Int) ≤ (bt : Int)) = false := by simpa using i8y
       have HBy : Hid (brkL (loose (bnd t.s + 1) y) (shT n y) = shT n y) := by
         obtain ⟨h9x, h9y, h9t⟩ := HBD.out
         have hlo : loose (bnd t.s + 1) y = false := by unfold loose; rw [h9y, h9t]; simp [h7]; omega
         show _ = _
         rw [hlo]; rfl
       clear h7 h8
       refine wp_region_held_drew (S := (fun V => V.cell? ⟨W.heap.size, 2, none⟩ = some (.string (bs t.s)) ∧ V.cell? ⟨W2.heap.size, 0, none⟩ = some (.int .i64 y.k) ∧ V.cell? ⟨W2.heap.size, 2, none⟩ = some (.string (bs y.s)))) (by kernel_rfl) ?_ (fun hHeld0 => ?_)
       · (refine mkU.out _ ?_; ((with_reducible (repeat (first | assumption | exact Ext.refl _ | apply Ext.alloc | apply Ext.drew | apply Ext.drewN))); done))
       refine wpAnyH_take (i := 0) (oi := ⟨some 102, .fieldAddr 29 (.tmp 7) 0, 0, "ref.go:50", #[], none⟩) (v := ?_) rfl (by kernel_rfl) (by kernel_rfl) (by kernel_rfl) (fun _ _ _ h => h) (Or.inl ⟨by rfl, ?_⟩) (by assumption) ?_
       rotate_left
       · intro w hSw; (try dsimp only at hSw); first | (go_simp; done) | (go_simp; with_reducible rfl)
       try simp only [Act.put, List.setIfInBounds_toArray, List.set_cons_zero, List.set_cons_succ]
       refine wpAnyH_take (i := 1) (oi := ⟨some 103, .load 3 (.tmp 102), 3, "ref.go:50", #[⟨0, .data⟩], none⟩) (v := ?_) rfl (by kernel_rfl) (by kernel_rfl) (by kernel_rfl) (fun _ _ _ h => h) (Or.inl ⟨by rfl, ?_⟩) (by assumption) ?_
       rotate_left
       · intro w hSw; (try dsimp only at hSw); first | (go_simp; done) | (go_simp; with_reducible rfl)
       try simp only [Act.put, List.setIfInBounds_toArray, List.set_cons_zero, List.set_cons_succ]
       refine wpAnyH_take (i := 2) (oi := ⟨some 104, .binOp .eql 3 (.tmp 103) (.const (.int .i64 7)) 3, 4, "ref.go:50", #[⟨1, .data⟩], none⟩) (v := ?_) rfl (by kernel_rfl) (by kernel_rfl) (by kernel_rfl) (fun _ _ _ h => h) (Or.inl ⟨by rfl, ?_⟩) (by assumption) ?_
       rotate_left
       · intro w hSw; (try dsimp only at hSw); first | (go_simp; done) | (go_simp; with_reducible rfl)
       try simp only [Act.put, List.setIfInBounds_toArray, List.set_cons_zero, List.set_cons_succ]
       refine wpAnyH_take (i := 3) (oi := ⟨some 105, .move (.tmp 104), 4, "ref.go:50", #[⟨2, .data⟩], none⟩) (v := ?_) rfl (by kernel_rfl) (by kernel_rfl) (by kernel_rfl) (fun _ _ _ h => h) (Or.inl ⟨by rfl, ?_⟩) (by assumption) ?_
       rotate_left
       · intro w hSw; (try dsimp only at hSw); first | (go_simp; done) | (go_simp; with_reducible rfl)
       try simp only [Act.put, List.setIfInBounds_toArray, List.set_cons_zero, List.set_cons_succ]
       refine wpAnyH_take (i := 4) (oi := ⟨some 106, .fieldAddr 29 (.tmp 7) 2, 0, "ref.go:50", #[⟨3, .guard⟩], some (3, true)⟩) (v := ?_) rfl (by kernel_rfl) (by kernel_rfl) (by kernel_rfl) (fun _ _ _ h => h) (Or.inl ⟨by rfl, ?_⟩) (by assumption) ?_
       rotate_left
       · intro w hSw; (try dsimp only at hSw); first | (go_simp; done) | (go_simp; with_reducible rfl)
       try simp only [Act.put, List.setIfInBounds_toArray, List.set_cons_zero, List.set_cons_succ]
       refine wpAnyH_take (i := 5) (oi := ⟨some 107, .load 9 (.tmp 106), 9, "ref.go:50", #[⟨4, .data⟩, ⟨3, .guard⟩], some (3, true)⟩) (v := ?_) rfl (by kernel_rfl) (by kernel_rfl) (by kernel_rfl) (fun _ _ _ h => h) (Or.inl ⟨by rfl, ?_⟩) (by assumption) ?_
       rotate_left
       · intro w hSw; (try dsimp only at hSw); first | (go_simp; done) | (go_simp; with_reducible rfl)
       try simp only [Act.put, List.setIfInBounds_toArray, List.set_cons_zero, List.set_cons_succ]
       refine wpAnyH_take (i := 7) (oi := ⟨some 109, .fieldAddr 29 (.tmp 1) 2, 0, "ref.go:50", #[⟨3, .guard⟩], some (3, true)⟩) (v := ?_) rfl (by kernel_rfl) (by kernel_rfl) (by kernel_rfl) (fun _ _ _ h => h) (Or.inl ⟨by rfl, ?_⟩) (by assumption) ?_
       rotate_left
       · intro w hSw; (try dsimp only at hSw); first | (go_simp; done) | (go_simp; with_reducible rfl)
       try simp only [Act.put, List.setIfInBounds_toArray, List.set_cons_zero, List.set_cons_succ]
       refine wpAnyH_take (i := 8) (oi := ⟨some 110, .load 9 (.tmp 109), 9, "ref.go:50", #[⟨7, .data⟩, ⟨3, .guard⟩], some (3, true)⟩) (v := ?_) rfl (by kernel_rfl) (by kernel_rfl) (by kernel_rfl) (fun _ _ _ h => h) (Or.inl ⟨by rfl, ?_⟩) (by assumption) ?_
       rotate_left
       · intro w hSw; (try dsimp only at hSw); first | (go_simp; done) | (go_simp; with_reducible rfl)
       try simp only [Act.put, List.setIfInBounds_toArray, List.set_cons_zero, List.set_cons_succ]
       refine wpAnyH_ready (rs := [6]) (by kernel_rfl) (by simp) ?_
       refine AllReadyH.cons (o := ⟨some 108, .call { callee := .value (.func 34), args := #[.tmp 107], argTypes := #[9] }, 3, "ref.go:50", #[⟨5, .data⟩, ⟨3, .chain⟩, ⟨3, .guard⟩], some (3, true)⟩) rfl (fun K hK => ?_) AllReadyH.nil
       go_simp
       (go_at_call 34; refine Calls.mono (Py.out _) ?_; rintro e y1 ⟨rfl, rfl⟩)
       try go_wp2_with fail
       refine hK.out _ _ ?_ (fun hHeld1 => ?_)
       · (try dsimp only); (refine mkU.out _ ?_; ((with_reducible (repeat (first | assumption | exact Ext.refl _ | apply Ext.alloc | apply Ext.drew | apply Ext.drewN))); done))
       clear hK K hHeld0
       try simp only [Act.put, List.setIfInBounds_toArray, List.set_cons_zero, List.set_cons_succ]
       refine wpAnyH_ready (rs := [9]) (by kernel_rfl) (by simp) ?_
       refine AllReadyH.cons (o := ⟨some 111, .call { callee := .value (.func 34), args := #[.tmp 110], argTypes := #[9] }, 3, "ref.go:50", #[⟨8, .data⟩, ⟨6, .chain⟩, ⟨3, .guard⟩], some (3, true)⟩) rfl (fun K hK => ?_) AllReadyH.nil
       go_simp
       (go_at_call 34; refine Calls.mono (Pt.out _) ?_; rintro e y1 ⟨rfl, rfl⟩)
       try go_wp2_with fail
       refine hK.out _ _ ?_ (fun hHeld2 => ?_)
       · (try dsimp only); (refine mkU.out _ ?_; ((with_reducible (repeat (first | assumption | exact Ext.refl _ | apply Ext.alloc | apply Ext.drew | apply Ext.drewN))); done))
       clear hK K hHeld1
       try simp only [Act.put, List.setIfInBounds_toArray, List.set_cons_zero, List.set_cons_succ]
       refine wpAnyH_take (i := 10) (oi := ⟨some 112, .binOp .leq 3 (.tmp 108) (.tmp 111) 3, 4, "ref.go:50", #[⟨6, .data⟩, ⟨9, .data⟩, ⟨3, .guard⟩], some (3, true)⟩) (v := ?_) rfl (by kernel_rfl) (by kernel_rfl) (by kernel_rfl) (fun _ _ _ h => h) (Or.inl ⟨by rfl, ?_⟩) (by assumption) ?_
       rotate_left
       · intro w hSw; (try dsimp only at hSw); first | (go_simp; done) | (go_simp; with_reducible rfl)
       try simp only [Act.put, List.setIfInBounds_toArray, List.set_cons_zero, List.set_cons_succ]
       refine wpAnyH_take (i := 11) (oi := ⟨some 113, .pick (.tmp 105) (.tmp 112) (.const (.bool false)), 4, "ref.go:50", #[⟨3, .data⟩, ⟨10, .data⟩], none⟩) (v := ?_) rfl (by kernel_rfl) (by kernel_rfl) (by kernel_rfl) (fun _ _ _ h => h) (Or.inl ⟨by rfl, ?_⟩) (by assumption) ?_
       rotate_left
       · intro w hSw; (try dsimp only at hSw); first | (go_simp; done) | (go_simp; with_reducible rfl)
       try simp only [Act.put, List.setIfInBounds_toArray, List.set_cons_zero, List.set_cons_succ]
       refine wpAnyH_done (by kernel_rfl) ?_ _
       go_wp2_with fail
       go_ret
       exact ⟨ret_s (mkL _ _ (by rw [HX.out, HBx.out, HBy.out]; simp only [app_list, HQx.out, HQy.out, HQt.out]; try simp)), HF.out.2.trans (HF2.out.2.trans (by with_reducible repeat (first | assumption | exact Ext.refl _ | apply Ext.alloc | apply Ext.drew | apply Ext.drewN)))⟩
   · have x7y : (y.k == 7) = false := by simpa using h7
     have HBy : Hid (brkL (loose (bnd t.s + 1) y) (shT n y) = shT n y) := by show _ = _; simp [loose, brkL, h7]
     clear h7
     refine wp_region_held_drew (S := (fun V => V.cell? ⟨W.heap.size, 2, none⟩ = some (.string (bs t.s)) ∧ V.cell? ⟨W2.heap.size, 0, none⟩ = some (.int .i64 y.k) ∧ V.cell? ⟨W2.heap.size, 2, none⟩ = some (.string (bs y.s)))) (by kernel_rfl) ?_ (fun hHeld0 => ?_)
     · (refine mkU.out _ ?_; ((with_reducible (repeat (first | assumption | exact Ext.refl _ | apply Ext.alloc | apply Ext.drew | apply Ext.drewN))); done))
     refine wpAnyH_take (i := 0) (oi := ⟨some 102, .fieldAddr 29 (.tmp 7) 0, 0, "ref.go:50", #[], none⟩) (v := ?_) rfl (by kernel_rfl) (by kernel_rfl) (by kernel_rfl) (fun _ _ _ h => h) (Or.inl ⟨by rfl, ?_⟩) (by assumption) ?_
     rotate_left
     · intro w hSw; (try dsimp only at hSw); first | (go_simp; done) | (go_simp; with_reducible rfl)
     try simp only [Act.put, List.setIfInBounds_toArray, List.set_cons_zero, List.set_cons_succ]
     refine wpAnyH_take (i := 1) (oi := ⟨some 103, .load 3 (.tmp 102), 3, "ref.go:50", #[⟨0, .data⟩], none⟩) (v := ?_) rfl (by kernel_rfl) (by kernel_rfl) (by kernel_rfl) (fun _ _ _ h => h) (Or.inl ⟨by rfl, ?_⟩) (by assumption) ?_
     rotate_left
     · intro w hSw; (try dsimp only at hSw); first | (go_simp; done) | (go_simp; with_reducible rfl)
     try simp only [Act.put, List.setIfInBounds_toArray, List.set_cons_zero, List.set_cons_succ]
     refine wpAnyH_take (i := 2) (oi := ⟨some 104, .binOp .eql 3 (.tmp 103) (.const (.int .i64 7)) 3, 4, "ref.go:50", #[⟨1, .data⟩], none⟩) (v := ?_) rfl (by kernel_rfl) (by kernel_rfl) (by kernel_rfl) (fun _ _ _ h => h) (Or.inl ⟨by rfl, ?_⟩) (by assumption) ?_
     rotate_left
     · intro w hSw; (try dsimp only at hSw); first | (go_simp; done) | (go_simp; with_reducible rfl)
     try simp only [Act.put, List.setIfInBounds_toArray, List.set_cons_zero, List.set_cons_succ]
     refine wpAnyH_take (i := 3) (oi := ⟨some 105, .move (.tmp 104), 4, "ref.go:50", #[⟨2, .data⟩], none⟩) (v := ?_) rfl (by kernel_rfl) (by kernel_rfl) (by kernel_rfl) (fun _ _ _ h => h) (Or.inl ⟨by rfl, ?_⟩) (by assumption) ?_
     rotate_left
     · intro w hSw; (try dsimp only at hSw); first | (go_simp; done) | (go_simp; with_reducible rfl)
     try simp only [Act.put, List.setIfInBounds_toArray, List.set_cons_zero, List.set_cons_succ]
     refine wpAnyH_take (i := 4) (oi := ⟨some 106, .fieldAddr 29 (.tmp 7) 2, 0, "ref.go:50", #[⟨3, .guard⟩], some (3, true)⟩) (v := undef) rfl (by kernel_rfl) (by kernel_rfl) (by kernel_rfl) (fun _ _ _ h => h) (Or.inr ⟨by rfl, rfl⟩) (by assumption) ?_
     try simp only [Act.put, List.setIfInBounds_toArray, List.set_cons_zero, List.set_cons_succ]
     refine wpAnyH_take (i := 5) (oi := ⟨some 107, .load 9 (.tmp 106), 9, "ref.go:50", #[⟨4, .data⟩, ⟨3, .guard⟩], some (3, true)⟩) (v := undef) rfl (by kernel_rfl) (by kernel_rfl) (by kernel_rfl) (fun _ _ _ h => h) (Or.inr ⟨by rfl, rfl⟩) (by assumption) ?_
     try simp only [Act.put, List.setIfInBounds_toArray, List.set_cons_zero, List.set_cons_succ]
     refine wpAnyH_take (i := 6) (oi := ⟨some 108, .call { callee := .value (.func 34), args := #[.tmp 107], argTypes := #[9] }, 3, "ref.go:50", #[⟨5, .data⟩, ⟨3, .chain⟩, ⟨3, .guard⟩], some (3, true)⟩) (v := undef) rfl (by kernel_rfl) (by kernel_rfl) (by kernel_rfl) (fun _ _ _ h => h) (Or.inr ⟨by rfl, rfl⟩) (by assumption) ?_
     try simp only [Act.put, List.setIfInBounds_toArray, List.set_cons_zero, List.set_cons_succ]
     refine wpAnyH_take (i := 7) (oi := ⟨some 109, .fieldAddr 29 (.tmp 1) 2, 0, "ref.go:50", #[⟨3, .guard⟩], some (3, true)⟩) (v := undef) rfl (by kernel_rfl) (by kernel_rfl) (by kernel_rfl) (fun _ _ _ h => h) (Or.inr ⟨by rfl, rfl⟩) (by assumption) ?_
     try simp only [Act.put, List.setIfInBounds_toArray, List.set_cons_zero, List.set_cons_succ]
     refine wpAnyH_take (i := 8) (oi := ⟨some 110, .load 9 (.tmp 109), 9, "ref.go:50", #[⟨7, .data⟩, ⟨3, .guard⟩], some (3, true)⟩) (v := undef) rfl (by kernel_rfl) (by kernel_rfl) (by kernel_rfl) (fun _ _ _ h => h) (Or.inr ⟨by rfl, rfl⟩) (by assumption) ?_
     try simp only [Act.put, List.setIfInBounds_toArray, List.set_cons_zero, List.set_cons_succ]
     refine wpAnyH_take (i := 9) (oi := ⟨some 111, .call { callee := .value (.func 34), args := #[.tmp 110], argTypes := #[9] }, 3, "ref.go:50", #[⟨8, .data⟩, ⟨6, .chain⟩, ⟨3, .guard⟩], some (3, true)⟩) (v := undef) rfl (by kernel_rfl) (by kernel_rfl) (by kernel_rfl) (fun _ _ _ h => h) (Or.inr ⟨by rfl, rfl⟩) (by assumption) ?_
     try simp only [Act.put, List.setIfInBounds_toArray, List.set_cons_zero, List.set_cons_succ]
     refine wpAnyH_take (i := 10) (oi := ⟨some 112, .binOp .leq 3 (.tmp 108) (.tmp 111) 3, 4, "ref.go:50", #[⟨6, .data⟩, ⟨9, .data⟩, ⟨3, .guard⟩], some (3, true)⟩) (v := undef) rfl (by kernel_rfl) (by kernel_rfl) (by kernel_rfl) (fun _ _ _ h => h) (Or.inr ⟨by rfl, rfl⟩) (by assumption) ?_
     try simp only [Act.put, List.setIfInBounds_toArray, List.set_cons_zero, List.set_cons_succ]
     refine wpAnyH_take (i := 11) (oi := ⟨some 113, .pick (.tmp 105) (.tmp 112) (.const (.bool false)), 4, "ref.go:50", #[⟨3, .data⟩, ⟨10, .data⟩], none⟩) (v := ?_) rfl (by kernel_rfl) (by kernel_rfl) (by kernel_rfl) (fun _ _ _ h => h) (Or.inl ⟨by rfl, ?_⟩) (by assumption) ?_
     rotate_left
     · intro w hSw; (try dsimp only at hSw); first | (go_simp; done) | (go_simp; with_reducible rfl)
     try simp only [Act.put, List.setIfInBounds_toArray, List.set_cons_zero, List.set_cons_succ]
     refine wpAnyH_done (by kernel_rfl) ?_ _
     go_wp2_with fail
     go_ret
     exact ⟨ret_s (mkL _ _ (by rw [HX.out, HBx.out, HBy.out]; simp only [app_list, HQx.out, HQy.out, HQt.out]; try simp)), HF.out.2.trans (HF2.out.2.trans (by with_reducible repeat (first | assumption | exact Ext.refl _ | apply Ext.alloc | apply Ext.drew | apply Ext.drewN)))⟩
end Go.Proofs.Ytjhmbkdkjgjoaaa
