/-
 Package move: what becomes of rows, kept in function values; a reference, a range.
 Package move: a reference, a range, when rows come and go.
 The contract of word, and of the closure in it.
-/
import Derived.Test.YtcggiljlilbdfaaU22
import Derived.Test.YtcggiljlilbdfaaU14
import Derived.Test.YtcggiljlilbdfaaU18
namespace Go.Proofs.Ytcggiljlilbdfaa
open Go.RowKit
set_option maxHeartbeats 6000000

/-- The function values v1, v2 tell what becomes of a row, and of a range's rows. -/
def RwC (w : World) (v1 v2 : Value) (o : Int → Int) (b : Int → Int → Int × Int × Bool) : Prop :=
 (∃ K cs, v1 = .func (.func K) #[] cs ∧ (∀ args W, (callFunc K args).run Try.prog W = .ok (.enter K args) W) ∧ ∀ (W : World) (row : Int), Ext w W → 1 ≤ row → row ≤ 1000 → Calls Try.prog K (#[.int .i64 row] ++ cs) W fun e w' => e = .returned (.int .i64 (o row)) ∧ Ext W w') ∧
 (∃ K cs, v2 = .func (.func K) #[] cs ∧ (∀ args W, (callFunc K args).run Try.prog W = .ok (.enter K args) W) ∧ ∀ (W : World) (lo hi : Int), Ext w W → 1 ≤ lo → lo ≤ hi → hi ≤ 1000 → Calls Try.prog K (#[.int .i64 lo, .int .i64 hi] ++ cs) W fun e w' => e = .returned (.tuple #[.int .i64 (b lo hi).1, .int .i64 (b lo hi).2.1, .bool (b lo hi).2.2]) ∧ Ext W w')
theorem RwC.ext {w w' : World} {v1 v2 : Value} {o : Int → Int} {b : Int → Int → Int × Int × Bool} (h : RwC w v1 v2 o b) (e : Ext w w') : RwC w' v1 v2 o b := by
 obtain ⟨⟨K, cs, h1, h2, h3⟩, K', cs', g1, g2, g3⟩ := h
 exact ⟨⟨K, cs, h1, h2, fun W row x => h3 W row (e.trans x)⟩, K', cs', g1, g2, fun W lo hi x => g3 W lo hi (e.trans x)⟩
set_option maxRecDepth 100000 in
theorem coming1_any (row a : Int) (g : Nat) (W : World) (h : W.cell? ⟨g, 0, none⟩ = some (.int .i64 a)) : Calls Try.prog 87 #[.int .i64 row, .pointer (some ⟨g, 0, none⟩)] W fun e w' => e = .returned (.int .i64 (inR a row)) ∧ Ext W w' := by
 have c := fun V => inserted_any row a V
 go_enter Try.func87, Try.ntmps87
 go_wp2_with fail
 refine (c _).mono ?_
 rintro e w1 ⟨rfl, rfl⟩
 go_wp2_with fail
 go_ret
 exact ⟨rfl, Ext.refl _⟩
set_option maxRecDepth 100000 in
theorem going1_any (row a : Int) (g : Nat) (W : World) (h : W.cell? ⟨g, 0, none⟩ = some (.int .i64 a)) : Calls Try.prog 89 #[.int .i64 row, .pointer (some ⟨g, 0, none⟩)] W fun e w' => e = .returned (.int .i64 (deR a row)) ∧ Ext W w' := by
 have c := fun V => deleted_any row a V
 go_enter Try.func89, Try.ntmps89
 go_wp2_with fail
 refine (c _).mono ?_
 rintro e w1 ⟨rfl, rfl⟩
 go_wp2_with fail
 go_ret
 exact ⟨rfl, Ext.refl _⟩
theorem ret_iib {a a' b b' : Int} {x x' : Bool} (h1 : a = a') (h2 : b = b') (h3 : x = x') : Ending.returned (.tuple #[.int .i64 a, .int .i64 b, .bool x]) = .returned (.tuple #[.int .i64 a', .int .i64 b', .bool x']) := by rw [h1, h2, h3]
set_option maxRecDepth 100000 in
theorem coming2_any (lo hi a : Int) (g : Nat) (W : World) (hg : g < W.heap.size) (h : W.cell? ⟨g, 0, none⟩ = some (.int .i64 a)) : Calls Try.prog 88 #[.int .i64 lo, .int .i64 hi, .pointer (some ⟨g, 0, none⟩)] W fun e w' => e = .returned (.tuple #[.int .i64 (inV a lo hi).1, .int .i64 (inV a lo hi).2.1, .bool (inV a lo hi).2.2]) ∧ Ext W w' := by
 have c1 : ∀ V, Calls Try.prog 27 #[.int .i64 lo, .int .i64 a] V fun e w' => e = .returned (.int .i64 (inR a lo)) ∧ Ext V w' := fun V => (inserted_any lo a V).mono (fun e w' q => ⟨q.1, by rw [q.2]; exact Ext.refl _⟩)
 have c2 : ∀ V, Calls Try.prog 27 #[.int .i64 hi, .int .i64 a] V fun e w' => e = .returned (.int .i64 (inR a hi)) ∧ Ext V w' := fun V => (inserted_any hi a V).mono (fun e w' q => ⟨q.1, by rw [q.2]; exact Ext.refl _⟩)
 have mkS : Hid (∀ V, Ext W V → V.cell? ⟨g, 0, none⟩ = some (.int .i64 a)) := fun V e => by rw [e.cell.1 _ _ hg]; exact h
 have HX : Hid (inV a lo hi = if inR a lo = 0 then (0, 0, false) else (inR a lo, if inR a hi = 0 then 1000 else inR a hi, true)) := rfl
 obtain ⟨X, hX⟩ : ∃ X, inV a lo hi = X := ⟨_, rfl⟩
 rw [hX] at HX ⊢
 obtain ⟨x, hx⟩ : ∃ x, inR a lo = x := ⟨_, rfl⟩
 obtain ⟨y, hy⟩ : ∃ y, inR a hi = y := ⟨_, rfl⟩
 rw [hx] at c1 HX
 rw [hy] at c2 HX
 clear hX hx hy
 by_cases hx0 : x = 0
 · have ex : (x == 0) = true := by simpa using hx0
   have HY : Hid (X = (0, 0, false)) := by show _ = _; rw [HX.out, if_pos hx0]
   clear hx0 HX
   go_enter Try.func88, Try.ntmps88
   go_wp2_with fail
   refine wp_region_held_drew (S := (fun V => V.cell? ⟨g, 0, none⟩ = some (.int .i64 a))) (by kernel_rfl) ?_ (fun hHeld0 => ?_)
   · (refine mkS.out _ ?_; ((with_reducible (repeat (first | assumption | exact Ext.refl _ | apply Ext.alloc | apply Ext.drew | apply Ext.drewN))); done))
   refine wpAnyH_take (i := 0) (oi := ⟨some 8, .move (.tmp 0), 3, "move.go:57", #[], none⟩) (v := ?_) rfl (by kernel_rfl) (by kernel_rfl) (by kernel_rfl) (fun _ _ _ h => h) (Or.inl ⟨by rfl, ?_⟩) (by assumption) ?_
   rotate_left
   · intro w hSw; (try dsimp only at hSw); first | (go_simp; done) | (go_simp; with_reducible rfl)
   try simp only [Act.put, List.setIfInBounds_toArray, List.set_cons_zero, List.set_cons_succ]
   refine wpAnyH_take (i := 1) (oi := ⟨some 9, .load 3 (.tmp 2), 3, "move.go:57", #[], none⟩) (v := ?_) rfl (by kernel_rfl) (by kernel_rfl) (by kernel_rfl) (fun _ _ _ h => h) (Or.inl ⟨by rfl, ?_⟩) (by assumption) ?_
   rotate_left
   · intro w hSw; (try dsimp only at hSw); first | (go_simp; done) | (go_simp; with_reducible rfl)
   try simp only [Act.put, List.setIfInBounds_toArray, List.set_cons_zero, List.set_cons_succ]
   refine wpAnyH_take (i := 3) (oi := ⟨some 11, .move (.tmp 1), 3, "move.go:57", #[], none⟩) (v := ?_) rfl (by kernel_rfl) (by kernel_rfl) (by kernel_rfl) (fun _ _ _ h => h) (Or.inl ⟨by rfl, ?_⟩) (by assumption) ?_
   rotate_left
   · intro w hSw; (try dsimp only at hSw); first | (go_simp; done) | (go_simp; with_reducible rfl)
   try simp only [Act.put, List.setIfInBounds_toArray, List.set_cons_zero, List.set_cons_succ]
   refine wpAnyH_take (i := 4) (oi := ⟨some 12, .load 3 (.tmp 2), 3, "move.go:57", #[], none⟩) (v := ?_) rfl (by kernel_rfl) (by kernel_rfl) (by kernel_rfl) (fun _ _ _ h => h) (Or.inl ⟨by rfl, ?_⟩) (by assumption) ?_
   rotate_left
   · intro w hSw; (try dsimp only at hSw); first | (go_simp; done) | (go_simp; with_reducible rfl)
   try simp only [Act.put, List.setIfInBounds_toArray, List.set_cons_zero, List.set_cons_succ]
   refine wpAnyH_ready (rs := [2]) (by kernel_rfl) (by simp) ?_
   refine AllReadyH.cons (o := ⟨some 10, .call { callee := .value (.func 27), args := #[.tmp 8, .tmp 9], argTypes := #[3, 3] }, 3, "move.go:57", #[⟨0, .data⟩, ⟨1, .data⟩], none⟩) rfl (fun K hK => ?_) AllReadyH.nil
   go_simp
   (go_at_call 27; refine Calls.mono (c1 _) ?_; rintro e y1 ⟨rfl, E1⟩; have X1 : Ext W y1 := Ext.trans (by with_reducible repeat (first | assumption | exact Ext.refl _ | apply Ext.alloc | apply Ext.drew | apply Ext.drewN)) E1)
   try go_wp2_with fail
   refine hK.out _ _ ?_ (fun hHeld1 => ?_)
   · (try dsimp only); (refine mkS.out _ ?_; ((with_reducible (repeat (first | assumption | exact Ext.refl _ | apply Ext.alloc | apply Ext.drew | apply Ext.drewN))); done))
   clear hK K hHeld0
   try simp only [Act.put, List.setIfInBounds_toArray, List.set_cons_zero, List.set_cons_succ]
   refine wpAnyH_ready (rs := [5]) (by kernel_rfl) (by simp) ?_
   refine AllReadyH.cons (o := ⟨some 13, .call { callee := .value (.func 27), args := #[.tmp 11, .tmp 12], argTypes := #[3, 3] }, 3, "move.go:57", #[⟨3, .data⟩, ⟨4, .data⟩, ⟨2, .chain⟩], none⟩) rfl (fun K hK => ?_) AllReadyH.nil
   go_simp
   (go_at_call 27; refine Calls.mono (c2 _) ?_; rintro e y2 ⟨rfl, E2⟩; have X2 : Ext W y2 := Ext.trans (by with_reducible repeat (first | assumption | exact Ext.refl _ | apply Ext.alloc | apply Ext.drew | apply Ext.drewN)) E2)
   try go_wp2_with fail
   refine hK.out _ _ ?_ (fun hHeld2 => ?_)
   · (try dsimp only); (refine mkS.out _ ?_; ((with_reducible (repeat (first | assumption | exact Ext.refl _ | apply Ext.alloc | apply Ext.drew | apply Ext.drewN))); done))
   clear hK K hHeld1
   try simp only [Act.put, List.setIfInBounds_toArray, List.set_cons_zero, List.set_cons_succ]
   refine wpAnyH_take (i := 6) (oi := ⟨some 0, .assign (.tmp 10), 3, "move.go:57", #[⟨2, .data⟩, ⟨5, .chain⟩, ⟨0, .phase⟩, ⟨1, .phase⟩, ⟨2, .phase⟩, { on := 3, ground := Ground.textOnly Departure.lateStores }, { on := 4, ground := Ground.textOnly Departure.lateStores }, { on := 5, ground := Ground.textOnly Departure.lateStoresUnsure }], none⟩) (v := ?_) rfl (by kernel_rfl) (by kernel_rfl) (by kernel_rfl) (fun _ _ _ h => h) (Or.inl ⟨by rfl, ?_⟩) (by assumption) ?_
   rotate_left
   · intro w hSw; (try dsimp only at hSw); first | (go_simp; done) | (go_simp; with_reducible rfl)
   try simp only [Act.put, List.setIfInBounds_toArray, List.set_cons_zero]
   refine wpAnyH_take (i := 7) (oi := ⟨some 1, .assign (.tmp 13), 3, "move.go:57", #[⟨5, .data⟩, ⟨6, .chain⟩, ⟨0, .phase⟩, ⟨1, .phase⟩, ⟨2, .phase⟩, ⟨3, .phase⟩, ⟨4, .phase⟩, ⟨5, .phase⟩, ⟨6, .phase⟩], none⟩) (v := ?_) rfl (by kernel_rfl) (by kernel_rfl) (by kernel_rfl) (fun _ _ _ h => h) (Or.inl ⟨by rfl, ?_⟩) (by assumption) ?_
   rotate_left
   · intro w hSw; (try dsimp only at hSw); first | (go_simp; done) | (go_simp; with_reducible rfl)
   try simp only [Act.put, List.setIfInBounds_toArray, List.set_cons_zero, List.set_cons_succ]
   refine wpAnyH_done (by kernel_rfl) ?_ _
   go_wp2_with fail
   go_ret3
   exact ⟨ret_iib (by rw [HY.out]) (by rw [HY.out]) (by rw [HY.out]), X2⟩
 have ex : (x == 0) = false := by simpa using hx0
 by_cases hy0 : y = 0
 · have ey : (y == 0) = true := by simpa using hy0
   have HY : Hid (X = (x, 1000, true)) := by show _ = _; rw [HX.out, if_neg hx0, if_pos hy0]
   clear hx0 hy0 HX
   go_enter Try.func88, Try.ntmps88
   go_wp2_with fail
   refine wp_region_held_drew (S := (fun V => V.cell? ⟨g, 0, none⟩ = some (.int .i64 a))) (by kernel_rfl) ?_ (fun hHeld0 => ?_)
   · (refine mkS.out _ ?_; ((with_reducible (repeat (first | assumption | exact Ext.refl _ | apply Ext.alloc | apply Ext.drew | apply Ext.drewN))); done))
   refine wpAnyH_take (i := 0) (oi := ⟨some 8, .move (.tmp 0), 3, "move.go:57", #[], none⟩) (v := ?_) rfl (by kernel_rfl) (by kernel_rfl) (by kernel_rfl) (fun _ _ _ h => h) (Or.inl ⟨by rfl, ?_⟩) (by assumption) ?_
   rotate_left
   · intro w hSw; (try dsimp only at hSw); first | (go_simp; done) | (go_simp; with_reducible rfl)
   try simp only [Act.put, List.setIfInBounds_toArray, List.set_cons_zero, List.set_cons_succ]
   refine wpAnyH_take (i := 1) (oi := ⟨some 9, .load 3 (.tmp 2), 3, "move.go:57", #[], none⟩) (v := ?_) rfl (by kernel_rfl) (by kernel_rfl) (by kernel_rfl) (fun _ _ _ h => h) (Or.inl ⟨by rfl, ?_⟩) (by assumption) ?_
   rotate_left
   · intro w hSw; (try dsimp only at hSw); first | (go_simp; done) | (go_simp; with_reducible rfl)
   try simp only [Act.put, List.setIfInBounds_toArray, List.set_cons_zero, List.set_cons_succ]
   refine wpAnyH_take (i := 3) (oi := ⟨some 11, .move (.tmp 1), 3, "move.go:57", #[], none⟩) (v := ?_) rfl (by kernel_rfl) (by kernel_rfl) (by kernel_rfl) (fun _ _ _ h => h) (Or.inl ⟨by rfl, ?_⟩) (by assumption) ?_
   rotate_left
   · intro w hSw; (try dsimp only at hSw); first | (go_simp; done) | (go_simp; with_reducible rfl)
   try simp only [Act.put, List.setIfInBounds_toArray, List.set_cons_zero, List.set_cons_succ]
   refine wpAnyH_take (i := 4) (oi := ⟨some 12, .load 3 (.tmp 2), 3, "move.go:57", #[], none⟩) (v := ?_) rfl (by kernel_rfl) (by kernel_rfl) (by kernel_rfl) (fun _ _ _ h => h) (Or.inl ⟨by rfl, ?_⟩) (by assumption) ?_
   rotate_left
   · intro w hSw; (try dsimp only at hSw); first | (go_simp; done) | (go_simp; with_reducible rfl)
   try simp only [Act.put, List.setIfInBounds_toArray, List.set_cons_zero, List.set_cons_succ]
   refine wpAnyH_ready (rs := [2]) (by kernel_rfl) (by simp) ?_
   refine AllReadyH.cons (o := ⟨some 10, .call { callee := .value (.func 27), args := #[.tmp 8, .tmp 9], argTypes := #[3, 3] }, 3, "move.go:57", #[⟨0, .data⟩, ⟨1, .data⟩], none⟩) rfl (fun K hK => ?_) AllReadyH.nil
   go_simp
   (go_at_call 27; refine Calls.mono (c1 _) ?_; rintro e y1 ⟨rfl, E1⟩; have X1 : Ext W y1 := Ext.trans (by with_reducible repeat (first | assumption | exact Ext.refl _ | apply Ext.alloc | apply Ext.drew | apply Ext.drewN)) E1)
   try go_wp2_with fail
   refine hK.out _ _ ?_ (fun hHeld1 => ?_)
   · (try dsimp only); (refine mkS.out _ ?_; ((with_reducible (repeat (first | assumption | exact Ext.refl _ | apply Ext.alloc | apply Ext.drew | apply Ext.drewN))); done))
   clear hK K hHeld0
   try simp only [Act.put, List.setIfInBounds_toArray, List.set_cons_zero, List.set_cons_succ]
   refine wpAnyH_ready (rs := [5]) (by kernel_rfl) (by simp) ?_
   refine AllReadyH.cons (o := ⟨some 13, .call { callee := .value (.func 27), args := #[.tmp 11, .tmp 12], argTypes := #[3, 3] }, 3, "move.go:57", #[⟨3, .data⟩, ⟨4, .data⟩, ⟨2, .chain⟩], none⟩) rfl (fun K hK => ?_) AllReadyH.nil
   go_simp
   (go_at_call 27; refine Calls.mono (c2 _) ?_; rintro e y2 ⟨rfl, E2⟩; have X2 : Ext W y2 := Ext.trans (by with_reducible repeat (first | assumption | exact Ext.refl _ | apply Ext.alloc | apply Ext.drew | apply Ext.drewN)) E2)
   try go_wp2_with fail
   refine hK.out _ _ ?_ (fun hHeld2 => ?_)
   · (try dsimp only); (refine mkS.out _ ?_; ((with_reducible (repeat (first | assumption | exact Ext.refl _ | apply Ext.alloc | apply Ext.drew | apply Ext.drewN))); done))
   clear hK K hHeld1
   try simp only [Act.put, List.setIfInBounds_toArray, List.set_cons_zero, List.set_cons_succ]
   refine wpAnyH_take (i := 6) (oi := ⟨some 0, .assign (.tmp 10), 3, "move.go:57", #[⟨2, .data⟩, ⟨5, .chain⟩, ⟨0, .phase⟩, ⟨1, .phase⟩, ⟨2, .phase⟩, { on := 3, ground := Ground.textOnly Departure.lateStores }, { on := 4, ground := Ground.textOnly Departure.lateStores }, { on := 5, ground := Ground.textOnly Departure.lateStoresUnsure }], none⟩) (v := ?_) rfl (by kernel_rfl) (by kernel_rfl) (by kernel_rfl) (fun _ _ _ h => h) (Or.inl ⟨by rfl, ?_⟩) (by assumption) ?_
   rotate_left
   · intro w hSw; (try dsimp only at hSw); first | (go_simp; done) | (go_simp; with_reducible rfl)
   try simp only [Act.put, List.setIfInBounds_toArray, List.set_cons_zero]
   refine wpAnyH_take (i := 7) (oi := ⟨some 1, .assign (.tmp 13), 3, "move.go:57", #[⟨5, .data⟩, ⟨6, .chain⟩, ⟨0, .phase⟩, ⟨1, .phase⟩, ⟨2, .phase⟩, ⟨3, .phase⟩, ⟨4, .phase⟩, ⟨5, .phase⟩, ⟨6, .phase⟩], none⟩) (v := ?_) rfl (by kernel_rfl) (by kernel_rfl) (by kernel_rfl) (fun _ _ _ h => h) (Or.inl ⟨by rfl, ?_⟩) (by assumption) ?_
   rotate_left
   · intro w hSw; (try dsimp only at hSw); first | (go_simp; done) | (go_simp; with_reducible rfl)
   try simp only [Act.put, List.setIfInBounds_toArray, List.set_cons_zero, List.set_cons_succ]
   refine wpAnyH_done (by kernel_rfl) ?_ _
   go_wp2_with fail
   go_ret3
   exact ⟨ret_iib (by rw [HY.out]) (by rw [HY.out]) (by rw [HY.out]), X2⟩
 · have ey : (y == 0) = false := by simpa using hy0
   have HY : Hid (X = (x, y, true)) := by show _ = _; rw [HX.out, if_neg hx0, if_neg hy0]
   clear hx0 hy0 HX
   go_enter Try.func88, Try.ntmps88
   go_wp2_with fail
   refine wp_region_held_drew (S := (fun V => V.cell? ⟨g, 0, none⟩ = some (.int .i64 a))) (by kernel_rfl) ?_ (fun hHeld0 => ?_)
   · (refine mkS.out _ ?_; ((with_reducible (repeat (first | assumption | exact Ext.refl _ | apply Ext.alloc | apply Ext.drew | apply Ext.drewN))); done))
   refine wpAnyH_take (i := 0) (oi := ⟨some 8, .move (.tmp 0), 3, "move.go:57", #[], none⟩) (v := ?_) rfl (by kernel_rfl) (by kernel_rfl) (by kernel_rfl) (fun _ _ _ h => h) (Or.inl ⟨by rfl, ?_⟩) (by assumption) ?_
   rotate_left
   · intro w hSw; (try dsimp only at hSw); first | (go_simp; done) | (go_simp; with_reducible rfl)
   try simp only [Act.put, List.setIfInBounds_toArray, List.set_cons_zero, List.set_cons_succ]
   refine wpAnyH_take (i := 1) (oi := ⟨some 9, .load 3 (.tmp 2), 3, "move.go:57", #[], none⟩) (v := ?_) rfl (by kernel_rfl) (by kernel_rfl) (by kernel_rfl) (fun _ _ _ h => h) (Or.inl ⟨by rfl, ?_⟩) (by assumption) ?_
   rotate_left
   · intro w hSw; (try dsimp only at hSw); first | (go_simp; done) | (go_simp; with_reducible rfl)
   try simp only [Act.put, List.setIfInBounds_toArray, List.set_cons_zero, List.set_cons_succ]
   refine wpAnyH_take (i := 3) (oi := ⟨some 11, .move (.tmp 1), 3, "move.go:57", #[], none⟩) (v := ?_) rfl (by kernel_rfl) (by kernel_rfl) (by kernel_rfl) (fun _ _ _ h => h) (Or.inl ⟨by rfl, ?_⟩) (by assumption) ?_
   rotate_left
   · intro w hSw; (try dsimp only at hSw); first | (go_simp; done) | (go_simp; with_reducible rfl)
   try simp only [Act.put, List.setIfInBounds_toArray, List.set_cons_zero, List.set_cons_succ]
   refine wpAnyH_take (i := 4) (oi := ⟨some 12, .load 3 (.tmp 2), 3, "move.go:57", #[], none⟩) (v := ?_) rfl (by kernel_rfl) (by kernel_rfl) (by kernel_rfl) (fun _ _ _ h => h) (Or.inl ⟨by rfl, ?_⟩) (by assumption) ?_
   rotate_left
   · intro w hSw; (try dsimp only at hSw); first | (go_simp; done) | (go_simp; with_reducible rfl)
   try simp only [Act.put, List.setIfInBounds_toArray, List.set_cons_zero, List.set_cons_succ]
   refine wpAnyH_ready (rs := [2]) (by kernel_rfl) (by simp) ?_
   refine AllReadyH.cons (o := ⟨some 10, .call { callee := .value (.func 27), args := #[.tmp 8, .tmp 9], argTypes := #[3, 3] }, 3, "move.go:57", #[⟨0, .data⟩, ⟨1, .data⟩], none⟩) rfl (fun K hK => ?_) AllReadyH.nil
   go_simp
   (go_at_call 27; refine Calls.mono (c1 _) ?_; rintro e y1 ⟨rfl, E1⟩; have X1 : Ext W y1 := Ext.trans (by with_reducible repeat (first | assumption | exact Ext.refl _ | apply Ext.alloc | apply Ext.drew | apply Ext.drewN)) E1)
   try go_wp2_with fail
   refine hK.out _ _ ?_ (fun hHeld1 => ?_)
   · (try dsimp only); (refine mkS.out _ ?_; ((with_reducible (repeat (first | assumption | exact Ext.refl _ | apply Ext.alloc | apply Ext.drew | apply Ext.drewN))); done))
   clear hK K hHeld0
   try simp only [Act.put, List.setIfInBounds_toArray, List.set_cons_zero, List.set_cons_succ]
   refine wpAnyH_ready (rs := [5]) (by kernel_rfl) (by simp) ?_
   refine AllReadyH.cons (o := ⟨some 13, .call { callee := .value (.func 27), args := #[.tmp 11, .tmp 12], argTypes := #[3, 3] }, 3, "move.go:57", #[⟨3, .data⟩, ⟨4, .data⟩, ⟨2, .chain⟩], none⟩) rfl (fun K hK => ?_) AllReadyH.nil
   go_simp
   (go_at_call 27; refine Calls.mono (c2 _) ?_; rintro e y2 ⟨rfl, E2⟩; have X2 : Ext W y2 := Ext.trans (by with_reducible repeat (first | assumption | exact Ext.refl _ | apply Ext.alloc | apply Ext.drew | apply Ext.drewN)) E2)
   try go_wp2_with fail
   refine hK.out _ _ ?_ (fun hHeld2 => ?_)
   · (try dsimp only); (refine mkS.out _ ?_; ((with_reducible (repeat (first | assumption | exact Ext.refl _ | apply Ext.alloc | apply Ext.drew | apply Ext.drewN))); done))
   clear hK K hHeld1
   try simp only [Act.put, List.setIfInBounds_toArray, List.set_cons_zero, List.set_cons_succ]
   refine wpAnyH_take (i := 6) (oi := ⟨some 0, .assign (.tmp 10), 3, "move.go:57", #[⟨2, .data⟩, ⟨5, .chain⟩, ⟨0, .phase⟩, ⟨1, .phase⟩, ⟨2, .phase⟩, { on := 3, ground := Ground.textOnly Departure.lateStores }, { on := 4, ground := Ground.textOnly Departure.lateStores }, { on := 5, ground := Ground.textOnly Departure.lateStoresUnsure }], none⟩) (v := ?_) rfl (by kernel_rfl) (by kernel_rfl) (by kernel_rfl) (fun _ _ _ h => h) (Or.inl ⟨by rfl, ?_⟩) (by assumption) ?_
   rotate_left
   · intro w hSw; (try dsimp only at hSw); first | (go_simp; done) | (go_simp; with_reducible rfl)
   try simp only [Act.put, List.setIfInBounds_toArray, List.set_cons_zero]
   refine wpAnyH_take (i := 7) (oi := ⟨some 1, .assign (.tmp 13), 3, "move.go:57", #[⟨5, .data⟩, ⟨6, .chain⟩, ⟨0, .phase⟩, ⟨1, .phase⟩, ⟨2, .phase⟩, ⟨3, .phase⟩, ⟨4, .phase⟩, ⟨5, .phase⟩, ⟨6, .phase⟩], none⟩) (v := ?_) rfl (by kernel_rfl) (by kernel_rfl) (by kernel_rfl) (fun _ _ _ h => h) (Or.inl ⟨by rfl, ?_⟩) (by assumption) ?_
   rotate_left
   · intro w hSw; (try dsimp only at hSw); first | (go_simp; done) | (go_simp; with_reducible rfl)
   try simp only [Act.put, List.setIfInBounds_toArray, List.set_cons_zero, List.set_cons_succ]
   refine wpAnyH_done (by kernel_rfl) ?_ _
   go_wp2_with fail
   go_ret3
   exact ⟨ret_iib (by rw [HY.out]) (by rw [HY.out]) (by rw [HY.out]), X2⟩
set_option maxRecDepth 100000 in
theorem going2_any (lo hi a : Int) (h1 : 1 ≤ lo) (h3 : lo ≤ hi) (h2 : hi ≤ 1000) (g : Nat) (W : World) (h : W.cell? ⟨g, 0, none⟩ = some (.int .i64 a)) : Calls Try.prog 90 #[.int .i64 lo, .int .i64 hi, .pointer (some ⟨g, 0, none⟩)] W fun e w' => e = .returned (.tuple #[.int .i64 (deV a lo hi).1, .int .i64 (deV a lo hi).2.1, .bool (deV a lo hi).2.2]) ∧ Ext W w' := by
 by_cases hl : lo = a
 · have el : (lo == a) = true := by simpa using hl
   have nl : ¬ a < lo := by omega
   have gl : ¬ lo > a := nl
   have hh : a ≤ hi := by omega
   by_cases hb : hi = a
   · have eb : (hi == a) = true := by simpa using hb
     have HY : Hid (deV a lo hi = (0, 0, false)) := by show _ = _; unfold deV; rw [if_pos ⟨hl, hb⟩]
     clear hl hb
     obtain ⟨X, hX⟩ : ∃ X, deV a lo hi = X := ⟨_, rfl⟩
     rw [hX] at HY ⊢
     clear hX
     go_enter Try.func90, Try.ntmps90
     go_wp2_with fail
     go_ret3
     exact ⟨ret_iib (by rw [HY.out]) (by rw [HY.out]) (by rw [HY.out]), Ext.refl _⟩
   · have eb : (hi == a) = false := by simpa using hb
     have HY : Hid (deV a lo hi = (lo, hi - 1, true)) := by show _ = _; unfold deV; rw [if_neg (by omega), if_neg nl, if_pos hh]
     clear hl hb
     obtain ⟨X, hX⟩ : ∃ X, deV a lo hi = X := ⟨_, rfl⟩
     rw [hX] at HY ⊢
     clear hX
     go_enter Try.func90, Try.ntmps90
     go_wp2_with fail
     go_ret3
     exact ⟨ret_iib (by rw [HY.out]) (by rw [HY.out]) (by rw [HY.out]), Ext.refl _⟩
 have el : (lo == a) = false := by simpa using hl
 by_cases hg : a < lo
 · have hh : a ≤ hi := by omega
   have HY : Hid (deV a lo hi = (lo - 1, hi - 1, true)) := by show _ = _; unfold deV; rw [if_neg (by omega), if_pos hg, if_pos hh]
   clear hl
   obtain ⟨X, hX⟩ : ∃ X, deV a lo hi = X := ⟨_, rfl⟩
   rw [hX] at HY ⊢
   clear hX
   go_enter Try.func90, Try.ntmps90
   go_wp2_with fail
   go_ret3
   exact ⟨ret_iib (by rw [HY.out]) (by rw [HY.out]) (by rw [HY.out]), Ext.refl _⟩
 by_cases hh : a ≤ hi
 · have HY : Hid (deV a lo hi = (lo, hi - 1, true)) := by show _ = _; unfold deV; rw [if_neg (by omega), if_neg hg, if_pos hh]
   clear hl
   obtain ⟨X, hX⟩ : ∃ X, deV a lo hi = X := ⟨_, rfl⟩
   rw [hX] at HY ⊢
   clear hX
   go_enter Try.func90, Try.ntmps90
   go_wp2_with fail
   go_ret3
   exact ⟨ret_iib (by rw [HY.out]) (by rw [HY.out]) (by rw [HY.out]), Ext.refl _⟩
 · have HY : Hid (deV a lo hi = (lo, hi, true)) := by show _ = _; unfold deV; rw [if_neg (by omega), if_neg hg, if_neg hh]
   clear hl
   obtain ⟨X, hX⟩ : ∃ X, deV a lo hi = X := ⟨_, rfl⟩
   rw [hX] at HY ⊢
   clear hX
   go_enter Try.func90, Try.ntmps90
   go_wp2_with fail
   go_ret3
   exact ⟨ret_iib (by rw [HY.out]) (by rw [HY.out]) (by rw [HY.out]), Ext.refl _⟩
set_option maxRecDepth 100000 in
theorem coming_any (a : Int) (W : World) : Calls Try.prog 58 #[.int .i64 a] W fun e w' => ∃ v1 v2, e = .returned (.agg #[v1, v2]) ∧ RwC w' v1 v2 (inR a) (inV a) ∧ Ext W w' := by
 go_enter Try.func58, Try.ntmps58
 go_wp2_with fail
 refine bodyPost_ret (v := .agg #[.func (.func 87) #[] #[.pointer (some ⟨W.heap.size, 0, none⟩)], .func (.func 88) #[] #[.pointer (some ⟨W.heap.size, 0, none⟩)]]) (by simp [results, Try.results58, go_sem]) rfl ⟨_, _, rfl, ?_, ?_⟩
 · refine RwC.ext (w := W.alloc (.cells #[.int .i64 a] 3)) ?_ (by ((with_reducible (repeat' (first | assumption | exact Ext.refl _ | apply Ext.alloc | apply Ext.drew | apply Ext.drewN | apply Ext.setCell))); all_goals (first | omega | (simp; done) | (simp; omega))))
   have hz : W.heap.size < (W.alloc (.cells #[.int .i64 a] 3)).heap.size := by simp
   have hc : (W.alloc (.cells #[.int .i64 a] 3)).cell? ⟨W.heap.size, 0, none⟩ = some (.int .i64 a) := by simp [go_sem]
   exact ⟨⟨87, _, rfl, enters_of Try.func87 (by kernel_rfl) rfl, fun V row e _ _ => coming1_any row a W.heap.size V (by rw [e.cell.1 _ _ hz]; exact hc)⟩, 88, _, rfl, enters_of Try.func88 (by kernel_rfl) rfl, fun V lo hi e h1 h2 h3 => coming2_any lo hi a W.heap.size V (Nat.lt_of_lt_of_le hz e.sz) (by rw [e.cell.1 _ _ hz]; exact hc)⟩
 · ((with_reducible (repeat' (first | assumption | exact Ext.refl _ | apply Ext.alloc | apply Ext.drew | apply Ext.drewN | apply Ext.setCell))); all_goals (first | omega | (simp; done) | (simp; omega)))
set_option maxRecDepth 100000 in
theorem going_any (a : Int) (W : World) : Calls Try.prog 59 #[.int .i64 a] W fun e w' => ∃ v1 v2, e = .returned (.agg #[v1, v2]) ∧ RwC w' v1 v2 (deR a) (deV a) ∧ Ext W w' := by
 go_enter Try.func59, Try.ntmps59
 go_wp2_with fail
 refine bodyPost_ret (v := .agg #[.func (.func 89) #[] #[.pointer (some ⟨W.heap.size, 0, none⟩)], .func (.func 90) #[] #[.pointer (some ⟨W.heap.size, 0, none⟩)]]) (by simp [results, Try.results59, go_sem]) rfl ⟨_, _, rfl, ?_, ?_⟩
 · refine RwC.ext (w := W.alloc (.cells #[.int .i64 a] 3)) ?_ (by ((with_reducible (repeat' (first | assumption | exact Ext.refl _ | apply Ext.alloc | apply Ext.drew | apply Ext.drewN | apply Ext.setCell))); all_goals (first | omega | (simp; done) | (simp; omega))))
   have hz : W.heap.size < (W.alloc (.cells #[.int .i64 a] 3)).heap.size := by simp
   have hc : (W.alloc (.cells #[.int .i64 a] 3)).cell? ⟨W.heap.size, 0, none⟩ = some (.int .i64 a) := by simp [go_sem]
   exact ⟨⟨89, _, rfl, enters_of Try.func89 (by kernel_rfl) rfl, fun V row e _ _ => going1_any row a W.heap.size V (by rw [e.cell.1 _ _ hz]; exact hc)⟩, 90, _, rfl, enters_of Try.func90 (by kernel_rfl) rfl, fun V lo hi e h1 h2 h3 => going2_any lo hi a h1 h2 h3 W.heap.size V (by rw [e.cell.1 _ _ hz]; exact hc)⟩
 · ((with_reducible (repeat' (first | assumption | exact Ext.refl _ | apply Ext.alloc | apply Ext.drew | apply Ext.drewN | apply Ext.setCell))); all_goals (first | omega | (simp; done) | (simp; omega)))

open Go.RowKit
set_option maxHeartbeats 6000000

/-- A tree whose list is the one that was handed in, or none. -/
def LfQ (W : World) (t u : T) (pp : Option Addr) (ln cl : Nat) (e : Ending) (w' : World) : Prop := ∃ p l c, e = .returned (aggX u (.slice p l c)) ∧ Ext W w' ∧ ((p = pp ∧ l = ln ∧ c = cl ∧ u.l = t.l) ∨ (l = 0 ∧ u.l = []))
set_option maxRecDepth 100000 in
theorem reference_any (t : T) (o : Int → Int) (b : Int → Int → Int × Int × Bool) (v1 v2 : Value) (W : World) (pp : Option Addr) (ln cl : Nat) (hR : RwC W v1 v2 o b) (h1 : 1 ≤ t.r.1) (h2 : t.r.1 ≤ 1000) : Calls Try.prog 104 #[.agg #[v1, v2], .agg #[.int .i64 t.k, .int .i64 t.n, .string (bs t.s), .int .i64 t.e, .int .i64 t.r.1, .int .i64 t.r.2.1, .bool t.r.2.2.1, .bool t.r.2.2.2, .int .i64 t.q.1, .int .i64 t.q.2.1, .bool t.q.2.2.1, .bool t.q.2.2.2, .slice pp ln cl]] W (LfQ W t (chR o t) pp ln cl) := by
 have HX0 : Hid (chR o t = if o t.r.1 = 0 then tErr 1 else t.wR (o t.r.1, t.r.2)) := rfl
 obtain ⟨⟨K, cs, rfl, hent, hK⟩, _⟩ := hR
 have HK : Hid (∀ V, Ext W V → Calls Try.prog K (#[.int .i64 t.r.1] ++ cs) V fun e w' => e = .returned (.int .i64 (o t.r.1)) ∧ Ext V w') := fun V e => hK V t.r.1 e h1 h2
 obtain ⟨x, hx⟩ : ∃ x, o t.r.1 = x := ⟨_, rfl⟩
 rw [hx] at HX0 HK
 obtain ⟨u, hu⟩ : ∃ u, chR o t = u := ⟨_, rfl⟩
 rw [hu] at HX0 ⊢
 clear hK h1 h2 hx hu
 go_enter Try.func104, Try.ntmps104
 go_wp2_with fail
 have HB : Hid (Blk2 (((W.alloc (.cells #[(.func (.func K) #[] cs), v2] 72)).alloc (.cells #[.int .i64 t.k, .int .i64 t.n, .string (bs t.s), .int .i64 t.e, .int .i64 t.r.1, .int .i64 t.r.2.1, .bool t.r.2.2.1, .bool t.r.2.2.2, .int .i64 t.q.1, .int .i64 t.q.2.1, .bool t.q.2.2.1, .bool t.q.2.2.2, .slice pp ln cl] 26)).alloc (.cells #[.int .i64 0, .int .i64 0, .string ⟨#[]⟩, .int .i64 0, .int .i64 0, .int .i64 0, .bool false, .bool false, .int .i64 0, .int .i64 0, .bool false, .bool false, .slice none 0 0] 26)) W.heap.size (.func (.func K) #[] cs) v2 ∧ BlkX (((W.alloc (.cells #[(.func (.func K) #[] cs), v2] 72)).alloc (.cells #[.int .i64 t.k, .int .i64 t.n, .string (bs t.s), .int .i64 t.e, .int .i64 t.r.1, .int .i64 t.r.2.1, .bool t.r.2.2.1, .bool t.r.2.2.2, .int .i64 t.q.1, .int .i64 t.q.2.1, .bool t.q.2.2.1, .bool t.q.2.2.2, .slice pp ln cl] 26)).alloc (.cells #[.int .i64 0, .int .i64 0, .string ⟨#[]⟩, .int .i64 0, .int .i64 0, .int .i64 0, .bool false, .bool false, .int .i64 0, .int .i64 0, .bool false, .bool false, .slice none 0 0] 26)) (W.heap.size + 1) t (.slice pp ln cl) ∧ BlkX (((W.alloc (.cells #[(.func (.func K) #[] cs), v2] 72)).alloc (.cells #[.int .i64 t.k, .int .i64 t.n, .string (bs t.s), .int .i64 t.e, .int .i64 t.r.1, .int .i64 t.r.2.1, .bool t.r.2.2.1, .bool t.r.2.2.2, .int .i64 t.q.1, .int .i64 t.q.2.1, .bool t.q.2.2.1, .bool t.q.2.2.2, .slice pp ln cl] 26)).alloc (.cells #[.int .i64 0, .int .i64 0, .string ⟨#[]⟩, .int .i64 0, .int .i64 0, .int .i64 0, .bool false, .bool false, .int .i64 0, .int .i64 0, .bool false, .bool false, .slice none 0 0] 26)) (W.heap.size + 1 + 1) tz (.slice none 0 0) ∧ Ext W (((W.alloc (.cells #[(.func (.func K) #[] cs), v2] 72)).alloc (.cells #[.int .i64 t.k, .int .i64 t.n, .string (bs t.s), .int .i64 t.e, .int .i64 t.r.1, .int .i64 t.r.2.1, .bool t.r.2.2.1, .bool t.r.2.2.2, .int .i64 t.q.1, .int .i64 t.q.2.1, .bool t.q.2.2.1, .bool t.q.2.2.2, .slice pp ln cl] 26)).alloc (.cells #[.int .i64 0, .int .i64 0, .string ⟨#[]⟩, .int .i64 0, .int .i64 0, .int .i64 0, .bool false, .bool false, .int .i64 0, .int .i64 0, .bool false, .bool false, .slice none 0 0] 26))) := ⟨blk2_top rfl (((Ext.refl _).alloc _).alloc _), blk13_top (by simp) ((Ext.refl _).alloc _), BlkX.top (by simp) (Ext.refl _), (((Ext.refl _).alloc _).alloc _).alloc _⟩
 generalize (((W.alloc (.cells #[(.func (.func K) #[] cs), v2] 72)).alloc (.cells #[.int .i64 t.k, .int .i64 t.n, .string (bs t.s), .int .i64 t.e, .int .i64 t.r.1, .int .i64 t.r.2.1, .bool t.r.2.2.1, .bool t.r.2.2.2, .int .i64 t.q.1, .int .i64 t.q.2.1, .bool t.q.2.2.1, .bool t.q.2.2.2, .slice pp ln cl] 26)).alloc (.cells #[.int .i64 0, .int .i64 0, .string ⟨#[]⟩, .int .i64 0, .int .i64 0, .int .i64 0, .bool false, .bool false, .int .i64 0, .int .i64 0, .bool false, .bool false, .slice none 0 0] 26)) = w0 at *
 refine (HK.out _ HB.out.2.2.2).mono ?_
 rintro e w1 ⟨rfl, E1⟩
 replace HB : Hid (Blk2 w1 W.heap.size (.func (.func K) #[] cs) v2 ∧ BlkX w1 (W.heap.size + 1) t (.slice pp ln cl) ∧ BlkX w1 (W.heap.size + 1 + 1) tz (.slice none 0 0) ∧ Ext W w1) := ⟨HB.out.1.ext E1, HB.out.2.1.ext E1, HB.out.2.2.1.ext E1, HB.out.2.2.2.trans E1⟩
 clear E1 HK
 obtain ⟨qn, ⟨n0, n1⟩, m0, m1⟩ := HB.out.1
 obtain ⟨qa, ⟨la0, la1, la2, la3, la4, la5, la6, la7, la8, la9, la10, la11, la12⟩, ga0, ga1, ga2, ga3, ga4, ga5, ga6, ga7, ga8, ga9, ga10, ga11, ga12⟩ := HB.out.2.1
 obtain ⟨qc, ⟨lc0, lc1, lc2, lc3, lc4, lc5, lc6, lc7, lc8, lc9, lc10, lc11, lc12⟩, gc0, gc1, gc2, gc3, gc4, gc5, gc6, gc7, gc8, gc9, gc10, gc11, gc12⟩ := HB.out.2.2.1
 have hz : W.heap.size + 1 + 1 < w1.heap.size := qc
 by_cases h0 : x = 0
 · have HX : Hid (u = tErr 1) := by show _ = _; rw [HX0.out, if_pos h0]
   have e0 : (x == 0) = true := by simpa using h0
   clear h0 HX0
   go_wp2_with fail
   refine (lost_any _).mono ?_
   rintro e w5 ⟨rfl, E5⟩
   have B5 : BlkX w5 (W.heap.size + 1 + 1) tz (.slice none 0 0) := (Blk13.far1 HB.out.2.2.1 (by omega) 4 _).ext E5
   have X5 : Ext W w5 := Ext.trans (HB.out.2.2.2.setCell (p := ⟨W.heap.size + 1, 4, none⟩) (by show W.heap.size ≤ W.heap.size + 1; omega) _) E5
   clear E5 qn n0 n1 m0 m1 qa la0 la1 la2 la3 la4 la5 la6 la7 la8 la9 la10 la11 la12 ga0 ga1 ga2 ga3 ga4 ga5 ga6 ga7 ga8 ga9 ga10 ga11 ga12 qc lc0 lc1 lc2 lc3 lc4 lc5 lc6 lc7 lc8 lc9 lc10 lc11 lc12 gc0 gc1 gc2 gc3 gc4 gc5 gc6 gc7 gc8 gc9 gc10 gc11 gc12
   obtain ⟨qc, ⟨lc0, lc1, lc2, lc3, lc4, lc5, lc6, lc7, lc8, lc9, lc10, lc11, lc12⟩, gc0, gc1, gc2, gc3, gc4, gc5, gc6, gc7, gc8, gc9, gc10, gc11, gc12⟩ := id B5
   unfold aggX
   go_wp2_with fail
   show bodyPost Try.prog _ _ _ _ (putX w5 (W.heap.size + 1 + 1) (tErr 1) (.slice none 0 0))
   rw [HX.out]
   exact endR (B5.put (tErr 1) (.slice none 0 0)) rfl ⟨none, 0, 0, rfl, putX_E X5 (by omega) _ _, .inr ⟨rfl, rfl⟩⟩ (fun h0 h1 h2 h3 h4 h5 h6 h7 h8 h9 h10 h11 h12 => by simp [results, Try.results104, go_sem, h0, h1, h2, h3, h4, h5, h6, h7, h8, h9, h10, h11, h12, aggX])
 · have HX : Hid (u = t.wR (x, t.r.2)) := by show _ = _; rw [HX0.out, if_neg h0]
   have e0 : (x == 0) = false := by simpa using h0
   clear h0 HX0
   go_wp2_with fail
   show bodyPost Try.prog _ _ _ _ (putX (w1.setCell ⟨W.heap.size + 1, 4, none⟩ (.int .i64 x)) (W.heap.size + 1 + 1) (t.wR (x, t.r.2)) (.slice pp ln cl))
   have E9 : Ext W (w1.setCell ⟨W.heap.size + 1, 4, none⟩ (.int .i64 x)) := HB.out.2.2.2.setCell (p := ⟨W.heap.size + 1, 4, none⟩) (by show W.heap.size ≤ W.heap.size + 1; omega) _
   have B9 : BlkX (w1.setCell ⟨W.heap.size + 1, 4, none⟩ (.int .i64 x)) (W.heap.size + 1 + 1) tz (.slice none 0 0) := Blk13.far1 HB.out.2.2.1 (by omega) 4 _
   generalize w1.setCell ⟨W.heap.size + 1, 4, none⟩ (.int .i64 x) = w9 at *
   rw [HX.out]
   exact endR (B9.put (t.wR (x, t.r.2)) (.slice pp ln cl)) rfl ⟨pp, ln, cl, rfl, putX_E E9 (by omega) _ _, .inl ⟨rfl, rfl, rfl, rfl⟩⟩ (fun h0 h1 h2 h3 h4 h5 h6 h7 h8 h9 h10 h11 h12 => by simp [results, Try.results104, go_sem, h0, h1, h2, h3, h4, h5, h6, h7, h8, h9, h10, h11, h12, aggX])
set_option maxRecDepth 100000 in
theorem area_any (t : T) (o : Int → Int) (b : Int → Int → Int × Int × Bool) (v1 v2 : Value) (W : World) (pp : Option Addr) (ln cl : Nat) (hR : RwC W v1 v2 o b) (h1 : 1 ≤ t.r.1) (h2 : t.r.1 ≤ 1000) (h3 : 1 ≤ t.q.1) (h4 : t.q.1 ≤ 1000) : Calls Try.prog 106 #[.agg #[v1, v2], .agg #[.int .i64 t.k, .int .i64 t.n, .string (bs t.s), .int .i64 t.e, .int .i64 t.r.1, .int .i64 t.r.2.1, .bool t.r.2.2.1, .bool t.r.2.2.2, .int .i64 t.q.1, .int .i64 t.q.2.1, .bool t.q.2.2.1, .bool t.q.2.2.2, .slice pp ln cl]] W (LfQ W t (chA b t) pp ln cl) := by
 obtain ⟨_, K, cs, rfl, hent, hK⟩ := hR
 obtain ⟨u, hu⟩ : ∃ u, chA b t = u := ⟨_, rfl⟩
 rw [hu]
 by_cases hle : t.r.1 ≤ t.q.1
 · have HK : Hid (∀ V, Ext W V → Calls Try.prog K (#[.int .i64 t.r.1, .int .i64 t.q.1] ++ cs) V fun e w' => e = .returned (.tuple #[.int .i64 (b t.r.1 t.q.1).1, .int .i64 (b t.r.1 t.q.1).2.1, .bool (b t.r.1 t.q.1).2.2]) ∧ Ext V w') := fun V e => hK V t.r.1 t.q.1 e (by omega) (by omega) (by omega)
   have HX0 : Hid (u = if (b t.r.1 t.q.1).2.2 then t.wRQ ((b t.r.1 t.q.1).1, t.r.2) ((b t.r.1 t.q.1).2.1, t.q.2) else tErr 1) := by show _ = _; rw [← hu, chA, if_pos hle]
   obtain ⟨X, hX⟩ : ∃ X, b t.r.1 t.q.1 = X := ⟨_, rfl⟩
   rw [hX] at HX0 HK
   obtain ⟨xo, hxo⟩ : ∃ xo, X.2.2 = xo := ⟨_, rfl⟩
   rw [hxo] at HX0 HK
   clear hK h1 h2 h3 h4 hu hX hxo
   go_enter Try.func106, Try.ntmps106
   go_wp2_with fail
   have HB : Hid (Blk2 (((W.alloc (.cells #[v1, (.func (.func K) #[] cs)] 72)).alloc (.cells #[.int .i64 t.k, .int .i64 t.n, .string (bs t.s), .int .i64 t.e, .int .i64 t.r.1, .int .i64 t.r.2.1, .bool t.r.2.2.1, .bool t.r.2.2.2, .int .i64 t.q.1, .int .i64 t.q.2.1, .bool t.q.2.2.1, .bool t.q.2.2.2, .slice pp ln cl] 26)).alloc (.cells #[.int .i64 0, .int .i64 0, .string ⟨#[]⟩, .int .i64 0, .int .i64 0, .int .i64 0, .bool false, .bool false, .int .i64 0, .int .i64 0, .bool false, .bool false, .slice none 0 0] 26)) W.heap.size v1 (.func (.func K) #[] cs) ∧ BlkX (((W.alloc (.cells #[v1, (.func (.func K) #[] cs)] 72)).alloc (.cells #[.int .i64 t.k, .int .i64 t.n, .string (bs t.s), .int .i64 t.e, .int .i64 t.r.1, .int .i64 t.r.2.1, .bool t.r.2.2.1, .bool t.r.2.2.2, .int .i64 t.q.1, .int .i64 t.q.2.1, .bool t.q.2.2.1, .bool t.q.2.2.2, .slice pp ln cl] 26)).alloc (.cells #[.int .i64 0, .int .i64 0, .string ⟨#[]⟩, .int .i64 0, .int .i64 0, .int .i64 0, .bool false, .bool false, .int .i64 0, .int .i64 0, .bool false, .bool false, .slice none 0 0] 26)) (W.heap.size + 1) t (.slice pp ln cl) ∧ BlkX (((W.alloc (.cells #[v1, (.func (.func K) #[] cs)] 72)).alloc (.cells #[.int .i64 t.k, .int .i64 t.n, .string (bs t.s), .int .i64 t.e, .int .i64 t.r.1, .int .i64 t.r.2.1, .bool t.r.2.2.1, .bool t.r.2.2.2, .int .i64 t.q.1, .int .i64 t.q.2.1, .bool t.q.2.2.1, .bool t.q.2.2.2, .slice pp ln cl] 26)).alloc (.cells #[.int .i64 0, .int .i64 0, .string ⟨#[]⟩, .int .i64 0, .int .i64 0, .int .i64 0, .bool false, .bool false, .int .i64 0, .int .i64 0, .bool false, .bool false, .slice none 0 0] 26)) (W.heap.size + 1 + 1) tz (.slice none 0 0) ∧ Ext W (((W.alloc (.cells #[v1, (.func (.func K) #[] cs)] 72)).alloc (.cells #[.int .i64 t.k, .int .i64 t.n, .string (bs t.s), .int .i64 t.e, .int .i64 t.r.1, .int .i64 t.r.2.1, .bool t.r.2.2.1, .bool t.r.2.2.2, .int .i64 t.q.1, .int .i64 t.q.2.1, .bool t.q.2.2.1, .bool t.q.2.2.2, .slice pp ln cl] 26)).alloc (.cells #[.int .i64 0, .int .i64 0, .string ⟨#[]⟩, .int .i64 0, .int .i64 0, .int .i64 0, .bool false, .bool false, .int .i64 0, .int .i64 0, .bool false, .bool false, .slice none 0 0] 26))) := ⟨blk2_top rfl (((Ext.refl _).alloc _).alloc _), blk13_top (by simp) ((Ext.refl _).alloc _), BlkX.top (by simp) (Ext.refl _), (((Ext.refl _).alloc _).alloc _).alloc _⟩
   generalize (((W.alloc (.cells #[v1, (.func (.func K) #[] cs)] 72)).alloc (.cells #[.int .i64 t.k, .int .i64 t.n, .string (bs t.s), .int .i64 t.e, .int .i64 t.r.1, .int .i64 t.r.2.1, .bool t.r.2.2.1, .bool t.r.2.2.2, .int .i64 t.q.1, .int .i64 t.q.2.1, .bool t.q.2.2.1, .bool t.q.2.2.2, .slice pp ln cl] 26)).alloc (.cells #[.int .i64 0, .int .i64 0, .string ⟨#[]⟩, .int .i64 0, .int .i64 0, .int .i64 0, .bool false, .bool false, .int .i64 0, .int .i64 0, .bool false, .bool false, .slice none 0 0] 26)) = w0 at *
   refine (HK.out _ HB.out.2.2.2).mono ?_
   rintro e w1 ⟨rfl, E1⟩
   replace HB : Hid (Blk2 w1 W.heap.size v1 (.func (.func K) #[] cs) ∧ BlkX w1 (W.heap.size + 1) t (.slice pp ln cl) ∧ BlkX w1 (W.heap.size + 1 + 1) tz (.slice none 0 0) ∧ Ext W w1) := ⟨HB.out.1.ext E1, HB.out.2.1.ext E1, HB.out.2.2.1.ext E1, HB.out.2.2.2.trans E1⟩
   clear E1 HK
   obtain ⟨qn, ⟨n0, n1⟩, m0, m1⟩ := HB.out.1
   obtain ⟨qa, ⟨la0, la1, la2, la3, la4, la5, la6, la7, la8, la9, la10, la11, la12⟩, ga0, ga1, ga2, ga3, ga4, ga5, ga6, ga7, ga8, ga9, ga10, ga11, ga12⟩ := HB.out.2.1
   obtain ⟨qc, ⟨lc0, lc1, lc2, lc3, lc4, lc5, lc6, lc7, lc8, lc9, lc10, lc11, lc12⟩, gc0, gc1, gc2, gc3, gc4, gc5, gc6, gc7, gc8, gc9, gc10, gc11, gc12⟩ := HB.out.2.2.1
   have hz : W.heap.size + 1 + 1 < w1.heap.size := qc
   cases xo
   · have HX : Hid (u = tErr 1) := by show _ = _; rw [HX0.out]; rfl
     clear HX0
     go_wp2_with fail
     refine (lost_any _).mono ?_
     rintro e w5 ⟨rfl, E5⟩
     have B5 : BlkX w5 (W.heap.size + 1 + 1) tz (.slice none 0 0) := (Blk13.far1 (Blk13.far1 HB.out.2.2.1 (by omega) 4 _) (by omega) 8 _).ext E5
     have X5 : Ext W w5 := Ext.trans ((HB.out.2.2.2.setCell (p := ⟨W.heap.size + 1, 4, none⟩) (by show W.heap.size ≤ W.heap.size + 1; omega) _).setCell (p := ⟨W.heap.size + 1, 8, none⟩) (by show W.heap.size ≤ W.heap.size + 1; omega) _) E5
     clear E5 qn n0 n1 m0 m1 qa la0 la1 la2 la3 la4 la5 la6 la7 la8 la9 la10 la11 la12 ga0 ga1 ga2 ga3 ga4 ga5 ga6 ga7 ga8 ga9 ga10 ga11 ga12 qc lc0 lc1 lc2 lc3 lc4 lc5 lc6 lc7 lc8 lc9 lc10 lc11 lc12 gc0 gc1 gc2 gc3 gc4 gc5 gc6 gc7 gc8 gc9 gc10 gc11 gc12
     obtain ⟨qc, ⟨lc0, lc1, lc2, lc3, lc4, lc5, lc6, lc7, lc8, lc9, lc10, lc11, lc12⟩, gc0, gc1, gc2, gc3, gc4, gc5, gc6, gc7, gc8, gc9, gc10, gc11, gc12⟩ := id B5
     unfold aggX
     go_wp2_with fail
     show bodyPost Try.prog _ _ _ _ (putX w5 (W.heap.size + 1 + 1) (tErr 1) (.slice none 0 0))
     rw [HX.out]
     exact endR (B5.put (tErr 1) (.slice none 0 0)) rfl ⟨none, 0, 0, rfl, putX_E X5 (by omega) _ _, .inr ⟨rfl, rfl⟩⟩ (fun h0 h1 h2 h3 h4 h5 h6 h7 h8 h9 h10 h11 h12 => by simp [results, Try.results106, go_sem, h0, h1, h2, h3, h4, h5, h6, h7, h8, h9, h10, h11, h12, aggX])
   · have HX : Hid (u = t.wRQ (X.1, t.r.2) (X.2.1, t.q.2)) := by show _ = _; rw [HX0.out]; rfl
     clear HX0
     go_wp2_with fail
     show bodyPost Try.prog _ _ _ _ (putX ((w1.setCell ⟨W.heap.size + 1, 4, none⟩ (.int .i64 X.1)).setCell ⟨W.heap.size + 1, 8, none⟩ (.int .i64 X.2.1)) (W.heap.size + 1 + 1) (t.wRQ (X.1, t.r.2) (X.2.1, t.q.2)) (.slice pp ln cl))
     have E9 : Ext W ((w1.setCell ⟨W.heap.size + 1, 4, none⟩ (.int .i64 X.1)).setCell ⟨W.heap.size + 1, 8, none⟩ (.int .i64 X.2.1)) := (HB.out.2.2.2.setCell (p := ⟨W.heap.size + 1, 4, none⟩) (by show W.heap.size ≤ W.heap.size + 1; omega) _).setCell (p := ⟨W.heap.size + 1, 8, none⟩) (by show W.heap.size ≤ W.heap.size + 1; omega) _
     have B9 : BlkX ((w1.setCell ⟨W.heap.size + 1, 4, none⟩ (.int .i64 X.1)).setCell ⟨W.heap.size + 1, 8, none⟩ (.int .i64 X.2.1)) (W.heap.size + 1 + 1) tz (.slice none 0 0) := Blk13.far1 (Blk13.far1 HB.out.2.2.1 (by omega) 4 _) (by omega) 8 _
     generalize (w1.setCell ⟨W.heap.size + 1, 4, none⟩ (.int .i64 X.1)).setCell ⟨W.heap.size + 1, 8, none⟩ (.int .i64 X.2.1) = w9 at *
     rw [HX.out]
     exact endR (B9.put (t.wRQ (X.1, t.r.2) (X.2.1, t.q.2)) (.slice pp ln cl)) rfl ⟨pp, ln, cl, rfl, putX_E E9 (by omega) _ _, .inl ⟨rfl, rfl, rfl, rfl⟩⟩ (fun h0 h1 h2 h3 h4 h5 h6 h7 h8 h9 h10 h11 h12 => by simp [results, Try.results106, go_sem, h0, h1, h2, h3, h4, h5, h6, h7, h8, h9, h10, h11, h12, aggX])
 · have HK : Hid (∀ V, Ext W V → Calls Try.prog K (#[.int .i64 t.q.1, .int .i64 t.r.1] ++ cs) V fun e w' => e = .returned (.tuple #[.int .i64 (b t.q.1 t.r.1).1, .int .i64 (b t.q.1 t.r.1).2.1, .bool (b t.q.1 t.r.1).2.2]) ∧ Ext V w') := fun V e => hK V t.q.1 t.r.1 e (by omega) (by omega) (by omega)
   have HX0 : Hid (u = if (b t.q.1 t.r.1).2.2 then t.wRQ ((b t.q.1 t.r.1).2.1, t.r.2) ((b t.q.1 t.r.1).1, t.q.2) else tErr 1) := by show _ = _; rw [← hu, chA, if_neg hle]
   obtain ⟨X, hX⟩ : ∃ X, b t.q.1 t.r.1 = X := ⟨_, rfl⟩
   rw [hX] at HX0 HK
   obtain ⟨xo, hxo⟩ : ∃ xo, X.2.2 = xo := ⟨_, rfl⟩
   rw [hxo] at HX0 HK
   clear hK h1 h2 h3 h4 hu hX hxo
   go_enter Try.func106, Try.ntmps106
   go_wp2_with fail
   have HB : Hid (Blk2 (((W.alloc (.cells #[v1, (.func (.func K) #[] cs)] 72)).alloc (.cells #[.int .i64 t.k, .int .i64 t.n, .string (bs t.s), .int .i64 t.e, .int .i64 t.r.1, .int .i64 t.r.2.1, .bool t.r.2.2.1, .bool t.r.2.2.2, .int .i64 t.q.1, .int .i64 t.q.2.1, .bool t.q.2.2.1, .bool t.q.2.2.2, .slice pp ln cl] 26)).alloc (.cells #[.int .i64 0, .int .i64 0, .string ⟨#[]⟩, .int .i64 0, .int .i64 0, .int .i64 0, .bool false, .bool false, .int .i64 0, .int .i64 0, .bool false, .bool false, .slice none 0 0] 26)) W.heap.size v1 (.func (.func K) #[] cs) ∧ BlkX (((W.alloc (.cells #[v1, (.func (.func K) #[] cs)] 72)).alloc (.cells #[.int .i64 t.k, .int .i64 t.n, .string (bs t.s), .int .i64 t.e, .int .i64 t.r.1, .int .i64 t.r.2.1, .bool t.r.2.2.1, .bool t.r.2.2.2, .int .i64 t.q.1, .int .i64 t.q.2.1, .bool t.q.2.2.1, .bool t.q.2.2.2, .slice pp ln cl] 26)).alloc (.cells #[.int .i64 0, .int .i64 0, .string ⟨#[]⟩, .int .i64 0, .int .i64 0, .int .i64 0, .bool false, .bool false, .int .i64 0, .int .i64 0, .bool false, .bool false, .slice none 0 0] 26)) (W.heap.size + 1) t (.slice pp ln cl) ∧ BlkX (((W.alloc (.cells #[v1, (.func (.func K) #[] cs)] 72)).alloc (.cells #[.int .i64 t.k, .int .i64 t.n, .string (bs t.s), .int .i64 t.e, .int .i64 t.r.1, .int .i64 t.r.2.1, .bool t.r.2.2.1, .bool t.r.2.2.2, .int .i64 t.q.1, .int .i64 t.q.2.1, .bool t.q.2.2.1, .bool t.q.2.2.2, .slice pp ln cl] 26)).alloc (.cells #[.int .i64 0, .int .i64 0, .string ⟨#[]⟩, .int .i64 0, .int .i64 0, .int .i64 0, .bool false, .bool false, .int .i64 0, .int .i64 0, .bool false, .bool false, .slice none 0 0] 26)) (W.heap.size + 1 + 1) tz (.slice none 0 0) ∧ Ext W (((W.alloc (.cells #[v1, (.func (.func K) #[] cs)] 72)).alloc (.cells #[.int .i64 t.k, .int .i64 t.n, .string (bs t.s), .int .i64 t.e, .int .i64 t.r.1, .int .i64 t.r.2.1, .bool t.r.2.2.1, .bool t.r.2.2.2, .int .i64 t.q.1, .int .i64 t.q.2.1, .bool t.q.2.2.1, .bool t.q.2.2.2, .slice pp ln cl] 26)).alloc (.cells #[.int .i64 0, .int .i64 0, .string ⟨#[]⟩, .int .i64 0, .int .i64 0, .int .i64 0, .bool false, .bool false, .int .i64 0, .int .i64 0, .bool false, .bool false, .slice none 0 0] 26))) := ⟨blk2_top rfl (((Ext.refl _).alloc _).alloc _), blk13_top (by simp) ((Ext.refl _).alloc _), BlkX.top (by simp) (Ext.refl _), (((Ext.refl _).alloc _).alloc _).alloc _⟩
   generalize (((W.alloc (.cells #[v1, (.func (.func K) #[] cs)] 72)).alloc (.cells #[.int .i64 t.k, .int .i64 t.n, .string (bs t.s), .int .i64 t.e, .int .i64 t.r.1, .int .i64 t.r.2.1, .bool t.r.2.2.1, .bool t.r.2.2.2, .int .i64 t.q.1, .int .i64 t.q.2.1, .bool t.q.2.2.1, .bool t.q.2.2.2, .slice pp ln cl] 26)).alloc (.cells #[.int .i64 0, .int .i64 0, .string ⟨#[]⟩, .int .i64 0, .int .i64 0, .int .i64 0, .bool false, .bool false, .int .i64 0, .int .i64 0, .bool false, .bool false, .slice none 0 0] 26)) = w0 at *
   refine (HK.out _ HB.out.2.2.2).mono ?_
   rintro e w1 ⟨rfl, E1⟩
   replace HB : Hid (Blk2 w1 W.heap.size v1 (.func (.func K) #[] cs) ∧ BlkX w1 (W.heap.size + 1) t (.slice pp ln cl) ∧ BlkX w1 (W.heap.size + 1 + 1) tz (.slice none 0 0) ∧ Ext W w1) := ⟨HB.out.1.ext E1, HB.out.2.1.ext E1, HB.out.2.2.1.ext E1, HB.out.2.2.2.trans E1⟩
   clear E1 HK
   obtain ⟨qn, ⟨n0, n1⟩, m0, m1⟩ := HB.out.1
   obtain ⟨qa, ⟨la0, la1, la2, la3, la4, la5, la6, la7, la8, la9, la10, la11, la12⟩, ga0, ga1, ga2, ga3, ga4, ga5, ga6, ga7, ga8, ga9, ga10, ga11, ga12⟩ := HB.out.2.1
   obtain ⟨qc, ⟨lc0, lc1, lc2, lc3, lc4, lc5, lc6, lc7, lc8, lc9, lc10, lc11, lc12⟩, gc0, gc1, gc2, gc3, gc4, gc5, gc6, gc7, gc8, gc9, gc10, gc11, gc12⟩ := HB.out.2.2.1
   have hz : W.heap.size + 1 + 1 < w1.heap.size := qc
   cases xo
   · have HX : Hid (u = tErr 1) := by show _ = _; rw [HX0.out]; rfl
     clear HX0
     go_wp2_with fail
     refine (lost_any _).mono ?_
     rintro e w5 ⟨rfl, E5⟩
     have B5 : BlkX w5 (W.heap.size + 1 + 1) tz (.slice none 0 0) := (Blk13.far1 (Blk13.far1 HB.out.2.2.1 (by omega) 8 _) (by omega) 4 _).ext E5
     have X5 : Ext W w5 := Ext.trans ((HB.out.2.2.2.setCell (p := ⟨W.heap.size + 1, 8, none⟩) (by show W.heap.size ≤ W.heap.size + 1; omega) _).setCell (p := ⟨W.heap.size + 1, 4, none⟩) (by show W.heap.size ≤ W.heap.size + 1; omega) _) E5
     clear E5 qn n0 n1 m0 m1 qa la0 la1 la2 la3 la4 la5 la6 la7 la8 la9 la10 la11 la12 ga0 ga1 ga2 ga3 ga4 ga5 ga6 ga7 ga8 ga9 ga10 ga11 ga12 qc lc0 lc1 lc2 lc3 lc4 lc5 lc6 lc7 lc8 lc9 lc10 lc11 lc12 gc0 gc1 gc2 gc3 gc4 gc5 gc6 gc7 gc8 gc9 gc10 gc11 gc12
     obtain ⟨qc, ⟨lc0, lc1, lc2, lc3, lc4, lc5, lc6, lc7, lc8, lc9, lc10, lc11, lc12⟩, gc0, gc1, gc2, gc3, gc4, gc5, gc6, gc7, gc8, gc9, gc10, gc11, gc12⟩ := id B5
     unfold aggX
     go_wp2_with fail
     show bodyPost Try.prog _ _ _ _ (putX w5 (W.heap.size + 1 + 1) (tErr 1) (.slice none 0 0))
     rw [HX.out]
     exact endR (B5.put (tErr 1) (.slice none 0 0)) rfl ⟨none, 0, 0, rfl, putX_E X5 (by omega) _ _, .inr ⟨rfl, rfl⟩⟩ (fun h0 h1 h2 h3 h4 h5 h6 h7 h8 h9 h10 h11 h12 => by simp [results, Try.results106, go_sem, h0, h1, h2, h3, h4, h5, h6, h7, h8, h9, h10, h11, h12, aggX])
   · have HX : Hid (u = t.wRQ (X.2.1, t.r.2) (X.1, t.q.2)) := by show _ = _; rw [HX0.out]; rfl
     clear HX0
     go_wp2_with fail
     show bodyPost Try.prog _ _ _ _ (putX ((w1.setCell ⟨W.heap.size + 1, 8, none⟩ (.int .i64 X.1)).setCell ⟨W.heap.size + 1, 4, none⟩ (.int .i64 X.2.1)) (W.heap.size + 1 + 1) (t.wRQ (X.2.1, t.r.2) (X.1, t.q.2)) (.slice pp ln cl))
     have E9 : Ext W ((w1.setCell ⟨W.heap.size + 1, 8, none⟩ (.int .i64 X.1)).setCell ⟨W.heap.size + 1, 4, none⟩ (.int .i64 X.2.1)) := (HB.out.2.2.2.setCell (p := ⟨W.heap.size + 1, 8, none⟩) (by show W.heap.size ≤ W.heap.size + 1; omega) _).setCell (p := ⟨W.heap.size + 1, 4, none⟩) (by show W.heap.size ≤ W.heap.size + 1; omega) _
     have B9 : BlkX ((w1.setCell ⟨W.heap.size + 1, 8, none⟩ (.int .i64 X.1)).setCell ⟨W.heap.size + 1, 4, none⟩ (.int .i64 X.2.1)) (W.heap.size + 1 + 1) tz (.slice none 0 0) := Blk13.far1 (Blk13.far1 HB.out.2.2.1 (by omega) 8 _) (by omega) 4 _
     generalize (w1.setCell ⟨W.heap.size + 1, 8, none⟩ (.int .i64 X.1)).setCell ⟨W.heap.size + 1, 4, none⟩ (.int .i64 X.2.1) = w9 at *
     rw [HX.out]
     exact endR (B9.put (t.wRQ (X.2.1, t.r.2) (X.1, t.q.2)) (.slice pp ln cl)) rfl ⟨pp, ln, cl, rfl, putX_E E9 (by omega) _ _, .inl ⟨rfl, rfl, rfl, rfl⟩⟩ (fun h0 h1 h2 h3 h4 h5 h6 h7 h8 h9 h10 h11 h12 => by simp [results, Try.results106, go_sem, h0, h1, h2, h3, h4, h5, h6, h7, h8, h9, h10, h11, h12, aggX])

open Go.RowKit
set_option maxHeartbeats 6000000

end Go.Proofs.Ytcggiljlilbdfaa
