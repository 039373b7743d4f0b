/-
 Package deps: inOrder; lists of places put in order.
 Package deps: Direct; slices.Index and slices.Contains of places.
 What is reached, as a list that grows: plain data.
 Package deps: Reach's function: a place is marked and listed, if it is not yet.
 Package deps: Reach, Cyclic.
 Package deps: Cyclic; slices.Index and slices.Contains of places.
 The statements' own few, lives, begins.
 The document's Put: a place put among others in order.
-/
import Derived.Test.YtjpiphnbadggoaaA5
import Derived.Test.YtjpiphnbadggoaaA1
import Derived.Test.YtjpiphnbadggoaaA3
import Derived.Test.YtjpiphnbadggoaaA2
namespace Go.Proofs.Ytjpiphnbadggoaa
open Go.RowKit Go.Sort
set_option maxHeartbeats 1000000

set_option maxRecDepth 100000 in
theorem closP (x y : Pl) (W : World) : Calls Try.prog 29 #[.agg #[.int .i64 x.1, .int .i64 x.2], .agg #[.int .i64 y.1, .int .i64 y.2]] W fun e w' => e = .returned (.int .i64 (cmpP x y)) ∧ ∃ q os', w' = grow (W.drewN q) os' := by
 have hc1 := fun W' => AnyG.cmp_Compare_int Try.laysCmp x.1 y.1 W'
 have hc2 := fun W' => AnyG.cmp_Compare_int Try.laysCmp x.2 y.2 W'
 change ∀ W', Calls Try.prog 43 _ _ _ at hc1
 change ∀ W', Calls Try.prog 43 _ _ _ at hc2
 unfold cmpP
 generalize Lib.compareInt x.1 y.1 = a at hc1 ⊢
 generalize Lib.compareInt x.2 y.2 = b at hc2 ⊢
 have cO := fun g W h0 h1 => cmpor_any a b g W h0 h1
 generalize (if a ≠ 0 then a else b) = r at cO ⊢
 obtain ⟨W2, hW2⟩ : ∃ W2, W2 = (W.alloc (.cells #[.int .i64 x.1, .int .i64 x.2] 24)).alloc (.cells #[.int .i64 y.1, .int .i64 y.2] 24) := ⟨_, rfl⟩
 have mkS : Hid (∀ V, Ext W2 V → (fun V => V.cell? ⟨W.heap.size, 0, none⟩ = some (.int .i64 x.1) ∧ V.cell? ⟨W.heap.size, 1, none⟩ = some (.int .i64 x.2) ∧ V.cell? ⟨W.heap.size + 1, 0, none⟩ = some (.int .i64 y.1) ∧ V.cell? ⟨W.heap.size + 1, 1, none⟩ = some (.int .i64 y.2)) V) := by
   intro V e
   have e1 : Ext (W.alloc (.cells #[.int .i64 x.1, .int .i64 x.2] 24)) V := ((Ext.refl _).alloc (.cells #[.int .i64 y.1, .int .i64 y.2] 24)).trans (by rw [← hW2]; exact e)
   have e2 : Ext ((W.alloc (.cells #[.int .i64 x.1, .int .i64 x.2] 24)).alloc (.cells #[.int .i64 y.1, .int .i64 y.2] 24)) V := by rw [← hW2]; exact e
   have k1 := box2 e1
   have k2 := box2 e2
   simp only [show (W.alloc (.cells #[.int .i64 x.1, .int .i64 x.2] 24)).heap.size = W.heap.size + 1 by simp] at k2
   exact ⟨k1.1, k1.2, k2.1, k2.2⟩
 go_enter Try.func29, Try.ntmps29
 go_wp2_with fail
 rw [← hW2]
 have HW2 : Hid (W2 = (W.alloc (.cells #[.int .i64 x.1, .int .i64 x.2] 24)).alloc (.cells #[.int .i64 y.1, .int .i64 y.2] 24)) := hW2
 have o0 : ∀ (i : Nat) (u : Value), (#[.int .i64 a, .int .i64 b] : Array Value)[i]? = some u → ((W2.alloc (.cells #[.int .i64 a, .int .i64 b] 3)).drew).cell? ⟨W2.heap.size, i, none⟩ = some u := fun i u h => (cell_of_row _ _ i _ _ (0, 0) (top_heap W2 _)).trans h
 clear hW2
 generalize W.heap.size = A at mkS ⊢
 refine wp_region_held_drew (S := (fun V => V.cell? ⟨A, 0, none⟩ = some (.int .i64 x.1) ∧ V.cell? ⟨A, 1, none⟩ = some (.int .i64 x.2) ∧ V.cell? ⟨A + 1, 0, none⟩ = some (.int .i64 y.1) ∧ V.cell? ⟨A + 1, 1, none⟩ = some (.int .i64 y.2))) (by kernel_rfl) ?_ (fun hHeld0 => ?_)
 · (refine mkS.out _ ?_; ((with_reducible (repeat (first | assumption | exact Ext.refl _ | apply Ext.drew | apply Ext.alloc))); done))
 refine wpAnyH_take (i := 0) (oi := ⟨some 5, .fieldAddr 24 (.tmp 2) 0, 0, "deps.go:147", #[], none⟩) (v := ?_) rfl (by kernel_rfl) (by kernel_rfl) (by kernel_rfl) (fun _ _ _ h => h) (Or.inl ⟨by rfl, ?_⟩) (by assumption) ?_
 rotate_left
 · intro w hSw; (try dsimp only at hSw); first | (go_simp; done) | (go_simp; with_reducible rfl)
 try simp only [Act.put, List.setIfInBounds_toArray, List.set_cons_zero, List.set_cons_succ]
 refine wpAnyH_take (i := 1) (oi := ⟨some 6, .load 3 (.tmp 5), 3, "deps.go:147", #[⟨0, .data⟩], none⟩) (v := ?_) rfl (by kernel_rfl) (by kernel_rfl) (by kernel_rfl) (fun _ _ _ h => h) (Or.inl ⟨by rfl, ?_⟩) (by assumption) ?_
 rotate_left
 · intro w hSw; (try dsimp only at hSw); first | (go_simp; done) | (go_simp; with_reducible rfl)
 try simp only [Act.put, List.setIfInBounds_toArray, List.set_cons_zero, List.set_cons_succ]
 refine wpAnyH_take (i := 2) (oi := ⟨some 7, .fieldAddr 24 (.tmp 3) 0, 0, "deps.go:147", #[], none⟩) (v := ?_) rfl (by kernel_rfl) (by kernel_rfl) (by kernel_rfl) (fun _ _ _ h => h) (Or.inl ⟨by rfl, ?_⟩) (by assumption) ?_
 rotate_left
 · intro w hSw; (try dsimp only at hSw); first | (go_simp; done) | (go_simp; with_reducible rfl)
 try simp only [Act.put, List.setIfInBounds_toArray, List.set_cons_zero, List.set_cons_succ]
 refine wpAnyH_take (i := 3) (oi := ⟨some 8, .load 3 (.tmp 7), 3, "deps.go:147", #[⟨2, .data⟩], none⟩) (v := ?_) rfl (by kernel_rfl) (by kernel_rfl) (by kernel_rfl) (fun _ _ _ h => h) (Or.inl ⟨by rfl, ?_⟩) (by assumption) ?_
 rotate_left
 · intro w hSw; (try dsimp only at hSw); first | (go_simp; done) | (go_simp; with_reducible rfl)
 try simp only [Act.put, List.setIfInBounds_toArray, List.set_cons_zero, List.set_cons_succ]
 refine wpAnyH_take (i := 5) (oi := ⟨some 10, .fieldAddr 24 (.tmp 2) 1, 0, "deps.go:147", #[], none⟩) (v := ?_) rfl (by kernel_rfl) (by kernel_rfl) (by kernel_rfl) (fun _ _ _ h => h) (Or.inl ⟨by rfl, ?_⟩) (by assumption) ?_
 rotate_left
 · intro w hSw; (try dsimp only at hSw); first | (go_simp; done) | (go_simp; with_reducible rfl)
 try simp only [Act.put, List.setIfInBounds_toArray, List.set_cons_zero, List.set_cons_succ]
 refine wpAnyH_take (i := 6) (oi := ⟨some 11, .load 3 (.tmp 10), 3, "deps.go:147", #[⟨5, .data⟩], none⟩) (v := ?_) rfl (by kernel_rfl) (by kernel_rfl) (by kernel_rfl) (fun _ _ _ h => h) (Or.inl ⟨by rfl, ?_⟩) (by assumption) ?_
 rotate_left
 · intro w hSw; (try dsimp only at hSw); first | (go_simp; done) | (go_simp; with_reducible rfl)
 try simp only [Act.put, List.setIfInBounds_toArray, List.set_cons_zero, List.set_cons_succ]
 refine wpAnyH_take (i := 7) (oi := ⟨some 12, .fieldAddr 24 (.tmp 3) 1, 0, "deps.go:147", #[], none⟩) (v := ?_) rfl (by kernel_rfl) (by kernel_rfl) (by kernel_rfl) (fun _ _ _ h => h) (Or.inl ⟨by rfl, ?_⟩) (by assumption) ?_
 rotate_left
 · intro w hSw; (try dsimp only at hSw); first | (go_simp; done) | (go_simp; with_reducible rfl)
 try simp only [Act.put, List.setIfInBounds_toArray, List.set_cons_zero, List.set_cons_succ]
 refine wpAnyH_take (i := 8) (oi := ⟨some 13, .load 3 (.tmp 12), 3, "deps.go:147", #[⟨7, .data⟩], none⟩) (v := ?_) rfl (by kernel_rfl) (by kernel_rfl) (by kernel_rfl) (fun _ _ _ h => h) (Or.inl ⟨by rfl, ?_⟩) (by assumption) ?_
 rotate_left
 · intro w hSw; (try dsimp only at hSw); first | (go_simp; done) | (go_simp; with_reducible rfl)
 try simp only [Act.put, List.setIfInBounds_toArray, List.set_cons_zero, List.set_cons_succ]
 refine wpAnyH_ready (rs := [4]) (by kernel_rfl) (by simp) ?_
 refine AllReadyH.cons (o := ⟨some 9, .call { callee := .value (.func 43), args := #[.tmp 6, .tmp 8], argTypes := #[3, 3] }, 3, "deps.go:147", #[⟨1, .data⟩, ⟨3, .data⟩], none⟩) rfl (fun K hK => ?_) AllReadyH.nil
 go_simp
 refine (hc1 _).mono ?_; rintro e x1 ⟨rfl, rfl⟩
 try go_wp2_with fail
 refine hK.out _ _ ?_ (fun hHeld1 => ?_)
 · (try dsimp only); (refine mkS.out _ ?_; ((with_reducible (repeat (first | assumption | exact Ext.refl _ | apply Ext.drew | apply Ext.alloc))); done))
 clear hK K hHeld0
 try simp only [Act.put, List.setIfInBounds_toArray, List.set_cons_zero, List.set_cons_succ]
 refine wpAnyH_ready (rs := [9]) (by kernel_rfl) (by simp) ?_
 refine AllReadyH.cons (o := ⟨some 14, .call { callee := .value (.func 43), args := #[.tmp 11, .tmp 13], argTypes := #[3, 3] }, 3, "deps.go:147", #[⟨6, .data⟩, ⟨8, .data⟩, ⟨4, .chain⟩], none⟩) rfl (fun K hK => ?_) AllReadyH.nil
 go_simp
 refine (hc2 _).mono ?_; rintro e x2 ⟨rfl, rfl⟩
 try go_wp2_with fail
 refine hK.out _ _ ?_ (fun hHeld2 => ?_)
 · (try dsimp only); (refine mkS.out _ ?_; ((with_reducible (repeat (first | assumption | exact Ext.refl _ | apply Ext.drew | apply Ext.alloc))); done))
 clear hK K hHeld1
 try simp only [Act.put, List.setIfInBounds_toArray, List.set_cons_zero, List.set_cons_succ]
 refine wpAnyH_ready (rs := [10]) (by kernel_rfl) (by simp) ?_
 refine AllReadyH.cons (o := ⟨some 15, .buildSlice 99 2 #[(0, .tmp 9), (1, .tmp 14)], 99, "deps.go:147", #[⟨4, .data⟩, ⟨9, .data⟩], none⟩) rfl (fun K hK => ?_) AllReadyH.nil
 go_simp
 skip
 try go_wp2_with fail
 refine hK.out _ _ ?_ (fun hHeld3 => ?_)
 · (try dsimp only); (refine mkS.out _ ?_; ((with_reducible (repeat (first | assumption | exact Ext.refl _ | apply Ext.drew | apply Ext.alloc))); done))
 clear hK K hHeld2
 try simp only [Act.put, List.setIfInBounds_toArray, List.set_cons_zero, List.set_cons_succ]
 refine wpAnyH_ready (rs := [11]) (by kernel_rfl) (by simp) ?_
 refine AllReadyH.cons (o := ⟨some 16, .call { callee := .value (.func 42), args := #[.tmp 15], argTypes := #[99] }, 3, "deps.go:147", #[⟨10, .data⟩, ⟨9, .chain⟩], none⟩) rfl (fun K hK => ?_) AllReadyH.nil
 go_simp
 refine (cO W2.heap.size _ (o0 0 _ rfl) (o0 1 _ rfl)).mono ?_; rintro e x3 ⟨rfl, rfl⟩
 try go_wp2_with fail
 refine hK.out _ _ ?_ (fun hHeld4 => ?_)
 · (try dsimp only); (refine mkS.out _ ?_; ((with_reducible (repeat (first | assumption | exact Ext.refl _ | apply Ext.drew | apply Ext.alloc))); done))
 clear hK K hHeld3
 try simp only [Act.put, List.setIfInBounds_toArray, List.set_cons_zero, List.set_cons_succ]
 refine wpAnyH_take (i := 12) (oi := ⟨some 4, .assign (.tmp 16), 3, "deps.go:147", #[⟨11, .data⟩, ⟨11, .chain⟩, ⟨0, .phase⟩, ⟨1, .phase⟩, ⟨2, .phase⟩, ⟨3, .phase⟩, ⟨4, .phase⟩, ⟨5, .phase⟩, ⟨6, .phase⟩, ⟨7, .phase⟩, ⟨8, .phase⟩, ⟨9, .phase⟩, ⟨10, .phase⟩, ⟨11, .phase⟩], none⟩) (v := ?_) rfl (by kernel_rfl) (by kernel_rfl) (by kernel_rfl) (fun _ _ _ h => h) (Or.inl ⟨by rfl, ?_⟩) (by assumption) ?_
 rotate_left
 · intro w hSw; (try dsimp only at hSw); first | (go_simp; done) | (go_simp; with_reducible rfl)
 try simp only [Act.put, List.setIfInBounds_toArray, List.set_cons_zero, List.set_cons_succ]
 refine wpAnyH_done (by kernel_rfl) ?_ _
 go_wp2_with fail
 go_ret
 refine ⟨rfl, 1, #[.cells #[.int .i64 x.1, .int .i64 x.2] 24, .cells #[.int .i64 y.1, .int .i64 y.2] 24, .cells #[.int .i64 a, .int .i64 b] 3], ?_⟩
 rw [HW2.out]
 rfl
theorem laysP (blk off size : Nat) (w : World) : CmpLays Try.prog 29 #[] cP 2 cmpP blk off size w :=
 fun _ _ _ _ x y => closP x y _
theorem holds2 {w : World} {g : Nat} {cur : Array Value} {T : TypeId} (hg : w.heap[g]? = some (.cells cur T (0, 0))) {l : List Pl} (hc : cur.toList.take (l.length * 2) = l.flatMap cP) : HoldsK cP 2 w g 0 l.toArray := by
 intro j hj
 rw [size_flatK] at hj
 simp at hj
 rw [get_flatK cP 2 _ j (by simpa using hj), Nat.zero_add]
 refine ⟨?_, frozen_of_row w g _ cur _ hg⟩
 have hk : j / 2 < l.length := by omega
 have e0 : l.toArray[j / 2]! = l[j / 2] := by rw [getElem!_pos _ _ (by simpa using hk)]; simp
 have e1 : cur.toList[j]? = (l.flatMap cP)[j]? := by rw [← hc, List.getElem?_take, if_pos (by omega)]
 have e2 := gm_at cP_len l (j / 2) l[j / 2] (j % 2) (List.getElem?_eq_getElem hk) (Nat.mod_lt _ (by decide))
 rw [show j / 2 * 2 + j % 2 = j by omega] at e2
 have h6 : j % 2 < (cP l[j / 2]).length := by rw [cP_len]; exact Nat.mod_lt _ (by decide)
 rw [cell_of_row w g j cur _ (0, 0) hg, ← Array.getElem?_toList, e1, e2, e0, List.getElem?_eq_getElem h6, getElem!_pos (cP l[j / 2]) (j % 2) h6]
 rfl
theorem sort_heap2 {w : World} {g : Nat} {cur : Array Value} {T : TypeId} {fr : Nat × Nat} (hg : w.heap[g]? = some (.cells cur T fr)) (n : Nat) (d : Array Pl) (os : Array Obj) :
   (∃ cur', (sortWorldK cP 2 w g 0 n d os).heap[g]? = some (.cells cur' T fr) ∧ cur'.size = cur.size) ∧ ∀ k, k < w.heap.size → k ≠ g → (sortWorldK cP 2 w g 0 n d os).heap[k]? = w.heap[k]? := by
 have hs : g < w.heap.size := (Array.getElem?_eq_some_iff.1 hg).1
 constructor
 · refine ⟨putCells id 0 (flatK cP 2 d) cur, ?_, by simp [putCells]⟩
   unfold sortWorldK grow putRowK putRow mapBlock Sort.ahead
   simp only []
   rw [Array.getElem?_append_left (by simpa using hs), Array.getElem?_modify, if_pos rfl, hg]
   rfl
 · intro k hk hne
   unfold sortWorldK grow putRowK putRow mapBlock Sort.ahead
   simp only []
   rw [Array.getElem?_append_left (by simpa using hk), Array.getElem?_modify, if_neg (Ne.symm hne)]
theorem ltp_of {d : List Pl} (h1 : d.Pairwise (fun s t => ltOf cmpP t s = false)) (h2 : d.Pairwise (· ≠ ·)) : d.Pairwise Ltp := by
 refine (h1.and h2).imp (fun {x y} h => ?_)
 obtain ⟨h1, h2⟩ := h
 rw [lt_cmpP] at h1
 simp at h1
 rcases ltp_tri x y with h | h | h
 · exact h
 · exact absurd h h2
 · unfold Ltp at h; omega
/-- slices.SortFunc of places of which none is there twice. -/
theorem sortP_any (w : World) (base n : Nat) (v : Value) (l : List Pl) (hO : w.ownsRow base 24 2 v n (l.flatMap cP)) (hn : n = l.length) (hl : l.length ≤ 100000) (hd : l.Pairwise (· ≠ ·)) :
   Calls Try.prog 28 #[v, .func (.func 29) #[] #[]] w fun e w' => ∃ d : List Pl, e = .returned (.tuple #[]) ∧ d.Perm l ∧ d.Pairwise Ltp ∧ w'.ownsRow base 24 2 v n (d.flatMap cP) ∧ w.grownBy w' v.ownBlock := by
 subst hn
 rcases hO.2 with ⟨rfl, h0⟩ | ⟨g, cap, cur, rfl, hb, hg, hnc, hcm, hcs, htk⟩
 · have hl0 : l = [] := List.eq_nil_of_length_eq_zero h0
   subst hl0
   refine (AnyF.slices_SortFunc_none Try.laysSortP none 0 _ w).mono ?_
   rintro e w' ⟨rfl, rfl⟩
   exact ⟨[], rfl, List.Perm.refl _, List.Pairwise.nil, hO, ⟨rfl, rfl, rfl, Nat.le_refl _, fun _ _ _ => rfl⟩⟩
 · have hlt : g < w.heap.size := (Array.getElem?_eq_some_iff.1 hg).1
   have eg : ∀ args w, (callFunc 29 args).run Try.prog w = .ok (.enter 29 args) w := enters_of Try.func29 (by kernel_rfl) rfl
   have hH := holds2 hg htk
   have hcon := AnyQ.slices_SortFunc Try.laysSortP 2 Try.isAgg24 Try.sizeOf24 cP cP_len cP_one cmpP swo_cmpP 29 #[] g 0 cap l.toArray w eg (laysP g 0 _ w) hH hlt (by simp; omega)
   have es : l.toArray.size = l.length := by simp
   rw [es] at hcon
   refine hcon.mono ?_
   rintro e w' ⟨rfl, d, m, os, hp, hs, hw⟩
   have hsz : d.size = l.length := by rw [hp.1]; simp
   have hperm : d.toList.Perm l := by
     have := hp.2.2
     rw [← hsz] at this
     have e1 : d.extract 0 d.size = d := by simp
     have e2 : l.toArray.extract 0 d.size = l.toArray := by rw [hsz, ← es]; simp
     rw [e1, e2] at this
     simpa using this
   obtain ⟨⟨cur', k1, k2⟩, k3⟩ := sort_heap2 hg m d os
   have hK := SWK.holds (w0 := w) ⟨m, os, rfl⟩ hlt hH (dk := d) (by simp [hsz]) (W := sortWorldK cP 2 w g 0 m d os)
   rw [← hw] at k1 k3 hK
   refine ⟨d.toList, rfl, hperm, ltp_of ?_ (hperm.symm.pairwise hd (fun {x y} h => h.symm)), ⟨by rw [gm_len cP_len]; simp [hsz], .inr ⟨g, cap, cur', rfl, hb, k1, hnc, hcm, by rw [k2]; exact hcs, ?_⟩⟩, ?_⟩
   · rw [List.pairwise_iff_getElem]
     intro i j hi hj hij
     have := hs i j (Nat.zero_le _) hij (by simpa [hsz] using hj)
     simp at hi hj
     rw [getElem!_pos d i hi, getElem!_pos d j hj] at this
     simpa using this
   · refine List.ext_getElem? (fun j => ?_)
     by_cases hj : j < l.length * 2
     · have hlt6 : j / 2 < d.size := by omega
       have hd : d.toList[j / 2]? = some d[j / 2]! := by rw [getElem!_pos d _ hlt6, Array.getElem?_toList, Array.getElem?_eq_getElem hlt6]
       have e2 := gm_at cP_len d.toList (j / 2) d[j / 2]! (j % 2) hd (Nat.mod_lt _ (by decide))
       rw [show j / 2 * 2 + j % 2 = j by omega] at e2
       have h6 : j % 2 < (cP d[j / 2]!).length := by rw [cP_len]; exact Nat.mod_lt _ (by decide)
       have hc := HoldsK.cells hK cP_len hlt6 (j % 2) _ (List.getElem?_eq_getElem h6)
       rw [Addr.add_lit, show 0 + j / 2 * 2 + j % 2 = j by omega, cell_of_row w' g j cur' _ (0, 0) k1] at hc
       rw [List.getElem?_take, if_pos hj, Array.getElem?_toList, hc, e2, List.getElem?_eq_getElem h6]
     · rw [List.getElem?_eq_none (by simp; omega), List.getElem?_eq_none (by rw [gm_len cP_len]; simp [hsz]; omega)]
   · have hsz2 : w.heap.size ≤ w'.heap.size := by rw [hw]; simp [sortWorldK, grow, putRowK, putRow, mapBlock, Sort.ahead]
     refine ⟨by rw [hw]; rfl, by rw [hw]; rfl, by rw [hw]; rfl, hsz2, fun k hk hne => k3 k hk (fun e => hne (by rw [e]; rfl))⟩

open Go.RowKit
set_option maxHeartbeats 1000000

/-- A variable in block lb that holds a list of places. -/
structure LsV (W0 : World) (lb : Nat) (P : Nat → Prop) (L : List Pl) (W : World) : Prop where
 e : Ext W0 W
 b : W0.heap.size ≤ lb
 v : ∃ v, W.heap[lb]? = some (.cells #[v] 34 (0, 0)) ∧ W.ownsRow W0.heap.size 24 2 v L.length (L.flatMap cP) ∧ (∀ q, v.ownBlock = some q → ¬ P q)
 pl : ¬ P lb
 pk : ∀ k, P k → k < W.heap.size
theorem LsV.a {W0 W W' : World} {lb : Nat} {P P' : Nat → Prop} {L : List Pl} (h : LsV W0 lb P L W) (e : Ext W W') (hp : ∀ k, P' k → P k ∨ W.heap.size ≤ k ∧ k < W'.heap.size) : LsV W0 lb P' L W' := by
 obtain ⟨v, h1, h2, h3⟩ := h.v
 have no : ∀ q, q < W.heap.size → ¬ P q → ¬ P' q := fun q hq hn hq' => by
   rcases hp q hq' with h' | h'
   · exact hn h'
   · omega
 refine ⟨h.e.trans e, h.b, ⟨v, (e.block lb (heap_lt h1)).trans h1, ownsRow_ext h2 e, fun q hq => ?_⟩, no lb (heap_lt h1) h.pl, fun k hk => ?_⟩
 · obtain ⟨_, cur, h4⟩ := own_heap h2 hq
   exact no q (heap_lt h4) (h3 q hq)
 · rcases hp k hk with h' | h'
   · exact Nat.lt_of_lt_of_le (h.pk k h') e.size
   · exact h'.2
/-- The list is one longer. -/
theorem LsV.add {W0 W W1 W3 : World} {lb : Nat} {P : Nat → Prop} {L : List Pl} {v v' : Value} {q : Pl} (h : LsV W0 lb P L W) (hv : W.heap[lb]? = some (.cells #[v] 34 (0, 0))) (e1 : Ext W W1) (ho : W3.ownsRow W0.heap.size 24 2 v' (L.length + 1) ((L ++ [q]).flatMap cP)) (e3 : Ext W0 W3) (hg : W1.grownBy W3 v.ownBlock) (hn : v'.ownBlock = v.ownBlock ∨ v'.ownBlock = some W1.heap.size) :
   (W3.cell? ⟨lb, 0, none⟩ = some v ∧ W3.frozen? ⟨lb, 0, none⟩ = false) ∧ LsV W0 lb P (L ++ [q]) (W3.setCell ⟨lb, 0, none⟩ v') ∧ ∀ k, P k → k < W.heap.size → (W3.setCell ⟨lb, 0, none⟩ v').heap[k]? = W.heap[k]? := by
 obtain ⟨u, h1, h2, h3⟩ := h.v
 obtain rfl : u = v := by rw [hv] at h1; cases h1; rfl
 have l1 := (e1.block lb (heap_lt hv)).trans hv
 have hne : u.ownBlock ≠ some lb := fun e => by
   obtain ⟨_, cur, h4⟩ := own_heap h2 e
   rw [hv] at h4
   cases h4
 have l3 : W3.heap[lb]? = some (.cells #[u] 34 (0, 0)) := (hg.block lb (heap_lt l1) (fun e => hne e.symm)).trans l1
 have hne' : v'.ownBlock ≠ some lb := fun e => by
   obtain ⟨_, cur, h4⟩ := own_heap ho e
   rw [l3] at h4
   cases h4
 refine ⟨⟨(cell_of_row W3 lb 0 _ _ _ l3).trans rfl, frozen_of_row W3 lb 0 _ _ l3⟩, ⟨e3.setCell h.b _, h.b, ⟨v', ?_, ?_, fun k hk => ?_⟩, h.pl, fun k hk => ?_⟩, fun k hk hlt => ?_⟩
 · exact Lib.heap_setCell_same l3 v'
 · have e : (L ++ [q]).length = L.length + 1 := by simp
   rw [e]
   exact own_keep ho (fun k hk _ => heap_setCell_other W3 ⟨lb, 0, none⟩ k v' (fun e => hne' (by rw [hk, e])))
 · rcases hn with hn | hn
   · exact h3 k (hn ▸ hk)
   · rw [hn] at hk
     cases hk
     intro hp
     have := h.pk _ hp
     have := e1.size
     omega
 · have := h.pk k hk
   have := e1.size
   have := hg.size
   simp [World.setCell]
   omega
 · have hkl : k ≠ lb := fun e => h.pl (e ▸ hk)
   refine (heap_setCell_other W3 ⟨lb, 0, none⟩ k v' hkl).trans ?_
   refine (hg.block k (Nat.lt_of_lt_of_le hlt e1.size) (fun e => h3 k e.symm hk)).trans ?_
   exact e1.block k hlt
theorem rd_oneP {W V : World} {x1 x2 : Int} {b : Nat} (hb : W.heap.size = b) (e : Ext (W.alloc (.cells #[.int .i64 x1, .int .i64 x2] 24)) V) : RdP V (.slice (some ⟨b, 0, none⟩) 1 1) [(x1, x2)] :=
 RdG.one (by rw [← hb]; exact Ext.top e) (fun j u h => by
   have hj : j < 2 := (List.getElem?_eq_some_iff.1 h).1
   match j, hj with
   | 0, _ => exact h
   | 1, _ => exact h)
/-- What a function that is shown a place leaves. -/
def ShQ (I : (Nat → Prop) → List Pl → World → Prop) (P : Nat → Prop) (qs : List Pl) (W : World) (e : Ending) (W' : World) : Prop := e = .returned (.tuple #[]) ∧ I P qs W' ∧ ∀ k, P k → k < W.heap.size → W'.heap[k]? = W.heap[k]?
theorem dir1_any (W0 W : World) (lb : Nat) (P : Nat → Prop) (L : List Pl) (r c : Int) (h : LsV W0 lb P L W) (hl : L.length ≤ 300000) :
   Calls Try.prog 27 #[.agg #[.int .i64 r, .int .i64 c], .pointer (some ⟨lb, 0, none⟩)] W (ShQ (LsV W0 lb) P (L ++ [(r, c)]) W) := by
 obtain ⟨v, h1, h2, _⟩ := h.v
 obtain ⟨pv, cv, rfl, _⟩ := own_form h2
 obtain ⟨nv, hnv⟩ : ∃ nv, L.length = nv := ⟨_, rfl⟩
 simp only [hnv] at h1 h2
 have HL : Hid (LsV W0 lb P L W ∧ L.length = nv ∧ nv ≤ 300000) := ⟨h, hnv, by omega⟩
 have HV : Hid (W.heap[lb]? = some (.cells #[.slice pv nv cv] 34 (0, 0))) := h1
 have HO : Hid (W.ownsRow W0.heap.size 24 2 (.slice pv nv cv) nv (L.flatMap cP)) := h2
 have b1 : (W.alloc (.cells #[.int .i64 r, .int .i64 c] 24)).cell? ⟨lb, 0, none⟩ = some (.slice pv nv cv) := (((Ext.refl W).alloc _).cell.1 lb 0 (heap_lt h1)).trans ((cell_of_row W lb 0 _ _ _ h1).trans rfl)
 clear h h1 h2 hl hnv
 go_enter Try.func27, Try.ntmps27
 go_wp2_with (at_builtin; refine app_g eltP cP_len cP_one (by decide) _ W0 _ _ _ _ nv 1 L [(r, c)] W0.heap.size rfl rfl (by rfl) (by rfl) (ownsRow_ext HO.out (((Ext.refl _).alloc _).alloc _)) rfl (rd_oneP (by simp) (Ext.refl _)) (by have := HL.out.2.2; omega) ((HL.out.1.e.alloc _).alloc _) (Nat.le_refl _) ((HL.out.1.e.alloc _).alloc _).size ?_; intro v9 w9 O9 E9 G9 N9; obtain ⟨p9, c9, rfl, _⟩ := own_form O9; have H9 : Hid _ := HL.out.1.add HV.out (((Ext.refl _).alloc _).alloc _) (by rw [HL.out.2.1]; exact O9) E9 G9 N9; obtain ⟨f1, f2⟩ := H9.out.1; clear O9 E9 G9 N9)
 refine bodyPost_ret (v := .tuple #[]) (by simp [results, Try.results27, go_sem]) rfl ?_
 exact ⟨rfl, H9.out.2.1, H9.out.2.2⟩
theorem showD (W0 : World) (lb : Nat) : ShowI W0 27 #[.pointer (some ⟨lb, 0, none⟩)] (LsV W0 lb) :=
 ⟨enters_of Try.func27 (by kernel_rfl) rfl, fun _ _ _ h => h.e, fun _ _ _ _ _ h e hp => h.a e hp, fun P qs r c W hl _ h => dir1_any W0 W lb P qs r c h hl⟩
/-- What Direct leaves: the list d in order. -/
def DirQ (W : World) (d : List Pl) (e : Ending) (w' : World) : Prop := ∃ v, e = .returned v ∧ w'.ownsRow W.heap.size 24 2 v d.length (d.flatMap cP) ∧ Ext W w'
def IsDir (σ : Sg) (a : Pl) (d : List Pl) : Prop := d.Pairwise Ltp ∧ (∀ x, x ∈ d ↔ x ∈ dirS σ a) ∧ d.length ≤ σ.length
theorem direct_any (W : World) (base b n : Nat) (g : Option Nat) (vs : List Value) (σ : Sg) (r c : Int) (h : Dps W base b g n vs σ) (hn : n ≤ 1000) :
   Calls Try.prog 12 #[.pointer (some ⟨b, 0, none⟩), .int .i64 r, .int .i64 c] W fun e w' => ∃ d, IsDir σ (r, c) d ∧ DirQ W d e w' := by
 have E1 : Ext W (W.alloc (.cells #[.slice none 0 0] 34)) := (Ext.refl _).alloc _
 have h0 : LsV W W.heap.size (fun _ => False) [] (W.alloc (.cells #[.slice none 0 0] 34)) := ⟨E1, Nat.le_refl _, ⟨_, top_heap W _, ⟨by simp, .inl ⟨rfl, rfl⟩⟩, fun _ _ h => h⟩, fun h => h, fun _ h => h.elim⟩
 have cE := each1_any W (W.alloc (.cells #[.slice none 0 0] 34)) base b n g vs σ h hn 27 W.heap.size (LsV W W.heap.size) (showD W W.heap.size) [] h0 (by simp) r c
 have HD : Hid (eachS σ (r, c) = dirS σ (r, c) ∧ SgOk σ ∧ σ.length ≤ 1000) := ⟨each_dir h.ok (nice σ) (r, c), h.ok, Nat.le_trans h.n hn⟩
 clear h h0 E1 hn
 go_enter Try.func12, Try.ntmps12
 go_wp2_with fail
 refine cE.mono ?_
 rintro e w2 ⟨rfl, I2⟩
 rw [List.nil_append, HD.out.1] at I2
 obtain ⟨v, k1, k2, _⟩ := I2.v
 have hl := dir_len σ (r, c)
 have cS := sortP_any w2 W.heap.size _ v (dirS σ (r, c)) k2 rfl (by have := HD.out.2.2; omega) (dir_nodup HD.out.2.1 (r, c))
 have d1 := (cell_of_row w2 W.heap.size 0 _ _ _ k1).trans (rfl : (#[v] : Array Value)[0]? = some v)
 have hne : v.ownBlock ≠ some W.heap.size := fun e => by
   obtain ⟨_, cur, h4⟩ := own_heap k2 e
   rw [k1] at h4
   cases h4
 have H2 : Hid (LsV W W.heap.size (fun _ => False) (dirS σ (r, c)) w2 ∧ w2.heap[W.heap.size]? = some (.cells #[v] 34 (0, 0)) ∧ v.ownBlock ≠ some W.heap.size ∧ w2.ownsRow W.heap.size 24 2 v (dirS σ (r, c)).length ((dirS σ (r, c)).flatMap cP)) := ⟨I2, k1, hne, k2⟩
 obtain ⟨pv, cv, rfl, _⟩ := own_form k2
 clear cE I2 k1 k2 hne hl
 go_wp2_with fail
 refine cS.mono ?_
 rintro e w3 ⟨d, rfl, hp, hs, O3, G3⟩
 have l3 : w3.heap[W.heap.size]? = some (.cells #[.slice pv (dirS σ (r, c)).length cv] 34 (0, 0)) := (G3.block _ (heap_lt H2.out.2.1) (fun e => H2.out.2.2.1 e.symm)).trans H2.out.2.1
 have d3 := (cell_of_row w3 W.heap.size 0 _ _ _ l3).trans (rfl : (#[.slice pv (dirS σ (r, c)).length cv] : Array Value)[0]? = some (.slice pv (dirS σ (r, c)).length cv))
 have HQ : Hid (∃ d, IsDir σ (r, c) d ∧ DirQ W d (.returned (.slice pv (dirS σ (r, c)).length cv)) w3) := by
   refine ⟨d, ⟨hs, fun x => hp.mem_iff, by rw [hp.length_eq]; exact dir_len σ (r, c)⟩, _, rfl, by rw [hp.length_eq]; exact O3, ext_grownG H2.out.2.2.2 (Nat.le_refl _) H2.out.1.e G3⟩
 clear cS hp hs O3 G3 l3 d1
 go_wp2_with fail
 go_ret
 exact HQ.out

open Go.RowKit

def addP (L : List Pl) (q : Pl) : List Pl := if q ∈ L then L else L ++ [q]
theorem add_mem {L : List Pl} {q x : Pl} : x ∈ addP L q ↔ x ∈ L ∨ x = q := by
 unfold addP
 split
 · rename_i h
   constructor
   · exact .inl
   · rintro (h' | rfl)
     · exact h'
     · exact h
 · simp
theorem adds_mem {qs L : List Pl} {x : Pl} : x ∈ qs.foldl addP L ↔ x ∈ L ∨ x ∈ qs := by
 induction qs generalizing L with
 | nil => simp
 | cons q qs ih =>
   rw [List.foldl_cons, ih, add_mem, List.mem_cons, or_assoc]
theorem add_nodup {L : List Pl} {q : Pl} (h : L.Pairwise (· ≠ ·)) : (addP L q).Pairwise (· ≠ ·) := by
 unfold addP
 split
 · exact h
 · rename_i hq
   rw [List.pairwise_append]
   refine ⟨h, List.pairwise_singleton _ _, fun x hx y hy => ?_⟩
   simp at hy
   subst hy
   rintro rfl
   exact hq hx
theorem adds_nodup {qs L : List Pl} (h : L.Pairwise (· ≠ ·)) : (qs.foldl addP L).Pairwise (· ≠ ·) := by
 induction qs generalizing L with
 | nil => exact h
 | cons q qs ih => exact ih (add_nodup h)
theorem adds_pre (qs : List Pl) : ∀ L : List Pl, ∃ M, qs.foldl addP L = L ++ M := by
 induction qs with
 | nil => exact fun L => ⟨[], by simp⟩
 | cons q qs ih =>
   intro L
   obtain ⟨M, h⟩ := ih (addP L q)
   rw [List.foldl_cons, h]
   unfold addP
   split
   · exact ⟨M, rfl⟩
   · exact ⟨[q] ++ M, by simp⟩
theorem adds_len (qs : List Pl) : ∀ L : List Pl, (qs.foldl addP L).length ≤ L.length + qs.length := by
 induction qs with
 | nil => simp
 | cons q qs ih =>
   intro L
   have := ih (addP L q)
   have h2 : (addP L q).length ≤ L.length + 1 := by unfold addP; split <;> simp
   rw [List.foldl_cons, List.length_cons]
   omega
/-- The first k of L are through. -/
structure RInv (σ : Sg) (l L : List Pl) (k : Nat) : Prop where
 s : ∀ a ∈ L, Rch σ l a
 b : ∀ a ∈ l, pin a = true → a ∈ L
 c : ∀ i, i < k → ∀ a, L[i]? = some a → ∀ b ∈ dirS σ a, b ∈ L
 d : L.Pairwise (· ≠ ·)
 k : k ≤ L.length
theorem rinv_start (σ : Sg) (l : List Pl) : RInv σ l ((l.filter pin).foldl addP []) 0 := by
 refine ⟨fun a ha => ?_, fun a ha hp => ?_, fun i hi => absurd hi (Nat.not_lt_zero _), adds_nodup List.Pairwise.nil, Nat.zero_le _⟩
 · rw [adds_mem] at ha
   rcases ha with ha | ha
   · cases ha
   · obtain ⟨h1, h2⟩ := List.mem_filter.1 ha
     exact .base h1 h2
 · rw [adds_mem]
   exact .inr (List.mem_filter.2 ⟨ha, hp⟩)
theorem rinv_step {σ : Sg} {l L : List Pl} {k : Nat} (h : RInv σ l L k) {a : Pl} (ha : L[k]? = some a) : RInv σ l ((dirS σ a).foldl addP L) (k + 1) := by
 have hk : k < L.length := (List.getElem?_eq_some_iff.1 ha).1
 have hm := List.mem_of_getElem? ha
 obtain ⟨M, hM⟩ := adds_pre (dirS σ a) L
 refine ⟨fun x hx => ?_, fun x hx hp => ?_, fun i hi x hx y hy => ?_, adds_nodup h.d, by rw [hM]; simp; omega⟩
 · rw [adds_mem] at hx
   rcases hx with hx | hx
   · exact h.s x hx
   · exact .step (h.s a hm) hx
 · rw [adds_mem]
   exact .inl (h.b x hx hp)
 · rw [adds_mem]
   rw [hM, List.getElem?_append_left (by omega)] at hx
   by_cases hik : i < k
   · exact .inl (h.c i hik x hx y hy)
   · have : i = k := by omega
     subst this
     rw [ha] at hx
     cases hx
     exact .inr hy
theorem rinv_end {σ : Sg} {l L : List Pl} {k : Nat} (h : RInv σ l L k) (hk : L.length ≤ k) (x : Pl) : x ∈ L ↔ Rch σ l x := by
 refine ⟨h.s x, fun hx => ?_⟩
 induction hx with
 | base h1 h2 => exact h.b _ h1 h2
 | step _ hb ih =>
   obtain ⟨i, hi, e⟩ := List.getElem_of_mem ih
   exact h.c i (by omega) _ (by rw [List.getElem?_eq_getElem hi, e]) _ hb
theorem rinv_len {σ : Sg} {l L : List Pl} {k : Nat} (h : RInv σ l L k) : L.length ≤ l.length + σ.length := by
 have := nodup_len h.d (M := l ++ σ.map (·.1)) (fun x hx => rch_from (h.s x hx))
 simpa using this
def IsRch (σ : Sg) (l d : List Pl) : Prop := d.Pairwise Ltp ∧ (∀ x, x ∈ d ↔ Rch σ l x) ∧ d.length ≤ l.length + σ.length
theorem flt_snoc {l : List Pl} {k : Nat} {s : Pl} (hs : l[k]? = some s) : ((l.take (k + 1)).filter pin).foldl addP [] = if pin s then addP (((l.take k).filter pin).foldl addP []) s else ((l.take k).filter pin).foldl addP [] := by
 have e : l.take (k + 1) = l.take k ++ [s] := by rw [List.take_add_one, hs]; rfl
 rw [e, List.filter_append]
 cases h : pin s
 · simp [h]
 · simp [h]

open Go.RowKit
set_option maxHeartbeats 1000000

def isF : Value → Bool
 | .bool false => true
 | _ => false
theorem all_app (a b : List Value) (p : Value → Bool) : (List.append a b).all p = (a.all p && b.all p) := List.all_append
set_option maxRecDepth 100000 in
theorem zc_all : Try.zeroCells67.toList.all isF = true := by
 unfold Try.zeroCells67
 simp only [all_app, List.all_cons, List.all_nil, isF, Bool.and_self]
theorem zc_at (j : Nat) (hj : j < 53053) : Try.zeroCells67[j]? = some (.bool false) := by
 have hs : j < Try.zeroCells67.size := by rw [Try.zeroCells67_size]; exact hj
 rw [Array.getElem?_eq_getElem hs]
 have := List.all_eq_true.1 zc_all _ (Array.getElem_mem_toList hs)
 generalize Try.zeroCells67[j] = v at this
 unfold isF at this
 split at this
 · rfl
 · cases this
/-- The marks in block rb: L is marked. -/
def MkV (rb : Nat) (L : List Pl) (W : World) : Prop := ∃ cur, W.heap[rb]? = some (.cells cur 67 (0, 0)) ∧ cur.size = 53053 ∧ ∀ rn cn : Nat, pin ((rn : Int), (cn : Int)) = true → cur[rn * 53 + cn]? = some (.bool (decide (((rn : Int), (cn : Int)) ∈ L)))
structure RsV (W0 : World) (rb lb : Nat) (P : Nat → Prop) (L : List Pl) (W : World) : Prop where
 l : LsV W0 lb P L W
 b : W0.heap.size ≤ rb
 m : MkV rb L W
 p : ¬ P rb
theorem MkV.keep {rb : Nat} {L : List Pl} {W W' : World} (h : MkV rb L W) (e : rb < W.heap.size → W'.heap[rb]? = W.heap[rb]?) : MkV rb L W' := by
 obtain ⟨cur, h1, h2⟩ := h
 exact ⟨cur, (e (heap_lt h1)).trans h1, h2⟩
theorem RsV.a {W0 W W' : World} {rb lb : Nat} {P P' : Nat → Prop} {L : List Pl} (h : RsV W0 rb lb P L W) (e : Ext W W') (hp : ∀ k, P' k → P k ∨ W.heap.size ≤ k ∧ k < W'.heap.size) : RsV W0 rb lb P' L W' := by
 refine ⟨h.l.a e hp, h.b, h.m.keep (fun hlt => e.block rb hlt), fun hp' => ?_⟩
 obtain ⟨cur, h1, _⟩ := h.m
 rcases hp rb hp' with h' | h'
 · exact h.p h'
 · have := heap_lt h1
   omega
theorem pos_ne {rn cn rn' cn' : Nat} (h : pin ((rn : Int), (cn : Int)) = true) (h' : pin ((rn' : Int), (cn' : Int)) = true) (e : rn * 53 + cn = rn' * 53 + cn') : rn = rn' ∧ cn = cn' := by
 have h1 := pin_bd h
 have h2 := pin_bd h'
 simp at h1 h2
 omega
/-- A mark is set. -/
theorem MkV.set {rb : Nat} {L : List Pl} {W : World} (h : MkV rb L W) {rn cn : Nat} (hp : pin ((rn : Int), (cn : Int)) = true) : MkV rb (L ++ [((rn : Int), (cn : Int))]) (W.setCell ⟨rb, rn * 53 + cn, none⟩ (.bool true)) := by
 obtain ⟨cur, h1, h2, h3⟩ := h
 have hb := pin_bd hp
 simp at hb
 refine ⟨_, Lib.heap_setCell_same h1 _, by simpa using h2, fun rn' cn' hp' => ?_⟩
 by_cases e : rn * 53 + cn = rn' * 53 + cn'
 · obtain ⟨rfl, rfl⟩ := pos_ne hp hp' e
   rw [Array.getElem?_setIfInBounds_self_of_lt (by omega)]
   simp
 · rw [Array.getElem?_setIfInBounds_ne e, h3 rn' cn' hp']
   have : ¬ (((rn' : Int), (cn' : Int)) = ((rn : Int), (cn : Int))) := by
     intro h
     simp at h
     exact e (by omega)
   simp only [List.mem_append, List.mem_singleton, this, or_false]
theorem LsV.far {W0 W : World} {rb lb : Nat} {P : Nat → Prop} {L : List Pl} (h : LsV W0 lb P L W) (hb : W0.heap.size ≤ rb) (hr : ∃ cur, W.heap[rb]? = some (.cells cur 67 (0, 0))) (o : Nat) (u : Value) : LsV W0 lb P L (W.setCell ⟨rb, o, none⟩ u) := by
 obtain ⟨v, h1, h2, h3⟩ := h.v
 obtain ⟨cur, hr⟩ := hr
 refine ⟨h.e.setCell hb _, h.b, ⟨v, ?_, own_keep h2 (fun q hq _ => ?_), h3⟩, h.pl, fun k hk => by simpa [World.setCell] using h.pk k hk⟩
 · exact (heap_setCell_other W ⟨rb, o, none⟩ lb u (fun e => by rw [show lb = rb from e, hr] at h1; cases h1)).trans h1
 · obtain ⟨_, cur', h4⟩ := own_heap h2 hq
   exact heap_setCell_other W ⟨rb, o, none⟩ q u (fun e => by rw [show q = rb from e, hr] at h4; cases h4)
/-- The mark is set, the list is not longer yet. -/
theorem RsV.two {W0 W y1 : World} {rb lb : Nat} {P : Nat → Prop} {L : List Pl} (h : RsV W0 rb lb P L W) (e : Ext W y1) {rn cn : Nat} (hp : pin ((rn : Int), (cn : Int)) = true) :
   LsV W0 lb (fun k => P k ∨ k = rb) L (y1.setCell ⟨rb, rn * 53 + cn, none⟩ (.bool true)) ∧ MkV rb (L ++ [((rn : Int), (cn : Int))]) (y1.setCell ⟨rb, rn * 53 + cn, none⟩ (.bool true)) ∧ ∀ k, P k → k < W.heap.size → (y1.setCell ⟨rb, rn * 53 + cn, none⟩ (.bool true)).heap[k]? = W.heap[k]? := by
 have h1 := h.a (P' := P) e (fun _ h => .inl h)
 have hr : ∃ cur, y1.heap[rb]? = some (.cells cur 67 (0, 0)) := by obtain ⟨cur, m1, _⟩ := h1.m; exact ⟨cur, m1⟩
 refine ⟨?_, h1.m.set hp, fun k hk hlt => ?_⟩
 · have l1 := h1.l.far h.b hr (rn * 53 + cn) (.bool true)
   obtain ⟨v, v1, v2, v3⟩ := h1.l.v
   obtain ⟨cur, hr⟩ := hr
   obtain ⟨u, u1, u2, u3⟩ := l1.v
   refine ⟨l1.e, l1.b, ⟨u, u1, u2, fun q hq hp' => ?_⟩, fun hp' => ?_, fun k hk => ?_⟩
   · rcases hp' with hp' | rfl
     · exact u3 q hq hp'
     · obtain ⟨_, cur', h4⟩ := own_heap u2 hq
       rw [Lib.heap_setCell_same hr] at h4
       cases h4
   · rcases hp' with hp' | rfl
     · exact l1.pl hp'
     · rw [hr] at v1
       cases v1
   · rcases hk with hk | rfl
     · exact l1.pk k hk
     · simpa [World.setCell] using heap_lt hr
 · refine (heap_setCell_other y1 ⟨rb, rn * 53 + cn, none⟩ k _ (fun e' => h.p (by rw [show k = rb from e'] at hk; exact hk))).trans ?_
   exact e.block k hlt
set_option maxRecDepth 100000 in
theorem reach1_any (W0 W : World) (rb lb : Nat) (P : Nat → Prop) (L : List Pl) (rn cn : Nat) (h : RsV W0 rb lb P L W) (hl : L.length ≤ 700000) (hp : pin ((rn : Int), (cn : Int)) = true) :
   Calls Try.prog 32 #[.agg #[.int .i64 (rn : Int), .int .i64 (cn : Int)], .pointer (some ⟨rb, 0, none⟩), .pointer (some ⟨lb, 0, none⟩)] W (ShQ (RsV W0 rb lb) P (addP L ((rn : Int), (cn : Int))) W) := by
 have hb := pin_bd hp
 simp at hb
 have hrI : (rn : Int) < 1001 := by omega
 have hcI : (cn : Int) < 53 := by omega
 obtain ⟨cur, m1, m2, m3⟩ := h.m
 have hm := m3 rn cn hp
 have E1 : Ext W (W.alloc (.cells #[.int .i64 (rn : Int), .int .i64 (cn : Int)] 24)) := (Ext.refl _).alloc _
 have mk : ∀ V, Ext (W.alloc (.cells #[.int .i64 (rn : Int), .int .i64 (cn : Int)] 24)) V → (fun V => V.cell? ⟨W.heap.size, 0, none⟩ = some (.int .i64 (rn : Int)) ∧ V.cell? ⟨W.heap.size, 1, none⟩ = some (.int .i64 (cn : Int)) ∧ V.cell? ⟨rb, rn * 53 + cn, none⟩ = some (.bool (decide (((rn : Int), (cn : Int)) ∈ L)))) V := fun V e => by
   obtain ⟨q1, q2⟩ := box2 e
   have r1 := ((E1.trans e).block rb (heap_lt m1)).trans m1
   exact ⟨q1, q2, (cell_of_row V rb _ _ _ _ r1).trans hm⟩
 have H : Hid (RsV W0 rb lb P L W ∧ L.length ≤ 700000 ∧ pin ((rn : Int), (cn : Int)) = true) := ⟨h, hl, hp⟩
 have HM : Hid (W.heap[rb]? = some (.cells cur 67 (0, 0))) := m1
 clear m2 m3 hm E1 m1 h hl hp
 by_cases hq : ((rn : Int), (cn : Int)) ∈ L
 · rw [decide_eq_true hq] at mk
   have mkS : Hid _ := mk
   have HQ : Hid (ShQ (RsV W0 rb lb) P (addP L ((rn : Int), (cn : Int))) W (.returned (.tuple #[])) ((W.alloc (.cells #[.int .i64 (rn : Int), .int .i64 (cn : Int)] 24)).drew)) := by
     refine ⟨rfl, ?_, fun k _ hlt => (((Ext.refl W).alloc _).drew).block k hlt⟩
     unfold addP
     rw [if_pos hq]
     exact H.out.1.a ((Ext.refl _).alloc _).drew (fun _ h => .inl h)
   clear mk hq HM
   go_enter Try.func32, Try.ntmps32
   go_upto_region 1 with fail
   refine wp_region_held_drew (S := (fun V => V.cell? ⟨W.heap.size, 0, none⟩ = some (.int .i64 (rn : Int)) ∧ V.cell? ⟨W.heap.size, 1, none⟩ = some (.int .i64 (cn : Int)) ∧ V.cell? ⟨rb, rn * 53 + cn, none⟩ = some (.bool true))) (by kernel_rfl) ?_ (fun hHeld0 => ?_)
   · (refine mkS.out _ ?_; ((with_reducible (repeat (first | assumption | exact Ext.refl _ | apply Ext.drew | apply Ext.drewN | apply Ext.alloc))); done))
   refine wpAnyH_take (i := 0) (oi := ⟨some 4, .fieldAddr 24 (.tmp 3) 0, 0, "deps.go:61", #[], none⟩) (v := ?_) rfl (by kernel_rfl) (by kernel_rfl) (by kernel_rfl) (fun _ _ _ h => h) (Or.inl ⟨by rfl, ?_⟩) (by assumption) ?_
   rotate_left
   · intro w hSw; (try dsimp only at hSw); first | (go_simp; done) | (go_simp; with_reducible rfl)
   try go_frame
   refine wpAnyH_take (i := 1) (oi := ⟨some 5, .load 3 (.tmp 4), 3, "deps.go:61", #[⟨0, .data⟩], none⟩) (v := ?_) rfl (by kernel_rfl) (by kernel_rfl) (by kernel_rfl) (fun _ _ _ h => h) (Or.inl ⟨by rfl, ?_⟩) (by assumption) ?_
   rotate_left
   · intro w hSw; (try dsimp only at hSw); first | (go_simp; done) | (go_simp; with_reducible rfl)
   try go_frame
   refine wpAnyH_take (i := 2) (oi := ⟨some 6, .fieldAddr 24 (.tmp 3) 1, 0, "deps.go:61", #[], none⟩) (v := ?_) rfl (by kernel_rfl) (by kernel_rfl) (by kernel_rfl) (fun _ _ _ h => h) (Or.inl ⟨by rfl, ?_⟩) (by assumption) ?_
   rotate_left
   · intro w hSw; (try dsimp only at hSw); first | (go_simp; done) | (go_simp; with_reducible rfl)
   try go_frame
   refine wpAnyH_take (i := 3) (oi := ⟨some 7, .load 3 (.tmp 6), 3, "deps.go:61", #[⟨2, .data⟩], none⟩) (v := ?_) rfl (by kernel_rfl) (by kernel_rfl) (by kernel_rfl) (fun _ _ _ h => h) (Or.inl ⟨by rfl, ?_⟩) (by assumption) ?_
   rotate_left
   · intro w hSw; (try dsimp only at hSw); first | (go_simp; done) | (go_simp; with_reducible rfl)
   try go_frame
   refine wpAnyH_take (i := 4) (oi := ⟨some 8, .indexAddr 67 (.tmp 1) (.tmp 5), 0, "deps.go:61", #[⟨1, .data⟩], none⟩) (v := ?_) rfl (by kernel_rfl) (by kernel_rfl) (by kernel_rfl) (fun _ _ _ h => h) (Or.inl ⟨by rfl, ?_⟩) (by assumption) ?_
   rotate_left
   · intro w hSw; (try dsimp only at hSw); first | (go_simp; done) | (go_simp; with_reducible rfl)
   try go_frame
   refine wpAnyH_take (i := 5) (oi := ⟨some 9, .indexAddr 66 (.tmp 8) (.tmp 7), 0, "deps.go:61", #[⟨4, .data⟩, ⟨3, .data⟩], none⟩) (v := ?_) rfl (by kernel_rfl) (by kernel_rfl) (by kernel_rfl) (fun _ _ _ h => h) (Or.inl ⟨by rfl, ?_⟩) (by assumption) ?_
   rotate_left
   · intro w hSw; (try dsimp only at hSw); first | (go_simp; done) | (go_simp; with_reducible rfl)
   try go_frame
   refine wpAnyH_take (i := 6) (oi := ⟨some 10, .load 4 (.tmp 9), 4, "deps.go:61", #[⟨5, .data⟩], none⟩) (v := ?_) rfl (by kernel_rfl) (by kernel_rfl) (by kernel_rfl) (fun _ _ _ h => h) (Or.inl ⟨by rfl, ?_⟩) (by assumption) ?_
   rotate_left
   · intro w hSw; (try dsimp only at hSw); first | (go_simp; done) | (go_simp; with_reducible rfl)
   try go_frame
   refine wpAnyH_take (i := 7) (oi := ⟨some 11, .unOp .not 4 (.tmp 10), 4, "deps.go:61", #[⟨6, .data⟩], none⟩) (v := ?_) rfl (by kernel_rfl) (by kernel_rfl) (by kernel_rfl) (fun _ _ _ h => h) (Or.inl ⟨by rfl, ?_⟩) (by assumption) ?_
   rotate_left
   · intro w hSw; (try dsimp only at hSw); first | (go_simp; done) | (go_simp; with_reducible rfl)
   try go_frame
   refine wpAnyH_done (by kernel_rfl) ?_ _
   go_wp2_with fail
   refine bodyPost_ret (v := .tuple #[]) (by simp [results, Try.results32, go_sem]) rfl ?_
   exact HQ.out
 · rw [decide_eq_false hq] at mk
   have mkS : Hid _ := mk
   have HN : Hid (((rn : Int), (cn : Int)) ∉ L) := hq
   clear mk hq
   go_enter Try.func32, Try.ntmps32
   go_upto_region 1 with fail
   refine wp_region_held_drew (S := (fun V => V.cell? ⟨W.heap.size, 0, none⟩ = some (.int .i64 (rn : Int)) ∧ V.cell? ⟨W.heap.size, 1, none⟩ = some (.int .i64 (cn : Int)) ∧ V.cell? ⟨rb, rn * 53 + cn, none⟩ = some (.bool false))) (by kernel_rfl) ?_ (fun hHeld0 => ?_)
   · (refine mkS.out _ ?_; ((with_reducible (repeat (first | assumption | exact Ext.refl _ | apply Ext.drew | apply Ext.drewN | apply Ext.alloc))); done))
   refine wpAnyH_take (i := 0) (oi := ⟨some 4, .fieldAddr 24 (.tmp 3) 0, 0, "deps.go:61", #[], none⟩) (v := ?_) rfl (by kernel_rfl) (by kernel_rfl) (by kernel_rfl) (fun _ _ _ h => h) (Or.inl ⟨by rfl, ?_⟩) (by assumption) ?_
   rotate_left
   · intro w hSw; (try dsimp only at hSw); first | (go_simp; done) | (go_simp; with_reducible rfl)
   try go_frame
   refine wpAnyH_take (i := 1) (oi := ⟨some 5, .load 3 (.tmp 4), 3, "deps.go:61", #[⟨0, .data⟩], none⟩) (v := ?_) rfl (by kernel_rfl) (by kernel_rfl) (by kernel_rfl) (fun _ _ _ h => h) (Or.inl ⟨by rfl, ?_⟩) (by assumption) ?_
   rotate_left
   · intro w hSw; (try dsimp only at hSw); first | (go_simp; done) | (go_simp; with_reducible rfl)
   try go_frame
   refine wpAnyH_take (i := 2) (oi := ⟨some 6, .fieldAddr 24 (.tmp 3) 1, 0, "deps.go:61", #[], none⟩) (v := ?_) rfl (by kernel_rfl) (by kernel_rfl) (by kernel_rfl) (fun _ _ _ h => h) (Or.inl ⟨by rfl, ?_⟩) (by assumption) ?_
   rotate_left
   · intro w hSw; (try dsimp only at hSw); first | (go_simp; done) | (go_simp; with_reducible rfl)
   try go_frame
   refine wpAnyH_take (i := 3) (oi := ⟨some 7, .load 3 (.tmp 6), 3, "deps.go:61", #[⟨2, .data⟩], none⟩) (v := ?_) rfl (by kernel_rfl) (by kernel_rfl) (by kernel_rfl) (fun _ _ _ h => h) (Or.inl ⟨by rfl, ?_⟩) (by assumption) ?_
   rotate_left
   · intro w hSw; (try dsimp only at hSw); first | (go_simp; done) | (go_simp; with_reducible rfl)
   try go_frame
   refine wpAnyH_take (i := 4) (oi := ⟨some 8, .indexAddr 67 (.tmp 1) (.tmp 5), 0, "deps.go:61", #[⟨1, .data⟩], none⟩) (v := ?_) rfl (by kernel_rfl) (by kernel_rfl) (by kernel_rfl) (fun _ _ _ h => h) (Or.inl ⟨by rfl, ?_⟩) (by assumption) ?_
   rotate_left
   · intro w hSw; (try dsimp only at hSw); first | (go_simp; done) | (go_simp; with_reducible rfl)
   try go_frame
   refine wpAnyH_take (i := 5) (oi := ⟨some 9, .indexAddr 66 (.tmp 8) (.tmp 7), 0, "deps.go:61", #[⟨4, .data⟩, ⟨3, .data⟩], none⟩) (v := ?_) rfl (by kernel_rfl) (by kernel_rfl) (by kernel_rfl) (fun _ _ _ h => h) (Or.inl ⟨by rfl, ?_⟩) (by assumption) ?_
   rotate_left
   · intro w hSw; (try dsimp only at hSw); first | (go_simp; done) | (go_simp; with_reducible rfl)
   try go_frame
   refine wpAnyH_take (i := 6) (oi := ⟨some 10, .load 4 (.tmp 9), 4, "deps.go:61", #[⟨5, .data⟩], none⟩) (v := ?_) rfl (by kernel_rfl) (by kernel_rfl) (by kernel_rfl) (fun _ _ _ h => h) (Or.inl ⟨by rfl, ?_⟩) (by assumption) ?_
   rotate_left
   · intro w hSw; (try dsimp only at hSw); first | (go_simp; done) | (go_simp; with_reducible rfl)
   try go_frame
   refine wpAnyH_take (i := 7) (oi := ⟨some 11, .unOp .not 4 (.tmp 10), 4, "deps.go:61", #[⟨6, .data⟩], none⟩) (v := ?_) rfl (by kernel_rfl) (by kernel_rfl) (by kernel_rfl) (fun _ _ _ h => h) (Or.inl ⟨by rfl, ?_⟩) (by assumption) ?_
   rotate_left
   · intro w hSw; (try dsimp only at hSw); first | (go_simp; done) | (go_simp; with_reducible rfl)
   try go_frame
   refine wpAnyH_done (by kernel_rfl) ?_ _
   go_upto_region 2 with fail
   have EY : Hid (Ext (W.alloc (.cells #[.int .i64 (rn : Int), .int .i64 (cn : Int)] 24)) ((W.alloc (.cells #[.int .i64 (rn : Int), .int .i64 (cn : Int)] 24)).drew)) := (Ext.refl _).drew
   generalize ((W.alloc (.cells #[.int .i64 (rn : Int), .int .i64 (cn : Int)] 24)).drew) = y0 at *
   have E0 : Ext W y0 := ((Ext.refl W).alloc _).trans EY.out
   obtain ⟨y1, hy1⟩ : ∃ y1, y0.drew = y1 := ⟨_, rfl⟩
   have E1 : Ext y0 y1 := by rw [← hy1]; exact (Ext.refl _).drew
   have r1 := ((E0.trans E1).block rb (heap_lt HM.out)).trans HM.out
   have f1 : y1.cell? ⟨rb, rn * 53 + cn, none⟩ = some (.bool false) := (mkS.out y1 (EY.out.trans E1)).2.2
   have f2 : y1.frozen? ⟨rb, rn * 53 + cn, none⟩ = false := frozen_of_row y1 rb _ _ _ r1
   have H2 : Hid _ := H.out.1.two (E0.trans E1) H.out.2.2
   have hbx : y1.heap[W.heap.size]? = some (.cells #[.int .i64 (rn : Int), .int .i64 (cn : Int)] 24) := Ext.top (EY.out.trans E1)
   have hbx2 : (y1.setCell ⟨rb, rn * 53 + cn, none⟩ (.bool true)).heap[W.heap.size]? = some (.cells #[.int .i64 (rn : Int), .int .i64 (cn : Int)] 24) := (heap_setCell_other y1 ⟨rb, rn * 53 + cn, none⟩ _ _ (fun e => by have := heap_lt HM.out; simp at e; omega)).trans hbx
   have HS9 : Hid ((fun V => V.cell? ⟨W.heap.size, 0, none⟩ = some (.int .i64 (rn : Int)) ∧ V.cell? ⟨W.heap.size, 1, none⟩ = some (.int .i64 (cn : Int))) (y1.setCell ⟨rb, rn * 53 + cn, none⟩ (.bool true))) := ⟨(cell_of_row _ _ 0 _ _ _ hbx2).trans rfl, (cell_of_row _ _ 1 _ _ _ hbx2).trans rfl⟩
   have HS8 : Hid ((fun V => V.cell? ⟨W.heap.size, 0, none⟩ = some (.int .i64 (rn : Int)) ∧ V.cell? ⟨W.heap.size, 1, none⟩ = some (.int .i64 (cn : Int))) y1) := ⟨(mkS.out y1 (EY.out.trans E1)).1, (mkS.out y1 (EY.out.trans E1)).2.1⟩
   clear mkS r1 hbx hbx2 E0 E1 EY HM hHeld0
   refine wp_region_held_drew (S := (fun V => V.cell? ⟨W.heap.size, 0, none⟩ = some (.int .i64 (rn : Int)) ∧ V.cell? ⟨W.heap.size, 1, none⟩ = some (.int .i64 (cn : Int)))) (by kernel_rfl) ?_ (fun hHeld0 => ?_)
   · (first | exact HS9.out | exact HS8.out | (rw [hy1]; exact HS8.out) | (refine mkS.out _ ?_; ((with_reducible (repeat (first | assumption | exact Ext.refl _ | apply Ext.drew | apply Ext.drewN | apply Ext.alloc))); done)))
   rw [hy1] at hHeld0 ⊢
   clear hy1
   refine wpAnyH_take (i := 0) (oi := ⟨some 12, .fieldAddr 24 (.tmp 3) 0, 0, "deps.go:62", #[], none⟩) (v := ?_) rfl (by kernel_rfl) (by kernel_rfl) (by kernel_rfl) (fun _ _ _ h => h) (Or.inl ⟨by rfl, ?_⟩) (by assumption) ?_
   rotate_left
   · intro w hSw; (try dsimp only at hSw); first | (go_simp; done) | (go_simp; with_reducible rfl)
   try go_frame
   refine wpAnyH_take (i := 1) (oi := ⟨some 13, .load 3 (.tmp 12), 3, "deps.go:62", #[⟨0, .data⟩], none⟩) (v := ?_) rfl (by kernel_rfl) (by kernel_rfl) (by kernel_rfl) (fun _ _ _ h => h) (Or.inl ⟨by rfl, ?_⟩) (by assumption) ?_
   rotate_left
   · intro w hSw; (try dsimp only at hSw); first | (go_simp; done) | (go_simp; with_reducible rfl)
   try go_frame
   refine wpAnyH_take (i := 2) (oi := ⟨some 14, .fieldAddr 24 (.tmp 3) 1, 0, "deps.go:62", #[], none⟩) (v := ?_) rfl (by kernel_rfl) (by kernel_rfl) (by kernel_rfl) (fun _ _ _ h => h) (Or.inl ⟨by rfl, ?_⟩) (by assumption) ?_
   rotate_left
   · intro w hSw; (try dsimp only at hSw); first | (go_simp; done) | (go_simp; with_reducible rfl)
   try go_frame
   refine wpAnyH_take (i := 3) (oi := ⟨some 15, .load 3 (.tmp 14), 3, "deps.go:62", #[⟨2, .data⟩], none⟩) (v := ?_) rfl (by kernel_rfl) (by kernel_rfl) (by kernel_rfl) (fun _ _ _ h => h) (Or.inl ⟨by rfl, ?_⟩) (by assumption) ?_
   rotate_left
   · intro w hSw; (try dsimp only at hSw); first | (go_simp; done) | (go_simp; with_reducible rfl)
   try go_frame
   refine wpAnyH_take (i := 4) (oi := ⟨some 16, .indexAddr 67 (.tmp 1) (.tmp 13), 0, "deps.go:62", #[⟨1, .data⟩], none⟩) (v := ?_) rfl (by kernel_rfl) (by kernel_rfl) (by kernel_rfl) (fun _ _ _ h => h) (Or.inl ⟨by rfl, ?_⟩) (by assumption) ?_
   rotate_left
   · intro w hSw; (try dsimp only at hSw); first | (go_simp; done) | (go_simp; with_reducible rfl)
   try go_frame
   refine wpAnyH_take (i := 5) (oi := ⟨some 17, .indexAddr 66 (.tmp 16) (.tmp 15), 0, "deps.go:62", #[⟨4, .data⟩, ⟨3, .data⟩, ⟨0, .phase⟩, ⟨1, .phase⟩, ⟨2, .phase⟩, ⟨3, .phase⟩], none⟩) (v := ?_) rfl (by kernel_rfl) (by kernel_rfl) (by kernel_rfl) (fun _ _ _ h => h) (Or.inl ⟨by rfl, ?_⟩) (by assumption) ?_
   rotate_left
   · intro w hSw; (try dsimp only at hSw); first | (go_simp; done) | (go_simp; with_reducible rfl)
   try go_frame
   refine wpAnyH_ready (rs := [6]) (by kernel_rfl) (by simp) ?_
   refine AllReadyH.cons (o := ⟨none, .store 4 (.tmp 17) (.const (.bool true)), 0, "deps.go:62", #[⟨5, .data⟩, ⟨0, .phase⟩, ⟨1, .phase⟩, ⟨2, .phase⟩, ⟨3, .phase⟩], none⟩) rfl (fun K hK => ?_) AllReadyH.nil
   go_simp
   skip
   try go_wp2_with fail
   refine hK.out _ _ ?_ (fun hHeld1 => ?_)
   · (try dsimp only); (first | exact HS9.out | exact HS8.out | (rw [hy1]; exact HS8.out) | (refine mkS.out _ ?_; ((with_reducible (repeat (first | assumption | exact Ext.refl _ | apply Ext.drew | apply Ext.drewN | apply Ext.alloc))); done)))
   clear hK K hHeld0
   try go_frame
   refine wpAnyH_done (by kernel_rfl) ?_ _
   clear f1 f2 HS8
   obtain ⟨g1, g2⟩ := HS9.out
   generalize (y1.setCell ⟨rb, rn * 53 + cn, none⟩ (.bool true)) = y2 at *
   obtain ⟨v, v1, v2, _⟩ := H2.out.1.v
   obtain ⟨pv, cv, rfl, _⟩ := own_form v2
   obtain ⟨nv, hnv⟩ : ∃ nv, L.length = nv := ⟨_, rfl⟩
   simp only [hnv] at v1 v2
   have HV : Hid (y2.heap[lb]? = some (.cells #[.slice pv nv cv] 34 (0, 0))) := v1
   have HO : Hid (y2.ownsRow W0.heap.size 24 2 (.slice pv nv cv) nv (L.flatMap cP) ∧ L.length = nv ∧ nv ≤ 700000) := ⟨v2, hnv, by have := H.out.2.1; omega⟩
   have b1 : y2.cell? ⟨lb, 0, none⟩ = some (.slice pv nv cv) := (cell_of_row y2 lb 0 _ _ _ v1).trans rfl
   clear v1 v2 hnv HS9
   go_wp2_with (at_builtin; refine app_g eltP cP_len cP_one (by decide) _ W0 _ _ _ _ nv 1 L [((rn : Int), (cn : Int))] W0.heap.size rfl rfl (by rfl) (by rfl) (ownsRow_ext HO.out.1 ((Ext.refl _).alloc _)) rfl (rd_oneP rfl (Ext.refl _)) (by have := HO.out.2.2; omega) (H2.out.1.e.alloc _) (Nat.le_refl _) (H2.out.1.e.alloc _).size ?_; intro v9 w9 O9 E9 G9 N9; obtain ⟨p9, c9, rfl, _⟩ := own_form O9; have H9 : Hid _ := H2.out.1.add HV.out ((Ext.refl _).alloc _) (by rw [HO.out.2.1]; exact O9) E9 G9 N9; obtain ⟨f1, f2⟩ := H9.out.1; clear O9 E9 G9 N9)
   refine bodyPost_ret (v := .tuple #[]) (by simp [results, Try.results32, go_sem]) rfl ?_
   obtain ⟨_, l9, k9⟩ := H9.out
   obtain ⟨_, m2, k2⟩ := H2.out
   have hk2 : ∀ k, P k → k < y2.heap.size := fun k hk => H2.out.1.pk k (.inl hk)
   refine ⟨rfl, ⟨?_, H.out.1.b, ?_, H.out.1.p⟩, fun k hk hlt => (k9 k (.inl hk) (hk2 k hk)).trans (k2 k hk hlt)⟩
   · unfold addP
     rw [if_neg HN.out]
     exact l9.a (Ext.refl _) (fun k hk => .inl (.inl hk))
   · unfold addP
     rw [if_neg HN.out]
     exact m2.keep (fun hlt => k9 rb (.inr rfl) hlt)
theorem showR (W0 : World) (rb lb : Nat) (L0 : List Pl) (hL : L0.length ≤ 300000) : ShowI W0 32 #[.pointer (some ⟨rb, 0, none⟩), .pointer (some ⟨lb, 0, none⟩)] (fun P qs W => RsV W0 rb lb P (qs.foldl addP L0) W) := by
 refine ⟨enters_of Try.func32 (by kernel_rfl) rfl, fun _ _ _ h => h.l.e, fun _ _ _ _ _ h e hp => h.a e hp, fun P qs r c W hl hp h => ?_⟩
 have hb := pin_bd hp
 simp at hb
 obtain ⟨rn, rfl⟩ : ∃ rn : Nat, r = (rn : Int) := ⟨r.toNat, by omega⟩
 obtain ⟨cn, rfl⟩ : ∃ cn : Nat, c = (cn : Int) := ⟨c.toNat, by omega⟩
 have := adds_len qs L0
 rw [List.foldl_append]
 exact reach1_any W0 W rb lb P _ rn cn h (by omega) hp

open Go.RowKit
set_option maxHeartbeats 1000000

theorem rsv_start (W : World) : RsV W W.heap.size (W.heap.size + 1) (fun _ => False) [] ((W.alloc (.cells Try.zeroCells67 67)).alloc (.cells #[.slice none 0 0] 34)) := by
 have e1 : Ext W (W.alloc (.cells Try.zeroCells67 67)) := (Ext.refl _).alloc _
 have e2 : Ext (W.alloc (.cells Try.zeroCells67 67)) ((W.alloc (.cells Try.zeroCells67 67)).alloc (.cells #[.slice none 0 0] 34)) := (Ext.refl _).alloc _
 have hs : (W.alloc (.cells Try.zeroCells67 67)).heap.size = W.heap.size + 1 := by simp
 refine ⟨⟨e1.trans e2, by omega, ⟨.slice none 0 0, by rw [← hs]; exact top_heap _ _, ⟨by simp, .inl ⟨rfl, rfl⟩⟩, fun _ _ h => h⟩, fun h => h, fun _ h => h.elim⟩, Nat.le_refl _, ⟨_, Ext.top e2, Try.zeroCells67_size, fun rn cn hp => ?_⟩, fun h => h⟩
 have hb := pin_bd hp
 simp at hb
 rw [zc_at _ (by omega)]
 simp
theorem RsV.cell {W0 W : World} {rb lb : Nat} {P : Nat → Prop} {L : List Pl} (h : RsV W0 rb lb P L W) : ∃ pv cv, W.heap[lb]? = some (.cells #[.slice pv L.length cv] 34 (0, 0)) ∧ W.cell? ⟨lb, 0, none⟩ = some (.slice pv L.length cv) ∧ W.ownsRow W0.heap.size 24 2 (.slice pv L.length cv) L.length (L.flatMap cP) := by
 obtain ⟨v, v1, v2, _⟩ := h.l.v
 obtain ⟨pv, cv, rfl, _⟩ := own_form v2
 exact ⟨pv, cv, v1, (cell_of_row W lb 0 _ _ _ v1).trans rfl, v2⟩
set_option maxRecDepth 100000 in
theorem reach_any (W : World) (base b n : Nat) (g : Option Nat) (vs : List Value) (σ : Sg) (v : Value) (l : List Pl) (h : Dps W base b g n vs σ) (hn : n ≤ 1000) (hR : RdP W v l) (hl : l.length ≤ 50000) :
   Calls Try.prog 18 #[.pointer (some ⟨b, 0, none⟩), v] W fun e w' => ∃ d, IsRch σ l d ∧ DirQ W d e w' := by
 obtain ⟨p, cp, rfl, _⟩ := hR.form
 have H : Hid (Dps W base b g n vs σ ∧ n ≤ 1000 ∧ l.length ≤ 50000 ∧ σ.length ≤ 1000) := ⟨h, hn, hl, Nat.le_trans h.n hn⟩
 have HR : Hid (RdP W (.slice p l.length cp) l) := hR
 have HS0 : Hid _ := rsv_start W
 have eg := (showR W W.heap.size (W.heap.size + 1) [] (by simp)).eg
 obtain ⟨ln, hln⟩ : ∃ ln, l.length = ln := ⟨_, rfl⟩
 have HLN : Hid (l.length = ln ∧ ln ≤ 50000) := ⟨hln, by omega⟩
 rw [hln] at HR ⊢
 clear h hn hR hl hln
 go_enter Try.func18, Try.ntmps18
 go_wp2_with fail
 go_loopw [14] (fun x wr => ∃ k : Nat, x = .int .i64 (k : Int) ∧ k ≤ ln ∧ RsV W W.heap.size (W.heap.size + 1) (fun _ => False) (((l.take k).filter pin).foldl addP []) wr) (fun x _ => ln - (intOf x).toNat)
 case atStart => exact ⟨0, rfl, Nat.zero_le _, by simpa using HS0.out⟩
 case round =>
   clear HS0
   obtain ⟨k, rfl, hk, hS⟩ := hrel
   have HS : Hid (RsV W W.heap.size (W.heap.size + 1) (fun _ => False) (((l.take k).filter pin).foldl addP []) wr) := hS
   have wk := wrapI k (by have := HLN.out.2; omega)
   rcases Nat.lt_or_ge k ln with hlt | hge
   · have hltI : (k : Int) < (ln : Int) := by omega
     obtain ⟨s, hs⟩ : ∃ s, l[k]? = some s := ⟨_, List.getElem?_eq_getElem (by rw [HLN.out.1]; exact hlt)⟩
     obtain ⟨sb, so, rfl, _, d1, d2⟩ := RdP.cell (HR.out.ext hS.l.e) hs
     obtain ⟨s1, s2⟩ := s
     have HK : Hid (((l.take (k + 1)).filter pin).foldl addP [] = if pin (s1, s2) then addP (((l.take k).filter pin).foldl addP []) (s1, s2) else ((l.take k).filter pin).foldl addP []) := flt_snoc hs
     have c1 := fun W => in_any s1 s2 W
     have hA := hS.a (P' := fun _ => False) ((Ext.refl wr).alloc (.cells #[.int .i64 s1, .int .i64 s2] 24)) (fun _ h => h.elim)
     have HA : Hid _ := hA
     clear hs hS
     cases hp : inB s1 s2
     · have HN : Hid (RsV W W.heap.size (W.heap.size + 1) (fun _ => False) (((l.take (k + 1)).filter pin).foldl addP []) (wr.alloc (.cells #[.int .i64 s1, .int .i64 s2] 24))) := by
         rw [show ((l.take (k + 1)).filter pin).foldl addP [] = _ from HK.out, if_neg (by rw [show pin (s1, s2) = false from hp]; simp)]
         exact HA.out
       rw [hp] at c1
       clear hp hA
       go_wp2_with fail
       refine (c1 _).mono ?_
       rintro e w5 ⟨rfl, rfl⟩
       go_wp2_with fail
       go_roundw
       case rel => exact ⟨k + 1, by rw [wk], hlt, HN.out⟩
       case measure => rw [wk]; simp [intOf]; omega
     · have cS := (showR W W.heap.size (W.heap.size + 1) [] (by simp)).s (fun _ => False) ((l.take k).filter pin) s1 s2 _ (by
         have h3 := List.length_filter_le pin (l.take k)
         have h4 := HLN.out
         simp only [List.length_take] at h3
         omega) hp hA
       have HP : Hid (pin (s1, s2) = true) := hp
       rw [hp] at c1
       clear hp hA
       go_wp2_with fail
       refine (c1 _).mono ?_
       rintro e w5 ⟨rfl, rfl⟩
       go_wp2_with fail
       refine cS.mono ?_
       rintro e w6 ⟨rfl, I6, _⟩
       have HN : Hid (RsV W W.heap.size (W.heap.size + 1) (fun _ => False) (((l.take (k + 1)).filter pin).foldl addP []) w6) := by
         rw [show ((l.take (k + 1)).filter pin).foldl addP [] = _ from HK.out, if_pos HP.out]
         rw [List.foldl_append] at I6
         exact I6
       clear I6 cS c1 d1 d2
       go_wp2_with fail
       go_roundw
       case rel => exact ⟨k + 1, by rw [wk], hlt, HN.out⟩
       case measure => rw [wk]; simp [intOf]; omega
   · have hltI : ¬ (k : Int) < (ln : Int) := by omega
     have HI0 : Hid (RsV W W.heap.size (W.heap.size + 1) (fun _ => False) ((l.filter pin).foldl addP []) wr) := by
       have := hS
       rw [List.take_of_length_le (by rw [HLN.out.1]; exact hge)] at this
       exact this
     clear hS HS
     go_wp2_with fail
     go_loopw [10] (fun x w2 => ∃ (k : Nat) (L : List Pl), x = .int .i64 (k : Int) ∧ RsV W W.heap.size (W.heap.size + 1) (fun _ => False) L w2 ∧ RInv σ l L k) (fun x _ => l.length + σ.length - (intOf x).toNat)
     case atStart => exact ⟨0, _, rfl, HI0.out, rinv_start σ l⟩
     case round =>
       clear HI0
       obtain ⟨j, L, rfl, hS, hI⟩ := hrel
       obtain ⟨pv, cv, v1, v2, v3⟩ := hS.cell
       obtain ⟨nv, hnv⟩ : ∃ nv, L.length = nv := ⟨_, rfl⟩
       rw [hnv] at v1 v2 v3
       have HS : Hid (RsV W W.heap.size (W.heap.size + 1) (fun _ => False) L wr ∧ RInv σ l L j ∧ L.length = nv ∧ nv ≤ 51000) := ⟨hS, hI, hnv, by have := rinv_len hI; have := H.out; omega⟩
       have wj := wrapI j (by have := hI.k; have := HS.out.2.2.2; omega)
       rcases Nat.lt_or_ge j nv with hlt | hge2
       · have hltJ : (j : Int) < (nv : Int) := by omega
         obtain ⟨s, hs⟩ : ∃ s, L[j]? = some s := ⟨_, List.getElem?_eq_getElem (by rw [hnv]; exact hlt)⟩
         obtain ⟨sb, so, rfl, _, d1, d2⟩ := RdP.cell (own_rdG cP_len v3 hnv.symm) hs
         obtain ⟨s1, s2⟩ := s
         have cE := each2_any W wr base b n g vs σ H.out.1 H.out.2.1 32 W.heap.size (W.heap.size + 1) (fun P qs W' => RsV W W.heap.size (W.heap.size + 1) P (qs.foldl addP L) W') (showR W W.heap.size (W.heap.size + 1) L (by have := HS.out.2.2; omega)) [] hS (by simp) s1 s2
         have HK : Hid (RInv σ l ((dirS σ (s1, s2)).foldl addP L) (j + 1)) := rinv_step hI hs
         have hml : j < l.length + σ.length := by have := rinv_len hI; omega
         clear hs hS hI v1 v3 hnv
         go_wp2_with fail
         refine cE.mono ?_
         rintro e w6 ⟨rfl, I6⟩
         rw [List.nil_append, each_dir H.out.1.ok (nice σ) (s1, s2)] at I6
         have HN : Hid _ := I6
         clear I6 cE d1 d2 v2
         go_wp2_with fail
         go_roundw
         case rel => exact ⟨j + 1, _, by rw [wj], HN.out, HK.out⟩
         case measure => rw [wj]; simp [intOf]; omega
       · have hltJ : ¬ (j : Int) < (nv : Int) := by omega
         have cS := sortP_any wr W.heap.size nv (.slice pv nv cv) L v3 hnv.symm (by have := HS.out.2.2; omega) hI.d
         have hne : (Value.slice pv nv cv).ownBlock ≠ some (W.heap.size + 1) := fun e => by
           obtain ⟨_, cur, h4⟩ := own_heap v3 e
           rw [v1] at h4
           cases h4
         have H2 : Hid (wr.heap[W.heap.size + 1]? = some (.cells #[.slice pv nv cv] 34 (0, 0)) ∧ (Value.slice pv nv cv).ownBlock ≠ some (W.heap.size + 1) ∧ wr.ownsRow W.heap.size 24 2 (.slice pv nv cv) nv (L.flatMap cP) ∧ ∀ x, x ∈ L ↔ Rch σ l x) := ⟨v1, hne, v3, rinv_end hI (by omega)⟩
         clear hS hI v1 v3 hnv hne
         go_wp2_with fail
         refine cS.mono ?_
         rintro e w3 ⟨d, rfl, hp, hs, O3, G3⟩
         have l3 : w3.heap[W.heap.size + 1]? = some (.cells #[.slice pv nv cv] 34 (0, 0)) := (G3.block _ (heap_lt H2.out.1) (fun e => H2.out.2.1 e.symm)).trans H2.out.1
         have d3 := (cell_of_row w3 (W.heap.size + 1) 0 _ _ _ l3).trans (rfl : (#[.slice pv nv cv] : Array Value)[0]? = some (.slice pv nv cv))
         have HQ : Hid (∃ d, IsRch σ l d ∧ DirQ W d (.returned (.slice pv nv cv)) w3) := by
           refine ⟨d, ⟨hs, fun x => by rw [hp.mem_iff]; exact H2.out.2.2.2 x, by rw [hp.length_eq]; exact rinv_len HS.out.2.1⟩, _, rfl, by rw [hp.length_eq, HS.out.2.2.1]; exact O3, ext_grownG H2.out.2.2.1 (Nat.le_refl _) HS.out.1.l.e G3⟩
         clear cS hp hs O3 G3 l3 v2
         go_wp2_with fail
         go_ret
         exact HQ.out

open Go.RowKit
set_option maxHeartbeats 1000000

theorem pidx_any (w : World) (v : Value) (l : List Pl) (p1 p2 : Int) (h : RdP w v l) (hl : l.length ≤ 200000) :
   Calls Try.prog 44 #[v, .agg #[.int .i64 p1, .int .i64 p2]] w fun e w' => ∃ i : Int, e = .returned (.int .i64 i) ∧ decide (i ≥ 0) = decide ((p1, p2) ∈ l) ∧ Ext w w' := by
 obtain ⟨p, c, rfl, _⟩ := h.form
 have HR : Hid (RdP w (.slice p l.length c) l) := h
 have HL : Hid (l.length ≤ 200000) := hl
 clear h hl
 go_enter Try.func44, Try.ntmps44
 go_wp2_with fail
 go_loopw [8] (fun x wr => ∃ k : Nat, x = .int .i64 (k : Int) ∧ k ≤ l.length ∧ Ext (w.alloc (.cells #[.int .i64 p1, .int .i64 p2] 24)) wr ∧ (p1, p2) ∉ l.take k) (fun x _ => l.length - (intOf x).toNat)
 case atStart => exact ⟨0, rfl, Nat.zero_le _, Ext.refl _, by simp⟩
 case round =>
   obtain ⟨k, rfl, hk, hE, hn⟩ := hrel
   have HE : Hid (Ext (w.alloc (.cells #[.int .i64 p1, .int .i64 p2] 24)) wr) := hE
   have HN : Hid ((p1, p2) ∉ l.take k) := hn
   obtain ⟨q1, q2⟩ := box2 hE
   clear hE hn
   rcases Nat.lt_or_ge k l.length with hlt | hge
   · have hltI : (k : Int) < (l.length : Int) := by omega
     obtain ⟨s, hs⟩ : ∃ s, l[k]? = some s := ⟨_, List.getElem?_eq_getElem hlt⟩
     obtain ⟨b, off, rfl, _, c1, c2⟩ := RdP.cell (HR.out.ext (((Ext.refl w).alloc _).trans HE.out)) hs
     have wk := wrapI k (by have := HL.out; omega)
     obtain ⟨s1, s2⟩ := s
     have HS : Hid (l[k]? = some (s1, s2)) := hs
     clear hs
     go_upto_region 4 with fail
     have qE := eq_pl p1 p2 s1 s2
     have qG := gd_pl
     cases he : (p1 == s1 && p2 == s2)
     · have HT : Hid ((p1, p2) ∉ l.take (k + 1)) := by
         rw [show l.take (k + 1) = l.take k ++ [(s1, s2)] from take_at HS.out]
         intro h
         rcases List.mem_append.1 h with h | h
         · exact HN.out h
         · simp at h; simp [h.1, h.2] at he
       rw [he] at qE
       clear he
       go_quiet (fail)
       go_wp2
       go_roundw
       case rel => exact ⟨k + 1, by rw [wk], hlt, HE.out.drewN _, HT.out⟩
       case measure => rw [wk]; simp [intOf]; omega
     · have HT : Hid ((p1, p2) ∈ l) := by
         have h1 := List.mem_of_getElem? HS.out
         simp at he
         rw [he.1, he.2]; exact h1
       rw [he] at qE
       clear he
       go_quiet (fail)
       go_wp2
       go_ret
       exact ⟨(k : Int), rfl, by simp [HT.out], ((Ext.refl w).alloc _).trans (HE.out.drewN _)⟩
   · have hltI : ¬ (k : Int) < (l.length : Int) := by omega
     have HT : Hid ((p1, p2) ∉ l) := by have := HN.out; rwa [List.take_of_length_le hge] at this
     go_wp2
     go_ret
     exact ⟨-1, rfl, by simp [HT.out], ((Ext.refl w).alloc _).trans HE.out⟩
theorem pcont_any (w : World) (v : Value) (l : List Pl) (p1 p2 : Int) (h : RdP w v l) (hl : l.length ≤ 200000) :
   Calls Try.prog 31 #[v, .agg #[.int .i64 p1, .int .i64 p2]] w fun e w' => e = .returned (.bool (decide ((p1, p2) ∈ l))) ∧ Ext w w' := by
 have cI := fun W (e : Ext w W) => pidx_any W v l p1 p2 (h.ext e) hl
 generalize decide ((p1, p2) ∈ l) = t at *
 clear h hl
 go_enter Try.func31, Try.ntmps31
 go_wp2_with fail
 refine (cI _ ((Ext.refl _).alloc _)).mono ?_
 rintro e w2 ⟨i, rfl, hi, E2⟩
 have HE : Hid (Ext w w2 ∧ decide (i ≥ 0) = t) := ⟨((Ext.refl w).alloc _).trans E2, hi⟩
 clear E2 cI hi
 by_cases hi : i ≥ 0
 · have HT : Hid (true = decide (i ≥ 0)) := (decide_eq_true hi).symm
   go_wp2_with fail
   go_ret
   exact ⟨ret_bool (by first | exact HT.out.trans HE.out.2 | exact HE.out.2), HE.out.1⟩
 · have HT : Hid (false = decide (i ≥ 0)) := (decide_eq_false hi).symm
   go_wp2_with fail
   go_ret
   exact ⟨ret_bool (by first | exact HT.out.trans HE.out.2 | exact HE.out.2), HE.out.1⟩
theorem rch_congr {σ : Sg} {l m : List Pl} (h : ∀ x, x ∈ l ↔ x ∈ m) (x : Pl) : Rch σ l x ↔ Rch σ m x := by
 constructor
 · intro hx
   induction hx with
   | base h1 h2 => exact .base ((h _).1 h1) h2
   | step _ hb ih => exact .step ih hb
 · intro hx
   induction hx with
   | base h1 h2 => exact .base ((h _).2 h1) h2
   | step _ hb ih => exact .step ih hb
theorem cyclic_any (W : World) (base b n : Nat) (g : Option Nat) (vs : List Value) (σ : Sg) (r c : Int) (h : Dps W base b g n vs σ) (hn : n ≤ 1000) :
   Calls Try.prog 14 #[.pointer (some ⟨b, 0, none⟩), .int .i64 r, .int .i64 c] W fun e w' => ∃ t, e = .returned (.bool t) ∧ (t = true ↔ Rch σ (dirS σ (r, c)) (r, c)) ∧ Ext W w' := by
 have cD := direct_any W base b n g vs σ r c h hn
 have H : Hid (Dps W base b g n vs σ ∧ n ≤ 1000 ∧ σ.length ≤ 1000) := ⟨h, hn, Nat.le_trans h.n hn⟩
 clear h hn
 go_enter Try.func14, Try.ntmps14
 go_wp2_with fail
 refine cD.mono ?_
 rintro e w2 ⟨d, ⟨k1, k2, k3⟩, v2, rfl, O2, E2⟩
 have cR := reach_any w2 base b n g vs σ v2 d (H.out.1.ext E2) H.out.2.1 (own_rdG cP_len O2 rfl) (by have := H.out.2.2; omega)
 have H2 : Hid (Ext W w2 ∧ d.length ≤ 1000 ∧ ∀ x, x ∈ d ↔ x ∈ dirS σ (r, c)) := ⟨E2, by have := H.out.2.2; omega, k2⟩
 clear cD k1 k2 k3 O2 E2
 go_wp2_with fail
 refine cR.mono ?_
 rintro e w3 ⟨f, ⟨k1, k2, k3⟩, v3, rfl, O3, E3⟩
 have cC := pcont_any w3 v3 f r c (own_rdG cP_len O3 rfl) (by have := H2.out.2.1; have := H.out.2.2; omega)
 have HT : Hid (decide ((r, c) ∈ f) = true ↔ Rch σ (dirS σ (r, c)) (r, c)) := by
   show _ ↔ _
   rw [decide_eq_true_iff, k2, rch_congr H2.out.2.2]
 generalize decide ((r, c) ∈ f) = t at *
 have H3 : Hid (Ext W w3) := H2.out.1.trans E3
 clear cR k1 k2 k3 O3 E3
 go_wp2_with fail
 refine cC.mono ?_
 rintro e w4 ⟨rfl, E4⟩
 have H4 : Hid (Ext W w4) := H3.out.trans E4
 clear cC E4
 go_wp2_with fail
 go_ret
 exact ⟨t, rfl, HT.out, H4.out⟩

open Go.RowKit
set_option maxHeartbeats 1000000

theorem live_d {d : List Pl} (h : IsRch (setS [] (2, 1) [⟨1, 1, 1, 1⟩]) [(1, 1)] d) : d = [(1, 1), (2, 1)] := by
 have hs : setS [] (2, 1) [⟨1, 1, 1, 1⟩] = [((2, 1), [⟨1, 1, 1, 1⟩])] := by decide
 rw [hs] at h
 have d1 : ∀ a : Pl, dirS [((2, 1), [(⟨1, 1, 1, 1⟩ : Rc)])] a = if a = (1, 1) then [(2, 1)] else [] := fun a => by
   have hh : ([(⟨1, 1, 1, 1⟩ : Rc)].any fun x => x.has a) = decide (a = (1, 1)) := by
     rw [Bool.eq_iff_iff]
     unfold Rc.has hasR
     simp only [List.any_cons, List.any_nil, Bool.or_false]
     rw [show canR 1 1 1 1 = true by decide]
     simp [Prod.ext_iff]
     omega
   unfold dirS
   by_cases ha : a = (1, 1)
   · rw [if_pos ha, List.filter_cons_of_pos (by rw [hh]; simp [ha])]; rfl
   · rw [if_neg ha, List.filter_cons_of_neg (by rw [hh]; simp [ha])]; rfl
 refine ltp_one h.1 (by simp [Ltp]) (fun x => ?_)
 rw [h.2.1]
 constructor
 · intro hx
   induction hx with
   | base h1 _ => simp at h1; simp [h1]
   | @step a b _ hb _ =>
     rw [d1] at hb
     split at hb
     · simp at hb; simp [hb]
     · cases hb
 · intro hx
   have b0 : Rch [((2, 1), [(⟨1, 1, 1, 1⟩ : Rc)])] [(1, 1)] (1, 1) := .base (by simp) (by decide)
   simp at hx
   rcases hx with rfl | rfl
   · exact b0
   · exact .step b0 (by rw [d1]; simp)
theorem rd_twoP {W V : World} {x1 x2 y1 y2 : Int} {b : Nat} (hb : W.heap.size = b) (e : Ext (W.alloc (.cells #[.int .i64 x1, .int .i64 x2, .int .i64 y1, .int .i64 y2] 24)) V) : RdP V (.slice (some ⟨b, 0, none⟩) 2 2) [(x1, x2), (y1, y2)] := by
 have ht := Ext.top e
 rw [hb] at ht
 refine ⟨_, 2, rfl, Nat.le_refl _, .inr ⟨b, 0, rfl, heap_lt ht, fun i x j u hi hj => ?_⟩⟩
 have hi2 : i < 2 := (List.getElem?_eq_some_iff.1 hi).1
 have hj2 : j < 2 := by
   have := (List.getElem?_eq_some_iff.1 hj).1
   exact this
 rw [cell_of_row V b _ _ _ _ ht]
 match i, hi2, j, hj2 with
 | 0, _, 0, _ => simp at hi; subst hi; exact hj
 | 0, _, 1, _ => simp at hi; subst hi; exact hj
 | 1, _, 0, _ => simp at hi; subst hi; exact hj
 | 1, _, 1, _ => simp at hi; subst hi; exact hj
set_option maxRecDepth 100000 in
theorem lives_any (w : World) : Calls Try.prog 16 #[] w fun e w' => e = .returned (.bool true) ∧ Ext w w' := by
 have cN := new_any w w.heap.size (Nat.le_refl _)
 go_enter Try.func16, Try.ntmps16
 go_wp2_with fail
 refine cN.mono ?_
 rintro e w1 ⟨rfl, ⟨vs, D1⟩, E1⟩
 have E1' : Ext w (w1.alloc (.cells #[.int .i64 1, .int .i64 1, .int .i64 1, .int .i64 1] 32)) := E1.alloc _
 have cS := set_any (w1.alloc (.cells #[.int .i64 1, .int .i64 1, .int .i64 1, .int .i64 1] 32)) w.heap.size w.heap.size 0 none vs [] 2 1 (.slice (some ⟨w1.heap.size, 0, none⟩) 1 1) [⟨1, 1, 1, 1⟩] E1'.size (D1.ext ((Ext.refl _).alloc _)) (by omega) (rd_oneR (x := ⟨1, 1, 1, 1⟩) (Ext.refl _)) (fun a m cp' ev _ => .inl (by cases ev; rw [top_heap]; rfl)) (by simp)
 have HE1 : Hid _ := E1'
 clear cN D1 E1 E1'
 go_wp2_with fail
 refine cS.mono ?_
 rintro e w2 ⟨rfl, ⟨g2, vs2, D2⟩, E2⟩
 have X2 : Ext w w2 := E2.ext HE1.out (Nat.le_refl _)
 have H2 : Hid (Dps w2 w.heap.size w.heap.size g2 1 vs2 (setS [] (2, 1) [⟨1, 1, 1, 1⟩]) ∧ Ext w w2) := ⟨D2, X2⟩
 have p1 : pin (2, 1) = true := by decide
 rw [p1]
 have cR := reach_any (w2.alloc (.cells #[.int .i64 1, .int .i64 1] 24)) w.heap.size w.heap.size 1 g2 vs2 _ (.slice (some ⟨w2.heap.size, 0, none⟩) 1 1) [(1, 1)] (D2.ext ((Ext.refl _).alloc _)) (by omega) (rd_oneP rfl (Ext.refl _)) (by simp)
 clear cS D2 E2 X2 p1
 go_wp2_with fail
 refine cR.mono ?_
 rintro e w3 ⟨d, hd, v3, rfl, O3, E3⟩
 have hd2 := live_d hd
 subst hd2
 have X3 : Ext w w3 := (H2.out.2.alloc _).trans E3
 have D3 := H2.out.1.ext (((Ext.refl w2).alloc (.cells #[.int .i64 1, .int .i64 1] 24)).trans E3)
 have cM := psame_any (w3.alloc (.cells #[.int .i64 1, .int .i64 1, .int .i64 2, .int .i64 1] 24)) v3 (.slice (some ⟨w3.heap.size, 0, none⟩) 2 2) [(1, 1), (2, 1)] [(1, 1), (2, 1)] ((own_rdG cP_len O3 rfl).ext ((Ext.refl _).alloc _)) (rd_twoP rfl (Ext.refl _)) (by simp)
 rw [show decide ([((1 : Int), (1 : Int)), (2, 1)] = [(1, 1), (2, 1)]) = true by simp] at cM
 have H3 : Hid (Ext w w3 ∧ Dps w3 w.heap.size w.heap.size g2 1 vs2 (setS [] (2, 1) [⟨1, 1, 1, 1⟩])) := ⟨X3, D3⟩
 clear cR O3 E3 hd X3 D3
 go_wp2_with fail
 refine cM.mono ?_
 rintro e w4 ⟨rfl, E4⟩
 have X4 : Ext w3 w4 := ((Ext.refl w3).alloc _).trans E4
 have cT := set_any w4 w.heap.size w.heap.size 1 g2 vs2 _ 0 1 (.slice none 0 0) [] (H3.out.1.trans X4).size (H3.out.2.ext X4) (by omega) (RdG.nil w4) (fun a m cp' ev _ => by cases ev) (by simp)
 have HX4 : Hid (Ext w w4) := H3.out.1.trans X4
 clear cM E4 X4
 go_wp2_with fail
 refine cT.mono ?_
 rintro e w5 ⟨rfl, _, E5⟩
 have X5 : Hid (Ext w w5) := E5.ext HX4.out (Nat.le_refl _)
 have p1 : pin (0, 1) = false := by decide
 rw [p1]
 clear cT E5 p1
 go_wp2_with fail
 go_ret
 exact ⟨rfl, X5.out⟩
/-- What some acts come to. -/
def actK (Z : List Zt) (k : Nat) : Sg := (Z.take k).foldl (fun σ z => setS σ z.e.1 (z.e.2.take 8)) []
theorem actK_snoc {Z : List Zt} {k : Nat} {z : Zt} (h : Z[k]? = some z) : actK Z (k + 1) = setS (actK Z k) (z.e.1.1, z.e.1.2) (z.e.2.take 8) := by
 unfold actK
 rw [take_at h, List.foldl_append]
 rfl
theorem step_app2 {α : Type} {c : α → List Value} {TS T : TypeId} {k bytes : Nat} (hT : Elt TS T k bytes) (hc : ∀ x, (c x).length = k) (h1 : ∀ x, ∀ v ∈ c x, v.oneCell' = true) (hby : bytes ≤ 1000) {ops : Array Oper} {o : Oper} {a : Act} {K : Act → World → Prop} {Q : Exit → Act → World → Prop} {E : Prop} (W : World) (s x : Operand) (v va : Value) (n m : Nat) (l news : List α) (base : Nat) (hgd : o.guard = none)
   (ho : o.op = .call { callee := .builtin .append, args := #[s, x], argTypes := #[TS, TS] })
   (hs : a.eval s = v) (hx : a.eval x = va) (hB : W.ownsRow base T k v n (l.flatMap c)) (hm : news.length = m) (hR : RdG c k W va news) (hl : n + m ≤ 1000000) (hb2 : base ≤ W.heap.size)
   (h : ∀ v' W', W'.ownsRow base T k v' (n + m) ((l ++ news).flatMap c) → W.grownBy W' v.ownBlock → (v'.ownBlock = v.ownBlock ∨ v'.ownBlock = some W.heap.size) → K (a.put o.dst v') W') : if Region.wanted o (yielded ops a.tmps) = true then Oper.wp Try.prog o a W K Q else E := by
 obtain ⟨p, cp, rfl, hcp⟩ := hR.form
 cases p with
 | some ad => rw [hm] at hR hx; exact step_app hT hc h1 hby W s x v ad n m cp l news base hgd ho hs hx hB hm hR hl hb2 h
 | none =>
   have hn : news = [] := by
     obtain ⟨p', c', q1, q2, q3⟩ := hR
     cases q1
     rcases q3 with q3 | ⟨b', o', q4, _⟩
     · exact q3
     · cases q4
   subst hn
   subst hm
   have hw : Region.wanted o (yielded ops a.tmps) = true := by simp [Region.wanted, hgd]
   rw [if_pos hw]
   obtain ⟨p, cap, rfl, hc'⟩ := own_form hB
   have hr := run_append_noneG hT W o.type p n cap cp hc'
   unfold Oper.wp
   simp [execOp, ho, resolve, invoke, builtin, hs, hx, hr, Result.andThen]
   exact h _ W (by simpa using hB) ⟨rfl, rfl, rfl, Nat.le_refl _, fun _ _ _ => rfl⟩ (.inl rfl)
/-- What begins leaves. -/
def BegQ (w : World) (Z : List Zt) (e : Ending) (w' : World) : Prop := ∃ b bm g vs, e = .returned (.tuple #[.pointer (some ⟨b, 0, none⟩), .pointer (some ⟨bm, 0, none⟩), .bool true]) ∧ Dps w' w.heap.size b g 30 vs (actK Z 30) ∧ RfD w' w.heap.size bm (actK Z 30) ∧ Ext w w'
set_option maxRecDepth 100000 in
theorem begins_any (w : World) (v : Value) (Z : List Zt) (hZ : RdG cZ 3 w v Z) (hz : ∀ z ∈ Z, RdR w z.v z.e.2) : Calls Try.prog 8 #[v] w (BegQ w Z) := by
 obtain ⟨p, cp, rfl, _⟩ := hZ.form
 obtain ⟨zn, hzn⟩ : ∃ zn, Z.length = zn := ⟨_, rfl⟩
 rw [hzn] at hZ ⊢
 have HZ : Hid (RdG cZ 3 w (.slice p zn cp) Z ∧ (∀ z ∈ Z, RdR w z.v z.e.2) ∧ Z.length = zn) := ⟨hZ, hz, hzn⟩
 have cN := new_any w w.heap.size (Nat.le_refl _)
 clear hZ hz hzn
 go_enter Try.func8, Try.ntmps8
 go_wp2_with fail
 refine cN.mono ?_
 rintro e w1 ⟨rfl, ⟨vs, D1⟩, E1⟩
 have HS0 : Hid (Dps (w1.alloc (.cells #[.slice none 0 0] 50)) w.heap.size w.heap.size none 0 vs (actK Z 0) ∧ RfD (w1.alloc (.cells #[.slice none 0 0] 50)) w.heap.size w1.heap.size (actK Z 0) ∧ Ext w (w1.alloc (.cells #[.slice none 0 0] 50))) := ⟨D1.ext ((Ext.refl _).alloc _), rf_new w1 w.heap.size E1.size, E1.alloc _⟩
 clear cN D1 E1
 go_wp2_with fail
 generalize w1.heap.size = bm at *
 go_loopw [7] (fun x wr => ∃ (k : Nat) (g : Option Nat) (vs : List Value), x = .int .i64 (k : Int) ∧ k ≤ 30 ∧ k ≤ zn ∧ Dps wr w.heap.size w.heap.size g k vs (actK Z k) ∧ RfD wr w.heap.size bm (actK Z k) ∧ Ext w wr) (fun x _ => 30 - (intOf x).toNat)
 case atStart => exact ⟨0, none, vs, rfl, by omega, Nat.zero_le _, HS0.out⟩
 case round =>
   clear HS0
   obtain ⟨k, g, vs, rfl, hk30, hkz, hS⟩ := hrel
   have HS : Hid (Dps wr w.heap.size w.heap.size g k vs (actK Z k) ∧ RfD wr w.heap.size bm (actK Z k) ∧ Ext w wr) := hS
   have HQ : Hid (¬ (k < zn ∧ k < 30) → BegQ w Z (.returned (.tuple #[.pointer (some ⟨w.heap.size, 0, none⟩), .pointer (some ⟨bm, 0, none⟩), .bool true])) wr) := fun hn => by
     have ea : actK Z k = actK Z 30 := by
       unfold actK
       have hl := HZ.out.2.2
       rcases Nat.lt_or_ge k 30 with h | h
       · rw [List.take_of_length_le (by omega), List.take_of_length_le (by omega)]
       · rw [show k = 30 by omega]
     rw [ea] at hS
     exact ⟨_, _, g, vs, rfl, hS.1.more hk30, hS.2.1, hS.2.2⟩
   by_cases hz : k < zn
   · by_cases h30 : k < 30
     · have hltZ : k + 1 ≤ zn := hz
       have hzI : (k : Int) < (zn : Int) := by omega
       have h30I : (k : Int) < 30 := by omega
       obtain ⟨z, hzk⟩ : ∃ z, Z[k]? = some z := ⟨_, List.getElem?_eq_getElem (by rw [HZ.out.2.2]; exact hz)⟩
       have HZK : Hid (Z[k]? = some z) := hzk
       obtain ⟨zb, zo, rfl, _, d1, d2, d3⟩ := z3 (HZ.out.1.ext hS.2.2) hzk
       have hrz := HZ.out.2.1 z (List.mem_of_getElem? hzk)
       obtain ⟨lp, lc, hv, hlc⟩ := hrz.form
       obtain ⟨ln, hln⟩ : ∃ ln, z.e.2.length = ln := ⟨_, rfl⟩
       rw [hln] at hv hlc
       rw [hv] at d3 hrz
       have HRZ : Hid (RdR w (.slice lp ln lc) z.e.2 ∧ z.e.2.length = ln) := ⟨hrz, hln⟩
       clear hv hrz hln hzk hS HQ
       by_cases h8 : ln > 8
       · have h8I : (ln : Int) > 8 := by omega
         have h8c : 8 ≤ lc := by omega
         have HRW : Hid (∀ V, Ext w V → RdR V (.slice lp 8 lc) (z.e.2.take 8)) := fun V e => (HRZ.out.1.ext e).part 8 (by rw [HRZ.out.2]; omega)
         obtain ⟨y0, hy0⟩ : ∃ y0, World.drew (wr.alloc (.cells #[.int .i64 z.e.1.1, .int .i64 z.e.1.2, .slice lp ln lc] 52)) = y0 := ⟨_, rfl⟩
         have EY : Hid (Ext (wr.alloc (.cells #[.int .i64 z.e.1.1, .int .i64 z.e.1.2, .slice lp ln lc] 52)) y0) := by
           show Ext _ _
           rw [← hy0]
           exact (Ext.refl _).drew
         have EW : Ext w y0 := (HS.out.2.2.alloc _).trans EY.out
         have hbx : y0.heap[wr.heap.size]? = some (.cells #[.int .i64 z.e.1.1, .int .i64 z.e.1.2, .slice lp ln lc] 52) := Ext.top EY.out
         have cellS : ∀ V : World, V.heap[wr.heap.size]? = some (.cells #[.int .i64 z.e.1.1, .int .i64 z.e.1.2, .slice lp ln lc] 52) → (fun V => V.cell? ⟨wr.heap.size, 0, none⟩ = some (.int .i64 z.e.1.1) ∧ V.cell? ⟨wr.heap.size, 1, none⟩ = some (.int .i64 z.e.1.2)) V := fun V hV => ⟨(cell_of_row V _ 0 _ _ _ hV).trans rfl, (cell_of_row V _ 1 _ _ _ hV).trans rfl⟩
         have mkS : Hid (∀ V, Ext y0 V → (fun V => V.cell? ⟨wr.heap.size, 0, none⟩ = some (.int .i64 z.e.1.1) ∧ V.cell? ⟨wr.heap.size, 1, none⟩ = some (.int .i64 z.e.1.2)) V) := fun V e => cellS V ((e.block _ (heap_lt hbx)).trans hbx)
         have HS1 : Hid ((fun V => V.cell? ⟨wr.heap.size, 0, none⟩ = some (.int .i64 z.e.1.1) ∧ V.cell? ⟨wr.heap.size, 1, none⟩ = some (.int .i64 z.e.1.2)) y0) := cellS y0 hbx
         have HLN : Hid ((z.e.2.take 8).length = 8) := by show _ = _; rw [List.length_take, HRZ.out.2]; omega
         have HL8 : Hid ((z.e.2.take 8).length ≤ 8 ∧ 8 ≤ 8) := ⟨by rw [List.length_take]; omega, by rw [← HLN.out, List.length_take]; omega⟩
         have HRD : Hid (∀ V, Ext y0 V → RdR V (.slice lp 8 lc) (z.e.2.take 8)) := fun V e => HRW.out V (EW.trans e)
         have HK3 : Hid (∀ w2 w3, Ext y0 w2 → ExtD w.heap.size w2 w3 → (fun V => V.cell? ⟨wr.heap.size, 0, none⟩ = some (.int .i64 z.e.1.1) ∧ V.cell? ⟨wr.heap.size, 1, none⟩ = some (.int .i64 z.e.1.2)) w3) := fun w2 w3 e e3 => by
           have h2 := (e.block _ (heap_lt hbx)).trans hbx
           exact cellS w3 ((e3.block _ (heap_lt h2) (.inl (by rw [h2]; rfl))).trans h2)
         have HK4 : Hid (∀ w2 w3 w4, Ext y0 w2 → ExtD w.heap.size w2 w3 → w3.grownBy w4 (some bm) → (fun V => V.cell? ⟨wr.heap.size, 0, none⟩ = some (.int .i64 z.e.1.1) ∧ V.cell? ⟨wr.heap.size, 1, none⟩ = some (.int .i64 z.e.1.2)) w4) := fun w2 w3 w4 e e3 g4 => by
           have h2 := (e.block _ (heap_lt hbx)).trans hbx
           have h3 := (e3.block _ (heap_lt h2) (.inl (by rw [h2]; rfl))).trans h2
           obtain ⟨vb, Zb, hb1, _⟩ := (((HS.out.2.1.ext (((Ext.refl wr).alloc _).trans EY.out)).ext e).dep e3).r
           exact cellS w4 ((g4.block _ (heap_lt h3) (fun e' => by cases e'; rw [hb1] at h3; cases h3)).trans h3)
         have cS : ∀ w2 v2, Ext y0 w2 → w2.ownsRow y0.heap.size 32 4 v2 8 ((z.e.2.take 8).flatMap cR) → Calls Try.prog 21 #[.pointer (some ⟨w.heap.size, 0, none⟩), .int .i64 z.e.1.1, .int .i64 z.e.1.2, v2] w2 (SetD w2 w.heap.size w.heap.size k (actK Z k) (z.e.1.1, z.e.1.2) (z.e.2.take 8)) := fun w2 v2 e o =>
           set_any w2 w.heap.size w.heap.size k g vs (actK Z k) z.e.1.1 z.e.1.2 v2 (z.e.2.take 8) (EW.trans e).size (HS.out.1.ext ((((Ext.refl wr).alloc _).trans EY.out).trans e)) (by omega) (own_rdG cR_len o HLN.out.symm) (fun a m cp' ev hne => .inl (by
             subst ev
             obtain ⟨_, cur, h5⟩ := own_heap o rfl
             rw [h5]
             rfl)) (by have := HL8.out.1; omega)
         have cM : ∀ w2 w3, Ext y0 w2 → ExtD w.heap.size w2 w3 → Calls Try.prog 24 #[.pointer (some ⟨bm, 0, none⟩), .int .i64 z.e.1.1, .int .i64 z.e.1.2, .slice lp 8 lc] w3 (RsQ w3 w.heap.size bm (actK Z k) (z.e.1.1, z.e.1.2) (z.e.2.take 8)) := fun w2 w3 e e3 =>
           rset_any w3 w.heap.size bm (actK Z k) z.e.1.1 z.e.1.2 (.slice lp 8 lc) (z.e.2.take 8) (Nat.le_trans (EW.trans e).size e3.size) (((HS.out.2.1.ext (((Ext.refl wr).alloc _).trans EY.out)).ext e).dep e3) (HRW.out w3 (e3.ext (EW.trans e) (Nat.le_refl _))) (by have := HL8.out.1; omega) (by have := HS.out.1.n; omega)
         have HNW : Hid ((y0.alloc (.cells #[] 32)).ownsRow y0.heap.size 32 4 (.slice (some ⟨y0.heap.size, 0, none⟩) 0 0) 0 (([] : List Rc).flatMap cR)) := own_new y0 y0 (Nat.le_refl _)
         obtain ⟨xr, hxr⟩ : ∃ xr : Int, (if pin (z.e.1.1, z.e.1.2) then 0 else 121) = xr := ⟨_, rfl⟩
         have HX : Hid ((if pin (z.e.1.1, z.e.1.2) then 0 else 121) = xr) := hxr
         have xx : (xr != xr) = false := by simp
         clear hbx cellS hxr
         go_upto_region 11 with fail
         refine wp_region_held_drew (S := (fun V => V.cell? ⟨wr.heap.size, 0, none⟩ = some (.int .i64 z.e.1.1) ∧ V.cell? ⟨wr.heap.size, 1, none⟩ = some (.int .i64 z.e.1.2))) (by kernel_rfl) ?_ (fun hHeld0 => ?_)
         · (first | (rw [hy0]; exact HS1.out) | exact HS4.out | exact HS3.out | exact HS2.out | (refine mkS.out _ ?_; ((with_reducible (repeat (first | assumption | exact Ext.refl _ | apply Ext.drew | apply Ext.drewN | apply Ext.alloc))); done)))
         rw [hy0] at hHeld0 ⊢
         clear hy0
         refine wpAnyH_take (i := 0) (oi := ⟨some 36, .move (.tmp 5), 25, "law.go:37", #[], none⟩) (v := ?_) rfl (by kernel_rfl) (by kernel_rfl) (by kernel_rfl) (fun _ _ _ h => h) (Or.inl ⟨by rfl, ?_⟩) (by assumption) ?_
         rotate_left
         · intro w hSw; (try dsimp only at hSw); first | (go_simp; done) | (go_simp; with_reducible rfl)
         try go_frame
         refine wpAnyH_take (i := 1) (oi := ⟨some 37, .fieldAddr 52 (.tmp 8) 0, 0, "law.go:37", #[], none⟩) (v := ?_) rfl (by kernel_rfl) (by kernel_rfl) (by kernel_rfl) (fun _ _ _ h => h) (Or.inl ⟨by rfl, ?_⟩) (by assumption) ?_
         rotate_left
         · intro w hSw; (try dsimp only at hSw); first | (go_simp; done) | (go_simp; with_reducible rfl)
         try go_frame
         refine wpAnyH_take (i := 2) (oi := ⟨some 38, .load 3 (.tmp 37), 3, "law.go:37", #[⟨1, .data⟩], none⟩) (v := ?_) rfl (by kernel_rfl) (by kernel_rfl) (by kernel_rfl) (fun _ _ _ h => h) (Or.inl ⟨by rfl, ?_⟩) (by assumption) ?_
         rotate_left
         · intro w hSw; (try dsimp only at hSw); first | (go_simp; done) | (go_simp; with_reducible rfl)
         try go_frame
         refine wpAnyH_take (i := 3) (oi := ⟨some 39, .fieldAddr 52 (.tmp 8) 1, 0, "law.go:37", #[], none⟩) (v := ?_) rfl (by kernel_rfl) (by kernel_rfl) (by kernel_rfl) (fun _ _ _ h => h) (Or.inl ⟨by rfl, ?_⟩) (by assumption) ?_
         rotate_left
         · intro w hSw; (try dsimp only at hSw); first | (go_simp; done) | (go_simp; with_reducible rfl)
         try go_frame
         refine wpAnyH_take (i := 4) (oi := ⟨some 40, .load 3 (.tmp 39), 3, "law.go:37", #[⟨3, .data⟩], none⟩) (v := ?_) rfl (by kernel_rfl) (by kernel_rfl) (by kernel_rfl) (fun _ _ _ h => h) (Or.inl ⟨by rfl, ?_⟩) (by assumption) ?_
         rotate_left
         · intro w hSw; (try dsimp only at hSw); first | (go_simp; done) | (go_simp; with_reducible rfl)
         try go_frame
         refine wpAnyH_take (i := 6) (oi := ⟨some 42, .move (.tmp 9), 29, "law.go:37", #[], none⟩) (v := ?_) rfl (by kernel_rfl) (by kernel_rfl) (by kernel_rfl) (fun _ _ _ h => h) (Or.inl ⟨by rfl, ?_⟩) (by assumption) ?_
         rotate_left
         · intro w hSw; (try dsimp only at hSw); first | (go_simp; done) | (go_simp; with_reducible rfl)
         try go_frame
         refine wpAnyH_take (i := 9) (oi := ⟨some 45, .move (.tmp 6), 26, "law.go:37", #[], none⟩) (v := ?_) rfl (by kernel_rfl) (by kernel_rfl) (by kernel_rfl) (fun _ _ _ h => h) (Or.inl ⟨by rfl, ?_⟩) (by assumption) ?_
         rotate_left
         · intro w hSw; (try dsimp only at hSw); first | (go_simp; done) | (go_simp; with_reducible rfl)
         try go_frame
         refine wpAnyH_take (i := 10) (oi := ⟨some 46, .fieldAddr 52 (.tmp 8) 0, 0, "law.go:37", #[], none⟩) (v := ?_) rfl (by kernel_rfl) (by kernel_rfl) (by kernel_rfl) (fun _ _ _ h => h) (Or.inl ⟨by rfl, ?_⟩) (by assumption) ?_
         rotate_left
         · intro w hSw; (try dsimp only at hSw); first | (go_simp; done) | (go_simp; with_reducible rfl)
         try go_frame
         refine wpAnyH_take (i := 11) (oi := ⟨some 47, .load 3 (.tmp 46), 3, "law.go:37", #[⟨10, .data⟩], none⟩) (v := ?_) rfl (by kernel_rfl) (by kernel_rfl) (by kernel_rfl) (fun _ _ _ h => h) (Or.inl ⟨by rfl, ?_⟩) (by assumption) ?_
         rotate_left
         · intro w hSw; (try dsimp only at hSw); first | (go_simp; done) | (go_simp; with_reducible rfl)
         try go_frame
         refine wpAnyH_take (i := 12) (oi := ⟨some 48, .fieldAddr 52 (.tmp 8) 1, 0, "law.go:37", #[], none⟩) (v := ?_) rfl (by kernel_rfl) (by kernel_rfl) (by kernel_rfl) (fun _ _ _ h => h) (Or.inl ⟨by rfl, ?_⟩) (by assumption) ?_
         rotate_left
         · intro w hSw; (try dsimp only at hSw); first | (go_simp; done) | (go_simp; with_reducible rfl)
         try go_frame
         refine wpAnyH_take (i := 13) (oi := ⟨some 49, .load 3 (.tmp 48), 3, "law.go:37", #[⟨12, .data⟩], none⟩) (v := ?_) rfl (by kernel_rfl) (by kernel_rfl) (by kernel_rfl) (fun _ _ _ h => h) (Or.inl ⟨by rfl, ?_⟩) (by assumption) ?_
         rotate_left
         · intro w hSw; (try dsimp only at hSw); first | (go_simp; done) | (go_simp; with_reducible rfl)
         try go_frame
         refine wpAnyH_take (i := 14) (oi := ⟨some 50, .move (.tmp 9), 29, "law.go:37", #[], none⟩) (v := ?_) rfl (by kernel_rfl) (by kernel_rfl) (by kernel_rfl) (fun _ _ _ h => h) (Or.inl ⟨by rfl, ?_⟩) (by assumption) ?_
         rotate_left
         · intro w hSw; (try dsimp only at hSw); first | (go_simp; done) | (go_simp; with_reducible rfl)
         try go_frame
         refine wpAnyH_ready (rs := [5]) (by kernel_rfl) (by simp) ?_
         refine AllReadyH.cons (o := ⟨some 41, .buildSlice 29 0 #[], 29, "law.go:37", #[], none⟩) rfl (fun K hK => ?_) AllReadyH.nil
         go_simp
         skip
         try go_wp2_with fail
         refine hK.out _ _ ?_ (fun hHeld1 => ?_)
         · (try dsimp only); (first | (rw [hy0]; exact HS1.out) | exact HS4.out | exact HS3.out | exact HS2.out | (refine mkS.out _ ?_; ((with_reducible (repeat (first | assumption | exact Ext.refl _ | apply Ext.drew | apply Ext.drewN | apply Ext.alloc))); done)))
         clear hK K hHeld0
         try go_frame
         refine wpAnyH_ready (rs := [7]) (by kernel_rfl) (by simp) ?_
         refine AllReadyH.cons (o := ⟨some 43, .call { callee := .builtin .append, args := #[.tmp 41, .tmp 42], argTypes := #[29, 29] }, 29, "law.go:37", #[⟨5, .data⟩, ⟨6, .data⟩], none⟩) rfl (fun K hK => ?_) AllReadyH.nil
         refine step_app2 eltR cR_len cR_one (by decide) _ _ _ (.slice (some ⟨y0.heap.size, 0, none⟩) 0 0) _ 0 8 [] (z.e.2.take 8) y0.heap.size rfl rfl (by rfl) (by rfl) HNW.out HLN.out (HRD.out _ ((Ext.refl _).alloc _)) (by have := HL8.out; omega) ((Ext.refl y0).alloc _).size ?_; intro v2 w2 O2 G2 N2; have E2 : Ext y0 w2 := ext_grownG HNW.out (Nat.le_refl _) ((Ext.refl y0).alloc _) G2; have H2 : Hid _ := And.intro (by simpa using O2 : w2.ownsRow y0.heap.size 32 4 v2 8 ((z.e.2.take 8).flatMap cR)) E2; have HS2 : Hid ((fun V => V.cell? ⟨wr.heap.size, 0, none⟩ = some (.int .i64 z.e.1.1) ∧ V.cell? ⟨wr.heap.size, 1, none⟩ = some (.int .i64 z.e.1.2)) w2) := mkS.out w2 E2; clear O2 G2 N2 E2
         refine hK.out _ _ ?_ (fun hHeld2 => ?_)
         · (try dsimp only); (first | (rw [hy0]; exact HS1.out) | exact HS4.out | exact HS3.out | exact HS2.out | (refine mkS.out _ ?_; ((with_reducible (repeat (first | assumption | exact Ext.refl _ | apply Ext.drew | apply Ext.drewN | apply Ext.alloc))); done)))
         clear hK K hHeld1
         try go_frame
         refine wpAnyH_ready (rs := [8]) (by kernel_rfl) (by simp) ?_
         refine AllReadyH.cons (o := ⟨some 44, .call { callee := .value (.func 21), args := #[.tmp 36, .tmp 38, .tmp 40, .tmp 43], argTypes := #[25, 3, 3, 29] }, 43, "law.go:37", #[⟨0, .data⟩, ⟨2, .data⟩, ⟨4, .data⟩, ⟨7, .data⟩, ⟨7, .chain⟩], none⟩) rfl (fun K hK => ?_) AllReadyH.nil
         go_simp
         refine (cS _ _ H2.out.2 H2.out.1).mono ?_; rintro e w3 ⟨he, D3, E3⟩; rw [HX.out] at he; subst he; have H3 : Hid _ := And.intro D3 E3; have HS3 : Hid ((fun V => V.cell? ⟨wr.heap.size, 0, none⟩ = some (.int .i64 z.e.1.1) ∧ V.cell? ⟨wr.heap.size, 1, none⟩ = some (.int .i64 z.e.1.2)) w3) := HK3.out w2 w3 H2.out.2 E3; clear D3 E3
         try go_wp2_with fail
         refine hK.out _ _ ?_ (fun hHeld3 => ?_)
         · (try dsimp only); (first | (rw [hy0]; exact HS1.out) | exact HS4.out | exact HS3.out | exact HS2.out | (refine mkS.out _ ?_; ((with_reducible (repeat (first | assumption | exact Ext.refl _ | apply Ext.drew | apply Ext.drewN | apply Ext.alloc))); done)))
         clear hK K hHeld2
         try go_frame
         refine wpAnyH_ready (rs := [15]) (by kernel_rfl) (by simp) ?_
         refine AllReadyH.cons (o := ⟨some 51, .call { callee := .value (.func 24), args := #[.tmp 45, .tmp 47, .tmp 49, .tmp 50], argTypes := #[26, 3, 3, 29] }, 43, "law.go:37", #[⟨9, .data⟩, ⟨11, .data⟩, ⟨13, .data⟩, ⟨14, .data⟩, ⟨8, .chain⟩], none⟩) rfl (fun K hK => ?_) AllReadyH.nil
         go_simp
         refine (cM w2 w3 H2.out.2 H3.out.2).mono ?_; rintro e w4 ⟨he, M4, G4⟩; rw [HX.out] at he; subst he; have H4 : Hid _ := And.intro M4 G4; have HS4 : Hid ((fun V => V.cell? ⟨wr.heap.size, 0, none⟩ = some (.int .i64 z.e.1.1) ∧ V.cell? ⟨wr.heap.size, 1, none⟩ = some (.int .i64 z.e.1.2)) w4) := HK4.out w2 w3 w4 H2.out.2 H3.out.2 G4; clear M4 G4
         try go_wp2_with fail
         refine hK.out _ _ ?_ (fun hHeld4 => ?_)
         · (try dsimp only); (first | (rw [hy0]; exact HS1.out) | exact HS4.out | exact HS3.out | exact HS2.out | (refine mkS.out _ ?_; ((with_reducible (repeat (first | assumption | exact Ext.refl _ | apply Ext.drew | apply Ext.drewN | apply Ext.alloc))); done)))
         clear hK K hHeld3
         try go_frame
         refine wpAnyH_take (i := 16) (oi := ⟨some 52, .binOp .neq 43 (.tmp 44) (.tmp 51) 43, 4, "law.go:37", #[⟨8, .data⟩, ⟨15, .data⟩], none⟩) (v := ?_) rfl (by kernel_rfl) (by kernel_rfl) (by kernel_rfl) (fun _ _ _ h => h) (Or.inl ⟨by rfl, ?_⟩) (by assumption) ?_
         rotate_left
         · intro w hSw; (try dsimp only at hSw); first | (go_simp; done) | (go_simp; with_reducible rfl)
         try go_frame
         refine wpAnyH_done (by kernel_rfl) ?_ _
         have HN : Hid (∃ g' vs', Dps w4 w.heap.size w.heap.size g' (k + 1) vs' (actK Z (k + 1)) ∧ RfD w4 w.heap.size bm (actK Z (k + 1)) ∧ Ext w w4) := by
           obtain ⟨⟨g3, vs3, D3⟩, E3⟩ := H3.out
           obtain ⟨M4, G4⟩ := H4.out
           rw [actK_snoc HZK.out]
           have M3 := ((HS.out.2.1.ext (((Ext.refl wr).alloc _).trans EY.out)).ext H2.out.2).dep E3
           obtain ⟨vb, Zb, hb1, _⟩ := M3.r
           have E4 : Ext w w4 := by
             have ew3 := E3.ext (EW.trans H2.out.2) (Nat.le_refl _)
             exact ⟨G4.os.trans ew3.os, G4.tape.trans ew3.tape, G4.output.trans ew3.output, Nat.le_trans ew3.size G4.size, fun q hq => (G4.block q (Nat.lt_of_lt_of_le hq ew3.size) (fun e' => by cases e'; have := M3.bb; omega)).trans (ew3.block q hq)⟩
           exact ⟨g3, vs3, D3.turn G4 ⟨_, hb1⟩, M4, E4⟩
         clear mkS HK3 HK4 cS cM HS1 HS2 HS3 HS4 H2 H3 H4 HRD EW
         go_wp2_with fail
         go_roundw
         case rel => obtain ⟨g4, vs4, k1, k2, k3⟩ := HN.out; exact ⟨k + 1, g4, vs4, by simp, by omega, hltZ, k1, k2, k3⟩
         case measure => simp [intOf]; omega
       · have h8I : ¬ (ln : Int) > 8 := by omega
         have HRW : Hid (∀ V, Ext w V → RdR V (.slice lp ln lc) (z.e.2.take 8)) := fun V e => by
           rw [List.take_of_length_le (by rw [HRZ.out.2]; omega)]
           exact HRZ.out.1.ext e
         obtain ⟨y0, hy0⟩ : ∃ y0, World.drew (wr.alloc (.cells #[.int .i64 z.e.1.1, .int .i64 z.e.1.2, .slice lp ln lc] 52)) = y0 := ⟨_, rfl⟩
         have EY : Hid (Ext (wr.alloc (.cells #[.int .i64 z.e.1.1, .int .i64 z.e.1.2, .slice lp ln lc] 52)) y0) := by
           show Ext _ _
           rw [← hy0]
           exact (Ext.refl _).drew
         have EW : Ext w y0 := (HS.out.2.2.alloc _).trans EY.out
         have hbx : y0.heap[wr.heap.size]? = some (.cells #[.int .i64 z.e.1.1, .int .i64 z.e.1.2, .slice lp ln lc] 52) := Ext.top EY.out
         have cellS : ∀ V : World, V.heap[wr.heap.size]? = some (.cells #[.int .i64 z.e.1.1, .int .i64 z.e.1.2, .slice lp ln lc] 52) → (fun V => V.cell? ⟨wr.heap.size, 0, none⟩ = some (.int .i64 z.e.1.1) ∧ V.cell? ⟨wr.heap.size, 1, none⟩ = some (.int .i64 z.e.1.2)) V := fun V hV => ⟨(cell_of_row V _ 0 _ _ _ hV).trans rfl, (cell_of_row V _ 1 _ _ _ hV).trans rfl⟩
         have mkS : Hid (∀ V, Ext y0 V → (fun V => V.cell? ⟨wr.heap.size, 0, none⟩ = some (.int .i64 z.e.1.1) ∧ V.cell? ⟨wr.heap.size, 1, none⟩ = some (.int .i64 z.e.1.2)) V) := fun V e => cellS V ((e.block _ (heap_lt hbx)).trans hbx)
         have HS1 : Hid ((fun V => V.cell? ⟨wr.heap.size, 0, none⟩ = some (.int .i64 z.e.1.1) ∧ V.cell? ⟨wr.heap.size, 1, none⟩ = some (.int .i64 z.e.1.2)) y0) := cellS y0 hbx
         have HLN : Hid ((z.e.2.take 8).length = ln) := by show _ = _; rw [List.length_take, HRZ.out.2]; omega
         have HL8 : Hid ((z.e.2.take 8).length ≤ 8 ∧ ln ≤ 8) := ⟨by rw [List.length_take]; omega, by rw [← HLN.out, List.length_take]; omega⟩
         have HRD : Hid (∀ V, Ext y0 V → RdR V (.slice lp ln lc) (z.e.2.take 8)) := fun V e => HRW.out V (EW.trans e)
         have HK3 : Hid (∀ w2 w3, Ext y0 w2 → ExtD w.heap.size w2 w3 → (fun V => V.cell? ⟨wr.heap.size, 0, none⟩ = some (.int .i64 z.e.1.1) ∧ V.cell? ⟨wr.heap.size, 1, none⟩ = some (.int .i64 z.e.1.2)) w3) := fun w2 w3 e e3 => by
           have h2 := (e.block _ (heap_lt hbx)).trans hbx
           exact cellS w3 ((e3.block _ (heap_lt h2) (.inl (by rw [h2]; rfl))).trans h2)
         have HK4 : Hid (∀ w2 w3 w4, Ext y0 w2 → ExtD w.heap.size w2 w3 → w3.grownBy w4 (some bm) → (fun V => V.cell? ⟨wr.heap.size, 0, none⟩ = some (.int .i64 z.e.1.1) ∧ V.cell? ⟨wr.heap.size, 1, none⟩ = some (.int .i64 z.e.1.2)) w4) := fun w2 w3 w4 e e3 g4 => by
           have h2 := (e.block _ (heap_lt hbx)).trans hbx
           have h3 := (e3.block _ (heap_lt h2) (.inl (by rw [h2]; rfl))).trans h2
           obtain ⟨vb, Zb, hb1, _⟩ := (((HS.out.2.1.ext (((Ext.refl wr).alloc _).trans EY.out)).ext e).dep e3).r
           exact cellS w4 ((g4.block _ (heap_lt h3) (fun e' => by cases e'; rw [hb1] at h3; cases h3)).trans h3)
         have cS : ∀ w2 v2, Ext y0 w2 → w2.ownsRow y0.heap.size 32 4 v2 ln ((z.e.2.take 8).flatMap cR) → Calls Try.prog 21 #[.pointer (some ⟨w.heap.size, 0, none⟩), .int .i64 z.e.1.1, .int .i64 z.e.1.2, v2] w2 (SetD w2 w.heap.size w.heap.size k (actK Z k) (z.e.1.1, z.e.1.2) (z.e.2.take 8)) := fun w2 v2 e o =>
           set_any w2 w.heap.size w.heap.size k g vs (actK Z k) z.e.1.1 z.e.1.2 v2 (z.e.2.take 8) (EW.trans e).size (HS.out.1.ext ((((Ext.refl wr).alloc _).trans EY.out).trans e)) (by omega) (own_rdG cR_len o HLN.out.symm) (fun a m cp' ev hne => .inl (by
             subst ev
             obtain ⟨_, cur, h5⟩ := own_heap o rfl
             rw [h5]
             rfl)) (by have := HL8.out.1; omega)
         have cM : ∀ w2 w3, Ext y0 w2 → ExtD w.heap.size w2 w3 → Calls Try.prog 24 #[.pointer (some ⟨bm, 0, none⟩), .int .i64 z.e.1.1, .int .i64 z.e.1.2, .slice lp ln lc] w3 (RsQ w3 w.heap.size bm (actK Z k) (z.e.1.1, z.e.1.2) (z.e.2.take 8)) := fun w2 w3 e e3 =>
           rset_any w3 w.heap.size bm (actK Z k) z.e.1.1 z.e.1.2 (.slice lp ln lc) (z.e.2.take 8) (Nat.le_trans (EW.trans e).size e3.size) (((HS.out.2.1.ext (((Ext.refl wr).alloc _).trans EY.out)).ext e).dep e3) (HRW.out w3 (e3.ext (EW.trans e) (Nat.le_refl _))) (by have := HL8.out.1; omega) (by have := HS.out.1.n; omega)
         have HNW : Hid ((y0.alloc (.cells #[] 32)).ownsRow y0.heap.size 32 4 (.slice (some ⟨y0.heap.size, 0, none⟩) 0 0) 0 (([] : List Rc).flatMap cR)) := own_new y0 y0 (Nat.le_refl _)
         obtain ⟨xr, hxr⟩ : ∃ xr : Int, (if pin (z.e.1.1, z.e.1.2) then 0 else 121) = xr := ⟨_, rfl⟩
         have HX : Hid ((if pin (z.e.1.1, z.e.1.2) then 0 else 121) = xr) := hxr
         have xx : (xr != xr) = false := by simp
         clear hbx cellS hxr
         go_upto_region 11 with fail
         refine wp_region_held_drew (S := (fun V => V.cell? ⟨wr.heap.size, 0, none⟩ = some (.int .i64 z.e.1.1) ∧ V.cell? ⟨wr.heap.size, 1, none⟩ = some (.int .i64 z.e.1.2))) (by kernel_rfl) ?_ (fun hHeld0 => ?_)
         · (first | (rw [hy0]; exact HS1.out) | exact HS4.out | exact HS3.out | exact HS2.out | (refine mkS.out _ ?_; ((with_reducible (repeat (first | assumption | exact Ext.refl _ | apply Ext.drew | apply Ext.drewN | apply Ext.alloc))); done)))
         rw [hy0] at hHeld0 ⊢
         clear hy0
         refine wpAnyH_take (i := 0) (oi := ⟨some 36, .move (.tmp 5), 25, "law.go:37", #[], none⟩) (v := ?_) rfl (by kernel_rfl) (by kernel_rfl) (by kernel_rfl) (fun _ _ _ h => h) (Or.inl ⟨by rfl, ?_⟩) (by assumption) ?_
         rotate_left
         · intro w hSw; (try dsimp only at hSw); first | (go_simp; done) | (go_simp; with_reducible rfl)
         try go_frame
         refine wpAnyH_take (i := 1) (oi := ⟨some 37, .fieldAddr 52 (.tmp 8) 0, 0, "law.go:37", #[], none⟩) (v := ?_) rfl (by kernel_rfl) (by kernel_rfl) (by kernel_rfl) (fun _ _ _ h => h) (Or.inl ⟨by rfl, ?_⟩) (by assumption) ?_
         rotate_left
         · intro w hSw; (try dsimp only at hSw); first | (go_simp; done) | (go_simp; with_reducible rfl)
         try go_frame
         refine wpAnyH_take (i := 2) (oi := ⟨some 38, .load 3 (.tmp 37), 3, "law.go:37", #[⟨1, .data⟩], none⟩) (v := ?_) rfl (by kernel_rfl) (by kernel_rfl) (by kernel_rfl) (fun _ _ _ h => h) (Or.inl ⟨by rfl, ?_⟩) (by assumption) ?_
         rotate_left
         · intro w hSw; (try dsimp only at hSw); first | (go_simp; done) | (go_simp; with_reducible rfl)
         try go_frame
         refine wpAnyH_take (i := 3) (oi := ⟨some 39, .fieldAddr 52 (.tmp 8) 1, 0, "law.go:37", #[], none⟩) (v := ?_) rfl (by kernel_rfl) (by kernel_rfl) (by kernel_rfl) (fun _ _ _ h => h) (Or.inl ⟨by rfl, ?_⟩) (by assumption) ?_
         rotate_left
         · intro w hSw; (try dsimp only at hSw); first | (go_simp; done) | (go_simp; with_reducible rfl)
         try go_frame
         refine wpAnyH_take (i := 4) (oi := ⟨some 40, .load 3 (.tmp 39), 3, "law.go:37", #[⟨3, .data⟩], none⟩) (v := ?_) rfl (by kernel_rfl) (by kernel_rfl) (by kernel_rfl) (fun _ _ _ h => h) (Or.inl ⟨by rfl, ?_⟩) (by assumption) ?_
         rotate_left
         · intro w hSw; (try dsimp only at hSw); first | (go_simp; done) | (go_simp; with_reducible rfl)
         try go_frame
         refine wpAnyH_take (i := 6) (oi := ⟨some 42, .move (.tmp 9), 29, "law.go:37", #[], none⟩) (v := ?_) rfl (by kernel_rfl) (by kernel_rfl) (by kernel_rfl) (fun _ _ _ h => h) (Or.inl ⟨by rfl, ?_⟩) (by assumption) ?_
         rotate_left
         · intro w hSw; (try dsimp only at hSw); first | (go_simp; done) | (go_simp; with_reducible rfl)
         try go_frame
         refine wpAnyH_take (i := 9) (oi := ⟨some 45, .move (.tmp 6), 26, "law.go:37", #[], none⟩) (v := ?_) rfl (by kernel_rfl) (by kernel_rfl) (by kernel_rfl) (fun _ _ _ h => h) (Or.inl ⟨by rfl, ?_⟩) (by assumption) ?_
         rotate_left
         · intro w hSw; (try dsimp only at hSw); first | (go_simp; done) | (go_simp; with_reducible rfl)
         try go_frame
         refine wpAnyH_take (i := 10) (oi := ⟨some 46, .fieldAddr 52 (.tmp 8) 0, 0, "law.go:37", #[], none⟩) (v := ?_) rfl (by kernel_rfl) (by kernel_rfl) (by kernel_rfl) (fun _ _ _ h => h) (Or.inl ⟨by rfl, ?_⟩) (by assumption) ?_
         rotate_left
         · intro w hSw; (try dsimp only at hSw); first | (go_simp; done) | (go_simp; with_reducible rfl)
         try go_frame
         refine wpAnyH_take (i := 11) (oi := ⟨some 47, .load 3 (.tmp 46), 3, "law.go:37", #[⟨10, .data⟩], none⟩) (v := ?_) rfl (by kernel_rfl) (by kernel_rfl) (by kernel_rfl) (fun _ _ _ h => h) (Or.inl ⟨by rfl, ?_⟩) (by assumption) ?_
         rotate_left
         · intro w hSw; (try dsimp only at hSw); first | (go_simp; done) | (go_simp; with_reducible rfl)
         try go_frame
         refine wpAnyH_take (i := 12) (oi := ⟨some 48, .fieldAddr 52 (.tmp 8) 1, 0, "law.go:37", #[], none⟩) (v := ?_) rfl (by kernel_rfl) (by kernel_rfl) (by kernel_rfl) (fun _ _ _ h => h) (Or.inl ⟨by rfl, ?_⟩) (by assumption) ?_
         rotate_left
         · intro w hSw; (try dsimp only at hSw); first | (go_simp; done) | (go_simp; with_reducible rfl)
         try go_frame
         refine wpAnyH_take (i := 13) (oi := ⟨some 49, .load 3 (.tmp 48), 3, "law.go:37", #[⟨12, .data⟩], none⟩) (v := ?_) rfl (by kernel_rfl) (by kernel_rfl) (by kernel_rfl) (fun _ _ _ h => h) (Or.inl ⟨by rfl, ?_⟩) (by assumption) ?_
         rotate_left
         · intro w hSw; (try dsimp only at hSw); first | (go_simp; done) | (go_simp; with_reducible rfl)
         try go_frame
         refine wpAnyH_take (i := 14) (oi := ⟨some 50, .move (.tmp 9), 29, "law.go:37", #[], none⟩) (v := ?_) rfl (by kernel_rfl) (by kernel_rfl) (by kernel_rfl) (fun _ _ _ h => h) (Or.inl ⟨by rfl, ?_⟩) (by assumption) ?_
         rotate_left
         · intro w hSw; (try dsimp only at hSw); first | (go_simp; done) | (go_simp; with_reducible rfl)
         try go_frame
         refine wpAnyH_ready (rs := [5]) (by kernel_rfl) (by simp) ?_
         refine AllReadyH.cons (o := ⟨some 41, .buildSlice 29 0 #[], 29, "law.go:37", #[], none⟩) rfl (fun K hK => ?_) AllReadyH.nil
         go_simp
         skip
         try go_wp2_with fail
         refine hK.out _ _ ?_ (fun hHeld1 => ?_)
         · (try dsimp only); (first | (rw [hy0]; exact HS1.out) | exact HS4.out | exact HS3.out | exact HS2.out | (refine mkS.out _ ?_; ((with_reducible (repeat (first | assumption | exact Ext.refl _ | apply Ext.drew | apply Ext.drewN | apply Ext.alloc))); done)))
         clear hK K hHeld0
         try go_frame
         refine wpAnyH_ready (rs := [7]) (by kernel_rfl) (by simp) ?_
         refine AllReadyH.cons (o := ⟨some 43, .call { callee := .builtin .append, args := #[.tmp 41, .tmp 42], argTypes := #[29, 29] }, 29, "law.go:37", #[⟨5, .data⟩, ⟨6, .data⟩], none⟩) rfl (fun K hK => ?_) AllReadyH.nil
         refine step_app2 eltR cR_len cR_one (by decide) _ _ _ (.slice (some ⟨y0.heap.size, 0, none⟩) 0 0) _ 0 ln [] (z.e.2.take 8) y0.heap.size rfl rfl (by rfl) (by rfl) HNW.out HLN.out (HRD.out _ ((Ext.refl _).alloc _)) (by have := HL8.out; omega) ((Ext.refl y0).alloc _).size ?_; intro v2 w2 O2 G2 N2; have E2 : Ext y0 w2 := ext_grownG HNW.out (Nat.le_refl _) ((Ext.refl y0).alloc _) G2; have H2 : Hid _ := And.intro (by simpa using O2 : w2.ownsRow y0.heap.size 32 4 v2 ln ((z.e.2.take 8).flatMap cR)) E2; have HS2 : Hid ((fun V => V.cell? ⟨wr.heap.size, 0, none⟩ = some (.int .i64 z.e.1.1) ∧ V.cell? ⟨wr.heap.size, 1, none⟩ = some (.int .i64 z.e.1.2)) w2) := mkS.out w2 E2; clear O2 G2 N2 E2
         refine hK.out _ _ ?_ (fun hHeld2 => ?_)
         · (try dsimp only); (first | (rw [hy0]; exact HS1.out) | exact HS4.out | exact HS3.out | exact HS2.out | (refine mkS.out _ ?_; ((with_reducible (repeat (first | assumption | exact Ext.refl _ | apply Ext.drew | apply Ext.drewN | apply Ext.alloc))); done)))
         clear hK K hHeld1
         try go_frame
         refine wpAnyH_ready (rs := [8]) (by kernel_rfl) (by simp) ?_
         refine AllReadyH.cons (o := ⟨some 44, .call { callee := .value (.func 21), args := #[.tmp 36, .tmp 38, .tmp 40, .tmp 43], argTypes := #[25, 3, 3, 29] }, 43, "law.go:37", #[⟨0, .data⟩, ⟨2, .data⟩, ⟨4, .data⟩, ⟨7, .data⟩, ⟨7, .chain⟩], none⟩) rfl (fun K hK => ?_) AllReadyH.nil
         go_simp
         refine (cS _ _ H2.out.2 H2.out.1).mono ?_; rintro e w3 ⟨he, D3, E3⟩; rw [HX.out] at he; subst he; have H3 : Hid _ := And.intro D3 E3; have HS3 : Hid ((fun V => V.cell? ⟨wr.heap.size, 0, none⟩ = some (.int .i64 z.e.1.1) ∧ V.cell? ⟨wr.heap.size, 1, none⟩ = some (.int .i64 z.e.1.2)) w3) := HK3.out w2 w3 H2.out.2 E3; clear D3 E3
         try go_wp2_with fail
         refine hK.out _ _ ?_ (fun hHeld3 => ?_)
         · (try dsimp only); (first | (rw [hy0]; exact HS1.out) | exact HS4.out | exact HS3.out | exact HS2.out | (refine mkS.out _ ?_; ((with_reducible (repeat (first | assumption | exact Ext.refl _ | apply Ext.drew | apply Ext.drewN | apply Ext.alloc))); done)))
         clear hK K hHeld2
         try go_frame
         refine wpAnyH_ready (rs := [15]) (by kernel_rfl) (by simp) ?_
         refine AllReadyH.cons (o := ⟨some 51, .call { callee := .value (.func 24), args := #[.tmp 45, .tmp 47, .tmp 49, .tmp 50], argTypes := #[26, 3, 3, 29] }, 43, "law.go:37", #[⟨9, .data⟩, ⟨11, .data⟩, ⟨13, .data⟩, ⟨14, .data⟩, ⟨8, .chain⟩], none⟩) rfl (fun K hK => ?_) AllReadyH.nil
         go_simp
         refine (cM w2 w3 H2.out.2 H3.out.2).mono ?_; rintro e w4 ⟨he, M4, G4⟩; rw [HX.out] at he; subst he; have H4 : Hid _ := And.intro M4 G4; have HS4 : Hid ((fun V => V.cell? ⟨wr.heap.size, 0, none⟩ = some (.int .i64 z.e.1.1) ∧ V.cell? ⟨wr.heap.size, 1, none⟩ = some (.int .i64 z.e.1.2)) w4) := HK4.out w2 w3 w4 H2.out.2 H3.out.2 G4; clear M4 G4
         try go_wp2_with fail
         refine hK.out _ _ ?_ (fun hHeld4 => ?_)
         · (try dsimp only); (first | (rw [hy0]; exact HS1.out) | exact HS4.out | exact HS3.out | exact HS2.out | (refine mkS.out _ ?_; ((with_reducible (repeat (first | assumption | exact Ext.refl _ | apply Ext.drew | apply Ext.drewN | apply Ext.alloc))); done)))
         clear hK K hHeld3
         try go_frame
         refine wpAnyH_take (i := 16) (oi := ⟨some 52, .binOp .neq 43 (.tmp 44) (.tmp 51) 43, 4, "law.go:37", #[⟨8, .data⟩, ⟨15, .data⟩], none⟩) (v := ?_) rfl (by kernel_rfl) (by kernel_rfl) (by kernel_rfl) (fun _ _ _ h => h) (Or.inl ⟨by rfl, ?_⟩) (by assumption) ?_
         rotate_left
         · intro w hSw; (try dsimp only at hSw); first | (go_simp; done) | (go_simp; with_reducible rfl)
         try go_frame
         refine wpAnyH_done (by kernel_rfl) ?_ _
         have HN : Hid (∃ g' vs', Dps w4 w.heap.size w.heap.size g' (k + 1) vs' (actK Z (k + 1)) ∧ RfD w4 w.heap.size bm (actK Z (k + 1)) ∧ Ext w w4) := by
           obtain ⟨⟨g3, vs3, D3⟩, E3⟩ := H3.out
           obtain ⟨M4, G4⟩ := H4.out
           rw [actK_snoc HZK.out]
           have M3 := ((HS.out.2.1.ext (((Ext.refl wr).alloc _).trans EY.out)).ext H2.out.2).dep E3
           obtain ⟨vb, Zb, hb1, _⟩ := M3.r
           have E4 : Ext w w4 := by
             have ew3 := E3.ext (EW.trans H2.out.2) (Nat.le_refl _)
             exact ⟨G4.os.trans ew3.os, G4.tape.trans ew3.tape, G4.output.trans ew3.output, Nat.le_trans ew3.size G4.size, fun q hq => (G4.block q (Nat.lt_of_lt_of_le hq ew3.size) (fun e' => by cases e'; have := M3.bb; omega)).trans (ew3.block q hq)⟩
           exact ⟨g3, vs3, D3.turn G4 ⟨_, hb1⟩, M4, E4⟩
         clear mkS HK3 HK4 cS cM HS1 HS2 HS3 HS4 H2 H3 H4 HRD EW
         go_wp2_with fail
         go_roundw
         case rel => obtain ⟨g4, vs4, k1, k2, k3⟩ := HN.out; exact ⟨k + 1, g4, vs4, by simp, by omega, hltZ, k1, k2, k3⟩
         case measure => simp [intOf]; omega
     · have hzI : (k : Int) < (zn : Int) := by omega
       have h30I : ¬ (k : Int) < 30 := by omega
       have HB : Hid _ := HQ.out (fun h => h30 h.2)
       clear HQ hS
       go_wp2_with fail
       refine bodyPost_ret (v := .tuple #[.pointer (some ⟨w.heap.size, 0, none⟩), .pointer (some ⟨bm, 0, none⟩), .bool true]) (by simp [results, Try.results8, go_sem]) rfl ?_
       exact HB.out
   · have hzI : ¬ (k : Int) < (zn : Int) := by omega
     have HB : Hid _ := HQ.out (fun h => hz h.1)
     clear HQ hS
     go_wp2_with fail
     refine bodyPost_ret (v := .tuple #[.pointer (some ⟨w.heap.size, 0, none⟩), .pointer (some ⟨bm, 0, none⟩), .bool true]) (by simp [results, Try.results8, go_sem]) rfl ?_
     exact HB.out

open Go.RowKit
set_option maxHeartbeats 1000000

/-- The rounds of Put: k places are through; F: the new one is in. -/
structure PuS (w : World) (p : Pl) (l : List Pl) (k : Nat) (vo : Value) (F : Bool) (wr : World) : Prop where
 kl : k ≤ l.length
 e : Ext (w.alloc (.cells #[.int .i64 p.1, .int .i64 p.2] 24)) wr
 n : p ∉ l.take k
 f : F = (l.take k).any (fun y => bef p y)
 o : wr.ownsRow (w.heap.size + 1) 24 2 vo (if F then ins (l.take k) p else l.take k).length ((if F then ins (l.take k) p else l.take k).flatMap cP)
theorem PuS.ew {w wr : World} {p : Pl} {l : List Pl} {k : Nat} {vo : Value} {F : Bool} (h : PuS w p l k vo F wr) : Ext w wr := ((Ext.refl w).alloc _).trans h.e
theorem PuS.ext {w wr wq : World} {p : Pl} {l : List Pl} {k : Nat} {vo : Value} {F : Bool} (h : PuS w p l k vo F wr) (e : Ext wr wq) : PuS w p l k vo F wq := ⟨h.kl, h.e.trans e, h.n, h.f, ownsRow_ext h.o e⟩
theorem PuS.lt {l : List Pl} {k : Nat} {s : Pl} (h : l[k]? = some s) : k + 1 ≤ l.length := (List.getElem?_eq_some_iff.1 h).1
theorem PuS.no {w wr w9 : World} {p s : Pl} {l : List Pl} {k : Nat} {vo v9 : Value} (h : PuS w p l k vo false wr) (hs : l[k]? = some s) (hn : p ∉ l.take (k + 1)) (hb : bef p s = false) (e : Ext (w.alloc (.cells #[.int .i64 p.1, .int .i64 p.2] 24)) w9) (o : w9.ownsRow (w.heap.size + 1) 24 2 v9 ((l.take k).length + 1) ((l.take k ++ [s]).flatMap cP)) : PuS w p l (k + 1) v9 false w9 := by
 refine ⟨PuS.lt hs, e, hn, ?_, ?_⟩
 · rw [take_at hs, List.any_append, ← h.f]; simp [hb]
 · simp only [Bool.false_eq_true, if_false]
   rw [take_at hs]; simpa using o
theorem PuS.yes {w w9 : World} {p s : Pl} {l : List Pl} {k : Nat} {v9 : Value} (hf : (l.take k).any (fun y => bef p y) = false) (hs : l[k]? = some s) (hn : p ∉ l.take (k + 1)) (hb : bef p s = true) (e : Ext (w.alloc (.cells #[.int .i64 p.1, .int .i64 p.2] 24)) w9) (o : w9.ownsRow (w.heap.size + 1) 24 2 v9 ((l.take k ++ [p]).length + 1) ((l.take k ++ [p] ++ [s]).flatMap cP)) : PuS w p l (k + 1) v9 true w9 := by
 refine ⟨PuS.lt hs, e, hn, ?_, ?_⟩
 · rw [take_at hs, List.any_append]; simp [hb]
 · simp only [if_true]
   rw [take_at hs, ins_now hf hb]; simpa using o
theorem PuS.on {w wr w9 : World} {p s : Pl} {l : List Pl} {k : Nat} {vo v9 : Value} (h : PuS w p l k vo true wr) (hs : l[k]? = some s) (hn : p ∉ l.take (k + 1)) (e : Ext (w.alloc (.cells #[.int .i64 p.1, .int .i64 p.2] 24)) w9) (o : w9.ownsRow (w.heap.size + 1) 24 2 v9 ((ins (l.take k) p).length + 1) ((ins (l.take k) p ++ [s]).flatMap cP)) : PuS w p l (k + 1) v9 true w9 := by
 refine ⟨PuS.lt hs, e, hn, ?_, ?_⟩
 · rw [take_at hs, List.any_append, ← h.f]; simp
 · simp only [if_true]
   rw [take_at hs, ins_any h.f.symm]; simpa using o
theorem tk1 {l : List Pl} {k : Nat} (h : l.length ≤ 200000) : (l.take k).length + 1 ≤ 1000000 := by simp; omega
theorem tk2 {l : List Pl} {k : Nat} {p : Pl} (h : l.length ≤ 200000) : (l.take k ++ [p]).length + 1 ≤ 1000000 := by simp; omega
theorem tk3 {l : List Pl} {k : Nat} {p : Pl} (h : l.length ≤ 200000) : (ins (l.take k) p).length + 1 ≤ 1000000 := by rw [ins_len]; simp; omega
theorem rd_onq {W V : World} {x1 x2 : Int} (e : Ext (W.alloc (.cells #[.int .i64 x1, .int .i64 x2] 24)) V) : RdP V (.slice (some ⟨W.heap.size, 0, none⟩) 1 1) [(x1, x2)] :=
 RdG.one (Ext.top e) (fun j u h => by
   have hj : j < 2 := (List.getElem?_eq_some_iff.1 h).1
   match j, hj with
   | 0, _ => exact h
   | 1, _ => exact h)
/-- One more at the end. -/
theorem own_len {W : World} {base : Nat} {T : TypeId} {k n m : Nat} {v : Value} {xs ys : List Value} (h : W.ownsRow base T k v n xs) (hn : n = m) (hx : xs = ys) : W.ownsRow base T k v m ys := by subst hn hx; exact h
set_option maxRecDepth 100000 in
theorem put_any (w : World) (v : Value) (l : List Pl) (p1 p2 : Int) (h : RdP w v l) (hl : l.length ≤ 200000) :
   Calls Try.prog 20 #[v, .agg #[.int .i64 p1, .int .i64 p2]] w fun e w' => ∃ v', e = .returned v' ∧ RdP w' v' (putP l (p1, p2)) ∧ Ext w w' := by
 obtain ⟨p, c, rfl, _⟩ := h.form
 have HR : Hid (RdP w (.slice p l.length c) l) := h
 have HL : Hid (l.length ≤ 200000) := hl
 clear h hl
 have H0 : Hid (PuS w (p1, p2) l 0 (.slice (some ⟨w.heap.size + 1, 0, none⟩) 0 0) false ((w.alloc (.cells #[.int .i64 p1, .int .i64 p2] 24)).alloc (.cells #[] 24))) := by
   refine ⟨Nat.zero_le _, (Ext.refl _).alloc _, by simp, by simp, ?_⟩
   have := own_new (T := 24) (k := 2) (w.alloc (.cells #[.int .i64 p1, .int .i64 p2] 24)) (w.alloc (.cells #[.int .i64 p1, .int .i64 p2] 24)) (Nat.le_refl _)
   simpa using this
 go_enter Try.func20, Try.ntmps20
 go_wp2_with fail
 go_loopw [5, 6, 7] (fun vo fl x wr => ∃ (k : Nat) (F : Bool), x = .int .i64 (k : Int) ∧ fl = .bool F ∧ PuS w (p1, p2) l k vo F wr) (fun _ _ x _ => l.length - (intOf x).toNat)
 case atStart => exact ⟨0, false, rfl, rfl, H0.out⟩
 case round =>
   clear H0
   obtain ⟨k, F, rfl, rfl, hS⟩ := hrel
   have HS : Hid (PuS w (p1, p2) l k u5 F wr) := hS
   obtain ⟨q1, q2⟩ := box2 hS.e
   have hk := hS.kl
   clear hS
   rcases Nat.lt_or_ge k l.length with hlt | hge
   · have hltI : (k : Int) < (l.length : Int) := by omega
     obtain ⟨s, hs⟩ : ∃ s, l[k]? = some s := ⟨_, List.getElem?_eq_getElem hlt⟩
     obtain ⟨b, off, rfl, bl, c1, c2⟩ := RdP.cell (HR.out.ext HS.out.ew) hs
     have wk := wrapI k (by have := HL.out; omega)
     obtain ⟨s1, s2⟩ := s
     have HK : Hid (l[k]? = some (s1, s2)) := hs
     clear hs
     go_upto_region 5 with fail
     have qE := eq_pl s1 s2 p1 p2
     have qG := gd_pl
     cases he : (s1 == p1 && s2 == p2)
     · have HT : Hid ((p1, p2) ∉ l.take (k + 1)) := by
         rw [show l.take (k + 1) = l.take k ++ [(s1, s2)] from take_at HK.out]
         intro h
         rcases List.mem_append.1 h with h | h
         · exact HS.out.n h
         · simp at h; simp [h.1, h.2] at he
       rw [he] at qE
       clear he
       go_quiet (fail)
       clear qE qG
       have HC : Hid (∀ V, Ext (w.alloc (.cells #[.int .i64 p1, .int .i64 p2] 24)) V → (fun V => V.cell? ⟨b, off + k * 2, none⟩ = some (.int .i64 s1) ∧ V.cell? ⟨b, off + k * 2 + 1, none⟩ = some (.int .i64 s2) ∧ V.cell? ⟨w.heap.size, 0, none⟩ = some (.int .i64 p1) ∧ V.cell? ⟨w.heap.size, 1, none⟩ = some (.int .i64 p2)) V) := by
         intro V e
         obtain ⟨b', off', hb, _, k1, k2⟩ := RdP.cell (HR.out.ext (((Ext.refl w).alloc _).trans e)) HK.out
         simp at hb
         obtain ⟨rfl, rfl⟩ := hb
         exact ⟨k1, k2, box2 e⟩
       have HS2 := HS.out.ext ((Ext.refl wr).drewN nq)
       generalize wr.drewN nq = wq at *
       clear HS c1 c2 q1 q2 bl
       have HS : Hid (PuS w (p1, p2) l k u5 F wq) := HS2
       clear HS2
       have mkS : Hid (∀ V, Ext wq V → (fun V => V.cell? ⟨b, off + k * 2, none⟩ = some (.int .i64 s1) ∧ V.cell? ⟨b, off + k * 2 + 1, none⟩ = some (.int .i64 s2) ∧ V.cell? ⟨w.heap.size, 0, none⟩ = some (.int .i64 p1) ∧ V.cell? ⟨w.heap.size, 1, none⟩ = some (.int .i64 p2)) V) := fun V e => HC.out V (HS.out.e.trans e)
       cases F
       · have cB := fun W => bef_any p1 p2 s1 s2 W
         cases hb : bef (p1, p2) (s1, s2)
         · have HN : Hid (bef (p1, p2) (s1, s2) = false) := hb
           rw [hb] at cB
           clear hb
           go_upto_region 7 with fail
           refine wp_region_held_drew (S := (fun V => V.cell? ⟨b, off + k * 2, none⟩ = some (.int .i64 s1) ∧ V.cell? ⟨b, off + k * 2 + 1, none⟩ = some (.int .i64 s2) ∧ V.cell? ⟨w.heap.size, 0, none⟩ = some (.int .i64 p1) ∧ V.cell? ⟨w.heap.size, 1, none⟩ = some (.int .i64 p2))) (by kernel_rfl) ?_ (fun hHeld0 => ?_)
           · (refine mkS.out _ ?_; ((with_reducible (repeat (first | assumption | exact Ext.refl _ | apply Ext.drew | apply Ext.drewN | apply Ext.alloc))); done))
           refine wpAnyH_take (i := 0) (oi := ⟨some 22, .move (.tmp 6), 4, "ref.go:28", #[], none⟩) (v := ?_) rfl (by kernel_rfl) (by kernel_rfl) (by kernel_rfl) (fun _ _ _ h => h) (Or.inl ⟨by rfl, ?_⟩) (by assumption) ?_
           rotate_left
           · intro w hSw; (try dsimp only at hSw); first | (go_simp; done) | (go_simp; with_reducible rfl)
           try simp only [Act.put, List.setIfInBounds_toArray, List.set_cons_zero, List.set_cons_succ]
           refine wpAnyH_take (i := 1) (oi := ⟨some 23, .unOp .not 4 (.tmp 22), 4, "ref.go:28", #[⟨0, .data⟩], none⟩) (v := ?_) rfl (by kernel_rfl) (by kernel_rfl) (by kernel_rfl) (fun _ _ _ h => h) (Or.inl ⟨by rfl, ?_⟩) (by assumption) ?_
           rotate_left
           · intro w hSw; (try dsimp only at hSw); first | (go_simp; done) | (go_simp; with_reducible rfl)
           try simp only [Act.put, List.setIfInBounds_toArray, List.set_cons_zero, List.set_cons_succ]
           refine wpAnyH_take (i := 2) (oi := ⟨some 24, .move (.tmp 23), 4, "ref.go:28", #[⟨1, .data⟩], none⟩) (v := ?_) rfl (by kernel_rfl) (by kernel_rfl) (by kernel_rfl) (fun _ _ _ h => h) (Or.inl ⟨by rfl, ?_⟩) (by assumption) ?_
           rotate_left
           · intro w hSw; (try dsimp only at hSw); first | (go_simp; done) | (go_simp; with_reducible rfl)
           try simp only [Act.put, List.setIfInBounds_toArray, List.set_cons_zero, List.set_cons_succ]
           refine wpAnyH_take (i := 3) (oi := ⟨some 25, .load 24 (.tmp 3), 24, "ref.go:28", #[⟨2, .guard⟩], some (2, true)⟩) (v := ?_) rfl (by kernel_rfl) (by kernel_rfl) (by kernel_rfl) (fun _ _ _ h => h) (Or.inl ⟨by rfl, ?_⟩) (by assumption) ?_
           rotate_left
           · intro w hSw; (try dsimp only at hSw); first | (go_simp; done) | (go_simp; with_reducible rfl)
           try simp only [Act.put, List.setIfInBounds_toArray, List.set_cons_zero, List.set_cons_succ]
           refine wpAnyH_take (i := 4) (oi := ⟨some 26, .move (.tmp 0), 34, "ref.go:28", #[⟨2, .guard⟩], some (2, true)⟩) (v := ?_) rfl (by kernel_rfl) (by kernel_rfl) (by kernel_rfl) (fun _ _ _ h => h) (Or.inl ⟨by rfl, ?_⟩) (by assumption) ?_
           rotate_left
           · intro w hSw; (try dsimp only at hSw); first | (go_simp; done) | (go_simp; with_reducible rfl)
           try simp only [Act.put, List.setIfInBounds_toArray, List.set_cons_zero, List.set_cons_succ]
           refine wpAnyH_take (i := 5) (oi := ⟨some 27, .move (.tmp 7), 3, "ref.go:28", #[⟨2, .guard⟩], some (2, true)⟩) (v := ?_) rfl (by kernel_rfl) (by kernel_rfl) (by kernel_rfl) (fun _ _ _ h => h) (Or.inl ⟨by rfl, ?_⟩) (by assumption) ?_
           rotate_left
           · intro w hSw; (try dsimp only at hSw); first | (go_simp; done) | (go_simp; with_reducible rfl)
           try simp only [Act.put, List.setIfInBounds_toArray, List.set_cons_zero, List.set_cons_succ]
           refine wpAnyH_take (i := 6) (oi := ⟨some 28, .indexAddr 34 (.tmp 26) (.tmp 27), 0, "ref.go:28", #[⟨4, .data⟩, ⟨5, .data⟩, ⟨2, .guard⟩], some (2, true)⟩) (v := ?_) rfl (by kernel_rfl) (by kernel_rfl) (by kernel_rfl) (fun _ _ _ h => h) (Or.inl ⟨by rfl, ?_⟩) (by assumption) ?_
           rotate_left
           · intro w hSw; (try dsimp only at hSw); first | (go_simp; done) | (go_simp; with_reducible rfl)
           try simp only [Act.put, List.setIfInBounds_toArray, List.set_cons_zero, List.set_cons_succ]
           refine wpAnyH_take (i := 7) (oi := ⟨some 29, .load 24 (.tmp 28), 24, "ref.go:28", #[⟨6, .data⟩, ⟨2, .guard⟩], some (2, true)⟩) (v := ?_) rfl (by kernel_rfl) (by kernel_rfl) (by kernel_rfl) (fun _ _ _ h => h) (Or.inl ⟨by rfl, ?_⟩) (by assumption) ?_
           rotate_left
           · intro w hSw; (try dsimp only at hSw); first | (go_simp; done) | (go_simp; with_reducible rfl)
           try simp only [Act.put, List.setIfInBounds_toArray, List.set_cons_zero, List.set_cons_succ]
           refine wpAnyH_ready (rs := [8]) (by kernel_rfl) (by simp) ?_
           refine AllReadyH.cons (o := ⟨some 30, .call { callee := .value (.func 35), args := #[.tmp 25, .tmp 29], argTypes := #[24, 24] }, 4, "ref.go:28", #[⟨3, .data⟩, ⟨7, .data⟩, ⟨2, .chain⟩, ⟨2, .guard⟩], some (2, true)⟩) rfl (fun K hK => ?_) AllReadyH.nil
           go_simp
           refine (cB _).mono ?_; rintro e x1 ⟨rfl, E1⟩; have X1 : Ext wq x1 := Ext.trans (by first | exact Ext.refl _ | exact (Ext.refl _).drew) E1
           try go_wp2_with fail
           refine hK.out _ _ ?_ (fun hHeld1 => ?_)
           · (try dsimp only); (refine mkS.out _ ?_; ((with_reducible (repeat (first | assumption | exact Ext.refl _ | apply Ext.drew | apply Ext.drewN | apply Ext.alloc))); done))
           clear hK K hHeld0
           try simp only [Act.put, List.setIfInBounds_toArray, List.set_cons_zero, List.set_cons_succ]
           refine wpAnyH_take (i := 9) (oi := ⟨some 31, .pick (.tmp 24) (.tmp 30) (.const (.bool false)), 4, "ref.go:28", #[⟨2, .data⟩, ⟨8, .data⟩], none⟩) (v := ?_) rfl (by kernel_rfl) (by kernel_rfl) (by kernel_rfl) (fun _ _ _ h => h) (Or.inl ⟨by rfl, ?_⟩) (by assumption) ?_
           rotate_left
           · intro w hSw; (try dsimp only at hSw); first | (go_simp; done) | (go_simp; with_reducible rfl)
           try simp only [Act.put, List.setIfInBounds_toArray, List.set_cons_zero, List.set_cons_succ]
           refine wpAnyH_done (by kernel_rfl) ?_ _
           obtain ⟨g1, g2, g3, g4⟩ := mkS.out _ X1
           have H1 : Hid (PuS w (p1, p2) l k u5 false x1) := HS.out.ext X1
           clear X1 mkS HS
           go_wp2_with (at_builtin; refine app_g eltP cP_len cP_one (by decide) _ (w.alloc (.cells #[.int .i64 p1, .int .i64 p2] 24)) _ _ _ _ (l.take k).length 1 (l.take k) [(s1, s2)] (w.heap.size + 1) rfl rfl (by rfl) (by rfl) (own_len (ownsRow_ext H1.out.o ((Ext.refl _).alloc _)) rfl rfl) rfl (rd_onq (Ext.refl _)) (tk1 HL.out) (H1.out.e.alloc _) (by simp) (by have := (H1.out.e.alloc (.cells #[] 0)).size; simp at this ⊢; omega) ?_; intro v9 w9 O9 E9 _ _; have H3 : Hid _ := H1.out.no HK.out HT.out HN.out E9 O9; clear O9 E9)
           go_roundw
           case rel => exact ⟨k + 1, false, by rw [wk], rfl, H3.out⟩
           case measure => rw [wk]; simp [intOf]; omega
         · have HN : Hid (bef (p1, p2) (s1, s2) = true) := hb
           rw [hb] at cB
           clear hb
           go_upto_region 7 with fail
           refine wp_region_held_drew (S := (fun V => V.cell? ⟨b, off + k * 2, none⟩ = some (.int .i64 s1) ∧ V.cell? ⟨b, off + k * 2 + 1, none⟩ = some (.int .i64 s2) ∧ V.cell? ⟨w.heap.size, 0, none⟩ = some (.int .i64 p1) ∧ V.cell? ⟨w.heap.size, 1, none⟩ = some (.int .i64 p2))) (by kernel_rfl) ?_ (fun hHeld0 => ?_)
           · (refine mkS.out _ ?_; ((with_reducible (repeat (first | assumption | exact Ext.refl _ | apply Ext.drew | apply Ext.drewN | apply Ext.alloc))); done))
           refine wpAnyH_take (i := 0) (oi := ⟨some 22, .move (.tmp 6), 4, "ref.go:28", #[], none⟩) (v := ?_) rfl (by kernel_rfl) (by kernel_rfl) (by kernel_rfl) (fun _ _ _ h => h) (Or.inl ⟨by rfl, ?_⟩) (by assumption) ?_
           rotate_left
           · intro w hSw; (try dsimp only at hSw); first | (go_simp; done) | (go_simp; with_reducible rfl)
           try simp only [Act.put, List.setIfInBounds_toArray, List.set_cons_zero, List.set_cons_succ]
           refine wpAnyH_take (i := 1) (oi := ⟨some 23, .unOp .not 4 (.tmp 22), 4, "ref.go:28", #[⟨0, .data⟩], none⟩) (v := ?_) rfl (by kernel_rfl) (by kernel_rfl) (by kernel_rfl) (fun _ _ _ h => h) (Or.inl ⟨by rfl, ?_⟩) (by assumption) ?_
           rotate_left
           · intro w hSw; (try dsimp only at hSw); first | (go_simp; done) | (go_simp; with_reducible rfl)
           try simp only [Act.put, List.setIfInBounds_toArray, List.set_cons_zero, List.set_cons_succ]
           refine wpAnyH_take (i := 2) (oi := ⟨some 24, .move (.tmp 23), 4, "ref.go:28", #[⟨1, .data⟩], none⟩) (v := ?_) rfl (by kernel_rfl) (by kernel_rfl) (by kernel_rfl) (fun _ _ _ h => h) (Or.inl ⟨by rfl, ?_⟩) (by assumption) ?_
           rotate_left
           · intro w hSw; (try dsimp only at hSw); first | (go_simp; done) | (go_simp; with_reducible rfl)
           try simp only [Act.put, List.setIfInBounds_toArray, List.set_cons_zero, List.set_cons_succ]
           refine wpAnyH_take (i := 3) (oi := ⟨some 25, .load 24 (.tmp 3), 24, "ref.go:28", #[⟨2, .guard⟩], some (2, true)⟩) (v := ?_) rfl (by kernel_rfl) (by kernel_rfl) (by kernel_rfl) (fun _ _ _ h => h) (Or.inl ⟨by rfl, ?_⟩) (by assumption) ?_
           rotate_left
           · intro w hSw; (try dsimp only at hSw); first | (go_simp; done) | (go_simp; with_reducible rfl)
           try simp only [Act.put, List.setIfInBounds_toArray, List.set_cons_zero, List.set_cons_succ]
           refine wpAnyH_take (i := 4) (oi := ⟨some 26, .move (.tmp 0), 34, "ref.go:28", #[⟨2, .guard⟩], some (2, true)⟩) (v := ?_) rfl (by kernel_rfl) (by kernel_rfl) (by kernel_rfl) (fun _ _ _ h => h) (Or.inl ⟨by rfl, ?_⟩) (by assumption) ?_
           rotate_left
           · intro w hSw; (try dsimp only at hSw); first | (go_simp; done) | (go_simp; with_reducible rfl)
           try simp only [Act.put, List.setIfInBounds_toArray, List.set_cons_zero, List.set_cons_succ]
           refine wpAnyH_take (i := 5) (oi := ⟨some 27, .move (.tmp 7), 3, "ref.go:28", #[⟨2, .guard⟩], some (2, true)⟩) (v := ?_) rfl (by kernel_rfl) (by kernel_rfl) (by kernel_rfl) (fun _ _ _ h => h) (Or.inl ⟨by rfl, ?_⟩) (by assumption) ?_
           rotate_left
           · intro w hSw; (try dsimp only at hSw); first | (go_simp; done) | (go_simp; with_reducible rfl)
           try simp only [Act.put, List.setIfInBounds_toArray, List.set_cons_zero, List.set_cons_succ]
           refine wpAnyH_take (i := 6) (oi := ⟨some 28, .indexAddr 34 (.tmp 26) (.tmp 27), 0, "ref.go:28", #[⟨4, .data⟩, ⟨5, .data⟩, ⟨2, .guard⟩], some (2, true)⟩) (v := ?_) rfl (by kernel_rfl) (by kernel_rfl) (by kernel_rfl) (fun _ _ _ h => h) (Or.inl ⟨by rfl, ?_⟩) (by assumption) ?_
           rotate_left
           · intro w hSw; (try dsimp only at hSw); first | (go_simp; done) | (go_simp; with_reducible rfl)
           try simp only [Act.put, List.setIfInBounds_toArray, List.set_cons_zero, List.set_cons_succ]
           refine wpAnyH_take (i := 7) (oi := ⟨some 29, .load 24 (.tmp 28), 24, "ref.go:28", #[⟨6, .data⟩, ⟨2, .guard⟩], some (2, true)⟩) (v := ?_) rfl (by kernel_rfl) (by kernel_rfl) (by kernel_rfl) (fun _ _ _ h => h) (Or.inl ⟨by rfl, ?_⟩) (by assumption) ?_
           rotate_left
           · intro w hSw; (try dsimp only at hSw); first | (go_simp; done) | (go_simp; with_reducible rfl)
           try simp only [Act.put, List.setIfInBounds_toArray, List.set_cons_zero, List.set_cons_succ]
           refine wpAnyH_ready (rs := [8]) (by kernel_rfl) (by simp) ?_
           refine AllReadyH.cons (o := ⟨some 30, .call { callee := .value (.func 35), args := #[.tmp 25, .tmp 29], argTypes := #[24, 24] }, 4, "ref.go:28", #[⟨3, .data⟩, ⟨7, .data⟩, ⟨2, .chain⟩, ⟨2, .guard⟩], some (2, true)⟩) rfl (fun K hK => ?_) AllReadyH.nil
           go_simp
           refine (cB _).mono ?_; rintro e x1 ⟨rfl, E1⟩; have X1 : Ext wq x1 := Ext.trans (by first | exact Ext.refl _ | exact (Ext.refl _).drew) E1
           try go_wp2_with fail
           refine hK.out _ _ ?_ (fun hHeld1 => ?_)
           · (try dsimp only); (refine mkS.out _ ?_; ((with_reducible (repeat (first | assumption | exact Ext.refl _ | apply Ext.drew | apply Ext.drewN | apply Ext.alloc))); done))
           clear hK K hHeld0
           try simp only [Act.put, List.setIfInBounds_toArray, List.set_cons_zero, List.set_cons_succ]
           refine wpAnyH_take (i := 9) (oi := ⟨some 31, .pick (.tmp 24) (.tmp 30) (.const (.bool false)), 4, "ref.go:28", #[⟨2, .data⟩, ⟨8, .data⟩], none⟩) (v := ?_) rfl (by kernel_rfl) (by kernel_rfl) (by kernel_rfl) (fun _ _ _ h => h) (Or.inl ⟨by rfl, ?_⟩) (by assumption) ?_
           rotate_left
           · intro w hSw; (try dsimp only at hSw); first | (go_simp; done) | (go_simp; with_reducible rfl)
           try simp only [Act.put, List.setIfInBounds_toArray, List.set_cons_zero, List.set_cons_succ]
           refine wpAnyH_done (by kernel_rfl) ?_ _
           obtain ⟨g1, g2, g3, g4⟩ := mkS.out _ X1
           have H1 : Hid (PuS w (p1, p2) l k u5 false x1) := HS.out.ext X1
           clear X1 mkS HS
           go_wp2_with (first | (have _ := H4.out.1; at_builtin; refine app_g eltP cP_len cP_one (by decide) _ (w.alloc (.cells #[.int .i64 p1, .int .i64 p2] 24)) _ _ _ _ (l.take k ++ [(p1, p2)]).length 1 (l.take k ++ [(p1, p2)]) [(s1, s2)] (w.heap.size + 1) rfl rfl (by rfl) (by rfl) (own_len (ownsRow_ext H4.out.1 ((Ext.refl _).alloc _)) (by simp) rfl) rfl (rd_onq (Ext.refl _)) (tk2 HL.out) (H4.out.2.alloc _) (by simp) (by have := (H4.out.2.alloc (.cells #[] 0)).size; simp at this ⊢; omega) ?_; intro v9 w9 O9 E9 _ _; have H3 : Hid _ := PuS.yes H1.out.f.symm HK.out HT.out HN.out E9 O9; clear O9 E9) | (at_builtin; refine app_g eltP cP_len cP_one (by decide) _ (w.alloc (.cells #[.int .i64 p1, .int .i64 p2] 24)) _ _ _ _ (l.take k).length 1 (l.take k) [(p1, p2)] (w.heap.size + 1) rfl rfl (by rfl) (by rfl) (own_len (ownsRow_ext H1.out.o ((Ext.refl _).alloc _)) rfl rfl) rfl (rd_onq (Ext.refl _)) (tk1 HL.out) (H1.out.e.alloc _) (by simp) (by have := (H1.out.e.alloc (.cells #[] 0)).size; simp at this ⊢; omega) ?_; intro v9 w9 O9 E9 _ _; have H4 : Hid _ := And.intro O9 E9; clear O9 E9 g1 g2 g3 g4; obtain ⟨g1, g2, g3, g4⟩ := HC.out _ H4.out.2))
           go_roundw
           case rel => exact ⟨k + 1, true, by rw [wk], rfl, H3.out⟩
           case measure => rw [wk]; simp [intOf]; omega
       · go_upto_region 7 with fail
         refine wp_region_held_drew (S := (fun V => V.cell? ⟨b, off + k * 2, none⟩ = some (.int .i64 s1) ∧ V.cell? ⟨b, off + k * 2 + 1, none⟩ = some (.int .i64 s2) ∧ V.cell? ⟨w.heap.size, 0, none⟩ = some (.int .i64 p1) ∧ V.cell? ⟨w.heap.size, 1, none⟩ = some (.int .i64 p2))) (by kernel_rfl) ?_ (fun hHeld0 => ?_)
         · (refine mkS.out _ ?_; ((with_reducible (repeat (first | assumption | exact Ext.refl _ | apply Ext.drew | apply Ext.drewN | apply Ext.alloc))); done))
         refine wpAnyH_take (i := 0) (oi := ⟨some 22, .move (.tmp 6), 4, "ref.go:28", #[], none⟩) (v := ?_) rfl (by kernel_rfl) (by kernel_rfl) (by kernel_rfl) (fun _ _ _ h => h) (Or.inl ⟨by rfl, ?_⟩) (by assumption) ?_
         rotate_left
         · intro w hSw; (try dsimp only at hSw); first | (go_simp; done) | (go_simp; with_reducible rfl)
         try simp only [Act.put, List.setIfInBounds_toArray, List.set_cons_zero, List.set_cons_succ]
         refine wpAnyH_take (i := 1) (oi := ⟨some 23, .unOp .not 4 (.tmp 22), 4, "ref.go:28", #[⟨0, .data⟩], none⟩) (v := ?_) rfl (by kernel_rfl) (by kernel_rfl) (by kernel_rfl) (fun _ _ _ h => h) (Or.inl ⟨by rfl, ?_⟩) (by assumption) ?_
         rotate_left
         · intro w hSw; (try dsimp only at hSw); first | (go_simp; done) | (go_simp; with_reducible rfl)
         try simp only [Act.put, List.setIfInBounds_toArray, List.set_cons_zero, List.set_cons_succ]
         refine wpAnyH_take (i := 2) (oi := ⟨some 24, .move (.tmp 23), 4, "ref.go:28", #[⟨1, .data⟩], none⟩) (v := ?_) rfl (by kernel_rfl) (by kernel_rfl) (by kernel_rfl) (fun _ _ _ h => h) (Or.inl ⟨by rfl, ?_⟩) (by assumption) ?_
         rotate_left
         · intro w hSw; (try dsimp only at hSw); first | (go_simp; done) | (go_simp; with_reducible rfl)
         try simp only [Act.put, List.setIfInBounds_toArray, List.set_cons_zero, List.set_cons_succ]
         refine wpAnyH_take (i := 3) (oi := ⟨some 25, .load 24 (.tmp 3), 24, "ref.go:28", #[⟨2, .guard⟩], some (2, true)⟩) (v := undef) rfl (by kernel_rfl) (by kernel_rfl) (by kernel_rfl) (fun _ _ _ h => h) (Or.inr ⟨by rfl, rfl⟩) (by assumption) ?_
         try simp only [Act.put, List.setIfInBounds_toArray, List.set_cons_zero, List.set_cons_succ]
         refine wpAnyH_take (i := 4) (oi := ⟨some 26, .move (.tmp 0), 34, "ref.go:28", #[⟨2, .guard⟩], some (2, true)⟩) (v := undef) rfl (by kernel_rfl) (by kernel_rfl) (by kernel_rfl) (fun _ _ _ h => h) (Or.inr ⟨by rfl, rfl⟩) (by assumption) ?_
         try simp only [Act.put, List.setIfInBounds_toArray, List.set_cons_zero, List.set_cons_succ]
         refine wpAnyH_take (i := 5) (oi := ⟨some 27, .move (.tmp 7), 3, "ref.go:28", #[⟨2, .guard⟩], some (2, true)⟩) (v := undef) rfl (by kernel_rfl) (by kernel_rfl) (by kernel_rfl) (fun _ _ _ h => h) (Or.inr ⟨by rfl, rfl⟩) (by assumption) ?_
         try simp only [Act.put, List.setIfInBounds_toArray, List.set_cons_zero, List.set_cons_succ]
         refine wpAnyH_take (i := 6) (oi := ⟨some 28, .indexAddr 34 (.tmp 26) (.tmp 27), 0, "ref.go:28", #[⟨4, .data⟩, ⟨5, .data⟩, ⟨2, .guard⟩], some (2, true)⟩) (v := undef) rfl (by kernel_rfl) (by kernel_rfl) (by kernel_rfl) (fun _ _ _ h => h) (Or.inr ⟨by rfl, rfl⟩) (by assumption) ?_
         try simp only [Act.put, List.setIfInBounds_toArray, List.set_cons_zero, List.set_cons_succ]
         refine wpAnyH_take (i := 7) (oi := ⟨some 29, .load 24 (.tmp 28), 24, "ref.go:28", #[⟨6, .data⟩, ⟨2, .guard⟩], some (2, true)⟩) (v := undef) rfl (by kernel_rfl) (by kernel_rfl) (by kernel_rfl) (fun _ _ _ h => h) (Or.inr ⟨by rfl, rfl⟩) (by assumption) ?_
         try simp only [Act.put, List.setIfInBounds_toArray, List.set_cons_zero, List.set_cons_succ]
         refine wpAnyH_take (i := 8) (oi := ⟨some 30, .call { callee := .value (.func 35), args := #[.tmp 25, .tmp 29], argTypes := #[24, 24] }, 4, "ref.go:28", #[⟨3, .data⟩, ⟨7, .data⟩, ⟨2, .chain⟩, ⟨2, .guard⟩], some (2, true)⟩) (v := undef) rfl (by kernel_rfl) (by kernel_rfl) (by kernel_rfl) (fun _ _ _ h => h) (Or.inr ⟨by rfl, rfl⟩) (by assumption) ?_
         try simp only [Act.put, List.setIfInBounds_toArray, List.set_cons_zero, List.set_cons_succ]
         refine wpAnyH_take (i := 9) (oi := ⟨some 31, .pick (.tmp 24) (.tmp 30) (.const (.bool false)), 4, "ref.go:28", #[⟨2, .data⟩, ⟨8, .data⟩], none⟩) (v := ?_) rfl (by kernel_rfl) (by kernel_rfl) (by kernel_rfl) (fun _ _ _ h => h) (Or.inl ⟨by rfl, ?_⟩) (by assumption) ?_
         rotate_left
         · intro w hSw; (try dsimp only at hSw); first | (go_simp; done) | (go_simp; with_reducible rfl)
         try simp only [Act.put, List.setIfInBounds_toArray, List.set_cons_zero, List.set_cons_succ]
         refine wpAnyH_done (by kernel_rfl) ?_ _
         obtain ⟨g1, g2, g3, g4⟩ := mkS.out _ ((Ext.refl _).drew)
         have H1 : Hid (PuS w (p1, p2) l k u5 true wq) := HS.out
         clear mkS HS
         go_wp2_with (at_builtin; refine app_g eltP cP_len cP_one (by decide) _ (w.alloc (.cells #[.int .i64 p1, .int .i64 p2] 24)) _ _ _ _ (ins (l.take k) (p1, p2)).length 1 (ins (l.take k) (p1, p2)) [(s1, s2)] (w.heap.size + 1) rfl rfl (by rfl) (by rfl) (own_len (ownsRow_ext H1.out.o (((Ext.refl _).alloc _).drew)) rfl rfl) rfl (rd_onq ((Ext.refl _).drew)) (tk3 HL.out) ((H1.out.e.alloc _).drew) (by simp) (by have := (H1.out.e.alloc (.cells #[] 0)).size; simp at this ⊢; omega) ?_; intro v9 w9 O9 E9 _ _; have H3 : Hid _ := H1.out.on HK.out HT.out E9 O9; clear O9 E9)
         go_roundw
         case rel => exact ⟨k + 1, true, by rw [wk], rfl, H3.out⟩
         case measure => rw [wk]; simp [intOf]; omega
     · have HT : Hid (putP l (p1, p2) = l) := by
         have h1 := List.mem_of_getElem? HK.out
         simp at he
         rw [he.1, he.2] at h1
         show putP _ _ = _
         unfold putP
         rw [if_pos h1]
       rw [he] at qE
       clear he
       go_quiet (fail)
       go_wp2
       go_ret
       refine ⟨_, rfl, ?_, HS.out.ew.drewN _⟩
       rw [HT.out]
       exact HR.out.ext (HS.out.ew.drewN _)
   · have hltI : ¬ (k : Int) < (l.length : Int) := by omega
     have HT : Hid (putP l (p1, p2) = ins l (p1, p2) ∧ l.take k = l) := by
       have h1 := HS.out.n
       rw [List.take_of_length_le hge] at h1
       refine ⟨?_, List.take_of_length_le hge⟩
       unfold putP
       rw [if_neg h1]
     cases F
     · go_wp2_with (at_builtin; refine app_g eltP cP_len cP_one (by decide) _ (w.alloc (.cells #[.int .i64 p1, .int .i64 p2] 24)) _ _ _ _ (l.take k).length 1 (l.take k) [(p1, p2)] (w.heap.size + 1) rfl rfl (by rfl) (by rfl) (own_len (ownsRow_ext HS.out.o ((Ext.refl _).alloc _)) rfl rfl) rfl (rd_onq (Ext.refl _)) (tk1 HL.out) (HS.out.e.alloc _) (by simp) (by have := (HS.out.e.alloc (.cells #[] 0)).size; simp at this ⊢; omega) ?_; intro v9 w9 O9 E9 _ _; have H3 : Hid (RdP w9 v9 (putP l (p1, p2)) ∧ Ext w w9) := And.intro (by rw [HT.out.1, ← HT.out.2, ins_no HS.out.f.symm]; exact own_rdG cP_len O9 (by simp)) (((Ext.refl w).alloc _).trans E9); clear O9 E9)
       go_ret
       exact ⟨_, rfl, H3.out.1, H3.out.2⟩
     · go_wp2_with fail
       go_ret
       refine ⟨_, rfl, ?_, HS.out.ew⟩
       rw [HT.out.1]
       have := HS.out.o
       simp only [if_true, HT.out.2] at this
       exact own_rdG cP_len this rfl
end Go.Proofs.Ytjpiphnbadggoaa
