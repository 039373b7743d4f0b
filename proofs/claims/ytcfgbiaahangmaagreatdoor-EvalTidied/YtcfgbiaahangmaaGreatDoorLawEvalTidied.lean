/-
 EvalTidied is proved: for every text and every list of values the call returns true and the arguments read as they did. Its condition: the listed tables lie as the program text lays them (the card ties them).
-/
import Derived.Test.YtcfgbiaahangmaaGreatDoorT24
import Derived.Test.YtcfgbiaahangmaaGreatDoorT40
import Derived.Test.YtcfgbiaahangmaaGreatDoorCards
import Derived.Test.YtcfgbiaahangmaaGreatDoorTie
import Derived.ChangeMaps5
import Derived.SizedLaws
set_option maxHeartbeats 1000000
set_option maxRecDepth 100000
namespace Go.Proofs.YtcfgbiaahangmaaGreatDoor.evalTidied
open Go.Proofs.Tryz
open Go.ChangeShapes Go.WideShapes Go.ChangeAt Go.RowKit
open Go.ChangeMaps (open_string shut_string)
open Go.Joins
theorem cat_list (a : ByteArray) : ((⟨#[40, 32]⟩ : ByteArray) ++ a ++ (⟨#[32, 41]⟩ : ByteArray)).data.toList = 40 :: 32 :: (a.data.toList ++ [32, 41]) := by
 rw [app_list, app_list]
 rfl
theorem form_of (a : ByteArray) (hs : a.size ≤ maxLen) (V : World) : Calls Tryz.prog 23 #[.string a] V fun e w' => ∃ (x : T) (pp : Option Addr) (ln cl : Nat) (pa pe : Int), e = .returned (.tuple #[.agg #[.int .i64 x.k, .int .i64 x.n, .string (bs x.s), .int .i64 x.e, .int .i64 x.r.1, .int .i64 x.r.2.1, .bool x.r.2.2.1, .bool x.r.2.2.2, .int .i64 x.q.1, .int .i64 x.q.2.1, .bool x.q.2.2.1, .bool x.q.2.2.2, .slice pp ln cl], .int .i64 pa, .int .i64 pe]) ∧ IsL w' (fun _ => True) (.slice pp ln cl) x.l ∧ Ext V w' ∧ (((parR a.data.toList).2.2 = 0 ∧ x = (parR a.data.toList).1 ∧ pe = 0) ∨ (pe ≠ 0)) := by
 refine (rformula_any a V hs).mono ?_
 rintro e w' ⟨x, lv, pa, pe, rfl, hL, hE, hq⟩
 obtain ⟨pp, cl, rfl, _⟩ := hL.form
 refine ⟨x, pp, x.l.length, cl, pa, pe, rfl, hL.mono (fun _ _ _ => trivial), hE, ?_⟩
 split at hq
 · rename_i h
   exact .inl ⟨h, hq.1, hq.2.2⟩
 · exact .inr hq.2
theorem ok_gt {l : List UInt8} (h : (parR l).2.2 = 0) : Hr 401 (parR l).1 ∧ Wf (parR l).1 :=
 ⟨(par_gt h).hr, (par_gt h).wf⟩
theorem walk (a0 : ByteArray) (l1 : List Kn) (pp1 : Option Addr) (ln1 cl1 : Nat) (w : World) (w0 : a0.size ≤ maxLen) (hr0 : a0.size ≤ 140737488351232) (rd1 : RdKn w (.slice pp1 ln1 cl1) l1) (ki1 : KnI l1) (hN : Nm w) (hT : Tab w) :
   Calls Tryz.prog 6 #[.string a0, .slice pp1 ln1 cl1] w fun e w' => e = .returned (.bool true) ∧ Ext w w' := by
 have cB := boards_any w l1 pp1 ln1 cl1 rd1 ki1 hN
 have cV := fun V (e : Ext w V) => lives15_any V (hN.ext e) (hT.ext e)
 have cF := fun V => form_of a0 w0 V
 obtain ⟨a2, ha2⟩ : ∃ a2, (⟨#[40, 32]⟩ : ByteArray) ++ a0 ++ (⟨#[32, 41]⟩ : ByteArray) = a2 := ⟨_, rfl⟩
 have hz2 : a2.size ≤ maxLen := by
   have s1 : (⟨#[40, 32]⟩ : ByteArray).size = 2 := rfl
   have s2 : (⟨#[32, 41]⟩ : ByteArray).size = 2 := rfl
   rw [← ha2, ByteArray.size_append, ByteArray.size_append, s1, s2]
   unfold maxLen
   omega
 have hl2 : a2.data.toList = 40 :: 32 :: (a0.data.toList ++ [32, 41]) := by rw [← ha2]; exact cat_list a0
 have cG := fun V => form_of a2 hz2 V
 have HN : Hid (Nm w ∧ Tab w ∧ a2.data.toList = 40 :: 32 :: (a0.data.toList ++ [32, 41])) := ⟨hN, hT, hl2⟩
 have hs0 : a0.size ≤ 140737488351232 := hr0
 clear rd1 ki1 hN hT w0 hl2 hz2
 go_enter func6, ntmps6
 go_wp2_with fail
 refine cB.mono ?_
 rintro e w1 ⟨d, g, p, c, rfl, hB⟩
 have HB : Hid (BdI w w.heap.size d g p c 200 (bM (l1.take 200)) (bL (l1.take 200)) w1) := hB
 clear hB cB
 go_wp2_with fail
 refine (cF _).mono ?_
 rintro e w2 ⟨x, p1, n1, c1, pa, pe, rfl, hL2, E2, hq⟩
 have H2 : Hid (Ext w1 w2 ∧ IsL w2 (fun _ => True) (.slice p1 n1 c1) x.l ∧ (((parR a0.data.toList).2.2 = 0 ∧ x = (parR a0.data.toList).1 ∧ pe = 0) ∨ (pe ≠ 0))) := ⟨E2, hL2, hq⟩
 clear hL2 E2 hq cF
 go_wp2_with fail
 refine (cG _).mono ?_
 rintro e w3 ⟨y, p2, n2, c2, qa, qe, rfl, hL3, E3, hq⟩
 have H3 : Hid (Ext w w3 ∧ IsL w3 (fun _ => True) (.slice p2 n2 c2) y.l ∧ (((parR a2.data.toList).2.2 = 0 ∧ y = (parR a2.data.toList).1 ∧ qe = 0) ∨ (qe ≠ 0)) ∧ IsL w3 (fun _ => True) (.slice p1 n1 c1) x.l ∧ Ext w1 w3 ∧ Blk13 w3 w2.heap.size (.int .i64 x.k) (.int .i64 x.n) (.string (bs x.s)) (.int .i64 x.e) (.int .i64 x.r.1) (.int .i64 x.r.2.1) (.bool x.r.2.2.1) (.bool x.r.2.2.2) (.int .i64 x.q.1) (.int .i64 x.q.2.1) (.bool x.q.2.2.1) (.bool x.q.2.2.2) (.slice p1 n1 c1)) := ⟨((HB.out.e.trans H2.out.1).alloc _).trans E3, hL3, hq, H2.out.2.1.ext ((xr.alloc _).trans E3), (H2.out.1.alloc _).trans E3, (blk13_top rfl xr).ext E3⟩
 clear hL3 E3 hq cG ha2 hs0
 by_cases hp : pe = 0
 · have p0 : (pe != 0) = false := by simpa using hp
   by_cases hr : qe = 0
   · have r0 : (qe != 0) = false := by simpa using hr
     have ⟨hx0, hx⟩ : (parR a0.data.toList).2.2 = 0 ∧ x = (parR a0.data.toList).1 := by
       rcases H2.out.2.2 with h | h
       · exact ⟨h.1, h.2.1⟩
       · exact absurd hp h
     have ⟨hy0, hy⟩ : (parR a2.data.toList).2.2 = 0 ∧ y = (parR a2.data.toList).1 := by
       rcases H3.out.2.2.1 with h | h
       · exact ⟨h.1, h.2.1⟩
       · exact absurd hr h
     have hxy : y = x := by
       rw [hx, hy, HN.out.2.2]
       rw [HN.out.2.2] at hy0
       rcases parR_brk2 hx0 with h | h
       · rw [h] at hy0; cases hy0
       · rw [h]
     obtain ⟨hH, hW⟩ := ok_gt hx0
     rw [← hx] at hH hW
     subst hxy
     clear hx hy hx0 hy0 hp hr
     generalize y = T at *
     obtain ⟨W9, hW9⟩ : ∃ W9, W9 = w3.alloc (.cells #[.int .i64 T.k, .int .i64 T.n, .string (bs T.s), .int .i64 T.e, .int .i64 T.r.1, .int .i64 T.r.2.1, .bool T.r.2.2.1, .bool T.r.2.2.2, .int .i64 T.q.1, .int .i64 T.q.2.1, .bool T.q.2.2.1, .bool T.q.2.2.2, .slice p2 n2 c2] 43) := ⟨_, rfl⟩
     have E39 : Ext w3 W9 := by rw [hW9]; exact xr.alloc _
     have H9 : Hid (Ext w W9 ∧ Ent W9 w.heap.size g 200 (bM (l1.take 200)) ∧ IsL W9 (fun _ => True) (.slice p1 n1 c1) T.l ∧ IsL W9 (fun _ => True) (.slice p2 n2 c2) T.l ∧ Blk13 W9 w2.heap.size (.int .i64 T.k) (.int .i64 T.n) (.string (bs T.s)) (.int .i64 T.e) (.int .i64 T.r.1) (.int .i64 T.r.2.1) (.bool T.r.2.2.1) (.bool T.r.2.2.2) (.int .i64 T.q.1) (.int .i64 T.q.2.1) (.bool T.q.2.2.1) (.bool T.q.2.2.2) (.slice p1 n1 c1) ∧ Blk13 W9 w3.heap.size (.int .i64 T.k) (.int .i64 T.n) (.string (bs T.s)) (.int .i64 T.e) (.int .i64 T.r.1) (.int .i64 T.r.2.1) (.bool T.r.2.2.1) (.bool T.r.2.2.2) (.int .i64 T.q.1) (.int .i64 T.q.2.1) (.bool T.q.2.2.1) (.bool T.q.2.2.2) (.slice p2 n2 c2)) := by
       refine ⟨H3.out.1.trans E39, ⟨HB.out.br.ext (H3.out.2.2.2.2.1.trans E39), HN.out.1.ext (H3.out.1.trans E39), HN.out.2.1.ext (H3.out.1.trans E39)⟩, H3.out.2.2.2.1.ext E39, H3.out.2.1.ext E39, H3.out.2.2.2.2.2.ext E39, ?_⟩
       rw [hW9]
       exact blk13_top rfl xr
     have cE1 := fun V (e : Ext W9 V) => exp_any w.heap.size g 200 (bM (l1.take 200)) H9.out.2.1.b.ok 401 T hW hH V p1 n1 c1 (H9.out.2.1.ext e) (H9.out.2.2.1.ext e)
     have cE2 := fun V (e : Ext W9 V) => exp_any w.heap.size g 200 (bM (l1.take 200)) H9.out.2.1.b.ok 401 T hW hH V p2 n2 c2 (H9.out.2.1.ext e) (H9.out.2.2.2.1.ext e)
     generalize expV 401 (bM (l1.take 200)) T = v at *
     have mkS : Hid (∀ XB YB, Blk13 W9 XB (.int .i64 T.k) (.int .i64 T.n) (.string (bs T.s)) (.int .i64 T.e) (.int .i64 T.r.1) (.int .i64 T.r.2.1) (.bool T.r.2.2.1) (.bool T.r.2.2.2) (.int .i64 T.q.1) (.int .i64 T.q.2.1) (.bool T.q.2.2.1) (.bool T.q.2.2.2) (.slice p1 n1 c1) → Blk13 W9 YB (.int .i64 T.k) (.int .i64 T.n) (.string (bs T.s)) (.int .i64 T.e) (.int .i64 T.r.1) (.int .i64 T.r.2.1) (.bool T.r.2.2.1) (.bool T.r.2.2.2) (.int .i64 T.q.1) (.int .i64 T.q.2.1) (.bool T.q.2.2.1) (.bool T.q.2.2.2) (.slice p2 n2 c2) → ∀ V, Ext W9 V → (fun V => (V.cell? ⟨XB, 0, none⟩ = some (.int .i64 T.k) ∧ V.cell? ⟨XB, 1, none⟩ = some (.int .i64 T.n) ∧ V.cell? ⟨XB, 2, none⟩ = some (.string (bs T.s)) ∧ V.cell? ⟨XB, 3, none⟩ = some (.int .i64 T.e) ∧ V.cell? ⟨XB, 4, none⟩ = some (.int .i64 T.r.1) ∧ V.cell? ⟨XB, 5, none⟩ = some (.int .i64 T.r.2.1) ∧ V.cell? ⟨XB, 6, none⟩ = some (.bool T.r.2.2.1) ∧ V.cell? ⟨XB, 7, none⟩ = some (.bool T.r.2.2.2) ∧ V.cell? ⟨XB, 8, none⟩ = some (.int .i64 T.q.1) ∧ V.cell? ⟨XB, 9, none⟩ = some (.int .i64 T.q.2.1) ∧ V.cell? ⟨XB, 10, none⟩ = some (.bool T.q.2.2.1) ∧ V.cell? ⟨XB, 11, none⟩ = some (.bool T.q.2.2.2) ∧ V.cell? ⟨XB, 12, none⟩ = some (.slice p1 n1 c1) ∧ V.cell? ⟨YB, 0, none⟩ = some (.int .i64 T.k) ∧ V.cell? ⟨YB, 1, none⟩ = some (.int .i64 T.n) ∧ V.cell? ⟨YB, 2, none⟩ = some (.string (bs T.s)) ∧ V.cell? ⟨YB, 3, none⟩ = some (.int .i64 T.e) ∧ V.cell? ⟨YB, 4, none⟩ = some (.int .i64 T.r.1) ∧ V.cell? ⟨YB, 5, none⟩ = some (.int .i64 T.r.2.1) ∧ V.cell? ⟨YB, 6, none⟩ = some (.bool T.r.2.2.1) ∧ V.cell? ⟨YB, 7, none⟩ = some (.bool T.r.2.2.2) ∧ V.cell? ⟨YB, 8, none⟩ = some (.int .i64 T.q.1) ∧ V.cell? ⟨YB, 9, none⟩ = some (.int .i64 T.q.2.1) ∧ V.cell? ⟨YB, 10, none⟩ = some (.bool T.q.2.2.1) ∧ V.cell? ⟨YB, 11, none⟩ = some (.bool T.q.2.2.2) ∧ V.cell? ⟨YB, 12, none⟩ = some (.slice p2 n2 c2)) ∧ Ext W9 V) V) := by
       intro XB YB h1 h2 V e
       obtain ⟨_, ⟨a0, a1, a2, a3, a4, a5, a6, a7, a8, a9, a10, a11, a12⟩, _⟩ := h1.ext e
       obtain ⟨_, ⟨b0, b1, b2, b3, b4, b5, b6, b7, b8, b9, b10, b11, b12⟩, _⟩ := h2.ext e
       exact ⟨⟨a0, a1, a2, a3, a4, a5, a6, a7, a8, a9, a10, a11, a12, b0, b1, b2, b3, b4, b5, b6, b7, b8, b9, b10, b11, b12⟩, e⟩
     have qE := eq_val
     have qG := gd_val
     clear hW hH E39
     go_wp2_with fail
     rw [← hW9]
     clear hW9
     replace mkS : Hid (∀ V, Ext W9 V → _) := fun V e => mkS.out w2.heap.size w3.heap.size H9.out.2.2.2.2.1 H9.out.2.2.2.2.2 V e
     generalize w2.heap.size = XB at *
     generalize w3.heap.size = YB at *
     refine wp_region_held_drew (S := (fun V => (V.cell? ⟨XB, 0, none⟩ = some (.int .i64 T.k) ∧ V.cell? ⟨XB, 1, none⟩ = some (.int .i64 T.n) ∧ V.cell? ⟨XB, 2, none⟩ = some (.string (bs T.s)) ∧ V.cell? ⟨XB, 3, none⟩ = some (.int .i64 T.e) ∧ V.cell? ⟨XB, 4, none⟩ = some (.int .i64 T.r.1) ∧ V.cell? ⟨XB, 5, none⟩ = some (.int .i64 T.r.2.1) ∧ V.cell? ⟨XB, 6, none⟩ = some (.bool T.r.2.2.1) ∧ V.cell? ⟨XB, 7, none⟩ = some (.bool T.r.2.2.2) ∧ V.cell? ⟨XB, 8, none⟩ = some (.int .i64 T.q.1) ∧ V.cell? ⟨XB, 9, none⟩ = some (.int .i64 T.q.2.1) ∧ V.cell? ⟨XB, 10, none⟩ = some (.bool T.q.2.2.1) ∧ V.cell? ⟨XB, 11, none⟩ = some (.bool T.q.2.2.2) ∧ V.cell? ⟨XB, 12, none⟩ = some (.slice p1 n1 c1) ∧ V.cell? ⟨YB, 0, none⟩ = some (.int .i64 T.k) ∧ V.cell? ⟨YB, 1, none⟩ = some (.int .i64 T.n) ∧ V.cell? ⟨YB, 2, none⟩ = some (.string (bs T.s)) ∧ V.cell? ⟨YB, 3, none⟩ = some (.int .i64 T.e) ∧ V.cell? ⟨YB, 4, none⟩ = some (.int .i64 T.r.1) ∧ V.cell? ⟨YB, 5, none⟩ = some (.int .i64 T.r.2.1) ∧ V.cell? ⟨YB, 6, none⟩ = some (.bool T.r.2.2.1) ∧ V.cell? ⟨YB, 7, none⟩ = some (.bool T.r.2.2.2) ∧ V.cell? ⟨YB, 8, none⟩ = some (.int .i64 T.q.1) ∧ V.cell? ⟨YB, 9, none⟩ = some (.int .i64 T.q.2.1) ∧ V.cell? ⟨YB, 10, none⟩ = some (.bool T.q.2.2.1) ∧ V.cell? ⟨YB, 11, none⟩ = some (.bool T.q.2.2.2) ∧ V.cell? ⟨YB, 12, none⟩ = some (.slice p2 n2 c2)) ∧ Ext W9 V)) J3 ?_ (fun hHeld0 => ?_)
     · (refine mkS.out _ ?_; ((with_reducible (repeat (first | assumption | exact HX1.out | exact HX2.out | exact HX3.out | exact xr | apply Ext.drew | apply Ext.alloc))); done))
     refine tkI (i := 0) (oi := ⟨some 41, .load 43 (.tmp 7), 43, "law.go:109", #[], none⟩) ?_
     try simp only [Act.put, List.setIfInBounds_toArray, List.set_cons_zero, List.set_cons_succ]
     refine tkI (i := 1) (oi := ⟨some 42, .move (.tmp 5), 25, "law.go:109", #[], none⟩) ?_
     try simp only [Act.put, List.setIfInBounds_toArray, List.set_cons_zero, List.set_cons_succ]
     refine tkI (i := 3) (oi := ⟨some 44, .load 43 (.tmp 10), 43, "law.go:109", #[], none⟩) ?_
     try simp only [Act.put, List.setIfInBounds_toArray, List.set_cons_zero, List.set_cons_succ]
     refine tkI (i := 4) (oi := ⟨some 45, .move (.tmp 5), 25, "law.go:109", #[], none⟩) ?_
     try simp only [Act.put, List.setIfInBounds_toArray, List.set_cons_zero, List.set_cons_succ]
     refine wpAnyH_ready (rs := [2]) J3 J60 ?_
     refine AllReadyH.cons (o := ⟨some 43, .call { callee := .value (.func 14), args := #[.tmp 41, .tmp 42], argTypes := #[43, 25] }, 33, "law.go:109", #[⟨0, .data⟩, ⟨1, .data⟩], none⟩) rfl (fun K hK => ?_) AllReadyH.nil
     go_simp
     refine (cE1 _ (by exact Ext.drew xr)).mono ?_; rintro e x1 ⟨rfl, G1⟩; have HX1 : Hid (Ext W9 x1) := Ext.trans (Ext.drew xr) G1; clear G1
     try go_wp2_with fail
     refine hK.out _ _ ?_ (fun hHeld1 => ?_)
     · (try dsimp only); (refine mkS.out _ ?_; ((with_reducible (repeat (first | assumption | exact HX1.out | exact HX2.out | exact HX3.out | exact xr | apply Ext.drew | apply Ext.alloc))); done))
     clear hK K hHeld0
     try simp only [Act.put, List.setIfInBounds_toArray, List.set_cons_zero, List.set_cons_succ]
     refine wpAnyH_ready (rs := [5]) J3 J60 ?_
     refine AllReadyH.cons (o := ⟨some 46, .call { callee := .value (.func 14), args := #[.tmp 44, .tmp 45], argTypes := #[43, 25] }, 33, "law.go:109", #[⟨3, .data⟩, ⟨4, .data⟩, ⟨2, .chain⟩], none⟩) rfl (fun K hK => ?_) AllReadyH.nil
     go_simp
     refine (cE2 _ HX1.out).mono ?_; rintro e x2 ⟨rfl, G2⟩; have HX2 : Hid (Ext W9 x2) := HX1.out.trans G2; clear G2
     try go_wp2_with fail
     refine hK.out _ _ ?_ (fun hHeld2 => ?_)
     · (try dsimp only); (refine mkS.out _ ?_; ((with_reducible (repeat (first | assumption | exact HX1.out | exact HX2.out | exact HX3.out | exact xr | apply Ext.drew | apply Ext.alloc))); done))
     clear hK K hHeld1
     try simp only [Act.put, List.setIfInBounds_toArray, List.set_cons_zero, List.set_cons_succ]
     refine tkI (i := 6) (oi := ⟨some 47, .binOp .eql 33 (.tmp 43) (.tmp 46) 33, 4, "law.go:109", #[⟨2, .data⟩, ⟨5, .data⟩], none⟩) ?_
     try simp only [Act.put, List.setIfInBounds_toArray, List.set_cons_zero, List.set_cons_succ]
     refine tkI (i := 7) (oi := ⟨some 48, .move (.tmp 47), 4, "law.go:109", #[⟨6, .data⟩, ⟨5, .chain⟩], none⟩) ?_
     try simp only [Act.put, List.setIfInBounds_toArray, List.set_cons_zero, List.set_cons_succ]
     refine wpAnyH_ready (rs := [8]) J3 J60 ?_
     refine AllReadyH.cons (o := ⟨some 49, .call { callee := .value (.func 12), args := #[], argTypes := #[] }, 4, "law.go:109", #[⟨7, .chain⟩, ⟨7, .guard⟩], some (7, true)⟩) rfl (fun K hK => ?_) AllReadyH.nil
     go_simp
     refine (cV _ (H9.out.1.trans HX2.out)).mono ?_; rintro e x3 ⟨rfl, G3⟩; have HX3 : Hid (Ext W9 x3) := HX2.out.trans G3; clear G3
     try go_wp2_with fail
     refine hK.out _ _ ?_ (fun hHeld3 => ?_)
     · (try dsimp only); (refine mkS.out _ ?_; ((with_reducible (repeat (first | assumption | exact HX1.out | exact HX2.out | exact HX3.out | exact xr | apply Ext.drew | apply Ext.alloc))); done))
     clear hK K hHeld2
     try simp only [Act.put, List.setIfInBounds_toArray, List.set_cons_zero, List.set_cons_succ]
     refine tkI (i := 9) (oi := ⟨some 50, .pick (.tmp 48) (.tmp 49) (.const (.bool false)), 4, "law.go:109", #[⟨7, .data⟩, ⟨8, .data⟩], none⟩) ?_
     try simp only [Act.put, List.setIfInBounds_toArray, List.set_cons_zero, List.set_cons_succ]
     refine tkI (i := 10) (oi := ⟨some 4, .assign (.tmp 50), 4, "law.go:109", #[⟨9, .data⟩, ⟨8, .chain⟩, ⟨0, .phase⟩, ⟨1, .phase⟩, ⟨2, .phase⟩, ⟨3, .phase⟩, ⟨4, .phase⟩, ⟨5, .phase⟩, ⟨6, .phase⟩, ⟨7, .phase⟩, ⟨8, .phase⟩, ⟨9, .phase⟩], none⟩) ?_
     try simp only [Act.put, List.setIfInBounds_toArray, List.set_cons_zero, List.set_cons_succ]
     refine wpAnyH_done J3 ?_ _
     go_wp2_with fail
     go_ret
     exact ⟨rfl, H9.out.1.trans HX3.out⟩
   · have r0 : (qe != 0) = true := by simpa using hr
     clear hp hr
     exact K92
 · have p0 : (pe != 0) = true := by simpa using hp
   clear hp
   exact K92
theorem laidOut : laidOutB Tryz.prog = true := J3
theorem contract (H : Type) (enc : TypeId × Value → H) (W : World) (base : Nat) (args : Array Value) (ds gs : List (DataW H)) (before : List MemPlace)
   (hval0 : ∀ (j : Nat) t v, Tryz.f6.params[j]? = some t → args[j]? = some v → Value.okWide Tryz.prog W .any base t v)
   (hW : DataW.Whole enc Tryz.prog Tryz.f6.params.toList Rows.evalTidiedSpec.vars false W args.toList ds gs before) (hsz0 : (DataW.weightsEach Tryz.prog (Tryz.f6.params.toList ++ (OpenSpec.ofChange Rows.evalTidiedSpec).bare.plain.varTypes Tryz.prog) (ds ++ gs)).all (· ≤ reachBytes) = true) (hL : laidMetH Tryz.prog Rows.evalTidiedRow.laid W) :
   Calls Tryz.prog 6 args W fun e W' => ∃ v, e = .returned v ∧ Rows.evalTidiedSpec.post enc Tryz.prog Tryz.f6 false true false false W args v W' := by
 have hval := hval0
 have hW' := hW
 obtain ⟨p, q, hA0, hV, rfl, hfz, hnd⟩ := hW'
 have hA : DataW.TrodAll enc Tryz.prog W 0 (fun _ => true) true Tryz.f6.params.toList args.toList ds p := hA0
 rw [Tryz.params6] at hA hval
 obtain ⟨v0, vs0, d0, ds0, p0, q0, hargs, rfl, rfl, h0, r0⟩ := trodAll_cons hA
 obtain ⟨v1, vs1, d1, ds1, p1, q1, rfl, rfl, rfl, h1, r1⟩ := trodAll_cons r0
 obtain ⟨rfl, rfl, rfl⟩ := trodAll_nil r1
 obtain rfl : args = #[v0, v1] := by cases args; simp_all
 obtain ⟨rfl, rfl⟩ := trodVars_none hV
 obtain ⟨a0, rfl, rfl, rfl, w0⟩ := open_string Tryz.underlying9 (hval 0 9 v0 rfl rfl) h0
 have hr0 : a0.size ≤ 140737488351232 := by
   have h := sized_string hsz0 (j := 0) (t := 9) rfl rfl
   rw [size_list] at h
   exact h
 have j1 := h1
 have lt1 : ∀ x ∈ p1, x.block < W.heap.size := by obtain ⟨m, hm⟩ := j1; exact DataW.trod_lt m _ _ _ hm
 obtain ⟨pp1, ln1, cl1, rfl⟩ := okWide_slice Tryz.underlying22 (hval 1 22 v1 rfl rfl)
 obtain ⟨l1, rd1, ki1⟩ : ∃ l, RdKn W (.slice pp1 ln1 cl1) l ∧ KnI l := by
   obtain ⟨fuel, hf⟩ := h1
   obtain ⟨l, g1, g2, _⟩ := open_kns hf
   exact ⟨l, g1, g2⟩
 clear hA0 hval0 hsz0
 refine (walk a0 l1 pp1 ln1 cl1 W w0 hr0 rd1 ki1 (nm_ofE hL) (tab_ofE hL)).mono fun e W' ⟨he, bel⟩ => ?_
 subst he
 exact ⟨_, rfl, _, _, _, [], _, [], hW, trodAll_mk1 (shut_bool Tryz.underlying4 _), (trodAll_cons_mk (shut_string Tryz.underlying9 w0) (trodAll_cons_mk (Below.trod laidOut J3 (of_decide_eq_true J3) j1 bel lt1) trodAll_mk0)), rfl, Below.frame bel _, fun h => by cases h⟩
theorem laid_met (os : Os) : laidMet Tryz.prog Rows.evalTidiedRow.laid ((laidWorldE os).forCall (fun _ _ => 0) ⟨#[], #[.string ⟨#[]⟩, .slice none 0 0], []⟩).memory :=
 laidMet_of_run' 8 J3 J3
theorem reads (os : Os) {H : Type} (enc : TypeId × Value → H) : ∃ places, DataW.whole enc Tryz.prog ((laidWorldE os).forCall (fun _ _ => 0) ⟨#[], #[.string ⟨#[]⟩, .slice none 0 0], []⟩).memory Tryz.f6.params.toList Rows.evalTidiedSpec.vars false (#[.string ⟨#[]⟩, .slice none 0 0] : Array Value).toList 8 = some ([.lit (.string []), .nil], [], places) :=
 ⟨[], by kernel_rfl⟩
theorem lifted (os : Os) (started : os.Started) (H : Type) (enc : TypeId × Value → H) (F : Stop.Interp) :
   ReturnsInHanded {} Tryz.checked os 6 .any ((OpenSpec.ofChange Rows.evalTidiedSpec).preRow enc Tryz.prog Tryz.f6 Rows.evalTidiedRow.domain false Rows.evalTidiedRow.laid) (((OpenSpec.ofChange Rows.evalTidiedSpec).at F).post enc Tryz.prog Tryz.f6 false true false false) := by
 obtain ⟨places, hx⟩ := reads os enc
 refine returnsInHanded_of_row (C := Tryz.checked) (s := (OpenSpec.ofChange Rows.evalTidiedSpec)) ownK started J3 func6
   (witness_row_at (enc := enc) (C := Tryz.checked) false (laidWorldE os) #[.string ⟨#[]⟩, .slice none 0 0] rfl J3 J3 J3
     (OpenSpec.preRow_of_cond 8 hx J3 (fun k hk => by cases hk) J3 (by
       rw [MakeChecks.laidMetH_plain _ _ _ J3]
       exact laid_met os))) ?_
 intro W base args ds gs before hval hW _ _ hsz hL _ _
 exact contract H enc W base args ds gs before hval hW hsz hL
theorem said : Rows.EvalTidiedSaid :=
 OpenClaim.holds_of_cond 6 Tryz.f6 rfl rfl rfl rfl rfl rfl rfl ⟨rfl, rfl, rfl, rfl, rfl⟩ rfl rfl rfl rfl rfl J3 func6 J3
   (of_decide_eq_true J3) (by unfold Func.isWrapper; first | (rw [if_pos (by decide +kernel)]; kernel_rfl) | (rw [if_neg (by decide +kernel)]; exact ⟨rfl, rfl⟩))
   (fun os started H enc _ F => by rw [OpenClaim.pre_eq_preRow]; exact lifted os started H enc F)
theorem plain (f : FuncId) (fn : Func) (hf : Tryz.pinned.checked.prog.funcNamed Rows.evalTidiedRow.func = some f) (hfn : Tryz.pinned.checked.prog.funcs[f]? = some fn) :
   true = Tryz.pinned.checked.prog.looks [] ∧ ∀ (j : Nat) t, fn.params[j]? = some t → Tryz.pinned.checked.prog.wantsStandIn t = false := by
 obtain rfl : f = 6 := Option.some.inj ((show Tryz.prog.funcNamed Rows.evalTidiedRow.func = some 6 by kernel_rfl).symm.trans hf) |>.symm
 obtain rfl : fn = Tryz.f6 := (Option.some.inj (Tryz.func6.symm.trans hfn)).symm
 refine ⟨by kernel_rfl, fun j t ht => ?_⟩
 rw [Tryz.params6] at ht
 have hm : t ∈ [9, 22] := by simpa using Array.mem_of_getElem? ht
 have hall : ([9, 22].all fun u => !Tryz.prog.wantsStandIn u) = true := J3
 exact (show Tryz.prog.wantsStandIn t = false by simpa using List.all_eq_true.1 hall t hm)
theorem card : Rows.EvalTidiedCardSaid :=
 Claim7.holds_tied_plain_at .later [] _ _ _ _ said (fun _ h => by cases h) J3 (fun _ h => by cases h) evalTidied_row_tie rfl ⟨rfl, rfl⟩ J3 rfl plain J3
end Go.Proofs.YtcfgbiaahangmaaGreatDoor.evalTidied
namespace Go.Proofs.YtcfgbiaahangmaaGreatDoor
theorem evalTidied_card : Rows.EvalTidiedCardSaid := evalTidied.card
end Go.Proofs.YtcfgbiaahangmaaGreatDoor
