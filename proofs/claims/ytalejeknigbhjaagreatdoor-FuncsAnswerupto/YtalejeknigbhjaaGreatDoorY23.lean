/-
 The document's answer for layer 14: index.
 The document's functions of many values: told, total.
-/
import Derived.Test.YtalejeknigbhjaaGreatDoorY22
import Derived.Deep.DeepCutAuto
import Derived.Test.YtalejeknigbhjaaGreatDoorY21
import Derived.Deep.RegionWith
namespace Go.Proofs.YtalejeknigbhjaaGreatDoor
open Go.RowKit
set_option maxHeartbeats 1000000

theorem pk_doc (b : Bg) (row col : Int) : ansV (pkR b row col) = if row < 1 ∨ row > b.rows ∨ col < 1 ∨ col > b.cols then .err 1 else match b.g.l[((row - 1) * b.cols + (col - 1)).toNat]? with | some r => r.v | none => .err 1 := by
 unfold pkR
 by_cases hb : row < 1 ∨ row > b.rows ∨ col < 1 ∨ col > b.cols
 · rw [if_pos hb, if_pos (by omega)]; rfl
 · rw [if_neg hb]
   have h1 : 1 ≤ row := by omega
   have h2 : 1 ≤ col := by omega
   have h3 : col ≤ b.cols := by omega
   have h4 : 0 ≤ (row - 1) * b.cols := Int.mul_nonneg (by omega) (by omega)
   by_cases h5 : (row - 1) * b.cols + (col - 1) < (b.g.l.length : Int)
   · have h6 : row - 1 ≤ ((b.g.l.length : Int) - col) / b.cols := Int.le_ediv_of_mul_le (by omega) (by omega)
     rw [if_neg (by omega), if_neg (by omega), show (row - 1) * b.cols + col - 1 = (row - 1) * b.cols + (col - 1) by omega]
     generalize ((row - 1) * b.cols + (col - 1)).toNat = j
     cases b.g.l[j]? <;> rfl
   · have h7 : b.g.l[((row - 1) * b.cols + (col - 1)).toNat]? = none := by
       rw [List.getElem?_eq_none]
       omega
     rw [h7]
     by_cases h8 : col > (b.g.l.length : Int)
     · rw [if_pos (by omega)]; rfl
     · rw [if_neg (by omega), if_pos ?_]
       · rfl
       · have : ¬ row - 1 ≤ ((b.g.l.length : Int) - col) / b.cols := by
           intro h9
           have h10 := Int.mul_le_mul_of_nonneg_right h9 (show 0 ≤ b.cols by omega)
           have h11 := Int.ediv_mul_le ((b.g.l.length : Int) - col) (show b.cols ≠ 0 by omega)
           omega
         omega
/-- An argument as the document takes it for an area. -/
def dOf (a : Bg) (q : Rw) : Bg := if a.g.area then a else ⟨⟨false, [q]⟩, 1, 1⟩
theorem pk_same (a : Bg) (q : Rw) (hq : a.g.area = false → q.v = one1 a.g.l) (ho : (sgl a).ok) (row col : Int) : ansV (pkR (arOf a) row col) = ansV (pkR (dOf a q) row col) := by
 unfold arOf dOf
 cases h : a.g.area with
 | true => rfl
 | false =>
   rw [pk_doc, pk_doc]
   have hs : (sgl a).rw.v = q.v := by
     rw [rw_v _ ho, hq h]
     unfold sgl
     rw [h]; rfl
   show (if row < 1 ∨ row > 1 ∨ col < 1 ∨ col > 1 then V.err 1 else match [(sgl a).rw][((row - 1) * 1 + (col - 1)).toNat]? with | some r => r.v | none => .err 1) = (if row < 1 ∨ row > 1 ∨ col < 1 ∨ col > 1 then V.err 1 else match [q][((row - 1) * 1 + (col - 1)).toNat]? with | some r => r.v | none => .err 1)
   generalize ((row - 1) * 1 + (col - 1)).toNat = j
   cases j with
   | zero => simp only [List.getElem?_cons_zero, hs]
   | succ j => rfl
theorem new_top4 (w : World) (o : Obj) : (w.alloc o).heap[w.heap.size]? = some o := by show (w.heap.push o)[w.heap.size]? = some o; simp
theorem rd_put2 {w : World} {v : Value} {q : Rw} {gA m c : Nat} {x : Bool} {rr cc : Int} {p : Option Addr} {T : TypeId} (h : RdV w.heap.size w v [q]) (hA : w.heap[gA]? = some (.cells #[.bool x, .int .i64 rr, .int .i64 cc, .slice p m c] T (0, 0))) (u0 u1 u2 u3 : Value) :
   RdV ((((w.setCell ⟨gA, 0, none⟩ u0).setCell ⟨gA, 1, none⟩ u1).setCell ⟨gA, 2, none⟩ u2).setCell ⟨gA, 3, none⟩ u3).heap.size ((((w.setCell ⟨gA, 0, none⟩ u0).setCell ⟨gA, 1, none⟩ u1).setCell ⟨gA, 2, none⟩ u2).setCell ⟨gA, 3, none⟩ u3) v [q] := by
 obtain ⟨p', c', h1, h2, h3⟩ := h
 refine ⟨p', c', h1, h2, ?_⟩
 rcases h3 with h3 | ⟨b, off, h3, h4, h5, h6⟩
 · cases h3
 · have hne : gA ≠ b := by
     intro e
     subst e
     obtain ⟨k0, k1, k2, k3⟩ := h6 0 q rfl
     simp only [Nat.zero_mul, Nat.add_zero] at k0 k1 k2 k3
     have g := fun j => cell_of_row w gA j _ T _ hA
     rw [g] at k0 k1 k2 k3
     match off with
     | 0 => simp at k0
     | 1 => simp at k2
     | 2 => simp at k1
     | 3 => simp at k0
     | off + 4 => simp at k0
   refine .inr ⟨b, off, h3, by simpa using h4, by simpa using h5, fun i r' hr => ?_⟩
   have k := fun o => show ((((w.setCell ⟨gA, 0, none⟩ u0).setCell ⟨gA, 1, none⟩ u1).setCell ⟨gA, 2, none⟩ u2).setCell ⟨gA, 3, none⟩ u3).cell? ⟨b, o, none⟩ = w.cell? ⟨b, o, none⟩ by
     rw [World.cell?_setCell_far _ _ _ _ hne, World.cell?_setCell_far _ _ _ _ hne, World.cell?_setCell_far _ _ _ _ hne, World.cell?_setCell_far _ _ _ _ hne]
   obtain ⟨q0, q1, q2, q3⟩ := h6 i r' hr
   exact ⟨(k _).trans q0, (k _).trans q1, (k _).trans q2, (k _).trans q3⟩
def NuE (X : V) : Prop := (∃ n, X = .num n ∧ I64 n ∧ canB n = true) ∨ (∃ e, X = .err e ∧ 1 ≤ e ∧ e ≤ 5)
theorem ix_out (l : List Bg) (a0 a1 : Bg) (h0 : l[0]? = some a0) (h1 : l[1]? = some a1) (X2 : V) (h2 : X2 = if l.length ≤ 2 then .num 10000 else (sg l 2).toNum) (o1 : (sgl a1).ok) (o2 : X2.ok) :
   (∀ e, (sgl a1).toNum = .err e → ansV (xIndex l) = .err e) ∧ (∀ d e, (sgl a1).toNum = .num d → X2 = .err e → ansV (xIndex l) = .err e) ∧ (∀ d f, (sgl a1).toNum = .num d → X2 = .num f → ansV (xIndex l) = ansV (pkR (arOf a0) (whN d) (whN f))) := by
 have w1 : ∀ v x, v.toNum = V.num x → whR v = .ok (whN x) := fun v x h => by unfold whR; rw [nuR_ok h]; rfl
 have w2 : ∀ v x, v.toNum = V.err x → whR v = .error x := fun v x h => by unfold whR; rw [nuR_no h]; rfl
 refine ⟨fun e he => ?_, fun d e hd he => ?_, fun d f hd hf => ?_⟩
 · unfold xIndex
   rw [sg_of h1, w2 _ _ he]
   have := toNum_ok _ o1
   rw [he] at this
   exact mkErr_is this
 · have hw : whO l 2 = .error e := by
     unfold whO
     split
     · rename_i hl; rw [if_pos hl] at h2; rw [h2] at he; cases he
     · rename_i hl; rw [if_neg hl] at h2; exact w2 _ _ (h2.symm.trans he)
   unfold xIndex
   rw [sg_of h1, w1 _ _ hd, hw]
   rw [he] at o2
   exact mkErr_is o2
 · have hw : whO l 2 = .ok (whN f) := by
     unfold whO
     split
     · rename_i hl; rw [if_pos hl] at h2; rw [h2] at hf; cases hf; rfl
     · rename_i hl; rw [if_neg hl] at h2; exact w1 _ _ (h2.symm.trans hf)
   unfold xIndex
   rw [sg_of h1, w1 _ _ hd, hw, h0]

set_option maxRecDepth 100000 in
theorem rindex_any (l : List Bg) (a0 a1 : Bg) (h0 : l[0]? = some a0) (h1 : l[1]? = some a1) (p : Option Addr) (n c : Nat) (W : World) (hF : FitB W (.slice p n c) l) :
   Calls Tryz.prog 25 #[.slice p n c] W fun e w' => e = .returned (.agg #[.int .i64 (ansV (xIndex l)).k, .int .i64 (ansV (xIndex l)).n, .string (ansV (xIndex l)).s, .int .i64 (ansV (xIndex l)).e]) ∧ Ext W w' := by
 have cT : ∀ W, Calls Tryz.prog 17 #[.int .i64 10000] W fun r w' => r = .returned (.agg #[.int .i64 2, .int .i64 10000, .string ⟨#[]⟩, .int .i64 0]) ∧ Ext W w' := fun W => by
   have := rnum_any 10000 W
   rwa [mkNum_is (by decide)] at this
 have cE := fun W => rerr_at 1 (by decide) W
 have hn := hF.rd.len
 have hz := hF.z
 have n2 : (n : Int) ≤ 1500000 := by omega
 have hlt : 1 < l.length := (List.getElem?_eq_some_iff.1 h1).1
 have n0 : (0 : Int) < (n : Int) := by omega
 have cG := fun V (e : Ext W V) => rarg_any l 1 a1 h1 p n c V (hF.ext e)
 have ok1 : (sgl a1).ok := by have := hF.ok 1; rwa [sg_of h1] at this
 have ok0 : (sgl a0).ok := by have := hF.ok 0; rwa [sg_of h0] at this
 have cX := fun W => rtonum_any (sgl a1).k (sgl a1).n (sgl a1).s (sgl a1).e W (nm_of _ ok1).2
 rw [(nm_of _ ok1).1, dat_eq] at cX
 obtain ⟨X2, hX2⟩ : ∃ X2, X2 = if l.length ≤ 2 then V.num 10000 else (sg l 2).toNum := ⟨_, rfl⟩
 have okX2 : X2.ok := by
   rw [hX2]
   split
   · exact ⟨⟨by decide, by decide⟩, by decide⟩
   · exact toNum_ok _ (hF.ok 2)
 have ho := ix_out l a0 a1 h0 h1 X2 hX2 ok1 okX2
 have ne2 : NuE X2 := by
   rw [hX2]
   split
   · exact .inl ⟨10000, rfl, ⟨by decide, by decide⟩, by decide⟩
   · exact toNum_cases _ (hF.ok 2)
 have HA : Hid ((l.length ≤ 2 → X2 = .num 10000) ∧ (¬ l.length ≤ 2 → ∃ a2, l[2]? = some a2 ∧ (∀ V, Ext W V → Calls Tryz.prog 26 #[.slice p n c, .int .i64 2] V fun e w' => e = .returned (.agg #[.int .i64 (sgl a2).k, .int .i64 (sgl a2).n, .string (sgl a2).s, .int .i64 (sgl a2).e]) ∧ Ext V w') ∧ (∀ V, Calls Tryz.prog 29 #[.agg #[.int .i64 (sgl a2).k, .int .i64 (sgl a2).n, .string (sgl a2).s, .int .i64 (sgl a2).e]] V fun e w' => e = .returned (.agg #[.int .i64 X2.k, .int .i64 X2.n, .string X2.s, .int .i64 X2.e]) ∧ Ext V w'))) := by
   refine ⟨fun h => by rw [hX2, if_pos h], fun h => ?_⟩
   have hx : l[2]? = some l[2] := List.getElem?_eq_getElem (by omega)
   have ok2 : (sgl l[2]).ok := by have := hF.ok 2; rwa [sg_of hx] at this
   refine ⟨l[2], hx, fun V e => rarg_any l 2 _ hx p n c V (hF.ext e), fun V => ?_⟩
   have c9 := rtonum_any (sgl l[2]).k (sgl l[2]).n (sgl l[2]).s (sgl l[2]).e V (nm_of _ ok2).2
   rw [(nm_of _ ok2).1] at c9
   rw [dat_eq] at c9
   rw [hX2, if_neg h, sg_of hx]
   exact c9
 obtain ⟨q, hq⟩ : ∃ q : Rw, a0.g.area = false → allL a0.g = [q] ∧ q.v = one1 a0.g.l := by
   cases har : a0.g.area with
   | true => exact ⟨zR, fun h => by cases h⟩
   | false => obtain ⟨q, h⟩ := allL_one a0.g har; exact ⟨q, fun _ => h⟩
 have hps := fun row col => pk_same a0 q (fun h => (hq h).2) ok0 row col
 have hD : (dOf a0 q).g.l.length ≤ 1500000 ∧ I64 (dOf a0 q).rows ∧ I64 (dOf a0 q).cols := by
   have hR := hF.r a0 (List.mem_of_getElem? h0)
   unfold dOf
   split
   · rename_i har
     refine ⟨?_, hR⟩
     have h3 := seen_le (l := gsOf l) (j := 0) (a := a0.g) (by unfold gsOf; rw [List.getElem?_map, h0]; rfl)
     have h4 : (seen1 a0.g).length = a0.g.l.length := by unfold seen1; rw [if_pos har]; simp
     have := hF.s
     omega
   · refine ⟨?_, ⟨?_, ?_⟩, ⟨?_, ?_⟩⟩ <;> simp
 have HF : Hid (FitB W (.slice p n c) l ∧ l[0]? = some a0 ∧ n = l.length) := ⟨hF, h0, hn⟩
 have HO : Hid ((∀ e, (sgl a1).toNum = .err e → ansV (xIndex l) = .err e) ∧ (∀ d e, (sgl a1).toNum = .num d → X2 = .err e → ansV (xIndex l) = .err e) ∧ (∀ d f, (sgl a1).toNum = .num d → X2 = .num f → ansV (xIndex l) = ansV (pkR (dOf a0 q) (whN d) (whN f)))) := ⟨ho.1, ho.2.1, fun d f hd hf => (ho.2.2 d f hd hf).trans (hps _ _)⟩
 have HQ : Hid (a0.g.area = false → allL a0.g = [q]) := fun h => (hq h).1
 have HD : Hid ((dOf a0 q).g.l.length ≤ 1500000 ∧ I64 (dOf a0 q).rows ∧ I64 (dOf a0 q).cols) := hD
 generalize ansV (xIndex l) = res at *
 have HK : Hid (NuE (sgl a1).toNum ∧ NuE X2) := ⟨toNum_cases _ ok1, ne2⟩
 generalize (sgl a1).toNum = X1 at *
 generalize sgl a1 = v1 at *
 clear hn hz hlt h0 h1 hF ok1 ok0 okX2 hX2 hq hps hD ne2 ho
 go_enter Tryz.func25, Tryz.ntmps25
 go_wp2_with fail
 refine (cG _ ((Ext.refl _).alloc _)).mono ?_
 rintro e w1 ⟨rfl, E1⟩
 have H1 : Hid (Ext W w1 ∧ Blk w1 W.heap.size (.int .i64 0) (.int .i64 0) (.string ⟨#[]⟩) (.int .i64 0)) := ⟨((Ext.refl _).alloc _).trans E1, blk_top (by simp) E1⟩
 clear E1
 go_wp2_with fail
 refine (cX _).mono ?_
 rintro e w2 ⟨rfl, E2⟩
 have H2 : Hid (Ext W w2 ∧ Blk w2 W.heap.size (.int .i64 0) (.int .i64 0) (.string ⟨#[]⟩) (.int .i64 0)) := ⟨H1.out.1.trans E2, H1.out.2.ext E2⟩
 clear E2
 go_wp2_with fail
 refine (cT _).mono ?_
 rintro e w3 ⟨rfl, E3⟩
 have H3 : Hid (Ext W w3 ∧ Blk w3 W.heap.size (.int .i64 0) (.int .i64 0) (.string ⟨#[]⟩) (.int .i64 0)) := ⟨H2.out.1.trans E3, H2.out.2.ext E3⟩
 clear E3 H1 H2 cG cX
 go_upto_if 15 with fail
 have H4 : Hid (Ext W ((w3.alloc (.cells #[.int .i64 X1.k, .int .i64 X1.n, .string X1.s, .int .i64 X1.e] 25)).alloc (.cells #[.int .i64 2, .int .i64 10000, .string ⟨#[]⟩, .int .i64 0] 25)) ∧ Blk ((w3.alloc (.cells #[.int .i64 X1.k, .int .i64 X1.n, .string X1.s, .int .i64 X1.e] 25)).alloc (.cells #[.int .i64 2, .int .i64 10000, .string ⟨#[]⟩, .int .i64 0] 25)) W.heap.size (.int .i64 0) (.int .i64 0) (.string ⟨#[]⟩) (.int .i64 0) ∧ Blk ((w3.alloc (.cells #[.int .i64 X1.k, .int .i64 X1.n, .string X1.s, .int .i64 X1.e] 25)).alloc (.cells #[.int .i64 2, .int .i64 10000, .string ⟨#[]⟩, .int .i64 0] 25)) w3.heap.size (.int .i64 X1.k) (.int .i64 X1.n) (.string X1.s) (.int .i64 X1.e) ∧ Blk ((w3.alloc (.cells #[.int .i64 X1.k, .int .i64 X1.n, .string X1.s, .int .i64 X1.e] 25)).alloc (.cells #[.int .i64 2, .int .i64 10000, .string ⟨#[]⟩, .int .i64 0] 25)) (w3.heap.size + 1) (.int .i64 2) (.int .i64 10000) (.string ⟨#[]⟩) (.int .i64 0)) := ⟨(H3.out.1.alloc _).alloc _, (H3.out.2.al _).al _, blk_top rfl ((Ext.refl _).alloc _), blk_top (by simp) (Ext.refl _)⟩
 have HW : Hid (W.heap.size < w3.heap.size) := H3.out.2.1
 generalize ((w3.alloc (.cells #[.int .i64 X1.k, .int .i64 X1.n, .string X1.s, .int .i64 X1.e] 25)).alloc (.cells #[.int .i64 2, .int .i64 10000, .string ⟨#[]⟩, .int .i64 0] 25)) = w4 at *
 obtain ⟨gB, hgB⟩ : ∃ g, w3.heap.size = g := ⟨_, rfl⟩
 obtain ⟨gC, hgC⟩ : ∃ g, w3.heap.size + 1 = g := ⟨_, rfl⟩
 rw [hgC, hgB] at H4
 have HB : Hid (gB ≠ gC ∧ W.heap.size ≠ gC ∧ W.heap.size ≤ gC ∧ W.heap.size ≠ gB) := by have := HW.out; exact ⟨by omega, by omega, by omega, by omega⟩
 rw [hgC, hgB]
 clear hgB hgC H3 HW w3
 go_cut [] (fun wx => Ext W wx ∧ Blk wx W.heap.size (.int .i64 0) (.int .i64 0) (.string ⟨#[]⟩) (.int .i64 0) ∧ Blk wx gB (.int .i64 X1.k) (.int .i64 X1.n) (.string X1.s) (.int .i64 X1.e) ∧ Blk wx gC (.int .i64 X2.k) (.int .i64 X2.n) (.string X2.s) (.int .i64 X2.e))
 case first =>
   by_cases hn2 : l.length ≤ 2
   · have hX := HA.out.1 hn2
     have d2 : ¬ (n : Int) > 2 := by have := HF.out.2.2; omega
     clear hn2
     go_wp2_with fail
     go_meet
     case rel => rw [hX]; exact H4.out
   · obtain ⟨a2, _, cG2, cX2⟩ := HA.out.2 hn2
     have d2 : (n : Int) > 2 := by have := HF.out.2.2; omega
     clear hn2
     generalize sgl a2 = v2 at *
     go_wp2_with fail
     refine (cG2 _ H4.out.1).mono ?_
     rintro e w5 ⟨rfl, E5⟩
     have H5 : Hid (Ext W w5 ∧ Blk w5 W.heap.size (.int .i64 0) (.int .i64 0) (.string ⟨#[]⟩) (.int .i64 0) ∧ Blk w5 gB (.int .i64 X1.k) (.int .i64 X1.n) (.string X1.s) (.int .i64 X1.e) ∧ Blk w5 gC (.int .i64 2) (.int .i64 10000) (.string ⟨#[]⟩) (.int .i64 0)) := ⟨H4.out.1.trans E5, H4.out.2.1.ext E5, H4.out.2.2.1.ext E5, H4.out.2.2.2.ext E5⟩
     clear E5
     go_wp2_with fail
     refine (cX2 _).mono ?_
     rintro e w6 ⟨rfl, E6⟩
     have H6 : Hid (Ext W w6 ∧ Blk w6 W.heap.size (.int .i64 0) (.int .i64 0) (.string ⟨#[]⟩) (.int .i64 0) ∧ Blk w6 gB (.int .i64 X1.k) (.int .i64 X1.n) (.string X1.s) (.int .i64 X1.e) ∧ Blk w6 gC (.int .i64 2) (.int .i64 10000) (.string ⟨#[]⟩) (.int .i64 0)) := ⟨H5.out.1.trans E6, H5.out.2.1.ext E6, H5.out.2.2.1.ext E6, H5.out.2.2.2.ext E6⟩
     clear E6
     obtain ⟨zc, ⟨c0, c1, c2, c3⟩, cf0, cf1, cf2, cf3⟩ := H6.out.2.2.2
     go_wp2_with fail
     go_meet
     case rel => exact ⟨(((H6.out.1.setCell (p := ⟨gC, 0, none⟩) HB.out.2.2.1 _).setCell (p := ⟨gC, 1, none⟩) HB.out.2.2.1 _).setCell (p := ⟨gC, 2, none⟩) HB.out.2.2.1 _).setCell (p := ⟨gC, 3, none⟩) HB.out.2.2.1 _, H6.out.2.1.far (Ne.symm HB.out.2.1) _ _ _ _, H6.out.2.2.1.far (Ne.symm HB.out.1) _ _ _ _, H6.out.2.2.2.set _ _ _ _⟩
 case rest =>
   have H7 : Hid (Ext W wc ∧ Blk wc W.heap.size (.int .i64 0) (.int .i64 0) (.string ⟨#[]⟩) (.int .i64 0) ∧ Blk wc gB (.int .i64 X1.k) (.int .i64 X1.n) (.string X1.s) (.int .i64 X1.e) ∧ Blk wc gC (.int .i64 X2.k) (.int .i64 X2.n) (.string X2.s) (.int .i64 X2.e)) := hcut
   clear hcut H4 HA cT
   obtain ⟨zb, ⟨b0, b1, b2, b3⟩, bf0, bf1, bf2, bf3⟩ := H7.out.2.2.1
   obtain ⟨zr, ⟨r0, r1, r2, r3⟩, rf0, rf1, rf2, rf3⟩ := H7.out.2.1
   rcases HK.out.1 with ⟨d, rfl, hdI, hdC⟩ | ⟨e, rfl, he⟩
   · rcases HK.out.2 with ⟨f, rfl, hfI, hfC⟩ | ⟨e, rfl, he⟩
     · have hr := HO.out.2.2 d f rfl rfl
       have cW1 := fun V => rwhole_any d hdI hdC V
       have cW2 := fun V => rwhole_any f hfI hfC V
       have hw1 : -1000000000000000 ≤ whN d ∧ whN d ≤ 1000000000000000 := by obtain ⟨i1, i2⟩ := hdI; unfold whN; omega
       have hw2 : -1000000000000000 ≤ whN f ∧ whN f ≤ 1000000000000000 := by obtain ⟨i1, i2⟩ := hfI; unfold whN; omega
       generalize whN d = row at *
       generalize whN f = col at *
       obtain ⟨zc, ⟨c0, c1, c2, c3⟩, cf0, cf1, cf2, cf3⟩ := H7.out.2.2.2
       obtain ⟨bA, off, lv, rfl, hb, hbW, ⟨k0, k1, k2, k3⟩, hV⟩ := (HF.out.1.ext H7.out.1).rd.at HF.out.2.1
       obtain ⟨p5, m5, c5, rfl, hm5, _⟩ := hV.form
       have HV : Hid (RdV wc.heap.size wc (.slice p5 m5 c5) a0.g.l ∧ m5 = a0.g.l.length) := ⟨hV, hm5⟩
       rw [pk_doc] at hr
       have HR : Hid (res = if row < 1 ∨ row > (dOf a0 q).rows ∨ col < 1 ∨ col > (dOf a0 q).cols then .err 1 else match (dOf a0 q).g.l[((row - 1) * (dOf a0 q).cols + (col - 1)).toNat]? with | some r => r.v | none => .err 1) := hr
       clear hr hV hm5 hb HO HK hdI hdC hfI hfC
       simp only [Nat.zero_mul, Nat.add_zero] at k0 k1 k2 k3
       go_upto_if 32 with fail
       clear b0 b1 b2 b3 bf0 bf1 bf2 bf3 zb c0 c1 c2 c3 cf0 cf1 cf2 cf3 zc r0 r1 r2 r3 rf0 rf1 rf2 rf3 zr k0 k1 k2 k3 hbW
       have H8 : Hid ((Ext W (wc.alloc (.cells #[.bool a0.g.area, .int .i64 a0.rows, .int .i64 a0.cols, .slice p5 m5 c5] 31)) ∧ Blk (wc.alloc (.cells #[.bool a0.g.area, .int .i64 a0.rows, .int .i64 a0.cols, .slice p5 m5 c5] 31)) W.heap.size (.int .i64 0) (.int .i64 0) (.string ⟨#[]⟩) (.int .i64 0) ∧ Blk (wc.alloc (.cells #[.bool a0.g.area, .int .i64 a0.rows, .int .i64 a0.cols, .slice p5 m5 c5] 31)) gB (.int .i64 2) (.int .i64 d) (.string ⟨#[]⟩) (.int .i64 0) ∧ Blk (wc.alloc (.cells #[.bool a0.g.area, .int .i64 a0.rows, .int .i64 a0.cols, .slice p5 m5 c5] 31)) gC (.int .i64 2) (.int .i64 f) (.string ⟨#[]⟩) (.int .i64 0) ∧ Blk (wc.alloc (.cells #[.bool a0.g.area, .int .i64 a0.rows, .int .i64 a0.cols, .slice p5 m5 c5] 31)) wc.heap.size (.bool a0.g.area) (.int .i64 a0.rows) (.int .i64 a0.cols) (.slice p5 m5 c5)) ∧ RdV wc.heap.size (wc.alloc (.cells #[.bool a0.g.area, .int .i64 a0.rows, .int .i64 a0.cols, .slice p5 m5 c5] 31)) (.slice p5 m5 c5) a0.g.l ∧ (wc.alloc (.cells #[.bool a0.g.area, .int .i64 a0.rows, .int .i64 a0.cols, .slice p5 m5 c5] 31)).heap[wc.heap.size]? = some (.cells #[.bool a0.g.area, .int .i64 a0.rows, .int .i64 a0.cols, .slice p5 m5 c5] 31)) := ⟨⟨H7.out.1.alloc _, H7.out.2.1.al _, H7.out.2.2.1.al _, H7.out.2.2.2.al _, blk_top rfl (Ext.refl _)⟩, HV.out.1.low ((Ext.refl _).alloc _), new_top4 wc _⟩
       have HG : Hid (W.heap.size < wc.heap.size ∧ gB < wc.heap.size ∧ gC < wc.heap.size ∧ wc.heap.size ≤ (wc.alloc (.cells #[.bool a0.g.area, .int .i64 a0.rows, .int .i64 a0.cols, .slice p5 m5 c5] 31)).heap.size) := ⟨H7.out.2.1.1, H7.out.2.2.1.1, H7.out.2.2.2.1, by simp⟩
       generalize (wc.alloc (.cells #[.bool a0.g.area, .int .i64 a0.rows, .int .i64 a0.cols, .slice p5 m5 c5] 31)) = w8 at *
       obtain ⟨gA, hgA⟩ : ∃ g, wc.heap.size = g := ⟨_, rfl⟩
       rw [hgA] at H8 HG HV ⊢
       clear hgA H7
       obtain ⟨rr, hrr⟩ : ∃ x, (dOf a0 q).rows = x := ⟨_, rfl⟩
       obtain ⟨cc, hcc⟩ : ∃ x, (dOf a0 q).cols = x := ⟨_, rfl⟩
       obtain ⟨ll, hll⟩ : ∃ x, (dOf a0 q).g.l = x := ⟨_, rfl⟩
       obtain ⟨m, hm⟩ : ∃ x, ll.length = x := ⟨_, rfl⟩
       rw [hrr, hcc, hll] at HR HD
       rw [hm] at HD
       have HL : Hid (ll.length = m) := hm
       have HE : Hid ((dOf a0 q).rows = rr ∧ (dOf a0 q).cols = cc ∧ (dOf a0 q).g.l = ll) := ⟨hrr, hcc, hll⟩
       clear hrr hcc hll hm
       go_cut [] (fun wx => ∃ (ar : Bool) (p6 : Option Addr) (c6 : Nat), Ext W wx ∧ Blk wx W.heap.size (.int .i64 0) (.int .i64 0) (.string ⟨#[]⟩) (.int .i64 0) ∧ Blk wx gB (.int .i64 2) (.int .i64 d) (.string ⟨#[]⟩) (.int .i64 0) ∧ Blk wx gC (.int .i64 2) (.int .i64 f) (.string ⟨#[]⟩) (.int .i64 0) ∧ Blk wx gA (.bool ar) (.int .i64 rr) (.int .i64 cc) (.slice p6 m c6) ∧ RdV wx.heap.size wx (.slice p6 m c6) ll)
       case first =>
         cases har : a0.g.area with
         | true =>
           have hd : dOf a0 q = a0 := by unfold dOf; rw [har]; rfl
           have h5 := HE.out
           rw [hd] at h5
           obtain ⟨e1, e2, e3⟩ := h5
           have e4 : m5 = m := by rw [HV.out.2, ← HL.out, e3]
           have h8 := H8.out
           rw [har, e1, e2, e3, e4] at h8
           have H9 : Hid ((Ext W w8 ∧ Blk w8 W.heap.size (.int .i64 0) (.int .i64 0) (.string ⟨#[]⟩) (.int .i64 0) ∧ Blk w8 gB (.int .i64 2) (.int .i64 d) (.string ⟨#[]⟩) (.int .i64 0) ∧ Blk w8 gC (.int .i64 2) (.int .i64 f) (.string ⟨#[]⟩) (.int .i64 0) ∧ Blk w8 gA (.bool true) (.int .i64 rr) (.int .i64 cc) (.slice p5 m c5)) ∧ RdV gA w8 (.slice p5 m c5) ll) := ⟨h8.1, h8.2.1⟩
           clear h8 e1 e2 e3 e4 hd
           obtain ⟨za, ⟨a0', a1', a2', a3'⟩, _⟩ := H9.out.1.2.2.2.2
           go_wp2_with fail
           go_meet
           case rel => exact ⟨true, p5, c5, H9.out.1.1, H9.out.1.2.1, H9.out.1.2.2.1, H9.out.1.2.2.2.1, H9.out.1.2.2.2.2, H9.out.2.up HG.out.2.2.2⟩
         | false =>
           have hd : dOf a0 q = ⟨⟨false, [q]⟩, 1, 1⟩ := by unfold dOf; rw [har]; rfl
           have h5 := HE.out
           rw [hd] at h5
           obtain ⟨e1, e2, e3⟩ := h5
           simp only [] at e1 e2 e3
           subst e1 e2 e3
           have e4 : m = 1 := HL.out.symm
           subst e4
           have cA : ∀ V, Ext w8 V → Calls Tryz.prog 45 #[.agg #[.bool false, .int .i64 a0.rows, .int .i64 a0.cols, .slice p5 m5 c5]] V fun e w' => ∃ p6 c6, e = .returned (.slice p6 1 c6) ∧ RdV w'.heap.size w' (.slice p6 1 c6) [q] ∧ Ext V w' := fun V e => by
             have c0 := all_any a0.g a0.rows a0.cols p5 m5 c5 V.heap.size V (Nat.le_refl _) (((H8.out.2.1.up HG.out.2.2.2).low e).up e.size)
             rw [har, HQ.out har] at c0
             refine c0.mono ?_
             rintro e w' ⟨p2, n2, c2, rfl, h2, E2⟩
             have h3 : RdV w'.heap.size w' (.slice p2 n2 c2) [q] := by
               rcases h2 with h2 | ⟨_, h2⟩
               · exact h2.up E2.size
               · exact h2
             obtain rfl := h3.len
             exact ⟨p2, c2, rfl, h3, E2⟩
           have h8 := H8.out
           rw [har] at h8
           have H9 : Hid ((Ext W w8 ∧ Blk w8 W.heap.size (.int .i64 0) (.int .i64 0) (.string ⟨#[]⟩) (.int .i64 0) ∧ Blk w8 gB (.int .i64 2) (.int .i64 d) (.string ⟨#[]⟩) (.int .i64 0) ∧ Blk w8 gC (.int .i64 2) (.int .i64 f) (.string ⟨#[]⟩) (.int .i64 0) ∧ Blk w8 gA (.bool false) (.int .i64 a0.rows) (.int .i64 a0.cols) (.slice p5 m5 c5)) ∧ w8.heap[gA]? = some (.cells #[.bool false, .int .i64 a0.rows, .int .i64 a0.cols, .slice p5 m5 c5] 31)) := ⟨h8.1, h8.2.2⟩
           clear h8 hd
           obtain ⟨za, ⟨a0', a1', a2', a3'⟩, af0, af1, af2, af3⟩ := H9.out.1.2.2.2.2
           go_wp2_with fail
           refine (cA _ (Ext.refl _)).mono ?_
           rintro e w9 ⟨p6, c6, rfl, hV9, E9⟩
           have H10 : Hid ((Ext W w9 ∧ Blk w9 W.heap.size (.int .i64 0) (.int .i64 0) (.string ⟨#[]⟩) (.int .i64 0) ∧ Blk w9 gB (.int .i64 2) (.int .i64 d) (.string ⟨#[]⟩) (.int .i64 0) ∧ Blk w9 gC (.int .i64 2) (.int .i64 f) (.string ⟨#[]⟩) (.int .i64 0) ∧ Blk w9 gA (.bool false) (.int .i64 a0.rows) (.int .i64 a0.cols) (.slice p5 m5 c5)) ∧ w9.heap[gA]? = some (.cells #[.bool false, .int .i64 a0.rows, .int .i64 a0.cols, .slice p5 m5 c5] 31) ∧ RdV w9.heap.size w9 (.slice p6 1 c6) [q]) := ⟨⟨H9.out.1.1.trans E9, H9.out.1.2.1.ext E9, H9.out.1.2.2.1.ext E9, H9.out.1.2.2.2.1.ext E9, H9.out.1.2.2.2.2.ext E9⟩, (E9.block _ H9.out.1.2.2.2.2.1).trans H9.out.2, hV9⟩
           clear E9 hV9 za a0' a1' a2' a3' af0 af1 af2 af3 cA
           obtain ⟨za, ⟨a0', a1', a2', a3'⟩, af0, af1, af2, af3⟩ := H10.out.1.2.2.2.2
           go_wp2_with fail
           go_meet
           case rel =>
             have n1 : gA ≠ W.heap.size := by have := HG.out; omega
             have n2 : gA ≠ gB := by have := HG.out; omega
             have n3 : gA ≠ gC := by have := HG.out; omega
             have n4 : W.heap.size ≤ gA := by have := HG.out; omega
             exact ⟨false, p6, c6, (((H10.out.1.1.setCell (p := ⟨gA, 0, none⟩) n4 _).setCell (p := ⟨gA, 1, none⟩) n4 _).setCell (p := ⟨gA, 2, none⟩) n4 _).setCell (p := ⟨gA, 3, none⟩) n4 _, H10.out.1.2.1.far n1 _ _ _ _, H10.out.1.2.2.1.far n2 _ _ _ _, H10.out.1.2.2.2.1.far n3 _ _ _ _, H10.out.1.2.2.2.2.set _ _ _ _, rd_put2 H10.out.2.2 H10.out.2.1 _ _ _ _⟩
       case rest =>
         obtain ⟨ar, p6, c6, hc⟩ := hcut
         have H11 : Hid (Ext W wc ∧ Blk wc W.heap.size (.int .i64 0) (.int .i64 0) (.string ⟨#[]⟩) (.int .i64 0) ∧ Blk wc gB (.int .i64 2) (.int .i64 d) (.string ⟨#[]⟩) (.int .i64 0) ∧ Blk wc gC (.int .i64 2) (.int .i64 f) (.string ⟨#[]⟩) (.int .i64 0) ∧ Blk wc gA (.bool ar) (.int .i64 rr) (.int .i64 cc) (.slice p6 m c6) ∧ RdV wc.heap.size wc (.slice p6 m c6) ll) := hc
         clear hc H8 HG HV HE HQ HF
         obtain ⟨m9, hI1, hI2⟩ := HD.out
         have mI : (m : Int) ≤ 1500000 := by omega
         clear m9
         go_upto_region 11 with fail
         have mkS : Hid (∀ V, Ext wc V → (V.cell? ⟨gB, 0, none⟩ = some (.int .i64 2) ∧ V.cell? ⟨gB, 1, none⟩ = some (.int .i64 d) ∧ V.cell? ⟨gB, 2, none⟩ = some (.string ⟨#[]⟩) ∧ V.cell? ⟨gB, 3, none⟩ = some (.int .i64 0)) ∧ V.cell? ⟨gC, 0, none⟩ = some (.int .i64 2) ∧ V.cell? ⟨gC, 1, none⟩ = some (.int .i64 f) ∧ V.cell? ⟨gC, 2, none⟩ = some (.string ⟨#[]⟩) ∧ V.cell? ⟨gC, 3, none⟩ = some (.int .i64 0)) := fun V e => ⟨(H11.out.2.2.1.ext e).2.1, (H11.out.2.2.2.1.ext e).2.1⟩
         refine wp_region_held_drew (S := (fun V => (V.cell? ⟨gB, 0, none⟩ = some (.int .i64 2) ∧ V.cell? ⟨gB, 1, none⟩ = some (.int .i64 d) ∧ V.cell? ⟨gB, 2, none⟩ = some (.string ⟨#[]⟩) ∧ V.cell? ⟨gB, 3, none⟩ = some (.int .i64 0)) ∧ V.cell? ⟨gC, 0, none⟩ = some (.int .i64 2) ∧ V.cell? ⟨gC, 1, none⟩ = some (.int .i64 f) ∧ V.cell? ⟨gC, 2, none⟩ = some (.string ⟨#[]⟩) ∧ V.cell? ⟨gC, 3, none⟩ = some (.int .i64 0))) (by kernel_rfl) ?_ (fun hHeld0 => ?_)
         · (refine mkS.out _ ?_; ((with_reducible (repeat (first | assumption | exact Ext.refl _ | apply Ext.alloc | apply Ext.drew | apply Ext.drewN))); done))
         refine wpAnyH_take (i := 0) (oi := ⟨some 36, .fieldAddr 25 (.tmp 3) 1, 0, "ref.go:140", #[], none⟩) (v := ?_) rfl (by kernel_rfl) (by kernel_rfl) (by kernel_rfl) (fun _ _ _ h => h) (Or.inl ⟨by rfl, ?_⟩) (by assumption) ?_
         rotate_left
         · intro w hSw; (try dsimp only at hSw); first | (go_simp; done) | (go_simp; with_reducible rfl)
         try simp only [Act.put, List.setIfInBounds_toArray, List.set_cons_zero, List.set_cons_succ]
         refine wpAnyH_take (i := 1) (oi := ⟨some 37, .load 2 (.tmp 36), 2, "ref.go:140", #[⟨0, .data⟩], none⟩) (v := ?_) rfl (by kernel_rfl) (by kernel_rfl) (by kernel_rfl) (fun _ _ _ h => h) (Or.inl ⟨by rfl, ?_⟩) (by assumption) ?_
         rotate_left
         · intro w hSw; (try dsimp only at hSw); first | (go_simp; done) | (go_simp; with_reducible rfl)
         try simp only [Act.put, List.setIfInBounds_toArray, List.set_cons_zero, List.set_cons_succ]
         refine wpAnyH_take (i := 3) (oi := ⟨some 39, .fieldAddr 25 (.tmp 4) 1, 0, "ref.go:140", #[], none⟩) (v := ?_) rfl (by kernel_rfl) (by kernel_rfl) (by kernel_rfl) (fun _ _ _ h => h) (Or.inl ⟨by rfl, ?_⟩) (by assumption) ?_
         rotate_left
         · intro w hSw; (try dsimp only at hSw); first | (go_simp; done) | (go_simp; with_reducible rfl)
         try simp only [Act.put, List.setIfInBounds_toArray, List.set_cons_zero, List.set_cons_succ]
         refine wpAnyH_take (i := 4) (oi := ⟨some 40, .load 2 (.tmp 39), 2, "ref.go:140", #[⟨3, .data⟩], none⟩) (v := ?_) rfl (by kernel_rfl) (by kernel_rfl) (by kernel_rfl) (fun _ _ _ h => h) (Or.inl ⟨by rfl, ?_⟩) (by assumption) ?_
         rotate_left
         · intro w hSw; (try dsimp only at hSw); first | (go_simp; done) | (go_simp; with_reducible rfl)
         try simp only [Act.put, List.setIfInBounds_toArray, List.set_cons_zero, List.set_cons_succ]
         refine wpAnyH_ready (rs := [2]) (by kernel_rfl) (by simp) ?_
         refine AllReadyH.cons (o := ⟨some 38, .call { callee := .value (.func 46), args := #[.tmp 37], argTypes := #[2] }, 2, "ref.go:140", #[⟨1, .data⟩], none⟩) rfl (fun K hK => ?_) AllReadyH.nil
         go_simp
         (go_at_call 46; refine Calls.mono (cW1 _) ?_; rintro e y1 ⟨rfl, E10⟩; have X1 : Ext wc y1 := Ext.trans (by with_reducible repeat (first | assumption | exact Ext.refl _ | apply Ext.alloc | apply Ext.drew | apply Ext.drewN)) E10)
         try go_wp2_with fail
         refine hK.out _ _ ?_ (fun hHeld1 => ?_)
         · (try dsimp only); (refine mkS.out _ ?_; ((with_reducible (repeat (first | assumption | exact Ext.refl _ | apply Ext.alloc | apply Ext.drew | apply Ext.drewN))); done))
         clear hK K hHeld0
         try simp only [Act.put, List.setIfInBounds_toArray, List.set_cons_zero, List.set_cons_succ]
         refine wpAnyH_ready (rs := [5]) (by kernel_rfl) (by simp) ?_
         refine AllReadyH.cons (o := ⟨some 41, .call { callee := .value (.func 46), args := #[.tmp 40], argTypes := #[2] }, 2, "ref.go:140", #[⟨4, .data⟩, ⟨2, .chain⟩], none⟩) rfl (fun K hK => ?_) AllReadyH.nil
         go_simp
         (go_at_call 46; refine Calls.mono (cW2 _) ?_; rintro e y2 ⟨rfl, E20⟩; have X2 : Ext wc y2 := Ext.trans (by with_reducible repeat (first | assumption | exact Ext.refl _ | apply Ext.alloc | apply Ext.drew | apply Ext.drewN)) E20)
         try go_wp2_with fail
         refine hK.out _ _ ?_ (fun hHeld2 => ?_)
         · (try dsimp only); (refine mkS.out _ ?_; ((with_reducible (repeat (first | assumption | exact Ext.refl _ | apply Ext.alloc | apply Ext.drew | apply Ext.drewN))); done))
         clear hK K hHeld1
         try simp only [Act.put, List.setIfInBounds_toArray, List.set_cons_zero, List.set_cons_succ]
         refine wpAnyH_take (i := 6) (oi := ⟨some 6, .assign (.tmp 38), 2, "ref.go:140", #[⟨2, .data⟩, ⟨5, .chain⟩, ⟨0, .phase⟩, ⟨1, .phase⟩, ⟨2, .phase⟩, { on := 3, ground := Ground.textOnly Departure.lateStores }, { on := 4, ground := Ground.textOnly Departure.lateStores }, { on := 5, ground := Ground.textOnly Departure.lateStoresUnsure }], none⟩) (v := ?_) rfl (by kernel_rfl) (by kernel_rfl) (by kernel_rfl) (fun _ _ _ h => h) (Or.inl ⟨by rfl, ?_⟩) (by assumption) ?_
         rotate_left
         · intro w hSw; (try dsimp only at hSw); first | (go_simp; done) | (go_simp; with_reducible rfl)
         try simp only [Act.put, List.setIfInBounds_toArray, List.set_cons_zero, List.set_cons_succ]
         refine wpAnyH_take (i := 7) (oi := ⟨some 7, .assign (.tmp 41), 2, "ref.go:140", #[⟨5, .data⟩, ⟨6, .chain⟩, ⟨0, .phase⟩, ⟨1, .phase⟩, ⟨2, .phase⟩, ⟨3, .phase⟩, ⟨4, .phase⟩, ⟨5, .phase⟩, ⟨6, .phase⟩], none⟩) (v := ?_) rfl (by kernel_rfl) (by kernel_rfl) (by kernel_rfl) (fun _ _ _ h => h) (Or.inl ⟨by rfl, ?_⟩) (by assumption) ?_
         rotate_left
         · intro w hSw; (try dsimp only at hSw); first | (go_simp; done) | (go_simp; with_reducible rfl)
         try simp only [Act.put, List.setIfInBounds_toArray, List.set_cons_zero, List.set_cons_succ]
         refine wpAnyH_done (by kernel_rfl) ?_ _
         have H12 : Hid (Ext W y2 ∧ Blk y2 W.heap.size (.int .i64 0) (.int .i64 0) (.string ⟨#[]⟩) (.int .i64 0) ∧ Blk y2 gB (.int .i64 2) (.int .i64 d) (.string ⟨#[]⟩) (.int .i64 0) ∧ Blk y2 gC (.int .i64 2) (.int .i64 f) (.string ⟨#[]⟩) (.int .i64 0) ∧ Blk y2 gA (.bool ar) (.int .i64 rr) (.int .i64 cc) (.slice p6 m c6) ∧ RdV y2.heap.size y2 (.slice p6 m c6) ll) := ⟨H11.out.1.trans X2, H11.out.2.1.ext X2, H11.out.2.2.1.ext X2, H11.out.2.2.2.1.ext X2, H11.out.2.2.2.2.1.ext X2, (H11.out.2.2.2.2.2.low X2).up X2.size⟩
         clear mkS X1 X2 E10 E20 H11 hHeld2 cW1 cW2
         obtain ⟨za, ⟨a0', a1', a2', a3'⟩, _⟩ := H12.out.2.2.2.2.1
         obtain ⟨zr, ⟨r0, r1', r2, r3⟩, rf0, rf1, rf2, rf3⟩ := H12.out.2.1
         by_cases t1 : row < 1
         · have hr := HR.out
           rw [if_pos (by omega)] at hr
           subst hr
           go_wp2_with fail
           refine (cE _).mono ?_
           rintro e w13 ⟨rfl, E13⟩
           have H13 : Hid (Ext W w13 ∧ Blk w13 W.heap.size (.int .i64 0) (.int .i64 0) (.string ⟨#[]⟩) (.int .i64 0)) := ⟨H12.out.1.trans E13, H12.out.2.1.ext E13⟩
           clear E13 za a0' a1' a2' a3' zr r0 r1' r2 r3 rf0 rf1 rf2 rf3
           obtain ⟨zr, ⟨r0, r1', r2, r3⟩, rf0, rf1, rf2, rf3⟩ := H13.out.2
           go_wp2_with fail
           exact fin4 r0 r1' r2 r3 rfl (by simp) H13.out.1 (fun W g0 g1 g2 g3 => by simp [results, Tryz.results25, go_sem, g0, g1, g2, g3]) (fun W h => ⟨rfl, h⟩)
         by_cases t2 : row > rr
         · have hr := HR.out
           rw [if_pos (by omega)] at hr
           subst hr
           go_wp2_with fail
           refine (cE _).mono ?_
           rintro e w13 ⟨rfl, E13⟩
           have H13 : Hid (Ext W w13 ∧ Blk w13 W.heap.size (.int .i64 0) (.int .i64 0) (.string ⟨#[]⟩) (.int .i64 0)) := ⟨H12.out.1.trans E13, H12.out.2.1.ext E13⟩
           clear E13 za a0' a1' a2' a3' zr r0 r1' r2 r3 rf0 rf1 rf2 rf3
           obtain ⟨zr, ⟨r0, r1', r2, r3⟩, rf0, rf1, rf2, rf3⟩ := H13.out.2
           go_wp2_with fail
           exact fin4 r0 r1' r2 r3 rfl (by simp) H13.out.1 (fun W g0 g1 g2 g3 => by simp [results, Tryz.results25, go_sem, g0, g1, g2, g3]) (fun W h => ⟨rfl, h⟩)
         by_cases t3 : col < 1
         · have hr := HR.out
           rw [if_pos (by omega)] at hr
           subst hr
           go_wp2_with fail
           refine (cE _).mono ?_
           rintro e w13 ⟨rfl, E13⟩
           have H13 : Hid (Ext W w13 ∧ Blk w13 W.heap.size (.int .i64 0) (.int .i64 0) (.string ⟨#[]⟩) (.int .i64 0)) := ⟨H12.out.1.trans E13, H12.out.2.1.ext E13⟩
           clear E13 za a0' a1' a2' a3' zr r0 r1' r2 r3 rf0 rf1 rf2 rf3
           obtain ⟨zr, ⟨r0, r1', r2, r3⟩, rf0, rf1, rf2, rf3⟩ := H13.out.2
           go_wp2_with fail
           exact fin4 r0 r1' r2 r3 rfl (by simp) H13.out.1 (fun W g0 g1 g2 g3 => by simp [results, Tryz.results25, go_sem, g0, g1, g2, g3]) (fun W h => ⟨rfl, h⟩)
         by_cases t4 : col > cc
         · have hr := HR.out
           rw [if_pos (by omega)] at hr
           subst hr
           go_wp2_with fail
           refine (cE _).mono ?_
           rintro e w13 ⟨rfl, E13⟩
           have H13 : Hid (Ext W w13 ∧ Blk w13 W.heap.size (.int .i64 0) (.int .i64 0) (.string ⟨#[]⟩) (.int .i64 0)) := ⟨H12.out.1.trans E13, H12.out.2.1.ext E13⟩
           clear E13 za a0' a1' a2' a3' zr r0 r1' r2 r3 rf0 rf1 rf2 rf3
           obtain ⟨zr, ⟨r0, r1', r2, r3⟩, rf0, rf1, rf2, rf3⟩ := H13.out.2
           go_wp2_with fail
           exact fin4 r0 r1' r2 r3 rfl (by simp) H13.out.1 (fun W g0 g1 g2 g3 => by simp [results, Tryz.results25, go_sem, g0, g1, g2, g3]) (fun W h => ⟨rfl, h⟩)
         have hr := HR.out
         rw [if_neg (by omega)] at hr
         obtain ⟨k1, hk1⟩ : ∃ k : Nat, row - 1 = (k : Int) := ⟨(row - 1).toNat, by omega⟩
         obtain ⟨k2, hk2⟩ : ∃ k : Nat, col - 1 = (k : Int) := ⟨(col - 1).toNat, by omega⟩
         obtain ⟨cn, rfl⟩ : ∃ k : Nat, cc = (k : Int) := ⟨cc.toNat, by omega⟩
         have hb1 : (k1 : Int) ≤ 1000000000000000 := by omega
         have hb2 : (k2 : Int) ≤ 1000000000000000 := by omega
         have hb3 : (cn : Int) ≤ 9223372036854775807 := hI2.2
         rw [hk1, hk2, show ((k1 : Int) * (cn : Int) + (k2 : Int)).toNat = k1 * cn + k2 by rw [← Int.natCast_mul, ← Int.natCast_add]; rfl] at hr
         have cP := fun V => product_any k1 cn (by omega) (by omega) V
         have cS := fun V => plusW_w ((k1 * cn : Nat) : Int) (k2 : Int) V
         rw [show uhi (k2 : Int) = 0 by unfold uhi; omega, show loOf (k2 : Int) = (k2 : Int) by unfold loOf; omega, show ((k1 * cn : Nat) : Int) + (k2 : Int) = ((k1 * cn + k2 : Nat) : Int) by omega] at cS
         have hKb : k1 * cn + k2 < 340282366920938463463374607431768211456 := by
           have : k1 * cn ≤ 1000000000000000 * 9223372036854775807 := Nat.mul_le_mul (by omega) (by omega)
           omega
         generalize k1 * cn + k2 = K at *
         generalize k1 * cn = P at *
         have cP' : ∀ V, Calls Tryz.prog 48 #[.int .u64 (row - 1), .int .u64 (cn : Int)] V fun e w' => e = .returned (.agg #[.int .u64 (uhi ((P : Nat) : Int)), .int .u64 (loOf ((P : Nat) : Int))]) ∧ Ext V w' := fun V => by rw [hk1]; exact cP V
         have cS' : ∀ V, Calls Tryz.prog 47 #[.agg #[.int .u64 (uhi (P : Int)), .int .u64 (loOf (P : Int))], .agg #[.int .u64 0, .int .u64 (col - 1)]] V fun e w' => e = .returned (.agg #[.int .u64 (uhi (K : Int)), .int .u64 (loOf (K : Int))]) ∧ Ext V w' := fun V => by rw [hk2]; exact cS V
         generalize uhi (P : Int) = ph at *
         generalize loOf (P : Int) = pl at *
         obtain ⟨w1a, w1b⟩ := hw1
         obtain ⟨w2a, w2b⟩ := hw2
         have u1 : uhi (K : Int) = (K : Int) / 18446744073709551616 := by unfold uhi; omega
         have u2 : loOf (K : Int) = (K : Int) % 18446744073709551616 := by unfold loOf; omega
         clear cP cS hk1 hk2 HR HD hI1 hI2
         by_cases hKm : K < m
         · obtain ⟨r, hrk⟩ : ∃ r, ll[K]? = some r := ⟨ll[K]'(by have := HL.out; omega), List.getElem?_eq_getElem _⟩
           rw [hrk] at hr
           have v1 : uhi (K : Int) = 0 := by rw [u1]; omega
           have v2 : loOf (K : Int) = (K : Int) := by rw [u2]; omega
           rw [v1, v2] at cS'
           have cN : ∀ V, Calls Tryz.prog 14 #[.agg #[.int .i64 r.k, .int .i64 r.n, .string r.s, .int .i64 r.e]] V fun e w' => e = .returned (.agg #[.int .i64 res.k, .int .i64 res.n, .string res.s, .int .i64 res.e]) ∧ Ext V w' := fun V => by
             have := rnormal_any r.k r.n r.s r.e V
             rw [show nm r.k r.n r.s r.e = res from hr.symm, dat_eq] at this
             exact this
           have hKI : (K : Int) < (m : Int) := by omega
           have HKr : Hid (ll[K]? = some r ∧ K < ll.length) := ⟨hrk, by have := HL.out; omega⟩
           clear hr hrk u1 u2 v1 v2 hKb hKm
           go_wp2_with fail
           refine (cP' _).mono ?_
           rintro e w13 ⟨rfl, E13⟩
           have H13 : Hid (Ext W w13 ∧ Blk w13 W.heap.size (.int .i64 0) (.int .i64 0) (.string ⟨#[]⟩) (.int .i64 0) ∧ Blk w13 gB (.int .i64 2) (.int .i64 d) (.string ⟨#[]⟩) (.int .i64 0) ∧ Blk w13 gC (.int .i64 2) (.int .i64 f) (.string ⟨#[]⟩) (.int .i64 0) ∧ Blk w13 gA (.bool ar) (.int .i64 rr) (.int .i64 (cn : Int)) (.slice p6 m c6) ∧ RdV w13.heap.size w13 (.slice p6 m c6) ll) := ⟨H12.out.1.trans E13, H12.out.2.1.ext E13, H12.out.2.2.1.ext E13, H12.out.2.2.2.1.ext E13, H12.out.2.2.2.2.1.ext E13, (H12.out.2.2.2.2.2.low E13).up E13.size⟩
           clear E13 za a0' a1' a2' a3' zr r0 r1' r2 r3 rf0 rf1 rf2 rf3
           go_wp2_with fail
           refine (cS' _).mono ?_
           rintro e w14 ⟨rfl, E14⟩
           have H14 : Hid (Ext W w14 ∧ Blk w14 W.heap.size (.int .i64 0) (.int .i64 0) (.string ⟨#[]⟩) (.int .i64 0) ∧ Blk w14 gB (.int .i64 2) (.int .i64 d) (.string ⟨#[]⟩) (.int .i64 0) ∧ Blk w14 gC (.int .i64 2) (.int .i64 f) (.string ⟨#[]⟩) (.int .i64 0) ∧ Blk w14 gA (.bool ar) (.int .i64 rr) (.int .i64 (cn : Int)) (.slice p6 m c6) ∧ RdV w14.heap.size w14 (.slice p6 m c6) ll) := ⟨H13.out.1.trans E14, H13.out.2.1.ext E14, H13.out.2.2.1.ext E14, H13.out.2.2.2.1.ext E14, H13.out.2.2.2.2.1.ext E14, (H13.out.2.2.2.2.2.low E14).up E14.size⟩
           clear E14
           obtain ⟨za, ⟨a0', a1', a2', a3'⟩, _⟩ := H14.out.2.2.2.2.1
           obtain ⟨b9, o9, r9, rfl, hr9, hb9, hbW9, q0, q1, q2, q3⟩ := H14.out.2.2.2.2.2.at HKr.out.2
           rw [HKr.out.1] at hr9
           cases hr9
           go_wp2_with fail
           refine (cN _).mono ?_
           rintro e w15 ⟨rfl, E15⟩
           have H15 : Hid (Ext W w15 ∧ Blk w15 W.heap.size (.int .i64 0) (.int .i64 0) (.string ⟨#[]⟩) (.int .i64 0)) := ⟨(H14.out.1.alloc _).trans E15, (H14.out.2.1.al _).ext E15⟩
           clear E15 za a0' a1' a2' a3' q0 q1 q2 q3 hb9 hbW9
           obtain ⟨zr, ⟨r0, r1', r2, r3⟩, rf0, rf1, rf2, rf3⟩ := H15.out.2
           go_wp2_with fail
           exact fin4 r0 r1' r2 r3 rfl (by simp) H15.out.1 (fun W g0 g1 g2 g3 => by simp [results, Tryz.results25, go_sem, g0, g1, g2, g3]) (fun W h => ⟨rfl, h⟩)
         · have hrk : ll[K]? = none := by rw [List.getElem?_eq_none]; have := HL.out; omega
           rw [hrk] at hr
           subst hr
           have m0 : (0 : Int) ≤ (m : Int) := by omega
           by_cases hh : uhi (K : Int) > 0
           · obtain ⟨kh, hkh⟩ : ∃ kh, uhi (K : Int) = kh := ⟨_, rfl⟩
             obtain ⟨kl, hkl⟩ : ∃ kl, loOf (K : Int) = kl := ⟨_, rfl⟩
             rw [hkh] at hh
             rw [hkh, hkl] at cS'
             clear hkh hkl u1 u2 hKb hKm hrk
             go_wp2_with fail
             refine (cP' _).mono ?_
             rintro e w13 ⟨rfl, E13⟩
             have H13 : Hid (Ext W w13 ∧ Blk w13 W.heap.size (.int .i64 0) (.int .i64 0) (.string ⟨#[]⟩) (.int .i64 0) ∧ Blk w13 gB (.int .i64 2) (.int .i64 d) (.string ⟨#[]⟩) (.int .i64 0) ∧ Blk w13 gC (.int .i64 2) (.int .i64 f) (.string ⟨#[]⟩) (.int .i64 0) ∧ Blk w13 gA (.bool ar) (.int .i64 rr) (.int .i64 (cn : Int)) (.slice p6 m c6) ∧ RdV w13.heap.size w13 (.slice p6 m c6) ll) := ⟨H12.out.1.trans E13, H12.out.2.1.ext E13, H12.out.2.2.1.ext E13, H12.out.2.2.2.1.ext E13, H12.out.2.2.2.2.1.ext E13, (H12.out.2.2.2.2.2.low E13).up E13.size⟩
             clear E13 za a0' a1' a2' a3' zr r0 r1' r2 r3 rf0 rf1 rf2 rf3
             go_wp2_with fail
             refine (cS' _).mono ?_
             rintro e w14 ⟨rfl, E14⟩
             have H14 : Hid (Ext W w14 ∧ Blk w14 W.heap.size (.int .i64 0) (.int .i64 0) (.string ⟨#[]⟩) (.int .i64 0) ∧ Blk w14 gB (.int .i64 2) (.int .i64 d) (.string ⟨#[]⟩) (.int .i64 0) ∧ Blk w14 gC (.int .i64 2) (.int .i64 f) (.string ⟨#[]⟩) (.int .i64 0) ∧ Blk w14 gA (.bool ar) (.int .i64 rr) (.int .i64 (cn : Int)) (.slice p6 m c6) ∧ RdV w14.heap.size w14 (.slice p6 m c6) ll) := ⟨H13.out.1.trans E14, H13.out.2.1.ext E14, H13.out.2.2.1.ext E14, H13.out.2.2.2.1.ext E14, H13.out.2.2.2.2.1.ext E14, (H13.out.2.2.2.2.2.low E14).up E14.size⟩
             clear E14
             obtain ⟨za, ⟨a0', a1', a2', a3'⟩, _⟩ := H14.out.2.2.2.2.1
             go_wp2_with fail
             refine (cE _).mono ?_
             rintro e w15 ⟨rfl, E15⟩
             have H15 : Hid (Ext W w15 ∧ Blk w15 W.heap.size (.int .i64 0) (.int .i64 0) (.string ⟨#[]⟩) (.int .i64 0)) := ⟨(H14.out.1.alloc _).trans E15, (H14.out.2.1.al _).ext E15⟩
             clear E15 za a0' a1' a2' a3'
             obtain ⟨zr, ⟨r0, r1', r2, r3⟩, rf0, rf1, rf2, rf3⟩ := H15.out.2
             go_wp2_with fail
             exact fin4 r0 r1' r2 r3 rfl (by simp) H15.out.1 (fun W g0 g1 g2 g3 => by simp [results, Tryz.results25, go_sem, g0, g1, g2, g3]) (fun W h => ⟨rfl, h⟩)
           · have v1 : uhi (K : Int) = 0 := by have h1 : 0 ≤ (K : Int) / 18446744073709551616 := by omega
                                               omega
             have v2 : loOf (K : Int) = (K : Int) := by rw [u2]; omega
             have hKI : (K : Int) ≥ (m : Int) := by omega
             rw [v1, v2] at cS'
             clear u1 u2 hKb hKm hrk v1 v2 hh
             go_wp2_with fail
             refine (cP' _).mono ?_
             rintro e w13 ⟨rfl, E13⟩
             have H13 : Hid (Ext W w13 ∧ Blk w13 W.heap.size (.int .i64 0) (.int .i64 0) (.string ⟨#[]⟩) (.int .i64 0) ∧ Blk w13 gB (.int .i64 2) (.int .i64 d) (.string ⟨#[]⟩) (.int .i64 0) ∧ Blk w13 gC (.int .i64 2) (.int .i64 f) (.string ⟨#[]⟩) (.int .i64 0) ∧ Blk w13 gA (.bool ar) (.int .i64 rr) (.int .i64 (cn : Int)) (.slice p6 m c6) ∧ RdV w13.heap.size w13 (.slice p6 m c6) ll) := ⟨H12.out.1.trans E13, H12.out.2.1.ext E13, H12.out.2.2.1.ext E13, H12.out.2.2.2.1.ext E13, H12.out.2.2.2.2.1.ext E13, (H12.out.2.2.2.2.2.low E13).up E13.size⟩
             clear E13 za a0' a1' a2' a3' zr r0 r1' r2 r3 rf0 rf1 rf2 rf3
             go_wp2_with fail
             refine (cS' _).mono ?_
             rintro e w14 ⟨rfl, E14⟩
             have H14 : Hid (Ext W w14 ∧ Blk w14 W.heap.size (.int .i64 0) (.int .i64 0) (.string ⟨#[]⟩) (.int .i64 0) ∧ Blk w14 gB (.int .i64 2) (.int .i64 d) (.string ⟨#[]⟩) (.int .i64 0) ∧ Blk w14 gC (.int .i64 2) (.int .i64 f) (.string ⟨#[]⟩) (.int .i64 0) ∧ Blk w14 gA (.bool ar) (.int .i64 rr) (.int .i64 (cn : Int)) (.slice p6 m c6) ∧ RdV w14.heap.size w14 (.slice p6 m c6) ll) := ⟨H13.out.1.trans E14, H13.out.2.1.ext E14, H13.out.2.2.1.ext E14, H13.out.2.2.2.1.ext E14, H13.out.2.2.2.2.1.ext E14, (H13.out.2.2.2.2.2.low E14).up E14.size⟩
             clear E14
             obtain ⟨za, ⟨a0', a1', a2', a3'⟩, _⟩ := H14.out.2.2.2.2.1
             go_wp2_with fail
             refine (cE _).mono ?_
             rintro e w15 ⟨rfl, E15⟩
             have H15 : Hid (Ext W w15 ∧ Blk w15 W.heap.size (.int .i64 0) (.int .i64 0) (.string ⟨#[]⟩) (.int .i64 0)) := ⟨(H14.out.1.alloc _).trans E15, (H14.out.2.1.al _).ext E15⟩
             clear E15 za a0' a1' a2' a3'
             obtain ⟨zr, ⟨r0, r1', r2, r3⟩, rf0, rf1, rf2, rf3⟩ := H15.out.2
             go_wp2_with fail
             exact fin4 r0 r1' r2 r3 rfl (by simp) H15.out.1 (fun W g0 g1 g2 g3 => by simp [results, Tryz.results25, go_sem, g0, g1, g2, g3]) (fun W h => ⟨rfl, h⟩)
     · have hr := HO.out.2.1 d e rfl rfl
       subst hr
       obtain ⟨zc, ⟨c0, c1, c2, c3⟩, cf0, cf1, cf2, cf3⟩ := H7.out.2.2.2
       go_wp2_with fail
       exact fin4 r0 r1 r2 r3 rfl (by simp) H7.out.1 (fun W g0 g1 g2 g3 => by simp [results, Tryz.results25, go_sem, g0, g1, g2, g3]) (fun W h => ⟨rfl, h⟩)
   · have hr := HO.out.1 e rfl
     subst hr
     go_wp2_with fail
     exact fin4 r0 r1 r2 r3 rfl (by simp) H7.out.1 (fun W g0 g1 g2 g3 => by simp [results, Tryz.results25, go_sem, g0, g1, g2, g3]) (fun W h => ⟨rfl, h⟩)

open Go.RowKit
set_option maxHeartbeats 1000000

/-- The slice v holds the numbers of l. -/
def RdI (W : World) (v : Value) (l : List V) : Prop := ∃ base, W.ownsRow base 2 1 v l.length (l.flatMap cI)
theorem RdI.ext {W W' : World} {v : Value} {l : List V} (h : RdI W v l) (e : Ext W W') : RdI W' v l := by
 obtain ⟨b, h⟩ := h
 exact ⟨b, ownsRow_ext h e⟩
theorem RdI.form {W : World} {v : Value} {l : List V} (h : RdI W v l) : ∃ p c, v = .slice p l.length c := by
 obtain ⟨b, h⟩ := h
 obtain ⟨p, c, h, _⟩ := own_form h
 exact ⟨p, c, h⟩
theorem RdI.at {W : World} {p : Option Addr} {n c : Nat} {l : List V} (h : RdI W (.slice p n c) l) {i : Nat} (hi : i < l.length) : ∃ g v, p = some ⟨g, 0, none⟩ ∧ l[i]? = some v ∧ g < W.heap.size ∧ W.cell? ⟨g, i, none⟩ = some (.int .i64 v.n) := by
 obtain ⟨b, h⟩ := h
 rcases h.2 with ⟨_, h0⟩ | ⟨g, cap, cur, h1, h2, h3, h4⟩
 · omega
 · cases h1
   refine ⟨g, l[i], rfl, List.getElem?_eq_getElem hi, (Array.getElem?_eq_some_iff.1 h3).1, ?_⟩
   have := h.cells (g := g) rfl (i * 1 + 0) (.int .i64 l[i].n) (by rw [fm_at cI 1 cI_len l i _ 0 (List.getElem?_eq_getElem hi) (by decide)]; rfl)
   rw [Addr.add_lit] at this
   simpa using this
set_option maxRecDepth 100000 in
theorem rtold13_any (n : Int) (b : Bool) (W : World) : Calls Tryz.prog 43 #[.int .i64 n, .bool b] W fun e w' => e = .returned (toldR b n).dat ∧ Ext W w' := by
 have c1 := fun W => rnum_any n W
 have c2 := fun W => rerr_any 4 W
 rw [mkErr_is ⟨by decide, by decide⟩] at c2
 cases b with
 | false =>
   have H : Hid (toldR false n = .err 4) := rfl
   simp only [V.dat] at c2
   clear c1
   go_enter Tryz.func43, Tryz.ntmps43
   go_wp2_with fail
   refine (c2 _).mono ?_
   rintro e w1 ⟨rfl, E1⟩
   obtain ⟨z, ⟨k0, k1, k2, k3⟩, f0, f1, f2, f3⟩ := blk_top (b := W.heap.size) (by simp) E1
   go_wp2_with fail
   exact fin4 k0 k1 k2 k3 rfl (by simp) (((Ext.refl _).alloc _).trans E1) (fun W g0 g1 g2 g3 => by simp [results, Tryz.results43, go_sem, g0, g1, g2, g3]) (fun W h => ⟨by rw [H.out]; rfl, h⟩)
 | true =>
   have H : Hid (toldR true n = mkNum n) := rfl
   obtain ⟨q0, q1, q2, q3, hq⟩ := dat4 (mkNum n)
   rw [hq] at c1
   have HQ : Hid ((mkNum n).dat = .agg #[.int .i64 q0, .int .i64 q1, .string q2, .int .i64 q3]) := hq
   clear c2 hq
   go_enter Tryz.func43, Tryz.ntmps43
   go_wp2_with fail
   refine (c1 _).mono ?_
   rintro e w1 ⟨rfl, E1⟩
   obtain ⟨z, ⟨k0, k1, k2, k3⟩, f0, f1, f2, f3⟩ := blk_top (b := W.heap.size) (by simp) E1
   go_wp2_with fail
   exact fin4 k0 k1 k2 k3 rfl (by simp) (((Ext.refl _).alloc _).trans E1) (fun W g0 g1 g2 g3 => by simp [results, Tryz.results43, go_sem, g0, g1, g2, g3]) (fun W h => ⟨by rw [H.out, HQ.out], h⟩)
/-- A sum in block b. -/
def Ac (W : World) (b : Nat) (x : Int) : Prop := b < W.heap.size ∧ (W.cell? ⟨b, 0, none⟩ = some (.int .i64 (hiOf x)) ∧ W.cell? ⟨b, 1, none⟩ = some (.int .u64 (loOf x))) ∧ W.frozen? ⟨b, 0, none⟩ = false ∧ W.frozen? ⟨b, 1, none⟩ = false
theorem Ac.ext {W W' : World} {b : Nat} {x : Int} (h : Ac W b x) (e : Ext W W') : Ac W' b x :=
 ⟨Nat.lt_of_lt_of_le h.1 e.size, ⟨(e.cell.1 b 0 h.1).trans h.2.1.1, (e.cell.1 b 1 h.1).trans h.2.1.2⟩, (e.cell.2 b 0 h.1).trans h.2.2.1, (e.cell.2 b 1 h.1).trans h.2.2.2⟩
theorem Ac.set {W : World} {b : Nat} {x : Int} (h : Ac W b x) (y : Int) : Ac ((W.setCell ⟨b, 0, none⟩ (.int .i64 (hiOf y))).setCell ⟨b, 1, none⟩ (.int .u64 (loOf y))) b y := by
 obtain ⟨z, ⟨k0, k1⟩, f0, f1⟩ := h
 have e0 := World.cell?_setCell_same W ⟨b, 0, none⟩ (.int .i64 (hiOf y)) (by rw [k0])
 have j1 : (W.setCell ⟨b, 0, none⟩ (.int .i64 (hiOf y))).cell? ⟨b, 1, none⟩ = some (.int .u64 (loOf x)) := by rw [World.cell?_setCell_other _ _ _ _ (by simp)]; exact k1
 have e1 := World.cell?_setCell_same _ ⟨b, 1, none⟩ (.int .u64 (loOf y)) (by rw [j1])
 exact ⟨by simpa [World.setCell] using z, ⟨by rw [World.cell?_setCell_other _ _ _ _ (by simp)]; exact e0, e1⟩, by simpa [go_sem] using f0, by simpa [go_sem] using f1⟩
theorem Ac.far {W : World} {b c o : Nat} {x : Int} {u : Value} (h : Ac W b x) (hc : c ≠ b) : Ac (W.setCell ⟨c, o, none⟩ u) b x := by
 obtain ⟨z, ⟨k0, k1⟩, f0, f1⟩ := h
 exact ⟨by simpa [World.setCell] using z, ⟨by rw [World.cell?_setCell_far _ _ _ _ hc]; exact k0, by rw [World.cell?_setCell_far _ _ _ _ hc]; exact k1⟩, by simpa [go_sem] using f0, by simpa [go_sem] using f1⟩
theorem ac_top {w w1 : World} {x : Int} {T : TypeId} {b : Nat} (hb : b = w.heap.size) (E : Ext (w.alloc (.cells #[.int .i64 (hiOf x), .int .u64 (loOf x)] T)) w1) : Ac w1 b x := by
 subst hb
 refine Ac.ext ?_ E
 exact ⟨by simp, by simp [go_sem], by simp [go_sem], by simp [go_sem]⟩
theorem sum_take {l : List V} {j : Nat} {v : V} (h : l[j]? = some v) : sumN (l.take (j + 1)) = sumN (l.take j) + v.n := by
 rw [List.take_add_one, h]
 show sumN (l.take j ++ [v]) = _
 rw [sumN_app]; simp [sumN]
set_option maxRecDepth 100000 in
theorem rtotal_any (l : List V) (hl : l.length ≤ 1500000) (hi : ∀ v ∈ l, I64 v.n) (p : Option Addr) (n c : Nat) (W : World) (h : RdI W (.slice p n c) l) :
   Calls Tryz.prog 42 #[.slice p n c] W fun e w' => e = .returned (.agg #[.int .i64 (hiOf (sumN l)), .int .u64 (loOf (sumN l))]) ∧ Ext W w' := by
 have HR : Hid (RdI W (.slice p n c) l) := h
 have HN : Hid (n = l.length ∧ n ≤ 1500000 ∧ ∀ v ∈ l, I64 v.n) := by
   obtain ⟨p', c', q⟩ := h.form
   cases q
   exact ⟨rfl, hl, hi⟩
 clear h hl hi
 go_enter Tryz.func42, Tryz.ntmps42
 go_wp2_with fail
 go_loopw [4] (fun iv wr => ∃ j : Nat, iv = .int .i64 (j : Int) ∧ j ≤ n ∧ Ac wr (W.heap.size + 1) (sumN (l.take j)) ∧ Ac wr W.heap.size 0 ∧ Ext W wr) (fun iv _ => n - (intOf iv).toNat)
 case atStart => exact ⟨0, rfl, Nat.zero_le _, ac_top (x := 0) (by simp) (Ext.refl _), ac_top (x := 0) rfl ((Ext.refl _).alloc _), ((Ext.refl _).alloc _).alloc _⟩
 case round =>
   obtain ⟨j, rfl, hj, hA, hZ, hE⟩ := hrel
   have HO : Hid (Ac wr (W.heap.size + 1) (sumN (l.take j)) ∧ Ac wr W.heap.size 0 ∧ Ext W wr) := ⟨hA, hZ, hE⟩
   clear hA hZ hE
   by_cases hlt : j < n
   · have hltI : (j : Int) < (n : Int) := by omega
     obtain ⟨g, v, rfl, hv, hg, k0⟩ := (HR.out.ext HO.out.2.2).at (i := j) (by rw [← HN.out.1]; exact hlt)
     have WK : Hid (wrap64 ((j : Int) + 1) = ((j + 1 : Nat) : Int)) := wrap_1 j (by have := HN.out; omega)
     have hj1 : j + 1 ≤ n := by omega
     have HT : Hid (sumN (l.take (j + 1)) = sumN (l.take j) + v.n) := sum_take hv
     have cP := fun V => rplus_acc (sumN (l.take j)) v.n (HN.out.2.2 v (List.mem_of_getElem? hv)) V
     obtain ⟨z, ⟨s0, s1⟩, f0, f1⟩ := HO.out.1
     obtain ⟨vn, hvn⟩ : ∃ q, v.n = q := ⟨_, rfl⟩
     obtain ⟨x0, hx0⟩ : ∃ q, sumN (l.take j) = q := ⟨_, rfl⟩
     rw [hvn, hx0] at cP HT
     rw [hvn] at k0
     rw [hx0] at s0 s1 HO
     obtain ⟨a0, ha0⟩ : ∃ q, hiOf x0 = q := ⟨_, rfl⟩
     obtain ⟨a1, ha1⟩ : ∃ q, loOf x0 = q := ⟨_, rfl⟩
     have HS : Hid (∀ V, Ac V (W.heap.size + 1) x0 → Ac ((V.setCell ⟨W.heap.size + 1, 0, none⟩ (.int .i64 (hiOf (x0 + vn)))).setCell ⟨W.heap.size + 1, 1, none⟩ (.int .u64 (loOf (x0 + vn)))) (W.heap.size + 1) (x0 + vn)) := fun V h => h.set _
     generalize hiOf (x0 + vn) = b0 at *
     generalize loOf (x0 + vn) = b1 at *
     rw [ha0, ha1] at cP
     rw [ha0] at s0
     rw [ha1] at s1
     clear hlt hj hv hvn hx0 ha0 ha1
     go_upto_region 5 with fail
     go_region_with (go_at_call 82; refine Calls.mono (cP _) ?_; rintro e y1 ⟨rfl, E1⟩; have X1 : Ext wr y1 := Ext.trans (by with_reducible repeat (first | assumption | exact Ext.refl _ | apply Ext.drew | apply Ext.drewN)) E1; have HA1 : Hid (Ac y1 (W.heap.size + 1) x0 ∧ Ac y1 W.heap.size 0 ∧ Ext W y1) := ⟨HO.out.1.ext X1, HO.out.2.1.ext X1, HO.out.2.2.trans X1⟩; obtain ⟨z1, ⟨t0, t1⟩, h0, h1⟩ := HA1.out.1; clear E1 X1)
     all_goals
       have wk := WK.out
       go_wp2_with fail
       go_roundw
       case rel =>
         refine ⟨j + 1, by go_num, hj1, ?_, ?_, ?_⟩
         · rw [HT.out]; exact HS.out _ HA1.out.1
         · exact (HA1.out.2.1.far (by omega)).far (by omega)
         · exact (HA1.out.2.2.setCell (by simp) _).setCell (by simp) _
       case measure => exact meas n j hj1 wk
   · have hltI : ¬ (j : Int) < (n : Int) := by omega
     have HT : Hid (sumN (l.take j) = sumN l) := by
       show _ = _
       rw [show l.take j = l from List.take_of_length_le (by have := HN.out.1; omega)]
     rw [HT.out] at HO
     obtain ⟨z, ⟨s0, s1⟩, f0, f1⟩ := HO.out.1
     obtain ⟨z', ⟨s0', s1'⟩, f0', f1'⟩ := HO.out.2.1
     have HS : Hid (Ac ((wr.setCell ⟨W.heap.size, 0, none⟩ (.int .i64 (hiOf (sumN l)))).setCell ⟨W.heap.size, 1, none⟩ (.int .u64 (loOf (sumN l)))) W.heap.size (sumN l)) := HO.out.2.1.set _
     obtain ⟨a0, ha0⟩ : ∃ q, hiOf (sumN l) = q := ⟨_, rfl⟩
     obtain ⟨a1, ha1⟩ : ∃ q, loOf (sumN l) = q := ⟨_, rfl⟩
     have HQ : Hid (hiOf (sumN l) = a0 ∧ loOf (sumN l) = a1) := ⟨ha0, ha1⟩
     have HC := HS.out.2.1
     rw [ha0, ha1] at HC
     rw [ha0] at s0
     rw [ha1] at s1
     have HCC : Hid (_ ∧ _) := HC
     clear hlt hj ha0 ha1 HC HS
     go_wp2_with fail
     have c0 := HCC.out.1
     have c1 := HCC.out.2
     refine bodyPost_ret (v := .agg #[.int .i64 a0, .int .u64 a1]) (by simp [results, Tryz.results42, go_sem, c0, c1]) rfl ⟨by rw [HQ.out.1, HQ.out.2], (HO.out.2.2.setCell (by simp) _).setCell (by simp) _⟩
/-! ### The least and the greatest -/
theorem best_take (q : Int → Int → Bool) {l : List V} {j : Nat} {v : V} (h : l[j]? = some v) (hj : j < l.length) : bestN q (l.take (j + 1)) = if j = 0 then v.n else if q v.n (bestN q (l.take j)) then v.n else bestN q (l.take j) := by
 rw [List.take_add_one, h]
 show bestN q (l.take j ++ [v]) = _
 rw [bestN_app]
 have : (l.take j).length = j := by simp; omega
 rw [this]
end Go.Proofs.YtalejeknigbhjaaGreatDoor
