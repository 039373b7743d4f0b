/-
 Package column: Values; the document's At.
-/
import Derived.Test.YteaoeichgibgiaaDoorX10
import Derived.Test.YteaoeichgibgiaaDoorX7
namespace Go.Proofs.YteaoeichgibgiaaDoor
open Go.RowKit
set_option maxHeartbeats 4000000

def rwV (v : V) : Rw := ⟨v.k, v.n, v.s, v.e⟩
/-- A column's lanes as values. -/
def rwL (N E : List Int) : List Rw := (N.zip E).map (fun x => rwV (laneC x.1 x.2))
theorem rwL_len {N E : List Int} (h : N.length = E.length) : (rwL N E).length = N.length := by simp [rwL]; omega
theorem rwL_at {N E : List Int} {i : Nat} {x e : Int} (hx : N[i]? = some x) (he : E[i]? = some e) : (rwL N E)[i]? = some (rwV (laneC x e)) := by
 unfold rwL
 have h : (N.zip E)[i]? = some (x, e) := List.getElem?_zip_eq_some.2 ⟨hx, he⟩
 rw [List.getElem?_map, h]
 rfl
/-- The first j of L, zero values behind. -/
def fillR (L : List Rw) (j : Nat) : List Rw := L.take j ++ List.replicate (L.length - j) zeR
theorem fillR_zero (L : List Rw) : fillR L 0 = List.replicate L.length zeR := by simp [fillR]
theorem fillR_len {L : List Rw} {j : Nat} (h : j ≤ L.length) : (fillR L j).length = L.length := by simp [fillR]; omega
theorem fillR_full (L : List Rw) : fillR L L.length = L := by simp [fillR]
theorem fillR_at {L : List Rw} {j : Nat} (h : j < L.length) : (fillR L j)[j]? = some zeR := by
 unfold fillR
 rw [List.getElem?_append_right (by simp; omega), List.getElem?_replicate, if_pos (by simp; omega)]
theorem fillR_step {L : List Rw} {j : Nat} {x : Rw} (h : L[j]? = some x) : (fillR L j).set j x = fillR L (j + 1) := by
 have hj := (List.getElem?_eq_some_iff.1 h).1
 apply List.ext_getElem?
 intro i
 unfold fillR
 rw [List.getElem?_set]
 by_cases e : j = i
 · subst e
   rw [if_pos rfl, if_pos (by simp; omega), List.getElem?_append_left (by simp; omega), List.getElem?_take, if_pos (by omega), h]
 · rw [if_neg e]
   rcases Nat.lt_or_ge i j with hi | hi
   · rw [List.getElem?_append_left (by simp; omega), List.getElem?_append_left (by simp; omega), List.getElem?_take, List.getElem?_take, if_pos hi, if_pos (by omega)]
   · rw [List.getElem?_append_right (by simp; omega), List.getElem?_append_right (by simp; omega), List.getElem?_replicate, List.getElem?_replicate]
     simp only [List.length_take]
     split <;> split <;> first | rfl | omega
theorem values_no (W : World) (a b : Value) (N E : List Int) (hN : Nm W) (ha : RdI W a N) (hb : RdI W b E) (hc : canC N E = false) :
   Calls Tryd.prog 11 #[.agg #[a, b]] W fun r w' => r = .returned (.slice none 0 0) ∧ Ext W w' := by
 have c1 := fun w (e : Ext W w) => ccan_any w a b N E (hN.ext e) (ha.ext e) (hb.ext e)
 rw [hc] at c1
 obtain ⟨p, cp, rfl, hzz⟩ := ha.form
 clear hzz
 obtain ⟨q, cq, rfl, hzz⟩ := hb.form
 clear hzz ha hb hc hN
 generalize N.length = n at *
 generalize E.length = m at *
 go_enter Tryd.func11, Tryd.ntmps11
 go_wp2_with fail
 refine (c1 _ ((Ext.refl _).alloc _)).mono ?_
 rintro r w1 ⟨rfl, E1⟩
 clear c1
 go_wp2_with fail
 go_ret
 exact ⟨rfl, ((Ext.refl _).alloc _).trans E1⟩
set_option maxRecDepth 100000 in
theorem values_any (W : World) (a b : Value) (N E : List Int) (hN : Nm W) (ha : RdI W a N) (hb : RdI W b E) (hc : canC N E = true) :
   Calls Tryd.prog 11 #[.agg #[a, b]] W fun r w' => ∃ v, r = .returned v ∧ RdV w'.heap.size w' v (rwL N E) ∧ Ext W w' := by
 have c1 := fun w (e : Ext W w) => ccan_any w a b N E (hN.ext e) (ha.ext e) (hb.ext e)
 rw [hc] at c1
 obtain ⟨l1, l2, hlane⟩ := (canC_iff N E).1 hc
 obtain ⟨p, cp, rfl, hzz⟩ := ha.form
 clear hzz
 obtain ⟨q, cq, rfl, hzz⟩ := hb.form
 clear hzz hc
 obtain ⟨n, e1⟩ : ∃ n, N.length = n := ⟨_, rfl⟩
 have e2 : E.length = n := by omega
 rw [e1] at ha c1
 rw [e2] at hb c1
 rw [e1, e2]
 have HL : Hid (N.length = E.length ∧ N.length = n ∧ n ≤ 1000) := ⟨l1, e1, by omega⟩
 have HA : Hid (RdI W (.slice p n cp) N) := ha
 have HB : Hid (RdI W (.slice q n cq) E) := hb
 have HN : Hid (Nm W) := hN
 have mk := fun w => make_zA n (by omega) w
 clear ha hb hN l1 l2 e1 e2 hlane
 go_enter Tryd.func11, Tryd.ntmps11
 go_wp2_with fail
 refine (c1 _ ((Ext.refl _).alloc _)).mono ?_
 rintro r w1 ⟨rfl, E1⟩
 have B0 := blk2_top (w := W) (b := W.heap.size) rfl E1
 have X1 : Ext W w1 := ((Ext.refl _).alloc _).trans E1
 clear c1 E1
 have C0 := celv_new w1 n
 have B1 := B0.ext ((Ext.refl w1).alloc (.cells (zA n) 33))
 have X2 : Ext W (w1.alloc (.cells (zA n) 33)) := X1.alloc _
 have HG : Hid (w1.heap.size ≠ W.heap.size ∧ W.heap.size ≤ w1.heap.size) := ⟨by have := B0.1; omega, X1.size⟩
 obtain ⟨_, ⟨k0, k1⟩, f0, f1⟩ := B0
 obtain ⟨_, ⟨j0, j1⟩, g0, g1⟩ := B1
 go_upto_region 4 with fail
 clear mk k0 k1 f0 f1 X1
 generalize w1.alloc (.cells (zA n) 33) = W2 at *
 generalize w1.heap.size = g at *
 have B1 : Blk2 W2 W.heap.size (.slice p n cp) (.slice q n cq) := ⟨by assumption, ⟨j0, j1⟩, g0, g1⟩
 go_wp2_with fail
 clear j0 j1 g0 g1
 go_loopw [16] (fun iv wr => ∃ j : Nat, iv = .int .i64 (j : Int) ∧ j ≤ n ∧ Ext W wr ∧ CelV wr g (fillR (rwL N E) j) ∧ Blk2 wr W.heap.size (.slice p n cp) (.slice q n cq)) (fun iv _ => n - (intOf iv).toNat)
 case atStart =>
   refine ⟨0, rfl, Nat.zero_le _, X2, ?_, B1⟩
   rw [fillR_zero, rwL_len HL.out.1, HL.out.2.1]
   exact C0
 case round =>
   obtain ⟨j, rfl, hj, hE, h2, h7⟩ := hrel
   have HE : Hid (Ext W wr) := hE
   have H2 : Hid (CelV wr g (fillR (rwL N E) j)) := h2
   have H7 : Hid (Blk2 wr W.heap.size (.slice p n cp) (.slice q n cq)) := h7
   clear hE h2 h7
   by_cases hlt : j < n
   · have hltI : (j : Int) < (n : Int) := by omega
     obtain ⟨x, hx⟩ : ∃ x, N[j]? = some x := ⟨_, List.getElem?_eq_getElem (by have := HL.out; omega)⟩
     obtain ⟨e, he⟩ : ∃ e, E[j]? = some e := ⟨_, List.getElem?_eq_getElem (by have := HL.out; omega)⟩
     obtain ⟨b1, o1, hp1, hb1, k1⟩ := RdI.cell (HA.out.ext HE.out) hx
     obtain ⟨b2, o2, hp2, hb2, k2⟩ := RdI.cell (HB.out.ext HE.out) he
     subst hp1 hp2
     have HF0 := rwL_at hx he
     have WK : Hid (wrap64 ((j : Int) + 1) = ((j + 1 : Nat) : Int)) := wrapC j (by have := HL.out; omega)
     have HJ : Hid (j < n) := hlt
     obtain ⟨_, ⟨y0, y1⟩, p0, p1⟩ := H7.out
     clear hx he hb1 hb2 hj hlt
     by_cases h0 : e = 0
     · subst h0
       have c2 := fun w h => vnum_any x w h
       have c3 := ()
       rw [dat_eq] at c2
       have HF : Hid ((rwL N E)[j]? = some ⟨(mkNum x).k, (mkNum x).n, (mkNum x).s, (mkNum x).e⟩) := HF0
       clear HF0
       generalize (mkNum x).k = z0 at *
       generalize (mkNum x).n = z1 at *
       generalize (mkNum x).s = z2 at *
       generalize (mkNum x).e = z3 at *
       go_wp2_with fail
       refine (c2 _ (HN.out.ext HE.out)).mono ?_
       rintro e2 w2 ⟨rfl, E2⟩
       have K2 : CelV w2 g (fillR (rwL N E) j) := H2.out.ext E2
       have Z2 : Blk2 w2 W.heap.size (.slice (some ⟨b1, o1, none⟩) n cp) (.slice (some ⟨b2, o2, none⟩) n cq) := H7.out.ext E2
       obtain ⟨⟨c0c, c1c, c2c, c3c⟩, f0c, f1c, f2c, f3c⟩ := K2.c j zeR (fillR_at (by rw [rwL_len HL.out.1]; have := HL.out; have := HJ.out; omega))
       have N2 : CelV ((((w2.setCell ⟨g, j * 4, none⟩ (.int .i64 z0)).setCell ⟨g, j * 4 + 1, none⟩ (.int .i64 z1)).setCell ⟨g, j * 4 + 2, none⟩ (.string z2)).setCell ⟨g, j * 4 + 3, none⟩ (.int .i64 z3)) g (fillR (rwL N E) (j + 1)) := by
         rw [← fillR_step HF.out]
         exact K2.set (by rw [fillR_len (by rw [rwL_len HL.out.1]; have := HL.out; have := HJ.out; omega), rwL_len HL.out.1]; have := HL.out; have := HJ.out; omega) ⟨z0, z1, z2, z3⟩
       have N7 : Blk2 ((((w2.setCell ⟨g, j * 4, none⟩ (.int .i64 z0)).setCell ⟨g, j * 4 + 1, none⟩ (.int .i64 z1)).setCell ⟨g, j * 4 + 2, none⟩ (.string z2)).setCell ⟨g, j * 4 + 3, none⟩ (.int .i64 z3)) W.heap.size (.slice (some ⟨b1, o1, none⟩) n cp) (.slice (some ⟨b2, o2, none⟩) n cq) := (((Z2.far1 HG.out.1 _ _).far1 HG.out.1 _ _).far1 HG.out.1 _ _).far1 HG.out.1 _ _
       have NX : Ext W ((((w2.setCell ⟨g, j * 4, none⟩ (.int .i64 z0)).setCell ⟨g, j * 4 + 1, none⟩ (.int .i64 z1)).setCell ⟨g, j * 4 + 2, none⟩ (.string z2)).setCell ⟨g, j * 4 + 3, none⟩ (.int .i64 z3)) := ((((HE.out.trans E2).setCell HG.out.2 _).setCell HG.out.2 _).setCell HG.out.2 _).setCell HG.out.2 _
       clear K2 Z2 E2 c2 c3
       go_upto_block 1 with fail
       clear c0c c1c c2c c3c f0c f1c f2c f3c
       generalize (((w2.setCell ⟨g, j * 4, none⟩ (.int .i64 z0)).setCell ⟨g, j * 4 + 1, none⟩ (.int .i64 z1)).setCell ⟨g, j * 4 + 2, none⟩ (.string z2)).setCell ⟨g, j * 4 + 3, none⟩ (.int .i64 z3) = Wz at *
       have L2 : Hid (Ext W Wz ∧ CelV Wz g (fillR (rwL N E) (j + 1)) ∧ Blk2 Wz W.heap.size (.slice (some ⟨b1, o1, none⟩) n cp) (.slice (some ⟨b2, o2, none⟩) n cq)) := ⟨NX, N2, N7⟩
       clear NX N2 N7 hltI H2 H7
       have wk := WK.out
       go_wp2_with fail
       go_roundw
       case rel =>
         obtain ⟨NX, N2, N7⟩ := L2.out
         exact ⟨j + 1, by go_num, HJ.out, NX, N2, N7⟩
       case measure => exact meas_lt (congrArg _ WK.out) HJ.out
     · have c3 := fun w h => err_any e w h
       have c2 := ()
       have hl : laneC x e = mkErr e := by unfold laneC; rw [if_neg h0]
       rw [hl] at HF0
       rw [dat_eq] at c3
       have HF : Hid ((rwL N E)[j]? = some ⟨(mkErr e).k, (mkErr e).n, (mkErr e).s, (mkErr e).e⟩) := HF0
       have hq : (e == 0) = false := by simp [h0]
       clear HF0 hl h0
       generalize (mkErr e).k = z0 at *
       generalize (mkErr e).n = z1 at *
       generalize (mkErr e).s = z2 at *
       generalize (mkErr e).e = z3 at *
       go_wp2_with fail
       refine (c3 _ (HN.out.ext HE.out)).mono ?_
       rintro e2 w2 ⟨rfl, E2⟩
       have K2 : CelV w2 g (fillR (rwL N E) j) := H2.out.ext E2
       have Z2 : Blk2 w2 W.heap.size (.slice (some ⟨b1, o1, none⟩) n cp) (.slice (some ⟨b2, o2, none⟩) n cq) := H7.out.ext E2
       obtain ⟨⟨c0c, c1c, c2c, c3c⟩, f0c, f1c, f2c, f3c⟩ := K2.c j zeR (fillR_at (by rw [rwL_len HL.out.1]; have := HL.out; have := HJ.out; omega))
       have N2 : CelV ((((w2.setCell ⟨g, j * 4, none⟩ (.int .i64 z0)).setCell ⟨g, j * 4 + 1, none⟩ (.int .i64 z1)).setCell ⟨g, j * 4 + 2, none⟩ (.string z2)).setCell ⟨g, j * 4 + 3, none⟩ (.int .i64 z3)) g (fillR (rwL N E) (j + 1)) := by
         rw [← fillR_step HF.out]
         exact K2.set (by rw [fillR_len (by rw [rwL_len HL.out.1]; have := HL.out; have := HJ.out; omega), rwL_len HL.out.1]; have := HL.out; have := HJ.out; omega) ⟨z0, z1, z2, z3⟩
       have N7 : Blk2 ((((w2.setCell ⟨g, j * 4, none⟩ (.int .i64 z0)).setCell ⟨g, j * 4 + 1, none⟩ (.int .i64 z1)).setCell ⟨g, j * 4 + 2, none⟩ (.string z2)).setCell ⟨g, j * 4 + 3, none⟩ (.int .i64 z3)) W.heap.size (.slice (some ⟨b1, o1, none⟩) n cp) (.slice (some ⟨b2, o2, none⟩) n cq) := (((Z2.far1 HG.out.1 _ _).far1 HG.out.1 _ _).far1 HG.out.1 _ _).far1 HG.out.1 _ _
       have NX : Ext W ((((w2.setCell ⟨g, j * 4, none⟩ (.int .i64 z0)).setCell ⟨g, j * 4 + 1, none⟩ (.int .i64 z1)).setCell ⟨g, j * 4 + 2, none⟩ (.string z2)).setCell ⟨g, j * 4 + 3, none⟩ (.int .i64 z3)) := ((((HE.out.trans E2).setCell HG.out.2 _).setCell HG.out.2 _).setCell HG.out.2 _).setCell HG.out.2 _
       clear K2 Z2 E2 c2 c3
       go_upto_block 1 with fail
       clear c0c c1c c2c c3c f0c f1c f2c f3c
       generalize (((w2.setCell ⟨g, j * 4, none⟩ (.int .i64 z0)).setCell ⟨g, j * 4 + 1, none⟩ (.int .i64 z1)).setCell ⟨g, j * 4 + 2, none⟩ (.string z2)).setCell ⟨g, j * 4 + 3, none⟩ (.int .i64 z3) = Wz at *
       have L2 : Hid (Ext W Wz ∧ CelV Wz g (fillR (rwL N E) (j + 1)) ∧ Blk2 Wz W.heap.size (.slice (some ⟨b1, o1, none⟩) n cp) (.slice (some ⟨b2, o2, none⟩) n cq)) := ⟨NX, N2, N7⟩
       clear NX N2 N7 hltI H2 H7
       have wk := WK.out
       go_wp2_with fail
       go_roundw
       case rel =>
         obtain ⟨NX, N2, N7⟩ := L2.out
         exact ⟨j + 1, by go_num, HJ.out, NX, N2, N7⟩
       case measure => exact meas_lt (congrArg _ WK.out) HJ.out
   · have hltI : ¬ (j : Int) < (n : Int) := by omega
     have R2 : Hid (RdV wr.heap.size wr (.slice (some ⟨g, 0, none⟩) n n) (rwL N E)) := by
       have := H2.out
       rw [show j = (rwL N E).length by rw [rwL_len HL.out.1, HL.out.2.1]; omega, fillR_full] at this
       exact this.rd (by rw [rwL_len HL.out.1, HL.out.2.1])
     clear hj hlt H2
     obtain ⟨_, ⟨y0, y1⟩, p0, p1⟩ := H7.out
     go_wp2_with fail
     go_ret
     exact ⟨_, rfl, R2.out, HE.out⟩
set_option maxRecDepth 100000 in
theorem rat_any (W : World) (a b : Value) (N E : List Int) (i : Nat) (x e : Int) (ha : RdI W a N) (hb : RdI W b E) (hx : N[i]? = some x) (he : E[i]? = some e) :
   Calls Tryd.prog 16 #[.agg #[a, b], .int .i64 (i : Int)] W fun r w' => r = .returned (laneC x e).dat ∧ Ext W w' := by
 have c2 := fun w => rnum_any x w
 have c3 := fun w => rerr_any e w
 obtain ⟨p, cp, rfl, hzz⟩ := ha.form
 clear hzz
 obtain ⟨q, cq, rfl, hzz⟩ := hb.form
 clear hzz
 have hi1 := (List.getElem?_eq_some_iff.1 hx).1
 have hi2 := (List.getElem?_eq_some_iff.1 he).1
 obtain ⟨b1, o1, hp1, hb1, k1⟩ := RdI.cell ha hx
 obtain ⟨b2, o2, hp2, hb2, k2⟩ := RdI.cell hb he
 subst hp1 hp2
 have hI1 : (i : Int) < (N.length : Int) := by omega
 have hI2 : (i : Int) < (E.length : Int) := by omega
 generalize N.length = n at *
 generalize E.length = m at *
 obtain ⟨W1, hW⟩ : ∃ W1, (W.alloc (.cells #[.slice (some ⟨b1, o1, none⟩) n cp, .slice (some ⟨b2, o2, none⟩) m cq] 26)).alloc (.cells #[.int .i64 0, .int .i64 0, .string ⟨#[]⟩, .int .i64 0] 33) = W1 := ⟨_, rfl⟩
 have HW : Hid ((W.alloc (.cells #[.slice (some ⟨b1, o1, none⟩) n cp, .slice (some ⟨b2, o2, none⟩) m cq] 26)).alloc (.cells #[.int .i64 0, .int .i64 0, .string ⟨#[]⟩, .int .i64 0] 33) = W1) := hW
 have X1 : Ext W W1 := by rw [← hW]; exact ((Ext.refl _).alloc _).alloc _
 obtain ⟨_, ⟨j0, j1⟩, g0, g1⟩ : Blk2 W1 W.heap.size (.slice (some ⟨b1, o1, none⟩) n cp) (.slice (some ⟨b2, o2, none⟩) m cq) := by rw [← hW]; exact blk2_top rfl ((Ext.refl _).alloc _)
 have B1 : Blk W1 (W.heap.size + 1) (.int .i64 0) (.int .i64 0) (.string ⟨#[]⟩) (.int .i64 0) := by rw [← hW]; exact blk_top (by simp) (Ext.refl _)
 have k1' := X1.some k1
 have k2' := X1.some k2
 clear ha hb hx he hi1 hi2 hb1 hb2 k1 k2 hW
 by_cases h0 : e = 0
 · subst h0
   clear c3
   obtain ⟨q0, q1, q2, q3, hq⟩ := dat4 (mkNum x)
   rw [hq] at c2
   have H : Hid ((laneC x 0).dat = .agg #[.int .i64 q0, .int .i64 q1, .string q2, .int .i64 q3]) := hq
   generalize (laneC x 0).dat = D at H ⊢
   clear hq
   go_enter Tryd.func16, Tryd.ntmps16
   go_upto_region 1 with fail
   rw [HW.out]
   go_wp2_with fail
   refine (c2 _).mono ?_
   rintro r w1 ⟨rfl, E1⟩
   obtain ⟨_, ⟨t0, t1, t2, t3⟩, s0, s1, s2, s3⟩ := B1.ext E1
   go_wp2_with fail
   exact fin4 t0 t1 t2 t3 rfl (by simp) (X1.trans E1) (fun W g0 g1 g2 g3 => by simp [results, Tryd.results16, go_sem, g0, g1, g2, g3]) (fun W h => ⟨by rw [H.out], h⟩)
 · clear c2
   have hl : laneC x e = mkErr e := by unfold laneC; rw [if_neg h0]
   obtain ⟨q0, q1, q2, q3, hq⟩ := dat4 (mkErr e)
   rw [hq] at c3
   have H : Hid ((laneC x e).dat = .agg #[.int .i64 q0, .int .i64 q1, .string q2, .int .i64 q3]) := by rw [hl]; exact hq
   generalize (laneC x e).dat = D at H ⊢
   have hq0 : (e == 0) = false := by simp [h0]
   have hq1 : (e != 0) = true := by simp [h0]
   clear hq hl h0
   go_enter Tryd.func16, Tryd.ntmps16
   go_upto_region 1 with fail
   rw [HW.out]
   go_wp2_with fail
   refine (c3 _).mono ?_
   rintro r w1 ⟨rfl, E1⟩
   obtain ⟨_, ⟨t0, t1, t2, t3⟩, s0, s1, s2, s3⟩ := B1.ext E1
   go_wp2_with fail
   exact fin4 t0 t1 t2 t3 rfl (by simp) (X1.trans E1) (fun W g0 g1 g2 g3 => by simp [results, Tryd.results16, go_sem, g0, g1, g2, g3]) (fun W h => ⟨by rw [H.out], h⟩)
end Go.Proofs.YteaoeichgibgiaaDoor
