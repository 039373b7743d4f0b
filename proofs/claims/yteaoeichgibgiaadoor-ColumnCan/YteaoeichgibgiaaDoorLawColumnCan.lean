/-
 ColumnCan is proved: which columns can be, and what their lanes are as values, is as the document's words have it. Its condition: the listed variables lie as the program's text lays them (the card ties them).
-/
import Derived.Test.YteaoeichgibgiaaDoorX12
import Derived.Test.YteaoeichgibgiaaDoorX9
import Derived.Test.YteaoeichgibgiaaDoorX11
import Derived.Test.YteaoeichgibgiaaDoorCards
import Derived.Test.YteaoeichgibgiaaDoorTie
import Derived.ChangeMaps5
import Derived.Lib.SmallJoins
namespace Go.Proofs.YteaoeichgibgiaaDoor.columnCan
open Go.ChangeShapes Go.WideShapes Go.ChangeAt Go.RowKit
open Go.Joins
set_option maxHeartbeats 4000000

set_option maxRecDepth 100000 in
theorem walk (a0 b0 : Value) (N0 E0 : List Int) (w : World) (ra0 : RdI w a0 N0) (rb0 : RdI w b0 E0) (sa0 : N0.length * 8 ≤ reachBytes) (sb0 : E0.length * 8 ≤ reachBytes) (hN : Nm w) :
   Calls Tryd.prog 4 #[.agg #[a0, b0]] w fun e w' => e = .returned (.bool true) ∧ Ext w w' := by
 unfold reachBytes at sa0 sb0
 have cO0 := fun W (e : Ext w W) => own19_any W a0 b0 N0 E0 (ra0.ext e) (rb0.ext e) (by omega) (by omega)
 have cC := fun W u v B (e : Ext w W) (h : VecO B W u v N0 E0) => ccan_any W u v N0 E0 (hN.ext e) h.rd1 h.rd2
 have cK0 := fun W (e : Ext w W) => rccan_any W a0 b0 N0 E0 (ra0.ext e) (rb0.ext e)
 have cL := fun W (e : Ext w W) => lives19_any W (hN.ext e)
 have cV0 := fun W u v B (e : Ext w W) (h : VecO B W u v N0 E0) (hc : canC N0 E0 = false) => values_no W u v N0 E0 (hN.ext e) h.rd1 h.rd2 hc
 have cV1 := fun W u v B (e : Ext w W) (h : VecO B W u v N0 E0) (hc : canC N0 E0 = true) => values_any W u v N0 E0 (hN.ext e) h.rd1 h.rd2 hc
 obtain ⟨p0, c0, rfl, hz⟩ := ra0.form
 clear hz
 obtain ⟨q0, d0, rfl, hz⟩ := rb0.form
 clear hz
 obtain ⟨n0, e1⟩ : ∃ n, N0.length = n := ⟨_, rfl⟩
 obtain ⟨m0, e2⟩ : ∃ n, E0.length = n := ⟨_, rfl⟩
 rw [e1] at ra0 cO0 cK0 sa0
 rw [e2] at rb0 cO0 cK0 sb0
 rw [e1, e2]
 have HL : Hid (N0.length = n0 ∧ E0.length = m0) := ⟨e1, e2⟩
 have RA0 : Hid (RdI w (.slice p0 n0 c0) N0) := ra0
 have RB0 : Hid (RdI w (.slice q0 m0 d0) E0) := rb0
 clear ra0 rb0 sa0 sb0 e1 e2 hN
 obtain ⟨W1, hW⟩ : ∃ W1, w.alloc (.cells #[.slice p0 n0 c0, .slice q0 m0 d0] 26) = W1 := ⟨_, rfl⟩
 have HW : Hid (w.alloc (.cells #[.slice p0 n0 c0, .slice q0 m0 d0] 26) = W1) := hW
 have HX : Hid (Ext w W1) := by rw [← hW]; exact (Ext.refl _).alloc _
 have V0 : Hid (VB W1 w.heap.size (.slice p0 n0 c0) (.slice q0 m0 d0)) := by rw [← hW]; exact vb_top rfl (Ext.refl _)
 clear hW
 go_enter Tryd.func4, Tryd.ntmps4
 go_wp2_with fail
 rw [HW.out]
 refine (cO0 _ HX.out).mono ?_
 rintro r1 w1 ⟨u1, v1, rfl, O1, Y1⟩
 have X1 : Hid (Ext W1 w1) := Y1
 clear Y1
 go_wp2_with fail
 refine (cC _ _ _ _ (HX.out.trans X1.out) O1).mono ?_
 rintro r2 w2 ⟨rfl, Y2⟩
 have X2 : Hid (Ext W1 w2) := X1.out.trans Y2
 obtain ⟨_, ⟨k0, k1⟩, f0, f1⟩ := (V0.out.ext X2.out).blk
 clear Y2 O1 X1 cC f0 f1
 go_wp2_with fail
 refine (cO0 _ (HX.out.trans X2.out)).mono ?_
 rintro r3 w3 ⟨u3, v3, rfl, O3, Y3⟩
 have X3 : Hid (Ext W1 w3) := X2.out.trans Y3
 have O3h : Hid (VecO w2.heap.size w3 u3 v3 N0 E0) := O3
 clear Y3 cO0 k0 k1 X2 O3
 go_wp2_with fail
 cases hc : canC N0 E0
 · rw [hc] at cK0
   refine (cV0 _ _ _ _ (HX.out.trans X3.out) O3h.out hc).mono ?_
   rintro r4 w4 ⟨rfl, Y4⟩
   have X4 : Hid (Ext W1 w4) := X3.out.trans Y4
   obtain ⟨_, ⟨k0, k1⟩, f0, f1⟩ := (V0.out.ext X4.out).blk
   clear Y4 cV0 cV1 O3h X3 f0 f1
   go_wp2_with fail
   refine (cK0 _ (HX.out.trans X4.out)).mono ?_
   rintro r5 w5 ⟨rfl, Y5⟩
   have X5 : Hid (Ext w w5) := HX.out.trans (X4.out.trans Y5)
   clear Y5 cK0 k0 k1
   go_wp2_with fail
   refine (cL _ X5.out).mono ?_
   rintro r9 w9 ⟨rfl, Y9⟩
   have X9 : Ext w w9 := Ext.trans X5.out Y9
   clear Y9
   go_wp2_with fail
   go_ret
   exact ⟨rfl, X9⟩
 · rw [hc] at cK0
   refine (cV1 _ _ _ _ (HX.out.trans X3.out) O3h.out hc).mono ?_
   rintro r4 w4 ⟨v4, rfl, R4, Y4⟩
   obtain ⟨l1, l2, hz⟩ := (canC_iff N0 E0).1 hc
   clear hz
   have X4 : Hid (Ext W1 w4) := X3.out.trans Y4
   obtain ⟨_, ⟨k0, k1⟩, f0, f1⟩ := (V0.out.ext X4.out).blk
   obtain ⟨p4, n4, c4, rfl, hn4, hz⟩ := R4.form
   rw [rwL_len l1, HL.out.1] at hn4
   subst hn4
   have R4h : Hid (RdV w4.heap.size w4 (.slice p4 n4 c4) (rwL N0 E0)) := R4
   have HM : Hid (n4 ≤ 1000 ∧ m0 = n4 ∧ (rwL N0 E0).length = n4) := ⟨by have := HL.out; omega, by have := HL.out; omega, by rw [rwL_len l1, HL.out.1]⟩
   clear Y4 cV0 cV1 O3h X3 f0 f1 hz l1 l2 R4
   go_wp2_with fail
   refine (cK0 _ (HX.out.trans X4.out)).mono ?_
   rintro r5 w5 ⟨rfl, Y5⟩
   have X5 : Hid (Ext W1 w5) := X4.out.trans Y5
   have R5 : Hid (RdV w4.heap.size w5 (.slice p4 n4 c4) (rwL N0 E0)) := R4h.out.low Y5
   have Y45 : Hid (Ext w4 w5) := Y5
   clear k0 k1 Y5 cK0 R4h
   obtain ⟨_, ⟨k0, k1⟩, f0, f1⟩ := (V0.out.ext X5.out).blk
   go_wp2_with fail
   clear k0 k1 f0 f1
   go_loopw [5] (fun iv wr => ∃ j : Nat, iv = .int .i64 (j : Int) ∧ j ≤ n4 ∧ Ext W1 wr ∧ Ext w4 wr) (fun iv _ => n4 - (intOf iv).toNat)
   case atStart => exact ⟨0, rfl, Nat.zero_le _, X5.out, Y45.out⟩
   case round =>
     obtain ⟨j, rfl, hj, hE, hE4⟩ := hrel
     have HE : Hid (Ext w wr) := HX.out.trans hE
     have HE1 : Hid (Ext W1 wr) := hE
     have HE4 : Hid (Ext w4 wr) := hE4
     clear hE hE4
     by_cases hlt : j < n4
     · have hltI : (j : Int) < (n4 : Int) := by omega
       obtain ⟨x, hx⟩ : ∃ x, N0[j]? = some x := ⟨_, List.getElem?_eq_getElem (by have := HL.out; omega)⟩
       obtain ⟨e, he⟩ : ∃ e, E0[j]? = some e := ⟨_, List.getElem?_eq_getElem (by have := HL.out; have := HM.out; omega)⟩
       have R6 : RdV w4.heap.size wr (.slice p4 n4 c4) (rwL N0 E0) := by
         have := R5.out
         obtain ⟨pp, cc, h1, h2, h3⟩ := this
         refine ⟨pp, cc, h1, h2, ?_⟩
         rcases h3 with h3 | ⟨bb, oo, g1, g2, g3, g4⟩
         · exact .inl h3
         · refine .inr ⟨bb, oo, g1, g2, Nat.lt_of_lt_of_le g2 HE4.out.size, fun i r hr => ?_⟩
           obtain ⟨q1, q2, q3, q4⟩ := g4 i r hr
           have bk : ∀ o, wr.cell? ⟨bb, o, none⟩ = w5.cell? ⟨bb, o, none⟩ := fun o => (HE4.out.cell.1 bb o g2).trans (Y45.out.cell.1 bb o g2).symm
           exact ⟨(bk _).trans q1, (bk _).trans q2, (bk _).trans q3, (bk _).trans q4⟩
       obtain ⟨b, off, r, hp, hr, hb, hbW, y0, y1, y2, y3⟩ := R6.at (i := j) (by rw [HM.out.2.2]; exact hlt)
       have hr2 := rwL_at hx he
       rw [hr] at hr2
       obtain rfl := Option.some.inj hr2
       subst hp
       have cA := fun W (ee : Ext w W) => rat_any W (.slice p0 n4 c0) (.slice q0 m0 d0) N0 E0 j x e (RA0.out.ext ee) (RB0.out.ext ee) hx he
       rw [dat_eq] at cA
       change wr.cell? ⟨b, off + j * 4, none⟩ = some (.int .i64 (laneC x e).k) at y0
       change wr.cell? ⟨b, off + j * 4 + 1, none⟩ = some (.int .i64 (laneC x e).n) at y1
       change wr.cell? ⟨b, off + j * 4 + 2, none⟩ = some (.string (laneC x e).s) at y2
       change wr.cell? ⟨b, off + j * 4 + 3, none⟩ = some (.int .i64 (laneC x e).e) at y3
       generalize (laneC x e).k = z0 at *
       generalize (laneC x e).n = z1 at *
       generalize (laneC x e).s = z2 at *
       generalize (laneC x e).e = z3 at *
       obtain ⟨_, ⟨k0, k1⟩, f0, f1⟩ := (V0.out.ext HE1.out).blk
       have WK : Hid (wrap64 ((j : Int) + 1) = ((j + 1 : Nat) : Int)) := wrapC j (by have := HM.out; omega)
       have HJ : Hid (j < n4) := hlt
       clear R6 hr hr2 hx he hb hbW hj hlt f0 f1
       go_upto_region 12 with fail
       refine wp_region_held_drew (S := fun V => V.cell? ⟨b, off + j * 4, none⟩ = some (.int .i64 z0) ∧ V.cell? ⟨b, off + j * 4 + 1, none⟩ = some (.int .i64 z1) ∧ V.cell? ⟨b, off + j * 4 + 2, none⟩ = some (.string z2) ∧ V.cell? ⟨b, off + j * 4 + 3, none⟩ = some (.int .i64 z3) ∧ V.cell? ⟨w.heap.size, 0, none⟩ = some (.slice p0 n4 c0) ∧ V.cell? ⟨w.heap.size, 1, none⟩ = some (.slice q0 m0 d0)) (by kernel_rfl) ?_ (fun hHeld0 => ?_)
       · first | exact ⟨y0, y1, y2, y3, k0, k1⟩ | exact ⟨X9.some y0, X9.some y1, X9.some y2, X9.some y3, X9.some k0, X9.some k1⟩
       refine wpAnyH_take (i := 0) (oi := ⟨some 36, .move (.tmp 4), 22, "law.go:50", #[], none⟩) (v := ?_) rfl (by kernel_rfl) (by kernel_rfl) (by kernel_rfl) (fun _ _ _ h => h) (Or.inl ⟨by rfl, ?_⟩) (by assumption) ?_
       rotate_left
       · intro w hSw; (try dsimp only at hSw); first | (go_simp; done) | (go_simp; with_reducible rfl)
       try simp only [Act.put, List.setIfInBounds_toArray, List.set_cons_zero, List.set_cons_succ]
       refine wpAnyH_take (i := 1) (oi := ⟨some 37, .move (.tmp 5), 3, "law.go:50", #[], none⟩) (v := ?_) rfl (by kernel_rfl) (by kernel_rfl) (by kernel_rfl) (fun _ _ _ h => h) (Or.inl ⟨by rfl, ?_⟩) (by assumption) ?_
       rotate_left
       · intro w hSw; (try dsimp only at hSw); first | (go_simp; done) | (go_simp; with_reducible rfl)
       try simp only [Act.put, List.setIfInBounds_toArray, List.set_cons_zero, List.set_cons_succ]
       refine wpAnyH_take (i := 2) (oi := ⟨some 38, .indexAddr 22 (.tmp 36) (.tmp 37), 0, "law.go:50", #[⟨0, .data⟩, ⟨1, .data⟩], none⟩) (v := ?_) rfl (by kernel_rfl) (by kernel_rfl) (by kernel_rfl) (fun _ _ _ h => h) (Or.inl ⟨by rfl, ?_⟩) (by assumption) ?_
       rotate_left
       · intro w hSw; (try dsimp only at hSw); first | (go_simp; done) | (go_simp; with_reducible rfl)
       try simp only [Act.put, List.setIfInBounds_toArray, List.set_cons_zero, List.set_cons_succ]
       refine wpAnyH_take (i := 3) (oi := ⟨some 39, .load 33 (.tmp 38), 33, "law.go:50", #[⟨2, .data⟩], none⟩) (v := ?_) rfl (by kernel_rfl) (by kernel_rfl) (by kernel_rfl) (fun _ _ _ h => h) (Or.inl ⟨by rfl, ?_⟩) (by assumption) ?_
       rotate_left
       · intro w hSw; (try dsimp only at hSw); first | (go_simp; done) | (go_simp; with_reducible rfl)
       try simp only [Act.put, List.setIfInBounds_toArray, List.set_cons_zero, List.set_cons_succ]
       refine wpAnyH_take (i := 4) (oi := ⟨some 40, .load 26 (.tmp 1), 26, "law.go:50", #[], none⟩) (v := ?_) rfl (by kernel_rfl) (by kernel_rfl) (by kernel_rfl) (fun _ _ _ h => h) (Or.inl ⟨by rfl, ?_⟩) (by assumption) ?_
       rotate_left
       · intro w hSw; (try dsimp only at hSw); first | (go_simp; done) | (go_simp; with_reducible rfl)
       try simp only [Act.put, List.setIfInBounds_toArray, List.set_cons_zero, List.set_cons_succ]
       refine wpAnyH_take (i := 5) (oi := ⟨some 41, .move (.tmp 5), 3, "law.go:50", #[], none⟩) (v := ?_) rfl (by kernel_rfl) (by kernel_rfl) (by kernel_rfl) (fun _ _ _ h => h) (Or.inl ⟨by rfl, ?_⟩) (by assumption) ?_
       rotate_left
       · intro w hSw; (try dsimp only at hSw); first | (go_simp; done) | (go_simp; with_reducible rfl)
       try simp only [Act.put, List.setIfInBounds_toArray, List.set_cons_zero, List.set_cons_succ]
       refine wpAnyH_ready (rs := [6]) (by kernel_rfl) (by simp) ?_
       refine AllReadyH.cons (o := ⟨some 42, .call { callee := .value (.func 16), args := #[.tmp 40, .tmp 41], argTypes := #[26, 3] }, 33, "law.go:50", #[⟨4, .data⟩, ⟨5, .data⟩], none⟩) rfl (fun K hK => ?_) AllReadyH.nil
       go_simp
       refine (cA _ (HE.out.drew)).mono ?_; rintro r8 w8 ⟨rfl, Y8⟩; have X9 : Ext wr w8 := (Ext.refl _).drew.trans Y8
       try go_wp2_with fail
       refine hK.out _ _ ?_ (fun hHeld1 => ?_)
       · (try dsimp only); first | exact ⟨y0, y1, y2, y3, k0, k1⟩ | exact ⟨X9.some y0, X9.some y1, X9.some y2, X9.some y3, X9.some k0, X9.some k1⟩
       clear hK K hHeld0
       try simp only [Act.put, List.setIfInBounds_toArray, List.set_cons_zero, List.set_cons_succ]
       refine wpAnyH_take (i := 7) (oi := ⟨some 43, .binOp .neq 33 (.tmp 39) (.tmp 42) 33, 4, "law.go:50", #[⟨3, .data⟩, ⟨6, .data⟩], none⟩) (v := ?_) rfl (by kernel_rfl) (by kernel_rfl) (by kernel_rfl) (fun _ _ _ h => h) (Or.inl ⟨by rfl, ?_⟩) (by assumption) ?_
       rotate_left
       · intro w hSw; (try dsimp only at hSw); first | (go_simp; done) | (go_simp; with_reducible rfl)
       try simp only [Act.put, List.setIfInBounds_toArray, List.set_cons_zero, List.set_cons_succ]
       refine wpAnyH_done (by kernel_rfl) ?_ _
       have Z1 : Hid (Ext W1 w8) := HE1.out.trans X9
       have Z4 : Hid (Ext w4 w8) := HE4.out.trans X9
       clear X9 Y8 hltI y0 y1 y2 y3 k0 k1 cA
       try clear hHeld1
       try clear hHeld0
       have wk := WK.out
       go_wp2_with fail
       go_roundw
       case rel => exact ⟨j + 1, by go_num, HJ.out, Z1.out, Z4.out⟩
       case measure => exact meas_lt (congrArg _ WK.out) HJ.out
     · have hltI : ¬ (j : Int) < (n4 : Int) := by omega
       clear hj hlt
       go_wp2_with fail
       refine (cL _ HE.out).mono ?_
       rintro r9 w9 ⟨rfl, Y9⟩
       have X9 : Ext w w9 := Ext.trans HE.out Y9
       clear Y9
       go_wp2_with fail
       go_ret
       exact ⟨rfl, X9⟩
theorem laidOut : laidOutB Tryd.prog = true := by kernel_rfl
set_option maxRecDepth 100000 in
theorem contract (H : Type) (enc : TypeId × Value → H) (W : World) (base : Nat) (args : Array Value) (ds gs : List (DataW H)) (before : List MemPlace)
   (hval0 : ∀ (j : Nat) t v, Tryd.f4.params[j]? = some t → args[j]? = some v → Value.okWide Tryd.prog W .any base t v)
   (hW : DataW.Whole enc Tryd.prog Tryd.f4.params.toList Rows.columnCanSpec.vars false W args.toList ds gs before) (hsz0 : (DataW.weightsEach Tryd.prog (Tryd.f4.params.toList ++ (OpenSpec.ofChange Rows.columnCanSpec).bare.plain.varTypes Tryd.prog) (ds ++ gs)).all (· ≤ reachBytes) = true) (hL : laidMetH Tryd.prog Rows.columnCanRow.laid W) :
   Calls Tryd.prog 4 args W fun e W' => ∃ v, e = .returned v ∧ Rows.columnCanSpec.post enc Tryd.prog Tryd.f4 false true false false W args v W' := by
 have hval := hval0
 have hW' := hW
 obtain ⟨p, q, hA0, hV, rfl, hfz, hnd⟩ := hW'
 have hA : DataW.TrodAll enc Tryd.prog W 0 (fun _ => true) true Tryd.f4.params.toList args.toList ds p := hA0
 rw [Tryd.params4] at hA hval
 obtain ⟨v0, vs0, d0, ds0, p0, q0, hargs, rfl, rfl, h0, r0⟩ := trodAll_cons hA
 obtain ⟨rfl, rfl, rfl⟩ := trodAll_nil r0
 obtain rfl : args = #[v0] := by cases args; simp_all
 obtain ⟨rfl, rfl⟩ := trodVars_none hV
 have j0 := h0
 have lt0 : ∀ x ∈ p0, x.block < W.heap.size := by obtain ⟨m, hm⟩ := j0; exact DataW.trod_lt m _ _ _ hm
 obtain ⟨cc0, ce0, yy0, yy1, m0, rfl, hd0, hp0, hy0, hy1⟩ := open_agg2 Tryd.underlying26 (by kernel_rfl) cells_vec (hval 0 26 v0 rfl rfl) h0
 obtain ⟨N0, ra0, za0⟩ := open_i64s hy0
 obtain ⟨E0, rb0, zb0⟩ := open_ints hy1
 have sa0 : N0.length * 8 ≤ reachBytes := za0 (fun n hn => by
   have := List.all_eq_true.1 hsz0 n (DataW.weights_mem_each (j := 0) (t := 26) rfl rfl n (by
     rw [hd0]
     simp only [DataW.weights, Tryd.underlying26]
     exact DataW.weights_mem_each (j := 0) rfl rfl n hn))
   simpa using this)
 have sb0 : E0.length * 8 ≤ reachBytes := zb0 (fun n hn => by
   have := List.all_eq_true.1 hsz0 n (DataW.weights_mem_each (j := 0) (t := 26) rfl rfl n (by
     rw [hd0]
     simp only [DataW.weights, Tryd.underlying26]
     exact DataW.weights_mem_each (j := 1) rfl rfl n hn))
   simpa using this)
 clear hA0 hval0 hsz0
 refine (walk cc0 ce0 N0 E0 W ra0 rb0 sa0 sb0 (nm_ofC hL)).mono fun e W' ⟨he, bel⟩ => ?_
 subst he
 exact ⟨_, rfl, _, _, _, [], _, [], hW, trodAll_mk1 (shut_bool Tryd.underlying4 _), (trodAll_cons_mk (Below.trod laidOut (by kernel_rfl) (of_decide_eq_true (by kernel_rfl)) j0 bel lt0) trodAll_mk0), rfl, Below.frame bel _, fun h => by cases h⟩

theorem laid_met (os : Os) : laidMet Tryd.prog Rows.columnCanRow.laid ((laidWorldC os).forCall (fun _ _ => 0) ⟨#[], #[.agg #[.slice none 0 0, .slice none 0 0]], []⟩).memory :=
 laidMet_of_run' 8 (by kernel_rfl) (by kernel_rfl)
theorem reads (os : Os) {H : Type} (enc : TypeId × Value → H) : ∃ places, DataW.whole enc Tryd.prog ((laidWorldC os).forCall (fun _ _ => 0) ⟨#[], #[.agg #[.slice none 0 0, .slice none 0 0]], []⟩).memory Tryd.f4.params.toList Rows.columnCanSpec.vars false (#[.agg #[.slice none 0 0, .slice none 0 0]] : Array Value).toList 8 = some ([.agg [.nil, .nil]], [], places) :=
 ⟨[], by kernel_rfl⟩

set_option maxRecDepth 100000 in
theorem lifted (os : Os) (started : os.Started) (H : Type) (enc : TypeId × Value → H) (F : Stop.Interp) :
   ReturnsInHanded {} Tryd.checked os 4 .any ((OpenSpec.ofChange Rows.columnCanSpec).preRow enc Tryd.prog Tryd.f4 Rows.columnCanRow.domain false Rows.columnCanRow.laid) (((OpenSpec.ofChange Rows.columnCanSpec).at F).post enc Tryd.prog Tryd.f4 false true false false) := by
 obtain ⟨places, hx⟩ := reads os enc
 refine returnsInHanded_of_row (C := Tryd.checked) (s := OpenSpec.ofChange Rows.columnCanSpec) ownK started (by kernel_rfl) Tryd.func4
   (witness_row_at (enc := enc) (C := Tryd.checked) false (laidWorldC os) #[.agg #[.slice none 0 0, .slice none 0 0]] rfl (by kernel_rfl) (by kernel_rfl) (by kernel_rfl)
     (OpenSpec.preRow_of_cond 8 hx (by kernel_rfl) (fun k hk => by cases hk) (by kernel_rfl) (by
       rw [MakeChecks.laidMetH_plain _ _ _ (by kernel_rfl)]
       exact laid_met os))) ?_
 intro W base args ds gs before hval hW _ _ hsz hL _ _
 exact contract H enc W base args ds gs before hval hW hsz hL

theorem said : Rows.ColumnCanSaid :=
 OpenClaim.holds_of_cond 4 Tryd.f4 rfl rfl rfl rfl rfl rfl rfl ⟨rfl, rfl, rfl, rfl, rfl⟩ rfl rfl rfl rfl rfl (by kernel_rfl) Tryd.func4 (by kernel_rfl)
   (of_decide_eq_true (by kernel_rfl)) (by unfold Func.isWrapper; first | (rw [if_pos (by decide +kernel)]; kernel_rfl) | (rw [if_neg (by decide +kernel)]; exact ⟨rfl, rfl⟩))
   (fun os started H enc _ F => by rw [OpenClaim.pre_eq_preRow]; exact lifted os started H enc F)

theorem plain (f : FuncId) (fn : Func) (hf : Tryd.pinned.checked.prog.funcNamed Rows.columnCanRow.func = some f) (hfn : Tryd.pinned.checked.prog.funcs[f]? = some fn) :
   false = Tryd.pinned.checked.prog.looks [] ∧ ∀ (j : Nat) t, fn.params[j]? = some t → Tryd.pinned.checked.prog.wantsStandIn t = false := by
 obtain rfl : f = 4 := Option.some.inj ((show Tryd.prog.funcNamed Rows.columnCanRow.func = some 4 by kernel_rfl).symm.trans hf) |>.symm
 obtain rfl : fn = Tryd.f4 := (Option.some.inj (Tryd.func4.symm.trans hfn)).symm
 refine ⟨by kernel_rfl, fun j t ht => ?_⟩
 rw [Tryd.params4] at ht
 have hm : t ∈ [26] := by simpa using Array.mem_of_getElem? ht
 have hall : ([26].all fun u => !Tryd.prog.wantsStandIn u) = true := by kernel_rfl
 exact (show Tryd.prog.wantsStandIn t = false by simpa using List.all_eq_true.1 hall t hm)

theorem card : Rows.ColumnCanCardSaid :=
 Claim7.holds_tied_plain_at .later [] _ _ _ _ said (fun _ h => by cases h) (by kernel_rfl) (fun _ h => by cases h) columnCan_row_tie rfl ⟨rfl, rfl⟩ (by kernel_rfl) rfl plain (by kernel_rfl)
end Go.Proofs.YteaoeichgibgiaaDoor.columnCan
namespace Go.Proofs.YteaoeichgibgiaaDoor
theorem columnCan_card : Rows.ColumnCanCardSaid := columnCan.card
end Go.Proofs.YteaoeichgibgiaaDoor
