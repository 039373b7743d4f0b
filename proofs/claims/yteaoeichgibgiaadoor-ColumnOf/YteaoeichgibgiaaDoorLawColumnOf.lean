/-
 ColumnOf is proved: which lanes values become, as numbers or of an area, is as the document's words have it, and they are told back. Its condition: the listed variables lie as the program's text lays them (the card ties them).
-/
import Derived.Test.YteaoeichgibgiaaDoorY9
import Derived.Test.YteaoeichgibgiaaDoorY11
import Derived.Test.YteaoeichgibgiaaDoorCards
import Derived.Test.YteaoeichgibgiaaDoorTie
import Derived.ChangeMaps5
import Derived.Lib.SmallJoins
namespace Go.Proofs.YteaoeichgibgiaaDoor.columnOf
open Go.ChangeShapes Go.WideShapes Go.ChangeAt Go.RowKit
open Go.Joins
set_option maxHeartbeats 4000000

set_option maxRecDepth 100000 in
theorem walk (l : List Rw) (p0 : Option Addr) (n0 c0 : Nat) (area : Bool) (w : World) (rd : RdV w.heap.size w (.slice p0 n0 c0) l) (vi : ∀ r ∈ l, I64 r.n) (hr : l.length * 40 ≤ reachBytes) (hN : Nm w) :
   Calls Tryd.prog 3 #[.slice p0 n0 c0, .bool area] w fun e w' => e = .returned (.bool true) ∧ Ext w w' := by
 unfold reachBytes at hr
 have hcan := of_can l area vi
 have hlane := fun i => of_lane (area := area) vi (i := i)
 have cO := fun W a (e : Ext w W) h => cof_all W a l area (hN.ext e) h vi
 have cP := fun W (e : Ext w W) => rof_all W (.slice p0 n0 c0) l area ((rd.low e).up e.size) vi
 have cL := fun W (e : Ext w W) => lives19_any W (hN.ext e)
 obtain ⟨NN, hNN⟩ : ∃ L, ofL (lnN area l) l = L := ⟨_, rfl⟩
 obtain ⟨EE, hEE⟩ : ∃ L, ofL (lnE area l) l = L := ⟨_, rfl⟩
 rw [hNN, hEE] at cO cP hcan
 rw [hNN] at hlane
 rw [hEE] at hlane
 generalize ofP l = pl at cO cP
 obtain ⟨l1, l2, hz⟩ := (canC_iff NN EE).1 hcan
 clear hz
 obtain ⟨k, hk⟩ : ∃ k, NN.length = k := ⟨_, rfl⟩
 have cC := fun W u v (e : Ext w W) h1 h2 => ccan_any W u v NN EE (hN.ext e) h1 h2
 rw [hcan] at cC
 have cVal := fun W u v (e : Ext w W) h1 h2 => values_any W u v NN EE (hN.ext e) h1 h2 hcan
 have HK : Hid (NN.length = k ∧ EE.length = k ∧ k ≤ 1000) := ⟨hk, by omega, by omega⟩
 have HLN : Hid (∀ i, i < k → ∃ r n e, l[i]? = some r ∧ NN[i]? = some n ∧ EE[i]? = some e ∧ laneC n e = laneV r.v area) := fun i hi => hlane i (by omega)
 have HI : Hid (∀ r ∈ l, I64 r.n) := vi
 have RD : Hid (RdV w.heap.size w (.slice p0 n0 c0) l) := rd
 have HNL : Hid (n0 = l.length) := rd.len
 have HR : Hid (l.length * 40 ≤ 140737488351232) := hr
 have HN : Hid (Nm w) := hN
 clear hNN hEE l1 l2 hk rd hr hN hcan vi hlane
 go_enter Tryd.func3, Tryd.ntmps3
 go_wp2_with (at_builtin; refine own_app eltV _ w _ _ _ _ 0 l.length [] (l.flatMap cV) w.heap.size rfl rfl (by rfl) (by rfl) (own_new w w (Nat.le_refl _)) (RD.out.low ((Ext.refl _).alloc _)).row (cV_one l) (by have := HR.out; unfold maxLen; omega) (by have := HR.out; omega) ((Ext.refl _).alloc _) (Nat.le_refl _) (by simp) ?_; intro v' W' k1 k2 _; rw [Nat.zero_add, List.nil_append] at k1; obtain ⟨p2, c2, rfl, hc2⟩ := own_form k1; have K1 : Hid (RdV W'.heap.size W' (.slice p2 l.length c2) l) := own_rdV k1; have K2 : Hid (Ext w W') := k2; clear k1 k2 hc2)
 refine (cO _ _ K2.out K1.out).mono ?_
 rintro r1 w1 ⟨u1, v1, rfl, A1, B1, Y1⟩
 obtain ⟨p3, c3, hu, hz⟩ := A1.form
 clear hz
 obtain ⟨p4, c4, hv, hz⟩ := B1.form
 clear hz
 rw [HK.out.1] at hu
 rw [HK.out.2.1] at hv
 subst hu hv
 have X1 : Hid (Ext w w1) := K2.out.trans Y1
 have A1h : Hid (RdI w1 (.slice p3 k c3) NN) := A1
 have B1h : Hid (RdI w1 (.slice p4 k c4) EE) := B1
 clear A1 B1 Y1 cO K1 K2
 go_wp2_with fail
 have V5 : VB (w1.alloc (.cells #[.slice p3 k c3, .slice p4 k c4] 26)) w1.heap.size (.slice p3 k c3) (.slice p4 k c4) := vb_top rfl (Ext.refl _)
 have X2 : Hid (Ext w (w1.alloc (.cells #[.slice p3 k c3, .slice p4 k c4] 26))) := X1.out.alloc _
 have A2 : Hid (RdI (w1.alloc (.cells #[.slice p3 k c3, .slice p4 k c4] 26)) (.slice p3 k c3) NN) := A1h.out.ext ((Ext.refl _).alloc _)
 have B2 : Hid (RdI (w1.alloc (.cells #[.slice p3 k c3, .slice p4 k c4] 26)) (.slice p4 k c4) EE) := B1h.out.ext ((Ext.refl _).alloc _)
 generalize w1.alloc (.cells #[.slice p3 k c3, .slice p4 k c4] 26) = w2 at *
 generalize w1.heap.size = g5 at *
 have V5h : Hid (VB w2 g5 (.slice p3 k c3) (.slice p4 k c4)) := V5
 clear V5 A1h B1h X1
 refine (cP _ X2.out).mono ?_
 rintro r3 w3 ⟨u3, v3, rfl, A3, B3, Y3⟩
 obtain ⟨p5, c5, hu, hz⟩ := A3.form
 clear hz
 obtain ⟨p6, c6, hv, hz⟩ := B3.form
 clear hz
 rw [HK.out.1] at hu
 rw [HK.out.2.1] at hv
 subst hu hv
 have X3 : Hid (Ext w2 w3) := Y3
 have A3h : Hid (RdI w3 (.slice p5 k c5) NN) := A3
 have B3h : Hid (RdI w3 (.slice p6 k c6) EE) := B3
 clear A3 B3 Y3 cP
 have V7 : VB (w3.alloc (.cells #[.slice p5 k c5, .slice p6 k c6] 26)) w3.heap.size (.slice p5 k c5) (.slice p6 k c6) := vb_top rfl (Ext.refl _)
 have X4 : Hid (Ext w2 (w3.alloc (.cells #[.slice p5 k c5, .slice p6 k c6] 26))) := X3.out.alloc _
 have A4 : Hid (RdI (w3.alloc (.cells #[.slice p5 k c5, .slice p6 k c6] 26)) (.slice p5 k c5) NN) := A3h.out.ext ((Ext.refl _).alloc _)
 have B4 : Hid (RdI (w3.alloc (.cells #[.slice p5 k c5, .slice p6 k c6] 26)) (.slice p6 k c6) EE) := B3h.out.ext ((Ext.refl _).alloc _)
 obtain ⟨_, ⟨y0, y1⟩, s0, s1⟩ := (V5h.out.ext X4.out).blk
 obtain ⟨_, ⟨t0, t1⟩, f0, f1⟩ := V7.blk
 go_upto_region 3 with fail
 generalize w3.alloc (.cells #[.slice p5 k c5, .slice p6 k c6] 26) = w4 at *
 generalize w3.heap.size = g7 at *
 clear V7 A3h B3h X3 f0 f1 s0 s1
 have cR := rcsame_any w4 (.slice p3 k c3) (.slice p4 k c4) (.slice p5 k c5) (.slice p6 k c6) NN EE NN EE (A2.out.ext X4.out) (B2.out.ext X4.out) A4.out B4.out (by rw [HK.out.1]; have := HK.out; unfold maxLen; omega) (by rw [HK.out.2.1]; have := HK.out; unfold maxLen; omega)
 rw [show (decide (NN = NN) && decide (EE = EE)) = true by simp] at cR
 go_wp2_with fail
 refine cR.mono ?_
 rintro r5 w5 ⟨rfl, Y5⟩
 have X5 : Hid (Ext w2 w5) := X4.out.trans Y5
 clear cR Y5 y0 y1 t0 t1 A4 B4 X4
 obtain ⟨_, ⟨y0, y1⟩, s0, s1⟩ := (V5h.out.ext X5.out).blk
 go_wp2_with fail
 refine (cC _ _ _ (X2.out.trans X5.out) (A2.out.ext X5.out) (B2.out.ext X5.out)).mono ?_
 rintro r6 w6 ⟨rfl, Y6⟩
 have X6 : Hid (Ext w2 w6) := X5.out.trans Y6
 clear Y6 y0 y1 s0 s1 X5 cC
 obtain ⟨_, ⟨y0, y1⟩, s0, s1⟩ := (V5h.out.ext X6.out).blk
 go_wp2_with fail
 refine (cVal _ _ _ (X2.out.trans X6.out) (A2.out.ext X6.out) (B2.out.ext X6.out)).mono ?_
 rintro r7 w7 ⟨v7, rfl, R7, Y7⟩
 have X7 : Hid (Ext w2 w7) := X6.out.trans Y7
 have hll : (rwL NN EE).length = k := by rw [rwL_len (by rw [HK.out.1, HK.out.2.1]), HK.out.1]
 obtain ⟨p7, n7, c7, rfl, hn7, hz⟩ := R7.form
 rw [hll] at hn7
 subst hn7
 have R7h : Hid (RdV w7.heap.size w7 (.slice p7 n7 c7) (rwL NN EE)) := R7
 have HLL : Hid ((rwL NN EE).length = n7) := hll
 clear R7 Y7 y0 y1 s0 s1 X6 cVal hz hll
 obtain ⟨_, ⟨y0, y1⟩, s0, s1⟩ := (V5h.out.ext X7.out).blk
 go_wp2_with fail
 clear y0 y1 s0 s1
 have X7w : Hid (Ext w w7) := X2.out.trans X7.out
 clear X7 X2 V5h A2 B2
 go_loopw [10] (fun iv wr => ∃ j : Nat, iv = .int .i64 (j : Int) ∧ j ≤ n7 ∧ Ext w wr ∧ Ext w7 wr) (fun iv _ => n7 - (intOf iv).toNat)
 case atStart => exact ⟨0, rfl, Nat.zero_le _, X7w.out, Ext.refl _⟩
 case round =>
   obtain ⟨j, rfl, hj, hE, hE4⟩ := hrel
   have HE : Hid (Ext w wr) := hE
   have HE4 : Hid (Ext w7 wr) := hE4
   clear hE hE4
   by_cases hlt : j < n7
   · have hltI : (j : Int) < (n7 : Int) := by omega
     obtain ⟨r, n, e, hr, hn, he, hle⟩ := HLN.out j hlt
     have hjl : j < l.length := (List.getElem?_eq_some_iff.1 hr).1
     have hltL : (j : Int) < (n0 : Int) := by have := HNL.out; omega
     obtain ⟨b, off, r1, hp, hr1, hb, hbW, y0, y1, y2, y3⟩ := (R7h.out.low HE4.out).at (i := j) (by rw [HLL.out]; exact hlt)
     have hr2 := rwL_at hn he
     rw [hr1, hle] at hr2
     obtain rfl := Option.some.inj hr2
     subst hp
     obtain ⟨b6, o6, r2, hp6, hr6, hb6, hbW6, k0, k1, k2, k3⟩ := (RD.out.low HE.out).at (i := j) hjl
     rw [hr] at hr6
     obtain rfl := Option.some.inj hr6
     subst hp6
     have cA : ∀ W, Calls Tryd.prog 12 #[.agg #[.int .i64 r.k, .int .i64 r.n, .string r.s, .int .i64 r.e], .bool area] W fun q w' => q = .returned (laneV r.v area).dat ∧ Ext W w' := fun W => rlane_any r.k r.n r.s r.e (HI.out r (List.mem_of_getElem? hr)) area W
     rw [dat_eq] at cA
     change wr.cell? ⟨b, off + j * 4, none⟩ = some (.int .i64 (laneV r.v area).k) at y0
     change wr.cell? ⟨b, off + j * 4 + 1, none⟩ = some (.int .i64 (laneV r.v area).n) at y1
     change wr.cell? ⟨b, off + j * 4 + 2, none⟩ = some (.string (laneV r.v area).s) at y2
     change wr.cell? ⟨b, off + j * 4 + 3, none⟩ = some (.int .i64 (laneV r.v area).e) at y3
     clear hr1 hle
     generalize (laneV r.v area).k = z0 at *
     generalize (laneV r.v area).n = z1 at *
     generalize (laneV r.v area).s = z2 at *
     generalize (laneV r.v area).e = z3 at *
     have WK : Hid (wrap64 ((j : Int) + 1) = ((j + 1 : Nat) : Int)) := wrapC j (by have := HK.out; omega)
     have HJ : Hid (j < n7) := hlt
     clear hr hr2 hn he hb hbW hb6 hbW6 hj hlt hjl hr6
     generalize r.k = rk at *
     generalize r.n = rn at *
     generalize r.s = rs at *
     generalize r.e = re at *
     go_upto_region 11 with fail
     refine wp_region_held_drew (S := fun V => V.cell? ⟨b, off + j * 4, none⟩ = some (.int .i64 z0) ∧ V.cell? ⟨b, off + j * 4 + 1, none⟩ = some (.int .i64 z1) ∧ V.cell? ⟨b, off + j * 4 + 2, none⟩ = some (.string z2) ∧ V.cell? ⟨b, off + j * 4 + 3, none⟩ = some (.int .i64 z3) ∧ V.cell? ⟨b6, o6 + j * 4, none⟩ = some (.int .i64 rk) ∧ V.cell? ⟨b6, o6 + j * 4 + 1, none⟩ = some (.int .i64 rn) ∧ V.cell? ⟨b6, o6 + j * 4 + 2, none⟩ = some (.string rs) ∧ V.cell? ⟨b6, o6 + j * 4 + 3, none⟩ = some (.int .i64 re)) (by kernel_rfl) ?_ (fun hHeld0 => ?_)
     · first | exact ⟨y0, y1, y2, y3, k0, k1, k2, k3⟩ | exact ⟨X9.some y0, X9.some y1, X9.some y2, X9.some y3, X9.some k0, X9.some k1, X9.some k2, X9.some k3⟩
     refine wpAnyH_take (i := 0) (oi := ⟨some 53, .move (.tmp 9), 22, "law.go:29", #[], none⟩) (v := ?_) rfl (by kernel_rfl) (by kernel_rfl) (by kernel_rfl) (fun _ _ _ h => h) (Or.inl ⟨by rfl, ?_⟩) (by assumption) ?_
     rotate_left
     · intro w hSw; (try dsimp only at hSw); first | (go_simp; done) | (go_simp; with_reducible rfl)
     try simp only [Act.put, List.setIfInBounds_toArray, List.set_cons_zero, List.set_cons_succ]
     refine wpAnyH_take (i := 1) (oi := ⟨some 54, .move (.tmp 10), 3, "law.go:29", #[], none⟩) (v := ?_) rfl (by kernel_rfl) (by kernel_rfl) (by kernel_rfl) (fun _ _ _ h => h) (Or.inl ⟨by rfl, ?_⟩) (by assumption) ?_
     rotate_left
     · intro w hSw; (try dsimp only at hSw); first | (go_simp; done) | (go_simp; with_reducible rfl)
     try simp only [Act.put, List.setIfInBounds_toArray, List.set_cons_zero, List.set_cons_succ]
     refine wpAnyH_take (i := 2) (oi := ⟨some 55, .indexAddr 22 (.tmp 53) (.tmp 54), 0, "law.go:29", #[⟨0, .data⟩, ⟨1, .data⟩], none⟩) (v := ?_) rfl (by kernel_rfl) (by kernel_rfl) (by kernel_rfl) (fun _ _ _ h => h) (Or.inl ⟨by rfl, ?_⟩) (by assumption) ?_
     rotate_left
     · intro w hSw; (try dsimp only at hSw); first | (go_simp; done) | (go_simp; with_reducible rfl)
     try simp only [Act.put, List.setIfInBounds_toArray, List.set_cons_zero, List.set_cons_succ]
     refine wpAnyH_take (i := 3) (oi := ⟨some 56, .load 33 (.tmp 55), 33, "law.go:29", #[⟨2, .data⟩], none⟩) (v := ?_) rfl (by kernel_rfl) (by kernel_rfl) (by kernel_rfl) (fun _ _ _ h => h) (Or.inl ⟨by rfl, ?_⟩) (by assumption) ?_
     rotate_left
     · intro w hSw; (try dsimp only at hSw); first | (go_simp; done) | (go_simp; with_reducible rfl)
     try simp only [Act.put, List.setIfInBounds_toArray, List.set_cons_zero, List.set_cons_succ]
     refine wpAnyH_take (i := 4) (oi := ⟨some 57, .move (.tmp 0), 22, "law.go:29", #[], none⟩) (v := ?_) rfl (by kernel_rfl) (by kernel_rfl) (by kernel_rfl) (fun _ _ _ h => h) (Or.inl ⟨by rfl, ?_⟩) (by assumption) ?_
     rotate_left
     · intro w hSw; (try dsimp only at hSw); first | (go_simp; done) | (go_simp; with_reducible rfl)
     try simp only [Act.put, List.setIfInBounds_toArray, List.set_cons_zero, List.set_cons_succ]
     refine wpAnyH_take (i := 5) (oi := ⟨some 58, .move (.tmp 10), 3, "law.go:29", #[], none⟩) (v := ?_) rfl (by kernel_rfl) (by kernel_rfl) (by kernel_rfl) (fun _ _ _ h => h) (Or.inl ⟨by rfl, ?_⟩) (by assumption) ?_
     rotate_left
     · intro w hSw; (try dsimp only at hSw); first | (go_simp; done) | (go_simp; with_reducible rfl)
     try simp only [Act.put, List.setIfInBounds_toArray, List.set_cons_zero, List.set_cons_succ]
     refine wpAnyH_take (i := 6) (oi := ⟨some 59, .indexAddr 22 (.tmp 57) (.tmp 58), 0, "law.go:29", #[⟨4, .data⟩, ⟨5, .data⟩], none⟩) (v := ?_) rfl (by kernel_rfl) (by kernel_rfl) (by kernel_rfl) (fun _ _ _ h => h) (Or.inl ⟨by rfl, ?_⟩) (by assumption) ?_
     rotate_left
     · intro w hSw; (try dsimp only at hSw); first | (go_simp; done) | (go_simp; with_reducible rfl)
     try simp only [Act.put, List.setIfInBounds_toArray, List.set_cons_zero, List.set_cons_succ]
     refine wpAnyH_take (i := 7) (oi := ⟨some 60, .load 33 (.tmp 59), 33, "law.go:29", #[⟨6, .data⟩], none⟩) (v := ?_) rfl (by kernel_rfl) (by kernel_rfl) (by kernel_rfl) (fun _ _ _ h => h) (Or.inl ⟨by rfl, ?_⟩) (by assumption) ?_
     rotate_left
     · intro w hSw; (try dsimp only at hSw); first | (go_simp; done) | (go_simp; with_reducible rfl)
     try simp only [Act.put, List.setIfInBounds_toArray, List.set_cons_zero, List.set_cons_succ]
     refine wpAnyH_take (i := 8) (oi := ⟨some 61, .move (.tmp 1), 4, "law.go:29", #[], none⟩) (v := ?_) rfl (by kernel_rfl) (by kernel_rfl) (by kernel_rfl) (fun _ _ _ h => h) (Or.inl ⟨by rfl, ?_⟩) (by assumption) ?_
     rotate_left
     · intro w hSw; (try dsimp only at hSw); first | (go_simp; done) | (go_simp; with_reducible rfl)
     try simp only [Act.put, List.setIfInBounds_toArray, List.set_cons_zero, List.set_cons_succ]
     refine wpAnyH_ready (rs := [9]) (by kernel_rfl) (by simp) ?_
     refine AllReadyH.cons (o := ⟨some 62, .call { callee := .value (.func 12), args := #[.tmp 60, .tmp 61], argTypes := #[33, 4] }, 33, "law.go:29", #[⟨7, .data⟩, ⟨8, .data⟩], none⟩) rfl (fun K hK => ?_) AllReadyH.nil
     go_simp
     refine (cA _).mono ?_; rintro r8 w8 ⟨rfl, Y8⟩; have X9 : Ext wr w8 := (Ext.refl _).drew.trans Y8
     try go_wp2_with fail
     refine hK.out _ _ ?_ (fun hHeld1 => ?_)
     · (try dsimp only); first | exact ⟨y0, y1, y2, y3, k0, k1, k2, k3⟩ | exact ⟨X9.some y0, X9.some y1, X9.some y2, X9.some y3, X9.some k0, X9.some k1, X9.some k2, X9.some k3⟩
     clear hK K hHeld0
     try simp only [Act.put, List.setIfInBounds_toArray, List.set_cons_zero, List.set_cons_succ]
     refine wpAnyH_take (i := 10) (oi := ⟨some 63, .binOp .neq 33 (.tmp 56) (.tmp 62) 33, 4, "law.go:29", #[⟨3, .data⟩, ⟨9, .data⟩], none⟩) (v := ?_) rfl (by kernel_rfl) (by kernel_rfl) (by kernel_rfl) (fun _ _ _ h => h) (Or.inl ⟨by rfl, ?_⟩) (by assumption) ?_
     rotate_left
     · intro w hSw; (try dsimp only at hSw); first | (go_simp; done) | (go_simp; with_reducible rfl)
     try simp only [Act.put, List.setIfInBounds_toArray, List.set_cons_zero, List.set_cons_succ]
     refine wpAnyH_done (by kernel_rfl) ?_ _
     have Z1 : Hid (Ext w w8) := HE.out.trans X9
     have Z4 : Hid (Ext w7 w8) := HE4.out.trans X9
     clear X9 Y8 hltI hltL y0 y1 y2 y3 k0 k1 k2 k3 cA
     try clear hHeld1
     try clear hHeld0
     have wk := WK.out
     go_wp2_with fail
     go_roundw
     case rel => exact ⟨j + 1, by go_num, HJ.out, Z1.out, Z4.out⟩
     case measure => exact meas_lt (congrArg _ WK.out) HJ.out
   · have hltI : ¬ (j : Int) < (n7 : Int) := by omega
     clear hj hlt
     go_wp2_with fail
     refine (cL _ HE.out).mono ?_
     rintro r9 w9 ⟨rfl, Y9⟩
     have X9 : Ext w w9 := Ext.trans HE.out Y9
     clear Y9
     go_wp2_with fail
     go_ret
     exact ⟨rfl, X9⟩
theorem laidOut : laidOutB Tryd.prog = true := by kernel_rfl
set_option maxRecDepth 100000 in
theorem contract (H : Type) (enc : TypeId × Value → H) (W : World) (base : Nat) (args : Array Value) (ds gs : List (DataW H)) (before : List MemPlace)
   (hval0 : ∀ (j : Nat) t v, Tryd.f3.params[j]? = some t → args[j]? = some v → Value.okWide Tryd.prog W .any base t v)
   (hW : DataW.Whole enc Tryd.prog Tryd.f3.params.toList Rows.columnOfSpec.vars false W args.toList ds gs before) (hsz0 : (DataW.weightsEach Tryd.prog (Tryd.f3.params.toList ++ (OpenSpec.ofChange Rows.columnOfSpec).bare.plain.varTypes Tryd.prog) (ds ++ gs)).all (· ≤ reachBytes) = true) (hL : laidMetH Tryd.prog Rows.columnOfRow.laid W) :
   Calls Tryd.prog 3 args W fun e W' => ∃ v, e = .returned v ∧ Rows.columnOfSpec.post enc Tryd.prog Tryd.f3 false true false false W args v W' := by
 have hval := hval0
 have hW' := hW
 obtain ⟨p, q, hA0, hV, rfl, hfz, hnd⟩ := hW'
 have hA : DataW.TrodAll enc Tryd.prog W 0 (fun _ => true) true Tryd.f3.params.toList args.toList ds p := hA0
 rw [Tryd.params3] at hA hval
 obtain ⟨v0, vs0, d0, ds0, p0, q0, hargs, rfl, rfl, h0, r0⟩ := trodAll_cons hA
 obtain ⟨v1, vs1, d1, ds1, p1, q1, rfl, rfl, rfl, h1, r1⟩ := trodAll_cons r0
 obtain ⟨rfl, rfl, rfl⟩ := trodAll_nil r1
 obtain rfl : args = #[v0, v1] := by cases args; simp_all
 obtain ⟨rfl, rfl⟩ := trodVars_none hV
 have j0 := h0
 have lt0 : ∀ x ∈ p0, x.block < W.heap.size := by obtain ⟨m, hm⟩ := j0; exact DataW.trod_lt m _ _ _ hm
 obtain ⟨pp0, ln0, cl0, rfl⟩ := okWide_slice Tryd.underlying22 (hval 0 22 v0 rfl rfl)
 obtain ⟨l0, rd0, vi0, vm0⟩ : ∃ l, RdV W.heap.size W (.slice pp0 ln0 cl0) l ∧ (∀ r ∈ l, I64 r.n) ∧ l.length ≤ maxLen := by
   obtain ⟨fuel, hf⟩ := h0
   exact open_vals hf
 have hr0 : l0.length * 40 ≤ reachBytes := by
   obtain ⟨fuel, hf⟩ := j0
   exact vals_len40 hf rd0 (fun n hn => by
     have := List.all_eq_true.1 hsz0 n (DataW.weights_mem_each (j := 0) (t := 22) rfl rfl n hn)
     simpa using this)
 obtain ⟨a1, rfl, rfl, rfl⟩ := open_bool Tryd.underlying4 (hval 1 4 v1 rfl rfl) h1
 clear hA0 hval0 hsz0
 refine (walk l0 pp0 ln0 cl0 a1 W rd0 vi0 hr0 (nm_ofC hL)).mono fun e W' ⟨he, bel⟩ => ?_
 subst he
 exact ⟨_, rfl, _, _, _, [], _, [], hW, trodAll_mk1 (shut_bool Tryd.underlying4 _), (trodAll_cons_mk (Below.trod laidOut (by kernel_rfl) (of_decide_eq_true (by kernel_rfl)) j0 bel lt0) (trodAll_cons_mk (shut_bool Tryd.underlying4 _) trodAll_mk0)), rfl, Below.frame bel _, fun h => by cases h⟩

theorem laid_met (os : Os) : laidMet Tryd.prog Rows.columnOfRow.laid ((laidWorldC os).forCall (fun _ _ => 0) ⟨#[], #[.slice none 0 0, .bool false], []⟩).memory :=
 laidMet_of_run' 8 (by kernel_rfl) (by kernel_rfl)
theorem reads (os : Os) {H : Type} (enc : TypeId × Value → H) : ∃ places, DataW.whole enc Tryd.prog ((laidWorldC os).forCall (fun _ _ => 0) ⟨#[], #[.slice none 0 0, .bool false], []⟩).memory Tryd.f3.params.toList Rows.columnOfSpec.vars false (#[.slice none 0 0, .bool false] : Array Value).toList 8 = some ([.nil, .lit (.bool false)], [], places) :=
 ⟨[], by kernel_rfl⟩

set_option maxRecDepth 100000 in
theorem lifted (os : Os) (started : os.Started) (H : Type) (enc : TypeId × Value → H) (F : Stop.Interp) :
   ReturnsInHanded {} Tryd.checked os 3 .any ((OpenSpec.ofChange Rows.columnOfSpec).preRow enc Tryd.prog Tryd.f3 Rows.columnOfRow.domain false Rows.columnOfRow.laid) (((OpenSpec.ofChange Rows.columnOfSpec).at F).post enc Tryd.prog Tryd.f3 false true false false) := by
 obtain ⟨places, hx⟩ := reads os enc
 refine returnsInHanded_of_row (C := Tryd.checked) (s := OpenSpec.ofChange Rows.columnOfSpec) ownK started (by kernel_rfl) Tryd.func3
   (witness_row_at (enc := enc) (C := Tryd.checked) false (laidWorldC os) #[.slice none 0 0, .bool false] rfl (by kernel_rfl) (by kernel_rfl) (by kernel_rfl)
     (OpenSpec.preRow_of_cond 8 hx (by kernel_rfl) (fun k hk => by cases hk) (by kernel_rfl) (by
       rw [MakeChecks.laidMetH_plain _ _ _ (by kernel_rfl)]
       exact laid_met os))) ?_
 intro W base args ds gs before hval hW _ _ hsz hL _ _
 exact contract H enc W base args ds gs before hval hW hsz hL

theorem said : Rows.ColumnOfSaid :=
 OpenClaim.holds_of_cond 3 Tryd.f3 rfl rfl rfl rfl rfl rfl rfl ⟨rfl, rfl, rfl, rfl, rfl⟩ rfl rfl rfl rfl rfl (by kernel_rfl) Tryd.func3 (by kernel_rfl)
   (of_decide_eq_true (by kernel_rfl)) (by unfold Func.isWrapper; first | (rw [if_pos (by decide +kernel)]; kernel_rfl) | (rw [if_neg (by decide +kernel)]; exact ⟨rfl, rfl⟩))
   (fun os started H enc _ F => by rw [OpenClaim.pre_eq_preRow]; exact lifted os started H enc F)

theorem plain (f : FuncId) (fn : Func) (hf : Tryd.pinned.checked.prog.funcNamed Rows.columnOfRow.func = some f) (hfn : Tryd.pinned.checked.prog.funcs[f]? = some fn) :
   false = Tryd.pinned.checked.prog.looks [] ∧ ∀ (j : Nat) t, fn.params[j]? = some t → Tryd.pinned.checked.prog.wantsStandIn t = false := by
 obtain rfl : f = 3 := Option.some.inj ((show Tryd.prog.funcNamed Rows.columnOfRow.func = some 3 by kernel_rfl).symm.trans hf) |>.symm
 obtain rfl : fn = Tryd.f3 := (Option.some.inj (Tryd.func3.symm.trans hfn)).symm
 refine ⟨by kernel_rfl, fun j t ht => ?_⟩
 rw [Tryd.params3] at ht
 have hm : t ∈ [22, 4] := by simpa using Array.mem_of_getElem? ht
 have hall : ([22, 4].all fun u => !Tryd.prog.wantsStandIn u) = true := by kernel_rfl
 exact (show Tryd.prog.wantsStandIn t = false by simpa using List.all_eq_true.1 hall t hm)

theorem card : Rows.ColumnOfCardSaid :=
 Claim7.holds_tied_plain_at .later [] _ _ _ _ said (fun _ h => by cases h) (by kernel_rfl) (fun _ h => by cases h) columnOf_row_tie rfl ⟨rfl, rfl⟩ (by kernel_rfl) rfl plain (by kernel_rfl)
end Go.Proofs.YteaoeichgibgiaaDoor.columnOf
namespace Go.Proofs.YteaoeichgibgiaaDoor
theorem columnOf_card : Rows.ColumnOfCardSaid := columnOf.card
end Go.Proofs.YteaoeichgibgiaaDoor
