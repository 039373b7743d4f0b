/-
 ColumnCuts is proved: what is cut out of a column is as the document's words have it, and both parts, joined, are it. Its condition: the listed variables lie as the program's text lays them (the card ties them).
-/
import Derived.Test.YteaoeichgibgiaaDoorZ9
import Derived.Test.YteaoeichgibgiaaDoorZ11
import Derived.Test.YteaoeichgibgiaaDoorCards
import Derived.Test.YteaoeichgibgiaaDoorTie
import Derived.ChangeMaps5
import Derived.Lib.SmallJoins
namespace Go.Proofs.YteaoeichgibgiaaDoor.columnCuts
open Go.ChangeShapes Go.WideShapes Go.ChangeAt Go.RowKit
open Go.Joins
set_option maxHeartbeats 4000000

theorem cut_join {L : List Int} {t n : Nat} (h1 : t ≤ n) (h2 : L.length = n) : cut L 0 t ++ cut L t n = L := by
 unfold cut
 rw [List.drop_zero, Nat.sub_zero]
 have : (L.drop t).take (n - t) = L.drop t := List.take_of_length_le (by rw [List.length_drop]; omega)
 rw [this, List.take_append_drop]
set_option maxRecDepth 100000 in
theorem walk (a0 b0 : Value) (N0 E0 : List Int) (x y : Int) (w : World) (ra0 : RdI w a0 N0) (rb0 : RdI w b0 E0) (sa0 : N0.length * 8 ≤ reachBytes) (sb0 : E0.length * 8 ≤ reachBytes) (_wx : (Lit.int .i64 x).wf = true) (_wy : (Lit.int .i64 y).wf = true) (hN : Nm w) :
   Calls Tryd.prog 5 #[.agg #[a0, b0], .int .i64 x, .int .i64 y] w fun e w' => e = .returned (.bool true) ∧ Ext w w' := by
 clear _wx _wy
 unfold reachBytes at sa0 sb0
 have cO0 := fun W (e : Ext w W) => own19_any W a0 b0 N0 E0 (ra0.ext e) (rb0.ext e) (by omega) (by omega)
 have cS0 := fun W u v B (e : Ext w W) (h : VecO B W u v N0 E0) => vslice_all W u v N0 E0 x y (hN.ext e) h.z1 h.z2
 have cK0 := fun W (e : Ext w W) => rccan_any W a0 b0 N0 E0 (ra0.ext e) (rb0.ext e)
 have cL := fun W (e : Ext w W) => lives19_any W (hN.ext e)
 have cSl0 := fun W u v B (f t : Nat) (e : Ext w W) (h : VecO B W u v N0 E0) (hc : canC N0 E0 = true) (h1 : f ≤ t) (h2 : t ≤ N0.length) => vslice_ok W u v N0 E0 f t (hN.ext e) h.z1 h.z2 hc h1 h2
 obtain ⟨SN, hSN⟩ : ∃ L, sCol N0 N0 E0 x y = L := ⟨_, rfl⟩
 obtain ⟨SE, hSE⟩ : ∃ L, sCol E0 N0 E0 x y = L := ⟨_, rfl⟩
 obtain ⟨er, her⟩ : ∃ L, sErr N0 E0 x y = L := ⟨_, rfl⟩
 obtain ⟨la, hla⟩ : ∃ L, SN.length = L := ⟨_, rfl⟩
 obtain ⟨lb, hlb⟩ : ∃ L, SE.length = L := ⟨_, rfl⟩
 rw [hSN, hSE, her] at cS0
 have HC : Hid (sCol N0 N0 E0 x y = SN ∧ sCol E0 N0 E0 x y = SE ∧ sErr N0 E0 x y = er ∧ SN.length = la ∧ SE.length = lb) := ⟨hSN, hSE, her, hla, hlb⟩
 clear hSN hSE her hla hlb
 obtain ⟨p0, c0, rfl, hz⟩ := ra0.form
 clear hz
 obtain ⟨q0, d0, rfl, hz⟩ := rb0.form
 clear hz
 obtain ⟨n0, e1⟩ : ∃ n, N0.length = n := ⟨_, rfl⟩
 obtain ⟨m0, e2⟩ : ∃ n, E0.length = n := ⟨_, rfl⟩
 rw [e1] at ra0 cO0 cK0 sa0 cSl0
 rw [e2] at rb0 cO0 cK0 sb0
 rw [e1, e2]
 have HL : Hid (N0.length = n0 ∧ E0.length = m0 ∧ n0 * 8 ≤ 140737488351232 ∧ m0 * 8 ≤ 140737488351232) := ⟨e1, e2, sa0, sb0⟩
 have RA0 : Hid (RdI w (.slice p0 n0 c0) N0) := ra0
 have RB0 : Hid (RdI w (.slice q0 m0 d0) E0) := rb0
 have HN : Hid (Nm w) := hN
 clear ra0 rb0 sa0 sb0 e1 e2 hN
 obtain ⟨W1, hW⟩ : ∃ W1, w.alloc (.cells #[.slice p0 n0 c0, .slice q0 m0 d0] 26) = W1 := ⟨_, rfl⟩
 have HW : Hid (w.alloc (.cells #[.slice p0 n0 c0, .slice q0 m0 d0] 26) = W1) := hW
 have HX : Hid (Ext w W1) := by rw [← hW]; exact (Ext.refl _).alloc _
 have V0 : Hid (VB W1 w.heap.size (.slice p0 n0 c0) (.slice q0 m0 d0)) := by rw [← hW]; exact vb_top rfl (Ext.refl _)
 have HS : Hid (∀ V, Ext W1 V → V.cell? ⟨w.heap.size, 0, none⟩ = some (.slice p0 n0 c0) ∧ V.cell? ⟨w.heap.size, 1, none⟩ = some (.slice q0 m0 d0)) := fun V e => ⟨(V0.out.ext e).blk.2.1.1, (V0.out.ext e).blk.2.1.2⟩
 clear hW
 go_enter Tryd.func5, Tryd.ntmps5
 go_wp2_with fail
 rw [HW.out]
 refine (cO0 _ HX.out).mono ?_
 rintro r1 w1 ⟨u1, v1, rfl, O1, Y1⟩
 have X1 : Hid (Ext W1 w1) := Y1
 clear Y1
 go_wp2_with fail
 refine (cS0 _ _ _ _ (HX.out.trans X1.out) O1).mono ?_
 rintro r2 w2 ⟨u2, v2, rfl, O2, Y2⟩
 obtain ⟨p4, c4, hu4, hz4⟩ := own_form O2.1
 obtain ⟨q4, d4, hv4, hz5⟩ := own_form O2.2
 rw [HC.out.2.2.2.1] at hu4
 rw [HC.out.2.2.2.2] at hv4
 subst hu4 hv4
 have O2h : Hid (VecO w1.heap.size w2 (.slice p4 la c4) (.slice q4 lb d4) SN SE) := O2
 have X2 : Hid (Ext W1 w2) := X1.out.trans Y2
 clear Y2 O1 O2 X1 cS0 hz4 hz5
 have V7 : VB (w2.alloc (.cells #[.slice p4 la c4, .slice q4 lb d4] 26)) w2.heap.size (.slice p4 la c4) (.slice q4 lb d4) := vb_top rfl (Ext.refl _)
 have X2a : Hid (Ext W1 (w2.alloc (.cells #[.slice p4 la c4, .slice q4 lb d4] 26))) := X2.out.alloc _
 have O2a : Hid (VecO w1.heap.size (w2.alloc (.cells #[.slice p4 la c4, .slice q4 lb d4] 26)) (.slice p4 la c4) (.slice q4 lb d4) SN SE) := O2h.out.ext ((Ext.refl _).alloc _)
 go_upto_region 2 with fail
 generalize w2.alloc (.cells #[.slice p4 la c4, .slice q4 lb d4] 26) = w2b at *
 generalize w2.heap.size = g7 at *
 have V7h : Hid (VB w2b g7 (.slice p4 la c4) (.slice q4 lb d4)) := V7
 clear V7 X2 O2h
 obtain ⟨k0, k1⟩ := HS.out _ X2a.out
 go_wp2_with fail
 refine (cK0 _ (HX.out.trans X2a.out)).mono ?_
 rintro r3 w3 ⟨rfl, Y3⟩
 have X3a : Hid (Ext W1 w3) := X2a.out.trans Y3
 have X3 : Hid (Ext w w3) := HX.out.trans X3a.out
 have V8 : Hid (VB w3 g7 (.slice p4 la c4) (.slice q4 lb d4)) := V7h.out.ext Y3
 have O3 : Hid (VecO w1.heap.size w3 (.slice p4 la c4) (.slice q4 lb d4) SN SE) := O2a.out.ext Y3
 clear k0 k1 Y3 cK0 X2a O2a V7h
 obtain ⟨k0, k1⟩ := HS.out _ X3a.out
 obtain ⟨_, ⟨y0, y1⟩, f0, f1⟩ := V8.out.blk
 clear f0 f1
 cases hc : canC N0 E0
 · have hno : slcB N0 E0 x y = false := by unfold slcB; rw [hc]; rfl
   have he : er = 1 := by rw [← HC.out.2.2.1]; unfold sErr; rw [hno]; rfl
   have hl : la = 0 := by rw [← HC.out.2.2.2.1, ← HC.out.1]; unfold sCol; rw [hno]; rfl
   have hl2 : lb = 0 := by rw [← HC.out.2.2.2.2, ← HC.out.2.1]; unfold sCol; rw [hno]; rfl
   subst he hl hl2
   clear hno
   go_wp2_with fail
   refine (cL _ X3.out).mono ?_
   rintro r9 w9 ⟨rfl, Y9⟩
   have X9 : Ext w w9 := X3.out.trans Y9
   clear Y9
   go_wp2_with fail
   go_ret
   exact ⟨rfl, X9⟩
 · by_cases h1 : x < 0
   · have hno : slcB N0 E0 x y = false := by unfold slcB; simp [h1]
     have d1 : decide (x < 0) = true := by simp [h1]
     have he : er = 1 := by rw [← HC.out.2.2.1]; unfold sErr; rw [hno]; rfl
     have hl : la = 0 := by rw [← HC.out.2.2.2.1, ← HC.out.1]; unfold sCol; rw [hno]; rfl
     have hl2 : lb = 0 := by rw [← HC.out.2.2.2.2, ← HC.out.2.1]; unfold sCol; rw [hno]; rfl
     subst he hl hl2
     clear hno
     go_wp2_with fail
     refine (cL _ X3.out).mono ?_
     rintro r9 w9 ⟨rfl, Y9⟩
     have X9 : Ext w w9 := X3.out.trans Y9
     clear Y9
     go_wp2_with fail
     go_ret
     exact ⟨rfl, X9⟩
   · have d1 : decide (x < 0) = false := by simp [h1]
     by_cases h2 : y < x
     · have hno : slcB N0 E0 x y = false := by unfold slcB; simp [show x > y from h2]
       have d2 : decide (y < x) = true := by simp [h2]
       have he : er = 1 := by rw [← HC.out.2.2.1]; unfold sErr; rw [hno]; rfl
       have hl : la = 0 := by rw [← HC.out.2.2.2.1, ← HC.out.1]; unfold sCol; rw [hno]; rfl
       have hl2 : lb = 0 := by rw [← HC.out.2.2.2.2, ← HC.out.2.1]; unfold sCol; rw [hno]; rfl
       subst he hl hl2
       clear hno
       go_wp2_with fail
       refine (cL _ X3.out).mono ?_
       rintro r9 w9 ⟨rfl, Y9⟩
       have X9 : Ext w w9 := X3.out.trans Y9
       clear Y9
       go_wp2_with fail
       go_ret
       exact ⟨rfl, X9⟩
     · have d2 : decide (y < x) = false := by simp [h2]
       by_cases h3 : y > (n0 : Int)
       · have hno : slcB N0 E0 x y = false := by unfold slcB; simp [HL.out.1, h3]
         have d3 : decide (y > (n0 : Int)) = true := by simp [h3]
         have he : er = 1 := by rw [← HC.out.2.2.1]; unfold sErr; rw [hno]; rfl
         have hl : la = 0 := by rw [← HC.out.2.2.2.1, ← HC.out.1]; unfold sCol; rw [hno]; rfl
         have hl2 : lb = 0 := by rw [← HC.out.2.2.2.2, ← HC.out.2.1]; unfold sCol; rw [hno]; rfl
         subst he hl hl2
         clear hno
         go_wp2_with fail
         refine (cL _ X3.out).mono ?_
         rintro r9 w9 ⟨rfl, Y9⟩
         have X9 : Ext w w9 := X3.out.trans Y9
         clear Y9
         go_wp2_with fail
         go_ret
         exact ⟨rfl, X9⟩
       · have d3 : decide (y > (n0 : Int)) = false := by simp [h3]
         have hyes : slcB N0 E0 x y = true := by unfold slcB; rw [hc, HL.out.1]; simp [h1, h3]; omega
         obtain ⟨l1, l2, hz⟩ := (canC_iff N0 E0).1 hc
         obtain ⟨f, hf⟩ : ∃ f : Nat, x = (f : Int) := ⟨x.toNat, by omega⟩
         obtain ⟨t, ht⟩ : ∃ t : Nat, y = (t : Int) := ⟨y.toNat, by omega⟩
         subst hf ht
         have HT : Hid (f ≤ t ∧ t ≤ n0 ∧ n0 ≤ 1000 ∧ m0 = n0) := ⟨by omega, by omega, by have := HL.out; omega, by have := HL.out; omega⟩
         have hSN : SN = cut N0 f t := by rw [← HC.out.1]; unfold sCol; rw [hyes]; rfl
         have hSE : SE = cut E0 f t := by rw [← HC.out.2.1]; unfold sCol; rw [hyes]; rfl
         have her : er = 0 := by rw [← HC.out.2.2.1]; unfold sErr; rw [hyes]; rfl
         have hcc : canC N0 E0 = true := hc
         subst her
         have hn0 : ¬ ((f : Int) < 0) := by omega
         have hn1 : ¬ t < f := by omega
         have hn2 : ¬ n0 < t := by omega
         clear hz l1 l2 hyes h1 h2 h3 d1 d2 d3
         go_upto_region 4 with fail
         clear hn0 hn1 hn2 y0 y1 k0 k1
         try (rename (0 : Int) ≤ (f : Int) => hq0; clear hq0)
         have hl1 : la = t - f := by rw [← HC.out.2.2.2.1, hSN]; exact cut_len HT.out.1 (by have := HL.out; have := HT.out; omega)
         have hl2 : lb = t - f := by rw [← HC.out.2.2.2.2, hSE]; exact cut_len HT.out.1 (by have := HL.out; have := HT.out; omega)
         obtain ⟨P1, hr1, ra1, hz1⟩ := cut_rd dltL RA0.out f t HT.out.1 HT.out.2.1
         obtain ⟨P2, hr2, rb1, hz2⟩ := cut_rd dltI RB0.out f t HT.out.1 (by have := HT.out; omega)
         have RA1 : Hid (RdI w (.slice P1 (t - f) (c0 - f)) (cut N0 f t)) := ra1
         have RB1 : Hid (RdI w (.slice P2 (t - f) (d0 - f)) (cut E0 f t)) := rb1
         have cS := fun W (e : Ext w3 W) => rcsame_any W (.slice p4 la c4) (.slice q4 lb d4) (.slice P1 (t - f) (c0 - f)) (.slice P2 (t - f) (d0 - f)) SN SE (cut N0 f t) (cut E0 f t) (O3.out.ext e).rd1 (O3.out.ext e).rd2 (RA1.out.ext (X3.out.trans e)) (RB1.out.ext (X3.out.trans e)) (by rw [HC.out.2.2.2.1, hl1]; have := HT.out; unfold maxLen; omega) (by rw [HC.out.2.2.2.2, hl2]; have := HT.out; unfold maxLen; omega)
         rw [show (decide (SN = cut N0 f t) && decide (SE = cut E0 f t)) = true by rw [hSN, hSE]; simp] at cS
         have HB : Hid (∀ V, Ext w3 V → V.cell? ⟨w.heap.size, 0, none⟩ = some (.slice p0 n0 c0) ∧ V.cell? ⟨w.heap.size, 1, none⟩ = some (.slice q0 m0 d0) ∧ V.cell? ⟨g7, 0, none⟩ = some (.slice p4 la c4) ∧ V.cell? ⟨g7, 1, none⟩ = some (.slice q4 lb d4)) := fun V e => ⟨(HS.out _ (X3a.out.trans e)).1, (HS.out _ (X3a.out.trans e)).2, (V8.out.ext e).blk.2.1.1, (V8.out.ext e).blk.2.1.2⟩
         have HI0 : Hid ((f : Int) ≤ (t : Int) ∧ (t : Int) ≤ (n0 : Int)) := ⟨by have := HT.out; omega, by have := HT.out; omega⟩
         clear hl1 hl2 ra1 rb1 hz1 hz2 hSN hSE hc
         have hm0 : m0 = n0 := HT.out.2.2.2
         subst hm0
         go_cut [76] (fun x wx => x = .bool false ∧ Ext w3 wx)
         case first =>
           have XD : Ext w3 w3.drew := (Ext.refl _).drew
           refine wp_region_held_drew (S := fun V => V.cell? ⟨w.heap.size, 0, none⟩ = some (.slice p0 m0 c0) ∧ V.cell? ⟨w.heap.size, 1, none⟩ = some (.slice q0 m0 d0) ∧ V.cell? ⟨g7, 0, none⟩ = some (.slice p4 la c4) ∧ V.cell? ⟨g7, 1, none⟩ = some (.slice q4 lb d4)) (by kernel_rfl) ?_ (fun hHeld0 => ?_)
           · exact HB.out _ XD
           refine wpAnyH_take (i := 0) (oi := ⟨some 59, .move (.tmp 8), 39, "law.go:63", #[], none⟩) (v := ?_) rfl (by kernel_rfl) (by kernel_rfl) (by kernel_rfl) (fun _ _ _ h => h) (Or.inl ⟨by rfl, ?_⟩) (by assumption) ?_
           rotate_left
           · intro w hSw; (try dsimp only at hSw); first | (go_simp; done) | (go_simp; with_reducible rfl)
           try simp only [Act.put, List.setIfInBounds_toArray, List.set_cons_zero, List.set_cons_succ]
           refine wpAnyH_take (i := 1) (oi := ⟨some 60, .binOp .neq 39 (.tmp 59) (.const (.int .i64 0)) 39, 4, "law.go:63", #[⟨0, .data⟩], none⟩) (v := ?_) rfl (by kernel_rfl) (by kernel_rfl) (by kernel_rfl) (fun _ _ _ h => h) (Or.inl ⟨by rfl, ?_⟩) (by assumption) ?_
           rotate_left
           · intro w hSw; (try dsimp only at hSw); first | (go_simp; done) | (go_simp; with_reducible rfl)
           try simp only [Act.put, List.setIfInBounds_toArray, List.set_cons_zero, List.set_cons_succ]
           refine wpAnyH_take (i := 2) (oi := ⟨some 61, .move (.tmp 60), 4, "law.go:63", #[⟨1, .data⟩], none⟩) (v := ?_) rfl (by kernel_rfl) (by kernel_rfl) (by kernel_rfl) (fun _ _ _ h => h) (Or.inl ⟨by rfl, ?_⟩) (by assumption) ?_
           rotate_left
           · intro w hSw; (try dsimp only at hSw); first | (go_simp; done) | (go_simp; with_reducible rfl)
           try simp only [Act.put, List.setIfInBounds_toArray, List.set_cons_zero, List.set_cons_succ]
           refine wpAnyH_take (i := 3) (oi := ⟨some 62, .load 26 (.tmp 7), 26, "law.go:63", #[⟨2, .guard⟩], some (2, false)⟩) (v := ?_) rfl (by kernel_rfl) (by kernel_rfl) (by kernel_rfl) (fun _ _ _ h => h) (Or.inl ⟨by rfl, ?_⟩) (by assumption) ?_
           rotate_left
           · intro w hSw; (try dsimp only at hSw); first | (go_simp; done) | (go_simp; with_reducible rfl)
           try simp only [Act.put, List.setIfInBounds_toArray, List.set_cons_zero, List.set_cons_succ]
           refine wpAnyH_take (i := 4) (oi := ⟨some 63, .fieldAddr 26 (.tmp 3) 0, 0, "law.go:63", #[⟨2, .guard⟩], some (2, false)⟩) (v := ?_) rfl (by kernel_rfl) (by kernel_rfl) (by kernel_rfl) (fun _ _ _ h => h) (Or.inl ⟨by rfl, ?_⟩) (by assumption) ?_
           rotate_left
           · intro w hSw; (try dsimp only at hSw); first | (go_simp; done) | (go_simp; with_reducible rfl)
           try simp only [Act.put, List.setIfInBounds_toArray, List.set_cons_zero, List.set_cons_succ]
           refine wpAnyH_take (i := 5) (oi := ⟨some 64, .load 23 (.tmp 63), 23, "law.go:63", #[⟨4, .data⟩, ⟨2, .guard⟩], some (2, false)⟩) (v := ?_) rfl (by kernel_rfl) (by kernel_rfl) (by kernel_rfl) (fun _ _ _ h => h) (Or.inl ⟨by rfl, ?_⟩) (by assumption) ?_
           rotate_left
           · intro w hSw; (try dsimp only at hSw); first | (go_simp; done) | (go_simp; with_reducible rfl)
           try simp only [Act.put, List.setIfInBounds_toArray, List.set_cons_zero, List.set_cons_succ]
           refine wpAnyH_take (i := 6) (oi := ⟨some 65, .move (.tmp 1), 3, "law.go:63", #[⟨2, .guard⟩], some (2, false)⟩) (v := ?_) rfl (by kernel_rfl) (by kernel_rfl) (by kernel_rfl) (fun _ _ _ h => h) (Or.inl ⟨by rfl, ?_⟩) (by assumption) ?_
           rotate_left
           · intro w hSw; (try dsimp only at hSw); first | (go_simp; done) | (go_simp; with_reducible rfl)
           try simp only [Act.put, List.setIfInBounds_toArray, List.set_cons_zero, List.set_cons_succ]
           refine wpAnyH_take (i := 7) (oi := ⟨some 66, .move (.tmp 2), 3, "law.go:63", #[⟨2, .guard⟩], some (2, false)⟩) (v := ?_) rfl (by kernel_rfl) (by kernel_rfl) (by kernel_rfl) (fun _ _ _ h => h) (Or.inl ⟨by rfl, ?_⟩) (by assumption) ?_
           rotate_left
           · intro w hSw; (try dsimp only at hSw); first | (go_simp; done) | (go_simp; with_reducible rfl)
           try simp only [Act.put, List.setIfInBounds_toArray, List.set_cons_zero, List.set_cons_succ]
           refine wpAnyH_take (i := 8) (oi := ⟨some 67, .slice 23 (.tmp 64) (some (.tmp 65)) (some (.tmp 66)) none, 23, "law.go:63", #[⟨5, .data⟩, ⟨6, .data⟩, ⟨7, .data⟩, ⟨2, .guard⟩], some (2, false)⟩) (v := ?_) rfl (by kernel_rfl) (by kernel_rfl) (by kernel_rfl) (fun _ _ _ h => h) (Or.inl ⟨by rfl, ?_⟩) (by assumption) ?_
           rotate_left
           · intro w hSw; (try dsimp only at hSw); first | (go_simp; done) | (go_simp; with_reducible rfl)
           try simp only [Act.put, List.setIfInBounds_toArray, List.set_cons_zero, List.set_cons_succ]
           refine wpAnyH_take (i := 9) (oi := ⟨some 68, .fieldAddr 26 (.tmp 3) 1, 0, "law.go:63", #[⟨2, .guard⟩], some (2, false)⟩) (v := ?_) rfl (by kernel_rfl) (by kernel_rfl) (by kernel_rfl) (fun _ _ _ h => h) (Or.inl ⟨by rfl, ?_⟩) (by assumption) ?_
           rotate_left
           · intro w hSw; (try dsimp only at hSw); first | (go_simp; done) | (go_simp; with_reducible rfl)
           try simp only [Act.put, List.setIfInBounds_toArray, List.set_cons_zero, List.set_cons_succ]
           refine wpAnyH_take (i := 10) (oi := ⟨some 69, .load 24 (.tmp 68), 24, "law.go:63", #[⟨9, .data⟩, ⟨2, .guard⟩], some (2, false)⟩) (v := ?_) rfl (by kernel_rfl) (by kernel_rfl) (by kernel_rfl) (fun _ _ _ h => h) (Or.inl ⟨by rfl, ?_⟩) (by assumption) ?_
           rotate_left
           · intro w hSw; (try dsimp only at hSw); first | (go_simp; done) | (go_simp; with_reducible rfl)
           try simp only [Act.put, List.setIfInBounds_toArray, List.set_cons_zero, List.set_cons_succ]
           refine wpAnyH_take (i := 11) (oi := ⟨some 70, .move (.tmp 1), 3, "law.go:63", #[⟨2, .guard⟩], some (2, false)⟩) (v := ?_) rfl (by kernel_rfl) (by kernel_rfl) (by kernel_rfl) (fun _ _ _ h => h) (Or.inl ⟨by rfl, ?_⟩) (by assumption) ?_
           rotate_left
           · intro w hSw; (try dsimp only at hSw); first | (go_simp; done) | (go_simp; with_reducible rfl)
           try simp only [Act.put, List.setIfInBounds_toArray, List.set_cons_zero, List.set_cons_succ]
           refine wpAnyH_take (i := 12) (oi := ⟨some 71, .move (.tmp 2), 3, "law.go:63", #[⟨2, .guard⟩], some (2, false)⟩) (v := ?_) rfl (by kernel_rfl) (by kernel_rfl) (by kernel_rfl) (fun _ _ _ h => h) (Or.inl ⟨by rfl, ?_⟩) (by assumption) ?_
           rotate_left
           · intro w hSw; (try dsimp only at hSw); first | (go_simp; done) | (go_simp; with_reducible rfl)
           try simp only [Act.put, List.setIfInBounds_toArray, List.set_cons_zero, List.set_cons_succ]
           refine wpAnyH_take (i := 13) (oi := ⟨some 72, .slice 24 (.tmp 69) (some (.tmp 70)) (some (.tmp 71)) none, 24, "law.go:63", #[⟨10, .data⟩, ⟨11, .data⟩, ⟨12, .data⟩, ⟨2, .guard⟩], some (2, false)⟩) (v := ?_) rfl (by kernel_rfl) (by kernel_rfl) (by kernel_rfl) (fun _ _ _ h => h) (Or.inl ⟨by rfl, ?_⟩) (by assumption) ?_
           rotate_left
           · intro w hSw; (try dsimp only at hSw); first | (go_simp; done) | (go_simp; with_reducible rfl)
           try simp only [Act.put, List.setIfInBounds_toArray, List.set_cons_zero, List.set_cons_succ]
           refine wpAnyH_take (i := 14) (oi := ⟨some 73, .build 26 #[(0, .tmp 67), (1, .tmp 72)], 26, "law.go:63", #[⟨8, .data⟩, ⟨13, .data⟩, ⟨2, .guard⟩], some (2, false)⟩) (v := ?_) rfl (by kernel_rfl) (by kernel_rfl) (by kernel_rfl) (fun _ _ _ h => h) (Or.inl ⟨by rfl, ?_⟩) (by assumption) ?_
           rotate_left
           · intro w hSw; (try dsimp only at hSw); first | (go_simp; done) | (go_simp; with_reducible rfl)
           try simp only [Act.put, List.setIfInBounds_toArray, List.set_cons_zero, List.set_cons_succ]
           refine wpAnyH_ready (rs := [15]) (by kernel_rfl) (by simp) ?_
           refine AllReadyH.cons (o := ⟨some 74, .call { callee := .value (.func 9), args := #[.tmp 62, .tmp 73], argTypes := #[26, 26] }, 4, "law.go:63", #[⟨3, .data⟩, ⟨14, .data⟩, ⟨2, .chain⟩, ⟨2, .guard⟩], some (2, false)⟩) rfl (fun K hK => ?_) AllReadyH.nil
           go_simp
           refine (cS _ XD).mono ?_; rintro r4 w4 ⟨rfl, Y4⟩; have XD := Ext.trans XD Y4
           try go_wp2_with fail
           refine hK.out _ _ ?_ (fun hHeld1 => ?_)
           · (try dsimp only); exact HB.out _ XD
           clear hK K hHeld0
           try simp only [Act.put, List.setIfInBounds_toArray, List.set_cons_zero, List.set_cons_succ]
           refine wpAnyH_take (i := 16) (oi := ⟨some 75, .unOp .not 4 (.tmp 74), 4, "law.go:63", #[⟨15, .data⟩, ⟨2, .guard⟩], some (2, false)⟩) (v := ?_) rfl (by kernel_rfl) (by kernel_rfl) (by kernel_rfl) (fun _ _ _ h => h) (Or.inl ⟨by rfl, ?_⟩) (by assumption) ?_
           rotate_left
           · intro w hSw; (try dsimp only at hSw); first | (go_simp; done) | (go_simp; with_reducible rfl)
           try simp only [Act.put, List.setIfInBounds_toArray, List.set_cons_zero, List.set_cons_succ]
           refine wpAnyH_take (i := 17) (oi := ⟨some 76, .pick (.tmp 61) (.const (.bool true)) (.tmp 75), 4, "law.go:63", #[⟨2, .data⟩, ⟨16, .data⟩], none⟩) (v := ?_) rfl (by kernel_rfl) (by kernel_rfl) (by kernel_rfl) (fun _ _ _ h => h) (Or.inl ⟨by rfl, ?_⟩) (by assumption) ?_
           rotate_left
           · intro w hSw; (try dsimp only at hSw); first | (go_simp; done) | (go_simp; with_reducible rfl)
           try simp only [Act.put, List.setIfInBounds_toArray, List.set_cons_zero, List.set_cons_succ]
           refine wpAnyH_done (by kernel_rfl) ?_ _
           go_wp2_with fail
           go_meet
           case rel => exact ⟨rfl, XD⟩
         case rest =>
           rename World => wd
           obtain ⟨rfl, hE4⟩ := hcut
           have X4 : Hid (Ext W1 wd) := X3a.out.trans hE4
           clear hE4 hr1 hr2 cS HB O3 V8 X3a X3
           have cSl := fun W u v B (f t : Nat) (e : Ext w W) (h : VecO B W u v N0 E0) (h1 : f ≤ t) (h2 : t ≤ m0) => cSl0 W u v B f t e h hcc h1 h2
           have hca := canC_cut hcc 0 (t - 0)
           have hcb := canC_cut hcc t (m0 - t)
           have cJ := fun W a b c d B1 B2 (e : Ext w W) (h1 : VecO B1 W a b (cut N0 0 t) (cut E0 0 t)) (h2 : VecO B2 W c d (cut N0 t m0) (cut E0 t m0)) => vjoin_ok W a b c d (cut N0 0 t) (cut E0 0 t) (cut N0 t m0) (cut E0 t m0) (HN.out.ext e) h1.z1 h1.z2 h2.rd1 h2.rd2 hca hcb (by rw [cut_len (Nat.zero_le _) (by have := HL.out; have := HT.out; omega), cut_len HT.out.2.1 (by have := HL.out; omega)]; have := HT.out; omega)
           rw [cut_join HT.out.2.1 HL.out.1, cut_join HT.out.2.1 HL.out.2.1] at cJ
           have HT1 : Hid ((cut N0 0 t).length = t ∧ (cut E0 0 t).length = t) := ⟨by rw [cut_len (Nat.zero_le _) (by have := HL.out; have := HT.out; omega)]; rfl, by rw [cut_len (Nat.zero_le _) (by have := HL.out; have := HT.out; omega)]; rfl⟩
           have HT2 : Hid ((cut N0 t m0).length = m0 - t ∧ (cut E0 t m0).length = m0 - t) := ⟨cut_len HT.out.2.1 (by have := HL.out; omega), cut_len HT.out.2.1 (by have := HL.out; omega)⟩
           have HCA : Hid (canC N0 E0 = true) := hcc
           clear hca hcb hcc cSl0
           obtain ⟨k0, k1⟩ := HS.out _ X4.out
           go_wp2_with fail
           refine (cO0 _ (HX.out.trans X4.out)).mono ?_
           rintro r5 w5 ⟨u5, v5, rfl, O5, Y5⟩
           have X5 : Hid (Ext W1 w5) := X4.out.trans Y5
           clear Y5 k0 k1 X4
           go_wp2_with fail
           refine (cSl _ _ _ _ 0 t (HX.out.trans X5.out) O5 (Nat.zero_le _) HT.out.2.1).mono ?_
           rintro r6 w6 ⟨u6, v6, rfl, O6, Y6⟩
           obtain ⟨p6, c6, hu6, hz6⟩ := own_form O6.1
           obtain ⟨q6, d6, hv6, hz7⟩ := own_form O6.2
           rw [HT1.out.1] at hu6
           rw [HT1.out.2] at hv6
           subst hu6 hv6
           have X6b : Hid (Ext W1 w6) := X5.out.trans Y6
           have V9 : VB (w6.alloc (.cells #[.slice p6 t c6, .slice q6 t d6] 26)) w6.heap.size (.slice p6 t c6) (.slice q6 t d6) := vb_top rfl (Ext.refl _)
           have X6 : Hid (Ext W1 (w6.alloc (.cells #[.slice p6 t c6, .slice q6 t d6] 26))) := X6b.out.alloc _
           have O6a : Hid (VecO w5.heap.size (w6.alloc (.cells #[.slice p6 t c6, .slice q6 t d6] 26)) (.slice p6 t c6) (.slice q6 t d6) (cut N0 0 t) (cut E0 0 t)) := O6.ext ((Ext.refl _).alloc _)
           clear O5 Y6 O6 X5 hz6 hz7 X6b
           go_upto_region 7 with fail
           generalize w6.alloc (.cells #[.slice p6 t c6, .slice q6 t d6] 26) = W6 at *
           generalize w6.heap.size = g9 at *
           have V9h : Hid (VB W6 g9 (.slice p6 t c6) (.slice q6 t d6)) := V9
           clear V9
           go_cut [11, 12] (fun x11 x12 wx => ∃ g p8 c8 q8 d8, x11 = .pointer (some ⟨g, 0, none⟩) ∧ x12 = .int .i64 0 ∧ Ext W6 wx ∧ W6.heap.size ≤ g ∧ VB wx g (.slice p8 (m0 - t) c8) (.slice q8 (m0 - t) d8) ∧ VecO w.heap.size wx (.slice p8 (m0 - t) c8) (.slice q8 (m0 - t) d8) (cut N0 t m0) (cut E0 t m0))
           case first =>
             have XC : Ext W6 W6.drew := (Ext.refl _).drew
             refine wp_region_held_drew (S := fun V => V.cell? ⟨w.heap.size, 0, none⟩ = some (.slice p0 m0 c0) ∧ V.cell? ⟨w.heap.size, 1, none⟩ = some (.slice q0 m0 d0)) (by kernel_rfl) ?_ (fun hHeld0 => ?_)
             · first | exact HS.out _ (X6.out.trans XC) | exact HS.out _ (X6.out.trans XS)
             refine wpAnyH_take (i := 0) (oi := ⟨some 85, .load 26 (.tmp 3), 26, "law.go:67", #[], none⟩) (v := ?_) rfl (by kernel_rfl) (by kernel_rfl) (by kernel_rfl) (fun _ _ _ h => h) (Or.inl ⟨by rfl, ?_⟩) (by assumption) ?_
             rotate_left
             · intro w hSw; (try dsimp only at hSw); first | (go_simp; done) | (go_simp; with_reducible rfl)
             try simp only [Act.put, List.setIfInBounds_toArray, List.set_cons_zero, List.set_cons_succ]
             refine wpAnyH_take (i := 2) (oi := ⟨some 87, .move (.tmp 2), 3, "law.go:67", #[], none⟩) (v := ?_) rfl (by kernel_rfl) (by kernel_rfl) (by kernel_rfl) (fun _ _ _ h => h) (Or.inl ⟨by rfl, ?_⟩) (by assumption) ?_
             rotate_left
             · intro w hSw; (try dsimp only at hSw); first | (go_simp; done) | (go_simp; with_reducible rfl)
             try simp only [Act.put, List.setIfInBounds_toArray, List.set_cons_zero, List.set_cons_succ]
             refine wpAnyH_take (i := 3) (oi := ⟨some 88, .fieldAddr 26 (.tmp 3) 0, 0, "law.go:67", #[], none⟩) (v := ?_) rfl (by kernel_rfl) (by kernel_rfl) (by kernel_rfl) (fun _ _ _ h => h) (Or.inl ⟨by rfl, ?_⟩) (by assumption) ?_
             rotate_left
             · intro w hSw; (try dsimp only at hSw); first | (go_simp; done) | (go_simp; with_reducible rfl)
             try simp only [Act.put, List.setIfInBounds_toArray, List.set_cons_zero, List.set_cons_succ]
             refine wpAnyH_take (i := 4) (oi := ⟨some 89, .load 23 (.tmp 88), 23, "law.go:67", #[⟨3, .data⟩], none⟩) (v := ?_) rfl (by kernel_rfl) (by kernel_rfl) (by kernel_rfl) (fun _ _ _ h => h) (Or.inl ⟨by rfl, ?_⟩) (by assumption) ?_
             rotate_left
             · intro w hSw; (try dsimp only at hSw); first | (go_simp; done) | (go_simp; with_reducible rfl)
             try simp only [Act.put, List.setIfInBounds_toArray, List.set_cons_zero, List.set_cons_succ]
             refine wpAnyH_take (i := 5) (oi := ⟨some 90, .call { callee := .builtin .len, args := #[.tmp 89], argTypes := #[23] }, 3, "law.go:67", #[⟨4, .data⟩], none⟩) (v := ?_) rfl (by kernel_rfl) (by kernel_rfl) (by kernel_rfl) (fun _ _ _ h => h) (Or.inl ⟨by rfl, ?_⟩) (by assumption) ?_
             rotate_left
             · intro w hSw; (try dsimp only at hSw); first | (go_simp; done) | (go_simp; with_reducible rfl)
             try simp only [Act.put, List.setIfInBounds_toArray, List.set_cons_zero, List.set_cons_succ]
             refine wpAnyH_ready (rs := [1, 10]) (by kernel_rfl) (by simp) ?_
             refine AllReadyH.cons (o := ⟨some 86, .call { callee := .value (.func 14), args := #[.tmp 85], argTypes := #[26] }, 26, "law.go:67", #[⟨0, .data⟩], none⟩) rfl (fun K hK => ?_) (AllReadyH.cons (o := ⟨some 11, .alloc 26, 0, "law.go:67", #[], none⟩) rfl (fun K hK => ?_) AllReadyH.nil)
             · go_simp
               have XO := XC; refine (cO0 _ (HX.out.trans (X6.out.trans XC))).mono ?_; rintro r7 w7 ⟨u7, v7, rfl, O7, Y7⟩; have XC := XC.trans Y7
               try go_wp2_with fail
               refine hK.out _ _ ?_ (fun hHeld1 => ?_)
               · (try dsimp only); first | exact HS.out _ (X6.out.trans XC) | exact HS.out _ (X6.out.trans XS)
               clear hK K hHeld0
               try simp only [Act.put, List.setIfInBounds_toArray, List.set_cons_zero, List.set_cons_succ]
               refine wpAnyH_ready (rs := [6, 10]) (by kernel_rfl) (by simp) ?_
               refine AllReadyH.cons (o := ⟨some 91, .call { callee := .value (.func 17), args := #[.tmp 86, .tmp 87, .tmp 90], argTypes := #[26, 3, 3] }, 40, "law.go:67", #[⟨1, .data⟩, ⟨2, .data⟩, ⟨5, .data⟩, ⟨1, .chain⟩], none⟩) rfl (fun K hK => ?_) (AllReadyH.cons (o := ⟨some 11, .alloc 26, 0, "law.go:67", #[], none⟩) rfl (fun K hK => ?_) AllReadyH.nil)
               · go_simp
                 have XO := XC; refine (cSl _ _ _ _ t m0 (HX.out.trans (X6.out.trans XC)) O7 (by have := HT.out; omega) (Nat.le_refl _)).mono ?_; rintro r8 w8 ⟨u8, v8, rfl, O8, Y8⟩; have XC := XC.trans Y8; have O8 := VecO.low O8 (Nat.le_trans (HX.out.trans X6.out).size XO.size); obtain ⟨p8, c8, hu8, hz4⟩ := own_form O8.1; obtain ⟨q8, d8, hv8, hz5⟩ := own_form O8.2; rw [HT2.out.1] at hu8; rw [HT2.out.2] at hv8; subst hu8 hv8; clear O7 hz4 hz5
                 try go_wp2_with fail
                 refine hK.out _ _ ?_ (fun hHeld2 => ?_)
                 · (try dsimp only); first | exact HS.out _ (X6.out.trans XC) | exact HS.out _ (X6.out.trans XS)
                 clear hK K hHeld1
                 try simp only [Act.put, List.setIfInBounds_toArray, List.set_cons_zero, List.set_cons_succ]
                 refine wpAnyH_take (i := 7) (oi := ⟨some 84, .move (.tmp 91), 40, "law.go:67", #[⟨6, .data⟩], none⟩) (v := ?_) rfl (by kernel_rfl) (by kernel_rfl) (by kernel_rfl) (fun _ _ _ h => h) (Or.inl ⟨by rfl, ?_⟩) (by assumption) ?_
                 rotate_left
                 · intro w hSw; (try dsimp only at hSw); first | (go_simp; done) | (go_simp; with_reducible rfl)
                 try simp only [Act.put, List.setIfInBounds_toArray, List.set_cons_zero, List.set_cons_succ]
                 refine wpAnyH_take (i := 8) (oi := ⟨some 92, .extract (.tmp 84) 0, 26, "law.go:67", #[⟨7, .data⟩], none⟩) (v := ?_) rfl (by kernel_rfl) (by kernel_rfl) (by kernel_rfl) (fun _ _ _ h => h) (Or.inl ⟨by rfl, ?_⟩) (by assumption) ?_
                 rotate_left
                 · intro w hSw; (try dsimp only at hSw); first | (go_simp; done) | (go_simp; with_reducible rfl)
                 try simp only [Act.put, List.setIfInBounds_toArray, List.set_cons_zero, List.set_cons_succ]
                 refine wpAnyH_take (i := 9) (oi := ⟨some 93, .extract (.tmp 84) 1, 39, "law.go:67", #[⟨7, .data⟩, { on := 11, ground := Ground.gcOnly Departure.lateStores }], none⟩) (v := ?_) rfl (by kernel_rfl) (by kernel_rfl) (by kernel_rfl) (fun _ _ _ h => h) (Or.inl ⟨by rfl, ?_⟩) (by assumption) ?_
                 rotate_left
                 · intro w hSw; (try dsimp only at hSw); first | (go_simp; done) | (go_simp; with_reducible rfl)
                 try simp only [Act.put, List.setIfInBounds_toArray, List.set_cons_zero, List.set_cons_succ]
                 refine wpAnyH_ready (rs := [10]) (by kernel_rfl) (by simp) ?_
                 refine AllReadyH.cons (o := ⟨some 11, .alloc 26, 0, "law.go:67", #[], none⟩) rfl (fun K hK => ?_) AllReadyH.nil
                 go_simp
                 have hg8 : W6.heap.size ≤ (w8).heap.size := XC.size; have T8 : VB ((w8).alloc (.cells #[.slice none 0 0, .slice none 0 0] 26)) (w8).heap.size (.slice none 0 0) (.slice none 0 0) := vb_top rfl (Ext.refl _); have Y9 : Ext (w8) ((w8).alloc (.cells #[.slice none 0 0, .slice none 0 0] 26)) := (Ext.refl _).alloc _; have XC := Ext.trans XC Y9; have O8 := VecO.ext O8 Y9; generalize (w8).alloc (.cells #[.slice none 0 0, .slice none 0 0] 26) = wz at *; generalize (w8).heap.size = g8 at *; obtain ⟨_, ⟨t0, t1⟩, tf0, tf1⟩ := T8.blk
                 try go_wp2_with fail
                 refine hK.out _ _ ?_ (fun hHeld3 => ?_)
                 · (try dsimp only); first | exact HS.out _ (X6.out.trans XC) | exact HS.out _ (X6.out.trans XS)
                 clear hK K hHeld2
                 try simp only [Act.put, List.setIfInBounds_toArray, List.set_cons_zero, List.set_cons_succ]
                 refine wpAnyH_ready (rs := [11]) (by kernel_rfl) (by simp) ?_
                 refine AllReadyH.cons (o := ⟨none, .store 26 (.tmp 11) (.tmp 92), 0, "law.go:67", #[⟨10, .data⟩, ⟨8, .data⟩, ⟨6, .chain⟩, ⟨0, .phase⟩, ⟨1, .phase⟩, ⟨2, .phase⟩, ⟨3, .phase⟩, ⟨4, .phase⟩, ⟨5, .phase⟩, ⟨6, .phase⟩, ⟨7, .phase⟩, ⟨8, .phase⟩, { on := 9, ground := Ground.textOnly Departure.lateStores }, ⟨10, .phase⟩], none⟩) rfl (fun K hK => ?_) AllReadyH.nil
                 go_simp
                 have XS := (XC.setCell (p := ⟨g8, 0, none⟩) hg8 (.slice p8 (m0 - t) c8)).setCell (p := ⟨g8, 1, none⟩) hg8 (.slice q8 (m0 - t) d8)
                 try go_wp2_with fail
                 refine hK.out _ _ ?_ (fun hHeld4 => ?_)
                 · (try dsimp only); first | exact HS.out _ (X6.out.trans XC) | exact HS.out _ (X6.out.trans XS)
                 clear hK K hHeld3
                 try simp only [Act.put, List.setIfInBounds_toArray, List.set_cons_zero, List.set_cons_succ]
                 refine wpAnyH_take (i := 12) (oi := ⟨some 12, .assign (.tmp 93), 39, "law.go:67", #[⟨9, .data⟩, ⟨11, .chain⟩, ⟨0, .phase⟩, ⟨1, .phase⟩, ⟨2, .phase⟩, ⟨3, .phase⟩, ⟨4, .phase⟩, ⟨5, .phase⟩, ⟨6, .phase⟩, ⟨7, .phase⟩, ⟨8, .phase⟩, ⟨9, .phase⟩, ⟨10, .phase⟩, ⟨11, .phase⟩], none⟩) (v := ?_) rfl (by kernel_rfl) (by kernel_rfl) (by kernel_rfl) (fun _ _ _ h => h) (Or.inl ⟨by rfl, ?_⟩) (by assumption) ?_
                 rotate_left
                 · intro w hSw; (try dsimp only at hSw); first | (go_simp; done) | (go_simp; with_reducible rfl)
                 try simp only [Act.put, List.setIfInBounds_toArray, List.set_cons_zero, List.set_cons_succ]
                 refine wpAnyH_done (by kernel_rfl) ?_ _
                 have L9 : VB ((wz.setCell ⟨g8, 0, none⟩ (.slice p8 (m0 - t) c8)).setCell ⟨g8, 1, none⟩ (.slice q8 (m0 - t) d8)) g8 (.slice p8 (m0 - t) c8) (.slice q8 (m0 - t) d8) := T8.set _ _
                 have O9 : VecO w.heap.size ((wz.setCell ⟨g8, 0, none⟩ (.slice p8 (m0 - t) c8)).setCell ⟨g8, 1, none⟩ (.slice q8 (m0 - t) d8)) (.slice p8 (m0 - t) c8) (.slice q8 (m0 - t) d8) (cut N0 t m0) (cut E0 t m0) := ⟨own_vb O8.1 T8 vec_T.1 _ _, own_vb O8.2 T8 vec_T.2 _ _⟩
                 go_wp2_with fail
                 go_meet
                 case rel => exact ⟨g8, _, _, _, _, rfl, rfl, XS, hg8, L9, O9⟩
               · go_simp
                 have hg8 : W6.heap.size ≤ (w7).heap.size := XC.size; have T8 : VB ((w7).alloc (.cells #[.slice none 0 0, .slice none 0 0] 26)) (w7).heap.size (.slice none 0 0) (.slice none 0 0) := vb_top rfl (Ext.refl _); have Y9 : Ext (w7) ((w7).alloc (.cells #[.slice none 0 0, .slice none 0 0] 26)) := (Ext.refl _).alloc _; have XC := Ext.trans XC Y9; have O7 := VecO.ext O7 Y9; generalize (w7).alloc (.cells #[.slice none 0 0, .slice none 0 0] 26) = wa at *; generalize (w7).heap.size = g8 at *
                 try go_wp2_with fail
                 refine hK.out _ _ ?_ (fun hHeld2 => ?_)
                 · (try dsimp only); first | exact HS.out _ (X6.out.trans XC) | exact HS.out _ (X6.out.trans XS)
                 clear hK K hHeld1
                 try simp only [Act.put, List.setIfInBounds_toArray, List.set_cons_zero, List.set_cons_succ]
                 refine wpAnyH_ready (rs := [6]) (by kernel_rfl) (by simp) ?_
                 refine AllReadyH.cons (o := ⟨some 91, .call { callee := .value (.func 17), args := #[.tmp 86, .tmp 87, .tmp 90], argTypes := #[26, 3, 3] }, 40, "law.go:67", #[⟨1, .data⟩, ⟨2, .data⟩, ⟨5, .data⟩, ⟨1, .chain⟩], none⟩) rfl (fun K hK => ?_) AllReadyH.nil
                 go_simp
                 have XO := XC; refine (cSl _ _ _ _ t m0 (HX.out.trans (X6.out.trans XC)) O7 (by have := HT.out; omega) (Nat.le_refl _)).mono ?_; rintro r8 wz ⟨u8, v8, rfl, O8, Y8⟩; have XC := XC.trans Y8; have T8 := VB.ext T8 Y8; have O8 := VecO.low O8 (Nat.le_trans (HX.out.trans X6.out).size XO.size); obtain ⟨p8, c8, hu8, hz4⟩ := own_form O8.1; obtain ⟨q8, d8, hv8, hz5⟩ := own_form O8.2; rw [HT2.out.1] at hu8; rw [HT2.out.2] at hv8; subst hu8 hv8; clear O7 hz4 hz5; obtain ⟨_, ⟨t0, t1⟩, tf0, tf1⟩ := T8.blk
                 try go_wp2_with fail
                 refine hK.out _ _ ?_ (fun hHeld3 => ?_)
                 · (try dsimp only); first | exact HS.out _ (X6.out.trans XC) | exact HS.out _ (X6.out.trans XS)
                 clear hK K hHeld2
                 try simp only [Act.put, List.setIfInBounds_toArray, List.set_cons_zero, List.set_cons_succ]
                 refine wpAnyH_take (i := 7) (oi := ⟨some 84, .move (.tmp 91), 40, "law.go:67", #[⟨6, .data⟩], none⟩) (v := ?_) rfl (by kernel_rfl) (by kernel_rfl) (by kernel_rfl) (fun _ _ _ h => h) (Or.inl ⟨by rfl, ?_⟩) (by assumption) ?_
                 rotate_left
                 · intro w hSw; (try dsimp only at hSw); first | (go_simp; done) | (go_simp; with_reducible rfl)
                 try simp only [Act.put, List.setIfInBounds_toArray, List.set_cons_zero, List.set_cons_succ]
                 refine wpAnyH_take (i := 8) (oi := ⟨some 92, .extract (.tmp 84) 0, 26, "law.go:67", #[⟨7, .data⟩], none⟩) (v := ?_) rfl (by kernel_rfl) (by kernel_rfl) (by kernel_rfl) (fun _ _ _ h => h) (Or.inl ⟨by rfl, ?_⟩) (by assumption) ?_
                 rotate_left
                 · intro w hSw; (try dsimp only at hSw); first | (go_simp; done) | (go_simp; with_reducible rfl)
                 try simp only [Act.put, List.setIfInBounds_toArray, List.set_cons_zero, List.set_cons_succ]
                 refine wpAnyH_take (i := 9) (oi := ⟨some 93, .extract (.tmp 84) 1, 39, "law.go:67", #[⟨7, .data⟩, { on := 11, ground := Ground.gcOnly Departure.lateStores }], none⟩) (v := ?_) rfl (by kernel_rfl) (by kernel_rfl) (by kernel_rfl) (fun _ _ _ h => h) (Or.inl ⟨by rfl, ?_⟩) (by assumption) ?_
                 rotate_left
                 · intro w hSw; (try dsimp only at hSw); first | (go_simp; done) | (go_simp; with_reducible rfl)
                 try simp only [Act.put, List.setIfInBounds_toArray, List.set_cons_zero, List.set_cons_succ]
                 refine wpAnyH_ready (rs := [11]) (by kernel_rfl) (by simp) ?_
                 refine AllReadyH.cons (o := ⟨none, .store 26 (.tmp 11) (.tmp 92), 0, "law.go:67", #[⟨10, .data⟩, ⟨8, .data⟩, ⟨6, .chain⟩, ⟨0, .phase⟩, ⟨1, .phase⟩, ⟨2, .phase⟩, ⟨3, .phase⟩, ⟨4, .phase⟩, ⟨5, .phase⟩, ⟨6, .phase⟩, ⟨7, .phase⟩, ⟨8, .phase⟩, { on := 9, ground := Ground.textOnly Departure.lateStores }, ⟨10, .phase⟩], none⟩) rfl (fun K hK => ?_) AllReadyH.nil
                 go_simp
                 have XS := (XC.setCell (p := ⟨g8, 0, none⟩) hg8 (.slice p8 (m0 - t) c8)).setCell (p := ⟨g8, 1, none⟩) hg8 (.slice q8 (m0 - t) d8)
                 try go_wp2_with fail
                 refine hK.out _ _ ?_ (fun hHeld4 => ?_)
                 · (try dsimp only); first | exact HS.out _ (X6.out.trans XC) | exact HS.out _ (X6.out.trans XS)
                 clear hK K hHeld3
                 try simp only [Act.put, List.setIfInBounds_toArray, List.set_cons_zero, List.set_cons_succ]
                 refine wpAnyH_take (i := 12) (oi := ⟨some 12, .assign (.tmp 93), 39, "law.go:67", #[⟨9, .data⟩, ⟨11, .chain⟩, ⟨0, .phase⟩, ⟨1, .phase⟩, ⟨2, .phase⟩, ⟨3, .phase⟩, ⟨4, .phase⟩, ⟨5, .phase⟩, ⟨6, .phase⟩, ⟨7, .phase⟩, ⟨8, .phase⟩, ⟨9, .phase⟩, ⟨10, .phase⟩, ⟨11, .phase⟩], none⟩) (v := ?_) rfl (by kernel_rfl) (by kernel_rfl) (by kernel_rfl) (fun _ _ _ h => h) (Or.inl ⟨by rfl, ?_⟩) (by assumption) ?_
                 rotate_left
                 · intro w hSw; (try dsimp only at hSw); first | (go_simp; done) | (go_simp; with_reducible rfl)
                 try simp only [Act.put, List.setIfInBounds_toArray, List.set_cons_zero, List.set_cons_succ]
                 refine wpAnyH_done (by kernel_rfl) ?_ _
                 have L9 : VB ((wz.setCell ⟨g8, 0, none⟩ (.slice p8 (m0 - t) c8)).setCell ⟨g8, 1, none⟩ (.slice q8 (m0 - t) d8)) g8 (.slice p8 (m0 - t) c8) (.slice q8 (m0 - t) d8) := T8.set _ _
                 have O9 : VecO w.heap.size ((wz.setCell ⟨g8, 0, none⟩ (.slice p8 (m0 - t) c8)).setCell ⟨g8, 1, none⟩ (.slice q8 (m0 - t) d8)) (.slice p8 (m0 - t) c8) (.slice q8 (m0 - t) d8) (cut N0 t m0) (cut E0 t m0) := ⟨own_vb O8.1 T8 vec_T.1 _ _, own_vb O8.2 T8 vec_T.2 _ _⟩
                 go_wp2_with fail
                 go_meet
                 case rel => exact ⟨g8, _, _, _, _, rfl, rfl, XS, hg8, L9, O9⟩
             · go_simp
               have hg8 : W6.heap.size ≤ W6.heap.size := Nat.le_refl _; have T8 : VB ((W6.alloc (.cells #[.slice none 0 0, .slice none 0 0] 26)).drew) W6.heap.size (.slice none 0 0) (.slice none 0 0) := vb_top rfl (Ext.refl _).drew; have XC : Ext W6 ((W6.alloc (.cells #[.slice none 0 0, .slice none 0 0] 26)).drew) := ((Ext.refl _).alloc _).drew; generalize (W6.alloc (.cells #[.slice none 0 0, .slice none 0 0] 26)).drew = wa at *; obtain ⟨g8, hgg⟩ : ∃ g, W6.heap.size = g := ⟨_, rfl⟩; replace hg8 : W6.heap.size ≤ g8 := Nat.le_of_eq hgg; rw [hgg] at T8; rw [hgg]; clear hgg
               try go_wp2_with fail
               refine hK.out _ _ ?_ (fun hHeld1 => ?_)
               · (try dsimp only); first | exact HS.out _ (X6.out.trans XC) | exact HS.out _ (X6.out.trans XS)
               clear hK K hHeld0
               try simp only [Act.put, List.setIfInBounds_toArray, List.set_cons_zero, List.set_cons_succ]
               refine wpAnyH_ready (rs := [1]) (by kernel_rfl) (by simp) ?_
               refine AllReadyH.cons (o := ⟨some 86, .call { callee := .value (.func 14), args := #[.tmp 85], argTypes := #[26] }, 26, "law.go:67", #[⟨0, .data⟩], none⟩) rfl (fun K hK => ?_) AllReadyH.nil
               go_simp
               have XO := XC; refine (cO0 _ (HX.out.trans (X6.out.trans XC))).mono ?_; rintro r7 w7 ⟨u7, v7, rfl, O7, Y7⟩; have XC := XC.trans Y7; have T8 := VB.ext T8 Y7
               try go_wp2_with fail
               refine hK.out _ _ ?_ (fun hHeld2 => ?_)
               · (try dsimp only); first | exact HS.out _ (X6.out.trans XC) | exact HS.out _ (X6.out.trans XS)
               clear hK K hHeld1
               try simp only [Act.put, List.setIfInBounds_toArray, List.set_cons_zero, List.set_cons_succ]
               refine wpAnyH_ready (rs := [6]) (by kernel_rfl) (by simp) ?_
               refine AllReadyH.cons (o := ⟨some 91, .call { callee := .value (.func 17), args := #[.tmp 86, .tmp 87, .tmp 90], argTypes := #[26, 3, 3] }, 40, "law.go:67", #[⟨1, .data⟩, ⟨2, .data⟩, ⟨5, .data⟩, ⟨1, .chain⟩], none⟩) rfl (fun K hK => ?_) AllReadyH.nil
               go_simp
               have XO := XC; refine (cSl _ _ _ _ t m0 (HX.out.trans (X6.out.trans XC)) O7 (by have := HT.out; omega) (Nat.le_refl _)).mono ?_; rintro r8 wz ⟨u8, v8, rfl, O8, Y8⟩; have XC := XC.trans Y8; have T8 := VB.ext T8 Y8; have O8 := VecO.low O8 (Nat.le_trans (HX.out.trans X6.out).size XO.size); obtain ⟨p8, c8, hu8, hz4⟩ := own_form O8.1; obtain ⟨q8, d8, hv8, hz5⟩ := own_form O8.2; rw [HT2.out.1] at hu8; rw [HT2.out.2] at hv8; subst hu8 hv8; clear O7 hz4 hz5; obtain ⟨_, ⟨t0, t1⟩, tf0, tf1⟩ := T8.blk
               try go_wp2_with fail
               refine hK.out _ _ ?_ (fun hHeld3 => ?_)
               · (try dsimp only); first | exact HS.out _ (X6.out.trans XC) | exact HS.out _ (X6.out.trans XS)
               clear hK K hHeld2
               try simp only [Act.put, List.setIfInBounds_toArray, List.set_cons_zero, List.set_cons_succ]
               refine wpAnyH_take (i := 7) (oi := ⟨some 84, .move (.tmp 91), 40, "law.go:67", #[⟨6, .data⟩], none⟩) (v := ?_) rfl (by kernel_rfl) (by kernel_rfl) (by kernel_rfl) (fun _ _ _ h => h) (Or.inl ⟨by rfl, ?_⟩) (by assumption) ?_
               rotate_left
               · intro w hSw; (try dsimp only at hSw); first | (go_simp; done) | (go_simp; with_reducible rfl)
               try simp only [Act.put, List.setIfInBounds_toArray, List.set_cons_zero, List.set_cons_succ]
               refine wpAnyH_take (i := 8) (oi := ⟨some 92, .extract (.tmp 84) 0, 26, "law.go:67", #[⟨7, .data⟩], none⟩) (v := ?_) rfl (by kernel_rfl) (by kernel_rfl) (by kernel_rfl) (fun _ _ _ h => h) (Or.inl ⟨by rfl, ?_⟩) (by assumption) ?_
               rotate_left
               · intro w hSw; (try dsimp only at hSw); first | (go_simp; done) | (go_simp; with_reducible rfl)
               try simp only [Act.put, List.setIfInBounds_toArray, List.set_cons_zero, List.set_cons_succ]
               refine wpAnyH_take (i := 9) (oi := ⟨some 93, .extract (.tmp 84) 1, 39, "law.go:67", #[⟨7, .data⟩, { on := 11, ground := Ground.gcOnly Departure.lateStores }], none⟩) (v := ?_) rfl (by kernel_rfl) (by kernel_rfl) (by kernel_rfl) (fun _ _ _ h => h) (Or.inl ⟨by rfl, ?_⟩) (by assumption) ?_
               rotate_left
               · intro w hSw; (try dsimp only at hSw); first | (go_simp; done) | (go_simp; with_reducible rfl)
               try simp only [Act.put, List.setIfInBounds_toArray, List.set_cons_zero, List.set_cons_succ]
               refine wpAnyH_ready (rs := [11]) (by kernel_rfl) (by simp) ?_
               refine AllReadyH.cons (o := ⟨none, .store 26 (.tmp 11) (.tmp 92), 0, "law.go:67", #[⟨10, .data⟩, ⟨8, .data⟩, ⟨6, .chain⟩, ⟨0, .phase⟩, ⟨1, .phase⟩, ⟨2, .phase⟩, ⟨3, .phase⟩, ⟨4, .phase⟩, ⟨5, .phase⟩, ⟨6, .phase⟩, ⟨7, .phase⟩, ⟨8, .phase⟩, { on := 9, ground := Ground.textOnly Departure.lateStores }, ⟨10, .phase⟩], none⟩) rfl (fun K hK => ?_) AllReadyH.nil
               go_simp
               have XS := (XC.setCell (p := ⟨g8, 0, none⟩) hg8 (.slice p8 (m0 - t) c8)).setCell (p := ⟨g8, 1, none⟩) hg8 (.slice q8 (m0 - t) d8)
               try go_wp2_with fail
               refine hK.out _ _ ?_ (fun hHeld4 => ?_)
               · (try dsimp only); first | exact HS.out _ (X6.out.trans XC) | exact HS.out _ (X6.out.trans XS)
               clear hK K hHeld3
               try simp only [Act.put, List.setIfInBounds_toArray, List.set_cons_zero, List.set_cons_succ]
               refine wpAnyH_take (i := 12) (oi := ⟨some 12, .assign (.tmp 93), 39, "law.go:67", #[⟨9, .data⟩, ⟨11, .chain⟩, ⟨0, .phase⟩, ⟨1, .phase⟩, ⟨2, .phase⟩, ⟨3, .phase⟩, ⟨4, .phase⟩, ⟨5, .phase⟩, ⟨6, .phase⟩, ⟨7, .phase⟩, ⟨8, .phase⟩, ⟨9, .phase⟩, ⟨10, .phase⟩, ⟨11, .phase⟩], none⟩) (v := ?_) rfl (by kernel_rfl) (by kernel_rfl) (by kernel_rfl) (fun _ _ _ h => h) (Or.inl ⟨by rfl, ?_⟩) (by assumption) ?_
               rotate_left
               · intro w hSw; (try dsimp only at hSw); first | (go_simp; done) | (go_simp; with_reducible rfl)
               try simp only [Act.put, List.setIfInBounds_toArray, List.set_cons_zero, List.set_cons_succ]
               refine wpAnyH_done (by kernel_rfl) ?_ _
               have L9 : VB ((wz.setCell ⟨g8, 0, none⟩ (.slice p8 (m0 - t) c8)).setCell ⟨g8, 1, none⟩ (.slice q8 (m0 - t) d8)) g8 (.slice p8 (m0 - t) c8) (.slice q8 (m0 - t) d8) := T8.set _ _
               have O9 : VecO w.heap.size ((wz.setCell ⟨g8, 0, none⟩ (.slice p8 (m0 - t) c8)).setCell ⟨g8, 1, none⟩ (.slice q8 (m0 - t) d8)) (.slice p8 (m0 - t) c8) (.slice q8 (m0 - t) d8) (cut N0 t m0) (cut E0 t m0) := ⟨own_vb O8.1 T8 vec_T.1 _ _, own_vb O8.2 T8 vec_T.2 _ _⟩
               go_wp2_with fail
               go_meet
               case rel => exact ⟨g8, _, _, _, _, rfl, rfl, XS, hg8, L9, O9⟩
           case rest =>
             rename World => we
             obtain ⟨g, p8, c8, q8, d8, rfl, rfl, hXw, hg, hV, hO⟩ := hcut
             have X7 : Hid (Ext W1 we) := X6.out.trans hXw
             have V10 : Hid (VB we g9 (.slice p6 t c6) (.slice q6 t d6)) := V9h.out.ext hXw
             have V11 : Hid (VB we g (.slice p8 (m0 - t) c8) (.slice q8 (m0 - t) d8)) := hV
             have O10 : Hid (VecO w5.heap.size we (.slice p6 t c6) (.slice q6 t d6) (cut N0 0 t) (cut E0 0 t)) := O6a.out.ext hXw
             have O11 : Hid (VecO w.heap.size we (.slice p8 (m0 - t) c8) (.slice q8 (m0 - t) d8) (cut N0 t m0) (cut E0 t m0)) := hO
             clear hXw hg hV hO V9h O6a cO0 cSl
             obtain ⟨_, ⟨y0, y1⟩, f0, f1⟩ := V10.out.blk
             obtain ⟨_, ⟨t0, t1⟩, g0, g1⟩ := V11.out.blk
             clear f0 f1 g0 g1
             go_wp2_with fail
             refine (cJ _ _ _ _ _ _ _ (HX.out.trans X7.out) O10.out O11.out).mono ?_
             rintro r8 w8 ⟨u8, v8, rfl, O8, Y8⟩
             obtain ⟨p9, c9, hu9, hz8⟩ := own_form O8.1
             obtain ⟨q9, d9, hv9, hz9⟩ := own_form O8.2
             rw [HL.out.1] at hu9
             rw [HL.out.2.1] at hv9
             subst hu9 hv9
             have X8b : Hid (Ext W1 w8) := X7.out.trans Y8
             have V12 : VB (w8.alloc (.cells #[.slice p9 m0 c9, .slice q9 m0 d9] 26)) w8.heap.size (.slice p9 m0 c9) (.slice q9 m0 d9) := vb_top rfl (Ext.refl _)
             have X8 : Hid (Ext W1 (w8.alloc (.cells #[.slice p9 m0 c9, .slice q9 m0 d9] 26))) := X8b.out.alloc _
             have O9 : Hid (VecO we.heap.size (w8.alloc (.cells #[.slice p9 m0 c9, .slice q9 m0 d9] 26)) (.slice p9 m0 c9) (.slice q9 m0 d9) N0 E0) := O8.ext ((Ext.refl _).alloc _)
             clear O8 Y8 X7 hz8 hz9 X8b cJ y0 y1 t0 t1 V10 V11 O10 O11
             go_upto_region 9 with fail
             generalize w8.alloc (.cells #[.slice p9 m0 c9, .slice q9 m0 d9] 26) = wf at *
             generalize w8.heap.size = gf at *
             obtain ⟨_, ⟨y0, y1⟩, f0, f1⟩ := V12.blk
             obtain ⟨k0, k1⟩ := HS.out _ X8.out
             have cR := rcsame_any wf (.slice p9 m0 c9) (.slice q9 m0 d9) (.slice p0 m0 c0) (.slice q0 m0 d0) N0 E0 N0 E0 O9.out.rd1 O9.out.rd2 (RA0.out.ext (HX.out.trans X8.out)) (RB0.out.ext (HX.out.trans X8.out)) (by rw [HL.out.1]; have := HT.out; unfold maxLen; omega) (by rw [HL.out.2.1]; have := HT.out; unfold maxLen; omega)
             rw [show (decide (N0 = N0) && decide (E0 = E0)) = true by simp] at cR
             clear V12 f0 f1
             go_wp2_with fail
             refine cR.mono ?_
             rintro r9 w9 ⟨rfl, Y9⟩
             have X9 : Hid (Ext w w9) := HX.out.trans (X8.out.trans Y9)
             clear cR Y9 y0 y1 k0 k1
             go_wp2_with fail
             refine (cL _ X9.out).mono ?_
             rintro r10 w10 ⟨rfl, Y10⟩
             have X10 : Ext w w10 := X9.out.trans Y10
             clear Y10
             go_wp2_with fail
             go_ret
             exact ⟨rfl, X10⟩
theorem laidOut : laidOutB Tryd.prog = true := by kernel_rfl
set_option maxRecDepth 100000 in
theorem contract (H : Type) (enc : TypeId × Value → H) (W : World) (base : Nat) (args : Array Value) (ds gs : List (DataW H)) (before : List MemPlace)
   (hval0 : ∀ (j : Nat) t v, Tryd.f5.params[j]? = some t → args[j]? = some v → Value.okWide Tryd.prog W .any base t v)
   (hW : DataW.Whole enc Tryd.prog Tryd.f5.params.toList Rows.columnCutsSpec.vars false W args.toList ds gs before) (hsz0 : (DataW.weightsEach Tryd.prog (Tryd.f5.params.toList ++ (OpenSpec.ofChange Rows.columnCutsSpec).bare.plain.varTypes Tryd.prog) (ds ++ gs)).all (· ≤ reachBytes) = true) (hL : laidMetH Tryd.prog Rows.columnCutsRow.laid W) :
   Calls Tryd.prog 5 args W fun e W' => ∃ v, e = .returned v ∧ Rows.columnCutsSpec.post enc Tryd.prog Tryd.f5 false true false false W args v W' := by
 have hval := hval0
 have hW' := hW
 obtain ⟨p, q, hA0, hV, rfl, hfz, hnd⟩ := hW'
 have hA : DataW.TrodAll enc Tryd.prog W 0 (fun _ => true) true Tryd.f5.params.toList args.toList ds p := hA0
 rw [Tryd.params5] at hA hval
 obtain ⟨v0, vs0, d0, ds0, p0, q0, hargs, rfl, rfl, h0, r0⟩ := trodAll_cons hA
 obtain ⟨v1, vs1, d1, ds1, p1, q1, rfl, rfl, rfl, h1, r1⟩ := trodAll_cons r0
 obtain ⟨v2, vs2, d2, ds2, p2, q2, rfl, rfl, rfl, h2, r2⟩ := trodAll_cons r1
 obtain ⟨rfl, rfl, rfl⟩ := trodAll_nil r2
 obtain rfl : args = #[v0, v1, v2] := by cases args; simp_all
 obtain ⟨rfl, rfl⟩ := trodVars_none hV
 have j0 := h0
 have lt0 : ∀ x ∈ p0, x.block < W.heap.size := by obtain ⟨m, hm⟩ := j0; exact DataW.trod_lt m _ _ _ hm
 obtain ⟨cc0, ce0, yy0, yy1, m0, rfl, hd0, hp0, hy0, hy1⟩ := open_agg2 Tryd.underlying26 (by kernel_rfl) cells_vec (hval 0 26 v0 rfl rfl) h0
 obtain ⟨N0, ra0, za0⟩ := open_i64s hy0
 obtain ⟨E0, rb0, zb0⟩ := open_ints hy1
 have sa0 : N0.length * 8 ≤ reachBytes := za0 (fun n hn => by
   have := List.all_eq_true.1 hsz0 n (DataW.weights_mem_each (j := 0) (t := 26) rfl rfl n (by
     rw [hd0]
     simp only [DataW.weights, Tryd.underlying26]
     exact DataW.weights_mem_each (j := 0) rfl rfl n hn))
   simpa using this)
 have sb0 : E0.length * 8 ≤ reachBytes := zb0 (fun n hn => by
   have := List.all_eq_true.1 hsz0 n (DataW.weights_mem_each (j := 0) (t := 26) rfl rfl n (by
     rw [hd0]
     simp only [DataW.weights, Tryd.underlying26]
     exact DataW.weights_mem_each (j := 1) rfl rfl n hn))
   simpa using this)
 obtain ⟨a1, rfl, rfl, rfl, w1⟩ := open_int Tryd.underlying3 (hval 1 3 v1 rfl rfl) h1
 obtain ⟨a2, rfl, rfl, rfl, w2⟩ := open_int Tryd.underlying3 (hval 2 3 v2 rfl rfl) h2
 clear hA0 hval0 hsz0
 refine (walk cc0 ce0 N0 E0 a1 a2 W ra0 rb0 sa0 sb0 w1 w2 (nm_ofC hL)).mono fun e W' ⟨he, bel⟩ => ?_
 subst he
 exact ⟨_, rfl, _, _, _, [], _, [], hW, trodAll_mk1 (shut_bool Tryd.underlying4 _), (trodAll_cons_mk (Below.trod laidOut (by kernel_rfl) (of_decide_eq_true (by kernel_rfl)) j0 bel lt0) (trodAll_cons_mk (shut_int Tryd.underlying3 w1) (trodAll_cons_mk (shut_int Tryd.underlying3 w2) trodAll_mk0))), rfl, Below.frame bel _, fun h => by cases h⟩

theorem laid_met (os : Os) : laidMet Tryd.prog Rows.columnCutsRow.laid ((laidWorldC os).forCall (fun _ _ => 0) ⟨#[], #[.agg #[.slice none 0 0, .slice none 0 0], .int .i64 0, .int .i64 0], []⟩).memory :=
 laidMet_of_run' 8 (by kernel_rfl) (by kernel_rfl)
theorem reads (os : Os) {H : Type} (enc : TypeId × Value → H) : ∃ places, DataW.whole enc Tryd.prog ((laidWorldC os).forCall (fun _ _ => 0) ⟨#[], #[.agg #[.slice none 0 0, .slice none 0 0], .int .i64 0, .int .i64 0], []⟩).memory Tryd.f5.params.toList Rows.columnCutsSpec.vars false (#[.agg #[.slice none 0 0, .slice none 0 0], .int .i64 0, .int .i64 0] : Array Value).toList 8 = some ([.agg [.nil, .nil], .lit (.int .i64 0), .lit (.int .i64 0)], [], places) :=
 ⟨[], by kernel_rfl⟩

set_option maxRecDepth 100000 in
theorem lifted (os : Os) (started : os.Started) (H : Type) (enc : TypeId × Value → H) (F : Stop.Interp) :
   ReturnsInHanded {} Tryd.checked os 5 .any ((OpenSpec.ofChange Rows.columnCutsSpec).preRow enc Tryd.prog Tryd.f5 Rows.columnCutsRow.domain false Rows.columnCutsRow.laid) (((OpenSpec.ofChange Rows.columnCutsSpec).at F).post enc Tryd.prog Tryd.f5 false true false false) := by
 obtain ⟨places, hx⟩ := reads os enc
 refine returnsInHanded_of_row (C := Tryd.checked) (s := OpenSpec.ofChange Rows.columnCutsSpec) ownK started (by kernel_rfl) Tryd.func5
   (witness_row_at (enc := enc) (C := Tryd.checked) false (laidWorldC os) #[.agg #[.slice none 0 0, .slice none 0 0], .int .i64 0, .int .i64 0] rfl (by kernel_rfl) (by kernel_rfl) (by kernel_rfl)
     (OpenSpec.preRow_of_cond 8 hx (by kernel_rfl) (fun k hk => by cases hk) (by kernel_rfl) (by
       rw [MakeChecks.laidMetH_plain _ _ _ (by kernel_rfl)]
       exact laid_met os))) ?_
 intro W base args ds gs before hval hW _ _ hsz hL _ _
 exact contract H enc W base args ds gs before hval hW hsz hL

theorem said : Rows.ColumnCutsSaid :=
 OpenClaim.holds_of_cond 5 Tryd.f5 rfl rfl rfl rfl rfl rfl rfl ⟨rfl, rfl, rfl, rfl, rfl⟩ rfl rfl rfl rfl rfl (by kernel_rfl) Tryd.func5 (by kernel_rfl)
   (of_decide_eq_true (by kernel_rfl)) (by unfold Func.isWrapper; first | (rw [if_pos (by decide +kernel)]; kernel_rfl) | (rw [if_neg (by decide +kernel)]; exact ⟨rfl, rfl⟩))
   (fun os started H enc _ F => by rw [OpenClaim.pre_eq_preRow]; exact lifted os started H enc F)

theorem plain (f : FuncId) (fn : Func) (hf : Tryd.pinned.checked.prog.funcNamed Rows.columnCutsRow.func = some f) (hfn : Tryd.pinned.checked.prog.funcs[f]? = some fn) :
   false = Tryd.pinned.checked.prog.looks [] ∧ ∀ (j : Nat) t, fn.params[j]? = some t → Tryd.pinned.checked.prog.wantsStandIn t = false := by
 obtain rfl : f = 5 := Option.some.inj ((show Tryd.prog.funcNamed Rows.columnCutsRow.func = some 5 by kernel_rfl).symm.trans hf) |>.symm
 obtain rfl : fn = Tryd.f5 := (Option.some.inj (Tryd.func5.symm.trans hfn)).symm
 refine ⟨by kernel_rfl, fun j t ht => ?_⟩
 rw [Tryd.params5] at ht
 have hm : t ∈ [26, 3, 3] := by simpa using Array.mem_of_getElem? ht
 have hall : ([26, 3, 3].all fun u => !Tryd.prog.wantsStandIn u) = true := by kernel_rfl
 exact (show Tryd.prog.wantsStandIn t = false by simpa using List.all_eq_true.1 hall t hm)

theorem card : Rows.ColumnCutsCardSaid :=
 Claim7.holds_tied_plain_at .later [] _ _ _ _ said (fun _ h => by cases h) (by kernel_rfl) (fun _ h => by cases h) columnCuts_row_tie rfl ⟨rfl, rfl⟩ (by kernel_rfl) rfl plain (by kernel_rfl)
end Go.Proofs.YteaoeichgibgiaaDoor.columnCuts
namespace Go.Proofs.YteaoeichgibgiaaDoor
theorem columnCuts_card : Rows.ColumnCutsCardSaid := columnCuts.card
end Go.Proofs.YteaoeichgibgiaaDoor
