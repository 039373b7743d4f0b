/-
 RelForms is proved: for every tree (without a ring) and every four ints the call returns true and the arguments read as they did. No condition but the form's own reach.
-/
import Derived.Test.YtcggiljlilbdfaaR38
import Derived.Test.YtcggiljlilbdfaaR39
import Derived.Test.YtcggiljlilbdfaaR37
import Derived.Test.YtcggiljlilbdfaaR47
import Derived.Test.YtcggiljlilbdfaaR14
import Derived.Test.YtcggiljlilbdfaaR18
import Derived.Test.YtcggiljlilbdfaaR23
import Derived.Test.YtcggiljlilbdfaaRows
import Derived.ProofKit
import Derived.OpenShut
import Derived.ChangeOld
import Derived.SizedLaws
import Derived.Lib.SmallJoins
namespace Go.Proofs.Ytcggiljlilbdfaa.relForms
open Go.ChangeShapes Go.WideShapes Go.ChangeAt Go.RowKit Go.Joins
set_option maxHeartbeats 6000000
set_option maxRecDepth 100000

theorem own : ownKnob Try.prog.godebug = none := by kernel_rfl
theorem small_law (t : T) (pp : Option Addr) (ln cl : Nat) (w : World) (hL : IsL w (fun _ => True) (.slice pp ln cl) t.l) :
   Calls Try.prog 11 #[.agg #[.int .i64 t.k, .int .i64 t.n, .string (bs t.s), .int .i64 t.e, .int .i64 t.r.1, .int .i64 t.r.2.1, .bool t.r.2.2.1, .bool t.r.2.2.2, .int .i64 t.q.1, .int .i64 t.q.2.1, .bool t.q.2.2.1, .bool t.q.2.2.2, .slice pp ln cl]] w fun e w' => ∃ ok, e = .returned (.bool ok) ∧ Ext w w' ∧ (ok = true → Hr 401 t ∧ szT 401 t ≤ 1000) := by
 have c1 := fun W h => small_any 401 (Nat.le_refl _) t W (fun _ => True) pp ln cl 1000 (by decide) (by decide) h
 rw [show (401 : Int) - ((401 : Nat) : Int) = 0 from rfl] at c1
 have HI : Hid (IsL w (fun _ => True) (.slice pp ln cl) t.l) := hL
 clear hL
 go_enter Try.func11, Try.ntmps11
 go_wp2_with fail
 refine (c1 _ (HI.out.ext ((Ext.refl _).alloc _))).mono ?_
 rintro e w1 ⟨m, ok, rfl, E1, h1, h2, h3, hok⟩
 have HR : Hid (Ext w w1 ∧ (ok = true → m = szT 401 t ∧ Hr 401 t ∧ m ≤ max 1000 1)) := ⟨((Ext.refl _).alloc _).trans E1, hok⟩
 clear hok E1 h3
 go_wp2_with fail
 go_ret
 refine ⟨ok, rfl, HR.out.1, fun h => ?_⟩
 obtain ⟨q1, q2, q3⟩ := HR.out.2 h
 exact ⟨q2, by omega⟩
theorem walk (t : T) (pp : Option Addr) (ln cl : Nat) (o0 o1 o2 o3 : Int) (hW : Wf t) {w : World} (hL : IsL w (fun _ => True) (.slice pp ln cl) t.l) (_ : (Lit.int .i64 o0).wf = true) (_ : (Lit.int .i64 o1).wf = true) (_ : (Lit.int .i64 o2).wf = true) (_ : (Lit.int .i64 o3).wf = true) :
   Calls Try.prog 3 #[.agg #[.int .i64 t.k, .int .i64 t.n, .string (bs t.s), .int .i64 t.e, .int .i64 t.r.1, .int .i64 t.r.2.1, .bool t.r.2.2.1, .bool t.r.2.2.2, .int .i64 t.q.1, .int .i64 t.q.2.1, .bool t.q.2.2.1, .bool t.q.2.2.2, .slice pp ln cl], .agg #[.int .i64 o0, .int .i64 o1, .int .i64 o2, .int .i64 o3]] w fun e w' => e = .returned (.bool true) ∧ Ext w w' := by
 have HI : Hid (IsL w (fun _ => True) (.slice pp ln cl) t.l) := hL
 have HWF : Hid (Wf t) := hW
 clear hL hW
 go_enter Try.func3, Try.ntmps3
 go_wp2_with fail
 have HA : Hid (Ext w ((w.alloc (.cells #[.int .i64 t.k, .int .i64 t.n, .string (bs t.s), .int .i64 t.e, .int .i64 t.r.1, .int .i64 t.r.2.1, .bool t.r.2.2.1, .bool t.r.2.2.2, .int .i64 t.q.1, .int .i64 t.q.2.1, .bool t.q.2.2.1, .bool t.q.2.2.2, .slice pp ln cl] 26)).alloc (.cells #[.int .i64 o0, .int .i64 o1, .int .i64 o2, .int .i64 o3] 28)) ∧ BlkX ((w.alloc (.cells #[.int .i64 t.k, .int .i64 t.n, .string (bs t.s), .int .i64 t.e, .int .i64 t.r.1, .int .i64 t.r.2.1, .bool t.r.2.2.1, .bool t.r.2.2.2, .int .i64 t.q.1, .int .i64 t.q.2.1, .bool t.q.2.2.1, .bool t.q.2.2.2, .slice pp ln cl] 26)).alloc (.cells #[.int .i64 o0, .int .i64 o1, .int .i64 o2, .int .i64 o3] 28)) w.heap.size t (.slice pp ln cl) ∧ Blk ((w.alloc (.cells #[.int .i64 t.k, .int .i64 t.n, .string (bs t.s), .int .i64 t.e, .int .i64 t.r.1, .int .i64 t.r.2.1, .bool t.r.2.2.1, .bool t.r.2.2.2, .int .i64 t.q.1, .int .i64 t.q.2.1, .bool t.q.2.2.1, .bool t.q.2.2.2, .slice pp ln cl] 26)).alloc (.cells #[.int .i64 o0, .int .i64 o1, .int .i64 o2, .int .i64 o3] 28)) (w.heap.size + 1) (.int .i64 o0) (.int .i64 o1) (.int .i64 o2) (.int .i64 o3)) := ⟨((Ext.refl _).alloc _).alloc _, blk13_top rfl ((Ext.refl _).alloc _), blk_top (by simp) (Ext.refl _)⟩
 generalize ((w.alloc (.cells #[.int .i64 t.k, .int .i64 t.n, .string (bs t.s), .int .i64 t.e, .int .i64 t.r.1, .int .i64 t.r.2.1, .bool t.r.2.2.1, .bool t.r.2.2.2, .int .i64 t.q.1, .int .i64 t.q.2.1, .bool t.q.2.2.1, .bool t.q.2.2.2, .slice pp ln cl] 26)).alloc (.cells #[.int .i64 o0, .int .i64 o1, .int .i64 o2, .int .i64 o3] 28)) = w0 at *
 refine (small_law t pp ln cl _ (HI.out.ext HA.out.1)).mono ?_
 rintro e W1 ⟨ok, rfl, E1, hok⟩
 have HE1 : Hid (Ext w W1 ∧ BlkX W1 w.heap.size t (.slice pp ln cl) ∧ Blk W1 (w.heap.size + 1) (.int .i64 o0) (.int .i64 o1) (.int .i64 o2) (.int .i64 o3)) := ⟨HA.out.1.trans E1, HA.out.2.1.ext E1, HA.out.2.2.ext E1⟩
 clear E1 HA
 cases ok
 · clear hok
   go_wp2_with fail
   refine (lives10_any _).mono ?_
   rintro e w9 ⟨rfl, E9⟩
   have HE9 : Hid (Ext w w9) := Ext.trans HE1.out.1 E9
   clear E9
   go_wp2_with fail
   go_ret
   exact ⟨rfl, HE9.out⟩
 · have HH : Hid (Hr 401 t ∧ szT 401 t ≤ 1000) := hok rfl
   clear hok
   go_upto_region 3 with fail
   obtain ⟨N1, hN1⟩ : ∃ N, N + 1 = W1.heap.size := ⟨W1.heap.size - 1, by have h := HE1.out.2.2.1; omega⟩
   have HNW : Hid (N1 + 1 = W1.heap.size) := hN1
   have HN1 : Hid (N1 < W1.heap.size) := by show _ < _; omega
   clear hN1
   have OA : Hid (∀ V, Ext W1 V → Calls Try.prog 14 #[.agg #[.int .i64 t.k, .int .i64 t.n, .string (bs t.s), .int .i64 t.e, .int .i64 t.r.1, .int .i64 t.r.2.1, .bool t.r.2.2.1, .bool t.r.2.2.2, .int .i64 t.q.1, .int .i64 t.q.2.1, .bool t.q.2.2.1, .bool t.q.2.2.2, .slice pp ln cl]] V (OwnQ V t)) := fun V e => own_any 401 t HH.out.1 V (fun _ => True) pp ln cl (HI.out.ext (HE1.out.1.trans e))
   have mkS : Hid (∀ V, Ext W1 V → V.cell? ⟨w.heap.size, 0, none⟩ = some (.int .i64 t.k) ∧ V.cell? ⟨w.heap.size, 1, none⟩ = some (.int .i64 t.n) ∧ V.cell? ⟨w.heap.size, 2, none⟩ = some (.string (bs t.s)) ∧ V.cell? ⟨w.heap.size, 3, none⟩ = some (.int .i64 t.e) ∧ V.cell? ⟨w.heap.size, 4, none⟩ = some (.int .i64 t.r.1) ∧ V.cell? ⟨w.heap.size, 5, none⟩ = some (.int .i64 t.r.2.1) ∧ V.cell? ⟨w.heap.size, 6, none⟩ = some (.bool t.r.2.2.1) ∧ V.cell? ⟨w.heap.size, 7, none⟩ = some (.bool t.r.2.2.2) ∧ V.cell? ⟨w.heap.size, 8, none⟩ = some (.int .i64 t.q.1) ∧ V.cell? ⟨w.heap.size, 9, none⟩ = some (.int .i64 t.q.2.1) ∧ V.cell? ⟨w.heap.size, 10, none⟩ = some (.bool t.q.2.2.1) ∧ V.cell? ⟨w.heap.size, 11, none⟩ = some (.bool t.q.2.2.2) ∧ V.cell? ⟨w.heap.size, 12, none⟩ = some (.slice pp ln cl) ∧ V.cell? ⟨w.heap.size + 1, 0, none⟩ = some (.int .i64 o0) ∧ V.cell? ⟨w.heap.size + 1, 1, none⟩ = some (.int .i64 o1) ∧ V.cell? ⟨w.heap.size + 1, 2, none⟩ = some (.int .i64 o2) ∧ V.cell? ⟨w.heap.size + 1, 3, none⟩ = some (.int .i64 o3)) := fun V e => by
     obtain ⟨qz, ⟨k0, k1, k2, k3, k4, k5, k6, k7, k8, k9, k10, k11, k12⟩, gz⟩ := HE1.out.2.1.ext e
     obtain ⟨qx, ⟨n0, n1, n2, n3⟩, gx⟩ := HE1.out.2.2.ext e
     exact ⟨k0, k1, k2, k3, k4, k5, k6, k7, k8, k9, k10, k11, k12, n0, n1, n2, n3⟩
   have FOc : Hid (∀ V p l c, IsL V (fun _ => True) (.slice p l c) t.l → Calls Try.prog 13 #[.agg #[.int .i64 t.k, .int .i64 t.n, .string (bs t.s), .int .i64 t.e, .int .i64 t.r.1, .int .i64 t.r.2.1, .bool t.r.2.2.1, .bool t.r.2.2.2, .int .i64 t.q.1, .int .i64 t.q.2.1, .bool t.q.2.2.1, .bool t.q.2.2.2, .slice p l c], .int .i64 o0, .int .i64 o1] V (MpQ V (mpT (mvE (wrap64 (-o0)) (wrap64 (-o1))) 401 t))) := fun V p l c h => form_any 401 t HH.out.1 o0 o1 V (fun _ => True) p l c h
   have BAc : Hid (∀ V p l c, IsL V (fun _ => True) (.slice p l c) t.l → Calls Try.prog 15 #[.agg #[.int .i64 t.k, .int .i64 t.n, .string (bs t.s), .int .i64 t.e, .int .i64 t.r.1, .int .i64 t.r.2.1, .bool t.r.2.2.1, .bool t.r.2.2.2, .int .i64 t.q.1, .int .i64 t.q.2.1, .bool t.q.2.2.1, .bool t.q.2.2.2, .slice p l c], .int .i64 o0, .int .i64 o1] V (MpQ V (mpT (mvE o0 o1) 401 t))) := fun V p l c h => back_any 401 t HH.out.1 o0 o1 V (fun _ => True) p l c h
   have HHF : Hid (Hr 401 (mpT (mvE (wrap64 (-o0)) (wrap64 (-o1))) 401 t)) := hr_mp 401 t HH.out.1 _ (fun t => mvE_l _ _ t)
   have HHB : Hid (Hr 401 (mpT (mvE o0 o1) 401 t)) := hr_mp 401 t HH.out.1 _ (fun t => mvE_l _ _ t)
   obtain ⟨f, hf⟩ : ∃ f, (mpT (mvE (wrap64 (-o0)) (wrap64 (-o1))) 401 t) = f := ⟨_, rfl⟩
   obtain ⟨b, hb⟩ : ∃ b, (mpT (mvE o0 o1) 401 t) = b := ⟨_, rfl⟩
   have HF : Hid ((mpT (mvE (wrap64 (-o0)) (wrap64 (-o1))) 401 t) = f) := hf
   have HB : Hid ((mpT (mvE o0 o1) 401 t) = b) := hb
   rw [hf] at FOc HHF
   rw [hb] at BAc HHB
   clear hf hb
   go_cut [5, 6] (fun pa pb wx => ∃ (ga gb : Nat) (p2 : Option Addr) (l2 c2 : Nat) (p4 : Option Addr) (l4 c4 : Nat), pa = .pointer (some ⟨ga, 0, none⟩) ∧ pb = .pointer (some ⟨gb, 0, none⟩) ∧ BlkX wx ga f (.slice p2 l2 c2) ∧ BlkX wx gb b (.slice p4 l4 c4) ∧ IsL wx (fun _ => True) (.slice p2 l2 c2) f.l ∧ IsL wx (fun _ => True) (.slice p4 l4 c4) b.l ∧ Ext W1 wx ∧ N1 < ga ∧ N1 < gb)
   case first =>
     clear HF HB HHF HHB HWF
     refine bar_begin (B := fun _ => false) (S := fun V => V.cell? ⟨w.heap.size, 0, none⟩ = some (.int .i64 t.k) ∧ V.cell? ⟨w.heap.size, 1, none⟩ = some (.int .i64 t.n) ∧ V.cell? ⟨w.heap.size, 2, none⟩ = some (.string (bs t.s)) ∧ V.cell? ⟨w.heap.size, 3, none⟩ = some (.int .i64 t.e) ∧ V.cell? ⟨w.heap.size, 4, none⟩ = some (.int .i64 t.r.1) ∧ V.cell? ⟨w.heap.size, 5, none⟩ = some (.int .i64 t.r.2.1) ∧ V.cell? ⟨w.heap.size, 6, none⟩ = some (.bool t.r.2.2.1) ∧ V.cell? ⟨w.heap.size, 7, none⟩ = some (.bool t.r.2.2.2) ∧ V.cell? ⟨w.heap.size, 8, none⟩ = some (.int .i64 t.q.1) ∧ V.cell? ⟨w.heap.size, 9, none⟩ = some (.int .i64 t.q.2.1) ∧ V.cell? ⟨w.heap.size, 10, none⟩ = some (.bool t.q.2.2.1) ∧ V.cell? ⟨w.heap.size, 11, none⟩ = some (.bool t.q.2.2.2) ∧ V.cell? ⟨w.heap.size, 12, none⟩ = some (.slice pp ln cl) ∧ V.cell? ⟨w.heap.size + 1, 0, none⟩ = some (.int .i64 o0) ∧ V.cell? ⟨w.heap.size + 1, 1, none⟩ = some (.int .i64 o1) ∧ V.cell? ⟨w.heap.size + 1, 2, none⟩ = some (.int .i64 o2) ∧ V.cell? ⟨w.heap.size + 1, 3, none⟩ = some (.int .i64 o3)) (by kernel_rfl) ?_
     obtain ⟨y0, hy0⟩ : ∃ y0, World.drew W1 = y0 := ⟨_, rfl⟩
     have X : Hid (Ext W1 y0) := by show Ext _ _; rw [← hy0]; exact (Ext.refl _).drew
     rw [hy0]
     clear hy0
     have hS0 := mkS.out y0 X.out
     refine bar_takeL (i := 0) (v := ?v0) rfl (by kernel_rfl) (by kernel_rfl) (by kernel_rfl) (by kernel_rfl) (fun _ _ _ h => h) (Or.inl ⟨by rfl, ?hy0⟩) hS0 ?rest0
     case hy0 => (intro W hSW; (try dsimp only at hSW); go_simp; with_reducible rfl)
     simp only [Act.put, List.setIfInBounds_toArray, List.set_cons_zero, List.set_cons_succ]
     refine bar_takeL (i := 2) (v := ?v2) rfl (by kernel_rfl) (by kernel_rfl) (by kernel_rfl) (by kernel_rfl) (fun _ _ _ h => h) (Or.inl ⟨by rfl, ?hy2⟩) hS0 ?rest2
     case hy2 => (intro W hSW; (try dsimp only at hSW); go_simp; with_reducible rfl)
     simp only [Act.put, List.setIfInBounds_toArray, List.set_cons_zero, List.set_cons_succ]
     refine bar_takeL (i := 3) (v := ?v3) rfl (by kernel_rfl) (by kernel_rfl) (by kernel_rfl) (by kernel_rfl) (fun _ _ _ h => h) (Or.inl ⟨by rfl, ?hy3⟩) hS0 ?rest3
     case hy3 => (intro W hSW; (try dsimp only at hSW); go_simp; with_reducible rfl)
     simp only [Act.put, List.setIfInBounds_toArray, List.set_cons_zero, List.set_cons_succ]
     refine bar_takeL (i := 4) (v := ?v4) rfl (by kernel_rfl) (by kernel_rfl) (by kernel_rfl) (by kernel_rfl) (fun _ _ _ h => h) (Or.inl ⟨by rfl, ?hy4⟩) hS0 ?rest4
     case hy4 => (intro W hSW; (try dsimp only at hSW); go_simp; with_reducible rfl)
     simp only [Act.put, List.setIfInBounds_toArray, List.set_cons_zero, List.set_cons_succ]
     refine bar_takeL (i := 5) (v := ?v5) rfl (by kernel_rfl) (by kernel_rfl) (by kernel_rfl) (by kernel_rfl) (fun _ _ _ h => h) (Or.inl ⟨by rfl, ?hy5⟩) hS0 ?rest5
     case hy5 => (intro W hSW; (try dsimp only at hSW); go_simp; with_reducible rfl)
     simp only [Act.put, List.setIfInBounds_toArray, List.set_cons_zero, List.set_cons_succ]
     refine bar_takeL (i := 7) (v := ?v7) rfl (by kernel_rfl) (by kernel_rfl) (by kernel_rfl) (by kernel_rfl) (fun _ _ _ h => h) (Or.inl ⟨by rfl, ?hy7⟩) hS0 ?rest7
     case hy7 => (intro W hSW; (try dsimp only at hSW); go_simp; with_reducible rfl)
     simp only [Act.put, List.setIfInBounds_toArray, List.set_cons_zero, List.set_cons_succ]
     refine bar_takeL (i := 9) (v := ?v9) rfl (by kernel_rfl) (by kernel_rfl) (by kernel_rfl) (by kernel_rfl) (fun _ _ _ h => h) (Or.inl ⟨by rfl, ?hy9⟩) hS0 ?rest9
     case hy9 => (intro W hSW; (try dsimp only at hSW); go_simp; with_reducible rfl)
     simp only [Act.put, List.setIfInBounds_toArray, List.set_cons_zero, List.set_cons_succ]
     refine bar_takeL (i := 10) (v := ?v10) rfl (by kernel_rfl) (by kernel_rfl) (by kernel_rfl) (by kernel_rfl) (fun _ _ _ h => h) (Or.inl ⟨by rfl, ?hy10⟩) hS0 ?rest10
     case hy10 => (intro W hSW; (try dsimp only at hSW); go_simp; with_reducible rfl)
     simp only [Act.put, List.setIfInBounds_toArray, List.set_cons_zero, List.set_cons_succ]
     refine bar_takeL (i := 11) (v := ?v11) rfl (by kernel_rfl) (by kernel_rfl) (by kernel_rfl) (by kernel_rfl) (fun _ _ _ h => h) (Or.inl ⟨by rfl, ?hy11⟩) hS0 ?rest11
     case hy11 => (intro W hSW; (try dsimp only at hSW); go_simp; with_reducible rfl)
     simp only [Act.put, List.setIfInBounds_toArray, List.set_cons_zero, List.set_cons_succ]
     refine bar_takeL (i := 12) (v := ?v12) rfl (by kernel_rfl) (by kernel_rfl) (by kernel_rfl) (by kernel_rfl) (fun _ _ _ h => h) (Or.inl ⟨by rfl, ?hy12⟩) hS0 ?rest12
     case hy12 => (intro W hSW; (try dsimp only at hSW); go_simp; with_reducible rfl)
     simp only [Act.put, List.setIfInBounds_toArray, List.set_cons_zero, List.set_cons_succ]
     clear hS0
     refine bar_cast #[true, false, true, true, true, true, false, true, false, true, true, true, true, false, false, false, false, false] (by kernel_rfl) ?_
     refine fd_0 (f := f) (b := b) (N1 := N1) ?hE y0 X
     case hE =>
       unfold fdE
       refine ⟨HNW, mkS, OA, FOc, BAc, ?_⟩
       intro p1 l1 c1 p2 l2 c2 p3 l3 c3 p4 l4 c4 ga gb y9 X9 H1 H2 H3 H4 GA NGA GB NGB HD
       go_wp2_with fail
       go_meet
       case rel => exact ⟨ga, gb, p2, l2, c2, p4, l4, c4, rfl, rfl, GA.out, GB.out, H2.out.mono (fun _ _ _ => trivial), H4.out.mono (fun _ _ _ => trivial), X9.out, NGA.out, NGB.out⟩
   case rest =>
     obtain ⟨ga, gb, p2, l2, c2, p4, l4, c4, rfl, rfl, QA, QB, QF, QG, QE, hga, hgb⟩ := hcut
     have HQ : Hid ((Ext w wc ∧ BlkX wc w.heap.size t (.slice pp ln cl) ∧ Blk wc (w.heap.size + 1) (.int .i64 o0) (.int .i64 o1) (.int .i64 o2) (.int .i64 o3)) ∧ (BlkX wc ga f (.slice p2 l2 c2) ∧ BlkX wc gb b (.slice p4 l4 c4)) ∧ IsL wc (fun _ => True) (.slice p2 l2 c2) f.l ∧ IsL wc (fun _ => True) (.slice p4 l4 c4) b.l) := ⟨⟨HE1.out.1.trans QE, HE1.out.2.1.ext QE, HE1.out.2.2.ext QE⟩, ⟨QA, QB⟩, QF, QG⟩
     clear mkS FOc BAc OA QA QB QF QG QE hga hgb HNW HN1
     have HTI : Hid (∀ V, Ext wc V → IsL V (fun _ => True) (.slice pp ln cl) t.l) := fun V e => HI.out.ext (HQ.out.1.1.trans e)
     have mkS : Hid (∀ V, Ext wc V → V.cell? ⟨w.heap.size, 0, none⟩ = some (.int .i64 t.k) ∧ V.cell? ⟨w.heap.size, 1, none⟩ = some (.int .i64 t.n) ∧ V.cell? ⟨w.heap.size, 2, none⟩ = some (.string (bs t.s)) ∧ V.cell? ⟨w.heap.size, 3, none⟩ = some (.int .i64 t.e) ∧ V.cell? ⟨w.heap.size, 4, none⟩ = some (.int .i64 t.r.1) ∧ V.cell? ⟨w.heap.size, 5, none⟩ = some (.int .i64 t.r.2.1) ∧ V.cell? ⟨w.heap.size, 6, none⟩ = some (.bool t.r.2.2.1) ∧ V.cell? ⟨w.heap.size, 7, none⟩ = some (.bool t.r.2.2.2) ∧ V.cell? ⟨w.heap.size, 8, none⟩ = some (.int .i64 t.q.1) ∧ V.cell? ⟨w.heap.size, 9, none⟩ = some (.int .i64 t.q.2.1) ∧ V.cell? ⟨w.heap.size, 10, none⟩ = some (.bool t.q.2.2.1) ∧ V.cell? ⟨w.heap.size, 11, none⟩ = some (.bool t.q.2.2.2) ∧ V.cell? ⟨w.heap.size, 12, none⟩ = some (.slice pp ln cl) ∧ V.cell? ⟨w.heap.size + 1, 0, none⟩ = some (.int .i64 o0) ∧ V.cell? ⟨w.heap.size + 1, 1, none⟩ = some (.int .i64 o1) ∧ V.cell? ⟨w.heap.size + 1, 2, none⟩ = some (.int .i64 o2) ∧ V.cell? ⟨w.heap.size + 1, 3, none⟩ = some (.int .i64 o3) ∧ V.cell? ⟨ga, 0, none⟩ = some (.int .i64 f.k) ∧ V.cell? ⟨ga, 1, none⟩ = some (.int .i64 f.n) ∧ V.cell? ⟨ga, 2, none⟩ = some (.string (bs f.s)) ∧ V.cell? ⟨ga, 3, none⟩ = some (.int .i64 f.e) ∧ V.cell? ⟨ga, 4, none⟩ = some (.int .i64 f.r.1) ∧ V.cell? ⟨ga, 5, none⟩ = some (.int .i64 f.r.2.1) ∧ V.cell? ⟨ga, 6, none⟩ = some (.bool f.r.2.2.1) ∧ V.cell? ⟨ga, 7, none⟩ = some (.bool f.r.2.2.2) ∧ V.cell? ⟨ga, 8, none⟩ = some (.int .i64 f.q.1) ∧ V.cell? ⟨ga, 9, none⟩ = some (.int .i64 f.q.2.1) ∧ V.cell? ⟨ga, 10, none⟩ = some (.bool f.q.2.2.1) ∧ V.cell? ⟨ga, 11, none⟩ = some (.bool f.q.2.2.2) ∧ V.cell? ⟨ga, 12, none⟩ = some (.slice p2 l2 c2) ∧ V.cell? ⟨gb, 0, none⟩ = some (.int .i64 b.k) ∧ V.cell? ⟨gb, 1, none⟩ = some (.int .i64 b.n) ∧ V.cell? ⟨gb, 2, none⟩ = some (.string (bs b.s)) ∧ V.cell? ⟨gb, 3, none⟩ = some (.int .i64 b.e) ∧ V.cell? ⟨gb, 4, none⟩ = some (.int .i64 b.r.1) ∧ V.cell? ⟨gb, 5, none⟩ = some (.int .i64 b.r.2.1) ∧ V.cell? ⟨gb, 6, none⟩ = some (.bool b.r.2.2.1) ∧ V.cell? ⟨gb, 7, none⟩ = some (.bool b.r.2.2.2) ∧ V.cell? ⟨gb, 8, none⟩ = some (.int .i64 b.q.1) ∧ V.cell? ⟨gb, 9, none⟩ = some (.int .i64 b.q.2.1) ∧ V.cell? ⟨gb, 10, none⟩ = some (.bool b.q.2.2.1) ∧ V.cell? ⟨gb, 11, none⟩ = some (.bool b.q.2.2.2) ∧ V.cell? ⟨gb, 12, none⟩ = some (.slice p4 l4 c4)) := fun V e => by
       obtain ⟨qz, ⟨k0, k1, k2, k3, k4, k5, k6, k7, k8, k9, k10, k11, k12⟩, gz⟩ := HQ.out.1.2.1.ext e
       obtain ⟨qx, ⟨n0, n1, n2, n3⟩, gx⟩ := HQ.out.1.2.2.ext e
       obtain ⟨qy, ⟨m0, m1, m2, m3, m4, m5, m6, m7, m8, m9, m10, m11, m12⟩, gy⟩ := HQ.out.2.1.1.ext e
       obtain ⟨qw, ⟨s0, s1, s2, s3, s4, s5, s6, s7, s8, s9, s10, s11, s12⟩, gw⟩ := HQ.out.2.1.2.ext e
       exact ⟨k0, k1, k2, k3, k4, k5, k6, k7, k8, k9, k10, k11, k12, n0, n1, n2, n3, m0, m1, m2, m3, m4, m5, m6, m7, m8, m9, m10, m11, m12, s0, s1, s2, s3, s4, s5, s6, s7, s8, s9, s10, s11, s12⟩
     have RFc : Hid (∀ V, Ext wc V → Calls Try.prog 17 #[.agg #[.int .i64 t.k, .int .i64 t.n, .string (bs t.s), .int .i64 t.e, .int .i64 t.r.1, .int .i64 t.r.2.1, .bool t.r.2.2.1, .bool t.r.2.2.2, .int .i64 t.q.1, .int .i64 t.q.2.1, .bool t.q.2.2.1, .bool t.q.2.2.2, .slice pp ln cl], .int .i64 o0, .int .i64 o1] V (DcQ (fun _ => True) V f)) := fun V e => by
       rw [← HF.out]; exact rform_any 401 t HH.out.1 o0 o1 V (fun _ => True) pp ln cl (HTI.out V e)
     have RBc : Hid (∀ V, Ext wc V → Calls Try.prog 18 #[.agg #[.int .i64 t.k, .int .i64 t.n, .string (bs t.s), .int .i64 t.e, .int .i64 t.r.1, .int .i64 t.r.2.1, .bool t.r.2.2.1, .bool t.r.2.2.2, .int .i64 t.q.1, .int .i64 t.q.2.1, .bool t.q.2.2.1, .bool t.q.2.2.2, .slice pp ln cl], .int .i64 o0, .int .i64 o1] V (DcQ (fun _ => True) V b)) := fun V e => by
       rw [← HB.out]; exact rback_any o0 o1 401 t HH.out.1 (fun _ => True) V pp ln cl (HTI.out V e)
     have BFc : Hid (∀ V, Ext wc V → Calls Try.prog 15 #[.agg #[.int .i64 f.k, .int .i64 f.n, .string (bs f.s), .int .i64 f.e, .int .i64 f.r.1, .int .i64 f.r.2.1, .bool f.r.2.2.1, .bool f.r.2.2.2, .int .i64 f.q.1, .int .i64 f.q.2.1, .bool f.q.2.2.1, .bool f.q.2.2.2, .slice p2 l2 c2], .int .i64 o0, .int .i64 o1] V (MpQ V t)) := fun V e => by
       have h1 := back_any 401 f HHF.out o0 o1 V (fun _ => True) p2 l2 c2 (HQ.out.2.2.1.ext e)
       rw [show mpT (mvE o0 o1) 401 f = t by rw [← HF.out]; exact mp_back o0 o1 401 t HWF.out] at h1
       exact h1
     have SFc : Hid (∀ V p l c, Ext wc V → IsL V (fun _ => True) (.slice p l c) f.l → Calls Try.prog 16 #[.agg #[.int .i64 f.k, .int .i64 f.n, .string (bs f.s), .int .i64 f.e, .int .i64 f.r.1, .int .i64 f.r.2.1, .bool f.r.2.2.1, .bool f.r.2.2.2, .int .i64 f.q.1, .int .i64 f.q.2.1, .bool f.q.2.2.1, .bool f.q.2.2.2, .slice p2 l2 c2], .agg #[.int .i64 f.k, .int .i64 f.n, .string (bs f.s), .int .i64 f.e, .int .i64 f.r.1, .int .i64 f.r.2.1, .bool f.r.2.2.1, .bool f.r.2.2.2, .int .i64 f.q.1, .int .i64 f.q.2.1, .bool f.q.2.2.1, .bool f.q.2.2.2, .slice p l c]] V fun e w' => e = .returned (.bool true) ∧ Ext V w') := fun V p l c e h => by
       have := rsame_any (fun _ => True) 401 f HHF.out f V p2 p l2 c2 l c (HQ.out.2.2.1.ext e) h
       rw [same_refl 401 f HHF.out] at this
       exact this
     have SBc : Hid (∀ V p l c, Ext wc V → IsL V (fun _ => True) (.slice p l c) b.l → Calls Try.prog 16 #[.agg #[.int .i64 b.k, .int .i64 b.n, .string (bs b.s), .int .i64 b.e, .int .i64 b.r.1, .int .i64 b.r.2.1, .bool b.r.2.2.1, .bool b.r.2.2.2, .int .i64 b.q.1, .int .i64 b.q.2.1, .bool b.q.2.2.1, .bool b.q.2.2.2, .slice p4 l4 c4], .agg #[.int .i64 b.k, .int .i64 b.n, .string (bs b.s), .int .i64 b.e, .int .i64 b.r.1, .int .i64 b.r.2.1, .bool b.r.2.2.1, .bool b.r.2.2.2, .int .i64 b.q.1, .int .i64 b.q.2.1, .bool b.q.2.2.1, .bool b.q.2.2.2, .slice p l c]] V fun e w' => e = .returned (.bool true) ∧ Ext V w') := fun V p l c e h => by
       have := rsame_any (fun _ => True) 401 b HHB.out b V p4 p l4 c4 l c (HQ.out.2.2.2.ext e) h
       rw [same_refl 401 b HHB.out] at this
       exact this
     have STc : Hid (∀ V p l c, IsL V (fun _ => True) (.slice p l c) t.l → Ext wc V → Calls Try.prog 16 #[.agg #[.int .i64 t.k, .int .i64 t.n, .string (bs t.s), .int .i64 t.e, .int .i64 t.r.1, .int .i64 t.r.2.1, .bool t.r.2.2.1, .bool t.r.2.2.2, .int .i64 t.q.1, .int .i64 t.q.2.1, .bool t.q.2.2.1, .bool t.q.2.2.2, .slice p l c], .agg #[.int .i64 t.k, .int .i64 t.n, .string (bs t.s), .int .i64 t.e, .int .i64 t.r.1, .int .i64 t.r.2.1, .bool t.r.2.2.1, .bool t.r.2.2.2, .int .i64 t.q.1, .int .i64 t.q.2.1, .bool t.q.2.2.1, .bool t.q.2.2.2, .slice pp ln cl]] V fun e w' => e = .returned (.bool true) ∧ Ext V w') := fun V p l c h e => by
       have := rsame_any (fun _ => True) 401 t HH.out.1 t V p pp l c ln cl h (HTI.out V e)
       rw [same_refl 401 t HH.out.1] at this
       exact this
     clear HTI
     go_wp2_with fail
     refine wp_region_held_drew (S := (fun V => V.cell? ⟨w.heap.size, 0, none⟩ = some (.int .i64 t.k) ∧ V.cell? ⟨w.heap.size, 1, none⟩ = some (.int .i64 t.n) ∧ V.cell? ⟨w.heap.size, 2, none⟩ = some (.string (bs t.s)) ∧ V.cell? ⟨w.heap.size, 3, none⟩ = some (.int .i64 t.e) ∧ V.cell? ⟨w.heap.size, 4, none⟩ = some (.int .i64 t.r.1) ∧ V.cell? ⟨w.heap.size, 5, none⟩ = some (.int .i64 t.r.2.1) ∧ V.cell? ⟨w.heap.size, 6, none⟩ = some (.bool t.r.2.2.1) ∧ V.cell? ⟨w.heap.size, 7, none⟩ = some (.bool t.r.2.2.2) ∧ V.cell? ⟨w.heap.size, 8, none⟩ = some (.int .i64 t.q.1) ∧ V.cell? ⟨w.heap.size, 9, none⟩ = some (.int .i64 t.q.2.1) ∧ V.cell? ⟨w.heap.size, 10, none⟩ = some (.bool t.q.2.2.1) ∧ V.cell? ⟨w.heap.size, 11, none⟩ = some (.bool t.q.2.2.2) ∧ V.cell? ⟨w.heap.size, 12, none⟩ = some (.slice pp ln cl) ∧ V.cell? ⟨w.heap.size + 1, 0, none⟩ = some (.int .i64 o0) ∧ V.cell? ⟨w.heap.size + 1, 1, none⟩ = some (.int .i64 o1) ∧ V.cell? ⟨w.heap.size + 1, 2, none⟩ = some (.int .i64 o2) ∧ V.cell? ⟨w.heap.size + 1, 3, none⟩ = some (.int .i64 o3) ∧ V.cell? ⟨ga, 0, none⟩ = some (.int .i64 f.k) ∧ V.cell? ⟨ga, 1, none⟩ = some (.int .i64 f.n) ∧ V.cell? ⟨ga, 2, none⟩ = some (.string (bs f.s)) ∧ V.cell? ⟨ga, 3, none⟩ = some (.int .i64 f.e) ∧ V.cell? ⟨ga, 4, none⟩ = some (.int .i64 f.r.1) ∧ V.cell? ⟨ga, 5, none⟩ = some (.int .i64 f.r.2.1) ∧ V.cell? ⟨ga, 6, none⟩ = some (.bool f.r.2.2.1) ∧ V.cell? ⟨ga, 7, none⟩ = some (.bool f.r.2.2.2) ∧ V.cell? ⟨ga, 8, none⟩ = some (.int .i64 f.q.1) ∧ V.cell? ⟨ga, 9, none⟩ = some (.int .i64 f.q.2.1) ∧ V.cell? ⟨ga, 10, none⟩ = some (.bool f.q.2.2.1) ∧ V.cell? ⟨ga, 11, none⟩ = some (.bool f.q.2.2.2) ∧ V.cell? ⟨ga, 12, none⟩ = some (.slice p2 l2 c2) ∧ V.cell? ⟨gb, 0, none⟩ = some (.int .i64 b.k) ∧ V.cell? ⟨gb, 1, none⟩ = some (.int .i64 b.n) ∧ V.cell? ⟨gb, 2, none⟩ = some (.string (bs b.s)) ∧ V.cell? ⟨gb, 3, none⟩ = some (.int .i64 b.e) ∧ V.cell? ⟨gb, 4, none⟩ = some (.int .i64 b.r.1) ∧ V.cell? ⟨gb, 5, none⟩ = some (.int .i64 b.r.2.1) ∧ V.cell? ⟨gb, 6, none⟩ = some (.bool b.r.2.2.1) ∧ V.cell? ⟨gb, 7, none⟩ = some (.bool b.r.2.2.2) ∧ V.cell? ⟨gb, 8, none⟩ = some (.int .i64 b.q.1) ∧ V.cell? ⟨gb, 9, none⟩ = some (.int .i64 b.q.2.1) ∧ V.cell? ⟨gb, 10, none⟩ = some (.bool b.q.2.2.1) ∧ V.cell? ⟨gb, 11, none⟩ = some (.bool b.q.2.2.2) ∧ V.cell? ⟨gb, 12, none⟩ = some (.slice p4 l4 c4))) (by kernel_rfl) ?_ (fun hHeld0 => ?_)
     · (refine mkS.out _ ?_; ((with_reducible (repeat (first | assumption | exact Ext.refl _ | apply Ext.alloc | apply Ext.drew | apply Ext.drewN))); done))
     refine wpAnyH_take (i := 0) (oi := ⟨some 25, .load 26 (.tmp 5), 26, "law.go:33", #[], none⟩) (v := ?_) rfl (by kernel_rfl) (by kernel_rfl) (by kernel_rfl) (fun _ _ _ h => h) (Or.inl ⟨by rfl, ?_⟩) (by assumption) ?_
     rotate_left
     · intro w hSw; (try dsimp only at hSw); first | (go_simp; done) | (go_simp; with_reducible rfl)
     try simp only [Act.put, List.setIfInBounds_toArray, List.set_cons_zero, List.set_cons_succ]
     refine wpAnyH_take (i := 1) (oi := ⟨some 26, .load 26 (.tmp 2), 26, "law.go:33", #[], none⟩) (v := ?_) rfl (by kernel_rfl) (by kernel_rfl) (by kernel_rfl) (fun _ _ _ h => h) (Or.inl ⟨by rfl, ?_⟩) (by assumption) ?_
     rotate_left
     · intro w hSw; (try dsimp only at hSw); first | (go_simp; done) | (go_simp; with_reducible rfl)
     try simp only [Act.put, List.setIfInBounds_toArray, List.set_cons_zero, List.set_cons_succ]
     refine wpAnyH_take (i := 2) (oi := ⟨some 27, .fieldAddr 28 (.tmp 3) 0, 0, "law.go:33", #[], none⟩) (v := ?_) rfl (by kernel_rfl) (by kernel_rfl) (by kernel_rfl) (fun _ _ _ h => h) (Or.inl ⟨by rfl, ?_⟩) (by assumption) ?_
     rotate_left
     · intro w hSw; (try dsimp only at hSw); first | (go_simp; done) | (go_simp; with_reducible rfl)
     try simp only [Act.put, List.setIfInBounds_toArray, List.set_cons_zero, List.set_cons_succ]
     refine wpAnyH_take (i := 3) (oi := ⟨some 28, .load 3 (.tmp 27), 3, "law.go:33", #[⟨2, .data⟩], none⟩) (v := ?_) rfl (by kernel_rfl) (by kernel_rfl) (by kernel_rfl) (fun _ _ _ h => h) (Or.inl ⟨by rfl, ?_⟩) (by assumption) ?_
     rotate_left
     · intro w hSw; (try dsimp only at hSw); first | (go_simp; done) | (go_simp; with_reducible rfl)
     try simp only [Act.put, List.setIfInBounds_toArray, List.set_cons_zero, List.set_cons_succ]
     refine wpAnyH_take (i := 4) (oi := ⟨some 29, .fieldAddr 28 (.tmp 3) 1, 0, "law.go:33", #[], none⟩) (v := ?_) rfl (by kernel_rfl) (by kernel_rfl) (by kernel_rfl) (fun _ _ _ h => h) (Or.inl ⟨by rfl, ?_⟩) (by assumption) ?_
     rotate_left
     · intro w hSw; (try dsimp only at hSw); first | (go_simp; done) | (go_simp; with_reducible rfl)
     try simp only [Act.put, List.setIfInBounds_toArray, List.set_cons_zero, List.set_cons_succ]
     refine wpAnyH_take (i := 5) (oi := ⟨some 30, .load 3 (.tmp 29), 3, "law.go:33", #[⟨4, .data⟩], none⟩) (v := ?_) rfl (by kernel_rfl) (by kernel_rfl) (by kernel_rfl) (fun _ _ _ h => h) (Or.inl ⟨by rfl, ?_⟩) (by assumption) ?_
     rotate_left
     · intro w hSw; (try dsimp only at hSw); first | (go_simp; done) | (go_simp; with_reducible rfl)
     try simp only [Act.put, List.setIfInBounds_toArray, List.set_cons_zero, List.set_cons_succ]
     refine wpAnyH_ready (rs := [6]) (by kernel_rfl) (by simp) ?_
     refine AllReadyH.cons (o := ⟨some 31, .call { callee := .value (.func 17), args := #[.tmp 26, .tmp 28, .tmp 30], argTypes := #[26, 3, 3] }, 26, "law.go:33", #[⟨1, .data⟩, ⟨3, .data⟩, ⟨5, .data⟩], none⟩) rfl (fun K hK => ?_) AllReadyH.nil
     go_simp
     (go_at_call 17; refine Calls.mono (RFc.out _ (by with_reducible repeat (first | assumption | exact Ext.refl _ | apply Ext.alloc | apply Ext.drew | apply Ext.drewN))) ?_; rintro e z1 ⟨q1, m1, d1, rfl, hL1, E1⟩; have X1 : Ext wc z1 := Ext.trans (by with_reducible repeat (first | assumption | exact Ext.refl _ | apply Ext.alloc | apply Ext.drew | apply Ext.drewN)) E1; have HO1 : Hid (IsL z1 (fun _ => True) (.slice q1 m1 d1) f.l) := hL1.mono (fun _ _ _ => trivial); clear hL1; unfold aggX)
     try go_wp2_with fail
     refine hK.out _ _ ?_ (fun hHeld1 => ?_)
     · (try dsimp only); (refine mkS.out _ ?_; ((with_reducible (repeat (first | assumption | exact Ext.refl _ | apply Ext.alloc | apply Ext.drew | apply Ext.drewN))); done))
     clear hK K hHeld0
     try simp only [Act.put, List.setIfInBounds_toArray, List.set_cons_zero, List.set_cons_succ]
     refine wpAnyH_ready (rs := [7]) (by kernel_rfl) (by simp) ?_
     refine AllReadyH.cons (o := ⟨some 32, .call { callee := .value (.func 16), args := #[.tmp 25, .tmp 31], argTypes := #[26, 26] }, 4, "law.go:33", #[⟨0, .data⟩, ⟨6, .data⟩, ⟨6, .chain⟩], none⟩) rfl (fun K hK => ?_) AllReadyH.nil
     go_simp
     (go_at_call 16; refine Calls.mono (SFc.out _ q1 m1 d1 (by with_reducible repeat (first | assumption | exact Ext.refl _ | apply Ext.alloc | apply Ext.drew | apply Ext.drewN)) (HO1.out.ext (by with_reducible repeat (first | assumption | exact Ext.refl _ | apply Ext.alloc | apply Ext.drew | apply Ext.drewN)))) ?_; rintro e z2 ⟨rfl, E2⟩; have X2 : Ext wc z2 := Ext.trans (by with_reducible repeat (first | assumption | exact Ext.refl _ | apply Ext.alloc | apply Ext.drew | apply Ext.drewN)) E2)
     try go_wp2_with fail
     refine hK.out _ _ ?_ (fun hHeld2 => ?_)
     · (try dsimp only); (refine mkS.out _ ?_; ((with_reducible (repeat (first | assumption | exact Ext.refl _ | apply Ext.alloc | apply Ext.drew | apply Ext.drewN))); done))
     clear hK K hHeld1
     try simp only [Act.put, List.setIfInBounds_toArray, List.set_cons_zero, List.set_cons_succ]
     refine wpAnyH_take (i := 8) (oi := ⟨some 33, .move (.tmp 32), 4, "law.go:33", #[⟨7, .data⟩, ⟨7, .chain⟩], none⟩) (v := ?_) rfl (by kernel_rfl) (by kernel_rfl) (by kernel_rfl) (fun _ _ _ h => h) (Or.inl ⟨by rfl, ?_⟩) (by assumption) ?_
     rotate_left
     · intro w hSw; (try dsimp only at hSw); first | (go_simp; done) | (go_simp; with_reducible rfl)
     try simp only [Act.put, List.setIfInBounds_toArray, List.set_cons_zero, List.set_cons_succ]
     refine wpAnyH_take (i := 9) (oi := ⟨some 34, .load 26 (.tmp 6), 26, "law.go:33", #[⟨8, .guard⟩], some (8, true)⟩) (v := ?_) rfl (by kernel_rfl) (by kernel_rfl) (by kernel_rfl) (fun _ _ _ h => h) (Or.inl ⟨by rfl, ?_⟩) (by assumption) ?_
     rotate_left
     · intro w hSw; (try dsimp only at hSw); first | (go_simp; done) | (go_simp; with_reducible rfl)
     try simp only [Act.put, List.setIfInBounds_toArray, List.set_cons_zero, List.set_cons_succ]
     refine wpAnyH_take (i := 10) (oi := ⟨some 35, .load 26 (.tmp 2), 26, "law.go:33", #[⟨8, .guard⟩], some (8, true)⟩) (v := ?_) rfl (by kernel_rfl) (by kernel_rfl) (by kernel_rfl) (fun _ _ _ h => h) (Or.inl ⟨by rfl, ?_⟩) (by assumption) ?_
     rotate_left
     · intro w hSw; (try dsimp only at hSw); first | (go_simp; done) | (go_simp; with_reducible rfl)
     try simp only [Act.put, List.setIfInBounds_toArray, List.set_cons_zero, List.set_cons_succ]
     refine wpAnyH_take (i := 11) (oi := ⟨some 36, .fieldAddr 28 (.tmp 3) 0, 0, "law.go:33", #[⟨8, .guard⟩], some (8, true)⟩) (v := ?_) rfl (by kernel_rfl) (by kernel_rfl) (by kernel_rfl) (fun _ _ _ h => h) (Or.inl ⟨by rfl, ?_⟩) (by assumption) ?_
     rotate_left
     · intro w hSw; (try dsimp only at hSw); first | (go_simp; done) | (go_simp; with_reducible rfl)
     try simp only [Act.put, List.setIfInBounds_toArray, List.set_cons_zero, List.set_cons_succ]
     refine wpAnyH_take (i := 12) (oi := ⟨some 37, .load 3 (.tmp 36), 3, "law.go:33", #[⟨11, .data⟩, ⟨8, .guard⟩], some (8, true)⟩) (v := ?_) rfl (by kernel_rfl) (by kernel_rfl) (by kernel_rfl) (fun _ _ _ h => h) (Or.inl ⟨by rfl, ?_⟩) (by assumption) ?_
     rotate_left
     · intro w hSw; (try dsimp only at hSw); first | (go_simp; done) | (go_simp; with_reducible rfl)
     try simp only [Act.put, List.setIfInBounds_toArray, List.set_cons_zero, List.set_cons_succ]
     refine wpAnyH_take (i := 13) (oi := ⟨some 38, .fieldAddr 28 (.tmp 3) 1, 0, "law.go:33", #[⟨8, .guard⟩], some (8, true)⟩) (v := ?_) rfl (by kernel_rfl) (by kernel_rfl) (by kernel_rfl) (fun _ _ _ h => h) (Or.inl ⟨by rfl, ?_⟩) (by assumption) ?_
     rotate_left
     · intro w hSw; (try dsimp only at hSw); first | (go_simp; done) | (go_simp; with_reducible rfl)
     try simp only [Act.put, List.setIfInBounds_toArray, List.set_cons_zero, List.set_cons_succ]
     refine wpAnyH_take (i := 14) (oi := ⟨some 39, .load 3 (.tmp 38), 3, "law.go:33", #[⟨13, .data⟩, ⟨8, .guard⟩], some (8, true)⟩) (v := ?_) rfl (by kernel_rfl) (by kernel_rfl) (by kernel_rfl) (fun _ _ _ h => h) (Or.inl ⟨by rfl, ?_⟩) (by assumption) ?_
     rotate_left
     · intro w hSw; (try dsimp only at hSw); first | (go_simp; done) | (go_simp; with_reducible rfl)
     try simp only [Act.put, List.setIfInBounds_toArray, List.set_cons_zero, List.set_cons_succ]
     refine wpAnyH_ready (rs := [15]) (by kernel_rfl) (by simp) ?_
     refine AllReadyH.cons (o := ⟨some 40, .call { callee := .value (.func 18), args := #[.tmp 35, .tmp 37, .tmp 39], argTypes := #[26, 3, 3] }, 26, "law.go:33", #[⟨10, .data⟩, ⟨12, .data⟩, ⟨14, .data⟩, ⟨8, .chain⟩, ⟨8, .guard⟩], some (8, true)⟩) rfl (fun K hK => ?_) AllReadyH.nil
     go_simp
     (go_at_call 18; refine Calls.mono (RBc.out _ (by with_reducible repeat (first | assumption | exact Ext.refl _ | apply Ext.alloc | apply Ext.drew | apply Ext.drewN))) ?_; rintro e z3 ⟨q3, m3, d3, rfl, hL3, E3⟩; have X3 : Ext wc z3 := Ext.trans (by with_reducible repeat (first | assumption | exact Ext.refl _ | apply Ext.alloc | apply Ext.drew | apply Ext.drewN)) E3; have HO3 : Hid (IsL z3 (fun _ => True) (.slice q3 m3 d3) b.l) := hL3.mono (fun _ _ _ => trivial); clear hL3; unfold aggX)
     try go_wp2_with fail
     refine hK.out _ _ ?_ (fun hHeld3 => ?_)
     · (try dsimp only); (refine mkS.out _ ?_; ((with_reducible (repeat (first | assumption | exact Ext.refl _ | apply Ext.alloc | apply Ext.drew | apply Ext.drewN))); done))
     clear hK K hHeld2
     try simp only [Act.put, List.setIfInBounds_toArray, List.set_cons_zero, List.set_cons_succ]
     refine wpAnyH_ready (rs := [16]) (by kernel_rfl) (by simp) ?_
     refine AllReadyH.cons (o := ⟨some 41, .call { callee := .value (.func 16), args := #[.tmp 34, .tmp 40], argTypes := #[26, 26] }, 4, "law.go:33", #[⟨9, .data⟩, ⟨15, .data⟩, ⟨15, .chain⟩, ⟨8, .guard⟩], some (8, true)⟩) rfl (fun K hK => ?_) AllReadyH.nil
     go_simp
     (go_at_call 16; refine Calls.mono (SBc.out _ q3 m3 d3 (by with_reducible repeat (first | assumption | exact Ext.refl _ | apply Ext.alloc | apply Ext.drew | apply Ext.drewN)) (HO3.out.ext (by with_reducible repeat (first | assumption | exact Ext.refl _ | apply Ext.alloc | apply Ext.drew | apply Ext.drewN)))) ?_; rintro e z4 ⟨rfl, E4⟩; have X4 : Ext wc z4 := Ext.trans (by with_reducible repeat (first | assumption | exact Ext.refl _ | apply Ext.alloc | apply Ext.drew | apply Ext.drewN)) E4)
     try go_wp2_with fail
     refine hK.out _ _ ?_ (fun hHeld4 => ?_)
     · (try dsimp only); (refine mkS.out _ ?_; ((with_reducible (repeat (first | assumption | exact Ext.refl _ | apply Ext.alloc | apply Ext.drew | apply Ext.drewN))); done))
     clear hK K hHeld3
     try simp only [Act.put, List.setIfInBounds_toArray, List.set_cons_zero, List.set_cons_succ]
     refine wpAnyH_take (i := 17) (oi := ⟨some 42, .pick (.tmp 33) (.tmp 41) (.const (.bool false)), 4, "law.go:33", #[⟨8, .data⟩, ⟨16, .data⟩], none⟩) (v := ?_) rfl (by kernel_rfl) (by kernel_rfl) (by kernel_rfl) (fun _ _ _ h => h) (Or.inl ⟨by rfl, ?_⟩) (by assumption) ?_
     rotate_left
     · intro w hSw; (try dsimp only at hSw); first | (go_simp; done) | (go_simp; with_reducible rfl)
     try simp only [Act.put, List.setIfInBounds_toArray, List.set_cons_zero, List.set_cons_succ]
     refine wpAnyH_take (i := 18) (oi := ⟨some 43, .move (.tmp 42), 4, "law.go:33", #[⟨17, .data⟩, ⟨16, .chain⟩], none⟩) (v := ?_) rfl (by kernel_rfl) (by kernel_rfl) (by kernel_rfl) (fun _ _ _ h => h) (Or.inl ⟨by rfl, ?_⟩) (by assumption) ?_
     rotate_left
     · intro w hSw; (try dsimp only at hSw); first | (go_simp; done) | (go_simp; with_reducible rfl)
     try simp only [Act.put, List.setIfInBounds_toArray, List.set_cons_zero, List.set_cons_succ]
     refine wpAnyH_take (i := 19) (oi := ⟨some 44, .load 26 (.tmp 5), 26, "law.go:33", #[⟨18, .guard⟩], some (18, true)⟩) (v := ?_) rfl (by kernel_rfl) (by kernel_rfl) (by kernel_rfl) (fun _ _ _ h => h) (Or.inl ⟨by rfl, ?_⟩) (by assumption) ?_
     rotate_left
     · intro w hSw; (try dsimp only at hSw); first | (go_simp; done) | (go_simp; with_reducible rfl)
     try simp only [Act.put, List.setIfInBounds_toArray, List.set_cons_zero, List.set_cons_succ]
     refine wpAnyH_take (i := 20) (oi := ⟨some 45, .fieldAddr 28 (.tmp 3) 0, 0, "law.go:33", #[⟨18, .guard⟩], some (18, true)⟩) (v := ?_) rfl (by kernel_rfl) (by kernel_rfl) (by kernel_rfl) (fun _ _ _ h => h) (Or.inl ⟨by rfl, ?_⟩) (by assumption) ?_
     rotate_left
     · intro w hSw; (try dsimp only at hSw); first | (go_simp; done) | (go_simp; with_reducible rfl)
     try simp only [Act.put, List.setIfInBounds_toArray, List.set_cons_zero, List.set_cons_succ]
     refine wpAnyH_take (i := 21) (oi := ⟨some 46, .load 3 (.tmp 45), 3, "law.go:33", #[⟨20, .data⟩, ⟨18, .guard⟩], some (18, true)⟩) (v := ?_) rfl (by kernel_rfl) (by kernel_rfl) (by kernel_rfl) (fun _ _ _ h => h) (Or.inl ⟨by rfl, ?_⟩) (by assumption) ?_
     rotate_left
     · intro w hSw; (try dsimp only at hSw); first | (go_simp; done) | (go_simp; with_reducible rfl)
     try simp only [Act.put, List.setIfInBounds_toArray, List.set_cons_zero, List.set_cons_succ]
     refine wpAnyH_take (i := 22) (oi := ⟨some 47, .fieldAddr 28 (.tmp 3) 1, 0, "law.go:33", #[⟨18, .guard⟩], some (18, true)⟩) (v := ?_) rfl (by kernel_rfl) (by kernel_rfl) (by kernel_rfl) (fun _ _ _ h => h) (Or.inl ⟨by rfl, ?_⟩) (by assumption) ?_
     rotate_left
     · intro w hSw; (try dsimp only at hSw); first | (go_simp; done) | (go_simp; with_reducible rfl)
     try simp only [Act.put, List.setIfInBounds_toArray, List.set_cons_zero, List.set_cons_succ]
     refine wpAnyH_take (i := 23) (oi := ⟨some 48, .load 3 (.tmp 47), 3, "law.go:33", #[⟨22, .data⟩, ⟨18, .guard⟩], some (18, true)⟩) (v := ?_) rfl (by kernel_rfl) (by kernel_rfl) (by kernel_rfl) (fun _ _ _ h => h) (Or.inl ⟨by rfl, ?_⟩) (by assumption) ?_
     rotate_left
     · intro w hSw; (try dsimp only at hSw); first | (go_simp; done) | (go_simp; with_reducible rfl)
     try simp only [Act.put, List.setIfInBounds_toArray, List.set_cons_zero, List.set_cons_succ]
     refine wpAnyH_take (i := 25) (oi := ⟨some 50, .load 26 (.tmp 2), 26, "law.go:33", #[⟨18, .guard⟩], some (18, true)⟩) (v := ?_) rfl (by kernel_rfl) (by kernel_rfl) (by kernel_rfl) (fun _ _ _ h => h) (Or.inl ⟨by rfl, ?_⟩) (by assumption) ?_
     rotate_left
     · intro w hSw; (try dsimp only at hSw); first | (go_simp; done) | (go_simp; with_reducible rfl)
     try simp only [Act.put, List.setIfInBounds_toArray, List.set_cons_zero, List.set_cons_succ]
     refine wpAnyH_ready (rs := [24]) (by kernel_rfl) (by simp) ?_
     refine AllReadyH.cons (o := ⟨some 49, .call { callee := .value (.func 15), args := #[.tmp 44, .tmp 46, .tmp 48], argTypes := #[26, 3, 3] }, 26, "law.go:33", #[⟨19, .data⟩, ⟨21, .data⟩, ⟨23, .data⟩, ⟨18, .chain⟩, ⟨18, .guard⟩], some (18, true)⟩) rfl (fun K hK => ?_) AllReadyH.nil
     go_simp
     (go_at_call 15; refine Calls.mono (BFc.out _ (by with_reducible repeat (first | assumption | exact Ext.refl _ | apply Ext.alloc | apply Ext.drew | apply Ext.drewN))) ?_; rintro e z5 ⟨q5, m5, d5, rfl, hL5, E5⟩; have X5 : Ext wc z5 := Ext.trans (by with_reducible repeat (first | assumption | exact Ext.refl _ | apply Ext.alloc | apply Ext.drew | apply Ext.drewN)) E5; have HO5 : Hid (IsL z5 (fun _ => True) (.slice q5 m5 d5) t.l) := hL5.mono (fun _ _ _ => trivial); clear hL5; unfold aggX)
     try go_wp2_with fail
     refine hK.out _ _ ?_ (fun hHeld5 => ?_)
     · (try dsimp only); (refine mkS.out _ ?_; ((with_reducible (repeat (first | assumption | exact Ext.refl _ | apply Ext.alloc | apply Ext.drew | apply Ext.drewN))); done))
     clear hK K hHeld4
     try simp only [Act.put, List.setIfInBounds_toArray, List.set_cons_zero, List.set_cons_succ]
     refine wpAnyH_ready (rs := [26]) (by kernel_rfl) (by simp) ?_
     refine AllReadyH.cons (o := ⟨some 51, .call { callee := .value (.func 16), args := #[.tmp 49, .tmp 50], argTypes := #[26, 26] }, 4, "law.go:33", #[⟨24, .data⟩, ⟨25, .data⟩, ⟨24, .chain⟩, ⟨18, .guard⟩], some (18, true)⟩) rfl (fun K hK => ?_) AllReadyH.nil
     go_simp
     (go_at_call 16; refine Calls.mono (STc.out _ q5 m5 d5 (HO5.out.ext (by with_reducible repeat (first | assumption | exact Ext.refl _ | apply Ext.alloc | apply Ext.drew | apply Ext.drewN))) (by with_reducible repeat (first | assumption | exact Ext.refl _ | apply Ext.alloc | apply Ext.drew | apply Ext.drewN))) ?_; rintro e z6 ⟨rfl, E6⟩; have X6 : Ext wc z6 := Ext.trans (by with_reducible repeat (first | assumption | exact Ext.refl _ | apply Ext.alloc | apply Ext.drew | apply Ext.drewN)) E6)
     try go_wp2_with fail
     refine hK.out _ _ ?_ (fun hHeld6 => ?_)
     · (try dsimp only); (refine mkS.out _ ?_; ((with_reducible (repeat (first | assumption | exact Ext.refl _ | apply Ext.alloc | apply Ext.drew | apply Ext.drewN))); done))
     clear hK K hHeld5
     try simp only [Act.put, List.setIfInBounds_toArray, List.set_cons_zero, List.set_cons_succ]
     refine wpAnyH_take (i := 27) (oi := ⟨some 52, .pick (.tmp 43) (.tmp 51) (.const (.bool false)), 4, "law.go:33", #[⟨18, .data⟩, ⟨26, .data⟩], none⟩) (v := ?_) rfl (by kernel_rfl) (by kernel_rfl) (by kernel_rfl) (fun _ _ _ h => h) (Or.inl ⟨by rfl, ?_⟩) (by assumption) ?_
     rotate_left
     · intro w hSw; (try dsimp only at hSw); first | (go_simp; done) | (go_simp; with_reducible rfl)
     try simp only [Act.put, List.setIfInBounds_toArray, List.set_cons_zero, List.set_cons_succ]
     refine wpAnyH_take (i := 28) (oi := ⟨some 53, .move (.tmp 52), 4, "law.go:33", #[⟨27, .data⟩, ⟨26, .chain⟩], none⟩) (v := ?_) rfl (by kernel_rfl) (by kernel_rfl) (by kernel_rfl) (fun _ _ _ h => h) (Or.inl ⟨by rfl, ?_⟩) (by assumption) ?_
     rotate_left
     · intro w hSw; (try dsimp only at hSw); first | (go_simp; done) | (go_simp; with_reducible rfl)
     try simp only [Act.put, List.setIfInBounds_toArray, List.set_cons_zero, List.set_cons_succ]
     refine wpAnyH_ready (rs := [29]) (by kernel_rfl) (by simp) ?_
     refine AllReadyH.cons (o := ⟨some 54, .call { callee := .value (.func 12), args := #[], argTypes := #[] }, 4, "law.go:33", #[⟨28, .chain⟩, ⟨28, .guard⟩], some (28, true)⟩) rfl (fun K hK => ?_) AllReadyH.nil
     go_simp
     (go_at_call 12; refine Calls.mono (lives10_any _) ?_; rintro e z7 ⟨rfl, E7⟩; have X7 : Ext wc z7 := Ext.trans (by with_reducible repeat (first | assumption | exact Ext.refl _ | apply Ext.alloc | apply Ext.drew | apply Ext.drewN)) E7)
     try go_wp2_with fail
     refine hK.out _ _ ?_ (fun hHeld7 => ?_)
     · (try dsimp only); (refine mkS.out _ ?_; ((with_reducible (repeat (first | assumption | exact Ext.refl _ | apply Ext.alloc | apply Ext.drew | apply Ext.drewN))); done))
     clear hK K hHeld6
     try simp only [Act.put, List.setIfInBounds_toArray, List.set_cons_zero, List.set_cons_succ]
     refine wpAnyH_take (i := 30) (oi := ⟨some 55, .pick (.tmp 53) (.tmp 54) (.const (.bool false)), 4, "law.go:33", #[⟨28, .data⟩, ⟨29, .data⟩], none⟩) (v := ?_) rfl (by kernel_rfl) (by kernel_rfl) (by kernel_rfl) (fun _ _ _ h => h) (Or.inl ⟨by rfl, ?_⟩) (by assumption) ?_
     rotate_left
     · intro w hSw; (try dsimp only at hSw); first | (go_simp; done) | (go_simp; with_reducible rfl)
     try simp only [Act.put, List.setIfInBounds_toArray, List.set_cons_zero, List.set_cons_succ]
     refine wpAnyH_take (i := 31) (oi := ⟨some 4, .assign (.tmp 55), 4, "law.go:33", #[⟨30, .data⟩, ⟨29, .chain⟩, ⟨0, .phase⟩, ⟨1, .phase⟩, ⟨2, .phase⟩, ⟨3, .phase⟩, ⟨4, .phase⟩, ⟨5, .phase⟩, ⟨6, .phase⟩, ⟨7, .phase⟩, ⟨8, .phase⟩, ⟨9, .phase⟩, ⟨10, .phase⟩, ⟨11, .phase⟩, ⟨12, .phase⟩, ⟨13, .phase⟩, ⟨14, .phase⟩, ⟨15, .phase⟩, ⟨16, .phase⟩, ⟨17, .phase⟩, ⟨18, .phase⟩, ⟨19, .phase⟩, ⟨20, .phase⟩, ⟨21, .phase⟩, ⟨22, .phase⟩, ⟨23, .phase⟩, ⟨24, .phase⟩, ⟨25, .phase⟩, ⟨26, .phase⟩, ⟨27, .phase⟩, ⟨28, .phase⟩, ⟨29, .phase⟩, ⟨30, .phase⟩], none⟩) (v := ?_) rfl (by kernel_rfl) (by kernel_rfl) (by kernel_rfl) (fun _ _ _ h => h) (Or.inl ⟨by rfl, ?_⟩) (by assumption) ?_
     rotate_left
     · intro w hSw; (try dsimp only at hSw); first | (go_simp; done) | (go_simp; with_reducible rfl)
     try simp only [Act.put, List.setIfInBounds_toArray, List.set_cons_zero, List.set_cons_succ]
     refine wpAnyH_done (by kernel_rfl) ?_ _
     go_wp2_with fail
     go_ret
     exact ⟨rfl, HQ.out.1.1.trans (by assumption)⟩

theorem laidOut : laidOutB Try.prog = true := by kernel_rfl
theorem cells_three : Try.prog.cellsOf 28 = 4 := by kernel_rfl
set_option maxRecDepth 100000 in
theorem lifted (os : Os) (started : os.Started) (H : Type) (enc : TypeId × Value → H) :
   ReturnsInHanded {} Try.checked os 3 .any (Rows.relFormsSpec.pre6 enc Try.prog Try.f3 Rows.relFormsRow.domain false) (Rows.relFormsSpec.post enc Try.prog Try.f3 false true false false) := by
 refine returnsInHanded_of_change (C := Try.checked) own started (by kernel_rfl) Try.func3
   (ChangeSpec.witness6 (enc := enc) (C := Try.checked) false ⟨#[], #[.agg #[.int .i64 0, .int .i64 0, .string ⟨#[]⟩, .int .i64 0, .int .i64 0, .int .i64 0, .bool false, .bool false, .int .i64 0, .int .i64 0, .bool false, .bool false, .slice none 0 0], .agg #[.int .i64 0, .int .i64 0, .int .i64 0, .int .i64 0]], []⟩ 8 (by kernel_rfl) (by kernel_rfl) (by kernel_rfl) (by kernel_rfl)) ?_
 intro W base args ds gs before hval0 hW hcnd _
 have hval : ∀ (j : Nat) t v, Try.f3.params[j]? = some t → args[j]? = some v → Value.okWide Try.prog W .any base t v := hval0
 have hW' := hW
 obtain ⟨p, q, hA0, hV, rfl, hfz, hnd⟩ := hW
 have hA : DataW.TrodAll enc Try.prog W 0 (fun _ => true) true Try.f3.params.toList args.toList ds p := hA0
 rw [Try.params3] at hA hval
 obtain ⟨v0, vs0, d0, ds0, p0, q0, hargs, rfl, rfl, h0, r0⟩ := trodAll_cons hA
 obtain ⟨v1, vs1, d1, ds1, p1, q1, rfl, rfl, rfl, h1, r1⟩ := trodAll_cons r0
 obtain ⟨rfl, rfl, rfl⟩ := trodAll_nil r1
 obtain rfl : args = #[v0, v1] := by cases args; simp_all
 obtain ⟨rfl, rfl⟩ := trodVars_none hV
 have j0 := h0
 have lt0 : ∀ x ∈ p0, x.block < W.heap.size := by obtain ⟨m, hm⟩ := j0; exact DataW.trod_lt m _ _ _ hm
 obtain ⟨cs0, rfl, _⟩ := okWide_struct Try.underlying26 (hval 0 26 v0 rfl rfl)
 obtain ⟨fu0, hf0⟩ := h0
 obtain ⟨T0, lv0, hcs0, hLI0, wT0⟩ := open_exp fu0 _ _ hf0
 obtain ⟨pp0, cl0, hlv0, _⟩ := hLI0.form
 obtain ⟨ln0, hln0⟩ : ∃ ln, T0.l.length = ln := ⟨_, rfl⟩
 rw [hln0] at hlv0
 subst hlv0
 obtain rfl : cs0 = (cellsT T0 (.slice pp0 ln0 cl0)).toArray := by rw [← hcs0]; simp [Value.cells]
 have j1 := h1
 have lt1 : ∀ x ∈ p1, x.block < W.heap.size := by obtain ⟨m, hm⟩ := j1; exact DataW.trod_lt m _ _ _ hm
 obtain ⟨cc0, cc1, cc2, cc3, yy0, yy1, yy2, yy3, m1, rfl, hd1, hp1, hy0, hy1, hy2, hy3⟩ := open_agg4 Try.underlying28 (by kernel_rfl) cells_three (hval 1 28 v1 rfl rfl) h1
 obtain ⟨Lp1, f0, _, wLp1⟩ := DataW.trod_int Try.underlying3 hy0
 obtain ⟨Lq1, f1, _, wLq1⟩ := DataW.trod_int Try.underlying3 hy1
 obtain ⟨Lu1, f2, _, wLu1⟩ := DataW.trod_int Try.underlying3 hy2
 obtain ⟨Lv1, f3, _, wLv1⟩ := DataW.trod_int Try.underlying3 hy3
 simp only [List.cons.injEq, and_true] at f0 f1 f2 f3
 obtain rfl := f0
 obtain rfl := f1
 obtain rfl := f2
 obtain rfl := f3
 clear hA0 hval0
 refine (walk T0 pp0 ln0 cl0 Lp1 Lq1 Lu1 Lv1 wT0 hLI0 wLp1 wLq1 wLu1 wLv1).mono fun e W' ⟨he, bel⟩ => ?_
 subst he
 exact ⟨_, rfl, _, _, _, [], _, [], hW', trodAll_mk1 (shut_bool Try.underlying4 _), (trodAll_cons_mk (Below.trod laidOut (by kernel_rfl) (of_decide_eq_true (by kernel_rfl)) j0 bel lt0) (trodAll_cons_mk (Below.trod laidOut (by kernel_rfl) (of_decide_eq_true (by kernel_rfl)) j1 bel lt1) trodAll_mk0)), rfl, Below.frame bel _, fun h => by cases h⟩

theorem over : Rows.relFormsRow.holds Try.pinned (OpenSpec.ofChange Rows.relFormsSpec) :=
 OpenClaim.holds_of_wide 3 Try.f3 rfl rfl rfl rfl rfl rfl rfl ⟨rfl, rfl, rfl, rfl, rfl⟩ rfl rfl rfl rfl rfl (by kernel_rfl) Try.func3 (by kernel_rfl)
   (of_decide_eq_true (by kernel_rfl)) (by unfold Func.isWrapper; first | (rw [if_pos (by decide +kernel)]; kernel_rfl) | (rw [if_neg (by decide +kernel)]; exact ⟨rfl, rfl⟩))
   (fun os started H enc _ => lifted os started H enc)

theorem proved : Rows.RelFormsSaid := over
end Go.Proofs.Ytcggiljlilbdfaa.relForms
namespace Go.Proofs.Ytcggiljlilbdfaa
theorem relForms_holds : Rows.RelFormsSaid := relForms.proved
end Go.Proofs.Ytcggiljlilbdfaa
