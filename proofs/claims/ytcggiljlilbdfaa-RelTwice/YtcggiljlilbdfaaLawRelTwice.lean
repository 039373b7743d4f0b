/-
 RelTwice is proved: for every tree (without a ring) and every four ints the call returns true and the arguments read as they did. No condition but the form's own reach.
-/
import Derived.Test.YtcggiljlilbdfaaQ38
import Derived.Test.YtcggiljlilbdfaaQ37
import Derived.Test.YtcggiljlilbdfaaQ45
import Derived.Test.YtcggiljlilbdfaaQ46
import Derived.Test.YtcggiljlilbdfaaQ14
import Derived.Test.YtcggiljlilbdfaaQ18
import Derived.Test.YtcggiljlilbdfaaQ24
import Derived.Test.YtcggiljlilbdfaaRows
import Derived.ProofKit
import Derived.OpenShut
import Derived.ChangeOld
import Derived.SizedLaws
import Derived.Lib.SmallJoins
namespace Go.Proofs.Ytcggiljlilbdfaa.relTwice
open Go.ChangeShapes Go.WideShapes Go.ChangeAt Go.RowKit Go.Joins
set_option maxHeartbeats 6000000
set_option maxRecDepth 100000

theorem own : ownKnob Try.prog.godebug = none := by kernel_rfl
theorem small_law (t : T) (pp : Option Addr) (ln cl : Nat) (w : World) (hL : IsL w (fun _ => True) (.slice pp ln cl) t.l) :
   Calls Try.prog 11 #[.agg #[.int .i64 t.k, .int .i64 t.n, .string (bs t.s), .int .i64 t.e, .int .i64 t.r.1, .int .i64 t.r.2.1, .bool t.r.2.2.1, .bool t.r.2.2.2, .int .i64 t.q.1, .int .i64 t.q.2.1, .bool t.q.2.2.1, .bool t.q.2.2.2, .slice pp ln cl]] w fun e w' => ∃ ok, e = .returned (.bool ok) ∧ Ext w w' ∧ (ok = true → Hr 401 t ∧ szT 401 t ≤ 1000) := by
 have c1 := fun W h => small_any 401 (Nat.le_refl _) t W (fun _ => True) pp ln cl 1000 (by decide) (by decide) h
 rw [show (401 : Int) - ((401 : Nat) : Int) = 0 from rfl] at c1
 have HI : Hid (IsL w (fun _ => True) (.slice pp ln cl) t.l) := hL
 clear hL
 go_enter Try.func11, Try.ntmps11
 go_wp2_with fail
 refine (c1 _ (HI.out.ext ((Ext.refl _).alloc _))).mono ?_
 rintro e w1 ⟨m, ok, rfl, E1, h1, h2, h3, hok⟩
 have HR : Hid (Ext w w1 ∧ (ok = true → m = szT 401 t ∧ Hr 401 t ∧ m ≤ max 1000 1)) := ⟨((Ext.refl _).alloc _).trans E1, hok⟩
 clear hok E1 h3
 go_wp2_with fail
 go_ret
 refine ⟨ok, rfl, HR.out.1, fun h => ?_⟩
 obtain ⟨q1, q2, q3⟩ := HR.out.2 h
 exact ⟨q2, by omega⟩
theorem walk (t : T) (pp : Option Addr) (ln cl : Nat) (o0 o1 o2 o3 : Int) (hW : Wf t) {w : World} (hL : IsL w (fun _ => True) (.slice pp ln cl) t.l) (_ : (Lit.int .i64 o0).wf = true) (_ : (Lit.int .i64 o1).wf = true) (_ : (Lit.int .i64 o2).wf = true) (_ : (Lit.int .i64 o3).wf = true) :
   Calls Try.prog 7 #[.agg #[.int .i64 t.k, .int .i64 t.n, .string (bs t.s), .int .i64 t.e, .int .i64 t.r.1, .int .i64 t.r.2.1, .bool t.r.2.2.1, .bool t.r.2.2.2, .int .i64 t.q.1, .int .i64 t.q.2.1, .bool t.q.2.2.1, .bool t.q.2.2.2, .slice pp ln cl], .agg #[.int .i64 o0, .int .i64 o1, .int .i64 o2, .int .i64 o3]] w fun e w' => e = .returned (.bool true) ∧ Ext w w' := by
 have HI : Hid (IsL w (fun _ => True) (.slice pp ln cl) t.l) := hL
 have HWF : Hid (Wf t) := hW
 clear hL hW
 go_enter Try.func7, Try.ntmps7
 go_wp2_with fail
 have HA : Hid (Ext w ((w.alloc (.cells #[.int .i64 t.k, .int .i64 t.n, .string (bs t.s), .int .i64 t.e, .int .i64 t.r.1, .int .i64 t.r.2.1, .bool t.r.2.2.1, .bool t.r.2.2.2, .int .i64 t.q.1, .int .i64 t.q.2.1, .bool t.q.2.2.1, .bool t.q.2.2.2, .slice pp ln cl] 26)).alloc (.cells #[.int .i64 o0, .int .i64 o1, .int .i64 o2, .int .i64 o3] 28)) ∧ BlkX ((w.alloc (.cells #[.int .i64 t.k, .int .i64 t.n, .string (bs t.s), .int .i64 t.e, .int .i64 t.r.1, .int .i64 t.r.2.1, .bool t.r.2.2.1, .bool t.r.2.2.2, .int .i64 t.q.1, .int .i64 t.q.2.1, .bool t.q.2.2.1, .bool t.q.2.2.2, .slice pp ln cl] 26)).alloc (.cells #[.int .i64 o0, .int .i64 o1, .int .i64 o2, .int .i64 o3] 28)) w.heap.size t (.slice pp ln cl) ∧ Blk ((w.alloc (.cells #[.int .i64 t.k, .int .i64 t.n, .string (bs t.s), .int .i64 t.e, .int .i64 t.r.1, .int .i64 t.r.2.1, .bool t.r.2.2.1, .bool t.r.2.2.2, .int .i64 t.q.1, .int .i64 t.q.2.1, .bool t.q.2.2.1, .bool t.q.2.2.2, .slice pp ln cl] 26)).alloc (.cells #[.int .i64 o0, .int .i64 o1, .int .i64 o2, .int .i64 o3] 28)) (w.heap.size + 1) (.int .i64 o0) (.int .i64 o1) (.int .i64 o2) (.int .i64 o3)) := ⟨((Ext.refl _).alloc _).alloc _, blk13_top rfl ((Ext.refl _).alloc _), blk_top (by simp) (Ext.refl _)⟩
 generalize ((w.alloc (.cells #[.int .i64 t.k, .int .i64 t.n, .string (bs t.s), .int .i64 t.e, .int .i64 t.r.1, .int .i64 t.r.2.1, .bool t.r.2.2.1, .bool t.r.2.2.2, .int .i64 t.q.1, .int .i64 t.q.2.1, .bool t.q.2.2.1, .bool t.q.2.2.2, .slice pp ln cl] 26)).alloc (.cells #[.int .i64 o0, .int .i64 o1, .int .i64 o2, .int .i64 o3] 28)) = w0 at *
 refine (small_law t pp ln cl _ (HI.out.ext HA.out.1)).mono ?_
 rintro e w1 ⟨ok, rfl, E1, hok⟩
 have HE1 : Hid (Ext w w1 ∧ BlkX w1 w.heap.size t (.slice pp ln cl) ∧ Blk w1 (w.heap.size + 1) (.int .i64 o0) (.int .i64 o1) (.int .i64 o2) (.int .i64 o3)) := ⟨HA.out.1.trans E1, HA.out.2.1.ext E1, HA.out.2.2.ext E1⟩
 clear E1 HA
 cases ok
 · clear hok
   go_wp2_with fail
   refine (lives10_any _).mono ?_
   rintro e w9 ⟨rfl, E9⟩
   have HE9 : Hid (Ext w w9) := Ext.trans HE1.out.1 E9
   clear E9
   go_wp2_with fail
   go_ret
   exact ⟨rfl, HE9.out⟩
 · have HH : Hid (Hr 401 t ∧ szT 401 t ≤ 1000) := hok rfl
   clear hok
   obtain ⟨qz, ⟨k0, k1, k2, k3, k4, k5, k6, k7, k8, k9, k10, k11, k12⟩, gz⟩ := HE1.out.2.1
   clear gz qz
   have C0 := rwell_any (fun _ => True) 401 t HH.out.1 w1 pp ln cl (HI.out.ext HE1.out.1)
   go_wp2_with fail
   refine C0.mono ?_
   rintro e W1 ⟨rfl, E2⟩
   replace HE1 : Hid (Ext w W1 ∧ BlkX W1 w.heap.size t (.slice pp ln cl) ∧ Blk W1 (w.heap.size + 1) (.int .i64 o0) (.int .i64 o1) (.int .i64 o2) (.int .i64 o3)) := ⟨HE1.out.1.trans E2, HE1.out.2.1.ext E2, HE1.out.2.2.ext E2⟩
   clear E2 C0 k0 k1 k2 k3 k4 k5 k6 k7 k8 k9 k10 k11 k12
   cases hwl : wellT 401 t
   · clear hwl
     go_wp2_with fail
     refine (lives10_any _).mono ?_
     rintro e w9 ⟨rfl, E9⟩
     have HE9 : Hid (Ext w w9) := Ext.trans HE1.out.1 E9
     clear E9
     go_wp2_with fail
     go_ret
     exact ⟨rfl, HE9.out⟩
   · have HWT : Hid (wellT 401 t = true) := hwl
     clear hwl
     go_upto_region 3 with fail
     obtain ⟨N1, hN1⟩ : ∃ N, N + 1 = W1.heap.size := ⟨W1.heap.size - 1, by have h := HE1.out.2.2.1; omega⟩
     have HNW : Hid (N1 + 1 = W1.heap.size) := hN1
     have HN1 : Hid (N1 < W1.heap.size) := by show _ < _; omega
     clear hN1
     have OA : Hid (∀ V, Ext W1 V → Calls Try.prog 14 #[.agg #[.int .i64 t.k, .int .i64 t.n, .string (bs t.s), .int .i64 t.e, .int .i64 t.r.1, .int .i64 t.r.2.1, .bool t.r.2.2.1, .bool t.r.2.2.2, .int .i64 t.q.1, .int .i64 t.q.2.1, .bool t.q.2.2.1, .bool t.q.2.2.2, .slice pp ln cl]] V (OwnQ V t)) := fun V e => own_any 401 t HH.out.1 V (fun _ => True) pp ln cl (HI.out.ext (HE1.out.1.trans e))
     have mkS : Hid (∀ V, Ext W1 V → V.cell? ⟨w.heap.size, 0, none⟩ = some (.int .i64 t.k) ∧ V.cell? ⟨w.heap.size, 1, none⟩ = some (.int .i64 t.n) ∧ V.cell? ⟨w.heap.size, 2, none⟩ = some (.string (bs t.s)) ∧ V.cell? ⟨w.heap.size, 3, none⟩ = some (.int .i64 t.e) ∧ V.cell? ⟨w.heap.size, 4, none⟩ = some (.int .i64 t.r.1) ∧ V.cell? ⟨w.heap.size, 5, none⟩ = some (.int .i64 t.r.2.1) ∧ V.cell? ⟨w.heap.size, 6, none⟩ = some (.bool t.r.2.2.1) ∧ V.cell? ⟨w.heap.size, 7, none⟩ = some (.bool t.r.2.2.2) ∧ V.cell? ⟨w.heap.size, 8, none⟩ = some (.int .i64 t.q.1) ∧ V.cell? ⟨w.heap.size, 9, none⟩ = some (.int .i64 t.q.2.1) ∧ V.cell? ⟨w.heap.size, 10, none⟩ = some (.bool t.q.2.2.1) ∧ V.cell? ⟨w.heap.size, 11, none⟩ = some (.bool t.q.2.2.2) ∧ V.cell? ⟨w.heap.size, 12, none⟩ = some (.slice pp ln cl) ∧ V.cell? ⟨w.heap.size + 1, 0, none⟩ = some (.int .i64 o0) ∧ V.cell? ⟨w.heap.size + 1, 1, none⟩ = some (.int .i64 o1) ∧ V.cell? ⟨w.heap.size + 1, 2, none⟩ = some (.int .i64 o2) ∧ V.cell? ⟨w.heap.size + 1, 3, none⟩ = some (.int .i64 o3)) := fun V e => by
       obtain ⟨qz, ⟨k0, k1, k2, k3, k4, k5, k6, k7, k8, k9, k10, k11, k12⟩, gz⟩ := HE1.out.2.1.ext e
       obtain ⟨qx, ⟨n0, n1, n2, n3⟩, gx⟩ := HE1.out.2.2.ext e
       exact ⟨k0, k1, k2, k3, k4, k5, k6, k7, k8, k9, k10, k11, k12, n0, n1, n2, n3⟩
     have FIc : Hid (∀ V p l c, IsL V (fun _ => True) (.slice p l c) t.l → Calls Try.prog 21 #[.agg #[.int .i64 t.k, .int .i64 t.n, .string (bs t.s), .int .i64 t.e, .int .i64 t.r.1, .int .i64 t.r.2.1, .bool t.r.2.2.1, .bool t.r.2.2.2, .int .i64 t.q.1, .int .i64 t.q.2.1, .bool t.q.2.2.1, .bool t.q.2.2.2, .slice p l c], .int .i64 o0, .int .i64 o1] V (MpQ V (if wellT 401 t then mpT (fiE o0 o1) 401 t else tz))) := fun V p l c h => fill_any 401 t HH.out.1 o0 o1 V (fun _ => True) p l c h
     obtain ⟨y, hy⟩ : ∃ y, (if wellT 401 t then mpT (fiE o0 o1) 401 t else tz) = y := ⟨_, rfl⟩
     have HY : Hid ((if wellT 401 t then mpT (fiE o0 o1) 401 t else tz) = y) := hy
     rw [hy] at FIc
     clear hy
     go_cut [5] (fun pa wx => ∃ (ga : Nat) (p2 : Option Addr) (l2 c2 : Nat), pa = .pointer (some ⟨ga, 0, none⟩) ∧ BlkX wx ga y (.slice p2 l2 c2) ∧ IsL wx (fun k => k ≠ ga) (.slice p2 l2 c2) y.l ∧ Ext W1 wx ∧ N1 < ga)
     case first =>
       clear HY HWF
       refine bar_begin (B := fun _ => false) (S := fun V => V.cell? ⟨w.heap.size, 0, none⟩ = some (.int .i64 t.k) ∧ V.cell? ⟨w.heap.size, 1, none⟩ = some (.int .i64 t.n) ∧ V.cell? ⟨w.heap.size, 2, none⟩ = some (.string (bs t.s)) ∧ V.cell? ⟨w.heap.size, 3, none⟩ = some (.int .i64 t.e) ∧ V.cell? ⟨w.heap.size, 4, none⟩ = some (.int .i64 t.r.1) ∧ V.cell? ⟨w.heap.size, 5, none⟩ = some (.int .i64 t.r.2.1) ∧ V.cell? ⟨w.heap.size, 6, none⟩ = some (.bool t.r.2.2.1) ∧ V.cell? ⟨w.heap.size, 7, none⟩ = some (.bool t.r.2.2.2) ∧ V.cell? ⟨w.heap.size, 8, none⟩ = some (.int .i64 t.q.1) ∧ V.cell? ⟨w.heap.size, 9, none⟩ = some (.int .i64 t.q.2.1) ∧ V.cell? ⟨w.heap.size, 10, none⟩ = some (.bool t.q.2.2.1) ∧ V.cell? ⟨w.heap.size, 11, none⟩ = some (.bool t.q.2.2.2) ∧ V.cell? ⟨w.heap.size, 12, none⟩ = some (.slice pp ln cl) ∧ V.cell? ⟨w.heap.size + 1, 0, none⟩ = some (.int .i64 o0) ∧ V.cell? ⟨w.heap.size + 1, 1, none⟩ = some (.int .i64 o1) ∧ V.cell? ⟨w.heap.size + 1, 2, none⟩ = some (.int .i64 o2) ∧ V.cell? ⟨w.heap.size + 1, 3, none⟩ = some (.int .i64 o3)) (by kernel_rfl) ?_
       obtain ⟨y0, hy0⟩ : ∃ y0, World.drew W1 = y0 := ⟨_, rfl⟩
       have X : Hid (Ext W1 y0) := by show Ext _ _; rw [← hy0]; exact (Ext.refl _).drew
       rw [hy0]
       clear hy0
       have hS0 := mkS.out y0 X.out
       refine bar_take (i := 0) (v := ?v0) rfl (by kernel_rfl) (by kernel_rfl) (by kernel_rfl) (by kernel_rfl) (fun _ _ _ h => h) (Or.inl ⟨by rfl, ?hy0⟩) hS0 ?rest0
       case hy0 => (intro W hSW; (try dsimp only at hSW); go_simp; with_reducible rfl)
       simp only [Act.put, List.setIfInBounds_toArray]
       refine bar_take (i := 2) (v := ?v2) rfl (by kernel_rfl) (by kernel_rfl) (by kernel_rfl) (by kernel_rfl) (fun _ _ _ h => h) (Or.inl ⟨by rfl, ?hy2⟩) hS0 ?rest2
       case hy2 => (intro W hSW; (try dsimp only at hSW); go_simp; with_reducible rfl)
       simp only [Act.put]
       refine bar_take (i := 3) (v := ?v3) rfl (by kernel_rfl) (by kernel_rfl) (by kernel_rfl) (by kernel_rfl) (fun _ _ _ h => h) (Or.inl ⟨by rfl, ?hy3⟩) hS0 ?rest3
       case hy3 => (intro W hSW; (try dsimp only at hSW); go_simp; with_reducible rfl)
       simp only [Act.put]
       refine bar_take (i := 4) (v := ?v4) rfl (by kernel_rfl) (by kernel_rfl) (by kernel_rfl) (by kernel_rfl) (fun _ _ _ h => h) (Or.inl ⟨by rfl, ?hy4⟩) hS0 ?rest4
       case hy4 => (intro W hSW; (try dsimp only at hSW); go_simp; with_reducible rfl)
       simp only [Act.put]
       refine bar_take (i := 5) (v := ?v5) rfl (by kernel_rfl) (by kernel_rfl) (by kernel_rfl) (by kernel_rfl) (fun _ _ _ h => h) (Or.inl ⟨by rfl, ?hy5⟩) hS0 ?rest5
       case hy5 => (intro W hSW; (try dsimp only at hSW); go_simp; with_reducible rfl)
       simp only [Act.put]
       clear hS0
       refine bar_list (rs := [1, 7]) (by kernel_rfl) (by simp) ?_
       refine Bars.cons rfl (fun KK hKK => ?_) ?_
       · go_simp
         go_wp2_with (go_at_call 14; refine Calls.mono (OA.out _ X.out) ?_; rintro e y1 ⟨lv1, rfl, hL1, E⟩; obtain ⟨p1, c1, hlv, hcl⟩ := hL1.form; obtain ⟨l1, hl1⟩ : ∃ l1, t.l.length = l1 := ⟨_, rfl⟩; rw [hl1] at hlv; subst hlv; have H1 : Hid (IsL y1 (fun _ => True) (.slice p1 l1 c1) t.l) := hL1.mono (fun _ _ _ => trivial); clear hL1 hcl hl1; unfold aggX)
         replace X : Hid (Ext W1 y1) := X.out.trans E
         refine hKK.out _ _ (fun _ => mkS.out _ X.out) ?_
         clear hKK KK
         clear E
         refine bar_list (rs := [6, 7]) (by kernel_rfl) (by simp) ?_
         refine Bars.cons rfl (fun KK hKK => ?_) ?_
         · go_simp
           go_wp2_with (go_at_call 21; refine Calls.mono (FIc.out _ p1 l1 c1 (H1.out.mono (fun _ _ _ => trivial))) ?_; rintro e y2 ⟨p2, l2, c2, rfl, hL2, E⟩; have H2 : Hid (IsL y2 (fun _ => True) (.slice p2 l2 c2) y.l) := hL2.mono (fun _ _ _ => trivial); clear hL2; unfold aggX)
           replace X : Hid (Ext W1 y2) := X.out.trans E
           refine hKK.out _ _ (fun _ => mkS.out _ X.out) ?_
           clear hKK KK
           replace H1 := hxL H1 E
           clear E
           refine bar_one (i := 7) (by kernel_rfl) rfl (fun KK hKK => ?_)
           go_simp
           refine hKK.out _ _ (fun _ => mkS.out _ (X.out.alloc _)) ?_
           clear hKK KK
           obtain ⟨y3, hya⟩ : ∃ ya, World.alloc y2 (.cells #[.int .i64 0, .int .i64 0, .string ⟨#[]⟩, .int .i64 0, .int .i64 0, .int .i64 0, .bool false, .bool false, .int .i64 0, .int .i64 0, .bool false, .bool false, .slice none 0 0] 26) = ya := ⟨_, rfl⟩
           obtain ⟨ga, hga⟩ : ∃ g, y2.heap.size = g := ⟨_, rfl⟩
           have E : Ext y2 y3 := by rw [← hya]; exact (Ext.refl _).alloc _
           have GA : Hid (BlkX y3 ga tz (.slice none 0 0)) := by rw [← hya, ← hga]; exact BlkX.top rfl (Ext.refl _)
           have NGA : Hid (N1 < ga) := by show _ < _; rw [← hga]; exact Nat.lt_of_lt_of_le HN1.out X.out.sz
           rw [hya, hga]
           replace X : Hid (Ext W1 y3) := X.out.trans E
           replace H1 : Hid (IsL y3 (fun k => k ≠ ga) (.slice p1 l1 c1) t.l) := (H1.out.mono (fun k _ hs => by have h2 : k < ga := (by rw [← hga]; exact hs); show k ≠ ga; omega)).ext E
           replace H2 : Hid (IsL y3 (fun k => k ≠ ga) (.slice p2 l2 c2) y.l) := (H2.out.mono (fun k _ hs => by have h2 : k < ga := (by rw [← hga]; exact hs); show k ≠ ga; omega)).ext E
           clear E hya hga
           obtain ⟨zb, ⟨b0, b1, b2, b3, b4, b5, b6, b7, b8, b9, b10, b11, b12⟩, bf0, bf1, bf2, bf3, bf4, bf5, bf6, bf7, bf8, bf9, bf10, bf11, bf12⟩ := GA.out
           refine bar_one (i := 8) (by kernel_rfl) rfl (fun KK hKK => ?_)
           go_simp
           have EP : Hid (Ext W1 (putX y3 ga y (.slice p2 l2 c2))) := putX_E X.out (by have h1 := HNW.out; have h3 := NGA.out; show W1.heap.size ≤ ga; omega) _ _
           refine hKK.out _ (putX y3 ga y (.slice p2 l2 c2)) (fun _ => mkS.out _ EP.out) ?_
           clear hKK KK zb b0 b1 b2 b3 b4 b5 b6 b7 b8 b9 b10 b11 b12 bf0 bf1 bf2 bf3 bf4 bf5 bf6 bf7 bf8 bf9 bf10 bf11 bf12
           replace GA : Hid (BlkX (putX y3 ga y (.slice p2 l2 c2)) ga y (.slice p2 l2 c2)) := GA.out.put _ _
           replace H2 : Hid (IsL (putX y3 ga y (.slice p2 l2 c2)) (fun k => k ≠ ga) (.slice p2 l2 c2) y.l) := putX_L H2.out (fun k hk => by have hk2 : k ≠ ga := hk; omega)
           replace X := EP
           clear EP
           generalize putX y3 ga y (.slice p2 l2 c2) = w4 at *
           refine bar_done (by kernel_rfl) ?_ _
           go_wp2_with fail
           go_meet
           case rel => exact ⟨ga, p2, l2, c2, rfl, GA.out, H2.out, X.out, NGA.out⟩
         · refine Bars.cons rfl (fun KK hKK => ?_) ?_
           · go_simp
             refine hKK.out _ _ (fun _ => mkS.out _ (X.out.alloc _)) ?_
             clear hKK KK
             obtain ⟨y2, hya⟩ : ∃ ya, World.alloc y1 (.cells #[.int .i64 0, .int .i64 0, .string ⟨#[]⟩, .int .i64 0, .int .i64 0, .int .i64 0, .bool false, .bool false, .int .i64 0, .int .i64 0, .bool false, .bool false, .slice none 0 0] 26) = ya := ⟨_, rfl⟩
             obtain ⟨ga, hga⟩ : ∃ g, y1.heap.size = g := ⟨_, rfl⟩
             have E : Ext y1 y2 := by rw [← hya]; exact (Ext.refl _).alloc _
             have GA : Hid (BlkX y2 ga tz (.slice none 0 0)) := by rw [← hya, ← hga]; exact BlkX.top rfl (Ext.refl _)
             have NGA : Hid (N1 < ga) := by show _ < _; rw [← hga]; exact Nat.lt_of_lt_of_le HN1.out X.out.sz
             rw [hya, hga]
             replace X : Hid (Ext W1 y2) := X.out.trans E
             replace H1 : Hid (IsL y2 (fun k => k ≠ ga) (.slice p1 l1 c1) t.l) := (H1.out.mono (fun k _ hs => by have h2 : k < ga := (by rw [← hga]; exact hs); show k ≠ ga; omega)).ext E
             clear E hya hga
             refine bar_one (i := 6) (by kernel_rfl) rfl (fun KK hKK => ?_)
             go_simp
             go_wp2_with (go_at_call 21; refine Calls.mono (FIc.out _ p1 l1 c1 (H1.out.mono (fun _ _ _ => trivial))) ?_; rintro e y3 ⟨p2, l2, c2, rfl, hL2, E⟩; have H2 : Hid (IsL y3 (fun k => k ≠ ga) (.slice p2 l2 c2) y.l) := hL2.mono (fun k hk _ => by have hk2 : y2.heap.size ≤ k := hk; have q0 := GA.out.1; show k ≠ ga; omega); clear hL2; unfold aggX)
             replace X : Hid (Ext W1 y3) := X.out.trans E
             refine hKK.out _ _ (fun _ => mkS.out _ X.out) ?_
             clear hKK KK
             replace H1 := hxL H1 E
             replace GA := hx13 GA E
             clear E
             obtain ⟨zb, ⟨b0, b1, b2, b3, b4, b5, b6, b7, b8, b9, b10, b11, b12⟩, bf0, bf1, bf2, bf3, bf4, bf5, bf6, bf7, bf8, bf9, bf10, bf11, bf12⟩ := GA.out
             refine bar_one (i := 8) (by kernel_rfl) rfl (fun KK hKK => ?_)
             go_simp
             have EP : Hid (Ext W1 (putX y3 ga y (.slice p2 l2 c2))) := putX_E X.out (by have h1 := HNW.out; have h3 := NGA.out; show W1.heap.size ≤ ga; omega) _ _
             refine hKK.out _ (putX y3 ga y (.slice p2 l2 c2)) (fun _ => mkS.out _ EP.out) ?_
             clear hKK KK zb b0 b1 b2 b3 b4 b5 b6 b7 b8 b9 b10 b11 b12 bf0 bf1 bf2 bf3 bf4 bf5 bf6 bf7 bf8 bf9 bf10 bf11 bf12
             replace GA : Hid (BlkX (putX y3 ga y (.slice p2 l2 c2)) ga y (.slice p2 l2 c2)) := GA.out.put _ _
             replace H2 : Hid (IsL (putX y3 ga y (.slice p2 l2 c2)) (fun k => k ≠ ga) (.slice p2 l2 c2) y.l) := putX_L H2.out (fun k hk => by have hk2 : k ≠ ga := hk; omega)
             replace X := EP
             clear EP
             generalize putX y3 ga y (.slice p2 l2 c2) = w4 at *
             refine bar_done (by kernel_rfl) ?_ _
             go_wp2_with fail
             go_meet
             case rel => exact ⟨ga, p2, l2, c2, rfl, GA.out, H2.out, X.out, NGA.out⟩
           · exact Bars.nil
       · refine Bars.cons rfl (fun KK hKK => ?_) ?_
         · go_simp
           refine hKK.out _ _ (fun _ => mkS.out _ (X.out.alloc _)) ?_
           clear hKK KK
           obtain ⟨y1, hya⟩ : ∃ ya, World.alloc y0 (.cells #[.int .i64 0, .int .i64 0, .string ⟨#[]⟩, .int .i64 0, .int .i64 0, .int .i64 0, .bool false, .bool false, .int .i64 0, .int .i64 0, .bool false, .bool false, .slice none 0 0] 26) = ya := ⟨_, rfl⟩
           obtain ⟨ga, hga⟩ : ∃ g, y0.heap.size = g := ⟨_, rfl⟩
           have E : Ext y0 y1 := by rw [← hya]; exact (Ext.refl _).alloc _
           have GA : Hid (BlkX y1 ga tz (.slice none 0 0)) := by rw [← hya, ← hga]; exact BlkX.top rfl (Ext.refl _)
           have NGA : Hid (N1 < ga) := by show _ < _; rw [← hga]; exact Nat.lt_of_lt_of_le HN1.out X.out.sz
           rw [hya, hga]
           replace X : Hid (Ext W1 y1) := X.out.trans E
           clear E hya hga
           refine bar_one (i := 1) (by kernel_rfl) rfl (fun KK hKK => ?_)
           go_simp
           go_wp2_with (go_at_call 14; refine Calls.mono (OA.out _ X.out) ?_; rintro e y2 ⟨lv1, rfl, hL1, E⟩; obtain ⟨p1, c1, hlv, hcl⟩ := hL1.form; obtain ⟨l1, hl1⟩ : ∃ l1, t.l.length = l1 := ⟨_, rfl⟩; rw [hl1] at hlv; subst hlv; have H1 : Hid (IsL y2 (fun k => k ≠ ga) (.slice p1 l1 c1) t.l) := hL1.mono (fun k hk _ => by have hk2 : y1.heap.size ≤ k := hk; have q0 := GA.out.1; show k ≠ ga; omega); clear hL1 hcl hl1; unfold aggX)
           replace X : Hid (Ext W1 y2) := X.out.trans E
           refine hKK.out _ _ (fun _ => mkS.out _ X.out) ?_
           clear hKK KK
           replace GA := hx13 GA E
           clear E
           refine bar_one (i := 6) (by kernel_rfl) rfl (fun KK hKK => ?_)
           go_simp
           go_wp2_with (go_at_call 21; refine Calls.mono (FIc.out _ p1 l1 c1 (H1.out.mono (fun _ _ _ => trivial))) ?_; rintro e y3 ⟨p2, l2, c2, rfl, hL2, E⟩; have H2 : Hid (IsL y3 (fun k => k ≠ ga) (.slice p2 l2 c2) y.l) := hL2.mono (fun k hk _ => by have hk2 : y2.heap.size ≤ k := hk; have q0 := GA.out.1; show k ≠ ga; omega); clear hL2; unfold aggX)
           replace X : Hid (Ext W1 y3) := X.out.trans E
           refine hKK.out _ _ (fun _ => mkS.out _ X.out) ?_
           clear hKK KK
           replace GA := hx13 GA E
           replace H1 := hxL H1 E
           clear E
           obtain ⟨zb, ⟨b0, b1, b2, b3, b4, b5, b6, b7, b8, b9, b10, b11, b12⟩, bf0, bf1, bf2, bf3, bf4, bf5, bf6, bf7, bf8, bf9, bf10, bf11, bf12⟩ := GA.out
           refine bar_one (i := 8) (by kernel_rfl) rfl (fun KK hKK => ?_)
           go_simp
           have EP : Hid (Ext W1 (putX y3 ga y (.slice p2 l2 c2))) := putX_E X.out (by have h1 := HNW.out; have h3 := NGA.out; show W1.heap.size ≤ ga; omega) _ _
           refine hKK.out _ (putX y3 ga y (.slice p2 l2 c2)) (fun _ => mkS.out _ EP.out) ?_
           clear hKK KK zb b0 b1 b2 b3 b4 b5 b6 b7 b8 b9 b10 b11 b12 bf0 bf1 bf2 bf3 bf4 bf5 bf6 bf7 bf8 bf9 bf10 bf11 bf12
           replace GA : Hid (BlkX (putX y3 ga y (.slice p2 l2 c2)) ga y (.slice p2 l2 c2)) := GA.out.put _ _
           replace H2 : Hid (IsL (putX y3 ga y (.slice p2 l2 c2)) (fun k => k ≠ ga) (.slice p2 l2 c2) y.l) := putX_L H2.out (fun k hk => by have hk2 : k ≠ ga := hk; omega)
           replace X := EP
           clear EP
           generalize putX y3 ga y (.slice p2 l2 c2) = w4 at *
           refine bar_done (by kernel_rfl) ?_ _
           go_wp2_with fail
           go_meet
           case rel => exact ⟨ga, p2, l2, c2, rfl, GA.out, H2.out, X.out, NGA.out⟩
         · exact Bars.nil
     case rest =>
       obtain ⟨ga, p2, l2, c2, rfl, QA, QL, QE, hga⟩ := hcut
       have HQ : Hid ((Ext w wc ∧ BlkX wc w.heap.size t (.slice pp ln cl) ∧ Blk wc (w.heap.size + 1) (.int .i64 o0) (.int .i64 o1) (.int .i64 o2) (.int .i64 o3)) ∧ BlkX wc ga y (.slice p2 l2 c2) ∧ IsL wc (fun _ => True) (.slice p2 l2 c2) y.l) := ⟨⟨HE1.out.1.trans QE, HE1.out.2.1.ext QE, HE1.out.2.2.ext QE⟩, QA, QL.mono (fun _ _ _ => trivial)⟩
       have HHy : Hid (Hr 401 y) := by show Hr 401 y; rw [← HY.out]; exact hr_filled o0 o1 401 t HH.out.1
       have HGA : Hid (w.heap.size + 1 < ga) := by show _ < _; have h1 := HE1.out.2.2.1; have h2 := HNW.out; omega
       clear mkS FIc OA QA QL QE hga HNW HN1
       have mkS : Hid (∀ V, Ext wc V → V.cell? ⟨w.heap.size, 0, none⟩ = some (.int .i64 t.k) ∧ V.cell? ⟨w.heap.size, 1, none⟩ = some (.int .i64 t.n) ∧ V.cell? ⟨w.heap.size, 2, none⟩ = some (.string (bs t.s)) ∧ V.cell? ⟨w.heap.size, 3, none⟩ = some (.int .i64 t.e) ∧ V.cell? ⟨w.heap.size, 4, none⟩ = some (.int .i64 t.r.1) ∧ V.cell? ⟨w.heap.size, 5, none⟩ = some (.int .i64 t.r.2.1) ∧ V.cell? ⟨w.heap.size, 6, none⟩ = some (.bool t.r.2.2.1) ∧ V.cell? ⟨w.heap.size, 7, none⟩ = some (.bool t.r.2.2.2) ∧ V.cell? ⟨w.heap.size, 8, none⟩ = some (.int .i64 t.q.1) ∧ V.cell? ⟨w.heap.size, 9, none⟩ = some (.int .i64 t.q.2.1) ∧ V.cell? ⟨w.heap.size, 10, none⟩ = some (.bool t.q.2.2.1) ∧ V.cell? ⟨w.heap.size, 11, none⟩ = some (.bool t.q.2.2.2) ∧ V.cell? ⟨w.heap.size, 12, none⟩ = some (.slice pp ln cl) ∧ V.cell? ⟨w.heap.size + 1, 0, none⟩ = some (.int .i64 o0) ∧ V.cell? ⟨w.heap.size + 1, 1, none⟩ = some (.int .i64 o1) ∧ V.cell? ⟨w.heap.size + 1, 2, none⟩ = some (.int .i64 o2) ∧ V.cell? ⟨w.heap.size + 1, 3, none⟩ = some (.int .i64 o3) ∧ V.cell? ⟨ga, 0, none⟩ = some (.int .i64 y.k) ∧ V.cell? ⟨ga, 1, none⟩ = some (.int .i64 y.n) ∧ V.cell? ⟨ga, 2, none⟩ = some (.string (bs y.s)) ∧ V.cell? ⟨ga, 3, none⟩ = some (.int .i64 y.e) ∧ V.cell? ⟨ga, 4, none⟩ = some (.int .i64 y.r.1) ∧ V.cell? ⟨ga, 5, none⟩ = some (.int .i64 y.r.2.1) ∧ V.cell? ⟨ga, 6, none⟩ = some (.bool y.r.2.2.1) ∧ V.cell? ⟨ga, 7, none⟩ = some (.bool y.r.2.2.2) ∧ V.cell? ⟨ga, 8, none⟩ = some (.int .i64 y.q.1) ∧ V.cell? ⟨ga, 9, none⟩ = some (.int .i64 y.q.2.1) ∧ V.cell? ⟨ga, 10, none⟩ = some (.bool y.q.2.2.1) ∧ V.cell? ⟨ga, 11, none⟩ = some (.bool y.q.2.2.2) ∧ V.cell? ⟨ga, 12, none⟩ = some (.slice p2 l2 c2)) := fun V e => by
         obtain ⟨qz, ⟨k0, k1, k2, k3, k4, k5, k6, k7, k8, k9, k10, k11, k12⟩, gz⟩ := HQ.out.1.2.1.ext e
         obtain ⟨qx, ⟨n0, n1, n2, n3⟩, gx⟩ := HQ.out.1.2.2.ext e
         obtain ⟨qy, ⟨m0, m1, m2, m3, m4, m5, m6, m7, m8, m9, m10, m11, m12⟩, gy⟩ := HQ.out.2.1.ext e
         exact ⟨k0, k1, k2, k3, k4, k5, k6, k7, k8, k9, k10, k11, k12, n0, n1, n2, n3, m0, m1, m2, m3, m4, m5, m6, m7, m8, m9, m10, m11, m12⟩
       have ERy : Hid (∀ V, Ext wc V → Calls Try.prog 24 #[.agg #[.int .i64 y.k, .int .i64 y.n, .string (bs y.s), .int .i64 y.e, .int .i64 y.r.1, .int .i64 y.r.2.1, .bool y.r.2.2.1, .bool y.r.2.2.2, .int .i64 y.q.1, .int .i64 y.q.2.1, .bool y.q.2.2.1, .bool y.q.2.2.2, .slice p2 l2 c2]] V fun e w' => e = .returned (.int .i64 ((erT 401 y : Nat) : Int)) ∧ Ext V w') := fun V e => errs_any 401 y HHy.out V (fun _ => True) p2 l2 c2 (HQ.out.2.2.ext e) (Nat.le_trans (er_len 401 y) (by rw [← HY.out]; have := sz_filled o0 o1 401 t; have := HH.out.2; omega))
       have ERt : Hid (∀ V, Ext wc V → Calls Try.prog 24 #[.agg #[.int .i64 t.k, .int .i64 t.n, .string (bs t.s), .int .i64 t.e, .int .i64 t.r.1, .int .i64 t.r.2.1, .bool t.r.2.2.1, .bool t.r.2.2.2, .int .i64 t.q.1, .int .i64 t.q.2.1, .bool t.q.2.2.1, .bool t.q.2.2.2, .slice pp ln cl]] V fun e w' => e = .returned (.int .i64 ((erT 401 t : Nat) : Int)) ∧ Ext V w') := fun V e => errs_any 401 t HH.out.1 V (fun _ => True) pp ln cl (HI.out.ext (HQ.out.1.1.trans e)) (Nat.le_trans (er_len 401 t) (by have := HH.out.2; omega))
       obtain ⟨ny, hny⟩ : ∃ ny, erT 401 y = ny := ⟨_, rfl⟩
       obtain ⟨nt, hnt⟩ : ∃ nt, erT 401 t = nt := ⟨_, rfl⟩
       rw [hny] at ERy
       rw [hnt] at ERt
       go_upto_region 4 with fail
       by_cases hne : ny = nt
       · have b0 : ((ny : Int) != (nt : Int)) = false := by rw [hne]; simp
         have HEQ : Hid (erT 401 y = erT 401 t) := by show _ = _; rw [hny, hnt, hne]
         clear hny hnt hne
         refine wp_region_held_drew (S := (fun V => V.cell? ⟨w.heap.size, 0, none⟩ = some (.int .i64 t.k) ∧ V.cell? ⟨w.heap.size, 1, none⟩ = some (.int .i64 t.n) ∧ V.cell? ⟨w.heap.size, 2, none⟩ = some (.string (bs t.s)) ∧ V.cell? ⟨w.heap.size, 3, none⟩ = some (.int .i64 t.e) ∧ V.cell? ⟨w.heap.size, 4, none⟩ = some (.int .i64 t.r.1) ∧ V.cell? ⟨w.heap.size, 5, none⟩ = some (.int .i64 t.r.2.1) ∧ V.cell? ⟨w.heap.size, 6, none⟩ = some (.bool t.r.2.2.1) ∧ V.cell? ⟨w.heap.size, 7, none⟩ = some (.bool t.r.2.2.2) ∧ V.cell? ⟨w.heap.size, 8, none⟩ = some (.int .i64 t.q.1) ∧ V.cell? ⟨w.heap.size, 9, none⟩ = some (.int .i64 t.q.2.1) ∧ V.cell? ⟨w.heap.size, 10, none⟩ = some (.bool t.q.2.2.1) ∧ V.cell? ⟨w.heap.size, 11, none⟩ = some (.bool t.q.2.2.2) ∧ V.cell? ⟨w.heap.size, 12, none⟩ = some (.slice pp ln cl) ∧ V.cell? ⟨w.heap.size + 1, 0, none⟩ = some (.int .i64 o0) ∧ V.cell? ⟨w.heap.size + 1, 1, none⟩ = some (.int .i64 o1) ∧ V.cell? ⟨w.heap.size + 1, 2, none⟩ = some (.int .i64 o2) ∧ V.cell? ⟨w.heap.size + 1, 3, none⟩ = some (.int .i64 o3) ∧ V.cell? ⟨ga, 0, none⟩ = some (.int .i64 y.k) ∧ V.cell? ⟨ga, 1, none⟩ = some (.int .i64 y.n) ∧ V.cell? ⟨ga, 2, none⟩ = some (.string (bs y.s)) ∧ V.cell? ⟨ga, 3, none⟩ = some (.int .i64 y.e) ∧ V.cell? ⟨ga, 4, none⟩ = some (.int .i64 y.r.1) ∧ V.cell? ⟨ga, 5, none⟩ = some (.int .i64 y.r.2.1) ∧ V.cell? ⟨ga, 6, none⟩ = some (.bool y.r.2.2.1) ∧ V.cell? ⟨ga, 7, none⟩ = some (.bool y.r.2.2.2) ∧ V.cell? ⟨ga, 8, none⟩ = some (.int .i64 y.q.1) ∧ V.cell? ⟨ga, 9, none⟩ = some (.int .i64 y.q.2.1) ∧ V.cell? ⟨ga, 10, none⟩ = some (.bool y.q.2.2.1) ∧ V.cell? ⟨ga, 11, none⟩ = some (.bool y.q.2.2.2) ∧ V.cell? ⟨ga, 12, none⟩ = some (.slice p2 l2 c2))) (by kernel_rfl) ?_ (fun hHeld0 => ?_)
         · (refine mkS.out _ ?_; ((with_reducible (repeat (first | assumption | exact Ext.refl _ | apply Ext.alloc | apply Ext.drew | apply Ext.drewN))); done))
         refine wpAnyH_take (i := 0) (oi := ⟨some 22, .load 26 (.tmp 5), 26, "law.go:97", #[], none⟩) (v := ?_) rfl (by kernel_rfl) (by kernel_rfl) (by kernel_rfl) (fun _ _ _ h => h) (Or.inl ⟨by rfl, ?_⟩) (by assumption) ?_
         rotate_left
         · intro w hSw; (try dsimp only at hSw); first | (go_simp; done) | (go_simp; with_reducible rfl)
         try simp only [Act.put, List.setIfInBounds_toArray, List.set_cons_zero, List.set_cons_succ]
         refine wpAnyH_take (i := 2) (oi := ⟨some 24, .load 26 (.tmp 2), 26, "law.go:97", #[], none⟩) (v := ?_) rfl (by kernel_rfl) (by kernel_rfl) (by kernel_rfl) (fun _ _ _ h => h) (Or.inl ⟨by rfl, ?_⟩) (by assumption) ?_
         rotate_left
         · intro w hSw; (try dsimp only at hSw); first | (go_simp; done) | (go_simp; with_reducible rfl)
         try simp only [Act.put, List.setIfInBounds_toArray, List.set_cons_zero, List.set_cons_succ]
         refine wpAnyH_ready (rs := [1]) (by kernel_rfl) (by simp) ?_
         refine AllReadyH.cons (o := ⟨some 23, .call { callee := .value (.func 24), args := #[.tmp 22], argTypes := #[26] }, 3, "law.go:97", #[⟨0, .data⟩], none⟩) rfl (fun K hK => ?_) AllReadyH.nil
         go_simp
         (go_at_call 24; refine Calls.mono (ERy.out _ (by with_reducible repeat (first | assumption | exact Ext.refl _ | apply Ext.alloc | apply Ext.drew | apply Ext.drewN))) ?_; rintro e y1 ⟨rfl, E1⟩; have X1 : Ext wc y1 := Ext.trans (by with_reducible repeat (first | assumption | exact Ext.refl _ | apply Ext.alloc | apply Ext.drew | apply Ext.drewN)) E1)
         try go_wp2_with fail
         refine hK.out _ _ ?_ (fun hHeld1 => ?_)
         · (try dsimp only); (refine mkS.out _ ?_; ((with_reducible (repeat (first | assumption | exact Ext.refl _ | apply Ext.alloc | apply Ext.drew | apply Ext.drewN))); done))
         clear hK K hHeld0
         try simp only [Act.put, List.setIfInBounds_toArray, List.set_cons_zero, List.set_cons_succ]
         refine wpAnyH_ready (rs := [3]) (by kernel_rfl) (by simp) ?_
         refine AllReadyH.cons (o := ⟨some 25, .call { callee := .value (.func 24), args := #[.tmp 24], argTypes := #[26] }, 3, "law.go:97", #[⟨2, .data⟩, ⟨1, .chain⟩], none⟩) rfl (fun K hK => ?_) AllReadyH.nil
         go_simp
         (go_at_call 24; refine Calls.mono (ERt.out _ (by with_reducible repeat (first | assumption | exact Ext.refl _ | apply Ext.alloc | apply Ext.drew | apply Ext.drewN))) ?_; rintro e y2 ⟨rfl, E2⟩; have X2 : Ext wc y2 := Ext.trans (by with_reducible repeat (first | assumption | exact Ext.refl _ | apply Ext.alloc | apply Ext.drew | apply Ext.drewN)) E2)
         try go_wp2_with fail
         refine hK.out _ _ ?_ (fun hHeld2 => ?_)
         · (try dsimp only); (refine mkS.out _ ?_; ((with_reducible (repeat (first | assumption | exact Ext.refl _ | apply Ext.alloc | apply Ext.drew | apply Ext.drewN))); done))
         clear hK K hHeld1
         try simp only [Act.put, List.setIfInBounds_toArray, List.set_cons_zero, List.set_cons_succ]
         refine wpAnyH_take (i := 4) (oi := ⟨some 26, .binOp .neq 3 (.tmp 23) (.tmp 25) 3, 4, "law.go:97", #[⟨1, .data⟩, ⟨3, .data⟩], none⟩) (v := ?_) rfl (by kernel_rfl) (by kernel_rfl) (by kernel_rfl) (fun _ _ _ h => h) (Or.inl ⟨by rfl, ?_⟩) (by assumption) ?_
         rotate_left
         · intro w hSw; (try dsimp only at hSw); first | (go_simp; done) | (go_simp; with_reducible rfl)
         try simp only [Act.put, List.setIfInBounds_toArray, List.set_cons_zero, List.set_cons_succ]
         refine wpAnyH_done (by kernel_rfl) ?_ _
         go_wp2_with fail
         clear X1 E1 E2 ERy ERt
         have HYM : Hid (mpT (fiE o0 o1) 401 t = y) := by
           show _ = _
           have := HY.out
           rw [HWT.out, if_pos rfl] at this
           exact this
         have OA : Hid (∀ V, Ext wc V → Calls Try.prog 14 #[.agg #[.int .i64 t.k, .int .i64 t.n, .string (bs t.s), .int .i64 t.e, .int .i64 t.r.1, .int .i64 t.r.2.1, .bool t.r.2.2.1, .bool t.r.2.2.2, .int .i64 t.q.1, .int .i64 t.q.2.1, .bool t.q.2.2.1, .bool t.q.2.2.2, .slice pp ln cl]] V (OwnQ V t)) := fun V e => own_any 401 t HH.out.1 V (fun _ => True) pp ln cl (HI.out.ext (HQ.out.1.1.trans e))
         have FYc : Hid (∀ V, Ext wc V → Calls Try.prog 21 #[.agg #[.int .i64 y.k, .int .i64 y.n, .string (bs y.s), .int .i64 y.e, .int .i64 y.r.1, .int .i64 y.r.2.1, .bool y.r.2.2.1, .bool y.r.2.2.2, .int .i64 y.q.1, .int .i64 y.q.2.1, .bool y.q.2.2.1, .bool y.q.2.2.2, .slice p2 l2 c2], .int .i64 o2, .int .i64 o3] V (MpQ V (if wellT 401 y then mpT (fiE o2 o3) 401 y else tz))) := fun V e => fill_any 401 y HHy.out o2 o3 V (fun _ => True) p2 l2 c2 (HQ.out.2.2.ext e)
         have FTc : Hid (∀ V p l c, IsL V (fun _ => True) (.slice p l c) t.l → Calls Try.prog 21 #[.agg #[.int .i64 t.k, .int .i64 t.n, .string (bs t.s), .int .i64 t.e, .int .i64 t.r.1, .int .i64 t.r.2.1, .bool t.r.2.2.1, .bool t.r.2.2.2, .int .i64 t.q.1, .int .i64 t.q.2.1, .bool t.q.2.2.1, .bool t.q.2.2.2, .slice p l c], .int .i64 (wrap64 (o0 + o2)), .int .i64 (wrap64 (o1 + o3))] V (MpQ V (if wellT 401 t then mpT (fiE (wrap64 (o0 + o2)) (wrap64 (o1 + o3))) 401 t else tz))) := fun V p l c h => fill_any 401 t HH.out.1 _ _ V (fun _ => True) p l c h
         have ez : (if wellT 401 y then mpT (fiE o2 o3) 401 y else tz) = (if wellT 401 t then mpT (fiE (wrap64 (o0 + o2)) (wrap64 (o1 + o3))) 401 t else tz) := by
           have h1 := HEQ.out
           rw [← HYM.out] at h1 ⊢
           exact fill_twice o0 o1 o2 o3 401 t HWT.out h1
         have HZ : Hid (Hr 401 (if wellT 401 t then mpT (fiE (wrap64 (o0 + o2)) (wrap64 (o1 + o3))) 401 t else tz)) := hr_filled _ _ 401 t HH.out.1
         rw [ez] at FYc
         clear ez
         obtain ⟨z, hz⟩ : ∃ z, (if wellT 401 t then mpT (fiE (wrap64 (o0 + o2)) (wrap64 (o1 + o3))) 401 t else tz) = z := ⟨_, rfl⟩
         rw [hz] at FYc FTc HZ
         clear hz
         have SAc : Hid (∀ V p l c p' l' c', IsL V (fun _ => True) (.slice p l c) z.l → IsL V (fun _ => True) (.slice p' l' c') z.l → Calls Try.prog 16 #[.agg #[.int .i64 z.k, .int .i64 z.n, .string (bs z.s), .int .i64 z.e, .int .i64 z.r.1, .int .i64 z.r.2.1, .bool z.r.2.2.1, .bool z.r.2.2.2, .int .i64 z.q.1, .int .i64 z.q.2.1, .bool z.q.2.2.1, .bool z.q.2.2.2, .slice p l c], .agg #[.int .i64 z.k, .int .i64 z.n, .string (bs z.s), .int .i64 z.e, .int .i64 z.r.1, .int .i64 z.r.2.1, .bool z.r.2.2.1, .bool z.r.2.2.2, .int .i64 z.q.1, .int .i64 z.q.2.1, .bool z.q.2.2.1, .bool z.q.2.2.2, .slice p' l' c']] V fun e w' => e = .returned (.bool true) ∧ Ext V w') := fun V p l c p' l' c' h h' => by
           have := rsame_any (fun _ => True) 401 z HZ.out z V p p' l c l' c' h h'
           rw [same_refl 401 z HZ.out] at this
           exact this
         have i1 : IntKind.i64.wrap (o0 + o2) = wrap64 (o0 + o2) := by rw [IntKind.wrap_i64]; unfold wrap64; omega
         have i2 : IntKind.i64.wrap (o1 + o3) = wrap64 (o1 + o3) := by rw [IntKind.wrap_i64]; unfold wrap64; omega
         generalize wrap64 (o0 + o2) = s1 at *
         generalize wrap64 (o1 + o3) = s2 at *
         have mkS : Hid (∀ V, Ext wc V → V.cell? ⟨w.heap.size, 0, none⟩ = some (.int .i64 t.k) ∧ V.cell? ⟨w.heap.size, 1, none⟩ = some (.int .i64 t.n) ∧ V.cell? ⟨w.heap.size, 2, none⟩ = some (.string (bs t.s)) ∧ V.cell? ⟨w.heap.size, 3, none⟩ = some (.int .i64 t.e) ∧ V.cell? ⟨w.heap.size, 4, none⟩ = some (.int .i64 t.r.1) ∧ V.cell? ⟨w.heap.size, 5, none⟩ = some (.int .i64 t.r.2.1) ∧ V.cell? ⟨w.heap.size, 6, none⟩ = some (.bool t.r.2.2.1) ∧ V.cell? ⟨w.heap.size, 7, none⟩ = some (.bool t.r.2.2.2) ∧ V.cell? ⟨w.heap.size, 8, none⟩ = some (.int .i64 t.q.1) ∧ V.cell? ⟨w.heap.size, 9, none⟩ = some (.int .i64 t.q.2.1) ∧ V.cell? ⟨w.heap.size, 10, none⟩ = some (.bool t.q.2.2.1) ∧ V.cell? ⟨w.heap.size, 11, none⟩ = some (.bool t.q.2.2.2) ∧ V.cell? ⟨w.heap.size, 12, none⟩ = some (.slice pp ln cl) ∧ V.cell? ⟨w.heap.size + 1, 0, none⟩ = some (.int .i64 o0) ∧ V.cell? ⟨w.heap.size + 1, 1, none⟩ = some (.int .i64 o1) ∧ V.cell? ⟨w.heap.size + 1, 2, none⟩ = some (.int .i64 o2) ∧ V.cell? ⟨w.heap.size + 1, 3, none⟩ = some (.int .i64 o3) ∧ V.cell? ⟨ga, 0, none⟩ = some (.int .i64 y.k) ∧ V.cell? ⟨ga, 1, none⟩ = some (.int .i64 y.n) ∧ V.cell? ⟨ga, 2, none⟩ = some (.string (bs y.s)) ∧ V.cell? ⟨ga, 3, none⟩ = some (.int .i64 y.e) ∧ V.cell? ⟨ga, 4, none⟩ = some (.int .i64 y.r.1) ∧ V.cell? ⟨ga, 5, none⟩ = some (.int .i64 y.r.2.1) ∧ V.cell? ⟨ga, 6, none⟩ = some (.bool y.r.2.2.1) ∧ V.cell? ⟨ga, 7, none⟩ = some (.bool y.r.2.2.2) ∧ V.cell? ⟨ga, 8, none⟩ = some (.int .i64 y.q.1) ∧ V.cell? ⟨ga, 9, none⟩ = some (.int .i64 y.q.2.1) ∧ V.cell? ⟨ga, 10, none⟩ = some (.bool y.q.2.2.1) ∧ V.cell? ⟨ga, 11, none⟩ = some (.bool y.q.2.2.2) ∧ V.cell? ⟨ga, 12, none⟩ = some (.slice p2 l2 c2)) := mkS
         refine wp_region_held_drew (S := (fun V => V.cell? ⟨w.heap.size, 0, none⟩ = some (.int .i64 t.k) ∧ V.cell? ⟨w.heap.size, 1, none⟩ = some (.int .i64 t.n) ∧ V.cell? ⟨w.heap.size, 2, none⟩ = some (.string (bs t.s)) ∧ V.cell? ⟨w.heap.size, 3, none⟩ = some (.int .i64 t.e) ∧ V.cell? ⟨w.heap.size, 4, none⟩ = some (.int .i64 t.r.1) ∧ V.cell? ⟨w.heap.size, 5, none⟩ = some (.int .i64 t.r.2.1) ∧ V.cell? ⟨w.heap.size, 6, none⟩ = some (.bool t.r.2.2.1) ∧ V.cell? ⟨w.heap.size, 7, none⟩ = some (.bool t.r.2.2.2) ∧ V.cell? ⟨w.heap.size, 8, none⟩ = some (.int .i64 t.q.1) ∧ V.cell? ⟨w.heap.size, 9, none⟩ = some (.int .i64 t.q.2.1) ∧ V.cell? ⟨w.heap.size, 10, none⟩ = some (.bool t.q.2.2.1) ∧ V.cell? ⟨w.heap.size, 11, none⟩ = some (.bool t.q.2.2.2) ∧ V.cell? ⟨w.heap.size, 12, none⟩ = some (.slice pp ln cl) ∧ V.cell? ⟨w.heap.size + 1, 0, none⟩ = some (.int .i64 o0) ∧ V.cell? ⟨w.heap.size + 1, 1, none⟩ = some (.int .i64 o1) ∧ V.cell? ⟨w.heap.size + 1, 2, none⟩ = some (.int .i64 o2) ∧ V.cell? ⟨w.heap.size + 1, 3, none⟩ = some (.int .i64 o3) ∧ V.cell? ⟨ga, 0, none⟩ = some (.int .i64 y.k) ∧ V.cell? ⟨ga, 1, none⟩ = some (.int .i64 y.n) ∧ V.cell? ⟨ga, 2, none⟩ = some (.string (bs y.s)) ∧ V.cell? ⟨ga, 3, none⟩ = some (.int .i64 y.e) ∧ V.cell? ⟨ga, 4, none⟩ = some (.int .i64 y.r.1) ∧ V.cell? ⟨ga, 5, none⟩ = some (.int .i64 y.r.2.1) ∧ V.cell? ⟨ga, 6, none⟩ = some (.bool y.r.2.2.1) ∧ V.cell? ⟨ga, 7, none⟩ = some (.bool y.r.2.2.2) ∧ V.cell? ⟨ga, 8, none⟩ = some (.int .i64 y.q.1) ∧ V.cell? ⟨ga, 9, none⟩ = some (.int .i64 y.q.2.1) ∧ V.cell? ⟨ga, 10, none⟩ = some (.bool y.q.2.2.1) ∧ V.cell? ⟨ga, 11, none⟩ = some (.bool y.q.2.2.2) ∧ V.cell? ⟨ga, 12, none⟩ = some (.slice p2 l2 c2))) (by kernel_rfl) ?_ (fun hHeld0 => ?_)
         · (refine mkS.out _ ?_; ((with_reducible (repeat (first | assumption | exact Ext.refl _ | apply Ext.alloc | apply Ext.drew | apply Ext.drewN))); done))
         refine wpAnyH_take (i := 0) (oi := ⟨some 28, .load 26 (.tmp 5), 26, "law.go:100", #[], none⟩) (v := ?_) rfl (by kernel_rfl) (by kernel_rfl) (by kernel_rfl) (fun _ _ _ h => h) (Or.inl ⟨by rfl, ?_⟩) (by assumption) ?_
         rotate_left
         · intro w hSw; (try dsimp only at hSw); first | (go_simp; done) | (go_simp; with_reducible rfl)
         try simp only [Act.put, List.setIfInBounds_toArray, List.set_cons_zero, List.set_cons_succ]
         refine wpAnyH_take (i := 1) (oi := ⟨some 29, .fieldAddr 28 (.tmp 3) 2, 0, "law.go:100", #[], none⟩) (v := ?_) rfl (by kernel_rfl) (by kernel_rfl) (by kernel_rfl) (fun _ _ _ h => h) (Or.inl ⟨by rfl, ?_⟩) (by assumption) ?_
         rotate_left
         · intro w hSw; (try dsimp only at hSw); first | (go_simp; done) | (go_simp; with_reducible rfl)
         try simp only [Act.put, List.setIfInBounds_toArray, List.set_cons_zero, List.set_cons_succ]
         refine wpAnyH_take (i := 2) (oi := ⟨some 30, .load 3 (.tmp 29), 3, "law.go:100", #[⟨1, .data⟩], none⟩) (v := ?_) rfl (by kernel_rfl) (by kernel_rfl) (by kernel_rfl) (fun _ _ _ h => h) (Or.inl ⟨by rfl, ?_⟩) (by assumption) ?_
         rotate_left
         · intro w hSw; (try dsimp only at hSw); first | (go_simp; done) | (go_simp; with_reducible rfl)
         try simp only [Act.put, List.setIfInBounds_toArray, List.set_cons_zero, List.set_cons_succ]
         refine wpAnyH_take (i := 3) (oi := ⟨some 31, .fieldAddr 28 (.tmp 3) 3, 0, "law.go:100", #[], none⟩) (v := ?_) rfl (by kernel_rfl) (by kernel_rfl) (by kernel_rfl) (fun _ _ _ h => h) (Or.inl ⟨by rfl, ?_⟩) (by assumption) ?_
         rotate_left
         · intro w hSw; (try dsimp only at hSw); first | (go_simp; done) | (go_simp; with_reducible rfl)
         try simp only [Act.put, List.setIfInBounds_toArray, List.set_cons_zero, List.set_cons_succ]
         refine wpAnyH_take (i := 4) (oi := ⟨some 32, .load 3 (.tmp 31), 3, "law.go:100", #[⟨3, .data⟩], none⟩) (v := ?_) rfl (by kernel_rfl) (by kernel_rfl) (by kernel_rfl) (fun _ _ _ h => h) (Or.inl ⟨by rfl, ?_⟩) (by assumption) ?_
         rotate_left
         · intro w hSw; (try dsimp only at hSw); first | (go_simp; done) | (go_simp; with_reducible rfl)
         try simp only [Act.put, List.setIfInBounds_toArray, List.set_cons_zero, List.set_cons_succ]
         refine wpAnyH_take (i := 6) (oi := ⟨some 34, .load 26 (.tmp 2), 26, "law.go:100", #[], none⟩) (v := ?_) rfl (by kernel_rfl) (by kernel_rfl) (by kernel_rfl) (fun _ _ _ h => h) (Or.inl ⟨by rfl, ?_⟩) (by assumption) ?_
         rotate_left
         · intro w hSw; (try dsimp only at hSw); first | (go_simp; done) | (go_simp; with_reducible rfl)
         try simp only [Act.put, List.setIfInBounds_toArray, List.set_cons_zero, List.set_cons_succ]
         refine wpAnyH_take (i := 8) (oi := ⟨some 36, .fieldAddr 28 (.tmp 3) 0, 0, "law.go:100", #[], none⟩) (v := ?_) rfl (by kernel_rfl) (by kernel_rfl) (by kernel_rfl) (fun _ _ _ h => h) (Or.inl ⟨by rfl, ?_⟩) (by assumption) ?_
         rotate_left
         · intro w hSw; (try dsimp only at hSw); first | (go_simp; done) | (go_simp; with_reducible rfl)
         try simp only [Act.put, List.setIfInBounds_toArray, List.set_cons_zero, List.set_cons_succ]
         refine wpAnyH_take (i := 9) (oi := ⟨some 37, .load 3 (.tmp 36), 3, "law.go:100", #[⟨8, .data⟩], none⟩) (v := ?_) rfl (by kernel_rfl) (by kernel_rfl) (by kernel_rfl) (fun _ _ _ h => h) (Or.inl ⟨by rfl, ?_⟩) (by assumption) ?_
         rotate_left
         · intro w hSw; (try dsimp only at hSw); first | (go_simp; done) | (go_simp; with_reducible rfl)
         try simp only [Act.put, List.setIfInBounds_toArray, List.set_cons_zero, List.set_cons_succ]
         refine wpAnyH_take (i := 10) (oi := ⟨some 38, .fieldAddr 28 (.tmp 3) 2, 0, "law.go:100", #[], none⟩) (v := ?_) rfl (by kernel_rfl) (by kernel_rfl) (by kernel_rfl) (fun _ _ _ h => h) (Or.inl ⟨by rfl, ?_⟩) (by assumption) ?_
         rotate_left
         · intro w hSw; (try dsimp only at hSw); first | (go_simp; done) | (go_simp; with_reducible rfl)
         try simp only [Act.put, List.setIfInBounds_toArray, List.set_cons_zero, List.set_cons_succ]
         refine wpAnyH_take (i := 11) (oi := ⟨some 39, .load 3 (.tmp 38), 3, "law.go:100", #[⟨10, .data⟩], none⟩) (v := ?_) rfl (by kernel_rfl) (by kernel_rfl) (by kernel_rfl) (fun _ _ _ h => h) (Or.inl ⟨by rfl, ?_⟩) (by assumption) ?_
         rotate_left
         · intro w hSw; (try dsimp only at hSw); first | (go_simp; done) | (go_simp; with_reducible rfl)
         try simp only [Act.put, List.setIfInBounds_toArray, List.set_cons_zero, List.set_cons_succ]
         refine wpAnyH_take (i := 12) (oi := ⟨some 40, .binOp .add 3 (.tmp 37) (.tmp 39) 3, 3, "law.go:100", #[⟨9, .data⟩, ⟨11, .data⟩], none⟩) (v := ?_) rfl (by kernel_rfl) (by kernel_rfl) (by kernel_rfl) (fun _ _ _ h => h) (Or.inl ⟨by rfl, ?_⟩) (by assumption) ?_
         rotate_left
         · intro w hSw; (try dsimp only at hSw); first | (go_simp; done) | (go_simp; with_reducible rfl)
         try simp only [Act.put, List.setIfInBounds_toArray, List.set_cons_zero, List.set_cons_succ]
         refine wpAnyH_take (i := 13) (oi := ⟨some 41, .fieldAddr 28 (.tmp 3) 1, 0, "law.go:100", #[], none⟩) (v := ?_) rfl (by kernel_rfl) (by kernel_rfl) (by kernel_rfl) (fun _ _ _ h => h) (Or.inl ⟨by rfl, ?_⟩) (by assumption) ?_
         rotate_left
         · intro w hSw; (try dsimp only at hSw); first | (go_simp; done) | (go_simp; with_reducible rfl)
         try simp only [Act.put, List.setIfInBounds_toArray, List.set_cons_zero, List.set_cons_succ]
         refine wpAnyH_take (i := 14) (oi := ⟨some 42, .load 3 (.tmp 41), 3, "law.go:100", #[⟨13, .data⟩], none⟩) (v := ?_) rfl (by kernel_rfl) (by kernel_rfl) (by kernel_rfl) (fun _ _ _ h => h) (Or.inl ⟨by rfl, ?_⟩) (by assumption) ?_
         rotate_left
         · intro w hSw; (try dsimp only at hSw); first | (go_simp; done) | (go_simp; with_reducible rfl)
         try simp only [Act.put, List.setIfInBounds_toArray, List.set_cons_zero, List.set_cons_succ]
         refine wpAnyH_take (i := 15) (oi := ⟨some 43, .fieldAddr 28 (.tmp 3) 3, 0, "law.go:100", #[], none⟩) (v := ?_) rfl (by kernel_rfl) (by kernel_rfl) (by kernel_rfl) (fun _ _ _ h => h) (Or.inl ⟨by rfl, ?_⟩) (by assumption) ?_
         rotate_left
         · intro w hSw; (try dsimp only at hSw); first | (go_simp; done) | (go_simp; with_reducible rfl)
         try simp only [Act.put, List.setIfInBounds_toArray, List.set_cons_zero, List.set_cons_succ]
         refine wpAnyH_take (i := 16) (oi := ⟨some 44, .load 3 (.tmp 43), 3, "law.go:100", #[⟨15, .data⟩], none⟩) (v := ?_) rfl (by kernel_rfl) (by kernel_rfl) (by kernel_rfl) (fun _ _ _ h => h) (Or.inl ⟨by rfl, ?_⟩) (by assumption) ?_
         rotate_left
         · intro w hSw; (try dsimp only at hSw); first | (go_simp; done) | (go_simp; with_reducible rfl)
         try simp only [Act.put, List.setIfInBounds_toArray, List.set_cons_zero, List.set_cons_succ]
         refine wpAnyH_take (i := 17) (oi := ⟨some 45, .binOp .add 3 (.tmp 42) (.tmp 44) 3, 3, "law.go:100", #[⟨14, .data⟩, ⟨16, .data⟩], none⟩) (v := ?_) rfl (by kernel_rfl) (by kernel_rfl) (by kernel_rfl) (fun _ _ _ h => h) (Or.inl ⟨by rfl, ?_⟩) (by assumption) ?_
         rotate_left
         · intro w hSw; (try dsimp only at hSw); first | (go_simp; done) | (go_simp; with_reducible rfl)
         try simp only [Act.put, List.setIfInBounds_toArray, List.set_cons_zero, List.set_cons_succ]
         refine wpAnyH_ready (rs := [5]) (by kernel_rfl) (by simp) ?_
         refine AllReadyH.cons (o := ⟨some 33, .call { callee := .value (.func 21), args := #[.tmp 28, .tmp 30, .tmp 32], argTypes := #[26, 3, 3] }, 26, "law.go:100", #[⟨0, .data⟩, ⟨2, .data⟩, ⟨4, .data⟩], none⟩) rfl (fun K hK => ?_) AllReadyH.nil
         go_simp
         (go_at_call 21; refine Calls.mono (FYc.out _ (by with_reducible repeat (first | assumption | exact Ext.refl _ | apply Ext.alloc | apply Ext.drew | apply Ext.drewN))) ?_; rintro e y3 ⟨q3, m3, d3, rfl, hL3, E3⟩; have X3 : Ext wc y3 := Ext.trans (by with_reducible repeat (first | assumption | exact Ext.refl _ | apply Ext.alloc | apply Ext.drew | apply Ext.drewN)) E3; have HO3 : Hid (IsL y3 (fun _ => True) (.slice q3 m3 d3) z.l) := hL3.mono (fun _ _ _ => trivial); clear hL3; unfold aggX)
         try go_wp2_with fail
         refine hK.out _ _ ?_ (fun hHeld1 => ?_)
         · (try dsimp only); (refine mkS.out _ ?_; ((with_reducible (repeat (first | assumption | exact Ext.refl _ | apply Ext.alloc | apply Ext.drew | apply Ext.drewN))); done))
         clear hK K hHeld0
         try simp only [Act.put, List.setIfInBounds_toArray, List.set_cons_zero, List.set_cons_succ]
         refine wpAnyH_ready (rs := [7]) (by kernel_rfl) (by simp) ?_
         refine AllReadyH.cons (o := ⟨some 35, .call { callee := .value (.func 14), args := #[.tmp 34], argTypes := #[26] }, 26, "law.go:100", #[⟨6, .data⟩, ⟨5, .chain⟩], none⟩) rfl (fun K hK => ?_) AllReadyH.nil
         go_simp
         (go_at_call 14; refine Calls.mono (OA.out _ (by with_reducible repeat (first | assumption | exact Ext.refl _ | apply Ext.alloc | apply Ext.drew | apply Ext.drewN))) ?_; rintro e y4 ⟨lv4, rfl, hL4, E4⟩; obtain ⟨p4, c4, hlv, hcl⟩ := hL4.form; have X4 : Ext wc y4 := Ext.trans (by with_reducible repeat (first | assumption | exact Ext.refl _ | apply Ext.alloc | apply Ext.drew | apply Ext.drewN)) E4; obtain ⟨l4, hl4⟩ : ∃ l4, t.l.length = l4 := ⟨_, rfl⟩; rw [hl4] at hlv; subst hlv; have HO4 : Hid (IsL y4 (fun _ => True) (.slice p4 l4 c4) t.l) := hL4.mono (fun _ _ _ => trivial); clear hL4 hcl hl4; unfold aggX)
         try go_wp2_with fail
         refine hK.out _ _ ?_ (fun hHeld2 => ?_)
         · (try dsimp only); (refine mkS.out _ ?_; ((with_reducible (repeat (first | assumption | exact Ext.refl _ | apply Ext.alloc | apply Ext.drew | apply Ext.drewN))); done))
         clear hK K hHeld1
         try simp only [Act.put, List.setIfInBounds_toArray, List.set_cons_zero, List.set_cons_succ]
         refine wpAnyH_ready (rs := [18]) (by kernel_rfl) (by simp) ?_
         refine AllReadyH.cons (o := ⟨some 46, .call { callee := .value (.func 21), args := #[.tmp 35, .tmp 40, .tmp 45], argTypes := #[26, 3, 3] }, 26, "law.go:100", #[⟨7, .data⟩, ⟨12, .data⟩, ⟨17, .data⟩, ⟨7, .chain⟩], none⟩) rfl (fun K hK => ?_) AllReadyH.nil
         go_simp
         (go_at_call 21; refine Calls.mono (FTc.out _ p4 l4 c4 (HO4.out.ext (by with_reducible repeat (first | assumption | exact Ext.refl _ | apply Ext.alloc | apply Ext.drew | apply Ext.drewN)))) ?_; rintro e y5 ⟨q5, m5, d5, rfl, hL5, E5⟩; have X5 : Ext wc y5 := Ext.trans (by with_reducible repeat (first | assumption | exact Ext.refl _ | apply Ext.alloc | apply Ext.drew | apply Ext.drewN)) E5; have HO5 : Hid (IsL y5 (fun _ => True) (.slice q5 m5 d5) z.l) := hL5.mono (fun _ _ _ => trivial); clear hL5; unfold aggX)
         try go_wp2_with fail
         refine hK.out _ _ ?_ (fun hHeld3 => ?_)
         · (try dsimp only); (refine mkS.out _ ?_; ((with_reducible (repeat (first | assumption | exact Ext.refl _ | apply Ext.alloc | apply Ext.drew | apply Ext.drewN))); done))
         clear hK K hHeld2
         try simp only [Act.put, List.setIfInBounds_toArray, List.set_cons_zero, List.set_cons_succ]
         refine wpAnyH_ready (rs := [19]) (by kernel_rfl) (by simp) ?_
         refine AllReadyH.cons (o := ⟨some 47, .call { callee := .value (.func 16), args := #[.tmp 33, .tmp 46], argTypes := #[26, 26] }, 4, "law.go:100", #[⟨5, .data⟩, ⟨18, .data⟩, ⟨18, .chain⟩], none⟩) rfl (fun K hK => ?_) AllReadyH.nil
         go_simp
         (go_at_call 16; refine Calls.mono (SAc.out _ q3 m3 d3 q5 m5 d5 (HO3.out.ext (E4.trans E5)) (HO5.out.ext (by with_reducible repeat (first | assumption | exact Ext.refl _ | apply Ext.alloc | apply Ext.drew | apply Ext.drewN)))) ?_; rintro e y6 ⟨rfl, E6⟩; have X6 : Ext wc y6 := Ext.trans (by with_reducible repeat (first | assumption | exact Ext.refl _ | apply Ext.alloc | apply Ext.drew | apply Ext.drewN)) E6)
         try go_wp2_with fail
         refine hK.out _ _ ?_ (fun hHeld4 => ?_)
         · (try dsimp only); (refine mkS.out _ ?_; ((with_reducible (repeat (first | assumption | exact Ext.refl _ | apply Ext.alloc | apply Ext.drew | apply Ext.drewN))); done))
         clear hK K hHeld3
         try simp only [Act.put, List.setIfInBounds_toArray, List.set_cons_zero, List.set_cons_succ]
         refine wpAnyH_take (i := 20) (oi := ⟨some 48, .move (.tmp 47), 4, "law.go:100", #[⟨19, .data⟩, ⟨19, .chain⟩], none⟩) (v := ?_) rfl (by kernel_rfl) (by kernel_rfl) (by kernel_rfl) (fun _ _ _ h => h) (Or.inl ⟨by rfl, ?_⟩) (by assumption) ?_
         rotate_left
         · intro w hSw; (try dsimp only at hSw); first | (go_simp; done) | (go_simp; with_reducible rfl)
         try simp only [Act.put, List.setIfInBounds_toArray, List.set_cons_zero, List.set_cons_succ]
         refine wpAnyH_ready (rs := [21]) (by kernel_rfl) (by simp) ?_
         refine AllReadyH.cons (o := ⟨some 49, .call { callee := .value (.func 12), args := #[], argTypes := #[] }, 4, "law.go:100", #[⟨20, .chain⟩, ⟨20, .guard⟩], some (20, true)⟩) rfl (fun K hK => ?_) AllReadyH.nil
         go_simp
         (go_at_call 12; refine Calls.mono (lives10_any _) ?_; rintro e y7 ⟨rfl, E7⟩; have X7 : Ext wc y7 := Ext.trans (by with_reducible repeat (first | assumption | exact Ext.refl _ | apply Ext.alloc | apply Ext.drew | apply Ext.drewN)) E7)
         try go_wp2_with fail
         refine hK.out _ _ ?_ (fun hHeld5 => ?_)
         · (try dsimp only); (refine mkS.out _ ?_; ((with_reducible (repeat (first | assumption | exact Ext.refl _ | apply Ext.alloc | apply Ext.drew | apply Ext.drewN))); done))
         clear hK K hHeld4
         try simp only [Act.put, List.setIfInBounds_toArray, List.set_cons_zero, List.set_cons_succ]
         refine wpAnyH_take (i := 22) (oi := ⟨some 50, .pick (.tmp 48) (.tmp 49) (.const (.bool false)), 4, "law.go:100", #[⟨20, .data⟩, ⟨21, .data⟩], none⟩) (v := ?_) rfl (by kernel_rfl) (by kernel_rfl) (by kernel_rfl) (fun _ _ _ h => h) (Or.inl ⟨by rfl, ?_⟩) (by assumption) ?_
         rotate_left
         · intro w hSw; (try dsimp only at hSw); first | (go_simp; done) | (go_simp; with_reducible rfl)
         try simp only [Act.put, List.setIfInBounds_toArray, List.set_cons_zero, List.set_cons_succ]
         refine wpAnyH_take (i := 23) (oi := ⟨some 4, .assign (.tmp 50), 4, "law.go:100", #[⟨22, .data⟩, ⟨21, .chain⟩, ⟨0, .phase⟩, ⟨1, .phase⟩, ⟨2, .phase⟩, ⟨3, .phase⟩, ⟨4, .phase⟩, ⟨5, .phase⟩, ⟨6, .phase⟩, ⟨7, .phase⟩, ⟨8, .phase⟩, ⟨9, .phase⟩, ⟨10, .phase⟩, ⟨11, .phase⟩, ⟨12, .phase⟩, ⟨13, .phase⟩, ⟨14, .phase⟩, ⟨15, .phase⟩, ⟨16, .phase⟩, ⟨17, .phase⟩, ⟨18, .phase⟩, ⟨19, .phase⟩, ⟨20, .phase⟩, ⟨21, .phase⟩, ⟨22, .phase⟩], none⟩) (v := ?_) rfl (by kernel_rfl) (by kernel_rfl) (by kernel_rfl) (fun _ _ _ h => h) (Or.inl ⟨by rfl, ?_⟩) (by assumption) ?_
         rotate_left
         · intro w hSw; (try dsimp only at hSw); first | (go_simp; done) | (go_simp; with_reducible rfl)
         try simp only [Act.put, List.setIfInBounds_toArray, List.set_cons_zero, List.set_cons_succ]
         refine wpAnyH_done (by kernel_rfl) ?_ _
         go_wp2_with fail
         go_ret
         exact ⟨rfl, HQ.out.1.1.trans (by assumption)⟩
       · have b0 : ((ny : Int) != (nt : Int)) = true := by simp; omega
         clear hny hnt hne
         refine wp_region_held_drew (S := (fun V => V.cell? ⟨w.heap.size, 0, none⟩ = some (.int .i64 t.k) ∧ V.cell? ⟨w.heap.size, 1, none⟩ = some (.int .i64 t.n) ∧ V.cell? ⟨w.heap.size, 2, none⟩ = some (.string (bs t.s)) ∧ V.cell? ⟨w.heap.size, 3, none⟩ = some (.int .i64 t.e) ∧ V.cell? ⟨w.heap.size, 4, none⟩ = some (.int .i64 t.r.1) ∧ V.cell? ⟨w.heap.size, 5, none⟩ = some (.int .i64 t.r.2.1) ∧ V.cell? ⟨w.heap.size, 6, none⟩ = some (.bool t.r.2.2.1) ∧ V.cell? ⟨w.heap.size, 7, none⟩ = some (.bool t.r.2.2.2) ∧ V.cell? ⟨w.heap.size, 8, none⟩ = some (.int .i64 t.q.1) ∧ V.cell? ⟨w.heap.size, 9, none⟩ = some (.int .i64 t.q.2.1) ∧ V.cell? ⟨w.heap.size, 10, none⟩ = some (.bool t.q.2.2.1) ∧ V.cell? ⟨w.heap.size, 11, none⟩ = some (.bool t.q.2.2.2) ∧ V.cell? ⟨w.heap.size, 12, none⟩ = some (.slice pp ln cl) ∧ V.cell? ⟨w.heap.size + 1, 0, none⟩ = some (.int .i64 o0) ∧ V.cell? ⟨w.heap.size + 1, 1, none⟩ = some (.int .i64 o1) ∧ V.cell? ⟨w.heap.size + 1, 2, none⟩ = some (.int .i64 o2) ∧ V.cell? ⟨w.heap.size + 1, 3, none⟩ = some (.int .i64 o3) ∧ V.cell? ⟨ga, 0, none⟩ = some (.int .i64 y.k) ∧ V.cell? ⟨ga, 1, none⟩ = some (.int .i64 y.n) ∧ V.cell? ⟨ga, 2, none⟩ = some (.string (bs y.s)) ∧ V.cell? ⟨ga, 3, none⟩ = some (.int .i64 y.e) ∧ V.cell? ⟨ga, 4, none⟩ = some (.int .i64 y.r.1) ∧ V.cell? ⟨ga, 5, none⟩ = some (.int .i64 y.r.2.1) ∧ V.cell? ⟨ga, 6, none⟩ = some (.bool y.r.2.2.1) ∧ V.cell? ⟨ga, 7, none⟩ = some (.bool y.r.2.2.2) ∧ V.cell? ⟨ga, 8, none⟩ = some (.int .i64 y.q.1) ∧ V.cell? ⟨ga, 9, none⟩ = some (.int .i64 y.q.2.1) ∧ V.cell? ⟨ga, 10, none⟩ = some (.bool y.q.2.2.1) ∧ V.cell? ⟨ga, 11, none⟩ = some (.bool y.q.2.2.2) ∧ V.cell? ⟨ga, 12, none⟩ = some (.slice p2 l2 c2))) (by kernel_rfl) ?_ (fun hHeld0 => ?_)
         · (refine mkS.out _ ?_; ((with_reducible (repeat (first | assumption | exact Ext.refl _ | apply Ext.alloc | apply Ext.drew | apply Ext.drewN))); done))
         refine wpAnyH_take (i := 0) (oi := ⟨some 22, .load 26 (.tmp 5), 26, "law.go:97", #[], none⟩) (v := ?_) rfl (by kernel_rfl) (by kernel_rfl) (by kernel_rfl) (fun _ _ _ h => h) (Or.inl ⟨by rfl, ?_⟩) (by assumption) ?_
         rotate_left
         · intro w hSw; (try dsimp only at hSw); first | (go_simp; done) | (go_simp; with_reducible rfl)
         try simp only [Act.put, List.setIfInBounds_toArray, List.set_cons_zero, List.set_cons_succ]
         refine wpAnyH_take (i := 2) (oi := ⟨some 24, .load 26 (.tmp 2), 26, "law.go:97", #[], none⟩) (v := ?_) rfl (by kernel_rfl) (by kernel_rfl) (by kernel_rfl) (fun _ _ _ h => h) (Or.inl ⟨by rfl, ?_⟩) (by assumption) ?_
         rotate_left
         · intro w hSw; (try dsimp only at hSw); first | (go_simp; done) | (go_simp; with_reducible rfl)
         try simp only [Act.put, List.setIfInBounds_toArray, List.set_cons_zero, List.set_cons_succ]
         refine wpAnyH_ready (rs := [1]) (by kernel_rfl) (by simp) ?_
         refine AllReadyH.cons (o := ⟨some 23, .call { callee := .value (.func 24), args := #[.tmp 22], argTypes := #[26] }, 3, "law.go:97", #[⟨0, .data⟩], none⟩) rfl (fun K hK => ?_) AllReadyH.nil
         go_simp
         (go_at_call 24; refine Calls.mono (ERy.out _ (by with_reducible repeat (first | assumption | exact Ext.refl _ | apply Ext.alloc | apply Ext.drew | apply Ext.drewN))) ?_; rintro e y1 ⟨rfl, E1⟩; have X1 : Ext wc y1 := Ext.trans (by with_reducible repeat (first | assumption | exact Ext.refl _ | apply Ext.alloc | apply Ext.drew | apply Ext.drewN)) E1)
         try go_wp2_with fail
         refine hK.out _ _ ?_ (fun hHeld1 => ?_)
         · (try dsimp only); (refine mkS.out _ ?_; ((with_reducible (repeat (first | assumption | exact Ext.refl _ | apply Ext.alloc | apply Ext.drew | apply Ext.drewN))); done))
         clear hK K hHeld0
         try simp only [Act.put, List.setIfInBounds_toArray, List.set_cons_zero, List.set_cons_succ]
         refine wpAnyH_ready (rs := [3]) (by kernel_rfl) (by simp) ?_
         refine AllReadyH.cons (o := ⟨some 25, .call { callee := .value (.func 24), args := #[.tmp 24], argTypes := #[26] }, 3, "law.go:97", #[⟨2, .data⟩, ⟨1, .chain⟩], none⟩) rfl (fun K hK => ?_) AllReadyH.nil
         go_simp
         (go_at_call 24; refine Calls.mono (ERt.out _ (by with_reducible repeat (first | assumption | exact Ext.refl _ | apply Ext.alloc | apply Ext.drew | apply Ext.drewN))) ?_; rintro e y2 ⟨rfl, E2⟩; have X2 : Ext wc y2 := Ext.trans (by with_reducible repeat (first | assumption | exact Ext.refl _ | apply Ext.alloc | apply Ext.drew | apply Ext.drewN)) E2)
         try go_wp2_with fail
         refine hK.out _ _ ?_ (fun hHeld2 => ?_)
         · (try dsimp only); (refine mkS.out _ ?_; ((with_reducible (repeat (first | assumption | exact Ext.refl _ | apply Ext.alloc | apply Ext.drew | apply Ext.drewN))); done))
         clear hK K hHeld1
         try simp only [Act.put, List.setIfInBounds_toArray, List.set_cons_zero, List.set_cons_succ]
         refine wpAnyH_take (i := 4) (oi := ⟨some 26, .binOp .neq 3 (.tmp 23) (.tmp 25) 3, 4, "law.go:97", #[⟨1, .data⟩, ⟨3, .data⟩], none⟩) (v := ?_) rfl (by kernel_rfl) (by kernel_rfl) (by kernel_rfl) (fun _ _ _ h => h) (Or.inl ⟨by rfl, ?_⟩) (by assumption) ?_
         rotate_left
         · intro w hSw; (try dsimp only at hSw); first | (go_simp; done) | (go_simp; with_reducible rfl)
         try simp only [Act.put, List.setIfInBounds_toArray, List.set_cons_zero, List.set_cons_succ]
         refine wpAnyH_done (by kernel_rfl) ?_ _
         have HE2 : Hid (Ext w y2) := HQ.out.1.1.trans X2
         clear X1 X2 E1 E2 ERy ERt mkS
         go_wp2_with fail
         refine (lives10_any _).mono ?_
         rintro e w9 ⟨rfl, E9⟩
         have HE9 : Hid (Ext w w9) := Ext.trans HE2.out E9
         clear E9
         go_wp2_with fail
         go_ret
         exact ⟨rfl, HE9.out⟩

theorem laidOut : laidOutB Try.prog = true := by kernel_rfl
theorem cells_three : Try.prog.cellsOf 28 = 4 := by kernel_rfl
set_option maxRecDepth 100000 in
theorem lifted (os : Os) (started : os.Started) (H : Type) (enc : TypeId × Value → H) :
   ReturnsInHanded {} Try.checked os 7 .any (Rows.relTwiceSpec.pre6 enc Try.prog Try.f7 Rows.relTwiceRow.domain false) (Rows.relTwiceSpec.post enc Try.prog Try.f7 false true false false) := by
 refine returnsInHanded_of_change (C := Try.checked) own started (by kernel_rfl) Try.func7
   (ChangeSpec.witness6 (enc := enc) (C := Try.checked) false ⟨#[], #[.agg #[.int .i64 0, .int .i64 0, .string ⟨#[]⟩, .int .i64 0, .int .i64 0, .int .i64 0, .bool false, .bool false, .int .i64 0, .int .i64 0, .bool false, .bool false, .slice none 0 0], .agg #[.int .i64 0, .int .i64 0, .int .i64 0, .int .i64 0]], []⟩ 8 (by kernel_rfl) (by kernel_rfl) (by kernel_rfl) (by kernel_rfl)) ?_
 intro W base args ds gs before hval0 hW hcnd _
 have hval : ∀ (j : Nat) t v, Try.f7.params[j]? = some t → args[j]? = some v → Value.okWide Try.prog W .any base t v := hval0
 have hW' := hW
 obtain ⟨p, q, hA0, hV, rfl, hfz, hnd⟩ := hW
 have hA : DataW.TrodAll enc Try.prog W 0 (fun _ => true) true Try.f7.params.toList args.toList ds p := hA0
 rw [Try.params7] at hA hval
 obtain ⟨v0, vs0, d0, ds0, p0, q0, hargs, rfl, rfl, h0, r0⟩ := trodAll_cons hA
 obtain ⟨v1, vs1, d1, ds1, p1, q1, rfl, rfl, rfl, h1, r1⟩ := trodAll_cons r0
 obtain ⟨rfl, rfl, rfl⟩ := trodAll_nil r1
 obtain rfl : args = #[v0, v1] := by cases args; simp_all
 obtain ⟨rfl, rfl⟩ := trodVars_none hV
 have j0 := h0
 have lt0 : ∀ x ∈ p0, x.block < W.heap.size := by obtain ⟨m, hm⟩ := j0; exact DataW.trod_lt m _ _ _ hm
 obtain ⟨cs0, rfl, _⟩ := okWide_struct Try.underlying26 (hval 0 26 v0 rfl rfl)
 obtain ⟨fu0, hf0⟩ := h0
 obtain ⟨T0, lv0, hcs0, hLI0, wT0⟩ := open_exp fu0 _ _ hf0
 obtain ⟨pp0, cl0, hlv0, _⟩ := hLI0.form
 obtain ⟨ln0, hln0⟩ : ∃ ln, T0.l.length = ln := ⟨_, rfl⟩
 rw [hln0] at hlv0
 subst hlv0
 obtain rfl : cs0 = (cellsT T0 (.slice pp0 ln0 cl0)).toArray := by rw [← hcs0]; simp [Value.cells]
 have j1 := h1
 have lt1 : ∀ x ∈ p1, x.block < W.heap.size := by obtain ⟨m, hm⟩ := j1; exact DataW.trod_lt m _ _ _ hm
 obtain ⟨cc0, cc1, cc2, cc3, yy0, yy1, yy2, yy3, m1, rfl, hd1, hp1, hy0, hy1, hy2, hy3⟩ := open_agg4 Try.underlying28 (by kernel_rfl) cells_three (hval 1 28 v1 rfl rfl) h1
 obtain ⟨Lp1, f0, _, wLp1⟩ := DataW.trod_int Try.underlying3 hy0
 obtain ⟨Lq1, f1, _, wLq1⟩ := DataW.trod_int Try.underlying3 hy1
 obtain ⟨Lu1, f2, _, wLu1⟩ := DataW.trod_int Try.underlying3 hy2
 obtain ⟨Lv1, f3, _, wLv1⟩ := DataW.trod_int Try.underlying3 hy3
 simp only [List.cons.injEq, and_true] at f0 f1 f2 f3
 obtain rfl := f0
 obtain rfl := f1
 obtain rfl := f2
 obtain rfl := f3
 clear hA0 hval0
 refine (walk T0 pp0 ln0 cl0 Lp1 Lq1 Lu1 Lv1 wT0 hLI0 wLp1 wLq1 wLu1 wLv1).mono fun e W' ⟨he, bel⟩ => ?_
 subst he
 exact ⟨_, rfl, _, _, _, [], _, [], hW', trodAll_mk1 (shut_bool Try.underlying4 _), (trodAll_cons_mk (Below.trod laidOut (by kernel_rfl) (of_decide_eq_true (by kernel_rfl)) j0 bel lt0) (trodAll_cons_mk (Below.trod laidOut (by kernel_rfl) (of_decide_eq_true (by kernel_rfl)) j1 bel lt1) trodAll_mk0)), rfl, Below.frame bel _, fun h => by cases h⟩

theorem over : Rows.relTwiceRow.holds Try.pinned (OpenSpec.ofChange Rows.relTwiceSpec) :=
 OpenClaim.holds_of_wide 7 Try.f7 rfl rfl rfl rfl rfl rfl rfl ⟨rfl, rfl, rfl, rfl, rfl⟩ rfl rfl rfl rfl rfl (by kernel_rfl) Try.func7 (by kernel_rfl)
   (of_decide_eq_true (by kernel_rfl)) (by unfold Func.isWrapper; first | (rw [if_pos (by decide +kernel)]; kernel_rfl) | (rw [if_neg (by decide +kernel)]; exact ⟨rfl, rfl⟩))
   (fun os started H enc _ => lifted os started H enc)

theorem proved : Rows.RelTwiceSaid := over
end Go.Proofs.Ytcggiljlilbdfaa.relTwice
namespace Go.Proofs.Ytcggiljlilbdfaa
theorem relTwice_holds : Rows.RelTwiceSaid := relTwice.proved
end Go.Proofs.Ytcggiljlilbdfaa
