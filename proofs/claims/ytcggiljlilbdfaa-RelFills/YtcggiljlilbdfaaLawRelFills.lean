/-
 RelFills is proved: for every tree (without a ring) and every four ints the call returns true and the arguments read as they did. No condition but the form's own reach.
-/
import Derived.Test.YtcggiljlilbdfaaV39
import Derived.Test.YtcggiljlilbdfaaV38
import Derived.Test.YtcggiljlilbdfaaV46
import Derived.Test.YtcggiljlilbdfaaV48
import Derived.Test.YtcggiljlilbdfaaV47
import Derived.Test.YtcggiljlilbdfaaV14
import Derived.Test.YtcggiljlilbdfaaV18
import Derived.Test.YtcggiljlilbdfaaV24
import Derived.Test.YtcggiljlilbdfaaRows
import Derived.ProofKit
import Derived.OpenShut
import Derived.ChangeOld
import Derived.SizedLaws
import Derived.Lib.SmallJoins
namespace Go.Proofs.Ytcggiljlilbdfaa.relFills
open Go.ChangeShapes Go.WideShapes Go.ChangeAt Go.RowKit Go.Joins
set_option maxHeartbeats 6000000
set_option maxRecDepth 100000

theorem own : ownKnob Try.prog.godebug = none := by kernel_rfl
theorem small_law (t : T) (pp : Option Addr) (ln cl : Nat) (w : World) (hL : IsL w (fun _ => True) (.slice pp ln cl) t.l) :
   Calls Try.prog 11 #[.agg #[.int .i64 t.k, .int .i64 t.n, .string (bs t.s), .int .i64 t.e, .int .i64 t.r.1, .int .i64 t.r.2.1, .bool t.r.2.2.1, .bool t.r.2.2.2, .int .i64 t.q.1, .int .i64 t.q.2.1, .bool t.q.2.2.1, .bool t.q.2.2.2, .slice pp ln cl]] w fun e w' => ∃ ok, e = .returned (.bool ok) ∧ Ext w w' ∧ (ok = true → Hr 401 t ∧ szT 401 t ≤ 1000) := by
 have c1 := fun W h => small_any 401 (Nat.le_refl _) t W (fun _ => True) pp ln cl 1000 (by decide) (by decide) h
 rw [show (401 : Int) - ((401 : Nat) : Int) = 0 from rfl] at c1
 have HI : Hid (IsL w (fun _ => True) (.slice pp ln cl) t.l) := hL
 clear hL
 go_enter Try.func11, Try.ntmps11
 go_wp2_with fail
 refine (c1 _ (HI.out.ext ((Ext.refl _).alloc _))).mono ?_
 rintro e w1 ⟨m, ok, rfl, E1, h1, h2, h3, hok⟩
 have HR : Hid (Ext w w1 ∧ (ok = true → m = szT 401 t ∧ Hr 401 t ∧ m ≤ max 1000 1)) := ⟨((Ext.refl _).alloc _).trans E1, hok⟩
 clear hok E1 h3
 go_wp2_with fail
 go_ret
 refine ⟨ok, rfl, HR.out.1, fun h => ?_⟩
 obtain ⟨q1, q2, q3⟩ := HR.out.2 h
 exact ⟨q2, by omega⟩
theorem walk (t : T) (pp : Option Addr) (ln cl : Nat) (o0 o1 o2 o3 : Int) (hW : Wf t) {w : World} (hL : IsL w (fun _ => True) (.slice pp ln cl) t.l) (_ : (Lit.int .i64 o0).wf = true) (_ : (Lit.int .i64 o1).wf = true) (_ : (Lit.int .i64 o2).wf = true) (_ : (Lit.int .i64 o3).wf = true) :
   Calls Try.prog 5 #[.agg #[.int .i64 t.k, .int .i64 t.n, .string (bs t.s), .int .i64 t.e, .int .i64 t.r.1, .int .i64 t.r.2.1, .bool t.r.2.2.1, .bool t.r.2.2.2, .int .i64 t.q.1, .int .i64 t.q.2.1, .bool t.q.2.2.1, .bool t.q.2.2.2, .slice pp ln cl], .agg #[.int .i64 o0, .int .i64 o1, .int .i64 o2, .int .i64 o3]] w fun e w' => e = .returned (.bool true) ∧ Ext w w' := by
 have HI : Hid (IsL w (fun _ => True) (.slice pp ln cl) t.l) := hL
 have HWF : Hid (Wf t) := hW
 clear hL hW
 go_enter Try.func5, Try.ntmps5
 go_wp2_with fail
 have HA : Hid (Ext w ((w.alloc (.cells #[.int .i64 t.k, .int .i64 t.n, .string (bs t.s), .int .i64 t.e, .int .i64 t.r.1, .int .i64 t.r.2.1, .bool t.r.2.2.1, .bool t.r.2.2.2, .int .i64 t.q.1, .int .i64 t.q.2.1, .bool t.q.2.2.1, .bool t.q.2.2.2, .slice pp ln cl] 26)).alloc (.cells #[.int .i64 o0, .int .i64 o1, .int .i64 o2, .int .i64 o3] 28)) ∧ BlkX ((w.alloc (.cells #[.int .i64 t.k, .int .i64 t.n, .string (bs t.s), .int .i64 t.e, .int .i64 t.r.1, .int .i64 t.r.2.1, .bool t.r.2.2.1, .bool t.r.2.2.2, .int .i64 t.q.1, .int .i64 t.q.2.1, .bool t.q.2.2.1, .bool t.q.2.2.2, .slice pp ln cl] 26)).alloc (.cells #[.int .i64 o0, .int .i64 o1, .int .i64 o2, .int .i64 o3] 28)) w.heap.size t (.slice pp ln cl) ∧ Blk ((w.alloc (.cells #[.int .i64 t.k, .int .i64 t.n, .string (bs t.s), .int .i64 t.e, .int .i64 t.r.1, .int .i64 t.r.2.1, .bool t.r.2.2.1, .bool t.r.2.2.2, .int .i64 t.q.1, .int .i64 t.q.2.1, .bool t.q.2.2.1, .bool t.q.2.2.2, .slice pp ln cl] 26)).alloc (.cells #[.int .i64 o0, .int .i64 o1, .int .i64 o2, .int .i64 o3] 28)) (w.heap.size + 1) (.int .i64 o0) (.int .i64 o1) (.int .i64 o2) (.int .i64 o3)) := ⟨((Ext.refl _).alloc _).alloc _, blk13_top rfl ((Ext.refl _).alloc _), blk_top (by simp) (Ext.refl _)⟩
 generalize ((w.alloc (.cells #[.int .i64 t.k, .int .i64 t.n, .string (bs t.s), .int .i64 t.e, .int .i64 t.r.1, .int .i64 t.r.2.1, .bool t.r.2.2.1, .bool t.r.2.2.2, .int .i64 t.q.1, .int .i64 t.q.2.1, .bool t.q.2.2.1, .bool t.q.2.2.2, .slice pp ln cl] 26)).alloc (.cells #[.int .i64 o0, .int .i64 o1, .int .i64 o2, .int .i64 o3] 28)) = w0 at *
 refine (small_law t pp ln cl _ (HI.out.ext HA.out.1)).mono ?_
 rintro e W1 ⟨ok, rfl, E1, hok⟩
 have HE1 : Hid (Ext w W1 ∧ BlkX W1 w.heap.size t (.slice pp ln cl) ∧ Blk W1 (w.heap.size + 1) (.int .i64 o0) (.int .i64 o1) (.int .i64 o2) (.int .i64 o3)) := ⟨HA.out.1.trans E1, HA.out.2.1.ext E1, HA.out.2.2.ext E1⟩
 clear E1 HA
 cases ok
 · clear hok
   go_wp2_with fail
   refine (lives10_any _).mono ?_
   rintro e w9 ⟨rfl, E9⟩
   have HE9 : Hid (Ext w w9) := Ext.trans HE1.out.1 E9
   clear E9
   go_wp2_with fail
   go_ret
   exact ⟨rfl, HE9.out⟩
 · have HH : Hid (Hr 401 t ∧ szT 401 t ≤ 1000) := hok rfl
   clear hok
   go_upto_region 3 with fail
   obtain ⟨N1, hN1⟩ : ∃ N, N + 1 = W1.heap.size := ⟨W1.heap.size - 1, by have h := HE1.out.2.2.1; omega⟩
   have HNW : Hid (N1 + 1 = W1.heap.size) := hN1
   have HN1 : Hid (N1 < W1.heap.size) := by show _ < _; omega
   clear hN1
   have OA : Hid (∀ V, Ext W1 V → Calls Try.prog 14 #[.agg #[.int .i64 t.k, .int .i64 t.n, .string (bs t.s), .int .i64 t.e, .int .i64 t.r.1, .int .i64 t.r.2.1, .bool t.r.2.2.1, .bool t.r.2.2.2, .int .i64 t.q.1, .int .i64 t.q.2.1, .bool t.q.2.2.1, .bool t.q.2.2.2, .slice pp ln cl]] V (OwnQ V t)) := fun V e => own_any 401 t HH.out.1 V (fun _ => True) pp ln cl (HI.out.ext (HE1.out.1.trans e))
   have mkS : Hid (∀ V, Ext W1 V → V.cell? ⟨w.heap.size, 0, none⟩ = some (.int .i64 t.k) ∧ V.cell? ⟨w.heap.size, 1, none⟩ = some (.int .i64 t.n) ∧ V.cell? ⟨w.heap.size, 2, none⟩ = some (.string (bs t.s)) ∧ V.cell? ⟨w.heap.size, 3, none⟩ = some (.int .i64 t.e) ∧ V.cell? ⟨w.heap.size, 4, none⟩ = some (.int .i64 t.r.1) ∧ V.cell? ⟨w.heap.size, 5, none⟩ = some (.int .i64 t.r.2.1) ∧ V.cell? ⟨w.heap.size, 6, none⟩ = some (.bool t.r.2.2.1) ∧ V.cell? ⟨w.heap.size, 7, none⟩ = some (.bool t.r.2.2.2) ∧ V.cell? ⟨w.heap.size, 8, none⟩ = some (.int .i64 t.q.1) ∧ V.cell? ⟨w.heap.size, 9, none⟩ = some (.int .i64 t.q.2.1) ∧ V.cell? ⟨w.heap.size, 10, none⟩ = some (.bool t.q.2.2.1) ∧ V.cell? ⟨w.heap.size, 11, none⟩ = some (.bool t.q.2.2.2) ∧ V.cell? ⟨w.heap.size, 12, none⟩ = some (.slice pp ln cl) ∧ V.cell? ⟨w.heap.size + 1, 0, none⟩ = some (.int .i64 o0) ∧ V.cell? ⟨w.heap.size + 1, 1, none⟩ = some (.int .i64 o1) ∧ V.cell? ⟨w.heap.size + 1, 2, none⟩ = some (.int .i64 o2) ∧ V.cell? ⟨w.heap.size + 1, 3, none⟩ = some (.int .i64 o3)) := fun V e => by
     obtain ⟨qz, ⟨k0, k1, k2, k3, k4, k5, k6, k7, k8, k9, k10, k11, k12⟩, gz⟩ := HE1.out.2.1.ext e
     obtain ⟨qx, ⟨n0, n1, n2, n3⟩, gx⟩ := HE1.out.2.2.ext e
     exact ⟨k0, k1, k2, k3, k4, k5, k6, k7, k8, k9, k10, k11, k12, n0, n1, n2, n3⟩
   have FIc : Hid (∀ V p l c, IsL V (fun _ => True) (.slice p l c) t.l → Calls Try.prog 21 #[.agg #[.int .i64 t.k, .int .i64 t.n, .string (bs t.s), .int .i64 t.e, .int .i64 t.r.1, .int .i64 t.r.2.1, .bool t.r.2.2.1, .bool t.r.2.2.2, .int .i64 t.q.1, .int .i64 t.q.2.1, .bool t.q.2.2.1, .bool t.q.2.2.2, .slice p l c], .int .i64 o0, .int .i64 o1] V (MpQ V (if wellT 401 t then mpT (fiE o0 o1) 401 t else tz))) := fun V p l c h => fill_any 401 t HH.out.1 o0 o1 V (fun _ => True) p l c h
   obtain ⟨y, hy⟩ : ∃ y, (if wellT 401 t then mpT (fiE o0 o1) 401 t else tz) = y := ⟨_, rfl⟩
   have HY : Hid ((if wellT 401 t then mpT (fiE o0 o1) 401 t else tz) = y) := hy
   rw [hy] at FIc
   clear hy
   go_cut [5] (fun pa wx => ∃ (ga : Nat) (p2 : Option Addr) (l2 c2 : Nat), pa = .pointer (some ⟨ga, 0, none⟩) ∧ BlkX wx ga y (.slice p2 l2 c2) ∧ IsL wx (fun k => k ≠ ga) (.slice p2 l2 c2) y.l ∧ Ext W1 wx ∧ N1 < ga)
   case first =>
     clear HY HWF
     refine bar_begin (B := fun _ => false) (S := fun V => V.cell? ⟨w.heap.size, 0, none⟩ = some (.int .i64 t.k) ∧ V.cell? ⟨w.heap.size, 1, none⟩ = some (.int .i64 t.n) ∧ V.cell? ⟨w.heap.size, 2, none⟩ = some (.string (bs t.s)) ∧ V.cell? ⟨w.heap.size, 3, none⟩ = some (.int .i64 t.e) ∧ V.cell? ⟨w.heap.size, 4, none⟩ = some (.int .i64 t.r.1) ∧ V.cell? ⟨w.heap.size, 5, none⟩ = some (.int .i64 t.r.2.1) ∧ V.cell? ⟨w.heap.size, 6, none⟩ = some (.bool t.r.2.2.1) ∧ V.cell? ⟨w.heap.size, 7, none⟩ = some (.bool t.r.2.2.2) ∧ V.cell? ⟨w.heap.size, 8, none⟩ = some (.int .i64 t.q.1) ∧ V.cell? ⟨w.heap.size, 9, none⟩ = some (.int .i64 t.q.2.1) ∧ V.cell? ⟨w.heap.size, 10, none⟩ = some (.bool t.q.2.2.1) ∧ V.cell? ⟨w.heap.size, 11, none⟩ = some (.bool t.q.2.2.2) ∧ V.cell? ⟨w.heap.size, 12, none⟩ = some (.slice pp ln cl) ∧ V.cell? ⟨w.heap.size + 1, 0, none⟩ = some (.int .i64 o0) ∧ V.cell? ⟨w.heap.size + 1, 1, none⟩ = some (.int .i64 o1) ∧ V.cell? ⟨w.heap.size + 1, 2, none⟩ = some (.int .i64 o2) ∧ V.cell? ⟨w.heap.size + 1, 3, none⟩ = some (.int .i64 o3)) (by kernel_rfl) ?_
     obtain ⟨y0, hy0⟩ : ∃ y0, World.drew W1 = y0 := ⟨_, rfl⟩
     have X : Hid (Ext W1 y0) := by show Ext _ _; rw [← hy0]; exact (Ext.refl _).drew
     rw [hy0]
     clear hy0
     have hS0 := mkS.out y0 X.out
     refine bar_take (i := 0) (v := ?v0) rfl (by kernel_rfl) (by kernel_rfl) (by kernel_rfl) (by kernel_rfl) (fun _ _ _ h => h) (Or.inl ⟨by rfl, ?hy0⟩) hS0 ?rest0
     case hy0 => (intro W hSW; (try dsimp only at hSW); go_simp; with_reducible rfl)
     simp only [Act.put, List.setIfInBounds_toArray]
     refine bar_take (i := 2) (v := ?v2) rfl (by kernel_rfl) (by kernel_rfl) (by kernel_rfl) (by kernel_rfl) (fun _ _ _ h => h) (Or.inl ⟨by rfl, ?hy2⟩) hS0 ?rest2
     case hy2 => (intro W hSW; (try dsimp only at hSW); go_simp; with_reducible rfl)
     simp only [Act.put]
     refine bar_take (i := 3) (v := ?v3) rfl (by kernel_rfl) (by kernel_rfl) (by kernel_rfl) (by kernel_rfl) (fun _ _ _ h => h) (Or.inl ⟨by rfl, ?hy3⟩) hS0 ?rest3
     case hy3 => (intro W hSW; (try dsimp only at hSW); go_simp; with_reducible rfl)
     simp only [Act.put]
     refine bar_take (i := 4) (v := ?v4) rfl (by kernel_rfl) (by kernel_rfl) (by kernel_rfl) (by kernel_rfl) (fun _ _ _ h => h) (Or.inl ⟨by rfl, ?hy4⟩) hS0 ?rest4
     case hy4 => (intro W hSW; (try dsimp only at hSW); go_simp; with_reducible rfl)
     simp only [Act.put]
     refine bar_take (i := 5) (v := ?v5) rfl (by kernel_rfl) (by kernel_rfl) (by kernel_rfl) (by kernel_rfl) (fun _ _ _ h => h) (Or.inl ⟨by rfl, ?hy5⟩) hS0 ?rest5
     case hy5 => (intro W hSW; (try dsimp only at hSW); go_simp; with_reducible rfl)
     simp only [Act.put]
     clear hS0
     refine bar_list (rs := [1, 7]) (by kernel_rfl) (by simp) ?_
     refine Bars.cons rfl (fun KK hKK => ?_) ?_
     · go_simp
       go_wp2_with (go_at_call 14; refine Calls.mono (OA.out _ X.out) ?_; rintro e y1 ⟨lv1, rfl, hL1, E⟩; obtain ⟨p1, c1, hlv, hcl⟩ := hL1.form; obtain ⟨l1, hl1⟩ : ∃ l1, t.l.length = l1 := ⟨_, rfl⟩; rw [hl1] at hlv; subst hlv; have H1 : Hid (IsL y1 (fun _ => True) (.slice p1 l1 c1) t.l) := hL1.mono (fun _ _ _ => trivial); clear hL1 hcl hl1; unfold aggX)
       replace X : Hid (Ext W1 y1) := X.out.trans E
       refine hKK.out _ _ (fun _ => mkS.out _ X.out) ?_
       clear hKK KK
       clear E
       refine bar_list (rs := [6, 7]) (by kernel_rfl) (by simp) ?_
       refine Bars.cons rfl (fun KK hKK => ?_) ?_
       · go_simp
         go_wp2_with (go_at_call 21; refine Calls.mono (FIc.out _ p1 l1 c1 (H1.out.mono (fun _ _ _ => trivial))) ?_; rintro e y2 ⟨p2, l2, c2, rfl, hL2, E⟩; have H2 : Hid (IsL y2 (fun _ => True) (.slice p2 l2 c2) y.l) := hL2.mono (fun _ _ _ => trivial); clear hL2; unfold aggX)
         replace X : Hid (Ext W1 y2) := X.out.trans E
         refine hKK.out _ _ (fun _ => mkS.out _ X.out) ?_
         clear hKK KK
         replace H1 := hxL H1 E
         clear E
         refine bar_one (i := 7) (by kernel_rfl) rfl (fun KK hKK => ?_)
         go_simp
         refine hKK.out _ _ (fun _ => mkS.out _ (X.out.alloc _)) ?_
         clear hKK KK
         obtain ⟨y3, hya⟩ : ∃ ya, World.alloc y2 (.cells #[.int .i64 0, .int .i64 0, .string ⟨#[]⟩, .int .i64 0, .int .i64 0, .int .i64 0, .bool false, .bool false, .int .i64 0, .int .i64 0, .bool false, .bool false, .slice none 0 0] 26) = ya := ⟨_, rfl⟩
         obtain ⟨ga, hga⟩ : ∃ g, y2.heap.size = g := ⟨_, rfl⟩
         have E : Ext y2 y3 := by rw [← hya]; exact (Ext.refl _).alloc _
         have GA : Hid (BlkX y3 ga tz (.slice none 0 0)) := by rw [← hya, ← hga]; exact BlkX.top rfl (Ext.refl _)
         have NGA : Hid (N1 < ga) := by show _ < _; rw [← hga]; exact Nat.lt_of_lt_of_le HN1.out X.out.sz
         rw [hya, hga]
         replace X : Hid (Ext W1 y3) := X.out.trans E
         replace H1 : Hid (IsL y3 (fun k => k ≠ ga) (.slice p1 l1 c1) t.l) := (H1.out.mono (fun k _ hs => by have h2 : k < ga := (by rw [← hga]; exact hs); show k ≠ ga; omega)).ext E
         replace H2 : Hid (IsL y3 (fun k => k ≠ ga) (.slice p2 l2 c2) y.l) := (H2.out.mono (fun k _ hs => by have h2 : k < ga := (by rw [← hga]; exact hs); show k ≠ ga; omega)).ext E
         clear E hya hga
         obtain ⟨zb, ⟨b0, b1, b2, b3, b4, b5, b6, b7, b8, b9, b10, b11, b12⟩, bf0, bf1, bf2, bf3, bf4, bf5, bf6, bf7, bf8, bf9, bf10, bf11, bf12⟩ := GA.out
         refine bar_one (i := 8) (by kernel_rfl) rfl (fun KK hKK => ?_)
         go_simp
         have EP : Hid (Ext W1 (putX y3 ga y (.slice p2 l2 c2))) := putX_E X.out (by have h1 := HNW.out; have h3 := NGA.out; show W1.heap.size ≤ ga; omega) _ _
         refine hKK.out _ (putX y3 ga y (.slice p2 l2 c2)) (fun _ => mkS.out _ EP.out) ?_
         clear hKK KK zb b0 b1 b2 b3 b4 b5 b6 b7 b8 b9 b10 b11 b12 bf0 bf1 bf2 bf3 bf4 bf5 bf6 bf7 bf8 bf9 bf10 bf11 bf12
         replace GA : Hid (BlkX (putX y3 ga y (.slice p2 l2 c2)) ga y (.slice p2 l2 c2)) := GA.out.put _ _
         replace H2 : Hid (IsL (putX y3 ga y (.slice p2 l2 c2)) (fun k => k ≠ ga) (.slice p2 l2 c2) y.l) := putX_L H2.out (fun k hk => by have hk2 : k ≠ ga := hk; omega)
         replace X := EP
         clear EP
         generalize putX y3 ga y (.slice p2 l2 c2) = w4 at *
         refine bar_done (by kernel_rfl) ?_ _
         go_wp2_with fail
         go_meet
         case rel => exact ⟨ga, p2, l2, c2, rfl, GA.out, H2.out, X.out, NGA.out⟩
       · refine Bars.cons rfl (fun KK hKK => ?_) ?_
         · go_simp
           refine hKK.out _ _ (fun _ => mkS.out _ (X.out.alloc _)) ?_
           clear hKK KK
           obtain ⟨y2, hya⟩ : ∃ ya, World.alloc y1 (.cells #[.int .i64 0, .int .i64 0, .string ⟨#[]⟩, .int .i64 0, .int .i64 0, .int .i64 0, .bool false, .bool false, .int .i64 0, .int .i64 0, .bool false, .bool false, .slice none 0 0] 26) = ya := ⟨_, rfl⟩
           obtain ⟨ga, hga⟩ : ∃ g, y1.heap.size = g := ⟨_, rfl⟩
           have E : Ext y1 y2 := by rw [← hya]; exact (Ext.refl _).alloc _
           have GA : Hid (BlkX y2 ga tz (.slice none 0 0)) := by rw [← hya, ← hga]; exact BlkX.top rfl (Ext.refl _)
           have NGA : Hid (N1 < ga) := by show _ < _; rw [← hga]; exact Nat.lt_of_lt_of_le HN1.out X.out.sz
           rw [hya, hga]
           replace X : Hid (Ext W1 y2) := X.out.trans E
           replace H1 : Hid (IsL y2 (fun k => k ≠ ga) (.slice p1 l1 c1) t.l) := (H1.out.mono (fun k _ hs => by have h2 : k < ga := (by rw [← hga]; exact hs); show k ≠ ga; omega)).ext E
           clear E hya hga
           refine bar_one (i := 6) (by kernel_rfl) rfl (fun KK hKK => ?_)
           go_simp
           go_wp2_with (go_at_call 21; refine Calls.mono (FIc.out _ p1 l1 c1 (H1.out.mono (fun _ _ _ => trivial))) ?_; rintro e y3 ⟨p2, l2, c2, rfl, hL2, E⟩; have H2 : Hid (IsL y3 (fun k => k ≠ ga) (.slice p2 l2 c2) y.l) := hL2.mono (fun k hk _ => by have hk2 : y2.heap.size ≤ k := hk; have q0 := GA.out.1; show k ≠ ga; omega); clear hL2; unfold aggX)
           replace X : Hid (Ext W1 y3) := X.out.trans E
           refine hKK.out _ _ (fun _ => mkS.out _ X.out) ?_
           clear hKK KK
           replace H1 := hxL H1 E
           replace GA := hx13 GA E
           clear E
           obtain ⟨zb, ⟨b0, b1, b2, b3, b4, b5, b6, b7, b8, b9, b10, b11, b12⟩, bf0, bf1, bf2, bf3, bf4, bf5, bf6, bf7, bf8, bf9, bf10, bf11, bf12⟩ := GA.out
           refine bar_one (i := 8) (by kernel_rfl) rfl (fun KK hKK => ?_)
           go_simp
           have EP : Hid (Ext W1 (putX y3 ga y (.slice p2 l2 c2))) := putX_E X.out (by have h1 := HNW.out; have h3 := NGA.out; show W1.heap.size ≤ ga; omega) _ _
           refine hKK.out _ (putX y3 ga y (.slice p2 l2 c2)) (fun _ => mkS.out _ EP.out) ?_
           clear hKK KK zb b0 b1 b2 b3 b4 b5 b6 b7 b8 b9 b10 b11 b12 bf0 bf1 bf2 bf3 bf4 bf5 bf6 bf7 bf8 bf9 bf10 bf11 bf12
           replace GA : Hid (BlkX (putX y3 ga y (.slice p2 l2 c2)) ga y (.slice p2 l2 c2)) := GA.out.put _ _
           replace H2 : Hid (IsL (putX y3 ga y (.slice p2 l2 c2)) (fun k => k ≠ ga) (.slice p2 l2 c2) y.l) := putX_L H2.out (fun k hk => by have hk2 : k ≠ ga := hk; omega)
           replace X := EP
           clear EP
           generalize putX y3 ga y (.slice p2 l2 c2) = w4 at *
           refine bar_done (by kernel_rfl) ?_ _
           go_wp2_with fail
           go_meet
           case rel => exact ⟨ga, p2, l2, c2, rfl, GA.out, H2.out, X.out, NGA.out⟩
         · exact Bars.nil
     · refine Bars.cons rfl (fun KK hKK => ?_) ?_
       · go_simp
         refine hKK.out _ _ (fun _ => mkS.out _ (X.out.alloc _)) ?_
         clear hKK KK
         obtain ⟨y1, hya⟩ : ∃ ya, World.alloc y0 (.cells #[.int .i64 0, .int .i64 0, .string ⟨#[]⟩, .int .i64 0, .int .i64 0, .int .i64 0, .bool false, .bool false, .int .i64 0, .int .i64 0, .bool false, .bool false, .slice none 0 0] 26) = ya := ⟨_, rfl⟩
         obtain ⟨ga, hga⟩ : ∃ g, y0.heap.size = g := ⟨_, rfl⟩
         have E : Ext y0 y1 := by rw [← hya]; exact (Ext.refl _).alloc _
         have GA : Hid (BlkX y1 ga tz (.slice none 0 0)) := by rw [← hya, ← hga]; exact BlkX.top rfl (Ext.refl _)
         have NGA : Hid (N1 < ga) := by show _ < _; rw [← hga]; exact Nat.lt_of_lt_of_le HN1.out X.out.sz
         rw [hya, hga]
         replace X : Hid (Ext W1 y1) := X.out.trans E
         clear E hya hga
         refine bar_one (i := 1) (by kernel_rfl) rfl (fun KK hKK => ?_)
         go_simp
         go_wp2_with (go_at_call 14; refine Calls.mono (OA.out _ X.out) ?_; rintro e y2 ⟨lv1, rfl, hL1, E⟩; obtain ⟨p1, c1, hlv, hcl⟩ := hL1.form; obtain ⟨l1, hl1⟩ : ∃ l1, t.l.length = l1 := ⟨_, rfl⟩; rw [hl1] at hlv; subst hlv; have H1 : Hid (IsL y2 (fun k => k ≠ ga) (.slice p1 l1 c1) t.l) := hL1.mono (fun k hk _ => by have hk2 : y1.heap.size ≤ k := hk; have q0 := GA.out.1; show k ≠ ga; omega); clear hL1 hcl hl1; unfold aggX)
         replace X : Hid (Ext W1 y2) := X.out.trans E
         refine hKK.out _ _ (fun _ => mkS.out _ X.out) ?_
         clear hKK KK
         replace GA := hx13 GA E
         clear E
         refine bar_one (i := 6) (by kernel_rfl) rfl (fun KK hKK => ?_)
         go_simp
         go_wp2_with (go_at_call 21; refine Calls.mono (FIc.out _ p1 l1 c1 (H1.out.mono (fun _ _ _ => trivial))) ?_; rintro e y3 ⟨p2, l2, c2, rfl, hL2, E⟩; have H2 : Hid (IsL y3 (fun k => k ≠ ga) (.slice p2 l2 c2) y.l) := hL2.mono (fun k hk _ => by have hk2 : y2.heap.size ≤ k := hk; have q0 := GA.out.1; show k ≠ ga; omega); clear hL2; unfold aggX)
         replace X : Hid (Ext W1 y3) := X.out.trans E
         refine hKK.out _ _ (fun _ => mkS.out _ X.out) ?_
         clear hKK KK
         replace GA := hx13 GA E
         replace H1 := hxL H1 E
         clear E
         obtain ⟨zb, ⟨b0, b1, b2, b3, b4, b5, b6, b7, b8, b9, b10, b11, b12⟩, bf0, bf1, bf2, bf3, bf4, bf5, bf6, bf7, bf8, bf9, bf10, bf11, bf12⟩ := GA.out
         refine bar_one (i := 8) (by kernel_rfl) rfl (fun KK hKK => ?_)
         go_simp
         have EP : Hid (Ext W1 (putX y3 ga y (.slice p2 l2 c2))) := putX_E X.out (by have h1 := HNW.out; have h3 := NGA.out; show W1.heap.size ≤ ga; omega) _ _
         refine hKK.out _ (putX y3 ga y (.slice p2 l2 c2)) (fun _ => mkS.out _ EP.out) ?_
         clear hKK KK zb b0 b1 b2 b3 b4 b5 b6 b7 b8 b9 b10 b11 b12 bf0 bf1 bf2 bf3 bf4 bf5 bf6 bf7 bf8 bf9 bf10 bf11 bf12
         replace GA : Hid (BlkX (putX y3 ga y (.slice p2 l2 c2)) ga y (.slice p2 l2 c2)) := GA.out.put _ _
         replace H2 : Hid (IsL (putX y3 ga y (.slice p2 l2 c2)) (fun k => k ≠ ga) (.slice p2 l2 c2) y.l) := putX_L H2.out (fun k hk => by have hk2 : k ≠ ga := hk; omega)
         replace X := EP
         clear EP
         generalize putX y3 ga y (.slice p2 l2 c2) = w4 at *
         refine bar_done (by kernel_rfl) ?_ _
         go_wp2_with fail
         go_meet
         case rel => exact ⟨ga, p2, l2, c2, rfl, GA.out, H2.out, X.out, NGA.out⟩
       · exact Bars.nil
   case rest =>
     obtain ⟨ga, p2, l2, c2, rfl, QA, QL, QE, hga⟩ := hcut
     have HQ : Hid ((Ext w wc ∧ BlkX wc w.heap.size t (.slice pp ln cl) ∧ Blk wc (w.heap.size + 1) (.int .i64 o0) (.int .i64 o1) (.int .i64 o2) (.int .i64 o3)) ∧ BlkX wc ga y (.slice p2 l2 c2) ∧ IsL wc (fun _ => True) (.slice p2 l2 c2) y.l) := ⟨⟨HE1.out.1.trans QE, HE1.out.2.1.ext QE, HE1.out.2.2.ext QE⟩, QA, QL.mono (fun _ _ _ => trivial)⟩
     have HHy : Hid (Hr 401 y) := by show Hr 401 y; rw [← HY.out]; exact hr_filled o0 o1 401 t HH.out.1
     have HGA : Hid (w.heap.size + 1 < ga) := by show _ < _; have h1 := HE1.out.2.2.1; have h2 := HNW.out; omega
     clear mkS FIc OA QA QL QE hga HNW HN1
     have RFc := rfillc_any 401 t HH.out.1 o0 o1 wc (fun _ => True) pp ln cl (HI.out.ext HQ.out.1.1)
     rw [HY.out] at RFc
     obtain ⟨qz, ⟨k0, k1, k2, k3, k4, k5, k6, k7, k8, k9, k10, k11, k12⟩, gz⟩ := HQ.out.1.2.1
     obtain ⟨qx, ⟨n0, n1, n2, n3⟩, gx⟩ := HQ.out.1.2.2
     clear gz gx qz qx
     go_wp2_with fail
     refine RFc.mono ?_
     rintro e wg ⟨p3, l3, c3, rfl, L3, E3⟩
     replace HQ : Hid ((Ext w wg ∧ BlkX wg w.heap.size t (.slice pp ln cl) ∧ Blk wg (w.heap.size + 1) (.int .i64 o0) (.int .i64 o1) (.int .i64 o2) (.int .i64 o3)) ∧ BlkX wg ga y (.slice p2 l2 c2) ∧ IsL wg (fun _ => True) (.slice p2 l2 c2) y.l) := ⟨⟨HQ.out.1.1.trans E3, HQ.out.1.2.1.ext E3, HQ.out.1.2.2.ext E3⟩, HQ.out.2.1.ext E3, HQ.out.2.2.ext E3⟩
     have HG3 : Hid (IsL wg (fun _ => True) (.slice p3 l3 c3) y.l) := L3.mono (fun _ _ _ => trivial)
     clear E3 L3 RFc k0 k1 k2 k3 k4 k5 k6 k7 k8 k9 k10 k11 k12 n0 n1 n2 n3
     unfold aggX
     go_upto_region 5 with fail
     replace HQ : Hid ((Ext w (wg.alloc (.cells #[.int .i64 y.k, .int .i64 y.n, .string (bs y.s), .int .i64 y.e, .int .i64 y.r.1, .int .i64 y.r.2.1, .bool y.r.2.2.1, .bool y.r.2.2.2, .int .i64 y.q.1, .int .i64 y.q.2.1, .bool y.q.2.2.1, .bool y.q.2.2.2, .slice p3 l3 c3] 26)) ∧ BlkX (wg.alloc (.cells #[.int .i64 y.k, .int .i64 y.n, .string (bs y.s), .int .i64 y.e, .int .i64 y.r.1, .int .i64 y.r.2.1, .bool y.r.2.2.1, .bool y.r.2.2.2, .int .i64 y.q.1, .int .i64 y.q.2.1, .bool y.q.2.2.1, .bool y.q.2.2.2, .slice p3 l3 c3] 26)) w.heap.size t (.slice pp ln cl) ∧ Blk (wg.alloc (.cells #[.int .i64 y.k, .int .i64 y.n, .string (bs y.s), .int .i64 y.e, .int .i64 y.r.1, .int .i64 y.r.2.1, .bool y.r.2.2.1, .bool y.r.2.2.2, .int .i64 y.q.1, .int .i64 y.q.2.1, .bool y.q.2.2.1, .bool y.q.2.2.2, .slice p3 l3 c3] 26)) (w.heap.size + 1) (.int .i64 o0) (.int .i64 o1) (.int .i64 o2) (.int .i64 o3)) ∧ BlkX (wg.alloc (.cells #[.int .i64 y.k, .int .i64 y.n, .string (bs y.s), .int .i64 y.e, .int .i64 y.r.1, .int .i64 y.r.2.1, .bool y.r.2.2.1, .bool y.r.2.2.2, .int .i64 y.q.1, .int .i64 y.q.2.1, .bool y.q.2.2.1, .bool y.q.2.2.2, .slice p3 l3 c3] 26)) ga y (.slice p2 l2 c2) ∧ IsL (wg.alloc (.cells #[.int .i64 y.k, .int .i64 y.n, .string (bs y.s), .int .i64 y.e, .int .i64 y.r.1, .int .i64 y.r.2.1, .bool y.r.2.2.1, .bool y.r.2.2.2, .int .i64 y.q.1, .int .i64 y.q.2.1, .bool y.q.2.2.1, .bool y.q.2.2.2, .slice p3 l3 c3] 26)) (fun _ => True) (.slice p2 l2 c2) y.l) := ⟨⟨HQ.out.1.1.alloc _, HQ.out.1.2.1.ext ((Ext.refl _).alloc _), HQ.out.1.2.2.ext ((Ext.refl _).alloc _)⟩, HQ.out.2.1.ext ((Ext.refl _).alloc _), HQ.out.2.2.ext ((Ext.refl _).alloc _)⟩
     replace HG3 : Hid (IsL (wg.alloc (.cells #[.int .i64 y.k, .int .i64 y.n, .string (bs y.s), .int .i64 y.e, .int .i64 y.r.1, .int .i64 y.r.2.1, .bool y.r.2.2.1, .bool y.r.2.2.2, .int .i64 y.q.1, .int .i64 y.q.2.1, .bool y.q.2.2.1, .bool y.q.2.2.2, .slice p3 l3 c3] 26)) (fun _ => True) (.slice p3 l3 c3) y.l ∧ BlkX (wg.alloc (.cells #[.int .i64 y.k, .int .i64 y.n, .string (bs y.s), .int .i64 y.e, .int .i64 y.r.1, .int .i64 y.r.2.1, .bool y.r.2.2.1, .bool y.r.2.2.2, .int .i64 y.q.1, .int .i64 y.q.2.1, .bool y.q.2.2.1, .bool y.q.2.2.2, .slice p3 l3 c3] 26)) wg.heap.size y (.slice p3 l3 c3)) := ⟨HG3.out.ext ((Ext.refl _).alloc _), blk13_top rfl (Ext.refl _)⟩
     generalize wg.heap.size = gb at *
     generalize (wg.alloc (.cells #[.int .i64 y.k, .int .i64 y.n, .string (bs y.s), .int .i64 y.e, .int .i64 y.r.1, .int .i64 y.r.2.1, .bool y.r.2.2.1, .bool y.r.2.2.2, .int .i64 y.q.1, .int .i64 y.q.2.1, .bool y.q.2.2.1, .bool y.q.2.2.2, .slice p3 l3 c3] 26)) = wh at *
     have SAc := rsame_any (fun _ => True) 401 y HHy.out y wh p2 p3 l2 c2 l3 c3 HQ.out.2.2 HG3.out.1
     rw [same_refl 401 y HHy.out] at SAc
     obtain ⟨qy, ⟨m0, m1, m2, m3, m4, m5, m6, m7, m8, m9, m10, m11, m12⟩, gy⟩ := HQ.out.2.1
     obtain ⟨qz, ⟨k0, k1, k2, k3, k4, k5, k6, k7, k8, k9, k10, k11, k12⟩, gz⟩ := HG3.out.2
     clear gy gz qy qz
     go_wp2_with fail
     refine SAc.mono ?_
     rintro e wi ⟨rfl, E4⟩
     replace HQ : Hid ((Ext w wi ∧ BlkX wi w.heap.size t (.slice pp ln cl) ∧ Blk wi (w.heap.size + 1) (.int .i64 o0) (.int .i64 o1) (.int .i64 o2) (.int .i64 o3)) ∧ BlkX wi ga y (.slice p2 l2 c2) ∧ IsL wi (fun _ => True) (.slice p2 l2 c2) y.l) := ⟨⟨HQ.out.1.1.trans E4, HQ.out.1.2.1.ext E4, HQ.out.1.2.2.ext E4⟩, HQ.out.2.1.ext E4, HQ.out.2.2.ext E4⟩
     clear E4 SAc HG3 k0 k1 k2 k3 k4 k5 k6 k7 k8 k9 k10 k11 k12 m0 m1 m2 m3 m4 m5 m6 m7 m8 m9 m10 m11 m12
     obtain ⟨qz, ⟨k0, k1, k2, k3, k4, k5, k6, k7, k8, k9, k10, k11, k12⟩, gz⟩ := HQ.out.1.2.1
     clear gz qz
     have C0 := rwell_any (fun _ => True) 401 t HH.out.1 wi pp ln cl (HI.out.ext HQ.out.1.1)
     go_wp2_with fail
     refine C0.mono ?_
     rintro e wk ⟨rfl, E5⟩
     replace HQ : Hid ((Ext w wk ∧ BlkX wk w.heap.size t (.slice pp ln cl) ∧ Blk wk (w.heap.size + 1) (.int .i64 o0) (.int .i64 o1) (.int .i64 o2) (.int .i64 o3)) ∧ BlkX wk ga y (.slice p2 l2 c2) ∧ IsL wk (fun _ => True) (.slice p2 l2 c2) y.l) := ⟨⟨HQ.out.1.1.trans E5, HQ.out.1.2.1.ext E5, HQ.out.1.2.2.ext E5⟩, HQ.out.2.1.ext E5, HQ.out.2.2.ext E5⟩
     clear E5 C0 k0 k1 k2 k3 k4 k5 k6 k7 k8 k9 k10 k11 k12
     cases hwl : wellT 401 t
     · clear hwl
       go_wp2_with fail
       refine (lives10_any _).mono ?_
       rintro e w9 ⟨rfl, E9⟩
       have HE9 : Hid (Ext w w9) := Ext.trans HQ.out.1.1 E9
       clear E9
       go_wp2_with fail
       go_ret
       exact ⟨rfl, HE9.out⟩
     · have HWT : Hid (wellT 401 t = true) := hwl
       clear hwl
       have HYM : Hid (mpT (fiE o0 o1) 401 t = y) := by
         show _ = _
         have := HY.out
         rw [HWT.out, if_pos rfl] at this
         exact this
       go_upto_region 9 with fail
       have mkS : Hid (∀ V, Ext wk V → V.cell? ⟨w.heap.size, 0, none⟩ = some (.int .i64 t.k) ∧ V.cell? ⟨w.heap.size, 1, none⟩ = some (.int .i64 t.n) ∧ V.cell? ⟨w.heap.size, 2, none⟩ = some (.string (bs t.s)) ∧ V.cell? ⟨w.heap.size, 3, none⟩ = some (.int .i64 t.e) ∧ V.cell? ⟨w.heap.size, 4, none⟩ = some (.int .i64 t.r.1) ∧ V.cell? ⟨w.heap.size, 5, none⟩ = some (.int .i64 t.r.2.1) ∧ V.cell? ⟨w.heap.size, 6, none⟩ = some (.bool t.r.2.2.1) ∧ V.cell? ⟨w.heap.size, 7, none⟩ = some (.bool t.r.2.2.2) ∧ V.cell? ⟨w.heap.size, 8, none⟩ = some (.int .i64 t.q.1) ∧ V.cell? ⟨w.heap.size, 9, none⟩ = some (.int .i64 t.q.2.1) ∧ V.cell? ⟨w.heap.size, 10, none⟩ = some (.bool t.q.2.2.1) ∧ V.cell? ⟨w.heap.size, 11, none⟩ = some (.bool t.q.2.2.2) ∧ V.cell? ⟨w.heap.size, 12, none⟩ = some (.slice pp ln cl) ∧ V.cell? ⟨w.heap.size + 1, 0, none⟩ = some (.int .i64 o0) ∧ V.cell? ⟨w.heap.size + 1, 1, none⟩ = some (.int .i64 o1) ∧ V.cell? ⟨w.heap.size + 1, 2, none⟩ = some (.int .i64 o2) ∧ V.cell? ⟨w.heap.size + 1, 3, none⟩ = some (.int .i64 o3) ∧ V.cell? ⟨ga, 0, none⟩ = some (.int .i64 y.k) ∧ V.cell? ⟨ga, 1, none⟩ = some (.int .i64 y.n) ∧ V.cell? ⟨ga, 2, none⟩ = some (.string (bs y.s)) ∧ V.cell? ⟨ga, 3, none⟩ = some (.int .i64 y.e) ∧ V.cell? ⟨ga, 4, none⟩ = some (.int .i64 y.r.1) ∧ V.cell? ⟨ga, 5, none⟩ = some (.int .i64 y.r.2.1) ∧ V.cell? ⟨ga, 6, none⟩ = some (.bool y.r.2.2.1) ∧ V.cell? ⟨ga, 7, none⟩ = some (.bool y.r.2.2.2) ∧ V.cell? ⟨ga, 8, none⟩ = some (.int .i64 y.q.1) ∧ V.cell? ⟨ga, 9, none⟩ = some (.int .i64 y.q.2.1) ∧ V.cell? ⟨ga, 10, none⟩ = some (.bool y.q.2.2.1) ∧ V.cell? ⟨ga, 11, none⟩ = some (.bool y.q.2.2.2) ∧ V.cell? ⟨ga, 12, none⟩ = some (.slice p2 l2 c2)) := fun V e => by
         obtain ⟨qz, ⟨k0, k1, k2, k3, k4, k5, k6, k7, k8, k9, k10, k11, k12⟩, gz⟩ := HQ.out.1.2.1.ext e
         obtain ⟨qx, ⟨n0, n1, n2, n3⟩, gx⟩ := HQ.out.1.2.2.ext e
         obtain ⟨qy, ⟨m0, m1, m2, m3, m4, m5, m6, m7, m8, m9, m10, m11, m12⟩, gy⟩ := HQ.out.2.1.ext e
         exact ⟨k0, k1, k2, k3, k4, k5, k6, k7, k8, k9, k10, k11, k12, n0, n1, n2, n3, m0, m1, m2, m3, m4, m5, m6, m7, m8, m9, m10, m11, m12⟩
       have WYc : Hid (∀ V, Ext wk V → Calls Try.prog 23 #[.agg #[.int .i64 y.k, .int .i64 y.n, .string (bs y.s), .int .i64 y.e, .int .i64 y.r.1, .int .i64 y.r.2.1, .bool y.r.2.2.1, .bool y.r.2.2.2, .int .i64 y.q.1, .int .i64 y.q.2.1, .bool y.q.2.2.1, .bool y.q.2.2.2, .slice p2 l2 c2]] V fun e w' => e = .returned (.bool true) ∧ Ext V w') := fun V e => by
         have := rwell_any (fun _ => True) 401 y HHy.out V p2 l2 c2 (HQ.out.2.2.ext e)
         rw [show wellT 401 y = true by rw [← HYM.out]; exact (well_fill o0 o1 401 t (wa_arg HWT.out)).2 HWT.out] at this
         exact this
       have ERy : Hid (∀ V, Ext wk V → Calls Try.prog 24 #[.agg #[.int .i64 y.k, .int .i64 y.n, .string (bs y.s), .int .i64 y.e, .int .i64 y.r.1, .int .i64 y.r.2.1, .bool y.r.2.2.1, .bool y.r.2.2.2, .int .i64 y.q.1, .int .i64 y.q.2.1, .bool y.q.2.2.1, .bool y.q.2.2.2, .slice p2 l2 c2]] V fun e w' => e = .returned (.int .i64 ((erT 401 y : Nat) : Int)) ∧ Ext V w') := fun V e => errs_any 401 y HHy.out V (fun _ => True) p2 l2 c2 (HQ.out.2.2.ext e) (Nat.le_trans (er_len 401 y) (by rw [← HY.out]; have := sz_filled o0 o1 401 t; have := HH.out.2; omega))
       have ERt : Hid (∀ V, Ext wk V → Calls Try.prog 24 #[.agg #[.int .i64 t.k, .int .i64 t.n, .string (bs t.s), .int .i64 t.e, .int .i64 t.r.1, .int .i64 t.r.2.1, .bool t.r.2.2.1, .bool t.r.2.2.2, .int .i64 t.q.1, .int .i64 t.q.2.1, .bool t.q.2.2.1, .bool t.q.2.2.2, .slice pp ln cl]] V fun e w' => e = .returned (.int .i64 ((erT 401 t : Nat) : Int)) ∧ Ext V w') := fun V e => errs_any 401 t HH.out.1 V (fun _ => True) pp ln cl (HI.out.ext (HQ.out.1.1.trans e)) (Nat.le_trans (er_len 401 t) (by have := HH.out.2; omega))
       obtain ⟨ny, hny⟩ : ∃ ny, erT 401 y = ny := ⟨_, rfl⟩
       obtain ⟨nt, hnt⟩ : ∃ nt, erT 401 t = nt := ⟨_, rfl⟩
       rw [hny] at ERy
       rw [hnt] at ERt
       by_cases hne : ny = nt
       · have b0 : ((ny : Int) != (nt : Int)) = false := by rw [hne]; simp
         have HEQ : Hid (erT 401 y = erT 401 t) := by show _ = _; rw [hny, hnt, hne]
         clear hny hnt hne
         have PAc : Hid (∀ V, Ext wk V → Calls Try.prog 19 #[.agg #[.int .i64 t.k, .int .i64 t.n, .string (bs t.s), .int .i64 t.e, .int .i64 t.r.1, .int .i64 t.r.2.1, .bool t.r.2.2.1, .bool t.r.2.2.2, .int .i64 t.q.1, .int .i64 t.q.2.1, .bool t.q.2.2.1, .bool t.q.2.2.2, .slice pp ln cl], .int .i64 o2, .int .i64 o3, .agg #[.int .i64 y.k, .int .i64 y.n, .string (bs y.s), .int .i64 y.e, .int .i64 y.r.1, .int .i64 y.r.2.1, .bool y.r.2.2.1, .bool y.r.2.2.2, .int .i64 y.q.1, .int .i64 y.q.2.1, .bool y.q.2.2.1, .bool y.q.2.2.2, .slice p2 l2 c2], .int .i64 (wrap64 (o2 + o0)), .int .i64 (wrap64 (o3 + o1))] V fun e w' => e = .returned (.bool true) ∧ Ext V w') := fun V e => by
           have h1 := alike_any 401 t y HH.out.1 HHy.out o2 o3 (wrap64 (o2 + o0)) (wrap64 (o3 + o1)) V pp p2 ln cl l2 c2 (HI.out.ext (HQ.out.1.1.trans e)) (HQ.out.2.2.ext e)
           have h2 := HEQ.out
           rw [show mpT (mvE (wrap64 (-(wrap64 (o2 + o0)))) (wrap64 (-(wrap64 (o3 + o1))))) 401 y = mpT (mvE (wrap64 (-o2)) (wrap64 (-o3))) 401 t by rw [← HYM.out] at h2 ⊢; exact fill_alike o0 o1 o2 o3 401 t h2, same_refl 401 _ (hr_mp 401 t HH.out.1 _ (fun t => mvE_l _ _ t))] at h1
           exact h1
         have i1 : IntKind.i64.wrap (o2 + o0) = wrap64 (o2 + o0) := by rw [IntKind.wrap_i64]; unfold wrap64; omega
         have i2 : IntKind.i64.wrap (o3 + o1) = wrap64 (o3 + o1) := by rw [IntKind.wrap_i64]; unfold wrap64; omega
         generalize wrap64 (o2 + o0) = s1 at *
         generalize wrap64 (o3 + o1) = s2 at *
         refine wp_region_held_drew (S := (fun V => V.cell? ⟨w.heap.size, 0, none⟩ = some (.int .i64 t.k) ∧ V.cell? ⟨w.heap.size, 1, none⟩ = some (.int .i64 t.n) ∧ V.cell? ⟨w.heap.size, 2, none⟩ = some (.string (bs t.s)) ∧ V.cell? ⟨w.heap.size, 3, none⟩ = some (.int .i64 t.e) ∧ V.cell? ⟨w.heap.size, 4, none⟩ = some (.int .i64 t.r.1) ∧ V.cell? ⟨w.heap.size, 5, none⟩ = some (.int .i64 t.r.2.1) ∧ V.cell? ⟨w.heap.size, 6, none⟩ = some (.bool t.r.2.2.1) ∧ V.cell? ⟨w.heap.size, 7, none⟩ = some (.bool t.r.2.2.2) ∧ V.cell? ⟨w.heap.size, 8, none⟩ = some (.int .i64 t.q.1) ∧ V.cell? ⟨w.heap.size, 9, none⟩ = some (.int .i64 t.q.2.1) ∧ V.cell? ⟨w.heap.size, 10, none⟩ = some (.bool t.q.2.2.1) ∧ V.cell? ⟨w.heap.size, 11, none⟩ = some (.bool t.q.2.2.2) ∧ V.cell? ⟨w.heap.size, 12, none⟩ = some (.slice pp ln cl) ∧ V.cell? ⟨w.heap.size + 1, 0, none⟩ = some (.int .i64 o0) ∧ V.cell? ⟨w.heap.size + 1, 1, none⟩ = some (.int .i64 o1) ∧ V.cell? ⟨w.heap.size + 1, 2, none⟩ = some (.int .i64 o2) ∧ V.cell? ⟨w.heap.size + 1, 3, none⟩ = some (.int .i64 o3) ∧ V.cell? ⟨ga, 0, none⟩ = some (.int .i64 y.k) ∧ V.cell? ⟨ga, 1, none⟩ = some (.int .i64 y.n) ∧ V.cell? ⟨ga, 2, none⟩ = some (.string (bs y.s)) ∧ V.cell? ⟨ga, 3, none⟩ = some (.int .i64 y.e) ∧ V.cell? ⟨ga, 4, none⟩ = some (.int .i64 y.r.1) ∧ V.cell? ⟨ga, 5, none⟩ = some (.int .i64 y.r.2.1) ∧ V.cell? ⟨ga, 6, none⟩ = some (.bool y.r.2.2.1) ∧ V.cell? ⟨ga, 7, none⟩ = some (.bool y.r.2.2.2) ∧ V.cell? ⟨ga, 8, none⟩ = some (.int .i64 y.q.1) ∧ V.cell? ⟨ga, 9, none⟩ = some (.int .i64 y.q.2.1) ∧ V.cell? ⟨ga, 10, none⟩ = some (.bool y.q.2.2.1) ∧ V.cell? ⟨ga, 11, none⟩ = some (.bool y.q.2.2.2) ∧ V.cell? ⟨ga, 12, none⟩ = some (.slice p2 l2 c2))) (by kernel_rfl) ?_ (fun hHeld0 => ?_)
         · (refine mkS.out _ ?_; ((with_reducible (repeat (first | assumption | exact Ext.refl _ | apply Ext.alloc | apply Ext.drew | apply Ext.drewN))); done))
         refine wpAnyH_take (i := 0) (oi := ⟨some 32, .load 26 (.tmp 5), 26, "law.go:58", #[], none⟩) (v := ?_) rfl (by kernel_rfl) (by kernel_rfl) (by kernel_rfl) (fun _ _ _ h => h) (Or.inl ⟨by rfl, ?_⟩) (by assumption) ?_
         rotate_left
         · intro w hSw; (try dsimp only at hSw); first | (go_simp; done) | (go_simp; with_reducible rfl)
         try simp only [Act.put, List.setIfInBounds_toArray, List.set_cons_zero, List.set_cons_succ]
         refine wpAnyH_ready (rs := [1]) (by kernel_rfl) (by simp) ?_
         refine AllReadyH.cons (o := ⟨some 33, .call { callee := .value (.func 23), args := #[.tmp 32], argTypes := #[26] }, 4, "law.go:58", #[⟨0, .data⟩], none⟩) rfl (fun K hK => ?_) AllReadyH.nil
         go_simp
         (go_at_call 23; refine Calls.mono (WYc.out _ (by with_reducible repeat (first | assumption | exact Ext.refl _ | apply Ext.alloc | apply Ext.drew | apply Ext.drewN))) ?_; rintro e y1 ⟨rfl, E1⟩; have X1 : Ext wk y1 := Ext.trans (by with_reducible repeat (first | assumption | exact Ext.refl _ | apply Ext.alloc | apply Ext.drew | apply Ext.drewN)) E1)
         try go_wp2_with fail
         refine hK.out _ _ ?_ (fun hHeld1 => ?_)
         · (try dsimp only); (refine mkS.out _ ?_; ((with_reducible (repeat (first | assumption | exact Ext.refl _ | apply Ext.alloc | apply Ext.drew | apply Ext.drewN))); done))
         clear hK K hHeld0
         try simp only [Act.put, List.setIfInBounds_toArray, List.set_cons_zero, List.set_cons_succ]
         refine wpAnyH_take (i := 2) (oi := ⟨some 34, .move (.tmp 33), 4, "law.go:58", #[⟨1, .data⟩, ⟨1, .chain⟩], none⟩) (v := ?_) rfl (by kernel_rfl) (by kernel_rfl) (by kernel_rfl) (fun _ _ _ h => h) (Or.inl ⟨by rfl, ?_⟩) (by assumption) ?_
         rotate_left
         · intro w hSw; (try dsimp only at hSw); first | (go_simp; done) | (go_simp; with_reducible rfl)
         try simp only [Act.put, List.setIfInBounds_toArray, List.set_cons_zero, List.set_cons_succ]
         refine wpAnyH_take (i := 3) (oi := ⟨some 35, .load 26 (.tmp 5), 26, "law.go:58", #[⟨2, .guard⟩], some (2, true)⟩) (v := ?_) rfl (by kernel_rfl) (by kernel_rfl) (by kernel_rfl) (fun _ _ _ h => h) (Or.inl ⟨by rfl, ?_⟩) (by assumption) ?_
         rotate_left
         · intro w hSw; (try dsimp only at hSw); first | (go_simp; done) | (go_simp; with_reducible rfl)
         try simp only [Act.put, List.setIfInBounds_toArray, List.set_cons_zero, List.set_cons_succ]
         refine wpAnyH_take (i := 5) (oi := ⟨some 37, .load 26 (.tmp 2), 26, "law.go:58", #[⟨2, .guard⟩], some (2, true)⟩) (v := ?_) rfl (by kernel_rfl) (by kernel_rfl) (by kernel_rfl) (fun _ _ _ h => h) (Or.inl ⟨by rfl, ?_⟩) (by assumption) ?_
         rotate_left
         · intro w hSw; (try dsimp only at hSw); first | (go_simp; done) | (go_simp; with_reducible rfl)
         try simp only [Act.put, List.setIfInBounds_toArray, List.set_cons_zero, List.set_cons_succ]
         refine wpAnyH_ready (rs := [4]) (by kernel_rfl) (by simp) ?_
         refine AllReadyH.cons (o := ⟨some 36, .call { callee := .value (.func 24), args := #[.tmp 35], argTypes := #[26] }, 3, "law.go:58", #[⟨3, .data⟩, ⟨2, .chain⟩, ⟨2, .guard⟩], some (2, true)⟩) rfl (fun K hK => ?_) AllReadyH.nil
         go_simp
         (go_at_call 24; refine Calls.mono (ERy.out _ (by with_reducible repeat (first | assumption | exact Ext.refl _ | apply Ext.alloc | apply Ext.drew | apply Ext.drewN))) ?_; rintro e y2 ⟨rfl, E2⟩; have X2 : Ext wk y2 := Ext.trans (by with_reducible repeat (first | assumption | exact Ext.refl _ | apply Ext.alloc | apply Ext.drew | apply Ext.drewN)) E2)
         try go_wp2_with fail
         refine hK.out _ _ ?_ (fun hHeld2 => ?_)
         · (try dsimp only); (refine mkS.out _ ?_; ((with_reducible (repeat (first | assumption | exact Ext.refl _ | apply Ext.alloc | apply Ext.drew | apply Ext.drewN))); done))
         clear hK K hHeld1
         try simp only [Act.put, List.setIfInBounds_toArray, List.set_cons_zero, List.set_cons_succ]
         refine wpAnyH_ready (rs := [6]) (by kernel_rfl) (by simp) ?_
         refine AllReadyH.cons (o := ⟨some 38, .call { callee := .value (.func 24), args := #[.tmp 37], argTypes := #[26] }, 3, "law.go:58", #[⟨5, .data⟩, ⟨4, .chain⟩, ⟨2, .guard⟩], some (2, true)⟩) rfl (fun K hK => ?_) AllReadyH.nil
         go_simp
         (go_at_call 24; refine Calls.mono (ERt.out _ (by with_reducible repeat (first | assumption | exact Ext.refl _ | apply Ext.alloc | apply Ext.drew | apply Ext.drewN))) ?_; rintro e y3 ⟨rfl, E3⟩; have X3 : Ext wk y3 := Ext.trans (by with_reducible repeat (first | assumption | exact Ext.refl _ | apply Ext.alloc | apply Ext.drew | apply Ext.drewN)) E3)
         try go_wp2_with fail
         refine hK.out _ _ ?_ (fun hHeld3 => ?_)
         · (try dsimp only); (refine mkS.out _ ?_; ((with_reducible (repeat (first | assumption | exact Ext.refl _ | apply Ext.alloc | apply Ext.drew | apply Ext.drewN))); done))
         clear hK K hHeld2
         try simp only [Act.put, List.setIfInBounds_toArray, List.set_cons_zero, List.set_cons_succ]
         refine wpAnyH_take (i := 7) (oi := ⟨some 39, .binOp .neq 3 (.tmp 36) (.tmp 38) 3, 4, "law.go:58", #[⟨4, .data⟩, ⟨6, .data⟩, ⟨2, .guard⟩], some (2, true)⟩) (v := ?_) rfl (by kernel_rfl) (by kernel_rfl) (by kernel_rfl) (fun _ _ _ h => h) (Or.inl ⟨by rfl, ?_⟩) (by assumption) ?_
         rotate_left
         · intro w hSw; (try dsimp only at hSw); first | (go_simp; done) | (go_simp; with_reducible rfl)
         try simp only [Act.put, List.setIfInBounds_toArray, List.set_cons_zero, List.set_cons_succ]
         refine wpAnyH_take (i := 8) (oi := ⟨some 40, .move (.tmp 39), 4, "law.go:58", #[⟨7, .data⟩, ⟨6, .chain⟩, ⟨2, .guard⟩], some (2, true)⟩) (v := ?_) rfl (by kernel_rfl) (by kernel_rfl) (by kernel_rfl) (fun _ _ _ h => h) (Or.inl ⟨by rfl, ?_⟩) (by assumption) ?_
         rotate_left
         · intro w hSw; (try dsimp only at hSw); first | (go_simp; done) | (go_simp; with_reducible rfl)
         try simp only [Act.put, List.setIfInBounds_toArray, List.set_cons_zero, List.set_cons_succ]
         refine wpAnyH_take (i := 9) (oi := ⟨some 41, .load 26 (.tmp 2), 26, "law.go:58", #[⟨8, .guard⟩], some (8, false)⟩) (v := ?_) rfl (by kernel_rfl) (by kernel_rfl) (by kernel_rfl) (fun _ _ _ h => h) (Or.inl ⟨by rfl, ?_⟩) (by assumption) ?_
         rotate_left
         · intro w hSw; (try dsimp only at hSw); first | (go_simp; done) | (go_simp; with_reducible rfl)
         try simp only [Act.put, List.setIfInBounds_toArray, List.set_cons_zero, List.set_cons_succ]
         refine wpAnyH_take (i := 10) (oi := ⟨some 42, .fieldAddr 28 (.tmp 3) 2, 0, "law.go:58", #[⟨8, .guard⟩], some (8, false)⟩) (v := ?_) rfl (by kernel_rfl) (by kernel_rfl) (by kernel_rfl) (fun _ _ _ h => h) (Or.inl ⟨by rfl, ?_⟩) (by assumption) ?_
         rotate_left
         · intro w hSw; (try dsimp only at hSw); first | (go_simp; done) | (go_simp; with_reducible rfl)
         try simp only [Act.put, List.setIfInBounds_toArray, List.set_cons_zero, List.set_cons_succ]
         refine wpAnyH_take (i := 11) (oi := ⟨some 43, .load 3 (.tmp 42), 3, "law.go:58", #[⟨10, .data⟩, ⟨8, .guard⟩], some (8, false)⟩) (v := ?_) rfl (by kernel_rfl) (by kernel_rfl) (by kernel_rfl) (fun _ _ _ h => h) (Or.inl ⟨by rfl, ?_⟩) (by assumption) ?_
         rotate_left
         · intro w hSw; (try dsimp only at hSw); first | (go_simp; done) | (go_simp; with_reducible rfl)
         try simp only [Act.put, List.setIfInBounds_toArray, List.set_cons_zero, List.set_cons_succ]
         refine wpAnyH_take (i := 12) (oi := ⟨some 44, .fieldAddr 28 (.tmp 3) 3, 0, "law.go:58", #[⟨8, .guard⟩], some (8, false)⟩) (v := ?_) rfl (by kernel_rfl) (by kernel_rfl) (by kernel_rfl) (fun _ _ _ h => h) (Or.inl ⟨by rfl, ?_⟩) (by assumption) ?_
         rotate_left
         · intro w hSw; (try dsimp only at hSw); first | (go_simp; done) | (go_simp; with_reducible rfl)
         try simp only [Act.put, List.setIfInBounds_toArray, List.set_cons_zero, List.set_cons_succ]
         refine wpAnyH_take (i := 13) (oi := ⟨some 45, .load 3 (.tmp 44), 3, "law.go:58", #[⟨12, .data⟩, ⟨8, .guard⟩], some (8, false)⟩) (v := ?_) rfl (by kernel_rfl) (by kernel_rfl) (by kernel_rfl) (fun _ _ _ h => h) (Or.inl ⟨by rfl, ?_⟩) (by assumption) ?_
         rotate_left
         · intro w hSw; (try dsimp only at hSw); first | (go_simp; done) | (go_simp; with_reducible rfl)
         try simp only [Act.put, List.setIfInBounds_toArray, List.set_cons_zero, List.set_cons_succ]
         refine wpAnyH_take (i := 14) (oi := ⟨some 46, .load 26 (.tmp 5), 26, "law.go:58", #[⟨8, .guard⟩], some (8, false)⟩) (v := ?_) rfl (by kernel_rfl) (by kernel_rfl) (by kernel_rfl) (fun _ _ _ h => h) (Or.inl ⟨by rfl, ?_⟩) (by assumption) ?_
         rotate_left
         · intro w hSw; (try dsimp only at hSw); first | (go_simp; done) | (go_simp; with_reducible rfl)
         try simp only [Act.put, List.setIfInBounds_toArray, List.set_cons_zero, List.set_cons_succ]
         refine wpAnyH_take (i := 15) (oi := ⟨some 47, .fieldAddr 28 (.tmp 3) 2, 0, "law.go:58", #[⟨8, .guard⟩], some (8, false)⟩) (v := ?_) rfl (by kernel_rfl) (by kernel_rfl) (by kernel_rfl) (fun _ _ _ h => h) (Or.inl ⟨by rfl, ?_⟩) (by assumption) ?_
         rotate_left
         · intro w hSw; (try dsimp only at hSw); first | (go_simp; done) | (go_simp; with_reducible rfl)
         try simp only [Act.put, List.setIfInBounds_toArray, List.set_cons_zero, List.set_cons_succ]
         refine wpAnyH_take (i := 16) (oi := ⟨some 48, .load 3 (.tmp 47), 3, "law.go:58", #[⟨15, .data⟩, ⟨8, .guard⟩], some (8, false)⟩) (v := ?_) rfl (by kernel_rfl) (by kernel_rfl) (by kernel_rfl) (fun _ _ _ h => h) (Or.inl ⟨by rfl, ?_⟩) (by assumption) ?_
         rotate_left
         · intro w hSw; (try dsimp only at hSw); first | (go_simp; done) | (go_simp; with_reducible rfl)
         try simp only [Act.put, List.setIfInBounds_toArray, List.set_cons_zero, List.set_cons_succ]
         refine wpAnyH_take (i := 17) (oi := ⟨some 49, .fieldAddr 28 (.tmp 3) 0, 0, "law.go:58", #[⟨8, .guard⟩], some (8, false)⟩) (v := ?_) rfl (by kernel_rfl) (by kernel_rfl) (by kernel_rfl) (fun _ _ _ h => h) (Or.inl ⟨by rfl, ?_⟩) (by assumption) ?_
         rotate_left
         · intro w hSw; (try dsimp only at hSw); first | (go_simp; done) | (go_simp; with_reducible rfl)
         try simp only [Act.put, List.setIfInBounds_toArray, List.set_cons_zero, List.set_cons_succ]
         refine wpAnyH_take (i := 18) (oi := ⟨some 50, .load 3 (.tmp 49), 3, "law.go:58", #[⟨17, .data⟩, ⟨8, .guard⟩], some (8, false)⟩) (v := ?_) rfl (by kernel_rfl) (by kernel_rfl) (by kernel_rfl) (fun _ _ _ h => h) (Or.inl ⟨by rfl, ?_⟩) (by assumption) ?_
         rotate_left
         · intro w hSw; (try dsimp only at hSw); first | (go_simp; done) | (go_simp; with_reducible rfl)
         try simp only [Act.put, List.setIfInBounds_toArray, List.set_cons_zero, List.set_cons_succ]
         refine wpAnyH_take (i := 19) (oi := ⟨some 51, .binOp .add 3 (.tmp 48) (.tmp 50) 3, 3, "law.go:58", #[⟨16, .data⟩, ⟨18, .data⟩, ⟨8, .guard⟩], some (8, false)⟩) (v := ?_) rfl (by kernel_rfl) (by kernel_rfl) (by kernel_rfl) (fun _ _ _ h => h) (Or.inl ⟨by rfl, ?_⟩) (by assumption) ?_
         rotate_left
         · intro w hSw; (try dsimp only at hSw); first | (go_simp; done) | (go_simp; with_reducible rfl)
         try simp only [Act.put, List.setIfInBounds_toArray, List.set_cons_zero, List.set_cons_succ]
         refine wpAnyH_take (i := 20) (oi := ⟨some 52, .fieldAddr 28 (.tmp 3) 3, 0, "law.go:58", #[⟨8, .guard⟩], some (8, false)⟩) (v := ?_) rfl (by kernel_rfl) (by kernel_rfl) (by kernel_rfl) (fun _ _ _ h => h) (Or.inl ⟨by rfl, ?_⟩) (by assumption) ?_
         rotate_left
         · intro w hSw; (try dsimp only at hSw); first | (go_simp; done) | (go_simp; with_reducible rfl)
         try simp only [Act.put, List.setIfInBounds_toArray, List.set_cons_zero, List.set_cons_succ]
         refine wpAnyH_take (i := 21) (oi := ⟨some 53, .load 3 (.tmp 52), 3, "law.go:58", #[⟨20, .data⟩, ⟨8, .guard⟩], some (8, false)⟩) (v := ?_) rfl (by kernel_rfl) (by kernel_rfl) (by kernel_rfl) (fun _ _ _ h => h) (Or.inl ⟨by rfl, ?_⟩) (by assumption) ?_
         rotate_left
         · intro w hSw; (try dsimp only at hSw); first | (go_simp; done) | (go_simp; with_reducible rfl)
         try simp only [Act.put, List.setIfInBounds_toArray, List.set_cons_zero, List.set_cons_succ]
         refine wpAnyH_take (i := 22) (oi := ⟨some 54, .fieldAddr 28 (.tmp 3) 1, 0, "law.go:58", #[⟨8, .guard⟩], some (8, false)⟩) (v := ?_) rfl (by kernel_rfl) (by kernel_rfl) (by kernel_rfl) (fun _ _ _ h => h) (Or.inl ⟨by rfl, ?_⟩) (by assumption) ?_
         rotate_left
         · intro w hSw; (try dsimp only at hSw); first | (go_simp; done) | (go_simp; with_reducible rfl)
         try simp only [Act.put, List.setIfInBounds_toArray, List.set_cons_zero, List.set_cons_succ]
         refine wpAnyH_take (i := 23) (oi := ⟨some 55, .load 3 (.tmp 54), 3, "law.go:58", #[⟨22, .data⟩, ⟨8, .guard⟩], some (8, false)⟩) (v := ?_) rfl (by kernel_rfl) (by kernel_rfl) (by kernel_rfl) (fun _ _ _ h => h) (Or.inl ⟨by rfl, ?_⟩) (by assumption) ?_
         rotate_left
         · intro w hSw; (try dsimp only at hSw); first | (go_simp; done) | (go_simp; with_reducible rfl)
         try simp only [Act.put, List.setIfInBounds_toArray, List.set_cons_zero, List.set_cons_succ]
         refine wpAnyH_take (i := 24) (oi := ⟨some 56, .binOp .add 3 (.tmp 53) (.tmp 55) 3, 3, "law.go:58", #[⟨21, .data⟩, ⟨23, .data⟩, ⟨8, .guard⟩], some (8, false)⟩) (v := ?_) rfl (by kernel_rfl) (by kernel_rfl) (by kernel_rfl) (fun _ _ _ h => h) (Or.inl ⟨by rfl, ?_⟩) (by assumption) ?_
         rotate_left
         · intro w hSw; (try dsimp only at hSw); first | (go_simp; done) | (go_simp; with_reducible rfl)
         try simp only [Act.put, List.setIfInBounds_toArray, List.set_cons_zero, List.set_cons_succ]
         refine wpAnyH_ready (rs := [25]) (by kernel_rfl) (by simp) ?_
         refine AllReadyH.cons (o := ⟨some 57, .call { callee := .value (.func 19), args := #[.tmp 41, .tmp 43, .tmp 45, .tmp 46, .tmp 51, .tmp 56], argTypes := #[26, 3, 3, 26, 3, 3] }, 4, "law.go:58", #[⟨9, .data⟩, ⟨11, .data⟩, ⟨13, .data⟩, ⟨14, .data⟩, ⟨19, .data⟩, ⟨24, .data⟩, ⟨8, .chain⟩, ⟨8, .guard⟩], some (8, false)⟩) rfl (fun K hK => ?_) AllReadyH.nil
         go_simp
         (go_at_call 19; refine Calls.mono (PAc.out _ (by with_reducible repeat (first | assumption | exact Ext.refl _ | apply Ext.alloc | apply Ext.drew | apply Ext.drewN))) ?_; rintro e y4 ⟨rfl, E4⟩; have X4 : Ext wk y4 := Ext.trans (by with_reducible repeat (first | assumption | exact Ext.refl _ | apply Ext.alloc | apply Ext.drew | apply Ext.drewN)) E4)
         try go_wp2_with fail
         refine hK.out _ _ ?_ (fun hHeld4 => ?_)
         · (try dsimp only); (refine mkS.out _ ?_; ((with_reducible (repeat (first | assumption | exact Ext.refl _ | apply Ext.alloc | apply Ext.drew | apply Ext.drewN))); done))
         clear hK K hHeld3
         try simp only [Act.put, List.setIfInBounds_toArray, List.set_cons_zero, List.set_cons_succ]
         refine wpAnyH_take (i := 26) (oi := ⟨some 58, .pick (.tmp 40) (.const (.bool true)) (.tmp 57), 4, "law.go:58", #[⟨8, .data⟩, ⟨25, .data⟩, ⟨2, .guard⟩], some (2, true)⟩) (v := ?_) rfl (by kernel_rfl) (by kernel_rfl) (by kernel_rfl) (fun _ _ _ h => h) (Or.inl ⟨by rfl, ?_⟩) (by assumption) ?_
         rotate_left
         · intro w hSw; (try dsimp only at hSw); first | (go_simp; done) | (go_simp; with_reducible rfl)
         try simp only [Act.put, List.setIfInBounds_toArray, List.set_cons_zero, List.set_cons_succ]
         refine wpAnyH_take (i := 27) (oi := ⟨some 59, .pick (.tmp 34) (.tmp 58) (.const (.bool false)), 4, "law.go:58", #[⟨2, .data⟩, ⟨26, .data⟩], none⟩) (v := ?_) rfl (by kernel_rfl) (by kernel_rfl) (by kernel_rfl) (fun _ _ _ h => h) (Or.inl ⟨by rfl, ?_⟩) (by assumption) ?_
         rotate_left
         · intro w hSw; (try dsimp only at hSw); first | (go_simp; done) | (go_simp; with_reducible rfl)
         try simp only [Act.put, List.setIfInBounds_toArray, List.set_cons_zero, List.set_cons_succ]
         refine wpAnyH_take (i := 28) (oi := ⟨some 60, .move (.tmp 59), 4, "law.go:58", #[⟨27, .data⟩, ⟨25, .chain⟩], none⟩) (v := ?_) rfl (by kernel_rfl) (by kernel_rfl) (by kernel_rfl) (fun _ _ _ h => h) (Or.inl ⟨by rfl, ?_⟩) (by assumption) ?_
         rotate_left
         · intro w hSw; (try dsimp only at hSw); first | (go_simp; done) | (go_simp; with_reducible rfl)
         try simp only [Act.put, List.setIfInBounds_toArray, List.set_cons_zero, List.set_cons_succ]
         refine wpAnyH_ready (rs := [29]) (by kernel_rfl) (by simp) ?_
         refine AllReadyH.cons (o := ⟨some 61, .call { callee := .value (.func 12), args := #[], argTypes := #[] }, 4, "law.go:58", #[⟨28, .chain⟩, ⟨28, .guard⟩], some (28, true)⟩) rfl (fun K hK => ?_) AllReadyH.nil
         go_simp
         (go_at_call 12; refine Calls.mono (lives10_any _) ?_; rintro e y5 ⟨rfl, E5⟩; have X5 : Ext wk y5 := Ext.trans (by with_reducible repeat (first | assumption | exact Ext.refl _ | apply Ext.alloc | apply Ext.drew | apply Ext.drewN)) E5)
         try go_wp2_with fail
         refine hK.out _ _ ?_ (fun hHeld5 => ?_)
         · (try dsimp only); (refine mkS.out _ ?_; ((with_reducible (repeat (first | assumption | exact Ext.refl _ | apply Ext.alloc | apply Ext.drew | apply Ext.drewN))); done))
         clear hK K hHeld4
         try simp only [Act.put, List.setIfInBounds_toArray, List.set_cons_zero, List.set_cons_succ]
         refine wpAnyH_take (i := 30) (oi := ⟨some 62, .pick (.tmp 60) (.tmp 61) (.const (.bool false)), 4, "law.go:58", #[⟨28, .data⟩, ⟨29, .data⟩], none⟩) (v := ?_) rfl (by kernel_rfl) (by kernel_rfl) (by kernel_rfl) (fun _ _ _ h => h) (Or.inl ⟨by rfl, ?_⟩) (by assumption) ?_
         rotate_left
         · intro w hSw; (try dsimp only at hSw); first | (go_simp; done) | (go_simp; with_reducible rfl)
         try simp only [Act.put, List.setIfInBounds_toArray, List.set_cons_zero, List.set_cons_succ]
         refine wpAnyH_take (i := 31) (oi := ⟨some 4, .assign (.tmp 62), 4, "law.go:58", #[⟨30, .data⟩, ⟨29, .chain⟩, ⟨0, .phase⟩, ⟨1, .phase⟩, ⟨2, .phase⟩, ⟨3, .phase⟩, ⟨4, .phase⟩, ⟨5, .phase⟩, ⟨6, .phase⟩, ⟨7, .phase⟩, ⟨8, .phase⟩, ⟨9, .phase⟩, ⟨10, .phase⟩, ⟨11, .phase⟩, ⟨12, .phase⟩, ⟨13, .phase⟩, ⟨14, .phase⟩, ⟨15, .phase⟩, ⟨16, .phase⟩, ⟨17, .phase⟩, ⟨18, .phase⟩, ⟨19, .phase⟩, ⟨20, .phase⟩, ⟨21, .phase⟩, ⟨22, .phase⟩, ⟨23, .phase⟩, ⟨24, .phase⟩, ⟨25, .phase⟩, ⟨26, .phase⟩, ⟨27, .phase⟩, ⟨28, .phase⟩, ⟨29, .phase⟩, ⟨30, .phase⟩], none⟩) (v := ?_) rfl (by kernel_rfl) (by kernel_rfl) (by kernel_rfl) (fun _ _ _ h => h) (Or.inl ⟨by rfl, ?_⟩) (by assumption) ?_
         rotate_left
         · intro w hSw; (try dsimp only at hSw); first | (go_simp; done) | (go_simp; with_reducible rfl)
         try simp only [Act.put, List.setIfInBounds_toArray, List.set_cons_zero, List.set_cons_succ]
         refine wpAnyH_done (by kernel_rfl) ?_ _
         go_wp2_with fail
         go_ret
         exact ⟨rfl, HQ.out.1.1.trans (by assumption)⟩
       · have b0 : ((ny : Int) != (nt : Int)) = true := by simp; omega
         clear hny hnt hne
         refine wp_region_held_drew (S := (fun V => V.cell? ⟨w.heap.size, 0, none⟩ = some (.int .i64 t.k) ∧ V.cell? ⟨w.heap.size, 1, none⟩ = some (.int .i64 t.n) ∧ V.cell? ⟨w.heap.size, 2, none⟩ = some (.string (bs t.s)) ∧ V.cell? ⟨w.heap.size, 3, none⟩ = some (.int .i64 t.e) ∧ V.cell? ⟨w.heap.size, 4, none⟩ = some (.int .i64 t.r.1) ∧ V.cell? ⟨w.heap.size, 5, none⟩ = some (.int .i64 t.r.2.1) ∧ V.cell? ⟨w.heap.size, 6, none⟩ = some (.bool t.r.2.2.1) ∧ V.cell? ⟨w.heap.size, 7, none⟩ = some (.bool t.r.2.2.2) ∧ V.cell? ⟨w.heap.size, 8, none⟩ = some (.int .i64 t.q.1) ∧ V.cell? ⟨w.heap.size, 9, none⟩ = some (.int .i64 t.q.2.1) ∧ V.cell? ⟨w.heap.size, 10, none⟩ = some (.bool t.q.2.2.1) ∧ V.cell? ⟨w.heap.size, 11, none⟩ = some (.bool t.q.2.2.2) ∧ V.cell? ⟨w.heap.size, 12, none⟩ = some (.slice pp ln cl) ∧ V.cell? ⟨w.heap.size + 1, 0, none⟩ = some (.int .i64 o0) ∧ V.cell? ⟨w.heap.size + 1, 1, none⟩ = some (.int .i64 o1) ∧ V.cell? ⟨w.heap.size + 1, 2, none⟩ = some (.int .i64 o2) ∧ V.cell? ⟨w.heap.size + 1, 3, none⟩ = some (.int .i64 o3) ∧ V.cell? ⟨ga, 0, none⟩ = some (.int .i64 y.k) ∧ V.cell? ⟨ga, 1, none⟩ = some (.int .i64 y.n) ∧ V.cell? ⟨ga, 2, none⟩ = some (.string (bs y.s)) ∧ V.cell? ⟨ga, 3, none⟩ = some (.int .i64 y.e) ∧ V.cell? ⟨ga, 4, none⟩ = some (.int .i64 y.r.1) ∧ V.cell? ⟨ga, 5, none⟩ = some (.int .i64 y.r.2.1) ∧ V.cell? ⟨ga, 6, none⟩ = some (.bool y.r.2.2.1) ∧ V.cell? ⟨ga, 7, none⟩ = some (.bool y.r.2.2.2) ∧ V.cell? ⟨ga, 8, none⟩ = some (.int .i64 y.q.1) ∧ V.cell? ⟨ga, 9, none⟩ = some (.int .i64 y.q.2.1) ∧ V.cell? ⟨ga, 10, none⟩ = some (.bool y.q.2.2.1) ∧ V.cell? ⟨ga, 11, none⟩ = some (.bool y.q.2.2.2) ∧ V.cell? ⟨ga, 12, none⟩ = some (.slice p2 l2 c2))) (by kernel_rfl) ?_ (fun hHeld0 => ?_)
         · (refine mkS.out _ ?_; ((with_reducible (repeat (first | assumption | exact Ext.refl _ | apply Ext.alloc | apply Ext.drew | apply Ext.drewN))); done))
         refine wpAnyH_take (i := 0) (oi := ⟨some 32, .load 26 (.tmp 5), 26, "law.go:58", #[], none⟩) (v := ?_) rfl (by kernel_rfl) (by kernel_rfl) (by kernel_rfl) (fun _ _ _ h => h) (Or.inl ⟨by rfl, ?_⟩) (by assumption) ?_
         rotate_left
         · intro w hSw; (try dsimp only at hSw); first | (go_simp; done) | (go_simp; with_reducible rfl)
         try simp only [Act.put, List.setIfInBounds_toArray, List.set_cons_zero, List.set_cons_succ]
         refine wpAnyH_ready (rs := [1]) (by kernel_rfl) (by simp) ?_
         refine AllReadyH.cons (o := ⟨some 33, .call { callee := .value (.func 23), args := #[.tmp 32], argTypes := #[26] }, 4, "law.go:58", #[⟨0, .data⟩], none⟩) rfl (fun K hK => ?_) AllReadyH.nil
         go_simp
         (go_at_call 23; refine Calls.mono (WYc.out _ (by with_reducible repeat (first | assumption | exact Ext.refl _ | apply Ext.alloc | apply Ext.drew | apply Ext.drewN))) ?_; rintro e y1 ⟨rfl, E1⟩; have X1 : Ext wk y1 := Ext.trans (by with_reducible repeat (first | assumption | exact Ext.refl _ | apply Ext.alloc | apply Ext.drew | apply Ext.drewN)) E1)
         try go_wp2_with fail
         refine hK.out _ _ ?_ (fun hHeld1 => ?_)
         · (try dsimp only); (refine mkS.out _ ?_; ((with_reducible (repeat (first | assumption | exact Ext.refl _ | apply Ext.alloc | apply Ext.drew | apply Ext.drewN))); done))
         clear hK K hHeld0
         try simp only [Act.put, List.setIfInBounds_toArray, List.set_cons_zero, List.set_cons_succ]
         refine wpAnyH_take (i := 2) (oi := ⟨some 34, .move (.tmp 33), 4, "law.go:58", #[⟨1, .data⟩, ⟨1, .chain⟩], none⟩) (v := ?_) rfl (by kernel_rfl) (by kernel_rfl) (by kernel_rfl) (fun _ _ _ h => h) (Or.inl ⟨by rfl, ?_⟩) (by assumption) ?_
         rotate_left
         · intro w hSw; (try dsimp only at hSw); first | (go_simp; done) | (go_simp; with_reducible rfl)
         try simp only [Act.put, List.setIfInBounds_toArray, List.set_cons_zero, List.set_cons_succ]
         refine wpAnyH_take (i := 3) (oi := ⟨some 35, .load 26 (.tmp 5), 26, "law.go:58", #[⟨2, .guard⟩], some (2, true)⟩) (v := ?_) rfl (by kernel_rfl) (by kernel_rfl) (by kernel_rfl) (fun _ _ _ h => h) (Or.inl ⟨by rfl, ?_⟩) (by assumption) ?_
         rotate_left
         · intro w hSw; (try dsimp only at hSw); first | (go_simp; done) | (go_simp; with_reducible rfl)
         try simp only [Act.put, List.setIfInBounds_toArray, List.set_cons_zero, List.set_cons_succ]
         refine wpAnyH_take (i := 5) (oi := ⟨some 37, .load 26 (.tmp 2), 26, "law.go:58", #[⟨2, .guard⟩], some (2, true)⟩) (v := ?_) rfl (by kernel_rfl) (by kernel_rfl) (by kernel_rfl) (fun _ _ _ h => h) (Or.inl ⟨by rfl, ?_⟩) (by assumption) ?_
         rotate_left
         · intro w hSw; (try dsimp only at hSw); first | (go_simp; done) | (go_simp; with_reducible rfl)
         try simp only [Act.put, List.setIfInBounds_toArray, List.set_cons_zero, List.set_cons_succ]
         refine wpAnyH_ready (rs := [4]) (by kernel_rfl) (by simp) ?_
         refine AllReadyH.cons (o := ⟨some 36, .call { callee := .value (.func 24), args := #[.tmp 35], argTypes := #[26] }, 3, "law.go:58", #[⟨3, .data⟩, ⟨2, .chain⟩, ⟨2, .guard⟩], some (2, true)⟩) rfl (fun K hK => ?_) AllReadyH.nil
         go_simp
         (go_at_call 24; refine Calls.mono (ERy.out _ (by with_reducible repeat (first | assumption | exact Ext.refl _ | apply Ext.alloc | apply Ext.drew | apply Ext.drewN))) ?_; rintro e y2 ⟨rfl, E2⟩; have X2 : Ext wk y2 := Ext.trans (by with_reducible repeat (first | assumption | exact Ext.refl _ | apply Ext.alloc | apply Ext.drew | apply Ext.drewN)) E2)
         try go_wp2_with fail
         refine hK.out _ _ ?_ (fun hHeld2 => ?_)
         · (try dsimp only); (refine mkS.out _ ?_; ((with_reducible (repeat (first | assumption | exact Ext.refl _ | apply Ext.alloc | apply Ext.drew | apply Ext.drewN))); done))
         clear hK K hHeld1
         try simp only [Act.put, List.setIfInBounds_toArray, List.set_cons_zero, List.set_cons_succ]
         refine wpAnyH_ready (rs := [6]) (by kernel_rfl) (by simp) ?_
         refine AllReadyH.cons (o := ⟨some 38, .call { callee := .value (.func 24), args := #[.tmp 37], argTypes := #[26] }, 3, "law.go:58", #[⟨5, .data⟩, ⟨4, .chain⟩, ⟨2, .guard⟩], some (2, true)⟩) rfl (fun K hK => ?_) AllReadyH.nil
         go_simp
         (go_at_call 24; refine Calls.mono (ERt.out _ (by with_reducible repeat (first | assumption | exact Ext.refl _ | apply Ext.alloc | apply Ext.drew | apply Ext.drewN))) ?_; rintro e y3 ⟨rfl, E3⟩; have X3 : Ext wk y3 := Ext.trans (by with_reducible repeat (first | assumption | exact Ext.refl _ | apply Ext.alloc | apply Ext.drew | apply Ext.drewN)) E3)
         try go_wp2_with fail
         refine hK.out _ _ ?_ (fun hHeld3 => ?_)
         · (try dsimp only); (refine mkS.out _ ?_; ((with_reducible (repeat (first | assumption | exact Ext.refl _ | apply Ext.alloc | apply Ext.drew | apply Ext.drewN))); done))
         clear hK K hHeld2
         try simp only [Act.put, List.setIfInBounds_toArray, List.set_cons_zero, List.set_cons_succ]
         refine wpAnyH_take (i := 7) (oi := ⟨some 39, .binOp .neq 3 (.tmp 36) (.tmp 38) 3, 4, "law.go:58", #[⟨4, .data⟩, ⟨6, .data⟩, ⟨2, .guard⟩], some (2, true)⟩) (v := ?_) rfl (by kernel_rfl) (by kernel_rfl) (by kernel_rfl) (fun _ _ _ h => h) (Or.inl ⟨by rfl, ?_⟩) (by assumption) ?_
         rotate_left
         · intro w hSw; (try dsimp only at hSw); first | (go_simp; done) | (go_simp; with_reducible rfl)
         try simp only [Act.put, List.setIfInBounds_toArray, List.set_cons_zero, List.set_cons_succ]
         refine wpAnyH_take (i := 8) (oi := ⟨some 40, .move (.tmp 39), 4, "law.go:58", #[⟨7, .data⟩, ⟨6, .chain⟩, ⟨2, .guard⟩], some (2, true)⟩) (v := ?_) rfl (by kernel_rfl) (by kernel_rfl) (by kernel_rfl) (fun _ _ _ h => h) (Or.inl ⟨by rfl, ?_⟩) (by assumption) ?_
         rotate_left
         · intro w hSw; (try dsimp only at hSw); first | (go_simp; done) | (go_simp; with_reducible rfl)
         try simp only [Act.put, List.setIfInBounds_toArray, List.set_cons_zero, List.set_cons_succ]
         refine wpAnyH_take (i := 9) (oi := ⟨some 41, .load 26 (.tmp 2), 26, "law.go:58", #[⟨8, .guard⟩], some (8, false)⟩) (v := undef) rfl (by kernel_rfl) (by kernel_rfl) (by kernel_rfl) (fun _ _ _ h => h) (Or.inr ⟨by rfl, rfl⟩) (by assumption) ?_
         try simp only [Act.put, List.setIfInBounds_toArray, List.set_cons_zero, List.set_cons_succ]
         refine wpAnyH_take (i := 10) (oi := ⟨some 42, .fieldAddr 28 (.tmp 3) 2, 0, "law.go:58", #[⟨8, .guard⟩], some (8, false)⟩) (v := undef) rfl (by kernel_rfl) (by kernel_rfl) (by kernel_rfl) (fun _ _ _ h => h) (Or.inr ⟨by rfl, rfl⟩) (by assumption) ?_
         try simp only [Act.put, List.setIfInBounds_toArray, List.set_cons_zero, List.set_cons_succ]
         refine wpAnyH_take (i := 11) (oi := ⟨some 43, .load 3 (.tmp 42), 3, "law.go:58", #[⟨10, .data⟩, ⟨8, .guard⟩], some (8, false)⟩) (v := undef) rfl (by kernel_rfl) (by kernel_rfl) (by kernel_rfl) (fun _ _ _ h => h) (Or.inr ⟨by rfl, rfl⟩) (by assumption) ?_
         try simp only [Act.put, List.setIfInBounds_toArray, List.set_cons_zero, List.set_cons_succ]
         refine wpAnyH_take (i := 12) (oi := ⟨some 44, .fieldAddr 28 (.tmp 3) 3, 0, "law.go:58", #[⟨8, .guard⟩], some (8, false)⟩) (v := undef) rfl (by kernel_rfl) (by kernel_rfl) (by kernel_rfl) (fun _ _ _ h => h) (Or.inr ⟨by rfl, rfl⟩) (by assumption) ?_
         try simp only [Act.put, List.setIfInBounds_toArray, List.set_cons_zero, List.set_cons_succ]
         refine wpAnyH_take (i := 13) (oi := ⟨some 45, .load 3 (.tmp 44), 3, "law.go:58", #[⟨12, .data⟩, ⟨8, .guard⟩], some (8, false)⟩) (v := undef) rfl (by kernel_rfl) (by kernel_rfl) (by kernel_rfl) (fun _ _ _ h => h) (Or.inr ⟨by rfl, rfl⟩) (by assumption) ?_
         try simp only [Act.put, List.setIfInBounds_toArray, List.set_cons_zero, List.set_cons_succ]
         refine wpAnyH_take (i := 14) (oi := ⟨some 46, .load 26 (.tmp 5), 26, "law.go:58", #[⟨8, .guard⟩], some (8, false)⟩) (v := undef) rfl (by kernel_rfl) (by kernel_rfl) (by kernel_rfl) (fun _ _ _ h => h) (Or.inr ⟨by rfl, rfl⟩) (by assumption) ?_
         try simp only [Act.put, List.setIfInBounds_toArray, List.set_cons_zero, List.set_cons_succ]
         refine wpAnyH_take (i := 15) (oi := ⟨some 47, .fieldAddr 28 (.tmp 3) 2, 0, "law.go:58", #[⟨8, .guard⟩], some (8, false)⟩) (v := undef) rfl (by kernel_rfl) (by kernel_rfl) (by kernel_rfl) (fun _ _ _ h => h) (Or.inr ⟨by rfl, rfl⟩) (by assumption) ?_
         try simp only [Act.put, List.setIfInBounds_toArray, List.set_cons_zero, List.set_cons_succ]
         refine wpAnyH_take (i := 16) (oi := ⟨some 48, .load 3 (.tmp 47), 3, "law.go:58", #[⟨15, .data⟩, ⟨8, .guard⟩], some (8, false)⟩) (v := undef) rfl (by kernel_rfl) (by kernel_rfl) (by kernel_rfl) (fun _ _ _ h => h) (Or.inr ⟨by rfl, rfl⟩) (by assumption) ?_
         try simp only [Act.put, List.setIfInBounds_toArray, List.set_cons_zero, List.set_cons_succ]
         refine wpAnyH_take (i := 17) (oi := ⟨some 49, .fieldAddr 28 (.tmp 3) 0, 0, "law.go:58", #[⟨8, .guard⟩], some (8, false)⟩) (v := undef) rfl (by kernel_rfl) (by kernel_rfl) (by kernel_rfl) (fun _ _ _ h => h) (Or.inr ⟨by rfl, rfl⟩) (by assumption) ?_
         try simp only [Act.put, List.setIfInBounds_toArray, List.set_cons_zero, List.set_cons_succ]
         refine wpAnyH_take (i := 18) (oi := ⟨some 50, .load 3 (.tmp 49), 3, "law.go:58", #[⟨17, .data⟩, ⟨8, .guard⟩], some (8, false)⟩) (v := undef) rfl (by kernel_rfl) (by kernel_rfl) (by kernel_rfl) (fun _ _ _ h => h) (Or.inr ⟨by rfl, rfl⟩) (by assumption) ?_
         try simp only [Act.put, List.setIfInBounds_toArray, List.set_cons_zero, List.set_cons_succ]
         refine wpAnyH_take (i := 19) (oi := ⟨some 51, .binOp .add 3 (.tmp 48) (.tmp 50) 3, 3, "law.go:58", #[⟨16, .data⟩, ⟨18, .data⟩, ⟨8, .guard⟩], some (8, false)⟩) (v := undef) rfl (by kernel_rfl) (by kernel_rfl) (by kernel_rfl) (fun _ _ _ h => h) (Or.inr ⟨by rfl, rfl⟩) (by assumption) ?_
         try simp only [Act.put, List.setIfInBounds_toArray, List.set_cons_zero, List.set_cons_succ]
         refine wpAnyH_take (i := 20) (oi := ⟨some 52, .fieldAddr 28 (.tmp 3) 3, 0, "law.go:58", #[⟨8, .guard⟩], some (8, false)⟩) (v := undef) rfl (by kernel_rfl) (by kernel_rfl) (by kernel_rfl) (fun _ _ _ h => h) (Or.inr ⟨by rfl, rfl⟩) (by assumption) ?_
         try simp only [Act.put, List.setIfInBounds_toArray, List.set_cons_zero, List.set_cons_succ]
         refine wpAnyH_take (i := 21) (oi := ⟨some 53, .load 3 (.tmp 52), 3, "law.go:58", #[⟨20, .data⟩, ⟨8, .guard⟩], some (8, false)⟩) (v := undef) rfl (by kernel_rfl) (by kernel_rfl) (by kernel_rfl) (fun _ _ _ h => h) (Or.inr ⟨by rfl, rfl⟩) (by assumption) ?_
         try simp only [Act.put, List.setIfInBounds_toArray, List.set_cons_zero, List.set_cons_succ]
         refine wpAnyH_take (i := 22) (oi := ⟨some 54, .fieldAddr 28 (.tmp 3) 1, 0, "law.go:58", #[⟨8, .guard⟩], some (8, false)⟩) (v := undef) rfl (by kernel_rfl) (by kernel_rfl) (by kernel_rfl) (fun _ _ _ h => h) (Or.inr ⟨by rfl, rfl⟩) (by assumption) ?_
         try simp only [Act.put, List.setIfInBounds_toArray, List.set_cons_zero, List.set_cons_succ]
         refine wpAnyH_take (i := 23) (oi := ⟨some 55, .load 3 (.tmp 54), 3, "law.go:58", #[⟨22, .data⟩, ⟨8, .guard⟩], some (8, false)⟩) (v := undef) rfl (by kernel_rfl) (by kernel_rfl) (by kernel_rfl) (fun _ _ _ h => h) (Or.inr ⟨by rfl, rfl⟩) (by assumption) ?_
         try simp only [Act.put, List.setIfInBounds_toArray, List.set_cons_zero, List.set_cons_succ]
         refine wpAnyH_take (i := 24) (oi := ⟨some 56, .binOp .add 3 (.tmp 53) (.tmp 55) 3, 3, "law.go:58", #[⟨21, .data⟩, ⟨23, .data⟩, ⟨8, .guard⟩], some (8, false)⟩) (v := undef) rfl (by kernel_rfl) (by kernel_rfl) (by kernel_rfl) (fun _ _ _ h => h) (Or.inr ⟨by rfl, rfl⟩) (by assumption) ?_
         try simp only [Act.put, List.setIfInBounds_toArray, List.set_cons_zero, List.set_cons_succ]
         refine wpAnyH_take (i := 25) (oi := ⟨some 57, .call { callee := .value (.func 19), args := #[.tmp 41, .tmp 43, .tmp 45, .tmp 46, .tmp 51, .tmp 56], argTypes := #[26, 3, 3, 26, 3, 3] }, 4, "law.go:58", #[⟨9, .data⟩, ⟨11, .data⟩, ⟨13, .data⟩, ⟨14, .data⟩, ⟨19, .data⟩, ⟨24, .data⟩, ⟨8, .chain⟩, ⟨8, .guard⟩], some (8, false)⟩) (v := undef) rfl (by kernel_rfl) (by kernel_rfl) (by kernel_rfl) (fun _ _ _ h => h) (Or.inr ⟨by rfl, rfl⟩) (by assumption) ?_
         try simp only [Act.put, List.setIfInBounds_toArray, List.set_cons_zero, List.set_cons_succ]
         refine wpAnyH_take (i := 26) (oi := ⟨some 58, .pick (.tmp 40) (.const (.bool true)) (.tmp 57), 4, "law.go:58", #[⟨8, .data⟩, ⟨25, .data⟩, ⟨2, .guard⟩], some (2, true)⟩) (v := ?_) rfl (by kernel_rfl) (by kernel_rfl) (by kernel_rfl) (fun _ _ _ h => h) (Or.inl ⟨by rfl, ?_⟩) (by assumption) ?_
         rotate_left
         · intro w hSw; (try dsimp only at hSw); first | (go_simp; done) | (go_simp; with_reducible rfl)
         try simp only [Act.put, List.setIfInBounds_toArray, List.set_cons_zero, List.set_cons_succ]
         refine wpAnyH_take (i := 27) (oi := ⟨some 59, .pick (.tmp 34) (.tmp 58) (.const (.bool false)), 4, "law.go:58", #[⟨2, .data⟩, ⟨26, .data⟩], none⟩) (v := ?_) rfl (by kernel_rfl) (by kernel_rfl) (by kernel_rfl) (fun _ _ _ h => h) (Or.inl ⟨by rfl, ?_⟩) (by assumption) ?_
         rotate_left
         · intro w hSw; (try dsimp only at hSw); first | (go_simp; done) | (go_simp; with_reducible rfl)
         try simp only [Act.put, List.setIfInBounds_toArray, List.set_cons_zero, List.set_cons_succ]
         refine wpAnyH_take (i := 28) (oi := ⟨some 60, .move (.tmp 59), 4, "law.go:58", #[⟨27, .data⟩, ⟨25, .chain⟩], none⟩) (v := ?_) rfl (by kernel_rfl) (by kernel_rfl) (by kernel_rfl) (fun _ _ _ h => h) (Or.inl ⟨by rfl, ?_⟩) (by assumption) ?_
         rotate_left
         · intro w hSw; (try dsimp only at hSw); first | (go_simp; done) | (go_simp; with_reducible rfl)
         try simp only [Act.put, List.setIfInBounds_toArray, List.set_cons_zero, List.set_cons_succ]
         refine wpAnyH_ready (rs := [29]) (by kernel_rfl) (by simp) ?_
         refine AllReadyH.cons (o := ⟨some 61, .call { callee := .value (.func 12), args := #[], argTypes := #[] }, 4, "law.go:58", #[⟨28, .chain⟩, ⟨28, .guard⟩], some (28, true)⟩) rfl (fun K hK => ?_) AllReadyH.nil
         go_simp
         (go_at_call 12; refine Calls.mono (lives10_any _) ?_; rintro e y5 ⟨rfl, E5⟩; have X5 : Ext wk y5 := Ext.trans (by with_reducible repeat (first | assumption | exact Ext.refl _ | apply Ext.alloc | apply Ext.drew | apply Ext.drewN)) E5)
         try go_wp2_with fail
         refine hK.out _ _ ?_ (fun hHeld4 => ?_)
         · (try dsimp only); (refine mkS.out _ ?_; ((with_reducible (repeat (first | assumption | exact Ext.refl _ | apply Ext.alloc | apply Ext.drew | apply Ext.drewN))); done))
         clear hK K hHeld3
         try simp only [Act.put, List.setIfInBounds_toArray, List.set_cons_zero, List.set_cons_succ]
         refine wpAnyH_take (i := 30) (oi := ⟨some 62, .pick (.tmp 60) (.tmp 61) (.const (.bool false)), 4, "law.go:58", #[⟨28, .data⟩, ⟨29, .data⟩], none⟩) (v := ?_) rfl (by kernel_rfl) (by kernel_rfl) (by kernel_rfl) (fun _ _ _ h => h) (Or.inl ⟨by rfl, ?_⟩) (by assumption) ?_
         rotate_left
         · intro w hSw; (try dsimp only at hSw); first | (go_simp; done) | (go_simp; with_reducible rfl)
         try simp only [Act.put, List.setIfInBounds_toArray, List.set_cons_zero, List.set_cons_succ]
         refine wpAnyH_take (i := 31) (oi := ⟨some 4, .assign (.tmp 62), 4, "law.go:58", #[⟨30, .data⟩, ⟨29, .chain⟩, ⟨0, .phase⟩, ⟨1, .phase⟩, ⟨2, .phase⟩, ⟨3, .phase⟩, ⟨4, .phase⟩, ⟨5, .phase⟩, ⟨6, .phase⟩, ⟨7, .phase⟩, ⟨8, .phase⟩, ⟨9, .phase⟩, ⟨10, .phase⟩, ⟨11, .phase⟩, ⟨12, .phase⟩, ⟨13, .phase⟩, ⟨14, .phase⟩, ⟨15, .phase⟩, ⟨16, .phase⟩, ⟨17, .phase⟩, ⟨18, .phase⟩, ⟨19, .phase⟩, ⟨20, .phase⟩, ⟨21, .phase⟩, ⟨22, .phase⟩, ⟨23, .phase⟩, ⟨24, .phase⟩, ⟨25, .phase⟩, ⟨26, .phase⟩, ⟨27, .phase⟩, ⟨28, .phase⟩, ⟨29, .phase⟩, ⟨30, .phase⟩], none⟩) (v := ?_) rfl (by kernel_rfl) (by kernel_rfl) (by kernel_rfl) (fun _ _ _ h => h) (Or.inl ⟨by rfl, ?_⟩) (by assumption) ?_
         rotate_left
         · intro w hSw; (try dsimp only at hSw); first | (go_simp; done) | (go_simp; with_reducible rfl)
         try simp only [Act.put, List.setIfInBounds_toArray, List.set_cons_zero, List.set_cons_succ]
         refine wpAnyH_done (by kernel_rfl) ?_ _
         go_wp2_with fail
         go_ret
         exact ⟨rfl, HQ.out.1.1.trans (by assumption)⟩

theorem laidOut : laidOutB Try.prog = true := by kernel_rfl
theorem cells_three : Try.prog.cellsOf 28 = 4 := by kernel_rfl
set_option maxRecDepth 100000 in
theorem lifted (os : Os) (started : os.Started) (H : Type) (enc : TypeId × Value → H) :
   ReturnsInHanded {} Try.checked os 5 .any (Rows.relFillsSpec.pre6 enc Try.prog Try.f5 Rows.relFillsRow.domain false) (Rows.relFillsSpec.post enc Try.prog Try.f5 false true false false) := by
 refine returnsInHanded_of_change (C := Try.checked) own started (by kernel_rfl) Try.func5
   (ChangeSpec.witness6 (enc := enc) (C := Try.checked) false ⟨#[], #[.agg #[.int .i64 0, .int .i64 0, .string ⟨#[]⟩, .int .i64 0, .int .i64 0, .int .i64 0, .bool false, .bool false, .int .i64 0, .int .i64 0, .bool false, .bool false, .slice none 0 0], .agg #[.int .i64 0, .int .i64 0, .int .i64 0, .int .i64 0]], []⟩ 8 (by kernel_rfl) (by kernel_rfl) (by kernel_rfl) (by kernel_rfl)) ?_
 intro W base args ds gs before hval0 hW hcnd _
 have hval : ∀ (j : Nat) t v, Try.f5.params[j]? = some t → args[j]? = some v → Value.okWide Try.prog W .any base t v := hval0
 have hW' := hW
 obtain ⟨p, q, hA0, hV, rfl, hfz, hnd⟩ := hW
 have hA : DataW.TrodAll enc Try.prog W 0 (fun _ => true) true Try.f5.params.toList args.toList ds p := hA0
 rw [Try.params5] at hA hval
 obtain ⟨v0, vs0, d0, ds0, p0, q0, hargs, rfl, rfl, h0, r0⟩ := trodAll_cons hA
 obtain ⟨v1, vs1, d1, ds1, p1, q1, rfl, rfl, rfl, h1, r1⟩ := trodAll_cons r0
 obtain ⟨rfl, rfl, rfl⟩ := trodAll_nil r1
 obtain rfl : args = #[v0, v1] := by cases args; simp_all
 obtain ⟨rfl, rfl⟩ := trodVars_none hV
 have j0 := h0
 have lt0 : ∀ x ∈ p0, x.block < W.heap.size := by obtain ⟨m, hm⟩ := j0; exact DataW.trod_lt m _ _ _ hm
 obtain ⟨cs0, rfl, _⟩ := okWide_struct Try.underlying26 (hval 0 26 v0 rfl rfl)
 obtain ⟨fu0, hf0⟩ := h0
 obtain ⟨T0, lv0, hcs0, hLI0, wT0⟩ := open_exp fu0 _ _ hf0
 obtain ⟨pp0, cl0, hlv0, _⟩ := hLI0.form
 obtain ⟨ln0, hln0⟩ : ∃ ln, T0.l.length = ln := ⟨_, rfl⟩
 rw [hln0] at hlv0
 subst hlv0
 obtain rfl : cs0 = (cellsT T0 (.slice pp0 ln0 cl0)).toArray := by rw [← hcs0]; simp [Value.cells]
 have j1 := h1
 have lt1 : ∀ x ∈ p1, x.block < W.heap.size := by obtain ⟨m, hm⟩ := j1; exact DataW.trod_lt m _ _ _ hm
 obtain ⟨cc0, cc1, cc2, cc3, yy0, yy1, yy2, yy3, m1, rfl, hd1, hp1, hy0, hy1, hy2, hy3⟩ := open_agg4 Try.underlying28 (by kernel_rfl) cells_three (hval 1 28 v1 rfl rfl) h1
 obtain ⟨Lp1, f0, _, wLp1⟩ := DataW.trod_int Try.underlying3 hy0
 obtain ⟨Lq1, f1, _, wLq1⟩ := DataW.trod_int Try.underlying3 hy1
 obtain ⟨Lu1, f2, _, wLu1⟩ := DataW.trod_int Try.underlying3 hy2
 obtain ⟨Lv1, f3, _, wLv1⟩ := DataW.trod_int Try.underlying3 hy3
 simp only [List.cons.injEq, and_true] at f0 f1 f2 f3
 obtain rfl := f0
 obtain rfl := f1
 obtain rfl := f2
 obtain rfl := f3
 clear hA0 hval0
 refine (walk T0 pp0 ln0 cl0 Lp1 Lq1 Lu1 Lv1 wT0 hLI0 wLp1 wLq1 wLu1 wLv1).mono fun e W' ⟨he, bel⟩ => ?_
 subst he
 exact ⟨_, rfl, _, _, _, [], _, [], hW', trodAll_mk1 (shut_bool Try.underlying4 _), (trodAll_cons_mk (Below.trod laidOut (by kernel_rfl) (of_decide_eq_true (by kernel_rfl)) j0 bel lt0) (trodAll_cons_mk (Below.trod laidOut (by kernel_rfl) (of_decide_eq_true (by kernel_rfl)) j1 bel lt1) trodAll_mk0)), rfl, Below.frame bel _, fun h => by cases h⟩

theorem over : Rows.relFillsRow.holds Try.pinned (OpenSpec.ofChange Rows.relFillsSpec) :=
 OpenClaim.holds_of_wide 5 Try.f5 rfl rfl rfl rfl rfl rfl rfl ⟨rfl, rfl, rfl, rfl, rfl⟩ rfl rfl rfl rfl rfl (by kernel_rfl) Try.func5 (by kernel_rfl)
   (of_decide_eq_true (by kernel_rfl)) (by unfold Func.isWrapper; first | (rw [if_pos (by decide +kernel)]; kernel_rfl) | (rw [if_neg (by decide +kernel)]; exact ⟨rfl, rfl⟩))
   (fun os started H enc _ => lifted os started H enc)

theorem proved : Rows.RelFillsSaid := over
end Go.Proofs.Ytcggiljlilbdfaa.relFills
namespace Go.Proofs.Ytcggiljlilbdfaa
theorem relFills_holds : Rows.RelFillsSaid := relFills.proved
end Go.Proofs.Ytcggiljlilbdfaa
