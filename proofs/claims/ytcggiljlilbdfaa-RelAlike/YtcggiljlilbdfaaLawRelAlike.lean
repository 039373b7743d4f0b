/-
 RelAlike is proved: for every two trees (without a ring) and every four ints the call returns true and the arguments read as they did. No condition but the form's own reach.
-/
import Derived.Test.YtcggiljlilbdfaaQ36
import Derived.Test.YtcggiljlilbdfaaQ45
import Derived.Test.YtcggiljlilbdfaaQ14
import Derived.Test.YtcggiljlilbdfaaQ18
import Derived.Test.YtcggiljlilbdfaaRows
import Derived.ProofKit
import Derived.OpenShut
import Derived.ChangeOld
import Derived.SizedLaws
import Derived.Lib.SmallJoins
namespace Go.Proofs.Ytcggiljlilbdfaa.relAlike
open Go.ChangeShapes Go.WideShapes Go.ChangeAt Go.RowKit Go.Joins
set_option maxHeartbeats 6000000
set_option maxRecDepth 100000

theorem own : ownKnob Try.prog.godebug = none := by kernel_rfl
theorem small_law (t : T) (pp : Option Addr) (ln cl : Nat) (w : World) (hL : IsL w (fun _ => True) (.slice pp ln cl) t.l) :
   Calls Try.prog 11 #[.agg #[.int .i64 t.k, .int .i64 t.n, .string (bs t.s), .int .i64 t.e, .int .i64 t.r.1, .int .i64 t.r.2.1, .bool t.r.2.2.1, .bool t.r.2.2.2, .int .i64 t.q.1, .int .i64 t.q.2.1, .bool t.q.2.2.1, .bool t.q.2.2.2, .slice pp ln cl]] w fun e w' => ∃ ok, e = .returned (.bool ok) ∧ Ext w w' ∧ (ok = true → Hr 401 t ∧ szT 401 t ≤ 1000) := by
 have c1 := fun W h => small_any 401 (Nat.le_refl _) t W (fun _ => True) pp ln cl 1000 (by decide) (by decide) h
 rw [show (401 : Int) - ((401 : Nat) : Int) = 0 from rfl] at c1
 have HI : Hid (IsL w (fun _ => True) (.slice pp ln cl) t.l) := hL
 clear hL
 go_enter Try.func11, Try.ntmps11
 go_wp2_with fail
 refine (c1 _ (HI.out.ext ((Ext.refl _).alloc _))).mono ?_
 rintro e w1 ⟨m, ok, rfl, E1, h1, h2, h3, hok⟩
 have HR : Hid (Ext w w1 ∧ (ok = true → m = szT 401 t ∧ Hr 401 t ∧ m ≤ max 1000 1)) := ⟨((Ext.refl _).alloc _).trans E1, hok⟩
 clear hok E1 h3
 go_wp2_with fail
 go_ret
 refine ⟨ok, rfl, HR.out.1, fun h => ?_⟩
 obtain ⟨q1, q2, q3⟩ := HR.out.2 h
 exact ⟨q2, by omega⟩
theorem walk (a : T) (pp : Option Addr) (ln cl : Nat) (b : T) (qq : Option Addr) (lm cm : Nat) (o0 o1 o2 o3 : Int) (_hWa : Wf a) {w : World} (hLa : IsL w (fun _ => True) (.slice pp ln cl) a.l) (_hWb : Wf b) (hLb : IsL w (fun _ => True) (.slice qq lm cm) b.l) (_ : (Lit.int .i64 o0).wf = true) (_ : (Lit.int .i64 o1).wf = true) (_ : (Lit.int .i64 o2).wf = true) (_ : (Lit.int .i64 o3).wf = true) :
   Calls Try.prog 4 #[.agg #[.int .i64 a.k, .int .i64 a.n, .string (bs a.s), .int .i64 a.e, .int .i64 a.r.1, .int .i64 a.r.2.1, .bool a.r.2.2.1, .bool a.r.2.2.2, .int .i64 a.q.1, .int .i64 a.q.2.1, .bool a.q.2.2.1, .bool a.q.2.2.2, .slice pp ln cl], .agg #[.int .i64 b.k, .int .i64 b.n, .string (bs b.s), .int .i64 b.e, .int .i64 b.r.1, .int .i64 b.r.2.1, .bool b.r.2.2.1, .bool b.r.2.2.2, .int .i64 b.q.1, .int .i64 b.q.2.1, .bool b.q.2.2.1, .bool b.q.2.2.2, .slice qq lm cm], .agg #[.int .i64 o0, .int .i64 o1, .int .i64 o2, .int .i64 o3]] w fun e w' => e = .returned (.bool true) ∧ Ext w w' := by
 have HI : Hid (IsL w (fun _ => True) (.slice pp ln cl) a.l ∧ IsL w (fun _ => True) (.slice qq lm cm) b.l) := ⟨hLa, hLb⟩
 clear hLa hLb
 go_enter Try.func4, Try.ntmps4
 go_wp2_with fail
 have HA : Hid (Ext w (((w.alloc (.cells #[.int .i64 a.k, .int .i64 a.n, .string (bs a.s), .int .i64 a.e, .int .i64 a.r.1, .int .i64 a.r.2.1, .bool a.r.2.2.1, .bool a.r.2.2.2, .int .i64 a.q.1, .int .i64 a.q.2.1, .bool a.q.2.2.1, .bool a.q.2.2.2, .slice pp ln cl] 26)).alloc (.cells #[.int .i64 b.k, .int .i64 b.n, .string (bs b.s), .int .i64 b.e, .int .i64 b.r.1, .int .i64 b.r.2.1, .bool b.r.2.2.1, .bool b.r.2.2.2, .int .i64 b.q.1, .int .i64 b.q.2.1, .bool b.q.2.2.1, .bool b.q.2.2.2, .slice qq lm cm] 26)).alloc (.cells #[.int .i64 o0, .int .i64 o1, .int .i64 o2, .int .i64 o3] 28)) ∧ BlkX (((w.alloc (.cells #[.int .i64 a.k, .int .i64 a.n, .string (bs a.s), .int .i64 a.e, .int .i64 a.r.1, .int .i64 a.r.2.1, .bool a.r.2.2.1, .bool a.r.2.2.2, .int .i64 a.q.1, .int .i64 a.q.2.1, .bool a.q.2.2.1, .bool a.q.2.2.2, .slice pp ln cl] 26)).alloc (.cells #[.int .i64 b.k, .int .i64 b.n, .string (bs b.s), .int .i64 b.e, .int .i64 b.r.1, .int .i64 b.r.2.1, .bool b.r.2.2.1, .bool b.r.2.2.2, .int .i64 b.q.1, .int .i64 b.q.2.1, .bool b.q.2.2.1, .bool b.q.2.2.2, .slice qq lm cm] 26)).alloc (.cells #[.int .i64 o0, .int .i64 o1, .int .i64 o2, .int .i64 o3] 28)) w.heap.size a (.slice pp ln cl) ∧ BlkX (((w.alloc (.cells #[.int .i64 a.k, .int .i64 a.n, .string (bs a.s), .int .i64 a.e, .int .i64 a.r.1, .int .i64 a.r.2.1, .bool a.r.2.2.1, .bool a.r.2.2.2, .int .i64 a.q.1, .int .i64 a.q.2.1, .bool a.q.2.2.1, .bool a.q.2.2.2, .slice pp ln cl] 26)).alloc (.cells #[.int .i64 b.k, .int .i64 b.n, .string (bs b.s), .int .i64 b.e, .int .i64 b.r.1, .int .i64 b.r.2.1, .bool b.r.2.2.1, .bool b.r.2.2.2, .int .i64 b.q.1, .int .i64 b.q.2.1, .bool b.q.2.2.1, .bool b.q.2.2.2, .slice qq lm cm] 26)).alloc (.cells #[.int .i64 o0, .int .i64 o1, .int .i64 o2, .int .i64 o3] 28)) (w.heap.size + 1) b (.slice qq lm cm) ∧ Blk (((w.alloc (.cells #[.int .i64 a.k, .int .i64 a.n, .string (bs a.s), .int .i64 a.e, .int .i64 a.r.1, .int .i64 a.r.2.1, .bool a.r.2.2.1, .bool a.r.2.2.2, .int .i64 a.q.1, .int .i64 a.q.2.1, .bool a.q.2.2.1, .bool a.q.2.2.2, .slice pp ln cl] 26)).alloc (.cells #[.int .i64 b.k, .int .i64 b.n, .string (bs b.s), .int .i64 b.e, .int .i64 b.r.1, .int .i64 b.r.2.1, .bool b.r.2.2.1, .bool b.r.2.2.2, .int .i64 b.q.1, .int .i64 b.q.2.1, .bool b.q.2.2.1, .bool b.q.2.2.2, .slice qq lm cm] 26)).alloc (.cells #[.int .i64 o0, .int .i64 o1, .int .i64 o2, .int .i64 o3] 28)) (w.heap.size + 1 + 1) (.int .i64 o0) (.int .i64 o1) (.int .i64 o2) (.int .i64 o3)) := ⟨(((Ext.refl _).alloc _).alloc _).alloc _, blk13_top rfl (((Ext.refl _).alloc _).alloc _), blk13_top (by simp) ((Ext.refl _).alloc _), blk_top (by simp) (Ext.refl _)⟩
 generalize (((w.alloc (.cells #[.int .i64 a.k, .int .i64 a.n, .string (bs a.s), .int .i64 a.e, .int .i64 a.r.1, .int .i64 a.r.2.1, .bool a.r.2.2.1, .bool a.r.2.2.2, .int .i64 a.q.1, .int .i64 a.q.2.1, .bool a.q.2.2.1, .bool a.q.2.2.2, .slice pp ln cl] 26)).alloc (.cells #[.int .i64 b.k, .int .i64 b.n, .string (bs b.s), .int .i64 b.e, .int .i64 b.r.1, .int .i64 b.r.2.1, .bool b.r.2.2.1, .bool b.r.2.2.2, .int .i64 b.q.1, .int .i64 b.q.2.1, .bool b.q.2.2.1, .bool b.q.2.2.2, .slice qq lm cm] 26)).alloc (.cells #[.int .i64 o0, .int .i64 o1, .int .i64 o2, .int .i64 o3] 28)) = w0 at *
 refine (small_law a pp ln cl _ (HI.out.1.ext HA.out.1)).mono ?_
 rintro e w1 ⟨ok, rfl, E1, hok⟩
 have HE1 : Hid (Ext w w1 ∧ BlkX w1 w.heap.size a (.slice pp ln cl) ∧ BlkX w1 (w.heap.size + 1) b (.slice qq lm cm) ∧ Blk w1 (w.heap.size + 1 + 1) (.int .i64 o0) (.int .i64 o1) (.int .i64 o2) (.int .i64 o3)) := ⟨HA.out.1.trans E1, HA.out.2.1.ext E1, HA.out.2.2.1.ext E1, HA.out.2.2.2.ext E1⟩
 clear E1 HA
 cases ok
 · clear hok
   go_wp2_with fail
   refine (lives10_any _).mono ?_
   rintro e w9 ⟨rfl, E9⟩
   have HE9 : Hid (Ext w w9) := Ext.trans HE1.out.1 E9
   clear E9
   go_wp2_with fail
   go_ret
   exact ⟨rfl, HE9.out⟩
 · have HHa : Hid (Hr 401 a ∧ szT 401 a ≤ 1000) := hok rfl
   obtain ⟨qy, ⟨m0, m1, m2, m3, m4, m5, m6, m7, m8, m9, m10, m11, m12⟩, gy⟩ := HE1.out.2.2.1
   clear hok gy
   go_wp2_with fail
   refine (small_law b qq lm cm _ (HI.out.2.ext HE1.out.1)).mono ?_
   rintro e w2 ⟨ok, rfl, E2, hok⟩
   have HE2 : Hid (Ext w w2 ∧ BlkX w2 w.heap.size a (.slice pp ln cl) ∧ BlkX w2 (w.heap.size + 1) b (.slice qq lm cm) ∧ Blk w2 (w.heap.size + 1 + 1) (.int .i64 o0) (.int .i64 o1) (.int .i64 o2) (.int .i64 o3)) := ⟨HE1.out.1.trans E2, HE1.out.2.1.ext E2, HE1.out.2.2.1.ext E2, HE1.out.2.2.2.ext E2⟩
   clear E2 HE1 qy m0 m1 m2 m3 m4 m5 m6 m7 m8 m9 m10 m11 m12
   cases ok
   · clear hok
     go_wp2_with fail
     refine (lives10_any _).mono ?_
     rintro e w9 ⟨rfl, E9⟩
     have HE9 : Hid (Ext w w9) := Ext.trans HE2.out.1 E9
     clear E9
     go_wp2_with fail
     go_ret
     exact ⟨rfl, HE9.out⟩
   · have HHb : Hid (Hr 401 b ∧ szT 401 b ≤ 1000) := hok rfl
     clear hok
     go_wp2_with fail
     have OA : Hid (∀ V, Ext w2 V → Calls Try.prog 14 #[.agg #[.int .i64 a.k, .int .i64 a.n, .string (bs a.s), .int .i64 a.e, .int .i64 a.r.1, .int .i64 a.r.2.1, .bool a.r.2.2.1, .bool a.r.2.2.2, .int .i64 a.q.1, .int .i64 a.q.2.1, .bool a.q.2.2.1, .bool a.q.2.2.2, .slice pp ln cl]] V (OwnQ V a)) := fun V e => own_any 401 a HHa.out.1 V (fun _ => True) pp ln cl (HI.out.1.ext (HE2.out.1.trans e))
     have OB : Hid (∀ V, Ext w2 V → Calls Try.prog 14 #[.agg #[.int .i64 b.k, .int .i64 b.n, .string (bs b.s), .int .i64 b.e, .int .i64 b.r.1, .int .i64 b.r.2.1, .bool b.r.2.2.1, .bool b.r.2.2.2, .int .i64 b.q.1, .int .i64 b.q.2.1, .bool b.q.2.2.1, .bool b.q.2.2.2, .slice qq lm cm]] V (OwnQ V b)) := fun V e => own_any 401 b HHb.out.1 V (fun _ => True) qq lm cm (HI.out.2.ext (HE2.out.1.trans e))
     have PAc : Hid (∀ V p l c p' l' c', IsL V (fun _ => True) (.slice p l c) a.l → IsL V (fun _ => True) (.slice p' l' c') b.l → Calls Try.prog 19 #[.agg #[.int .i64 a.k, .int .i64 a.n, .string (bs a.s), .int .i64 a.e, .int .i64 a.r.1, .int .i64 a.r.2.1, .bool a.r.2.2.1, .bool a.r.2.2.2, .int .i64 a.q.1, .int .i64 a.q.2.1, .bool a.q.2.2.1, .bool a.q.2.2.2, .slice p l c], .int .i64 o0, .int .i64 o1, .agg #[.int .i64 b.k, .int .i64 b.n, .string (bs b.s), .int .i64 b.e, .int .i64 b.r.1, .int .i64 b.r.2.1, .bool b.r.2.2.1, .bool b.r.2.2.2, .int .i64 b.q.1, .int .i64 b.q.2.1, .bool b.q.2.2.1, .bool b.q.2.2.2, .slice p' l' c'], .int .i64 o2, .int .i64 o3] V fun e w' => e = .returned (.bool (sameT 401 (mpT (mvE (wrap64 (-o0)) (wrap64 (-o1))) 401 a) (mpT (mvE (wrap64 (-o2)) (wrap64 (-o3))) 401 b))) ∧ Ext V w') := fun V p l c p' l' c' h h' => alike_any 401 a b HHa.out.1 HHb.out.1 o0 o1 o2 o3 V p p' l c l' c' h h'
     have RAc : Hid (∀ V, Ext w2 V → Calls Try.prog 20 #[.agg #[.int .i64 a.k, .int .i64 a.n, .string (bs a.s), .int .i64 a.e, .int .i64 a.r.1, .int .i64 a.r.2.1, .bool a.r.2.2.1, .bool a.r.2.2.2, .int .i64 a.q.1, .int .i64 a.q.2.1, .bool a.q.2.2.1, .bool a.q.2.2.2, .slice pp ln cl], .int .i64 o0, .int .i64 o1, .agg #[.int .i64 b.k, .int .i64 b.n, .string (bs b.s), .int .i64 b.e, .int .i64 b.r.1, .int .i64 b.r.2.1, .bool b.r.2.2.1, .bool b.r.2.2.2, .int .i64 b.q.1, .int .i64 b.q.2.1, .bool b.q.2.2.1, .bool b.q.2.2.2, .slice qq lm cm], .int .i64 o2, .int .i64 o3] V fun e w' => e = .returned (.bool (sameT 401 (mpT (mvE (wrap64 (-o0)) (wrap64 (-o1))) 401 a) (mpT (mvE (wrap64 (-o2)) (wrap64 (-o3))) 401 b))) ∧ Ext V w') := fun V e => ralike_any 401 a b HHa.out.1 HHb.out.1 o0 o1 o2 o3 V pp qq ln cl lm cm (HI.out.1.ext (HE2.out.1.trans e)) (HI.out.2.ext (HE2.out.1.trans e))
     have PAs : Hid (∀ V p l c, Ext w2 V → IsL V (fun _ => True) (.slice p l c) a.l → Calls Try.prog 19 #[.agg #[.int .i64 a.k, .int .i64 a.n, .string (bs a.s), .int .i64 a.e, .int .i64 a.r.1, .int .i64 a.r.2.1, .bool a.r.2.2.1, .bool a.r.2.2.2, .int .i64 a.q.1, .int .i64 a.q.2.1, .bool a.q.2.2.1, .bool a.q.2.2.2, .slice pp ln cl], .int .i64 o0, .int .i64 o1, .agg #[.int .i64 a.k, .int .i64 a.n, .string (bs a.s), .int .i64 a.e, .int .i64 a.r.1, .int .i64 a.r.2.1, .bool a.r.2.2.1, .bool a.r.2.2.2, .int .i64 a.q.1, .int .i64 a.q.2.1, .bool a.q.2.2.1, .bool a.q.2.2.2, .slice p l c], .int .i64 o0, .int .i64 o1] V fun e w' => e = .returned (.bool true) ∧ Ext V w') := fun V p l c e h => by
       have := alike_any 401 a a HHa.out.1 HHa.out.1 o0 o1 o0 o1 V pp p ln cl l c (HI.out.1.ext (HE2.out.1.trans e)) h
       rw [same_refl 401 _ (hr_mp 401 a HHa.out.1 _ (fun t => mvE_l _ _ t))] at this
       exact this
     obtain ⟨bt, hbt⟩ : ∃ bt, sameT 401 (mpT (mvE (wrap64 (-o0)) (wrap64 (-o1))) 401 a) (mpT (mvE (wrap64 (-o2)) (wrap64 (-o3))) 401 b) = bt := ⟨_, rfl⟩
     rw [hbt] at PAc RAc
     have t2 : (bt == bt) = true := by simp
     have mkS : Hid (∀ V, Ext w2 V → V.cell? ⟨w.heap.size, 0, none⟩ = some (.int .i64 a.k) ∧ V.cell? ⟨w.heap.size, 1, none⟩ = some (.int .i64 a.n) ∧ V.cell? ⟨w.heap.size, 2, none⟩ = some (.string (bs a.s)) ∧ V.cell? ⟨w.heap.size, 3, none⟩ = some (.int .i64 a.e) ∧ V.cell? ⟨w.heap.size, 4, none⟩ = some (.int .i64 a.r.1) ∧ V.cell? ⟨w.heap.size, 5, none⟩ = some (.int .i64 a.r.2.1) ∧ V.cell? ⟨w.heap.size, 6, none⟩ = some (.bool a.r.2.2.1) ∧ V.cell? ⟨w.heap.size, 7, none⟩ = some (.bool a.r.2.2.2) ∧ V.cell? ⟨w.heap.size, 8, none⟩ = some (.int .i64 a.q.1) ∧ V.cell? ⟨w.heap.size, 9, none⟩ = some (.int .i64 a.q.2.1) ∧ V.cell? ⟨w.heap.size, 10, none⟩ = some (.bool a.q.2.2.1) ∧ V.cell? ⟨w.heap.size, 11, none⟩ = some (.bool a.q.2.2.2) ∧ V.cell? ⟨w.heap.size, 12, none⟩ = some (.slice pp ln cl) ∧ V.cell? ⟨w.heap.size + 1, 0, none⟩ = some (.int .i64 b.k) ∧ V.cell? ⟨w.heap.size + 1, 1, none⟩ = some (.int .i64 b.n) ∧ V.cell? ⟨w.heap.size + 1, 2, none⟩ = some (.string (bs b.s)) ∧ V.cell? ⟨w.heap.size + 1, 3, none⟩ = some (.int .i64 b.e) ∧ V.cell? ⟨w.heap.size + 1, 4, none⟩ = some (.int .i64 b.r.1) ∧ V.cell? ⟨w.heap.size + 1, 5, none⟩ = some (.int .i64 b.r.2.1) ∧ V.cell? ⟨w.heap.size + 1, 6, none⟩ = some (.bool b.r.2.2.1) ∧ V.cell? ⟨w.heap.size + 1, 7, none⟩ = some (.bool b.r.2.2.2) ∧ V.cell? ⟨w.heap.size + 1, 8, none⟩ = some (.int .i64 b.q.1) ∧ V.cell? ⟨w.heap.size + 1, 9, none⟩ = some (.int .i64 b.q.2.1) ∧ V.cell? ⟨w.heap.size + 1, 10, none⟩ = some (.bool b.q.2.2.1) ∧ V.cell? ⟨w.heap.size + 1, 11, none⟩ = some (.bool b.q.2.2.2) ∧ V.cell? ⟨w.heap.size + 1, 12, none⟩ = some (.slice qq lm cm) ∧ V.cell? ⟨w.heap.size + 1 + 1, 0, none⟩ = some (.int .i64 o0) ∧ V.cell? ⟨w.heap.size + 1 + 1, 1, none⟩ = some (.int .i64 o1) ∧ V.cell? ⟨w.heap.size + 1 + 1, 2, none⟩ = some (.int .i64 o2) ∧ V.cell? ⟨w.heap.size + 1 + 1, 3, none⟩ = some (.int .i64 o3)) := fun V e => by
       obtain ⟨qz, ⟨k0, k1, k2, k3, k4, k5, k6, k7, k8, k9, k10, k11, k12⟩, gz⟩ := HE2.out.2.1.ext e
       obtain ⟨qy, ⟨m0, m1, m2, m3, m4, m5, m6, m7, m8, m9, m10, m11, m12⟩, gy⟩ := HE2.out.2.2.1.ext e
       obtain ⟨qx, ⟨n0, n1, n2, n3⟩, gx⟩ := HE2.out.2.2.2.ext e
       exact ⟨k0, k1, k2, k3, k4, k5, k6, k7, k8, k9, k10, k11, k12, m0, m1, m2, m3, m4, m5, m6, m7, m8, m9, m10, m11, m12, n0, n1, n2, n3⟩
     clear hbt
     refine wp_region_held_drew (S := (fun V => V.cell? ⟨w.heap.size, 0, none⟩ = some (.int .i64 a.k) ∧ V.cell? ⟨w.heap.size, 1, none⟩ = some (.int .i64 a.n) ∧ V.cell? ⟨w.heap.size, 2, none⟩ = some (.string (bs a.s)) ∧ V.cell? ⟨w.heap.size, 3, none⟩ = some (.int .i64 a.e) ∧ V.cell? ⟨w.heap.size, 4, none⟩ = some (.int .i64 a.r.1) ∧ V.cell? ⟨w.heap.size, 5, none⟩ = some (.int .i64 a.r.2.1) ∧ V.cell? ⟨w.heap.size, 6, none⟩ = some (.bool a.r.2.2.1) ∧ V.cell? ⟨w.heap.size, 7, none⟩ = some (.bool a.r.2.2.2) ∧ V.cell? ⟨w.heap.size, 8, none⟩ = some (.int .i64 a.q.1) ∧ V.cell? ⟨w.heap.size, 9, none⟩ = some (.int .i64 a.q.2.1) ∧ V.cell? ⟨w.heap.size, 10, none⟩ = some (.bool a.q.2.2.1) ∧ V.cell? ⟨w.heap.size, 11, none⟩ = some (.bool a.q.2.2.2) ∧ V.cell? ⟨w.heap.size, 12, none⟩ = some (.slice pp ln cl) ∧ V.cell? ⟨w.heap.size + 1, 0, none⟩ = some (.int .i64 b.k) ∧ V.cell? ⟨w.heap.size + 1, 1, none⟩ = some (.int .i64 b.n) ∧ V.cell? ⟨w.heap.size + 1, 2, none⟩ = some (.string (bs b.s)) ∧ V.cell? ⟨w.heap.size + 1, 3, none⟩ = some (.int .i64 b.e) ∧ V.cell? ⟨w.heap.size + 1, 4, none⟩ = some (.int .i64 b.r.1) ∧ V.cell? ⟨w.heap.size + 1, 5, none⟩ = some (.int .i64 b.r.2.1) ∧ V.cell? ⟨w.heap.size + 1, 6, none⟩ = some (.bool b.r.2.2.1) ∧ V.cell? ⟨w.heap.size + 1, 7, none⟩ = some (.bool b.r.2.2.2) ∧ V.cell? ⟨w.heap.size + 1, 8, none⟩ = some (.int .i64 b.q.1) ∧ V.cell? ⟨w.heap.size + 1, 9, none⟩ = some (.int .i64 b.q.2.1) ∧ V.cell? ⟨w.heap.size + 1, 10, none⟩ = some (.bool b.q.2.2.1) ∧ V.cell? ⟨w.heap.size + 1, 11, none⟩ = some (.bool b.q.2.2.2) ∧ V.cell? ⟨w.heap.size + 1, 12, none⟩ = some (.slice qq lm cm) ∧ V.cell? ⟨w.heap.size + 1 + 1, 0, none⟩ = some (.int .i64 o0) ∧ V.cell? ⟨w.heap.size + 1 + 1, 1, none⟩ = some (.int .i64 o1) ∧ V.cell? ⟨w.heap.size + 1 + 1, 2, none⟩ = some (.int .i64 o2) ∧ V.cell? ⟨w.heap.size + 1 + 1, 3, none⟩ = some (.int .i64 o3))) (by kernel_rfl) ?_ (fun hHeld0 => ?_)
     · (refine mkS.out _ ?_; ((with_reducible (repeat (first | assumption | exact Ext.refl _ | apply Ext.alloc | apply Ext.drew | apply Ext.drewN))); done))
     refine wpAnyH_take (i := 0) (oi := ⟨some 17, .load 26 (.tmp 3), 26, "law.go:41", #[], none⟩) (v := ?_) rfl (by kernel_rfl) (by kernel_rfl) (by kernel_rfl) (fun _ _ _ h => h) (Or.inl ⟨by rfl, ?_⟩) (by assumption) ?_
     rotate_left
     · intro w hSw; (try dsimp only at hSw); first | (go_simp; done) | (go_simp; with_reducible rfl)
     try simp only [Act.put, List.setIfInBounds_toArray, List.set_cons_zero, List.set_cons_succ]
     refine wpAnyH_take (i := 2) (oi := ⟨some 19, .fieldAddr 28 (.tmp 5) 0, 0, "law.go:41", #[], none⟩) (v := ?_) rfl (by kernel_rfl) (by kernel_rfl) (by kernel_rfl) (fun _ _ _ h => h) (Or.inl ⟨by rfl, ?_⟩) (by assumption) ?_
     rotate_left
     · intro w hSw; (try dsimp only at hSw); first | (go_simp; done) | (go_simp; with_reducible rfl)
     try simp only [Act.put, List.setIfInBounds_toArray, List.set_cons_zero, List.set_cons_succ]
     refine wpAnyH_take (i := 3) (oi := ⟨some 20, .load 3 (.tmp 19), 3, "law.go:41", #[⟨2, .data⟩], none⟩) (v := ?_) rfl (by kernel_rfl) (by kernel_rfl) (by kernel_rfl) (fun _ _ _ h => h) (Or.inl ⟨by rfl, ?_⟩) (by assumption) ?_
     rotate_left
     · intro w hSw; (try dsimp only at hSw); first | (go_simp; done) | (go_simp; with_reducible rfl)
     try simp only [Act.put, List.setIfInBounds_toArray, List.set_cons_zero, List.set_cons_succ]
     refine wpAnyH_take (i := 4) (oi := ⟨some 21, .fieldAddr 28 (.tmp 5) 1, 0, "law.go:41", #[], none⟩) (v := ?_) rfl (by kernel_rfl) (by kernel_rfl) (by kernel_rfl) (fun _ _ _ h => h) (Or.inl ⟨by rfl, ?_⟩) (by assumption) ?_
     rotate_left
     · intro w hSw; (try dsimp only at hSw); first | (go_simp; done) | (go_simp; with_reducible rfl)
     try simp only [Act.put, List.setIfInBounds_toArray, List.set_cons_zero, List.set_cons_succ]
     refine wpAnyH_take (i := 5) (oi := ⟨some 22, .load 3 (.tmp 21), 3, "law.go:41", #[⟨4, .data⟩], none⟩) (v := ?_) rfl (by kernel_rfl) (by kernel_rfl) (by kernel_rfl) (fun _ _ _ h => h) (Or.inl ⟨by rfl, ?_⟩) (by assumption) ?_
     rotate_left
     · intro w hSw; (try dsimp only at hSw); first | (go_simp; done) | (go_simp; with_reducible rfl)
     try simp only [Act.put, List.setIfInBounds_toArray, List.set_cons_zero, List.set_cons_succ]
     refine wpAnyH_take (i := 6) (oi := ⟨some 23, .load 26 (.tmp 4), 26, "law.go:41", #[], none⟩) (v := ?_) rfl (by kernel_rfl) (by kernel_rfl) (by kernel_rfl) (fun _ _ _ h => h) (Or.inl ⟨by rfl, ?_⟩) (by assumption) ?_
     rotate_left
     · intro w hSw; (try dsimp only at hSw); first | (go_simp; done) | (go_simp; with_reducible rfl)
     try simp only [Act.put, List.setIfInBounds_toArray, List.set_cons_zero, List.set_cons_succ]
     refine wpAnyH_take (i := 8) (oi := ⟨some 25, .fieldAddr 28 (.tmp 5) 2, 0, "law.go:41", #[], none⟩) (v := ?_) rfl (by kernel_rfl) (by kernel_rfl) (by kernel_rfl) (fun _ _ _ h => h) (Or.inl ⟨by rfl, ?_⟩) (by assumption) ?_
     rotate_left
     · intro w hSw; (try dsimp only at hSw); first | (go_simp; done) | (go_simp; with_reducible rfl)
     try simp only [Act.put, List.setIfInBounds_toArray, List.set_cons_zero, List.set_cons_succ]
     refine wpAnyH_take (i := 9) (oi := ⟨some 26, .load 3 (.tmp 25), 3, "law.go:41", #[⟨8, .data⟩], none⟩) (v := ?_) rfl (by kernel_rfl) (by kernel_rfl) (by kernel_rfl) (fun _ _ _ h => h) (Or.inl ⟨by rfl, ?_⟩) (by assumption) ?_
     rotate_left
     · intro w hSw; (try dsimp only at hSw); first | (go_simp; done) | (go_simp; with_reducible rfl)
     try simp only [Act.put, List.setIfInBounds_toArray, List.set_cons_zero, List.set_cons_succ]
     refine wpAnyH_take (i := 10) (oi := ⟨some 27, .fieldAddr 28 (.tmp 5) 3, 0, "law.go:41", #[], none⟩) (v := ?_) rfl (by kernel_rfl) (by kernel_rfl) (by kernel_rfl) (fun _ _ _ h => h) (Or.inl ⟨by rfl, ?_⟩) (by assumption) ?_
     rotate_left
     · intro w hSw; (try dsimp only at hSw); first | (go_simp; done) | (go_simp; with_reducible rfl)
     try simp only [Act.put, List.setIfInBounds_toArray, List.set_cons_zero, List.set_cons_succ]
     refine wpAnyH_take (i := 11) (oi := ⟨some 28, .load 3 (.tmp 27), 3, "law.go:41", #[⟨10, .data⟩], none⟩) (v := ?_) rfl (by kernel_rfl) (by kernel_rfl) (by kernel_rfl) (fun _ _ _ h => h) (Or.inl ⟨by rfl, ?_⟩) (by assumption) ?_
     rotate_left
     · intro w hSw; (try dsimp only at hSw); first | (go_simp; done) | (go_simp; with_reducible rfl)
     try simp only [Act.put, List.setIfInBounds_toArray, List.set_cons_zero, List.set_cons_succ]
     refine wpAnyH_ready (rs := [1]) (by kernel_rfl) (by simp) ?_
     refine AllReadyH.cons (o := ⟨some 18, .call { callee := .value (.func 14), args := #[.tmp 17], argTypes := #[26] }, 26, "law.go:41", #[⟨0, .data⟩], none⟩) rfl (fun K hK => ?_) AllReadyH.nil
     go_simp
     (go_at_call 14; refine Calls.mono (OA.out _ (by with_reducible repeat (first | assumption | exact Ext.refl _ | apply Ext.alloc | apply Ext.drew | apply Ext.drewN))) ?_; rintro e y1 ⟨lv1, rfl, hL1, E1⟩; obtain ⟨p1, c1, hlv, hcl⟩ := hL1.form; have X1 : Ext w2 y1 := Ext.trans (by with_reducible repeat (first | assumption | exact Ext.refl _ | apply Ext.alloc | apply Ext.drew | apply Ext.drewN)) E1; obtain ⟨l1, hl1⟩ : ∃ l1, a.l.length = l1 := ⟨_, rfl⟩; rw [hl1] at hlv; subst hlv; have HO1 : Hid (IsL y1 (fun _ => True) (.slice p1 l1 c1) a.l) := hL1.mono (fun _ _ _ => trivial); clear hL1 hcl hl1; unfold aggX)
     try go_wp2_with fail
     refine hK.out _ _ ?_ (fun hHeld1 => ?_)
     · (try dsimp only); (refine mkS.out _ ?_; ((with_reducible (repeat (first | assumption | exact Ext.refl _ | apply Ext.alloc | apply Ext.drew | apply Ext.drewN))); done))
     clear hK K hHeld0
     try simp only [Act.put, List.setIfInBounds_toArray, List.set_cons_zero, List.set_cons_succ]
     refine wpAnyH_ready (rs := [7]) (by kernel_rfl) (by simp) ?_
     refine AllReadyH.cons (o := ⟨some 24, .call { callee := .value (.func 14), args := #[.tmp 23], argTypes := #[26] }, 26, "law.go:41", #[⟨6, .data⟩, ⟨1, .chain⟩], none⟩) rfl (fun K hK => ?_) AllReadyH.nil
     go_simp
     (go_at_call 14; refine Calls.mono (OB.out _ (by with_reducible repeat (first | assumption | exact Ext.refl _ | apply Ext.alloc | apply Ext.drew | apply Ext.drewN))) ?_; rintro e y2 ⟨lv2, rfl, hL2, E2⟩; obtain ⟨p2, c2, hlv, hcl⟩ := hL2.form; have X2 : Ext w2 y2 := Ext.trans (by with_reducible repeat (first | assumption | exact Ext.refl _ | apply Ext.alloc | apply Ext.drew | apply Ext.drewN)) E2; obtain ⟨l2, hl2⟩ : ∃ l2, b.l.length = l2 := ⟨_, rfl⟩; rw [hl2] at hlv; subst hlv; have HO2 : Hid (IsL y2 (fun _ => True) (.slice p2 l2 c2) b.l) := hL2.mono (fun _ _ _ => trivial); clear hL2 hcl hl2; unfold aggX)
     try go_wp2_with fail
     refine hK.out _ _ ?_ (fun hHeld2 => ?_)
     · (try dsimp only); (refine mkS.out _ ?_; ((with_reducible (repeat (first | assumption | exact Ext.refl _ | apply Ext.alloc | apply Ext.drew | apply Ext.drewN))); done))
     clear hK K hHeld1
     try simp only [Act.put, List.setIfInBounds_toArray, List.set_cons_zero, List.set_cons_succ]
     refine wpAnyH_ready (rs := [12]) (by kernel_rfl) (by simp) ?_
     refine AllReadyH.cons (o := ⟨some 29, .call { callee := .value (.func 19), args := #[.tmp 18, .tmp 20, .tmp 22, .tmp 24, .tmp 26, .tmp 28], argTypes := #[26, 3, 3, 26, 3, 3] }, 4, "law.go:41", #[⟨1, .data⟩, ⟨3, .data⟩, ⟨5, .data⟩, ⟨7, .data⟩, ⟨9, .data⟩, ⟨11, .data⟩, ⟨7, .chain⟩], none⟩) rfl (fun K hK => ?_) AllReadyH.nil
     go_simp
     (go_at_call 19; refine Calls.mono (PAc.out _ p1 l1 c1 p2 l2 c2 (HO1.out.ext (by with_reducible repeat (first | assumption | exact Ext.refl _ | apply Ext.alloc | apply Ext.drew | apply Ext.drewN))) (HO2.out.ext (by with_reducible repeat (first | assumption | exact Ext.refl _ | apply Ext.alloc | apply Ext.drew | apply Ext.drewN)))) ?_; rintro e y3 ⟨rfl, E3⟩; have X3 : Ext w2 y3 := Ext.trans (by with_reducible repeat (first | assumption | exact Ext.refl _ | apply Ext.alloc | apply Ext.drew | apply Ext.drewN)) E3)
     try go_wp2_with fail
     refine hK.out _ _ ?_ (fun hHeld3 => ?_)
     · (try dsimp only); (refine mkS.out _ ?_; ((with_reducible (repeat (first | assumption | exact Ext.refl _ | apply Ext.alloc | apply Ext.drew | apply Ext.drewN))); done))
     clear hK K hHeld2
     try simp only [Act.put, List.setIfInBounds_toArray, List.set_cons_zero, List.set_cons_succ]
     refine wpAnyH_take (i := 13) (oi := ⟨some 7, .assign (.tmp 29), 4, "law.go:41", #[⟨12, .data⟩, ⟨12, .chain⟩, ⟨0, .phase⟩, ⟨1, .phase⟩, ⟨2, .phase⟩, ⟨3, .phase⟩, ⟨4, .phase⟩, ⟨5, .phase⟩, ⟨6, .phase⟩, ⟨7, .phase⟩, ⟨8, .phase⟩, ⟨9, .phase⟩, ⟨10, .phase⟩, ⟨11, .phase⟩, ⟨12, .phase⟩], none⟩) (v := ?_) rfl (by kernel_rfl) (by kernel_rfl) (by kernel_rfl) (fun _ _ _ h => h) (Or.inl ⟨by rfl, ?_⟩) (by assumption) ?_
     rotate_left
     · intro w hSw; (try dsimp only at hSw); first | (go_simp; done) | (go_simp; with_reducible rfl)
     try simp only [Act.put, List.setIfInBounds_toArray, List.set_cons_zero, List.set_cons_succ]
     refine wpAnyH_done (by kernel_rfl) ?_ _
     go_wp2_with fail
     refine wp_region_held_drew (S := (fun V => V.cell? ⟨w.heap.size, 0, none⟩ = some (.int .i64 a.k) ∧ V.cell? ⟨w.heap.size, 1, none⟩ = some (.int .i64 a.n) ∧ V.cell? ⟨w.heap.size, 2, none⟩ = some (.string (bs a.s)) ∧ V.cell? ⟨w.heap.size, 3, none⟩ = some (.int .i64 a.e) ∧ V.cell? ⟨w.heap.size, 4, none⟩ = some (.int .i64 a.r.1) ∧ V.cell? ⟨w.heap.size, 5, none⟩ = some (.int .i64 a.r.2.1) ∧ V.cell? ⟨w.heap.size, 6, none⟩ = some (.bool a.r.2.2.1) ∧ V.cell? ⟨w.heap.size, 7, none⟩ = some (.bool a.r.2.2.2) ∧ V.cell? ⟨w.heap.size, 8, none⟩ = some (.int .i64 a.q.1) ∧ V.cell? ⟨w.heap.size, 9, none⟩ = some (.int .i64 a.q.2.1) ∧ V.cell? ⟨w.heap.size, 10, none⟩ = some (.bool a.q.2.2.1) ∧ V.cell? ⟨w.heap.size, 11, none⟩ = some (.bool a.q.2.2.2) ∧ V.cell? ⟨w.heap.size, 12, none⟩ = some (.slice pp ln cl) ∧ V.cell? ⟨w.heap.size + 1, 0, none⟩ = some (.int .i64 b.k) ∧ V.cell? ⟨w.heap.size + 1, 1, none⟩ = some (.int .i64 b.n) ∧ V.cell? ⟨w.heap.size + 1, 2, none⟩ = some (.string (bs b.s)) ∧ V.cell? ⟨w.heap.size + 1, 3, none⟩ = some (.int .i64 b.e) ∧ V.cell? ⟨w.heap.size + 1, 4, none⟩ = some (.int .i64 b.r.1) ∧ V.cell? ⟨w.heap.size + 1, 5, none⟩ = some (.int .i64 b.r.2.1) ∧ V.cell? ⟨w.heap.size + 1, 6, none⟩ = some (.bool b.r.2.2.1) ∧ V.cell? ⟨w.heap.size + 1, 7, none⟩ = some (.bool b.r.2.2.2) ∧ V.cell? ⟨w.heap.size + 1, 8, none⟩ = some (.int .i64 b.q.1) ∧ V.cell? ⟨w.heap.size + 1, 9, none⟩ = some (.int .i64 b.q.2.1) ∧ V.cell? ⟨w.heap.size + 1, 10, none⟩ = some (.bool b.q.2.2.1) ∧ V.cell? ⟨w.heap.size + 1, 11, none⟩ = some (.bool b.q.2.2.2) ∧ V.cell? ⟨w.heap.size + 1, 12, none⟩ = some (.slice qq lm cm) ∧ V.cell? ⟨w.heap.size + 1 + 1, 0, none⟩ = some (.int .i64 o0) ∧ V.cell? ⟨w.heap.size + 1 + 1, 1, none⟩ = some (.int .i64 o1) ∧ V.cell? ⟨w.heap.size + 1 + 1, 2, none⟩ = some (.int .i64 o2) ∧ V.cell? ⟨w.heap.size + 1 + 1, 3, none⟩ = some (.int .i64 o3))) (by kernel_rfl) ?_ (fun hHeld0 => ?_)
     · (refine mkS.out _ ?_; ((with_reducible (repeat (first | assumption | exact Ext.refl _ | apply Ext.alloc | apply Ext.drew | apply Ext.drewN))); done))
     refine wpAnyH_take (i := 0) (oi := ⟨some 30, .move (.tmp 7), 4, "law.go:42", #[], none⟩) (v := ?_) rfl (by kernel_rfl) (by kernel_rfl) (by kernel_rfl) (fun _ _ _ h => h) (Or.inl ⟨by rfl, ?_⟩) (by assumption) ?_
     rotate_left
     · intro w hSw; (try dsimp only at hSw); first | (go_simp; done) | (go_simp; with_reducible rfl)
     try simp only [Act.put, List.setIfInBounds_toArray, List.set_cons_zero, List.set_cons_succ]
     refine wpAnyH_take (i := 1) (oi := ⟨some 31, .load 26 (.tmp 3), 26, "law.go:42", #[], none⟩) (v := ?_) rfl (by kernel_rfl) (by kernel_rfl) (by kernel_rfl) (fun _ _ _ h => h) (Or.inl ⟨by rfl, ?_⟩) (by assumption) ?_
     rotate_left
     · intro w hSw; (try dsimp only at hSw); first | (go_simp; done) | (go_simp; with_reducible rfl)
     try simp only [Act.put, List.setIfInBounds_toArray, List.set_cons_zero, List.set_cons_succ]
     refine wpAnyH_take (i := 2) (oi := ⟨some 32, .fieldAddr 28 (.tmp 5) 0, 0, "law.go:42", #[], none⟩) (v := ?_) rfl (by kernel_rfl) (by kernel_rfl) (by kernel_rfl) (fun _ _ _ h => h) (Or.inl ⟨by rfl, ?_⟩) (by assumption) ?_
     rotate_left
     · intro w hSw; (try dsimp only at hSw); first | (go_simp; done) | (go_simp; with_reducible rfl)
     try simp only [Act.put, List.setIfInBounds_toArray, List.set_cons_zero, List.set_cons_succ]
     refine wpAnyH_take (i := 3) (oi := ⟨some 33, .load 3 (.tmp 32), 3, "law.go:42", #[⟨2, .data⟩], none⟩) (v := ?_) rfl (by kernel_rfl) (by kernel_rfl) (by kernel_rfl) (fun _ _ _ h => h) (Or.inl ⟨by rfl, ?_⟩) (by assumption) ?_
     rotate_left
     · intro w hSw; (try dsimp only at hSw); first | (go_simp; done) | (go_simp; with_reducible rfl)
     try simp only [Act.put, List.setIfInBounds_toArray, List.set_cons_zero, List.set_cons_succ]
     refine wpAnyH_take (i := 4) (oi := ⟨some 34, .fieldAddr 28 (.tmp 5) 1, 0, "law.go:42", #[], none⟩) (v := ?_) rfl (by kernel_rfl) (by kernel_rfl) (by kernel_rfl) (fun _ _ _ h => h) (Or.inl ⟨by rfl, ?_⟩) (by assumption) ?_
     rotate_left
     · intro w hSw; (try dsimp only at hSw); first | (go_simp; done) | (go_simp; with_reducible rfl)
     try simp only [Act.put, List.setIfInBounds_toArray, List.set_cons_zero, List.set_cons_succ]
     refine wpAnyH_take (i := 5) (oi := ⟨some 35, .load 3 (.tmp 34), 3, "law.go:42", #[⟨4, .data⟩], none⟩) (v := ?_) rfl (by kernel_rfl) (by kernel_rfl) (by kernel_rfl) (fun _ _ _ h => h) (Or.inl ⟨by rfl, ?_⟩) (by assumption) ?_
     rotate_left
     · intro w hSw; (try dsimp only at hSw); first | (go_simp; done) | (go_simp; with_reducible rfl)
     try simp only [Act.put, List.setIfInBounds_toArray, List.set_cons_zero, List.set_cons_succ]
     refine wpAnyH_take (i := 6) (oi := ⟨some 36, .load 26 (.tmp 4), 26, "law.go:42", #[], none⟩) (v := ?_) rfl (by kernel_rfl) (by kernel_rfl) (by kernel_rfl) (fun _ _ _ h => h) (Or.inl ⟨by rfl, ?_⟩) (by assumption) ?_
     rotate_left
     · intro w hSw; (try dsimp only at hSw); first | (go_simp; done) | (go_simp; with_reducible rfl)
     try simp only [Act.put, List.setIfInBounds_toArray, List.set_cons_zero, List.set_cons_succ]
     refine wpAnyH_take (i := 7) (oi := ⟨some 37, .fieldAddr 28 (.tmp 5) 2, 0, "law.go:42", #[], none⟩) (v := ?_) rfl (by kernel_rfl) (by kernel_rfl) (by kernel_rfl) (fun _ _ _ h => h) (Or.inl ⟨by rfl, ?_⟩) (by assumption) ?_
     rotate_left
     · intro w hSw; (try dsimp only at hSw); first | (go_simp; done) | (go_simp; with_reducible rfl)
     try simp only [Act.put, List.setIfInBounds_toArray, List.set_cons_zero, List.set_cons_succ]
     refine wpAnyH_take (i := 8) (oi := ⟨some 38, .load 3 (.tmp 37), 3, "law.go:42", #[⟨7, .data⟩], none⟩) (v := ?_) rfl (by kernel_rfl) (by kernel_rfl) (by kernel_rfl) (fun _ _ _ h => h) (Or.inl ⟨by rfl, ?_⟩) (by assumption) ?_
     rotate_left
     · intro w hSw; (try dsimp only at hSw); first | (go_simp; done) | (go_simp; with_reducible rfl)
     try simp only [Act.put, List.setIfInBounds_toArray, List.set_cons_zero, List.set_cons_succ]
     refine wpAnyH_take (i := 9) (oi := ⟨some 39, .fieldAddr 28 (.tmp 5) 3, 0, "law.go:42", #[], none⟩) (v := ?_) rfl (by kernel_rfl) (by kernel_rfl) (by kernel_rfl) (fun _ _ _ h => h) (Or.inl ⟨by rfl, ?_⟩) (by assumption) ?_
     rotate_left
     · intro w hSw; (try dsimp only at hSw); first | (go_simp; done) | (go_simp; with_reducible rfl)
     try simp only [Act.put, List.setIfInBounds_toArray, List.set_cons_zero, List.set_cons_succ]
     refine wpAnyH_take (i := 10) (oi := ⟨some 40, .load 3 (.tmp 39), 3, "law.go:42", #[⟨9, .data⟩], none⟩) (v := ?_) rfl (by kernel_rfl) (by kernel_rfl) (by kernel_rfl) (fun _ _ _ h => h) (Or.inl ⟨by rfl, ?_⟩) (by assumption) ?_
     rotate_left
     · intro w hSw; (try dsimp only at hSw); first | (go_simp; done) | (go_simp; with_reducible rfl)
     try simp only [Act.put, List.setIfInBounds_toArray, List.set_cons_zero, List.set_cons_succ]
     refine wpAnyH_ready (rs := [11]) (by kernel_rfl) (by simp) ?_
     refine AllReadyH.cons (o := ⟨some 41, .call { callee := .value (.func 20), args := #[.tmp 31, .tmp 33, .tmp 35, .tmp 36, .tmp 38, .tmp 40], argTypes := #[26, 3, 3, 26, 3, 3] }, 4, "law.go:42", #[⟨1, .data⟩, ⟨3, .data⟩, ⟨5, .data⟩, ⟨6, .data⟩, ⟨8, .data⟩, ⟨10, .data⟩], none⟩) rfl (fun K hK => ?_) AllReadyH.nil
     go_simp
     (go_at_call 20; refine Calls.mono (RAc.out _ (by with_reducible repeat (first | assumption | exact Ext.refl _ | apply Ext.alloc | apply Ext.drew | apply Ext.drewN))) ?_; rintro e y4 ⟨rfl, E4⟩; have X4 : Ext w2 y4 := Ext.trans (by with_reducible repeat (first | assumption | exact Ext.refl _ | apply Ext.alloc | apply Ext.drew | apply Ext.drewN)) E4)
     try go_wp2_with fail
     refine hK.out _ _ ?_ (fun hHeld1 => ?_)
     · (try dsimp only); (refine mkS.out _ ?_; ((with_reducible (repeat (first | assumption | exact Ext.refl _ | apply Ext.alloc | apply Ext.drew | apply Ext.drewN))); done))
     clear hK K hHeld0
     try simp only [Act.put, List.setIfInBounds_toArray, List.set_cons_zero, List.set_cons_succ]
     refine wpAnyH_take (i := 12) (oi := ⟨some 42, .binOp .eql 4 (.tmp 30) (.tmp 41) 4, 4, "law.go:42", #[⟨0, .data⟩, ⟨11, .data⟩], none⟩) (v := ?_) rfl (by kernel_rfl) (by kernel_rfl) (by kernel_rfl) (fun _ _ _ h => h) (Or.inl ⟨by rfl, ?_⟩) (by assumption) ?_
     rotate_left
     · intro w hSw; (try dsimp only at hSw); first | (go_simp; done) | (go_simp; with_reducible rfl)
     try simp only [Act.put, List.setIfInBounds_toArray, List.set_cons_zero, List.set_cons_succ]
     refine wpAnyH_take (i := 13) (oi := ⟨some 43, .move (.tmp 42), 4, "law.go:42", #[⟨12, .data⟩, ⟨11, .chain⟩], none⟩) (v := ?_) rfl (by kernel_rfl) (by kernel_rfl) (by kernel_rfl) (fun _ _ _ h => h) (Or.inl ⟨by rfl, ?_⟩) (by assumption) ?_
     rotate_left
     · intro w hSw; (try dsimp only at hSw); first | (go_simp; done) | (go_simp; with_reducible rfl)
     try simp only [Act.put, List.setIfInBounds_toArray, List.set_cons_zero, List.set_cons_succ]
     refine wpAnyH_take (i := 14) (oi := ⟨some 44, .load 26 (.tmp 3), 26, "law.go:42", #[⟨13, .guard⟩], some (13, true)⟩) (v := ?_) rfl (by kernel_rfl) (by kernel_rfl) (by kernel_rfl) (fun _ _ _ h => h) (Or.inl ⟨by rfl, ?_⟩) (by assumption) ?_
     rotate_left
     · intro w hSw; (try dsimp only at hSw); first | (go_simp; done) | (go_simp; with_reducible rfl)
     try simp only [Act.put, List.setIfInBounds_toArray, List.set_cons_zero, List.set_cons_succ]
     refine wpAnyH_take (i := 15) (oi := ⟨some 45, .fieldAddr 28 (.tmp 5) 0, 0, "law.go:42", #[⟨13, .guard⟩], some (13, true)⟩) (v := ?_) rfl (by kernel_rfl) (by kernel_rfl) (by kernel_rfl) (fun _ _ _ h => h) (Or.inl ⟨by rfl, ?_⟩) (by assumption) ?_
     rotate_left
     · intro w hSw; (try dsimp only at hSw); first | (go_simp; done) | (go_simp; with_reducible rfl)
     try simp only [Act.put, List.setIfInBounds_toArray, List.set_cons_zero, List.set_cons_succ]
     refine wpAnyH_take (i := 16) (oi := ⟨some 46, .load 3 (.tmp 45), 3, "law.go:42", #[⟨15, .data⟩, ⟨13, .guard⟩], some (13, true)⟩) (v := ?_) rfl (by kernel_rfl) (by kernel_rfl) (by kernel_rfl) (fun _ _ _ h => h) (Or.inl ⟨by rfl, ?_⟩) (by assumption) ?_
     rotate_left
     · intro w hSw; (try dsimp only at hSw); first | (go_simp; done) | (go_simp; with_reducible rfl)
     try simp only [Act.put, List.setIfInBounds_toArray, List.set_cons_zero, List.set_cons_succ]
     refine wpAnyH_take (i := 17) (oi := ⟨some 47, .fieldAddr 28 (.tmp 5) 1, 0, "law.go:42", #[⟨13, .guard⟩], some (13, true)⟩) (v := ?_) rfl (by kernel_rfl) (by kernel_rfl) (by kernel_rfl) (fun _ _ _ h => h) (Or.inl ⟨by rfl, ?_⟩) (by assumption) ?_
     rotate_left
     · intro w hSw; (try dsimp only at hSw); first | (go_simp; done) | (go_simp; with_reducible rfl)
     try simp only [Act.put, List.setIfInBounds_toArray, List.set_cons_zero, List.set_cons_succ]
     refine wpAnyH_take (i := 18) (oi := ⟨some 48, .load 3 (.tmp 47), 3, "law.go:42", #[⟨17, .data⟩, ⟨13, .guard⟩], some (13, true)⟩) (v := ?_) rfl (by kernel_rfl) (by kernel_rfl) (by kernel_rfl) (fun _ _ _ h => h) (Or.inl ⟨by rfl, ?_⟩) (by assumption) ?_
     rotate_left
     · intro w hSw; (try dsimp only at hSw); first | (go_simp; done) | (go_simp; with_reducible rfl)
     try simp only [Act.put, List.setIfInBounds_toArray, List.set_cons_zero, List.set_cons_succ]
     refine wpAnyH_take (i := 19) (oi := ⟨some 49, .load 26 (.tmp 3), 26, "law.go:42", #[⟨13, .guard⟩], some (13, true)⟩) (v := ?_) rfl (by kernel_rfl) (by kernel_rfl) (by kernel_rfl) (fun _ _ _ h => h) (Or.inl ⟨by rfl, ?_⟩) (by assumption) ?_
     rotate_left
     · intro w hSw; (try dsimp only at hSw); first | (go_simp; done) | (go_simp; with_reducible rfl)
     try simp only [Act.put, List.setIfInBounds_toArray, List.set_cons_zero, List.set_cons_succ]
     refine wpAnyH_take (i := 21) (oi := ⟨some 51, .fieldAddr 28 (.tmp 5) 0, 0, "law.go:42", #[⟨13, .guard⟩], some (13, true)⟩) (v := ?_) rfl (by kernel_rfl) (by kernel_rfl) (by kernel_rfl) (fun _ _ _ h => h) (Or.inl ⟨by rfl, ?_⟩) (by assumption) ?_
     rotate_left
     · intro w hSw; (try dsimp only at hSw); first | (go_simp; done) | (go_simp; with_reducible rfl)
     try simp only [Act.put, List.setIfInBounds_toArray, List.set_cons_zero, List.set_cons_succ]
     refine wpAnyH_take (i := 22) (oi := ⟨some 52, .load 3 (.tmp 51), 3, "law.go:42", #[⟨21, .data⟩, ⟨13, .guard⟩], some (13, true)⟩) (v := ?_) rfl (by kernel_rfl) (by kernel_rfl) (by kernel_rfl) (fun _ _ _ h => h) (Or.inl ⟨by rfl, ?_⟩) (by assumption) ?_
     rotate_left
     · intro w hSw; (try dsimp only at hSw); first | (go_simp; done) | (go_simp; with_reducible rfl)
     try simp only [Act.put, List.setIfInBounds_toArray, List.set_cons_zero, List.set_cons_succ]
     refine wpAnyH_take (i := 23) (oi := ⟨some 53, .fieldAddr 28 (.tmp 5) 1, 0, "law.go:42", #[⟨13, .guard⟩], some (13, true)⟩) (v := ?_) rfl (by kernel_rfl) (by kernel_rfl) (by kernel_rfl) (fun _ _ _ h => h) (Or.inl ⟨by rfl, ?_⟩) (by assumption) ?_
     rotate_left
     · intro w hSw; (try dsimp only at hSw); first | (go_simp; done) | (go_simp; with_reducible rfl)
     try simp only [Act.put, List.setIfInBounds_toArray, List.set_cons_zero, List.set_cons_succ]
     refine wpAnyH_take (i := 24) (oi := ⟨some 54, .load 3 (.tmp 53), 3, "law.go:42", #[⟨23, .data⟩, ⟨13, .guard⟩], some (13, true)⟩) (v := ?_) rfl (by kernel_rfl) (by kernel_rfl) (by kernel_rfl) (fun _ _ _ h => h) (Or.inl ⟨by rfl, ?_⟩) (by assumption) ?_
     rotate_left
     · intro w hSw; (try dsimp only at hSw); first | (go_simp; done) | (go_simp; with_reducible rfl)
     try simp only [Act.put, List.setIfInBounds_toArray, List.set_cons_zero, List.set_cons_succ]
     refine wpAnyH_ready (rs := [20]) (by kernel_rfl) (by simp) ?_
     refine AllReadyH.cons (o := ⟨some 50, .call { callee := .value (.func 14), args := #[.tmp 49], argTypes := #[26] }, 26, "law.go:42", #[⟨19, .data⟩, ⟨13, .chain⟩, ⟨13, .guard⟩], some (13, true)⟩) rfl (fun K hK => ?_) AllReadyH.nil
     go_simp
     (go_at_call 14; refine Calls.mono (OA.out _ (by with_reducible repeat (first | assumption | exact Ext.refl _ | apply Ext.alloc | apply Ext.drew | apply Ext.drewN))) ?_; rintro e y5 ⟨lv5, rfl, hL5, E5⟩; obtain ⟨p5, c5, hlv, hcl⟩ := hL5.form; have X5 : Ext w2 y5 := Ext.trans (by with_reducible repeat (first | assumption | exact Ext.refl _ | apply Ext.alloc | apply Ext.drew | apply Ext.drewN)) E5; obtain ⟨l5, hl5⟩ : ∃ l5, a.l.length = l5 := ⟨_, rfl⟩; rw [hl5] at hlv; subst hlv; have HO5 : Hid (IsL y5 (fun _ => True) (.slice p5 l5 c5) a.l) := hL5.mono (fun _ _ _ => trivial); clear hL5 hcl hl5; unfold aggX)
     try go_wp2_with fail
     refine hK.out _ _ ?_ (fun hHeld2 => ?_)
     · (try dsimp only); (refine mkS.out _ ?_; ((with_reducible (repeat (first | assumption | exact Ext.refl _ | apply Ext.alloc | apply Ext.drew | apply Ext.drewN))); done))
     clear hK K hHeld1
     try simp only [Act.put, List.setIfInBounds_toArray, List.set_cons_zero, List.set_cons_succ]
     refine wpAnyH_ready (rs := [25]) (by kernel_rfl) (by simp) ?_
     refine AllReadyH.cons (o := ⟨some 55, .call { callee := .value (.func 19), args := #[.tmp 44, .tmp 46, .tmp 48, .tmp 50, .tmp 52, .tmp 54], argTypes := #[26, 3, 3, 26, 3, 3] }, 4, "law.go:42", #[⟨14, .data⟩, ⟨16, .data⟩, ⟨18, .data⟩, ⟨20, .data⟩, ⟨22, .data⟩, ⟨24, .data⟩, ⟨20, .chain⟩, ⟨13, .guard⟩], some (13, true)⟩) rfl (fun K hK => ?_) AllReadyH.nil
     go_simp
     (go_at_call 19; refine Calls.mono (PAs.out _ p5 l5 c5 (by with_reducible repeat (first | assumption | exact Ext.refl _ | apply Ext.alloc | apply Ext.drew | apply Ext.drewN)) (HO5.out.ext (by with_reducible repeat (first | assumption | exact Ext.refl _ | apply Ext.alloc | apply Ext.drew | apply Ext.drewN)))) ?_; rintro e y6 ⟨rfl, E6⟩; have X6 : Ext w2 y6 := Ext.trans (by with_reducible repeat (first | assumption | exact Ext.refl _ | apply Ext.alloc | apply Ext.drew | apply Ext.drewN)) E6)
     try go_wp2_with fail
     refine hK.out _ _ ?_ (fun hHeld3 => ?_)
     · (try dsimp only); (refine mkS.out _ ?_; ((with_reducible (repeat (first | assumption | exact Ext.refl _ | apply Ext.alloc | apply Ext.drew | apply Ext.drewN))); done))
     clear hK K hHeld2
     try simp only [Act.put, List.setIfInBounds_toArray, List.set_cons_zero, List.set_cons_succ]
     refine wpAnyH_take (i := 26) (oi := ⟨some 56, .pick (.tmp 43) (.tmp 55) (.const (.bool false)), 4, "law.go:42", #[⟨13, .data⟩, ⟨25, .data⟩], none⟩) (v := ?_) rfl (by kernel_rfl) (by kernel_rfl) (by kernel_rfl) (fun _ _ _ h => h) (Or.inl ⟨by rfl, ?_⟩) (by assumption) ?_
     rotate_left
     · intro w hSw; (try dsimp only at hSw); first | (go_simp; done) | (go_simp; with_reducible rfl)
     try simp only [Act.put, List.setIfInBounds_toArray, List.set_cons_zero, List.set_cons_succ]
     refine wpAnyH_take (i := 27) (oi := ⟨some 57, .move (.tmp 56), 4, "law.go:42", #[⟨26, .data⟩, ⟨25, .chain⟩], none⟩) (v := ?_) rfl (by kernel_rfl) (by kernel_rfl) (by kernel_rfl) (fun _ _ _ h => h) (Or.inl ⟨by rfl, ?_⟩) (by assumption) ?_
     rotate_left
     · intro w hSw; (try dsimp only at hSw); first | (go_simp; done) | (go_simp; with_reducible rfl)
     try simp only [Act.put, List.setIfInBounds_toArray, List.set_cons_zero, List.set_cons_succ]
     refine wpAnyH_ready (rs := [28]) (by kernel_rfl) (by simp) ?_
     refine AllReadyH.cons (o := ⟨some 58, .call { callee := .value (.func 12), args := #[], argTypes := #[] }, 4, "law.go:42", #[⟨27, .chain⟩, ⟨27, .guard⟩], some (27, true)⟩) rfl (fun K hK => ?_) AllReadyH.nil
     go_simp
     (go_at_call 12; refine Calls.mono (lives10_any _) ?_; rintro e y7 ⟨rfl, E7⟩; have X7 : Ext w2 y7 := Ext.trans (by with_reducible repeat (first | assumption | exact Ext.refl _ | apply Ext.alloc | apply Ext.drew | apply Ext.drewN)) E7)
     try go_wp2_with fail
     refine hK.out _ _ ?_ (fun hHeld4 => ?_)
     · (try dsimp only); (refine mkS.out _ ?_; ((with_reducible (repeat (first | assumption | exact Ext.refl _ | apply Ext.alloc | apply Ext.drew | apply Ext.drewN))); done))
     clear hK K hHeld3
     try simp only [Act.put, List.setIfInBounds_toArray, List.set_cons_zero, List.set_cons_succ]
     refine wpAnyH_take (i := 29) (oi := ⟨some 59, .pick (.tmp 57) (.tmp 58) (.const (.bool false)), 4, "law.go:42", #[⟨27, .data⟩, ⟨28, .data⟩], none⟩) (v := ?_) rfl (by kernel_rfl) (by kernel_rfl) (by kernel_rfl) (fun _ _ _ h => h) (Or.inl ⟨by rfl, ?_⟩) (by assumption) ?_
     rotate_left
     · intro w hSw; (try dsimp only at hSw); first | (go_simp; done) | (go_simp; with_reducible rfl)
     try simp only [Act.put, List.setIfInBounds_toArray, List.set_cons_zero, List.set_cons_succ]
     refine wpAnyH_take (i := 30) (oi := ⟨some 6, .assign (.tmp 59), 4, "law.go:42", #[⟨29, .data⟩, ⟨28, .chain⟩, ⟨0, .phase⟩, ⟨1, .phase⟩, ⟨2, .phase⟩, ⟨3, .phase⟩, ⟨4, .phase⟩, ⟨5, .phase⟩, ⟨6, .phase⟩, ⟨7, .phase⟩, ⟨8, .phase⟩, ⟨9, .phase⟩, ⟨10, .phase⟩, ⟨11, .phase⟩, ⟨12, .phase⟩, ⟨13, .phase⟩, ⟨14, .phase⟩, ⟨15, .phase⟩, ⟨16, .phase⟩, ⟨17, .phase⟩, ⟨18, .phase⟩, ⟨19, .phase⟩, ⟨20, .phase⟩, ⟨21, .phase⟩, ⟨22, .phase⟩, ⟨23, .phase⟩, ⟨24, .phase⟩, ⟨25, .phase⟩, ⟨26, .phase⟩, ⟨27, .phase⟩, ⟨28, .phase⟩, ⟨29, .phase⟩], none⟩) (v := ?_) rfl (by kernel_rfl) (by kernel_rfl) (by kernel_rfl) (fun _ _ _ h => h) (Or.inl ⟨by rfl, ?_⟩) (by assumption) ?_
     rotate_left
     · intro w hSw; (try dsimp only at hSw); first | (go_simp; done) | (go_simp; with_reducible rfl)
     try simp only [Act.put, List.setIfInBounds_toArray, List.set_cons_zero, List.set_cons_succ]
     refine wpAnyH_done (by kernel_rfl) ?_ _
     go_wp2_with fail
     go_ret
     exact ⟨rfl, HE2.out.1.trans (by assumption)⟩

theorem laidOut : laidOutB Try.prog = true := by kernel_rfl
theorem cells_three : Try.prog.cellsOf 28 = 4 := by kernel_rfl
set_option maxRecDepth 100000 in
theorem lifted (os : Os) (started : os.Started) (H : Type) (enc : TypeId × Value → H) :
   ReturnsInHanded {} Try.checked os 4 .any (Rows.relAlikeSpec.pre6 enc Try.prog Try.f4 Rows.relAlikeRow.domain false) (Rows.relAlikeSpec.post enc Try.prog Try.f4 false true false false) := by
 refine returnsInHanded_of_change (C := Try.checked) own started (by kernel_rfl) Try.func4
   (ChangeSpec.witness6 (enc := enc) (C := Try.checked) false ⟨#[], #[.agg #[.int .i64 0, .int .i64 0, .string ⟨#[]⟩, .int .i64 0, .int .i64 0, .int .i64 0, .bool false, .bool false, .int .i64 0, .int .i64 0, .bool false, .bool false, .slice none 0 0], .agg #[.int .i64 0, .int .i64 0, .string ⟨#[]⟩, .int .i64 0, .int .i64 0, .int .i64 0, .bool false, .bool false, .int .i64 0, .int .i64 0, .bool false, .bool false, .slice none 0 0], .agg #[.int .i64 0, .int .i64 0, .int .i64 0, .int .i64 0]], []⟩ 8 (by kernel_rfl) (by kernel_rfl) (by kernel_rfl) (by kernel_rfl)) ?_
 intro W base args ds gs before hval0 hW hcnd _
 have hval : ∀ (j : Nat) t v, Try.f4.params[j]? = some t → args[j]? = some v → Value.okWide Try.prog W .any base t v := hval0
 have hW' := hW
 obtain ⟨p, q, hA0, hV, rfl, hfz, hnd⟩ := hW
 have hA : DataW.TrodAll enc Try.prog W 0 (fun _ => true) true Try.f4.params.toList args.toList ds p := hA0
 rw [Try.params4] at hA hval
 obtain ⟨v0, vs0, d0, ds0, p0, q0, hargs, rfl, rfl, h0, r0⟩ := trodAll_cons hA
 obtain ⟨v1, vs1, d1, ds1, p1, q1, rfl, rfl, rfl, h1, r1⟩ := trodAll_cons r0
 obtain ⟨v2, vs2, d2, ds2, p2, q2, rfl, rfl, rfl, h2, r2⟩ := trodAll_cons r1
 obtain ⟨rfl, rfl, rfl⟩ := trodAll_nil r2
 obtain rfl : args = #[v0, v1, v2] := by cases args; simp_all
 obtain ⟨rfl, rfl⟩ := trodVars_none hV
 have j0 := h0
 have lt0 : ∀ x ∈ p0, x.block < W.heap.size := by obtain ⟨m, hm⟩ := j0; exact DataW.trod_lt m _ _ _ hm
 obtain ⟨cs0, rfl, _⟩ := okWide_struct Try.underlying26 (hval 0 26 v0 rfl rfl)
 obtain ⟨fu0, hf0⟩ := h0
 obtain ⟨T0, lv0, hcs0, hLI0, wT0⟩ := open_exp fu0 _ _ hf0
 obtain ⟨pp0, cl0, hlv0, _⟩ := hLI0.form
 obtain ⟨ln0, hln0⟩ : ∃ ln, T0.l.length = ln := ⟨_, rfl⟩
 rw [hln0] at hlv0
 subst hlv0
 obtain rfl : cs0 = (cellsT T0 (.slice pp0 ln0 cl0)).toArray := by rw [← hcs0]; simp [Value.cells]
 have j1 := h1
 have lt1 : ∀ x ∈ p1, x.block < W.heap.size := by obtain ⟨m, hm⟩ := j1; exact DataW.trod_lt m _ _ _ hm
 obtain ⟨cs1, rfl, _⟩ := okWide_struct Try.underlying26 (hval 1 26 v1 rfl rfl)
 obtain ⟨fu1, hf1⟩ := h1
 obtain ⟨T1, lv1, hcs1, hLI1, wT1⟩ := open_exp fu1 _ _ hf1
 obtain ⟨pp1, cl1, hlv1, _⟩ := hLI1.form
 obtain ⟨ln1, hln1⟩ : ∃ ln, T1.l.length = ln := ⟨_, rfl⟩
 rw [hln1] at hlv1
 subst hlv1
 obtain rfl : cs1 = (cellsT T1 (.slice pp1 ln1 cl1)).toArray := by rw [← hcs1]; simp [Value.cells]
 have j2 := h2
 have lt2 : ∀ x ∈ p2, x.block < W.heap.size := by obtain ⟨m, hm⟩ := j2; exact DataW.trod_lt m _ _ _ hm
 obtain ⟨cc0, cc1, cc2, cc3, yy0, yy1, yy2, yy3, m2, rfl, hd2, hp2, hy0, hy1, hy2, hy3⟩ := open_agg4 Try.underlying28 (by kernel_rfl) cells_three (hval 2 28 v2 rfl rfl) h2
 obtain ⟨Lp2, f0, _, wLp2⟩ := DataW.trod_int Try.underlying3 hy0
 obtain ⟨Lq2, f1, _, wLq2⟩ := DataW.trod_int Try.underlying3 hy1
 obtain ⟨Lu2, f2, _, wLu2⟩ := DataW.trod_int Try.underlying3 hy2
 obtain ⟨Lv2, f3, _, wLv2⟩ := DataW.trod_int Try.underlying3 hy3
 simp only [List.cons.injEq, and_true] at f0 f1 f2 f3
 obtain rfl := f0
 obtain rfl := f1
 obtain rfl := f2
 obtain rfl := f3
 clear hA0 hval0
 refine (walk T0 pp0 ln0 cl0 T1 pp1 ln1 cl1 Lp2 Lq2 Lu2 Lv2 wT0 hLI0 wT1 hLI1 wLp2 wLq2 wLu2 wLv2).mono fun e W' ⟨he, bel⟩ => ?_
 subst he
 exact ⟨_, rfl, _, _, _, [], _, [], hW', trodAll_mk1 (shut_bool Try.underlying4 _), (trodAll_cons_mk (Below.trod laidOut (by kernel_rfl) (of_decide_eq_true (by kernel_rfl)) j0 bel lt0) (trodAll_cons_mk (Below.trod laidOut (by kernel_rfl) (of_decide_eq_true (by kernel_rfl)) j1 bel lt1) (trodAll_cons_mk (Below.trod laidOut (by kernel_rfl) (of_decide_eq_true (by kernel_rfl)) j2 bel lt2) trodAll_mk0))), rfl, Below.frame bel _, fun h => by cases h⟩

theorem over : Rows.relAlikeRow.holds Try.pinned (OpenSpec.ofChange Rows.relAlikeSpec) :=
 OpenClaim.holds_of_wide 4 Try.f4 rfl rfl rfl rfl rfl rfl rfl ⟨rfl, rfl, rfl, rfl, rfl⟩ rfl rfl rfl rfl rfl (by kernel_rfl) Try.func4 (by kernel_rfl)
   (of_decide_eq_true (by kernel_rfl)) (by unfold Func.isWrapper; first | (rw [if_pos (by decide +kernel)]; kernel_rfl) | (rw [if_neg (by decide +kernel)]; exact ⟨rfl, rfl⟩))
   (fun os started H enc _ => lifted os started H enc)

theorem proved : Rows.RelAlikeSaid := over
end Go.Proofs.Ytcggiljlilbdfaa.relAlike
namespace Go.Proofs.Ytcggiljlilbdfaa
theorem relAlike_holds : Rows.RelAlikeSaid := relAlike.proved
end Go.Proofs.Ytcggiljlilbdfaa
