/-
 MoveBack is proved: for every tree (without a ring) and every uint16 the call returns true and the arguments read as they did. No condition but the form's own reach.
-/
import Derived.Test.YtcggiljlilbdfaaU43
import Derived.Test.YtcggiljlilbdfaaU47
import Derived.Test.YtcggiljlilbdfaaU48
import Derived.Test.YtcggiljlilbdfaaU14
import Derived.Test.YtcggiljlilbdfaaU18
import Derived.Test.YtcggiljlilbdfaaU45
import Derived.Test.YtcggiljlilbdfaaRows
import Derived.ProofKit
import Derived.OpenShut
import Derived.ChangeOld
import Derived.SizedLaws
import Derived.Lib.SmallJoins
namespace Go.Proofs.Ytcggiljlilbdfaa.moveBack
open Go.ChangeShapes Go.WideShapes Go.ChangeAt Go.RowKit Go.Joins
set_option maxHeartbeats 6000000
set_option maxRecDepth 100000

theorem own : ownKnob Try.prog.godebug = none := by kernel_rfl
theorem small_law (t : T) (pp : Option Addr) (ln cl : Nat) (w : World) (hL : IsL w (fun _ => True) (.slice pp ln cl) t.l) :
   Calls Try.prog 32 #[.agg #[.int .i64 t.k, .int .i64 t.n, .string (bs t.s), .int .i64 t.e, .int .i64 t.r.1, .int .i64 t.r.2.1, .bool t.r.2.2.1, .bool t.r.2.2.2, .int .i64 t.q.1, .int .i64 t.q.2.1, .bool t.q.2.2.1, .bool t.q.2.2.2, .slice pp ln cl]] w fun e w' => ∃ ok, e = .returned (.bool ok) ∧ Ext w w' ∧ (ok = true → Hr 401 t ∧ szT 401 t ≤ 1000) := by
 have c1 := fun W h => small_any 401 (Nat.le_refl _) t W (fun _ => True) pp ln cl 1000 (by decide) (by decide) h
 rw [show (401 : Int) - ((401 : Nat) : Int) = 0 from rfl] at c1
 have HI : Hid (IsL w (fun _ => True) (.slice pp ln cl) t.l) := hL
 clear hL
 go_enter Try.func32, Try.ntmps32
 go_wp2_with fail
 refine (c1 _ (HI.out.ext ((Ext.refl _).alloc _))).mono ?_
 rintro e w1 ⟨m, ok, rfl, E1, h1, h2, h3, hok⟩
 have HR : Hid (Ext w w1 ∧ (ok = true → m = szT 401 t ∧ Hr 401 t ∧ m ≤ max 1000 1)) := ⟨((Ext.refl _).alloc _).trans E1, hok⟩
 clear hok E1 h3
 go_wp2_with fail
 go_ret
 refine ⟨ok, rfl, HR.out.1, fun h => ?_⟩
 obtain ⟨q1, q2, q3⟩ := HR.out.2 h
 exact ⟨q2, by omega⟩
theorem walk (t : T) (pp : Option Addr) (ln cl : Nat) (a : Int) (_hW : Wf t) {w : World} (hL : IsL w (fun _ => True) (.slice pp ln cl) t.l) (hA : (Lit.int .u16 a).wf = true) :
   Calls Try.prog 10 #[.agg #[.int .i64 t.k, .int .i64 t.n, .string (bs t.s), .int .i64 t.e, .int .i64 t.r.1, .int .i64 t.r.2.1, .bool t.r.2.2.1, .bool t.r.2.2.2, .int .i64 t.q.1, .int .i64 t.q.2.1, .bool t.q.2.2.1, .bool t.q.2.2.2, .slice pp ln cl], .int .u16 a] w fun e w' => e = .returned (.bool true) ∧ Ext w w' := by
 have HI : Hid (IsL w (fun _ => True) (.slice pp ln cl) t.l) := hL
 have ha : 0 ≤ a ∧ a ≤ 65535 := (by simpa [Lit.wf] using hA : IntKind.u16.min ≤ a ∧ a ≤ IntKind.u16.max)
 clear hL hA
 go_enter Try.func10, Try.ntmps10
 go_wp2_with fail
 refine (small_law t pp ln cl _ (HI.out.ext ((Ext.refl _).alloc _))).mono ?_
 rintro e w1 ⟨ok, rfl, E1, hok⟩
 have HE1 : Hid (Ext w w1 ∧ BlkX w1 w.heap.size t (.slice pp ln cl)) := ⟨((Ext.refl _).alloc _).trans E1, blk13_top rfl E1⟩
 clear E1
 cases ok
 · clear hok
   go_wp2_with fail
   refine (lives11_any _).mono ?_
   rintro e w9 ⟨rfl, E9⟩
   have HE9 : Hid (Ext w w9) := Ext.trans HE1.out.1 E9
   clear E9
   go_wp2_with fail
   go_ret
   exact ⟨rfl, HE9.out⟩
 · have HH : Hid (Hr 401 t ∧ szT 401 t ≤ 1000) := hok rfl
   obtain ⟨qz, ⟨k0, k1, k2, k3, k4, k5, k6, k7, k8, k9, k10, k11, k12⟩, gz⟩ := HE1.out.2
   clear hok gz qz
   have C0 := rwell_any (fun _ => True) 401 t HH.out.1 w1 pp ln cl (HI.out.ext HE1.out.1)
   go_wp2_with fail
   refine C0.mono ?_
   rintro e w2 ⟨rfl, E2⟩
   replace HE1 : Hid (Ext w w2 ∧ BlkX w2 w.heap.size t (.slice pp ln cl)) := ⟨HE1.out.1.trans E2, HE1.out.2.ext E2⟩
   clear E2 C0 k0 k1 k2 k3 k4 k5 k6 k7 k8 k9 k10 k11 k12
   cases hwl : wellT 401 t
   · clear hwl
     go_wp2_with fail
     refine (lives11_any _).mono ?_
     rintro e w9 ⟨rfl, E9⟩
     have HE9 : Hid (Ext w w9) := Ext.trans HE1.out.1 E9
     clear E9
     go_wp2_with fail
     go_ret
     exact ⟨rfl, HE9.out⟩
   · have HWT : Hid (wellT 401 t = true) := hwl
     obtain ⟨qz, ⟨k0, k1, k2, k3, k4, k5, k6, k7, k8, k9, k10, k11, k12⟩, gz⟩ := HE1.out.2
     clear hwl gz qz
     have hrl : (refsT 401 t).length ≤ 1000 := Nat.le_trans (refs_len 401 t) HH.out.2
     have C1 := (rrefs_any 401 t HH.out.1 w2 (fun _ => True) pp ln cl (HI.out.ext HE1.out.1) (by omega)).mono (fun e w' hq => RrQ.rd hq)
     obtain ⟨rs, hrs⟩ : ∃ rs, refsT 401 t = rs := ⟨_, rfl⟩
     have HRS : Hid (refsT 401 t = rs) := hrs
     obtain ⟨rl, hrr⟩ : ∃ rl, rs.length = rl := ⟨_, rfl⟩
     rw [hrs] at C1 hrl
     rw [hrr] at C1 hrl
     have HRL : Hid (rs.length = rl) := hrr
     clear hrs hrr
     go_wp2_with fail
     refine C1.mono ?_
     rintro e w3 ⟨p0, c0, rfl, R0, E3⟩
     replace HE1 : Hid (Ext w w3 ∧ BlkX w3 w.heap.size t (.slice pp ln cl)) := ⟨HE1.out.1.trans E3, HE1.out.2.ext E3⟩
     have HR0 : Hid (RdR w3 (.slice p0 rl c0) rs) := R0
     clear E3 R0 C1 k0 k1 k2 k3 k4 k5 k6 k7 k8 k9 k10 k11 k12
     go_wp2_with fail
     go_loopw [6] (fun iv wr => ∃ j : Nat, j ≤ rl ∧ iv = .int .i64 (j : Int) ∧ (∀ q ∈ rs.take j, q.2.2.1 ≠ 1000) ∧ wr = w3) (fun iv _ => rl - (intOf iv).toNat)
     case atStart => exact ⟨0, Nat.zero_le _, rfl, fun q hq => by simp at hq, rfl⟩
     case round =>
       obtain ⟨j, hj, rfl, hall, rfl⟩ := hrel
       have HAL : Hid (∀ q ∈ rs.take j, q.2.2.1 ≠ 1000) := hall
       clear hall
       by_cases hlt : j < rl
       · have hltI : (j : Int) < (rl : Int) := by omega
         obtain ⟨g2, q, hp2, hn2, hq2, hg2, hc2⟩ := HR0.out.at (i := j) (by rw [HRL.out]; exact hlt)
         have HQ2 : Hid (rs[j]? = some q) := hq2
         subst hp2
         have a2 : wr.cell? ⟨g2, j * 4 + 2, none⟩ = some (.int .i64 q.2.2.1) := hc2 2 _ rfl
         clear hq2 hc2 hlt hn2
         by_cases h1 : q.2.2.1 = 1000
         · have e1 : (q.2.2.1 == 1000) = true := by simpa using h1
           clear h1
           go_wp2_with fail
           refine (lives11_any _).mono ?_
           rintro e w9 ⟨rfl, E9⟩
           have HE9 : Hid (Ext w w9) := Ext.trans HE1.out.1 E9
           clear E9
           go_wp2_with fail
           go_ret
           exact ⟨rfl, HE9.out⟩
         · have e1 : (q.2.2.1 == 1000) = false := by simpa using h1
           have H1 : Hid (¬ q.2.2.1 = 1000) := h1
           clear h1
           go_wp2_with fail
           go_roundw
           case rel =>
             refine ⟨j + 1, by omega, by go_num, fun x hx => ?_, by first | rfl | trivial⟩
             rw [List.take_add_one, HQ2.out] at hx
             rcases List.mem_append.1 hx with hx | hx
             · exact HAL.out x hx
             · simp at hx; subst hx; exact H1.out
           case measure => show rl - ((j : Int) + 1).toNat < rl - ((j : Int)).toNat; omega
       · have hltI : ¬ (j : Int) < (rl : Int) := by omega
         have HQ : Hid (∀ q ∈ refsT 401 t, q.2.2.1 ≠ 1000) := fun q hq => HAL.out q (by rw [HRS.out] at hq; rw [List.take_of_length_le (by rw [HRL.out]; omega)]; exact hq)
         clear hlt HAL
         obtain ⟨k, hk⟩ : ∃ k : Int, 1 + a % 1000 = k := ⟨_, rfl⟩
         have hk1 : 1 ≤ k ∧ k ≤ 1000 := by omega
         have INc : Hid (∀ V p l c, IsL V (fun _ => True) (.slice p l c) t.l → Calls Try.prog 33 #[.agg #[.int .i64 t.k, .int .i64 t.n, .string (bs t.s), .int .i64 t.e, .int .i64 t.r.1, .int .i64 t.r.2.1, .bool t.r.2.2.1, .bool t.r.2.2.2, .int .i64 t.q.1, .int .i64 t.q.2.1, .bool t.q.2.2.1, .bool t.q.2.2.2, .slice p l c], .int .i64 k] V (MpQ V (if wellT 401 t then mpT (chE (inR k) (inV k)) 401 t else tz))) := fun V p l c h => insert_any 401 t HH.out.1 k V (fun _ => True) p l c h
         rw [HWT.out, if_pos rfl] at INc
         have HWZ : Hid (wellT 401 (mpT (chE (inR k) (inV k)) 401 t) = true) := (well_ch (good_in k) 401 t (wa_arg HWT.out)).2 HWT.out
         have HHZ : Hid (Hr 401 (mpT (chE (inR k) (inV k)) 401 t)) := hr_mpg 401 t HH.out.1 _ (chE_l _ _)
         have HBK : Hid (mpT (chE (deR k) (deV k)) 401 (mpT (chE (inR k) (inV k)) 401 t) = t) := move_back k hk1.1 401 t (wa_arg HWT.out) HQ.out
         obtain ⟨z, hz⟩ : ∃ z, mpT (chE (inR k) (inV k)) 401 t = z := ⟨_, rfl⟩
         rw [hz] at INc HWZ HHZ HBK
         have DEc : Hid (∀ V p l c, IsL V (fun _ => True) (.slice p l c) z.l → Calls Try.prog 34 #[.agg #[.int .i64 z.k, .int .i64 z.n, .string (bs z.s), .int .i64 z.e, .int .i64 z.r.1, .int .i64 z.r.2.1, .bool z.r.2.2.1, .bool z.r.2.2.2, .int .i64 z.q.1, .int .i64 z.q.2.1, .bool z.q.2.2.1, .bool z.q.2.2.2, .slice p l c], .int .i64 k] V (MpQ V t)) := fun V p l c h => by
           have := delete_any 401 z HHZ.out k V (fun _ => True) p l c h
           rw [HWZ.out, if_pos rfl, HBK.out] at this
           exact this
         have OA : Hid (∀ V, Ext wr V → Calls Try.prog 14 #[.agg #[.int .i64 t.k, .int .i64 t.n, .string (bs t.s), .int .i64 t.e, .int .i64 t.r.1, .int .i64 t.r.2.1, .bool t.r.2.2.1, .bool t.r.2.2.2, .int .i64 t.q.1, .int .i64 t.q.2.1, .bool t.q.2.2.1, .bool t.q.2.2.2, .slice pp ln cl]] V (OwnQ V t)) := fun V e => own_any 401 t HH.out.1 V (fun _ => True) pp ln cl (HI.out.ext (HE1.out.1.trans e))
         have SAc : Hid (∀ V p l c, IsL V (fun _ => True) (.slice p l c) t.l → Ext wr V → Calls Try.prog 16 #[.agg #[.int .i64 t.k, .int .i64 t.n, .string (bs t.s), .int .i64 t.e, .int .i64 t.r.1, .int .i64 t.r.2.1, .bool t.r.2.2.1, .bool t.r.2.2.2, .int .i64 t.q.1, .int .i64 t.q.2.1, .bool t.q.2.2.1, .bool t.q.2.2.2, .slice p l c], .agg #[.int .i64 t.k, .int .i64 t.n, .string (bs t.s), .int .i64 t.e, .int .i64 t.r.1, .int .i64 t.r.2.1, .bool t.r.2.2.1, .bool t.r.2.2.2, .int .i64 t.q.1, .int .i64 t.q.2.1, .bool t.q.2.2.1, .bool t.q.2.2.2, .slice pp ln cl]] V fun e w' => e = .returned (.bool true) ∧ Ext V w') := fun V p l c h e => by
           have := rsame_any (fun _ => True) 401 t HH.out.1 t V p pp l c ln cl h (HI.out.ext (HE1.out.1.trans e))
           rw [same_refl 401 t HH.out.1] at this
           exact this
         have mkS : Hid (∀ V, Ext wr V → V.cell? ⟨w.heap.size, 0, none⟩ = some (.int .i64 t.k) ∧ V.cell? ⟨w.heap.size, 1, none⟩ = some (.int .i64 t.n) ∧ V.cell? ⟨w.heap.size, 2, none⟩ = some (.string (bs t.s)) ∧ V.cell? ⟨w.heap.size, 3, none⟩ = some (.int .i64 t.e) ∧ V.cell? ⟨w.heap.size, 4, none⟩ = some (.int .i64 t.r.1) ∧ V.cell? ⟨w.heap.size, 5, none⟩ = some (.int .i64 t.r.2.1) ∧ V.cell? ⟨w.heap.size, 6, none⟩ = some (.bool t.r.2.2.1) ∧ V.cell? ⟨w.heap.size, 7, none⟩ = some (.bool t.r.2.2.2) ∧ V.cell? ⟨w.heap.size, 8, none⟩ = some (.int .i64 t.q.1) ∧ V.cell? ⟨w.heap.size, 9, none⟩ = some (.int .i64 t.q.2.1) ∧ V.cell? ⟨w.heap.size, 10, none⟩ = some (.bool t.q.2.2.1) ∧ V.cell? ⟨w.heap.size, 11, none⟩ = some (.bool t.q.2.2.2) ∧ V.cell? ⟨w.heap.size, 12, none⟩ = some (.slice pp ln cl)) := fun V e => by
           obtain ⟨qz, ⟨k0, k1, k2, k3, k4, k5, k6, k7, k8, k9, k10, k11, k12⟩, gz⟩ := HE1.out.2.ext e
           exact ⟨k0, k1, k2, k3, k4, k5, k6, k7, k8, k9, k10, k11, k12⟩
         clear hz HBK HWZ HHZ HQ
         go_wp2_with fail
         refine wp_region_held_drew (S := (fun V => V.cell? ⟨w.heap.size, 0, none⟩ = some (.int .i64 t.k) ∧ V.cell? ⟨w.heap.size, 1, none⟩ = some (.int .i64 t.n) ∧ V.cell? ⟨w.heap.size, 2, none⟩ = some (.string (bs t.s)) ∧ V.cell? ⟨w.heap.size, 3, none⟩ = some (.int .i64 t.e) ∧ V.cell? ⟨w.heap.size, 4, none⟩ = some (.int .i64 t.r.1) ∧ V.cell? ⟨w.heap.size, 5, none⟩ = some (.int .i64 t.r.2.1) ∧ V.cell? ⟨w.heap.size, 6, none⟩ = some (.bool t.r.2.2.1) ∧ V.cell? ⟨w.heap.size, 7, none⟩ = some (.bool t.r.2.2.2) ∧ V.cell? ⟨w.heap.size, 8, none⟩ = some (.int .i64 t.q.1) ∧ V.cell? ⟨w.heap.size, 9, none⟩ = some (.int .i64 t.q.2.1) ∧ V.cell? ⟨w.heap.size, 10, none⟩ = some (.bool t.q.2.2.1) ∧ V.cell? ⟨w.heap.size, 11, none⟩ = some (.bool t.q.2.2.2) ∧ V.cell? ⟨w.heap.size, 12, none⟩ = some (.slice pp ln cl))) (by kernel_rfl) ?_ (fun hHeld0 => ?_)
         · (refine mkS.out _ ?_; ((with_reducible (repeat (first | assumption | exact Ext.refl _ | apply Ext.alloc | apply Ext.drew | apply Ext.drewN))); done))
         refine wpAnyH_take (i := 0) (oi := ⟨some 36, .load 26 (.tmp 2), 26, "law.go:96", #[], none⟩) (v := ?_) rfl (by kernel_rfl) (by kernel_rfl) (by kernel_rfl) (fun _ _ _ h => h) (Or.inl ⟨by rfl, ?_⟩) (by assumption) ?_
         rotate_left
         · intro w hSw; (try dsimp only at hSw); first | (go_simp; done) | (go_simp; with_reducible rfl)
         try simp only [Act.put, List.setIfInBounds_toArray, List.set_cons_zero, List.set_cons_succ]
         refine wpAnyH_take (i := 2) (oi := ⟨some 38, .move (.tmp 7), 3, "law.go:96", #[], none⟩) (v := ?_) rfl (by kernel_rfl) (by kernel_rfl) (by kernel_rfl) (fun _ _ _ h => h) (Or.inl ⟨by rfl, ?_⟩) (by assumption) ?_
         rotate_left
         · intro w hSw; (try dsimp only at hSw); first | (go_simp; done) | (go_simp; with_reducible rfl)
         try simp only [Act.put, List.setIfInBounds_toArray, List.set_cons_zero, List.set_cons_succ]
         refine wpAnyH_take (i := 4) (oi := ⟨some 40, .move (.tmp 7), 3, "law.go:96", #[], none⟩) (v := ?_) rfl (by kernel_rfl) (by kernel_rfl) (by kernel_rfl) (fun _ _ _ h => h) (Or.inl ⟨by rfl, ?_⟩) (by assumption) ?_
         rotate_left
         · intro w hSw; (try dsimp only at hSw); first | (go_simp; done) | (go_simp; with_reducible rfl)
         try simp only [Act.put, List.setIfInBounds_toArray, List.set_cons_zero, List.set_cons_succ]
         refine wpAnyH_take (i := 6) (oi := ⟨some 42, .load 26 (.tmp 2), 26, "law.go:96", #[], none⟩) (v := ?_) rfl (by kernel_rfl) (by kernel_rfl) (by kernel_rfl) (fun _ _ _ h => h) (Or.inl ⟨by rfl, ?_⟩) (by assumption) ?_
         rotate_left
         · intro w hSw; (try dsimp only at hSw); first | (go_simp; done) | (go_simp; with_reducible rfl)
         try simp only [Act.put, List.setIfInBounds_toArray, List.set_cons_zero, List.set_cons_succ]
         refine wpAnyH_ready (rs := [1]) (by kernel_rfl) (by simp) ?_
         refine AllReadyH.cons (o := ⟨some 37, .call { callee := .value (.func 14), args := #[.tmp 36], argTypes := #[26] }, 26, "law.go:96", #[⟨0, .data⟩], none⟩) rfl (fun K hK => ?_) AllReadyH.nil
         go_simp
         (go_at_call 14; refine Calls.mono (OA.out _ (by with_reducible repeat (first | assumption | exact Ext.refl _ | apply Ext.alloc | apply Ext.drew | apply Ext.drewN))) ?_; rintro e y1 ⟨lv1, rfl, hL1, E1⟩; obtain ⟨p1, c1, hlv, hcl⟩ := hL1.form; have X1 : Ext wr y1 := Ext.trans (by with_reducible repeat (first | assumption | exact Ext.refl _ | apply Ext.alloc | apply Ext.drew | apply Ext.drewN)) E1; obtain ⟨l1, hl1⟩ : ∃ l1, t.l.length = l1 := ⟨_, rfl⟩; rw [hl1] at hlv; subst hlv; have HO1 : Hid (IsL y1 (fun _ => True) (.slice p1 l1 c1) t.l) := hL1.mono (fun _ _ _ => trivial); clear hL1 hcl hl1; unfold aggX)
         try go_wp2_with fail
         refine hK.out _ _ ?_ (fun hHeld1 => ?_)
         · (try dsimp only); (refine mkS.out _ ?_; ((with_reducible (repeat (first | assumption | exact Ext.refl _ | apply Ext.alloc | apply Ext.drew | apply Ext.drewN))); done))
         clear hK K hHeld0
         try simp only [Act.put, List.setIfInBounds_toArray, List.set_cons_zero, List.set_cons_succ]
         refine wpAnyH_ready (rs := [3]) (by kernel_rfl) (by simp) ?_
         refine AllReadyH.cons (o := ⟨some 39, .call { callee := .value (.func 33), args := #[.tmp 37, .tmp 38], argTypes := #[26, 3] }, 26, "law.go:96", #[⟨1, .data⟩, ⟨2, .data⟩, ⟨1, .chain⟩], none⟩) rfl (fun K hK => ?_) AllReadyH.nil
         go_simp
         (go_at_call 33; refine Calls.mono (INc.out _ p1 l1 c1 (HO1.out.ext (by with_reducible repeat (first | assumption | exact Ext.refl _ | apply Ext.alloc | apply Ext.drew | apply Ext.drewN)))) ?_; rintro e y2 ⟨p2, l2, c2, rfl, hL2, E2⟩; have X2 : Ext wr y2 := Ext.trans (by with_reducible repeat (first | assumption | exact Ext.refl _ | apply Ext.alloc | apply Ext.drew | apply Ext.drewN)) E2; have HO2 : Hid (IsL y2 (fun _ => True) (.slice p2 l2 c2) z.l) := hL2.mono (fun _ _ _ => trivial); clear hL2; unfold aggX)
         try go_wp2_with fail
         refine hK.out _ _ ?_ (fun hHeld2 => ?_)
         · (try dsimp only); (refine mkS.out _ ?_; ((with_reducible (repeat (first | assumption | exact Ext.refl _ | apply Ext.alloc | apply Ext.drew | apply Ext.drewN))); done))
         clear hK K hHeld1
         try simp only [Act.put, List.setIfInBounds_toArray, List.set_cons_zero, List.set_cons_succ]
         refine wpAnyH_ready (rs := [5]) (by kernel_rfl) (by simp) ?_
         refine AllReadyH.cons (o := ⟨some 41, .call { callee := .value (.func 34), args := #[.tmp 39, .tmp 40], argTypes := #[26, 3] }, 26, "law.go:96", #[⟨3, .data⟩, ⟨4, .data⟩, ⟨3, .chain⟩], none⟩) rfl (fun K hK => ?_) AllReadyH.nil
         go_simp
         (go_at_call 34; refine Calls.mono (DEc.out _ p2 l2 c2 (HO2.out.ext (by with_reducible repeat (first | assumption | exact Ext.refl _ | apply Ext.alloc | apply Ext.drew | apply Ext.drewN)))) ?_; rintro e y3 ⟨p3, l3, c3, rfl, hL3, E3⟩; have X3 : Ext wr y3 := Ext.trans (by with_reducible repeat (first | assumption | exact Ext.refl _ | apply Ext.alloc | apply Ext.drew | apply Ext.drewN)) E3; have HO3 : Hid (IsL y3 (fun _ => True) (.slice p3 l3 c3) t.l) := hL3.mono (fun _ _ _ => trivial); clear hL3; unfold aggX)
         try go_wp2_with fail
         refine hK.out _ _ ?_ (fun hHeld3 => ?_)
         · (try dsimp only); (refine mkS.out _ ?_; ((with_reducible (repeat (first | assumption | exact Ext.refl _ | apply Ext.alloc | apply Ext.drew | apply Ext.drewN))); done))
         clear hK K hHeld2
         try simp only [Act.put, List.setIfInBounds_toArray, List.set_cons_zero, List.set_cons_succ]
         refine wpAnyH_ready (rs := [7]) (by kernel_rfl) (by simp) ?_
         refine AllReadyH.cons (o := ⟨some 43, .call { callee := .value (.func 16), args := #[.tmp 41, .tmp 42], argTypes := #[26, 26] }, 4, "law.go:96", #[⟨5, .data⟩, ⟨6, .data⟩, ⟨5, .chain⟩], none⟩) rfl (fun K hK => ?_) AllReadyH.nil
         go_simp
         (go_at_call 16; refine Calls.mono (SAc.out _ p3 l3 c3 (HO3.out.ext (by with_reducible repeat (first | assumption | exact Ext.refl _ | apply Ext.alloc | apply Ext.drew | apply Ext.drewN))) (by with_reducible repeat (first | assumption | exact Ext.refl _ | apply Ext.alloc | apply Ext.drew | apply Ext.drewN))) ?_; rintro e y4 ⟨rfl, E4⟩; have X4 : Ext wr y4 := Ext.trans (by with_reducible repeat (first | assumption | exact Ext.refl _ | apply Ext.alloc | apply Ext.drew | apply Ext.drewN)) E4)
         try go_wp2_with fail
         refine hK.out _ _ ?_ (fun hHeld4 => ?_)
         · (try dsimp only); (refine mkS.out _ ?_; ((with_reducible (repeat (first | assumption | exact Ext.refl _ | apply Ext.alloc | apply Ext.drew | apply Ext.drewN))); done))
         clear hK K hHeld3
         try simp only [Act.put, List.setIfInBounds_toArray, List.set_cons_zero, List.set_cons_succ]
         refine wpAnyH_take (i := 8) (oi := ⟨some 44, .move (.tmp 43), 4, "law.go:96", #[⟨7, .data⟩, ⟨7, .chain⟩], none⟩) (v := ?_) rfl (by kernel_rfl) (by kernel_rfl) (by kernel_rfl) (fun _ _ _ h => h) (Or.inl ⟨by rfl, ?_⟩) (by assumption) ?_
         rotate_left
         · intro w hSw; (try dsimp only at hSw); first | (go_simp; done) | (go_simp; with_reducible rfl)
         try simp only [Act.put, List.setIfInBounds_toArray, List.set_cons_zero, List.set_cons_succ]
         refine wpAnyH_ready (rs := [9]) (by kernel_rfl) (by simp) ?_
         refine AllReadyH.cons (o := ⟨some 45, .call { callee := .value (.func 31), args := #[], argTypes := #[] }, 4, "law.go:96", #[⟨8, .chain⟩, ⟨8, .guard⟩], some (8, true)⟩) rfl (fun K hK => ?_) AllReadyH.nil
         go_simp
         (go_at_call 31; refine Calls.mono (lives11_any _) ?_; rintro e y5 ⟨rfl, E5⟩; have X5 : Ext wr y5 := Ext.trans (by with_reducible repeat (first | assumption | exact Ext.refl _ | apply Ext.alloc | apply Ext.drew | apply Ext.drewN)) E5)
         try go_wp2_with fail
         refine hK.out _ _ ?_ (fun hHeld5 => ?_)
         · (try dsimp only); (refine mkS.out _ ?_; ((with_reducible (repeat (first | assumption | exact Ext.refl _ | apply Ext.alloc | apply Ext.drew | apply Ext.drewN))); done))
         clear hK K hHeld4
         try simp only [Act.put, List.setIfInBounds_toArray, List.set_cons_zero, List.set_cons_succ]
         refine wpAnyH_take (i := 10) (oi := ⟨some 46, .pick (.tmp 44) (.tmp 45) (.const (.bool false)), 4, "law.go:96", #[⟨8, .data⟩, ⟨9, .data⟩], none⟩) (v := ?_) rfl (by kernel_rfl) (by kernel_rfl) (by kernel_rfl) (fun _ _ _ h => h) (Or.inl ⟨by rfl, ?_⟩) (by assumption) ?_
         rotate_left
         · intro w hSw; (try dsimp only at hSw); first | (go_simp; done) | (go_simp; with_reducible rfl)
         try simp only [Act.put, List.setIfInBounds_toArray, List.set_cons_zero, List.set_cons_succ]
         refine wpAnyH_take (i := 11) (oi := ⟨some 4, .assign (.tmp 46), 4, "law.go:96", #[⟨10, .data⟩, ⟨9, .chain⟩, ⟨0, .phase⟩, ⟨1, .phase⟩, ⟨2, .phase⟩, ⟨3, .phase⟩, ⟨4, .phase⟩, ⟨5, .phase⟩, ⟨6, .phase⟩, ⟨7, .phase⟩, ⟨8, .phase⟩, ⟨9, .phase⟩, ⟨10, .phase⟩], none⟩) (v := ?_) rfl (by kernel_rfl) (by kernel_rfl) (by kernel_rfl) (fun _ _ _ h => h) (Or.inl ⟨by rfl, ?_⟩) (by assumption) ?_
         rotate_left
         · intro w hSw; (try dsimp only at hSw); first | (go_simp; done) | (go_simp; with_reducible rfl)
         try simp only [Act.put, List.setIfInBounds_toArray, List.set_cons_zero, List.set_cons_succ]
         refine wpAnyH_done (by kernel_rfl) ?_ _
         go_wp2_with fail
         go_ret
         exact ⟨rfl, HE1.out.1.trans (by assumption)⟩

theorem laidOut : laidOutB Try.prog = true := by kernel_rfl
set_option maxRecDepth 100000 in
theorem lifted (os : Os) (started : os.Started) (H : Type) (enc : TypeId × Value → H) :
   ReturnsInHanded {} Try.checked os 10 .any (Rows.moveBackSpec.pre6 enc Try.prog Try.f10 Rows.moveBackRow.domain false) (Rows.moveBackSpec.post enc Try.prog Try.f10 false true false false) := by
 refine returnsInHanded_of_change (C := Try.checked) own started (by kernel_rfl) Try.func10
   (ChangeSpec.witness6 (enc := enc) (C := Try.checked) false ⟨#[], #[.agg #[.int .i64 0, .int .i64 0, .string ⟨#[]⟩, .int .i64 0, .int .i64 0, .int .i64 0, .bool false, .bool false, .int .i64 0, .int .i64 0, .bool false, .bool false, .slice none 0 0], .int .u16 0], []⟩ 8 (by kernel_rfl) (by kernel_rfl) (by kernel_rfl) (by kernel_rfl)) ?_
 intro W base args ds gs before hval0 hW hcnd _
 have hval : ∀ (j : Nat) t v, Try.f10.params[j]? = some t → args[j]? = some v → Value.okWide Try.prog W .any base t v := hval0
 have hW' := hW
 obtain ⟨p, q, hA0, hV, rfl, hfz, hnd⟩ := hW
 have hA : DataW.TrodAll enc Try.prog W 0 (fun _ => true) true Try.f10.params.toList args.toList ds p := hA0
 rw [Try.params10] at hA hval
 obtain ⟨v0, vs0, d0, ds0, p0, q0, hargs, rfl, rfl, h0, r0⟩ := trodAll_cons hA
 obtain ⟨v1, vs1, d1, ds1, p1, q1, rfl, rfl, rfl, h1, r1⟩ := trodAll_cons r0
 obtain ⟨rfl, rfl, rfl⟩ := trodAll_nil r1
 obtain rfl : args = #[v0, v1] := by cases args; simp_all
 obtain ⟨rfl, rfl⟩ := trodVars_none hV
 have j0 := h0
 have lt0 : ∀ x ∈ p0, x.block < W.heap.size := by obtain ⟨m, hm⟩ := j0; exact DataW.trod_lt m _ _ _ hm
 obtain ⟨cs0, rfl, _⟩ := okWide_struct Try.underlying26 (hval 0 26 v0 rfl rfl)
 obtain ⟨fu0, hf0⟩ := h0
 obtain ⟨T0, lv0, hcs0, hLI0, wT0⟩ := open_exp fu0 _ _ hf0
 obtain ⟨pp0, cl0, hlv0, _⟩ := hLI0.form
 obtain ⟨ln0, hln0⟩ : ∃ ln, T0.l.length = ln := ⟨_, rfl⟩
 rw [hln0] at hlv0
 subst hlv0
 obtain rfl : cs0 = (cellsT T0 (.slice pp0 ln0 cl0)).toArray := by rw [← hcs0]; simp [Value.cells]
 obtain ⟨a1, rfl, rfl, rfl, w1⟩ := open_int Try.underlying43 (hval 1 43 v1 rfl rfl) h1
 clear hA0 hval0
 refine (walk T0 pp0 ln0 cl0 a1 wT0 hLI0 w1).mono fun e W' ⟨he, bel⟩ => ?_
 subst he
 exact ⟨_, rfl, _, _, _, [], _, [], hW', trodAll_mk1 (shut_bool Try.underlying4 _), (trodAll_cons_mk (Below.trod laidOut (by kernel_rfl) (of_decide_eq_true (by kernel_rfl)) j0 bel lt0) (trodAll_cons_mk (shut_int Try.underlying43 w1) trodAll_mk0)), rfl, Below.frame bel _, fun h => by cases h⟩

theorem over : Rows.moveBackRow.holds Try.pinned (OpenSpec.ofChange Rows.moveBackSpec) :=
 OpenClaim.holds_of_wide 10 Try.f10 rfl rfl rfl rfl rfl rfl rfl ⟨rfl, rfl, rfl, rfl, rfl⟩ rfl rfl rfl rfl rfl (by kernel_rfl) Try.func10 (by kernel_rfl)
   (of_decide_eq_true (by kernel_rfl)) (by unfold Func.isWrapper; first | (rw [if_pos (by decide +kernel)]; kernel_rfl) | (rw [if_neg (by decide +kernel)]; exact ⟨rfl, rfl⟩))
   (fun os started H enc _ => lifted os started H enc)

theorem proved : Rows.MoveBackSaid := over
end Go.Proofs.Ytcggiljlilbdfaa.moveBack
namespace Go.Proofs.Ytcggiljlilbdfaa
theorem moveBack_holds : Rows.MoveBackSaid := moveBack.proved
end Go.Proofs.Ytcggiljlilbdfaa
