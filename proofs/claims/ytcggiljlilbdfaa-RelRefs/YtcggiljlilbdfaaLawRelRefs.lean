/-
 RelRefs is proved: for every tree (without a ring) the call returns true and the argument reads as it did. No condition but the form's own reach.
-/
import Derived.Test.YtcggiljlilbdfaaQ37
import Derived.Test.YtcggiljlilbdfaaQ45
import Derived.Test.YtcggiljlilbdfaaQ14
import Derived.Test.YtcggiljlilbdfaaQ18
import Derived.Test.YtcggiljlilbdfaaRows
import Derived.ProofKit
import Derived.OpenShut
import Derived.ChangeOld
import Derived.SizedLaws
import Derived.Lib.SmallJoins
namespace Go.Proofs.Ytcggiljlilbdfaa.relRefs
open Go.ChangeShapes Go.WideShapes Go.ChangeAt Go.RowKit Go.Joins
set_option maxHeartbeats 6000000
set_option maxRecDepth 100000

theorem own : ownKnob Try.prog.godebug = none := by kernel_rfl
theorem small_law (t : T) (pp : Option Addr) (ln cl : Nat) (w : World) (hL : IsL w (fun _ => True) (.slice pp ln cl) t.l) :
   Calls Try.prog 11 #[.agg #[.int .i64 t.k, .int .i64 t.n, .string (bs t.s), .int .i64 t.e, .int .i64 t.r.1, .int .i64 t.r.2.1, .bool t.r.2.2.1, .bool t.r.2.2.2, .int .i64 t.q.1, .int .i64 t.q.2.1, .bool t.q.2.2.1, .bool t.q.2.2.2, .slice pp ln cl]] w fun e w' => ∃ ok, e = .returned (.bool ok) ∧ Ext w w' ∧ (ok = true → Hr 401 t ∧ szT 401 t ≤ 1000) := by
 have c1 := fun W h => small_any 401 (Nat.le_refl _) t W (fun _ => True) pp ln cl 1000 (by decide) (by decide) h
 rw [show (401 : Int) - ((401 : Nat) : Int) = 0 from rfl] at c1
 have HI : Hid (IsL w (fun _ => True) (.slice pp ln cl) t.l) := hL
 clear hL
 go_enter Try.func11, Try.ntmps11
 go_wp2_with fail
 refine (c1 _ (HI.out.ext ((Ext.refl _).alloc _))).mono ?_
 rintro e w1 ⟨m, ok, rfl, E1, h1, h2, h3, hok⟩
 have HR : Hid (Ext w w1 ∧ (ok = true → m = szT 401 t ∧ Hr 401 t ∧ m ≤ max 1000 1)) := ⟨((Ext.refl _).alloc _).trans E1, hok⟩
 clear hok E1 h3
 go_wp2_with fail
 go_ret
 refine ⟨ok, rfl, HR.out.1, fun h => ?_⟩
 obtain ⟨q1, q2, q3⟩ := HR.out.2 h
 exact ⟨q2, by omega⟩
theorem walk (t : T) (pp : Option Addr) (ln cl : Nat) (_hW : Wf t) {w : World} (hL : IsL w (fun _ => True) (.slice pp ln cl) t.l) :
   Calls Try.prog 6 #[.agg #[.int .i64 t.k, .int .i64 t.n, .string (bs t.s), .int .i64 t.e, .int .i64 t.r.1, .int .i64 t.r.2.1, .bool t.r.2.2.1, .bool t.r.2.2.2, .int .i64 t.q.1, .int .i64 t.q.2.1, .bool t.q.2.2.1, .bool t.q.2.2.2, .slice pp ln cl]] w fun e w' => e = .returned (.bool true) ∧ Ext w w' := by
 have HI : Hid (IsL w (fun _ => True) (.slice pp ln cl) t.l) := hL
 clear hL
 go_enter Try.func6, Try.ntmps6
 go_wp2_with fail
 refine (small_law t pp ln cl _ (HI.out.ext ((Ext.refl _).alloc _))).mono ?_
 rintro e w1 ⟨ok, rfl, E1, hok⟩
 have HE1 : Hid (Ext w w1 ∧ BlkX w1 w.heap.size t (.slice pp ln cl)) := ⟨((Ext.refl _).alloc _).trans E1, blk13_top rfl E1⟩
 clear E1
 cases ok
 · clear hok
   go_wp2_with fail
   refine (lives10_any _).mono ?_
   rintro e w9 ⟨rfl, E9⟩
   have HE9 : Hid (Ext w w9) := Ext.trans HE1.out.1 E9
   clear E9
   go_wp2_with fail
   go_ret
   exact ⟨rfl, HE9.out⟩
 · have HH : Hid (Hr 401 t ∧ szT 401 t ≤ 1000) := hok rfl
   clear hok
   go_wp2_with fail
   have hrl : (refsT 401 t).length ≤ 1000 := Nat.le_trans (refs_len 401 t) HH.out.2
   have OA : Hid (∀ V, Ext w1 V → Calls Try.prog 14 #[.agg #[.int .i64 t.k, .int .i64 t.n, .string (bs t.s), .int .i64 t.e, .int .i64 t.r.1, .int .i64 t.r.2.1, .bool t.r.2.2.1, .bool t.r.2.2.2, .int .i64 t.q.1, .int .i64 t.q.2.1, .bool t.q.2.2.1, .bool t.q.2.2.2, .slice pp ln cl]] V (OwnQ V t)) := fun V e => own_any 401 t HH.out.1 V (fun _ => True) pp ln cl (HI.out.ext (HE1.out.1.trans e))
   have PRc : Hid (∀ V p l c, IsL V (fun _ => True) (.slice p l c) t.l → Calls Try.prog 25 #[.agg #[.int .i64 t.k, .int .i64 t.n, .string (bs t.s), .int .i64 t.e, .int .i64 t.r.1, .int .i64 t.r.2.1, .bool t.r.2.2.1, .bool t.r.2.2.2, .int .i64 t.q.1, .int .i64 t.q.2.1, .bool t.q.2.2.1, .bool t.q.2.2.2, .slice p l c]] V fun e w' => ∃ p c, e = .returned (.slice p (refsT 401 t).length c) ∧ RdR w' (.slice p (refsT 401 t).length c) (refsT 401 t) ∧ Ext V w') := fun V p l c h => (refs_any 401 t HH.out.1 (by omega) V (fun _ => True) p l c h).mono (fun e w' hq => by
     obtain ⟨v, h1, h2, h3⟩ := hq
     obtain ⟨p', c', hv⟩ := h2.form
     rw [hv] at h1 h2
     exact ⟨p', c', h1, h2, h3⟩)
   have RRc : Hid (∀ V, Ext w1 V → Calls Try.prog 26 #[.agg #[.int .i64 t.k, .int .i64 t.n, .string (bs t.s), .int .i64 t.e, .int .i64 t.r.1, .int .i64 t.r.2.1, .bool t.r.2.2.1, .bool t.r.2.2.2, .int .i64 t.q.1, .int .i64 t.q.2.1, .bool t.q.2.2.1, .bool t.q.2.2.2, .slice pp ln cl]] V fun e w' => ∃ p c, e = .returned (.slice p (refsT 401 t).length c) ∧ RdR w' (.slice p (refsT 401 t).length c) (refsT 401 t) ∧ Ext V w') := fun V e => (rrefs_any 401 t HH.out.1 V (fun _ => True) pp ln cl (HI.out.ext (HE1.out.1.trans e)) (by omega)).mono (fun e w' hq => RrQ.rd hq)
   obtain ⟨rs, hrs⟩ : ∃ rs, refsT 401 t = rs := ⟨_, rfl⟩
   obtain ⟨rl, hrr⟩ : ∃ rl, rs.length = rl := ⟨_, rfl⟩
   rw [hrs, hrr] at PRc RRc hrl
   have HRL : Hid (rs.length = rl) := hrr
   have mkS : Hid (∀ V, Ext w1 V → V.cell? ⟨w.heap.size, 0, none⟩ = some (.int .i64 t.k) ∧ V.cell? ⟨w.heap.size, 1, none⟩ = some (.int .i64 t.n) ∧ V.cell? ⟨w.heap.size, 2, none⟩ = some (.string (bs t.s)) ∧ V.cell? ⟨w.heap.size, 3, none⟩ = some (.int .i64 t.e) ∧ V.cell? ⟨w.heap.size, 4, none⟩ = some (.int .i64 t.r.1) ∧ V.cell? ⟨w.heap.size, 5, none⟩ = some (.int .i64 t.r.2.1) ∧ V.cell? ⟨w.heap.size, 6, none⟩ = some (.bool t.r.2.2.1) ∧ V.cell? ⟨w.heap.size, 7, none⟩ = some (.bool t.r.2.2.2) ∧ V.cell? ⟨w.heap.size, 8, none⟩ = some (.int .i64 t.q.1) ∧ V.cell? ⟨w.heap.size, 9, none⟩ = some (.int .i64 t.q.2.1) ∧ V.cell? ⟨w.heap.size, 10, none⟩ = some (.bool t.q.2.2.1) ∧ V.cell? ⟨w.heap.size, 11, none⟩ = some (.bool t.q.2.2.2) ∧ V.cell? ⟨w.heap.size, 12, none⟩ = some (.slice pp ln cl)) := fun V e => by
     obtain ⟨qz, ⟨k0, k1, k2, k3, k4, k5, k6, k7, k8, k9, k10, k11, k12⟩, gz⟩ := HE1.out.2.ext e
     exact ⟨k0, k1, k2, k3, k4, k5, k6, k7, k8, k9, k10, k11, k12⟩
   clear hrs hrr
   refine wp_region_held_drew (S := (fun V => V.cell? ⟨w.heap.size, 0, none⟩ = some (.int .i64 t.k) ∧ V.cell? ⟨w.heap.size, 1, none⟩ = some (.int .i64 t.n) ∧ V.cell? ⟨w.heap.size, 2, none⟩ = some (.string (bs t.s)) ∧ V.cell? ⟨w.heap.size, 3, none⟩ = some (.int .i64 t.e) ∧ V.cell? ⟨w.heap.size, 4, none⟩ = some (.int .i64 t.r.1) ∧ V.cell? ⟨w.heap.size, 5, none⟩ = some (.int .i64 t.r.2.1) ∧ V.cell? ⟨w.heap.size, 6, none⟩ = some (.bool t.r.2.2.1) ∧ V.cell? ⟨w.heap.size, 7, none⟩ = some (.bool t.r.2.2.2) ∧ V.cell? ⟨w.heap.size, 8, none⟩ = some (.int .i64 t.q.1) ∧ V.cell? ⟨w.heap.size, 9, none⟩ = some (.int .i64 t.q.2.1) ∧ V.cell? ⟨w.heap.size, 10, none⟩ = some (.bool t.q.2.2.1) ∧ V.cell? ⟨w.heap.size, 11, none⟩ = some (.bool t.q.2.2.2) ∧ V.cell? ⟨w.heap.size, 12, none⟩ = some (.slice pp ln cl))) (by kernel_rfl) ?_ (fun hHeld0 => ?_)
   · (refine mkS.out _ ?_; ((with_reducible (repeat (first | assumption | exact Ext.refl _ | apply Ext.alloc | apply Ext.drew | apply Ext.drewN))); done))
   refine wpAnyH_take (i := 0) (oi := ⟨some 10, .load 26 (.tmp 1), 26, "law.go:79", #[], none⟩) (v := ?_) rfl (by kernel_rfl) (by kernel_rfl) (by kernel_rfl) (fun _ _ _ h => h) (Or.inl ⟨by rfl, ?_⟩) (by assumption) ?_
   rotate_left
   · intro w hSw; (try dsimp only at hSw); first | (go_simp; done) | (go_simp; with_reducible rfl)
   try simp only [Act.put, List.setIfInBounds_toArray, List.set_cons_zero, List.set_cons_succ]
   refine wpAnyH_take (i := 3) (oi := ⟨some 13, .load 26 (.tmp 1), 26, "law.go:79", #[], none⟩) (v := ?_) rfl (by kernel_rfl) (by kernel_rfl) (by kernel_rfl) (fun _ _ _ h => h) (Or.inl ⟨by rfl, ?_⟩) (by assumption) ?_
   rotate_left
   · intro w hSw; (try dsimp only at hSw); first | (go_simp; done) | (go_simp; with_reducible rfl)
   try simp only [Act.put, List.setIfInBounds_toArray, List.set_cons_zero, List.set_cons_succ]
   refine wpAnyH_ready (rs := [1]) (by kernel_rfl) (by simp) ?_
   refine AllReadyH.cons (o := ⟨some 11, .call { callee := .value (.func 14), args := #[.tmp 10], argTypes := #[26] }, 26, "law.go:79", #[⟨0, .data⟩], none⟩) rfl (fun K hK => ?_) AllReadyH.nil
   go_simp
   (go_at_call 14; refine Calls.mono (OA.out _ (by with_reducible repeat (first | assumption | exact Ext.refl _ | apply Ext.alloc | apply Ext.drew | apply Ext.drewN))) ?_; rintro e y1 ⟨lv1, rfl, hL1, E1⟩; obtain ⟨p1, c1, hlv, hcl⟩ := hL1.form; have X1 : Ext w1 y1 := Ext.trans (by with_reducible repeat (first | assumption | exact Ext.refl _ | apply Ext.alloc | apply Ext.drew | apply Ext.drewN)) E1; obtain ⟨l1, hl1⟩ : ∃ l1, t.l.length = l1 := ⟨_, rfl⟩; rw [hl1] at hlv; subst hlv; have HO1 : Hid (IsL y1 (fun _ => True) (.slice p1 l1 c1) t.l) := hL1.mono (fun _ _ _ => trivial); clear hL1 hcl hl1; unfold aggX)
   try go_wp2_with fail
   refine hK.out _ _ ?_ (fun hHeld1 => ?_)
   · (try dsimp only); (refine mkS.out _ ?_; ((with_reducible (repeat (first | assumption | exact Ext.refl _ | apply Ext.alloc | apply Ext.drew | apply Ext.drewN))); done))
   clear hK K hHeld0
   try simp only [Act.put, List.setIfInBounds_toArray, List.set_cons_zero, List.set_cons_succ]
   refine wpAnyH_ready (rs := [2]) (by kernel_rfl) (by simp) ?_
   refine AllReadyH.cons (o := ⟨some 12, .call { callee := .value (.func 25), args := #[.tmp 11], argTypes := #[26] }, 38, "law.go:79", #[⟨1, .data⟩, ⟨1, .chain⟩], none⟩) rfl (fun K hK => ?_) AllReadyH.nil
   go_simp
   (go_at_call 25; refine Calls.mono (PRc.out _ p1 l1 c1 (HO1.out.ext (by with_reducible repeat (first | assumption | exact Ext.refl _ | apply Ext.alloc | apply Ext.drew | apply Ext.drewN)))) ?_; rintro e y2 ⟨p2, c2, rfl, R2, E2⟩; have X2 : Ext w1 y2 := Ext.trans (by with_reducible repeat (first | assumption | exact Ext.refl _ | apply Ext.alloc | apply Ext.drew | apply Ext.drewN)) E2; have HR2 : Hid (RdR y2 (.slice p2 rl c2) rs) := R2; clear R2)
   try go_wp2_with fail
   refine hK.out _ _ ?_ (fun hHeld2 => ?_)
   · (try dsimp only); (refine mkS.out _ ?_; ((with_reducible (repeat (first | assumption | exact Ext.refl _ | apply Ext.alloc | apply Ext.drew | apply Ext.drewN))); done))
   clear hK K hHeld1
   try simp only [Act.put, List.setIfInBounds_toArray, List.set_cons_zero, List.set_cons_succ]
   refine wpAnyH_ready (rs := [4]) (by kernel_rfl) (by simp) ?_
   refine AllReadyH.cons (o := ⟨some 14, .call { callee := .value (.func 26), args := #[.tmp 13], argTypes := #[26] }, 38, "law.go:79", #[⟨3, .data⟩, ⟨2, .chain⟩], none⟩) rfl (fun K hK => ?_) AllReadyH.nil
   go_simp
   (go_at_call 26; refine Calls.mono (RRc.out _ (by with_reducible repeat (first | assumption | exact Ext.refl _ | apply Ext.alloc | apply Ext.drew | apply Ext.drewN))) ?_; rintro e y3 ⟨p3, c3, rfl, R3, E3⟩; have X3 : Ext w1 y3 := Ext.trans (by with_reducible repeat (first | assumption | exact Ext.refl _ | apply Ext.alloc | apply Ext.drew | apply Ext.drewN)) E3; have HR3 : Hid (RdR y3 (.slice p3 rl c3) rs) := R3; clear R3)
   try go_wp2_with fail
   refine hK.out _ _ ?_ (fun hHeld3 => ?_)
   · (try dsimp only); (refine mkS.out _ ?_; ((with_reducible (repeat (first | assumption | exact Ext.refl _ | apply Ext.alloc | apply Ext.drew | apply Ext.drewN))); done))
   clear hK K hHeld2
   try simp only [Act.put, List.setIfInBounds_toArray, List.set_cons_zero, List.set_cons_succ]
   refine wpAnyH_take (i := 5) (oi := ⟨some 3, .assign (.tmp 12), 38, "law.go:79", #[⟨2, .data⟩, ⟨4, .chain⟩, ⟨0, .phase⟩, ⟨1, .phase⟩, ⟨2, .phase⟩, { on := 3, ground := Ground.textOnly Departure.lateStores }, { on := 4, ground := Ground.textOnly Departure.lateStoresUnsure }], none⟩) (v := ?_) rfl (by kernel_rfl) (by kernel_rfl) (by kernel_rfl) (fun _ _ _ h => h) (Or.inl ⟨by rfl, ?_⟩) (by assumption) ?_
   rotate_left
   · intro w hSw; (try dsimp only at hSw); first | (go_simp; done) | (go_simp; with_reducible rfl)
   try simp only [Act.put, List.setIfInBounds_toArray, List.set_cons_zero, List.set_cons_succ]
   refine wpAnyH_take (i := 6) (oi := ⟨some 4, .assign (.tmp 14), 38, "law.go:79", #[⟨4, .data⟩, ⟨5, .chain⟩, ⟨0, .phase⟩, ⟨1, .phase⟩, ⟨2, .phase⟩, ⟨3, .phase⟩, ⟨4, .phase⟩, ⟨5, .phase⟩], none⟩) (v := ?_) rfl (by kernel_rfl) (by kernel_rfl) (by kernel_rfl) (fun _ _ _ h => h) (Or.inl ⟨by rfl, ?_⟩) (by assumption) ?_
   rotate_left
   · intro w hSw; (try dsimp only at hSw); first | (go_simp; done) | (go_simp; with_reducible rfl)
   try simp only [Act.put, List.setIfInBounds_toArray, List.set_cons_zero, List.set_cons_succ]
   refine wpAnyH_done (by kernel_rfl) ?_ _
   have HY : Hid (Ext w y3 ∧ RdR y3 (.slice p2 rl c2) rs ∧ RdR y3 (.slice p3 rl c3) rs) := ⟨HE1.out.1.trans X3, HR2.out.ext E3, HR3.out⟩
   clear HR2 HR3 X1 X2 X3 E1 E2 E3 HO1 OA PRc RRc mkS
   have t0 : ((rl : Int) != (rl : Int)) = false := by simp
   go_wp2_with fail
   go_loopw [5] (fun iv wr => ∃ j : Nat, j ≤ rl ∧ iv = .int .i64 (j : Int) ∧ Ext y3 wr) (fun iv _ => rl - (intOf iv).toNat)
   case atStart => exact ⟨0, Nat.zero_le _, rfl, (by with_reducible repeat (first | assumption | exact Ext.refl _ | apply Ext.drew))⟩
   case round =>
     obtain ⟨j, hj, rfl, hE⟩ := hrel
     have HE : Hid (Ext y3 wr) := hE
     clear hE
     by_cases hlt : j < rl
     · have hltI : (j : Int) < (rl : Int) := by omega
       obtain ⟨g2, q, hp2, hn2, hq2, hg2, hc2⟩ := (HY.out.2.1.ext HE.out).at (i := j) (by rw [HRL.out]; exact hlt)
       obtain ⟨g3, q', hp3, hn3, hq3, hg3, hc3⟩ := (HY.out.2.2.ext HE.out).at (i := j) (by rw [HRL.out]; exact hlt)
       obtain rfl : q = q' := by rw [hq2] at hq3; exact Option.some.inj hq3
       subst hp2 hp3
       have a0 : wr.cell? ⟨g2, j * 4, none⟩ = some (.int .i64 q.1) := hc2 0 _ rfl
       have a1 : wr.cell? ⟨g2, j * 4 + 1, none⟩ = some (.int .i64 q.2.1) := hc2 1 _ rfl
       have a2 : wr.cell? ⟨g2, j * 4 + 2, none⟩ = some (.int .i64 q.2.2.1) := hc2 2 _ rfl
       have a3 : wr.cell? ⟨g2, j * 4 + 3, none⟩ = some (.int .i64 q.2.2.2) := hc2 3 _ rfl
       have b0 : wr.cell? ⟨g3, j * 4, none⟩ = some (.int .i64 q.1) := hc3 0 _ rfl
       have b1 : wr.cell? ⟨g3, j * 4 + 1, none⟩ = some (.int .i64 q.2.1) := hc3 1 _ rfl
       have b2 : wr.cell? ⟨g3, j * 4 + 2, none⟩ = some (.int .i64 q.2.2.1) := hc3 2 _ rfl
       have b3 : wr.cell? ⟨g3, j * 4 + 3, none⟩ = some (.int .i64 q.2.2.2) := hc3 3 _ rfl
       have eR := fun V => eq_rc q q V
       have gR := fun V x y op a b => gd_rc x y op a b V
       have dR : decide (q = q) = true := by simp
       clear hq2 hq3 hc2 hc3 hlt hn2 hn3
       go_wp2_with fail
       go_quiet (fail)
       go_wp2_with fail
       go_roundw
       case rel => exact ⟨j + 1, by omega, by go_num, (by with_reducible repeat (first | exact HE.out | assumption | exact Ext.refl _ | apply Ext.drew | apply Ext.drewN))⟩
       case measure => show rl - ((j : Int) + 1).toNat < rl - ((j : Int)).toNat; omega
     · have hltI : ¬ (j : Int) < (rl : Int) := by omega
       clear hlt
       go_wp2_with fail
       refine (lives10_any _).mono ?_
       rintro e w9 ⟨rfl, E9⟩
       have HE9 : Hid (Ext w w9) := Ext.trans (HY.out.1.trans HE.out) E9
       clear E9
       go_wp2_with fail
       go_ret
       exact ⟨rfl, HE9.out⟩

theorem laidOut : laidOutB Try.prog = true := by kernel_rfl
set_option maxRecDepth 100000 in
theorem lifted (os : Os) (started : os.Started) (H : Type) (enc : TypeId × Value → H) :
   ReturnsInHanded {} Try.checked os 6 .any (Rows.relRefsSpec.pre6 enc Try.prog Try.f6 Rows.relRefsRow.domain false) (Rows.relRefsSpec.post enc Try.prog Try.f6 false true false false) := by
 refine returnsInHanded_of_change (C := Try.checked) own started (by kernel_rfl) Try.func6
   (ChangeSpec.witness6 (enc := enc) (C := Try.checked) false ⟨#[], #[.agg #[.int .i64 0, .int .i64 0, .string ⟨#[]⟩, .int .i64 0, .int .i64 0, .int .i64 0, .bool false, .bool false, .int .i64 0, .int .i64 0, .bool false, .bool false, .slice none 0 0]], []⟩ 8 (by kernel_rfl) (by kernel_rfl) (by kernel_rfl) (by kernel_rfl)) ?_
 intro W base args ds gs before hval0 hW hcnd _
 have hval : ∀ (j : Nat) t v, Try.f6.params[j]? = some t → args[j]? = some v → Value.okWide Try.prog W .any base t v := hval0
 have hW' := hW
 obtain ⟨p, q, hA0, hV, rfl, hfz, hnd⟩ := hW
 have hA : DataW.TrodAll enc Try.prog W 0 (fun _ => true) true Try.f6.params.toList args.toList ds p := hA0
 rw [Try.params6] at hA hval
 obtain ⟨v0, vs0, d0, ds0, p0, q0, hargs, rfl, rfl, h0, r0⟩ := trodAll_cons hA
 obtain ⟨rfl, rfl, rfl⟩ := trodAll_nil r0
 obtain rfl : args = #[v0] := by cases args; simp_all
 obtain ⟨rfl, rfl⟩ := trodVars_none hV
 have j0 := h0
 have lt0 : ∀ x ∈ p0, x.block < W.heap.size := by obtain ⟨m, hm⟩ := j0; exact DataW.trod_lt m _ _ _ hm
 obtain ⟨cs0, rfl, _⟩ := okWide_struct Try.underlying26 (hval 0 26 v0 rfl rfl)
 obtain ⟨fu0, hf0⟩ := h0
 obtain ⟨T0, lv0, hcs0, hLI0, wT0⟩ := open_exp fu0 _ _ hf0
 obtain ⟨pp0, cl0, hlv0, _⟩ := hLI0.form
 obtain ⟨ln0, hln0⟩ : ∃ ln, T0.l.length = ln := ⟨_, rfl⟩
 rw [hln0] at hlv0
 subst hlv0
 obtain rfl : cs0 = (cellsT T0 (.slice pp0 ln0 cl0)).toArray := by rw [← hcs0]; simp [Value.cells]
 clear hA0 hval0
 refine (walk T0 pp0 ln0 cl0 wT0 hLI0).mono fun e W' ⟨he, bel⟩ => ?_
 subst he
 exact ⟨_, rfl, _, _, _, [], _, [], hW', trodAll_mk1 (shut_bool Try.underlying4 _), (trodAll_cons_mk (Below.trod laidOut (by kernel_rfl) (of_decide_eq_true (by kernel_rfl)) j0 bel lt0) trodAll_mk0), rfl, Below.frame bel _, fun h => by cases h⟩

theorem over : Rows.relRefsRow.holds Try.pinned (OpenSpec.ofChange Rows.relRefsSpec) :=
 OpenClaim.holds_of_wide 6 Try.f6 rfl rfl rfl rfl rfl rfl rfl ⟨rfl, rfl, rfl, rfl, rfl⟩ rfl rfl rfl rfl rfl (by kernel_rfl) Try.func6 (by kernel_rfl)
   (of_decide_eq_true (by kernel_rfl)) (by unfold Func.isWrapper; first | (rw [if_pos (by decide +kernel)]; kernel_rfl) | (rw [if_neg (by decide +kernel)]; exact ⟨rfl, rfl⟩))
   (fun os started H enc _ => lifted os started H enc)

theorem proved : Rows.RelRefsSaid := over
end Go.Proofs.Ytcggiljlilbdfaa.relRefs
namespace Go.Proofs.Ytcggiljlilbdfaa
theorem relRefs_holds : Rows.RelRefsSaid := relRefs.proved
end Go.Proofs.Ytcggiljlilbdfaa
