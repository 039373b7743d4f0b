/-
 DepsAsk is proved: for every list of acts and every place the call returns true and the arguments read as they did. No condition but the form's own reach.
-/
import Derived.Test.YtjpiphnbadggoaaA7
import Derived.Test.YtjpiphnbadggoaaRows
import Derived.ProofKit
import Derived.OpenShut
import Derived.ChangeOld
import Derived.SizedLaws
import Derived.Lib.SmallJoins
namespace Go.Proofs.Ytjpiphnbadggoaa.depsAsk
open Go.ChangeShapes Go.WideShapes Go.ChangeAt Go.RowKit Go.Joins
set_option maxHeartbeats 6000000
set_option maxRecDepth 100000

theorem own : ownKnob Try.prog.godebug = none := by kernel_rfl
theorem eq_rc (x1 x2 x3 x4 : Int) (w : World) : Sem.run Try.prog (Op.equalIn 10000 32 (.agg #[.int .i64 x1, .int .i64 x2, .int .i64 x3, .int .i64 x4]) (.agg #[.int .i64 x1, .int .i64 x2, .int .i64 x3, .int .i64 x4])) w = .ok true w := by
 have u3 := Try.underlying3
 have a3 := Try.isAgg3
 have z3 := Try.sizeOf3
 have hS : Try.prog.underlying 32 = some (.struct (Try.prog.fieldsOf 32)) := by kernel_rfl
 have hp : Try.prog.stoodInHeld 32 = false := by kernel_rfl
 rw [show (10000 : Nat) = 9999 + 1 from rfl, run_equalIn_agg w 9999 32 _ _ hS hp]
 simp only [Program.fieldsOf, Try.underlying32]
 go_simp
theorem gd_rc (x y : Array Value) (op : BinOp) (a b : Operand) (w : World) : (eqGuard op 32 a b (.agg x) (.agg y)).run Try.prog w = .ok () w := run_eqGuard_agg w op 32 a b x y (by kernel_rfl)
theorem need_8 (Z : List Zt) (k : Nat) (a : Pl) : (needS (actK Z k) a).length ≤ 1000 := by
 by_cases he : needS (actK Z k) a = []
 · rw [he]; simp
 · obtain ⟨e, he, e2⟩ := need_from he
   rw [← e2]
   exact act_8 Z k e he
theorem walk (l0 : List Zt) (pp0 : Option Addr) (ln0 cl0 : Nat) (Lp1 Lq1 : Int) {w : World} (rd0 : RdG cZ 3 w (.slice pp0 ln0 cl0) l0) (az0 : ∀ z ∈ l0, RdR w z.v z.e.2) (wp : (Lit.int .i64 Lp1).wf = true) (wq : (Lit.int .i64 Lq1).wf = true) :
   Calls Try.prog 3 #[.slice pp0 ln0 cl0, .agg #[.int .i64 Lp1, .int .i64 Lq1]] w fun e w' => e = .returned (.bool true) ∧ Ext w w' := by
 have ip : I64 Lp1 := by have := wp; simp [Lit.wf] at this; unfold I64; exact this
 have iq : I64 Lq1 := by have := wq; simp [Lit.wf] at this; unfold I64; exact this
 have cB := fun V (e : Ext w V) => begins_any V (.slice pp0 ln0 cl0) l0 (rd0.ext e) (fun z hz => (az0 z hz).ext e)
 have HI : Hid (I64 Lp1 ∧ I64 Lq1) := ⟨ip, iq⟩
 clear rd0 az0 ip iq wp wq
 go_enter Try.func3, Try.ntmps3
 go_wp2_with fail
 refine (cB _ ((Ext.refl _).alloc _)).mono ?_
 rintro e w2 ⟨b, bm, g, vs, rfl, D2, M2, E2⟩
 have HE2 : Hid (Ext w w2) := ((Ext.refl w).alloc _).trans E2
 have mkS : Hid (∀ V, Ext w2 V → (fun V => V.cell? ⟨w.heap.size, 0, none⟩ = some (.int .i64 Lp1) ∧ V.cell? ⟨w.heap.size, 1, none⟩ = some (.int .i64 Lq1)) V) := fun V e => box2 (E2.trans e)
 have HN : Hid ((actK l0 30).length ≤ 30) := D2.n
 obtain ⟨nd, hnd⟩ : ∃ nd, needS (actK l0 30) (Lp1, Lq1) = nd := ⟨_, rfl⟩
 obtain ⟨nn, hnn⟩ : ∃ nn, nd.length = nn := ⟨_, rfl⟩
 have HNN : Hid (nd.length = nn ∧ nn ≤ 1000) := ⟨hnn, by rw [← hnn, ← hnd]; exact need_8 _ _ _⟩
 have cN := fun V (e : Ext w2 V) => needs_any V _ b 30 g vs (actK l0 30) Lp1 Lq1 (D2.ext e) HI.out.1 HI.out.2
 have cMN := fun V (e : Ext w2 V) => mneeds_any V _ bm (actK l0 30) Lp1 Lq1 (M2.ext e) D2.ok (Nat.le_trans HN.out (by decide))
 rw [hnd] at cN cMN
 have cC := fun V (e : Ext w2 V) => cyclic_any V _ b 30 g vs (actK l0 30) Lp1 Lq1 (D2.ext e) (by decide)
 have cD := fun V (e : Ext w2 V) => direct_any V _ b 30 g vs (actK l0 30) Lp1 Lq1 (D2.ext e) (by decide)
 have cMC := fun V (e : Ext w2 V) => mcyclic_any V _ bm (actK l0 30) Lp1 Lq1 (M2.ext e) (Nat.le_trans HN.out (by decide)) (act_8 l0 30)
 have cMD := fun V (e : Ext w2 V) => mdirect_any V _ bm (actK l0 30) Lp1 Lq1 (M2.ext e) (Nat.le_trans HN.out (by decide)) (act_8 l0 30)
 clear cB D2 M2 E2 hnd hnn
 go_upto_region 4 with fail
 refine wp_region_held_drew (S := (fun V => V.cell? ⟨w.heap.size, 0, none⟩ = some (.int .i64 Lp1) ∧ V.cell? ⟨w.heap.size, 1, none⟩ = some (.int .i64 Lq1))) (by kernel_rfl) ?_ (fun hHeld0 => ?_)
 · (refine mkS.out _ ?_; ((with_reducible (repeat (first | assumption | exact Ext.refl _ | apply Ext.drew | apply Ext.drewN | apply Ext.alloc))); done))
 refine wpAnyH_take (i := 0) (oi := ⟨some 19, .move (.tmp 5), 25, "law.go:58", #[], none⟩) (v := ?_) rfl (by kernel_rfl) (by kernel_rfl) (by kernel_rfl) (fun _ _ _ h => h) (Or.inl ⟨by rfl, ?_⟩) (by assumption) ?_
 rotate_left
 · intro w hSw; (try dsimp only at hSw); first | (go_simp; done) | (go_simp; with_reducible rfl)
 try go_frame
 refine wpAnyH_take (i := 1) (oi := ⟨some 20, .fieldAddr 24 (.tmp 3) 0, 0, "law.go:58", #[], none⟩) (v := ?_) rfl (by kernel_rfl) (by kernel_rfl) (by kernel_rfl) (fun _ _ _ h => h) (Or.inl ⟨by rfl, ?_⟩) (by assumption) ?_
 rotate_left
 · intro w hSw; (try dsimp only at hSw); first | (go_simp; done) | (go_simp; with_reducible rfl)
 try go_frame
 refine wpAnyH_take (i := 2) (oi := ⟨some 21, .load 3 (.tmp 20), 3, "law.go:58", #[⟨1, .data⟩], none⟩) (v := ?_) rfl (by kernel_rfl) (by kernel_rfl) (by kernel_rfl) (fun _ _ _ h => h) (Or.inl ⟨by rfl, ?_⟩) (by assumption) ?_
 rotate_left
 · intro w hSw; (try dsimp only at hSw); first | (go_simp; done) | (go_simp; with_reducible rfl)
 try go_frame
 refine wpAnyH_take (i := 3) (oi := ⟨some 22, .fieldAddr 24 (.tmp 3) 1, 0, "law.go:58", #[], none⟩) (v := ?_) rfl (by kernel_rfl) (by kernel_rfl) (by kernel_rfl) (fun _ _ _ h => h) (Or.inl ⟨by rfl, ?_⟩) (by assumption) ?_
 rotate_left
 · intro w hSw; (try dsimp only at hSw); first | (go_simp; done) | (go_simp; with_reducible rfl)
 try go_frame
 refine wpAnyH_take (i := 4) (oi := ⟨some 23, .load 3 (.tmp 22), 3, "law.go:58", #[⟨3, .data⟩], none⟩) (v := ?_) rfl (by kernel_rfl) (by kernel_rfl) (by kernel_rfl) (fun _ _ _ h => h) (Or.inl ⟨by rfl, ?_⟩) (by assumption) ?_
 rotate_left
 · intro w hSw; (try dsimp only at hSw); first | (go_simp; done) | (go_simp; with_reducible rfl)
 try go_frame
 refine wpAnyH_take (i := 6) (oi := ⟨some 25, .move (.tmp 6), 26, "law.go:58", #[], none⟩) (v := ?_) rfl (by kernel_rfl) (by kernel_rfl) (by kernel_rfl) (fun _ _ _ h => h) (Or.inl ⟨by rfl, ?_⟩) (by assumption) ?_
 rotate_left
 · intro w hSw; (try dsimp only at hSw); first | (go_simp; done) | (go_simp; with_reducible rfl)
 try go_frame
 refine wpAnyH_take (i := 7) (oi := ⟨some 26, .fieldAddr 24 (.tmp 3) 0, 0, "law.go:58", #[], none⟩) (v := ?_) rfl (by kernel_rfl) (by kernel_rfl) (by kernel_rfl) (fun _ _ _ h => h) (Or.inl ⟨by rfl, ?_⟩) (by assumption) ?_
 rotate_left
 · intro w hSw; (try dsimp only at hSw); first | (go_simp; done) | (go_simp; with_reducible rfl)
 try go_frame
 refine wpAnyH_take (i := 8) (oi := ⟨some 27, .load 3 (.tmp 26), 3, "law.go:58", #[⟨7, .data⟩], none⟩) (v := ?_) rfl (by kernel_rfl) (by kernel_rfl) (by kernel_rfl) (fun _ _ _ h => h) (Or.inl ⟨by rfl, ?_⟩) (by assumption) ?_
 rotate_left
 · intro w hSw; (try dsimp only at hSw); first | (go_simp; done) | (go_simp; with_reducible rfl)
 try go_frame
 refine wpAnyH_take (i := 9) (oi := ⟨some 28, .fieldAddr 24 (.tmp 3) 1, 0, "law.go:58", #[], none⟩) (v := ?_) rfl (by kernel_rfl) (by kernel_rfl) (by kernel_rfl) (fun _ _ _ h => h) (Or.inl ⟨by rfl, ?_⟩) (by assumption) ?_
 rotate_left
 · intro w hSw; (try dsimp only at hSw); first | (go_simp; done) | (go_simp; with_reducible rfl)
 try go_frame
 refine wpAnyH_take (i := 10) (oi := ⟨some 29, .load 3 (.tmp 28), 3, "law.go:58", #[⟨9, .data⟩], none⟩) (v := ?_) rfl (by kernel_rfl) (by kernel_rfl) (by kernel_rfl) (fun _ _ _ h => h) (Or.inl ⟨by rfl, ?_⟩) (by assumption) ?_
 rotate_left
 · intro w hSw; (try dsimp only at hSw); first | (go_simp; done) | (go_simp; with_reducible rfl)
 try go_frame
 refine wpAnyH_ready (rs := [5]) (by kernel_rfl) (by simp) ?_
 refine AllReadyH.cons (o := ⟨some 24, .call { callee := .value (.func 9), args := #[.tmp 19, .tmp 21, .tmp 23], argTypes := #[25, 3, 3] }, 29, "law.go:58", #[⟨0, .data⟩, ⟨2, .data⟩, ⟨4, .data⟩], none⟩) rfl (fun K hK => ?_) AllReadyH.nil
 go_simp
 refine (cN _ (by with_reducible (repeat (first | assumption | exact Ext.refl _ | apply Ext.drew | apply Ext.drewN | apply Ext.alloc)))).mono ?_; rintro e x1 ⟨va, rfl, O1, E1⟩; have X1 : Ext w2 x1 := Ext.trans (by with_reducible (repeat (first | assumption | exact Ext.refl _ | apply Ext.drew | apply Ext.drewN | apply Ext.alloc))) E1; obtain ⟨ap, ac, hva, _⟩ := own_form O1; rw [HNN.out.1] at hva; subst hva; have H1 : Hid (RdR x1 (.slice ap nn ac) nd) := own_rdG cR_len O1 rfl; clear E1 O1
 try go_wp2_with fail
 refine hK.out _ _ ?_ (fun hHeld1 => ?_)
 · (try dsimp only); (refine mkS.out _ ?_; ((with_reducible (repeat (first | assumption | exact Ext.refl _ | apply Ext.drew | apply Ext.drewN | apply Ext.alloc))); done))
 clear hK K hHeld0
 try go_frame
 refine wpAnyH_ready (rs := [11]) (by kernel_rfl) (by simp) ?_
 refine AllReadyH.cons (o := ⟨some 30, .call { callee := .value (.func 10), args := #[.tmp 25, .tmp 27, .tmp 29], argTypes := #[26, 3, 3] }, 29, "law.go:58", #[⟨6, .data⟩, ⟨8, .data⟩, ⟨10, .data⟩, ⟨5, .chain⟩], none⟩) rfl (fun K hK => ?_) AllReadyH.nil
 go_simp
 refine (cMN _ X1).mono ?_; rintro e x2 ⟨vb, rfl, R2, rfl⟩; obtain ⟨bp, bc, hvb, _⟩ := R2.form; rw [HNN.out.1] at hvb; subst hvb; have H2 : Hid (RdR x2 (.slice bp nn bc) nd) := R2; clear R2
 try go_wp2_with fail
 refine hK.out _ _ ?_ (fun hHeld2 => ?_)
 · (try dsimp only); (refine mkS.out _ ?_; ((with_reducible (repeat (first | assumption | exact Ext.refl _ | apply Ext.drew | apply Ext.drewN | apply Ext.alloc))); done))
 clear hK K hHeld1
 try go_frame
 refine wpAnyH_take (i := 12) (oi := ⟨some 8, .assign (.tmp 24), 29, "law.go:58", #[⟨5, .data⟩, ⟨11, .chain⟩, ⟨0, .phase⟩, ⟨1, .phase⟩, ⟨2, .phase⟩, ⟨3, .phase⟩, ⟨4, .phase⟩, ⟨5, .phase⟩, { on := 6, ground := Ground.textOnly Departure.lateStores }, { on := 7, ground := Ground.textOnly Departure.lateStores }, { on := 8, ground := Ground.textOnly Departure.lateStores }, { on := 9, ground := Ground.textOnly Departure.lateStores }, { on := 10, ground := Ground.textOnly Departure.lateStores }, { on := 11, ground := Ground.textOnly Departure.lateStoresUnsure }], none⟩) (v := ?_) rfl (by kernel_rfl) (by kernel_rfl) (by kernel_rfl) (fun _ _ _ h => h) (Or.inl ⟨by rfl, ?_⟩) (by assumption) ?_
 rotate_left
 · intro w hSw; (try dsimp only at hSw); first | (go_simp; done) | (go_simp; with_reducible rfl)
 try go_frame
 refine wpAnyH_take (i := 13) (oi := ⟨some 9, .assign (.tmp 30), 29, "law.go:58", #[⟨11, .data⟩, ⟨12, .chain⟩, ⟨0, .phase⟩, ⟨1, .phase⟩, ⟨2, .phase⟩, ⟨3, .phase⟩, ⟨4, .phase⟩, ⟨5, .phase⟩, ⟨6, .phase⟩, ⟨7, .phase⟩, ⟨8, .phase⟩, ⟨9, .phase⟩, ⟨10, .phase⟩, ⟨11, .phase⟩, ⟨12, .phase⟩], none⟩) (v := ?_) rfl (by kernel_rfl) (by kernel_rfl) (by kernel_rfl) (fun _ _ _ h => h) (Or.inl ⟨by rfl, ?_⟩) (by assumption) ?_
 rotate_left
 · intro w hSw; (try dsimp only at hSw); first | (go_simp; done) | (go_simp; with_reducible rfl)
 try go_frame
 refine wpAnyH_done (by kernel_rfl) ?_ _
 have HX : Hid (Ext w2 x2 ∧ RdR x2 (.slice ap nn ac) nd ∧ RdR x2 (.slice bp nn bc) nd) := ⟨X1, H1.out, H2.out⟩
 clear cN cMN X1 H1 H2
 go_wp2_with fail
 go_loopw [10] (fun x wr => ∃ k : Nat, x = .int .i64 (k : Int) ∧ k ≤ nn ∧ Ext x2 wr) (fun x _ => nn - (intOf x).toNat)
 case atStart => exact ⟨0, rfl, Nat.zero_le _, Ext.refl _⟩
 case round =>
   obtain ⟨k, rfl, hk, hE⟩ := hrel
   have wk := wrapI k (by have := HNN.out; omega)
   have HE : Hid (Ext x2 wr) := hE
   rcases Nat.lt_or_ge k nn with hlt | hge
   · have hltI : (k : Int) < (nn : Int) := Int.ofNat_lt.2 hlt
     obtain ⟨t, ht⟩ : ∃ t, nd[k]? = some t := ⟨_, List.getElem?_eq_getElem (by rw [HNN.out.1]; exact hlt)⟩
     obtain ⟨ab, ao, rfl, _, e1, e2, e3, e4⟩ := Rd4.cell (HX.out.2.1.ext hE) ht rfl
     obtain ⟨bb, bo, rfl, _, f1, f2, f3, f4⟩ := Rd4.cell (HX.out.2.2.ext hE) ht rfl
     have qE := eq_rc t.p t.q t.u t.v
     have qG := gd_rc
     clear hE ht cC cD cMC cMD
     go_upto_region 10 with fail
     go_quiet (fail)
     clear qE qG e1 e2 e3 e4 f1 f2 f3 f4
     go_wp2_with fail
     go_roundw
     case rel => exact ⟨k + 1, by rw [wk], hlt, HE.out.trans (by with_reducible (repeat (first | assumption | exact Ext.refl _ | apply Ext.drew | apply Ext.drewN | apply Ext.alloc)))⟩
     case measure => rw [wk]; simp [intOf]; exact less_in hlt
   · have hltI : ¬ (k : Int) < (nn : Int) := fun h => Nat.not_lt.2 hge (Int.ofNat_lt.1 h)
     have HW : Ext w2 wr := HX.out.1.trans hE
     clear hE wk
     go_upto_region 12 with fail
     refine wp_region_held_drew (S := (fun V => V.cell? ⟨w.heap.size, 0, none⟩ = some (.int .i64 Lp1) ∧ V.cell? ⟨w.heap.size, 1, none⟩ = some (.int .i64 Lq1))) (by kernel_rfl) ?_ (fun hHeld0 => ?_)
     · (refine mkS.out _ ?_; ((with_reducible (repeat (first | assumption | exact Ext.refl _ | apply Ext.drew | apply Ext.drewN | apply Ext.alloc))); done))
     refine wpAnyH_take (i := 0) (oi := ⟨some 51, .move (.tmp 5), 25, "law.go:67", #[], none⟩) (v := ?_) rfl (by kernel_rfl) (by kernel_rfl) (by kernel_rfl) (fun _ _ _ h => h) (Or.inl ⟨by rfl, ?_⟩) (by assumption) ?_
     rotate_left
     · intro w hSw; (try dsimp only at hSw); first | (go_simp; done) | (go_simp; with_reducible rfl)
     try go_frame
     refine wpAnyH_take (i := 1) (oi := ⟨some 52, .fieldAddr 24 (.tmp 3) 0, 0, "law.go:67", #[], none⟩) (v := ?_) rfl (by kernel_rfl) (by kernel_rfl) (by kernel_rfl) (fun _ _ _ h => h) (Or.inl ⟨by rfl, ?_⟩) (by assumption) ?_
     rotate_left
     · intro w hSw; (try dsimp only at hSw); first | (go_simp; done) | (go_simp; with_reducible rfl)
     try go_frame
     refine wpAnyH_take (i := 2) (oi := ⟨some 53, .load 3 (.tmp 52), 3, "law.go:67", #[⟨1, .data⟩], none⟩) (v := ?_) rfl (by kernel_rfl) (by kernel_rfl) (by kernel_rfl) (fun _ _ _ h => h) (Or.inl ⟨by rfl, ?_⟩) (by assumption) ?_
     rotate_left
     · intro w hSw; (try dsimp only at hSw); first | (go_simp; done) | (go_simp; with_reducible rfl)
     try go_frame
     refine wpAnyH_take (i := 3) (oi := ⟨some 54, .fieldAddr 24 (.tmp 3) 1, 0, "law.go:67", #[], none⟩) (v := ?_) rfl (by kernel_rfl) (by kernel_rfl) (by kernel_rfl) (fun _ _ _ h => h) (Or.inl ⟨by rfl, ?_⟩) (by assumption) ?_
     rotate_left
     · intro w hSw; (try dsimp only at hSw); first | (go_simp; done) | (go_simp; with_reducible rfl)
     try go_frame
     refine wpAnyH_take (i := 4) (oi := ⟨some 55, .load 3 (.tmp 54), 3, "law.go:67", #[⟨3, .data⟩], none⟩) (v := ?_) rfl (by kernel_rfl) (by kernel_rfl) (by kernel_rfl) (fun _ _ _ h => h) (Or.inl ⟨by rfl, ?_⟩) (by assumption) ?_
     rotate_left
     · intro w hSw; (try dsimp only at hSw); first | (go_simp; done) | (go_simp; with_reducible rfl)
     try go_frame
     refine wpAnyH_take (i := 6) (oi := ⟨some 57, .move (.tmp 6), 26, "law.go:67", #[], none⟩) (v := ?_) rfl (by kernel_rfl) (by kernel_rfl) (by kernel_rfl) (fun _ _ _ h => h) (Or.inl ⟨by rfl, ?_⟩) (by assumption) ?_
     rotate_left
     · intro w hSw; (try dsimp only at hSw); first | (go_simp; done) | (go_simp; with_reducible rfl)
     try go_frame
     refine wpAnyH_take (i := 7) (oi := ⟨some 58, .fieldAddr 24 (.tmp 3) 0, 0, "law.go:67", #[], none⟩) (v := ?_) rfl (by kernel_rfl) (by kernel_rfl) (by kernel_rfl) (fun _ _ _ h => h) (Or.inl ⟨by rfl, ?_⟩) (by assumption) ?_
     rotate_left
     · intro w hSw; (try dsimp only at hSw); first | (go_simp; done) | (go_simp; with_reducible rfl)
     try go_frame
     refine wpAnyH_take (i := 8) (oi := ⟨some 59, .load 3 (.tmp 58), 3, "law.go:67", #[⟨7, .data⟩], none⟩) (v := ?_) rfl (by kernel_rfl) (by kernel_rfl) (by kernel_rfl) (fun _ _ _ h => h) (Or.inl ⟨by rfl, ?_⟩) (by assumption) ?_
     rotate_left
     · intro w hSw; (try dsimp only at hSw); first | (go_simp; done) | (go_simp; with_reducible rfl)
     try go_frame
     refine wpAnyH_take (i := 9) (oi := ⟨some 60, .fieldAddr 24 (.tmp 3) 1, 0, "law.go:67", #[], none⟩) (v := ?_) rfl (by kernel_rfl) (by kernel_rfl) (by kernel_rfl) (fun _ _ _ h => h) (Or.inl ⟨by rfl, ?_⟩) (by assumption) ?_
     rotate_left
     · intro w hSw; (try dsimp only at hSw); first | (go_simp; done) | (go_simp; with_reducible rfl)
     try go_frame
     refine wpAnyH_take (i := 10) (oi := ⟨some 61, .load 3 (.tmp 60), 3, "law.go:67", #[⟨9, .data⟩], none⟩) (v := ?_) rfl (by kernel_rfl) (by kernel_rfl) (by kernel_rfl) (fun _ _ _ h => h) (Or.inl ⟨by rfl, ?_⟩) (by assumption) ?_
     rotate_left
     · intro w hSw; (try dsimp only at hSw); first | (go_simp; done) | (go_simp; with_reducible rfl)
     try go_frame
     refine wpAnyH_ready (rs := [5]) (by kernel_rfl) (by simp) ?_
     refine AllReadyH.cons (o := ⟨some 56, .call { callee := .value (.func 12), args := #[.tmp 51, .tmp 53, .tmp 55], argTypes := #[25, 3, 3] }, 34, "law.go:67", #[⟨0, .data⟩, ⟨2, .data⟩, ⟨4, .data⟩], none⟩) rfl (fun K hK => ?_) AllReadyH.nil
     go_simp
     refine (cD _ (by with_reducible (repeat (first | assumption | exact Ext.refl _ | apply Ext.drew | apply Ext.drewN | apply Ext.alloc)))).mono ?_; rintro e y1 ⟨d, hd, v1, rfl, O1, E1⟩; have Y1 : Ext w2 y1 := Ext.trans (by with_reducible (repeat (first | assumption | exact Ext.refl _ | apply Ext.drew | apply Ext.drewN | apply Ext.alloc))) E1; have K1 : Hid _ := And.intro hd (own_rdG cP_len O1 rfl); clear hd O1 E1
     try go_wp2_with fail
     refine hK.out _ _ ?_ (fun hHeld1 => ?_)
     · (try dsimp only); (refine mkS.out _ ?_; ((with_reducible (repeat (first | assumption | exact Ext.refl _ | apply Ext.drew | apply Ext.drewN | apply Ext.alloc))); done))
     clear hK K hHeld0
     try go_frame
     refine wpAnyH_ready (rs := [11]) (by kernel_rfl) (by simp) ?_
     refine AllReadyH.cons (o := ⟨some 62, .call { callee := .value (.func 13), args := #[.tmp 57, .tmp 59, .tmp 61], argTypes := #[26, 3, 3] }, 34, "law.go:67", #[⟨6, .data⟩, ⟨8, .data⟩, ⟨10, .data⟩, ⟨5, .chain⟩], none⟩) rfl (fun K hK => ?_) AllReadyH.nil
     go_simp
     refine (cMD _ Y1).mono ?_; rintro e y2 ⟨d2, v2, hd, rfl, R2, E2⟩; have hdd : d2 = d := ltp_one hd.1 K1.out.1.1 (fun x => by rw [hd.2.1, K1.out.1.2.1]); subst hdd; have Y2 : Ext w2 y2 := Y1.trans E2; have K2 : Hid _ := And.intro (K1.out.2.ext E2) (And.intro R2 hd.2.2); clear hd R2 E2 K1
     try go_wp2_with fail
     refine hK.out _ _ ?_ (fun hHeld2 => ?_)
     · (try dsimp only); (refine mkS.out _ ?_; ((with_reducible (repeat (first | assumption | exact Ext.refl _ | apply Ext.drew | apply Ext.drewN | apply Ext.alloc))); done))
     clear hK K hHeld1
     try go_frame
     refine wpAnyH_ready (rs := [12]) (by kernel_rfl) (by simp) ?_
     refine AllReadyH.cons (o := ⟨some 63, .call { callee := .value (.func 11), args := #[.tmp 56, .tmp 62], argTypes := #[34, 34] }, 4, "law.go:67", #[⟨5, .data⟩, ⟨11, .data⟩, ⟨11, .chain⟩], none⟩) rfl (fun K hK => ?_) AllReadyH.nil
     go_simp
     refine (psame_any y2 v1 v2 d2 d2 K2.out.1 K2.out.2.1 (by have := K2.out.2.2; have := HN.out; omega)).mono ?_; rintro e y3 ⟨he, E3⟩; rw [show decide (d2 = d2) = true by simp] at he; subst he; have Y3 : Ext w2 y3 := Y2.trans E3; clear E3 K2
     try go_wp2_with fail
     refine hK.out _ _ ?_ (fun hHeld3 => ?_)
     · (try dsimp only); (refine mkS.out _ ?_; ((with_reducible (repeat (first | assumption | exact Ext.refl _ | apply Ext.drew | apply Ext.drewN | apply Ext.alloc))); done))
     clear hK K hHeld2
     try go_frame
     refine wpAnyH_take (i := 13) (oi := ⟨some 64, .move (.tmp 63), 4, "law.go:67", #[⟨12, .data⟩, ⟨12, .chain⟩], none⟩) (v := ?_) rfl (by kernel_rfl) (by kernel_rfl) (by kernel_rfl) (fun _ _ _ h => h) (Or.inl ⟨by rfl, ?_⟩) (by assumption) ?_
     rotate_left
     · intro w hSw; (try dsimp only at hSw); first | (go_simp; done) | (go_simp; with_reducible rfl)
     try go_frame
     refine wpAnyH_take (i := 14) (oi := ⟨some 65, .move (.tmp 5), 25, "law.go:67", #[⟨13, .guard⟩], some (13, true)⟩) (v := ?_) rfl (by kernel_rfl) (by kernel_rfl) (by kernel_rfl) (fun _ _ _ h => h) (Or.inl ⟨by rfl, ?_⟩) (by assumption) ?_
     rotate_left
     · intro w hSw; (try dsimp only at hSw); first | (go_simp; done) | (go_simp; with_reducible rfl)
     try go_frame
     refine wpAnyH_take (i := 15) (oi := ⟨some 66, .fieldAddr 24 (.tmp 3) 0, 0, "law.go:67", #[⟨13, .guard⟩], some (13, true)⟩) (v := ?_) rfl (by kernel_rfl) (by kernel_rfl) (by kernel_rfl) (fun _ _ _ h => h) (Or.inl ⟨by rfl, ?_⟩) (by assumption) ?_
     rotate_left
     · intro w hSw; (try dsimp only at hSw); first | (go_simp; done) | (go_simp; with_reducible rfl)
     try go_frame
     refine wpAnyH_take (i := 16) (oi := ⟨some 67, .load 3 (.tmp 66), 3, "law.go:67", #[⟨15, .data⟩, ⟨13, .guard⟩], some (13, true)⟩) (v := ?_) rfl (by kernel_rfl) (by kernel_rfl) (by kernel_rfl) (fun _ _ _ h => h) (Or.inl ⟨by rfl, ?_⟩) (by assumption) ?_
     rotate_left
     · intro w hSw; (try dsimp only at hSw); first | (go_simp; done) | (go_simp; with_reducible rfl)
     try go_frame
     refine wpAnyH_take (i := 17) (oi := ⟨some 68, .fieldAddr 24 (.tmp 3) 1, 0, "law.go:67", #[⟨13, .guard⟩], some (13, true)⟩) (v := ?_) rfl (by kernel_rfl) (by kernel_rfl) (by kernel_rfl) (fun _ _ _ h => h) (Or.inl ⟨by rfl, ?_⟩) (by assumption) ?_
     rotate_left
     · intro w hSw; (try dsimp only at hSw); first | (go_simp; done) | (go_simp; with_reducible rfl)
     try go_frame
     refine wpAnyH_take (i := 18) (oi := ⟨some 69, .load 3 (.tmp 68), 3, "law.go:67", #[⟨17, .data⟩, ⟨13, .guard⟩], some (13, true)⟩) (v := ?_) rfl (by kernel_rfl) (by kernel_rfl) (by kernel_rfl) (fun _ _ _ h => h) (Or.inl ⟨by rfl, ?_⟩) (by assumption) ?_
     rotate_left
     · intro w hSw; (try dsimp only at hSw); first | (go_simp; done) | (go_simp; with_reducible rfl)
     try go_frame
     refine wpAnyH_take (i := 20) (oi := ⟨some 71, .move (.tmp 6), 26, "law.go:67", #[⟨13, .guard⟩], some (13, true)⟩) (v := ?_) rfl (by kernel_rfl) (by kernel_rfl) (by kernel_rfl) (fun _ _ _ h => h) (Or.inl ⟨by rfl, ?_⟩) (by assumption) ?_
     rotate_left
     · intro w hSw; (try dsimp only at hSw); first | (go_simp; done) | (go_simp; with_reducible rfl)
     try go_frame
     refine wpAnyH_take (i := 21) (oi := ⟨some 72, .fieldAddr 24 (.tmp 3) 0, 0, "law.go:67", #[⟨13, .guard⟩], some (13, true)⟩) (v := ?_) rfl (by kernel_rfl) (by kernel_rfl) (by kernel_rfl) (fun _ _ _ h => h) (Or.inl ⟨by rfl, ?_⟩) (by assumption) ?_
     rotate_left
     · intro w hSw; (try dsimp only at hSw); first | (go_simp; done) | (go_simp; with_reducible rfl)
     try go_frame
     refine wpAnyH_take (i := 22) (oi := ⟨some 73, .load 3 (.tmp 72), 3, "law.go:67", #[⟨21, .data⟩, ⟨13, .guard⟩], some (13, true)⟩) (v := ?_) rfl (by kernel_rfl) (by kernel_rfl) (by kernel_rfl) (fun _ _ _ h => h) (Or.inl ⟨by rfl, ?_⟩) (by assumption) ?_
     rotate_left
     · intro w hSw; (try dsimp only at hSw); first | (go_simp; done) | (go_simp; with_reducible rfl)
     try go_frame
     refine wpAnyH_take (i := 23) (oi := ⟨some 74, .fieldAddr 24 (.tmp 3) 1, 0, "law.go:67", #[⟨13, .guard⟩], some (13, true)⟩) (v := ?_) rfl (by kernel_rfl) (by kernel_rfl) (by kernel_rfl) (fun _ _ _ h => h) (Or.inl ⟨by rfl, ?_⟩) (by assumption) ?_
     rotate_left
     · intro w hSw; (try dsimp only at hSw); first | (go_simp; done) | (go_simp; with_reducible rfl)
     try go_frame
     refine wpAnyH_take (i := 24) (oi := ⟨some 75, .load 3 (.tmp 74), 3, "law.go:67", #[⟨23, .data⟩, ⟨13, .guard⟩], some (13, true)⟩) (v := ?_) rfl (by kernel_rfl) (by kernel_rfl) (by kernel_rfl) (fun _ _ _ h => h) (Or.inl ⟨by rfl, ?_⟩) (by assumption) ?_
     rotate_left
     · intro w hSw; (try dsimp only at hSw); first | (go_simp; done) | (go_simp; with_reducible rfl)
     try go_frame
     refine wpAnyH_ready (rs := [19]) (by kernel_rfl) (by simp) ?_
     refine AllReadyH.cons (o := ⟨some 70, .call { callee := .value (.func 14), args := #[.tmp 65, .tmp 67, .tmp 69], argTypes := #[25, 3, 3] }, 4, "law.go:67", #[⟨14, .data⟩, ⟨16, .data⟩, ⟨18, .data⟩, ⟨13, .chain⟩, ⟨13, .guard⟩], some (13, true)⟩) rfl (fun K hK => ?_) AllReadyH.nil
     go_simp
     refine (cC _ Y3).mono ?_; rintro e y4 ⟨t, rfl, ht, E4⟩; have Y4 : Ext w2 y4 := Y3.trans E4; have HT : Hid (t = true ↔ Rch (actK l0 30) (dirS (actK l0 30) (Lp1, Lq1)) (Lp1, Lq1)) := ht; clear ht E4
     try go_wp2_with fail
     refine hK.out _ _ ?_ (fun hHeld4 => ?_)
     · (try dsimp only); (refine mkS.out _ ?_; ((with_reducible (repeat (first | assumption | exact Ext.refl _ | apply Ext.drew | apply Ext.drewN | apply Ext.alloc))); done))
     clear hK K hHeld3
     try go_frame
     refine wpAnyH_ready (rs := [25]) (by kernel_rfl) (by simp) ?_
     refine AllReadyH.cons (o := ⟨some 76, .call { callee := .value (.func 15), args := #[.tmp 71, .tmp 73, .tmp 75], argTypes := #[26, 3, 3] }, 4, "law.go:67", #[⟨20, .data⟩, ⟨22, .data⟩, ⟨24, .data⟩, ⟨19, .chain⟩, ⟨13, .guard⟩], some (13, true)⟩) rfl (fun K hK => ?_) AllReadyH.nil
     go_simp
     refine (cMC _ Y4).mono ?_; rintro e y5 ⟨t2, rfl, ht, E5⟩; have Y5 : Ext w2 y5 := Y4.trans E5; have htt : t2 = t := Bool.eq_iff_iff.2 (ht.trans HT.out.symm); subst htt; clear ht E5 HT; have tt : (t2 == t2) = true := by simp
     try go_wp2_with fail
     refine hK.out _ _ ?_ (fun hHeld5 => ?_)
     · (try dsimp only); (refine mkS.out _ ?_; ((with_reducible (repeat (first | assumption | exact Ext.refl _ | apply Ext.drew | apply Ext.drewN | apply Ext.alloc))); done))
     clear hK K hHeld4
     try go_frame
     refine wpAnyH_take (i := 26) (oi := ⟨some 77, .binOp .eql 4 (.tmp 70) (.tmp 76) 4, 4, "law.go:67", #[⟨19, .data⟩, ⟨25, .data⟩, ⟨13, .guard⟩], some (13, true)⟩) (v := ?_) rfl (by kernel_rfl) (by kernel_rfl) (by kernel_rfl) (fun _ _ _ h => h) (Or.inl ⟨by rfl, ?_⟩) (by assumption) ?_
     rotate_left
     · intro w hSw; (try dsimp only at hSw); first | (go_simp; done) | (go_simp; with_reducible rfl)
     try go_frame
     refine wpAnyH_take (i := 27) (oi := ⟨some 78, .pick (.tmp 64) (.tmp 77) (.const (.bool false)), 4, "law.go:67", #[⟨13, .data⟩, ⟨26, .data⟩], none⟩) (v := ?_) rfl (by kernel_rfl) (by kernel_rfl) (by kernel_rfl) (fun _ _ _ h => h) (Or.inl ⟨by rfl, ?_⟩) (by assumption) ?_
     rotate_left
     · intro w hSw; (try dsimp only at hSw); first | (go_simp; done) | (go_simp; with_reducible rfl)
     try go_frame
     refine wpAnyH_take (i := 28) (oi := ⟨some 79, .move (.tmp 78), 4, "law.go:67", #[⟨27, .data⟩, ⟨25, .chain⟩], none⟩) (v := ?_) rfl (by kernel_rfl) (by kernel_rfl) (by kernel_rfl) (fun _ _ _ h => h) (Or.inl ⟨by rfl, ?_⟩) (by assumption) ?_
     rotate_left
     · intro w hSw; (try dsimp only at hSw); first | (go_simp; done) | (go_simp; with_reducible rfl)
     try go_frame
     refine wpAnyH_ready (rs := [29]) (by kernel_rfl) (by simp) ?_
     refine AllReadyH.cons (o := ⟨some 80, .call { callee := .value (.func 16), args := #[], argTypes := #[] }, 4, "law.go:67", #[⟨28, .chain⟩, ⟨28, .guard⟩], some (28, true)⟩) rfl (fun K hK => ?_) AllReadyH.nil
     go_simp
     refine (lives_any y5).mono ?_; rintro e y6 ⟨rfl, E6⟩; have Y6 : Ext w2 y6 := Y5.trans E6; clear E6
     try go_wp2_with fail
     refine hK.out _ _ ?_ (fun hHeld6 => ?_)
     · (try dsimp only); (refine mkS.out _ ?_; ((with_reducible (repeat (first | assumption | exact Ext.refl _ | apply Ext.drew | apply Ext.drewN | apply Ext.alloc))); done))
     clear hK K hHeld5
     try go_frame
     refine wpAnyH_take (i := 30) (oi := ⟨some 81, .pick (.tmp 79) (.tmp 80) (.const (.bool false)), 4, "law.go:67", #[⟨28, .data⟩, ⟨29, .data⟩], none⟩) (v := ?_) rfl (by kernel_rfl) (by kernel_rfl) (by kernel_rfl) (fun _ _ _ h => h) (Or.inl ⟨by rfl, ?_⟩) (by assumption) ?_
     rotate_left
     · intro w hSw; (try dsimp only at hSw); first | (go_simp; done) | (go_simp; with_reducible rfl)
     try go_frame
     refine wpAnyH_take (i := 31) (oi := ⟨some 4, .assign (.tmp 81), 4, "law.go:67", #[⟨30, .data⟩, ⟨29, .chain⟩, ⟨0, .phase⟩, ⟨1, .phase⟩, ⟨2, .phase⟩, ⟨3, .phase⟩, ⟨4, .phase⟩, ⟨5, .phase⟩, ⟨6, .phase⟩, ⟨7, .phase⟩, ⟨8, .phase⟩, ⟨9, .phase⟩, ⟨10, .phase⟩, ⟨11, .phase⟩, ⟨12, .phase⟩, ⟨13, .phase⟩, ⟨14, .phase⟩, ⟨15, .phase⟩, ⟨16, .phase⟩, ⟨17, .phase⟩, ⟨18, .phase⟩, ⟨19, .phase⟩, ⟨20, .phase⟩, ⟨21, .phase⟩, ⟨22, .phase⟩, ⟨23, .phase⟩, ⟨24, .phase⟩, ⟨25, .phase⟩, ⟨26, .phase⟩, ⟨27, .phase⟩, ⟨28, .phase⟩, ⟨29, .phase⟩, ⟨30, .phase⟩], none⟩) (v := ?_) rfl (by kernel_rfl) (by kernel_rfl) (by kernel_rfl) (fun _ _ _ h => h) (Or.inl ⟨by rfl, ?_⟩) (by assumption) ?_
     rotate_left
     · intro w hSw; (try dsimp only at hSw); first | (go_simp; done) | (go_simp; with_reducible rfl)
     try go_frame
     refine wpAnyH_done (by kernel_rfl) ?_ _
     have HZ : Hid (Ext w y6) := HE2.out.trans Y6
     clear mkS cC cD cMC cMD Y1 Y2 Y3 Y4 Y5 Y6
     go_wp2_with fail
     go_ret
     exact ⟨rfl, HZ.out⟩
theorem laidOut : laidOutB Try.prog = true := by kernel_rfl
theorem cells_place : Try.prog.cellsOf 24 = 2 := by kernel_rfl
set_option maxRecDepth 100000 in
theorem lifted (os : Os) (started : os.Started) (H : Type) (enc : TypeId × Value → H) :
   ReturnsInHanded {} Try.checked os 3 .any (Rows.depsAskSpec.pre6 enc Try.prog Try.f3 Rows.depsAskRow.domain false) (Rows.depsAskSpec.post enc Try.prog Try.f3 false true false false) := by
 refine returnsInHanded_of_change (C := Try.checked) own started (by kernel_rfl) Try.func3
   (ChangeSpec.witness6 (enc := enc) (C := Try.checked) false ⟨#[], #[.slice none 0 0, .agg #[.int .i64 0, .int .i64 0]], []⟩ 8 (by kernel_rfl) (by kernel_rfl) (by kernel_rfl) (by kernel_rfl)) ?_
 intro W base args ds gs before hval0 hW hcnd _
 have hval : ∀ (j : Nat) t v, Try.f3.params[j]? = some t → args[j]? = some v → Value.okWide Try.prog W .any base t v := hval0
 have hW' := hW
 obtain ⟨p, q, hA0, hV, rfl, hfz, hnd⟩ := hW
 have hA : DataW.TrodAll enc Try.prog W 0 (fun _ => true) true Try.f3.params.toList args.toList ds p := hA0
 rw [Try.params3] at hA hval
 obtain ⟨v0, vs0, d0, ds0, p0, q0, hargs, rfl, rfl, h0, r0⟩ := trodAll_cons hA
 obtain ⟨v1, vs1, d1, ds1, p1, q1, rfl, rfl, rfl, h1, r1⟩ := trodAll_cons r0
 obtain ⟨rfl, rfl, rfl⟩ := trodAll_nil r1
 obtain rfl : args = #[v0, v1] := by cases args; simp_all
 obtain ⟨rfl, rfl⟩ := trodVars_none hV
 have j0 := h0
 have lt0 : ∀ x ∈ p0, x.block < W.heap.size := by obtain ⟨m, hm⟩ := j0; exact DataW.trod_lt m _ _ _ hm
 obtain ⟨pp0, ln0, cl0, rfl⟩ := okWide_slice Try.underlying22 (hval 0 22 v0 rfl rfl)
 obtain ⟨l0, rd0, az0⟩ : ∃ l, RdG cZ 3 W (.slice pp0 ln0 cl0) l ∧ ∀ z ∈ l, RdR W z.v z.e.2 := by
   obtain ⟨fuel, hf⟩ := h0
   exact open_acts hf
 have j1 := h1
 have lt1 : ∀ x ∈ p1, x.block < W.heap.size := by obtain ⟨m, hm⟩ := j1; exact DataW.trod_lt m _ _ _ hm
 obtain ⟨cc0, cc1, yy0, yy1, m1, rfl, hd1, hp1, hy0, hy1⟩ := open_agg2 Try.underlying24 (by kernel_rfl) cells_place (hval 1 24 v1 rfl rfl) h1
 obtain ⟨Lp1, f0, _, wp1⟩ := DataW.trod_int Try.underlying3 hy0
 obtain ⟨Lq1, f1, _, wq1⟩ := DataW.trod_int Try.underlying3 hy1
 simp only [List.cons.injEq, and_true] at f0 f1
 obtain rfl := f0
 obtain rfl := f1
 clear hA0 hval0
 refine (walk l0 pp0 ln0 cl0 Lp1 Lq1 rd0 az0 wp1 wq1).mono fun e W' ⟨he, bel⟩ => ?_
 subst he
 exact ⟨_, rfl, _, _, _, [], _, [], hW', trodAll_mk1 (shut_bool Try.underlying4 _), (trodAll_cons_mk (Below.trod laidOut (by kernel_rfl) (of_decide_eq_true (by kernel_rfl)) j0 bel lt0) (trodAll_cons_mk (Below.trod laidOut (by kernel_rfl) (of_decide_eq_true (by kernel_rfl)) j1 bel lt1) trodAll_mk0)), rfl, Below.frame bel _, fun h => by cases h⟩

theorem over : Rows.depsAskRow.holds Try.pinned (OpenSpec.ofChange Rows.depsAskSpec) :=
 OpenClaim.holds_of_wide 3 Try.f3 rfl rfl rfl rfl rfl rfl rfl ⟨rfl, rfl, rfl, rfl, rfl⟩ rfl rfl rfl rfl rfl (by kernel_rfl) Try.func3 (by kernel_rfl)
   (of_decide_eq_true (by kernel_rfl)) (by unfold Func.isWrapper; first | (rw [if_pos (by decide +kernel)]; kernel_rfl) | (rw [if_neg (by decide +kernel)]; exact ⟨rfl, rfl⟩))
   (fun os started H enc _ => lifted os started H enc)

theorem proved : Rows.DepsAskSaid := over
end Go.Proofs.Ytjpiphnbadggoaa.depsAsk
namespace Go.Proofs.Ytjpiphnbadggoaa
theorem depsAsk_holds : Rows.DepsAskSaid := depsAsk.proved
end Go.Proofs.Ytjpiphnbadggoaa
