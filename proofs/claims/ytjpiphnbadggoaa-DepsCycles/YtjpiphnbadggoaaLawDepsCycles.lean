/-
 DepsCycles is proved: for every list of acts and every place the call returns true and the arguments read as they did. No condition but the form's own reach.
-/
import Derived.Test.YtjpiphnbadggoaaC6
import Derived.Test.YtjpiphnbadggoaaRows
import Derived.ProofKit
import Derived.OpenShut
import Derived.ChangeOld
import Derived.SizedLaws
import Derived.Lib.SmallJoins
namespace Go.Proofs.Ytjpiphnbadggoaa.depsCycles
open Go.ChangeShapes Go.WideShapes Go.ChangeAt Go.RowKit Go.Joins
set_option maxHeartbeats 6000000
set_option maxRecDepth 100000

theorem own : ownKnob Try.prog.godebug = none := by kernel_rfl
theorem eqT {σ : Sg} {a : Pl} {t : Bool} {d f : List Pl} (ht : t = true ↔ Rch σ (dirS σ a) a) (hd : IsDir σ a d) (hf : IsRch σ d f) : decide (a ∈ f) = t := by
 rw [Bool.eq_iff_iff, decide_eq_true_iff, hf.2.1, rch_congr hd.2.1, ht]
theorem walk (l0 : List Zt) (pp0 : Option Addr) (ln0 cl0 : Nat) (Lp1 Lq1 : Int) {w : World} (rd0 : RdG cZ 3 w (.slice pp0 ln0 cl0) l0) (az0 : ∀ z ∈ l0, RdR w z.v z.e.2) (_ : (Lit.int .i64 Lp1).wf = true) (_ : (Lit.int .i64 Lq1).wf = true) :
   Calls Try.prog 7 #[.slice pp0 ln0 cl0, .agg #[.int .i64 Lp1, .int .i64 Lq1]] w fun e w' => e = .returned (.bool true) ∧ Ext w w' := by
 have cB := fun V (e : Ext w V) => begins_any V (.slice pp0 ln0 cl0) l0 (rd0.ext e) (fun z hz => (az0 z hz).ext e)
 clear rd0 az0
 go_enter Try.func7, Try.ntmps7
 go_wp2_with fail
 refine (cB _ ((Ext.refl _).alloc _)).mono ?_
 rintro e w2 ⟨b, bm, g, vs, rfl, D2, _, E2⟩
 have HE2 : Hid (Ext w w2) := ((Ext.refl w).alloc _).trans E2
 have mkS : Hid (∀ V, Ext w2 V → (fun V => V.cell? ⟨w.heap.size, 0, none⟩ = some (.int .i64 Lp1) ∧ V.cell? ⟨w.heap.size, 1, none⟩ = some (.int .i64 Lq1)) V) := fun V e => box2 (E2.trans e)
 have cC := fun V (e : Ext w2 V) => cyclic_any V _ b 30 g vs (actK l0 30) Lp1 Lq1 (D2.ext e) (by decide)
 have cD := fun V (e : Ext w2 V) => direct_any V _ b 30 g vs (actK l0 30) Lp1 Lq1 (D2.ext e) (by decide)
 have HN : Hid ((actK l0 30).length ≤ 30) := D2.n
 have cR := fun V v d (e : Ext w2 V) (hd : IsDir (actK l0 30) (Lp1, Lq1) d) (h : RdP V v d) => reach_any V _ b 30 g vs (actK l0 30) v d (D2.ext e) (by decide) h (by have := hd.2.2; have := HN.out; omega)
 clear cB D2 E2
 go_upto_region 4 with fail
 refine wp_region_held_drew (S := (fun V => V.cell? ⟨w.heap.size, 0, none⟩ = some (.int .i64 Lp1) ∧ V.cell? ⟨w.heap.size, 1, none⟩ = some (.int .i64 Lq1))) (by kernel_rfl) ?_ (fun hHeld0 => ?_)
 · (refine mkS.out _ ?_; ((with_reducible (repeat (first | assumption | exact Ext.refl _ | apply Ext.drew | apply Ext.drewN | apply Ext.alloc))); done))
 refine wpAnyH_take (i := 0) (oi := ⟨some 16, .move (.tmp 5), 25, "law.go:119", #[], none⟩) (v := ?_) rfl (by kernel_rfl) (by kernel_rfl) (by kernel_rfl) (fun _ _ _ h => h) (Or.inl ⟨by rfl, ?_⟩) (by assumption) ?_
 rotate_left
 · intro w hSw; (try dsimp only at hSw); first | (go_simp; done) | (go_simp; with_reducible rfl)
 try go_frame
 refine wpAnyH_take (i := 1) (oi := ⟨some 17, .fieldAddr 24 (.tmp 3) 0, 0, "law.go:119", #[], none⟩) (v := ?_) rfl (by kernel_rfl) (by kernel_rfl) (by kernel_rfl) (fun _ _ _ h => h) (Or.inl ⟨by rfl, ?_⟩) (by assumption) ?_
 rotate_left
 · intro w hSw; (try dsimp only at hSw); first | (go_simp; done) | (go_simp; with_reducible rfl)
 try go_frame
 refine wpAnyH_take (i := 2) (oi := ⟨some 18, .load 3 (.tmp 17), 3, "law.go:119", #[⟨1, .data⟩], none⟩) (v := ?_) rfl (by kernel_rfl) (by kernel_rfl) (by kernel_rfl) (fun _ _ _ h => h) (Or.inl ⟨by rfl, ?_⟩) (by assumption) ?_
 rotate_left
 · intro w hSw; (try dsimp only at hSw); first | (go_simp; done) | (go_simp; with_reducible rfl)
 try go_frame
 refine wpAnyH_take (i := 3) (oi := ⟨some 19, .fieldAddr 24 (.tmp 3) 1, 0, "law.go:119", #[], none⟩) (v := ?_) rfl (by kernel_rfl) (by kernel_rfl) (by kernel_rfl) (fun _ _ _ h => h) (Or.inl ⟨by rfl, ?_⟩) (by assumption) ?_
 rotate_left
 · intro w hSw; (try dsimp only at hSw); first | (go_simp; done) | (go_simp; with_reducible rfl)
 try go_frame
 refine wpAnyH_take (i := 4) (oi := ⟨some 20, .load 3 (.tmp 19), 3, "law.go:119", #[⟨3, .data⟩], none⟩) (v := ?_) rfl (by kernel_rfl) (by kernel_rfl) (by kernel_rfl) (fun _ _ _ h => h) (Or.inl ⟨by rfl, ?_⟩) (by assumption) ?_
 rotate_left
 · intro w hSw; (try dsimp only at hSw); first | (go_simp; done) | (go_simp; with_reducible rfl)
 try go_frame
 refine wpAnyH_take (i := 6) (oi := ⟨some 22, .move (.tmp 5), 25, "law.go:119", #[], none⟩) (v := ?_) rfl (by kernel_rfl) (by kernel_rfl) (by kernel_rfl) (fun _ _ _ h => h) (Or.inl ⟨by rfl, ?_⟩) (by assumption) ?_
 rotate_left
 · intro w hSw; (try dsimp only at hSw); first | (go_simp; done) | (go_simp; with_reducible rfl)
 try go_frame
 refine wpAnyH_take (i := 7) (oi := ⟨some 23, .move (.tmp 5), 25, "law.go:119", #[], none⟩) (v := ?_) rfl (by kernel_rfl) (by kernel_rfl) (by kernel_rfl) (fun _ _ _ h => h) (Or.inl ⟨by rfl, ?_⟩) (by assumption) ?_
 rotate_left
 · intro w hSw; (try dsimp only at hSw); first | (go_simp; done) | (go_simp; with_reducible rfl)
 try go_frame
 refine wpAnyH_take (i := 8) (oi := ⟨some 24, .fieldAddr 24 (.tmp 3) 0, 0, "law.go:119", #[], none⟩) (v := ?_) rfl (by kernel_rfl) (by kernel_rfl) (by kernel_rfl) (fun _ _ _ h => h) (Or.inl ⟨by rfl, ?_⟩) (by assumption) ?_
 rotate_left
 · intro w hSw; (try dsimp only at hSw); first | (go_simp; done) | (go_simp; with_reducible rfl)
 try go_frame
 refine wpAnyH_take (i := 9) (oi := ⟨some 25, .load 3 (.tmp 24), 3, "law.go:119", #[⟨8, .data⟩], none⟩) (v := ?_) rfl (by kernel_rfl) (by kernel_rfl) (by kernel_rfl) (fun _ _ _ h => h) (Or.inl ⟨by rfl, ?_⟩) (by assumption) ?_
 rotate_left
 · intro w hSw; (try dsimp only at hSw); first | (go_simp; done) | (go_simp; with_reducible rfl)
 try go_frame
 refine wpAnyH_take (i := 10) (oi := ⟨some 26, .fieldAddr 24 (.tmp 3) 1, 0, "law.go:119", #[], none⟩) (v := ?_) rfl (by kernel_rfl) (by kernel_rfl) (by kernel_rfl) (fun _ _ _ h => h) (Or.inl ⟨by rfl, ?_⟩) (by assumption) ?_
 rotate_left
 · intro w hSw; (try dsimp only at hSw); first | (go_simp; done) | (go_simp; with_reducible rfl)
 try go_frame
 refine wpAnyH_take (i := 11) (oi := ⟨some 27, .load 3 (.tmp 26), 3, "law.go:119", #[⟨10, .data⟩], none⟩) (v := ?_) rfl (by kernel_rfl) (by kernel_rfl) (by kernel_rfl) (fun _ _ _ h => h) (Or.inl ⟨by rfl, ?_⟩) (by assumption) ?_
 rotate_left
 · intro w hSw; (try dsimp only at hSw); first | (go_simp; done) | (go_simp; with_reducible rfl)
 try go_frame
 refine wpAnyH_take (i := 14) (oi := ⟨some 30, .load 24 (.tmp 3), 24, "law.go:119", #[], none⟩) (v := ?_) rfl (by kernel_rfl) (by kernel_rfl) (by kernel_rfl) (fun _ _ _ h => h) (Or.inl ⟨by rfl, ?_⟩) (by assumption) ?_
 rotate_left
 · intro w hSw; (try dsimp only at hSw); first | (go_simp; done) | (go_simp; with_reducible rfl)
 try go_frame
 refine wpAnyH_ready (rs := [5]) (by kernel_rfl) (by simp) ?_
 refine AllReadyH.cons (o := ⟨some 21, .call { callee := .value (.func 14), args := #[.tmp 16, .tmp 18, .tmp 20], argTypes := #[25, 3, 3] }, 4, "law.go:119", #[⟨0, .data⟩, ⟨2, .data⟩, ⟨4, .data⟩], none⟩) rfl (fun K hK => ?_) AllReadyH.nil
 go_simp
 refine (cC _ (by with_reducible (repeat (first | assumption | exact Ext.refl _ | apply Ext.drew | apply Ext.drewN | apply Ext.alloc)))).mono ?_; rintro e x1 ⟨t, rfl, ht, E1⟩; have X1 : Ext w2 x1 := Ext.trans (by with_reducible (repeat (first | assumption | exact Ext.refl _ | apply Ext.drew | apply Ext.drewN | apply Ext.alloc))) E1; have HT : Hid (t = true ↔ Rch (actK l0 30) (dirS (actK l0 30) (Lp1, Lq1)) (Lp1, Lq1)) := ht; clear E1 ht
 try go_wp2_with fail
 refine hK.out _ _ ?_ (fun hHeld1 => ?_)
 · (try dsimp only); (refine mkS.out _ ?_; ((with_reducible (repeat (first | assumption | exact Ext.refl _ | apply Ext.drew | apply Ext.drewN | apply Ext.alloc))); done))
 clear hK K hHeld0
 try go_frame
 refine wpAnyH_ready (rs := [12]) (by kernel_rfl) (by simp) ?_
 refine AllReadyH.cons (o := ⟨some 28, .call { callee := .value (.func 12), args := #[.tmp 23, .tmp 25, .tmp 27], argTypes := #[25, 3, 3] }, 34, "law.go:119", #[⟨7, .data⟩, ⟨9, .data⟩, ⟨11, .data⟩, ⟨5, .chain⟩], none⟩) rfl (fun K hK => ?_) AllReadyH.nil
 go_simp
 refine (cD _ (by with_reducible (repeat (first | assumption | exact Ext.refl _ | apply Ext.drew | apply Ext.drewN | apply Ext.alloc)))).mono ?_; rintro e x2 ⟨d, hd, v2, rfl, O2, E2⟩; have X2 : Ext w2 x2 := Ext.trans (by with_reducible (repeat (first | assumption | exact Ext.refl _ | apply Ext.drew | apply Ext.drewN | apply Ext.alloc))) E2; have H2 : Hid _ := And.intro hd O2; clear E2 O2 hd
 try go_wp2_with fail
 refine hK.out _ _ ?_ (fun hHeld2 => ?_)
 · (try dsimp only); (refine mkS.out _ ?_; ((with_reducible (repeat (first | assumption | exact Ext.refl _ | apply Ext.drew | apply Ext.drewN | apply Ext.alloc))); done))
 clear hK K hHeld1
 try go_frame
 refine wpAnyH_ready (rs := [13]) (by kernel_rfl) (by simp) ?_
 refine AllReadyH.cons (o := ⟨some 29, .call { callee := .value (.func 18), args := #[.tmp 22, .tmp 28], argTypes := #[25, 34] }, 34, "law.go:119", #[⟨6, .data⟩, ⟨12, .data⟩, ⟨12, .chain⟩], none⟩) rfl (fun K hK => ?_) AllReadyH.nil
 go_simp
 refine (cR x2 v2 d X2 H2.out.1 (own_rdG cP_len H2.out.2 rfl)).mono ?_; rintro e x3 ⟨f, hf, v3, rfl, O3, E3⟩; have X3 : Ext w2 x3 := X2.trans E3; have H3 : Hid _ := And.intro hf O3; clear E3 O3 hf
 try go_wp2_with fail
 refine hK.out _ _ ?_ (fun hHeld3 => ?_)
 · (try dsimp only); (refine mkS.out _ ?_; ((with_reducible (repeat (first | assumption | exact Ext.refl _ | apply Ext.drew | apply Ext.drewN | apply Ext.alloc))); done))
 clear hK K hHeld2
 try go_frame
 refine wpAnyH_ready (rs := [15]) (by kernel_rfl) (by simp) ?_
 refine AllReadyH.cons (o := ⟨some 31, .call { callee := .value (.func 22), args := #[.tmp 29, .tmp 30], argTypes := #[34, 24] }, 4, "law.go:119", #[⟨13, .data⟩, ⟨14, .data⟩, ⟨13, .chain⟩], none⟩) rfl (fun K hK => ?_) AllReadyH.nil
 go_simp
 refine (phas_any x3 v3 f Lp1 Lq1 (own_rdG cP_len H3.out.2 rfl) (by have := H3.out.1.2.2; have := H2.out.1.2.2; have := HN.out; omega)).mono ?_; rintro e x4 ⟨rfl, E4⟩; have X4 : Ext w2 x4 := X3.trans E4; have HE : decide ((Lp1, Lq1) ∈ f) = t := eqT HT.out H2.out.1 H3.out.1; rw [HE]; clear E4 HE; have tt : (t == t) = true := by simp
 try go_wp2_with fail
 refine hK.out _ _ ?_ (fun hHeld4 => ?_)
 · (try dsimp only); (refine mkS.out _ ?_; ((with_reducible (repeat (first | assumption | exact Ext.refl _ | apply Ext.drew | apply Ext.drewN | apply Ext.alloc))); done))
 clear hK K hHeld3
 try go_frame
 refine wpAnyH_take (i := 16) (oi := ⟨some 32, .binOp .eql 4 (.tmp 21) (.tmp 31) 4, 4, "law.go:119", #[⟨5, .data⟩, ⟨15, .data⟩], none⟩) (v := ?_) rfl (by kernel_rfl) (by kernel_rfl) (by kernel_rfl) (fun _ _ _ h => h) (Or.inl ⟨by rfl, ?_⟩) (by assumption) ?_
 rotate_left
 · intro w hSw; (try dsimp only at hSw); first | (go_simp; done) | (go_simp; with_reducible rfl)
 try go_frame
 refine wpAnyH_take (i := 17) (oi := ⟨some 33, .move (.tmp 32), 4, "law.go:119", #[⟨16, .data⟩, ⟨15, .chain⟩], none⟩) (v := ?_) rfl (by kernel_rfl) (by kernel_rfl) (by kernel_rfl) (fun _ _ _ h => h) (Or.inl ⟨by rfl, ?_⟩) (by assumption) ?_
 rotate_left
 · intro w hSw; (try dsimp only at hSw); first | (go_simp; done) | (go_simp; with_reducible rfl)
 try go_frame
 refine wpAnyH_ready (rs := [18]) (by kernel_rfl) (by simp) ?_
 refine AllReadyH.cons (o := ⟨some 34, .call { callee := .value (.func 16), args := #[], argTypes := #[] }, 4, "law.go:119", #[⟨17, .chain⟩, ⟨17, .guard⟩], some (17, true)⟩) rfl (fun K hK => ?_) AllReadyH.nil
 go_simp
 refine (lives_any x4).mono ?_; rintro e x5 ⟨rfl, E5⟩; have X5 : Ext w2 x5 := X4.trans E5; clear E5
 try go_wp2_with fail
 refine hK.out _ _ ?_ (fun hHeld5 => ?_)
 · (try dsimp only); (refine mkS.out _ ?_; ((with_reducible (repeat (first | assumption | exact Ext.refl _ | apply Ext.drew | apply Ext.drewN | apply Ext.alloc))); done))
 clear hK K hHeld4
 try go_frame
 refine wpAnyH_take (i := 19) (oi := ⟨some 35, .pick (.tmp 33) (.tmp 34) (.const (.bool false)), 4, "law.go:119", #[⟨17, .data⟩, ⟨18, .data⟩], none⟩) (v := ?_) rfl (by kernel_rfl) (by kernel_rfl) (by kernel_rfl) (fun _ _ _ h => h) (Or.inl ⟨by rfl, ?_⟩) (by assumption) ?_
 rotate_left
 · intro w hSw; (try dsimp only at hSw); first | (go_simp; done) | (go_simp; with_reducible rfl)
 try go_frame
 refine wpAnyH_take (i := 20) (oi := ⟨some 4, .assign (.tmp 35), 4, "law.go:119", #[⟨19, .data⟩, ⟨18, .chain⟩, ⟨0, .phase⟩, ⟨1, .phase⟩, ⟨2, .phase⟩, ⟨3, .phase⟩, ⟨4, .phase⟩, ⟨5, .phase⟩, ⟨6, .phase⟩, ⟨7, .phase⟩, ⟨8, .phase⟩, ⟨9, .phase⟩, ⟨10, .phase⟩, ⟨11, .phase⟩, ⟨12, .phase⟩, ⟨13, .phase⟩, ⟨14, .phase⟩, ⟨15, .phase⟩, ⟨16, .phase⟩, ⟨17, .phase⟩, ⟨18, .phase⟩, ⟨19, .phase⟩], none⟩) (v := ?_) rfl (by kernel_rfl) (by kernel_rfl) (by kernel_rfl) (fun _ _ _ h => h) (Or.inl ⟨by rfl, ?_⟩) (by assumption) ?_
 rotate_left
 · intro w hSw; (try dsimp only at hSw); first | (go_simp; done) | (go_simp; with_reducible rfl)
 try go_frame
 refine wpAnyH_done (by kernel_rfl) ?_ _
 have HX : Hid (Ext w x5) := HE2.out.trans X5
 clear mkS cC cD cR X1 X2 X3 X4 X5
 go_wp2_with fail
 go_ret
 exact ⟨rfl, HX.out⟩
theorem laidOut : laidOutB Try.prog = true := by kernel_rfl
theorem cells_place : Try.prog.cellsOf 24 = 2 := by kernel_rfl
set_option maxRecDepth 100000 in
theorem lifted (os : Os) (started : os.Started) (H : Type) (enc : TypeId × Value → H) :
   ReturnsInHanded {} Try.checked os 7 .any (Rows.depsCyclesSpec.pre6 enc Try.prog Try.f7 Rows.depsCyclesRow.domain false) (Rows.depsCyclesSpec.post enc Try.prog Try.f7 false true false false) := by
 refine returnsInHanded_of_change (C := Try.checked) own started (by kernel_rfl) Try.func7
   (ChangeSpec.witness6 (enc := enc) (C := Try.checked) false ⟨#[], #[.slice none 0 0, .agg #[.int .i64 0, .int .i64 0]], []⟩ 8 (by kernel_rfl) (by kernel_rfl) (by kernel_rfl) (by kernel_rfl)) ?_
 intro W base args ds gs before hval0 hW hcnd _
 have hval : ∀ (j : Nat) t v, Try.f7.params[j]? = some t → args[j]? = some v → Value.okWide Try.prog W .any base t v := hval0
 have hW' := hW
 obtain ⟨p, q, hA0, hV, rfl, hfz, hnd⟩ := hW
 have hA : DataW.TrodAll enc Try.prog W 0 (fun _ => true) true Try.f7.params.toList args.toList ds p := hA0
 rw [Try.params7] at hA hval
 obtain ⟨v0, vs0, d0, ds0, p0, q0, hargs, rfl, rfl, h0, r0⟩ := trodAll_cons hA
 obtain ⟨v1, vs1, d1, ds1, p1, q1, rfl, rfl, rfl, h1, r1⟩ := trodAll_cons r0
 obtain ⟨rfl, rfl, rfl⟩ := trodAll_nil r1
 obtain rfl : args = #[v0, v1] := by cases args; simp_all
 obtain ⟨rfl, rfl⟩ := trodVars_none hV
 have j0 := h0
 have lt0 : ∀ x ∈ p0, x.block < W.heap.size := by obtain ⟨m, hm⟩ := j0; exact DataW.trod_lt m _ _ _ hm
 obtain ⟨pp0, ln0, cl0, rfl⟩ := okWide_slice Try.underlying22 (hval 0 22 v0 rfl rfl)
 obtain ⟨l0, rd0, az0⟩ : ∃ l, RdG cZ 3 W (.slice pp0 ln0 cl0) l ∧ ∀ z ∈ l, RdR W z.v z.e.2 := by
   obtain ⟨fuel, hf⟩ := h0
   exact open_acts hf
 have j1 := h1
 have lt1 : ∀ x ∈ p1, x.block < W.heap.size := by obtain ⟨m, hm⟩ := j1; exact DataW.trod_lt m _ _ _ hm
 obtain ⟨cc0, cc1, yy0, yy1, m1, rfl, hd1, hp1, hy0, hy1⟩ := open_agg2 Try.underlying24 (by kernel_rfl) cells_place (hval 1 24 v1 rfl rfl) h1
 obtain ⟨Lp1, f0, _, wp1⟩ := DataW.trod_int Try.underlying3 hy0
 obtain ⟨Lq1, f1, _, wq1⟩ := DataW.trod_int Try.underlying3 hy1
 simp only [List.cons.injEq, and_true] at f0 f1
 obtain rfl := f0
 obtain rfl := f1
 clear hA0 hval0
 refine (walk l0 pp0 ln0 cl0 Lp1 Lq1 rd0 az0 wp1 wq1).mono fun e W' ⟨he, bel⟩ => ?_
 subst he
 exact ⟨_, rfl, _, _, _, [], _, [], hW', trodAll_mk1 (shut_bool Try.underlying4 _), (trodAll_cons_mk (Below.trod laidOut (by kernel_rfl) (of_decide_eq_true (by kernel_rfl)) j0 bel lt0) (trodAll_cons_mk (Below.trod laidOut (by kernel_rfl) (of_decide_eq_true (by kernel_rfl)) j1 bel lt1) trodAll_mk0)), rfl, Below.frame bel _, fun h => by cases h⟩

theorem over : Rows.depsCyclesRow.holds Try.pinned (OpenSpec.ofChange Rows.depsCyclesSpec) :=
 OpenClaim.holds_of_wide 7 Try.f7 rfl rfl rfl rfl rfl rfl rfl ⟨rfl, rfl, rfl, rfl, rfl⟩ rfl rfl rfl rfl rfl (by kernel_rfl) Try.func7 (by kernel_rfl)
   (of_decide_eq_true (by kernel_rfl)) (by unfold Func.isWrapper; first | (rw [if_pos (by decide +kernel)]; kernel_rfl) | (rw [if_neg (by decide +kernel)]; exact ⟨rfl, rfl⟩))
   (fun os started H enc _ => lifted os started H enc)

theorem proved : Rows.DepsCyclesSaid := over
end Go.Proofs.Ytjpiphnbadggoaa.depsCycles
namespace Go.Proofs.Ytjpiphnbadggoaa
theorem depsCycles_holds : Rows.DepsCyclesSaid := depsCycles.proved
end Go.Proofs.Ytjpiphnbadggoaa
