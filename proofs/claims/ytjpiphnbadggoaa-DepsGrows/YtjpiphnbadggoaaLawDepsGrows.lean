/-
 DepsGrows is proved: for every list of acts, every place and every rectangle the call returns true and the arguments read as they did. No condition but the form's own reach.
-/
import Derived.Test.YtjpiphnbadggoaaG6
import Derived.Test.YtjpiphnbadggoaaRows
import Derived.ProofKit
import Derived.OpenShut
import Derived.ChangeOld
import Derived.SizedLaws
import Derived.Lib.SmallJoins
namespace Go.Proofs.Ytjpiphnbadggoaa.depsGrows
open Go.ChangeShapes Go.WideShapes Go.ChangeAt Go.RowKit Go.Joins
set_option maxHeartbeats 6000000
set_option maxRecDepth 100000

theorem own : ownKnob Try.prog.godebug = none := by kernel_rfl
theorem grow_dir {σ : Sg} (hs : SgOk σ) (p : Pl) (m : Rc) {a b : Pl} (h : b ∈ dirS σ a) : b ∈ dirS (setS σ p (needS σ p ++ [m])) a := by
 obtain ⟨l, h1, x, hx, hh⟩ := mem_dir.1 h
 by_cases hp : pin p = true
 · rw [set_is hp, mem_dir]
   by_cases e : b = p
   · subst e
     have hn : needS σ b = l := need_of hs h1
     refine ⟨_, List.mem_append_right _ (List.mem_singleton.2 rfl), x, ?_, hh⟩
     rw [List.mem_filter, hn]
     exact ⟨by simp [hx], hs.c _ h1 x hx⟩
   · exact ⟨l, List.mem_append_left _ (List.mem_filter.2 ⟨h1, by simpa using e⟩), x, hx, hh⟩
 · unfold setS
   rw [if_neg hp]
   exact h
theorem acts_few : ∀ (zs : List Zt) (σ : Sg), (∀ e ∈ σ, e.2.length ≤ 8) → ∀ e ∈ zs.foldl (fun σ z => setS σ z.e.1 (z.e.2.take 8)) σ, e.2.length ≤ 8
 | [], _, h => h
 | z :: zs, σ, h => by
   refine acts_few zs _ (fun e he => ?_)
   have he : e ∈ setS σ z.e.1 (z.e.2.take 8) := he
   unfold setS at he
   split at he
   · rcases List.mem_append.1 he with he | he
     · exact h e (List.mem_filter.1 he).1
     · simp at he
       subst he
       refine Nat.le_trans (List.length_filter_le _ _) ?_
       rw [List.length_take]
       omega
   · exact h e he
theorem need_few (Z : List Zt) (k : Nat) (a : Pl) : (needS (actK Z k) a).length ≤ 8 := by
 by_cases he : needS (actK Z k) a = []
 · rw [he]; simp
 · obtain ⟨e, he, e2⟩ := need_from he
   rw [← e2]
   exact acts_few _ [] (by simp) e he
theorem box4 {w w1 : World} {a b c d : Value} {T : TypeId} {o : Obj} (E : Ext ((w.alloc o).alloc (.cells #[a, b, c, d] T)) w1) : w1.cell? ⟨w.heap.size + 1, 0, none⟩ = some a ∧ w1.cell? ⟨w.heap.size + 1, 1, none⟩ = some b ∧ w1.cell? ⟨w.heap.size + 1, 2, none⟩ = some c ∧ w1.cell? ⟨w.heap.size + 1, 3, none⟩ = some d := by
 have ht := Ext.top E
 rw [show (w.alloc o).heap.size = w.heap.size + 1 by simp] at ht
 exact ⟨(cell_of_row _ _ 0 _ _ _ ht).trans rfl, (cell_of_row _ _ 1 _ _ _ ht).trans rfl, (cell_of_row _ _ 2 _ _ _ ht).trans rfl, (cell_of_row _ _ 3 _ _ _ ht).trans rfl⟩
theorem walk (l0 : List Zt) (pp0 : Option Addr) (ln0 cl0 : Nat) (Lp1 Lq1 Lp2 Lq2 Lu2 Lv2 : Int) {w : World} (rd0 : RdG cZ 3 w (.slice pp0 ln0 cl0) l0) (az0 : ∀ z ∈ l0, RdR w z.v z.e.2) (wp : (Lit.int .i64 Lp1).wf = true) (wq : (Lit.int .i64 Lq1).wf = true) :
   Calls Try.prog 6 #[.slice pp0 ln0 cl0, .agg #[.int .i64 Lp1, .int .i64 Lq1], .agg #[.int .i64 Lp2, .int .i64 Lq2, .int .i64 Lu2, .int .i64 Lv2]] w fun e w' => e = .returned (.bool true) ∧ Ext w w' := by
 have ip : I64 Lp1 := by have := wp; simp [Lit.wf] at this; unfold I64; exact this
 have iq : I64 Lq1 := by have := wq; simp [Lit.wf] at this; unfold I64; exact this
 have cB := fun V (e : Ext w V) => begins_any V (.slice pp0 ln0 cl0) l0 (rd0.ext e) (fun z hz => (az0 z hz).ext e)
 have HI : Hid (I64 Lp1 ∧ I64 Lq1) := ⟨ip, iq⟩
 clear rd0 az0 ip iq wp wq
 go_enter Try.func6, Try.ntmps6
 go_wp2_with fail
 refine (cB _ (((Ext.refl _).alloc _).alloc _)).mono ?_
 rintro e w2 ⟨b, bm, g, vs, rfl, D2, _, E2⟩
 obtain ⟨B, hB⟩ : ∃ B, ((w.alloc (.cells #[.int .i64 Lp1, .int .i64 Lq1] 24)).alloc (.cells #[.int .i64 Lp2, .int .i64 Lq2, .int .i64 Lu2, .int .i64 Lv2] 32)).heap.size = B := ⟨_, rfl⟩
 rw [hB] at D2
 have mk1 : Hid (∀ V, Ext ((w.alloc (.cells #[.int .i64 Lp1, .int .i64 Lq1] 24)).alloc (.cells #[.int .i64 Lp2, .int .i64 Lq2, .int .i64 Lu2, .int .i64 Lv2] 32)) V → (fun V => V.cell? ⟨w.heap.size, 0, none⟩ = some (.int .i64 Lp1) ∧ V.cell? ⟨w.heap.size, 1, none⟩ = some (.int .i64 Lq1) ∧ V.cell? ⟨w.heap.size + 1, 0, none⟩ = some (.int .i64 Lp2) ∧ V.cell? ⟨w.heap.size + 1, 1, none⟩ = some (.int .i64 Lq2) ∧ V.cell? ⟨w.heap.size + 1, 2, none⟩ = some (.int .i64 Lu2) ∧ V.cell? ⟨w.heap.size + 1, 3, none⟩ = some (.int .i64 Lv2)) V) := fun V e => by
   obtain ⟨q1, q2, q3, q4⟩ := box4 e
   obtain ⟨p1, p2⟩ := box2 (((Ext.refl _).alloc _).trans e)
   exact ⟨p1, p2, q1, q2, q3, q4⟩
 have d := mk1.out w2 E2
 have d1 := d.1
 have d2 := d.2.1
 have cE := reach_any (w2.alloc (.cells #[.int .i64 Lp1, .int .i64 Lq1] 24)) _ b 30 g vs (actK l0 30) (.slice (some ⟨w2.heap.size, 0, none⟩) 1 1) [(Lp1, Lq1)] (D2.ext ((Ext.refl _).alloc _)) (by decide) (rd_oneP rfl (Ext.refl _)) (by simp)
 have H2 : Hid (Dps w2 B b g 30 vs (actK l0 30) ∧ Ext ((w.alloc (.cells #[.int .i64 Lp1, .int .i64 Lq1] 24)).alloc (.cells #[.int .i64 Lp2, .int .i64 Lq2, .int .i64 Lu2, .int .i64 Lv2] 32)) w2 ∧ ((w.alloc (.cells #[.int .i64 Lp1, .int .i64 Lq1] 24)).alloc (.cells #[.int .i64 Lp2, .int .i64 Lq2, .int .i64 Lu2, .int .i64 Lv2] 32)).heap.size = B) := ⟨D2, E2, hB⟩
 clear cB D2 E2 d hB
 go_wp2_with fail
 refine cE.mono ?_
 rintro e w3 ⟨f, hf, v3, rfl, O3, E3⟩
 obtain ⟨fp, fc, hv, _⟩ := own_form O3
 obtain ⟨fn, hfn⟩ : ∃ fn, f.length = fn := ⟨_, rfl⟩
 rw [hfn] at hv O3
 subst hv
 obtain ⟨y0, hy0⟩ : ∃ y0, World.drew w3 = y0 := ⟨_, rfl⟩
 have X3 : Ext w2 y0 := by rw [← hy0]; exact (((Ext.refl _).alloc _).trans E3).drew
 have HX : Hid (Ext ((w.alloc (.cells #[.int .i64 Lp1, .int .i64 Lq1] 24)).alloc (.cells #[.int .i64 Lp2, .int .i64 Lq2, .int .i64 Lu2, .int .i64 Lv2] 32)) y0) := H2.out.2.1.trans X3
 have HFL : f.length ≤ 31 := by have := hf.2.2; have := H2.out.1.n; simp at *; omega
 have HF : Hid (y0.ownsRow (w2.alloc (.cells #[.int .i64 Lp1, .int .i64 Lq1] 24)).heap.size 24 2 (.slice fp fn fc) fn (f.flatMap cP) ∧ IsRch (actK l0 30) [(Lp1, Lq1)] f ∧ ((actK l0 30).length ≤ 30 ∧ fn ≤ 31) ∧ f.length = fn) := ⟨by rw [← hy0]; exact ownsRow_ext O3 ((Ext.refl _).drew), hf, ⟨H2.out.1.n, by rw [← hfn]; exact HFL⟩, hfn⟩
 have HK : Hid (SgOk (actK l0 30)) := H2.out.1.ok
 have D0 := H2.out.1.ext X3
 obtain ⟨nd, hnd⟩ : ∃ nd, needS (actK l0 30) (Lp1, Lq1) = nd := ⟨_, rfl⟩
 have HND : Hid (nd.length ≤ 8 ∧ needS (actK l0 30) (Lp1, Lq1) = nd) := ⟨by rw [← hnd]; exact need_few _ _ _, hnd⟩
 have cN := fun V (e : Ext y0 V) => needs_any V _ b 30 g vs (actK l0 30) Lp1 Lq1 (D0.ext e) HI.out.1 HI.out.2
 rw [hnd] at cN
 have cS := fun V v bs (e : Ext y0 V) (o : V.ownsRow bs 32 4 v (nd.length + 1) ((nd ++ [(⟨Lp2, Lq2, Lu2, Lv2⟩ : Rc)]).flatMap cR)) =>
   set_any V B b 30 g vs (actK l0 30) Lp1 Lq1 v (nd ++ [⟨Lp2, Lq2, Lu2, Lv2⟩]) (by have := (HX.out.trans e).size; rw [H2.out.2.2] at this; exact this) (D0.ext e) (by decide) (own_rdG cR_len o (by simp)) (fun a m cp' ev _ => .inl (by
     subst ev
     obtain ⟨_, cur, h5⟩ := own_heap o rfl
     rw [h5]
     rfl)) (by have := HND.out.1; simp; omega)
 have mkS : Hid (∀ V, Ext y0 V → (fun V => V.cell? ⟨w.heap.size, 0, none⟩ = some (.int .i64 Lp1) ∧ V.cell? ⟨w.heap.size, 1, none⟩ = some (.int .i64 Lq1) ∧ V.cell? ⟨w.heap.size + 1, 0, none⟩ = some (.int .i64 Lp2) ∧ V.cell? ⟨w.heap.size + 1, 1, none⟩ = some (.int .i64 Lq2) ∧ V.cell? ⟨w.heap.size + 1, 2, none⟩ = some (.int .i64 Lu2) ∧ V.cell? ⟨w.heap.size + 1, 3, none⟩ = some (.int .i64 Lv2)) V) := fun V e => mk1.out V (HX.out.trans e)
 have hB := H2.out.2.2
 subst hB
 clear cE hf O3 E3 hfn HFL D0 hnd X3 H2 d1 d2
 go_upto_region 5 with fail
 refine wp_region_held_drew (S := (fun V => V.cell? ⟨w.heap.size, 0, none⟩ = some (.int .i64 Lp1) ∧ V.cell? ⟨w.heap.size, 1, none⟩ = some (.int .i64 Lq1) ∧ V.cell? ⟨w.heap.size + 1, 0, none⟩ = some (.int .i64 Lp2) ∧ V.cell? ⟨w.heap.size + 1, 1, none⟩ = some (.int .i64 Lq2) ∧ V.cell? ⟨w.heap.size + 1, 2, none⟩ = some (.int .i64 Lu2) ∧ V.cell? ⟨w.heap.size + 1, 3, none⟩ = some (.int .i64 Lv2))) (by kernel_rfl) ?_ (fun hHeld0 => ?_)
 · (first | (rw [hy0]; exact mkS.out _ (Ext.refl _)) | exact HS6.out | (refine mkS.out _ ?_; ((with_reducible (repeat (first | assumption | exact Ext.refl _ | apply Ext.drew | apply Ext.drewN | apply Ext.alloc))); done)))
 rw [hy0] at hHeld0 ⊢; clear hy0
 refine wpAnyH_take (i := 0) (oi := ⟨some 25, .move (.tmp 7), 25, "law.go:103", #[], none⟩) (v := ?_) rfl (by kernel_rfl) (by kernel_rfl) (by kernel_rfl) (fun _ _ _ h => h) (Or.inl ⟨by rfl, ?_⟩) (by assumption) ?_
 rotate_left
 · intro w hSw; (try dsimp only at hSw); first | (go_simp; done) | (go_simp; with_reducible rfl)
 try go_frame
 refine wpAnyH_take (i := 1) (oi := ⟨some 26, .fieldAddr 24 (.tmp 4) 0, 0, "law.go:103", #[], none⟩) (v := ?_) rfl (by kernel_rfl) (by kernel_rfl) (by kernel_rfl) (fun _ _ _ h => h) (Or.inl ⟨by rfl, ?_⟩) (by assumption) ?_
 rotate_left
 · intro w hSw; (try dsimp only at hSw); first | (go_simp; done) | (go_simp; with_reducible rfl)
 try go_frame
 refine wpAnyH_take (i := 2) (oi := ⟨some 27, .load 3 (.tmp 26), 3, "law.go:103", #[⟨1, .data⟩], none⟩) (v := ?_) rfl (by kernel_rfl) (by kernel_rfl) (by kernel_rfl) (fun _ _ _ h => h) (Or.inl ⟨by rfl, ?_⟩) (by assumption) ?_
 rotate_left
 · intro w hSw; (try dsimp only at hSw); first | (go_simp; done) | (go_simp; with_reducible rfl)
 try go_frame
 refine wpAnyH_take (i := 3) (oi := ⟨some 28, .fieldAddr 24 (.tmp 4) 1, 0, "law.go:103", #[], none⟩) (v := ?_) rfl (by kernel_rfl) (by kernel_rfl) (by kernel_rfl) (fun _ _ _ h => h) (Or.inl ⟨by rfl, ?_⟩) (by assumption) ?_
 rotate_left
 · intro w hSw; (try dsimp only at hSw); first | (go_simp; done) | (go_simp; with_reducible rfl)
 try go_frame
 refine wpAnyH_take (i := 4) (oi := ⟨some 29, .load 3 (.tmp 28), 3, "law.go:103", #[⟨3, .data⟩], none⟩) (v := ?_) rfl (by kernel_rfl) (by kernel_rfl) (by kernel_rfl) (fun _ _ _ h => h) (Or.inl ⟨by rfl, ?_⟩) (by assumption) ?_
 rotate_left
 · intro w hSw; (try dsimp only at hSw); first | (go_simp; done) | (go_simp; with_reducible rfl)
 try go_frame
 refine wpAnyH_take (i := 5) (oi := ⟨some 30, .move (.tmp 7), 25, "law.go:103", #[], none⟩) (v := ?_) rfl (by kernel_rfl) (by kernel_rfl) (by kernel_rfl) (fun _ _ _ h => h) (Or.inl ⟨by rfl, ?_⟩) (by assumption) ?_
 rotate_left
 · intro w hSw; (try dsimp only at hSw); first | (go_simp; done) | (go_simp; with_reducible rfl)
 try go_frame
 refine wpAnyH_take (i := 6) (oi := ⟨some 31, .fieldAddr 24 (.tmp 4) 0, 0, "law.go:103", #[], none⟩) (v := ?_) rfl (by kernel_rfl) (by kernel_rfl) (by kernel_rfl) (fun _ _ _ h => h) (Or.inl ⟨by rfl, ?_⟩) (by assumption) ?_
 rotate_left
 · intro w hSw; (try dsimp only at hSw); first | (go_simp; done) | (go_simp; with_reducible rfl)
 try go_frame
 refine wpAnyH_take (i := 7) (oi := ⟨some 32, .load 3 (.tmp 31), 3, "law.go:103", #[⟨6, .data⟩], none⟩) (v := ?_) rfl (by kernel_rfl) (by kernel_rfl) (by kernel_rfl) (fun _ _ _ h => h) (Or.inl ⟨by rfl, ?_⟩) (by assumption) ?_
 rotate_left
 · intro w hSw; (try dsimp only at hSw); first | (go_simp; done) | (go_simp; with_reducible rfl)
 try go_frame
 refine wpAnyH_take (i := 8) (oi := ⟨some 33, .fieldAddr 24 (.tmp 4) 1, 0, "law.go:103", #[], none⟩) (v := ?_) rfl (by kernel_rfl) (by kernel_rfl) (by kernel_rfl) (fun _ _ _ h => h) (Or.inl ⟨by rfl, ?_⟩) (by assumption) ?_
 rotate_left
 · intro w hSw; (try dsimp only at hSw); first | (go_simp; done) | (go_simp; with_reducible rfl)
 try go_frame
 refine wpAnyH_take (i := 9) (oi := ⟨some 34, .load 3 (.tmp 33), 3, "law.go:103", #[⟨8, .data⟩], none⟩) (v := ?_) rfl (by kernel_rfl) (by kernel_rfl) (by kernel_rfl) (fun _ _ _ h => h) (Or.inl ⟨by rfl, ?_⟩) (by assumption) ?_
 rotate_left
 · intro w hSw; (try dsimp only at hSw); first | (go_simp; done) | (go_simp; with_reducible rfl)
 try go_frame
 refine wpAnyH_take (i := 11) (oi := ⟨some 36, .load 32 (.tmp 5), 32, "law.go:103", #[], none⟩) (v := ?_) rfl (by kernel_rfl) (by kernel_rfl) (by kernel_rfl) (fun _ _ _ h => h) (Or.inl ⟨by rfl, ?_⟩) (by assumption) ?_
 rotate_left
 · intro w hSw; (try dsimp only at hSw); first | (go_simp; done) | (go_simp; with_reducible rfl)
 try go_frame
 refine wpAnyH_ready (rs := [10, 12]) (by kernel_rfl) (by simp) ?_
 refine AllReadyH.cons (o := ⟨some 35, .call { callee := .value (.func 9), args := #[.tmp 30, .tmp 32, .tmp 34], argTypes := #[25, 3, 3] }, 29, "law.go:103", #[⟨5, .data⟩, ⟨7, .data⟩, ⟨9, .data⟩], none⟩) rfl (fun K hK => ?_) (AllReadyH.cons (o := ⟨some 37, .buildSlice 29 1 #[(0, .tmp 36)], 29, "law.go:103", #[⟨11, .data⟩], none⟩) rfl (fun K hK => ?_) AllReadyH.nil)
 · go_simp
   refine (cN _ (by with_reducible (repeat (first | assumption | exact Ext.refl _ | apply Ext.drew | apply Ext.drewN | apply Ext.alloc)))).mono ?_; rintro e x1 ⟨v1, rfl, O1, E1⟩; have X1 : Ext y0 x1 := Ext.trans (by with_reducible (repeat (first | assumption | exact Ext.refl _ | apply Ext.drew | apply Ext.drewN | apply Ext.alloc))) E1; have H1 : Hid _ := And.intro O1 E1; clear E1 O1
   try go_wp2_with fail
   refine hK.out _ _ ?_ (fun hHeld1 => ?_)
   · (try dsimp only); (first | (rw [hy0]; exact mkS.out _ (Ext.refl _)) | exact HS6.out | (refine mkS.out _ ?_; ((with_reducible (repeat (first | assumption | exact Ext.refl _ | apply Ext.drew | apply Ext.drewN | apply Ext.alloc))); done)))
   clear hK K hHeld0
   try go_frame
   refine wpAnyH_ready (rs := [12]) (by kernel_rfl) (by simp) ?_
   refine AllReadyH.cons (o := ⟨some 37, .buildSlice 29 1 #[(0, .tmp 36)], 29, "law.go:103", #[⟨11, .data⟩], none⟩) rfl (fun K hK => ?_) AllReadyH.nil
   go_simp
   skip
   try go_wp2_with fail
   refine hK.out _ _ ?_ (fun hHeld2 => ?_)
   · (try dsimp only); (first | (rw [hy0]; exact mkS.out _ (Ext.refl _)) | exact HS6.out | (refine mkS.out _ ?_; ((with_reducible (repeat (first | assumption | exact Ext.refl _ | apply Ext.drew | apply Ext.drewN | apply Ext.alloc))); done)))
   clear hK K hHeld1
   try go_frame
   refine wpAnyH_ready (rs := [13]) (by kernel_rfl) (by simp) ?_
   refine AllReadyH.cons (o := ⟨some 38, .call { callee := .builtin .append, args := #[.tmp 35, .tmp 37], argTypes := #[29, 29] }, 29, "law.go:103", #[⟨10, .data⟩, ⟨12, .data⟩, ⟨10, .chain⟩], none⟩) rfl (fun K hK => ?_) AllReadyH.nil
   refine step_app eltR cR_len cR_one (by decide) _ _ _ v1 ⟨_, 0, none⟩ nd.length 1 1 nd [⟨Lp2, Lq2, Lu2, Lv2⟩] y0.heap.size rfl rfl (by rfl) (by rfl) (ownsRow_ext H1.out.1 ((Ext.refl _).alloc _)) rfl (rd_oneR (x := ⟨Lp2, Lq2, Lu2, Lv2⟩) (Ext.refl _)) (by have := HND.out; omega) (Nat.le_trans H1.out.2.size ((Ext.refl _).alloc _).size) ?_; intro v2 w5 O2 G2 N2; have X2 : Ext y0 w5 := ext_grownG (ownsRow_ext H1.out.1 ((Ext.refl _).alloc _)) (Nat.le_refl _) (X1.alloc _) G2; have H2 : Hid _ := O2; clear O2 G2 N2
   refine hK.out _ _ ?_ (fun hHeld3 => ?_)
   · (try dsimp only); (first | (rw [hy0]; exact mkS.out _ (Ext.refl _)) | exact HS6.out | (refine mkS.out _ ?_; ((with_reducible (repeat (first | assumption | exact Ext.refl _ | apply Ext.drew | apply Ext.drewN | apply Ext.alloc))); done)))
   clear hK K hHeld2
   try go_frame
   refine wpAnyH_ready (rs := [14]) (by kernel_rfl) (by simp) ?_
   refine AllReadyH.cons (o := ⟨some 39, .call { callee := .value (.func 21), args := #[.tmp 25, .tmp 27, .tmp 29, .tmp 38], argTypes := #[25, 3, 3, 29] }, 43, "law.go:103", #[⟨0, .data⟩, ⟨2, .data⟩, ⟨4, .data⟩, ⟨13, .data⟩, ⟨13, .chain⟩], none⟩) rfl (fun K hK => ?_) AllReadyH.nil
   go_simp
   refine (cS _ _ _ X2 H2.out).mono ?_; rintro e w6 ⟨he, ⟨g6, vs6, D6⟩, E6⟩; obtain ⟨xr, hxr⟩ : ∃ xr : Int, (if pin (Lp1, Lq1) then 0 else 121) = xr := ⟨_, rfl⟩; rw [hxr] at he; subst he; clear hxr; have HS6 : Hid ((fun V => V.cell? ⟨w.heap.size, 0, none⟩ = some (.int .i64 Lp1) ∧ V.cell? ⟨w.heap.size, 1, none⟩ = some (.int .i64 Lq1) ∧ V.cell? ⟨w.heap.size + 1, 0, none⟩ = some (.int .i64 Lp2) ∧ V.cell? ⟨w.heap.size + 1, 1, none⟩ = some (.int .i64 Lq2) ∧ V.cell? ⟨w.heap.size + 1, 2, none⟩ = some (.int .i64 Lu2) ∧ V.cell? ⟨w.heap.size + 1, 3, none⟩ = some (.int .i64 Lv2)) w6) := mk1.out w6 (E6.ext (HX.out.trans X2) (Nat.le_refl _)); have H6 : Hid (Dps w6 ((w.alloc (.cells #[.int .i64 Lp1, .int .i64 Lq1] 24)).alloc (.cells #[.int .i64 Lp2, .int .i64 Lq2, .int .i64 Lu2, .int .i64 Lv2] 32)).heap.size b g6 31 vs6 (setS (actK l0 30) (Lp1, Lq1) (nd ++ [⟨Lp2, Lq2, Lu2, Lv2⟩])) ∧ Ext ((w.alloc (.cells #[.int .i64 Lp1, .int .i64 Lq1] 24)).alloc (.cells #[.int .i64 Lp2, .int .i64 Lq2, .int .i64 Lu2, .int .i64 Lv2] 32)) w6 ∧ RdP w6 (.slice fp fn fc) f) := ⟨D6, E6.ext (HX.out.trans X2) (Nat.le_refl _), own_rdG cP_len (own_dep (ownsRow_ext HF.out.1 X2) E6 (fun _ => rfl)) HF.out.2.2.2.symm⟩; clear D6 E6
   try go_wp2_with fail
   refine hK.out _ _ ?_ (fun hHeld4 => ?_)
   · (try dsimp only); (first | (rw [hy0]; exact mkS.out _ (Ext.refl _)) | exact HS6.out | (refine mkS.out _ ?_; ((with_reducible (repeat (first | assumption | exact Ext.refl _ | apply Ext.drew | apply Ext.drewN | apply Ext.alloc))); done)))
   clear hK K hHeld3
   try go_frame
   refine wpAnyH_done (by kernel_rfl) ?_ _
   clear mkS mk1 cN cS X1 X2 H1 H2
   have d := HS6.out
   have d1 := d.1
   have d2 := d.2.1
   clear d
   have cE := reach_any (w6.alloc (.cells #[.int .i64 Lp1, .int .i64 Lq1] 24)) _ b 31 g6 vs6 (setS (actK l0 30) (Lp1, Lq1) (nd ++ [⟨Lp2, Lq2, Lu2, Lv2⟩])) (.slice (some ⟨w6.heap.size, 0, none⟩) 1 1) [(Lp1, Lq1)] (H6.out.1.ext ((Ext.refl _).alloc _)) (by decide) (rd_oneP rfl (Ext.refl _)) (by simp)
   go_wp2_with fail
   refine cE.mono ?_
   rintro e w7 ⟨f2, hf2, v7, rfl, O7, E7⟩
   have HL : Hid (f2.length ≤ 100) := by have := hf2.2.2; have := setS_len (actK l0 30) (Lp1, Lq1) (nd ++ [⟨Lp2, Lq2, Lu2, Lv2⟩]); have := HF.out.2.2.1; simp at *; show _ ≤ _; omega
   have HT : Hid (∀ x ∈ f, x ∈ f2) := fun x hx => (hf2.2.1 x).2 (rch_grow (fun _ _ h => by rw [← HND.out.2]; exact grow_dir HK.out _ _ h) ((HF.out.2.1.2.1 x).1 hx))
   have H7 : Hid (RdP w7 v7 f2 ∧ RdP w7 (.slice fp fn fc) f ∧ Ext w w7) := ⟨own_rdG cP_len O7 rfl, H6.out.2.2.ext (((Ext.refl _).alloc _).trans E7), ((((Ext.refl w).alloc _).alloc _).trans H6.out.2.1).trans (((Ext.refl _).alloc _).trans E7)⟩
   clear cE hf2 O7 E7 d1 d2 HS6 H6
   go_wp2_with fail
   go_loopw [12] (fun x wr => ∃ k : Nat, x = .int .i64 (k : Int) ∧ k ≤ fn ∧ Ext w7 wr) (fun x _ => fn - (intOf x).toNat)
   case atStart => exact ⟨0, rfl, Nat.zero_le _, Ext.refl _⟩
   case round =>
     obtain ⟨k, rfl, hk, hE⟩ := hrel
     have wk := wrapI k (by have := HF.out.2.2; omega)
     rcases Nat.lt_or_ge k fn with hlt | hge
     · have hltI : (k : Int) < (fn : Int) := Int.ofNat_lt.2 hlt
       obtain ⟨s, hs⟩ : ∃ s, f[k]? = some s := ⟨_, List.getElem?_eq_getElem (by rw [HF.out.2.2.2]; exact hlt)⟩
       obtain ⟨sb, so, rfl, _, d1, d2⟩ := RdP.cell (H7.out.2.1.ext hE) hs
       obtain ⟨s1, s2⟩ := s
       have cH := phas_any wr v7 f2 s1 s2 (H7.out.1.ext hE) (by have := HL.out; omega)
       rw [show decide ((s1, s2) ∈ f2) = true by simpa using HT.out _ (List.mem_of_getElem? hs)] at cH
       have HE : Hid (Ext w7 wr) := hE
       clear hs hE
       go_wp2_with fail
       refine cH.mono ?_
       rintro e w8 ⟨rfl, E8⟩
       have H8 : Hid (Ext w7 w8) := HE.out.trans E8
       clear cH E8 d1 d2
       go_wp2_with fail
       go_roundw
       case rel => exact ⟨k + 1, by rw [wk], hlt, H8.out⟩
       case measure => rw [wk]; simp [intOf]; omega
     · have hltI : ¬ (k : Int) < (fn : Int) := fun h => Nat.not_lt.2 hge (Int.ofNat_lt.1 h)
       have HE : Hid (Ext w wr) := H7.out.2.2.trans hE
       clear hE wk
       go_wp2_with fail
       refine (lives_any wr).mono ?_
       rintro e w9 ⟨rfl, E9⟩
       have H9 : Hid (Ext w w9) := HE.out.trans E9
       clear E9
       go_wp2_with fail
       go_ret
       exact ⟨rfl, H9.out⟩
 · go_simp
   skip
   try go_wp2_with fail
   refine hK.out _ _ ?_ (fun hHeld1 => ?_)
   · (try dsimp only); (first | (rw [hy0]; exact mkS.out _ (Ext.refl _)) | exact HS6.out | (refine mkS.out _ ?_; ((with_reducible (repeat (first | assumption | exact Ext.refl _ | apply Ext.drew | apply Ext.drewN | apply Ext.alloc))); done)))
   clear hK K hHeld0
   try go_frame
   refine wpAnyH_ready (rs := [10]) (by kernel_rfl) (by simp) ?_
   refine AllReadyH.cons (o := ⟨some 35, .call { callee := .value (.func 9), args := #[.tmp 30, .tmp 32, .tmp 34], argTypes := #[25, 3, 3] }, 29, "law.go:103", #[⟨5, .data⟩, ⟨7, .data⟩, ⟨9, .data⟩], none⟩) rfl (fun K hK => ?_) AllReadyH.nil
   go_simp
   refine (cN _ (by with_reducible (repeat (first | assumption | exact Ext.refl _ | apply Ext.drew | apply Ext.drewN | apply Ext.alloc)))).mono ?_; rintro e x1 ⟨v1, rfl, O1, E1⟩; have X1 : Ext y0 x1 := Ext.trans (by with_reducible (repeat (first | assumption | exact Ext.refl _ | apply Ext.drew | apply Ext.drewN | apply Ext.alloc))) E1; have H1 : Hid _ := And.intro O1 E1; clear E1 O1
   try go_wp2_with fail
   refine hK.out _ _ ?_ (fun hHeld2 => ?_)
   · (try dsimp only); (first | (rw [hy0]; exact mkS.out _ (Ext.refl _)) | exact HS6.out | (refine mkS.out _ ?_; ((with_reducible (repeat (first | assumption | exact Ext.refl _ | apply Ext.drew | apply Ext.drewN | apply Ext.alloc))); done)))
   clear hK K hHeld1
   try go_frame
   refine wpAnyH_ready (rs := [13]) (by kernel_rfl) (by simp) ?_
   refine AllReadyH.cons (o := ⟨some 38, .call { callee := .builtin .append, args := #[.tmp 35, .tmp 37], argTypes := #[29, 29] }, 29, "law.go:103", #[⟨10, .data⟩, ⟨12, .data⟩, ⟨10, .chain⟩], none⟩) rfl (fun K hK => ?_) AllReadyH.nil
   refine step_app eltR cR_len cR_one (by decide) _ _ _ v1 ⟨_, 0, none⟩ nd.length 1 1 nd [⟨Lp2, Lq2, Lu2, Lv2⟩] (y0.alloc (.cells #[.int .i64 Lp2, .int .i64 Lq2, .int .i64 Lu2, .int .i64 Lv2] 32)).heap.size rfl rfl (by rfl) (by rfl) (H1.out.1) rfl (rd_oneR (x := ⟨Lp2, Lq2, Lu2, Lv2⟩) H1.out.2) (by have := HND.out; omega) (H1.out.2.size) ?_; intro v2 w5 O2 G2 N2; have X2 : Ext y0 w5 := ext_grownG (H1.out.1) (((Ext.refl y0).alloc _).size) X1 G2; have H2 : Hid _ := O2; clear O2 G2 N2
   refine hK.out _ _ ?_ (fun hHeld3 => ?_)
   · (try dsimp only); (first | (rw [hy0]; exact mkS.out _ (Ext.refl _)) | exact HS6.out | (refine mkS.out _ ?_; ((with_reducible (repeat (first | assumption | exact Ext.refl _ | apply Ext.drew | apply Ext.drewN | apply Ext.alloc))); done)))
   clear hK K hHeld2
   try go_frame
   refine wpAnyH_ready (rs := [14]) (by kernel_rfl) (by simp) ?_
   refine AllReadyH.cons (o := ⟨some 39, .call { callee := .value (.func 21), args := #[.tmp 25, .tmp 27, .tmp 29, .tmp 38], argTypes := #[25, 3, 3, 29] }, 43, "law.go:103", #[⟨0, .data⟩, ⟨2, .data⟩, ⟨4, .data⟩, ⟨13, .data⟩, ⟨13, .chain⟩], none⟩) rfl (fun K hK => ?_) AllReadyH.nil
   go_simp
   refine (cS _ _ _ X2 H2.out).mono ?_; rintro e w6 ⟨he, ⟨g6, vs6, D6⟩, E6⟩; obtain ⟨xr, hxr⟩ : ∃ xr : Int, (if pin (Lp1, Lq1) then 0 else 121) = xr := ⟨_, rfl⟩; rw [hxr] at he; subst he; clear hxr; have HS6 : Hid ((fun V => V.cell? ⟨w.heap.size, 0, none⟩ = some (.int .i64 Lp1) ∧ V.cell? ⟨w.heap.size, 1, none⟩ = some (.int .i64 Lq1) ∧ V.cell? ⟨w.heap.size + 1, 0, none⟩ = some (.int .i64 Lp2) ∧ V.cell? ⟨w.heap.size + 1, 1, none⟩ = some (.int .i64 Lq2) ∧ V.cell? ⟨w.heap.size + 1, 2, none⟩ = some (.int .i64 Lu2) ∧ V.cell? ⟨w.heap.size + 1, 3, none⟩ = some (.int .i64 Lv2)) w6) := mk1.out w6 (E6.ext (HX.out.trans X2) (Nat.le_refl _)); have H6 : Hid (Dps w6 ((w.alloc (.cells #[.int .i64 Lp1, .int .i64 Lq1] 24)).alloc (.cells #[.int .i64 Lp2, .int .i64 Lq2, .int .i64 Lu2, .int .i64 Lv2] 32)).heap.size b g6 31 vs6 (setS (actK l0 30) (Lp1, Lq1) (nd ++ [⟨Lp2, Lq2, Lu2, Lv2⟩])) ∧ Ext ((w.alloc (.cells #[.int .i64 Lp1, .int .i64 Lq1] 24)).alloc (.cells #[.int .i64 Lp2, .int .i64 Lq2, .int .i64 Lu2, .int .i64 Lv2] 32)) w6 ∧ RdP w6 (.slice fp fn fc) f) := ⟨D6, E6.ext (HX.out.trans X2) (Nat.le_refl _), own_rdG cP_len (own_dep (ownsRow_ext HF.out.1 X2) E6 (fun _ => rfl)) HF.out.2.2.2.symm⟩; clear D6 E6
   try go_wp2_with fail
   refine hK.out _ _ ?_ (fun hHeld4 => ?_)
   · (try dsimp only); (first | (rw [hy0]; exact mkS.out _ (Ext.refl _)) | exact HS6.out | (refine mkS.out _ ?_; ((with_reducible (repeat (first | assumption | exact Ext.refl _ | apply Ext.drew | apply Ext.drewN | apply Ext.alloc))); done)))
   clear hK K hHeld3
   try go_frame
   refine wpAnyH_done (by kernel_rfl) ?_ _
   clear mkS mk1 cN cS X1 X2 H1 H2
   have d := HS6.out
   have d1 := d.1
   have d2 := d.2.1
   clear d
   have cE := reach_any (w6.alloc (.cells #[.int .i64 Lp1, .int .i64 Lq1] 24)) _ b 31 g6 vs6 (setS (actK l0 30) (Lp1, Lq1) (nd ++ [⟨Lp2, Lq2, Lu2, Lv2⟩])) (.slice (some ⟨w6.heap.size, 0, none⟩) 1 1) [(Lp1, Lq1)] (H6.out.1.ext ((Ext.refl _).alloc _)) (by decide) (rd_oneP rfl (Ext.refl _)) (by simp)
   go_wp2_with fail
   refine cE.mono ?_
   rintro e w7 ⟨f2, hf2, v7, rfl, O7, E7⟩
   have HL : Hid (f2.length ≤ 100) := by have := hf2.2.2; have := setS_len (actK l0 30) (Lp1, Lq1) (nd ++ [⟨Lp2, Lq2, Lu2, Lv2⟩]); have := HF.out.2.2.1; simp at *; show _ ≤ _; omega
   have HT : Hid (∀ x ∈ f, x ∈ f2) := fun x hx => (hf2.2.1 x).2 (rch_grow (fun _ _ h => by rw [← HND.out.2]; exact grow_dir HK.out _ _ h) ((HF.out.2.1.2.1 x).1 hx))
   have H7 : Hid (RdP w7 v7 f2 ∧ RdP w7 (.slice fp fn fc) f ∧ Ext w w7) := ⟨own_rdG cP_len O7 rfl, H6.out.2.2.ext (((Ext.refl _).alloc _).trans E7), ((((Ext.refl w).alloc _).alloc _).trans H6.out.2.1).trans (((Ext.refl _).alloc _).trans E7)⟩
   clear cE hf2 O7 E7 d1 d2 HS6 H6
   go_wp2_with fail
   go_loopw [12] (fun x wr => ∃ k : Nat, x = .int .i64 (k : Int) ∧ k ≤ fn ∧ Ext w7 wr) (fun x _ => fn - (intOf x).toNat)
   case atStart => exact ⟨0, rfl, Nat.zero_le _, Ext.refl _⟩
   case round =>
     obtain ⟨k, rfl, hk, hE⟩ := hrel
     have wk := wrapI k (by have := HF.out.2.2; omega)
     rcases Nat.lt_or_ge k fn with hlt | hge
     · have hltI : (k : Int) < (fn : Int) := Int.ofNat_lt.2 hlt
       obtain ⟨s, hs⟩ : ∃ s, f[k]? = some s := ⟨_, List.getElem?_eq_getElem (by rw [HF.out.2.2.2]; exact hlt)⟩
       obtain ⟨sb, so, rfl, _, d1, d2⟩ := RdP.cell (H7.out.2.1.ext hE) hs
       obtain ⟨s1, s2⟩ := s
       have cH := phas_any wr v7 f2 s1 s2 (H7.out.1.ext hE) (by have := HL.out; omega)
       rw [show decide ((s1, s2) ∈ f2) = true by simpa using HT.out _ (List.mem_of_getElem? hs)] at cH
       have HE : Hid (Ext w7 wr) := hE
       clear hs hE
       go_wp2_with fail
       refine cH.mono ?_
       rintro e w8 ⟨rfl, E8⟩
       have H8 : Hid (Ext w7 w8) := HE.out.trans E8
       clear cH E8 d1 d2
       go_wp2_with fail
       go_roundw
       case rel => exact ⟨k + 1, by rw [wk], hlt, H8.out⟩
       case measure => rw [wk]; simp [intOf]; omega
     · have hltI : ¬ (k : Int) < (fn : Int) := fun h => Nat.not_lt.2 hge (Int.ofNat_lt.1 h)
       have HE : Hid (Ext w wr) := H7.out.2.2.trans hE
       clear hE wk
       go_wp2_with fail
       refine (lives_any wr).mono ?_
       rintro e w9 ⟨rfl, E9⟩
       have H9 : Hid (Ext w w9) := HE.out.trans E9
       clear E9
       go_wp2_with fail
       go_ret
       exact ⟨rfl, H9.out⟩
theorem laidOut : laidOutB Try.prog = true := by kernel_rfl
theorem cells_place : Try.prog.cellsOf 24 = 2 := by kernel_rfl
theorem cells_rect : Try.prog.cellsOf 32 = 4 := by kernel_rfl
set_option maxRecDepth 100000 in
theorem lifted (os : Os) (started : os.Started) (H : Type) (enc : TypeId × Value → H) :
   ReturnsInHanded {} Try.checked os 6 .any (Rows.depsGrowsSpec.pre6 enc Try.prog Try.f6 Rows.depsGrowsRow.domain false) (Rows.depsGrowsSpec.post enc Try.prog Try.f6 false true false false) := by
 refine returnsInHanded_of_change (C := Try.checked) own started (by kernel_rfl) Try.func6
   (ChangeSpec.witness6 (enc := enc) (C := Try.checked) false ⟨#[], #[.slice none 0 0, .agg #[.int .i64 0, .int .i64 0], .agg #[.int .i64 0, .int .i64 0, .int .i64 0, .int .i64 0]], []⟩ 8 (by kernel_rfl) (by kernel_rfl) (by kernel_rfl) (by kernel_rfl)) ?_
 intro W base args ds gs before hval0 hW hcnd _
 have hval : ∀ (j : Nat) t v, Try.f6.params[j]? = some t → args[j]? = some v → Value.okWide Try.prog W .any base t v := hval0
 have hW' := hW
 obtain ⟨p, q, hA0, hV, rfl, hfz, hnd⟩ := hW
 have hA : DataW.TrodAll enc Try.prog W 0 (fun _ => true) true Try.f6.params.toList args.toList ds p := hA0
 rw [Try.params6] at hA hval
 obtain ⟨v0, vs0, d0, ds0, p0, q0, hargs, rfl, rfl, h0, r0⟩ := trodAll_cons hA
 obtain ⟨v1, vs1, d1, ds1, p1, q1, rfl, rfl, rfl, h1, r1⟩ := trodAll_cons r0
 obtain ⟨v2, vs2, d2, ds2, p2, q2, rfl, rfl, rfl, h2, r2⟩ := trodAll_cons r1
 obtain ⟨rfl, rfl, rfl⟩ := trodAll_nil r2
 obtain rfl : args = #[v0, v1, v2] := by cases args; simp_all
 obtain ⟨rfl, rfl⟩ := trodVars_none hV
 have j0 := h0
 have lt0 : ∀ x ∈ p0, x.block < W.heap.size := by obtain ⟨m, hm⟩ := j0; exact DataW.trod_lt m _ _ _ hm
 obtain ⟨pp0, ln0, cl0, rfl⟩ := okWide_slice Try.underlying22 (hval 0 22 v0 rfl rfl)
 obtain ⟨l0, rd0, az0⟩ : ∃ l, RdG cZ 3 W (.slice pp0 ln0 cl0) l ∧ ∀ z ∈ l, RdR W z.v z.e.2 := by
   obtain ⟨fuel, hf⟩ := h0
   exact open_acts hf
 have j1 := h1
 have lt1 : ∀ x ∈ p1, x.block < W.heap.size := by obtain ⟨m, hm⟩ := j1; exact DataW.trod_lt m _ _ _ hm
 obtain ⟨cc0, cc1, yy0, yy1, m1, rfl, hd1, hp1, hy0, hy1⟩ := open_agg2 Try.underlying24 (by kernel_rfl) cells_place (hval 1 24 v1 rfl rfl) h1
 obtain ⟨Lp1, f0, _, wp1⟩ := DataW.trod_int Try.underlying3 hy0
 obtain ⟨Lq1, f1, _, wq1⟩ := DataW.trod_int Try.underlying3 hy1
 simp only [List.cons.injEq, and_true] at f0 f1
 obtain rfl := f0
 obtain rfl := f1
 have j2 := h2
 have lt2 : ∀ x ∈ p2, x.block < W.heap.size := by obtain ⟨m, hm⟩ := j2; exact DataW.trod_lt m _ _ _ hm
 obtain ⟨cc0, cc1, cc2, cc3, yy0, yy1, yy2, yy3, m2, rfl, hd2, hp2, hy0, hy1, hy2, hy3⟩ := open_agg4 Try.underlying32 (by kernel_rfl) cells_rect (hval 2 32 v2 rfl rfl) h2
 obtain ⟨Lp2, f0, _, _⟩ := DataW.trod_int Try.underlying3 hy0
 obtain ⟨Lq2, f1, _, _⟩ := DataW.trod_int Try.underlying3 hy1
 obtain ⟨Lu2, f2, _, _⟩ := DataW.trod_int Try.underlying3 hy2
 obtain ⟨Lv2, f3, _, _⟩ := DataW.trod_int Try.underlying3 hy3
 simp only [List.cons.injEq, and_true] at f0 f1 f2 f3
 obtain rfl := f0
 obtain rfl := f1
 obtain rfl := f2
 obtain rfl := f3
 clear hA0 hval0
 refine (walk l0 pp0 ln0 cl0 Lp1 Lq1 Lp2 Lq2 Lu2 Lv2 rd0 az0 wp1 wq1).mono fun e W' ⟨he, bel⟩ => ?_
 subst he
 exact ⟨_, rfl, _, _, _, [], _, [], hW', trodAll_mk1 (shut_bool Try.underlying4 _), (trodAll_cons_mk (Below.trod laidOut (by kernel_rfl) (of_decide_eq_true (by kernel_rfl)) j0 bel lt0) (trodAll_cons_mk (Below.trod laidOut (by kernel_rfl) (of_decide_eq_true (by kernel_rfl)) j1 bel lt1) (trodAll_cons_mk (Below.trod laidOut (by kernel_rfl) (of_decide_eq_true (by kernel_rfl)) j2 bel lt2) trodAll_mk0))), rfl, Below.frame bel _, fun h => by cases h⟩

theorem over : Rows.depsGrowsRow.holds Try.pinned (OpenSpec.ofChange Rows.depsGrowsSpec) :=
 OpenClaim.holds_of_wide 6 Try.f6 rfl rfl rfl rfl rfl rfl rfl ⟨rfl, rfl, rfl, rfl, rfl⟩ rfl rfl rfl rfl rfl (by kernel_rfl) Try.func6 (by kernel_rfl)
   (of_decide_eq_true (by kernel_rfl)) (by unfold Func.isWrapper; first | (rw [if_pos (by decide +kernel)]; kernel_rfl) | (rw [if_neg (by decide +kernel)]; exact ⟨rfl, rfl⟩))
   (fun os started H enc _ => lifted os started H enc)

theorem proved : Rows.DepsGrowsSaid := over
end Go.Proofs.Ytjpiphnbadggoaa.depsGrows
namespace Go.Proofs.Ytjpiphnbadggoaa
theorem depsGrows_holds : Rows.DepsGrowsSaid := depsGrows.proved
end Go.Proofs.Ytjpiphnbadggoaa
