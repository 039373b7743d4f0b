/-
 The document's Sort.
 OrderSorts' walk.
-/
import Derived.Test.YtcjenjeggmlanaaY5
import Derived.Maps.RangeWalk
namespace Go.Proofs.Ytcjenjeggmlanaa
open Go.RowKit
set_option maxHeartbeats 6000000

theorem rdB_iff {L : List (Nat × Nat)} {n : Nat} (hL : ∀ p ∈ L, p.1 < n ∧ p.2 < n) {F : Nat → Int} (hg : IsGrp L n (rng n F)) (o : List Nat) (x : Nat) : rdB L F (fun v => decide (v ∈ o)) x = true ↔ Rdy L o x := by
 unfold rdB
 rw [List.all_eq_true]
 constructor
 · intro h b hb
   have h1 := h (x, b) hb
   have hx := hL _ hb
   by_cases hm : b ∈ o
   · exact .inl hm
   · refine .inr ((grp_con hg hx.1 hx.2 hb (rng_at F hx.1) (rng_at F hx.2)).1 ?_)
     unfold bar1 at h1
     simp [hm] at h1
     exact h1
 · rintro h ⟨a, b⟩ hp
   have hx := hL _ hp
   unfold bar1
   by_cases ha : a = x
   · subst ha
     rcases h b hp with hm | hc
     · simp [hm]
     · obtain ⟨h0, h1⟩ := (grp_con hg hx.1 hx.2 hp (rng_at F hx.1) (rng_at F hx.2)).2 hc
       simp [← h1]
       exact .inr h0
   · simp [ha]
/-- Things that are there. -/
structure OT (L : List (Nat × Nat)) (m base tb : Nat) (o : List Nat) (ov : Value) (W : World) : Prop where
 q : W.ownsRow base 3 1 ov o.length (o.flatMap cN)
 t : W.ownsRow base 4 1 (sl tb m) m ((rng m (fun v => decide (v ∈ o))).flatMap cB)
 d : ov.ownBlock ≠ some tb
 p : Ords L m o
theorem OT.ext {L : List (Nat × Nat)} {m base tb : Nat} {o : List Nat} {ov : Value} {W W' : World} (h : OT L m base tb o ov W) (e : Ext W W') : OT L m base tb o ov W' :=
 ⟨ownsRow_ext h.q e, ownsRow_ext h.t e, h.d, h.p⟩
theorem upd_in {o : List Nat} {i : Nat} : upd (fun v => decide (v ∈ o)) i true = fun v => decide (v ∈ o ++ [i]) := by
 funext v
 by_cases e : v = i
 · subst e; rw [upd_at]; simp
 · rw [upd_ne _ _ e]; simp [e]
theorem OT.step {L : List (Nat × Nat)} {m base tb i : Nat} {o : List Nat} {ov v2 : Value} {W Y W' : World} (h : OT L m base tb o ov W) (e : Ext W Y) (hO : W'.ownsRow base 3 1 v2 (o.length + 1) ((o ++ [i]).flatMap cN)) (g : Y.grownBy W' ov.ownBlock)
   (nb : v2.ownBlock = ov.ownBlock ∨ v2.ownBlock = some Y.heap.size) (hN : Nxt L m o i) : OT L m base tb (o ++ [i]) v2 (W'.setCell ⟨tb, i, none⟩ (.bool true)) := by
 have h' := h.ext e
 have hd : v2.ownBlock ≠ some tb := by
   intro e2
   rcases nb with nb | nb
   · exact h.d (nb ▸ e2)
   · rw [nb] at e2
     have e3 := Option.some.inj e2
     have := (h'.t.lt tb rfl).2
     omega
 refine ⟨own_far (own_eq hO (by simp) rfl) _ hd, ?_, hd, ords_snoc h.p hN⟩
 have ht := own_keep h'.t (fun k ek hk => g.block k hk (fun e2 => h.d (by rw [← e2]; exact ek.symm ▸ rfl)))
 have := own_put hB ht i true
 rwa [upd_in] at this
def slLen (v : Value) : Nat := match v with | .slice _ n _ => n | _ => 0
/-- The rows that Sort begins with. -/
def TwQ (w : World) (m : Nat) (L : List (Nat × Nat)) (vo vt : Value) (W : World) : Prop := ∃ tb, vt = .slice (some ⟨tb, 0, none⟩) m m ∧ OT L m w.heap.size tb [] vo W ∧ Ext w W
theorem twq (w : World) (m : Nat) (L : List (Nat × Nat)) (hm : m ≤ 1000000) :
   TwQ w m L (.slice (some ⟨w.heap.size, 0, none⟩) 0 0) (.slice (some ⟨w.heap.size + 1, 0, none⟩) m m) ((w.alloc (.cells #[] 3)).alloc (.cells (zB m) 4)).drew ∧ TwQ w m L (.slice (some ⟨w.heap.size + 1, 0, none⟩) 0 0) (.slice (some ⟨w.heap.size, 0, none⟩) m m) ((w.alloc (.cells (zB m) 4)).alloc (.cells #[] 3)).drew := by
 have e0 : (fun v => decide (v ∈ ([] : List Nat))) = fun _ => false := by funext v; simp
 constructor
 · refine ⟨w.heap.size + 1, rfl, ⟨ownsRow_ext ((own_new w w (Nat.le_refl _)).alloc _) (Ext.refl _).drew, ownsRow_ext ?_ (Ext.refl _).drew, fun e => ?_, ords_nil _ _⟩, (((Ext.refl w).alloc _).alloc _).drew⟩
   · rw [e0]
     have := mk_full (W := w.alloc (.cells #[] 3)) (base := w.heap.size) (n := m) (T := 4) (by simp) hm hB false rfl
     simp at this
     exact this
   · have e2 : w.heap.size = w.heap.size + 1 := Option.some.inj e
     omega
 · refine ⟨w.heap.size, rfl, ⟨ownsRow_ext ?_ (Ext.refl _).drew, ownsRow_ext ?_ (Ext.refl _).drew, fun e => ?_, ords_nil _ _⟩, (((Ext.refl w).alloc _).alloc _).drew⟩
   · have := own_new (T := 3) (k := 1) w (w.alloc (.cells (zB m) 4)) (by simp)
     simp at this
     exact this
   · rw [e0]
     exact (mk_full (W := w) (Nat.le_refl _) hm hB false rfl).alloc _
   · have e2 : w.heap.size + 1 = w.heap.size := Option.some.inj e
     omega
theorem keep_t {L : List (Nat × Nat)} {m base tb i : Nat} {o : List Nat} {ov : Value} {W W' : World} (h : OT L m base tb o ov W) (hi : i < m) (g : W.grownBy W' ov.ownBlock) : W'.cell? ⟨tb, i, none⟩ = some (.bool (decide (i ∈ o))) ∧ W'.frozen? ⟨tb, i, none⟩ = false := by
 have ht := own_keep h.t (fun k ek hk => g.block k hk (fun e2 => h.d (by rw [← e2]; exact ek.symm ▸ rfl)))
 exact own_cell hB ht hi
set_option maxRecDepth 100000 in
theorem rsort_any (w : World) (v : Value) (l : List (Int × Int)) (n : Int) (h : RdG cQ 2 w v l) (hl : l.length ≤ 5000) :
   Calls Try.prog 9 #[.int .i64 n, v] w (SoQ w n l) := by
 obtain ⟨p, c, rfl, _⟩ := h.form
 obtain ⟨N, hN⟩ : ∃ N, l.length = N := ⟨_, rfl⟩
 have HR : Hid (RdG cQ 2 w (.slice p N c) l ∧ l.length ≤ 5000 ∧ l.length = N) := ⟨by rw [← hN]; exact h, hl, hN⟩
 rw [hN]
 clear h hl hN
 rcases Int.lt_or_le n 0 with h0 | h0
 · have HQ : Hid (SoQ w n l (.returned (.tuple #[.slice none 0 0, .slice none 0 0, .int .i64 1])) w) := ⟨_, _, [], [], 1, rfl, RdG.nil _, RdG.nil _, by unfold SoP; rw [if_pos (.inl h0)]; exact ⟨rfl, rfl, rfl⟩, Ext.refl _⟩
   go_enter Try.func9, Try.ntmps9
   go_wp2_with fail
   refine bodyPost_ret (v := .tuple #[.slice none 0 0, .slice none 0 0, .int .i64 1]) (by simp [results, Try.results9, go_sem]) rfl ?_
   exact HQ.out
 · have h0' : ¬ n < 0 := by omega
   have HQ1 : Hid (l.all (okP n) = false → ∀ W, Ext w W → SoQ w n l (.returned (.tuple #[.slice none 0 0, .slice none 0 0, .int .i64 1])) W) := fun ha W e => ⟨_, _, [], [], 1, rfl, RdG.nil _, RdG.nil _, by unfold SoP; rw [if_pos (.inr ha)]; exact ⟨rfl, rfl, rfl⟩, e⟩
   have HN0 : Hid (0 ≤ n) := h0
   clear h0
   go_enter Try.func9, Try.ntmps9
   go_wp2_with fail
   go_loopw [7] (fun x wr => ∃ k : Nat, x = .int .i64 (k : Int) ∧ k ≤ N ∧ Ext w wr ∧ (l.take k).all (okP n) = true) (fun x _ => N - (intOf x).toNat)
   case atStart => exact ⟨0, rfl, Nat.zero_le _, Ext.refl _, rfl⟩
   case round =>
     clear h0'
     obtain ⟨k, rfl, hk, hE, ha⟩ := hrel
     have HE : Hid (Ext w wr ∧ (l.take k).all (okP n) = true) := ⟨hE, ha⟩
     clear hE ha
     rcases Nat.lt_or_ge k N with hlt | hge
     · have hltI : (k : Int) < (N : Int) := by omega
       obtain ⟨x, hx⟩ : ∃ x, l[k]? = some x := ⟨_, List.getElem?_eq_getElem (by have := HR.out; omega)⟩
       obtain ⟨b, off, rfl, -, c1, c2⟩ := RdQ.cell (HR.out.1.ext HE.out.1) hx
       have wk := wrapI k (by have := HR.out; omega)
       obtain ⟨x1, x2⟩ := x
       have HX : Hid (l[k]? = some (x1, x2) ∧ k < N) := ⟨hx, hlt⟩
       have HF : Hid (okP n (x1, x2) = false → ∀ V, Ext w V → SoQ w n l (.returned (.tuple #[.slice none 0 0, .slice none 0 0, .int .i64 1])) V) := fun hf V e => HQ1.out (allF hx hf) V e
       clear hx hk hlt
       go_upto_region 6 with fail
       go_region
       by_cases a1 : x1 < 0
       · have HG : Hid (okP n (x1, x2) = false) := by show _ = _; unfold okP; simp; omega
         go_wp2_with fail
         refine bodyPost_ret (v := .tuple #[.slice none 0 0, .slice none 0 0, .int .i64 1]) (by simp [results, Try.results9, go_sem]) rfl ?_
         exact HF.out HG.out _ HE.out.1.drew
       by_cases a2 : x2 < 0
       · have HG : Hid (okP n (x1, x2) = false) := by show _ = _; unfold okP; simp; omega
         go_wp2_with fail
         refine bodyPost_ret (v := .tuple #[.slice none 0 0, .slice none 0 0, .int .i64 1]) (by simp [results, Try.results9, go_sem]) rfl ?_
         exact HF.out HG.out _ HE.out.1.drew
       by_cases a3 : n ≤ x1
       · have HG : Hid (okP n (x1, x2) = false) := by show _ = _; unfold okP; simp; omega
         go_wp2_with fail
         refine bodyPost_ret (v := .tuple #[.slice none 0 0, .slice none 0 0, .int .i64 1]) (by simp [results, Try.results9, go_sem]) rfl ?_
         exact HF.out HG.out _ HE.out.1.drew
       by_cases a4 : n ≤ x2
       · have HG : Hid (okP n (x1, x2) = false) := by show _ = _; unfold okP; simp; omega
         go_wp2_with fail
         refine bodyPost_ret (v := .tuple #[.slice none 0 0, .slice none 0 0, .int .i64 1]) (by simp [results, Try.results9, go_sem]) rfl ?_
         exact HF.out HG.out _ HE.out.1.drew
       have HT : Hid ((l.take (k + 1)).all (okP n) = true) := by
         show _ = true
         rw [all_take HX.out.1, HE.out.2]
         unfold okP
         simp
         omega
       go_wp2
       go_roundw
       case rel => exact ⟨k + 1, by rw [wk], HX.out.2, HE.out.1.drew, HT.out⟩
       case measure => rw [wk]; clear wk; have := HX.out.2; simp [intOf]; omega
     · have hltI : ¬ (k : Int) < (N : Int) := by omega
       have HA : Hid (l.all (okP n) = true) := by have := HE.out.2; rwa [List.take_of_length_le (by have := HR.out; omega)] at this
       rcases Int.lt_or_le 4096 n with hn | hn
       · have HQ : Hid (SoQ w n l (.returned (.tuple #[.slice none 0 0, .slice none 0 0, .int .i64 2])) wr) := ⟨_, _, [], [], 2, rfl, RdG.nil _, RdG.nil _, by unfold SoP; rw [if_neg (by rw [HA.out]; simp; have := HN0.out; omega), if_pos hn]; exact ⟨rfl, rfl, rfl⟩, HE.out.1⟩
         go_wp2_with fail
         refine bodyPost_ret (v := .tuple #[.slice none 0 0, .slice none 0 0, .int .i64 2]) (by simp [results, Try.results9, go_sem]) rfl ?_
         exact HQ.out
       · have hn' : ¬ 4096 < n := by omega
         obtain ⟨m, hm⟩ : ∃ m : Nat, n = (m : Int) := ⟨n.toNat, by have := HN0.out; omega⟩
         subst hm
         obtain ⟨L, hL⟩ : ∃ L, l.map nn = L := ⟨_, rfl⟩
         have HL : Hid (l.map nn = L ∧ RdG cM 2 wr (.slice p N c) L ∧ L.length ≤ 5000 ∧ (∀ p ∈ L, p.1 < m ∧ p.2 < m) ∧ m ≤ 4096 ∧ Ext w wr) := by
           have hok := ok_in HA.out
           refine ⟨hL, ?_, by rw [← hL, List.length_map]; exact HR.out.2.1, by rw [← hL]; exact hok.2, by omega, HE.out.1⟩
           have := rd_nn (HR.out.1.ext HE.out.1) hok.1
           rwa [hL] at this
         have HP : Hid (∀ o gs, IsOrd L m o → IsGrp L m gs → SoP (m : Int) l o gs 0) := fun o gs h1 h2 => by
           subst hL
           exact SoP.mk HA.out (by omega) h1 h2
         have cr := reaches_any wr _ L m HL.out.2.1 (by have := HL.out; omega) (by omega) HL.out.2.2.2.1
         obtain ⟨wa, hwa⟩ : ∃ wa, wa = wr := ⟨_, rfl⟩
         subst hwa
         clear hL hn HE HA HQ1 HN0 hge hk HR
         go_wp2_with fail
         refine cr.mono ?_
         rintro e w2 ⟨mv, g, F, rfl, hM, hF, e2⟩
         obtain ⟨mp, mc, rfl, -⟩ := own_form hM.o
         have HM : Hid (RwB wa.heap.size m m w2 (.slice mp m mc) g F ∧ (∀ x y, x < m → y < m → (F x y = true ↔ Rch (EL L) x y)) ∧ Ext w w2 ∧ Ext wa w2 ∧ m ≤ 4096) := ⟨hM, hF, HL.out.2.2.2.2.2.trans e2, e2, HL.out.2.2.2.2.1⟩
         have H0 : Hid ((w2.alloc (.cells #[] 3)).ownsRow w2.heap.size 3 1 (.slice (some ⟨w2.heap.size, 0, none⟩) 0 0) 0 ((rng 0 (fun v => lo1 F m v m)).flatMap cI)) := own_new w2 w2 (Nat.le_refl _)
         clear cr hM hF e2
         clear hn' hltI
         go_wp2_with fail
         go_loopw [12, 11] (fun x gv wr => ∃ i : Nat, x = .int .i64 (i : Int) ∧ i ≤ m ∧ wr.ownsRow w2.heap.size 3 1 gv i ((rng i (fun v => lo1 F m v m)).flatMap cI) ∧ Ext w2 wr) (fun x _ _ => m - (intOf x).toNat)
         case atStart => exact ⟨0, rfl, Nat.zero_le _, H0.out, (Ext.refl _).alloc _⟩
         case round =>
           clear H0
           obtain ⟨i, rfl, hi, hO, hE⟩ := hrel
           obtain ⟨gp, gc, rfl, -⟩ := own_form hO
           have HO : Hid (wr.ownsRow w2.heap.size 3 1 (.slice gp i gc) i ((rng i (fun v => lo1 F m v m)).flatMap cI) ∧ Ext w2 wr) := ⟨hO, hE⟩
           obtain ⟨wo, hwo⟩ : ∃ wo, wo = wr := ⟨_, rfl⟩
           subst hwo
           clear hO hE
           rcases Nat.lt_or_ge i m with hlt | hge
           · have hltI : (i : Int) < (m : Int) := by omega
             have HI : Hid (i < m) := hlt
             have ws : wrap64 ((m : Int) - 1) = (m : Int) - 1 := by have := HM.out.2.2.2.2; unfold wrap64; omega
             clear hlt hi
             go_wp2_with fail
             go_loopw [14, 13] (fun x y wr => ∃ t : Nat, x = .int .i64 ((m : Int) - 1 - t) ∧ t ≤ m ∧ y = .int .i64 (lo1 F m i t) ∧ wo = wr) (fun x _ _ => (intOf x + 1).toNat)
             case atStart => exact ⟨0, (by first | rw [ws]; simp | simp), Nat.zero_le _, rfl, rfl⟩
             case round =>
               clear ws
               obtain ⟨t, rfl, ht, rfl, hwr⟩ := hrel
               subst hwr
               rcases Nat.lt_or_ge t m with htm | htm
               · obtain ⟨J, hJ⟩ : ∃ J, m - 1 - t = J := ⟨_, rfl⟩
                 have hJI : (m : Int) - 1 - (t : Int) = (J : Int) := by omega
                 have hJm : J < m := by omega
                 rw [hJI]
                 have hMW := HM.out.1.ext HO.out.2
                 obtain ⟨rb, rc, he, hrow⟩ := hMW.row (by omega)
                 simp only [Value.slice.injEq, true_and] at he
                 obtain ⟨rfl, rfl⟩ := he
                 have r1 := hrow i HI.out
                 have r2 := hrow J hJm
                 have g1 := (hMW.at HI.out hJm).1
                 have g2 := (hMW.at hJm HI.out).1
                 unfold sl at r1 r2
                 obtain ⟨f1, hf1⟩ : ∃ f, F i J = f := ⟨_, rfl⟩
                 obtain ⟨f2, hf2⟩ : ∃ f, F J i = f := ⟨_, rfl⟩
                 rw [hf1] at g1
                 rw [hf2] at g2
                 have HS : Hid (lo1 F m i (t + 1) = if f1 && f2 then (J : Int) else lo1 F m i t) := by
                   show _ = _
                   rw [← hf1, ← hf2, ← hJ]
                   rfl
                 have HJ : Hid ((J : Int) - 1 = (m : Int) - 1 - ((t + 1 : Nat) : Int) ∧ t + 1 ≤ m) := ⟨by omega, htm⟩
                 have iJ : (J : Int) < (m : Int) := by omega
                 have wj : wrap64 ((J : Int) - 1) = (J : Int) - 1 := by have := HM.out.2.2.2.2; unfold wrap64; omega
                 clear hMW hrow hf1 hf2 hJ hJI hJm htm ht
                 cases f1
                 · go_wp2
                   go_roundw
                   case rel => exact ⟨t + 1, by rw [wj, HJ.out.1], HJ.out.2, by rw [HS.out]; simp, trivial⟩
                   case measure => rw [wj]; clear wj; simp [intOf]
                 · cases f2
                   · go_wp2
                     go_roundw
                     case rel => exact ⟨t + 1, by rw [wj, HJ.out.1], HJ.out.2, by rw [HS.out]; simp, trivial⟩
                     case measure => rw [wj]; clear wj; simp [intOf]
                   · go_wp2
                     go_roundw
                     case rel => exact ⟨t + 1, by rw [wj, HJ.out.1], HJ.out.2, by rw [HS.out]; simp, trivial⟩
                     case measure => rw [wj]; clear wj; simp [intOf]
               · have htm' : t = m := by omega
                 subst htm'
                 obtain ⟨z, hz⟩ : ∃ z, lo1 F t i t = z := ⟨_, rfl⟩
                 rw [hz]
                 rw [show (t : Int) - 1 - (t : Int) = -1 from by omega]
                 have HZ : Hid (lo1 F t i t = z) := hz
                 have HA2 : Hid (Ext w2 (wo.alloc (.cells #[.int .i64 z] 3)) ∧ (wo.alloc (.cells #[.int .i64 z] 3)).ownsRow w2.heap.size 3 1 (.slice gp i gc) i ((rng i (fun v => lo1 F t v t)).flatMap cI)) := ⟨HO.out.2.alloc _, HO.out.1.alloc _⟩
                 have HRd : Hid (RdG cI 1 (wo.alloc (.cells #[.int .i64 z] 3)) (.slice (some ⟨wo.heap.size, 0, none⟩) 1 1) [z]) := RdG.one (top_heap _ _) (fun j u h => by
                   have hj : j < 1 := (List.getElem?_eq_some_iff.1 h).1
                   match j, hj with
                   | 0, _ => exact h)
                 have HSz : Hid (i + 1 ≤ 1000000 ∧ w2.heap.size ≤ (wo.alloc (.cells #[.int .i64 z] 3)).heap.size) := ⟨by have := HM.out.2.2.2.2; have := HI.out; omega, HA2.out.1.size⟩
                 have wi := wrapI i (by have := HM.out.2.2.2.2; have := HI.out; omega)
                 clear hz htm ht
                 go_wp2_with (at_builtin; refine app_q eltI cI_len cI_one (by decide) _ _ _ _ _ i 1 (rng i (fun v => lo1 F t v t)) [z] w2.heap.size rfl rfl (by rfl) (by rfl) HA2.out.2 rfl HRd.out HSz.out.1 HSz.out.2 ?_; intro v9 w9 O9 G9 B9; have H9 : Hid _ := And.intro O9 (ext_grownG HA2.out.2 (Nat.le_refl _) HA2.out.1 G9); clear O9 G9 B9)
                 go_roundw
                 case rel =>
                   refine ⟨i + 1, by rw [wi], HI.out, own_eq H9.out.1 rfl ?_, H9.out.2⟩
                   rw [← HZ.out]
                   unfold rng
                   rw [List.range_succ, List.map_append]
                   rfl
                 case measure => rw [wi]; clear wi; have := HI.out; simp [intOf]; omega
           · have hltI : ¬ (i : Int) < (m : Int) := by omega
             have him : i = m := by omega
             subst him
             have HG : Hid (IsGrp L i (rng i (fun v => lo1 F i v i)) ∧ RdG cI 1 wo (.slice gp i gc) (rng i (fun v => lo1 F i v i)) ∧ Ext w2 wo) :=
               ⟨lo1_grp HL.out.2.2.2.1 HM.out.2.1 (rng_len _ _) (fun v hv => rng_at _ hv), own_rdG cI_len HO.out.1 (rng_len _ _).symm, HO.out.2⟩
             have mk := fun W => mk_bool W i i (Nat.le_refl _) (by have := HM.out.2.2.2.2; omega)
             have HM22 : Hid (TwQ wo i L (.slice (some ⟨wo.heap.size, 0, none⟩) 0 0) (.slice (some ⟨wo.heap.size + 1, 0, none⟩) i i) ((wo.alloc (.cells #[] 3)).alloc (.cells (zB i) 4)).drew ∧ TwQ wo i L (.slice (some ⟨wo.heap.size + 1, 0, none⟩) 0 0) (.slice (some ⟨wo.heap.size, 0, none⟩) i i) ((wo.alloc (.cells (zB i) 4)).alloc (.cells #[] 3)).drew) := twq wo i L (by have := HM.out.2.2.2.2; omega)
             clear hge hi
             go_upto_region 22 with fail
             go_cut [15, 16] (fun vo vt wx => TwQ wo i L vo vt wx)
             case first =>
               refine wp_region_held_drew (S := (fun _ => True)) (by kernel_rfl) ?_ (fun hHeld0 => ?_)
               · first | done | trivial
               refine wpAnyH_take (i := 1) (oi := ⟨some 91, .move (.tmp 0), 3, "ref.go:51", #[], none⟩) (v := ?_) rfl (by kernel_rfl) (by kernel_rfl) (by kernel_rfl) (fun _ _ _ h => h) (Or.inl ⟨by rfl, ?_⟩) (by assumption) ?_
               rotate_left
               · intro w hSw; (try dsimp only at hSw); first | (go_simp; done) | (go_simp; with_reducible rfl)
               try simp only [Act.put, List.setIfInBounds_toArray, List.set_cons_zero, List.set_cons_succ]
               refine wpAnyH_ready (rs := [0, 2]) (by kernel_rfl) (by simp) ?_
               refine AllReadyH.cons (o := ⟨some 90, .buildSlice 24 0 #[], 24, "ref.go:51", #[], none⟩) rfl (fun K hK => ?_) (AllReadyH.cons (o := ⟨some 92, .makeSlice 37 (.tmp 91) (.tmp 91), 37, "ref.go:51", #[⟨1, .data⟩, ⟨1, .data⟩], none⟩) rfl (fun K hK => ?_) AllReadyH.nil)
               · go_simp
                 skip
                 try go_wp2_with fail
                 refine hK.out _ _ ?_ (fun hHeld1 => ?_)
                 · (try dsimp only); first | done | trivial
                 clear hK K hHeld0
                 try simp only [Act.put, List.setIfInBounds_toArray, List.set_cons_zero, List.set_cons_succ]
                 refine wpAnyH_take (i := 3) (oi := ⟨some 15, .assign (.tmp 90), 24, "ref.go:51", #[⟨0, .data⟩, ⟨0, .phase⟩, { on := 1, ground := Ground.textOnly Departure.lateStores }, { on := 2, ground := Ground.textOnly Departure.lateStoresUnsure }], none⟩) (v := ?_) rfl (by kernel_rfl) (by kernel_rfl) (by kernel_rfl) (fun _ _ _ h => h) (Or.inl ⟨by rfl, ?_⟩) (by assumption) ?_
                 rotate_left
                 · intro w hSw; (try dsimp only at hSw); first | (go_simp; done) | (go_simp; with_reducible rfl)
                 try simp only [Act.put, List.setIfInBounds_toArray, List.set_cons_zero, List.set_cons_succ]
                 refine wpAnyH_ready (rs := [2]) (by kernel_rfl) (by simp) ?_
                 refine AllReadyH.cons (o := ⟨some 92, .makeSlice 37 (.tmp 91) (.tmp 91), 37, "ref.go:51", #[⟨1, .data⟩, ⟨1, .data⟩], none⟩) rfl (fun K hK => ?_) AllReadyH.nil
                 go_simp
                 skip
                 try go_wp2_with fail
                 refine hK.out _ _ ?_ (fun hHeld2 => ?_)
                 · (try dsimp only); first | done | trivial
                 clear hK K hHeld1
                 try simp only [Act.put, List.setIfInBounds_toArray, List.set_cons_zero, List.set_cons_succ]
                 refine wpAnyH_take (i := 4) (oi := ⟨some 16, .assign (.tmp 92), 37, "ref.go:51", #[⟨2, .data⟩, ⟨3, .chain⟩, ⟨0, .phase⟩, ⟨1, .phase⟩, ⟨2, .phase⟩, ⟨3, .phase⟩], none⟩) (v := ?_) rfl (by kernel_rfl) (by kernel_rfl) (by kernel_rfl) (fun _ _ _ h => h) (Or.inl ⟨by rfl, ?_⟩) (by assumption) ?_
                 rotate_left
                 · intro w hSw; (try dsimp only at hSw); first | (go_simp; done) | (go_simp; with_reducible rfl)
                 try simp only [Act.put, List.setIfInBounds_toArray, List.set_cons_zero, List.set_cons_succ]
                 refine wpAnyH_done (by kernel_rfl) ?_ _
                 go_wp2_with fail
                 go_meet
                 case rel => exact (by first | exact HM22.out.1 | exact HM22.out.2)
               · go_simp
                 skip
                 try go_wp2_with fail
                 refine hK.out _ _ ?_ (fun hHeld1 => ?_)
                 · (try dsimp only); first | done | trivial
                 clear hK K hHeld0
                 try simp only [Act.put, List.setIfInBounds_toArray, List.set_cons_zero, List.set_cons_succ]
                 refine wpAnyH_ready (rs := [0]) (by kernel_rfl) (by simp) ?_
                 refine AllReadyH.cons (o := ⟨some 90, .buildSlice 24 0 #[], 24, "ref.go:51", #[], none⟩) rfl (fun K hK => ?_) AllReadyH.nil
                 go_simp
                 skip
                 try go_wp2_with fail
                 refine hK.out _ _ ?_ (fun hHeld2 => ?_)
                 · (try dsimp only); first | done | trivial
                 clear hK K hHeld1
                 try simp only [Act.put, List.setIfInBounds_toArray, List.set_cons_zero, List.set_cons_succ]
                 refine wpAnyH_take (i := 3) (oi := ⟨some 15, .assign (.tmp 90), 24, "ref.go:51", #[⟨0, .data⟩, ⟨0, .phase⟩, { on := 1, ground := Ground.textOnly Departure.lateStores }, { on := 2, ground := Ground.textOnly Departure.lateStoresUnsure }], none⟩) (v := ?_) rfl (by kernel_rfl) (by kernel_rfl) (by kernel_rfl) (fun _ _ _ h => h) (Or.inl ⟨by rfl, ?_⟩) (by assumption) ?_
                 rotate_left
                 · intro w hSw; (try dsimp only at hSw); first | (go_simp; done) | (go_simp; with_reducible rfl)
                 try simp only [Act.put, List.setIfInBounds_toArray, List.set_cons_zero, List.set_cons_succ]
                 refine wpAnyH_take (i := 4) (oi := ⟨some 16, .assign (.tmp 92), 37, "ref.go:51", #[⟨2, .data⟩, ⟨3, .chain⟩, ⟨0, .phase⟩, ⟨1, .phase⟩, ⟨2, .phase⟩, ⟨3, .phase⟩], none⟩) (v := ?_) rfl (by kernel_rfl) (by kernel_rfl) (by kernel_rfl) (fun _ _ _ h => h) (Or.inl ⟨by rfl, ?_⟩) (by assumption) ?_
                 rotate_left
                 · intro w hSw; (try dsimp only at hSw); first | (go_simp; done) | (go_simp; with_reducible rfl)
                 try simp only [Act.put, List.setIfInBounds_toArray, List.set_cons_zero, List.set_cons_succ]
                 refine wpAnyH_done (by kernel_rfl) ?_ _
                 go_wp2_with fail
                 go_meet
                 case rel => exact (by first | exact HM22.out.1 | exact HM22.out.2)
             case rest =>
               clear mk HM22
               obtain ⟨tb, rfl, hT, hE⟩ := hcut
               have H22 : Hid (OT L i wo.heap.size tb [] u15 wc ∧ Ext wo wc) := ⟨hT, hE⟩
               clear hT hE
               go_wp2_with fail
               go_loopw [15] (fun ov wr => ∃ o : List Nat, OT L i wo.heap.size tb o ov wr ∧ Ext wo wr) (fun ov _ => i - slLen ov)
               case atStart => exact ⟨[], H22.out⟩
               case round =>
                 clear H22
                 obtain ⟨o, hT, hE⟩ := hrel
                 obtain ⟨op, oc, he, -⟩ := own_form hT.q
                 have HT : Hid (OT L i wo.heap.size tb o u15 wr ∧ Ext wo wr) := ⟨hT, hE⟩
                 rw [he] at HT ⊢
                 obtain ⟨wp, hwp⟩ : ∃ wp, wp = wr := ⟨_, rfl⟩
                 subst hwp
                 clear hT hE he
                 rcases Nat.lt_or_ge o.length i with hlt | hge
                 · have hltI : (o.length : Int) < (i : Int) := by omega
                   have HI : Hid (o.length < i) := hlt
                   clear hlt
                   go_wp2_with fail
                   go_loopw [17, 15] (fun x ov wr => ∃ y : Nat, x = .int .i64 (y : Int) ∧ y ≤ i ∧ ov = .slice op o.length oc ∧ Ext wp wr ∧ ∀ z, z < y → z ∉ o → ¬ Rdy L o z) (fun x _ _ => i - (intOf x).toNat)
                   case atStart => exact ⟨0, rfl, Nat.zero_le _, rfl, Ext.refl _, fun z hz => absurd hz (Nat.not_lt_zero _)⟩
                   case round =>
                     obtain ⟨y, rfl, hy, rfl, hE, hno⟩ := hrel
                     have HN : Hid (Ext wp wr ∧ ∀ z, z < y → z ∉ o → ¬ Rdy L o z) := ⟨hE, hno⟩
                     rcases Nat.lt_or_ge y i with hyl | hyg
                     · have hylI : (y : Int) < (i : Int) := by omega
                       have HY : Hid (y < i) := hyl
                       obtain ⟨t1, t2⟩ := own_cell hB (ownsRow_ext HT.out.1.t hE) hyl
                       unfold eB at t1
                       obtain ⟨f, hf⟩ : ∃ f, decide (y ∈ o) = f := ⟨_, rfl⟩
                       rw [hf] at t1
                       have HF : Hid (decide (y ∈ o) = f) := hf
                       have wy := wrapI y (by have := HM.out.2.2.2.2; omega)
                       have cd := ready_any wr _ _ _ L i y (fun v => lo1 F i v i) (fun v => decide (v ∈ o)) (HL.out.2.1.ext (HM.out.2.2.2.1.trans (HG.out.2.2.trans (HT.out.2.trans hE)))) (by have := HL.out; omega) (HG.out.2.1.ext (HT.out.2.trans hE)) (own_rdG cB_len (ownsRow_ext HT.out.1.t hE) (rng_len _ _).symm) (by have := HM.out.2.2.2.2; omega) hyl HL.out.2.2.2.1
                       unfold sl at cd
                       clear hE hno hf hyl hy
                       cases f
                       · have HNo : Hid (y ∉ o) := by have := HF.out; exact of_decide_eq_false this
                         go_wp2_with fail
                         refine cd.mono ?_
                         rintro e w7 ⟨rfl, e7⟩
                         have HR7 : Hid (rdB L (fun v => lo1 F i v i) (fun v => decide (v ∈ o)) y = true ↔ Rdy L o y) := rdB_iff HL.out.2.2.2.1 HG.out.1 o y
                         generalize rdB L (fun v => lo1 F i v i) (fun v => decide (v ∈ o)) y = q at HR7 ⊢
                         have HE7 : Hid (Ext wp w7 ∧ Ext wr w7) := ⟨HN.out.1.trans e7, e7⟩
                         clear cd e7 t1 t2
                         cases q
                         · have HS : Hid (∀ z, z < y + 1 → z ∉ o → ¬ Rdy L o z) := fun z hz hzo hr => by
                             by_cases e : z = y
                             · subst e
                               have := HR7.out.2 hr
                               cases this
                             · exact HN.out.2 z (by omega) hzo hr
                           go_wp2_with fail
                           go_roundw
                           case rel => exact ⟨y + 1, by rw [wy], HY.out, rfl, HE7.out.1, HS.out⟩
                           case measure => rw [wy]; clear wy; have := HY.out; simp [intOf]; omega
                         · have HNx : Hid (Nxt L i o y) := ⟨HY.out, HNo.out, HR7.out.1 rfl, fun z z1 z2 z3 => Nat.le_of_not_lt (fun hz => HN.out.2 z hz z2 z3)⟩
                           have HA2 : Hid (OT L i wo.heap.size tb o (.slice op o.length oc) (w7.alloc (.cells #[.int .i64 (y : Int)] 3)) ∧ Ext wo (w7.alloc (.cells #[.int .i64 (y : Int)] 3))) := ⟨HT.out.1.ext (HE7.out.1.alloc _), (HT.out.2.trans HE7.out.1).alloc _⟩
                           have HRd : Hid (RdG cN 1 (w7.alloc (.cells #[.int .i64 (y : Int)] 3)) (.slice (some ⟨w7.heap.size, 0, none⟩) 1 1) [y]) := rd_oneN (Ext.refl _)
                           have HSz : Hid (o.length + 1 ≤ 1000000 ∧ wo.heap.size ≤ (w7.alloc (.cells #[.int .i64 (y : Int)] 3)).heap.size) := ⟨by have := HM.out.2.2.2.2; have := HI.out; omega, HA2.out.2.size⟩
                           clear wy
                           go_wp2_with (at_builtin; refine app_q eltI cN_len cN_one (by decide) _ _ _ _ _ o.length 1 o [y] wo.heap.size rfl rfl (by rfl) (by rfl) HA2.out.1.q rfl HRd.out HSz.out.1 HSz.out.2 ?_; intro v9 w9 O9 G9 B9; obtain ⟨p9, c9, rfl, -⟩ := own_form O9; have H9 : Hid _ := And.intro (HA2.out.1.step (Ext.refl _) O9 G9 B9 HNx.out) (ext_grownG HA2.out.1.q (Nat.le_refl _) HA2.out.2 G9); have HT9 := keep_t HA2.out.1 HNx.out.1 G9; obtain ⟨t3, t4⟩ := HT9; clear O9 G9 B9)
                           go_roundw
                           case rel => exact ⟨o ++ [y], H9.out.1, H9.out.2.setCell (by have := HA2.out.1.t.lt tb rfl; exact this.1) _⟩
                           case measure => have := HI.out; simp [slLen]; omega
                       · go_wp2_with fail
                         go_roundw
                         case rel => exact ⟨y + 1, by rw [wy], HY.out, rfl, HN.out.1, fun z hz hzo hr => by
                           by_cases e : z = y
                           · subst e
                             exact hzo (of_decide_eq_true HF.out)
                           · exact HN.out.2 z (by omega) hzo hr⟩
                         case measure => rw [wy]; clear wy; have := HY.out; simp [intOf]; omega
                     · exfalso
                       obtain ⟨t, h1, h2⟩ := one_left HI.out
                       obtain ⟨z, z1, z2, z3⟩ := some_rdy HL.out.2.2.2.1 h1 h2
                       exact hno z (by omega) z2 z3
                 · have hltI : ¬ (o.length : Int) < (i : Int) := by omega
                   have HQ : Hid (SoQ w (i : Int) l (.returned (.tuple #[.slice op o.length oc, .slice gp i gc, .int .i64 0])) wp) := by
                     have hol : o.length = i := Nat.le_antisymm (ords_len HT.out.1.p) hge
                     exact ⟨_, _, o, rng i (fun v => lo1 F i v i), 0, rfl, own_rdG cN_len HT.out.1.q rfl, HG.out.2.1.ext HT.out.2, HP.out _ _ ⟨hol, HT.out.1.p⟩ HG.out.1, HM.out.2.2.1.trans (HG.out.2.2.trans HT.out.2)⟩
                   clear hge
                   go_wp2_with fail
                   refine bodyPost_ret (v := .tuple #[.slice op o.length oc, .slice gp i gc, .int .i64 0]) (by simp [results, Try.results9, go_sem]) rfl ?_
                   exact HQ.out

open Go.RowKit
set_option maxHeartbeats 6000000

theorem SoP.few {n : Int} {l : List (Int × Int)} {o : List Nat} {gs : List Int} {er : Int} (h : SoP n l o gs er) : o.length ≤ 4096 ∧ gs.length ≤ 4096 := by
 unfold SoP at h
 split at h
 · obtain ⟨rfl, rfl, _⟩ := h
   simp
 · split at h
   · obtain ⟨rfl, rfl, _⟩ := h
     simp
   · have h1 := h.2.1.1
     have h2 := h.2.2.1
     omega
theorem own17_any (w : World) (v : Value) (l : List (Int × Int)) (h : RdG cQ 2 w v l) : Calls Try.prog 7 #[v] w fun e w' => ∃ v', e = .returned v' ∧ RdG cQ 2 w' v' (l.take 60) ∧ Ext w w' := by
 obtain ⟨p, c, rfl, hc⟩ := h.form
 obtain ⟨n, hn⟩ : ∃ n, l.length = n := ⟨_, rfl⟩
 rw [hn] at h hc ⊢
 obtain ⟨k, hk⟩ : ∃ k, (l.take 60).length = k := ⟨_, rfl⟩
 have hk60 : k ≤ 60 := by rw [← hk, List.length_take]; omega
 by_cases hg : n > 60
 · have hk2 : k = 60 := by rw [← hk, List.length_take]; omega
   have HQ : Hid (RdG cQ 2 w (.slice p 60 c) (l.take 60) ∧ (l.take 60).length = 60) := ⟨h.part 60 (by omega), by rw [hk, hk2]⟩
   have hgI : (n : Int) > 60 := by omega
   have h60 : 60 ≤ c := by omega
   clear h hn hk hk60 hk2 hg
   go_enter Try.func7, Try.ntmps7
   go_wp2_with (at_builtin; refine app_g eltQ cQ_len cQ_one (by decide) _ w _ _ _ _ 0 60 [] (l.take 60) w.heap.size rfl rfl (by rfl) (by rfl) (own_new w w (Nat.le_refl _)) (HQ.out.2) (HQ.out.1.ext ((Ext.refl _).alloc _)) (by omega) ((Ext.refl w).alloc _) (Nat.le_refl _) ((Ext.refl w).alloc _).size ?_; intro v9 w9 O9 E9 _ _; have H9 : Hid (RdG cQ 2 w9 v9 (l.take 60) ∧ Ext w w9) := ⟨own_rdG (l := l.take 60) cQ_len O9 (by rw [Nat.zero_add]; exact (HQ.out.2).symm), E9⟩; clear O9 E9)
   go_ret
   exact ⟨_, rfl, H9.out⟩
 · have HQ : Hid (RdG cQ 2 w (.slice p n c) (l.take 60) ∧ (l.take 60).length = n) := by
     refine ⟨?_, ?_⟩
     · rw [List.take_of_length_le (by omega)]; exact h
     · rw [List.take_of_length_le (by omega)]; exact hn
   have hgI : ¬ (n : Int) > 60 := by omega
   have hn60 : n ≤ 60 := by omega
   clear h hn hc hk hk60
   go_enter Try.func7, Try.ntmps7
   go_wp2_with (at_builtin; refine app_g eltQ cQ_len cQ_one (by decide) _ w _ _ _ _ 0 n [] (l.take 60) w.heap.size rfl rfl (by rfl) (by rfl) (own_new w w (Nat.le_refl _)) (HQ.out.2) (HQ.out.1.ext ((Ext.refl _).alloc _)) (by omega) ((Ext.refl w).alloc _) (Nat.le_refl _) ((Ext.refl w).alloc _).size ?_; intro v9 w9 O9 E9 _ _; have H9 : Hid (RdG cQ 2 w9 v9 (l.take 60) ∧ Ext w w9) := ⟨own_rdG (l := l.take 60) cQ_len O9 (by rw [Nat.zero_add]; exact (HQ.out.2).symm), E9⟩; clear O9 E9)
   go_ret
   exact ⟨_, rfl, H9.out⟩
set_option maxRecDepth 100000 in
theorem osorts_walk (a0 : Int) (l1 : List (Int × Int)) (pp1 : Option Addr) (ln1 cl1 : Nat) {w : World} (_ : (Lit.int .i64 a0).wf = true) (rd1 : RdG cQ 2 w (.slice pp1 ln1 cl1) l1) (_ : ∀ y ∈ l1, I64 y.1 ∧ I64 y.2) :
   Calls Try.prog 3 #[.int .i64 a0, .slice pp1 ln1 cl1] w fun e w' => e = .returned (.bool true) ∧ Ext w w' := by
 have c0 := own17_any w _ l1 rd1
 obtain ⟨L, hL⟩ : ∃ L, l1.take 60 = L := ⟨_, rfl⟩
 have hl60 : L.length ≤ 60 := by rw [← hL, List.length_take]; omega
 have HL : Hid (L.length ≤ 60) := hl60
 have hLt : L.take 60 = L := List.take_of_length_le hl60
 have cO := fun V v (h : RdG cQ 2 V v L) => own17_any V v L h
 rw [hLt] at cO
 rw [hL] at c0
 clear hL hl60 hLt rd1
 go_enter Try.func3, Try.ntmps3
 go_wp2_with fail
 refine c0.mono ?_
 rintro e w1 ⟨v1, rfl, r1, e1⟩
 have HV1 : Hid (RdG cQ 2 w1 v1 L ∧ L.length ≤ 60 ∧ Ext w w1) := ⟨r1, HL.out, e1⟩
 clear c0 r1 e1
 go_wp2_with fail
 refine (cO w1 v1 HV1.out.1).mono ?_
 rintro e w2 ⟨v2, rfl, r2, e2⟩
 have HV2 : Hid (RdG cQ 2 w2 v2 L ∧ Ext w1 w2) := ⟨r2, e2⟩
 clear r2 e2
 go_wp2_with fail
 refine (sort_any w2 v2 L a0 HV2.out.1 (by have := HL.out; omega)).mono ?_
 rintro e w3 ⟨va, vg, o, gs, er, rfl, ha, hg, hp, e3⟩
 have HE3 : Hid (Ext w w3 ∧ Ext w1 w3) := ⟨HV1.out.2.2.trans (HV2.out.2.trans e3), HV2.out.2.trans e3⟩
 clear e3
 by_cases h24 : 24 < a0 ∧ a0 ≤ 4096
 · obtain ⟨h24, h40⟩ := h24
   clear ha hg hp
   go_wp2_with fail
   refine (cO w3 v1 (HV1.out.1.ext HE3.out.2)).mono ?_
   rintro e w4 ⟨v4, rfl, r4, e4⟩
   have HV4 : Hid (RdG cQ 2 w4 v4 L ∧ Ext w3 w4) := ⟨r4, e4⟩
   clear r4 e4
   go_wp2_with fail
   refine (sort_any w4 v4 L 24 HV4.out.1 (by have := HL.out; omega)).mono ?_
   rintro e w5 ⟨va, vg, o, gs, er, rfl, ha, hg, hp, e5⟩
   have HA : Hid (RdG cN 1 w5 va o ∧ RdG cI 1 w5 vg gs ∧ SoP 24 L o gs er ∧ Ext w w5 ∧ Ext w1 w5) := ⟨ha, hg, hp, HE3.out.1.trans (HV4.out.2.trans e5), HE3.out.2.trans (HV4.out.2.trans e5)⟩
   clear e5
   have c3 := rsort_any w5 v1 L 24 (HV1.out.1.ext HA.out.2.2.2.2) (by have := HV1.out.2.1; omega)
   obtain ⟨pa, ca, rfl, _⟩ := ha.form
   obtain ⟨pg, cg, rfl, _⟩ := hg.form
   clear ha hg hp
   go_wp2_with fail
   refine c3.mono ?_
   rintro e w6 ⟨vb, vh, o2, gs2, er2, rfl, hb, hh, hp2, e6⟩
   obtain ⟨rfl, rfl, rfl⟩ := hp2.one HA.out.2.2.1
   obtain ⟨pb, cb, rfl, _⟩ := hb.form
   obtain ⟨ph, ch, rfl, _⟩ := hh.form
   have HE6 : Hid (Ext w w6) := HA.out.2.2.2.1.trans e6
   have hf := hp2.few
   have c4 := same_any w6 _ _ _ _ (rd_NI (HA.out.1.ext e6)) (rd_NI hb) (by rw [List.length_map]; omega)
   have c5 := fun V (e : Ext w6 V) => same_any V _ _ _ _ (HA.out.2.1.ext (e6.trans e)) (hh.ext e) (by omega)
   clear hb hh hp2 e6 hf c3
   go_wp2_with fail
   refine c4.mono ?_
   rintro e w7 ⟨he, e7⟩
   obtain rfl : e = .returned (.bool true) := by rw [he]; simp
   have HE7 : Hid (Ext w6 w7) := e7
   clear c4 he e7
   go_wp2_with fail
   refine (c5 _ HE7.out).mono ?_
   rintro e w8 ⟨he, e8⟩
   obtain rfl : e = .returned (.bool true) := by rw [he]; simp
   have HE8 : Hid (Ext w6 w8) := HE7.out.trans e8
   clear c5 he e8
   go_wp2_with fail
   refine (lives_any _).mono ?_
   rintro e w9 ⟨rfl, e9⟩
   have HF : Hid (Ext w w9) := HE6.out.trans (HE8.out.trans e9)
   clear e9
   go_wp2_with fail
   go_ret
   exact ⟨rfl, HF.out⟩
 · have HA : Hid (RdG cN 1 w3 va o ∧ RdG cI 1 w3 vg gs ∧ SoP a0 L o gs er ∧ Ext w w3 ∧ Ext w1 w3) := ⟨ha, hg, hp, HE3.out⟩
   by_cases h1 : 24 < a0
   · have h2 : ¬ a0 ≤ 4096 := fun h => h24 ⟨h1, h⟩
     clear h24
     have c3 := rsort_any w3 v1 L a0 (HV1.out.1.ext HA.out.2.2.2.2) (by have := HV1.out.2.1; omega)
     obtain ⟨pa, ca, rfl, _⟩ := ha.form
     obtain ⟨pg, cg, rfl, _⟩ := hg.form
     clear ha hg hp
     go_wp2_with fail
     refine c3.mono ?_
     rintro e w6 ⟨vb, vh, o2, gs2, er2, rfl, hb, hh, hp2, e6⟩
     obtain ⟨rfl, rfl, rfl⟩ := hp2.one HA.out.2.2.1
     obtain ⟨pb, cb, rfl, _⟩ := hb.form
     obtain ⟨ph, ch, rfl, _⟩ := hh.form
     have HE6 : Hid (Ext w w6) := HA.out.2.2.2.1.trans e6
     have hf := hp2.few
     have c4 := same_any w6 _ _ _ _ (rd_NI (HA.out.1.ext e6)) (rd_NI hb) (by rw [List.length_map]; omega)
     have c5 := fun V (e : Ext w6 V) => same_any V _ _ _ _ (HA.out.2.1.ext (e6.trans e)) (hh.ext e) (by omega)
     clear hb hh hp2 e6 hf c3
     go_wp2_with fail
     refine c4.mono ?_
     rintro e w7 ⟨he, e7⟩
     obtain rfl : e = .returned (.bool true) := by rw [he]; simp
     have HE7 : Hid (Ext w6 w7) := e7
     clear c4 he e7
     go_wp2_with fail
     refine (c5 _ HE7.out).mono ?_
     rintro e w8 ⟨he, e8⟩
     obtain rfl : e = .returned (.bool true) := by rw [he]; simp
     have HE8 : Hid (Ext w6 w8) := HE7.out.trans e8
     clear c5 he e8
     go_wp2_with fail
     refine (lives_any _).mono ?_
     rintro e w9 ⟨rfl, e9⟩
     have HF : Hid (Ext w w9) := HE6.out.trans (HE8.out.trans e9)
     clear e9
     go_wp2_with fail
     go_ret
     exact ⟨rfl, HF.out⟩
   · clear h24
     have c3 := rsort_any w3 v1 L a0 (HV1.out.1.ext HA.out.2.2.2.2) (by have := HV1.out.2.1; omega)
     obtain ⟨pa, ca, rfl, _⟩ := ha.form
     obtain ⟨pg, cg, rfl, _⟩ := hg.form
     clear ha hg hp
     go_wp2_with fail
     refine c3.mono ?_
     rintro e w6 ⟨vb, vh, o2, gs2, er2, rfl, hb, hh, hp2, e6⟩
     obtain ⟨rfl, rfl, rfl⟩ := hp2.one HA.out.2.2.1
     obtain ⟨pb, cb, rfl, _⟩ := hb.form
     obtain ⟨ph, ch, rfl, _⟩ := hh.form
     have HE6 : Hid (Ext w w6) := HA.out.2.2.2.1.trans e6
     have hf := hp2.few
     have c4 := same_any w6 _ _ _ _ (rd_NI (HA.out.1.ext e6)) (rd_NI hb) (by rw [List.length_map]; omega)
     have c5 := fun V (e : Ext w6 V) => same_any V _ _ _ _ (HA.out.2.1.ext (e6.trans e)) (hh.ext e) (by omega)
     clear hb hh hp2 e6 hf c3
     go_wp2_with fail
     refine c4.mono ?_
     rintro e w7 ⟨he, e7⟩
     obtain rfl : e = .returned (.bool true) := by rw [he]; simp
     have HE7 : Hid (Ext w6 w7) := e7
     clear c4 he e7
     go_wp2_with fail
     refine (c5 _ HE7.out).mono ?_
     rintro e w8 ⟨he, e8⟩
     obtain rfl : e = .returned (.bool true) := by rw [he]; simp
     have HE8 : Hid (Ext w6 w8) := HE7.out.trans e8
     clear c5 he e8
     go_wp2_with fail
     refine (lives_any _).mono ?_
     rintro e w9 ⟨rfl, e9⟩
     have HF : Hid (Ext w w9) := HE6.out.trans (HE8.out.trans e9)
     clear e9
     go_wp2_with fail
     go_ret
     exact ⟨rfl, HF.out⟩
end Go.Proofs.Ytcjenjeggmlanaa
