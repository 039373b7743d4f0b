/-
 OrderSame's walk.
-/
import Derived.Test.YtcjenjeggmlanaaX5
namespace Go.Proofs.Ytcjenjeggmlanaa
open Go.RowKit
set_option maxHeartbeats 6000000

theorem top2 (W : World) (o p : Obj) : ((W.alloc o).alloc p).heap[W.heap.size]? = some o := Ext.top ((Ext.refl _).alloc _)
theorem top3 (W : World) (o p : Obj) : ((W.alloc o).alloc p).heap[W.heap.size + 1]? = some p := by
 have := top_heap (W.alloc o) p
 simpa using this
/-- The pairs, and those that are made of them. -/
structure PaM (w : World) (L M : List (Int × Int)) (i : Nat) (lv : Value) (n : Nat) (mv : Value) (W : World) : Prop where
 l : W.ownsRow w.heap.size 33 2 lv i (L.flatMap cQ)
 m : W.ownsRow w.heap.size 33 2 mv n (M.flatMap cQ)
 d : ∀ b, lv.ownBlock = some b → mv.ownBlock ≠ some b
 e : Ext w W
theorem PaM.step {w W Y w2 : World} {L M : List (Int × Int)} {i n : Nat} {lv mv v2 : Value} {x : Int × Int} (h : PaM w L M i lv n mv W) (e : Ext W Y)
   (o : w2.ownsRow w.heap.size 33 2 v2 (n + 1) ((M ++ [x]).flatMap cQ)) (g : Y.grownBy w2 mv.ownBlock) (nb : v2.ownBlock = mv.ownBlock ∨ v2.ownBlock = some Y.heap.size) : PaM w L (M ++ [x]) i lv (n + 1) v2 w2 := by
 have hl := ownsRow_ext h.l e
 have hm := ownsRow_ext h.m e
 refine ⟨own_keep hl (fun k ek hk => g.block k hk (fun e2 => h.d k ek e2.symm)), o, fun b hb e2 => ?_, ext_grownG hm (Nat.le_refl _) (h.e.trans e) g⟩
 rcases nb with nb | nb
 · exact h.d b hb (nb ▸ e2)
 · rw [nb] at e2
   have e3 := Option.some.inj e2
   have := (hl.lt b hb).2
   omega
set_option maxRecDepth 100000 in
theorem osame_walk (a0 : Int) (l1 : List (Int × Int)) (pp1 : Option Addr) (ln1 cl1 : Nat) {w : World} (w0 : (Lit.int .u8 a0).wf = true) (rd1 : RdG cU 2 w (.slice pp1 ln1 cl1) l1) (b1 : ∀ y ∈ l1, (0 ≤ y.1 ∧ y.1 ≤ 255) ∧ 0 ≤ y.2 ∧ y.2 ≤ 255) :
   Calls Try.prog 5 #[.int .u8 a0, .slice pp1 ln1 cl1] w fun e w' => e = .returned (.bool true) ∧ Ext w w' := by
 obtain ⟨h0, h1⟩ := u8_of_wf w0
 have hln := rd1.len
 subst hln
 obtain ⟨N, hN⟩ : ∃ N, l1.length = N := ⟨_, rfl⟩
 have HR : Hid (RdG cU 2 w (.slice pp1 l1.length cl1) l1 ∧ (∀ y ∈ l1, (0 ≤ y.1 ∧ y.1 ≤ 255) ∧ 0 ≤ y.2 ∧ y.2 ≤ 255)) := ⟨rd1, b1⟩
 have HN : Hid (l1.length = N) := hN
 rw [hN] at HR ⊢
 clear w0 rd1 b1 hN
 go_enter Try.func5, Try.ntmps5
 go_wp2_with fail
 obtain ⟨m, hK⟩ : ∃ m : Nat, 1 + a0 % 100 = (m : Int) := ⟨(1 + a0 % 100).toNat, by omega⟩
 have K1 : 0 < m := by omega
 have K2 : m ≤ 100 := by omega
 rw [hK]
 have H0 : Hid (PaS w (w.heap.size + 1) (m : Int) l1 0 (.slice (some ⟨w.heap.size, 0, none⟩) 0 0) ((w.alloc (.cells #[] 33)).alloc (.cells #[] 33))) := by
   refine ⟨(own_new w w (Nat.le_refl _)).alloc _, ?_, ?_, ((Ext.refl w).alloc _).alloc _⟩
   · have := own_new (T := 33) (k := 2) w (w.alloc (.cells #[] 33)) (by simp)
     simpa using this
   · intro e
     have e2 : w.heap.size = w.heap.size + 1 := Option.some.inj e
     omega
 obtain ⟨mb, hmb⟩ : ∃ k, w.heap.size + 1 = k := ⟨_, rfl⟩
 rw [hmb] at H0 ⊢
 clear hK hmb h0 h1
 go_loopw [8, 6] (fun x lv wr => ∃ i : Nat, x = .int .i64 (i : Int) ∧ i ≤ N ∧ i ≤ 400 ∧ PaS w mb (m : Int) l1 i lv wr) (fun x _ _ => N - (intOf x).toNat)
 case atStart => exact ⟨0, rfl, Nat.zero_le _, Nat.zero_le _, H0.out⟩
 case round =>
   clear H0
   obtain ⟨i, rfl, hi, hi4, hS⟩ := hrel
   have HS : Hid (PaS w mb (m : Int) l1 i u6 wr) := hS
   obtain ⟨wz, hwz⟩ : ∃ wz, wr = wz := ⟨_, rfl⟩
   subst hwz
   obtain ⟨bb, hbb⟩ : ∃ bb, decide (i < N ∧ i < 400) = bb := ⟨_, rfl⟩
   have HBB : Hid (decide (i < N ∧ i < 400) = bb) := hbb
   clear hbb
   go_upto_region 3 with fail
   go_cut [29] (fun v wx => v = .bool bb ∧ wx = wr)
   case first =>
     clear hS HS
     have hb := HBB.out
     by_cases hlt1 : i < N
     · have hltI : (i : Int) < (N : Int) := by omega
       by_cases hlt2 : i < 400
       · have hltJ : (i : Int) < 400 := by omega
         have hb2 : bb = true := by rw [← hb]; simp [hlt1, hlt2]
         clear hb
         subst hb2
         go_wp2_with fail
         go_meet
         case rel => exact ⟨rfl, rfl⟩
       · have hltJ : ¬ (i : Int) < 400 := by omega
         have hb2 : bb = false := by rw [← hb]; simp [hlt2]
         clear hb
         subst hb2
         go_wp2_with fail
         go_meet
         case rel => exact ⟨rfl, rfl⟩
     · have hltI : ¬ (i : Int) < (N : Int) := by omega
       have hb2 : bb = false := by rw [← hb]; simp [hlt1]
       clear hb
       subst hb2
       go_wp2_with fail
       go_meet
       case rel => exact ⟨rfl, rfl⟩
   case rest =>
     obtain ⟨rfl, hwc⟩ := hcut
     replace hwc := hwc.symm
     subst hwc
     cases bb
     · clear HBB
       clear HR
       obtain ⟨L, hL⟩ : ∃ L, (l1.take i).map (pm (m : Int)) = L := ⟨_, rfl⟩
       have hok : L.all (okP (m : Int)) = true := by rw [← hL]; exact pm_ok K1 _
       obtain ⟨lp, lc, rfl, _⟩ := own_form hS.o
       have hlen : L.length = i := by
         have := hS.o.1
         rw [hL, gm_len cQ_len] at this
         omega
       have HL : Hid (L.length = i ∧ i ≤ 400 ∧ L.all (okP (m : Int)) = true ∧ 0 < m ∧ m ≤ 100) := ⟨hlen, hi4, hok, K1, K2⟩
       have H5 : Hid (PaM w L (dw (0, 0) L i) i (.slice lp i lc) 0 (.slice (some ⟨mb, 0, none⟩) 0 0) wr) := by
         refine ⟨?_, ?_, fun b hb e2 => ?_, hS.e⟩
         · have := hS.o
           rwa [hL] at this
         · have := dw_len (0, 0) L
           rw [hlen] at this
           rw [this]
           exact hS.m
         · exact hS.d (hb.trans e2.symm)
       have ws : wrap64 ((i : Int) - 1) = (i : Int) - 1 := by unfold wrap64; omega
       clear hS hL hok hlen HN
       clear K1 K2 hi hi4
       go_wp2_with fail
       go_loopw [9, 7] (fun x mv wr => ∃ k n : Nat, x = .int .i64 ((k : Int) - 1) ∧ k ≤ i ∧ PaM w L (dw (0, 0) L k) i (.slice lp i lc) n mv wr) (fun x _ _ => (intOf x + 1).toNat)
       case atStart => exact ⟨i, 0, (by first | rw [ws] | rfl), Nat.le_refl _, H5.out⟩
       case round =>
         clear H5 ws
         obtain ⟨k, n, rfl, hk, hS⟩ := hrel
         have HS : Hid (PaM w L (dw (0, 0) L k) i (.slice lp i lc) n u7 wr) := hS
         obtain ⟨mp, mc, rfl, -⟩ := own_form hS.m
         rcases k with _ | q
         · rw [show ((0 : Nat) : Int) - 1 = -1 from rfl]
           obtain ⟨M, hM⟩ : ∃ M, dw (0, 0) L 0 = M := ⟨_, rfl⟩
           have hn : n = M.length := by
             have := hS.m.1
             rw [hM, gm_len cQ_len] at this
             omega
           have hMl : M.length ≤ 800 := by rw [← hM, dw_size]; have := HL.out; omega
           rw [hM] at HS
           have HM : Hid (∀ p, p ∈ L ↔ p ∈ M) := fun p => by rw [← hM]; exact dw_mem _ _ _
           have HMk : Hid (M.all (okP (m : Int)) = true ∧ (∀ p, p ∈ L.map nn ↔ p ∈ M.map nn) ∧ M.length ≤ 800) := by
             refine ⟨?_, fun p => ?_, hMl⟩
             · rw [List.all_eq_true]
               exact fun p hp => List.all_eq_true.1 HL.out.2.2.1 p ((HM.out p).2 hp)
             · rw [List.mem_map, List.mem_map]
               exact ⟨fun ⟨x, h1, h2⟩ => ⟨x, (HM.out x).1 h1, h2⟩, fun ⟨x, h1, h2⟩ => ⟨x, (HM.out x).2 h1, h2⟩⟩
           have HRd : Hid (RdG cQ 2 wr (.slice lp i lc) L ∧ RdG cQ 2 wr (.slice mp n mc) M ∧ Ext w wr) := ⟨own_rdG cQ_len HS.out.l HL.out.1.symm, own_rdG cQ_len HS.out.m hn, HS.out.e⟩
           clear hS HS hM hn hMl hk HM
           go_wp2_with fail
           refine (sort_any wr _ L (m : Int) HRd.out.1 (by have := HL.out; omega)).mono ?_
           rintro e w2 ⟨va, vg, o, gs, er, rfl, ho, hg, hp, e2⟩
           obtain ⟨rfl, hio, hig⟩ := hp.ok HL.out.2.2.1 (by have := HL.out; omega)
           obtain ⟨po, co, rfl, _⟩ := ho.form
           obtain ⟨pg, cg, rfl, _⟩ := hg.form
           have HO : Hid (RdG cN 1 w2 (.slice po o.length co) o ∧ RdG cI 1 w2 (.slice pg gs.length cg) gs ∧ IsOrd (L.map nn) m o ∧ IsGrp (L.map nn) m gs ∧ Ext wr w2) := ⟨ho, hg, hio, hig, e2⟩
           clear ho hg hp hio hig e2
           go_wp2_with fail
           refine (sort_any w2 _ M (m : Int) (HRd.out.2.1.ext HO.out.2.2.2.2) (by have := HMk.out; omega)).mono ?_
           rintro e w3 ⟨vb, vh, o2, gs2, er, rfl, ho, hg, hp, e3⟩
           obtain ⟨rfl, hio, hig⟩ := hp.ok HMk.out.1 (by have := HL.out; omega)
           have eo : o2 = o := ord_one hio (HO.out.2.2.1.congr HMk.out.2.1)
           have eg : gs2 = gs := grp_one hig (HO.out.2.2.2.1.congr HMk.out.2.1)
           subst eo eg
           obtain ⟨qo, ko, rfl, _⟩ := ho.form
           obtain ⟨qg, kg, rfl, _⟩ := hg.form
           have HE3 : Hid (Ext w w3 ∧ Ext w2 w3) := ⟨HRd.out.2.2.trans (HO.out.2.2.2.2.trans e3), e3⟩
           have HP : Hid (RdG cN 1 w3 (.slice qo o2.length ko) o2 ∧ RdG cI 1 w3 (.slice qg gs2.length kg) gs2) := ⟨ho, hg⟩
           have c1 := same_any w3 _ _ _ _ (rd_NI (HO.out.1.ext e3)) (rd_NI ho) (by rw [List.length_map, hio.1]; have := HL.out; omega)
           have c2 := fun V (e : Ext w3 V) => same_any V _ _ _ _ (HO.out.2.1.ext (e3.trans e)) (hg.ext e) (by rw [hig.1]; have := HL.out; omega)
           clear ho hg hp hio hig e3
           go_wp2_with fail
           refine c1.mono ?_
           rintro e w4 ⟨he, e4⟩
           obtain rfl : e = .returned (.bool true) := by rw [he]; simp
           have HE4 : Hid (Ext w3 w4) := e4
           clear c1 he e4
           go_wp2_with fail
           refine (c2 _ HE4.out).mono ?_
           rintro e w5 ⟨he, e5⟩
           obtain rfl : e = .returned (.bool true) := by rw [he]; simp
           have HE5 : Hid (Ext w3 w5) := HE4.out.trans e5
           clear c2 he e5
           go_wp2_with fail
           refine (lives_any _).mono ?_
           rintro e w6 ⟨rfl, e6⟩
           have HF : Hid (Ext w w6) := HE3.out.1.trans (HE5.out.trans e6)
           clear e6
           go_wp2_with fail
           go_ret
           exact ⟨rfl, HF.out⟩
         · rw [show ((q + 1 : Nat) : Int) - 1 = (q : Int) from by omega]
           obtain ⟨M, hM⟩ : ∃ M, dw (0, 0) L (q + 1) = M := ⟨_, rfl⟩
           have hn : n = M.length := by
             have := hS.m.1
             rw [hM, gm_len cQ_len] at this
             omega
           have hMl : M.length ≤ 800 := by rw [← hM, dw_size]; have := HL.out; omega
           rw [hM] at HS
           obtain ⟨x, hx⟩ : ∃ x, L[q]? = some x := ⟨_, List.getElem?_eq_getElem (by have := HL.out; omega)⟩
           obtain ⟨q2, hq2⟩ : ∃ q2, q / 2 = q2 := ⟨_, rfl⟩
           obtain ⟨z, hz⟩ : ∃ z, L[q2]? = some z := ⟨_, List.getElem?_eq_getElem (by have := HL.out; omega)⟩
           obtain ⟨x1, x2⟩ := x
           obtain ⟨z1, z2⟩ := z
           have HLr : Hid (∀ V : World, V.ownsRow w.heap.size 33 2 (.slice lp i lc) i (L.flatMap cQ) → RdG cQ 2 V (.slice lp i lc) L) := fun V o => own_rdG cQ_len o HL.out.1.symm
           obtain ⟨lb, lbe⟩ : ∃ lb, lp = some ⟨lb, 0, none⟩ := by
             rcases hS.l.2 with ⟨h0, h1⟩ | ⟨g, cap, cur, h0, _⟩
             · exfalso; omega
             · simp only [Value.slice.injEq] at h0
               exact ⟨g, h0.1⟩
           subst lbe
           have HC : Hid (∀ V : World, V.ownsRow w.heap.size 33 2 (.slice (some ⟨lb, 0, none⟩) i lc) i (L.flatMap cQ) → (fun V => (V.cell? ⟨lb, q * 2, none⟩ = some (.int .i64 x1) ∧ V.cell? ⟨lb, q * 2 + 1, none⟩ = some (.int .i64 x2)) ∧ V.cell? ⟨lb, q2 * 2, none⟩ = some (.int .i64 z1) ∧ V.cell? ⟨lb, q2 * 2 + 1, none⟩ = some (.int .i64 z2)) V) := fun V o => by
             obtain ⟨b1, o1, e1, -, k1, k2⟩ := RdQ.cell (HLr.out V o) hx
             obtain ⟨b2, o2, e2, -, k3, k4⟩ := RdQ.cell (HLr.out V o) hz
             simp only [Option.some.injEq, Addr.mk.injEq, and_true] at e1 e2
             obtain ⟨rfl, rfl⟩ := e1
             obtain ⟨rfl, rfl⟩ := e2
             rw [Nat.zero_add] at k1 k2 k3 k4
             exact ⟨⟨k1, k2⟩, k3, k4⟩
           have mkS : Hid (∀ V, Ext wr V → (fun V => (V.cell? ⟨lb, q * 2, none⟩ = some (.int .i64 x1) ∧ V.cell? ⟨lb, q * 2 + 1, none⟩ = some (.int .i64 x2)) ∧ V.cell? ⟨lb, q2 * 2, none⟩ = some (.int .i64 z1) ∧ V.cell? ⟨lb, q2 * 2 + 1, none⟩ = some (.int .i64 z2)) V) := fun V e => HC.out V (ownsRow_ext HS.out.l e)
           have HOW : Hid (∀ V, Ext wr V → V.ownsRow w.heap.size 33 2 (.slice mp n mc) n (M.flatMap cQ)) := fun V e => ownsRow_ext HS.out.m e
           have HNV : Hid (n + 1 ≤ 1000000 ∧ n + 1 + 1 ≤ 1000000) := by constructor <;> omega
           have HBS : Hid (∀ V, Ext wr V → w.heap.size ≤ V.heap.size) := fun V e => (HS.out.e.trans e).size
           have HQ2 : Hid (q ≤ i) := by show _ ≤ _; omega
           have PS : Hid (∀ Y v2 w2 (_ : Ext wr Y) (_ : w2.ownsRow w.heap.size 33 2 v2 (n + 1) ((M ++ [(x1, x2)]).flatMap cQ)) (_ : Y.grownBy w2 (Value.slice mp n mc).ownBlock) (_ : v2.ownBlock = (Value.slice mp n mc).ownBlock ∨ v2.ownBlock = some Y.heap.size),
               (∀ V, Ext w2 V → (fun V => (V.cell? ⟨lb, q * 2, none⟩ = some (.int .i64 x1) ∧ V.cell? ⟨lb, q * 2 + 1, none⟩ = some (.int .i64 x2)) ∧ V.cell? ⟨lb, q2 * 2, none⟩ = some (.int .i64 z1) ∧ V.cell? ⟨lb, q2 * 2 + 1, none⟩ = some (.int .i64 z2)) V) ∧ PaM w L (M ++ [(x1, x2)]) i (.slice (some ⟨lb, 0, none⟩) i lc) (n + 1) v2 w2 ∧ ∀ k, wr.heap.size ≤ k → k < Y.heap.size → w2.heap[k]? = Y.heap[k]?) := fun Y v2 w2 e o g nb => by
             have h := HS.out.step e o g nb
             refine ⟨fun V e2 => HC.out V (ownsRow_ext h.l e2), h, fun k k1 k2 => g.block k k2 (fun e2 => ?_)⟩
             have := (HS.out.m.lt k e2.symm).2
             omega
           have PS2 : Hid (∀ v2 w2 (_ : PaM w L (M ++ [(x1, x2)]) i (.slice (some ⟨lb, 0, none⟩) i lc) (n + 1) v2 w2) Y v3 w3 (_ : Ext w2 Y) (_ : w3.ownsRow w.heap.size 33 2 v3 (n + 1 + 1) ((M ++ [(x1, x2)] ++ [(z1, z2)]).flatMap cQ)) (_ : Y.grownBy w3 v2.ownBlock) (_ : v3.ownBlock = v2.ownBlock ∨ v3.ownBlock = some Y.heap.size),
               (fun V => (V.cell? ⟨lb, q * 2, none⟩ = some (.int .i64 x1) ∧ V.cell? ⟨lb, q * 2 + 1, none⟩ = some (.int .i64 x2)) ∧ V.cell? ⟨lb, q2 * 2, none⟩ = some (.int .i64 z1) ∧ V.cell? ⟨lb, q2 * 2 + 1, none⟩ = some (.int .i64 z2)) w3 ∧ PaM w L (dw (0, 0) L q) i (.slice (some ⟨lb, 0, none⟩) i lc) (n + 1 + 1) v3 w3) := fun v2 w2 h2 Y v3 w3 e o g nb => by
             have h := h2.step e o g nb
             refine ⟨HC.out _ h.l, ?_⟩
             rw [dw_step (0, 0) L hx (hq2 ▸ hz), hM]
             exact h
           have d1 : (q : Int).tdiv 2 = (q2 : Int) := by rw [Int.tdiv_eq_ediv_of_nonneg (by omega)]; omega
           have wq2 : IntKind.i64.wrap (q2 : Int) = (q2 : Int) := wrap_small _ (by omega) (by have := HL.out.2.1; omega)
           have i1 : (q : Int) < (i : Int) := by omega
           have i2 : (q2 : Int) < (i : Int) := by omega
           have wq : wrap64 ((q : Int) - 1) = (q : Int) - 1 := by have := HL.out.2.1; unfold wrap64; omega
           clear hS hx hz hM hn hMl hq2 hk
           go_upto_region 9 with fail
           refine wp_region_held_drew (S := (fun V => (V.cell? ⟨lb, q * 2, none⟩ = some (.int .i64 x1) ∧ V.cell? ⟨lb, q * 2 + 1, none⟩ = some (.int .i64 x2)) ∧ V.cell? ⟨lb, q2 * 2, none⟩ = some (.int .i64 z1) ∧ V.cell? ⟨lb, q2 * 2 + 1, none⟩ = some (.int .i64 z2))) (by kernel_rfl) ?_ (fun hHeld0 => ?_)
           · (first | exact HS3.out | (refine mkS2.out _ ?_; ((with_reducible (repeat (first | assumption | exact Ext.refl _ | apply Ext.drew | apply Ext.drewN | apply Ext.alloc))); done)) | (refine mkS.out _ ?_; ((with_reducible (repeat (first | assumption | exact Ext.refl _ | apply Ext.drew | apply Ext.drewN | apply Ext.alloc))); done)))
           refine wpAnyH_take (i := 0) (oi := ⟨some 59, .move (.tmp 7), 22, "law.go:82", #[], none⟩) (v := ?_) rfl (by kernel_rfl) (by kernel_rfl) (by kernel_rfl) (fun _ _ _ h => h) (Or.inl ⟨by rfl, ?_⟩) (by assumption) ?_
           rotate_left
           · intro w hSw; (try dsimp only at hSw); first | (go_simp; done) | (go_simp; with_reducible rfl)
           try simp only [Act.put, List.setIfInBounds_toArray, List.set_cons_zero, List.set_cons_succ]
           refine wpAnyH_take (i := 1) (oi := ⟨some 60, .move (.tmp 6), 22, "law.go:82", #[], none⟩) (v := ?_) rfl (by kernel_rfl) (by kernel_rfl) (by kernel_rfl) (fun _ _ _ h => h) (Or.inl ⟨by rfl, ?_⟩) (by assumption) ?_
           rotate_left
           · intro w hSw; (try dsimp only at hSw); first | (go_simp; done) | (go_simp; with_reducible rfl)
           try simp only [Act.put, List.setIfInBounds_toArray, List.set_cons_zero, List.set_cons_succ]
           refine wpAnyH_take (i := 2) (oi := ⟨some 61, .move (.tmp 9), 3, "law.go:82", #[], none⟩) (v := ?_) rfl (by kernel_rfl) (by kernel_rfl) (by kernel_rfl) (fun _ _ _ h => h) (Or.inl ⟨by rfl, ?_⟩) (by assumption) ?_
           rotate_left
           · intro w hSw; (try dsimp only at hSw); first | (go_simp; done) | (go_simp; with_reducible rfl)
           try simp only [Act.put, List.setIfInBounds_toArray, List.set_cons_zero, List.set_cons_succ]
           refine wpAnyH_take (i := 3) (oi := ⟨some 62, .indexAddr 22 (.tmp 60) (.tmp 61), 0, "law.go:82", #[⟨1, .data⟩, ⟨2, .data⟩], none⟩) (v := ?_) rfl (by kernel_rfl) (by kernel_rfl) (by kernel_rfl) (fun _ _ _ h => h) (Or.inl ⟨by rfl, ?_⟩) (by assumption) ?_
           rotate_left
           · intro w hSw; (try dsimp only at hSw); first | (go_simp; done) | (go_simp; with_reducible rfl)
           try simp only [Act.put, List.setIfInBounds_toArray, List.set_cons_zero, List.set_cons_succ]
           refine wpAnyH_take (i := 4) (oi := ⟨some 63, .load 33 (.tmp 62), 33, "law.go:82", #[⟨3, .data⟩], none⟩) (v := ?_) rfl (by kernel_rfl) (by kernel_rfl) (by kernel_rfl) (fun _ _ _ h => h) (Or.inl ⟨by rfl, ?_⟩) (by assumption) ?_
           rotate_left
           · intro w hSw; (try dsimp only at hSw); first | (go_simp; done) | (go_simp; with_reducible rfl)
           try simp only [Act.put, List.setIfInBounds_toArray, List.set_cons_zero, List.set_cons_succ]
           refine wpAnyH_take (i := 7) (oi := ⟨some 66, .move (.tmp 6), 22, "law.go:82", #[], none⟩) (v := ?_) rfl (by kernel_rfl) (by kernel_rfl) (by kernel_rfl) (fun _ _ _ h => h) (Or.inl ⟨by rfl, ?_⟩) (by assumption) ?_
           rotate_left
           · intro w hSw; (try dsimp only at hSw); first | (go_simp; done) | (go_simp; with_reducible rfl)
           try simp only [Act.put, List.setIfInBounds_toArray, List.set_cons_zero, List.set_cons_succ]
           refine wpAnyH_take (i := 8) (oi := ⟨some 67, .move (.tmp 9), 3, "law.go:82", #[], none⟩) (v := ?_) rfl (by kernel_rfl) (by kernel_rfl) (by kernel_rfl) (fun _ _ _ h => h) (Or.inl ⟨by rfl, ?_⟩) (by assumption) ?_
           rotate_left
           · intro w hSw; (try dsimp only at hSw); first | (go_simp; done) | (go_simp; with_reducible rfl)
           try simp only [Act.put, List.setIfInBounds_toArray, List.set_cons_zero, List.set_cons_succ]
           refine wpAnyH_take (i := 9) (oi := ⟨some 68, .binOp .quo 3 (.tmp 67) (.const (.int .i64 2)) 3, 3, "law.go:82", #[⟨8, .data⟩], none⟩) (v := ?_) rfl (by kernel_rfl) (by kernel_rfl) (by kernel_rfl) (fun _ _ _ h => h) (Or.inl ⟨by rfl, ?_⟩) (by assumption) ?_
           rotate_left
           · intro w hSw; (try dsimp only at hSw); first | (go_simp; done) | (go_simp; with_reducible rfl)
           try simp only [Act.put, List.setIfInBounds_toArray, List.set_cons_zero, List.set_cons_succ]
           refine wpAnyH_take (i := 10) (oi := ⟨some 69, .indexAddr 22 (.tmp 66) (.tmp 68), 0, "law.go:82", #[⟨7, .data⟩, ⟨9, .data⟩], none⟩) (v := ?_) rfl (by kernel_rfl) (by kernel_rfl) (by kernel_rfl) (fun _ _ _ h => h) (Or.inl ⟨by rfl, ?_⟩) (by assumption) ?_
           rotate_left
           · intro w hSw; (try dsimp only at hSw); first | (go_simp; done) | (go_simp; with_reducible rfl)
           try simp only [Act.put, List.setIfInBounds_toArray, List.set_cons_zero, List.set_cons_succ]
           refine wpAnyH_take (i := 11) (oi := ⟨some 70, .load 33 (.tmp 69), 33, "law.go:82", #[⟨10, .data⟩], none⟩) (v := ?_) rfl (by kernel_rfl) (by kernel_rfl) (by kernel_rfl) (fun _ _ _ h => h) (Or.inl ⟨by rfl, ?_⟩) (by assumption) ?_
           rotate_left
           · intro w hSw; (try dsimp only at hSw); first | (go_simp; done) | (go_simp; with_reducible rfl)
           try simp only [Act.put, List.setIfInBounds_toArray, List.set_cons_zero, List.set_cons_succ]
           refine wpAnyH_ready (rs := [5, 12]) (by kernel_rfl) (by simp) ?_
           refine AllReadyH.cons (o := ⟨some 64, .buildSlice 22 1 #[(0, .tmp 63)], 22, "law.go:82", #[⟨4, .data⟩], none⟩) rfl (fun K hK => ?_) (AllReadyH.cons (o := ⟨some 71, .buildSlice 22 1 #[(0, .tmp 70)], 22, "law.go:82", #[⟨11, .data⟩], none⟩) rfl (fun K hK => ?_) AllReadyH.nil)
           · go_simp
             skip
             try go_wp2_with fail
             refine hK.out _ _ ?_ (fun hHeld1 => ?_)
             · (try dsimp only); (first | exact HS3.out | (refine mkS2.out _ ?_; ((with_reducible (repeat (first | assumption | exact Ext.refl _ | apply Ext.drew | apply Ext.drewN | apply Ext.alloc))); done)) | (refine mkS.out _ ?_; ((with_reducible (repeat (first | assumption | exact Ext.refl _ | apply Ext.drew | apply Ext.drewN | apply Ext.alloc))); done)))
             clear hK K hHeld0
             try simp only [Act.put, List.setIfInBounds_toArray, List.set_cons_zero, List.set_cons_succ]
             refine wpAnyH_ready (rs := [6, 12]) (by kernel_rfl) (by simp) ?_
             refine AllReadyH.cons (o := ⟨some 65, .call { callee := .builtin .append, args := #[.tmp 59, .tmp 64], argTypes := #[22, 22] }, 22, "law.go:82", #[⟨0, .data⟩, ⟨5, .data⟩], none⟩) rfl (fun K hK => ?_) (AllReadyH.cons (o := ⟨some 71, .buildSlice 22 1 #[(0, .tmp 70)], 22, "law.go:82", #[⟨11, .data⟩], none⟩) rfl (fun K hK => ?_) AllReadyH.nil)
             · refine step_app eltQ cQ_len cQ_one (by decide) _ _ _ _ _ n 1 _ M [(x1, x2)] w.heap.size rfl rfl (by rfl) (by rfl) (HOW.out _ ((Ext.refl wr).drew.alloc _)) rfl (RdG.one (top_heap _ _) (q_cells _ _)) HNV.out.1 (HBS.out _ ((Ext.refl wr).drew.alloc _)) ?_; intro v2 w2 O2 G2 N2; obtain ⟨p2, c2, rfl, _⟩ := own_form O2; have H2 : Hid _ := PS.out _ _ _ ((Ext.refl wr).drew.alloc _) O2 G2 N2; have mkS2 : Hid (∀ V, Ext w2 V → (fun V => (V.cell? ⟨lb, q * 2, none⟩ = some (.int .i64 x1) ∧ V.cell? ⟨lb, q * 2 + 1, none⟩ = some (.int .i64 x2)) ∧ V.cell? ⟨lb, q2 * 2, none⟩ = some (.int .i64 z1) ∧ V.cell? ⟨lb, q2 * 2 + 1, none⟩ = some (.int .i64 z2)) V) := H2.out.1; clear O2 G2 N2
               refine hK.out _ _ ?_ (fun hHeld2 => ?_)
               · (try dsimp only); (first | exact HS3.out | (refine mkS2.out _ ?_; ((with_reducible (repeat (first | assumption | exact Ext.refl _ | apply Ext.drew | apply Ext.drewN | apply Ext.alloc))); done)) | (refine mkS.out _ ?_; ((with_reducible (repeat (first | assumption | exact Ext.refl _ | apply Ext.drew | apply Ext.drewN | apply Ext.alloc))); done)))
               clear hK K hHeld1
               try simp only [Act.put, List.setIfInBounds_toArray, List.set_cons_zero, List.set_cons_succ]
               refine wpAnyH_ready (rs := [12]) (by kernel_rfl) (by simp) ?_
               refine AllReadyH.cons (o := ⟨some 71, .buildSlice 22 1 #[(0, .tmp 70)], 22, "law.go:82", #[⟨11, .data⟩], none⟩) rfl (fun K hK => ?_) AllReadyH.nil
               go_simp
               skip
               try go_wp2_with fail
               refine hK.out _ _ ?_ (fun hHeld3 => ?_)
               · (try dsimp only); (first | exact HS3.out | (refine mkS2.out _ ?_; ((with_reducible (repeat (first | assumption | exact Ext.refl _ | apply Ext.drew | apply Ext.drewN | apply Ext.alloc))); done)) | (refine mkS.out _ ?_; ((with_reducible (repeat (first | assumption | exact Ext.refl _ | apply Ext.drew | apply Ext.drewN | apply Ext.alloc))); done)))
               clear hK K hHeld2
               try simp only [Act.put, List.setIfInBounds_toArray, List.set_cons_zero, List.set_cons_succ]
               refine wpAnyH_ready (rs := [13]) (by kernel_rfl) (by simp) ?_
               refine AllReadyH.cons (o := ⟨some 72, .call { callee := .builtin .append, args := #[.tmp 65, .tmp 71], argTypes := #[22, 22] }, 22, "law.go:82", #[⟨6, .data⟩, ⟨12, .data⟩, ⟨6, .chain⟩], none⟩) rfl (fun K hK => ?_) AllReadyH.nil
               refine step_app eltQ cQ_len cQ_one (by decide) _ _ _ _ _ (n + 1) 1 _ (M ++ [(x1, x2)]) [(z1, z2)] w.heap.size rfl rfl (by rfl) (by rfl) (ownsRow_ext H2.out.2.1.m ((Ext.refl w2).alloc _)) rfl (RdG.one (top_heap _ _) (q_cells _ _)) HNV.out.2 (H2.out.2.1.e.trans ((Ext.refl w2).alloc _)).size ?_; intro v3 w3 O3 G3 N3; obtain ⟨p3, c3, rfl, _⟩ := own_form O3; have H3 : Hid _ := PS2.out _ _ H2.out.2.1 _ _ _ ((Ext.refl w2).alloc _) O3 G3 N3; have HS3 : Hid ((fun V => (V.cell? ⟨lb, q * 2, none⟩ = some (.int .i64 x1) ∧ V.cell? ⟨lb, q * 2 + 1, none⟩ = some (.int .i64 x2)) ∧ V.cell? ⟨lb, q2 * 2, none⟩ = some (.int .i64 z1) ∧ V.cell? ⟨lb, q2 * 2 + 1, none⟩ = some (.int .i64 z2)) w3) := H3.out.1; clear O3 G3 N3
               refine hK.out _ _ ?_ (fun hHeld4 => ?_)
               · (try dsimp only); (first | exact HS3.out | (refine mkS2.out _ ?_; ((with_reducible (repeat (first | assumption | exact Ext.refl _ | apply Ext.drew | apply Ext.drewN | apply Ext.alloc))); done)) | (refine mkS.out _ ?_; ((with_reducible (repeat (first | assumption | exact Ext.refl _ | apply Ext.drew | apply Ext.drewN | apply Ext.alloc))); done)))
               clear hK K hHeld3
               try simp only [Act.put, List.setIfInBounds_toArray, List.set_cons_zero, List.set_cons_succ]
               refine wpAnyH_take (i := 14) (oi := ⟨some 7, .assign (.tmp 72), 22, "law.go:82", #[⟨13, .data⟩, ⟨13, .chain⟩, ⟨0, .phase⟩, ⟨1, .phase⟩, ⟨2, .phase⟩, ⟨3, .phase⟩, ⟨4, .phase⟩, ⟨5, .phase⟩, ⟨6, .phase⟩, ⟨7, .phase⟩, ⟨8, .phase⟩, ⟨9, .phase⟩, ⟨10, .phase⟩, ⟨11, .phase⟩, ⟨12, .phase⟩, ⟨13, .phase⟩], none⟩) (v := ?_) rfl (by kernel_rfl) (by kernel_rfl) (by kernel_rfl) (fun _ _ _ h => h) (Or.inl ⟨by rfl, ?_⟩) (by assumption) ?_
               rotate_left
               · intro w hSw; (try dsimp only at hSw); first | (go_simp; done) | (go_simp; with_reducible rfl)
               try simp only [Act.put, List.setIfInBounds_toArray, List.set_cons_zero, List.set_cons_succ]
               refine wpAnyH_done (by kernel_rfl) ?_ _
               clear wq2 d1
               go_wp2
               exact ⟨⟨q, n + 1 + 1, by rw [wq], HQ2.out, H3.out.2⟩, by rw [wq]; clear wq; (first | (simp [intOf]; done) | (simp [intOf]; omega))⟩
             · go_simp
               skip
               try go_wp2_with fail
               refine hK.out _ _ ?_ (fun hHeld2 => ?_)
               · (try dsimp only); (first | exact HS3.out | (refine mkS2.out _ ?_; ((with_reducible (repeat (first | assumption | exact Ext.refl _ | apply Ext.drew | apply Ext.drewN | apply Ext.alloc))); done)) | (refine mkS.out _ ?_; ((with_reducible (repeat (first | assumption | exact Ext.refl _ | apply Ext.drew | apply Ext.drewN | apply Ext.alloc))); done)))
               clear hK K hHeld1
               try simp only [Act.put, List.setIfInBounds_toArray, List.set_cons_zero, List.set_cons_succ]
               refine wpAnyH_ready (rs := [6]) (by kernel_rfl) (by simp) ?_
               refine AllReadyH.cons (o := ⟨some 65, .call { callee := .builtin .append, args := #[.tmp 59, .tmp 64], argTypes := #[22, 22] }, 22, "law.go:82", #[⟨0, .data⟩, ⟨5, .data⟩], none⟩) rfl (fun K hK => ?_) AllReadyH.nil
               refine step_app eltQ cQ_len cQ_one (by decide) _ _ _ _ _ n 1 _ M [(x1, x2)] w.heap.size rfl rfl (by rfl) (by rfl) (HOW.out _ (((Ext.refl wr).drew.alloc _).alloc _)) rfl (RdG.one (top2 _ _ _) (q_cells _ _)) HNV.out.1 (HBS.out _ (((Ext.refl wr).drew.alloc _).alloc _)) ?_; intro v2 w2 O2 G2 N2; obtain ⟨p2, c2, rfl, _⟩ := own_form O2; have H2 : Hid _ := PS.out _ _ _ (((Ext.refl wr).drew.alloc _).alloc _) O2 G2 N2; have mkS2 : Hid (∀ V, Ext w2 V → (fun V => (V.cell? ⟨lb, q * 2, none⟩ = some (.int .i64 x1) ∧ V.cell? ⟨lb, q * 2 + 1, none⟩ = some (.int .i64 x2)) ∧ V.cell? ⟨lb, q2 * 2, none⟩ = some (.int .i64 z1) ∧ V.cell? ⟨lb, q2 * 2 + 1, none⟩ = some (.int .i64 z2)) V) := H2.out.1; clear O2 G2 N2
               refine hK.out _ _ ?_ (fun hHeld3 => ?_)
               · (try dsimp only); (first | exact HS3.out | (refine mkS2.out _ ?_; ((with_reducible (repeat (first | assumption | exact Ext.refl _ | apply Ext.drew | apply Ext.drewN | apply Ext.alloc))); done)) | (refine mkS.out _ ?_; ((with_reducible (repeat (first | assumption | exact Ext.refl _ | apply Ext.drew | apply Ext.drewN | apply Ext.alloc))); done)))
               clear hK K hHeld2
               try simp only [Act.put, List.setIfInBounds_toArray, List.set_cons_zero, List.set_cons_succ]
               refine wpAnyH_ready (rs := [13]) (by kernel_rfl) (by simp) ?_
               refine AllReadyH.cons (o := ⟨some 72, .call { callee := .builtin .append, args := #[.tmp 65, .tmp 71], argTypes := #[22, 22] }, 22, "law.go:82", #[⟨6, .data⟩, ⟨12, .data⟩, ⟨6, .chain⟩], none⟩) rfl (fun K hK => ?_) AllReadyH.nil
               refine step_app eltQ cQ_len cQ_one (by decide) _ _ _ _ _ (n + 1) 1 _ (M ++ [(x1, x2)]) [(z1, z2)] w.heap.size rfl rfl (by rfl) (by rfl) (ownsRow_ext H2.out.2.1.m (Ext.refl w2)) rfl (RdG.one ((H2.out.2.2 _ (by simp) (by simp)).trans (top3 _ _ _)) (q_cells _ _)) HNV.out.2 (H2.out.2.1.e.trans (Ext.refl w2)).size ?_; intro v3 w3 O3 G3 N3; obtain ⟨p3, c3, rfl, _⟩ := own_form O3; have H3 : Hid _ := PS2.out _ _ H2.out.2.1 _ _ _ (Ext.refl w2) O3 G3 N3; have HS3 : Hid ((fun V => (V.cell? ⟨lb, q * 2, none⟩ = some (.int .i64 x1) ∧ V.cell? ⟨lb, q * 2 + 1, none⟩ = some (.int .i64 x2)) ∧ V.cell? ⟨lb, q2 * 2, none⟩ = some (.int .i64 z1) ∧ V.cell? ⟨lb, q2 * 2 + 1, none⟩ = some (.int .i64 z2)) w3) := H3.out.1; clear O3 G3 N3
               refine hK.out _ _ ?_ (fun hHeld4 => ?_)
               · (try dsimp only); (first | exact HS3.out | (refine mkS2.out _ ?_; ((with_reducible (repeat (first | assumption | exact Ext.refl _ | apply Ext.drew | apply Ext.drewN | apply Ext.alloc))); done)) | (refine mkS.out _ ?_; ((with_reducible (repeat (first | assumption | exact Ext.refl _ | apply Ext.drew | apply Ext.drewN | apply Ext.alloc))); done)))
               clear hK K hHeld3
               try simp only [Act.put, List.setIfInBounds_toArray, List.set_cons_zero, List.set_cons_succ]
               refine wpAnyH_take (i := 14) (oi := ⟨some 7, .assign (.tmp 72), 22, "law.go:82", #[⟨13, .data⟩, ⟨13, .chain⟩, ⟨0, .phase⟩, ⟨1, .phase⟩, ⟨2, .phase⟩, ⟨3, .phase⟩, ⟨4, .phase⟩, ⟨5, .phase⟩, ⟨6, .phase⟩, ⟨7, .phase⟩, ⟨8, .phase⟩, ⟨9, .phase⟩, ⟨10, .phase⟩, ⟨11, .phase⟩, ⟨12, .phase⟩, ⟨13, .phase⟩], none⟩) (v := ?_) rfl (by kernel_rfl) (by kernel_rfl) (by kernel_rfl) (fun _ _ _ h => h) (Or.inl ⟨by rfl, ?_⟩) (by assumption) ?_
               rotate_left
               · intro w hSw; (try dsimp only at hSw); first | (go_simp; done) | (go_simp; with_reducible rfl)
               try simp only [Act.put, List.setIfInBounds_toArray, List.set_cons_zero, List.set_cons_succ]
               refine wpAnyH_done (by kernel_rfl) ?_ _
               clear wq2 d1
               go_wp2
               exact ⟨⟨q, n + 1 + 1, by rw [wq], HQ2.out, H3.out.2⟩, by rw [wq]; clear wq; (first | (simp [intOf]; done) | (simp [intOf]; omega))⟩
           · go_simp
             skip
             try go_wp2_with fail
             refine hK.out _ _ ?_ (fun hHeld1 => ?_)
             · (try dsimp only); (first | exact HS3.out | (refine mkS2.out _ ?_; ((with_reducible (repeat (first | assumption | exact Ext.refl _ | apply Ext.drew | apply Ext.drewN | apply Ext.alloc))); done)) | (refine mkS.out _ ?_; ((with_reducible (repeat (first | assumption | exact Ext.refl _ | apply Ext.drew | apply Ext.drewN | apply Ext.alloc))); done)))
             clear hK K hHeld0
             try simp only [Act.put, List.setIfInBounds_toArray, List.set_cons_zero, List.set_cons_succ]
             refine wpAnyH_ready (rs := [5]) (by kernel_rfl) (by simp) ?_
             refine AllReadyH.cons (o := ⟨some 64, .buildSlice 22 1 #[(0, .tmp 63)], 22, "law.go:82", #[⟨4, .data⟩], none⟩) rfl (fun K hK => ?_) AllReadyH.nil
             go_simp
             skip
             try go_wp2_with fail
             refine hK.out _ _ ?_ (fun hHeld2 => ?_)
             · (try dsimp only); (first | exact HS3.out | (refine mkS2.out _ ?_; ((with_reducible (repeat (first | assumption | exact Ext.refl _ | apply Ext.drew | apply Ext.drewN | apply Ext.alloc))); done)) | (refine mkS.out _ ?_; ((with_reducible (repeat (first | assumption | exact Ext.refl _ | apply Ext.drew | apply Ext.drewN | apply Ext.alloc))); done)))
             clear hK K hHeld1
             try simp only [Act.put, List.setIfInBounds_toArray, List.set_cons_zero, List.set_cons_succ]
             refine wpAnyH_ready (rs := [6]) (by kernel_rfl) (by simp) ?_
             refine AllReadyH.cons (o := ⟨some 65, .call { callee := .builtin .append, args := #[.tmp 59, .tmp 64], argTypes := #[22, 22] }, 22, "law.go:82", #[⟨0, .data⟩, ⟨5, .data⟩], none⟩) rfl (fun K hK => ?_) AllReadyH.nil
             refine step_app eltQ cQ_len cQ_one (by decide) _ _ _ _ _ n 1 _ M [(x1, x2)] w.heap.size rfl rfl (by rfl) (by rfl) (HOW.out _ (((Ext.refl wr).drew.alloc _).alloc _)) rfl (RdG.one (top3 _ _ _) (q_cells _ _)) HNV.out.1 (HBS.out _ (((Ext.refl wr).drew.alloc _).alloc _)) ?_; intro v2 w2 O2 G2 N2; obtain ⟨p2, c2, rfl, _⟩ := own_form O2; have H2 : Hid _ := PS.out _ _ _ (((Ext.refl wr).drew.alloc _).alloc _) O2 G2 N2; have mkS2 : Hid (∀ V, Ext w2 V → (fun V => (V.cell? ⟨lb, q * 2, none⟩ = some (.int .i64 x1) ∧ V.cell? ⟨lb, q * 2 + 1, none⟩ = some (.int .i64 x2)) ∧ V.cell? ⟨lb, q2 * 2, none⟩ = some (.int .i64 z1) ∧ V.cell? ⟨lb, q2 * 2 + 1, none⟩ = some (.int .i64 z2)) V) := H2.out.1; clear O2 G2 N2
             refine hK.out _ _ ?_ (fun hHeld3 => ?_)
             · (try dsimp only); (first | exact HS3.out | (refine mkS2.out _ ?_; ((with_reducible (repeat (first | assumption | exact Ext.refl _ | apply Ext.drew | apply Ext.drewN | apply Ext.alloc))); done)) | (refine mkS.out _ ?_; ((with_reducible (repeat (first | assumption | exact Ext.refl _ | apply Ext.drew | apply Ext.drewN | apply Ext.alloc))); done)))
             clear hK K hHeld2
             try simp only [Act.put, List.setIfInBounds_toArray, List.set_cons_zero, List.set_cons_succ]
             refine wpAnyH_ready (rs := [13]) (by kernel_rfl) (by simp) ?_
             refine AllReadyH.cons (o := ⟨some 72, .call { callee := .builtin .append, args := #[.tmp 65, .tmp 71], argTypes := #[22, 22] }, 22, "law.go:82", #[⟨6, .data⟩, ⟨12, .data⟩, ⟨6, .chain⟩], none⟩) rfl (fun K hK => ?_) AllReadyH.nil
             refine step_app eltQ cQ_len cQ_one (by decide) _ _ _ _ _ (n + 1) 1 _ (M ++ [(x1, x2)]) [(z1, z2)] w.heap.size rfl rfl (by rfl) (by rfl) (ownsRow_ext H2.out.2.1.m (Ext.refl w2)) rfl (RdG.one ((H2.out.2.2 _ (by simp) (by simp; omega)).trans (top2 _ _ _)) (q_cells _ _)) HNV.out.2 (H2.out.2.1.e.trans (Ext.refl w2)).size ?_; intro v3 w3 O3 G3 N3; obtain ⟨p3, c3, rfl, _⟩ := own_form O3; have H3 : Hid _ := PS2.out _ _ H2.out.2.1 _ _ _ (Ext.refl w2) O3 G3 N3; have HS3 : Hid ((fun V => (V.cell? ⟨lb, q * 2, none⟩ = some (.int .i64 x1) ∧ V.cell? ⟨lb, q * 2 + 1, none⟩ = some (.int .i64 x2)) ∧ V.cell? ⟨lb, q2 * 2, none⟩ = some (.int .i64 z1) ∧ V.cell? ⟨lb, q2 * 2 + 1, none⟩ = some (.int .i64 z2)) w3) := H3.out.1; clear O3 G3 N3
             refine hK.out _ _ ?_ (fun hHeld4 => ?_)
             · (try dsimp only); (first | exact HS3.out | (refine mkS2.out _ ?_; ((with_reducible (repeat (first | assumption | exact Ext.refl _ | apply Ext.drew | apply Ext.drewN | apply Ext.alloc))); done)) | (refine mkS.out _ ?_; ((with_reducible (repeat (first | assumption | exact Ext.refl _ | apply Ext.drew | apply Ext.drewN | apply Ext.alloc))); done)))
             clear hK K hHeld3
             try simp only [Act.put, List.setIfInBounds_toArray, List.set_cons_zero, List.set_cons_succ]
             refine wpAnyH_take (i := 14) (oi := ⟨some 7, .assign (.tmp 72), 22, "law.go:82", #[⟨13, .data⟩, ⟨13, .chain⟩, ⟨0, .phase⟩, ⟨1, .phase⟩, ⟨2, .phase⟩, ⟨3, .phase⟩, ⟨4, .phase⟩, ⟨5, .phase⟩, ⟨6, .phase⟩, ⟨7, .phase⟩, ⟨8, .phase⟩, ⟨9, .phase⟩, ⟨10, .phase⟩, ⟨11, .phase⟩, ⟨12, .phase⟩, ⟨13, .phase⟩], none⟩) (v := ?_) rfl (by kernel_rfl) (by kernel_rfl) (by kernel_rfl) (fun _ _ _ h => h) (Or.inl ⟨by rfl, ?_⟩) (by assumption) ?_
             rotate_left
             · intro w hSw; (try dsimp only at hSw); first | (go_simp; done) | (go_simp; with_reducible rfl)
             try simp only [Act.put, List.setIfInBounds_toArray, List.set_cons_zero, List.set_cons_succ]
             refine wpAnyH_done (by kernel_rfl) ?_ _
             clear wq2 d1
             go_wp2
             exact ⟨⟨q, n + 1 + 1, by rw [wq], HQ2.out, H3.out.2⟩, by rw [wq]; clear wq; (first | (simp [intOf]; done) | (simp [intOf]; omega))⟩
     · have hlt := of_decide_eq_true HBB.out
       obtain ⟨hlt, hl4⟩ := hlt
       obtain ⟨x, hx⟩ : ∃ x, l1[i]? = some x := ⟨_, List.getElem?_eq_getElem (by have := HN.out; omega)⟩
       obtain ⟨b, off, rfl, -, c1, c2⟩ := RdU.cell (HR.out.1.ext hS.e) hx
       obtain ⟨⟨z1, z2⟩, z3, z4⟩ := HR.out.2 x (List.mem_of_getElem? hx)
       obtain ⟨x1, x2⟩ := x
       have hltI : (i : Int) < (N : Int) := by omega
       have HX : Hid (l1[i]? = some (x1, x2)) := hx
       obtain ⟨lp, lc, rfl, _⟩ := own_form hS.o
       have HL : Hid (i < N ∧ i < 400 ∧ i ≤ 400) := ⟨hlt, hl4, hi4⟩
       clear hS hx hl4 HBB
       go_upto_region 5 with fail
       have mkS : Hid (∀ V, Ext wr V → (fun V => V.cell? ⟨b, off + i * 2, none⟩ = some (.int .u8 x1) ∧ V.cell? ⟨b, off + i * 2 + 1, none⟩ = some (.int .u8 x2)) V) := fun V e => by
         obtain ⟨b', off', e1, -, q1, q2⟩ := RdU.cell (HR.out.1.ext (HS.out.e.trans e)) HX.out
         simp only [Option.some.injEq, Addr.mk.injEq, and_true] at e1
         obtain ⟨rfl, rfl⟩ := e1
         exact ⟨q1, q2⟩
       have HOW : Hid (∀ V, Ext wr V → V.ownsRow w.heap.size 33 2 (.slice lp i lc) i (((l1.take i).map (pm (m : Int))).flatMap cQ)) := fun V e => ownsRow_ext HS.out.o e
       have HNV : Hid (i + 1 ≤ 1000000) := by have := HL.out; show _ ≤ _; omega
       have HBS : Hid (∀ V, Ext wr V → w.heap.size ≤ V.heap.size) := fun V e => (HS.out.e.trans e).size
       have PS : Hid (∀ Y v2 w2 (_ : Ext wr Y) (_ : w2.ownsRow w.heap.size 33 2 v2 (i + 1) (((l1.take i).map (pm (m : Int)) ++ [pm (m : Int) (x1, x2)]).flatMap cQ)) (_ : Y.grownBy w2 (Value.slice lp i lc).ownBlock) (_ : v2.ownBlock = (Value.slice lp i lc).ownBlock ∨ v2.ownBlock = some Y.heap.size), (fun V => V.cell? ⟨b, off + i * 2, none⟩ = some (.int .u8 x1) ∧ V.cell? ⟨b, off + i * 2 + 1, none⟩ = some (.int .u8 x2)) w2 ∧ PaS w mb (m : Int) l1 (i + 1) v2 w2) := fun Y v2 w2 e o g nb => by
         have h := HS.out.step e HX.out o g nb
         obtain ⟨b', off', e1, -, q1, q2⟩ := RdU.cell (HR.out.1.ext h.e) HX.out
         simp only [Option.some.injEq, Addr.mk.injEq, and_true] at e1
         obtain ⟨rfl, rfl⟩ := e1
         exact ⟨⟨q1, q2⟩, h⟩
       have ww1 : IntKind.i64.wrap x1 = x1 := wrap_small _ (by omega) (by omega)
       have ww2 : IntKind.i64.wrap x2 = x2 := wrap_small _ (by omega) (by omega)
       have m1 : x1.tmod (m : Int) = x1 % (m : Int) := Int.tmod_eq_emod_of_nonneg z1
       have m2 : x2.tmod (m : Int) = x2 % (m : Int) := Int.tmod_eq_emod_of_nonneg z3
       have K0 : ¬ (m : Int) = 0 := by omega
       have K0n : ¬ m = 0 := by omega
       clear hi hi4 hlt z1 z2 z3 z4 K1 K2
       refine wp_region_held_drew (S := (fun V => V.cell? ⟨b, off + i * 2, none⟩ = some (.int .u8 x1) ∧ V.cell? ⟨b, off + i * 2 + 1, none⟩ = some (.int .u8 x2))) (by kernel_rfl) ?_ (fun hHeld0 => ?_)
       · (first | exact HS2.out | (refine mkS.out _ ?_; ((with_reducible (repeat (first | assumption | exact Ext.refl _ | apply Ext.drew | apply Ext.drewN | apply Ext.alloc))); done)))
       refine wpAnyH_take (i := 0) (oi := ⟨some 32, .move (.tmp 6), 22, "law.go:79", #[], none⟩) (v := ?_) rfl (by kernel_rfl) (by kernel_rfl) (by kernel_rfl) (fun _ _ _ h => h) (Or.inl ⟨by rfl, ?_⟩) (by assumption) ?_
       rotate_left
       · intro w hSw; (try dsimp only at hSw); first | (go_simp; done) | (go_simp; with_reducible rfl)
       try simp only [Act.put, List.setIfInBounds_toArray, List.set_cons_zero, List.set_cons_succ]
       refine wpAnyH_take (i := 1) (oi := ⟨some 33, .move (.tmp 1), 31, "law.go:79", #[], none⟩) (v := ?_) rfl (by kernel_rfl) (by kernel_rfl) (by kernel_rfl) (fun _ _ _ h => h) (Or.inl ⟨by rfl, ?_⟩) (by assumption) ?_
       rotate_left
       · intro w hSw; (try dsimp only at hSw); first | (go_simp; done) | (go_simp; with_reducible rfl)
       try simp only [Act.put, List.setIfInBounds_toArray, List.set_cons_zero, List.set_cons_succ]
       refine wpAnyH_take (i := 2) (oi := ⟨some 34, .move (.tmp 8), 3, "law.go:79", #[], none⟩) (v := ?_) rfl (by kernel_rfl) (by kernel_rfl) (by kernel_rfl) (fun _ _ _ h => h) (Or.inl ⟨by rfl, ?_⟩) (by assumption) ?_
       rotate_left
       · intro w hSw; (try dsimp only at hSw); first | (go_simp; done) | (go_simp; with_reducible rfl)
       try simp only [Act.put, List.setIfInBounds_toArray, List.set_cons_zero, List.set_cons_succ]
       refine wpAnyH_take (i := 3) (oi := ⟨some 35, .indexAddr 31 (.tmp 33) (.tmp 34), 0, "law.go:79", #[⟨1, .data⟩, ⟨2, .data⟩], none⟩) (v := ?_) rfl (by kernel_rfl) (by kernel_rfl) (by kernel_rfl) (fun _ _ _ h => h) (Or.inl ⟨by rfl, ?_⟩) (by assumption) ?_
       rotate_left
       · intro w hSw; (try dsimp only at hSw); first | (go_simp; done) | (go_simp; with_reducible rfl)
       try simp only [Act.put, List.setIfInBounds_toArray, List.set_cons_zero, List.set_cons_succ]
       refine wpAnyH_take (i := 4) (oi := ⟨some 36, .indexAddr 32 (.tmp 35) (.const (.int .i64 0)), 0, "law.go:79", #[⟨3, .data⟩], none⟩) (v := ?_) rfl (by kernel_rfl) (by kernel_rfl) (by kernel_rfl) (fun _ _ _ h => h) (Or.inl ⟨by rfl, ?_⟩) (by assumption) ?_
       rotate_left
       · intro w hSw; (try dsimp only at hSw); first | (go_simp; done) | (go_simp; with_reducible rfl)
       try simp only [Act.put, List.setIfInBounds_toArray, List.set_cons_zero, List.set_cons_succ]
       refine wpAnyH_take (i := 5) (oi := ⟨some 37, .load 5 (.tmp 36), 5, "law.go:79", #[⟨4, .data⟩], none⟩) (v := ?_) rfl (by kernel_rfl) (by kernel_rfl) (by kernel_rfl) (fun _ _ _ h => h) (Or.inl ⟨by rfl, ?_⟩) (by assumption) ?_
       rotate_left
       · intro w hSw; (try dsimp only at hSw); first | (go_simp; done) | (go_simp; with_reducible rfl)
       try simp only [Act.put, List.setIfInBounds_toArray, List.set_cons_zero, List.set_cons_succ]
       refine wpAnyH_take (i := 6) (oi := ⟨some 38, .convert 5 3 (.tmp 37), 3, "law.go:79", #[⟨5, .data⟩], none⟩) (v := ?_) rfl (by kernel_rfl) (by kernel_rfl) (by kernel_rfl) (fun _ _ _ h => h) (Or.inl ⟨by rfl, ?_⟩) (by assumption) ?_
       rotate_left
       · intro w hSw; (try dsimp only at hSw); first | (go_simp; done) | (go_simp; with_reducible rfl)
       try simp only [Act.put, List.setIfInBounds_toArray, List.set_cons_zero, List.set_cons_succ]
       refine wpAnyH_take (i := 7) (oi := ⟨some 39, .move (.tmp 5), 3, "law.go:79", #[], none⟩) (v := ?_) rfl (by kernel_rfl) (by kernel_rfl) (by kernel_rfl) (fun _ _ _ h => h) (Or.inl ⟨by rfl, ?_⟩) (by assumption) ?_
       rotate_left
       · intro w hSw; (try dsimp only at hSw); first | (go_simp; done) | (go_simp; with_reducible rfl)
       try simp only [Act.put, List.setIfInBounds_toArray, List.set_cons_zero, List.set_cons_succ]
       refine wpAnyH_take (i := 8) (oi := ⟨some 40, .binOp .rem 3 (.tmp 38) (.tmp 39) 3, 3, "law.go:79", #[⟨6, .data⟩, ⟨7, .data⟩], none⟩) (v := ?_) rfl (by kernel_rfl) (by kernel_rfl) (by kernel_rfl) (fun _ _ _ h => h) (Or.inl ⟨by rfl, ?_⟩) (by assumption) ?_
       rotate_left
       · intro w hSw; (try dsimp only at hSw); first | (go_simp; done) | (go_simp; with_reducible rfl)
       try simp only [Act.put, List.setIfInBounds_toArray, List.set_cons_zero, List.set_cons_succ]
       refine wpAnyH_take (i := 9) (oi := ⟨some 41, .move (.tmp 1), 31, "law.go:79", #[], none⟩) (v := ?_) rfl (by kernel_rfl) (by kernel_rfl) (by kernel_rfl) (fun _ _ _ h => h) (Or.inl ⟨by rfl, ?_⟩) (by assumption) ?_
       rotate_left
       · intro w hSw; (try dsimp only at hSw); first | (go_simp; done) | (go_simp; with_reducible rfl)
       try simp only [Act.put, List.setIfInBounds_toArray, List.set_cons_zero, List.set_cons_succ]
       refine wpAnyH_take (i := 10) (oi := ⟨some 42, .move (.tmp 8), 3, "law.go:79", #[], none⟩) (v := ?_) rfl (by kernel_rfl) (by kernel_rfl) (by kernel_rfl) (fun _ _ _ h => h) (Or.inl ⟨by rfl, ?_⟩) (by assumption) ?_
       rotate_left
       · intro w hSw; (try dsimp only at hSw); first | (go_simp; done) | (go_simp; with_reducible rfl)
       try simp only [Act.put, List.setIfInBounds_toArray, List.set_cons_zero, List.set_cons_succ]
       refine wpAnyH_take (i := 11) (oi := ⟨some 43, .indexAddr 31 (.tmp 41) (.tmp 42), 0, "law.go:79", #[⟨9, .data⟩, ⟨10, .data⟩], none⟩) (v := ?_) rfl (by kernel_rfl) (by kernel_rfl) (by kernel_rfl) (fun _ _ _ h => h) (Or.inl ⟨by rfl, ?_⟩) (by assumption) ?_
       rotate_left
       · intro w hSw; (try dsimp only at hSw); first | (go_simp; done) | (go_simp; with_reducible rfl)
       try simp only [Act.put, List.setIfInBounds_toArray, List.set_cons_zero, List.set_cons_succ]
       refine wpAnyH_take (i := 12) (oi := ⟨some 44, .indexAddr 32 (.tmp 43) (.const (.int .i64 1)), 0, "law.go:79", #[⟨11, .data⟩], none⟩) (v := ?_) rfl (by kernel_rfl) (by kernel_rfl) (by kernel_rfl) (fun _ _ _ h => h) (Or.inl ⟨by rfl, ?_⟩) (by assumption) ?_
       rotate_left
       · intro w hSw; (try dsimp only at hSw); first | (go_simp; done) | (go_simp; with_reducible rfl)
       try simp only [Act.put, List.setIfInBounds_toArray, List.set_cons_zero, List.set_cons_succ]
       refine wpAnyH_take (i := 13) (oi := ⟨some 45, .load 5 (.tmp 44), 5, "law.go:79", #[⟨12, .data⟩], none⟩) (v := ?_) rfl (by kernel_rfl) (by kernel_rfl) (by kernel_rfl) (fun _ _ _ h => h) (Or.inl ⟨by rfl, ?_⟩) (by assumption) ?_
       rotate_left
       · intro w hSw; (try dsimp only at hSw); first | (go_simp; done) | (go_simp; with_reducible rfl)
       try simp only [Act.put, List.setIfInBounds_toArray, List.set_cons_zero, List.set_cons_succ]
       refine wpAnyH_take (i := 14) (oi := ⟨some 46, .convert 5 3 (.tmp 45), 3, "law.go:79", #[⟨13, .data⟩], none⟩) (v := ?_) rfl (by kernel_rfl) (by kernel_rfl) (by kernel_rfl) (fun _ _ _ h => h) (Or.inl ⟨by rfl, ?_⟩) (by assumption) ?_
       rotate_left
       · intro w hSw; (try dsimp only at hSw); first | (go_simp; done) | (go_simp; with_reducible rfl)
       try simp only [Act.put, List.setIfInBounds_toArray, List.set_cons_zero, List.set_cons_succ]
       refine wpAnyH_take (i := 15) (oi := ⟨some 47, .move (.tmp 5), 3, "law.go:79", #[], none⟩) (v := ?_) rfl (by kernel_rfl) (by kernel_rfl) (by kernel_rfl) (fun _ _ _ h => h) (Or.inl ⟨by rfl, ?_⟩) (by assumption) ?_
       rotate_left
       · intro w hSw; (try dsimp only at hSw); first | (go_simp; done) | (go_simp; with_reducible rfl)
       try simp only [Act.put, List.setIfInBounds_toArray, List.set_cons_zero, List.set_cons_succ]
       refine wpAnyH_take (i := 16) (oi := ⟨some 48, .binOp .rem 3 (.tmp 46) (.tmp 47) 3, 3, "law.go:79", #[⟨14, .data⟩, ⟨15, .data⟩], none⟩) (v := ?_) rfl (by kernel_rfl) (by kernel_rfl) (by kernel_rfl) (fun _ _ _ h => h) (Or.inl ⟨by rfl, ?_⟩) (by assumption) ?_
       rotate_left
       · intro w hSw; (try dsimp only at hSw); first | (go_simp; done) | (go_simp; with_reducible rfl)
       try simp only [Act.put, List.setIfInBounds_toArray, List.set_cons_zero, List.set_cons_succ]
       refine wpAnyH_take (i := 17) (oi := ⟨some 49, .build 33 #[(0, .tmp 40), (1, .tmp 48)], 33, "law.go:79", #[⟨8, .data⟩, ⟨16, .data⟩], none⟩) (v := ?_) rfl (by kernel_rfl) (by kernel_rfl) (by kernel_rfl) (fun _ _ _ h => h) (Or.inl ⟨by rfl, ?_⟩) (by assumption) ?_
       rotate_left
       · intro w hSw; (try dsimp only at hSw); first | (go_simp; done) | (go_simp; with_reducible rfl)
       try simp only [Act.put, List.setIfInBounds_toArray, List.set_cons_zero, List.set_cons_succ]
       refine wpAnyH_ready (rs := [18]) (by kernel_rfl) (by simp) ?_
       refine AllReadyH.cons (o := ⟨some 50, .buildSlice 22 1 #[(0, .tmp 49)], 22, "law.go:79", #[⟨17, .data⟩], none⟩) rfl (fun K hK => ?_) AllReadyH.nil
       go_simp
       skip
       try go_wp2_with fail
       refine hK.out _ _ ?_ (fun hHeld1 => ?_)
       · (try dsimp only); (first | exact HS2.out | (refine mkS.out _ ?_; ((with_reducible (repeat (first | assumption | exact Ext.refl _ | apply Ext.drew | apply Ext.drewN | apply Ext.alloc))); done)))
       clear hK K hHeld0
       try simp only [Act.put, List.setIfInBounds_toArray, List.set_cons_zero, List.set_cons_succ]
       refine wpAnyH_ready (rs := [19]) (by kernel_rfl) (by simp) ?_
       refine AllReadyH.cons (o := ⟨some 51, .call { callee := .builtin .append, args := #[.tmp 32, .tmp 50], argTypes := #[22, 22] }, 22, "law.go:79", #[⟨0, .data⟩, ⟨18, .data⟩], none⟩) rfl (fun K hK => ?_) AllReadyH.nil
       refine step_app eltQ cQ_len cQ_one (by decide) _ _ _ _ _ i 1 _ ((l1.take i).map (pm (m : Int))) [pm (m : Int) (x1, x2)] w.heap.size rfl rfl (by rfl) (by rfl) (HOW.out _ ((Ext.refl wr).drew.alloc _)) rfl (RdG.one (top_heap _ _) (q_cells _ _)) HNV.out (HBS.out _ ((Ext.refl wr).drew.alloc _)) ?_; intro v2 w2 O2 G2 N2; obtain ⟨p2, c2, rfl, _⟩ := own_form O2; have H2 : Hid _ := PS.out _ _ _ (((Ext.refl wr).drew.alloc _)) O2 G2 N2; have HS2 : Hid ((fun V => V.cell? ⟨b, off + i * 2, none⟩ = some (.int .u8 x1) ∧ V.cell? ⟨b, off + i * 2 + 1, none⟩ = some (.int .u8 x2)) w2) := H2.out.1; clear O2 G2 N2
       refine hK.out _ _ ?_ (fun hHeld2 => ?_)
       · (try dsimp only); (first | exact HS2.out | (refine mkS.out _ ?_; ((with_reducible (repeat (first | assumption | exact Ext.refl _ | apply Ext.drew | apply Ext.drewN | apply Ext.alloc))); done)))
       clear hK K hHeld1
       try simp only [Act.put, List.setIfInBounds_toArray, List.set_cons_zero, List.set_cons_succ]
       refine wpAnyH_take (i := 20) (oi := ⟨some 6, .assign (.tmp 51), 22, "law.go:79", #[⟨19, .data⟩, ⟨19, .chain⟩, ⟨0, .phase⟩, ⟨1, .phase⟩, ⟨2, .phase⟩, ⟨3, .phase⟩, ⟨4, .phase⟩, ⟨5, .phase⟩, ⟨6, .phase⟩, ⟨7, .phase⟩, ⟨8, .phase⟩, ⟨9, .phase⟩, ⟨10, .phase⟩, ⟨11, .phase⟩, ⟨12, .phase⟩, ⟨13, .phase⟩, ⟨14, .phase⟩, ⟨15, .phase⟩, ⟨16, .phase⟩, ⟨17, .phase⟩, ⟨18, .phase⟩, ⟨19, .phase⟩], none⟩) (v := ?_) rfl (by kernel_rfl) (by kernel_rfl) (by kernel_rfl) (fun _ _ _ h => h) (Or.inl ⟨by rfl, ?_⟩) (by assumption) ?_
       rotate_left
       · intro w hSw; (try dsimp only at hSw); first | (go_simp; done) | (go_simp; with_reducible rfl)
       try simp only [Act.put, List.setIfInBounds_toArray, List.set_cons_zero, List.set_cons_succ]
       refine wpAnyH_done (by kernel_rfl) ?_ _
       clear ww1 ww2 m1 m2 K0 K0n
       have wi := wrapI i (by have := HL.out; omega)
       go_wp2
       exact ⟨⟨i + 1, by rw [wi], by have := HL.out; omega, by have := HL.out; omega, H2.out.2⟩, by rw [wi]; have := HL.out; clear wi; simp [intOf]; omega⟩
end Go.Proofs.Ytcjenjeggmlanaa
