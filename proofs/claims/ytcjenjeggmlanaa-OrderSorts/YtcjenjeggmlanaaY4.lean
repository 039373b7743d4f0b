/-
 Package order: inOrder.
 Package order: leastOnes.
 Package order: Sort.
-/
import Derived.Test.YtcjenjeggmlanaaY3
import Derived.Test.YtcjenjeggmlanaaY2
namespace Go.Proofs.Ytcjenjeggmlanaa
open Go.RowKit
set_option maxHeartbeats 4000000

theorem ExtP.toE {P : Nat → Prop} {w wA W : World} (h : ExtP P wA W) (e : Ext w wA) (hP : ∀ k, k < w.heap.size → P k) : Ext w W :=
 ⟨h.os.trans e.os, h.tape.trans e.tape, h.output.trans e.output, Nat.le_trans e.size h.size, fun k hk => (h.block k (Nat.lt_of_lt_of_le hk e.size) (hP k hk)).trans (e.block k hk)⟩
/-- append of a list to one that is owned, at the operation. -/
theorem app_q {α : Type} {c : α → List Value} {TS T : TypeId} {k bytes : Nat} (hT : Elt TS T k bytes) (hc : ∀ x, (c x).length = k) (h1 : ∀ x, ∀ v ∈ c x, v.oneCell' = true) (hby : bytes ≤ 1000) {ops : Array Oper} {rest : List Oper} {o : Oper} {a : Act} {Q : Exit → Act → World → Prop} (W : World) (s x : Operand) (v va : Value) (n m : Nat) (l news : List α) (base : Nat) (hgd : o.guard = none)
   (ho : o.op = .call { callee := .builtin .append, args := #[s, x], argTypes := #[TS, TS] })
   (hs : a.eval s = v) (hx : a.eval x = va) (hB : W.ownsRow base T k v n (l.flatMap c)) (hm : news.length = m) (hR : RdG c k W va news) (hl : n + m ≤ 1000000) (hb2 : base ≤ W.heap.size)
   (h : ∀ v' W', W'.ownsRow base T k v' (n + m) ((l ++ news).flatMap c) → W.grownBy W' v.ownBlock → (v'.ownBlock = v.ownBlock ∨ v'.ownBlock = some W.heap.size) → wpList Try.prog ops Q rest (a.put o.dst v') W') : wpList Try.prog ops Q (o :: rest) a W := by
 subst hm
 refine own_app2 hT W s x v va n news.length (l.flatMap c) (news.flatMap c) base hgd ho hs hx hB (hR.row hc hT.k0) (gm_one h1 news) (by unfold maxLen; omega) (Nat.le_trans (Nat.mul_le_mul hl hby) (by decide)) hb2 ?_
 intro v' W' k1 k2 k3
 rw [← List.flatMap_append] at k1
 exact h v' W' k1 k2 k3
def lenV (v : Value) : Nat := match v with | .slice _ l _ => l | _ => 0
theorem ask_lt {L : List (Nat × Nat)} {n t : Nat} (hL : ∀ p ∈ L, p.1 < n ∧ p.2 < n) : ∀ y ∈ ask L t, y < n := by
 intro y hy
 unfold ask at hy
 obtain ⟨p, hp, rfl⟩ := List.mem_map.1 hy
 exact (hL p (List.mem_filter.1 hp).1).1
theorem drop_at {l : List Nat} {i y : Nat} (h : l[i]? = some y) : l.drop i = y :: l.drop (i + 1) := by
 obtain ⟨hlt, e⟩ := List.getElem?_eq_some_iff.1 h
 rw [← e, List.drop_eq_getElem_cons hlt]
/-- What inOrder leaves. -/
def InQ (w : World) (L : List (Nat × Nat)) (n : Nat) (e : Ending) (w' : World) : Prop := ∃ v' o, e = .returned v' ∧ IsOrd L n o ∧ w'.ownsRow w.heap.size 3 1 v' o.length (o.flatMap cN) ∧ Ext w w'
set_option maxRecDepth 100000 in
theorem inorder_any (w : World) (v vl : Value) (L : List (Nat × Nat)) (n : Nat) (ls : Nat → Nat) (h : RdG cM 2 w v L) (hL : L.length ≤ 100000) (hl : RdG cN 1 w vl (rng n ls)) (hn : n ≤ 4900) (hb : ∀ p ∈ L, p.1 < n ∧ p.2 < n) (hls : ∀ p ∈ L, ls p.1 = ls p.2 ↔ Con (EL L) p.1 p.2) :
   Calls Try.prog 16 #[v, vl] w (InQ w L n) := by
 obtain ⟨p, c, rfl, _⟩ := h.form
 obtain ⟨q, d, rfl, hqd⟩ := hl.form
 have HR : Hid (RdG cM 2 w (.slice p L.length c) L ∧ RdG cN 1 w (.slice q n d) (rng n ls)) := ⟨h, by have := hl; rwa [rng_len] at this⟩
 have HB : Hid (L.length ≤ 100000 ∧ n ≤ 4900 ∧ (∀ p ∈ L, p.1 < n ∧ p.2 < n) ∧ ∀ p ∈ L, ls p.1 = ls p.2 ↔ Con (EL L) p.1 p.2) := ⟨hL, hn, hb, hls⟩
 have HV0 : Hid (RdG cM 2 w (.slice p L.length c) L) := h
 rw [rng_len] at hqd ⊢
 have mk := fun W => mk_int W n n (Nat.le_refl _) (by omega)
 obtain ⟨M, hM⟩ : ∃ M, L.length = M := ⟨_, rfl⟩
 have HM : Hid (L.length = M) := hM
 rw [hM] at HR HV0 ⊢
 have H0 : Hid ((w.alloc (.cells (zI n) 3)).ownsRow w.heap.size 3 1 (sl w.heap.size n) n ((rng n (pend (L.take 0) ls [])).flatMap cN)) := mk_full (Nat.le_refl _) (by omega) hN 0 rfl
 clear h hl hL hn hb hM hqd hls
 go_enter Try.func16, Try.ntmps16
 go_wp2_with fail
 go_loopw [21] (fun x wr => ∃ k : Nat, x = .int .i64 (k : Int) ∧ k ≤ M ∧ wr.ownsRow w.heap.size 3 1 (sl w.heap.size n) n ((rng n (pend (L.take k) ls [])).flatMap cN) ∧ Ext w wr) (fun x _ => M - (intOf x).toNat)
 case atStart => exact ⟨0, rfl, Nat.zero_le _, H0.out, (Ext.refl _).alloc _⟩
 case round =>
   clear H0 mk
   obtain ⟨j, rfl, hj, hO, hE⟩ := hrel
   have HO : Hid (wr.ownsRow w.heap.size 3 1 (sl w.heap.size n) n ((rng n (pend (L.take j) ls [])).flatMap cN) ∧ Ext w wr) := ⟨hO, hE⟩
   rcases Nat.lt_or_ge j M with hlt | hge
   · have hltI : (j : Int) < (M : Int) := by omega
     obtain ⟨x, hx⟩ : ∃ x, L[j]? = some x := ⟨_, List.getElem?_eq_getElem (by have := HM.out; omega)⟩
     obtain ⟨x1, x2⟩ := x
     obtain ⟨b, off, rfl, bl, c1, c2⟩ := RdM.cell (HR.out.1.ext hE) hx
     have wj := wrapI j (by have := HB.out; have := HM.out; omega)
     obtain ⟨hx1, hx2⟩ := HB.out.2.2.1 _ (List.mem_of_getElem? hx)
     obtain ⟨lb, lo, rfl, ll, -⟩ := rd_at hN (HR.out.2.ext hE) (by omega)
     have HX : Hid (L[j]? = some (x1, x2) ∧ x1 < n ∧ x2 < n) := ⟨hx, hx1, hx2⟩
     clear hO hE hx hx1 hx2
     go_upto_region 5 with fail
     have HV : Hid (Ext wr (wr.alloc (.cells #[.int .i64 (x1 : Int), .int .i64 (x2 : Int)] 33))) := (Ext.refl _).alloc _
     have c3 : (wr.alloc (.cells #[.int .i64 (x1 : Int), .int .i64 (x2 : Int)] 33)).cell? ⟨wr.heap.size, 0, none⟩ = some (.int .i64 (x1 : Int)) := by simp [go_sem]
     have c4 : (wr.alloc (.cells #[.int .i64 (x1 : Int), .int .i64 (x2 : Int)] 33)).cell? ⟨wr.heap.size, 1, none⟩ = some (.int .i64 (x2 : Int)) := by simp [go_sem]
     generalize wr.alloc (.cells #[.int .i64 (x1 : Int), .int .i64 (x2 : Int)] 33) = W2 at *
     have HO2 : Hid (W2.ownsRow w.heap.size 3 1 (sl w.heap.size n) n ((rng n (pend (L.take j) ls [])).flatMap cN) ∧ Ext w W2) := ⟨ownsRow_ext HO.out.1 HV.out, HO.out.2.trans HV.out⟩
     clear c1 c2 bl ll HV
     obtain ⟨lb', lo', e1, -, lc⟩ := rd_at hN (HR.out.2.ext HO2.out.2) (Nat.lt_of_le_of_lt (Nat.zero_le _) HX.out.2.1)
     simp only [Option.some.injEq, Addr.mk.injEq, and_true] at e1
     obtain ⟨rfl, rfl⟩ := e1
     have l1 := lc x1 HX.out.2.1
     have l2 := lc x2 HX.out.2.2
     have i1 : (x1 : Int) < (n : Int) := by have := HX.out; omega
     have i2 : (x2 : Int) < (n : Int) := by have := HX.out; omega
     obtain ⟨g1, g2⟩ := own_cell hN HO2.out.1 HX.out.2.1
     obtain ⟨y1, hy1⟩ : ∃ y, ls x1 = y := ⟨_, rfl⟩
     obtain ⟨y2, hy2⟩ : ∃ y, ls x2 = y := ⟨_, rfl⟩
     unfold eN at l1 l2 g1
     rw [hy1] at l1
     rw [hy2] at l2
     have HY : Hid (ls x1 = y1 ∧ ls x2 = y2) := ⟨hy1, hy2⟩
     obtain ⟨z, hz⟩ : ∃ z, pend (L.take j) ls [] x1 = z := ⟨_, rfl⟩
     obtain ⟨z1, hz1⟩ : ∃ z1, z + 1 = z1 := ⟨_, rfl⟩
     rw [hz] at g1
     have wz : wrap64 ((z : Int) + 1) = (z1 : Int) := by
       rw [← hz1]
       have h1 := pend_le (L.take j) ls [] x1
       have h2 := HB.out.1
       have h3 := HM.out
       rw [List.length_take] at h1
       exact wrapI z (by omega)
     have HZ : Hid (pend (L.take j) ls [] x1 + 1 = z1) := by rw [hz]; exact hz1
     clear lc hy1 hy2 hz hz1
     by_cases hyy : y1 = y2
     · have e1 : ((y1 : Int) != (y2 : Int)) = false := by simp [hyy]
       have HF : Hid (W2.ownsRow w.heap.size 3 1 (sl w.heap.size n) n ((rng n (pend (L.take (j + 1)) ls [])).flatMap cN)) := by
         show World.ownsRow _ _ _ _ _ _ _
         rw [pend_no HX.out.1 (by rw [HY.out.1, HY.out.2, hyy])]
         exact HO2.out.1
       clear hyy wz
       go_region
       go_wp2
       go_roundw
       case rel => exact ⟨j + 1, by rw [wj], hlt, ownsRow_ext HF.out (Ext.refl _).drew, HO2.out.2.drew⟩
       case measure => rw [wj]; simp [intOf]; omega
     · have e1 : ((y1 : Int) != (y2 : Int)) = true := by simp; omega
       have HF : Hid ((W2.setCell ⟨w.heap.size, x1, none⟩ (.int .i64 (z1 : Int))).ownsRow w.heap.size 3 1 (sl w.heap.size n) n ((rng n (pend (L.take (j + 1)) ls [])).flatMap cN)) := by
         show World.ownsRow _ _ _ _ _ _ _
         rw [pend_yes HX.out.1 (by rw [HY.out.1, HY.out.2]; exact hyy), HZ.out]
         exact own_put hN HO2.out.1 x1 z1
       clear hyy
       go_region
       go_wp2
       go_roundw
       case rel => exact ⟨j + 1, by rw [wj], hlt, ownsRow_ext HF.out (Ext.refl _).drew, (HO2.out.2.setCell (Nat.le_refl _) _).drew⟩
       case measure => rw [wj]; clear wj wz; simp [intOf]; omega
   · have hltI : ¬ (j : Int) < (M : Int) := by omega
     have H1 : Hid (wr.ownsRow w.heap.size 3 1 (sl w.heap.size n) n ((rng n (pend L ls [])).flatMap cN) ∧ Ext w wr) := by
       have := HO.out.1
       rw [List.take_of_length_le (by have := HM.out; omega)] at this
       exact ⟨this, HO.out.2⟩
     clear hO hE HO hge
     go_upto_region 9 with fail
     obtain ⟨b, hbe⟩ : ∃ b, wr.heap.size + 1 = b := ⟨_, rfl⟩
     obtain ⟨W0, hW0⟩ : ∃ V, (wr.alloc (.cells #[] 3)).alloc (.cells #[.slice (some ⟨wr.heap.size, 0, none⟩) 0 0] 49) = V := ⟨_, rfl⟩
     obtain ⟨bw, hbw⟩ : ∃ k, w.heap.size = k := ⟨_, rfl⟩
     have hlw : w.heap.size < wr.heap.size := (H1.out.1.lt _ rfl).2
     have H2 : Hid (IoM (fun k => k < w.heap.size) W0 b bw n W0 [] (.slice (some ⟨wr.heap.size, 0, none⟩) 0 0) (pend L ls []) [] (.slice none 0 0)) := by
       have sz : W0.heap.size = wr.heap.size + 1 + 1 := by rw [← hW0]; simp
       have e1 : Ext wr W0 := by rw [← hW0]; exact ((Ext.refl wr).alloc _).alloc _
       refine ⟨ExtP.refl _ _, ⟨[], ⟨?_, by omega, ?_, ?_, ?_⟩, .refl _, heap_one⟩, ?_, ?_, by omega, by omega, World.ownsRow_nil _ _ _ _, fun k e => (by cases e), by omega, by omega, fun k hk => by omega⟩
       · rw [← hW0, ← hbe]
         have := top_heap (wr.alloc (.cells #[] 3)) (.cells #[.slice (some ⟨wr.heap.size, 0, none⟩) 0 0] 49)
         simp only [show ∀ (V : World) (o : Obj), (V.alloc o).heap.size = V.heap.size + 1 from fun _ _ => by simp] at this
         exact this
       · rw [← hW0]
         exact (World.ownsRow_made (base := 0) (size := 1) (e := 3) wr #[] 0 (Nat.zero_le _) (by unfold maxLen; omega) (by simp)).alloc _
       · intro e
         have e2 : wr.heap.size = b := Option.some.inj e
         omega
       · intro g e
         have e2 : wr.heap.size = g := Option.some.inj e
         omega
       · have := ownsRow_mono (ownsRow_ext H1.out.1 e1) (Nat.zero_le _)
         rw [← hbw]
         exact this
       · intro e
         have e2 : wr.heap.size = bw := Option.some.inj e
         omega
     have HE0 : Hid (Ext w W0) := by show Ext w W0; rw [← hW0]; exact (H1.out.2.alloc _).alloc _
     have HBW : Hid (w.heap.size = bw ∧ w.heap.size ≤ b) := ⟨hbw, by omega⟩
     rw [hW0, hbe, hbw]
     clear hW0 hbe hbw hlw H1 hltI
     go_upto_region 9 with fail
     go_wp2_with fail
     go_loopw [48] (fun x wq => ∃ (k : Nat) (hl : List Nat) (v : Value), x = .int .i64 (k : Int) ∧ k ≤ n ∧ IoM (fun k => k < w.heap.size) W0 b bw n wq hl v (pend L ls []) [] (.slice none 0 0) ∧ hl.Nodup ∧ ∀ x, x ∈ hl ↔ x < k ∧ pend L ls [] x = 0) (fun x _ => n - (intOf x).toNat)
     case atStart => exact ⟨0, [], _, rfl, Nat.zero_le _, H2.out, List.nodup_nil, fun x => by simp⟩
     case round =>
       clear H2
       obtain ⟨k, hl, v, rfl, hk, hI, hnd, hm⟩ := hrel
       have HI : Hid (IoM (fun k => k < w.heap.size) W0 b bw n wr hl v (pend L ls []) [] (.slice none 0 0) ∧ hl.Nodup ∧ ∀ x, x ∈ hl ↔ x < k ∧ pend L ls [] x = 0) := ⟨hI, hnd, hm⟩
       rcases Nat.lt_or_ge k n with hlt | hge
       · have hltI : (k : Int) < (n : Int) := by omega
         obtain ⟨g1, g2⟩ := hI.wAt hlt
         have wk := wrapI k (by have := HB.out; omega)
         have hlen : hl.length ≤ n := by
           have := nodup_len hnd (M := List.range n) (fun x hx => List.mem_range.2 (by have := ((hm x).1 hx).1; omega))
           simpa using this
         obtain ⟨z, hz⟩ : ∃ z, pend L ls [] k = z := ⟨_, rfl⟩
         rw [hz] at g1
         have HZ : Hid (pend L ls [] k = z) := hz
         have cp := io_push hI k (by have := HB.out; omega)
         clear hI hnd hm hlen hz
         by_cases h0 : z = 0
         · have e1 : ((z : Int) == 0) = true := by simp [h0]
           have HN : Hid ((k :: hl).Nodup ∧ ∀ x, x ∈ k :: hl ↔ x < k + 1 ∧ pend L ls [] x = 0) := by
             refine ⟨List.nodup_cons.2 ⟨fun hx => by have := ((HI.out.2.2 k).1 hx).1; omega, HI.out.2.1⟩, fun x => ?_⟩
             rw [List.mem_cons, HI.out.2.2 x]
             constructor
             · rintro (e | ⟨a, b⟩)
               · rw [e]; exact ⟨Nat.lt_succ_self _, by rw [HZ.out]; exact h0⟩
               · exact ⟨by omega, b⟩
             · rintro ⟨a, b⟩
               by_cases e : x = k
               · exact .inl e
               · exact .inr ⟨by omega, b⟩
           clear h0
           go_wp2_with fail
           refine cp.mono ?_
           rintro e w3 ⟨rfl, v3, h3⟩
           have H3 : Hid (IoM (fun k => k < w.heap.size) W0 b bw n w3 (k :: hl) v3 (pend L ls []) [] (.slice none 0 0)) := h3
           clear cp h3 g1 g2
           go_wp2_with fail
           go_roundw
           case rel => exact ⟨k + 1, k :: hl, v3, by rw [wk], hlt, H3.out, HN.out.1, HN.out.2⟩
           case measure => rw [wk]; simp [intOf]; omega
         · have e1 : ((z : Int) == 0) = false := by simp [h0]
           have HN : Hid (∀ x, x ∈ hl ↔ x < k + 1 ∧ pend L ls [] x = 0) := fun x => by
             rw [HI.out.2.2 x]
             constructor
             · rintro ⟨a, b⟩
               exact ⟨by omega, b⟩
             · rintro ⟨a, b⟩
               refine ⟨?_, b⟩
               by_cases e : x = k
               · rw [e, HZ.out] at b; exact absurd b h0
               · omega
           clear h0 cp
           go_wp2
           go_roundw
           case rel => exact ⟨k + 1, hl, v, by rw [wk], hlt, HI.out.1, HI.out.2.1, HN.out⟩
           case measure => rw [wk]; simp [intOf]; omega
       · have hltI : ¬ (k : Int) < (n : Int) := by omega
         have HOI : Hid (OI L ls n [] hl (pend L ls [])) := OI.start (fun _ _ => rfl) hnd (fun x => by
           rw [hm x]
           constructor
           · rintro ⟨a, b⟩
             exact ⟨by omega, b⟩
           · rintro ⟨a, b⟩
             exact ⟨by omega, b⟩)
         have HE1 : Hid (Ext w wr) := hI.fr.toE HE0.out (fun _ h => h)
         have HI1 : Hid (IoM (fun k => k < w.heap.size) W0 b bw n wr hl v (pend L ls []) [] (.slice none 0 0)) := hI
         have co := others1_any wr _ L n (HV0.out.ext HE1.out) HB.out.1 (by have := HB.out; omega) HB.out.2.2.1
         clear hI hnd hm HI hge
         go_wp2_with fail
         refine co.mono ?_
         rintro e w3 ⟨a, xs, he, hR3, hE3⟩
         unfold sl at he
         subst he
         have m0 : ∀ W, (Instr.makeSlice 24 (.int .i64 0) (.int .i64 (n : Int))).run Try.prog W = .ok (.slice (some ⟨W.heap.size, 0, none⟩) 0 n) (W.alloc (.cells (zI n) 3)) := fun W => mk_int W 0 n (Nat.zero_le _) (by have := HB.out; omega)
         have HR3 : Hid (Rws wr.heap.size a n w3 xs (oth1 L) ∧ Ext wr w3) := ⟨hR3, hE3⟩
         clear co hR3 hE3
         go_upto_region 17 with fail
         have H4 : Hid (IoM (fun k => k < w.heap.size ∨ (wr.heap.size ≤ k ∧ k < w3.heap.size)) w3 b bw n (w3.alloc (.cells (zI n) 3)) hl v (pend L ls []) [] (.slice (some ⟨w3.heap.size, 0, none⟩) 0 n)) := by
           obtain ⟨b1, b2⟩ := HI1.out.q.lt
           have b3 := HBW.out
           have b4 := HR3.out.2.size
           have b5 := (HI1.out.wt.lt _ rfl).2
           simp only at b5
           have hx := HI1.out.ext (HR3.out.2.alloc (.cells (zI n) 3))
           obtain ⟨l', hq, _⟩ := HI1.out.q
           refine ⟨((Ext.refl w3).alloc _).toP _, hx.q.as ?_ ?_ (.refl _), hx.wt, hx.vb, hx.bb, ?_, mk_none (Nat.le_refl _) (by have := HB.out; omega), ?_, by omega, by omega, ?_⟩
           · rintro (h | h) <;> omega
           · intro g hg h
             have h1 := (b2 g hg).1
             have h2 := hq.nr g hg
             rcases h with h | h
             · exact h2 h
             · omega
           · rintro (h | h) <;> omega
           · intro k hk hk2
             have e2 : w3.heap.size = k := Option.some.inj hk
             have := (b2 k hk2).1
             omega
           · rintro k (h | h)
             · have := HE1.out.size; omega
             · omega
         have HE4 : Hid (Ext w w3 ∧ wr.heap.size ≤ w3.heap.size) := ⟨HE1.out.trans HR3.out.2, HR3.out.2.size⟩
         obtain ⟨B0, hB0⟩ : ∃ k, wr.heap.size = k := ⟨_, rfl⟩
         have HR4 : Hid (Rws B0 a n w3 xs (oth1 L)) := by rw [← hB0]; exact HR3.out.1
         rw [hB0] at H4 HE4
         clear hB0 HR3 HI1 m0 HE1 HE0 hltI
         generalize w3.alloc (.cells (zI n) 3) = w4 at *
         go_loopw [12] (fun vo wq => ∃ (out hl : List Nat) (v : Value) (f : Nat → Nat), IoM (fun k => k < w.heap.size ∨ (B0 ≤ k ∧ k < w3.heap.size)) w3 b bw n wq hl v f out vo ∧ OI L ls n out hl f) (fun vo _ => n - lenV vo)
         case atStart => exact ⟨[], hl, v, _, H4.out, HOI.out⟩
         case round =>
           clear H4 HOI
           obtain ⟨out, hl, v, f, hI, hO⟩ := hrel
           have HI : Hid (IoM (fun k => k < w.heap.size ∨ (B0 ≤ k ∧ k < w3.heap.size)) w3 b bw n wr hl v f out u12 ∧ OI L ls n out hl f) := ⟨hI, hO⟩
           obtain ⟨vp, vc, rfl, kb⟩ := hI.cell
           obtain ⟨op, oc, rfl, hoc⟩ := own_form hI.ls
           have HEw : Hid (Ext w wr) := hI.fr.toE HE4.out.1 (fun _ h => .inl h)
           have hlen := hO.len
           have holen := ords_len hO.o
           obtain ⟨N, hN⟩ : ∃ N, hl.length = N := ⟨_, rfl⟩
           rw [hN] at kb
           have cl := fun W => len_any W vp N vc
           have HN : Hid (hl.length = N ∧ out.length ≤ n ∧ N ≤ n) := ⟨hN, holen, by omega⟩
           clear hI hO hlen holen
           rcases Nat.eq_zero_or_pos N with h0 | h0
           · subst h0
             have HQ : Hid (InQ w L n (.returned (.slice op out.length oc)) wr) := ⟨_, out, rfl, HI.out.2.fin HB.out.2.2.2 HB.out.2.2.1 (List.eq_nil_of_length_eq_zero HN.out.1), ownsRow_mono HI.out.1.ls HE4.out.1.size, HEw.out⟩
             clear hN
             go_wp2_with fail
             refine (cl _).mono ?_
             rintro e w6 ⟨rfl, rfl⟩
             go_wp2_with fail
             go_ret
             exact HQ.out
           · have q1 : (N : Int) > 0 := by omega
             have hne : hl ≠ [] := fun e => by rw [e] at hN; simp at hN; omega
             have cp := io_pop HI.out.1 (by have := HN.out; have := HB.out; omega) hne
             clear hne hN h0
             go_wp2_with fail
             refine (cl _).mono ?_
             rintro e w6 ⟨rfl, rfl⟩
             clear cl kb
             go_wp2_with fail
             refine cp.mono ?_
             rintro e w5 ⟨t, l2, rfl, hp, hm, v5, h5⟩
             obtain ⟨j5, t5⟩ := HI.out.2.pop HB.out.2.2.2 hp hm
             have H5 : Hid (IoM (fun k => k < w.heap.size ∨ (B0 ≤ k ∧ k < w3.heap.size)) w3 b bw n w5 l2 v5 f out (.slice op out.length oc)) := h5
             have HJ5 : Hid (OJ L ls n (out ++ [t]) l2 f t (oth1 L t) ∧ t < n) := ⟨j5, t5⟩
             have ta := ta_any (t : Int)
             clear cp h5 hp hm j5 t5 HI HEw
             have HN6 : Hid (out.length + 1 ≤ 1000000 ∧ w3.heap.size ≤ (w5.alloc (.cells #[.int .i64 (t : Int)] 3)).heap.size) := ⟨by have := HN.out; have := HB.out; omega, by have := H5.out.fr.size; simp; omega⟩
             go_upto_region 20 with (at_builtin; refine app_q eltI cN_len cN_one (by decide) _ _ _ _ _ out.length 1 out [t] w3.heap.size rfl rfl (by rfl) (by rfl) (H5.out.ls.alloc _) rfl (rd_oneN (Ext.refl _)) HN6.out.1 HN6.out.2 ?_; intro v9 w9 O9 G9 B9; obtain ⟨p9, c9, rfl, -⟩ := own_form O9; have H6 : Hid (IoM (fun k => k < w.heap.size ∨ (B0 ≤ k ∧ k < w3.heap.size)) w3 b bw n w9 l2 v5 f (out ++ [t]) (.slice p9 (out.length + 1) c9)) := (H5.out.ext ((Ext.refl w5).alloc _)).app rfl O9 G9 B9; clear O9 G9 B9)
             obtain ⟨A, hA⟩ : ∃ A, oth1 L t = A := ⟨_, rfl⟩
             obtain ⟨NA, hNA⟩ : ∃ k, A.length = k := ⟨_, rfl⟩
             obtain ⟨xp, xc, hxt, -⟩ := own_form (HR4.out.r t HJ5.out.2)
             rw [hA, hNA] at hxt
             have HA : Hid (oth1 L t = A ∧ A.length = NA ∧ NA ≤ 100000 ∧ ∀ y ∈ A, y < n) := ⟨hA, hNA, by have h1 := oth1_len L t; have h2 := HB.out.1; rw [hA] at h1; omega, by rw [← hA]; exact ask_lt HB.out.2.2.1⟩
             have RW : Hid (∀ W, ExtP (fun k => k < w.heap.size ∨ (B0 ≤ k ∧ k < w3.heap.size)) w3 W → W.cell? ⟨a, t, none⟩ = some (.slice xp NA xc) ∧ RdG cN 1 W (.slice xp NA xc) A ∧ Ext w W) := fun W e => by
               have hk := HR4.out.keep (W' := W) (fun k h1 h2 => e.block k h2 (.inr ⟨h1, h2⟩))
               have h1 := (own_cell hV hk.o HJ5.out.2).1
               have h2 := own_rdG cN_len (hk.r t HJ5.out.2) rfl
               rw [hxt] at h1 h2
               rw [hA] at h2
               exact ⟨h1, h2, e.toE HE4.out.1 (fun _ h => .inl h)⟩
             have HO9 : Hid (out.length + 1 ≤ n) := by
               have h := ords_len HJ5.out.1.o
               rw [List.length_append] at h
               exact h
             have HJ6 : Hid (OJ L ls n (out ++ [t]) l2 f t (A.drop 0) ∧ t < n) := ⟨by rw [List.drop_zero, ← hA]; exact HJ5.out.1, HJ5.out.2⟩
             obtain ⟨ca, -, -⟩ := RW.out _ H6.out.fr
             have tI : (t : Int) < (n : Int) := by have := HJ5.out.2; omega
             clear hA hNA hxt HJ5 H5 ta HN6
             go_wp2_with fail
             go_loopw [86] (fun x wq => ∃ (i : Nat) (hl : List Nat) (v : Value) (f : Nat → Nat), x = .int .i64 (i : Int) ∧ i ≤ NA ∧ IoM (fun k => k < w.heap.size ∨ (B0 ≤ k ∧ k < w3.heap.size)) w3 b bw n wq hl v f (out ++ [t]) (.slice p9 (out.length + 1) c9) ∧ OJ L ls n (out ++ [t]) hl f t (A.drop i)) (fun x _ => NA - (intOf x).toNat)
             case atStart => exact ⟨0, l2, v5, f, rfl, Nat.zero_le _, H6.out, HJ6.out.1⟩
             case round =>
               clear H6 ca
               obtain ⟨i, hl, v, f, rfl, hi, hI, hJ⟩ := hrel
               have HI : Hid (IoM (fun k => k < w.heap.size ∨ (B0 ≤ k ∧ k < w3.heap.size)) w3 b bw n wr hl v f (out ++ [t]) (.slice p9 (out.length + 1) c9) ∧ OJ L ls n (out ++ [t]) hl f t (A.drop i)) := ⟨hI, hJ⟩
               rcases Nat.lt_or_ge i NA with hlt | hge
               · have hltI : (i : Int) < (NA : Int) := by omega
                 obtain ⟨y, hy⟩ : ∃ y, A[i]? = some y := ⟨_, List.getElem?_eq_getElem (by have := HA.out; omega)⟩
                 obtain ⟨-, rd, ew⟩ := RW.out _ hI.fr
                 obtain ⟨xb, xo, rfl, -, hxy⟩ := rd.at hy
                 have cy := hxy 0 _ rfl
                 rw [Nat.mul_one, Nat.add_zero] at cy
                 have hyn := HA.out.2.2.2 y (List.mem_of_getElem? hy)
                 have HY : Hid (A[i]? = some y ∧ y < n) := ⟨hy, hyn⟩
                 obtain ⟨lb, lo, rfl, -, lc⟩ := rd_at hN (HR.out.2.ext ew) (Nat.lt_of_le_of_lt (Nat.zero_le _) hyn)
                 have l1 := lc y hyn
                 have l2 := lc t HJ6.out.2
                 have yI : (y : Int) < (n : Int) := by omega
                 obtain ⟨g1, g2⟩ := hI.wAt hyn
                 unfold eN at l1 l2
                 obtain ⟨y1, hy1⟩ : ∃ z, ls y = z := ⟨_, rfl⟩
                 obtain ⟨y2, hy2⟩ : ∃ z, ls t = z := ⟨_, rfl⟩
                 rw [hy1] at l1
                 rw [hy2] at l2
                 have HL : Hid (ls y = y1 ∧ ls t = y2 ∧ A.drop i = y :: A.drop (i + 1)) := ⟨hy1, hy2, drop_at hy⟩
                 obtain ⟨z, hz⟩ : ∃ z, f y = z := ⟨_, rfl⟩
                 rw [hz] at g1
                 have HZ : Hid (f y = z) := hz
                 have hzl : z ≤ 300000 := by
                   have h1 := hJ.f y hyn
                   have h2 := pend_le L ls (out ++ [t]) y
                   have h3 : askN ls t y (A.drop i) ≤ NA := by
                     unfold askN
                     refine Nat.le_trans (List.length_filter_le _ _) ?_
                     rw [List.length_drop]
                     have := HA.out.2.1
                     omega
                   have h4 := HA.out.2.2.1
                   have h5 := HB.out.1
                   omega
                 have HZL : Hid (z ≤ 300000) := hzl
                 clear hI hJ hy rd hxy hyn lc hy1 hy2 hz ew hzl
                 have HWI : Hid (i ≤ 1000000) := by have := HA.out; show _ ≤ _; omega
                 have wi := wrapI i HWI.out
                 go_upto_region 23 with fail
                 by_cases hyy : y1 = y2
                 · have e1 : ((y1 : Int) == (y2 : Int)) = true := by simp [hyy]
                   have HF : Hid (OJ L ls n (out ++ [t]) hl f t (A.drop (i + 1))) := by
                     have := HI.out.2
                     rw [HL.out.2.2] at this
                     exact this.skip (by rw [HL.out.1, HL.out.2.1, hyy])
                   clear hyy
                   go_region
                   go_wp2
                   go_roundw
                   case rel => exact ⟨i + 1, hl, v, f, by rw [wi], hlt, HI.out.1.ext (Ext.refl _).drew, HF.out⟩
                   case measure => rw [wi]; clear wi; simp [intOf]; omega
                 · have e1 : ((y1 : Int) == (y2 : Int)) = false := by clear wi; simp; omega
                   have hD : 1 ≤ f y ∧ (f y = 1 → OJ L ls n (out ++ [t]) (y :: hl) (upd f y 0) t (A.drop (i + 1))) ∧ (∀ x, f y = x + 1 → x ≠ 0 → OJ L ls n (out ++ [t]) hl (upd f y x) t (A.drop (i + 1))) := by
                     have := HI.out.2
                     rw [HL.out.2.2] at this
                     exact this.dec (by rw [HL.out.1, HL.out.2.1]; exact hyy) HY.out.2
                   have HD : Hid (1 ≤ z ∧ (z = 1 → OJ L ls n (out ++ [t]) (y :: hl) (upd f y 0) t (A.drop (i + 1))) ∧ (∀ x, z = x + 1 → x ≠ 0 → OJ L ls n (out ++ [t]) hl (upd f y x) t (A.drop (i + 1)))) := by
                     rw [HZ.out] at hD; exact hD
                   clear hyy hD
                   obtain ⟨z1, hz1⟩ : ∃ z1, z - 1 = z1 := ⟨_, rfl⟩
                   have HZ1 : Hid (z = z1 + 1) := by have h := HD.out.1; show _ = _; clear wi; omega
                   have wz : wrap64 ((z : Int) - 1) = (z1 : Int) := by
                     have h1 := HZ1.out
                     have h2 := HZL.out
                     have h3 := wrapQ z (by clear wi; omega) (by clear wi; omega)
                     rw [h3, hz1]
                   clear hz1
                   go_region
                   go_upto_region 25 with fail
                   generalize hW6 : World.drew _ = W6
                   have HI6 : Hid (IoM (fun k => k < w.heap.size ∨ (B0 ≤ k ∧ k < w3.heap.size)) w3 b bw n W6 hl v (upd f y z1) (out ++ [t]) (.slice p9 (out.length + 1) c9)) := by
                     rw [← hW6]
                     exact (HI.out.1.setW y z1).ext (Ext.refl _).drew
                   clear hW6 l1 l2 g1 g2 cy wz e1
                   obtain ⟨g1, g2⟩ := HI6.out.wAt HY.out.2
                   rw [upd_at] at g1
                   by_cases h0 : z1 = 0
                   · have e2 : ((z1 : Int) == 0) = true := by simp [h0]
                     have HF : Hid (OJ L ls n (out ++ [t]) (y :: hl) (upd f y z1) t (A.drop (i + 1))) := by
                       rw [h0]
                       exact HD.out.2.1 (by rw [HZ1.out, h0])
                     have cp := io_push HI6.out y (by have h1 := HI.out.2.len; have h2 := HB.out.2.1; clear wi; omega)
                     clear h0
                     go_wp2_with fail
                     refine cp.mono ?_
                     rintro e w7 ⟨rfl, v7, h7⟩
                     have HI7 : Hid (IoM (fun k => k < w.heap.size ∨ (B0 ≤ k ∧ k < w3.heap.size)) w3 b bw n w7 (y :: hl) v7 (upd f y z1) (out ++ [t]) (.slice p9 (out.length + 1) c9)) := h7
                     clear cp h7 g1 g2
                     go_wp2_with fail
                     go_roundw
                     case rel => exact ⟨i + 1, y :: hl, v7, upd f y z1, by rw [wi], hlt, HI7.out, HF.out⟩
                     case measure => rw [wi]; clear wi; simp [intOf]; omega
                   · have e2 : ((z1 : Int) == 0) = false := by simp [h0]
                     have HF : Hid (OJ L ls n (out ++ [t]) hl (upd f y z1) t (A.drop (i + 1))) := HD.out.2.2 z1 HZ1.out h0
                     clear h0
                     go_wp2
                     go_roundw
                     case rel => exact ⟨i + 1, hl, v, upd f y z1, by rw [wi], hlt, HI6.out, HF.out⟩
                     case measure => rw [wi]; clear wi; simp [intOf]; omega
               · have hltI : ¬ (i : Int) < (NA : Int) := by omega
                 have HF : Hid (OI L ls n (out ++ [t]) hl f) := by
                   have := hJ
                   rw [List.drop_of_length_le (by have := HA.out; omega)] at this
                   exact this.done
                 clear hI hJ hge
                 go_wp2_with fail
                 go_roundw
                 case rel => exact ⟨out ++ [t], hl, v, f, HI.out.1, HF.out⟩
                 case measure => have := HO9.out; simp [lenV]; omega

open Go.RowKit
set_option maxHeartbeats 4000000

def S0 : S := ⟨fun _ => 0, fun _ => 0, fun _ => 0, fun _ => 0, [], [], 0⟩
/-- Four rows and a search over them, all new. -/
def W5 (w : World) (n : Nat) (x : Value) (g m f l : Nat) : World := ((((w.alloc (.cells (zI n) 3)).alloc (.cells (zI n) 3)).alloc (.cells (zI n) 3)).alloc (.cells (zI n) 3)).alloc (.cells #[x, sl g n, sl m n, sl f n, sl l n, .slice none 0 0, .slice none 0 0, .int .i64 0] 46)
theorem sz_alloc (W : World) (o : Obj) : (W.alloc o).heap.size = W.heap.size + 1 := by simp
theorem sm_new (w : World) (n : Nat) (x : Value) (g m f l : Nat) (hn : n ≤ 5000) (hg : w.heap.size ≤ g ∧ g < w.heap.size + 4) (hm : w.heap.size ≤ m ∧ m < w.heap.size + 4) (hf : w.heap.size ≤ f ∧ f < w.heap.size + 4) (hl : w.heap.size ≤ l ∧ l < w.heap.size + 4)
   (d : g ≠ m ∧ g ≠ f ∧ g ≠ l ∧ m ≠ f ∧ m ≠ l ∧ f ≠ l) : SM w.heap.size (w.heap.size + 4) g m f l n x (W5 w n x g m f l) (.slice none 0 0) (.slice none 0 0) S0 := by
 have row : ∀ i, w.heap.size ≤ i → i < w.heap.size + 4 → (W5 w n x g m f l).ownsRow w.heap.size 3 1 (sl i n) n ((rng n (fun _ => 0)).flatMap cN) := by
   intro i h1 h2
   have mk : ∀ V : World, w.heap.size ≤ V.heap.size → (V.alloc (.cells (zI n) 3)).ownsRow w.heap.size 3 1 (sl V.heap.size n) n ((rng n (fun _ => 0)).flatMap cN) := fun V h => mk_full h (by omega) hN 0 rfl
   rcases (by omega : i = w.heap.size ∨ i = w.heap.size + 1 ∨ i = w.heap.size + 1 + 1 ∨ i = w.heap.size + 1 + 1 + 1) with rfl | rfl | rfl | rfl
   · exact ((((mk w (Nat.le_refl _)).alloc _).alloc _).alloc _).alloc _
   · have := mk (w.alloc (.cells (zI n) 3)) (by simp)
     simp only [sz_alloc] at this
     exact ((this.alloc _).alloc _).alloc _
   · have := mk ((w.alloc (.cells (zI n) 3)).alloc (.cells (zI n) 3)) (by simp; omega)
     simp only [sz_alloc] at this
     exact (this.alloc _).alloc _
   · have := mk (((w.alloc (.cells (zI n) 3)).alloc (.cells (zI n) 3)).alloc (.cells (zI n) 3)) (by simp; omega)
     simp only [sz_alloc] at this
     exact this.alloc _
 have rowI : (W5 w n x g m f l).ownsRow w.heap.size 3 1 (sl l n) n ((rng n (fun _ => (0 : Int))).flatMap cI) := by
   have := row l hl.1 hl.2
   have e : (rng n (fun _ => 0)).flatMap cN = (rng n (fun _ => (0 : Int))).flatMap cI := by
     unfold rng
     rw [List.flatMap_map, List.flatMap_map]
     rfl
   rwa [e] at this
 obtain ⟨d1, d2, d3, d4, d5, d6⟩ := d
 refine ⟨?_, by omega, row g hg.1 hg.2, row m hm.1 hm.2, row f hf.1 hf.2, rowI, World.ownsRow_nil _ _ _ _, World.ownsRow_nil _ _ _ _, ⟨by omega, d1, d2, d3⟩, ⟨by omega, d4, d5⟩, ⟨by omega, d6⟩, by omega, fun _ e => (by cases e), fun _ e => (by cases e)⟩
 have := top_heap ((((w.alloc (.cells (zI n) 3)).alloc (.cells (zI n) 3)).alloc (.cells (zI n) 3)).alloc (.cells (zI n) 3)) (.cells #[x, sl g n, sl m n, sl f n, sl l n, .slice none 0 0, .slice none 0 0, .int .i64 0] 46)
 simp only [sz_alloc] at this
 exact this
theorem w5_ext (w : World) (n : Nat) (x : Value) (g m f l : Nat) : Ext w (W5 w n x g m f l) := ((((((Ext.refl w).alloc _).alloc _).alloc _).alloc _).alloc _)
/-- A search that is new. -/
def NwQ (w : World) (n : Nat) (x s : Value) (V : World) : Prop := ∃ b g m f l, s = .pointer (some ⟨b, 0, none⟩) ∧ SM w.heap.size b g m f l n x V (.slice none 0 0) (.slice none 0 0) S0 ∧ Ext w V
/-- What leastOnes leaves. -/
def LoQ (w : World) (n : Nat) (adj : Nat → List Nat) (e : Ending) (w' : World) : Prop := ∃ v' ls, e = .returned v' ∧ RdG cN 1 w' v' (rng n ls) ∧ (∀ v, v < n → Lst (fun a b => b ∈ adj a) v (ls v)) ∧ Ext w w'
set_option maxRecDepth 100000 in
theorem least_any (w : World) (a n : Nat) (adj : Nat → List Nat) (hA : Aj w a n adj) (hn : n ≤ 5000) (hE : ∀ v, v < n → ∀ x ∈ adj v, x < n) (hL : ∀ v, v < n → (adj v).length ≤ 5000) :
   Calls Try.prog 14 #[sl a n] w (LoQ w n adj) := by
 have HB : Hid (Aj w a n adj ∧ n ≤ 5000 ∧ (∀ v, v < n → ∀ x ∈ adj v, x < n) ∧ ∀ v, v < n → (adj v).length ≤ 5000) := ⟨hA, hn, hE, hL⟩
 have mk := fun W => mk_int W n n (Nat.le_refl _) (by omega)
 have HM : Hid (∀ (g m f l b : Nat) (V : World), V = (W5 w n (sl a n) g m f l).drew → (w.heap.size ≤ g ∧ g < w.heap.size + 4) → (w.heap.size ≤ m ∧ m < w.heap.size + 4) → (w.heap.size ≤ f ∧ f < w.heap.size + 4) → (w.heap.size ≤ l ∧ l < w.heap.size + 4) → (g ≠ m ∧ g ≠ f ∧ g ≠ l ∧ m ≠ f ∧ m ≠ l ∧ f ≠ l) → b = w.heap.size + 4 → NwQ w n (sl a n) (.pointer (some ⟨b, 0, none⟩)) V) := by
   intro g m f l b V hV h1 h2 h3 h4 h5 h6
   subst hV h6
   exact ⟨_, g, m, f, l, rfl, (sm_new w n (sl a n) g m f l HB.out.2.1 h1 h2 h3 h4 h5).ext (Ext.refl _).drew, (w5_ext _ _ _ _ _ _ _).drew⟩
 unfold sl
 clear hA hn hE hL
 go_enter Try.func14, Try.ntmps14
 go_upto_region 2 with fail
 go_cut [4] (fun s wx => NwQ w n (sl a n) s wx)
 case first =>
   refine wp_region_held_drew (S := (fun _ => True)) (by kernel_rfl) ?_ (fun hHeld0 => ?_)
   · first | done | trivial
   refine wpAnyH_take (i := 0) (oi := ⟨some 9, .move (.tmp 0), 40, "search.go:25", #[], none⟩) (v := ?_) rfl (by kernel_rfl) (by kernel_rfl) (by kernel_rfl) (fun _ _ _ h => h) (Or.inl ⟨by rfl, ?_⟩) (by assumption) ?_
   rotate_left
   · intro w hSw; (try dsimp only at hSw); first | (go_simp; done) | (go_simp; with_reducible rfl)
   try simp only [Act.put, List.setIfInBounds_toArray, List.set_cons_zero, List.set_cons_succ]
   refine wpAnyH_take (i := 1) (oi := ⟨some 10, .move (.tmp 3), 3, "search.go:25", #[], none⟩) (v := ?_) rfl (by kernel_rfl) (by kernel_rfl) (by kernel_rfl) (fun _ _ _ h => h) (Or.inl ⟨by rfl, ?_⟩) (by assumption) ?_
   rotate_left
   · intro w hSw; (try dsimp only at hSw); first | (go_simp; done) | (go_simp; with_reducible rfl)
   try simp only [Act.put, List.setIfInBounds_toArray, List.set_cons_zero, List.set_cons_succ]
   refine wpAnyH_take (i := 3) (oi := ⟨some 12, .move (.tmp 3), 3, "search.go:25", #[], none⟩) (v := ?_) rfl (by kernel_rfl) (by kernel_rfl) (by kernel_rfl) (fun _ _ _ h => h) (Or.inl ⟨by rfl, ?_⟩) (by assumption) ?_
   rotate_left
   · intro w hSw; (try dsimp only at hSw); first | (go_simp; done) | (go_simp; with_reducible rfl)
   try simp only [Act.put, List.setIfInBounds_toArray, List.set_cons_zero, List.set_cons_succ]
   refine wpAnyH_take (i := 5) (oi := ⟨some 14, .move (.tmp 3), 3, "search.go:25", #[], none⟩) (v := ?_) rfl (by kernel_rfl) (by kernel_rfl) (by kernel_rfl) (fun _ _ _ h => h) (Or.inl ⟨by rfl, ?_⟩) (by assumption) ?_
   rotate_left
   · intro w hSw; (try dsimp only at hSw); first | (go_simp; done) | (go_simp; with_reducible rfl)
   try simp only [Act.put, List.setIfInBounds_toArray, List.set_cons_zero, List.set_cons_succ]
   refine wpAnyH_take (i := 7) (oi := ⟨some 16, .move (.tmp 3), 3, "search.go:25", #[], none⟩) (v := ?_) rfl (by kernel_rfl) (by kernel_rfl) (by kernel_rfl) (fun _ _ _ h => h) (Or.inl ⟨by rfl, ?_⟩) (by assumption) ?_
   rotate_left
   · intro w hSw; (try dsimp only at hSw); first | (go_simp; done) | (go_simp; with_reducible rfl)
   try simp only [Act.put, List.setIfInBounds_toArray, List.set_cons_zero, List.set_cons_succ]
   refine wpAnyH_ready (rs := [2, 4, 6, 8]) (by kernel_rfl) (by simp) ?_
   refine AllReadyH.cons (o := ⟨some 11, .makeSlice 24 (.tmp 10) (.tmp 10), 24, "search.go:25", #[⟨1, .data⟩, ⟨1, .data⟩], none⟩) rfl (fun K hK => ?_) (AllReadyH.cons (o := ⟨some 13, .makeSlice 24 (.tmp 12) (.tmp 12), 24, "search.go:25", #[⟨3, .data⟩, ⟨3, .data⟩], none⟩) rfl (fun K hK => ?_) (AllReadyH.cons (o := ⟨some 15, .makeSlice 24 (.tmp 14) (.tmp 14), 24, "search.go:25", #[⟨5, .data⟩, ⟨5, .data⟩], none⟩) rfl (fun K hK => ?_) (AllReadyH.cons (o := ⟨some 17, .makeSlice 24 (.tmp 16) (.tmp 16), 24, "search.go:25", #[⟨7, .data⟩, ⟨7, .data⟩], none⟩) rfl (fun K hK => ?_) AllReadyH.nil)))
   · go_simp
     skip
     try go_wp2_with fail
     refine hK.out _ _ ?_ (fun hHeld1 => ?_)
     · (try dsimp only); first | done | trivial
     clear hK K hHeld0
     try simp only [Act.put, List.setIfInBounds_toArray, List.set_cons_zero, List.set_cons_succ]
     refine wpAnyH_ready (rs := [4, 6, 8]) (by kernel_rfl) (by simp) ?_
     refine AllReadyH.cons (o := ⟨some 13, .makeSlice 24 (.tmp 12) (.tmp 12), 24, "search.go:25", #[⟨3, .data⟩, ⟨3, .data⟩], none⟩) rfl (fun K hK => ?_) (AllReadyH.cons (o := ⟨some 15, .makeSlice 24 (.tmp 14) (.tmp 14), 24, "search.go:25", #[⟨5, .data⟩, ⟨5, .data⟩], none⟩) rfl (fun K hK => ?_) (AllReadyH.cons (o := ⟨some 17, .makeSlice 24 (.tmp 16) (.tmp 16), 24, "search.go:25", #[⟨7, .data⟩, ⟨7, .data⟩], none⟩) rfl (fun K hK => ?_) AllReadyH.nil))
     · go_simp
       skip
       try go_wp2_with fail
       refine hK.out _ _ ?_ (fun hHeld2 => ?_)
       · (try dsimp only); first | done | trivial
       clear hK K hHeld1
       try simp only [Act.put, List.setIfInBounds_toArray, List.set_cons_zero, List.set_cons_succ]
       refine wpAnyH_ready (rs := [6, 8]) (by kernel_rfl) (by simp) ?_
       refine AllReadyH.cons (o := ⟨some 15, .makeSlice 24 (.tmp 14) (.tmp 14), 24, "search.go:25", #[⟨5, .data⟩, ⟨5, .data⟩], none⟩) rfl (fun K hK => ?_) (AllReadyH.cons (o := ⟨some 17, .makeSlice 24 (.tmp 16) (.tmp 16), 24, "search.go:25", #[⟨7, .data⟩, ⟨7, .data⟩], none⟩) rfl (fun K hK => ?_) AllReadyH.nil)
       · go_simp
         skip
         try go_wp2_with fail
         refine hK.out _ _ ?_ (fun hHeld3 => ?_)
         · (try dsimp only); first | done | trivial
         clear hK K hHeld2
         try simp only [Act.put, List.setIfInBounds_toArray, List.set_cons_zero, List.set_cons_succ]
         refine wpAnyH_ready (rs := [8]) (by kernel_rfl) (by simp) ?_
         refine AllReadyH.cons (o := ⟨some 17, .makeSlice 24 (.tmp 16) (.tmp 16), 24, "search.go:25", #[⟨7, .data⟩, ⟨7, .data⟩], none⟩) rfl (fun K hK => ?_) AllReadyH.nil
         go_simp
         skip
         try go_wp2_with fail
         refine hK.out _ _ ?_ (fun hHeld4 => ?_)
         · (try dsimp only); first | done | trivial
         clear hK K hHeld3
         try simp only [Act.put, List.setIfInBounds_toArray, List.set_cons_zero, List.set_cons_succ]
         refine wpAnyH_take (i := 9) (oi := ⟨some 18, .build 46 #[(0, .tmp 9), (1, .tmp 11), (2, .tmp 13), (3, .tmp 15), (4, .tmp 17)], 46, "search.go:25", #[⟨0, .data⟩, ⟨2, .data⟩, ⟨4, .data⟩, ⟨6, .data⟩, ⟨8, .data⟩], none⟩) (v := ?_) rfl (by kernel_rfl) (by kernel_rfl) (by kernel_rfl) (fun _ _ _ h => h) (Or.inl ⟨by rfl, ?_⟩) (by assumption) ?_
         rotate_left
         · intro w hSw; (try dsimp only at hSw); first | (go_simp; done) | (go_simp; with_reducible rfl)
         try simp only [Act.put, List.setIfInBounds_toArray, List.set_cons_zero, List.set_cons_succ]
         refine wpAnyH_ready (rs := [10]) (by kernel_rfl) (by simp) ?_
         refine AllReadyH.cons (o := ⟨some 19, .box 46 (.tmp 18), 44, "search.go:25", #[⟨9, .data⟩], none⟩) rfl (fun K hK => ?_) AllReadyH.nil
         go_simp
         skip
         try go_wp2_with fail
         refine hK.out _ _ ?_ (fun hHeld5 => ?_)
         · (try dsimp only); first | done | trivial
         clear hK K hHeld4
         try simp only [Act.put, List.setIfInBounds_toArray, List.set_cons_zero, List.set_cons_succ]
         refine wpAnyH_take (i := 11) (oi := ⟨some 4, .assign (.tmp 19), 44, "search.go:25", #[⟨10, .data⟩, ⟨0, .phase⟩, ⟨1, .phase⟩, ⟨2, .phase⟩, ⟨3, .phase⟩, ⟨4, .phase⟩, ⟨5, .phase⟩, ⟨6, .phase⟩, ⟨7, .phase⟩, ⟨8, .phase⟩, ⟨9, .phase⟩, ⟨10, .phase⟩], none⟩) (v := ?_) rfl (by kernel_rfl) (by kernel_rfl) (by kernel_rfl) (fun _ _ _ h => h) (Or.inl ⟨by rfl, ?_⟩) (by assumption) ?_
         rotate_left
         · intro w hSw; (try dsimp only at hSw); first | (go_simp; done) | (go_simp; with_reducible rfl)
         try simp only [Act.put, List.setIfInBounds_toArray, List.set_cons_zero, List.set_cons_succ]
         refine wpAnyH_done (by kernel_rfl) ?_ _
         go_wp2_with fail
         go_meet
         case rel => exact HM.out _ _ _ _ _ _ rfl (by omega) (by omega) (by omega) (by omega) (by omega) rfl
       · go_simp
         skip
         try go_wp2_with fail
         refine hK.out _ _ ?_ (fun hHeld3 => ?_)
         · (try dsimp only); first | done | trivial
         clear hK K hHeld2
         try simp only [Act.put, List.setIfInBounds_toArray, List.set_cons_zero, List.set_cons_succ]
         refine wpAnyH_ready (rs := [6]) (by kernel_rfl) (by simp) ?_
         refine AllReadyH.cons (o := ⟨some 15, .makeSlice 24 (.tmp 14) (.tmp 14), 24, "search.go:25", #[⟨5, .data⟩, ⟨5, .data⟩], none⟩) rfl (fun K hK => ?_) AllReadyH.nil
         go_simp
         skip
         try go_wp2_with fail
         refine hK.out _ _ ?_ (fun hHeld4 => ?_)
         · (try dsimp only); first | done | trivial
         clear hK K hHeld3
         try simp only [Act.put, List.setIfInBounds_toArray, List.set_cons_zero, List.set_cons_succ]
         refine wpAnyH_take (i := 9) (oi := ⟨some 18, .build 46 #[(0, .tmp 9), (1, .tmp 11), (2, .tmp 13), (3, .tmp 15), (4, .tmp 17)], 46, "search.go:25", #[⟨0, .data⟩, ⟨2, .data⟩, ⟨4, .data⟩, ⟨6, .data⟩, ⟨8, .data⟩], none⟩) (v := ?_) rfl (by kernel_rfl) (by kernel_rfl) (by kernel_rfl) (fun _ _ _ h => h) (Or.inl ⟨by rfl, ?_⟩) (by assumption) ?_
         rotate_left
         · intro w hSw; (try dsimp only at hSw); first | (go_simp; done) | (go_simp; with_reducible rfl)
         try simp only [Act.put, List.setIfInBounds_toArray, List.set_cons_zero, List.set_cons_succ]
         refine wpAnyH_ready (rs := [10]) (by kernel_rfl) (by simp) ?_
         refine AllReadyH.cons (o := ⟨some 19, .box 46 (.tmp 18), 44, "search.go:25", #[⟨9, .data⟩], none⟩) rfl (fun K hK => ?_) AllReadyH.nil
         go_simp
         skip
         try go_wp2_with fail
         refine hK.out _ _ ?_ (fun hHeld5 => ?_)
         · (try dsimp only); first | done | trivial
         clear hK K hHeld4
         try simp only [Act.put, List.setIfInBounds_toArray, List.set_cons_zero, List.set_cons_succ]
         refine wpAnyH_take (i := 11) (oi := ⟨some 4, .assign (.tmp 19), 44, "search.go:25", #[⟨10, .data⟩, ⟨0, .phase⟩, ⟨1, .phase⟩, ⟨2, .phase⟩, ⟨3, .phase⟩, ⟨4, .phase⟩, ⟨5, .phase⟩, ⟨6, .phase⟩, ⟨7, .phase⟩, ⟨8, .phase⟩, ⟨9, .phase⟩, ⟨10, .phase⟩], none⟩) (v := ?_) rfl (by kernel_rfl) (by kernel_rfl) (by kernel_rfl) (fun _ _ _ h => h) (Or.inl ⟨by rfl, ?_⟩) (by assumption) ?_
         rotate_left
         · intro w hSw; (try dsimp only at hSw); first | (go_simp; done) | (go_simp; with_reducible rfl)
         try simp only [Act.put, List.setIfInBounds_toArray, List.set_cons_zero, List.set_cons_succ]
         refine wpAnyH_done (by kernel_rfl) ?_ _
         go_wp2_with fail
         go_meet
         case rel => exact HM.out _ _ _ _ _ _ rfl (by omega) (by omega) (by omega) (by omega) (by omega) rfl
     · go_simp
       skip
       try go_wp2_with fail
       refine hK.out _ _ ?_ (fun hHeld2 => ?_)
       · (try dsimp only); first | done | trivial
       clear hK K hHeld1
       try simp only [Act.put, List.setIfInBounds_toArray, List.set_cons_zero, List.set_cons_succ]
       refine wpAnyH_ready (rs := [4, 8]) (by kernel_rfl) (by simp) ?_
       refine AllReadyH.cons (o := ⟨some 13, .makeSlice 24 (.tmp 12) (.tmp 12), 24, "search.go:25", #[⟨3, .data⟩, ⟨3, .data⟩], none⟩) rfl (fun K hK => ?_) (AllReadyH.cons (o := ⟨some 17, .makeSlice 24 (.tmp 16) (.tmp 16), 24, "search.go:25", #[⟨7, .data⟩, ⟨7, .data⟩], none⟩) rfl (fun K hK => ?_) AllReadyH.nil)
       · go_simp
         skip
         try go_wp2_with fail
         refine hK.out _ _ ?_ (fun hHeld3 => ?_)
         · (try dsimp only); first | done | trivial
         clear hK K hHeld2
         try simp only [Act.put, List.setIfInBounds_toArray, List.set_cons_zero, List.set_cons_succ]
         refine wpAnyH_ready (rs := [8]) (by kernel_rfl) (by simp) ?_
         refine AllReadyH.cons (o := ⟨some 17, .makeSlice 24 (.tmp 16) (.tmp 16), 24, "search.go:25", #[⟨7, .data⟩, ⟨7, .data⟩], none⟩) rfl (fun K hK => ?_) AllReadyH.nil
         go_simp
         skip
         try go_wp2_with fail
         refine hK.out _ _ ?_ (fun hHeld4 => ?_)
         · (try dsimp only); first | done | trivial
         clear hK K hHeld3
         try simp only [Act.put, List.setIfInBounds_toArray, List.set_cons_zero, List.set_cons_succ]
         refine wpAnyH_take (i := 9) (oi := ⟨some 18, .build 46 #[(0, .tmp 9), (1, .tmp 11), (2, .tmp 13), (3, .tmp 15), (4, .tmp 17)], 46, "search.go:25", #[⟨0, .data⟩, ⟨2, .data⟩, ⟨4, .data⟩, ⟨6, .data⟩, ⟨8, .data⟩], none⟩) (v := ?_) rfl (by kernel_rfl) (by kernel_rfl) (by kernel_rfl) (fun _ _ _ h => h) (Or.inl ⟨by rfl, ?_⟩) (by assumption) ?_
         rotate_left
         · intro w hSw; (try dsimp only at hSw); first | (go_simp; done) | (go_simp; with_reducible rfl)
         try simp only [Act.put, List.setIfInBounds_toArray, List.set_cons_zero, List.set_cons_succ]
         refine wpAnyH_ready (rs := [10]) (by kernel_rfl) (by simp) ?_
         refine AllReadyH.cons (o := ⟨some 19, .box 46 (.tmp 18), 44, "search.go:25", #[⟨9, .data⟩], none⟩) rfl (fun K hK => ?_) AllReadyH.nil
         go_simp
         skip
         try go_wp2_with fail
         refine hK.out _ _ ?_ (fun hHeld5 => ?_)
         · (try dsimp only); first | done | trivial
         clear hK K hHeld4
         try simp only [Act.put, List.setIfInBounds_toArray, List.set_cons_zero, List.set_cons_succ]
         refine wpAnyH_take (i := 11) (oi := ⟨some 4, .assign (.tmp 19), 44, "search.go:25", #[⟨10, .data⟩, ⟨0, .phase⟩, ⟨1, .phase⟩, ⟨2, .phase⟩, ⟨3, .phase⟩, ⟨4, .phase⟩, ⟨5, .phase⟩, ⟨6, .phase⟩, ⟨7, .phase⟩, ⟨8, .phase⟩, ⟨9, .phase⟩, ⟨10, .phase⟩], none⟩) (v := ?_) rfl (by kernel_rfl) (by kernel_rfl) (by kernel_rfl) (fun _ _ _ h => h) (Or.inl ⟨by rfl, ?_⟩) (by assumption) ?_
         rotate_left
         · intro w hSw; (try dsimp only at hSw); first | (go_simp; done) | (go_simp; with_reducible rfl)
         try simp only [Act.put, List.setIfInBounds_toArray, List.set_cons_zero, List.set_cons_succ]
         refine wpAnyH_done (by kernel_rfl) ?_ _
         go_wp2_with fail
         go_meet
         case rel => exact HM.out _ _ _ _ _ _ rfl (by omega) (by omega) (by omega) (by omega) (by omega) rfl
       · go_simp
         skip
         try go_wp2_with fail
         refine hK.out _ _ ?_ (fun hHeld3 => ?_)
         · (try dsimp only); first | done | trivial
         clear hK K hHeld2
         try simp only [Act.put, List.setIfInBounds_toArray, List.set_cons_zero, List.set_cons_succ]
         refine wpAnyH_ready (rs := [4]) (by kernel_rfl) (by simp) ?_
         refine AllReadyH.cons (o := ⟨some 13, .makeSlice 24 (.tmp 12) (.tmp 12), 24, "search.go:25", #[⟨3, .data⟩, ⟨3, .data⟩], none⟩) rfl (fun K hK => ?_) AllReadyH.nil
         go_simp
         skip
         try go_wp2_with fail
         refine hK.out _ _ ?_ (fun hHeld4 => ?_)
         · (try dsimp only); first | done | trivial
         clear hK K hHeld3
         try simp only [Act.put, List.setIfInBounds_toArray, List.set_cons_zero, List.set_cons_succ]
         refine wpAnyH_take (i := 9) (oi := ⟨some 18, .build 46 #[(0, .tmp 9), (1, .tmp 11), (2, .tmp 13), (3, .tmp 15), (4, .tmp 17)], 46, "search.go:25", #[⟨0, .data⟩, ⟨2, .data⟩, ⟨4, .data⟩, ⟨6, .data⟩, ⟨8, .data⟩], none⟩) (v := ?_) rfl (by kernel_rfl) (by kernel_rfl) (by kernel_rfl) (fun _ _ _ h => h) (Or.inl ⟨by rfl, ?_⟩) (by assumption) ?_
         rotate_left
         · intro w hSw; (try dsimp only at hSw); first | (go_simp; done) | (go_simp; with_reducible rfl)
         try simp only [Act.put, List.setIfInBounds_toArray, List.set_cons_zero, List.set_cons_succ]
         refine wpAnyH_ready (rs := [10]) (by kernel_rfl) (by simp) ?_
         refine AllReadyH.cons (o := ⟨some 19, .box 46 (.tmp 18), 44, "search.go:25", #[⟨9, .data⟩], none⟩) rfl (fun K hK => ?_) AllReadyH.nil
         go_simp
         skip
         try go_wp2_with fail
         refine hK.out _ _ ?_ (fun hHeld5 => ?_)
         · (try dsimp only); first | done | trivial
         clear hK K hHeld4
         try simp only [Act.put, List.setIfInBounds_toArray, List.set_cons_zero, List.set_cons_succ]
         refine wpAnyH_take (i := 11) (oi := ⟨some 4, .assign (.tmp 19), 44, "search.go:25", #[⟨10, .data⟩, ⟨0, .phase⟩, ⟨1, .phase⟩, ⟨2, .phase⟩, ⟨3, .phase⟩, ⟨4, .phase⟩, ⟨5, .phase⟩, ⟨6, .phase⟩, ⟨7, .phase⟩, ⟨8, .phase⟩, ⟨9, .phase⟩, ⟨10, .phase⟩], none⟩) (v := ?_) rfl (by kernel_rfl) (by kernel_rfl) (by kernel_rfl) (fun _ _ _ h => h) (Or.inl ⟨by rfl, ?_⟩) (by assumption) ?_
         rotate_left
         · intro w hSw; (try dsimp only at hSw); first | (go_simp; done) | (go_simp; with_reducible rfl)
         try simp only [Act.put, List.setIfInBounds_toArray, List.set_cons_zero, List.set_cons_succ]
         refine wpAnyH_done (by kernel_rfl) ?_ _
         go_wp2_with fail
         go_meet
         case rel => exact HM.out _ _ _ _ _ _ rfl (by omega) (by omega) (by omega) (by omega) (by omega) rfl
     · go_simp
       skip
       try go_wp2_with fail
       refine hK.out _ _ ?_ (fun hHeld2 => ?_)
       · (try dsimp only); first | done | trivial
       clear hK K hHeld1
       try simp only [Act.put, List.setIfInBounds_toArray, List.set_cons_zero, List.set_cons_succ]
       refine wpAnyH_ready (rs := [4, 6]) (by kernel_rfl) (by simp) ?_
       refine AllReadyH.cons (o := ⟨some 13, .makeSlice 24 (.tmp 12) (.tmp 12), 24, "search.go:25", #[⟨3, .data⟩, ⟨3, .data⟩], none⟩) rfl (fun K hK => ?_) (AllReadyH.cons (o := ⟨some 15, .makeSlice 24 (.tmp 14) (.tmp 14), 24, "search.go:25", #[⟨5, .data⟩, ⟨5, .data⟩], none⟩) rfl (fun K hK => ?_) AllReadyH.nil)
       · go_simp
         skip
         try go_wp2_with fail
         refine hK.out _ _ ?_ (fun hHeld3 => ?_)
         · (try dsimp only); first | done | trivial
         clear hK K hHeld2
         try simp only [Act.put, List.setIfInBounds_toArray, List.set_cons_zero, List.set_cons_succ]
         refine wpAnyH_ready (rs := [6]) (by kernel_rfl) (by simp) ?_
         refine AllReadyH.cons (o := ⟨some 15, .makeSlice 24 (.tmp 14) (.tmp 14), 24, "search.go:25", #[⟨5, .data⟩, ⟨5, .data⟩], none⟩) rfl (fun K hK => ?_) AllReadyH.nil
         go_simp
         skip
         try go_wp2_with fail
         refine hK.out _ _ ?_ (fun hHeld4 => ?_)
         · (try dsimp only); first | done | trivial
         clear hK K hHeld3
         try simp only [Act.put, List.setIfInBounds_toArray, List.set_cons_zero, List.set_cons_succ]
         refine wpAnyH_take (i := 9) (oi := ⟨some 18, .build 46 #[(0, .tmp 9), (1, .tmp 11), (2, .tmp 13), (3, .tmp 15), (4, .tmp 17)], 46, "search.go:25", #[⟨0, .data⟩, ⟨2, .data⟩, ⟨4, .data⟩, ⟨6, .data⟩, ⟨8, .data⟩], none⟩) (v := ?_) rfl (by kernel_rfl) (by kernel_rfl) (by kernel_rfl) (fun _ _ _ h => h) (Or.inl ⟨by rfl, ?_⟩) (by assumption) ?_
         rotate_left
         · intro w hSw; (try dsimp only at hSw); first | (go_simp; done) | (go_simp; with_reducible rfl)
         try simp only [Act.put, List.setIfInBounds_toArray, List.set_cons_zero, List.set_cons_succ]
         refine wpAnyH_ready (rs := [10]) (by kernel_rfl) (by simp) ?_
         refine AllReadyH.cons (o := ⟨some 19, .box 46 (.tmp 18), 44, "search.go:25", #[⟨9, .data⟩], none⟩) rfl (fun K hK => ?_) AllReadyH.nil
         go_simp
         skip
         try go_wp2_with fail
         refine hK.out _ _ ?_ (fun hHeld5 => ?_)
         · (try dsimp only); first | done | trivial
         clear hK K hHeld4
         try simp only [Act.put, List.setIfInBounds_toArray, List.set_cons_zero, List.set_cons_succ]
         refine wpAnyH_take (i := 11) (oi := ⟨some 4, .assign (.tmp 19), 44, "search.go:25", #[⟨10, .data⟩, ⟨0, .phase⟩, ⟨1, .phase⟩, ⟨2, .phase⟩, ⟨3, .phase⟩, ⟨4, .phase⟩, ⟨5, .phase⟩, ⟨6, .phase⟩, ⟨7, .phase⟩, ⟨8, .phase⟩, ⟨9, .phase⟩, ⟨10, .phase⟩], none⟩) (v := ?_) rfl (by kernel_rfl) (by kernel_rfl) (by kernel_rfl) (fun _ _ _ h => h) (Or.inl ⟨by rfl, ?_⟩) (by assumption) ?_
         rotate_left
         · intro w hSw; (try dsimp only at hSw); first | (go_simp; done) | (go_simp; with_reducible rfl)
         try simp only [Act.put, List.setIfInBounds_toArray, List.set_cons_zero, List.set_cons_succ]
         refine wpAnyH_done (by kernel_rfl) ?_ _
         go_wp2_with fail
         go_meet
         case rel => exact HM.out _ _ _ _ _ _ rfl (by omega) (by omega) (by omega) (by omega) (by omega) rfl
       · go_simp
         skip
         try go_wp2_with fail
         refine hK.out _ _ ?_ (fun hHeld3 => ?_)
         · (try dsimp only); first | done | trivial
         clear hK K hHeld2
         try simp only [Act.put, List.setIfInBounds_toArray, List.set_cons_zero, List.set_cons_succ]
         refine wpAnyH_ready (rs := [4]) (by kernel_rfl) (by simp) ?_
         refine AllReadyH.cons (o := ⟨some 13, .makeSlice 24 (.tmp 12) (.tmp 12), 24, "search.go:25", #[⟨3, .data⟩, ⟨3, .data⟩], none⟩) rfl (fun K hK => ?_) AllReadyH.nil
         go_simp
         skip
         try go_wp2_with fail
         refine hK.out _ _ ?_ (fun hHeld4 => ?_)
         · (try dsimp only); first | done | trivial
         clear hK K hHeld3
         try simp only [Act.put, List.setIfInBounds_toArray, List.set_cons_zero, List.set_cons_succ]
         refine wpAnyH_take (i := 9) (oi := ⟨some 18, .build 46 #[(0, .tmp 9), (1, .tmp 11), (2, .tmp 13), (3, .tmp 15), (4, .tmp 17)], 46, "search.go:25", #[⟨0, .data⟩, ⟨2, .data⟩, ⟨4, .data⟩, ⟨6, .data⟩, ⟨8, .data⟩], none⟩) (v := ?_) rfl (by kernel_rfl) (by kernel_rfl) (by kernel_rfl) (fun _ _ _ h => h) (Or.inl ⟨by rfl, ?_⟩) (by assumption) ?_
         rotate_left
         · intro w hSw; (try dsimp only at hSw); first | (go_simp; done) | (go_simp; with_reducible rfl)
         try simp only [Act.put, List.setIfInBounds_toArray, List.set_cons_zero, List.set_cons_succ]
         refine wpAnyH_ready (rs := [10]) (by kernel_rfl) (by simp) ?_
         refine AllReadyH.cons (o := ⟨some 19, .box 46 (.tmp 18), 44, "search.go:25", #[⟨9, .data⟩], none⟩) rfl (fun K hK => ?_) AllReadyH.nil
         go_simp
         skip
         try go_wp2_with fail
         refine hK.out _ _ ?_ (fun hHeld5 => ?_)
         · (try dsimp only); first | done | trivial
         clear hK K hHeld4
         try simp only [Act.put, List.setIfInBounds_toArray, List.set_cons_zero, List.set_cons_succ]
         refine wpAnyH_take (i := 11) (oi := ⟨some 4, .assign (.tmp 19), 44, "search.go:25", #[⟨10, .data⟩, ⟨0, .phase⟩, ⟨1, .phase⟩, ⟨2, .phase⟩, ⟨3, .phase⟩, ⟨4, .phase⟩, ⟨5, .phase⟩, ⟨6, .phase⟩, ⟨7, .phase⟩, ⟨8, .phase⟩, ⟨9, .phase⟩, ⟨10, .phase⟩], none⟩) (v := ?_) rfl (by kernel_rfl) (by kernel_rfl) (by kernel_rfl) (fun _ _ _ h => h) (Or.inl ⟨by rfl, ?_⟩) (by assumption) ?_
         rotate_left
         · intro w hSw; (try dsimp only at hSw); first | (go_simp; done) | (go_simp; with_reducible rfl)
         try simp only [Act.put, List.setIfInBounds_toArray, List.set_cons_zero, List.set_cons_succ]
         refine wpAnyH_done (by kernel_rfl) ?_ _
         go_wp2_with fail
         go_meet
         case rel => exact HM.out _ _ _ _ _ _ rfl (by omega) (by omega) (by omega) (by omega) (by omega) rfl
   · go_simp
     skip
     try go_wp2_with fail
     refine hK.out _ _ ?_ (fun hHeld1 => ?_)
     · (try dsimp only); first | done | trivial
     clear hK K hHeld0
     try simp only [Act.put, List.setIfInBounds_toArray, List.set_cons_zero, List.set_cons_succ]
     refine wpAnyH_ready (rs := [2, 6, 8]) (by kernel_rfl) (by simp) ?_
     refine AllReadyH.cons (o := ⟨some 11, .makeSlice 24 (.tmp 10) (.tmp 10), 24, "search.go:25", #[⟨1, .data⟩, ⟨1, .data⟩], none⟩) rfl (fun K hK => ?_) (AllReadyH.cons (o := ⟨some 15, .makeSlice 24 (.tmp 14) (.tmp 14), 24, "search.go:25", #[⟨5, .data⟩, ⟨5, .data⟩], none⟩) rfl (fun K hK => ?_) (AllReadyH.cons (o := ⟨some 17, .makeSlice 24 (.tmp 16) (.tmp 16), 24, "search.go:25", #[⟨7, .data⟩, ⟨7, .data⟩], none⟩) rfl (fun K hK => ?_) AllReadyH.nil))
     · go_simp
       skip
       try go_wp2_with fail
       refine hK.out _ _ ?_ (fun hHeld2 => ?_)
       · (try dsimp only); first | done | trivial
       clear hK K hHeld1
       try simp only [Act.put, List.setIfInBounds_toArray, List.set_cons_zero, List.set_cons_succ]
       refine wpAnyH_ready (rs := [6, 8]) (by kernel_rfl) (by simp) ?_
       refine AllReadyH.cons (o := ⟨some 15, .makeSlice 24 (.tmp 14) (.tmp 14), 24, "search.go:25", #[⟨5, .data⟩, ⟨5, .data⟩], none⟩) rfl (fun K hK => ?_) (AllReadyH.cons (o := ⟨some 17, .makeSlice 24 (.tmp 16) (.tmp 16), 24, "search.go:25", #[⟨7, .data⟩, ⟨7, .data⟩], none⟩) rfl (fun K hK => ?_) AllReadyH.nil)
       · go_simp
         skip
         try go_wp2_with fail
         refine hK.out _ _ ?_ (fun hHeld3 => ?_)
         · (try dsimp only); first | done | trivial
         clear hK K hHeld2
         try simp only [Act.put, List.setIfInBounds_toArray, List.set_cons_zero, List.set_cons_succ]
         refine wpAnyH_ready (rs := [8]) (by kernel_rfl) (by simp) ?_
         refine AllReadyH.cons (o := ⟨some 17, .makeSlice 24 (.tmp 16) (.tmp 16), 24, "search.go:25", #[⟨7, .data⟩, ⟨7, .data⟩], none⟩) rfl (fun K hK => ?_) AllReadyH.nil
         go_simp
         skip
         try go_wp2_with fail
         refine hK.out _ _ ?_ (fun hHeld4 => ?_)
         · (try dsimp only); first | done | trivial
         clear hK K hHeld3
         try simp only [Act.put, List.setIfInBounds_toArray, List.set_cons_zero, List.set_cons_succ]
         refine wpAnyH_take (i := 9) (oi := ⟨some 18, .build 46 #[(0, .tmp 9), (1, .tmp 11), (2, .tmp 13), (3, .tmp 15), (4, .tmp 17)], 46, "search.go:25", #[⟨0, .data⟩, ⟨2, .data⟩, ⟨4, .data⟩, ⟨6, .data⟩, ⟨8, .data⟩], none⟩) (v := ?_) rfl (by kernel_rfl) (by kernel_rfl) (by kernel_rfl) (fun _ _ _ h => h) (Or.inl ⟨by rfl, ?_⟩) (by assumption) ?_
         rotate_left
         · intro w hSw; (try dsimp only at hSw); first | (go_simp; done) | (go_simp; with_reducible rfl)
         try simp only [Act.put, List.setIfInBounds_toArray, List.set_cons_zero, List.set_cons_succ]
         refine wpAnyH_ready (rs := [10]) (by kernel_rfl) (by simp) ?_
         refine AllReadyH.cons (o := ⟨some 19, .box 46 (.tmp 18), 44, "search.go:25", #[⟨9, .data⟩], none⟩) rfl (fun K hK => ?_) AllReadyH.nil
         go_simp
         skip
         try go_wp2_with fail
         refine hK.out _ _ ?_ (fun hHeld5 => ?_)
         · (try dsimp only); first | done | trivial
         clear hK K hHeld4
         try simp only [Act.put, List.setIfInBounds_toArray, List.set_cons_zero, List.set_cons_succ]
         refine wpAnyH_take (i := 11) (oi := ⟨some 4, .assign (.tmp 19), 44, "search.go:25", #[⟨10, .data⟩, ⟨0, .phase⟩, ⟨1, .phase⟩, ⟨2, .phase⟩, ⟨3, .phase⟩, ⟨4, .phase⟩, ⟨5, .phase⟩, ⟨6, .phase⟩, ⟨7, .phase⟩, ⟨8, .phase⟩, ⟨9, .phase⟩, ⟨10, .phase⟩], none⟩) (v := ?_) rfl (by kernel_rfl) (by kernel_rfl) (by kernel_rfl) (fun _ _ _ h => h) (Or.inl ⟨by rfl, ?_⟩) (by assumption) ?_
         rotate_left
         · intro w hSw; (try dsimp only at hSw); first | (go_simp; done) | (go_simp; with_reducible rfl)
         try simp only [Act.put, List.setIfInBounds_toArray, List.set_cons_zero, List.set_cons_succ]
         refine wpAnyH_done (by kernel_rfl) ?_ _
         go_wp2_with fail
         go_meet
         case rel => exact HM.out _ _ _ _ _ _ rfl (by omega) (by omega) (by omega) (by omega) (by omega) rfl
       · go_simp
         skip
         try go_wp2_with fail
         refine hK.out _ _ ?_ (fun hHeld3 => ?_)
         · (try dsimp only); first | done | trivial
         clear hK K hHeld2
         try simp only [Act.put, List.setIfInBounds_toArray, List.set_cons_zero, List.set_cons_succ]
         refine wpAnyH_ready (rs := [6]) (by kernel_rfl) (by simp) ?_
         refine AllReadyH.cons (o := ⟨some 15, .makeSlice 24 (.tmp 14) (.tmp 14), 24, "search.go:25", #[⟨5, .data⟩, ⟨5, .data⟩], none⟩) rfl (fun K hK => ?_) AllReadyH.nil
         go_simp
         skip
         try go_wp2_with fail
         refine hK.out _ _ ?_ (fun hHeld4 => ?_)
         · (try dsimp only); first | done | trivial
         clear hK K hHeld3
         try simp only [Act.put, List.setIfInBounds_toArray, List.set_cons_zero, List.set_cons_succ]
         refine wpAnyH_take (i := 9) (oi := ⟨some 18, .build 46 #[(0, .tmp 9), (1, .tmp 11), (2, .tmp 13), (3, .tmp 15), (4, .tmp 17)], 46, "search.go:25", #[⟨0, .data⟩, ⟨2, .data⟩, ⟨4, .data⟩, ⟨6, .data⟩, ⟨8, .data⟩], none⟩) (v := ?_) rfl (by kernel_rfl) (by kernel_rfl) (by kernel_rfl) (fun _ _ _ h => h) (Or.inl ⟨by rfl, ?_⟩) (by assumption) ?_
         rotate_left
         · intro w hSw; (try dsimp only at hSw); first | (go_simp; done) | (go_simp; with_reducible rfl)
         try simp only [Act.put, List.setIfInBounds_toArray, List.set_cons_zero, List.set_cons_succ]
         refine wpAnyH_ready (rs := [10]) (by kernel_rfl) (by simp) ?_
         refine AllReadyH.cons (o := ⟨some 19, .box 46 (.tmp 18), 44, "search.go:25", #[⟨9, .data⟩], none⟩) rfl (fun K hK => ?_) AllReadyH.nil
         go_simp
         skip
         try go_wp2_with fail
         refine hK.out _ _ ?_ (fun hHeld5 => ?_)
         · (try dsimp only); first | done | trivial
         clear hK K hHeld4
         try simp only [Act.put, List.setIfInBounds_toArray, List.set_cons_zero, List.set_cons_succ]
         refine wpAnyH_take (i := 11) (oi := ⟨some 4, .assign (.tmp 19), 44, "search.go:25", #[⟨10, .data⟩, ⟨0, .phase⟩, ⟨1, .phase⟩, ⟨2, .phase⟩, ⟨3, .phase⟩, ⟨4, .phase⟩, ⟨5, .phase⟩, ⟨6, .phase⟩, ⟨7, .phase⟩, ⟨8, .phase⟩, ⟨9, .phase⟩, ⟨10, .phase⟩], none⟩) (v := ?_) rfl (by kernel_rfl) (by kernel_rfl) (by kernel_rfl) (fun _ _ _ h => h) (Or.inl ⟨by rfl, ?_⟩) (by assumption) ?_
         rotate_left
         · intro w hSw; (try dsimp only at hSw); first | (go_simp; done) | (go_simp; with_reducible rfl)
         try simp only [Act.put, List.setIfInBounds_toArray, List.set_cons_zero, List.set_cons_succ]
         refine wpAnyH_done (by kernel_rfl) ?_ _
         go_wp2_with fail
         go_meet
         case rel => exact HM.out _ _ _ _ _ _ rfl (by omega) (by omega) (by omega) (by omega) (by omega) rfl
     · go_simp
       skip
       try go_wp2_with fail
       refine hK.out _ _ ?_ (fun hHeld2 => ?_)
       · (try dsimp only); first | done | trivial
       clear hK K hHeld1
       try simp only [Act.put, List.setIfInBounds_toArray, List.set_cons_zero, List.set_cons_succ]
       refine wpAnyH_ready (rs := [2, 8]) (by kernel_rfl) (by simp) ?_
       refine AllReadyH.cons (o := ⟨some 11, .makeSlice 24 (.tmp 10) (.tmp 10), 24, "search.go:25", #[⟨1, .data⟩, ⟨1, .data⟩], none⟩) rfl (fun K hK => ?_) (AllReadyH.cons (o := ⟨some 17, .makeSlice 24 (.tmp 16) (.tmp 16), 24, "search.go:25", #[⟨7, .data⟩, ⟨7, .data⟩], none⟩) rfl (fun K hK => ?_) AllReadyH.nil)
       · go_simp
         skip
         try go_wp2_with fail
         refine hK.out _ _ ?_ (fun hHeld3 => ?_)
         · (try dsimp only); first | done | trivial
         clear hK K hHeld2
         try simp only [Act.put, List.setIfInBounds_toArray, List.set_cons_zero, List.set_cons_succ]
         refine wpAnyH_ready (rs := [8]) (by kernel_rfl) (by simp) ?_
         refine AllReadyH.cons (o := ⟨some 17, .makeSlice 24 (.tmp 16) (.tmp 16), 24, "search.go:25", #[⟨7, .data⟩, ⟨7, .data⟩], none⟩) rfl (fun K hK => ?_) AllReadyH.nil
         go_simp
         skip
         try go_wp2_with fail
         refine hK.out _ _ ?_ (fun hHeld4 => ?_)
         · (try dsimp only); first | done | trivial
         clear hK K hHeld3
         try simp only [Act.put, List.setIfInBounds_toArray, List.set_cons_zero, List.set_cons_succ]
         refine wpAnyH_take (i := 9) (oi := ⟨some 18, .build 46 #[(0, .tmp 9), (1, .tmp 11), (2, .tmp 13), (3, .tmp 15), (4, .tmp 17)], 46, "search.go:25", #[⟨0, .data⟩, ⟨2, .data⟩, ⟨4, .data⟩, ⟨6, .data⟩, ⟨8, .data⟩], none⟩) (v := ?_) rfl (by kernel_rfl) (by kernel_rfl) (by kernel_rfl) (fun _ _ _ h => h) (Or.inl ⟨by rfl, ?_⟩) (by assumption) ?_
         rotate_left
         · intro w hSw; (try dsimp only at hSw); first | (go_simp; done) | (go_simp; with_reducible rfl)
         try simp only [Act.put, List.setIfInBounds_toArray, List.set_cons_zero, List.set_cons_succ]
         refine wpAnyH_ready (rs := [10]) (by kernel_rfl) (by simp) ?_
         refine AllReadyH.cons (o := ⟨some 19, .box 46 (.tmp 18), 44, "search.go:25", #[⟨9, .data⟩], none⟩) rfl (fun K hK => ?_) AllReadyH.nil
         go_simp
         skip
         try go_wp2_with fail
         refine hK.out _ _ ?_ (fun hHeld5 => ?_)
         · (try dsimp only); first | done | trivial
         clear hK K hHeld4
         try simp only [Act.put, List.setIfInBounds_toArray, List.set_cons_zero, List.set_cons_succ]
         refine wpAnyH_take (i := 11) (oi := ⟨some 4, .assign (.tmp 19), 44, "search.go:25", #[⟨10, .data⟩, ⟨0, .phase⟩, ⟨1, .phase⟩, ⟨2, .phase⟩, ⟨3, .phase⟩, ⟨4, .phase⟩, ⟨5, .phase⟩, ⟨6, .phase⟩, ⟨7, .phase⟩, ⟨8, .phase⟩, ⟨9, .phase⟩, ⟨10, .phase⟩], none⟩) (v := ?_) rfl (by kernel_rfl) (by kernel_rfl) (by kernel_rfl) (fun _ _ _ h => h) (Or.inl ⟨by rfl, ?_⟩) (by assumption) ?_
         rotate_left
         · intro w hSw; (try dsimp only at hSw); first | (go_simp; done) | (go_simp; with_reducible rfl)
         try simp only [Act.put, List.setIfInBounds_toArray, List.set_cons_zero, List.set_cons_succ]
         refine wpAnyH_done (by kernel_rfl) ?_ _
         go_wp2_with fail
         go_meet
         case rel => exact HM.out _ _ _ _ _ _ rfl (by omega) (by omega) (by omega) (by omega) (by omega) rfl
       · go_simp
         skip
         try go_wp2_with fail
         refine hK.out _ _ ?_ (fun hHeld3 => ?_)
         · (try dsimp only); first | done | trivial
         clear hK K hHeld2
         try simp only [Act.put, List.setIfInBounds_toArray, List.set_cons_zero, List.set_cons_succ]
         refine wpAnyH_ready (rs := [2]) (by kernel_rfl) (by simp) ?_
         refine AllReadyH.cons (o := ⟨some 11, .makeSlice 24 (.tmp 10) (.tmp 10), 24, "search.go:25", #[⟨1, .data⟩, ⟨1, .data⟩], none⟩) rfl (fun K hK => ?_) AllReadyH.nil
         go_simp
         skip
         try go_wp2_with fail
         refine hK.out _ _ ?_ (fun hHeld4 => ?_)
         · (try dsimp only); first | done | trivial
         clear hK K hHeld3
         try simp only [Act.put, List.setIfInBounds_toArray, List.set_cons_zero, List.set_cons_succ]
         refine wpAnyH_take (i := 9) (oi := ⟨some 18, .build 46 #[(0, .tmp 9), (1, .tmp 11), (2, .tmp 13), (3, .tmp 15), (4, .tmp 17)], 46, "search.go:25", #[⟨0, .data⟩, ⟨2, .data⟩, ⟨4, .data⟩, ⟨6, .data⟩, ⟨8, .data⟩], none⟩) (v := ?_) rfl (by kernel_rfl) (by kernel_rfl) (by kernel_rfl) (fun _ _ _ h => h) (Or.inl ⟨by rfl, ?_⟩) (by assumption) ?_
         rotate_left
         · intro w hSw; (try dsimp only at hSw); first | (go_simp; done) | (go_simp; with_reducible rfl)
         try simp only [Act.put, List.setIfInBounds_toArray, List.set_cons_zero, List.set_cons_succ]
         refine wpAnyH_ready (rs := [10]) (by kernel_rfl) (by simp) ?_
         refine AllReadyH.cons (o := ⟨some 19, .box 46 (.tmp 18), 44, "search.go:25", #[⟨9, .data⟩], none⟩) rfl (fun K hK => ?_) AllReadyH.nil
         go_simp
         skip
         try go_wp2_with fail
         refine hK.out _ _ ?_ (fun hHeld5 => ?_)
         · (try dsimp only); first | done | trivial
         clear hK K hHeld4
         try simp only [Act.put, List.setIfInBounds_toArray, List.set_cons_zero, List.set_cons_succ]
         refine wpAnyH_take (i := 11) (oi := ⟨some 4, .assign (.tmp 19), 44, "search.go:25", #[⟨10, .data⟩, ⟨0, .phase⟩, ⟨1, .phase⟩, ⟨2, .phase⟩, ⟨3, .phase⟩, ⟨4, .phase⟩, ⟨5, .phase⟩, ⟨6, .phase⟩, ⟨7, .phase⟩, ⟨8, .phase⟩, ⟨9, .phase⟩, ⟨10, .phase⟩], none⟩) (v := ?_) rfl (by kernel_rfl) (by kernel_rfl) (by kernel_rfl) (fun _ _ _ h => h) (Or.inl ⟨by rfl, ?_⟩) (by assumption) ?_
         rotate_left
         · intro w hSw; (try dsimp only at hSw); first | (go_simp; done) | (go_simp; with_reducible rfl)
         try simp only [Act.put, List.setIfInBounds_toArray, List.set_cons_zero, List.set_cons_succ]
         refine wpAnyH_done (by kernel_rfl) ?_ _
         go_wp2_with fail
         go_meet
         case rel => exact HM.out _ _ _ _ _ _ rfl (by omega) (by omega) (by omega) (by omega) (by omega) rfl
     · go_simp
       skip
       try go_wp2_with fail
       refine hK.out _ _ ?_ (fun hHeld2 => ?_)
       · (try dsimp only); first | done | trivial
       clear hK K hHeld1
       try simp only [Act.put, List.setIfInBounds_toArray, List.set_cons_zero, List.set_cons_succ]
       refine wpAnyH_ready (rs := [2, 6]) (by kernel_rfl) (by simp) ?_
       refine AllReadyH.cons (o := ⟨some 11, .makeSlice 24 (.tmp 10) (.tmp 10), 24, "search.go:25", #[⟨1, .data⟩, ⟨1, .data⟩], none⟩) rfl (fun K hK => ?_) (AllReadyH.cons (o := ⟨some 15, .makeSlice 24 (.tmp 14) (.tmp 14), 24, "search.go:25", #[⟨5, .data⟩, ⟨5, .data⟩], none⟩) rfl (fun K hK => ?_) AllReadyH.nil)
       · go_simp
         skip
         try go_wp2_with fail
         refine hK.out _ _ ?_ (fun hHeld3 => ?_)
         · (try dsimp only); first | done | trivial
         clear hK K hHeld2
         try simp only [Act.put, List.setIfInBounds_toArray, List.set_cons_zero, List.set_cons_succ]
         refine wpAnyH_ready (rs := [6]) (by kernel_rfl) (by simp) ?_
         refine AllReadyH.cons (o := ⟨some 15, .makeSlice 24 (.tmp 14) (.tmp 14), 24, "search.go:25", #[⟨5, .data⟩, ⟨5, .data⟩], none⟩) rfl (fun K hK => ?_) AllReadyH.nil
         go_simp
         skip
         try go_wp2_with fail
         refine hK.out _ _ ?_ (fun hHeld4 => ?_)
         · (try dsimp only); first | done | trivial
         clear hK K hHeld3
         try simp only [Act.put, List.setIfInBounds_toArray, List.set_cons_zero, List.set_cons_succ]
         refine wpAnyH_take (i := 9) (oi := ⟨some 18, .build 46 #[(0, .tmp 9), (1, .tmp 11), (2, .tmp 13), (3, .tmp 15), (4, .tmp 17)], 46, "search.go:25", #[⟨0, .data⟩, ⟨2, .data⟩, ⟨4, .data⟩, ⟨6, .data⟩, ⟨8, .data⟩], none⟩) (v := ?_) rfl (by kernel_rfl) (by kernel_rfl) (by kernel_rfl) (fun _ _ _ h => h) (Or.inl ⟨by rfl, ?_⟩) (by assumption) ?_
         rotate_left
         · intro w hSw; (try dsimp only at hSw); first | (go_simp; done) | (go_simp; with_reducible rfl)
         try simp only [Act.put, List.setIfInBounds_toArray, List.set_cons_zero, List.set_cons_succ]
         refine wpAnyH_ready (rs := [10]) (by kernel_rfl) (by simp) ?_
         refine AllReadyH.cons (o := ⟨some 19, .box 46 (.tmp 18), 44, "search.go:25", #[⟨9, .data⟩], none⟩) rfl (fun K hK => ?_) AllReadyH.nil
         go_simp
         skip
         try go_wp2_with fail
         refine hK.out _ _ ?_ (fun hHeld5 => ?_)
         · (try dsimp only); first | done | trivial
         clear hK K hHeld4
         try simp only [Act.put, List.setIfInBounds_toArray, List.set_cons_zero, List.set_cons_succ]
         refine wpAnyH_take (i := 11) (oi := ⟨some 4, .assign (.tmp 19), 44, "search.go:25", #[⟨10, .data⟩, ⟨0, .phase⟩, ⟨1, .phase⟩, ⟨2, .phase⟩, ⟨3, .phase⟩, ⟨4, .phase⟩, ⟨5, .phase⟩, ⟨6, .phase⟩, ⟨7, .phase⟩, ⟨8, .phase⟩, ⟨9, .phase⟩, ⟨10, .phase⟩], none⟩) (v := ?_) rfl (by kernel_rfl) (by kernel_rfl) (by kernel_rfl) (fun _ _ _ h => h) (Or.inl ⟨by rfl, ?_⟩) (by assumption) ?_
         rotate_left
         · intro w hSw; (try dsimp only at hSw); first | (go_simp; done) | (go_simp; with_reducible rfl)
         try simp only [Act.put, List.setIfInBounds_toArray, List.set_cons_zero, List.set_cons_succ]
         refine wpAnyH_done (by kernel_rfl) ?_ _
         go_wp2_with fail
         go_meet
         case rel => exact HM.out _ _ _ _ _ _ rfl (by omega) (by omega) (by omega) (by omega) (by omega) rfl
       · go_simp
         skip
         try go_wp2_with fail
         refine hK.out _ _ ?_ (fun hHeld3 => ?_)
         · (try dsimp only); first | done | trivial
         clear hK K hHeld2
         try simp only [Act.put, List.setIfInBounds_toArray, List.set_cons_zero, List.set_cons_succ]
         refine wpAnyH_ready (rs := [2]) (by kernel_rfl) (by simp) ?_
         refine AllReadyH.cons (o := ⟨some 11, .makeSlice 24 (.tmp 10) (.tmp 10), 24, "search.go:25", #[⟨1, .data⟩, ⟨1, .data⟩], none⟩) rfl (fun K hK => ?_) AllReadyH.nil
         go_simp
         skip
         try go_wp2_with fail
         refine hK.out _ _ ?_ (fun hHeld4 => ?_)
         · (try dsimp only); first | done | trivial
         clear hK K hHeld3
         try simp only [Act.put, List.setIfInBounds_toArray, List.set_cons_zero, List.set_cons_succ]
         refine wpAnyH_take (i := 9) (oi := ⟨some 18, .build 46 #[(0, .tmp 9), (1, .tmp 11), (2, .tmp 13), (3, .tmp 15), (4, .tmp 17)], 46, "search.go:25", #[⟨0, .data⟩, ⟨2, .data⟩, ⟨4, .data⟩, ⟨6, .data⟩, ⟨8, .data⟩], none⟩) (v := ?_) rfl (by kernel_rfl) (by kernel_rfl) (by kernel_rfl) (fun _ _ _ h => h) (Or.inl ⟨by rfl, ?_⟩) (by assumption) ?_
         rotate_left
         · intro w hSw; (try dsimp only at hSw); first | (go_simp; done) | (go_simp; with_reducible rfl)
         try simp only [Act.put, List.setIfInBounds_toArray, List.set_cons_zero, List.set_cons_succ]
         refine wpAnyH_ready (rs := [10]) (by kernel_rfl) (by simp) ?_
         refine AllReadyH.cons (o := ⟨some 19, .box 46 (.tmp 18), 44, "search.go:25", #[⟨9, .data⟩], none⟩) rfl (fun K hK => ?_) AllReadyH.nil
         go_simp
         skip
         try go_wp2_with fail
         refine hK.out _ _ ?_ (fun hHeld5 => ?_)
         · (try dsimp only); first | done | trivial
         clear hK K hHeld4
         try simp only [Act.put, List.setIfInBounds_toArray, List.set_cons_zero, List.set_cons_succ]
         refine wpAnyH_take (i := 11) (oi := ⟨some 4, .assign (.tmp 19), 44, "search.go:25", #[⟨10, .data⟩, ⟨0, .phase⟩, ⟨1, .phase⟩, ⟨2, .phase⟩, ⟨3, .phase⟩, ⟨4, .phase⟩, ⟨5, .phase⟩, ⟨6, .phase⟩, ⟨7, .phase⟩, ⟨8, .phase⟩, ⟨9, .phase⟩, ⟨10, .phase⟩], none⟩) (v := ?_) rfl (by kernel_rfl) (by kernel_rfl) (by kernel_rfl) (fun _ _ _ h => h) (Or.inl ⟨by rfl, ?_⟩) (by assumption) ?_
         rotate_left
         · intro w hSw; (try dsimp only at hSw); first | (go_simp; done) | (go_simp; with_reducible rfl)
         try simp only [Act.put, List.setIfInBounds_toArray, List.set_cons_zero, List.set_cons_succ]
         refine wpAnyH_done (by kernel_rfl) ?_ _
         go_wp2_with fail
         go_meet
         case rel => exact HM.out _ _ _ _ _ _ rfl (by omega) (by omega) (by omega) (by omega) (by omega) rfl
   · go_simp
     skip
     try go_wp2_with fail
     refine hK.out _ _ ?_ (fun hHeld1 => ?_)
     · (try dsimp only); first | done | trivial
     clear hK K hHeld0
     try simp only [Act.put, List.setIfInBounds_toArray, List.set_cons_zero, List.set_cons_succ]
     refine wpAnyH_ready (rs := [2, 4, 8]) (by kernel_rfl) (by simp) ?_
     refine AllReadyH.cons (o := ⟨some 11, .makeSlice 24 (.tmp 10) (.tmp 10), 24, "search.go:25", #[⟨1, .data⟩, ⟨1, .data⟩], none⟩) rfl (fun K hK => ?_) (AllReadyH.cons (o := ⟨some 13, .makeSlice 24 (.tmp 12) (.tmp 12), 24, "search.go:25", #[⟨3, .data⟩, ⟨3, .data⟩], none⟩) rfl (fun K hK => ?_) (AllReadyH.cons (o := ⟨some 17, .makeSlice 24 (.tmp 16) (.tmp 16), 24, "search.go:25", #[⟨7, .data⟩, ⟨7, .data⟩], none⟩) rfl (fun K hK => ?_) AllReadyH.nil))
     · go_simp
       skip
       try go_wp2_with fail
       refine hK.out _ _ ?_ (fun hHeld2 => ?_)
       · (try dsimp only); first | done | trivial
       clear hK K hHeld1
       try simp only [Act.put, List.setIfInBounds_toArray, List.set_cons_zero, List.set_cons_succ]
       refine wpAnyH_ready (rs := [4, 8]) (by kernel_rfl) (by simp) ?_
       refine AllReadyH.cons (o := ⟨some 13, .makeSlice 24 (.tmp 12) (.tmp 12), 24, "search.go:25", #[⟨3, .data⟩, ⟨3, .data⟩], none⟩) rfl (fun K hK => ?_) (AllReadyH.cons (o := ⟨some 17, .makeSlice 24 (.tmp 16) (.tmp 16), 24, "search.go:25", #[⟨7, .data⟩, ⟨7, .data⟩], none⟩) rfl (fun K hK => ?_) AllReadyH.nil)
       · go_simp
         skip
         try go_wp2_with fail
         refine hK.out _ _ ?_ (fun hHeld3 => ?_)
         · (try dsimp only); first | done | trivial
         clear hK K hHeld2
         try simp only [Act.put, List.setIfInBounds_toArray, List.set_cons_zero, List.set_cons_succ]
         refine wpAnyH_ready (rs := [8]) (by kernel_rfl) (by simp) ?_
         refine AllReadyH.cons (o := ⟨some 17, .makeSlice 24 (.tmp 16) (.tmp 16), 24, "search.go:25", #[⟨7, .data⟩, ⟨7, .data⟩], none⟩) rfl (fun K hK => ?_) AllReadyH.nil
         go_simp
         skip
         try go_wp2_with fail
         refine hK.out _ _ ?_ (fun hHeld4 => ?_)
         · (try dsimp only); first | done | trivial
         clear hK K hHeld3
         try simp only [Act.put, List.setIfInBounds_toArray, List.set_cons_zero, List.set_cons_succ]
         refine wpAnyH_take (i := 9) (oi := ⟨some 18, .build 46 #[(0, .tmp 9), (1, .tmp 11), (2, .tmp 13), (3, .tmp 15), (4, .tmp 17)], 46, "search.go:25", #[⟨0, .data⟩, ⟨2, .data⟩, ⟨4, .data⟩, ⟨6, .data⟩, ⟨8, .data⟩], none⟩) (v := ?_) rfl (by kernel_rfl) (by kernel_rfl) (by kernel_rfl) (fun _ _ _ h => h) (Or.inl ⟨by rfl, ?_⟩) (by assumption) ?_
         rotate_left
         · intro w hSw; (try dsimp only at hSw); first | (go_simp; done) | (go_simp; with_reducible rfl)
         try simp only [Act.put, List.setIfInBounds_toArray, List.set_cons_zero, List.set_cons_succ]
         refine wpAnyH_ready (rs := [10]) (by kernel_rfl) (by simp) ?_
         refine AllReadyH.cons (o := ⟨some 19, .box 46 (.tmp 18), 44, "search.go:25", #[⟨9, .data⟩], none⟩) rfl (fun K hK => ?_) AllReadyH.nil
         go_simp
         skip
         try go_wp2_with fail
         refine hK.out _ _ ?_ (fun hHeld5 => ?_)
         · (try dsimp only); first | done | trivial
         clear hK K hHeld4
         try simp only [Act.put, List.setIfInBounds_toArray, List.set_cons_zero, List.set_cons_succ]
         refine wpAnyH_take (i := 11) (oi := ⟨some 4, .assign (.tmp 19), 44, "search.go:25", #[⟨10, .data⟩, ⟨0, .phase⟩, ⟨1, .phase⟩, ⟨2, .phase⟩, ⟨3, .phase⟩, ⟨4, .phase⟩, ⟨5, .phase⟩, ⟨6, .phase⟩, ⟨7, .phase⟩, ⟨8, .phase⟩, ⟨9, .phase⟩, ⟨10, .phase⟩], none⟩) (v := ?_) rfl (by kernel_rfl) (by kernel_rfl) (by kernel_rfl) (fun _ _ _ h => h) (Or.inl ⟨by rfl, ?_⟩) (by assumption) ?_
         rotate_left
         · intro w hSw; (try dsimp only at hSw); first | (go_simp; done) | (go_simp; with_reducible rfl)
         try simp only [Act.put, List.setIfInBounds_toArray, List.set_cons_zero, List.set_cons_succ]
         refine wpAnyH_done (by kernel_rfl) ?_ _
         go_wp2_with fail
         go_meet
         case rel => exact HM.out _ _ _ _ _ _ rfl (by omega) (by omega) (by omega) (by omega) (by omega) rfl
       · go_simp
         skip
         try go_wp2_with fail
         refine hK.out _ _ ?_ (fun hHeld3 => ?_)
         · (try dsimp only); first | done | trivial
         clear hK K hHeld2
         try simp only [Act.put, List.setIfInBounds_toArray, List.set_cons_zero, List.set_cons_succ]
         refine wpAnyH_ready (rs := [4]) (by kernel_rfl) (by simp) ?_
         refine AllReadyH.cons (o := ⟨some 13, .makeSlice 24 (.tmp 12) (.tmp 12), 24, "search.go:25", #[⟨3, .data⟩, ⟨3, .data⟩], none⟩) rfl (fun K hK => ?_) AllReadyH.nil
         go_simp
         skip
         try go_wp2_with fail
         refine hK.out _ _ ?_ (fun hHeld4 => ?_)
         · (try dsimp only); first | done | trivial
         clear hK K hHeld3
         try simp only [Act.put, List.setIfInBounds_toArray, List.set_cons_zero, List.set_cons_succ]
         refine wpAnyH_take (i := 9) (oi := ⟨some 18, .build 46 #[(0, .tmp 9), (1, .tmp 11), (2, .tmp 13), (3, .tmp 15), (4, .tmp 17)], 46, "search.go:25", #[⟨0, .data⟩, ⟨2, .data⟩, ⟨4, .data⟩, ⟨6, .data⟩, ⟨8, .data⟩], none⟩) (v := ?_) rfl (by kernel_rfl) (by kernel_rfl) (by kernel_rfl) (fun _ _ _ h => h) (Or.inl ⟨by rfl, ?_⟩) (by assumption) ?_
         rotate_left
         · intro w hSw; (try dsimp only at hSw); first | (go_simp; done) | (go_simp; with_reducible rfl)
         try simp only [Act.put, List.setIfInBounds_toArray, List.set_cons_zero, List.set_cons_succ]
         refine wpAnyH_ready (rs := [10]) (by kernel_rfl) (by simp) ?_
         refine AllReadyH.cons (o := ⟨some 19, .box 46 (.tmp 18), 44, "search.go:25", #[⟨9, .data⟩], none⟩) rfl (fun K hK => ?_) AllReadyH.nil
         go_simp
         skip
         try go_wp2_with fail
         refine hK.out _ _ ?_ (fun hHeld5 => ?_)
         · (try dsimp only); first | done | trivial
         clear hK K hHeld4
         try simp only [Act.put, List.setIfInBounds_toArray, List.set_cons_zero, List.set_cons_succ]
         refine wpAnyH_take (i := 11) (oi := ⟨some 4, .assign (.tmp 19), 44, "search.go:25", #[⟨10, .data⟩, ⟨0, .phase⟩, ⟨1, .phase⟩, ⟨2, .phase⟩, ⟨3, .phase⟩, ⟨4, .phase⟩, ⟨5, .phase⟩, ⟨6, .phase⟩, ⟨7, .phase⟩, ⟨8, .phase⟩, ⟨9, .phase⟩, ⟨10, .phase⟩], none⟩) (v := ?_) rfl (by kernel_rfl) (by kernel_rfl) (by kernel_rfl) (fun _ _ _ h => h) (Or.inl ⟨by rfl, ?_⟩) (by assumption) ?_
         rotate_left
         · intro w hSw; (try dsimp only at hSw); first | (go_simp; done) | (go_simp; with_reducible rfl)
         try simp only [Act.put, List.setIfInBounds_toArray, List.set_cons_zero, List.set_cons_succ]
         refine wpAnyH_done (by kernel_rfl) ?_ _
         go_wp2_with fail
         go_meet
         case rel => exact HM.out _ _ _ _ _ _ rfl (by omega) (by omega) (by omega) (by omega) (by omega) rfl
     · go_simp
       skip
       try go_wp2_with fail
       refine hK.out _ _ ?_ (fun hHeld2 => ?_)
       · (try dsimp only); first | done | trivial
       clear hK K hHeld1
       try simp only [Act.put, List.setIfInBounds_toArray, List.set_cons_zero, List.set_cons_succ]
       refine wpAnyH_ready (rs := [2, 8]) (by kernel_rfl) (by simp) ?_
       refine AllReadyH.cons (o := ⟨some 11, .makeSlice 24 (.tmp 10) (.tmp 10), 24, "search.go:25", #[⟨1, .data⟩, ⟨1, .data⟩], none⟩) rfl (fun K hK => ?_) (AllReadyH.cons (o := ⟨some 17, .makeSlice 24 (.tmp 16) (.tmp 16), 24, "search.go:25", #[⟨7, .data⟩, ⟨7, .data⟩], none⟩) rfl (fun K hK => ?_) AllReadyH.nil)
       · go_simp
         skip
         try go_wp2_with fail
         refine hK.out _ _ ?_ (fun hHeld3 => ?_)
         · (try dsimp only); first | done | trivial
         clear hK K hHeld2
         try simp only [Act.put, List.setIfInBounds_toArray, List.set_cons_zero, List.set_cons_succ]
         refine wpAnyH_ready (rs := [8]) (by kernel_rfl) (by simp) ?_
         refine AllReadyH.cons (o := ⟨some 17, .makeSlice 24 (.tmp 16) (.tmp 16), 24, "search.go:25", #[⟨7, .data⟩, ⟨7, .data⟩], none⟩) rfl (fun K hK => ?_) AllReadyH.nil
         go_simp
         skip
         try go_wp2_with fail
         refine hK.out _ _ ?_ (fun hHeld4 => ?_)
         · (try dsimp only); first | done | trivial
         clear hK K hHeld3
         try simp only [Act.put, List.setIfInBounds_toArray, List.set_cons_zero, List.set_cons_succ]
         refine wpAnyH_take (i := 9) (oi := ⟨some 18, .build 46 #[(0, .tmp 9), (1, .tmp 11), (2, .tmp 13), (3, .tmp 15), (4, .tmp 17)], 46, "search.go:25", #[⟨0, .data⟩, ⟨2, .data⟩, ⟨4, .data⟩, ⟨6, .data⟩, ⟨8, .data⟩], none⟩) (v := ?_) rfl (by kernel_rfl) (by kernel_rfl) (by kernel_rfl) (fun _ _ _ h => h) (Or.inl ⟨by rfl, ?_⟩) (by assumption) ?_
         rotate_left
         · intro w hSw; (try dsimp only at hSw); first | (go_simp; done) | (go_simp; with_reducible rfl)
         try simp only [Act.put, List.setIfInBounds_toArray, List.set_cons_zero, List.set_cons_succ]
         refine wpAnyH_ready (rs := [10]) (by kernel_rfl) (by simp) ?_
         refine AllReadyH.cons (o := ⟨some 19, .box 46 (.tmp 18), 44, "search.go:25", #[⟨9, .data⟩], none⟩) rfl (fun K hK => ?_) AllReadyH.nil
         go_simp
         skip
         try go_wp2_with fail
         refine hK.out _ _ ?_ (fun hHeld5 => ?_)
         · (try dsimp only); first | done | trivial
         clear hK K hHeld4
         try simp only [Act.put, List.setIfInBounds_toArray, List.set_cons_zero, List.set_cons_succ]
         refine wpAnyH_take (i := 11) (oi := ⟨some 4, .assign (.tmp 19), 44, "search.go:25", #[⟨10, .data⟩, ⟨0, .phase⟩, ⟨1, .phase⟩, ⟨2, .phase⟩, ⟨3, .phase⟩, ⟨4, .phase⟩, ⟨5, .phase⟩, ⟨6, .phase⟩, ⟨7, .phase⟩, ⟨8, .phase⟩, ⟨9, .phase⟩, ⟨10, .phase⟩], none⟩) (v := ?_) rfl (by kernel_rfl) (by kernel_rfl) (by kernel_rfl) (fun _ _ _ h => h) (Or.inl ⟨by rfl, ?_⟩) (by assumption) ?_
         rotate_left
         · intro w hSw; (try dsimp only at hSw); first | (go_simp; done) | (go_simp; with_reducible rfl)
         try simp only [Act.put, List.setIfInBounds_toArray, List.set_cons_zero, List.set_cons_succ]
         refine wpAnyH_done (by kernel_rfl) ?_ _
         go_wp2_with fail
         go_meet
         case rel => exact HM.out _ _ _ _ _ _ rfl (by omega) (by omega) (by omega) (by omega) (by omega) rfl
       · go_simp
         skip
         try go_wp2_with fail
         refine hK.out _ _ ?_ (fun hHeld3 => ?_)
         · (try dsimp only); first | done | trivial
         clear hK K hHeld2
         try simp only [Act.put, List.setIfInBounds_toArray, List.set_cons_zero, List.set_cons_succ]
         refine wpAnyH_ready (rs := [2]) (by kernel_rfl) (by simp) ?_
         refine AllReadyH.cons (o := ⟨some 11, .makeSlice 24 (.tmp 10) (.tmp 10), 24, "search.go:25", #[⟨1, .data⟩, ⟨1, .data⟩], none⟩) rfl (fun K hK => ?_) AllReadyH.nil
         go_simp
         skip
         try go_wp2_with fail
         refine hK.out _ _ ?_ (fun hHeld4 => ?_)
         · (try dsimp only); first | done | trivial
         clear hK K hHeld3
         try simp only [Act.put, List.setIfInBounds_toArray, List.set_cons_zero, List.set_cons_succ]
         refine wpAnyH_take (i := 9) (oi := ⟨some 18, .build 46 #[(0, .tmp 9), (1, .tmp 11), (2, .tmp 13), (3, .tmp 15), (4, .tmp 17)], 46, "search.go:25", #[⟨0, .data⟩, ⟨2, .data⟩, ⟨4, .data⟩, ⟨6, .data⟩, ⟨8, .data⟩], none⟩) (v := ?_) rfl (by kernel_rfl) (by kernel_rfl) (by kernel_rfl) (fun _ _ _ h => h) (Or.inl ⟨by rfl, ?_⟩) (by assumption) ?_
         rotate_left
         · intro w hSw; (try dsimp only at hSw); first | (go_simp; done) | (go_simp; with_reducible rfl)
         try simp only [Act.put, List.setIfInBounds_toArray, List.set_cons_zero, List.set_cons_succ]
         refine wpAnyH_ready (rs := [10]) (by kernel_rfl) (by simp) ?_
         refine AllReadyH.cons (o := ⟨some 19, .box 46 (.tmp 18), 44, "search.go:25", #[⟨9, .data⟩], none⟩) rfl (fun K hK => ?_) AllReadyH.nil
         go_simp
         skip
         try go_wp2_with fail
         refine hK.out _ _ ?_ (fun hHeld5 => ?_)
         · (try dsimp only); first | done | trivial
         clear hK K hHeld4
         try simp only [Act.put, List.setIfInBounds_toArray, List.set_cons_zero, List.set_cons_succ]
         refine wpAnyH_take (i := 11) (oi := ⟨some 4, .assign (.tmp 19), 44, "search.go:25", #[⟨10, .data⟩, ⟨0, .phase⟩, ⟨1, .phase⟩, ⟨2, .phase⟩, ⟨3, .phase⟩, ⟨4, .phase⟩, ⟨5, .phase⟩, ⟨6, .phase⟩, ⟨7, .phase⟩, ⟨8, .phase⟩, ⟨9, .phase⟩, ⟨10, .phase⟩], none⟩) (v := ?_) rfl (by kernel_rfl) (by kernel_rfl) (by kernel_rfl) (fun _ _ _ h => h) (Or.inl ⟨by rfl, ?_⟩) (by assumption) ?_
         rotate_left
         · intro w hSw; (try dsimp only at hSw); first | (go_simp; done) | (go_simp; with_reducible rfl)
         try simp only [Act.put, List.setIfInBounds_toArray, List.set_cons_zero, List.set_cons_succ]
         refine wpAnyH_done (by kernel_rfl) ?_ _
         go_wp2_with fail
         go_meet
         case rel => exact HM.out _ _ _ _ _ _ rfl (by omega) (by omega) (by omega) (by omega) (by omega) rfl
     · go_simp
       skip
       try go_wp2_with fail
       refine hK.out _ _ ?_ (fun hHeld2 => ?_)
       · (try dsimp only); first | done | trivial
       clear hK K hHeld1
       try simp only [Act.put, List.setIfInBounds_toArray, List.set_cons_zero, List.set_cons_succ]
       refine wpAnyH_ready (rs := [2, 4]) (by kernel_rfl) (by simp) ?_
       refine AllReadyH.cons (o := ⟨some 11, .makeSlice 24 (.tmp 10) (.tmp 10), 24, "search.go:25", #[⟨1, .data⟩, ⟨1, .data⟩], none⟩) rfl (fun K hK => ?_) (AllReadyH.cons (o := ⟨some 13, .makeSlice 24 (.tmp 12) (.tmp 12), 24, "search.go:25", #[⟨3, .data⟩, ⟨3, .data⟩], none⟩) rfl (fun K hK => ?_) AllReadyH.nil)
       · go_simp
         skip
         try go_wp2_with fail
         refine hK.out _ _ ?_ (fun hHeld3 => ?_)
         · (try dsimp only); first | done | trivial
         clear hK K hHeld2
         try simp only [Act.put, List.setIfInBounds_toArray, List.set_cons_zero, List.set_cons_succ]
         refine wpAnyH_ready (rs := [4]) (by kernel_rfl) (by simp) ?_
         refine AllReadyH.cons (o := ⟨some 13, .makeSlice 24 (.tmp 12) (.tmp 12), 24, "search.go:25", #[⟨3, .data⟩, ⟨3, .data⟩], none⟩) rfl (fun K hK => ?_) AllReadyH.nil
         go_simp
         skip
         try go_wp2_with fail
         refine hK.out _ _ ?_ (fun hHeld4 => ?_)
         · (try dsimp only); first | done | trivial
         clear hK K hHeld3
         try simp only [Act.put, List.setIfInBounds_toArray, List.set_cons_zero, List.set_cons_succ]
         refine wpAnyH_take (i := 9) (oi := ⟨some 18, .build 46 #[(0, .tmp 9), (1, .tmp 11), (2, .tmp 13), (3, .tmp 15), (4, .tmp 17)], 46, "search.go:25", #[⟨0, .data⟩, ⟨2, .data⟩, ⟨4, .data⟩, ⟨6, .data⟩, ⟨8, .data⟩], none⟩) (v := ?_) rfl (by kernel_rfl) (by kernel_rfl) (by kernel_rfl) (fun _ _ _ h => h) (Or.inl ⟨by rfl, ?_⟩) (by assumption) ?_
         rotate_left
         · intro w hSw; (try dsimp only at hSw); first | (go_simp; done) | (go_simp; with_reducible rfl)
         try simp only [Act.put, List.setIfInBounds_toArray, List.set_cons_zero, List.set_cons_succ]
         refine wpAnyH_ready (rs := [10]) (by kernel_rfl) (by simp) ?_
         refine AllReadyH.cons (o := ⟨some 19, .box 46 (.tmp 18), 44, "search.go:25", #[⟨9, .data⟩], none⟩) rfl (fun K hK => ?_) AllReadyH.nil
         go_simp
         skip
         try go_wp2_with fail
         refine hK.out _ _ ?_ (fun hHeld5 => ?_)
         · (try dsimp only); first | done | trivial
         clear hK K hHeld4
         try simp only [Act.put, List.setIfInBounds_toArray, List.set_cons_zero, List.set_cons_succ]
         refine wpAnyH_take (i := 11) (oi := ⟨some 4, .assign (.tmp 19), 44, "search.go:25", #[⟨10, .data⟩, ⟨0, .phase⟩, ⟨1, .phase⟩, ⟨2, .phase⟩, ⟨3, .phase⟩, ⟨4, .phase⟩, ⟨5, .phase⟩, ⟨6, .phase⟩, ⟨7, .phase⟩, ⟨8, .phase⟩, ⟨9, .phase⟩, ⟨10, .phase⟩], none⟩) (v := ?_) rfl (by kernel_rfl) (by kernel_rfl) (by kernel_rfl) (fun _ _ _ h => h) (Or.inl ⟨by rfl, ?_⟩) (by assumption) ?_
         rotate_left
         · intro w hSw; (try dsimp only at hSw); first | (go_simp; done) | (go_simp; with_reducible rfl)
         try simp only [Act.put, List.setIfInBounds_toArray, List.set_cons_zero, List.set_cons_succ]
         refine wpAnyH_done (by kernel_rfl) ?_ _
         go_wp2_with fail
         go_meet
         case rel => exact HM.out _ _ _ _ _ _ rfl (by omega) (by omega) (by omega) (by omega) (by omega) rfl
       · go_simp
         skip
         try go_wp2_with fail
         refine hK.out _ _ ?_ (fun hHeld3 => ?_)
         · (try dsimp only); first | done | trivial
         clear hK K hHeld2
         try simp only [Act.put, List.setIfInBounds_toArray, List.set_cons_zero, List.set_cons_succ]
         refine wpAnyH_ready (rs := [2]) (by kernel_rfl) (by simp) ?_
         refine AllReadyH.cons (o := ⟨some 11, .makeSlice 24 (.tmp 10) (.tmp 10), 24, "search.go:25", #[⟨1, .data⟩, ⟨1, .data⟩], none⟩) rfl (fun K hK => ?_) AllReadyH.nil
         go_simp
         skip
         try go_wp2_with fail
         refine hK.out _ _ ?_ (fun hHeld4 => ?_)
         · (try dsimp only); first | done | trivial
         clear hK K hHeld3
         try simp only [Act.put, List.setIfInBounds_toArray, List.set_cons_zero, List.set_cons_succ]
         refine wpAnyH_take (i := 9) (oi := ⟨some 18, .build 46 #[(0, .tmp 9), (1, .tmp 11), (2, .tmp 13), (3, .tmp 15), (4, .tmp 17)], 46, "search.go:25", #[⟨0, .data⟩, ⟨2, .data⟩, ⟨4, .data⟩, ⟨6, .data⟩, ⟨8, .data⟩], none⟩) (v := ?_) rfl (by kernel_rfl) (by kernel_rfl) (by kernel_rfl) (fun _ _ _ h => h) (Or.inl ⟨by rfl, ?_⟩) (by assumption) ?_
         rotate_left
         · intro w hSw; (try dsimp only at hSw); first | (go_simp; done) | (go_simp; with_reducible rfl)
         try simp only [Act.put, List.setIfInBounds_toArray, List.set_cons_zero, List.set_cons_succ]
         refine wpAnyH_ready (rs := [10]) (by kernel_rfl) (by simp) ?_
         refine AllReadyH.cons (o := ⟨some 19, .box 46 (.tmp 18), 44, "search.go:25", #[⟨9, .data⟩], none⟩) rfl (fun K hK => ?_) AllReadyH.nil
         go_simp
         skip
         try go_wp2_with fail
         refine hK.out _ _ ?_ (fun hHeld5 => ?_)
         · (try dsimp only); first | done | trivial
         clear hK K hHeld4
         try simp only [Act.put, List.setIfInBounds_toArray, List.set_cons_zero, List.set_cons_succ]
         refine wpAnyH_take (i := 11) (oi := ⟨some 4, .assign (.tmp 19), 44, "search.go:25", #[⟨10, .data⟩, ⟨0, .phase⟩, ⟨1, .phase⟩, ⟨2, .phase⟩, ⟨3, .phase⟩, ⟨4, .phase⟩, ⟨5, .phase⟩, ⟨6, .phase⟩, ⟨7, .phase⟩, ⟨8, .phase⟩, ⟨9, .phase⟩, ⟨10, .phase⟩], none⟩) (v := ?_) rfl (by kernel_rfl) (by kernel_rfl) (by kernel_rfl) (fun _ _ _ h => h) (Or.inl ⟨by rfl, ?_⟩) (by assumption) ?_
         rotate_left
         · intro w hSw; (try dsimp only at hSw); first | (go_simp; done) | (go_simp; with_reducible rfl)
         try simp only [Act.put, List.setIfInBounds_toArray, List.set_cons_zero, List.set_cons_succ]
         refine wpAnyH_done (by kernel_rfl) ?_ _
         go_wp2_with fail
         go_meet
         case rel => exact HM.out _ _ _ _ _ _ rfl (by omega) (by omega) (by omega) (by omega) (by omega) rfl
   · go_simp
     skip
     try go_wp2_with fail
     refine hK.out _ _ ?_ (fun hHeld1 => ?_)
     · (try dsimp only); first | done | trivial
     clear hK K hHeld0
     try simp only [Act.put, List.setIfInBounds_toArray, List.set_cons_zero, List.set_cons_succ]
     refine wpAnyH_ready (rs := [2, 4, 6]) (by kernel_rfl) (by simp) ?_
     refine AllReadyH.cons (o := ⟨some 11, .makeSlice 24 (.tmp 10) (.tmp 10), 24, "search.go:25", #[⟨1, .data⟩, ⟨1, .data⟩], none⟩) rfl (fun K hK => ?_) (AllReadyH.cons (o := ⟨some 13, .makeSlice 24 (.tmp 12) (.tmp 12), 24, "search.go:25", #[⟨3, .data⟩, ⟨3, .data⟩], none⟩) rfl (fun K hK => ?_) (AllReadyH.cons (o := ⟨some 15, .makeSlice 24 (.tmp 14) (.tmp 14), 24, "search.go:25", #[⟨5, .data⟩, ⟨5, .data⟩], none⟩) rfl (fun K hK => ?_) AllReadyH.nil))
     · go_simp
       skip
       try go_wp2_with fail
       refine hK.out _ _ ?_ (fun hHeld2 => ?_)
       · (try dsimp only); first | done | trivial
       clear hK K hHeld1
       try simp only [Act.put, List.setIfInBounds_toArray, List.set_cons_zero, List.set_cons_succ]
       refine wpAnyH_ready (rs := [4, 6]) (by kernel_rfl) (by simp) ?_
       refine AllReadyH.cons (o := ⟨some 13, .makeSlice 24 (.tmp 12) (.tmp 12), 24, "search.go:25", #[⟨3, .data⟩, ⟨3, .data⟩], none⟩) rfl (fun K hK => ?_) (AllReadyH.cons (o := ⟨some 15, .makeSlice 24 (.tmp 14) (.tmp 14), 24, "search.go:25", #[⟨5, .data⟩, ⟨5, .data⟩], none⟩) rfl (fun K hK => ?_) AllReadyH.nil)
       · go_simp
         skip
         try go_wp2_with fail
         refine hK.out _ _ ?_ (fun hHeld3 => ?_)
         · (try dsimp only); first | done | trivial
         clear hK K hHeld2
         try simp only [Act.put, List.setIfInBounds_toArray, List.set_cons_zero, List.set_cons_succ]
         refine wpAnyH_ready (rs := [6]) (by kernel_rfl) (by simp) ?_
         refine AllReadyH.cons (o := ⟨some 15, .makeSlice 24 (.tmp 14) (.tmp 14), 24, "search.go:25", #[⟨5, .data⟩, ⟨5, .data⟩], none⟩) rfl (fun K hK => ?_) AllReadyH.nil
         go_simp
         skip
         try go_wp2_with fail
         refine hK.out _ _ ?_ (fun hHeld4 => ?_)
         · (try dsimp only); first | done | trivial
         clear hK K hHeld3
         try simp only [Act.put, List.setIfInBounds_toArray, List.set_cons_zero, List.set_cons_succ]
         refine wpAnyH_take (i := 9) (oi := ⟨some 18, .build 46 #[(0, .tmp 9), (1, .tmp 11), (2, .tmp 13), (3, .tmp 15), (4, .tmp 17)], 46, "search.go:25", #[⟨0, .data⟩, ⟨2, .data⟩, ⟨4, .data⟩, ⟨6, .data⟩, ⟨8, .data⟩], none⟩) (v := ?_) rfl (by kernel_rfl) (by kernel_rfl) (by kernel_rfl) (fun _ _ _ h => h) (Or.inl ⟨by rfl, ?_⟩) (by assumption) ?_
         rotate_left
         · intro w hSw; (try dsimp only at hSw); first | (go_simp; done) | (go_simp; with_reducible rfl)
         try simp only [Act.put, List.setIfInBounds_toArray, List.set_cons_zero, List.set_cons_succ]
         refine wpAnyH_ready (rs := [10]) (by kernel_rfl) (by simp) ?_
         refine AllReadyH.cons (o := ⟨some 19, .box 46 (.tmp 18), 44, "search.go:25", #[⟨9, .data⟩], none⟩) rfl (fun K hK => ?_) AllReadyH.nil
         go_simp
         skip
         try go_wp2_with fail
         refine hK.out _ _ ?_ (fun hHeld5 => ?_)
         · (try dsimp only); first | done | trivial
         clear hK K hHeld4
         try simp only [Act.put, List.setIfInBounds_toArray, List.set_cons_zero, List.set_cons_succ]
         refine wpAnyH_take (i := 11) (oi := ⟨some 4, .assign (.tmp 19), 44, "search.go:25", #[⟨10, .data⟩, ⟨0, .phase⟩, ⟨1, .phase⟩, ⟨2, .phase⟩, ⟨3, .phase⟩, ⟨4, .phase⟩, ⟨5, .phase⟩, ⟨6, .phase⟩, ⟨7, .phase⟩, ⟨8, .phase⟩, ⟨9, .phase⟩, ⟨10, .phase⟩], none⟩) (v := ?_) rfl (by kernel_rfl) (by kernel_rfl) (by kernel_rfl) (fun _ _ _ h => h) (Or.inl ⟨by rfl, ?_⟩) (by assumption) ?_
         rotate_left
         · intro w hSw; (try dsimp only at hSw); first | (go_simp; done) | (go_simp; with_reducible rfl)
         try simp only [Act.put, List.setIfInBounds_toArray, List.set_cons_zero, List.set_cons_succ]
         refine wpAnyH_done (by kernel_rfl) ?_ _
         go_wp2_with fail
         go_meet
         case rel => exact HM.out _ _ _ _ _ _ rfl (by omega) (by omega) (by omega) (by omega) (by omega) rfl
       · go_simp
         skip
         try go_wp2_with fail
         refine hK.out _ _ ?_ (fun hHeld3 => ?_)
         · (try dsimp only); first | done | trivial
         clear hK K hHeld2
         try simp only [Act.put, List.setIfInBounds_toArray, List.set_cons_zero, List.set_cons_succ]
         refine wpAnyH_ready (rs := [4]) (by kernel_rfl) (by simp) ?_
         refine AllReadyH.cons (o := ⟨some 13, .makeSlice 24 (.tmp 12) (.tmp 12), 24, "search.go:25", #[⟨3, .data⟩, ⟨3, .data⟩], none⟩) rfl (fun K hK => ?_) AllReadyH.nil
         go_simp
         skip
         try go_wp2_with fail
         refine hK.out _ _ ?_ (fun hHeld4 => ?_)
         · (try dsimp only); first | done | trivial
         clear hK K hHeld3
         try simp only [Act.put, List.setIfInBounds_toArray, List.set_cons_zero, List.set_cons_succ]
         refine wpAnyH_take (i := 9) (oi := ⟨some 18, .build 46 #[(0, .tmp 9), (1, .tmp 11), (2, .tmp 13), (3, .tmp 15), (4, .tmp 17)], 46, "search.go:25", #[⟨0, .data⟩, ⟨2, .data⟩, ⟨4, .data⟩, ⟨6, .data⟩, ⟨8, .data⟩], none⟩) (v := ?_) rfl (by kernel_rfl) (by kernel_rfl) (by kernel_rfl) (fun _ _ _ h => h) (Or.inl ⟨by rfl, ?_⟩) (by assumption) ?_
         rotate_left
         · intro w hSw; (try dsimp only at hSw); first | (go_simp; done) | (go_simp; with_reducible rfl)
         try simp only [Act.put, List.setIfInBounds_toArray, List.set_cons_zero, List.set_cons_succ]
         refine wpAnyH_ready (rs := [10]) (by kernel_rfl) (by simp) ?_
         refine AllReadyH.cons (o := ⟨some 19, .box 46 (.tmp 18), 44, "search.go:25", #[⟨9, .data⟩], none⟩) rfl (fun K hK => ?_) AllReadyH.nil
         go_simp
         skip
         try go_wp2_with fail
         refine hK.out _ _ ?_ (fun hHeld5 => ?_)
         · (try dsimp only); first | done | trivial
         clear hK K hHeld4
         try simp only [Act.put, List.setIfInBounds_toArray, List.set_cons_zero, List.set_cons_succ]
         refine wpAnyH_take (i := 11) (oi := ⟨some 4, .assign (.tmp 19), 44, "search.go:25", #[⟨10, .data⟩, ⟨0, .phase⟩, ⟨1, .phase⟩, ⟨2, .phase⟩, ⟨3, .phase⟩, ⟨4, .phase⟩, ⟨5, .phase⟩, ⟨6, .phase⟩, ⟨7, .phase⟩, ⟨8, .phase⟩, ⟨9, .phase⟩, ⟨10, .phase⟩], none⟩) (v := ?_) rfl (by kernel_rfl) (by kernel_rfl) (by kernel_rfl) (fun _ _ _ h => h) (Or.inl ⟨by rfl, ?_⟩) (by assumption) ?_
         rotate_left
         · intro w hSw; (try dsimp only at hSw); first | (go_simp; done) | (go_simp; with_reducible rfl)
         try simp only [Act.put, List.setIfInBounds_toArray, List.set_cons_zero, List.set_cons_succ]
         refine wpAnyH_done (by kernel_rfl) ?_ _
         go_wp2_with fail
         go_meet
         case rel => exact HM.out _ _ _ _ _ _ rfl (by omega) (by omega) (by omega) (by omega) (by omega) rfl
     · go_simp
       skip
       try go_wp2_with fail
       refine hK.out _ _ ?_ (fun hHeld2 => ?_)
       · (try dsimp only); first | done | trivial
       clear hK K hHeld1
       try simp only [Act.put, List.setIfInBounds_toArray, List.set_cons_zero, List.set_cons_succ]
       refine wpAnyH_ready (rs := [2, 6]) (by kernel_rfl) (by simp) ?_
       refine AllReadyH.cons (o := ⟨some 11, .makeSlice 24 (.tmp 10) (.tmp 10), 24, "search.go:25", #[⟨1, .data⟩, ⟨1, .data⟩], none⟩) rfl (fun K hK => ?_) (AllReadyH.cons (o := ⟨some 15, .makeSlice 24 (.tmp 14) (.tmp 14), 24, "search.go:25", #[⟨5, .data⟩, ⟨5, .data⟩], none⟩) rfl (fun K hK => ?_) AllReadyH.nil)
       · go_simp
         skip
         try go_wp2_with fail
         refine hK.out _ _ ?_ (fun hHeld3 => ?_)
         · (try dsimp only); first | done | trivial
         clear hK K hHeld2
         try simp only [Act.put, List.setIfInBounds_toArray, List.set_cons_zero, List.set_cons_succ]
         refine wpAnyH_ready (rs := [6]) (by kernel_rfl) (by simp) ?_
         refine AllReadyH.cons (o := ⟨some 15, .makeSlice 24 (.tmp 14) (.tmp 14), 24, "search.go:25", #[⟨5, .data⟩, ⟨5, .data⟩], none⟩) rfl (fun K hK => ?_) AllReadyH.nil
         go_simp
         skip
         try go_wp2_with fail
         refine hK.out _ _ ?_ (fun hHeld4 => ?_)
         · (try dsimp only); first | done | trivial
         clear hK K hHeld3
         try simp only [Act.put, List.setIfInBounds_toArray, List.set_cons_zero, List.set_cons_succ]
         refine wpAnyH_take (i := 9) (oi := ⟨some 18, .build 46 #[(0, .tmp 9), (1, .tmp 11), (2, .tmp 13), (3, .tmp 15), (4, .tmp 17)], 46, "search.go:25", #[⟨0, .data⟩, ⟨2, .data⟩, ⟨4, .data⟩, ⟨6, .data⟩, ⟨8, .data⟩], none⟩) (v := ?_) rfl (by kernel_rfl) (by kernel_rfl) (by kernel_rfl) (fun _ _ _ h => h) (Or.inl ⟨by rfl, ?_⟩) (by assumption) ?_
         rotate_left
         · intro w hSw; (try dsimp only at hSw); first | (go_simp; done) | (go_simp; with_reducible rfl)
         try simp only [Act.put, List.setIfInBounds_toArray, List.set_cons_zero, List.set_cons_succ]
         refine wpAnyH_ready (rs := [10]) (by kernel_rfl) (by simp) ?_
         refine AllReadyH.cons (o := ⟨some 19, .box 46 (.tmp 18), 44, "search.go:25", #[⟨9, .data⟩], none⟩) rfl (fun K hK => ?_) AllReadyH.nil
         go_simp
         skip
         try go_wp2_with fail
         refine hK.out _ _ ?_ (fun hHeld5 => ?_)
         · (try dsimp only); first | done | trivial
         clear hK K hHeld4
         try simp only [Act.put, List.setIfInBounds_toArray, List.set_cons_zero, List.set_cons_succ]
         refine wpAnyH_take (i := 11) (oi := ⟨some 4, .assign (.tmp 19), 44, "search.go:25", #[⟨10, .data⟩, ⟨0, .phase⟩, ⟨1, .phase⟩, ⟨2, .phase⟩, ⟨3, .phase⟩, ⟨4, .phase⟩, ⟨5, .phase⟩, ⟨6, .phase⟩, ⟨7, .phase⟩, ⟨8, .phase⟩, ⟨9, .phase⟩, ⟨10, .phase⟩], none⟩) (v := ?_) rfl (by kernel_rfl) (by kernel_rfl) (by kernel_rfl) (fun _ _ _ h => h) (Or.inl ⟨by rfl, ?_⟩) (by assumption) ?_
         rotate_left
         · intro w hSw; (try dsimp only at hSw); first | (go_simp; done) | (go_simp; with_reducible rfl)
         try simp only [Act.put, List.setIfInBounds_toArray, List.set_cons_zero, List.set_cons_succ]
         refine wpAnyH_done (by kernel_rfl) ?_ _
         go_wp2_with fail
         go_meet
         case rel => exact HM.out _ _ _ _ _ _ rfl (by omega) (by omega) (by omega) (by omega) (by omega) rfl
       · go_simp
         skip
         try go_wp2_with fail
         refine hK.out _ _ ?_ (fun hHeld3 => ?_)
         · (try dsimp only); first | done | trivial
         clear hK K hHeld2
         try simp only [Act.put, List.setIfInBounds_toArray, List.set_cons_zero, List.set_cons_succ]
         refine wpAnyH_ready (rs := [2]) (by kernel_rfl) (by simp) ?_
         refine AllReadyH.cons (o := ⟨some 11, .makeSlice 24 (.tmp 10) (.tmp 10), 24, "search.go:25", #[⟨1, .data⟩, ⟨1, .data⟩], none⟩) rfl (fun K hK => ?_) AllReadyH.nil
         go_simp
         skip
         try go_wp2_with fail
         refine hK.out _ _ ?_ (fun hHeld4 => ?_)
         · (try dsimp only); first | done | trivial
         clear hK K hHeld3
         try simp only [Act.put, List.setIfInBounds_toArray, List.set_cons_zero, List.set_cons_succ]
         refine wpAnyH_take (i := 9) (oi := ⟨some 18, .build 46 #[(0, .tmp 9), (1, .tmp 11), (2, .tmp 13), (3, .tmp 15), (4, .tmp 17)], 46, "search.go:25", #[⟨0, .data⟩, ⟨2, .data⟩, ⟨4, .data⟩, ⟨6, .data⟩, ⟨8, .data⟩], none⟩) (v := ?_) rfl (by kernel_rfl) (by kernel_rfl) (by kernel_rfl) (fun _ _ _ h => h) (Or.inl ⟨by rfl, ?_⟩) (by assumption) ?_
         rotate_left
         · intro w hSw; (try dsimp only at hSw); first | (go_simp; done) | (go_simp; with_reducible rfl)
         try simp only [Act.put, List.setIfInBounds_toArray, List.set_cons_zero, List.set_cons_succ]
         refine wpAnyH_ready (rs := [10]) (by kernel_rfl) (by simp) ?_
         refine AllReadyH.cons (o := ⟨some 19, .box 46 (.tmp 18), 44, "search.go:25", #[⟨9, .data⟩], none⟩) rfl (fun K hK => ?_) AllReadyH.nil
         go_simp
         skip
         try go_wp2_with fail
         refine hK.out _ _ ?_ (fun hHeld5 => ?_)
         · (try dsimp only); first | done | trivial
         clear hK K hHeld4
         try simp only [Act.put, List.setIfInBounds_toArray, List.set_cons_zero, List.set_cons_succ]
         refine wpAnyH_take (i := 11) (oi := ⟨some 4, .assign (.tmp 19), 44, "search.go:25", #[⟨10, .data⟩, ⟨0, .phase⟩, ⟨1, .phase⟩, ⟨2, .phase⟩, ⟨3, .phase⟩, ⟨4, .phase⟩, ⟨5, .phase⟩, ⟨6, .phase⟩, ⟨7, .phase⟩, ⟨8, .phase⟩, ⟨9, .phase⟩, ⟨10, .phase⟩], none⟩) (v := ?_) rfl (by kernel_rfl) (by kernel_rfl) (by kernel_rfl) (fun _ _ _ h => h) (Or.inl ⟨by rfl, ?_⟩) (by assumption) ?_
         rotate_left
         · intro w hSw; (try dsimp only at hSw); first | (go_simp; done) | (go_simp; with_reducible rfl)
         try simp only [Act.put, List.setIfInBounds_toArray, List.set_cons_zero, List.set_cons_succ]
         refine wpAnyH_done (by kernel_rfl) ?_ _
         go_wp2_with fail
         go_meet
         case rel => exact HM.out _ _ _ _ _ _ rfl (by omega) (by omega) (by omega) (by omega) (by omega) rfl
     · go_simp
       skip
       try go_wp2_with fail
       refine hK.out _ _ ?_ (fun hHeld2 => ?_)
       · (try dsimp only); first | done | trivial
       clear hK K hHeld1
       try simp only [Act.put, List.setIfInBounds_toArray, List.set_cons_zero, List.set_cons_succ]
       refine wpAnyH_ready (rs := [2, 4]) (by kernel_rfl) (by simp) ?_
       refine AllReadyH.cons (o := ⟨some 11, .makeSlice 24 (.tmp 10) (.tmp 10), 24, "search.go:25", #[⟨1, .data⟩, ⟨1, .data⟩], none⟩) rfl (fun K hK => ?_) (AllReadyH.cons (o := ⟨some 13, .makeSlice 24 (.tmp 12) (.tmp 12), 24, "search.go:25", #[⟨3, .data⟩, ⟨3, .data⟩], none⟩) rfl (fun K hK => ?_) AllReadyH.nil)
       · go_simp
         skip
         try go_wp2_with fail
         refine hK.out _ _ ?_ (fun hHeld3 => ?_)
         · (try dsimp only); first | done | trivial
         clear hK K hHeld2
         try simp only [Act.put, List.setIfInBounds_toArray, List.set_cons_zero, List.set_cons_succ]
         refine wpAnyH_ready (rs := [4]) (by kernel_rfl) (by simp) ?_
         refine AllReadyH.cons (o := ⟨some 13, .makeSlice 24 (.tmp 12) (.tmp 12), 24, "search.go:25", #[⟨3, .data⟩, ⟨3, .data⟩], none⟩) rfl (fun K hK => ?_) AllReadyH.nil
         go_simp
         skip
         try go_wp2_with fail
         refine hK.out _ _ ?_ (fun hHeld4 => ?_)
         · (try dsimp only); first | done | trivial
         clear hK K hHeld3
         try simp only [Act.put, List.setIfInBounds_toArray, List.set_cons_zero, List.set_cons_succ]
         refine wpAnyH_take (i := 9) (oi := ⟨some 18, .build 46 #[(0, .tmp 9), (1, .tmp 11), (2, .tmp 13), (3, .tmp 15), (4, .tmp 17)], 46, "search.go:25", #[⟨0, .data⟩, ⟨2, .data⟩, ⟨4, .data⟩, ⟨6, .data⟩, ⟨8, .data⟩], none⟩) (v := ?_) rfl (by kernel_rfl) (by kernel_rfl) (by kernel_rfl) (fun _ _ _ h => h) (Or.inl ⟨by rfl, ?_⟩) (by assumption) ?_
         rotate_left
         · intro w hSw; (try dsimp only at hSw); first | (go_simp; done) | (go_simp; with_reducible rfl)
         try simp only [Act.put, List.setIfInBounds_toArray, List.set_cons_zero, List.set_cons_succ]
         refine wpAnyH_ready (rs := [10]) (by kernel_rfl) (by simp) ?_
         refine AllReadyH.cons (o := ⟨some 19, .box 46 (.tmp 18), 44, "search.go:25", #[⟨9, .data⟩], none⟩) rfl (fun K hK => ?_) AllReadyH.nil
         go_simp
         skip
         try go_wp2_with fail
         refine hK.out _ _ ?_ (fun hHeld5 => ?_)
         · (try dsimp only); first | done | trivial
         clear hK K hHeld4
         try simp only [Act.put, List.setIfInBounds_toArray, List.set_cons_zero, List.set_cons_succ]
         refine wpAnyH_take (i := 11) (oi := ⟨some 4, .assign (.tmp 19), 44, "search.go:25", #[⟨10, .data⟩, ⟨0, .phase⟩, ⟨1, .phase⟩, ⟨2, .phase⟩, ⟨3, .phase⟩, ⟨4, .phase⟩, ⟨5, .phase⟩, ⟨6, .phase⟩, ⟨7, .phase⟩, ⟨8, .phase⟩, ⟨9, .phase⟩, ⟨10, .phase⟩], none⟩) (v := ?_) rfl (by kernel_rfl) (by kernel_rfl) (by kernel_rfl) (fun _ _ _ h => h) (Or.inl ⟨by rfl, ?_⟩) (by assumption) ?_
         rotate_left
         · intro w hSw; (try dsimp only at hSw); first | (go_simp; done) | (go_simp; with_reducible rfl)
         try simp only [Act.put, List.setIfInBounds_toArray, List.set_cons_zero, List.set_cons_succ]
         refine wpAnyH_done (by kernel_rfl) ?_ _
         go_wp2_with fail
         go_meet
         case rel => exact HM.out _ _ _ _ _ _ rfl (by omega) (by omega) (by omega) (by omega) (by omega) rfl
       · go_simp
         skip
         try go_wp2_with fail
         refine hK.out _ _ ?_ (fun hHeld3 => ?_)
         · (try dsimp only); first | done | trivial
         clear hK K hHeld2
         try simp only [Act.put, List.setIfInBounds_toArray, List.set_cons_zero, List.set_cons_succ]
         refine wpAnyH_ready (rs := [2]) (by kernel_rfl) (by simp) ?_
         refine AllReadyH.cons (o := ⟨some 11, .makeSlice 24 (.tmp 10) (.tmp 10), 24, "search.go:25", #[⟨1, .data⟩, ⟨1, .data⟩], none⟩) rfl (fun K hK => ?_) AllReadyH.nil
         go_simp
         skip
         try go_wp2_with fail
         refine hK.out _ _ ?_ (fun hHeld4 => ?_)
         · (try dsimp only); first | done | trivial
         clear hK K hHeld3
         try simp only [Act.put, List.setIfInBounds_toArray, List.set_cons_zero, List.set_cons_succ]
         refine wpAnyH_take (i := 9) (oi := ⟨some 18, .build 46 #[(0, .tmp 9), (1, .tmp 11), (2, .tmp 13), (3, .tmp 15), (4, .tmp 17)], 46, "search.go:25", #[⟨0, .data⟩, ⟨2, .data⟩, ⟨4, .data⟩, ⟨6, .data⟩, ⟨8, .data⟩], none⟩) (v := ?_) rfl (by kernel_rfl) (by kernel_rfl) (by kernel_rfl) (fun _ _ _ h => h) (Or.inl ⟨by rfl, ?_⟩) (by assumption) ?_
         rotate_left
         · intro w hSw; (try dsimp only at hSw); first | (go_simp; done) | (go_simp; with_reducible rfl)
         try simp only [Act.put, List.setIfInBounds_toArray, List.set_cons_zero, List.set_cons_succ]
         refine wpAnyH_ready (rs := [10]) (by kernel_rfl) (by simp) ?_
         refine AllReadyH.cons (o := ⟨some 19, .box 46 (.tmp 18), 44, "search.go:25", #[⟨9, .data⟩], none⟩) rfl (fun K hK => ?_) AllReadyH.nil
         go_simp
         skip
         try go_wp2_with fail
         refine hK.out _ _ ?_ (fun hHeld5 => ?_)
         · (try dsimp only); first | done | trivial
         clear hK K hHeld4
         try simp only [Act.put, List.setIfInBounds_toArray, List.set_cons_zero, List.set_cons_succ]
         refine wpAnyH_take (i := 11) (oi := ⟨some 4, .assign (.tmp 19), 44, "search.go:25", #[⟨10, .data⟩, ⟨0, .phase⟩, ⟨1, .phase⟩, ⟨2, .phase⟩, ⟨3, .phase⟩, ⟨4, .phase⟩, ⟨5, .phase⟩, ⟨6, .phase⟩, ⟨7, .phase⟩, ⟨8, .phase⟩, ⟨9, .phase⟩, ⟨10, .phase⟩], none⟩) (v := ?_) rfl (by kernel_rfl) (by kernel_rfl) (by kernel_rfl) (fun _ _ _ h => h) (Or.inl ⟨by rfl, ?_⟩) (by assumption) ?_
         rotate_left
         · intro w hSw; (try dsimp only at hSw); first | (go_simp; done) | (go_simp; with_reducible rfl)
         try simp only [Act.put, List.setIfInBounds_toArray, List.set_cons_zero, List.set_cons_succ]
         refine wpAnyH_done (by kernel_rfl) ?_ _
         go_wp2_with fail
         go_meet
         case rel => exact HM.out _ _ _ _ _ _ rfl (by omega) (by omega) (by omega) (by omega) (by omega) rfl
 case rest =>
   clear mk HM
   obtain ⟨b, bg, bm, bf, bl, rfl, h1, e1⟩ := hcut
   have H1 : Hid (SM w.heap.size b bg bm bf bl n (sl a n) wc (.slice none 0 0) (.slice none 0 0) { S0 with cls := fun v => if v < 0 then -1 else 0 } ∧ Ext w wc) := ⟨h1, e1⟩
   clear h1 e1
   go_wp2_with fail
   go_loopw [21] (fun x wr => ∃ k : Nat, x = .int .i64 (k : Int) ∧ k ≤ n ∧ SM w.heap.size b bg bm bf bl n (sl a n) wr (.slice none 0 0) (.slice none 0 0) { S0 with cls := fun v => if v < k then -1 else 0 } ∧ Ext w wr) (fun x _ => n - (intOf x).toNat)
   case atStart => exact ⟨0, rfl, Nat.zero_le _, H1.out⟩
   case round =>
     clear H1
     obtain ⟨k, rfl, hk, hS, hE⟩ := hrel
     have HS : Hid (SM w.heap.size b bg bm bf bl n (sl a n) wr (.slice none 0 0) (.slice none 0 0) { S0 with cls := fun v => if v < k then -1 else 0 } ∧ Ext w wr) := ⟨hS, hE⟩
     rcases Nat.lt_or_ge k n with hlt | hge
     · have hltI : (k : Int) < (n : Int) := by omega
       have k4 := hS.fld.2.2.2.2.1
       have fz := hS.frz
       obtain ⟨c1, c2⟩ := hS.lt hlt
       have wk := wrapI k (by have := HB.out.2.1; omega)
       unfold sl at k4
       clear hS hE
       go_wp2
       go_roundw
       case rel =>
         refine ⟨k + 1, by rw [wk], hlt, ?_, HS.out.2.setCell (HS.out.1.low (Nat.le_refl _)).2.2.2.2.1 _⟩
         have q := HS.out.1.setL k (-1)
         have e : upd (fun v => if v < k then (-1 : Int) else 0) k (-1) = fun v => if v < k + 1 then -1 else 0 := by
           funext v
           unfold upd
           by_cases e : v = k
           · subst e; simp
           · by_cases e2 : v < k
             · simp [e, e2, show v < k + 1 by omega]
             · simp [e, e2, show ¬ v < k + 1 by omega]
         rw [e] at q
         exact q
       case measure => rw [wk]; simp [intOf]; omega
     · have hltI : ¬ (k : Int) < (n : Int) := by omega
       have H2 : Hid (SM w.heap.size b bg bm bf bl n (sl a n) wr (.slice none 0 0) (.slice none 0 0) ⟨fun _ => 0, fun _ => 0, fun _ => 0, fun _ => -1, [], [], 0⟩) := by
         refine ⟨hS.blk, hS.bb, hS.g, hS.m, hS.f, own_eq hS.l rfl ?_, hS.p, hS.o, hS.dg, hS.dm, hS.df, hS.dl, hS.dp, hS.do'⟩
         rw [rng_eq (g := fun _ => (-1 : Int)) (fun i hi => by show (if i < k then (-1 : Int) else 0) = -1; rw [if_pos (by omega)])]
       clear hS hE hge
       go_wp2_with fail
       go_loopw [32] (fun x wq => ∃ (i : Nat) (σ : S) (vp vo : Value), x = .int .i64 (i : Int) ∧ i ≤ n ∧ SM w.heap.size b bg bm bf bl n (sl a n) wq vp vo σ ∧ TI adj n σ ∧ σ.path = [] ∧ (∀ v, v < i → σ.met v ≠ 0) ∧ Ext w wq) (fun x _ => n - (intOf x).toNat)
       case atStart => exact ⟨0, _, _, _, rfl, Nat.zero_le _, H2.out, TI.start adj n _, rfl, fun v hv => absurd hv (Nat.not_lt_zero _), HS.out.2⟩
       case round =>
         clear H2 HS hltI
         obtain ⟨i, σ, vp, vo, rfl, hi, hS, hT, hp, hm, hE⟩ := hrel
         have HS : Hid (SM w.heap.size b bg bm bf bl n (sl a n) wr vp vo σ ∧ TI adj n σ ∧ σ.path = [] ∧ (∀ v, v < i → σ.met v ≠ 0) ∧ Ext w wr) := ⟨hS, hT, hp, hm, hE⟩
         have k2 := hS.fld.2.2.1
         have k4 := hS.fld.2.2.2.2.1
         unfold sl at k2 k4
         rcases Nat.lt_or_ge i n with hlt | hge
         · have hltI : (i : Int) < (n : Int) := by omega
           obtain ⟨c1, c2⟩ := hS.mt hlt
           have wi := wrapI i (by have := HB.out.2.1; omega)
           have HI : Hid (i < n) := hlt
           obtain ⟨mi, hmi⟩ : ∃ x, σ.met i = x := ⟨_, rfl⟩
           rw [hmi] at c1
           have HMI : Hid (σ.met i = mi) := hmi
           clear hS hT hp hm hE k4 hmi
           by_cases h0 : mi = 0
           · have e1 : ((mi : Int) == 0) = true := by simp [h0]
             have cw := walk_any w.heap.size b bg bm bf bl n a vp vo w wr adj σ _ i rfl HS.out.1 HS.out.2.2.2.2 (Nat.le_refl _) HB.out.2.1 HS.out.2.1 HS.out.2.2.1 HI.out (by rw [HMI.out]; exact h0) HB.out.1 HB.out.2.2.1 HB.out.2.2.2
             clear h0
             go_wp2_with fail
             refine cw.mono ?_
             rintro e w3 ⟨rfl, σ3, vp3, vo3, ⟨s3, e3, t3, m3⟩, p3⟩
             have H3 : Hid (SM w.heap.size b bg bm bf bl n (sl a n) w3 vp3 vo3 σ3 ∧ TI adj n σ3 ∧ σ3.path = [] ∧ (∀ v, v < i + 1 → σ3.met v ≠ 0) ∧ Ext w w3) := by
               refine ⟨s3, t3, p3, fun v hv => m3 v ?_, e3⟩
               show upd σ.met i (σ.cnt + 1) v ≠ 0
               unfold upd
               split
               · omega
               · rename_i hne
                 exact HS.out.2.2.2.1 v (by omega)
             clear cw s3 e3 t3 m3 p3 k2 c1 c2
             go_wp2_with fail
             go_roundw
             case rel => exact ⟨i + 1, σ3, vp3, vo3, by rw [wi], hlt, H3.out⟩
             case measure => rw [wi]; simp [intOf]; omega
           · have e1 : ((mi : Int) == 0) = false := by simp [h0]
             have H3 : Hid (∀ v, v < i + 1 → σ.met v ≠ 0) := fun v hv => by
               by_cases e : v = i
               · rw [e, HMI.out]; exact h0
               · exact HS.out.2.2.2.1 v (by omega)
             clear h0
             go_wp2
             go_roundw
             case rel => exact ⟨i + 1, σ, vp, vo, by rw [wi], hlt, HS.out.1, HS.out.2.1, HS.out.2.2.1, H3.out, HS.out.2.2.2.2⟩
             case measure => rw [wi]; simp [intOf]; omega
         · have hltI : ¬ (i : Int) < (n : Int) := by omega
           have HQ : Hid (RdG cN 1 wr (sl bl n) (rng n (fun v => (σ.cls v).toNat)) ∧ ∀ v, v < n → Lst (fun a b => b ∈ adj a) v (σ.cls v).toNat) := by
             have hop := hT.op_nil hp
             have hc : ∀ v, v < n → 0 ≤ σ.cls v := fun v hv => by
               rcases Int.lt_or_le (σ.cls v) 0 with h | h
               · have : v ∈ σ.op := (hT.om v).2 ⟨hm v (by omega), h⟩
                 rw [hop] at this
                 cases this
               · exact h
             refine ⟨?_, fun v hv => ?_⟩
             · refine own_rdG cN_len (T := 3) (base := w.heap.size) (own_eq hS.l rfl ?_) (by rw [rng_len])
               have e : ∀ l : List Nat, (∀ v ∈ l, v < n) → (l.map σ.cls).flatMap cI = (l.map (fun v => (σ.cls v).toNat)).flatMap cN := by
                 intro l
                 induction l with
                 | nil => intro _; rfl
                 | cons x l ih =>
                   intro hl
                   rw [List.map_cons, List.map_cons, List.flatMap_cons, List.flatMap_cons, ih (fun v hv => hl v (List.mem_cons_of_mem _ hv))]
                   have := hc x (hl x (List.mem_cons_self ..))
                   have e2 : cI (σ.cls x) = cN (σ.cls x).toNat := by
                     unfold cI cN
                     rw [Int.toNat_of_nonneg this]
                   rw [e2]
               exact e _ (fun v hv => List.mem_range.1 hv)
             · obtain ⟨g, hg1, hg2⟩ := hT.cs v (hc v hv)
               rw [hg1]
               exact hg2
           have HE : Hid (Ext w wr) := hE
           clear hS hT hp hm hE k2
           go_wp2
           go_ret
           exact ⟨_, _, rfl, HQ.out.1, HQ.out.2, HE.out⟩

open Go.RowKit
set_option maxHeartbeats 4000000

theorem el_oth (L : List (Nat × Nat)) : (fun a b => b ∈ oth0 L a) = EL L := by
 funext a b
 refine propext ?_
 unfold oth0 EL
 rw [List.mem_map]
 constructor
 · rintro ⟨⟨x, y⟩, h, rfl⟩
   obtain ⟨h1, h2⟩ := List.mem_filter.1 h
   simp at h2
   subst h2
   exact h1
 · intro h
   exact ⟨(a, b), List.mem_filter.2 ⟨h, by simp⟩, rfl⟩
theorem grp_of {L : List (Nat × Nat)} {n : Nat} {ls : Nat → Nat} (h : ∀ v, v < n → Lst (EL L) v (ls v)) (hb : ∀ p ∈ L, p.1 < n ∧ p.2 < n) : IsGrp L n (rng n (gF ls L)) := by
 refine ⟨rng_len _ _, fun v hv => ?_⟩
 rw [rng_at _ hv]
 have key : (L.any (fun p => p.1 == v && ls p.1 == ls p.2)) = true ↔ Rch (EL L) v v := by
   rw [List.any_eq_true]
   constructor
   · rintro ⟨⟨x, y⟩, hm, hc⟩
     simp at hc
     obtain ⟨rfl, hc⟩ := hc
     have hcon := ((h x hv).same (h y (hb _ hm).2)).1 hc
     rcases hcon.2 with e | e
     · exact .one (show (x, x) ∈ L by rw [e] at hm; exact hm)
     · exact .step hm e
   · intro hr
     have hx : ∃ b, (v, b) ∈ L ∧ RS (EL L) b v := by
       cases hr with
       | one e => exact ⟨v, e, .refl _ _⟩
       | step e r => exact ⟨_, e, .inr r⟩
     obtain ⟨b, h1, h2⟩ := hx
     refine ⟨(v, b), h1, ?_⟩
     have := ((h v hv).same (h b (hb _ h1).2)).2 ⟨.one h1, h2⟩
     simp [this]
 refine ⟨fun hr => ⟨ls v, ?_, h v hv⟩, fun hr => ?_⟩
 · unfold gF; rw [if_pos (key.2 hr)]
 · unfold gF; rw [if_neg (fun hc => hr (key.1 hc))]
def nn (p : Int × Int) : Nat × Nat := (p.1.toNat, p.2.toNat)
theorem rd_nn {W : World} {v : Value} {l : List (Int × Int)} (h : RdG cQ 2 W v l) (h0 : ∀ p ∈ l, 0 ≤ p.1 ∧ 0 ≤ p.2) : RdG cM 2 W v (l.map nn) := by
 obtain ⟨p, c, h1, h2, h3⟩ := h
 refine ⟨p, c, by rw [List.length_map]; exact h1, by rw [List.length_map]; exact h2, ?_⟩
 rcases h3 with h3 | ⟨b, off, h4, h5, h6⟩
 · exact .inl (by rw [h3]; rfl)
 · refine .inr ⟨b, off, h4, h5, fun i x j u hi hu => ?_⟩
   rw [List.getElem?_map] at hi
   cases hl : l[i]? with
   | none => rw [hl] at hi; cases hi
   | some y =>
     rw [hl] at hi
     simp at hi
     subst hi
     obtain ⟨y1, y2⟩ := h0 y (List.mem_of_getElem? hl)
     refine h6 i y j u hl ?_
     unfold cM nn at hu
     unfold cQ
     rw [Int.toNat_of_nonneg y1, Int.toNat_of_nonneg y2] at hu
     exact hu
/-- What Sort is asked to answer. -/
def SoP (n : Int) (l : List (Int × Int)) (o : List Nat) (gs : List Int) (er : Int) : Prop :=
 if n < 0 ∨ l.all (okP n) = false then o = [] ∧ gs = [] ∧ er = 1
 else if n > 4096 then o = [] ∧ gs = [] ∧ er = 2
 else er = 0 ∧ IsOrd (l.map nn) n.toNat o ∧ IsGrp (l.map nn) n.toNat gs
def SoQ (w : World) (n : Int) (l : List (Int × Int)) (e : Ending) (w' : World) : Prop :=
 ∃ va vg o gs er, e = .returned (.tuple #[va, vg, .int .i64 er]) ∧ RdG cN 1 w' va o ∧ RdG cI 1 w' vg gs ∧ SoP n l o gs er ∧ Ext w w'
theorem SoP.one {n : Int} {l : List (Int × Int)} {o p : List Nat} {g h : List Int} {e f : Int} (a : SoP n l o g e) (b : SoP n l p h f) : o = p ∧ g = h ∧ e = f := by
 unfold SoP at a b
 split at a
 · rename_i hc
   rw [if_pos hc] at b
   exact ⟨a.1.trans b.1.symm, a.2.1.trans b.2.1.symm, a.2.2.trans b.2.2.symm⟩
 · rename_i hc
   rw [if_neg hc] at b
   split at a
   · rename_i hd
     rw [if_pos hd] at b
     exact ⟨a.1.trans b.1.symm, a.2.1.trans b.2.1.symm, a.2.2.trans b.2.2.symm⟩
   · rename_i hd
     rw [if_neg hd] at b
     exact ⟨ord_one a.2.1 b.2.1, grp_one a.2.2 b.2.2, a.1.trans b.1.symm⟩
set_option maxRecDepth 100000 in
theorem sort_any (w : World) (v : Value) (l : List (Int × Int)) (n : Int) (h : RdG cQ 2 w v l) (hl : l.length ≤ 5000) :
   Calls Try.prog 8 #[.int .i64 n, v] w (SoQ w n l) := by
 have ct := things_any w v l n h (by omega)
 have HR : Hid (RdG cQ 2 w v l ∧ l.length ≤ 5000) := ⟨h, hl⟩
 obtain ⟨p, c, rfl, _⟩ := h.form
 clear h hl
 rcases Int.lt_or_le n 0 with h0 | h0
 · have HQ : Hid (SoQ w n l (.returned (.tuple #[.slice none 0 0, .slice none 0 0, .int .i64 1])) w) := ⟨_, _, [], [], 1, rfl, RdG.nil _, RdG.nil _, by unfold SoP; rw [if_pos (.inl h0)]; exact ⟨rfl, rfl, rfl⟩, Ext.refl _⟩
   clear ct
   go_enter Try.func8, Try.ntmps8
   go_wp2_with fail
   refine bodyPost_ret (v := .tuple #[.slice none 0 0, .slice none 0 0, .int .i64 1]) (by simp [results, Try.results8, go_sem]) rfl ?_
   exact HQ.out
 · have h0' : ¬ n < 0 := by omega
   cases ha : l.all (okP n)
   · have HQ : Hid (∀ W, Ext w W → SoQ w n l (.returned (.tuple #[.slice none 0 0, .slice none 0 0, .int .i64 1])) W) := fun W e => ⟨_, _, [], [], 1, rfl, RdG.nil _, RdG.nil _, by unfold SoP; rw [if_pos (.inr ha)]; exact ⟨rfl, rfl, rfl⟩, e⟩
     rw [ha] at ct
     clear ha
     go_enter Try.func8, Try.ntmps8
     go_wp2_with fail
     refine ct.mono ?_
     rintro e w1 ⟨rfl, e1⟩
     have HE : Hid (Ext w w1) := e1
     clear ct e1
     go_wp2_with fail
     refine bodyPost_ret (v := .tuple #[.slice none 0 0, .slice none 0 0, .int .i64 1]) (by simp [results, Try.results8, go_sem]) rfl ?_
     exact HQ.out _ HE.out
   · rw [ha] at ct
     rcases Int.lt_or_le 4096 n with hn | hn
     · have HQ : Hid (∀ W, Ext w W → SoQ w n l (.returned (.tuple #[.slice none 0 0, .slice none 0 0, .int .i64 2])) W) := fun W e => ⟨_, _, [], [], 2, rfl, RdG.nil _, RdG.nil _, by unfold SoP; rw [if_neg (by rw [ha]; simp; omega), if_pos hn]; exact ⟨rfl, rfl, rfl⟩, e⟩
       clear ha
       go_enter Try.func8, Try.ntmps8
       go_wp2_with fail
       refine ct.mono ?_
       rintro e w1 ⟨rfl, e1⟩
       have HE : Hid (Ext w w1) := e1
       clear ct e1
       go_wp2_with fail
       refine bodyPost_ret (v := .tuple #[.slice none 0 0, .slice none 0 0, .int .i64 2]) (by simp [results, Try.results8, go_sem]) rfl ?_
       exact HQ.out _ HE.out
     · have hn' : ¬ 4096 < n := by omega
       obtain ⟨m, hm⟩ : ∃ m : Nat, n = (m : Int) := ⟨n.toNat, by omega⟩
       subst hm
       have hall : ∀ p ∈ l, 0 ≤ p.1 ∧ p.1 < (m : Int) ∧ 0 ≤ p.2 ∧ p.2 < (m : Int) := fun p hp => by
         have := List.all_eq_true.1 ha p hp
         unfold okP at this
         simpa using this
       obtain ⟨L, hLe⟩ : ∃ L, l.map nn = L := ⟨_, rfl⟩
       have HL : Hid (l.map nn = L ∧ RdG cM 2 w (.slice p l.length c) L ∧ L.length ≤ 5000 ∧ (∀ p ∈ L, p.1 < m ∧ p.2 < m) ∧ m ≤ 4096) := by
         refine ⟨hLe, by rw [← hLe]; exact rd_nn HR.out.1 (fun p hp => ⟨(hall p hp).1, (hall p hp).2.2.1⟩), by rw [← hLe, List.length_map]; exact HR.out.2, fun q hq => ?_, by omega⟩
         rw [← hLe] at hq
         obtain ⟨x, hx, rfl⟩ := List.mem_map.1 hq
         obtain ⟨a1, a2, a3, a4⟩ := hall x hx
         unfold nn
         exact ⟨by show x.1.toNat < m; omega, by show x.2.toNat < m; omega⟩
       have HP : Hid (∀ o gs, IsOrd L m o → IsGrp L m gs → SoP m l o gs 0) := fun o gs h1 h2 => by
         unfold SoP
         rw [if_neg (by rw [ha]; simp), if_neg (by omega), HL.out.1, Int.toNat_natCast]
         exact ⟨rfl, h1, h2⟩
       have co := fun W (e : Ext w W) => others0_any W _ L m (HL.out.2.1.ext e) (by have := HL.out; omega) (by have := HL.out; omega) HL.out.2.2.2.1
       clear ha hall hLe hn h0
       go_enter Try.func8, Try.ntmps8
       go_wp2_with fail
       refine ct.mono ?_
       rintro e w1 ⟨rfl, e1⟩
       have HE : Hid (Ext w w1) := e1
       clear ct e1
       go_wp2_with fail
       refine (co _ HE.out).mono ?_
       rintro e w2 ⟨a, xs, he, h2, e2⟩
       subst he
       have HE2 : Hid (Ext w w2) := HE.out.trans e2
       have cl := least_any w2 a m (oth0 L) h2.aj (by have := HL.out; omega) (fun v hv x hx => by
         have : EL L v x := by rw [← el_oth]; exact hx
         exact (HL.out.2.2.2.1 _ this).2) (fun v hv => Nat.le_trans (oth0_len L v) HL.out.2.2.1)
       clear co h2 e2 HE
       go_wp2_with fail
       refine cl.mono ?_
       rintro e w3 ⟨vl, ls, rfl, h3, hls, e3⟩
       rw [el_oth] at hls
       obtain ⟨q, d, rfl, _⟩ := h3.form
       have HL3 : Hid (RdG cN 1 w3 (.slice q (rng m ls).length d) (rng m ls) ∧ (∀ v, v < m → Lst (EL L) v (ls v)) ∧ Ext w w3) := ⟨h3, hls, HE2.out.trans e3⟩
       have ci := inorder_any w3 _ _ L m ls (HL.out.2.1.ext HL3.out.2.2) (by have := HL.out; omega) HL3.out.1 (by have := HL.out; omega) HL.out.2.2.2.1 (fun p hp => (hls p.1 (HL.out.2.2.2.1 p hp).1).same (hls p.2 (HL.out.2.2.2.1 p hp).2))
       clear cl h3 hls e3 HE2
       go_wp2_with fail
       refine ci.mono ?_
       rintro e w4 ⟨v4, o, rfl, ho, o4, e4⟩
       obtain ⟨r, d4, rfl, _⟩ := own_form o4
       have HO : Hid (IsOrd L m o ∧ w4.ownsRow w3.heap.size 3 1 (.slice r o.length d4) o.length (o.flatMap cN) ∧ Ext w3 w4) := ⟨ho, o4, e4⟩
       have cg := groups_any w4 _ _ L m ls (HL.out.2.1.ext (HL3.out.2.2.trans e4)) (by have := HL.out; omega) (HL3.out.1.ext e4) (by have := HL.out; omega) HL.out.2.2.2.1
       clear ci ho o4 e4
       go_wp2_with fail
       refine cg.mono ?_
       rintro e w5 ⟨v5, rfl, o5, e5⟩
       obtain ⟨r5, d5, rfl, _⟩ := own_form o5
       have HF : Hid (SoQ w m l (.returned (.tuple #[.slice r o.length d4, .slice r5 m d5, .int .i64 0])) w5) :=
         ⟨_, _, o, rng m (gF ls L), 0, rfl, (own_rdG cN_len HO.out.2.1 rfl).ext e5, own_rdG cI_len o5 (by rw [rng_len]), HP.out _ _ HO.out.1 (grp_of HL3.out.2.1 HL.out.2.2.2.1), (HL3.out.2.2.trans HO.out.2.2).trans e5⟩
       clear cg o5 e5
       go_wp2_with fail
       refine bodyPost_ret (v := .tuple #[.slice r o.length d4, .slice r5 m d5, .int .i64 0]) (by simp [results, Try.results8, go_sem]) rfl ?_
       exact HF.out
end Go.Proofs.Ytcjenjeggmlanaa
