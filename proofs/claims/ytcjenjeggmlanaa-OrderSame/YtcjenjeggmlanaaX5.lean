/-
 What the laws of stage 17 ask: same, lives.
 What is read as pairs is such.
 What the laws of stage 17 ask, over plain data.
 What the walks of three laws share: pairs below k.
 OrderAll's walk.
-/
import Derived.Test.YtcjenjeggmlanaaX4
import Derived.Deep.Slices
import Derived.Test.YtcjenjeggmlanaaX2
import Derived.Maps.RangeWalk
namespace Go.Proofs.Ytcjenjeggmlanaa
open Go.RowKit
set_option maxHeartbeats 4000000

theorem rd_NI {W : World} {v : Value} {l : List Nat} (h : RdG cN 1 W v l) : RdG cI 1 W v (l.map (fun x : Nat => (x : Int))) := by
 obtain ⟨p, c, h1, h2, h3⟩ := h
 refine ⟨p, c, by rw [List.length_map]; exact h1, by rw [List.length_map]; exact h2, ?_⟩
 rcases h3 with h3 | ⟨b, off, h4, h5, h6⟩
 · exact .inl (by rw [h3]; rfl)
 · refine .inr ⟨b, off, h4, h5, fun i x j u hi hu => ?_⟩
   rw [List.getElem?_map] at hi
   cases hl : l[i]? with
   | none => rw [hl] at hi; cases hi
   | some y =>
     rw [hl] at hi
     simp at hi
     subst hi
     exact h6 i y j u hl hu
theorem RdI.cell {W : World} {p : Option Addr} {n cp : Nat} {l : List Int} (h : RdG cI 1 W (.slice p n cp) l) {i : Nat} {x : Int} (hi : l[i]? = some x) :
   ∃ b off, p = some ⟨b, off, none⟩ ∧ b < W.heap.size ∧ W.cell? ⟨b, off + i, none⟩ = some (.int .i64 x) := by
 obtain ⟨b, off, h1, h2, h3⟩ := h.at hi
 have := h3 0 _ rfl
 rw [Nat.mul_one, Nat.add_zero] at this
 exact ⟨b, off, h1, h2, this⟩
theorem same_any (w : World) (v u : Value) (l m : List Int) (h : RdG cI 1 w v l) (g : RdG cI 1 w u m) (hl : l.length ≤ 100000) :
   Calls Try.prog 10 #[v, u] w fun e w' => e = .returned (.bool (decide (l = m))) ∧ Ext w w' := by
 obtain ⟨p, c, rfl, _⟩ := h.form
 obtain ⟨q, d, rfl, _⟩ := g.form
 have HR : Hid (RdG cI 1 w (.slice p l.length c) l) := h
 have HG : Hid (RdG cI 1 w (.slice q m.length d) m) := g
 have HL : Hid (l.length ≤ 100000) := hl
 clear h hl g
 go_enter Try.func10, Try.ntmps10
 by_cases hne : l.length = m.length
 · have HM : Hid (l.length = m.length) := hne
   have e1 : ((l.length : Int) != (m.length : Int)) = false := by simp [hne]
   clear hne
   go_wp2
   go_loopw [5] (fun x wr => ∃ k : Nat, x = .int .i64 (k : Int) ∧ k ≤ l.length ∧ Ext w wr ∧ l.take k = m.take k) (fun x _ => l.length - (intOf x).toNat)
   case atStart => exact ⟨0, rfl, Nat.zero_le _, Ext.refl _, rfl⟩
   case round =>
     obtain ⟨k, rfl, hk, hE, hn⟩ := hrel
     have HE : Hid (Ext w wr) := hE
     have HN : Hid (l.take k = m.take k) := hn
     clear hE hn e1
     rcases Nat.lt_or_ge k l.length with hlt | hge
     · have hltI : (k : Int) < (l.length : Int) := by omega
       have hltJ : (k : Int) < (m.length : Int) := by have := HM.out; omega
       have hltm : k < m.length := by have := HM.out; omega
       obtain ⟨s, hs⟩ : ∃ s, l[k]? = some s := ⟨_, List.getElem?_eq_getElem hlt⟩
       obtain ⟨t, ht⟩ : ∃ t, m[k]? = some t := ⟨_, List.getElem?_eq_getElem hltm⟩
       obtain ⟨b, off, rfl, _, c1⟩ := RdI.cell (HR.out.ext HE.out) hs
       obtain ⟨b', off', rfl, _, c2⟩ := RdI.cell (HG.out.ext HE.out) ht
       have HS : Hid (l[k]? = some s ∧ m[k]? = some t) := ⟨hs, ht⟩
       clear hs ht hltm
       have wk := wrapI k (by have := HL.out; omega)
       by_cases he : s = t
       · have e2 : ((s : Int) != (t : Int)) = false := by simp [he]
         have HT : Hid (l.take (k + 1) = m.take (k + 1)) := by
           show _ = _
           rw [take_at HS.out.1, take_at HS.out.2, HN.out, he]
         clear he
         go_upto_region 6 with fail
         go_region
         go_wp2
         go_roundw
         case rel => exact ⟨k + 1, by rw [wk], hlt, HE.out.drew, HT.out⟩
         case measure => rw [wk]; clear wk; simp [intOf]; omega
       · have e2 : ((s : Int) != (t : Int)) = true := by simp [he]
         have HT : Hid (l ≠ m) := fun e => he (by
           have h1 := HS.out.1
           rw [e, HS.out.2] at h1
           exact (Option.some.inj h1).symm)
         clear he
         go_upto_region 6 with fail
         go_region
         go_wp2
         go_ret
         exact ⟨ret_bool (by simp [HT.out]), HE.out.drew⟩
     · have hltI : ¬ (k : Int) < (l.length : Int) := by omega
       have HT : Hid (l = m) := by
         have h1 := HN.out
         rwa [List.take_of_length_le hge, List.take_of_length_le (by have := HM.out; omega)] at h1
       go_wp2
       go_ret
       exact ⟨ret_bool (by simp [HT.out]), HE.out⟩
 · have e1 : ((l.length : Int) != (m.length : Int)) = true := by simp; omega
   have HT : Hid (l ≠ m) := fun e => hne (by rw [e])
   clear hne
   go_wp2
   go_ret
   exact ⟨ret_bool (by simp [HT.out]), Ext.refl _⟩
theorem el1 {a b : Nat} : EL [(0, 2)] a b ↔ a = 0 ∧ b = 2 := by unfold EL; simp
theorem rch1 {a b : Nat} (h : Rch (EL [(0, 2)]) a b) : a = 0 ∧ b = 2 := by
 induction h with
 | one e => exact el1.1 e
 | step e _ ih => exact ⟨(el1.1 e).1, ih.2⟩
theorem con1 {a b : Nat} (h : Con (EL [(0, 2)]) a b) : a = b := by
 rcases h.1 with e | h1
 · exact e
 · rcases h.2 with e | h2
   · exact e.symm
   · have := rch1 h1; have := rch1 h2; omega
theorem rdy1 {out : List Nat} {x : Nat} : Rdy [(0, 2)] out x ↔ (x = 0 → 2 ∈ out) := by
 unfold Rdy
 constructor
 · intro h e
   subst e
   rcases h 2 (by simp) with h | h
   · exact h
   · have := con1 h; omega
 · intro h b hb
   simp at hb
   rw [hb.2]
   exact .inl (h hb.1)
theorem so1 : SoP 3 [(0, 2)] [1, 2, 0] [-1, -1, -1] 0 := by
 unfold SoP
 rw [if_neg (by decide), if_neg (by decide)]
 show (0 : Int) = 0 ∧ IsOrd [(0, 2)] 3 [1, 2, 0] ∧ IsGrp [(0, 2)] 3 [-1, -1, -1]
 refine ⟨rfl, ⟨rfl, ?_⟩, rfl, fun v hv => ⟨fun h => by have := rch1 h; omega, fun _ => ?_⟩⟩
 · have n1 : Nxt [(0, 2)] 3 [] 1 := ⟨by decide, by decide, rdy1.2 (by decide), fun y _ _ h => by
     rcases Nat.eq_zero_or_pos y with e | e
     · exact absurd (rdy1.1 h e) (by decide)
     · exact e⟩
   have n2 : Nxt [(0, 2)] 3 ([] ++ [1]) 2 := ⟨by decide, by decide, rdy1.2 (by decide), fun y h1 h2 h => by
     simp at h2
     by_cases e : y = 0
     · exact absurd (rdy1.1 h e) (by decide)
     · omega⟩
   have n3 : Nxt [(0, 2)] 3 ([] ++ [1] ++ [2]) 0 := ⟨by decide, by decide, rdy1.2 (by decide), fun y _ _ _ => Nat.zero_le _⟩
   exact ords_snoc (ords_snoc (ords_snoc (ords_nil _ _) n1) n2) n3
 · match v, hv with
   | 0, _ => rfl
   | 1, _ => rfl
   | 2, _ => rfl
theorem RdQ.two {W V : World} {a b : Int} (e : Ext (W.alloc (.cells #[.int .i64 a, .int .i64 b] 33)) V) : RdG cQ 2 V (.slice (some ⟨W.heap.size, 0, none⟩) 1 1) [(a, b)] :=
 RdG.one (Ext.top e) (fun j u h => by
   have hj : j < 2 := (List.getElem?_eq_some_iff.1 h).1
   match j, hj with
   | 0, _ => exact h
   | 1, _ => exact h)
theorem RdI.three {W V : World} {a b c : Int} (e : Ext (W.alloc (.cells #[.int .i64 a, .int .i64 b, .int .i64 c] 3)) V) : RdG cI 1 V (.slice (some ⟨W.heap.size, 0, none⟩) 3 3) [a, b, c] := by
 refine ⟨_, 3, rfl, Nat.le_refl _, .inr ⟨W.heap.size, 0, rfl, heap_lt (Ext.top e), fun i x j u hi hj => ?_⟩⟩
 have hj0 : j = 0 := by have := (List.getElem?_eq_some_iff.1 hj).1; simp [cI] at this; exact this
 subst hj0
 simp [cI] at hj
 subst hj
 rw [cell_of_row V _ _ _ 3 (0, 0) (Ext.top e)]
 match i, (List.getElem?_eq_some_iff.1 hi).1 with
 | 0, _ => simp at hi; subst hi; rfl
 | 1, _ => simp at hi; subst hi; rfl
 | 2, _ => simp at hi; subst hi; rfl
set_option maxRecDepth 100000 in
theorem lives_any (w : World) : Calls Try.prog 11 #[] w fun e w' => e = .returned (.bool true) ∧ Ext w w' := by
 have cs := sort_any (w.alloc (.cells #[.int .i64 0, .int .i64 2] 33)) _ [(0, 2)] 3 (RdQ.two (Ext.refl _)) (by simp)
 go_enter Try.func11, Try.ntmps11
 go_wp2_with fail
 refine cs.mono ?_
 rintro e w1 ⟨va, vg, o, gs, er, rfl, ho, hg, hp, e1⟩
 obtain ⟨rfl, rfl, rfl⟩ := hp.one so1
 obtain ⟨po, co, rfl, _⟩ := ho.form
 obtain ⟨pg, cg, rfl, _⟩ := hg.form
 have HE : Hid (Ext w w1) := ((Ext.refl w).alloc _).trans e1
 have cm := same_any (w1.alloc (.cells #[.int .i64 1, .int .i64 2, .int .i64 0] 3)) _ _ _ _ (rd_NI (ho.ext ((Ext.refl _).alloc _))) (RdI.three (Ext.refl _)) (by simp)
 have HG : Hid (RdG cI 1 w1 (.slice pg 3 cg) [-1, -1, -1]) := hg
 obtain ⟨gb, go, rfl, -, -⟩ := RdI.cell (i := 0) (x := -1) hg rfl
 clear cs ho hg hp e1
 go_wp2_with fail
 refine cm.mono ?_
 rintro e w2 ⟨rfl, e2⟩
 have HE2 : Hid (Ext w w2) := (HE.out.alloc _).trans e2
 have hg2 := HG.out.ext (((Ext.refl w1).alloc _).trans e2)
 obtain ⟨gb', go', h1, -, cg0⟩ := RdI.cell (i := 0) (x := -1) hg2 rfl
 simp only [Option.some.injEq, Addr.mk.injEq, and_true] at h1
 obtain ⟨rfl, rfl⟩ := h1
 rw [Nat.add_zero] at cg0
 clear cm e2 hg2
 go_wp2
 go_ret
 exact ⟨rfl, HE2.out⟩

open Go.ChangeShapes Go.WideShapes Go.RowKit
open Go.Deep (choose_lt)
set_option maxHeartbeats 1000000

def cU (x : Int × Int) : List Value := [.int .u8 x.1, .int .u8 x.2]
theorem cU_len (x : Int × Int) : (cU x).length = 2 := rfl
theorem qc_u8 : Try.prog.cellsOf 5 = 1 := by kernel_rfl
section
variable {H : Type} {enc : TypeId × Value → H} {w : World} {base : Nat} {sp : Nat → Bool} {hd : Bool}
theorem open_g {TS T : TypeId} {k : Nat} (hu : Try.prog.underlying TS = some (.slice T)) (hk : Try.prog.cellsOf T = k) (hk0 : 0 < k) {α : Type} [Inhabited α] (c : α → List Value) (hc : ∀ x, (c x).length = k) (Q : α → Prop)
   (hel : ∀ fuel cs x, cs.length = k → DataW.trod enc Try.prog w base sp hd fuel T cs = some x → ∃ y, cs = c y ∧ Q y)
   {fuel : Nat} {cv : Value} {x : DataW H × List MemPlace} (h : DataW.trod enc Try.prog w base sp hd fuel TS [cv] = some x) : ∃ l : List α, RdG c k w cv l ∧ ∀ y ∈ l, Q y := by
 rcases DataW.trod_slice hu h with ⟨e6, _⟩ | ⟨a, len, cap, elems, rest, n', hn', e6, _, hb, hl, hm, hel', hx, _, _⟩
 · simp only [List.cons.injEq, and_true] at e6
   subst e6
   exact ⟨[], RdG.nil w, (fun r hr => by cases hr)⟩
 · simp only [List.cons.injEq, and_true] at e6
   subst e6
   rw [hk] at hx
   have each : ∀ i, i < len → ∃ y : α, (∀ (j : Nat) (u : Value), (c y)[j]? = some u → w.cell? ((a.add (i * k)).add j) = some u) ∧ Q y := by
     intro i hi
     have h0 := hx i hi
     rw [List.getElem?_eq_getElem (show i < elems.length by omega)] at h0
     obtain ⟨cs', h1, h2⟩ := Option.bind_eq_some_iff.1 h0
     obtain ⟨_, k1, k2⟩ := World.cells?_some h1
     obtain ⟨r, rfl, hr⟩ := hel _ _ _ (by simpa using k1) h2
     refine ⟨r, fun j u hu => ?_, hr⟩
     rw [← hu]
     refine k2 j ?_
     have := (List.getElem?_eq_some_iff.1 hu).1
     rw [← k1]; exact this
   obtain ⟨f, hf⟩ := choose_lt each
   by_cases h0 : len = 0
   · subst h0
     exact ⟨[], ⟨_, _, rfl, by omega, .inl rfl⟩, (fun r hr => by cases hr)⟩
   obtain ⟨b, off, spot⟩ := a
   obtain ⟨u, hu⟩ : ∃ u, (c (f 0))[0]? = some u := ⟨_, List.getElem?_eq_getElem (by rw [hc]; exact hk0)⟩
   have hz := (hf 0 (by omega)).1 0 _ hu
   have hspot : spot = none := by simpa [Addr.add] using World.cell?_spot hz
   subst hspot
   have hblt : b < w.heap.size := by
     have := World.block_lt_of_cell? _ _ hz
     simpa only [Addr.add_lit] using this
   have hgl : ((List.range len).map f).length = len := by simp
   refine ⟨(List.range len).map f, ⟨_, cap, by rw [hgl], by omega, .inr ⟨b, off, rfl, hblt, fun i r j u hi hj => ?_⟩⟩, ?_⟩
   · have hi' : i < len := by
       have := (List.getElem?_eq_some_iff.1 hi).1
       simpa using this
     rw [List.getElem?_map, List.getElem?_range hi'] at hi
     simp at hi
     subst hi
     have := (hf i hi').1 j u hj
     simp only [Addr.add_lit] at this
     exact this
   · intro r hr
     obtain ⟨i, hi, rfl⟩ := List.mem_map.1 hr
     exact (hf i (List.mem_range.1 hi)).2
theorem trod_array2 {t e : TypeId} {fuel : Nat} {c0 c1 : Value} {x : DataW H × List MemPlace} (ht : Try.prog.underlying t = some (.array 2 e)) (hce : Try.prog.cellsOf e = 1)
   (h : DataW.trod enc Try.prog w base sp hd fuel t [c0, c1] = some x) :
   ∃ y0 y1 n, DataW.trod enc Try.prog w base sp hd n e [c0] = some y0 ∧ DataW.trod enc Try.prog w base sp hd n e [c1] = some y1 := by
 cases fuel with
 | zero => simp [DataW.trod] at h
 | succ n =>
   unfold DataW.trod at h
   rw [ht] at h
   have r2 : List.range 2 = [0, 1] := rfl
   simp [r2, hce] at h
   obtain ⟨_, h⟩ := h
   cases h0 : DataW.trod enc Try.prog w base sp hd n e [c0] with
   | none => simp [h0] at h
   | some y0 =>
     cases h1 : DataW.trod enc Try.prog w base sp hd n e [c1] with
     | none => simp [h0, h1] at h
     | some y1 => exact ⟨y0, y1, n, h0, h1⟩
theorem open_u8p {fuel : Nat} {cs : List Value} {x : DataW H × List MemPlace} (hl : cs.length = 2) (h : DataW.trod enc Try.prog w base sp hd fuel 32 cs = some x) : ∃ y : Int × Int, cs = cU y ∧ (0 ≤ y.1 ∧ y.1 ≤ 255) ∧ 0 ≤ y.2 ∧ y.2 ≤ 255 := by
 match cs, hl with
 | [c0, c1], _ =>
   obtain ⟨y0, y1, n, h0, h1⟩ := trod_array2 Try.underlying32 qc_u8 h
   obtain ⟨a0, e0, _, w0⟩ := DataW.trod_int Try.underlying5 h0
   obtain ⟨a1, e1, _, w1⟩ := DataW.trod_int Try.underlying5 h1
   simp only [List.cons.injEq, and_true] at e0 e1
   subst e0 e1
   exact ⟨(a0, a1), rfl, u8_of_wf w0, u8_of_wf w1⟩
theorem open_u8s {fuel : Nat} {c : Value} {x : DataW H × List MemPlace} (h : DataW.trod enc Try.prog w base sp hd fuel 31 [c] = some x) : ∃ l, RdG cU 2 w c l ∧ ∀ y ∈ l, (0 ≤ y.1 ∧ y.1 ≤ 255) ∧ 0 ≤ y.2 ∧ y.2 ≤ 255 :=
 open_g Try.underlying31 (k := 2) (by kernel_rfl) (by decide) cU cU_len _ (fun _ _ _ => open_u8p) h
end

/-! ### Places in an order -/
/-- Of v: its place in o, from 1 on, if it is among the first i. -/
def posF (o : List Nat) (i v : Nat) : Int := if v ∈ o.take i then ((o.idxOf v : Nat) : Int) + 1 else 0
theorem pos_zero (o : List Nat) : posF o 0 = fun _ => 0 := by funext v; simp [posF]
theorem nodup_idx {o : List Nat} (h : o.Nodup) {i x : Nat} (hx : o[i]? = some x) : o.idxOf x = i := by
 obtain ⟨hi, e⟩ := List.getElem?_eq_some_iff.1 hx
 rw [← e]
 exact h.idxOf_getElem i hi
theorem pos_new {L : List (Nat × Nat)} {n : Nat} {o : List Nat} (h : Ords L n o) {i x : Nat} (hx : o[i]? = some x) : posF o i x = 0 := by
 unfold posF
 rw [if_neg (h i x hx).2.1]
theorem pos_step {L : List (Nat × Nat)} {n : Nat} {o : List Nat} (h : Ords L n o) {i x : Nat} (hx : o[i]? = some x) : upd (posF o i) x ((i : Int) + 1) = posF o (i + 1) := by
 funext v
 have e : o.take (i + 1) = o.take i ++ [x] := by rw [List.take_add_one, hx]; rfl
 by_cases hv : v = x
 · subst hv
   rw [upd_at]
   unfold posF
   rw [if_pos (by rw [e]; simp), nodup_idx (ords_nodup h) hx]
 · rw [upd_ne _ _ hv]
   unfold posF
   rw [e]
   simp [hv]
theorem ord_mem {L : List (Nat × Nat)} {n : Nat} {o : List Nat} (h : IsOrd L n o) {v : Nat} (hv : v < n) : v ∈ o := by
 apply Classical.byContradiction
 intro hn
 have := nodup_len (l := v :: o) (List.nodup_cons.2 ⟨hn, ords_nodup h.2⟩) (M := List.range n) (fun x hx => by
   rcases List.mem_cons.1 hx with e | hx
   · rw [e]; exact List.mem_range.2 hv
   · exact List.mem_range.2 (ords_lt h.2 x hx))
 simp [h.1] at this
 omega
theorem pos_all {L : List (Nat × Nat)} {n : Nat} {o : List Nat} (h : IsOrd L n o) {v : Nat} (hv : v < n) : posF o n v = ((o.idxOf v : Nat) : Int) + 1 ∧ o[o.idxOf v]? = some v := by
 have hm := ord_mem h hv
 constructor
 · unfold posF
   rw [List.take_of_length_le (by rw [h.1]; exact Nat.le_refl _), if_pos hm]
 · rw [List.getElem?_eq_getElem (List.idxOf_lt_length_of_mem hm), List.getElem_idxOf]
theorem con_rch {E : Nat → Nat → Prop} {a b : Nat} (e : E a b) (h : Con E a b) : Rch E a a ∧ Rch E b b := by
 rcases h.2 with h2 | h2
 · subst h2
   exact ⟨.one e, .one e⟩
 · exact ⟨.step e h2, h2.trans (.one e)⟩
/-- Of one group: by the numbers. -/
theorem grp_con {L : List (Nat × Nat)} {n : Nat} {gs : List Int} (hg : IsGrp L n gs) {a b : Nat} (ha : a < n) (hb : b < n) (hp : (a, b) ∈ L) {y1 y2 : Int} (h1 : gs[a]? = some y1) (h2 : gs[b]? = some y2) : (0 ≤ y1 ∧ y1 = y2) ↔ Con (EL L) a b := by
 constructor
 · rintro ⟨h0, rfl⟩
   have ra : Rch (EL L) a a := Classical.byContradiction fun hn => by
     have := (hg.2 a ha).2 hn
     rw [h1] at this
     have := Option.some.inj this
     omega
   have rb : Rch (EL L) b b := Classical.byContradiction fun hn => by
     have := (hg.2 b hb).2 hn
     rw [h2] at this
     have := Option.some.inj this
     omega
   obtain ⟨g, g1, g2⟩ := (hg.2 a ha).1 ra
   obtain ⟨k, k1, k2⟩ := (hg.2 b hb).1 rb
   rw [h1] at g1
   rw [h2] at k1
   have e : g = k := by
     have e1 := Option.some.inj g1
     have e2 := Option.some.inj k1
     omega
   subst e
   exact g2.1.trans k2.1.symm
 · intro hc
   obtain ⟨ra, rb⟩ := con_rch (show EL L a b from hp) hc
   obtain ⟨g, g1, g2⟩ := (hg.2 a ha).1 ra
   obtain ⟨k, k1, k2⟩ := (hg.2 b hb).1 rb
   rw [h1] at g1
   rw [h2] at k1
   have e := g2.same k2 |>.2 hc
   have e1 := Option.some.inj g1
   have e2 := Option.some.inj k1
   omega
theorem all_first {L : List (Nat × Nat)} {n : Nat} {o : List Nat} {gs : List Int} (ho : IsOrd L n o) (hg : IsGrp L n gs) {a b : Nat} (ha : a < n) (hb : b < n) (hp : (a, b) ∈ L) {y1 y2 : Int} (h1 : gs[a]? = some y1) (h2 : gs[b]? = some y2)
   (h : y1 < 0 ∨ y1 ≠ y2) : posF o n b ≤ posF o n a := by
 obtain ⟨pa, qa⟩ := pos_all ho ha
 obtain ⟨pb, qb⟩ := pos_all ho hb
 rcases (ho.2 _ _ qa).2.2.1 b hp with hm | hc
 · obtain ⟨k, hk, e⟩ := List.getElem_of_mem hm
   have hk2 : k < o.idxOf a := by simp at hk; omega
   have e2 : o[k]? = some b := by
     rw [List.getElem_take] at e
     rw [List.getElem?_eq_getElem (by simp at hk; omega), e]
   have := nodup_idx (ords_nodup ho.2) e2
   rw [pa, pb]
   omega
 · have := (grp_con hg ha hb hp h1 h2).2 hc
   omega
theorem all_self {L : List (Nat × Nat)} {n : Nat} {gs : List Int} (hg : IsGrp L n gs) {a : Nat} (ha : a < n) (hp : (a, a) ∈ L) {y1 : Int} (h1 : gs[a]? = some y1) : 0 ≤ y1 :=
 ((grp_con hg ha ha hp h1 h1).2 (.refl _ _)).1
/-! ### Pairs twice, and in another order -/
def dw {α : Type} (d : α) (L : List α) (k : Nat) : List α := (List.range (L.length - k)).flatMap (fun t => [L.getD (L.length - 1 - t) d, L.getD ((L.length - 1 - t) / 2) d])
theorem dw_len {α : Type} (d : α) (L : List α) : dw d L L.length = [] := by simp [dw]
theorem dw_step {α : Type} (d : α) (L : List α) {k : Nat} {x y : α} (hx : L[k]? = some x) (hy : L[k / 2]? = some y) : dw d L k = dw d L (k + 1) ++ [x] ++ [y] := by
 have hk := (List.getElem?_eq_some_iff.1 hx).1
 unfold dw
 have e : L.length - k = (L.length - (k + 1)) + 1 := by omega
 rw [e, List.range_succ, List.flatMap_append]
 have e2 : L.length - 1 - (L.length - (k + 1)) = k := by omega
 simp [e2, List.getD_eq_getElem?_getD, hx, hy]
theorem dw_size {α : Type} (d : α) (L : List α) (k : Nat) : (dw d L k).length = 2 * (L.length - k) := by
 unfold dw
 generalize L.length - k = n
 induction n with
 | zero => rfl
 | succ n ih => rw [List.range_succ, List.flatMap_append, List.length_append, ih]; simp; omega
theorem dw_mem {α : Type} (d : α) (L : List α) (p : α) : p ∈ L ↔ p ∈ dw d L 0 := by
 unfold dw
 rw [List.mem_flatMap]
 constructor
 · intro h
   obtain ⟨i, hi, e⟩ := List.getElem_of_mem h
   refine ⟨L.length - 1 - i, List.mem_range.2 (by omega), ?_⟩
   have e2 : L.length - 1 - (L.length - 1 - i) = i := by omega
   rw [e2]
   simp [List.getD_eq_getElem?_getD, List.getElem?_eq_getElem hi, e]
 · rintro ⟨t, ht, h⟩
   rw [List.mem_range] at ht
   have h1 : L.length - 1 - t < L.length := by omega
   have h2 : (L.length - 1 - t) / 2 < L.length := by omega
   simp [List.getD_eq_getElem?_getD, List.getElem?_eq_getElem h1, List.getElem?_eq_getElem h2] at h
   rcases h with h | h <;> rw [h] <;> exact List.getElem_mem _
/-! ### Groups by what is reached -/
/-! ### The document's groups and order -/

open Go.RowKit
set_option maxHeartbeats 4000000

/-- A pair below k. -/
def pm (k : Int) (x : Int × Int) : Int × Int := (x.1 % k, x.2 % k)
theorem RdU.cell {W : World} {p : Option Addr} {n cp : Nat} {l : List (Int × Int)} (h : RdG cU 2 W (.slice p n cp) l) {i : Nat} {x : Int × Int} (hi : l[i]? = some x) :
   ∃ b off, p = some ⟨b, off, none⟩ ∧ b < W.heap.size ∧ W.cell? ⟨b, off + i * 2, none⟩ = some (.int .u8 x.1) ∧ W.cell? ⟨b, off + i * 2 + 1, none⟩ = some (.int .u8 x.2) := by
 obtain ⟨b, off, h1, h2, h3⟩ := h.at hi
 exact ⟨b, off, h1, h2, h3 0 _ rfl, h3 1 _ rfl⟩
theorem q_cells (a b : Int) (j : Nat) (u : Value) (h : (cQ (a, b))[j]? = some u) : (#[.int .i64 a, .int .i64 b] : Array Value)[j]? = some u := by
 have hj : j < 2 := (List.getElem?_eq_some_iff.1 h).1
 match j, hj with
 | 0, _ => exact h
 | 1, _ => exact h
theorem RdN.cell {W : World} {p : Option Addr} {n cp : Nat} {l : List Nat} (h : RdG cN 1 W (.slice p n cp) l) {i : Nat} {x : Nat} (hi : l[i]? = some x) :
   ∃ b off, p = some ⟨b, off, none⟩ ∧ b < W.heap.size ∧ W.cell? ⟨b, off + i, none⟩ = some (.int .i64 (x : Int)) := by
 obtain ⟨b, off, h1, h2, h3⟩ := h.at hi
 have := h3 0 _ rfl
 rw [Nat.mul_one, Nat.add_zero] at this
 exact ⟨b, off, h1, h2, this⟩
/-- The pairs so far. -/
structure PaL (w : World) (kk : Int) (l1 : List (Int × Int)) (i : Nat) (lv : Value) (wr : World) : Prop where
 o : wr.ownsRow w.heap.size 33 2 lv i (((l1.take i).map (pm kk)).flatMap cQ)
 e : Ext w wr
theorem PaL.ext {w wr W : World} {kk : Int} {l1 : List (Int × Int)} {i : Nat} {lv : Value} (h : PaL w kk l1 i lv wr) (e : Ext wr W) : PaL w kk l1 i lv W :=
 ⟨ownsRow_ext h.o e, h.e.trans e⟩
theorem PaL.step {w wr Y w2 : World} {kk : Int} {l1 : List (Int × Int)} {i : Nat} {lv v2 : Value} {x : Int × Int} (h : PaL w kk l1 i lv wr) (e : Ext wr Y) (hx : l1[i]? = some x)
   (o : w2.ownsRow w.heap.size 33 2 v2 (i + 1) (((l1.take i).map (pm kk) ++ [pm kk x]).flatMap cQ)) (g : Y.grownBy w2 lv.ownBlock) (_ : v2.ownBlock = lv.ownBlock ∨ v2.ownBlock = some Y.heap.size) : PaL w kk l1 (i + 1) v2 w2 := by
 have h' := h.ext e
 refine ⟨?_, ext_grownG h'.o (Nat.le_refl _) h'.e g⟩
 rw [take_at hx, List.map_append]
 exact o
/-- The pairs so far, and an empty row beside them. -/
structure PaS (w : World) (mb : Nat) (kk : Int) (l1 : List (Int × Int)) (i : Nat) (lv : Value) (wr : World) : Prop where
 o : wr.ownsRow w.heap.size 33 2 lv i (((l1.take i).map (pm kk)).flatMap cQ)
 m : wr.ownsRow w.heap.size 33 2 (.slice (some ⟨mb, 0, none⟩) 0 0) 0 []
 d : lv.ownBlock ≠ some mb
 e : Ext w wr
theorem PaS.ext {w wr W : World} {kk : Int} {l1 : List (Int × Int)} {mb i : Nat} {lv : Value} (h : PaS w mb kk l1 i lv wr) (e : Ext wr W) : PaS w mb kk l1 i lv W :=
 ⟨ownsRow_ext h.o e, ownsRow_ext h.m e, h.d, h.e.trans e⟩
theorem PaS.step {w wr Y w2 : World} {kk : Int} {l1 : List (Int × Int)} {mb i : Nat} {lv v2 : Value} {x : Int × Int} (h : PaS w mb kk l1 i lv wr) (e : Ext wr Y) (hx : l1[i]? = some x)
   (o : w2.ownsRow w.heap.size 33 2 v2 (i + 1) (((l1.take i).map (pm kk) ++ [pm kk x]).flatMap cQ)) (g : Y.grownBy w2 lv.ownBlock) (nb : v2.ownBlock = lv.ownBlock ∨ v2.ownBlock = some Y.heap.size) : PaS w mb kk l1 (i + 1) v2 w2 := by
 have h' := h.ext e
 refine ⟨?_, own_keep h'.m (fun k ek hk => g.block k hk (fun e2 => ?_)), fun e2 => ?_, ext_grownG h'.o (Nat.le_refl _) h'.e g⟩
 · rw [take_at hx, List.map_append]
   exact o
 · have e3 : mb = k := Option.some.inj ek
   exact h.d (by rw [← e2, e3])
 · rcases nb with nb | nb
   · exact h.d (nb ▸ e2)
   · rw [nb] at e2
     have e3 := Option.some.inj e2
     have := (h'.m.lt mb rfl).2
     omega
/-- What is made of raw pairs. -/
theorem pm_ok {m : Nat} (h0 : 0 < m) (l : List (Int × Int)) : (l.map (pm (m : Int))).all (okP (m : Int)) = true := by
 rw [List.all_eq_true]
 intro p hp
 obtain ⟨x, _, rfl⟩ := List.mem_map.1 hp
 have hz : (m : Int) ≠ 0 := by omega
 have hp : (0 : Int) < m := by omega
 have a1 := Int.emod_nonneg x.1 hz
 have a2 := Int.emod_lt_of_pos x.1 hp
 have a3 := Int.emod_nonneg x.2 hz
 have a4 := Int.emod_lt_of_pos x.2 hp
 unfold okP pm
 exact decide_eq_true ⟨a1, a2, a3, a4⟩
theorem ok_in {m : Nat} {L : List (Int × Int)} (h : L.all (okP (m : Int)) = true) : (∀ p ∈ L, 0 ≤ p.1 ∧ 0 ≤ p.2) ∧ ∀ p ∈ L.map nn, p.1 < m ∧ p.2 < m := by
 have hall : ∀ p ∈ L, 0 ≤ p.1 ∧ p.1 < (m : Int) ∧ 0 ≤ p.2 ∧ p.2 < (m : Int) := fun p hp => by
   have := List.all_eq_true.1 h p hp
   unfold okP at this
   simpa using this
 refine ⟨fun p hp => ⟨(hall p hp).1, (hall p hp).2.2.1⟩, fun q hq => ?_⟩
 obtain ⟨x, hx, rfl⟩ := List.mem_map.1 hq
 obtain ⟨a1, a2, a3, a4⟩ := hall x hx
 unfold nn
 exact ⟨by show x.1.toNat < m; omega, by show x.2.toNat < m; omega⟩
theorem SoP.ok {m : Nat} {L : List (Int × Int)} (h : L.all (okP (m : Int)) = true) (hm : m ≤ 4096) {o : List Nat} {gs : List Int} {er : Int} (s : SoP (m : Int) L o gs er) : er = 0 ∧ IsOrd (L.map nn) m o ∧ IsGrp (L.map nn) m gs := by
 unfold SoP at s
 rw [if_neg (by rw [h]; simp), if_neg (by omega), Int.toNat_natCast] at s
 exact s
theorem SoP.mk {m : Nat} {L : List (Int × Int)} (h : L.all (okP (m : Int)) = true) (hm : m ≤ 4096) {o : List Nat} {gs : List Int} (h1 : IsOrd (L.map nn) m o) (h2 : IsGrp (L.map nn) m gs) : SoP (m : Int) L o gs 0 := by
 unfold SoP
 rw [if_neg (by rw [h]; simp), if_neg (by omega), Int.toNat_natCast]
 exact ⟨rfl, h1, h2⟩

open Go.RowKit
set_option maxHeartbeats 6000000

set_option maxRecDepth 100000 in
theorem oall_walk (a0 : Int) (l1 : List (Int × Int)) (pp1 : Option Addr) (ln1 cl1 : Nat) {w : World} (w0 : (Lit.int .u8 a0).wf = true) (rd1 : RdG cU 2 w (.slice pp1 ln1 cl1) l1) (b1 : ∀ y ∈ l1, (0 ≤ y.1 ∧ y.1 ≤ 255) ∧ 0 ≤ y.2 ∧ y.2 ≤ 255) :
   Calls Try.prog 4 #[.int .u8 a0, .slice pp1 ln1 cl1] w fun e w' => e = .returned (.bool true) ∧ Ext w w' := by
 obtain ⟨h0, h1⟩ := u8_of_wf w0
 have hln := rd1.len
 subst hln
 obtain ⟨N, hN⟩ : ∃ N, l1.length = N := ⟨_, rfl⟩
 have HR : Hid (RdG cU 2 w (.slice pp1 l1.length cl1) l1 ∧ (∀ y ∈ l1, (0 ≤ y.1 ∧ y.1 ≤ 255) ∧ 0 ≤ y.2 ∧ y.2 ≤ 255)) := ⟨rd1, b1⟩
 have HN : Hid (l1.length = N) := hN
 rw [hN] at HR ⊢
 clear w0 rd1 b1 hN
 go_enter Try.func4, Try.ntmps4
 go_wp2_with fail
 obtain ⟨m, hK⟩ : ∃ m : Nat, 1 + a0 % 100 = (m : Int) := ⟨(1 + a0 % 100).toNat, by omega⟩
 have K1 : 0 < m := by omega
 have K2 : m ≤ 100 := by omega
 rw [hK]
 have H0 : Hid (PaL w (m : Int) l1 0 (.slice (some ⟨w.heap.size, 0, none⟩) 0 0) (w.alloc (.cells #[] 33))) := ⟨own_new w w (Nat.le_refl _), (Ext.refl w).alloc _⟩
 clear hK h0 h1
 go_loopw [7, 6] (fun x lv wr => ∃ i : Nat, x = .int .i64 (i : Int) ∧ i ≤ N ∧ i ≤ 400 ∧ PaL w (m : Int) l1 i lv wr) (fun x _ _ => N - (intOf x).toNat)
 case atStart => exact ⟨0, rfl, Nat.zero_le _, Nat.zero_le _, H0.out⟩
 case round =>
   clear H0
   obtain ⟨i, rfl, hi, hi4, hS⟩ := hrel
   have HS : Hid (PaL w (m : Int) l1 i u6 wr) := hS
   obtain ⟨wz, hwz⟩ : ∃ wz, wr = wz := ⟨_, rfl⟩
   subst hwz
   obtain ⟨bb, hbb⟩ : ∃ bb, decide (i < N ∧ i < 400) = bb := ⟨_, rfl⟩
   have HBB : Hid (decide (i < N ∧ i < 400) = bb) := hbb
   clear hbb
   go_upto_region 3 with fail
   go_cut [28] (fun v wx => v = .bool bb ∧ wx = wr)
   case first =>
     clear hS HS
     have hb := HBB.out
     by_cases hlt1 : i < N
     · have hltI : (i : Int) < (N : Int) := by omega
       by_cases hlt2 : i < 400
       · have hltJ : (i : Int) < 400 := by omega
         have hb2 : bb = true := by rw [← hb]; simp [hlt1, hlt2]
         clear hb
         subst hb2
         go_wp2_with fail
         go_meet
         case rel => exact ⟨rfl, rfl⟩
       · have hltJ : ¬ (i : Int) < 400 := by omega
         have hb2 : bb = false := by rw [← hb]; simp [hlt2]
         clear hb
         subst hb2
         go_wp2_with fail
         go_meet
         case rel => exact ⟨rfl, rfl⟩
     · have hltI : ¬ (i : Int) < (N : Int) := by omega
       have hb2 : bb = false := by rw [← hb]; simp [hlt1]
       clear hb
       subst hb2
       go_wp2_with fail
       go_meet
       case rel => exact ⟨rfl, rfl⟩
   case rest =>
     obtain ⟨rfl, hwc⟩ := hcut
     replace hwc := hwc.symm
     subst hwc
     cases bb
     · clear HBB
       clear HR
       obtain ⟨L, hL⟩ : ∃ L, (l1.take i).map (pm (m : Int)) = L := ⟨_, rfl⟩
       have hok : L.all (okP (m : Int)) = true := by rw [← hL]; exact pm_ok K1 _
       obtain ⟨lp, lc, rfl, _⟩ := own_form hS.o
       have hlen : L.length = i := by
         have := hS.o.1
         rw [hL, gm_len cQ_len] at this
         omega
       have HE : Hid (Ext w wr) := hS.e
       have HRd : Hid (RdG cQ 2 wr (.slice lp i lc) L) := by
         have := own_rdG cQ_len hS.o (by rw [hL, hlen])
         rwa [hL] at this
       have HL : Hid (L.length = i ∧ i ≤ 400 ∧ L.all (okP (m : Int)) = true ∧ 0 < m ∧ m ≤ 100) := ⟨hlen, hi4, hok, K1, K2⟩
       clear hS hL hok hlen HN
       go_wp2_with (at_builtin; refine app_g eltQ cQ_len cQ_one (by decide) _ wr _ _ _ _ 0 i [] (L) wr.heap.size rfl rfl (by rfl) (by rfl) (own_new wr wr (Nat.le_refl _)) (HL.out.1) (HRd.out.ext ((Ext.refl _).alloc _)) (by omega) ((Ext.refl wr).alloc _) (Nat.le_refl _) ((Ext.refl wr).alloc _).size ?_; intro v9 w9 O9 E9 _ _; have H9 : Hid (RdG cQ 2 w9 v9 (L) ∧ Ext wr w9) := ⟨own_rdG (l := L) cQ_len O9 (by rw [Nat.zero_add]; exact (HL.out.1).symm), E9⟩; clear O9 E9)
       refine (sort_any w9 _ L (m : Int) H9.out.1 (by have := HL.out; omega)).mono ?_
       rintro e w3 ⟨va, vg, o, gs, er, rfl, ho, hg, hp, e3⟩
       obtain ⟨rfl, hio, hig⟩ := hp.ok HL.out.2.2.1 (by have := HL.out; omega)
       obtain ⟨po, co, rfl, _⟩ := ho.form
       obtain ⟨pg, cg, rfl, _⟩ := hg.form
       have hol := hio.1
       have hgl := hig.1
       have HO : Hid (RdG cN 1 w3 (.slice po m co) o ∧ RdG cI 1 w3 (.slice pg m cg) gs ∧ IsOrd (L.map nn) m o ∧ IsGrp (L.map nn) m gs) := ⟨by have := ho; rwa [hol] at this, by have := hg; rwa [hgl] at this, hio, hig⟩
       have HE3 : Hid (Ext w w3) := HE.out.trans (H9.out.2.trans e3)
       have HL3 : Hid (RdG cM 2 w3 (.slice lp i lc) (L.map nn) ∧ (L.map nn).length = i ∧ ∀ p ∈ L.map nn, p.1 < m ∧ p.2 < m) := by
         refine ⟨?_, by rw [List.length_map]; exact HL.out.1, (ok_in HL.out.2.2.1).2⟩
         have := rd_nn (HRd.out.ext (H9.out.2.trans e3)) (ok_in HL.out.2.2.1).1
         exact this
       rw [hol, hgl]
       have mk := fun W => mk_int W m m (Nat.le_refl _) (by omega)
       have H4 : Hid ((w3.alloc (.cells (zI m) 3)).ownsRow w3.heap.size 3 1 (sl w3.heap.size m) m ((rng m (posF o 0)).flatMap cI)) := by
         show World.ownsRow _ _ _ _ _ _ _
         rw [pos_zero]
         exact mk_full (Nat.le_refl _) (by omega) hI 0 rfl
       clear ho hg hp e3 hio hig hol hgl HE HRd H9
       go_wp2_with fail
       go_loopw [12] (fun x wr => ∃ j : Nat, x = .int .i64 (j : Int) ∧ j ≤ m ∧ wr.ownsRow w3.heap.size 3 1 (sl w3.heap.size m) m ((rng m (posF o j)).flatMap cI) ∧ Ext w3 wr) (fun x _ => m - (intOf x).toNat)
       case atStart => exact ⟨0, rfl, Nat.zero_le _, H4.out, (Ext.refl _).alloc _⟩
       case round =>
         clear H4 mk
         obtain ⟨j, rfl, hj, hO, hE⟩ := hrel
         have HP : Hid (wr.ownsRow w3.heap.size 3 1 (sl w3.heap.size m) m ((rng m (posF o j)).flatMap cI) ∧ Ext w3 wr) := ⟨hO, hE⟩
         rcases Nat.lt_or_ge j m with hlt | hge
         · have hltI : (j : Int) < (m : Int) := by omega
           obtain ⟨x, hx⟩ : ∃ x, o[j]? = some x := ⟨_, List.getElem?_eq_getElem (by have := HO.out.2.2.1.1; omega)⟩
           have hxm : x < m := (HO.out.2.2.1.2 j x hx).1
           obtain ⟨ob, oo, rfl, -, c1⟩ := RdN.cell (HO.out.1.ext hE) hx
           obtain ⟨c2, c3⟩ := own_cell hI hO hxm
           rw [pos_new HO.out.2.2.1.2 hx] at c2
           unfold eI at c2
           have x0 : ¬ (x : Int) < 0 := by omega
           have x1 : ¬ (m : Int) ≤ (x : Int) := by omega
           have ix : (x : Int) < (m : Int) := by omega
           have HS : Hid ((wr.setCell ⟨w3.heap.size, x, none⟩ (.int .i64 ((j + 1 : Nat) : Int))).ownsRow w3.heap.size 3 1 (sl w3.heap.size m) m ((rng m (posF o (j + 1))).flatMap cI) ∧ j + 1 ≤ m) := by
             refine ⟨?_, hlt⟩
             rw [← pos_step HO.out.2.2.1.2 hx]
             exact own_put hI hO x (((j + 1 : Nat) : Int))
           have wj := wrapI j (by omega)
           have HM2 : Hid (j < m) := hlt
           clear hO hE hx hxm hj K1 K2 hi hi4 hlt
           go_wp2
           go_roundw
           case rel => exact ⟨j + 1, by rw [wj], HS.out.2, by have := HS.out.1; (try rw [wj]); exact this, by (try rw [wj]); exact HP.out.2.setCell (Nat.le_refl _) _⟩
           case measure => rw [wj]; clear wj; have := HM2.out; simp [intOf]; omega
         · have hltI : ¬ (j : Int) < (m : Int) := by omega
           have hjm : j = m := by omega
           subst hjm
           obtain ⟨wa, hwa⟩ : ∃ wa, wa = wr := ⟨_, rfl⟩
           subst hwa
           have HN2 : Hid ((L.map nn).length = i ∧ i ≤ 400 ∧ Ext w wa) := ⟨HL3.out.2.1, HL.out.2.1, HE3.out.trans hE⟩
           clear hO hE HE3 hltI hge hj
           go_wp2_with fail
           go_loopw [13] (fun x wq => ∃ t : Nat, x = .int .i64 (t : Int) ∧ t ≤ i ∧ Ext wa wq) (fun x _ => i - (intOf x).toNat)
           case atStart => exact ⟨0, rfl, Nat.zero_le _, Ext.refl _⟩
           case round =>
             obtain ⟨t, rfl, ht, hE⟩ := hrel
             have HE : Hid (Ext wa wr) := hE
             clear hE
             rcases Nat.lt_or_ge t i with hlt | hge
             · have hltI : (t : Int) < (i : Int) := by omega
               obtain ⟨z, hz⟩ : ∃ z, (L.map nn)[t]? = some z := ⟨_, List.getElem?_eq_getElem (by have := HN2.out; omega)⟩
               obtain ⟨x1, x2⟩ := z
               obtain ⟨hx1, hx2⟩ := HL3.out.2.2 _ (List.mem_of_getElem? hz)
               obtain ⟨lb, lo, rfl, -, c1, c2⟩ := RdM.cell (HL3.out.1.ext (HP.out.2.trans HE.out)) hz
               obtain ⟨y1, hy1⟩ : ∃ y, gs[x1]? = some y := ⟨_, List.getElem?_eq_getElem (by have := HO.out.2.2.2.1; omega)⟩
               obtain ⟨y2, hy2⟩ : ∃ y, gs[x2]? = some y := ⟨_, List.getElem?_eq_getElem (by have := HO.out.2.2.2.1; omega)⟩
               obtain ⟨gb, gq, rfl, -, -⟩ := RdI.cell HO.out.2.1 hy1
               obtain ⟨t1, ht1⟩ : ∃ y, posF o j x1 = y := ⟨_, rfl⟩
               obtain ⟨t2, ht2⟩ : ∃ y, posF o j x2 = y := ⟨_, rfl⟩
               obtain ⟨ab, hab⟩ : ∃ ab, w3.heap.size = ab := ⟨_, rfl⟩
               have HC : Hid (((y1 < 0 ∨ y1 ≠ y2) → t2 ≤ t1) ∧ (x1 = x2 → 0 ≤ y1)) := by
                 have hm := List.mem_of_getElem? hz
                 refine ⟨fun h => ?_, fun h => ?_⟩
                 · rw [← ht1, ← ht2]
                   exact all_first HO.out.2.2.1 HO.out.2.2.2 hx1 hx2 hm hy1 hy2 h
                 · subst h
                   exact all_self HO.out.2.2.2 hx1 hm hy1
               have i1 : (x1 : Int) < (j : Int) := by omega
               have i2 : (x2 : Int) < (j : Int) := by omega
               have HX : Hid (x1 < j ∧ x2 < j ∧ gs[x1]? = some y1 ∧ gs[x2]? = some y2 ∧ posF o j x1 = t1 ∧ posF o j x2 = t2 ∧ w3.heap.size = ab ∧ t + 1 ≤ i) := ⟨hx1, hx2, hy1, hy2, ht1, ht2, hab, hlt⟩
               rw [hab]
               clear hz hx1 hx2 hy1 hy2 ht1 ht2 hab
               have wt := wrapI t (by have := HN2.out; have := HX.out; omega)
               go_upto_region 19 with fail
               go_region
               go_upto_region 20 with fail
               clear c1 c2 K1 K2 hi hi4 hlt ht
               generalize hWq : World.drew _ = wy
               have HEq : Hid (Ext wa wy) := by rw [← hWq]; exact HE.out.drew
               have mkS : Hid (∀ V, Ext wy V → (fun V => V.cell? ⟨gb, gq + x1, none⟩ = some (.int .i64 y1) ∧ V.cell? ⟨gb, gq + x2, none⟩ = some (.int .i64 y2) ∧ V.cell? ⟨ab, x1, none⟩ = some (.int .i64 t1) ∧ V.cell? ⟨ab, x2, none⟩ = some (.int .i64 t2)) V) := fun V e => by
                 have eV := HEq.out.trans e
                 obtain ⟨b1, o1, e1, -, q1⟩ := RdI.cell (HO.out.2.1.ext (HP.out.2.trans eV)) HX.out.2.2.1
                 obtain ⟨b2, o2, e2, -, q2⟩ := RdI.cell (HO.out.2.1.ext (HP.out.2.trans eV)) HX.out.2.2.2.1
                 simp only [Option.some.injEq, Addr.mk.injEq, and_true] at e1 e2
                 obtain ⟨rfl, rfl⟩ := e1
                 obtain ⟨rfl, rfl⟩ := e2
                 have q3 := (own_cell hI (ownsRow_ext HP.out.1 eV) HX.out.1).1
                 have q4 := (own_cell hI (ownsRow_ext HP.out.1 eV) HX.out.2.1).1
                 unfold eI at q3 q4
                 rw [HX.out.2.2.2.2.1, HX.out.2.2.2.2.2.2.1] at q3
                 rw [HX.out.2.2.2.2.2.1, HX.out.2.2.2.2.2.2.1] at q4
                 exact ⟨q1, q2, q3, q4⟩
               clear hWq
               rcases Int.lt_or_le y1 0 with hy | hy
               · have e1 : decide (y1 < 0) = true := by simp [hy]
                 have hle := HC.out.1 (.inl hy)
                 have e2 : decide (t1 < t2) = false := by simp; omega
                 have e2' : ¬ t1 < t2 := by omega
                 have hne : x1 ≠ x2 := fun e => by have := HC.out.2 e; omega
                 have e3 : ((x1 : Int) == (x2 : Int)) = false := by simp; omega
                 clear hle hne
                 refine wp_region_held_drew (S := (fun V => V.cell? ⟨gb, gq + x1, none⟩ = some (.int .i64 y1) ∧ V.cell? ⟨gb, gq + x2, none⟩ = some (.int .i64 y2) ∧ V.cell? ⟨ab, x1, none⟩ = some (.int .i64 t1) ∧ V.cell? ⟨ab, x2, none⟩ = some (.int .i64 t2))) (by kernel_rfl) ?_ (fun hHeld0 => ?_)
                 · exact mkS.out _ (by with_reducible (repeat (first | assumption | exact Ext.refl _ | apply Ext.drew | apply Ext.drewN)))
                 refine wpAnyH_take (i := 0) (oi := ⟨some 128, .move (.tmp 9), 24, "law.go:68", #[], none⟩) (v := ?_) rfl (by kernel_rfl) (by kernel_rfl) (by kernel_rfl) (fun _ _ _ h => h) (Or.inl ⟨by rfl, ?_⟩) (by assumption) ?_
                 rotate_left
                 · intro w hSw; (try dsimp only at hSw); first | (go_simp; done) | (go_simp; with_reducible rfl)
                 try simp only [Act.put, List.setIfInBounds_toArray, List.set_cons_zero, List.set_cons_succ]
                 refine wpAnyH_take (i := 1) (oi := ⟨some 129, .move (.tmp 14), 3, "law.go:68", #[], none⟩) (v := ?_) rfl (by kernel_rfl) (by kernel_rfl) (by kernel_rfl) (fun _ _ _ h => h) (Or.inl ⟨by rfl, ?_⟩) (by assumption) ?_
                 rotate_left
                 · intro w hSw; (try dsimp only at hSw); first | (go_simp; done) | (go_simp; with_reducible rfl)
                 try simp only [Act.put, List.setIfInBounds_toArray, List.set_cons_zero, List.set_cons_succ]
                 refine wpAnyH_take (i := 2) (oi := ⟨some 130, .indexAddr 24 (.tmp 128) (.tmp 129), 0, "law.go:68", #[⟨0, .data⟩, ⟨1, .data⟩], none⟩) (v := ?_) rfl (by kernel_rfl) (by kernel_rfl) (by kernel_rfl) (fun _ _ _ h => h) (Or.inl ⟨by rfl, ?_⟩) (by assumption) ?_
                 rotate_left
                 · intro w hSw; (try dsimp only at hSw); first | (go_simp; done) | (go_simp; with_reducible rfl)
                 try simp only [Act.put, List.setIfInBounds_toArray, List.set_cons_zero, List.set_cons_succ]
                 refine wpAnyH_take (i := 3) (oi := ⟨some 131, .load 3 (.tmp 130), 3, "law.go:68", #[⟨2, .data⟩], none⟩) (v := ?_) rfl (by kernel_rfl) (by kernel_rfl) (by kernel_rfl) (fun _ _ _ h => h) (Or.inl ⟨by rfl, ?_⟩) (by assumption) ?_
                 rotate_left
                 · intro w hSw; (try dsimp only at hSw); first | (go_simp; done) | (go_simp; with_reducible rfl)
                 try simp only [Act.put, List.setIfInBounds_toArray, List.set_cons_zero, List.set_cons_succ]
                 refine wpAnyH_take (i := 4) (oi := ⟨some 132, .binOp .lss 3 (.tmp 131) (.const (.int .i64 0)) 3, 4, "law.go:68", #[⟨3, .data⟩], none⟩) (v := ?_) rfl (by kernel_rfl) (by kernel_rfl) (by kernel_rfl) (fun _ _ _ h => h) (Or.inl ⟨by rfl, ?_⟩) (by assumption) ?_
                 rotate_left
                 · intro w hSw; (try dsimp only at hSw); first | (go_simp; done) | (go_simp; with_reducible rfl)
                 try simp only [Act.put, List.setIfInBounds_toArray, List.set_cons_zero, List.set_cons_succ]
                 refine wpAnyH_take (i := 5) (oi := ⟨some 133, .move (.tmp 132), 4, "law.go:68", #[⟨4, .data⟩], none⟩) (v := ?_) rfl (by kernel_rfl) (by kernel_rfl) (by kernel_rfl) (fun _ _ _ h => h) (Or.inl ⟨by rfl, ?_⟩) (by assumption) ?_
                 rotate_left
                 · intro w hSw; (try dsimp only at hSw); first | (go_simp; done) | (go_simp; with_reducible rfl)
                 try simp only [Act.put, List.setIfInBounds_toArray, List.set_cons_zero, List.set_cons_succ]
                 refine wpAnyH_take (i := 6) (oi := ⟨some 134, .move (.tmp 9), 24, "law.go:68", #[⟨5, .guard⟩], some (5, false)⟩) (v := undef) rfl (by kernel_rfl) (by kernel_rfl) (by kernel_rfl) (fun _ _ _ h => h) (Or.inr ⟨by rfl, rfl⟩) (by assumption) ?_
                 try simp only [Act.put, List.setIfInBounds_toArray, List.set_cons_zero, List.set_cons_succ]
                 refine wpAnyH_take (i := 7) (oi := ⟨some 135, .move (.tmp 14), 3, "law.go:68", #[⟨5, .guard⟩], some (5, false)⟩) (v := undef) rfl (by kernel_rfl) (by kernel_rfl) (by kernel_rfl) (fun _ _ _ h => h) (Or.inr ⟨by rfl, rfl⟩) (by assumption) ?_
                 try simp only [Act.put, List.setIfInBounds_toArray, List.set_cons_zero, List.set_cons_succ]
                 refine wpAnyH_take (i := 8) (oi := ⟨some 136, .indexAddr 24 (.tmp 134) (.tmp 135), 0, "law.go:68", #[⟨6, .data⟩, ⟨7, .data⟩, ⟨5, .guard⟩], some (5, false)⟩) (v := undef) rfl (by kernel_rfl) (by kernel_rfl) (by kernel_rfl) (fun _ _ _ h => h) (Or.inr ⟨by rfl, rfl⟩) (by assumption) ?_
                 try simp only [Act.put, List.setIfInBounds_toArray, List.set_cons_zero, List.set_cons_succ]
                 refine wpAnyH_take (i := 9) (oi := ⟨some 137, .load 3 (.tmp 136), 3, "law.go:68", #[⟨8, .data⟩, ⟨5, .guard⟩], some (5, false)⟩) (v := undef) rfl (by kernel_rfl) (by kernel_rfl) (by kernel_rfl) (fun _ _ _ h => h) (Or.inr ⟨by rfl, rfl⟩) (by assumption) ?_
                 try simp only [Act.put, List.setIfInBounds_toArray, List.set_cons_zero, List.set_cons_succ]
                 refine wpAnyH_take (i := 10) (oi := ⟨some 138, .move (.tmp 9), 24, "law.go:68", #[⟨5, .guard⟩], some (5, false)⟩) (v := undef) rfl (by kernel_rfl) (by kernel_rfl) (by kernel_rfl) (fun _ _ _ h => h) (Or.inr ⟨by rfl, rfl⟩) (by assumption) ?_
                 try simp only [Act.put, List.setIfInBounds_toArray, List.set_cons_zero, List.set_cons_succ]
                 refine wpAnyH_take (i := 11) (oi := ⟨some 139, .move (.tmp 15), 3, "law.go:68", #[⟨5, .guard⟩], some (5, false)⟩) (v := undef) rfl (by kernel_rfl) (by kernel_rfl) (by kernel_rfl) (fun _ _ _ h => h) (Or.inr ⟨by rfl, rfl⟩) (by assumption) ?_
                 try simp only [Act.put, List.setIfInBounds_toArray, List.set_cons_zero, List.set_cons_succ]
                 refine wpAnyH_take (i := 12) (oi := ⟨some 140, .indexAddr 24 (.tmp 138) (.tmp 139), 0, "law.go:68", #[⟨10, .data⟩, ⟨11, .data⟩, ⟨5, .guard⟩], some (5, false)⟩) (v := undef) rfl (by kernel_rfl) (by kernel_rfl) (by kernel_rfl) (fun _ _ _ h => h) (Or.inr ⟨by rfl, rfl⟩) (by assumption) ?_
                 try simp only [Act.put, List.setIfInBounds_toArray, List.set_cons_zero, List.set_cons_succ]
                 refine wpAnyH_take (i := 13) (oi := ⟨some 141, .load 3 (.tmp 140), 3, "law.go:68", #[⟨12, .data⟩, ⟨5, .guard⟩], some (5, false)⟩) (v := undef) rfl (by kernel_rfl) (by kernel_rfl) (by kernel_rfl) (fun _ _ _ h => h) (Or.inr ⟨by rfl, rfl⟩) (by assumption) ?_
                 try simp only [Act.put, List.setIfInBounds_toArray, List.set_cons_zero, List.set_cons_succ]
                 refine wpAnyH_take (i := 14) (oi := ⟨some 142, .binOp .neq 3 (.tmp 137) (.tmp 141) 3, 4, "law.go:68", #[⟨9, .data⟩, ⟨13, .data⟩, ⟨5, .guard⟩], some (5, false)⟩) (v := undef) rfl (by kernel_rfl) (by kernel_rfl) (by kernel_rfl) (fun _ _ _ h => h) (Or.inr ⟨by rfl, rfl⟩) (by assumption) ?_
                 try simp only [Act.put, List.setIfInBounds_toArray, List.set_cons_zero, List.set_cons_succ]
                 refine wpAnyH_take (i := 15) (oi := ⟨some 143, .pick (.tmp 133) (.const (.bool true)) (.tmp 142), 4, "law.go:68", #[⟨5, .data⟩, ⟨14, .data⟩], none⟩) (v := ?_) rfl (by kernel_rfl) (by kernel_rfl) (by kernel_rfl) (fun _ _ _ h => h) (Or.inl ⟨by rfl, ?_⟩) (by assumption) ?_
                 rotate_left
                 · intro w hSw; (try dsimp only at hSw); first | (go_simp; done) | (go_simp; with_reducible rfl)
                 try simp only [Act.put, List.setIfInBounds_toArray, List.set_cons_zero, List.set_cons_succ]
                 refine wpAnyH_take (i := 16) (oi := ⟨some 144, .move (.tmp 143), 4, "law.go:68", #[⟨15, .data⟩, ⟨5, .chain⟩], none⟩) (v := ?_) rfl (by kernel_rfl) (by kernel_rfl) (by kernel_rfl) (fun _ _ _ h => h) (Or.inl ⟨by rfl, ?_⟩) (by assumption) ?_
                 rotate_left
                 · intro w hSw; (try dsimp only at hSw); first | (go_simp; done) | (go_simp; with_reducible rfl)
                 try simp only [Act.put, List.setIfInBounds_toArray, List.set_cons_zero, List.set_cons_succ]
                 refine wpAnyH_take (i := 17) (oi := ⟨some 145, .move (.tmp 11), 24, "law.go:68", #[⟨16, .guard⟩], some (16, true)⟩) (v := ?_) rfl (by kernel_rfl) (by kernel_rfl) (by kernel_rfl) (fun _ _ _ h => h) (Or.inl ⟨by rfl, ?_⟩) (by assumption) ?_
                 rotate_left
                 · intro w hSw; (try dsimp only at hSw); first | (go_simp; done) | (go_simp; with_reducible rfl)
                 try simp only [Act.put, List.setIfInBounds_toArray, List.set_cons_zero, List.set_cons_succ]
                 refine wpAnyH_take (i := 18) (oi := ⟨some 146, .move (.tmp 15), 3, "law.go:68", #[⟨16, .guard⟩], some (16, true)⟩) (v := ?_) rfl (by kernel_rfl) (by kernel_rfl) (by kernel_rfl) (fun _ _ _ h => h) (Or.inl ⟨by rfl, ?_⟩) (by assumption) ?_
                 rotate_left
                 · intro w hSw; (try dsimp only at hSw); first | (go_simp; done) | (go_simp; with_reducible rfl)
                 try simp only [Act.put, List.setIfInBounds_toArray, List.set_cons_zero, List.set_cons_succ]
                 refine wpAnyH_take (i := 19) (oi := ⟨some 147, .indexAddr 24 (.tmp 145) (.tmp 146), 0, "law.go:68", #[⟨17, .data⟩, ⟨18, .data⟩, ⟨16, .guard⟩], some (16, true)⟩) (v := ?_) rfl (by kernel_rfl) (by kernel_rfl) (by kernel_rfl) (fun _ _ _ h => h) (Or.inl ⟨by rfl, ?_⟩) (by assumption) ?_
                 rotate_left
                 · intro w hSw; (try dsimp only at hSw); first | (go_simp; done) | (go_simp; with_reducible rfl)
                 try simp only [Act.put, List.setIfInBounds_toArray, List.set_cons_zero, List.set_cons_succ]
                 refine wpAnyH_take (i := 20) (oi := ⟨some 148, .load 3 (.tmp 147), 3, "law.go:68", #[⟨19, .data⟩, ⟨16, .guard⟩], some (16, true)⟩) (v := ?_) rfl (by kernel_rfl) (by kernel_rfl) (by kernel_rfl) (fun _ _ _ h => h) (Or.inl ⟨by rfl, ?_⟩) (by assumption) ?_
                 rotate_left
                 · intro w hSw; (try dsimp only at hSw); first | (go_simp; done) | (go_simp; with_reducible rfl)
                 try simp only [Act.put, List.setIfInBounds_toArray, List.set_cons_zero, List.set_cons_succ]
                 refine wpAnyH_take (i := 21) (oi := ⟨some 149, .move (.tmp 11), 24, "law.go:68", #[⟨16, .guard⟩], some (16, true)⟩) (v := ?_) rfl (by kernel_rfl) (by kernel_rfl) (by kernel_rfl) (fun _ _ _ h => h) (Or.inl ⟨by rfl, ?_⟩) (by assumption) ?_
                 rotate_left
                 · intro w hSw; (try dsimp only at hSw); first | (go_simp; done) | (go_simp; with_reducible rfl)
                 try simp only [Act.put, List.setIfInBounds_toArray, List.set_cons_zero, List.set_cons_succ]
                 refine wpAnyH_take (i := 22) (oi := ⟨some 150, .move (.tmp 14), 3, "law.go:68", #[⟨16, .guard⟩], some (16, true)⟩) (v := ?_) rfl (by kernel_rfl) (by kernel_rfl) (by kernel_rfl) (fun _ _ _ h => h) (Or.inl ⟨by rfl, ?_⟩) (by assumption) ?_
                 rotate_left
                 · intro w hSw; (try dsimp only at hSw); first | (go_simp; done) | (go_simp; with_reducible rfl)
                 try simp only [Act.put, List.setIfInBounds_toArray, List.set_cons_zero, List.set_cons_succ]
                 refine wpAnyH_take (i := 23) (oi := ⟨some 151, .indexAddr 24 (.tmp 149) (.tmp 150), 0, "law.go:68", #[⟨21, .data⟩, ⟨22, .data⟩, ⟨16, .guard⟩], some (16, true)⟩) (v := ?_) rfl (by kernel_rfl) (by kernel_rfl) (by kernel_rfl) (fun _ _ _ h => h) (Or.inl ⟨by rfl, ?_⟩) (by assumption) ?_
                 rotate_left
                 · intro w hSw; (try dsimp only at hSw); first | (go_simp; done) | (go_simp; with_reducible rfl)
                 try simp only [Act.put, List.setIfInBounds_toArray, List.set_cons_zero, List.set_cons_succ]
                 refine wpAnyH_take (i := 24) (oi := ⟨some 152, .load 3 (.tmp 151), 3, "law.go:68", #[⟨23, .data⟩, ⟨16, .guard⟩], some (16, true)⟩) (v := ?_) rfl (by kernel_rfl) (by kernel_rfl) (by kernel_rfl) (fun _ _ _ h => h) (Or.inl ⟨by rfl, ?_⟩) (by assumption) ?_
                 rotate_left
                 · intro w hSw; (try dsimp only at hSw); first | (go_simp; done) | (go_simp; with_reducible rfl)
                 try simp only [Act.put, List.setIfInBounds_toArray, List.set_cons_zero, List.set_cons_succ]
                 refine wpAnyH_take (i := 25) (oi := ⟨some 153, .binOp .gtr 3 (.tmp 148) (.tmp 152) 3, 4, "law.go:68", #[⟨20, .data⟩, ⟨24, .data⟩, ⟨16, .guard⟩], some (16, true)⟩) (v := ?_) rfl (by kernel_rfl) (by kernel_rfl) (by kernel_rfl) (fun _ _ _ h => h) (Or.inl ⟨by rfl, ?_⟩) (by assumption) ?_
                 rotate_left
                 · intro w hSw; (try dsimp only at hSw); first | (go_simp; done) | (go_simp; with_reducible rfl)
                 try simp only [Act.put, List.setIfInBounds_toArray, List.set_cons_zero, List.set_cons_succ]
                 refine wpAnyH_take (i := 26) (oi := ⟨some 154, .pick (.tmp 144) (.tmp 153) (.const (.bool false)), 4, "law.go:68", #[⟨16, .data⟩, ⟨25, .data⟩], none⟩) (v := ?_) rfl (by kernel_rfl) (by kernel_rfl) (by kernel_rfl) (fun _ _ _ h => h) (Or.inl ⟨by rfl, ?_⟩) (by assumption) ?_
                 rotate_left
                 · intro w hSw; (try dsimp only at hSw); first | (go_simp; done) | (go_simp; with_reducible rfl)
                 try simp only [Act.put, List.setIfInBounds_toArray, List.set_cons_zero, List.set_cons_succ]
                 refine wpAnyH_take (i := 27) (oi := ⟨some 155, .move (.tmp 154), 4, "law.go:68", #[⟨26, .data⟩, ⟨16, .chain⟩], none⟩) (v := ?_) rfl (by kernel_rfl) (by kernel_rfl) (by kernel_rfl) (fun _ _ _ h => h) (Or.inl ⟨by rfl, ?_⟩) (by assumption) ?_
                 rotate_left
                 · intro w hSw; (try dsimp only at hSw); first | (go_simp; done) | (go_simp; with_reducible rfl)
                 try simp only [Act.put, List.setIfInBounds_toArray, List.set_cons_zero, List.set_cons_succ]
                 refine wpAnyH_take (i := 28) (oi := ⟨some 156, .move (.tmp 14), 3, "law.go:68", #[⟨27, .guard⟩], some (27, false)⟩) (v := ?_) rfl (by kernel_rfl) (by kernel_rfl) (by kernel_rfl) (fun _ _ _ h => h) (Or.inl ⟨by rfl, ?_⟩) (by assumption) ?_
                 rotate_left
                 · intro w hSw; (try dsimp only at hSw); first | (go_simp; done) | (go_simp; with_reducible rfl)
                 try simp only [Act.put, List.setIfInBounds_toArray, List.set_cons_zero, List.set_cons_succ]
                 refine wpAnyH_take (i := 29) (oi := ⟨some 157, .move (.tmp 15), 3, "law.go:68", #[⟨27, .guard⟩], some (27, false)⟩) (v := ?_) rfl (by kernel_rfl) (by kernel_rfl) (by kernel_rfl) (fun _ _ _ h => h) (Or.inl ⟨by rfl, ?_⟩) (by assumption) ?_
                 rotate_left
                 · intro w hSw; (try dsimp only at hSw); first | (go_simp; done) | (go_simp; with_reducible rfl)
                 try simp only [Act.put, List.setIfInBounds_toArray, List.set_cons_zero, List.set_cons_succ]
                 refine wpAnyH_take (i := 30) (oi := ⟨some 158, .binOp .eql 3 (.tmp 156) (.tmp 157) 3, 4, "law.go:68", #[⟨28, .data⟩, ⟨29, .data⟩, ⟨27, .guard⟩], some (27, false)⟩) (v := ?_) rfl (by kernel_rfl) (by kernel_rfl) (by kernel_rfl) (fun _ _ _ h => h) (Or.inl ⟨by rfl, ?_⟩) (by assumption) ?_
                 rotate_left
                 · intro w hSw; (try dsimp only at hSw); first | (go_simp; done) | (go_simp; with_reducible rfl)
                 try simp only [Act.put, List.setIfInBounds_toArray, List.set_cons_zero, List.set_cons_succ]
                 refine wpAnyH_take (i := 31) (oi := ⟨some 159, .move (.tmp 158), 4, "law.go:68", #[⟨30, .data⟩, ⟨27, .chain⟩, ⟨27, .guard⟩], some (27, false)⟩) (v := ?_) rfl (by kernel_rfl) (by kernel_rfl) (by kernel_rfl) (fun _ _ _ h => h) (Or.inl ⟨by rfl, ?_⟩) (by assumption) ?_
                 rotate_left
                 · intro w hSw; (try dsimp only at hSw); first | (go_simp; done) | (go_simp; with_reducible rfl)
                 try simp only [Act.put, List.setIfInBounds_toArray, List.set_cons_zero, List.set_cons_succ]
                 refine wpAnyH_take (i := 32) (oi := ⟨some 160, .move (.tmp 9), 24, "law.go:68", #[⟨31, .guard⟩], some (31, true)⟩) (v := undef) rfl (by kernel_rfl) (by kernel_rfl) (by kernel_rfl) (fun _ _ _ h => h) (Or.inr ⟨by rfl, rfl⟩) (by assumption) ?_
                 try simp only [Act.put, List.setIfInBounds_toArray, List.set_cons_zero, List.set_cons_succ]
                 refine wpAnyH_take (i := 33) (oi := ⟨some 161, .move (.tmp 14), 3, "law.go:68", #[⟨31, .guard⟩], some (31, true)⟩) (v := undef) rfl (by kernel_rfl) (by kernel_rfl) (by kernel_rfl) (fun _ _ _ h => h) (Or.inr ⟨by rfl, rfl⟩) (by assumption) ?_
                 try simp only [Act.put, List.setIfInBounds_toArray, List.set_cons_zero, List.set_cons_succ]
                 refine wpAnyH_take (i := 34) (oi := ⟨some 162, .indexAddr 24 (.tmp 160) (.tmp 161), 0, "law.go:68", #[⟨32, .data⟩, ⟨33, .data⟩, ⟨31, .guard⟩], some (31, true)⟩) (v := undef) rfl (by kernel_rfl) (by kernel_rfl) (by kernel_rfl) (fun _ _ _ h => h) (Or.inr ⟨by rfl, rfl⟩) (by assumption) ?_
                 try simp only [Act.put, List.setIfInBounds_toArray, List.set_cons_zero, List.set_cons_succ]
                 refine wpAnyH_take (i := 35) (oi := ⟨some 163, .load 3 (.tmp 162), 3, "law.go:68", #[⟨34, .data⟩, ⟨31, .guard⟩], some (31, true)⟩) (v := undef) rfl (by kernel_rfl) (by kernel_rfl) (by kernel_rfl) (fun _ _ _ h => h) (Or.inr ⟨by rfl, rfl⟩) (by assumption) ?_
                 try simp only [Act.put, List.setIfInBounds_toArray, List.set_cons_zero, List.set_cons_succ]
                 refine wpAnyH_take (i := 36) (oi := ⟨some 164, .binOp .lss 3 (.tmp 163) (.const (.int .i64 0)) 3, 4, "law.go:68", #[⟨35, .data⟩, ⟨31, .guard⟩], some (31, true)⟩) (v := undef) rfl (by kernel_rfl) (by kernel_rfl) (by kernel_rfl) (fun _ _ _ h => h) (Or.inr ⟨by rfl, rfl⟩) (by assumption) ?_
                 try simp only [Act.put, List.setIfInBounds_toArray, List.set_cons_zero, List.set_cons_succ]
                 refine wpAnyH_take (i := 37) (oi := ⟨some 165, .pick (.tmp 159) (.tmp 164) (.const (.bool false)), 4, "law.go:68", #[⟨31, .data⟩, ⟨36, .data⟩, ⟨27, .guard⟩], some (27, false)⟩) (v := ?_) rfl (by kernel_rfl) (by kernel_rfl) (by kernel_rfl) (fun _ _ _ h => h) (Or.inl ⟨by rfl, ?_⟩) (by assumption) ?_
                 rotate_left
                 · intro w hSw; (try dsimp only at hSw); first | (go_simp; done) | (go_simp; with_reducible rfl)
                 try simp only [Act.put, List.setIfInBounds_toArray, List.set_cons_zero, List.set_cons_succ]
                 refine wpAnyH_take (i := 38) (oi := ⟨some 166, .pick (.tmp 155) (.const (.bool true)) (.tmp 165), 4, "law.go:68", #[⟨27, .data⟩, ⟨37, .data⟩], none⟩) (v := ?_) rfl (by kernel_rfl) (by kernel_rfl) (by kernel_rfl) (fun _ _ _ h => h) (Or.inl ⟨by rfl, ?_⟩) (by assumption) ?_
                 rotate_left
                 · intro w hSw; (try dsimp only at hSw); first | (go_simp; done) | (go_simp; with_reducible rfl)
                 try simp only [Act.put, List.setIfInBounds_toArray, List.set_cons_zero, List.set_cons_succ]
                 refine wpAnyH_done (by kernel_rfl) ?_ _
                 go_wp2_with fail
                 go_roundw
                 case rel => exact ⟨t + 1, by rw [wt], HX.out.2.2.2.2.2.2.2, (by first | exact HEq.out.drew | exact HEq.out | exact HEq.out.drewN _)⟩
                 case measure => rw [wt]; clear wt; have := HX.out.2.2.2.2.2.2.2; simp [intOf]; omega
               · have e1 : decide (y1 < 0) = false := by simp; omega
                 have e1' : ¬ y1 < 0 := by omega
                 by_cases hyy : y1 = y2
                 · have e2 : (y1 != y2) = false := by simp [hyy]
                   by_cases hxx : x1 = x2
                   · have e3 : ((x1 : Int) == (x2 : Int)) = true := by simp [hxx]
                     clear hyy hxx
                     refine wp_region_held_drew (S := (fun V => V.cell? ⟨gb, gq + x1, none⟩ = some (.int .i64 y1) ∧ V.cell? ⟨gb, gq + x2, none⟩ = some (.int .i64 y2) ∧ V.cell? ⟨ab, x1, none⟩ = some (.int .i64 t1) ∧ V.cell? ⟨ab, x2, none⟩ = some (.int .i64 t2))) (by kernel_rfl) ?_ (fun hHeld0 => ?_)
                     · exact mkS.out _ (by with_reducible (repeat (first | assumption | exact Ext.refl _ | apply Ext.drew | apply Ext.drewN)))
                     refine wpAnyH_take (i := 0) (oi := ⟨some 128, .move (.tmp 9), 24, "law.go:68", #[], none⟩) (v := ?_) rfl (by kernel_rfl) (by kernel_rfl) (by kernel_rfl) (fun _ _ _ h => h) (Or.inl ⟨by rfl, ?_⟩) (by assumption) ?_
                     rotate_left
                     · intro w hSw; (try dsimp only at hSw); first | (go_simp; done) | (go_simp; with_reducible rfl)
                     try simp only [Act.put, List.setIfInBounds_toArray, List.set_cons_zero, List.set_cons_succ]
                     refine wpAnyH_take (i := 1) (oi := ⟨some 129, .move (.tmp 14), 3, "law.go:68", #[], none⟩) (v := ?_) rfl (by kernel_rfl) (by kernel_rfl) (by kernel_rfl) (fun _ _ _ h => h) (Or.inl ⟨by rfl, ?_⟩) (by assumption) ?_
                     rotate_left
                     · intro w hSw; (try dsimp only at hSw); first | (go_simp; done) | (go_simp; with_reducible rfl)
                     try simp only [Act.put, List.setIfInBounds_toArray, List.set_cons_zero, List.set_cons_succ]
                     refine wpAnyH_take (i := 2) (oi := ⟨some 130, .indexAddr 24 (.tmp 128) (.tmp 129), 0, "law.go:68", #[⟨0, .data⟩, ⟨1, .data⟩], none⟩) (v := ?_) rfl (by kernel_rfl) (by kernel_rfl) (by kernel_rfl) (fun _ _ _ h => h) (Or.inl ⟨by rfl, ?_⟩) (by assumption) ?_
                     rotate_left
                     · intro w hSw; (try dsimp only at hSw); first | (go_simp; done) | (go_simp; with_reducible rfl)
                     try simp only [Act.put, List.setIfInBounds_toArray, List.set_cons_zero, List.set_cons_succ]
                     refine wpAnyH_take (i := 3) (oi := ⟨some 131, .load 3 (.tmp 130), 3, "law.go:68", #[⟨2, .data⟩], none⟩) (v := ?_) rfl (by kernel_rfl) (by kernel_rfl) (by kernel_rfl) (fun _ _ _ h => h) (Or.inl ⟨by rfl, ?_⟩) (by assumption) ?_
                     rotate_left
                     · intro w hSw; (try dsimp only at hSw); first | (go_simp; done) | (go_simp; with_reducible rfl)
                     try simp only [Act.put, List.setIfInBounds_toArray, List.set_cons_zero, List.set_cons_succ]
                     refine wpAnyH_take (i := 4) (oi := ⟨some 132, .binOp .lss 3 (.tmp 131) (.const (.int .i64 0)) 3, 4, "law.go:68", #[⟨3, .data⟩], none⟩) (v := ?_) rfl (by kernel_rfl) (by kernel_rfl) (by kernel_rfl) (fun _ _ _ h => h) (Or.inl ⟨by rfl, ?_⟩) (by assumption) ?_
                     rotate_left
                     · intro w hSw; (try dsimp only at hSw); first | (go_simp; done) | (go_simp; with_reducible rfl)
                     try simp only [Act.put, List.setIfInBounds_toArray, List.set_cons_zero, List.set_cons_succ]
                     refine wpAnyH_take (i := 5) (oi := ⟨some 133, .move (.tmp 132), 4, "law.go:68", #[⟨4, .data⟩], none⟩) (v := ?_) rfl (by kernel_rfl) (by kernel_rfl) (by kernel_rfl) (fun _ _ _ h => h) (Or.inl ⟨by rfl, ?_⟩) (by assumption) ?_
                     rotate_left
                     · intro w hSw; (try dsimp only at hSw); first | (go_simp; done) | (go_simp; with_reducible rfl)
                     try simp only [Act.put, List.setIfInBounds_toArray, List.set_cons_zero, List.set_cons_succ]
                     refine wpAnyH_take (i := 6) (oi := ⟨some 134, .move (.tmp 9), 24, "law.go:68", #[⟨5, .guard⟩], some (5, false)⟩) (v := ?_) rfl (by kernel_rfl) (by kernel_rfl) (by kernel_rfl) (fun _ _ _ h => h) (Or.inl ⟨by rfl, ?_⟩) (by assumption) ?_
                     rotate_left
                     · intro w hSw; (try dsimp only at hSw); first | (go_simp; done) | (go_simp; with_reducible rfl)
                     try simp only [Act.put, List.setIfInBounds_toArray, List.set_cons_zero, List.set_cons_succ]
                     refine wpAnyH_take (i := 7) (oi := ⟨some 135, .move (.tmp 14), 3, "law.go:68", #[⟨5, .guard⟩], some (5, false)⟩) (v := ?_) rfl (by kernel_rfl) (by kernel_rfl) (by kernel_rfl) (fun _ _ _ h => h) (Or.inl ⟨by rfl, ?_⟩) (by assumption) ?_
                     rotate_left
                     · intro w hSw; (try dsimp only at hSw); first | (go_simp; done) | (go_simp; with_reducible rfl)
                     try simp only [Act.put, List.setIfInBounds_toArray, List.set_cons_zero, List.set_cons_succ]
                     refine wpAnyH_take (i := 8) (oi := ⟨some 136, .indexAddr 24 (.tmp 134) (.tmp 135), 0, "law.go:68", #[⟨6, .data⟩, ⟨7, .data⟩, ⟨5, .guard⟩], some (5, false)⟩) (v := ?_) rfl (by kernel_rfl) (by kernel_rfl) (by kernel_rfl) (fun _ _ _ h => h) (Or.inl ⟨by rfl, ?_⟩) (by assumption) ?_
                     rotate_left
                     · intro w hSw; (try dsimp only at hSw); first | (go_simp; done) | (go_simp; with_reducible rfl)
                     try simp only [Act.put, List.setIfInBounds_toArray, List.set_cons_zero, List.set_cons_succ]
                     refine wpAnyH_take (i := 9) (oi := ⟨some 137, .load 3 (.tmp 136), 3, "law.go:68", #[⟨8, .data⟩, ⟨5, .guard⟩], some (5, false)⟩) (v := ?_) rfl (by kernel_rfl) (by kernel_rfl) (by kernel_rfl) (fun _ _ _ h => h) (Or.inl ⟨by rfl, ?_⟩) (by assumption) ?_
                     rotate_left
                     · intro w hSw; (try dsimp only at hSw); first | (go_simp; done) | (go_simp; with_reducible rfl)
                     try simp only [Act.put, List.setIfInBounds_toArray, List.set_cons_zero, List.set_cons_succ]
                     refine wpAnyH_take (i := 10) (oi := ⟨some 138, .move (.tmp 9), 24, "law.go:68", #[⟨5, .guard⟩], some (5, false)⟩) (v := ?_) rfl (by kernel_rfl) (by kernel_rfl) (by kernel_rfl) (fun _ _ _ h => h) (Or.inl ⟨by rfl, ?_⟩) (by assumption) ?_
                     rotate_left
                     · intro w hSw; (try dsimp only at hSw); first | (go_simp; done) | (go_simp; with_reducible rfl)
                     try simp only [Act.put, List.setIfInBounds_toArray, List.set_cons_zero, List.set_cons_succ]
                     refine wpAnyH_take (i := 11) (oi := ⟨some 139, .move (.tmp 15), 3, "law.go:68", #[⟨5, .guard⟩], some (5, false)⟩) (v := ?_) rfl (by kernel_rfl) (by kernel_rfl) (by kernel_rfl) (fun _ _ _ h => h) (Or.inl ⟨by rfl, ?_⟩) (by assumption) ?_
                     rotate_left
                     · intro w hSw; (try dsimp only at hSw); first | (go_simp; done) | (go_simp; with_reducible rfl)
                     try simp only [Act.put, List.setIfInBounds_toArray, List.set_cons_zero, List.set_cons_succ]
                     refine wpAnyH_take (i := 12) (oi := ⟨some 140, .indexAddr 24 (.tmp 138) (.tmp 139), 0, "law.go:68", #[⟨10, .data⟩, ⟨11, .data⟩, ⟨5, .guard⟩], some (5, false)⟩) (v := ?_) rfl (by kernel_rfl) (by kernel_rfl) (by kernel_rfl) (fun _ _ _ h => h) (Or.inl ⟨by rfl, ?_⟩) (by assumption) ?_
                     rotate_left
                     · intro w hSw; (try dsimp only at hSw); first | (go_simp; done) | (go_simp; with_reducible rfl)
                     try simp only [Act.put, List.setIfInBounds_toArray, List.set_cons_zero, List.set_cons_succ]
                     refine wpAnyH_take (i := 13) (oi := ⟨some 141, .load 3 (.tmp 140), 3, "law.go:68", #[⟨12, .data⟩, ⟨5, .guard⟩], some (5, false)⟩) (v := ?_) rfl (by kernel_rfl) (by kernel_rfl) (by kernel_rfl) (fun _ _ _ h => h) (Or.inl ⟨by rfl, ?_⟩) (by assumption) ?_
                     rotate_left
                     · intro w hSw; (try dsimp only at hSw); first | (go_simp; done) | (go_simp; with_reducible rfl)
                     try simp only [Act.put, List.setIfInBounds_toArray, List.set_cons_zero, List.set_cons_succ]
                     refine wpAnyH_take (i := 14) (oi := ⟨some 142, .binOp .neq 3 (.tmp 137) (.tmp 141) 3, 4, "law.go:68", #[⟨9, .data⟩, ⟨13, .data⟩, ⟨5, .guard⟩], some (5, false)⟩) (v := ?_) rfl (by kernel_rfl) (by kernel_rfl) (by kernel_rfl) (fun _ _ _ h => h) (Or.inl ⟨by rfl, ?_⟩) (by assumption) ?_
                     rotate_left
                     · intro w hSw; (try dsimp only at hSw); first | (go_simp; done) | (go_simp; with_reducible rfl)
                     try simp only [Act.put, List.setIfInBounds_toArray, List.set_cons_zero, List.set_cons_succ]
                     refine wpAnyH_take (i := 15) (oi := ⟨some 143, .pick (.tmp 133) (.const (.bool true)) (.tmp 142), 4, "law.go:68", #[⟨5, .data⟩, ⟨14, .data⟩], none⟩) (v := ?_) rfl (by kernel_rfl) (by kernel_rfl) (by kernel_rfl) (fun _ _ _ h => h) (Or.inl ⟨by rfl, ?_⟩) (by assumption) ?_
                     rotate_left
                     · intro w hSw; (try dsimp only at hSw); first | (go_simp; done) | (go_simp; with_reducible rfl)
                     try simp only [Act.put, List.setIfInBounds_toArray, List.set_cons_zero, List.set_cons_succ]
                     refine wpAnyH_take (i := 16) (oi := ⟨some 144, .move (.tmp 143), 4, "law.go:68", #[⟨15, .data⟩, ⟨5, .chain⟩], none⟩) (v := ?_) rfl (by kernel_rfl) (by kernel_rfl) (by kernel_rfl) (fun _ _ _ h => h) (Or.inl ⟨by rfl, ?_⟩) (by assumption) ?_
                     rotate_left
                     · intro w hSw; (try dsimp only at hSw); first | (go_simp; done) | (go_simp; with_reducible rfl)
                     try simp only [Act.put, List.setIfInBounds_toArray, List.set_cons_zero, List.set_cons_succ]
                     refine wpAnyH_take (i := 17) (oi := ⟨some 145, .move (.tmp 11), 24, "law.go:68", #[⟨16, .guard⟩], some (16, true)⟩) (v := undef) rfl (by kernel_rfl) (by kernel_rfl) (by kernel_rfl) (fun _ _ _ h => h) (Or.inr ⟨by rfl, rfl⟩) (by assumption) ?_
                     try simp only [Act.put, List.setIfInBounds_toArray, List.set_cons_zero, List.set_cons_succ]
                     refine wpAnyH_take (i := 18) (oi := ⟨some 146, .move (.tmp 15), 3, "law.go:68", #[⟨16, .guard⟩], some (16, true)⟩) (v := undef) rfl (by kernel_rfl) (by kernel_rfl) (by kernel_rfl) (fun _ _ _ h => h) (Or.inr ⟨by rfl, rfl⟩) (by assumption) ?_
                     try simp only [Act.put, List.setIfInBounds_toArray, List.set_cons_zero, List.set_cons_succ]
                     refine wpAnyH_take (i := 19) (oi := ⟨some 147, .indexAddr 24 (.tmp 145) (.tmp 146), 0, "law.go:68", #[⟨17, .data⟩, ⟨18, .data⟩, ⟨16, .guard⟩], some (16, true)⟩) (v := undef) rfl (by kernel_rfl) (by kernel_rfl) (by kernel_rfl) (fun _ _ _ h => h) (Or.inr ⟨by rfl, rfl⟩) (by assumption) ?_
                     try simp only [Act.put, List.setIfInBounds_toArray, List.set_cons_zero, List.set_cons_succ]
                     refine wpAnyH_take (i := 20) (oi := ⟨some 148, .load 3 (.tmp 147), 3, "law.go:68", #[⟨19, .data⟩, ⟨16, .guard⟩], some (16, true)⟩) (v := undef) rfl (by kernel_rfl) (by kernel_rfl) (by kernel_rfl) (fun _ _ _ h => h) (Or.inr ⟨by rfl, rfl⟩) (by assumption) ?_
                     try simp only [Act.put, List.setIfInBounds_toArray, List.set_cons_zero, List.set_cons_succ]
                     refine wpAnyH_take (i := 21) (oi := ⟨some 149, .move (.tmp 11), 24, "law.go:68", #[⟨16, .guard⟩], some (16, true)⟩) (v := undef) rfl (by kernel_rfl) (by kernel_rfl) (by kernel_rfl) (fun _ _ _ h => h) (Or.inr ⟨by rfl, rfl⟩) (by assumption) ?_
                     try simp only [Act.put, List.setIfInBounds_toArray, List.set_cons_zero, List.set_cons_succ]
                     refine wpAnyH_take (i := 22) (oi := ⟨some 150, .move (.tmp 14), 3, "law.go:68", #[⟨16, .guard⟩], some (16, true)⟩) (v := undef) rfl (by kernel_rfl) (by kernel_rfl) (by kernel_rfl) (fun _ _ _ h => h) (Or.inr ⟨by rfl, rfl⟩) (by assumption) ?_
                     try simp only [Act.put, List.setIfInBounds_toArray, List.set_cons_zero, List.set_cons_succ]
                     refine wpAnyH_take (i := 23) (oi := ⟨some 151, .indexAddr 24 (.tmp 149) (.tmp 150), 0, "law.go:68", #[⟨21, .data⟩, ⟨22, .data⟩, ⟨16, .guard⟩], some (16, true)⟩) (v := undef) rfl (by kernel_rfl) (by kernel_rfl) (by kernel_rfl) (fun _ _ _ h => h) (Or.inr ⟨by rfl, rfl⟩) (by assumption) ?_
                     try simp only [Act.put, List.setIfInBounds_toArray, List.set_cons_zero, List.set_cons_succ]
                     refine wpAnyH_take (i := 24) (oi := ⟨some 152, .load 3 (.tmp 151), 3, "law.go:68", #[⟨23, .data⟩, ⟨16, .guard⟩], some (16, true)⟩) (v := undef) rfl (by kernel_rfl) (by kernel_rfl) (by kernel_rfl) (fun _ _ _ h => h) (Or.inr ⟨by rfl, rfl⟩) (by assumption) ?_
                     try simp only [Act.put, List.setIfInBounds_toArray, List.set_cons_zero, List.set_cons_succ]
                     refine wpAnyH_take (i := 25) (oi := ⟨some 153, .binOp .gtr 3 (.tmp 148) (.tmp 152) 3, 4, "law.go:68", #[⟨20, .data⟩, ⟨24, .data⟩, ⟨16, .guard⟩], some (16, true)⟩) (v := undef) rfl (by kernel_rfl) (by kernel_rfl) (by kernel_rfl) (fun _ _ _ h => h) (Or.inr ⟨by rfl, rfl⟩) (by assumption) ?_
                     try simp only [Act.put, List.setIfInBounds_toArray, List.set_cons_zero, List.set_cons_succ]
                     refine wpAnyH_take (i := 26) (oi := ⟨some 154, .pick (.tmp 144) (.tmp 153) (.const (.bool false)), 4, "law.go:68", #[⟨16, .data⟩, ⟨25, .data⟩], none⟩) (v := ?_) rfl (by kernel_rfl) (by kernel_rfl) (by kernel_rfl) (fun _ _ _ h => h) (Or.inl ⟨by rfl, ?_⟩) (by assumption) ?_
                     rotate_left
                     · intro w hSw; (try dsimp only at hSw); first | (go_simp; done) | (go_simp; with_reducible rfl)
                     try simp only [Act.put, List.setIfInBounds_toArray, List.set_cons_zero, List.set_cons_succ]
                     refine wpAnyH_take (i := 27) (oi := ⟨some 155, .move (.tmp 154), 4, "law.go:68", #[⟨26, .data⟩, ⟨16, .chain⟩], none⟩) (v := ?_) rfl (by kernel_rfl) (by kernel_rfl) (by kernel_rfl) (fun _ _ _ h => h) (Or.inl ⟨by rfl, ?_⟩) (by assumption) ?_
                     rotate_left
                     · intro w hSw; (try dsimp only at hSw); first | (go_simp; done) | (go_simp; with_reducible rfl)
                     try simp only [Act.put, List.setIfInBounds_toArray, List.set_cons_zero, List.set_cons_succ]
                     refine wpAnyH_take (i := 28) (oi := ⟨some 156, .move (.tmp 14), 3, "law.go:68", #[⟨27, .guard⟩], some (27, false)⟩) (v := ?_) rfl (by kernel_rfl) (by kernel_rfl) (by kernel_rfl) (fun _ _ _ h => h) (Or.inl ⟨by rfl, ?_⟩) (by assumption) ?_
                     rotate_left
                     · intro w hSw; (try dsimp only at hSw); first | (go_simp; done) | (go_simp; with_reducible rfl)
                     try simp only [Act.put, List.setIfInBounds_toArray, List.set_cons_zero, List.set_cons_succ]
                     refine wpAnyH_take (i := 29) (oi := ⟨some 157, .move (.tmp 15), 3, "law.go:68", #[⟨27, .guard⟩], some (27, false)⟩) (v := ?_) rfl (by kernel_rfl) (by kernel_rfl) (by kernel_rfl) (fun _ _ _ h => h) (Or.inl ⟨by rfl, ?_⟩) (by assumption) ?_
                     rotate_left
                     · intro w hSw; (try dsimp only at hSw); first | (go_simp; done) | (go_simp; with_reducible rfl)
                     try simp only [Act.put, List.setIfInBounds_toArray, List.set_cons_zero, List.set_cons_succ]
                     refine wpAnyH_take (i := 30) (oi := ⟨some 158, .binOp .eql 3 (.tmp 156) (.tmp 157) 3, 4, "law.go:68", #[⟨28, .data⟩, ⟨29, .data⟩, ⟨27, .guard⟩], some (27, false)⟩) (v := ?_) rfl (by kernel_rfl) (by kernel_rfl) (by kernel_rfl) (fun _ _ _ h => h) (Or.inl ⟨by rfl, ?_⟩) (by assumption) ?_
                     rotate_left
                     · intro w hSw; (try dsimp only at hSw); first | (go_simp; done) | (go_simp; with_reducible rfl)
                     try simp only [Act.put, List.setIfInBounds_toArray, List.set_cons_zero, List.set_cons_succ]
                     refine wpAnyH_take (i := 31) (oi := ⟨some 159, .move (.tmp 158), 4, "law.go:68", #[⟨30, .data⟩, ⟨27, .chain⟩, ⟨27, .guard⟩], some (27, false)⟩) (v := ?_) rfl (by kernel_rfl) (by kernel_rfl) (by kernel_rfl) (fun _ _ _ h => h) (Or.inl ⟨by rfl, ?_⟩) (by assumption) ?_
                     rotate_left
                     · intro w hSw; (try dsimp only at hSw); first | (go_simp; done) | (go_simp; with_reducible rfl)
                     try simp only [Act.put, List.setIfInBounds_toArray, List.set_cons_zero, List.set_cons_succ]
                     refine wpAnyH_take (i := 32) (oi := ⟨some 160, .move (.tmp 9), 24, "law.go:68", #[⟨31, .guard⟩], some (31, true)⟩) (v := ?_) rfl (by kernel_rfl) (by kernel_rfl) (by kernel_rfl) (fun _ _ _ h => h) (Or.inl ⟨by rfl, ?_⟩) (by assumption) ?_
                     rotate_left
                     · intro w hSw; (try dsimp only at hSw); first | (go_simp; done) | (go_simp; with_reducible rfl)
                     try simp only [Act.put, List.setIfInBounds_toArray, List.set_cons_zero, List.set_cons_succ]
                     refine wpAnyH_take (i := 33) (oi := ⟨some 161, .move (.tmp 14), 3, "law.go:68", #[⟨31, .guard⟩], some (31, true)⟩) (v := ?_) rfl (by kernel_rfl) (by kernel_rfl) (by kernel_rfl) (fun _ _ _ h => h) (Or.inl ⟨by rfl, ?_⟩) (by assumption) ?_
                     rotate_left
                     · intro w hSw; (try dsimp only at hSw); first | (go_simp; done) | (go_simp; with_reducible rfl)
                     try simp only [Act.put, List.setIfInBounds_toArray, List.set_cons_zero, List.set_cons_succ]
                     refine wpAnyH_take (i := 34) (oi := ⟨some 162, .indexAddr 24 (.tmp 160) (.tmp 161), 0, "law.go:68", #[⟨32, .data⟩, ⟨33, .data⟩, ⟨31, .guard⟩], some (31, true)⟩) (v := ?_) rfl (by kernel_rfl) (by kernel_rfl) (by kernel_rfl) (fun _ _ _ h => h) (Or.inl ⟨by rfl, ?_⟩) (by assumption) ?_
                     rotate_left
                     · intro w hSw; (try dsimp only at hSw); first | (go_simp; done) | (go_simp; with_reducible rfl)
                     try simp only [Act.put, List.setIfInBounds_toArray, List.set_cons_zero, List.set_cons_succ]
                     refine wpAnyH_take (i := 35) (oi := ⟨some 163, .load 3 (.tmp 162), 3, "law.go:68", #[⟨34, .data⟩, ⟨31, .guard⟩], some (31, true)⟩) (v := ?_) rfl (by kernel_rfl) (by kernel_rfl) (by kernel_rfl) (fun _ _ _ h => h) (Or.inl ⟨by rfl, ?_⟩) (by assumption) ?_
                     rotate_left
                     · intro w hSw; (try dsimp only at hSw); first | (go_simp; done) | (go_simp; with_reducible rfl)
                     try simp only [Act.put, List.setIfInBounds_toArray, List.set_cons_zero, List.set_cons_succ]
                     refine wpAnyH_take (i := 36) (oi := ⟨some 164, .binOp .lss 3 (.tmp 163) (.const (.int .i64 0)) 3, 4, "law.go:68", #[⟨35, .data⟩, ⟨31, .guard⟩], some (31, true)⟩) (v := ?_) rfl (by kernel_rfl) (by kernel_rfl) (by kernel_rfl) (fun _ _ _ h => h) (Or.inl ⟨by rfl, ?_⟩) (by assumption) ?_
                     rotate_left
                     · intro w hSw; (try dsimp only at hSw); first | (go_simp; done) | (go_simp; with_reducible rfl)
                     try simp only [Act.put, List.setIfInBounds_toArray, List.set_cons_zero, List.set_cons_succ]
                     refine wpAnyH_take (i := 37) (oi := ⟨some 165, .pick (.tmp 159) (.tmp 164) (.const (.bool false)), 4, "law.go:68", #[⟨31, .data⟩, ⟨36, .data⟩, ⟨27, .guard⟩], some (27, false)⟩) (v := ?_) rfl (by kernel_rfl) (by kernel_rfl) (by kernel_rfl) (fun _ _ _ h => h) (Or.inl ⟨by rfl, ?_⟩) (by assumption) ?_
                     rotate_left
                     · intro w hSw; (try dsimp only at hSw); first | (go_simp; done) | (go_simp; with_reducible rfl)
                     try simp only [Act.put, List.setIfInBounds_toArray, List.set_cons_zero, List.set_cons_succ]
                     refine wpAnyH_take (i := 38) (oi := ⟨some 166, .pick (.tmp 155) (.const (.bool true)) (.tmp 165), 4, "law.go:68", #[⟨27, .data⟩, ⟨37, .data⟩], none⟩) (v := ?_) rfl (by kernel_rfl) (by kernel_rfl) (by kernel_rfl) (fun _ _ _ h => h) (Or.inl ⟨by rfl, ?_⟩) (by assumption) ?_
                     rotate_left
                     · intro w hSw; (try dsimp only at hSw); first | (go_simp; done) | (go_simp; with_reducible rfl)
                     try simp only [Act.put, List.setIfInBounds_toArray, List.set_cons_zero, List.set_cons_succ]
                     refine wpAnyH_done (by kernel_rfl) ?_ _
                     go_wp2_with fail
                     go_roundw
                     case rel => exact ⟨t + 1, by rw [wt], HX.out.2.2.2.2.2.2.2, (by first | exact HEq.out.drew | exact HEq.out | exact HEq.out.drewN _)⟩
                     case measure => rw [wt]; clear wt; have := HX.out.2.2.2.2.2.2.2; simp [intOf]; omega
                   · have e3 : ((x1 : Int) == (x2 : Int)) = false := by simp; omega
                     clear hyy hxx
                     refine wp_region_held_drew (S := (fun V => V.cell? ⟨gb, gq + x1, none⟩ = some (.int .i64 y1) ∧ V.cell? ⟨gb, gq + x2, none⟩ = some (.int .i64 y2) ∧ V.cell? ⟨ab, x1, none⟩ = some (.int .i64 t1) ∧ V.cell? ⟨ab, x2, none⟩ = some (.int .i64 t2))) (by kernel_rfl) ?_ (fun hHeld0 => ?_)
                     · exact mkS.out _ (by with_reducible (repeat (first | assumption | exact Ext.refl _ | apply Ext.drew | apply Ext.drewN)))
                     refine wpAnyH_take (i := 0) (oi := ⟨some 128, .move (.tmp 9), 24, "law.go:68", #[], none⟩) (v := ?_) rfl (by kernel_rfl) (by kernel_rfl) (by kernel_rfl) (fun _ _ _ h => h) (Or.inl ⟨by rfl, ?_⟩) (by assumption) ?_
                     rotate_left
                     · intro w hSw; (try dsimp only at hSw); first | (go_simp; done) | (go_simp; with_reducible rfl)
                     try simp only [Act.put, List.setIfInBounds_toArray, List.set_cons_zero, List.set_cons_succ]
                     refine wpAnyH_take (i := 1) (oi := ⟨some 129, .move (.tmp 14), 3, "law.go:68", #[], none⟩) (v := ?_) rfl (by kernel_rfl) (by kernel_rfl) (by kernel_rfl) (fun _ _ _ h => h) (Or.inl ⟨by rfl, ?_⟩) (by assumption) ?_
                     rotate_left
                     · intro w hSw; (try dsimp only at hSw); first | (go_simp; done) | (go_simp; with_reducible rfl)
                     try simp only [Act.put, List.setIfInBounds_toArray, List.set_cons_zero, List.set_cons_succ]
                     refine wpAnyH_take (i := 2) (oi := ⟨some 130, .indexAddr 24 (.tmp 128) (.tmp 129), 0, "law.go:68", #[⟨0, .data⟩, ⟨1, .data⟩], none⟩) (v := ?_) rfl (by kernel_rfl) (by kernel_rfl) (by kernel_rfl) (fun _ _ _ h => h) (Or.inl ⟨by rfl, ?_⟩) (by assumption) ?_
                     rotate_left
                     · intro w hSw; (try dsimp only at hSw); first | (go_simp; done) | (go_simp; with_reducible rfl)
                     try simp only [Act.put, List.setIfInBounds_toArray, List.set_cons_zero, List.set_cons_succ]
                     refine wpAnyH_take (i := 3) (oi := ⟨some 131, .load 3 (.tmp 130), 3, "law.go:68", #[⟨2, .data⟩], none⟩) (v := ?_) rfl (by kernel_rfl) (by kernel_rfl) (by kernel_rfl) (fun _ _ _ h => h) (Or.inl ⟨by rfl, ?_⟩) (by assumption) ?_
                     rotate_left
                     · intro w hSw; (try dsimp only at hSw); first | (go_simp; done) | (go_simp; with_reducible rfl)
                     try simp only [Act.put, List.setIfInBounds_toArray, List.set_cons_zero, List.set_cons_succ]
                     refine wpAnyH_take (i := 4) (oi := ⟨some 132, .binOp .lss 3 (.tmp 131) (.const (.int .i64 0)) 3, 4, "law.go:68", #[⟨3, .data⟩], none⟩) (v := ?_) rfl (by kernel_rfl) (by kernel_rfl) (by kernel_rfl) (fun _ _ _ h => h) (Or.inl ⟨by rfl, ?_⟩) (by assumption) ?_
                     rotate_left
                     · intro w hSw; (try dsimp only at hSw); first | (go_simp; done) | (go_simp; with_reducible rfl)
                     try simp only [Act.put, List.setIfInBounds_toArray, List.set_cons_zero, List.set_cons_succ]
                     refine wpAnyH_take (i := 5) (oi := ⟨some 133, .move (.tmp 132), 4, "law.go:68", #[⟨4, .data⟩], none⟩) (v := ?_) rfl (by kernel_rfl) (by kernel_rfl) (by kernel_rfl) (fun _ _ _ h => h) (Or.inl ⟨by rfl, ?_⟩) (by assumption) ?_
                     rotate_left
                     · intro w hSw; (try dsimp only at hSw); first | (go_simp; done) | (go_simp; with_reducible rfl)
                     try simp only [Act.put, List.setIfInBounds_toArray, List.set_cons_zero, List.set_cons_succ]
                     refine wpAnyH_take (i := 6) (oi := ⟨some 134, .move (.tmp 9), 24, "law.go:68", #[⟨5, .guard⟩], some (5, false)⟩) (v := ?_) rfl (by kernel_rfl) (by kernel_rfl) (by kernel_rfl) (fun _ _ _ h => h) (Or.inl ⟨by rfl, ?_⟩) (by assumption) ?_
                     rotate_left
                     · intro w hSw; (try dsimp only at hSw); first | (go_simp; done) | (go_simp; with_reducible rfl)
                     try simp only [Act.put, List.setIfInBounds_toArray, List.set_cons_zero, List.set_cons_succ]
                     refine wpAnyH_take (i := 7) (oi := ⟨some 135, .move (.tmp 14), 3, "law.go:68", #[⟨5, .guard⟩], some (5, false)⟩) (v := ?_) rfl (by kernel_rfl) (by kernel_rfl) (by kernel_rfl) (fun _ _ _ h => h) (Or.inl ⟨by rfl, ?_⟩) (by assumption) ?_
                     rotate_left
                     · intro w hSw; (try dsimp only at hSw); first | (go_simp; done) | (go_simp; with_reducible rfl)
                     try simp only [Act.put, List.setIfInBounds_toArray, List.set_cons_zero, List.set_cons_succ]
                     refine wpAnyH_take (i := 8) (oi := ⟨some 136, .indexAddr 24 (.tmp 134) (.tmp 135), 0, "law.go:68", #[⟨6, .data⟩, ⟨7, .data⟩, ⟨5, .guard⟩], some (5, false)⟩) (v := ?_) rfl (by kernel_rfl) (by kernel_rfl) (by kernel_rfl) (fun _ _ _ h => h) (Or.inl ⟨by rfl, ?_⟩) (by assumption) ?_
                     rotate_left
                     · intro w hSw; (try dsimp only at hSw); first | (go_simp; done) | (go_simp; with_reducible rfl)
                     try simp only [Act.put, List.setIfInBounds_toArray, List.set_cons_zero, List.set_cons_succ]
                     refine wpAnyH_take (i := 9) (oi := ⟨some 137, .load 3 (.tmp 136), 3, "law.go:68", #[⟨8, .data⟩, ⟨5, .guard⟩], some (5, false)⟩) (v := ?_) rfl (by kernel_rfl) (by kernel_rfl) (by kernel_rfl) (fun _ _ _ h => h) (Or.inl ⟨by rfl, ?_⟩) (by assumption) ?_
                     rotate_left
                     · intro w hSw; (try dsimp only at hSw); first | (go_simp; done) | (go_simp; with_reducible rfl)
                     try simp only [Act.put, List.setIfInBounds_toArray, List.set_cons_zero, List.set_cons_succ]
                     refine wpAnyH_take (i := 10) (oi := ⟨some 138, .move (.tmp 9), 24, "law.go:68", #[⟨5, .guard⟩], some (5, false)⟩) (v := ?_) rfl (by kernel_rfl) (by kernel_rfl) (by kernel_rfl) (fun _ _ _ h => h) (Or.inl ⟨by rfl, ?_⟩) (by assumption) ?_
                     rotate_left
                     · intro w hSw; (try dsimp only at hSw); first | (go_simp; done) | (go_simp; with_reducible rfl)
                     try simp only [Act.put, List.setIfInBounds_toArray, List.set_cons_zero, List.set_cons_succ]
                     refine wpAnyH_take (i := 11) (oi := ⟨some 139, .move (.tmp 15), 3, "law.go:68", #[⟨5, .guard⟩], some (5, false)⟩) (v := ?_) rfl (by kernel_rfl) (by kernel_rfl) (by kernel_rfl) (fun _ _ _ h => h) (Or.inl ⟨by rfl, ?_⟩) (by assumption) ?_
                     rotate_left
                     · intro w hSw; (try dsimp only at hSw); first | (go_simp; done) | (go_simp; with_reducible rfl)
                     try simp only [Act.put, List.setIfInBounds_toArray, List.set_cons_zero, List.set_cons_succ]
                     refine wpAnyH_take (i := 12) (oi := ⟨some 140, .indexAddr 24 (.tmp 138) (.tmp 139), 0, "law.go:68", #[⟨10, .data⟩, ⟨11, .data⟩, ⟨5, .guard⟩], some (5, false)⟩) (v := ?_) rfl (by kernel_rfl) (by kernel_rfl) (by kernel_rfl) (fun _ _ _ h => h) (Or.inl ⟨by rfl, ?_⟩) (by assumption) ?_
                     rotate_left
                     · intro w hSw; (try dsimp only at hSw); first | (go_simp; done) | (go_simp; with_reducible rfl)
                     try simp only [Act.put, List.setIfInBounds_toArray, List.set_cons_zero, List.set_cons_succ]
                     refine wpAnyH_take (i := 13) (oi := ⟨some 141, .load 3 (.tmp 140), 3, "law.go:68", #[⟨12, .data⟩, ⟨5, .guard⟩], some (5, false)⟩) (v := ?_) rfl (by kernel_rfl) (by kernel_rfl) (by kernel_rfl) (fun _ _ _ h => h) (Or.inl ⟨by rfl, ?_⟩) (by assumption) ?_
                     rotate_left
                     · intro w hSw; (try dsimp only at hSw); first | (go_simp; done) | (go_simp; with_reducible rfl)
                     try simp only [Act.put, List.setIfInBounds_toArray, List.set_cons_zero, List.set_cons_succ]
                     refine wpAnyH_take (i := 14) (oi := ⟨some 142, .binOp .neq 3 (.tmp 137) (.tmp 141) 3, 4, "law.go:68", #[⟨9, .data⟩, ⟨13, .data⟩, ⟨5, .guard⟩], some (5, false)⟩) (v := ?_) rfl (by kernel_rfl) (by kernel_rfl) (by kernel_rfl) (fun _ _ _ h => h) (Or.inl ⟨by rfl, ?_⟩) (by assumption) ?_
                     rotate_left
                     · intro w hSw; (try dsimp only at hSw); first | (go_simp; done) | (go_simp; with_reducible rfl)
                     try simp only [Act.put, List.setIfInBounds_toArray, List.set_cons_zero, List.set_cons_succ]
                     refine wpAnyH_take (i := 15) (oi := ⟨some 143, .pick (.tmp 133) (.const (.bool true)) (.tmp 142), 4, "law.go:68", #[⟨5, .data⟩, ⟨14, .data⟩], none⟩) (v := ?_) rfl (by kernel_rfl) (by kernel_rfl) (by kernel_rfl) (fun _ _ _ h => h) (Or.inl ⟨by rfl, ?_⟩) (by assumption) ?_
                     rotate_left
                     · intro w hSw; (try dsimp only at hSw); first | (go_simp; done) | (go_simp; with_reducible rfl)
                     try simp only [Act.put, List.setIfInBounds_toArray, List.set_cons_zero, List.set_cons_succ]
                     refine wpAnyH_take (i := 16) (oi := ⟨some 144, .move (.tmp 143), 4, "law.go:68", #[⟨15, .data⟩, ⟨5, .chain⟩], none⟩) (v := ?_) rfl (by kernel_rfl) (by kernel_rfl) (by kernel_rfl) (fun _ _ _ h => h) (Or.inl ⟨by rfl, ?_⟩) (by assumption) ?_
                     rotate_left
                     · intro w hSw; (try dsimp only at hSw); first | (go_simp; done) | (go_simp; with_reducible rfl)
                     try simp only [Act.put, List.setIfInBounds_toArray, List.set_cons_zero, List.set_cons_succ]
                     refine wpAnyH_take (i := 17) (oi := ⟨some 145, .move (.tmp 11), 24, "law.go:68", #[⟨16, .guard⟩], some (16, true)⟩) (v := undef) rfl (by kernel_rfl) (by kernel_rfl) (by kernel_rfl) (fun _ _ _ h => h) (Or.inr ⟨by rfl, rfl⟩) (by assumption) ?_
                     try simp only [Act.put, List.setIfInBounds_toArray, List.set_cons_zero, List.set_cons_succ]
                     refine wpAnyH_take (i := 18) (oi := ⟨some 146, .move (.tmp 15), 3, "law.go:68", #[⟨16, .guard⟩], some (16, true)⟩) (v := undef) rfl (by kernel_rfl) (by kernel_rfl) (by kernel_rfl) (fun _ _ _ h => h) (Or.inr ⟨by rfl, rfl⟩) (by assumption) ?_
                     try simp only [Act.put, List.setIfInBounds_toArray, List.set_cons_zero, List.set_cons_succ]
                     refine wpAnyH_take (i := 19) (oi := ⟨some 147, .indexAddr 24 (.tmp 145) (.tmp 146), 0, "law.go:68", #[⟨17, .data⟩, ⟨18, .data⟩, ⟨16, .guard⟩], some (16, true)⟩) (v := undef) rfl (by kernel_rfl) (by kernel_rfl) (by kernel_rfl) (fun _ _ _ h => h) (Or.inr ⟨by rfl, rfl⟩) (by assumption) ?_
                     try simp only [Act.put, List.setIfInBounds_toArray, List.set_cons_zero, List.set_cons_succ]
                     refine wpAnyH_take (i := 20) (oi := ⟨some 148, .load 3 (.tmp 147), 3, "law.go:68", #[⟨19, .data⟩, ⟨16, .guard⟩], some (16, true)⟩) (v := undef) rfl (by kernel_rfl) (by kernel_rfl) (by kernel_rfl) (fun _ _ _ h => h) (Or.inr ⟨by rfl, rfl⟩) (by assumption) ?_
                     try simp only [Act.put, List.setIfInBounds_toArray, List.set_cons_zero, List.set_cons_succ]
                     refine wpAnyH_take (i := 21) (oi := ⟨some 149, .move (.tmp 11), 24, "law.go:68", #[⟨16, .guard⟩], some (16, true)⟩) (v := undef) rfl (by kernel_rfl) (by kernel_rfl) (by kernel_rfl) (fun _ _ _ h => h) (Or.inr ⟨by rfl, rfl⟩) (by assumption) ?_
                     try simp only [Act.put, List.setIfInBounds_toArray, List.set_cons_zero, List.set_cons_succ]
                     refine wpAnyH_take (i := 22) (oi := ⟨some 150, .move (.tmp 14), 3, "law.go:68", #[⟨16, .guard⟩], some (16, true)⟩) (v := undef) rfl (by kernel_rfl) (by kernel_rfl) (by kernel_rfl) (fun _ _ _ h => h) (Or.inr ⟨by rfl, rfl⟩) (by assumption) ?_
                     try simp only [Act.put, List.setIfInBounds_toArray, List.set_cons_zero, List.set_cons_succ]
                     refine wpAnyH_take (i := 23) (oi := ⟨some 151, .indexAddr 24 (.tmp 149) (.tmp 150), 0, "law.go:68", #[⟨21, .data⟩, ⟨22, .data⟩, ⟨16, .guard⟩], some (16, true)⟩) (v := undef) rfl (by kernel_rfl) (by kernel_rfl) (by kernel_rfl) (fun _ _ _ h => h) (Or.inr ⟨by rfl, rfl⟩) (by assumption) ?_
                     try simp only [Act.put, List.setIfInBounds_toArray, List.set_cons_zero, List.set_cons_succ]
                     refine wpAnyH_take (i := 24) (oi := ⟨some 152, .load 3 (.tmp 151), 3, "law.go:68", #[⟨23, .data⟩, ⟨16, .guard⟩], some (16, true)⟩) (v := undef) rfl (by kernel_rfl) (by kernel_rfl) (by kernel_rfl) (fun _ _ _ h => h) (Or.inr ⟨by rfl, rfl⟩) (by assumption) ?_
                     try simp only [Act.put, List.setIfInBounds_toArray, List.set_cons_zero, List.set_cons_succ]
                     refine wpAnyH_take (i := 25) (oi := ⟨some 153, .binOp .gtr 3 (.tmp 148) (.tmp 152) 3, 4, "law.go:68", #[⟨20, .data⟩, ⟨24, .data⟩, ⟨16, .guard⟩], some (16, true)⟩) (v := undef) rfl (by kernel_rfl) (by kernel_rfl) (by kernel_rfl) (fun _ _ _ h => h) (Or.inr ⟨by rfl, rfl⟩) (by assumption) ?_
                     try simp only [Act.put, List.setIfInBounds_toArray, List.set_cons_zero, List.set_cons_succ]
                     refine wpAnyH_take (i := 26) (oi := ⟨some 154, .pick (.tmp 144) (.tmp 153) (.const (.bool false)), 4, "law.go:68", #[⟨16, .data⟩, ⟨25, .data⟩], none⟩) (v := ?_) rfl (by kernel_rfl) (by kernel_rfl) (by kernel_rfl) (fun _ _ _ h => h) (Or.inl ⟨by rfl, ?_⟩) (by assumption) ?_
                     rotate_left
                     · intro w hSw; (try dsimp only at hSw); first | (go_simp; done) | (go_simp; with_reducible rfl)
                     try simp only [Act.put, List.setIfInBounds_toArray, List.set_cons_zero, List.set_cons_succ]
                     refine wpAnyH_take (i := 27) (oi := ⟨some 155, .move (.tmp 154), 4, "law.go:68", #[⟨26, .data⟩, ⟨16, .chain⟩], none⟩) (v := ?_) rfl (by kernel_rfl) (by kernel_rfl) (by kernel_rfl) (fun _ _ _ h => h) (Or.inl ⟨by rfl, ?_⟩) (by assumption) ?_
                     rotate_left
                     · intro w hSw; (try dsimp only at hSw); first | (go_simp; done) | (go_simp; with_reducible rfl)
                     try simp only [Act.put, List.setIfInBounds_toArray, List.set_cons_zero, List.set_cons_succ]
                     refine wpAnyH_take (i := 28) (oi := ⟨some 156, .move (.tmp 14), 3, "law.go:68", #[⟨27, .guard⟩], some (27, false)⟩) (v := ?_) rfl (by kernel_rfl) (by kernel_rfl) (by kernel_rfl) (fun _ _ _ h => h) (Or.inl ⟨by rfl, ?_⟩) (by assumption) ?_
                     rotate_left
                     · intro w hSw; (try dsimp only at hSw); first | (go_simp; done) | (go_simp; with_reducible rfl)
                     try simp only [Act.put, List.setIfInBounds_toArray, List.set_cons_zero, List.set_cons_succ]
                     refine wpAnyH_take (i := 29) (oi := ⟨some 157, .move (.tmp 15), 3, "law.go:68", #[⟨27, .guard⟩], some (27, false)⟩) (v := ?_) rfl (by kernel_rfl) (by kernel_rfl) (by kernel_rfl) (fun _ _ _ h => h) (Or.inl ⟨by rfl, ?_⟩) (by assumption) ?_
                     rotate_left
                     · intro w hSw; (try dsimp only at hSw); first | (go_simp; done) | (go_simp; with_reducible rfl)
                     try simp only [Act.put, List.setIfInBounds_toArray, List.set_cons_zero, List.set_cons_succ]
                     refine wpAnyH_take (i := 30) (oi := ⟨some 158, .binOp .eql 3 (.tmp 156) (.tmp 157) 3, 4, "law.go:68", #[⟨28, .data⟩, ⟨29, .data⟩, ⟨27, .guard⟩], some (27, false)⟩) (v := ?_) rfl (by kernel_rfl) (by kernel_rfl) (by kernel_rfl) (fun _ _ _ h => h) (Or.inl ⟨by rfl, ?_⟩) (by assumption) ?_
                     rotate_left
                     · intro w hSw; (try dsimp only at hSw); first | (go_simp; done) | (go_simp; with_reducible rfl)
                     try simp only [Act.put, List.setIfInBounds_toArray, List.set_cons_zero, List.set_cons_succ]
                     refine wpAnyH_take (i := 31) (oi := ⟨some 159, .move (.tmp 158), 4, "law.go:68", #[⟨30, .data⟩, ⟨27, .chain⟩, ⟨27, .guard⟩], some (27, false)⟩) (v := ?_) rfl (by kernel_rfl) (by kernel_rfl) (by kernel_rfl) (fun _ _ _ h => h) (Or.inl ⟨by rfl, ?_⟩) (by assumption) ?_
                     rotate_left
                     · intro w hSw; (try dsimp only at hSw); first | (go_simp; done) | (go_simp; with_reducible rfl)
                     try simp only [Act.put, List.setIfInBounds_toArray, List.set_cons_zero, List.set_cons_succ]
                     refine wpAnyH_take (i := 32) (oi := ⟨some 160, .move (.tmp 9), 24, "law.go:68", #[⟨31, .guard⟩], some (31, true)⟩) (v := undef) rfl (by kernel_rfl) (by kernel_rfl) (by kernel_rfl) (fun _ _ _ h => h) (Or.inr ⟨by rfl, rfl⟩) (by assumption) ?_
                     try simp only [Act.put, List.setIfInBounds_toArray, List.set_cons_zero, List.set_cons_succ]
                     refine wpAnyH_take (i := 33) (oi := ⟨some 161, .move (.tmp 14), 3, "law.go:68", #[⟨31, .guard⟩], some (31, true)⟩) (v := undef) rfl (by kernel_rfl) (by kernel_rfl) (by kernel_rfl) (fun _ _ _ h => h) (Or.inr ⟨by rfl, rfl⟩) (by assumption) ?_
                     try simp only [Act.put, List.setIfInBounds_toArray, List.set_cons_zero, List.set_cons_succ]
                     refine wpAnyH_take (i := 34) (oi := ⟨some 162, .indexAddr 24 (.tmp 160) (.tmp 161), 0, "law.go:68", #[⟨32, .data⟩, ⟨33, .data⟩, ⟨31, .guard⟩], some (31, true)⟩) (v := undef) rfl (by kernel_rfl) (by kernel_rfl) (by kernel_rfl) (fun _ _ _ h => h) (Or.inr ⟨by rfl, rfl⟩) (by assumption) ?_
                     try simp only [Act.put, List.setIfInBounds_toArray, List.set_cons_zero, List.set_cons_succ]
                     refine wpAnyH_take (i := 35) (oi := ⟨some 163, .load 3 (.tmp 162), 3, "law.go:68", #[⟨34, .data⟩, ⟨31, .guard⟩], some (31, true)⟩) (v := undef) rfl (by kernel_rfl) (by kernel_rfl) (by kernel_rfl) (fun _ _ _ h => h) (Or.inr ⟨by rfl, rfl⟩) (by assumption) ?_
                     try simp only [Act.put, List.setIfInBounds_toArray, List.set_cons_zero, List.set_cons_succ]
                     refine wpAnyH_take (i := 36) (oi := ⟨some 164, .binOp .lss 3 (.tmp 163) (.const (.int .i64 0)) 3, 4, "law.go:68", #[⟨35, .data⟩, ⟨31, .guard⟩], some (31, true)⟩) (v := undef) rfl (by kernel_rfl) (by kernel_rfl) (by kernel_rfl) (fun _ _ _ h => h) (Or.inr ⟨by rfl, rfl⟩) (by assumption) ?_
                     try simp only [Act.put, List.setIfInBounds_toArray, List.set_cons_zero, List.set_cons_succ]
                     refine wpAnyH_take (i := 37) (oi := ⟨some 165, .pick (.tmp 159) (.tmp 164) (.const (.bool false)), 4, "law.go:68", #[⟨31, .data⟩, ⟨36, .data⟩, ⟨27, .guard⟩], some (27, false)⟩) (v := ?_) rfl (by kernel_rfl) (by kernel_rfl) (by kernel_rfl) (fun _ _ _ h => h) (Or.inl ⟨by rfl, ?_⟩) (by assumption) ?_
                     rotate_left
                     · intro w hSw; (try dsimp only at hSw); first | (go_simp; done) | (go_simp; with_reducible rfl)
                     try simp only [Act.put, List.setIfInBounds_toArray, List.set_cons_zero, List.set_cons_succ]
                     refine wpAnyH_take (i := 38) (oi := ⟨some 166, .pick (.tmp 155) (.const (.bool true)) (.tmp 165), 4, "law.go:68", #[⟨27, .data⟩, ⟨37, .data⟩], none⟩) (v := ?_) rfl (by kernel_rfl) (by kernel_rfl) (by kernel_rfl) (fun _ _ _ h => h) (Or.inl ⟨by rfl, ?_⟩) (by assumption) ?_
                     rotate_left
                     · intro w hSw; (try dsimp only at hSw); first | (go_simp; done) | (go_simp; with_reducible rfl)
                     try simp only [Act.put, List.setIfInBounds_toArray, List.set_cons_zero, List.set_cons_succ]
                     refine wpAnyH_done (by kernel_rfl) ?_ _
                     go_wp2_with fail
                     go_roundw
                     case rel => exact ⟨t + 1, by rw [wt], HX.out.2.2.2.2.2.2.2, (by first | exact HEq.out.drew | exact HEq.out | exact HEq.out.drewN _)⟩
                     case measure => rw [wt]; clear wt; have := HX.out.2.2.2.2.2.2.2; simp [intOf]; omega
                 · have e2 : (y1 != y2) = true := by simp [hyy]
                   have hle := HC.out.1 (.inr hyy)
                   have e4 : decide (t1 < t2) = false := by simp; omega
                   have e4' : ¬ t1 < t2 := by omega
                   have hne : x1 ≠ x2 := fun e => by
                     have h1 := HX.out.2.2.1
                     rw [e, HX.out.2.2.2.1] at h1
                     exact hyy (Option.some.inj h1).symm
                   have e3 : ((x1 : Int) == (x2 : Int)) = false := by simp; omega
                   clear hyy hle hne
                   refine wp_region_held_drew (S := (fun V => V.cell? ⟨gb, gq + x1, none⟩ = some (.int .i64 y1) ∧ V.cell? ⟨gb, gq + x2, none⟩ = some (.int .i64 y2) ∧ V.cell? ⟨ab, x1, none⟩ = some (.int .i64 t1) ∧ V.cell? ⟨ab, x2, none⟩ = some (.int .i64 t2))) (by kernel_rfl) ?_ (fun hHeld0 => ?_)
                   · exact mkS.out _ (by with_reducible (repeat (first | assumption | exact Ext.refl _ | apply Ext.drew | apply Ext.drewN)))
                   refine wpAnyH_take (i := 0) (oi := ⟨some 128, .move (.tmp 9), 24, "law.go:68", #[], none⟩) (v := ?_) rfl (by kernel_rfl) (by kernel_rfl) (by kernel_rfl) (fun _ _ _ h => h) (Or.inl ⟨by rfl, ?_⟩) (by assumption) ?_
                   rotate_left
                   · intro w hSw; (try dsimp only at hSw); first | (go_simp; done) | (go_simp; with_reducible rfl)
                   try simp only [Act.put, List.setIfInBounds_toArray, List.set_cons_zero, List.set_cons_succ]
                   refine wpAnyH_take (i := 1) (oi := ⟨some 129, .move (.tmp 14), 3, "law.go:68", #[], none⟩) (v := ?_) rfl (by kernel_rfl) (by kernel_rfl) (by kernel_rfl) (fun _ _ _ h => h) (Or.inl ⟨by rfl, ?_⟩) (by assumption) ?_
                   rotate_left
                   · intro w hSw; (try dsimp only at hSw); first | (go_simp; done) | (go_simp; with_reducible rfl)
                   try simp only [Act.put, List.setIfInBounds_toArray, List.set_cons_zero, List.set_cons_succ]
                   refine wpAnyH_take (i := 2) (oi := ⟨some 130, .indexAddr 24 (.tmp 128) (.tmp 129), 0, "law.go:68", #[⟨0, .data⟩, ⟨1, .data⟩], none⟩) (v := ?_) rfl (by kernel_rfl) (by kernel_rfl) (by kernel_rfl) (fun _ _ _ h => h) (Or.inl ⟨by rfl, ?_⟩) (by assumption) ?_
                   rotate_left
                   · intro w hSw; (try dsimp only at hSw); first | (go_simp; done) | (go_simp; with_reducible rfl)
                   try simp only [Act.put, List.setIfInBounds_toArray, List.set_cons_zero, List.set_cons_succ]
                   refine wpAnyH_take (i := 3) (oi := ⟨some 131, .load 3 (.tmp 130), 3, "law.go:68", #[⟨2, .data⟩], none⟩) (v := ?_) rfl (by kernel_rfl) (by kernel_rfl) (by kernel_rfl) (fun _ _ _ h => h) (Or.inl ⟨by rfl, ?_⟩) (by assumption) ?_
                   rotate_left
                   · intro w hSw; (try dsimp only at hSw); first | (go_simp; done) | (go_simp; with_reducible rfl)
                   try simp only [Act.put, List.setIfInBounds_toArray, List.set_cons_zero, List.set_cons_succ]
                   refine wpAnyH_take (i := 4) (oi := ⟨some 132, .binOp .lss 3 (.tmp 131) (.const (.int .i64 0)) 3, 4, "law.go:68", #[⟨3, .data⟩], none⟩) (v := ?_) rfl (by kernel_rfl) (by kernel_rfl) (by kernel_rfl) (fun _ _ _ h => h) (Or.inl ⟨by rfl, ?_⟩) (by assumption) ?_
                   rotate_left
                   · intro w hSw; (try dsimp only at hSw); first | (go_simp; done) | (go_simp; with_reducible rfl)
                   try simp only [Act.put, List.setIfInBounds_toArray, List.set_cons_zero, List.set_cons_succ]
                   refine wpAnyH_take (i := 5) (oi := ⟨some 133, .move (.tmp 132), 4, "law.go:68", #[⟨4, .data⟩], none⟩) (v := ?_) rfl (by kernel_rfl) (by kernel_rfl) (by kernel_rfl) (fun _ _ _ h => h) (Or.inl ⟨by rfl, ?_⟩) (by assumption) ?_
                   rotate_left
                   · intro w hSw; (try dsimp only at hSw); first | (go_simp; done) | (go_simp; with_reducible rfl)
                   try simp only [Act.put, List.setIfInBounds_toArray, List.set_cons_zero, List.set_cons_succ]
                   refine wpAnyH_take (i := 6) (oi := ⟨some 134, .move (.tmp 9), 24, "law.go:68", #[⟨5, .guard⟩], some (5, false)⟩) (v := ?_) rfl (by kernel_rfl) (by kernel_rfl) (by kernel_rfl) (fun _ _ _ h => h) (Or.inl ⟨by rfl, ?_⟩) (by assumption) ?_
                   rotate_left
                   · intro w hSw; (try dsimp only at hSw); first | (go_simp; done) | (go_simp; with_reducible rfl)
                   try simp only [Act.put, List.setIfInBounds_toArray, List.set_cons_zero, List.set_cons_succ]
                   refine wpAnyH_take (i := 7) (oi := ⟨some 135, .move (.tmp 14), 3, "law.go:68", #[⟨5, .guard⟩], some (5, false)⟩) (v := ?_) rfl (by kernel_rfl) (by kernel_rfl) (by kernel_rfl) (fun _ _ _ h => h) (Or.inl ⟨by rfl, ?_⟩) (by assumption) ?_
                   rotate_left
                   · intro w hSw; (try dsimp only at hSw); first | (go_simp; done) | (go_simp; with_reducible rfl)
                   try simp only [Act.put, List.setIfInBounds_toArray, List.set_cons_zero, List.set_cons_succ]
                   refine wpAnyH_take (i := 8) (oi := ⟨some 136, .indexAddr 24 (.tmp 134) (.tmp 135), 0, "law.go:68", #[⟨6, .data⟩, ⟨7, .data⟩, ⟨5, .guard⟩], some (5, false)⟩) (v := ?_) rfl (by kernel_rfl) (by kernel_rfl) (by kernel_rfl) (fun _ _ _ h => h) (Or.inl ⟨by rfl, ?_⟩) (by assumption) ?_
                   rotate_left
                   · intro w hSw; (try dsimp only at hSw); first | (go_simp; done) | (go_simp; with_reducible rfl)
                   try simp only [Act.put, List.setIfInBounds_toArray, List.set_cons_zero, List.set_cons_succ]
                   refine wpAnyH_take (i := 9) (oi := ⟨some 137, .load 3 (.tmp 136), 3, "law.go:68", #[⟨8, .data⟩, ⟨5, .guard⟩], some (5, false)⟩) (v := ?_) rfl (by kernel_rfl) (by kernel_rfl) (by kernel_rfl) (fun _ _ _ h => h) (Or.inl ⟨by rfl, ?_⟩) (by assumption) ?_
                   rotate_left
                   · intro w hSw; (try dsimp only at hSw); first | (go_simp; done) | (go_simp; with_reducible rfl)
                   try simp only [Act.put, List.setIfInBounds_toArray, List.set_cons_zero, List.set_cons_succ]
                   refine wpAnyH_take (i := 10) (oi := ⟨some 138, .move (.tmp 9), 24, "law.go:68", #[⟨5, .guard⟩], some (5, false)⟩) (v := ?_) rfl (by kernel_rfl) (by kernel_rfl) (by kernel_rfl) (fun _ _ _ h => h) (Or.inl ⟨by rfl, ?_⟩) (by assumption) ?_
                   rotate_left
                   · intro w hSw; (try dsimp only at hSw); first | (go_simp; done) | (go_simp; with_reducible rfl)
                   try simp only [Act.put, List.setIfInBounds_toArray, List.set_cons_zero, List.set_cons_succ]
                   refine wpAnyH_take (i := 11) (oi := ⟨some 139, .move (.tmp 15), 3, "law.go:68", #[⟨5, .guard⟩], some (5, false)⟩) (v := ?_) rfl (by kernel_rfl) (by kernel_rfl) (by kernel_rfl) (fun _ _ _ h => h) (Or.inl ⟨by rfl, ?_⟩) (by assumption) ?_
                   rotate_left
                   · intro w hSw; (try dsimp only at hSw); first | (go_simp; done) | (go_simp; with_reducible rfl)
                   try simp only [Act.put, List.setIfInBounds_toArray, List.set_cons_zero, List.set_cons_succ]
                   refine wpAnyH_take (i := 12) (oi := ⟨some 140, .indexAddr 24 (.tmp 138) (.tmp 139), 0, "law.go:68", #[⟨10, .data⟩, ⟨11, .data⟩, ⟨5, .guard⟩], some (5, false)⟩) (v := ?_) rfl (by kernel_rfl) (by kernel_rfl) (by kernel_rfl) (fun _ _ _ h => h) (Or.inl ⟨by rfl, ?_⟩) (by assumption) ?_
                   rotate_left
                   · intro w hSw; (try dsimp only at hSw); first | (go_simp; done) | (go_simp; with_reducible rfl)
                   try simp only [Act.put, List.setIfInBounds_toArray, List.set_cons_zero, List.set_cons_succ]
                   refine wpAnyH_take (i := 13) (oi := ⟨some 141, .load 3 (.tmp 140), 3, "law.go:68", #[⟨12, .data⟩, ⟨5, .guard⟩], some (5, false)⟩) (v := ?_) rfl (by kernel_rfl) (by kernel_rfl) (by kernel_rfl) (fun _ _ _ h => h) (Or.inl ⟨by rfl, ?_⟩) (by assumption) ?_
                   rotate_left
                   · intro w hSw; (try dsimp only at hSw); first | (go_simp; done) | (go_simp; with_reducible rfl)
                   try simp only [Act.put, List.setIfInBounds_toArray, List.set_cons_zero, List.set_cons_succ]
                   refine wpAnyH_take (i := 14) (oi := ⟨some 142, .binOp .neq 3 (.tmp 137) (.tmp 141) 3, 4, "law.go:68", #[⟨9, .data⟩, ⟨13, .data⟩, ⟨5, .guard⟩], some (5, false)⟩) (v := ?_) rfl (by kernel_rfl) (by kernel_rfl) (by kernel_rfl) (fun _ _ _ h => h) (Or.inl ⟨by rfl, ?_⟩) (by assumption) ?_
                   rotate_left
                   · intro w hSw; (try dsimp only at hSw); first | (go_simp; done) | (go_simp; with_reducible rfl)
                   try simp only [Act.put, List.setIfInBounds_toArray, List.set_cons_zero, List.set_cons_succ]
                   refine wpAnyH_take (i := 15) (oi := ⟨some 143, .pick (.tmp 133) (.const (.bool true)) (.tmp 142), 4, "law.go:68", #[⟨5, .data⟩, ⟨14, .data⟩], none⟩) (v := ?_) rfl (by kernel_rfl) (by kernel_rfl) (by kernel_rfl) (fun _ _ _ h => h) (Or.inl ⟨by rfl, ?_⟩) (by assumption) ?_
                   rotate_left
                   · intro w hSw; (try dsimp only at hSw); first | (go_simp; done) | (go_simp; with_reducible rfl)
                   try simp only [Act.put, List.setIfInBounds_toArray, List.set_cons_zero, List.set_cons_succ]
                   refine wpAnyH_take (i := 16) (oi := ⟨some 144, .move (.tmp 143), 4, "law.go:68", #[⟨15, .data⟩, ⟨5, .chain⟩], none⟩) (v := ?_) rfl (by kernel_rfl) (by kernel_rfl) (by kernel_rfl) (fun _ _ _ h => h) (Or.inl ⟨by rfl, ?_⟩) (by assumption) ?_
                   rotate_left
                   · intro w hSw; (try dsimp only at hSw); first | (go_simp; done) | (go_simp; with_reducible rfl)
                   try simp only [Act.put, List.setIfInBounds_toArray, List.set_cons_zero, List.set_cons_succ]
                   refine wpAnyH_take (i := 17) (oi := ⟨some 145, .move (.tmp 11), 24, "law.go:68", #[⟨16, .guard⟩], some (16, true)⟩) (v := ?_) rfl (by kernel_rfl) (by kernel_rfl) (by kernel_rfl) (fun _ _ _ h => h) (Or.inl ⟨by rfl, ?_⟩) (by assumption) ?_
                   rotate_left
                   · intro w hSw; (try dsimp only at hSw); first | (go_simp; done) | (go_simp; with_reducible rfl)
                   try simp only [Act.put, List.setIfInBounds_toArray, List.set_cons_zero, List.set_cons_succ]
                   refine wpAnyH_take (i := 18) (oi := ⟨some 146, .move (.tmp 15), 3, "law.go:68", #[⟨16, .guard⟩], some (16, true)⟩) (v := ?_) rfl (by kernel_rfl) (by kernel_rfl) (by kernel_rfl) (fun _ _ _ h => h) (Or.inl ⟨by rfl, ?_⟩) (by assumption) ?_
                   rotate_left
                   · intro w hSw; (try dsimp only at hSw); first | (go_simp; done) | (go_simp; with_reducible rfl)
                   try simp only [Act.put, List.setIfInBounds_toArray, List.set_cons_zero, List.set_cons_succ]
                   refine wpAnyH_take (i := 19) (oi := ⟨some 147, .indexAddr 24 (.tmp 145) (.tmp 146), 0, "law.go:68", #[⟨17, .data⟩, ⟨18, .data⟩, ⟨16, .guard⟩], some (16, true)⟩) (v := ?_) rfl (by kernel_rfl) (by kernel_rfl) (by kernel_rfl) (fun _ _ _ h => h) (Or.inl ⟨by rfl, ?_⟩) (by assumption) ?_
                   rotate_left
                   · intro w hSw; (try dsimp only at hSw); first | (go_simp; done) | (go_simp; with_reducible rfl)
                   try simp only [Act.put, List.setIfInBounds_toArray, List.set_cons_zero, List.set_cons_succ]
                   refine wpAnyH_take (i := 20) (oi := ⟨some 148, .load 3 (.tmp 147), 3, "law.go:68", #[⟨19, .data⟩, ⟨16, .guard⟩], some (16, true)⟩) (v := ?_) rfl (by kernel_rfl) (by kernel_rfl) (by kernel_rfl) (fun _ _ _ h => h) (Or.inl ⟨by rfl, ?_⟩) (by assumption) ?_
                   rotate_left
                   · intro w hSw; (try dsimp only at hSw); first | (go_simp; done) | (go_simp; with_reducible rfl)
                   try simp only [Act.put, List.setIfInBounds_toArray, List.set_cons_zero, List.set_cons_succ]
                   refine wpAnyH_take (i := 21) (oi := ⟨some 149, .move (.tmp 11), 24, "law.go:68", #[⟨16, .guard⟩], some (16, true)⟩) (v := ?_) rfl (by kernel_rfl) (by kernel_rfl) (by kernel_rfl) (fun _ _ _ h => h) (Or.inl ⟨by rfl, ?_⟩) (by assumption) ?_
                   rotate_left
                   · intro w hSw; (try dsimp only at hSw); first | (go_simp; done) | (go_simp; with_reducible rfl)
                   try simp only [Act.put, List.setIfInBounds_toArray, List.set_cons_zero, List.set_cons_succ]
                   refine wpAnyH_take (i := 22) (oi := ⟨some 150, .move (.tmp 14), 3, "law.go:68", #[⟨16, .guard⟩], some (16, true)⟩) (v := ?_) rfl (by kernel_rfl) (by kernel_rfl) (by kernel_rfl) (fun _ _ _ h => h) (Or.inl ⟨by rfl, ?_⟩) (by assumption) ?_
                   rotate_left
                   · intro w hSw; (try dsimp only at hSw); first | (go_simp; done) | (go_simp; with_reducible rfl)
                   try simp only [Act.put, List.setIfInBounds_toArray, List.set_cons_zero, List.set_cons_succ]
                   refine wpAnyH_take (i := 23) (oi := ⟨some 151, .indexAddr 24 (.tmp 149) (.tmp 150), 0, "law.go:68", #[⟨21, .data⟩, ⟨22, .data⟩, ⟨16, .guard⟩], some (16, true)⟩) (v := ?_) rfl (by kernel_rfl) (by kernel_rfl) (by kernel_rfl) (fun _ _ _ h => h) (Or.inl ⟨by rfl, ?_⟩) (by assumption) ?_
                   rotate_left
                   · intro w hSw; (try dsimp only at hSw); first | (go_simp; done) | (go_simp; with_reducible rfl)
                   try simp only [Act.put, List.setIfInBounds_toArray, List.set_cons_zero, List.set_cons_succ]
                   refine wpAnyH_take (i := 24) (oi := ⟨some 152, .load 3 (.tmp 151), 3, "law.go:68", #[⟨23, .data⟩, ⟨16, .guard⟩], some (16, true)⟩) (v := ?_) rfl (by kernel_rfl) (by kernel_rfl) (by kernel_rfl) (fun _ _ _ h => h) (Or.inl ⟨by rfl, ?_⟩) (by assumption) ?_
                   rotate_left
                   · intro w hSw; (try dsimp only at hSw); first | (go_simp; done) | (go_simp; with_reducible rfl)
                   try simp only [Act.put, List.setIfInBounds_toArray, List.set_cons_zero, List.set_cons_succ]
                   refine wpAnyH_take (i := 25) (oi := ⟨some 153, .binOp .gtr 3 (.tmp 148) (.tmp 152) 3, 4, "law.go:68", #[⟨20, .data⟩, ⟨24, .data⟩, ⟨16, .guard⟩], some (16, true)⟩) (v := ?_) rfl (by kernel_rfl) (by kernel_rfl) (by kernel_rfl) (fun _ _ _ h => h) (Or.inl ⟨by rfl, ?_⟩) (by assumption) ?_
                   rotate_left
                   · intro w hSw; (try dsimp only at hSw); first | (go_simp; done) | (go_simp; with_reducible rfl)
                   try simp only [Act.put, List.setIfInBounds_toArray, List.set_cons_zero, List.set_cons_succ]
                   refine wpAnyH_take (i := 26) (oi := ⟨some 154, .pick (.tmp 144) (.tmp 153) (.const (.bool false)), 4, "law.go:68", #[⟨16, .data⟩, ⟨25, .data⟩], none⟩) (v := ?_) rfl (by kernel_rfl) (by kernel_rfl) (by kernel_rfl) (fun _ _ _ h => h) (Or.inl ⟨by rfl, ?_⟩) (by assumption) ?_
                   rotate_left
                   · intro w hSw; (try dsimp only at hSw); first | (go_simp; done) | (go_simp; with_reducible rfl)
                   try simp only [Act.put, List.setIfInBounds_toArray, List.set_cons_zero, List.set_cons_succ]
                   refine wpAnyH_take (i := 27) (oi := ⟨some 155, .move (.tmp 154), 4, "law.go:68", #[⟨26, .data⟩, ⟨16, .chain⟩], none⟩) (v := ?_) rfl (by kernel_rfl) (by kernel_rfl) (by kernel_rfl) (fun _ _ _ h => h) (Or.inl ⟨by rfl, ?_⟩) (by assumption) ?_
                   rotate_left
                   · intro w hSw; (try dsimp only at hSw); first | (go_simp; done) | (go_simp; with_reducible rfl)
                   try simp only [Act.put, List.setIfInBounds_toArray, List.set_cons_zero, List.set_cons_succ]
                   refine wpAnyH_take (i := 28) (oi := ⟨some 156, .move (.tmp 14), 3, "law.go:68", #[⟨27, .guard⟩], some (27, false)⟩) (v := ?_) rfl (by kernel_rfl) (by kernel_rfl) (by kernel_rfl) (fun _ _ _ h => h) (Or.inl ⟨by rfl, ?_⟩) (by assumption) ?_
                   rotate_left
                   · intro w hSw; (try dsimp only at hSw); first | (go_simp; done) | (go_simp; with_reducible rfl)
                   try simp only [Act.put, List.setIfInBounds_toArray, List.set_cons_zero, List.set_cons_succ]
                   refine wpAnyH_take (i := 29) (oi := ⟨some 157, .move (.tmp 15), 3, "law.go:68", #[⟨27, .guard⟩], some (27, false)⟩) (v := ?_) rfl (by kernel_rfl) (by kernel_rfl) (by kernel_rfl) (fun _ _ _ h => h) (Or.inl ⟨by rfl, ?_⟩) (by assumption) ?_
                   rotate_left
                   · intro w hSw; (try dsimp only at hSw); first | (go_simp; done) | (go_simp; with_reducible rfl)
                   try simp only [Act.put, List.setIfInBounds_toArray, List.set_cons_zero, List.set_cons_succ]
                   refine wpAnyH_take (i := 30) (oi := ⟨some 158, .binOp .eql 3 (.tmp 156) (.tmp 157) 3, 4, "law.go:68", #[⟨28, .data⟩, ⟨29, .data⟩, ⟨27, .guard⟩], some (27, false)⟩) (v := ?_) rfl (by kernel_rfl) (by kernel_rfl) (by kernel_rfl) (fun _ _ _ h => h) (Or.inl ⟨by rfl, ?_⟩) (by assumption) ?_
                   rotate_left
                   · intro w hSw; (try dsimp only at hSw); first | (go_simp; done) | (go_simp; with_reducible rfl)
                   try simp only [Act.put, List.setIfInBounds_toArray, List.set_cons_zero, List.set_cons_succ]
                   refine wpAnyH_take (i := 31) (oi := ⟨some 159, .move (.tmp 158), 4, "law.go:68", #[⟨30, .data⟩, ⟨27, .chain⟩, ⟨27, .guard⟩], some (27, false)⟩) (v := ?_) rfl (by kernel_rfl) (by kernel_rfl) (by kernel_rfl) (fun _ _ _ h => h) (Or.inl ⟨by rfl, ?_⟩) (by assumption) ?_
                   rotate_left
                   · intro w hSw; (try dsimp only at hSw); first | (go_simp; done) | (go_simp; with_reducible rfl)
                   try simp only [Act.put, List.setIfInBounds_toArray, List.set_cons_zero, List.set_cons_succ]
                   refine wpAnyH_take (i := 32) (oi := ⟨some 160, .move (.tmp 9), 24, "law.go:68", #[⟨31, .guard⟩], some (31, true)⟩) (v := undef) rfl (by kernel_rfl) (by kernel_rfl) (by kernel_rfl) (fun _ _ _ h => h) (Or.inr ⟨by rfl, rfl⟩) (by assumption) ?_
                   try simp only [Act.put, List.setIfInBounds_toArray, List.set_cons_zero, List.set_cons_succ]
                   refine wpAnyH_take (i := 33) (oi := ⟨some 161, .move (.tmp 14), 3, "law.go:68", #[⟨31, .guard⟩], some (31, true)⟩) (v := undef) rfl (by kernel_rfl) (by kernel_rfl) (by kernel_rfl) (fun _ _ _ h => h) (Or.inr ⟨by rfl, rfl⟩) (by assumption) ?_
                   try simp only [Act.put, List.setIfInBounds_toArray, List.set_cons_zero, List.set_cons_succ]
                   refine wpAnyH_take (i := 34) (oi := ⟨some 162, .indexAddr 24 (.tmp 160) (.tmp 161), 0, "law.go:68", #[⟨32, .data⟩, ⟨33, .data⟩, ⟨31, .guard⟩], some (31, true)⟩) (v := undef) rfl (by kernel_rfl) (by kernel_rfl) (by kernel_rfl) (fun _ _ _ h => h) (Or.inr ⟨by rfl, rfl⟩) (by assumption) ?_
                   try simp only [Act.put, List.setIfInBounds_toArray, List.set_cons_zero, List.set_cons_succ]
                   refine wpAnyH_take (i := 35) (oi := ⟨some 163, .load 3 (.tmp 162), 3, "law.go:68", #[⟨34, .data⟩, ⟨31, .guard⟩], some (31, true)⟩) (v := undef) rfl (by kernel_rfl) (by kernel_rfl) (by kernel_rfl) (fun _ _ _ h => h) (Or.inr ⟨by rfl, rfl⟩) (by assumption) ?_
                   try simp only [Act.put, List.setIfInBounds_toArray, List.set_cons_zero, List.set_cons_succ]
                   refine wpAnyH_take (i := 36) (oi := ⟨some 164, .binOp .lss 3 (.tmp 163) (.const (.int .i64 0)) 3, 4, "law.go:68", #[⟨35, .data⟩, ⟨31, .guard⟩], some (31, true)⟩) (v := undef) rfl (by kernel_rfl) (by kernel_rfl) (by kernel_rfl) (fun _ _ _ h => h) (Or.inr ⟨by rfl, rfl⟩) (by assumption) ?_
                   try simp only [Act.put, List.setIfInBounds_toArray, List.set_cons_zero, List.set_cons_succ]
                   refine wpAnyH_take (i := 37) (oi := ⟨some 165, .pick (.tmp 159) (.tmp 164) (.const (.bool false)), 4, "law.go:68", #[⟨31, .data⟩, ⟨36, .data⟩, ⟨27, .guard⟩], some (27, false)⟩) (v := ?_) rfl (by kernel_rfl) (by kernel_rfl) (by kernel_rfl) (fun _ _ _ h => h) (Or.inl ⟨by rfl, ?_⟩) (by assumption) ?_
                   rotate_left
                   · intro w hSw; (try dsimp only at hSw); first | (go_simp; done) | (go_simp; with_reducible rfl)
                   try simp only [Act.put, List.setIfInBounds_toArray, List.set_cons_zero, List.set_cons_succ]
                   refine wpAnyH_take (i := 38) (oi := ⟨some 166, .pick (.tmp 155) (.const (.bool true)) (.tmp 165), 4, "law.go:68", #[⟨27, .data⟩, ⟨37, .data⟩], none⟩) (v := ?_) rfl (by kernel_rfl) (by kernel_rfl) (by kernel_rfl) (fun _ _ _ h => h) (Or.inl ⟨by rfl, ?_⟩) (by assumption) ?_
                   rotate_left
                   · intro w hSw; (try dsimp only at hSw); first | (go_simp; done) | (go_simp; with_reducible rfl)
                   try simp only [Act.put, List.setIfInBounds_toArray, List.set_cons_zero, List.set_cons_succ]
                   refine wpAnyH_done (by kernel_rfl) ?_ _
                   go_wp2_with fail
                   go_roundw
                   case rel => exact ⟨t + 1, by rw [wt], HX.out.2.2.2.2.2.2.2, (by first | exact HEq.out.drew | exact HEq.out | exact HEq.out.drewN _)⟩
                   case measure => rw [wt]; clear wt; have := HX.out.2.2.2.2.2.2.2; simp [intOf]; omega
             · have hltI : ¬ (t : Int) < (i : Int) := by omega
               go_wp2_with fail
               refine (lives_any _).mono ?_
               rintro e w5 ⟨rfl, e5⟩
               have HF : Hid (Ext w w5) := HN2.out.2.2.trans (HE.out.trans e5)
               clear e5
               go_wp2_with fail
               go_ret
               exact ⟨rfl, HF.out⟩
     · have hlt := of_decide_eq_true HBB.out
       obtain ⟨hlt, hl4⟩ := hlt
       obtain ⟨x, hx⟩ : ∃ x, l1[i]? = some x := ⟨_, List.getElem?_eq_getElem (by have := HN.out; omega)⟩
       obtain ⟨b, off, rfl, -, c1, c2⟩ := RdU.cell (HR.out.1.ext hS.e) hx
       obtain ⟨⟨z1, z2⟩, z3, z4⟩ := HR.out.2 x (List.mem_of_getElem? hx)
       obtain ⟨x1, x2⟩ := x
       have hltI : (i : Int) < (N : Int) := by omega
       have HX : Hid (l1[i]? = some (x1, x2)) := hx
       obtain ⟨lp, lc, rfl, _⟩ := own_form hS.o
       have HL : Hid (i < N ∧ i < 400 ∧ i ≤ 400) := ⟨hlt, hl4, hi4⟩
       clear hS hx hl4 HBB
       go_upto_region 5 with fail
       have mkS : Hid (∀ V, Ext wr V → (fun V => V.cell? ⟨b, off + i * 2, none⟩ = some (.int .u8 x1) ∧ V.cell? ⟨b, off + i * 2 + 1, none⟩ = some (.int .u8 x2)) V) := fun V e => by
         obtain ⟨b', off', e1, -, q1, q2⟩ := RdU.cell (HR.out.1.ext (HS.out.e.trans e)) HX.out
         simp only [Option.some.injEq, Addr.mk.injEq, and_true] at e1
         obtain ⟨rfl, rfl⟩ := e1
         exact ⟨q1, q2⟩
       have HOW : Hid (∀ V, Ext wr V → V.ownsRow w.heap.size 33 2 (.slice lp i lc) i (((l1.take i).map (pm (m : Int))).flatMap cQ)) := fun V e => ownsRow_ext HS.out.o e
       have HNV : Hid (i + 1 ≤ 1000000) := by have := HL.out; show _ ≤ _; omega
       have HBS : Hid (∀ V, Ext wr V → w.heap.size ≤ V.heap.size) := fun V e => (HS.out.e.trans e).size
       have PS : Hid (∀ Y v2 w2 (_ : Ext wr Y) (_ : w2.ownsRow w.heap.size 33 2 v2 (i + 1) (((l1.take i).map (pm (m : Int)) ++ [pm (m : Int) (x1, x2)]).flatMap cQ)) (_ : Y.grownBy w2 (Value.slice lp i lc).ownBlock) (_ : v2.ownBlock = (Value.slice lp i lc).ownBlock ∨ v2.ownBlock = some Y.heap.size), (fun V => V.cell? ⟨b, off + i * 2, none⟩ = some (.int .u8 x1) ∧ V.cell? ⟨b, off + i * 2 + 1, none⟩ = some (.int .u8 x2)) w2 ∧ PaL w (m : Int) l1 (i + 1) v2 w2) := fun Y v2 w2 e o g nb => by
         have h := HS.out.step e HX.out o g nb
         obtain ⟨b', off', e1, -, q1, q2⟩ := RdU.cell (HR.out.1.ext h.e) HX.out
         simp only [Option.some.injEq, Addr.mk.injEq, and_true] at e1
         obtain ⟨rfl, rfl⟩ := e1
         exact ⟨⟨q1, q2⟩, h⟩
       have ww1 : IntKind.i64.wrap x1 = x1 := wrap_small _ (by omega) (by omega)
       have ww2 : IntKind.i64.wrap x2 = x2 := wrap_small _ (by omega) (by omega)
       have m1 : x1.tmod (m : Int) = x1 % (m : Int) := Int.tmod_eq_emod_of_nonneg z1
       have m2 : x2.tmod (m : Int) = x2 % (m : Int) := Int.tmod_eq_emod_of_nonneg z3
       have K0 : ¬ (m : Int) = 0 := by omega
       have K0n : ¬ m = 0 := by omega
       clear hi hi4 hlt z1 z2 z3 z4 K1 K2
       refine wp_region_held_drew (S := (fun V => V.cell? ⟨b, off + i * 2, none⟩ = some (.int .u8 x1) ∧ V.cell? ⟨b, off + i * 2 + 1, none⟩ = some (.int .u8 x2))) (by kernel_rfl) ?_ (fun hHeld0 => ?_)
       · (first | exact HS2.out | (refine mkS.out _ ?_; ((with_reducible (repeat (first | assumption | exact Ext.refl _ | apply Ext.drew | apply Ext.drewN | apply Ext.alloc))); done)))
       refine wpAnyH_take (i := 0) (oi := ⟨some 31, .move (.tmp 6), 22, "law.go:53", #[], none⟩) (v := ?_) rfl (by kernel_rfl) (by kernel_rfl) (by kernel_rfl) (fun _ _ _ h => h) (Or.inl ⟨by rfl, ?_⟩) (by assumption) ?_
       rotate_left
       · intro w hSw; (try dsimp only at hSw); first | (go_simp; done) | (go_simp; with_reducible rfl)
       try simp only [Act.put, List.setIfInBounds_toArray, List.set_cons_zero, List.set_cons_succ]
       refine wpAnyH_take (i := 1) (oi := ⟨some 32, .move (.tmp 1), 31, "law.go:53", #[], none⟩) (v := ?_) rfl (by kernel_rfl) (by kernel_rfl) (by kernel_rfl) (fun _ _ _ h => h) (Or.inl ⟨by rfl, ?_⟩) (by assumption) ?_
       rotate_left
       · intro w hSw; (try dsimp only at hSw); first | (go_simp; done) | (go_simp; with_reducible rfl)
       try simp only [Act.put, List.setIfInBounds_toArray, List.set_cons_zero, List.set_cons_succ]
       refine wpAnyH_take (i := 2) (oi := ⟨some 33, .move (.tmp 7), 3, "law.go:53", #[], none⟩) (v := ?_) rfl (by kernel_rfl) (by kernel_rfl) (by kernel_rfl) (fun _ _ _ h => h) (Or.inl ⟨by rfl, ?_⟩) (by assumption) ?_
       rotate_left
       · intro w hSw; (try dsimp only at hSw); first | (go_simp; done) | (go_simp; with_reducible rfl)
       try simp only [Act.put, List.setIfInBounds_toArray, List.set_cons_zero, List.set_cons_succ]
       refine wpAnyH_take (i := 3) (oi := ⟨some 34, .indexAddr 31 (.tmp 32) (.tmp 33), 0, "law.go:53", #[⟨1, .data⟩, ⟨2, .data⟩], none⟩) (v := ?_) rfl (by kernel_rfl) (by kernel_rfl) (by kernel_rfl) (fun _ _ _ h => h) (Or.inl ⟨by rfl, ?_⟩) (by assumption) ?_
       rotate_left
       · intro w hSw; (try dsimp only at hSw); first | (go_simp; done) | (go_simp; with_reducible rfl)
       try simp only [Act.put, List.setIfInBounds_toArray, List.set_cons_zero, List.set_cons_succ]
       refine wpAnyH_take (i := 4) (oi := ⟨some 35, .indexAddr 32 (.tmp 34) (.const (.int .i64 0)), 0, "law.go:53", #[⟨3, .data⟩], none⟩) (v := ?_) rfl (by kernel_rfl) (by kernel_rfl) (by kernel_rfl) (fun _ _ _ h => h) (Or.inl ⟨by rfl, ?_⟩) (by assumption) ?_
       rotate_left
       · intro w hSw; (try dsimp only at hSw); first | (go_simp; done) | (go_simp; with_reducible rfl)
       try simp only [Act.put, List.setIfInBounds_toArray, List.set_cons_zero, List.set_cons_succ]
       refine wpAnyH_take (i := 5) (oi := ⟨some 36, .load 5 (.tmp 35), 5, "law.go:53", #[⟨4, .data⟩], none⟩) (v := ?_) rfl (by kernel_rfl) (by kernel_rfl) (by kernel_rfl) (fun _ _ _ h => h) (Or.inl ⟨by rfl, ?_⟩) (by assumption) ?_
       rotate_left
       · intro w hSw; (try dsimp only at hSw); first | (go_simp; done) | (go_simp; with_reducible rfl)
       try simp only [Act.put, List.setIfInBounds_toArray, List.set_cons_zero, List.set_cons_succ]
       refine wpAnyH_take (i := 6) (oi := ⟨some 37, .convert 5 3 (.tmp 36), 3, "law.go:53", #[⟨5, .data⟩], none⟩) (v := ?_) rfl (by kernel_rfl) (by kernel_rfl) (by kernel_rfl) (fun _ _ _ h => h) (Or.inl ⟨by rfl, ?_⟩) (by assumption) ?_
       rotate_left
       · intro w hSw; (try dsimp only at hSw); first | (go_simp; done) | (go_simp; with_reducible rfl)
       try simp only [Act.put, List.setIfInBounds_toArray, List.set_cons_zero, List.set_cons_succ]
       refine wpAnyH_take (i := 7) (oi := ⟨some 38, .move (.tmp 5), 3, "law.go:53", #[], none⟩) (v := ?_) rfl (by kernel_rfl) (by kernel_rfl) (by kernel_rfl) (fun _ _ _ h => h) (Or.inl ⟨by rfl, ?_⟩) (by assumption) ?_
       rotate_left
       · intro w hSw; (try dsimp only at hSw); first | (go_simp; done) | (go_simp; with_reducible rfl)
       try simp only [Act.put, List.setIfInBounds_toArray, List.set_cons_zero, List.set_cons_succ]
       refine wpAnyH_take (i := 8) (oi := ⟨some 39, .binOp .rem 3 (.tmp 37) (.tmp 38) 3, 3, "law.go:53", #[⟨6, .data⟩, ⟨7, .data⟩], none⟩) (v := ?_) rfl (by kernel_rfl) (by kernel_rfl) (by kernel_rfl) (fun _ _ _ h => h) (Or.inl ⟨by rfl, ?_⟩) (by assumption) ?_
       rotate_left
       · intro w hSw; (try dsimp only at hSw); first | (go_simp; done) | (go_simp; with_reducible rfl)
       try simp only [Act.put, List.setIfInBounds_toArray, List.set_cons_zero, List.set_cons_succ]
       refine wpAnyH_take (i := 9) (oi := ⟨some 40, .move (.tmp 1), 31, "law.go:53", #[], none⟩) (v := ?_) rfl (by kernel_rfl) (by kernel_rfl) (by kernel_rfl) (fun _ _ _ h => h) (Or.inl ⟨by rfl, ?_⟩) (by assumption) ?_
       rotate_left
       · intro w hSw; (try dsimp only at hSw); first | (go_simp; done) | (go_simp; with_reducible rfl)
       try simp only [Act.put, List.setIfInBounds_toArray, List.set_cons_zero, List.set_cons_succ]
       refine wpAnyH_take (i := 10) (oi := ⟨some 41, .move (.tmp 7), 3, "law.go:53", #[], none⟩) (v := ?_) rfl (by kernel_rfl) (by kernel_rfl) (by kernel_rfl) (fun _ _ _ h => h) (Or.inl ⟨by rfl, ?_⟩) (by assumption) ?_
       rotate_left
       · intro w hSw; (try dsimp only at hSw); first | (go_simp; done) | (go_simp; with_reducible rfl)
       try simp only [Act.put, List.setIfInBounds_toArray, List.set_cons_zero, List.set_cons_succ]
       refine wpAnyH_take (i := 11) (oi := ⟨some 42, .indexAddr 31 (.tmp 40) (.tmp 41), 0, "law.go:53", #[⟨9, .data⟩, ⟨10, .data⟩], none⟩) (v := ?_) rfl (by kernel_rfl) (by kernel_rfl) (by kernel_rfl) (fun _ _ _ h => h) (Or.inl ⟨by rfl, ?_⟩) (by assumption) ?_
       rotate_left
       · intro w hSw; (try dsimp only at hSw); first | (go_simp; done) | (go_simp; with_reducible rfl)
       try simp only [Act.put, List.setIfInBounds_toArray, List.set_cons_zero, List.set_cons_succ]
       refine wpAnyH_take (i := 12) (oi := ⟨some 43, .indexAddr 32 (.tmp 42) (.const (.int .i64 1)), 0, "law.go:53", #[⟨11, .data⟩], none⟩) (v := ?_) rfl (by kernel_rfl) (by kernel_rfl) (by kernel_rfl) (fun _ _ _ h => h) (Or.inl ⟨by rfl, ?_⟩) (by assumption) ?_
       rotate_left
       · intro w hSw; (try dsimp only at hSw); first | (go_simp; done) | (go_simp; with_reducible rfl)
       try simp only [Act.put, List.setIfInBounds_toArray, List.set_cons_zero, List.set_cons_succ]
       refine wpAnyH_take (i := 13) (oi := ⟨some 44, .load 5 (.tmp 43), 5, "law.go:53", #[⟨12, .data⟩], none⟩) (v := ?_) rfl (by kernel_rfl) (by kernel_rfl) (by kernel_rfl) (fun _ _ _ h => h) (Or.inl ⟨by rfl, ?_⟩) (by assumption) ?_
       rotate_left
       · intro w hSw; (try dsimp only at hSw); first | (go_simp; done) | (go_simp; with_reducible rfl)
       try simp only [Act.put, List.setIfInBounds_toArray, List.set_cons_zero, List.set_cons_succ]
       refine wpAnyH_take (i := 14) (oi := ⟨some 45, .convert 5 3 (.tmp 44), 3, "law.go:53", #[⟨13, .data⟩], none⟩) (v := ?_) rfl (by kernel_rfl) (by kernel_rfl) (by kernel_rfl) (fun _ _ _ h => h) (Or.inl ⟨by rfl, ?_⟩) (by assumption) ?_
       rotate_left
       · intro w hSw; (try dsimp only at hSw); first | (go_simp; done) | (go_simp; with_reducible rfl)
       try simp only [Act.put, List.setIfInBounds_toArray, List.set_cons_zero, List.set_cons_succ]
       refine wpAnyH_take (i := 15) (oi := ⟨some 46, .move (.tmp 5), 3, "law.go:53", #[], none⟩) (v := ?_) rfl (by kernel_rfl) (by kernel_rfl) (by kernel_rfl) (fun _ _ _ h => h) (Or.inl ⟨by rfl, ?_⟩) (by assumption) ?_
       rotate_left
       · intro w hSw; (try dsimp only at hSw); first | (go_simp; done) | (go_simp; with_reducible rfl)
       try simp only [Act.put, List.setIfInBounds_toArray, List.set_cons_zero, List.set_cons_succ]
       refine wpAnyH_take (i := 16) (oi := ⟨some 47, .binOp .rem 3 (.tmp 45) (.tmp 46) 3, 3, "law.go:53", #[⟨14, .data⟩, ⟨15, .data⟩], none⟩) (v := ?_) rfl (by kernel_rfl) (by kernel_rfl) (by kernel_rfl) (fun _ _ _ h => h) (Or.inl ⟨by rfl, ?_⟩) (by assumption) ?_
       rotate_left
       · intro w hSw; (try dsimp only at hSw); first | (go_simp; done) | (go_simp; with_reducible rfl)
       try simp only [Act.put, List.setIfInBounds_toArray, List.set_cons_zero, List.set_cons_succ]
       refine wpAnyH_take (i := 17) (oi := ⟨some 48, .build 33 #[(0, .tmp 39), (1, .tmp 47)], 33, "law.go:53", #[⟨8, .data⟩, ⟨16, .data⟩], none⟩) (v := ?_) rfl (by kernel_rfl) (by kernel_rfl) (by kernel_rfl) (fun _ _ _ h => h) (Or.inl ⟨by rfl, ?_⟩) (by assumption) ?_
       rotate_left
       · intro w hSw; (try dsimp only at hSw); first | (go_simp; done) | (go_simp; with_reducible rfl)
       try simp only [Act.put, List.setIfInBounds_toArray, List.set_cons_zero, List.set_cons_succ]
       refine wpAnyH_ready (rs := [18]) (by kernel_rfl) (by simp) ?_
       refine AllReadyH.cons (o := ⟨some 49, .buildSlice 22 1 #[(0, .tmp 48)], 22, "law.go:53", #[⟨17, .data⟩], none⟩) rfl (fun K hK => ?_) AllReadyH.nil
       go_simp
       skip
       try go_wp2_with fail
       refine hK.out _ _ ?_ (fun hHeld1 => ?_)
       · (try dsimp only); (first | exact HS2.out | (refine mkS.out _ ?_; ((with_reducible (repeat (first | assumption | exact Ext.refl _ | apply Ext.drew | apply Ext.drewN | apply Ext.alloc))); done)))
       clear hK K hHeld0
       try simp only [Act.put, List.setIfInBounds_toArray, List.set_cons_zero, List.set_cons_succ]
       refine wpAnyH_ready (rs := [19]) (by kernel_rfl) (by simp) ?_
       refine AllReadyH.cons (o := ⟨some 50, .call { callee := .builtin .append, args := #[.tmp 31, .tmp 49], argTypes := #[22, 22] }, 22, "law.go:53", #[⟨0, .data⟩, ⟨18, .data⟩], none⟩) rfl (fun K hK => ?_) AllReadyH.nil
       refine step_app eltQ cQ_len cQ_one (by decide) _ _ _ _ _ i 1 _ ((l1.take i).map (pm (m : Int))) [pm (m : Int) (x1, x2)] w.heap.size rfl rfl (by rfl) (by rfl) (HOW.out _ ((Ext.refl wr).drew.alloc _)) rfl (RdG.one (top_heap _ _) (q_cells _ _)) HNV.out (HBS.out _ ((Ext.refl wr).drew.alloc _)) ?_; intro v2 w2 O2 G2 N2; obtain ⟨p2, c2, rfl, _⟩ := own_form O2; have H2 : Hid _ := PS.out _ _ _ (((Ext.refl wr).drew.alloc _)) O2 G2 N2; have HS2 : Hid ((fun V => V.cell? ⟨b, off + i * 2, none⟩ = some (.int .u8 x1) ∧ V.cell? ⟨b, off + i * 2 + 1, none⟩ = some (.int .u8 x2)) w2) := H2.out.1; clear O2 G2 N2
       refine hK.out _ _ ?_ (fun hHeld2 => ?_)
       · (try dsimp only); (first | exact HS2.out | (refine mkS.out _ ?_; ((with_reducible (repeat (first | assumption | exact Ext.refl _ | apply Ext.drew | apply Ext.drewN | apply Ext.alloc))); done)))
       clear hK K hHeld1
       try simp only [Act.put, List.setIfInBounds_toArray, List.set_cons_zero, List.set_cons_succ]
       refine wpAnyH_take (i := 20) (oi := ⟨some 6, .assign (.tmp 50), 22, "law.go:53", #[⟨19, .data⟩, ⟨19, .chain⟩, ⟨0, .phase⟩, ⟨1, .phase⟩, ⟨2, .phase⟩, ⟨3, .phase⟩, ⟨4, .phase⟩, ⟨5, .phase⟩, ⟨6, .phase⟩, ⟨7, .phase⟩, ⟨8, .phase⟩, ⟨9, .phase⟩, ⟨10, .phase⟩, ⟨11, .phase⟩, ⟨12, .phase⟩, ⟨13, .phase⟩, ⟨14, .phase⟩, ⟨15, .phase⟩, ⟨16, .phase⟩, ⟨17, .phase⟩, ⟨18, .phase⟩, ⟨19, .phase⟩], none⟩) (v := ?_) rfl (by kernel_rfl) (by kernel_rfl) (by kernel_rfl) (fun _ _ _ h => h) (Or.inl ⟨by rfl, ?_⟩) (by assumption) ?_
       rotate_left
       · intro w hSw; (try dsimp only at hSw); first | (go_simp; done) | (go_simp; with_reducible rfl)
       try simp only [Act.put, List.setIfInBounds_toArray, List.set_cons_zero, List.set_cons_succ]
       refine wpAnyH_done (by kernel_rfl) ?_ _
       clear ww1 ww2 m1 m2 K0 K0n
       have wi := wrapI i (by have := HL.out; omega)
       go_wp2
       exact ⟨⟨i + 1, by rw [wi], by have := HL.out; omega, by have := HL.out; omega, H2.out.2⟩, by rw [wi]; have := HL.out; clear wi; simp [intOf]; omega⟩
end Go.Proofs.Ytcjenjeggmlanaa
