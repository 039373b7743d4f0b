/-
 What the laws of stage 17 ask: same, lives.
 What is read as pairs is such.
 What the laws of stage 17 ask, over plain data.
 What the walks of three laws share: pairs below k.
 Who needs whom at all, by tables that grow: plain data.
 A table of truths in rows of their own.
 The document's Reaches.
 The document's ready.
-/
import Derived.Test.YtcjenjeggmlanaaY4
import Derived.Deep.Slices
import Derived.Test.YtcjenjeggmlanaaY2
import Derived.Maps.RangeWalk
namespace Go.Proofs.Ytcjenjeggmlanaa
open Go.RowKit
set_option maxHeartbeats 4000000

theorem rd_NI {W : World} {v : Value} {l : List Nat} (h : RdG cN 1 W v l) : RdG cI 1 W v (l.map (fun x : Nat => (x : Int))) := by
 obtain ⟨p, c, h1, h2, h3⟩ := h
 refine ⟨p, c, by rw [List.length_map]; exact h1, by rw [List.length_map]; exact h2, ?_⟩
 rcases h3 with h3 | ⟨b, off, h4, h5, h6⟩
 · exact .inl (by rw [h3]; rfl)
 · refine .inr ⟨b, off, h4, h5, fun i x j u hi hu => ?_⟩
   rw [List.getElem?_map] at hi
   cases hl : l[i]? with
   | none => rw [hl] at hi; cases hi
   | some y =>
     rw [hl] at hi
     simp at hi
     subst hi
     exact h6 i y j u hl hu
theorem RdI.cell {W : World} {p : Option Addr} {n cp : Nat} {l : List Int} (h : RdG cI 1 W (.slice p n cp) l) {i : Nat} {x : Int} (hi : l[i]? = some x) :
   ∃ b off, p = some ⟨b, off, none⟩ ∧ b < W.heap.size ∧ W.cell? ⟨b, off + i, none⟩ = some (.int .i64 x) := by
 obtain ⟨b, off, h1, h2, h3⟩ := h.at hi
 have := h3 0 _ rfl
 rw [Nat.mul_one, Nat.add_zero] at this
 exact ⟨b, off, h1, h2, this⟩
theorem same_any (w : World) (v u : Value) (l m : List Int) (h : RdG cI 1 w v l) (g : RdG cI 1 w u m) (hl : l.length ≤ 100000) :
   Calls Try.prog 10 #[v, u] w fun e w' => e = .returned (.bool (decide (l = m))) ∧ Ext w w' := by
 obtain ⟨p, c, rfl, _⟩ := h.form
 obtain ⟨q, d, rfl, _⟩ := g.form
 have HR : Hid (RdG cI 1 w (.slice p l.length c) l) := h
 have HG : Hid (RdG cI 1 w (.slice q m.length d) m) := g
 have HL : Hid (l.length ≤ 100000) := hl
 clear h hl g
 go_enter Try.func10, Try.ntmps10
 by_cases hne : l.length = m.length
 · have HM : Hid (l.length = m.length) := hne
   have e1 : ((l.length : Int) != (m.length : Int)) = false := by simp [hne]
   clear hne
   go_wp2
   go_loopw [5] (fun x wr => ∃ k : Nat, x = .int .i64 (k : Int) ∧ k ≤ l.length ∧ Ext w wr ∧ l.take k = m.take k) (fun x _ => l.length - (intOf x).toNat)
   case atStart => exact ⟨0, rfl, Nat.zero_le _, Ext.refl _, rfl⟩
   case round =>
     obtain ⟨k, rfl, hk, hE, hn⟩ := hrel
     have HE : Hid (Ext w wr) := hE
     have HN : Hid (l.take k = m.take k) := hn
     clear hE hn e1
     rcases Nat.lt_or_ge k l.length with hlt | hge
     · have hltI : (k : Int) < (l.length : Int) := by omega
       have hltJ : (k : Int) < (m.length : Int) := by have := HM.out; omega
       have hltm : k < m.length := by have := HM.out; omega
       obtain ⟨s, hs⟩ : ∃ s, l[k]? = some s := ⟨_, List.getElem?_eq_getElem hlt⟩
       obtain ⟨t, ht⟩ : ∃ t, m[k]? = some t := ⟨_, List.getElem?_eq_getElem hltm⟩
       obtain ⟨b, off, rfl, _, c1⟩ := RdI.cell (HR.out.ext HE.out) hs
       obtain ⟨b', off', rfl, _, c2⟩ := RdI.cell (HG.out.ext HE.out) ht
       have HS : Hid (l[k]? = some s ∧ m[k]? = some t) := ⟨hs, ht⟩
       clear hs ht hltm
       have wk := wrapI k (by have := HL.out; omega)
       by_cases he : s = t
       · have e2 : ((s : Int) != (t : Int)) = false := by simp [he]
         have HT : Hid (l.take (k + 1) = m.take (k + 1)) := by
           show _ = _
           rw [take_at HS.out.1, take_at HS.out.2, HN.out, he]
         clear he
         go_upto_region 6 with fail
         go_region
         go_wp2
         go_roundw
         case rel => exact ⟨k + 1, by rw [wk], hlt, HE.out.drew, HT.out⟩
         case measure => rw [wk]; clear wk; simp [intOf]; omega
       · have e2 : ((s : Int) != (t : Int)) = true := by simp [he]
         have HT : Hid (l ≠ m) := fun e => he (by
           have h1 := HS.out.1
           rw [e, HS.out.2] at h1
           exact (Option.some.inj h1).symm)
         clear he
         go_upto_region 6 with fail
         go_region
         go_wp2
         go_ret
         exact ⟨ret_bool (by simp [HT.out]), HE.out.drew⟩
     · have hltI : ¬ (k : Int) < (l.length : Int) := by omega
       have HT : Hid (l = m) := by
         have h1 := HN.out
         rwa [List.take_of_length_le hge, List.take_of_length_le (by have := HM.out; omega)] at h1
       go_wp2
       go_ret
       exact ⟨ret_bool (by simp [HT.out]), HE.out⟩
 · have e1 : ((l.length : Int) != (m.length : Int)) = true := by simp; omega
   have HT : Hid (l ≠ m) := fun e => hne (by rw [e])
   clear hne
   go_wp2
   go_ret
   exact ⟨ret_bool (by simp [HT.out]), Ext.refl _⟩
theorem el1 {a b : Nat} : EL [(0, 2)] a b ↔ a = 0 ∧ b = 2 := by unfold EL; simp
theorem rch1 {a b : Nat} (h : Rch (EL [(0, 2)]) a b) : a = 0 ∧ b = 2 := by
 induction h with
 | one e => exact el1.1 e
 | step e _ ih => exact ⟨(el1.1 e).1, ih.2⟩
theorem con1 {a b : Nat} (h : Con (EL [(0, 2)]) a b) : a = b := by
 rcases h.1 with e | h1
 · exact e
 · rcases h.2 with e | h2
   · exact e.symm
   · have := rch1 h1; have := rch1 h2; omega
theorem rdy1 {out : List Nat} {x : Nat} : Rdy [(0, 2)] out x ↔ (x = 0 → 2 ∈ out) := by
 unfold Rdy
 constructor
 · intro h e
   subst e
   rcases h 2 (by simp) with h | h
   · exact h
   · have := con1 h; omega
 · intro h b hb
   simp at hb
   rw [hb.2]
   exact .inl (h hb.1)
theorem so1 : SoP 3 [(0, 2)] [1, 2, 0] [-1, -1, -1] 0 := by
 unfold SoP
 rw [if_neg (by decide), if_neg (by decide)]
 show (0 : Int) = 0 ∧ IsOrd [(0, 2)] 3 [1, 2, 0] ∧ IsGrp [(0, 2)] 3 [-1, -1, -1]
 refine ⟨rfl, ⟨rfl, ?_⟩, rfl, fun v hv => ⟨fun h => by have := rch1 h; omega, fun _ => ?_⟩⟩
 · have n1 : Nxt [(0, 2)] 3 [] 1 := ⟨by decide, by decide, rdy1.2 (by decide), fun y _ _ h => by
     rcases Nat.eq_zero_or_pos y with e | e
     · exact absurd (rdy1.1 h e) (by decide)
     · exact e⟩
   have n2 : Nxt [(0, 2)] 3 ([] ++ [1]) 2 := ⟨by decide, by decide, rdy1.2 (by decide), fun y h1 h2 h => by
     simp at h2
     by_cases e : y = 0
     · exact absurd (rdy1.1 h e) (by decide)
     · omega⟩
   have n3 : Nxt [(0, 2)] 3 ([] ++ [1] ++ [2]) 0 := ⟨by decide, by decide, rdy1.2 (by decide), fun y _ _ _ => Nat.zero_le _⟩
   exact ords_snoc (ords_snoc (ords_snoc (ords_nil _ _) n1) n2) n3
 · match v, hv with
   | 0, _ => rfl
   | 1, _ => rfl
   | 2, _ => rfl
theorem RdQ.two {W V : World} {a b : Int} (e : Ext (W.alloc (.cells #[.int .i64 a, .int .i64 b] 33)) V) : RdG cQ 2 V (.slice (some ⟨W.heap.size, 0, none⟩) 1 1) [(a, b)] :=
 RdG.one (Ext.top e) (fun j u h => by
   have hj : j < 2 := (List.getElem?_eq_some_iff.1 h).1
   match j, hj with
   | 0, _ => exact h
   | 1, _ => exact h)
theorem RdI.three {W V : World} {a b c : Int} (e : Ext (W.alloc (.cells #[.int .i64 a, .int .i64 b, .int .i64 c] 3)) V) : RdG cI 1 V (.slice (some ⟨W.heap.size, 0, none⟩) 3 3) [a, b, c] := by
 refine ⟨_, 3, rfl, Nat.le_refl _, .inr ⟨W.heap.size, 0, rfl, heap_lt (Ext.top e), fun i x j u hi hj => ?_⟩⟩
 have hj0 : j = 0 := by have := (List.getElem?_eq_some_iff.1 hj).1; simp [cI] at this; exact this
 subst hj0
 simp [cI] at hj
 subst hj
 rw [cell_of_row V _ _ _ 3 (0, 0) (Ext.top e)]
 match i, (List.getElem?_eq_some_iff.1 hi).1 with
 | 0, _ => simp at hi; subst hi; rfl
 | 1, _ => simp at hi; subst hi; rfl
 | 2, _ => simp at hi; subst hi; rfl
set_option maxRecDepth 100000 in
theorem lives_any (w : World) : Calls Try.prog 11 #[] w fun e w' => e = .returned (.bool true) ∧ Ext w w' := by
 have cs := sort_any (w.alloc (.cells #[.int .i64 0, .int .i64 2] 33)) _ [(0, 2)] 3 (RdQ.two (Ext.refl _)) (by simp)
 go_enter Try.func11, Try.ntmps11
 go_wp2_with fail
 refine cs.mono ?_
 rintro e w1 ⟨va, vg, o, gs, er, rfl, ho, hg, hp, e1⟩
 obtain ⟨rfl, rfl, rfl⟩ := hp.one so1
 obtain ⟨po, co, rfl, _⟩ := ho.form
 obtain ⟨pg, cg, rfl, _⟩ := hg.form
 have HE : Hid (Ext w w1) := ((Ext.refl w).alloc _).trans e1
 have cm := same_any (w1.alloc (.cells #[.int .i64 1, .int .i64 2, .int .i64 0] 3)) _ _ _ _ (rd_NI (ho.ext ((Ext.refl _).alloc _))) (RdI.three (Ext.refl _)) (by simp)
 have HG : Hid (RdG cI 1 w1 (.slice pg 3 cg) [-1, -1, -1]) := hg
 obtain ⟨gb, go, rfl, -, -⟩ := RdI.cell (i := 0) (x := -1) hg rfl
 clear cs ho hg hp e1
 go_wp2_with fail
 refine cm.mono ?_
 rintro e w2 ⟨rfl, e2⟩
 have HE2 : Hid (Ext w w2) := (HE.out.alloc _).trans e2
 have hg2 := HG.out.ext (((Ext.refl w1).alloc _).trans e2)
 obtain ⟨gb', go', h1, -, cg0⟩ := RdI.cell (i := 0) (x := -1) hg2 rfl
 simp only [Option.some.injEq, Addr.mk.injEq, and_true] at h1
 obtain ⟨rfl, rfl⟩ := h1
 rw [Nat.add_zero] at cg0
 clear cm e2 hg2
 go_wp2
 go_ret
 exact ⟨rfl, HE2.out⟩

open Go.ChangeShapes Go.WideShapes Go.RowKit
open Go.Deep (choose_lt)
set_option maxHeartbeats 1000000

def cU (x : Int × Int) : List Value := [.int .u8 x.1, .int .u8 x.2]
theorem qc_int : Try.prog.cellsOf 3 = 1 := by kernel_rfl
section
variable {H : Type} {enc : TypeId × Value → H} {w : World} {base : Nat} {sp : Nat → Bool} {hd : Bool}
theorem open_g {TS T : TypeId} {k : Nat} (hu : Try.prog.underlying TS = some (.slice T)) (hk : Try.prog.cellsOf T = k) (hk0 : 0 < k) {α : Type} [Inhabited α] (c : α → List Value) (hc : ∀ x, (c x).length = k) (Q : α → Prop)
   (hel : ∀ fuel cs x, cs.length = k → DataW.trod enc Try.prog w base sp hd fuel T cs = some x → ∃ y, cs = c y ∧ Q y)
   {fuel : Nat} {cv : Value} {x : DataW H × List MemPlace} (h : DataW.trod enc Try.prog w base sp hd fuel TS [cv] = some x) : ∃ l : List α, RdG c k w cv l ∧ ∀ y ∈ l, Q y := by
 rcases DataW.trod_slice hu h with ⟨e6, _⟩ | ⟨a, len, cap, elems, rest, n', hn', e6, _, hb, hl, hm, hel', hx, _, _⟩
 · simp only [List.cons.injEq, and_true] at e6
   subst e6
   exact ⟨[], RdG.nil w, (fun r hr => by cases hr)⟩
 · simp only [List.cons.injEq, and_true] at e6
   subst e6
   rw [hk] at hx
   have each : ∀ i, i < len → ∃ y : α, (∀ (j : Nat) (u : Value), (c y)[j]? = some u → w.cell? ((a.add (i * k)).add j) = some u) ∧ Q y := by
     intro i hi
     have h0 := hx i hi
     rw [List.getElem?_eq_getElem (show i < elems.length by omega)] at h0
     obtain ⟨cs', h1, h2⟩ := Option.bind_eq_some_iff.1 h0
     obtain ⟨_, k1, k2⟩ := World.cells?_some h1
     obtain ⟨r, rfl, hr⟩ := hel _ _ _ (by simpa using k1) h2
     refine ⟨r, fun j u hu => ?_, hr⟩
     rw [← hu]
     refine k2 j ?_
     have := (List.getElem?_eq_some_iff.1 hu).1
     rw [← k1]; exact this
   obtain ⟨f, hf⟩ := choose_lt each
   by_cases h0 : len = 0
   · subst h0
     exact ⟨[], ⟨_, _, rfl, by omega, .inl rfl⟩, (fun r hr => by cases hr)⟩
   obtain ⟨b, off, spot⟩ := a
   obtain ⟨u, hu⟩ : ∃ u, (c (f 0))[0]? = some u := ⟨_, List.getElem?_eq_getElem (by rw [hc]; exact hk0)⟩
   have hz := (hf 0 (by omega)).1 0 _ hu
   have hspot : spot = none := by simpa [Addr.add] using World.cell?_spot hz
   subst hspot
   have hblt : b < w.heap.size := by
     have := World.block_lt_of_cell? _ _ hz
     simpa only [Addr.add_lit] using this
   have hgl : ((List.range len).map f).length = len := by simp
   refine ⟨(List.range len).map f, ⟨_, cap, by rw [hgl], by omega, .inr ⟨b, off, rfl, hblt, fun i r j u hi hj => ?_⟩⟩, ?_⟩
   · have hi' : i < len := by
       have := (List.getElem?_eq_some_iff.1 hi).1
       simpa using this
     rw [List.getElem?_map, List.getElem?_range hi'] at hi
     simp at hi
     subst hi
     have := (hf i hi').1 j u hj
     simp only [Addr.add_lit] at this
     exact this
   · intro r hr
     obtain ⟨i, hi, rfl⟩ := List.mem_map.1 hr
     exact (hf i (List.mem_range.1 hi)).2
theorem trod_array2 {t e : TypeId} {fuel : Nat} {c0 c1 : Value} {x : DataW H × List MemPlace} (ht : Try.prog.underlying t = some (.array 2 e)) (hce : Try.prog.cellsOf e = 1)
   (h : DataW.trod enc Try.prog w base sp hd fuel t [c0, c1] = some x) :
   ∃ y0 y1 n, DataW.trod enc Try.prog w base sp hd n e [c0] = some y0 ∧ DataW.trod enc Try.prog w base sp hd n e [c1] = some y1 := by
 cases fuel with
 | zero => simp [DataW.trod] at h
 | succ n =>
   unfold DataW.trod at h
   rw [ht] at h
   have r2 : List.range 2 = [0, 1] := rfl
   simp [r2, hce] at h
   obtain ⟨_, h⟩ := h
   cases h0 : DataW.trod enc Try.prog w base sp hd n e [c0] with
   | none => simp [h0] at h
   | some y0 =>
     cases h1 : DataW.trod enc Try.prog w base sp hd n e [c1] with
     | none => simp [h0, h1] at h
     | some y1 => exact ⟨y0, y1, n, h0, h1⟩
theorem open_intp {fuel : Nat} {cs : List Value} {x : DataW H × List MemPlace} (hl : cs.length = 2) (h : DataW.trod enc Try.prog w base sp hd fuel 33 cs = some x) : ∃ y : Int × Int, cs = cQ y ∧ (I64 y.1 ∧ I64 y.2) := by
 match cs, hl with
 | [c0, c1], _ =>
   obtain ⟨y0, y1, n, h0, h1⟩ := trod_array2 Try.underlying33 qc_int h
   obtain ⟨a0, e0, _, w0⟩ := DataW.trod_int Try.underlying3 h0
   obtain ⟨a1, e1, _, w1⟩ := DataW.trod_int Try.underlying3 h1
   simp only [List.cons.injEq, and_true] at e0 e1
   subst e0 e1
   exact ⟨(a0, a1), rfl, i64_of_wf w0, i64_of_wf w1⟩
theorem open_ps {fuel : Nat} {c : Value} {x : DataW H × List MemPlace} (h : DataW.trod enc Try.prog w base sp hd fuel 22 [c] = some x) : ∃ l, RdG cQ 2 w c l ∧ ∀ y ∈ l, I64 y.1 ∧ I64 y.2 :=
 open_g Try.underlying22 (k := 2) (by kernel_rfl) (by decide) cQ cQ_len _ (fun _ _ _ => open_intp) h
end

/-! ### Places in an order -/
theorem con_rch {E : Nat → Nat → Prop} {a b : Nat} (e : E a b) (h : Con E a b) : Rch E a a ∧ Rch E b b := by
 rcases h.2 with h2 | h2
 · subst h2
   exact ⟨.one e, .one e⟩
 · exact ⟨.step e h2, h2.trans (.one e)⟩
/-- Of one group: by the numbers. -/
theorem grp_con {L : List (Nat × Nat)} {n : Nat} {gs : List Int} (hg : IsGrp L n gs) {a b : Nat} (ha : a < n) (hb : b < n) (hp : (a, b) ∈ L) {y1 y2 : Int} (h1 : gs[a]? = some y1) (h2 : gs[b]? = some y2) : (0 ≤ y1 ∧ y1 = y2) ↔ Con (EL L) a b := by
 constructor
 · rintro ⟨h0, rfl⟩
   have ra : Rch (EL L) a a := Classical.byContradiction fun hn => by
     have := (hg.2 a ha).2 hn
     rw [h1] at this
     have := Option.some.inj this
     omega
   have rb : Rch (EL L) b b := Classical.byContradiction fun hn => by
     have := (hg.2 b hb).2 hn
     rw [h2] at this
     have := Option.some.inj this
     omega
   obtain ⟨g, g1, g2⟩ := (hg.2 a ha).1 ra
   obtain ⟨k, k1, k2⟩ := (hg.2 b hb).1 rb
   rw [h1] at g1
   rw [h2] at k1
   have e : g = k := by
     have e1 := Option.some.inj g1
     have e2 := Option.some.inj k1
     omega
   subst e
   exact g2.1.trans k2.1.symm
 · intro hc
   obtain ⟨ra, rb⟩ := con_rch (show EL L a b from hp) hc
   obtain ⟨g, g1, g2⟩ := (hg.2 a ha).1 ra
   obtain ⟨k, k1, k2⟩ := (hg.2 b hb).1 rb
   rw [h1] at g1
   rw [h2] at k1
   have e := g2.same k2 |>.2 hc
   have e1 := Option.some.inj g1
   have e2 := Option.some.inj k1
   omega
/-! ### Pairs twice, and in another order -/
/-! ### Groups by what is reached -/
/-! ### The document's groups and order -/
/-- The least from j on that i reaches and that reaches i; -1, if none. -/
def lo1 (F : Nat → Nat → Bool) (n i : Nat) : Nat → Int
 | 0 => -1
 | k + 1 => if F i (n - 1 - k) && F (n - 1 - k) i then ((n - 1 - k : Nat) : Int) else lo1 F n i k
theorem lo1_some {F : Nat → Nat → Bool} {n i : Nat} : ∀ k, k ≤ n → (lo1 F n i k = -1 ∧ (∀ j, n - k ≤ j → j < n → ¬ (F i j = true ∧ F j i = true))) ∨ ∃ g : Nat, lo1 F n i k = (g : Int) ∧ n - k ≤ g ∧ g < n ∧ F i g = true ∧ F g i = true ∧ ∀ j, n - k ≤ j → j < n → F i j = true → F j i = true → g ≤ j
 | 0, _ => .inl ⟨rfl, fun j h1 h2 => by omega⟩
 | k + 1, hk => by
   unfold lo1
   by_cases h : F i (n - 1 - k) = true ∧ F (n - 1 - k) i = true
   · rw [if_pos (by simp [h])]
     exact .inr ⟨n - 1 - k, rfl, by omega, by omega, h.1, h.2, fun j h1 _ _ _ => by omega⟩
   · rw [if_neg (by simpa using h)]
     have key : ∀ j, n - (k + 1) ≤ j → j < n → F i j = true → F j i = true → n - k ≤ j := fun j h1 h2 h3 h4 => by
       by_cases e : j = n - 1 - k
       · subst e; exact absurd ⟨h3, h4⟩ h
       · omega
     rcases lo1_some (F := F) (n := n) (i := i) k (by omega) with ⟨h1, h2⟩ | ⟨g, h1, h2, h3, h4, h5, h6⟩
     · exact .inl ⟨h1, fun j j1 j2 j3 => h2 j (key j j1 j2 j3.1 j3.2) j2 j3⟩
     · exact .inr ⟨g, h1, by omega, h3, h4, h5, fun j j1 j2 j3 j4 => h6 j (key j j1 j2 j3 j4) j2 j3 j4⟩
theorem rch_lt {L : List (Nat × Nat)} {n : Nat} (hL : ∀ p ∈ L, p.1 < n ∧ p.2 < n) {a b : Nat} (h : Rch (EL L) a b) : a < n ∧ b < n := by
 induction h with
 | one e => exact hL _ e
 | step e _ ih => exact ⟨(hL _ e).1, ih.2⟩
theorem lo1_grp {L : List (Nat × Nat)} {n : Nat} (hL : ∀ p ∈ L, p.1 < n ∧ p.2 < n) {F : Nat → Nat → Bool} (hF : ∀ x y, x < n → y < n → (F x y = true ↔ Rch (EL L) x y)) {gs : List Int} (hl : gs.length = n) (hg : ∀ v, v < n → gs[v]? = some (lo1 F n v n)) : IsGrp L n gs := by
 refine ⟨hl, fun v hv => ⟨fun hr => ?_, fun hr => ?_⟩⟩
 · rcases lo1_some (F := F) (i := v) n (Nat.le_refl _) with ⟨_, h2⟩ | ⟨g, h1, _, h3, h4, h5, h6⟩
   · exact absurd ⟨(hF v v hv hv).2 hr, (hF v v hv hv).2 hr⟩ (h2 v (by omega) hv)
   · refine ⟨g, by rw [hg v hv, h1], ⟨.inr ((hF v g hv h3).1 h4), .inr ((hF g v h3 hv).1 h5)⟩, fun u hu => ?_⟩
     by_cases e : v = u
     · subst e; exact h6 v (by omega) hv ((hF v v hv hv).2 hr) ((hF v v hv hv).2 hr)
     · have r1 : Rch (EL L) v u := hu.1.resolve_left e
       have r2 : Rch (EL L) u v := hu.2.resolve_left (fun e2 => e e2.symm)
       have hu2 := (rch_lt hL r1).2
       exact h6 u (by omega) hu2 ((hF v u hv hu2).2 r1) ((hF u v hu2 hv).2 r2)
 · rcases lo1_some (F := F) (i := v) n (Nat.le_refl _) with ⟨h1, _⟩ | ⟨g, _, _, h3, h4, h5, _⟩
   · rw [hg v hv, h1]
   · exact absurd (((hF v g hv h3).1 h4).trans ((hF g v h3 hv).1 h5)) hr

open Go.RowKit
set_option maxHeartbeats 4000000

/-- A pair below k. -/
def pm (k : Int) (x : Int × Int) : Int × Int := (x.1 % k, x.2 % k)
theorem RdU.cell {W : World} {p : Option Addr} {n cp : Nat} {l : List (Int × Int)} (h : RdG cU 2 W (.slice p n cp) l) {i : Nat} {x : Int × Int} (hi : l[i]? = some x) :
   ∃ b off, p = some ⟨b, off, none⟩ ∧ b < W.heap.size ∧ W.cell? ⟨b, off + i * 2, none⟩ = some (.int .u8 x.1) ∧ W.cell? ⟨b, off + i * 2 + 1, none⟩ = some (.int .u8 x.2) := by
 obtain ⟨b, off, h1, h2, h3⟩ := h.at hi
 exact ⟨b, off, h1, h2, h3 0 _ rfl, h3 1 _ rfl⟩
theorem RdN.cell {W : World} {p : Option Addr} {n cp : Nat} {l : List Nat} (h : RdG cN 1 W (.slice p n cp) l) {i : Nat} {x : Nat} (hi : l[i]? = some x) :
   ∃ b off, p = some ⟨b, off, none⟩ ∧ b < W.heap.size ∧ W.cell? ⟨b, off + i, none⟩ = some (.int .i64 (x : Int)) := by
 obtain ⟨b, off, h1, h2, h3⟩ := h.at hi
 have := h3 0 _ rfl
 rw [Nat.mul_one, Nat.add_zero] at this
 exact ⟨b, off, h1, h2, this⟩
/-- The pairs so far. -/
structure PaL (w : World) (kk : Int) (l1 : List (Int × Int)) (i : Nat) (lv : Value) (wr : World) : Prop where
 o : wr.ownsRow w.heap.size 33 2 lv i (((l1.take i).map (pm kk)).flatMap cQ)
 e : Ext w wr
theorem PaL.ext {w wr W : World} {kk : Int} {l1 : List (Int × Int)} {i : Nat} {lv : Value} (h : PaL w kk l1 i lv wr) (e : Ext wr W) : PaL w kk l1 i lv W :=
 ⟨ownsRow_ext h.o e, h.e.trans e⟩
theorem PaL.step {w wr Y w2 : World} {kk : Int} {l1 : List (Int × Int)} {i : Nat} {lv v2 : Value} {x : Int × Int} (h : PaL w kk l1 i lv wr) (e : Ext wr Y) (hx : l1[i]? = some x)
   (o : w2.ownsRow w.heap.size 33 2 v2 (i + 1) (((l1.take i).map (pm kk) ++ [pm kk x]).flatMap cQ)) (g : Y.grownBy w2 lv.ownBlock) (_ : v2.ownBlock = lv.ownBlock ∨ v2.ownBlock = some Y.heap.size) : PaL w kk l1 (i + 1) v2 w2 := by
 have h' := h.ext e
 refine ⟨?_, ext_grownG h'.o (Nat.le_refl _) h'.e g⟩
 rw [take_at hx, List.map_append]
 exact o
/-- The pairs so far, and an empty row beside them. -/
structure PaS (w : World) (mb : Nat) (kk : Int) (l1 : List (Int × Int)) (i : Nat) (lv : Value) (wr : World) : Prop where
 o : wr.ownsRow w.heap.size 33 2 lv i (((l1.take i).map (pm kk)).flatMap cQ)
 m : wr.ownsRow w.heap.size 33 2 (.slice (some ⟨mb, 0, none⟩) 0 0) 0 []
 d : lv.ownBlock ≠ some mb
 e : Ext w wr
theorem PaS.ext {w wr W : World} {kk : Int} {l1 : List (Int × Int)} {mb i : Nat} {lv : Value} (h : PaS w mb kk l1 i lv wr) (e : Ext wr W) : PaS w mb kk l1 i lv W :=
 ⟨ownsRow_ext h.o e, ownsRow_ext h.m e, h.d, h.e.trans e⟩
theorem PaS.step {w wr Y w2 : World} {kk : Int} {l1 : List (Int × Int)} {mb i : Nat} {lv v2 : Value} {x : Int × Int} (h : PaS w mb kk l1 i lv wr) (e : Ext wr Y) (hx : l1[i]? = some x)
   (o : w2.ownsRow w.heap.size 33 2 v2 (i + 1) (((l1.take i).map (pm kk) ++ [pm kk x]).flatMap cQ)) (g : Y.grownBy w2 lv.ownBlock) (nb : v2.ownBlock = lv.ownBlock ∨ v2.ownBlock = some Y.heap.size) : PaS w mb kk l1 (i + 1) v2 w2 := by
 have h' := h.ext e
 refine ⟨?_, own_keep h'.m (fun k ek hk => g.block k hk (fun e2 => ?_)), fun e2 => ?_, ext_grownG h'.o (Nat.le_refl _) h'.e g⟩
 · rw [take_at hx, List.map_append]
   exact o
 · have e3 : mb = k := Option.some.inj ek
   exact h.d (by rw [← e2, e3])
 · rcases nb with nb | nb
   · exact h.d (nb ▸ e2)
   · rw [nb] at e2
     have e3 := Option.some.inj e2
     have := (h'.m.lt mb rfl).2
     omega
theorem ok_in {m : Nat} {L : List (Int × Int)} (h : L.all (okP (m : Int)) = true) : (∀ p ∈ L, 0 ≤ p.1 ∧ 0 ≤ p.2) ∧ ∀ p ∈ L.map nn, p.1 < m ∧ p.2 < m := by
 have hall : ∀ p ∈ L, 0 ≤ p.1 ∧ p.1 < (m : Int) ∧ 0 ≤ p.2 ∧ p.2 < (m : Int) := fun p hp => by
   have := List.all_eq_true.1 h p hp
   unfold okP at this
   simpa using this
 refine ⟨fun p hp => ⟨(hall p hp).1, (hall p hp).2.2.1⟩, fun q hq => ?_⟩
 obtain ⟨x, hx, rfl⟩ := List.mem_map.1 hq
 obtain ⟨a1, a2, a3, a4⟩ := hall x hx
 unfold nn
 exact ⟨by show x.1.toNat < m; omega, by show x.2.toNat < m; omega⟩
theorem SoP.ok {m : Nat} {L : List (Int × Int)} (h : L.all (okP (m : Int)) = true) (hm : m ≤ 4096) {o : List Nat} {gs : List Int} {er : Int} (s : SoP (m : Int) L o gs er) : er = 0 ∧ IsOrd (L.map nn) m o ∧ IsGrp (L.map nn) m gs := by
 unfold SoP at s
 rw [if_neg (by rw [h]; simp), if_neg (by omega), Int.toNat_natCast] at s
 exact s
theorem SoP.mk {m : Nat} {L : List (Int × Int)} (h : L.all (okP (m : Int)) = true) (hm : m ≤ 4096) {o : List Nat} {gs : List Int} (h1 : IsOrd (L.map nn) m o) (h2 : IsGrp (L.map nn) m gs) : SoP (m : Int) L o gs 0 := by
 unfold SoP
 rw [if_neg (by rw [h]; simp), if_neg (by omega), Int.toNat_natCast]
 exact ⟨rfl, h1, h2⟩

/-- From i to j, by things below k alone. -/
def Pk (E : Nat → Nat → Prop) : Nat → Nat → Nat → Prop
 | 0, i, j => E i j
 | k + 1, i, j => Pk E k i j ∨ (Pk E k i k ∧ Pk E k k j)
section
variable {E : Nat → Nat → Prop}
theorem pk_trans : ∀ k i m j, m < k → Pk E k i m → Pk E k m j → Pk E k i j
 | 0, _, _, _, h, _, _ => absurd h (Nat.not_lt_zero _)
 | k + 1, i, m, j, h, h1, h2 => by
   by_cases e : m = k
   · subst e
     refine .inr ⟨?_, ?_⟩
     · rcases h1 with h1 | ⟨h1, _⟩
       · exact h1
       · exact h1
     · rcases h2 with h2 | ⟨_, h2⟩
       · exact h2
       · exact h2
   · have hm : m < k := by omega
     rcases h1 with h1 | ⟨h1, h1'⟩
     · rcases h2 with h2 | ⟨h2, h2'⟩
       · exact .inl (pk_trans k i m j hm h1 h2)
       · exact .inr ⟨pk_trans k i m k hm h1 h2, h2'⟩
     · rcases h2 with h2 | ⟨h2, h2'⟩
       · exact .inr ⟨h1, pk_trans k k m j hm h1' h2⟩
       · exact .inr ⟨h1, h2'⟩
theorem pk_mono : ∀ k d i j, Pk E k i j → Pk E (k + d) i j
 | _, 0, _, _, h => h
 | k, d + 1, i, j, h => .inl (pk_mono k d i j h)
theorem rch_pk {n : Nat} (hE : ∀ a b, E a b → a < n ∧ b < n) {i j : Nat} (h : Rch E i j) : Pk E n i j := by
 induction h with
 | one e =>
   have := pk_mono 0 n _ _ (show Pk E 0 _ _ from e)
   rwa [Nat.zero_add] at this
 | step e _ ih =>
   have := pk_mono 0 n _ _ (show Pk E 0 _ _ from e)
   rw [Nat.zero_add] at this
   exact pk_trans n _ _ _ (hE _ _ e).2 this ih
/-- A table between what is known by things below k and what is at all; behind (i, j) in row k the next. -/
structure Tb (E : Nat → Nat → Prop) (n k i j : Nat) (F : Nat → Nat → Bool) : Prop where
 s : ∀ x y, F x y = true → Rch E x y
 c : ∀ x y, x < n → y < n → Pk E k x y → F x y = true
 d : ∀ x y, x < n → y < n → (x < i ∨ x = i ∧ y < j) → Pk E (k + 1) x y → F x y = true
def set2 (F : Nat → Nat → Bool) (i j : Nat) : Nat → Nat → Bool := fun x y => if x = i ∧ y = j then true else F x y
theorem Tb.row {n k i : Nat} {F : Nat → Nat → Bool} (h : Tb E n k i n F) : Tb E n k (i + 1) 0 F :=
 ⟨h.s, h.c, fun x y hx hy hxy => h.d x y hx hy (by omega)⟩
theorem Tb.next {n k : Nat} {F : Nat → Nat → Bool} (h : Tb E n k n 0 F) : Tb E n (k + 1) 0 0 F :=
 ⟨h.s, fun x y hx hy hp => h.d x y hx hy (by omega) hp, fun x y _ _ hxy => by omega⟩
theorem Tb.yes {n k i j : Nat} {F : Nat → Nat → Bool} (h : Tb E n k i j F) (h1 : F i k = true) (h2 : F k j = true) : Tb E n k i (j + 1) (set2 F i j) := by
 have mono : ∀ x y, F x y = true → set2 F i j x y = true := fun x y hxy => by unfold set2; split <;> simp_all
 refine ⟨fun x y hxy => ?_, fun x y hx hy hp => mono x y (h.c x y hx hy hp), fun x y hx hy hxy hp => ?_⟩
 · unfold set2 at hxy
   split at hxy
   · rename_i e
     rw [e.1, e.2]
     exact (h.s i k h1).trans (h.s k j h2)
   · exact h.s x y hxy
 · by_cases e : x = i ∧ y = j
   · unfold set2; rw [if_pos e]
   · exact mono x y (h.d x y hx hy (by omega) hp)
theorem Tb.no {n k i j : Nat} {F : Nat → Nat → Bool} (h : Tb E n k i j F) (hk : k < n) (hi : i < n) (hj : j < n) (h1 : ¬ (F i k = true ∧ F k j = true)) : Tb E n k i (j + 1) F := by
 refine ⟨h.s, h.c, fun x y hx hy hxy hp => ?_⟩
 by_cases e : x = i ∧ y = j
 · obtain ⟨rfl, rfl⟩ := e
   rcases hp with hp | ⟨p1, p2⟩
   · exact h.c x y hx hy hp
   · exact absurd ⟨h.c x k hx hk p1, h.c k y hk hy p2⟩ h1
 · exact h.d x y hx hy (by omega) hp
theorem Tb.start {n : Nat} {F : Nat → Nat → Bool} (h : ∀ x y, F x y = true ↔ E x y) : Tb E n 0 0 0 F :=
 ⟨fun x y hxy => .one ((h x y).1 hxy), fun x y _ _ hp => (h x y).2 hp, fun x y _ _ hxy => by omega⟩
theorem Tb.done {n : Nat} {F : Nat → Nat → Bool} (hE : ∀ a b, E a b → a < n ∧ b < n) (h : Tb E n n 0 0 F) {x y : Nat} (hx : x < n) (hy : y < n) : F x y = true ↔ Rch E x y :=
 ⟨h.s x y, fun hr => h.c x y hx hy (rch_pk hE hr)⟩
end

open Go.RowKit
set_option maxHeartbeats 4000000

def eB (x : Bool) : Value := .bool x
theorem hB (x : Bool) : cB x = [eB x] := rfl
def cS (n : Nat) (x : Nat) : List Value := [sl x n]
def eS (n : Nat) (x : Nat) : Value := sl x n
theorem hS (n x : Nat) : cS n x = [eS n x] := rfl
theorem cS_len (n x : Nat) : (cS n x).length = 1 := rfl
theorem cS_one (n x : Nat) : ∀ v ∈ cS n x, v.oneCell' = true := by intro v hv; simp [cS, sl] at hv; subst hv; rfl
/-- The first m rows, n truths each, row v in block g v. -/
structure RwB (base n m : Nat) (W : World) (mv : Value) (g : Nat → Nat) (F : Nat → Nat → Bool) : Prop where
 o : W.ownsRow base 37 1 mv m ((rng m g).flatMap (cS n))
 r : ∀ v, v < m → W.ownsRow base 4 1 (sl (g v) n) n ((rng n (F v)).flatMap cB)
 d : ∀ v, v < m → mv.ownBlock ≠ some (g v)
 u : ∀ v t, v < m → t < m → v ≠ t → g v ≠ g t
section
variable {base n m : Nat} {W W' : World} {mv : Value} {g : Nat → Nat} {F : Nat → Nat → Bool}
theorem RwB.ext (h : RwB base n m W mv g F) (e : Ext W W') : RwB base n m W' mv g F :=
 ⟨ownsRow_ext h.o e, fun v hv => ownsRow_ext (h.r v hv) e, h.d, h.u⟩
theorem RwB.at (h : RwB base n m W mv g F) {v j : Nat} (hv : v < m) (hj : j < n) : W.cell? ⟨g v, j, none⟩ = some (.bool (F v j)) ∧ W.frozen? ⟨g v, j, none⟩ = false := own_cell hB (h.r v hv) hj
theorem RwB.low (h : RwB base n m W mv g F) {v : Nat} (hv : v < m) : base ≤ g v ∧ g v < W.heap.size := (h.r v hv).lt _ rfl
/-- The cell of a row. -/
theorem RwB.row (h : RwB base n m W mv g F) (hm : 0 < m) : ∃ b c, mv = .slice (some ⟨b, 0, none⟩) m c ∧ ∀ v, v < m → W.cell? ⟨b, v, none⟩ = some (sl (g v) n) := by
 rcases h.o.2 with ⟨_, h0⟩ | ⟨b, c, cur, rfl, _⟩
 · omega
 · refine ⟨b, c, rfl, fun v hv => ?_⟩
   rw [World.ownsRow.cellAt h.o v (by omega)]
   exact one_at (cS_len n) _ _ (rng_at _ hv) rfl
theorem RwB.set (h : RwB base n m W mv g F) {v j : Nat} (hv : v < m) : RwB base n m (W.setCell ⟨g v, j, none⟩ (.bool true)) mv g (set2 F v j) := by
 refine ⟨own_far h.o _ (h.d v hv), fun t ht => ?_, h.d, h.u⟩
 by_cases e : t = v
 · subst e
   have := own_put hB (h.r t ht) j true
   have e2 : upd (F t) j true = set2 F t j t := by
     funext y
     unfold upd set2
     by_cases hy : y = j
     · simp [hy]
     · simp [hy]
   rwa [e2] at this
 · have e2 : set2 F v j t = F t := by
     funext y
     unfold set2
     simp [e]
   rw [e2]
   exact own_far (h.r t ht) _ (by rw [sl_own]; intro e3; exact h.u t v ht hv e (Option.some.inj e3))
/-- One row more. -/
theorem RwB.add (h : RwB base n m W mv g F) {x : Nat} {v2 : Value} (hr : W.ownsRow base 4 1 (sl x n) n ((rng n (fun _ => false)).flatMap cB)) (hxm : mv.ownBlock ≠ some x) (hxg : ∀ v, v < m → g v ≠ x)
   (hg : W.grownBy W' mv.ownBlock) (o : W'.ownsRow base 37 1 v2 (m + 1) ((rng m g ++ [x]).flatMap (cS n))) (nb : v2.ownBlock = mv.ownBlock ∨ v2.ownBlock = some W.heap.size) :
   RwB base n (m + 1) W' v2 (upd g m x) (fun v => if v = m then fun _ => false else F v) := by
 have far : ∀ k, k < W.heap.size → mv.ownBlock ≠ some k → W'.heap[k]? = W.heap[k]? := fun k hk hn => hg.block k hk (fun e => hn e.symm)
 have hxl := (hr.lt x rfl).2
 refine ⟨?_, fun v hv => ?_, fun v hv e => ?_, fun v t hv ht hne => ?_⟩
 · refine own_eq o rfl ?_
   congr 1
   unfold rng
   rw [List.range_succ, List.map_append]
   congr 1
   · refine List.map_congr_left (fun i hi => ?_)
     rw [upd_ne _ _ (by have := List.mem_range.1 hi; omega)]
   · simp [upd]
 · by_cases e : v = m
   · subst e
     rw [upd_at, if_pos rfl]
     exact own_keep hr (fun k ek hk => by cases ek; exact far x hk hxm)
   · rw [upd_ne _ _ e, if_neg e]
     exact own_keep (h.r v (by omega)) (fun k ek hk => by cases ek; exact far _ hk (h.d v (by omega)))
 · by_cases e2 : v = m
   · subst e2
     rw [upd_at] at e
     rcases nb with nb | nb
     · exact hxm (nb ▸ e)
     · rw [nb] at e
       have := Option.some.inj e
       omega
   · rw [upd_ne _ _ e2] at e
     rcases nb with nb | nb
     · exact h.d v (by omega) (nb ▸ e)
     · rw [nb] at e
       have h1 := Option.some.inj e
       have h2 := (h.low (show v < m by omega)).2
       omega
 · by_cases e1 : v = m
   · subst e1
     rw [upd_at, upd_ne _ _ (fun e => hne e.symm)]
     exact fun e => hxg t (by omega) e.symm
   · rw [upd_ne _ _ e1]
     by_cases e2 : t = m
     · subst e2
       rw [upd_at]
       exact hxg v (by omega)
     · rw [upd_ne _ _ e2]
       exact h.u v t (by omega) (by omega) hne
end

open Go.RowKit
set_option maxHeartbeats 4000000

def zB (n : Nat) : Array Value := madeCells #[.bool false] n
theorem mk_bool (W : World) (l n : Nat) (hl : l ≤ n) (hn : n ≤ 1000000) : (Instr.makeSlice 37 (.int .i64 (l : Int)) (.int .i64 (n : Int))).run Try.prog W = .ok (.slice (some ⟨W.heap.size, 0, none⟩) l n) (W.alloc (.cells (zB n) 4)) :=
 mk_row (bytes := 1) Try.underlying37 rfl (by kernel_rfl) (by kernel_rfl) (by kernel_rfl) (by decide) W l n hl hn
theorem eltB : Elt 35 37 1 24 := elt_of (z := .slice none 0 0) Try.underlying35 (by kernel_rfl) (by kernel_rfl) (by kernel_rfl) rfl (by decide)
theorem set2_in {L : List (Nat × Nat)} {k a b : Nat} (h : L[k]? = some (a, b)) : set2 (fun x y => decide ((x, y) ∈ L.take k)) a b = fun x y => decide ((x, y) ∈ L.take (k + 1)) := by
 funext x y
 unfold set2
 rw [take_at h]
 by_cases e : x = a ∧ y = b
 · simp [e]
 · rw [if_neg e]
   simp only [List.mem_append, List.mem_singleton, Prod.mk.injEq, e, or_false]
/-- What Reaches leaves. -/
def ReQ (w : World) (L : List (Nat × Nat)) (n : Nat) (e : Ending) (w' : World) : Prop :=
 ∃ mv g F, e = .returned mv ∧ RwB w.heap.size n n w' mv g F ∧ (∀ x y, x < n → y < n → (F x y = true ↔ Rch (EL L) x y)) ∧ Ext w w'
set_option maxRecDepth 100000 in
theorem reaches_any (w : World) (v : Value) (L : List (Nat × Nat)) (n : Nat) (h : RdG cM 2 w v L) (hL : L.length ≤ 100000) (hn : n ≤ 5000) (hb : ∀ p ∈ L, p.1 < n ∧ p.2 < n) :
   Calls Try.prog 12 #[.int .i64 (n : Int), v] w (ReQ w L n) := by
 obtain ⟨p, c, rfl, _⟩ := h.form
 obtain ⟨M, hM⟩ : ∃ M, L.length = M := ⟨_, rfl⟩
 have HB : Hid (L.length ≤ 100000 ∧ n ≤ 5000 ∧ (∀ p ∈ L, p.1 < n ∧ p.2 < n) ∧ L.length = M) := ⟨hL, hn, hb, hM⟩
 have HR : Hid (RdG cM 2 w (.slice p M c) L) := by rw [← hM]; exact h
 rw [hM]
 have mk := fun W => mk_bool W n n (Nat.le_refl _) (by omega)
 have H0 : Hid (RwB w.heap.size n 0 (w.alloc (.cells #[] 37)) (.slice (some ⟨w.heap.size, 0, none⟩) 0 0) (fun _ => 0) (fun _ _ => false)) :=
   ⟨own_new w w (Nat.le_refl _), fun v hv => absurd hv (Nat.not_lt_zero _), fun v hv => absurd hv (Nat.not_lt_zero _), fun v t hv => absurd hv (Nat.not_lt_zero _)⟩
 clear h hL hn hb hM
 go_enter Try.func12, Try.ntmps12
 go_wp2_with fail
 go_loopw [6, 5] (fun x mv wr => ∃ (i : Nat) (g : Nat → Nat), x = .int .i64 (i : Int) ∧ i ≤ n ∧ RwB w.heap.size n i wr mv g (fun _ _ => false) ∧ Ext w wr) (fun x _ _ => n - (intOf x).toNat)
 case atStart => exact ⟨0, _, rfl, Nat.zero_le _, H0.out, (Ext.refl _).alloc _⟩
 case round =>
   clear H0
   obtain ⟨i, g, rfl, hi, hS, hE⟩ := hrel
   have HS : Hid (RwB w.heap.size n i wr u5 g (fun _ _ => false) ∧ Ext w wr) := ⟨hS, hE⟩
   obtain ⟨mp, mc, rfl, -⟩ := own_form hS.o
   rcases Nat.lt_or_ge i n with hlt | hge
   · have hltI : (i : Int) < (n : Int) := by omega
     have HI : Hid (i + 1 ≤ 1000000) := by have := HB.out.2.1; show _ ≤ _; omega
     have wi := wrapI i (by have := HI.out; omega)
     have hsz := hE.size
     have HZ : Hid (w.heap.size ≤ wr.heap.size ∧ i < n) := ⟨hsz, hlt⟩
     have HA : Hid (RwB w.heap.size n i ((wr.alloc (.cells (zB n) 4)).alloc (.cells #[.slice (some ⟨wr.heap.size, 0, none⟩) n n] 37)) (.slice mp i mc) g (fun _ _ => false) ∧ Ext w ((wr.alloc (.cells (zB n) 4)).alloc (.cells #[.slice (some ⟨wr.heap.size, 0, none⟩) n n] 37))) := ⟨hS.ext (((Ext.refl wr).alloc _).alloc _), (hE.alloc _).alloc _⟩
     have HRow : Hid (((wr.alloc (.cells (zB n) 4)).alloc (.cells #[.slice (some ⟨wr.heap.size, 0, none⟩) n n] 37)).ownsRow w.heap.size 4 1 (sl wr.heap.size n) n ((rng n (fun _ => false)).flatMap cB)) := (mk_full hsz (by have := HB.out; omega) hB false rfl).alloc _
     have HRd : Hid (RdG (cS n) 1 ((wr.alloc (.cells (zB n) 4)).alloc (.cells #[.slice (some ⟨wr.heap.size, 0, none⟩) n n] 37)) (.slice (some ⟨wr.heap.size + 1, 0, none⟩) 1 1) [wr.heap.size]) := by
       have := RdG.one (c := cS n) (x := wr.heap.size) (k := 1) (top_heap (wr.alloc (.cells (zB n) 4)) (.cells #[.slice (some ⟨wr.heap.size, 0, none⟩) n n] 37)) (fun j u h => by
         have hj : j < 1 := (List.getElem?_eq_some_iff.1 h).1
         match j, hj with
         | 0, _ => exact h)
       simp at this
       exact this
     have HSz : Hid (w.heap.size ≤ ((wr.alloc (.cells (zB n) 4)).alloc (.cells #[.slice (some ⟨wr.heap.size, 0, none⟩) n n] 37)).heap.size) := HA.out.2.size
     have HNx : Hid ((Value.slice mp i mc).ownBlock ≠ some wr.heap.size ∧ ∀ v, v < i → g v ≠ wr.heap.size) := ⟨fun e => Nat.lt_irrefl _ (hS.o.lt _ e).2, fun v hv e => by have := (hS.low hv).2; omega⟩
     clear hS hE hsz
     go_wp2_with (at_builtin; refine app_q eltB (cS_len n) (cS_one n) (by decide) _ _ _ _ _ i 1 (rng i g) [wr.heap.size] w.heap.size rfl rfl (by rfl) (by rfl) HA.out.1.o rfl HRd.out HI.out HSz.out ?_; intro v9 w9 O9 G9 B9; have H9 : Hid _ := And.intro (HA.out.1.add HRow.out HNx.out.1 HNx.out.2 G9 O9 B9) (ext_grownG HA.out.1.o (Nat.le_refl _) HA.out.2 G9); clear O9 G9 B9)
     go_roundw
     case rel =>
       refine ⟨i + 1, upd g i wr.heap.size, by rw [wi], HZ.out.2, ?_, H9.out.2⟩
       have e : (fun v => if v = i then fun _ => false else fun _ => false) = (fun _ _ => false : Nat → Nat → Bool) := by funext v y; split <;> rfl
       have := H9.out.1
       rw [e] at this
       exact this
     case measure => rw [wi]; have := HZ.out; clear wi; simp [intOf]; omega
   · have hltI : ¬ (i : Int) < (n : Int) := by omega
     have hin : n = i := by omega
     subst hin
     have H1 : Hid (RwB w.heap.size n n wr (.slice mp n mc) g (fun x y => decide ((x, y) ∈ L.take 0))) := by
       have e : (fun x y => decide ((x, y) ∈ L.take 0)) = (fun _ _ => false : Nat → Nat → Bool) := by funext x y; simp
       rw [e]
       exact hS
     clear hS hE hge mk
     go_wp2_with fail
     go_loopw [7] (fun x wq => ∃ k : Nat, x = .int .i64 (k : Int) ∧ k ≤ M ∧ RwB w.heap.size n n wq (.slice mp n mc) g (fun x y => decide ((x, y) ∈ L.take k)) ∧ Ext w wq) (fun x _ => M - (intOf x).toNat)
     case atStart => exact ⟨0, rfl, Nat.zero_le _, H1.out, HS.out.2⟩
     case round =>
       clear H1 HS hltI
       obtain ⟨k, rfl, hk, hS, hE⟩ := hrel
       have HS : Hid (RwB w.heap.size n n wr (.slice mp n mc) g (fun x y => decide ((x, y) ∈ L.take k)) ∧ Ext w wr) := ⟨hS, hE⟩
       rcases Nat.lt_or_ge k M with hlt | hge
       · have hltI : (k : Int) < (M : Int) := by omega
         obtain ⟨x, hx⟩ : ∃ x, L[k]? = some x := ⟨_, List.getElem?_eq_getElem (by have := HB.out.2.2.2; omega)⟩
         obtain ⟨x1, x2⟩ := x
         obtain ⟨b, off, rfl, bl, c1, c2⟩ := RdM.cell (HR.out.ext hE) hx
         obtain ⟨hx1, hx2⟩ := HB.out.2.2.1 _ (List.mem_of_getElem? hx)
         obtain ⟨mb, mc', he, hrow⟩ := hS.row (by omega)
         simp only [Value.slice.injEq, true_and] at he
         obtain ⟨rfl, rfl⟩ := he
         have r1 := hrow x1 hx1
         obtain ⟨g1, g2⟩ := hS.at hx1 hx2
         have i1 : (x1 : Int) < (n : Int) := by omega
         have i2 : (x2 : Int) < (n : Int) := by omega
         have HF : Hid (RwB w.heap.size n n (wr.setCell ⟨g x1, x2, none⟩ (.bool true)) (.slice (some ⟨mb, 0, none⟩) n mc) g (fun x y => decide ((x, y) ∈ L.take (k + 1))) ∧ Ext w (wr.setCell ⟨g x1, x2, none⟩ (.bool true))) := by
           refine ⟨?_, hE.setCell (hS.low hx1).1 _⟩
           rw [← set2_in hx]
           exact hS.set hx1
         have HK : Hid (k ≤ 1000000) := by have := HB.out; show _ ≤ _; omega
         unfold sl at r1
         clear hS hE hx hx1 hx2 hrow bl
         have wk := wrapI k HK.out
         go_upto_region 9 with fail
         go_region
         go_wp2
         go_roundw
         case rel => exact ⟨k + 1, by rw [wk], hlt, HF.out.1.ext (Ext.refl _).drew, HF.out.2.drew⟩
         case measure => rw [wk]; clear wk; simp [intOf]; omega
       · have hltI : ¬ (k : Int) < (M : Int) := by omega
         have H2 : Hid (Tb (EL L) n 0 0 0 (fun x y => decide ((x, y) ∈ L.take k))) := Tb.start (fun x y => by
           rw [List.take_of_length_le (by have := HB.out.2.2.2; omega)]
           simp [EL])
         clear hS hE hge
         go_wp2_with fail
         go_loopw [8] (fun x wq => ∃ (k : Nat) (F : Nat → Nat → Bool), x = .int .i64 (k : Int) ∧ k ≤ n ∧ RwB w.heap.size n n wq (.slice mp n mc) g F ∧ Ext w wq ∧ Tb (EL L) n k 0 0 F) (fun x _ => n - (intOf x).toNat)
         case atStart => exact ⟨0, _, rfl, Nat.zero_le _, HS.out.1, HS.out.2, H2.out⟩
         case round =>
           clear H2 HS hltI
           obtain ⟨k, F, rfl, hk, hS, hE, hT⟩ := hrel
           have HS : Hid (RwB w.heap.size n n wr (.slice mp n mc) g F ∧ Ext w wr ∧ Tb (EL L) n k 0 0 F) := ⟨hS, hE, hT⟩
           clear hE hT
           rcases Nat.lt_or_ge k n with hlt | hge
           · have hltI : (k : Int) < (n : Int) := by omega
             have HK : Hid (k < n ∧ k + 1 ≤ 1000000) := by have := HB.out; exact ⟨hlt, by omega⟩
             clear hS
             go_wp2_with fail
             go_loopw [9] (fun x wq => ∃ (i : Nat) (F : Nat → Nat → Bool), x = .int .i64 (i : Int) ∧ i ≤ n ∧ RwB w.heap.size n n wq (.slice mp n mc) g F ∧ Ext w wq ∧ Tb (EL L) n k i 0 F) (fun x _ => n - (intOf x).toNat)
             case atStart => exact ⟨0, _, rfl, Nat.zero_le _, HS.out⟩
             case round =>
               clear HS
               obtain ⟨i, F, rfl, hi, hS, hE, hT⟩ := hrel
               have HS : Hid (RwB w.heap.size n n wr (.slice mp n mc) g F ∧ Ext w wr ∧ Tb (EL L) n k i 0 F) := ⟨hS, hE, hT⟩
               clear hS hE hT
               rcases Nat.lt_or_ge i n with hli | hgi
               · have hliI : (i : Int) < (n : Int) := by omega
                 have HI : Hid (i < n ∧ i + 1 ≤ 1000000) := by have := HB.out; exact ⟨hli, by omega⟩
                 go_wp2_with fail
                 go_loopw [10] (fun x wq => ∃ (j : Nat) (F : Nat → Nat → Bool), x = .int .i64 (j : Int) ∧ j ≤ n ∧ RwB w.heap.size n n wq (.slice mp n mc) g F ∧ Ext w wq ∧ Tb (EL L) n k i j F) (fun x _ => n - (intOf x).toNat)
                 case atStart => exact ⟨0, _, rfl, Nat.zero_le _, HS.out⟩
                 case round =>
                   clear HS
                   obtain ⟨j, F, rfl, hj, hS, hE, hT⟩ := hrel
                   have HS : Hid (RwB w.heap.size n n wr (.slice mp n mc) g F ∧ Ext w wr ∧ Tb (EL L) n k i j F) := ⟨hS, hE, hT⟩
                   rcases Nat.lt_or_ge j n with hlj | hgj
                   · have hljI : (j : Int) < (n : Int) := by omega
                     obtain ⟨mb, mc', he, hrow⟩ := hS.row (by omega)
                     simp only [Value.slice.injEq, true_and] at he
                     obtain ⟨rfl, rfl⟩ := he
                     have r1 := hrow i hli
                     have r2 := hrow k hlt
                     obtain ⟨g1, -⟩ := hS.at hli hlt
                     obtain ⟨g2, -⟩ := hS.at hlt hlj
                     obtain ⟨g3, g4⟩ := hS.at hli hlj
                     unfold sl at r1 r2
                     have HJ : Hid (j < n ∧ j + 1 ≤ 1000000) := by have := HB.out; exact ⟨hlj, by omega⟩
                     have HSet : Hid (RwB w.heap.size n n (wr.setCell ⟨g i, j, none⟩ (.bool true)) (.slice (some ⟨mb, 0, none⟩) n mc) g (set2 F i j) ∧ Ext w (wr.setCell ⟨g i, j, none⟩ (.bool true))) := ⟨hS.set hli, hE.setCell (hS.low hli).1 _⟩
                     clear hS hE hT hrow
                     have wj := wrapI j (by have := HJ.out; omega)
                     cases hf1 : F i k
                     · have HT : Hid (Tb (EL L) n k i (j + 1) F) := HS.out.2.2.no HK.out.1 HI.out.1 HJ.out.1 (by rw [hf1]; simp)
                       rw [hf1] at g1
                       clear hf1
                       go_wp2
                       go_roundw
                       case rel => exact ⟨j + 1, F, by rw [wj], hlj, HS.out.1, HS.out.2.1, HT.out⟩
                       case measure => rw [wj]; clear wj; simp [intOf]; omega
                     · cases hf2 : F k j
                       · have HT : Hid (Tb (EL L) n k i (j + 1) F) := HS.out.2.2.no HK.out.1 HI.out.1 HJ.out.1 (by rw [hf2]; simp)
                         rw [hf1] at g1
                         rw [hf2] at g2
                         clear hf1 hf2
                         go_wp2
                         go_roundw
                         case rel => exact ⟨j + 1, F, by rw [wj], hlj, HS.out.1, HS.out.2.1, HT.out⟩
                         case measure => rw [wj]; clear wj; simp [intOf]; omega
                       · have HT : Hid (Tb (EL L) n k i (j + 1) (set2 F i j)) := HS.out.2.2.yes hf1 hf2
                         rw [hf1] at g1
                         rw [hf2] at g2
                         clear hf1 hf2
                         go_wp2
                         go_roundw
                         case rel => exact ⟨j + 1, set2 F i j, by rw [wj], hlj, HSet.out.1, HSet.out.2, HT.out⟩
                         case measure => rw [wj]; clear wj; simp [intOf]; omega
                   · have hljI : ¬ (j : Int) < (n : Int) := by omega
                     have HT : Hid (Tb (EL L) n k (i + 1) 0 F) := by
                       have e : j = n := by omega
                       rw [e] at hT
                       exact hT.row
                     have wi := wrapI i (by have := HI.out; omega)
                     clear hS hE hT
                     go_wp2
                     go_roundw
                     case rel => exact ⟨i + 1, F, by rw [wi], hli, HS.out.1, HS.out.2.1, HT.out⟩
                     case measure => rw [wi]; clear wi; simp [intOf]; omega
               · have hliI : ¬ (i : Int) < (n : Int) := by omega
                 have HT : Hid (Tb (EL L) n (k + 1) 0 0 F) := by
                   have e : i = n := by omega
                   have := HS.out.2.2
                   rw [e] at this
                   exact this.next
                 have wk := wrapI k (by have := HK.out; omega)
                 go_wp2
                 go_roundw
                 case rel => exact ⟨k + 1, F, by rw [wk], hlt, HS.out.1, HS.out.2.1, HT.out⟩
                 case measure => rw [wk]; clear wk; simp [intOf]; omega
           · have hltI : ¬ (k : Int) < (n : Int) := by omega
             have HQ : Hid (ReQ w L n (.returned (.slice mp n mc)) wr) := by
               refine ⟨_, g, F, rfl, HS.out.1, fun x y hx hy => ?_, HS.out.2.1⟩
               have e : k = n := by omega
               have := HS.out.2.2
               rw [e] at this
               exact this.done (fun a b h => HB.out.2.2.1 _ h) hx hy
             clear hS
             go_wp2
             go_ret
             exact HQ.out

open Go.RowKit
set_option maxHeartbeats 4000000

/-- Does a pair keep x back? -/
def bar1 (gs : Nat → Int) (th : Nat → Bool) (x : Nat) (p : Nat × Nat) : Bool := p.1 == x && !(th p.2) && (decide (gs p.1 < 0) || gs p.1 != gs p.2)
def rdB (L : List (Nat × Nat)) (gs : Nat → Int) (th : Nat → Bool) (x : Nat) : Bool := L.all (fun p => !(bar1 gs th x p))
set_option maxRecDepth 100000 in
theorem ready_any (w : World) (vn vg vt : Value) (L : List (Nat × Nat)) (n x : Nat) (gs : Nat → Int) (th : Nat → Bool) (h : RdG cM 2 w vn L) (hL : L.length ≤ 100000) (hg : RdG cI 1 w vg (rng n gs)) (ht : RdG cB 1 w vt (rng n th)) (hn : n ≤ 5000) (hx : x < n) (hb : ∀ p ∈ L, p.1 < n ∧ p.2 < n) :
   Calls Try.prog 18 #[.int .i64 (x : Int), vn, vg, vt] w fun e w' => e = .returned (.bool (rdB L gs th x)) ∧ Ext w w' := by
 obtain ⟨p, c, rfl, _⟩ := h.form
 obtain ⟨gp, gc, rfl, hgc⟩ := hg.form
 obtain ⟨tp, tc, rfl, htc⟩ := ht.form
 rw [rng_len] at hgc htc
 obtain ⟨M, hM⟩ : ∃ M, L.length = M := ⟨_, rfl⟩
 have HB : Hid (L.length ≤ 100000 ∧ n ≤ 5000 ∧ (∀ p ∈ L, p.1 < n ∧ p.2 < n) ∧ L.length = M ∧ x < n) := ⟨hL, hn, hb, hM, hx⟩
 have HR : Hid (RdG cM 2 w (.slice p M c) L ∧ RdG cI 1 w (.slice gp n gc) (rng n gs) ∧ RdG cB 1 w (.slice tp n tc) (rng n th)) := by
   refine ⟨by rw [← hM]; exact h, ?_, ?_⟩
   · have := hg; rwa [rng_len] at this
   · have := ht; rwa [rng_len] at this
 rw [hM, rng_len, rng_len]
 obtain ⟨gb, go, rfl, -, -⟩ := rd_at hI HR.out.2.1 (by omega)
 obtain ⟨tb, tq, rfl, -, -⟩ := rd_at hB HR.out.2.2 (by omega)
 have HC : Hid (∀ V, Ext w V → ∀ a, a < n → V.cell? ⟨gb, go + a, none⟩ = some (.int .i64 (gs a)) ∧ V.cell? ⟨tb, tq + a, none⟩ = some (.bool (th a))) := fun V e a ha => by
   obtain ⟨b1, o1, e1, -, q1⟩ := rd_at hI (HR.out.2.1.ext e) (Nat.lt_of_le_of_lt (Nat.zero_le _) ha)
   obtain ⟨b2, o2, e2, -, q2⟩ := rd_at hB (HR.out.2.2.ext e) (Nat.lt_of_le_of_lt (Nat.zero_le _) ha)
   simp only [Option.some.injEq, Addr.mk.injEq, and_true] at e1 e2
   obtain ⟨rfl, rfl⟩ := e1
   obtain ⟨rfl, rfl⟩ := e2
   exact ⟨q1 a ha, q2 a ha⟩
 clear h hg ht hL hn hb hM hx
 go_enter Try.func18, Try.ntmps18
 go_wp2_with fail
 go_loopw [9] (fun x_ wr => ∃ k : Nat, x_ = .int .i64 (k : Int) ∧ k ≤ M ∧ Ext w wr ∧ rdB (L.take k) gs th x = true) (fun x_ _ => M - (intOf x_).toNat)
 case atStart => exact ⟨0, rfl, Nat.zero_le _, Ext.refl _, rfl⟩
 case round =>
   obtain ⟨k, rfl, hk, hE, ha⟩ := hrel
   have HE : Hid (Ext w wr) := hE
   have HA : Hid (rdB (L.take k) gs th x = true) := ha
   rcases Nat.lt_or_ge k M with hlt | hge
   · have hltI : (k : Int) < (M : Int) := by omega
     obtain ⟨z, hz⟩ : ∃ z, L[k]? = some z := ⟨_, List.getElem?_eq_getElem (by have := HB.out.2.2.2; omega)⟩
     obtain ⟨x1, x2⟩ := z
     obtain ⟨b, off, rfl, -, c1, c2⟩ := RdM.cell (HR.out.1.ext hE) hz
     obtain ⟨hx1, hx2⟩ := HB.out.2.2.1 _ (List.mem_of_getElem? hz)
     have i1 : (x1 : Int) < (n : Int) := by omega
     have i2 : (x2 : Int) < (n : Int) := by omega
     have HX : Hid (L[k]? = some (x1, x2) ∧ x1 < n ∧ x2 < n) := ⟨hz, hx1, hx2⟩
     have HK : Hid (k ≤ 1000000) := by have := HB.out; show _ ≤ _; omega
     clear hE ha hz hx1 hx2
     have wk := wrapI k HK.out
     go_upto_region 4 with fail
     go_region
     go_upto_region 5 with fail
     clear c1 c2
     obtain ⟨y1, hy1⟩ : ∃ y, gs x1 = y := ⟨_, rfl⟩
     obtain ⟨y2, hy2⟩ : ∃ y, gs x2 = y := ⟨_, rfl⟩
     obtain ⟨t2, ht2⟩ : ∃ y, th x2 = y := ⟨_, rfl⟩
     have HY : Hid (gs x1 = y1 ∧ gs x2 = y2 ∧ th x2 = t2) := ⟨hy1, hy2, ht2⟩
     generalize hWq : World.drew _ = wq
     have HEq : Hid (Ext w wq) := by rw [← hWq]; exact HE.out.drew
     have mkS : Hid (∀ V, Ext wq V → (fun V => V.cell? ⟨gb, go + x1, none⟩ = some (.int .i64 y1) ∧ V.cell? ⟨gb, go + x2, none⟩ = some (.int .i64 y2) ∧ V.cell? ⟨tb, tq + x2, none⟩ = some (.bool t2)) V) := fun V e => by
       have q1 := HC.out V (HEq.out.trans e) x1 HX.out.2.1
       have q2 := HC.out V (HEq.out.trans e) x2 HX.out.2.2
       rw [HY.out.1] at q1
       rw [HY.out.2.1, HY.out.2.2] at q2
       exact ⟨q1.1, q2.1, q2.2⟩
     have HT0 : Hid (∀ q : Bool, bar1 gs th x (x1, x2) = q → rdB (L.take (k + 1)) gs th x = !q) := fun q hq => by
       unfold rdB
       rw [all_take HX.out.1]
       have := HA.out
       unfold rdB at this
       rw [this, hq]
       rfl
     have HTL : Hid (bar1 gs th x (x1, x2) = true → rdB L gs th x = false) := fun hq => allF HX.out.1 (by rw [hq]; rfl)
     have HBr : Hid (bar1 gs th x (x1, x2) = (x1 == x && !t2 && (decide (y1 < 0) || y1 != y2))) := by
       show _ = _
       unfold bar1
       rw [HY.out.1, HY.out.2.1, HY.out.2.2]
     clear hy1 hy2 ht2 hWq
     by_cases hxx : x1 = x
     · have e1 : ((x1 : Int) == (x : Int)) = true := by simp [hxx]
       have HXX : Hid (x1 = x) := hxx
       clear hxx
       cases t2
       · rcases Int.lt_or_le y1 0 with hy | hy
         · have e2 : decide (y1 < 0) = true := by simp [hy]
           have HT : Hid (rdB L gs th x = false) := HTL.out (by rw [HBr.out]; simp [HXX.out, hy])
           refine wp_region_held_drew (S := (fun V => V.cell? ⟨gb, go + x1, none⟩ = some (.int .i64 y1) ∧ V.cell? ⟨gb, go + x2, none⟩ = some (.int .i64 y2) ∧ V.cell? ⟨tb, tq + x2, none⟩ = some (.bool false))) (by kernel_rfl) ?_ (fun hHeld0 => ?_)
           · exact mkS.out _ (by with_reducible (repeat (first | assumption | exact Ext.refl _ | apply Ext.drew | apply Ext.drewN)))
           refine wpAnyH_take (i := 0) (oi := ⟨some 28, .move (.tmp 10), 3, "ref.go:67", #[], none⟩) (v := ?_) rfl (by kernel_rfl) (by kernel_rfl) (by kernel_rfl) (fun _ _ _ h => h) (Or.inl ⟨by rfl, ?_⟩) (by assumption) ?_
           rotate_left
           · intro w hSw; (try dsimp only at hSw); first | (go_simp; done) | (go_simp; with_reducible rfl)
           try simp only [Act.put, List.setIfInBounds_toArray, List.set_cons_zero, List.set_cons_succ]
           refine wpAnyH_take (i := 1) (oi := ⟨some 29, .move (.tmp 0), 3, "ref.go:67", #[], none⟩) (v := ?_) rfl (by kernel_rfl) (by kernel_rfl) (by kernel_rfl) (fun _ _ _ h => h) (Or.inl ⟨by rfl, ?_⟩) (by assumption) ?_
           rotate_left
           · intro w hSw; (try dsimp only at hSw); first | (go_simp; done) | (go_simp; with_reducible rfl)
           try simp only [Act.put, List.setIfInBounds_toArray, List.set_cons_zero, List.set_cons_succ]
           refine wpAnyH_take (i := 2) (oi := ⟨some 30, .binOp .eql 3 (.tmp 28) (.tmp 29) 3, 4, "ref.go:67", #[⟨0, .data⟩, ⟨1, .data⟩], none⟩) (v := ?_) rfl (by kernel_rfl) (by kernel_rfl) (by kernel_rfl) (fun _ _ _ h => h) (Or.inl ⟨by rfl, ?_⟩) (by assumption) ?_
           rotate_left
           · intro w hSw; (try dsimp only at hSw); first | (go_simp; done) | (go_simp; with_reducible rfl)
           try simp only [Act.put, List.setIfInBounds_toArray, List.set_cons_zero, List.set_cons_succ]
           refine wpAnyH_take (i := 3) (oi := ⟨some 31, .move (.tmp 30), 4, "ref.go:67", #[⟨2, .data⟩], none⟩) (v := ?_) rfl (by kernel_rfl) (by kernel_rfl) (by kernel_rfl) (fun _ _ _ h => h) (Or.inl ⟨by rfl, ?_⟩) (by assumption) ?_
           rotate_left
           · intro w hSw; (try dsimp only at hSw); first | (go_simp; done) | (go_simp; with_reducible rfl)
           try simp only [Act.put, List.setIfInBounds_toArray, List.set_cons_zero, List.set_cons_succ]
           refine wpAnyH_take (i := 4) (oi := ⟨some 32, .move (.tmp 3), 37, "ref.go:67", #[⟨3, .guard⟩], some (3, true)⟩) (v := ?_) rfl (by kernel_rfl) (by kernel_rfl) (by kernel_rfl) (fun _ _ _ h => h) (Or.inl ⟨by rfl, ?_⟩) (by assumption) ?_
           rotate_left
           · intro w hSw; (try dsimp only at hSw); first | (go_simp; done) | (go_simp; with_reducible rfl)
           try simp only [Act.put, List.setIfInBounds_toArray, List.set_cons_zero, List.set_cons_succ]
           refine wpAnyH_take (i := 5) (oi := ⟨some 33, .move (.tmp 11), 3, "ref.go:67", #[⟨3, .guard⟩], some (3, true)⟩) (v := ?_) rfl (by kernel_rfl) (by kernel_rfl) (by kernel_rfl) (fun _ _ _ h => h) (Or.inl ⟨by rfl, ?_⟩) (by assumption) ?_
           rotate_left
           · intro w hSw; (try dsimp only at hSw); first | (go_simp; done) | (go_simp; with_reducible rfl)
           try simp only [Act.put, List.setIfInBounds_toArray, List.set_cons_zero, List.set_cons_succ]
           refine wpAnyH_take (i := 6) (oi := ⟨some 34, .indexAddr 37 (.tmp 32) (.tmp 33), 0, "ref.go:67", #[⟨4, .data⟩, ⟨5, .data⟩, ⟨3, .guard⟩], some (3, true)⟩) (v := ?_) rfl (by kernel_rfl) (by kernel_rfl) (by kernel_rfl) (fun _ _ _ h => h) (Or.inl ⟨by rfl, ?_⟩) (by assumption) ?_
           rotate_left
           · intro w hSw; (try dsimp only at hSw); first | (go_simp; done) | (go_simp; with_reducible rfl)
           try simp only [Act.put, List.setIfInBounds_toArray, List.set_cons_zero, List.set_cons_succ]
           refine wpAnyH_take (i := 7) (oi := ⟨some 35, .load 4 (.tmp 34), 4, "ref.go:67", #[⟨6, .data⟩, ⟨3, .guard⟩], some (3, true)⟩) (v := ?_) rfl (by kernel_rfl) (by kernel_rfl) (by kernel_rfl) (fun _ _ _ h => h) (Or.inl ⟨by rfl, ?_⟩) (by assumption) ?_
           rotate_left
           · intro w hSw; (try dsimp only at hSw); first | (go_simp; done) | (go_simp; with_reducible rfl)
           try simp only [Act.put, List.setIfInBounds_toArray, List.set_cons_zero, List.set_cons_succ]
           refine wpAnyH_take (i := 8) (oi := ⟨some 36, .unOp .not 4 (.tmp 35), 4, "ref.go:67", #[⟨7, .data⟩, ⟨3, .guard⟩], some (3, true)⟩) (v := ?_) rfl (by kernel_rfl) (by kernel_rfl) (by kernel_rfl) (fun _ _ _ h => h) (Or.inl ⟨by rfl, ?_⟩) (by assumption) ?_
           rotate_left
           · intro w hSw; (try dsimp only at hSw); first | (go_simp; done) | (go_simp; with_reducible rfl)
           try simp only [Act.put, List.setIfInBounds_toArray, List.set_cons_zero, List.set_cons_succ]
           refine wpAnyH_take (i := 9) (oi := ⟨some 37, .pick (.tmp 31) (.tmp 36) (.const (.bool false)), 4, "ref.go:67", #[⟨3, .data⟩, ⟨8, .data⟩], none⟩) (v := ?_) rfl (by kernel_rfl) (by kernel_rfl) (by kernel_rfl) (fun _ _ _ h => h) (Or.inl ⟨by rfl, ?_⟩) (by assumption) ?_
           rotate_left
           · intro w hSw; (try dsimp only at hSw); first | (go_simp; done) | (go_simp; with_reducible rfl)
           try simp only [Act.put, List.setIfInBounds_toArray, List.set_cons_zero, List.set_cons_succ]
           refine wpAnyH_take (i := 10) (oi := ⟨some 38, .move (.tmp 37), 4, "ref.go:67", #[⟨9, .data⟩, ⟨3, .chain⟩], none⟩) (v := ?_) rfl (by kernel_rfl) (by kernel_rfl) (by kernel_rfl) (fun _ _ _ h => h) (Or.inl ⟨by rfl, ?_⟩) (by assumption) ?_
           rotate_left
           · intro w hSw; (try dsimp only at hSw); first | (go_simp; done) | (go_simp; with_reducible rfl)
           try simp only [Act.put, List.setIfInBounds_toArray, List.set_cons_zero, List.set_cons_succ]
           refine wpAnyH_take (i := 11) (oi := ⟨some 39, .move (.tmp 2), 24, "ref.go:67", #[⟨10, .guard⟩], some (10, true)⟩) (v := ?_) rfl (by kernel_rfl) (by kernel_rfl) (by kernel_rfl) (fun _ _ _ h => h) (Or.inl ⟨by rfl, ?_⟩) (by assumption) ?_
           rotate_left
           · intro w hSw; (try dsimp only at hSw); first | (go_simp; done) | (go_simp; with_reducible rfl)
           try simp only [Act.put, List.setIfInBounds_toArray, List.set_cons_zero, List.set_cons_succ]
           refine wpAnyH_take (i := 12) (oi := ⟨some 40, .move (.tmp 10), 3, "ref.go:67", #[⟨10, .guard⟩], some (10, true)⟩) (v := ?_) rfl (by kernel_rfl) (by kernel_rfl) (by kernel_rfl) (fun _ _ _ h => h) (Or.inl ⟨by rfl, ?_⟩) (by assumption) ?_
           rotate_left
           · intro w hSw; (try dsimp only at hSw); first | (go_simp; done) | (go_simp; with_reducible rfl)
           try simp only [Act.put, List.setIfInBounds_toArray, List.set_cons_zero, List.set_cons_succ]
           refine wpAnyH_take (i := 13) (oi := ⟨some 41, .indexAddr 24 (.tmp 39) (.tmp 40), 0, "ref.go:67", #[⟨11, .data⟩, ⟨12, .data⟩, ⟨10, .guard⟩], some (10, true)⟩) (v := ?_) rfl (by kernel_rfl) (by kernel_rfl) (by kernel_rfl) (fun _ _ _ h => h) (Or.inl ⟨by rfl, ?_⟩) (by assumption) ?_
           rotate_left
           · intro w hSw; (try dsimp only at hSw); first | (go_simp; done) | (go_simp; with_reducible rfl)
           try simp only [Act.put, List.setIfInBounds_toArray, List.set_cons_zero, List.set_cons_succ]
           refine wpAnyH_take (i := 14) (oi := ⟨some 42, .load 3 (.tmp 41), 3, "ref.go:67", #[⟨13, .data⟩, ⟨10, .guard⟩], some (10, true)⟩) (v := ?_) rfl (by kernel_rfl) (by kernel_rfl) (by kernel_rfl) (fun _ _ _ h => h) (Or.inl ⟨by rfl, ?_⟩) (by assumption) ?_
           rotate_left
           · intro w hSw; (try dsimp only at hSw); first | (go_simp; done) | (go_simp; with_reducible rfl)
           try simp only [Act.put, List.setIfInBounds_toArray, List.set_cons_zero, List.set_cons_succ]
           refine wpAnyH_take (i := 15) (oi := ⟨some 43, .binOp .lss 3 (.tmp 42) (.const (.int .i64 0)) 3, 4, "ref.go:67", #[⟨14, .data⟩, ⟨10, .guard⟩], some (10, true)⟩) (v := ?_) rfl (by kernel_rfl) (by kernel_rfl) (by kernel_rfl) (fun _ _ _ h => h) (Or.inl ⟨by rfl, ?_⟩) (by assumption) ?_
           rotate_left
           · intro w hSw; (try dsimp only at hSw); first | (go_simp; done) | (go_simp; with_reducible rfl)
           try simp only [Act.put, List.setIfInBounds_toArray, List.set_cons_zero, List.set_cons_succ]
           refine wpAnyH_take (i := 16) (oi := ⟨some 44, .move (.tmp 43), 4, "ref.go:67", #[⟨15, .data⟩, ⟨10, .chain⟩, ⟨10, .guard⟩], some (10, true)⟩) (v := ?_) rfl (by kernel_rfl) (by kernel_rfl) (by kernel_rfl) (fun _ _ _ h => h) (Or.inl ⟨by rfl, ?_⟩) (by assumption) ?_
           rotate_left
           · intro w hSw; (try dsimp only at hSw); first | (go_simp; done) | (go_simp; with_reducible rfl)
           try simp only [Act.put, List.setIfInBounds_toArray, List.set_cons_zero, List.set_cons_succ]
           refine wpAnyH_take (i := 17) (oi := ⟨some 45, .move (.tmp 2), 24, "ref.go:67", #[⟨16, .guard⟩], some (16, false)⟩) (v := undef) rfl (by kernel_rfl) (by kernel_rfl) (by kernel_rfl) (fun _ _ _ h => h) (Or.inr ⟨by rfl, rfl⟩) (by assumption) ?_
           try simp only [Act.put, List.setIfInBounds_toArray, List.set_cons_zero, List.set_cons_succ]
           refine wpAnyH_take (i := 18) (oi := ⟨some 46, .move (.tmp 10), 3, "ref.go:67", #[⟨16, .guard⟩], some (16, false)⟩) (v := undef) rfl (by kernel_rfl) (by kernel_rfl) (by kernel_rfl) (fun _ _ _ h => h) (Or.inr ⟨by rfl, rfl⟩) (by assumption) ?_
           try simp only [Act.put, List.setIfInBounds_toArray, List.set_cons_zero, List.set_cons_succ]
           refine wpAnyH_take (i := 19) (oi := ⟨some 47, .indexAddr 24 (.tmp 45) (.tmp 46), 0, "ref.go:67", #[⟨17, .data⟩, ⟨18, .data⟩, ⟨16, .guard⟩], some (16, false)⟩) (v := undef) rfl (by kernel_rfl) (by kernel_rfl) (by kernel_rfl) (fun _ _ _ h => h) (Or.inr ⟨by rfl, rfl⟩) (by assumption) ?_
           try simp only [Act.put, List.setIfInBounds_toArray, List.set_cons_zero, List.set_cons_succ]
           refine wpAnyH_take (i := 20) (oi := ⟨some 48, .load 3 (.tmp 47), 3, "ref.go:67", #[⟨19, .data⟩, ⟨16, .guard⟩], some (16, false)⟩) (v := undef) rfl (by kernel_rfl) (by kernel_rfl) (by kernel_rfl) (fun _ _ _ h => h) (Or.inr ⟨by rfl, rfl⟩) (by assumption) ?_
           try simp only [Act.put, List.setIfInBounds_toArray, List.set_cons_zero, List.set_cons_succ]
           refine wpAnyH_take (i := 21) (oi := ⟨some 49, .move (.tmp 2), 24, "ref.go:67", #[⟨16, .guard⟩], some (16, false)⟩) (v := undef) rfl (by kernel_rfl) (by kernel_rfl) (by kernel_rfl) (fun _ _ _ h => h) (Or.inr ⟨by rfl, rfl⟩) (by assumption) ?_
           try simp only [Act.put, List.setIfInBounds_toArray, List.set_cons_zero, List.set_cons_succ]
           refine wpAnyH_take (i := 22) (oi := ⟨some 50, .move (.tmp 11), 3, "ref.go:67", #[⟨16, .guard⟩], some (16, false)⟩) (v := undef) rfl (by kernel_rfl) (by kernel_rfl) (by kernel_rfl) (fun _ _ _ h => h) (Or.inr ⟨by rfl, rfl⟩) (by assumption) ?_
           try simp only [Act.put, List.setIfInBounds_toArray, List.set_cons_zero, List.set_cons_succ]
           refine wpAnyH_take (i := 23) (oi := ⟨some 51, .indexAddr 24 (.tmp 49) (.tmp 50), 0, "ref.go:67", #[⟨21, .data⟩, ⟨22, .data⟩, ⟨16, .guard⟩], some (16, false)⟩) (v := undef) rfl (by kernel_rfl) (by kernel_rfl) (by kernel_rfl) (fun _ _ _ h => h) (Or.inr ⟨by rfl, rfl⟩) (by assumption) ?_
           try simp only [Act.put, List.setIfInBounds_toArray, List.set_cons_zero, List.set_cons_succ]
           refine wpAnyH_take (i := 24) (oi := ⟨some 52, .load 3 (.tmp 51), 3, "ref.go:67", #[⟨23, .data⟩, ⟨16, .guard⟩], some (16, false)⟩) (v := undef) rfl (by kernel_rfl) (by kernel_rfl) (by kernel_rfl) (fun _ _ _ h => h) (Or.inr ⟨by rfl, rfl⟩) (by assumption) ?_
           try simp only [Act.put, List.setIfInBounds_toArray, List.set_cons_zero, List.set_cons_succ]
           refine wpAnyH_take (i := 25) (oi := ⟨some 53, .binOp .neq 3 (.tmp 48) (.tmp 52) 3, 4, "ref.go:67", #[⟨20, .data⟩, ⟨24, .data⟩, ⟨16, .guard⟩], some (16, false)⟩) (v := undef) rfl (by kernel_rfl) (by kernel_rfl) (by kernel_rfl) (fun _ _ _ h => h) (Or.inr ⟨by rfl, rfl⟩) (by assumption) ?_
           try simp only [Act.put, List.setIfInBounds_toArray, List.set_cons_zero, List.set_cons_succ]
           refine wpAnyH_take (i := 26) (oi := ⟨some 54, .pick (.tmp 44) (.const (.bool true)) (.tmp 53), 4, "ref.go:67", #[⟨16, .data⟩, ⟨25, .data⟩, ⟨10, .guard⟩], some (10, true)⟩) (v := ?_) rfl (by kernel_rfl) (by kernel_rfl) (by kernel_rfl) (fun _ _ _ h => h) (Or.inl ⟨by rfl, ?_⟩) (by assumption) ?_
           rotate_left
           · intro w hSw; (try dsimp only at hSw); first | (go_simp; done) | (go_simp; with_reducible rfl)
           try simp only [Act.put, List.setIfInBounds_toArray, List.set_cons_zero, List.set_cons_succ]
           refine wpAnyH_take (i := 27) (oi := ⟨some 55, .pick (.tmp 38) (.tmp 54) (.const (.bool false)), 4, "ref.go:67", #[⟨10, .data⟩, ⟨26, .data⟩], none⟩) (v := ?_) rfl (by kernel_rfl) (by kernel_rfl) (by kernel_rfl) (fun _ _ _ h => h) (Or.inl ⟨by rfl, ?_⟩) (by assumption) ?_
           rotate_left
           · intro w hSw; (try dsimp only at hSw); first | (go_simp; done) | (go_simp; with_reducible rfl)
           try simp only [Act.put, List.setIfInBounds_toArray, List.set_cons_zero, List.set_cons_succ]
           refine wpAnyH_done (by kernel_rfl) ?_ _
           go_wp2_with fail
           go_ret
           exact ⟨ret_bool HT.out.symm, (by first | exact HEq.out.drew | exact HEq.out | exact HEq.out.drewN _)⟩
         · have e2 : decide (y1 < 0) = false := by simp; omega
           have e2' : ¬ y1 < 0 := by omega
           by_cases hyy : y1 = y2
           · have e3 : (y1 != y2) = false := by simp [hyy]
             have HT : Hid (rdB (L.take (k + 1)) gs th x = true) := HT0.out false (by rw [HBr.out, e2, e3]; simp)
             clear hyy
             refine wp_region_held_drew (S := (fun V => V.cell? ⟨gb, go + x1, none⟩ = some (.int .i64 y1) ∧ V.cell? ⟨gb, go + x2, none⟩ = some (.int .i64 y2) ∧ V.cell? ⟨tb, tq + x2, none⟩ = some (.bool false))) (by kernel_rfl) ?_ (fun hHeld0 => ?_)
             · exact mkS.out _ (by with_reducible (repeat (first | assumption | exact Ext.refl _ | apply Ext.drew | apply Ext.drewN)))
             refine wpAnyH_take (i := 0) (oi := ⟨some 28, .move (.tmp 10), 3, "ref.go:67", #[], none⟩) (v := ?_) rfl (by kernel_rfl) (by kernel_rfl) (by kernel_rfl) (fun _ _ _ h => h) (Or.inl ⟨by rfl, ?_⟩) (by assumption) ?_
             rotate_left
             · intro w hSw; (try dsimp only at hSw); first | (go_simp; done) | (go_simp; with_reducible rfl)
             try simp only [Act.put, List.setIfInBounds_toArray, List.set_cons_zero, List.set_cons_succ]
             refine wpAnyH_take (i := 1) (oi := ⟨some 29, .move (.tmp 0), 3, "ref.go:67", #[], none⟩) (v := ?_) rfl (by kernel_rfl) (by kernel_rfl) (by kernel_rfl) (fun _ _ _ h => h) (Or.inl ⟨by rfl, ?_⟩) (by assumption) ?_
             rotate_left
             · intro w hSw; (try dsimp only at hSw); first | (go_simp; done) | (go_simp; with_reducible rfl)
             try simp only [Act.put, List.setIfInBounds_toArray, List.set_cons_zero, List.set_cons_succ]
             refine wpAnyH_take (i := 2) (oi := ⟨some 30, .binOp .eql 3 (.tmp 28) (.tmp 29) 3, 4, "ref.go:67", #[⟨0, .data⟩, ⟨1, .data⟩], none⟩) (v := ?_) rfl (by kernel_rfl) (by kernel_rfl) (by kernel_rfl) (fun _ _ _ h => h) (Or.inl ⟨by rfl, ?_⟩) (by assumption) ?_
             rotate_left
             · intro w hSw; (try dsimp only at hSw); first | (go_simp; done) | (go_simp; with_reducible rfl)
             try simp only [Act.put, List.setIfInBounds_toArray, List.set_cons_zero, List.set_cons_succ]
             refine wpAnyH_take (i := 3) (oi := ⟨some 31, .move (.tmp 30), 4, "ref.go:67", #[⟨2, .data⟩], none⟩) (v := ?_) rfl (by kernel_rfl) (by kernel_rfl) (by kernel_rfl) (fun _ _ _ h => h) (Or.inl ⟨by rfl, ?_⟩) (by assumption) ?_
             rotate_left
             · intro w hSw; (try dsimp only at hSw); first | (go_simp; done) | (go_simp; with_reducible rfl)
             try simp only [Act.put, List.setIfInBounds_toArray, List.set_cons_zero, List.set_cons_succ]
             refine wpAnyH_take (i := 4) (oi := ⟨some 32, .move (.tmp 3), 37, "ref.go:67", #[⟨3, .guard⟩], some (3, true)⟩) (v := ?_) rfl (by kernel_rfl) (by kernel_rfl) (by kernel_rfl) (fun _ _ _ h => h) (Or.inl ⟨by rfl, ?_⟩) (by assumption) ?_
             rotate_left
             · intro w hSw; (try dsimp only at hSw); first | (go_simp; done) | (go_simp; with_reducible rfl)
             try simp only [Act.put, List.setIfInBounds_toArray, List.set_cons_zero, List.set_cons_succ]
             refine wpAnyH_take (i := 5) (oi := ⟨some 33, .move (.tmp 11), 3, "ref.go:67", #[⟨3, .guard⟩], some (3, true)⟩) (v := ?_) rfl (by kernel_rfl) (by kernel_rfl) (by kernel_rfl) (fun _ _ _ h => h) (Or.inl ⟨by rfl, ?_⟩) (by assumption) ?_
             rotate_left
             · intro w hSw; (try dsimp only at hSw); first | (go_simp; done) | (go_simp; with_reducible rfl)
             try simp only [Act.put, List.setIfInBounds_toArray, List.set_cons_zero, List.set_cons_succ]
             refine wpAnyH_take (i := 6) (oi := ⟨some 34, .indexAddr 37 (.tmp 32) (.tmp 33), 0, "ref.go:67", #[⟨4, .data⟩, ⟨5, .data⟩, ⟨3, .guard⟩], some (3, true)⟩) (v := ?_) rfl (by kernel_rfl) (by kernel_rfl) (by kernel_rfl) (fun _ _ _ h => h) (Or.inl ⟨by rfl, ?_⟩) (by assumption) ?_
             rotate_left
             · intro w hSw; (try dsimp only at hSw); first | (go_simp; done) | (go_simp; with_reducible rfl)
             try simp only [Act.put, List.setIfInBounds_toArray, List.set_cons_zero, List.set_cons_succ]
             refine wpAnyH_take (i := 7) (oi := ⟨some 35, .load 4 (.tmp 34), 4, "ref.go:67", #[⟨6, .data⟩, ⟨3, .guard⟩], some (3, true)⟩) (v := ?_) rfl (by kernel_rfl) (by kernel_rfl) (by kernel_rfl) (fun _ _ _ h => h) (Or.inl ⟨by rfl, ?_⟩) (by assumption) ?_
             rotate_left
             · intro w hSw; (try dsimp only at hSw); first | (go_simp; done) | (go_simp; with_reducible rfl)
             try simp only [Act.put, List.setIfInBounds_toArray, List.set_cons_zero, List.set_cons_succ]
             refine wpAnyH_take (i := 8) (oi := ⟨some 36, .unOp .not 4 (.tmp 35), 4, "ref.go:67", #[⟨7, .data⟩, ⟨3, .guard⟩], some (3, true)⟩) (v := ?_) rfl (by kernel_rfl) (by kernel_rfl) (by kernel_rfl) (fun _ _ _ h => h) (Or.inl ⟨by rfl, ?_⟩) (by assumption) ?_
             rotate_left
             · intro w hSw; (try dsimp only at hSw); first | (go_simp; done) | (go_simp; with_reducible rfl)
             try simp only [Act.put, List.setIfInBounds_toArray, List.set_cons_zero, List.set_cons_succ]
             refine wpAnyH_take (i := 9) (oi := ⟨some 37, .pick (.tmp 31) (.tmp 36) (.const (.bool false)), 4, "ref.go:67", #[⟨3, .data⟩, ⟨8, .data⟩], none⟩) (v := ?_) rfl (by kernel_rfl) (by kernel_rfl) (by kernel_rfl) (fun _ _ _ h => h) (Or.inl ⟨by rfl, ?_⟩) (by assumption) ?_
             rotate_left
             · intro w hSw; (try dsimp only at hSw); first | (go_simp; done) | (go_simp; with_reducible rfl)
             try simp only [Act.put, List.setIfInBounds_toArray, List.set_cons_zero, List.set_cons_succ]
             refine wpAnyH_take (i := 10) (oi := ⟨some 38, .move (.tmp 37), 4, "ref.go:67", #[⟨9, .data⟩, ⟨3, .chain⟩], none⟩) (v := ?_) rfl (by kernel_rfl) (by kernel_rfl) (by kernel_rfl) (fun _ _ _ h => h) (Or.inl ⟨by rfl, ?_⟩) (by assumption) ?_
             rotate_left
             · intro w hSw; (try dsimp only at hSw); first | (go_simp; done) | (go_simp; with_reducible rfl)
             try simp only [Act.put, List.setIfInBounds_toArray, List.set_cons_zero, List.set_cons_succ]
             refine wpAnyH_take (i := 11) (oi := ⟨some 39, .move (.tmp 2), 24, "ref.go:67", #[⟨10, .guard⟩], some (10, true)⟩) (v := ?_) rfl (by kernel_rfl) (by kernel_rfl) (by kernel_rfl) (fun _ _ _ h => h) (Or.inl ⟨by rfl, ?_⟩) (by assumption) ?_
             rotate_left
             · intro w hSw; (try dsimp only at hSw); first | (go_simp; done) | (go_simp; with_reducible rfl)
             try simp only [Act.put, List.setIfInBounds_toArray, List.set_cons_zero, List.set_cons_succ]
             refine wpAnyH_take (i := 12) (oi := ⟨some 40, .move (.tmp 10), 3, "ref.go:67", #[⟨10, .guard⟩], some (10, true)⟩) (v := ?_) rfl (by kernel_rfl) (by kernel_rfl) (by kernel_rfl) (fun _ _ _ h => h) (Or.inl ⟨by rfl, ?_⟩) (by assumption) ?_
             rotate_left
             · intro w hSw; (try dsimp only at hSw); first | (go_simp; done) | (go_simp; with_reducible rfl)
             try simp only [Act.put, List.setIfInBounds_toArray, List.set_cons_zero, List.set_cons_succ]
             refine wpAnyH_take (i := 13) (oi := ⟨some 41, .indexAddr 24 (.tmp 39) (.tmp 40), 0, "ref.go:67", #[⟨11, .data⟩, ⟨12, .data⟩, ⟨10, .guard⟩], some (10, true)⟩) (v := ?_) rfl (by kernel_rfl) (by kernel_rfl) (by kernel_rfl) (fun _ _ _ h => h) (Or.inl ⟨by rfl, ?_⟩) (by assumption) ?_
             rotate_left
             · intro w hSw; (try dsimp only at hSw); first | (go_simp; done) | (go_simp; with_reducible rfl)
             try simp only [Act.put, List.setIfInBounds_toArray, List.set_cons_zero, List.set_cons_succ]
             refine wpAnyH_take (i := 14) (oi := ⟨some 42, .load 3 (.tmp 41), 3, "ref.go:67", #[⟨13, .data⟩, ⟨10, .guard⟩], some (10, true)⟩) (v := ?_) rfl (by kernel_rfl) (by kernel_rfl) (by kernel_rfl) (fun _ _ _ h => h) (Or.inl ⟨by rfl, ?_⟩) (by assumption) ?_
             rotate_left
             · intro w hSw; (try dsimp only at hSw); first | (go_simp; done) | (go_simp; with_reducible rfl)
             try simp only [Act.put, List.setIfInBounds_toArray, List.set_cons_zero, List.set_cons_succ]
             refine wpAnyH_take (i := 15) (oi := ⟨some 43, .binOp .lss 3 (.tmp 42) (.const (.int .i64 0)) 3, 4, "ref.go:67", #[⟨14, .data⟩, ⟨10, .guard⟩], some (10, true)⟩) (v := ?_) rfl (by kernel_rfl) (by kernel_rfl) (by kernel_rfl) (fun _ _ _ h => h) (Or.inl ⟨by rfl, ?_⟩) (by assumption) ?_
             rotate_left
             · intro w hSw; (try dsimp only at hSw); first | (go_simp; done) | (go_simp; with_reducible rfl)
             try simp only [Act.put, List.setIfInBounds_toArray, List.set_cons_zero, List.set_cons_succ]
             refine wpAnyH_take (i := 16) (oi := ⟨some 44, .move (.tmp 43), 4, "ref.go:67", #[⟨15, .data⟩, ⟨10, .chain⟩, ⟨10, .guard⟩], some (10, true)⟩) (v := ?_) rfl (by kernel_rfl) (by kernel_rfl) (by kernel_rfl) (fun _ _ _ h => h) (Or.inl ⟨by rfl, ?_⟩) (by assumption) ?_
             rotate_left
             · intro w hSw; (try dsimp only at hSw); first | (go_simp; done) | (go_simp; with_reducible rfl)
             try simp only [Act.put, List.setIfInBounds_toArray, List.set_cons_zero, List.set_cons_succ]
             refine wpAnyH_take (i := 17) (oi := ⟨some 45, .move (.tmp 2), 24, "ref.go:67", #[⟨16, .guard⟩], some (16, false)⟩) (v := ?_) rfl (by kernel_rfl) (by kernel_rfl) (by kernel_rfl) (fun _ _ _ h => h) (Or.inl ⟨by rfl, ?_⟩) (by assumption) ?_
             rotate_left
             · intro w hSw; (try dsimp only at hSw); first | (go_simp; done) | (go_simp; with_reducible rfl)
             try simp only [Act.put, List.setIfInBounds_toArray, List.set_cons_zero, List.set_cons_succ]
             refine wpAnyH_take (i := 18) (oi := ⟨some 46, .move (.tmp 10), 3, "ref.go:67", #[⟨16, .guard⟩], some (16, false)⟩) (v := ?_) rfl (by kernel_rfl) (by kernel_rfl) (by kernel_rfl) (fun _ _ _ h => h) (Or.inl ⟨by rfl, ?_⟩) (by assumption) ?_
             rotate_left
             · intro w hSw; (try dsimp only at hSw); first | (go_simp; done) | (go_simp; with_reducible rfl)
             try simp only [Act.put, List.setIfInBounds_toArray, List.set_cons_zero, List.set_cons_succ]
             refine wpAnyH_take (i := 19) (oi := ⟨some 47, .indexAddr 24 (.tmp 45) (.tmp 46), 0, "ref.go:67", #[⟨17, .data⟩, ⟨18, .data⟩, ⟨16, .guard⟩], some (16, false)⟩) (v := ?_) rfl (by kernel_rfl) (by kernel_rfl) (by kernel_rfl) (fun _ _ _ h => h) (Or.inl ⟨by rfl, ?_⟩) (by assumption) ?_
             rotate_left
             · intro w hSw; (try dsimp only at hSw); first | (go_simp; done) | (go_simp; with_reducible rfl)
             try simp only [Act.put, List.setIfInBounds_toArray, List.set_cons_zero, List.set_cons_succ]
             refine wpAnyH_take (i := 20) (oi := ⟨some 48, .load 3 (.tmp 47), 3, "ref.go:67", #[⟨19, .data⟩, ⟨16, .guard⟩], some (16, false)⟩) (v := ?_) rfl (by kernel_rfl) (by kernel_rfl) (by kernel_rfl) (fun _ _ _ h => h) (Or.inl ⟨by rfl, ?_⟩) (by assumption) ?_
             rotate_left
             · intro w hSw; (try dsimp only at hSw); first | (go_simp; done) | (go_simp; with_reducible rfl)
             try simp only [Act.put, List.setIfInBounds_toArray, List.set_cons_zero, List.set_cons_succ]
             refine wpAnyH_take (i := 21) (oi := ⟨some 49, .move (.tmp 2), 24, "ref.go:67", #[⟨16, .guard⟩], some (16, false)⟩) (v := ?_) rfl (by kernel_rfl) (by kernel_rfl) (by kernel_rfl) (fun _ _ _ h => h) (Or.inl ⟨by rfl, ?_⟩) (by assumption) ?_
             rotate_left
             · intro w hSw; (try dsimp only at hSw); first | (go_simp; done) | (go_simp; with_reducible rfl)
             try simp only [Act.put, List.setIfInBounds_toArray, List.set_cons_zero, List.set_cons_succ]
             refine wpAnyH_take (i := 22) (oi := ⟨some 50, .move (.tmp 11), 3, "ref.go:67", #[⟨16, .guard⟩], some (16, false)⟩) (v := ?_) rfl (by kernel_rfl) (by kernel_rfl) (by kernel_rfl) (fun _ _ _ h => h) (Or.inl ⟨by rfl, ?_⟩) (by assumption) ?_
             rotate_left
             · intro w hSw; (try dsimp only at hSw); first | (go_simp; done) | (go_simp; with_reducible rfl)
             try simp only [Act.put, List.setIfInBounds_toArray, List.set_cons_zero, List.set_cons_succ]
             refine wpAnyH_take (i := 23) (oi := ⟨some 51, .indexAddr 24 (.tmp 49) (.tmp 50), 0, "ref.go:67", #[⟨21, .data⟩, ⟨22, .data⟩, ⟨16, .guard⟩], some (16, false)⟩) (v := ?_) rfl (by kernel_rfl) (by kernel_rfl) (by kernel_rfl) (fun _ _ _ h => h) (Or.inl ⟨by rfl, ?_⟩) (by assumption) ?_
             rotate_left
             · intro w hSw; (try dsimp only at hSw); first | (go_simp; done) | (go_simp; with_reducible rfl)
             try simp only [Act.put, List.setIfInBounds_toArray, List.set_cons_zero, List.set_cons_succ]
             refine wpAnyH_take (i := 24) (oi := ⟨some 52, .load 3 (.tmp 51), 3, "ref.go:67", #[⟨23, .data⟩, ⟨16, .guard⟩], some (16, false)⟩) (v := ?_) rfl (by kernel_rfl) (by kernel_rfl) (by kernel_rfl) (fun _ _ _ h => h) (Or.inl ⟨by rfl, ?_⟩) (by assumption) ?_
             rotate_left
             · intro w hSw; (try dsimp only at hSw); first | (go_simp; done) | (go_simp; with_reducible rfl)
             try simp only [Act.put, List.setIfInBounds_toArray, List.set_cons_zero, List.set_cons_succ]
             refine wpAnyH_take (i := 25) (oi := ⟨some 53, .binOp .neq 3 (.tmp 48) (.tmp 52) 3, 4, "ref.go:67", #[⟨20, .data⟩, ⟨24, .data⟩, ⟨16, .guard⟩], some (16, false)⟩) (v := ?_) rfl (by kernel_rfl) (by kernel_rfl) (by kernel_rfl) (fun _ _ _ h => h) (Or.inl ⟨by rfl, ?_⟩) (by assumption) ?_
             rotate_left
             · intro w hSw; (try dsimp only at hSw); first | (go_simp; done) | (go_simp; with_reducible rfl)
             try simp only [Act.put, List.setIfInBounds_toArray, List.set_cons_zero, List.set_cons_succ]
             refine wpAnyH_take (i := 26) (oi := ⟨some 54, .pick (.tmp 44) (.const (.bool true)) (.tmp 53), 4, "ref.go:67", #[⟨16, .data⟩, ⟨25, .data⟩, ⟨10, .guard⟩], some (10, true)⟩) (v := ?_) rfl (by kernel_rfl) (by kernel_rfl) (by kernel_rfl) (fun _ _ _ h => h) (Or.inl ⟨by rfl, ?_⟩) (by assumption) ?_
             rotate_left
             · intro w hSw; (try dsimp only at hSw); first | (go_simp; done) | (go_simp; with_reducible rfl)
             try simp only [Act.put, List.setIfInBounds_toArray, List.set_cons_zero, List.set_cons_succ]
             refine wpAnyH_take (i := 27) (oi := ⟨some 55, .pick (.tmp 38) (.tmp 54) (.const (.bool false)), 4, "ref.go:67", #[⟨10, .data⟩, ⟨26, .data⟩], none⟩) (v := ?_) rfl (by kernel_rfl) (by kernel_rfl) (by kernel_rfl) (fun _ _ _ h => h) (Or.inl ⟨by rfl, ?_⟩) (by assumption) ?_
             rotate_left
             · intro w hSw; (try dsimp only at hSw); first | (go_simp; done) | (go_simp; with_reducible rfl)
             try simp only [Act.put, List.setIfInBounds_toArray, List.set_cons_zero, List.set_cons_succ]
             refine wpAnyH_done (by kernel_rfl) ?_ _
             go_wp2_with fail
             go_roundw
             case rel => exact ⟨k + 1, by rw [wk], hlt, (by first | exact HEq.out.drew | exact HEq.out | exact HEq.out.drewN _), HT.out⟩
             case measure => rw [wk]; clear wk; simp [intOf]; omega
           · have e3 : (y1 != y2) = true := by simp [hyy]
             have HT : Hid (rdB L gs th x = false) := HTL.out (by rw [HBr.out, e3]; simp [HXX.out])
             clear hyy
             refine wp_region_held_drew (S := (fun V => V.cell? ⟨gb, go + x1, none⟩ = some (.int .i64 y1) ∧ V.cell? ⟨gb, go + x2, none⟩ = some (.int .i64 y2) ∧ V.cell? ⟨tb, tq + x2, none⟩ = some (.bool false))) (by kernel_rfl) ?_ (fun hHeld0 => ?_)
             · exact mkS.out _ (by with_reducible (repeat (first | assumption | exact Ext.refl _ | apply Ext.drew | apply Ext.drewN)))
             refine wpAnyH_take (i := 0) (oi := ⟨some 28, .move (.tmp 10), 3, "ref.go:67", #[], none⟩) (v := ?_) rfl (by kernel_rfl) (by kernel_rfl) (by kernel_rfl) (fun _ _ _ h => h) (Or.inl ⟨by rfl, ?_⟩) (by assumption) ?_
             rotate_left
             · intro w hSw; (try dsimp only at hSw); first | (go_simp; done) | (go_simp; with_reducible rfl)
             try simp only [Act.put, List.setIfInBounds_toArray, List.set_cons_zero, List.set_cons_succ]
             refine wpAnyH_take (i := 1) (oi := ⟨some 29, .move (.tmp 0), 3, "ref.go:67", #[], none⟩) (v := ?_) rfl (by kernel_rfl) (by kernel_rfl) (by kernel_rfl) (fun _ _ _ h => h) (Or.inl ⟨by rfl, ?_⟩) (by assumption) ?_
             rotate_left
             · intro w hSw; (try dsimp only at hSw); first | (go_simp; done) | (go_simp; with_reducible rfl)
             try simp only [Act.put, List.setIfInBounds_toArray, List.set_cons_zero, List.set_cons_succ]
             refine wpAnyH_take (i := 2) (oi := ⟨some 30, .binOp .eql 3 (.tmp 28) (.tmp 29) 3, 4, "ref.go:67", #[⟨0, .data⟩, ⟨1, .data⟩], none⟩) (v := ?_) rfl (by kernel_rfl) (by kernel_rfl) (by kernel_rfl) (fun _ _ _ h => h) (Or.inl ⟨by rfl, ?_⟩) (by assumption) ?_
             rotate_left
             · intro w hSw; (try dsimp only at hSw); first | (go_simp; done) | (go_simp; with_reducible rfl)
             try simp only [Act.put, List.setIfInBounds_toArray, List.set_cons_zero, List.set_cons_succ]
             refine wpAnyH_take (i := 3) (oi := ⟨some 31, .move (.tmp 30), 4, "ref.go:67", #[⟨2, .data⟩], none⟩) (v := ?_) rfl (by kernel_rfl) (by kernel_rfl) (by kernel_rfl) (fun _ _ _ h => h) (Or.inl ⟨by rfl, ?_⟩) (by assumption) ?_
             rotate_left
             · intro w hSw; (try dsimp only at hSw); first | (go_simp; done) | (go_simp; with_reducible rfl)
             try simp only [Act.put, List.setIfInBounds_toArray, List.set_cons_zero, List.set_cons_succ]
             refine wpAnyH_take (i := 4) (oi := ⟨some 32, .move (.tmp 3), 37, "ref.go:67", #[⟨3, .guard⟩], some (3, true)⟩) (v := ?_) rfl (by kernel_rfl) (by kernel_rfl) (by kernel_rfl) (fun _ _ _ h => h) (Or.inl ⟨by rfl, ?_⟩) (by assumption) ?_
             rotate_left
             · intro w hSw; (try dsimp only at hSw); first | (go_simp; done) | (go_simp; with_reducible rfl)
             try simp only [Act.put, List.setIfInBounds_toArray, List.set_cons_zero, List.set_cons_succ]
             refine wpAnyH_take (i := 5) (oi := ⟨some 33, .move (.tmp 11), 3, "ref.go:67", #[⟨3, .guard⟩], some (3, true)⟩) (v := ?_) rfl (by kernel_rfl) (by kernel_rfl) (by kernel_rfl) (fun _ _ _ h => h) (Or.inl ⟨by rfl, ?_⟩) (by assumption) ?_
             rotate_left
             · intro w hSw; (try dsimp only at hSw); first | (go_simp; done) | (go_simp; with_reducible rfl)
             try simp only [Act.put, List.setIfInBounds_toArray, List.set_cons_zero, List.set_cons_succ]
             refine wpAnyH_take (i := 6) (oi := ⟨some 34, .indexAddr 37 (.tmp 32) (.tmp 33), 0, "ref.go:67", #[⟨4, .data⟩, ⟨5, .data⟩, ⟨3, .guard⟩], some (3, true)⟩) (v := ?_) rfl (by kernel_rfl) (by kernel_rfl) (by kernel_rfl) (fun _ _ _ h => h) (Or.inl ⟨by rfl, ?_⟩) (by assumption) ?_
             rotate_left
             · intro w hSw; (try dsimp only at hSw); first | (go_simp; done) | (go_simp; with_reducible rfl)
             try simp only [Act.put, List.setIfInBounds_toArray, List.set_cons_zero, List.set_cons_succ]
             refine wpAnyH_take (i := 7) (oi := ⟨some 35, .load 4 (.tmp 34), 4, "ref.go:67", #[⟨6, .data⟩, ⟨3, .guard⟩], some (3, true)⟩) (v := ?_) rfl (by kernel_rfl) (by kernel_rfl) (by kernel_rfl) (fun _ _ _ h => h) (Or.inl ⟨by rfl, ?_⟩) (by assumption) ?_
             rotate_left
             · intro w hSw; (try dsimp only at hSw); first | (go_simp; done) | (go_simp; with_reducible rfl)
             try simp only [Act.put, List.setIfInBounds_toArray, List.set_cons_zero, List.set_cons_succ]
             refine wpAnyH_take (i := 8) (oi := ⟨some 36, .unOp .not 4 (.tmp 35), 4, "ref.go:67", #[⟨7, .data⟩, ⟨3, .guard⟩], some (3, true)⟩) (v := ?_) rfl (by kernel_rfl) (by kernel_rfl) (by kernel_rfl) (fun _ _ _ h => h) (Or.inl ⟨by rfl, ?_⟩) (by assumption) ?_
             rotate_left
             · intro w hSw; (try dsimp only at hSw); first | (go_simp; done) | (go_simp; with_reducible rfl)
             try simp only [Act.put, List.setIfInBounds_toArray, List.set_cons_zero, List.set_cons_succ]
             refine wpAnyH_take (i := 9) (oi := ⟨some 37, .pick (.tmp 31) (.tmp 36) (.const (.bool false)), 4, "ref.go:67", #[⟨3, .data⟩, ⟨8, .data⟩], none⟩) (v := ?_) rfl (by kernel_rfl) (by kernel_rfl) (by kernel_rfl) (fun _ _ _ h => h) (Or.inl ⟨by rfl, ?_⟩) (by assumption) ?_
             rotate_left
             · intro w hSw; (try dsimp only at hSw); first | (go_simp; done) | (go_simp; with_reducible rfl)
             try simp only [Act.put, List.setIfInBounds_toArray, List.set_cons_zero, List.set_cons_succ]
             refine wpAnyH_take (i := 10) (oi := ⟨some 38, .move (.tmp 37), 4, "ref.go:67", #[⟨9, .data⟩, ⟨3, .chain⟩], none⟩) (v := ?_) rfl (by kernel_rfl) (by kernel_rfl) (by kernel_rfl) (fun _ _ _ h => h) (Or.inl ⟨by rfl, ?_⟩) (by assumption) ?_
             rotate_left
             · intro w hSw; (try dsimp only at hSw); first | (go_simp; done) | (go_simp; with_reducible rfl)
             try simp only [Act.put, List.setIfInBounds_toArray, List.set_cons_zero, List.set_cons_succ]
             refine wpAnyH_take (i := 11) (oi := ⟨some 39, .move (.tmp 2), 24, "ref.go:67", #[⟨10, .guard⟩], some (10, true)⟩) (v := ?_) rfl (by kernel_rfl) (by kernel_rfl) (by kernel_rfl) (fun _ _ _ h => h) (Or.inl ⟨by rfl, ?_⟩) (by assumption) ?_
             rotate_left
             · intro w hSw; (try dsimp only at hSw); first | (go_simp; done) | (go_simp; with_reducible rfl)
             try simp only [Act.put, List.setIfInBounds_toArray, List.set_cons_zero, List.set_cons_succ]
             refine wpAnyH_take (i := 12) (oi := ⟨some 40, .move (.tmp 10), 3, "ref.go:67", #[⟨10, .guard⟩], some (10, true)⟩) (v := ?_) rfl (by kernel_rfl) (by kernel_rfl) (by kernel_rfl) (fun _ _ _ h => h) (Or.inl ⟨by rfl, ?_⟩) (by assumption) ?_
             rotate_left
             · intro w hSw; (try dsimp only at hSw); first | (go_simp; done) | (go_simp; with_reducible rfl)
             try simp only [Act.put, List.setIfInBounds_toArray, List.set_cons_zero, List.set_cons_succ]
             refine wpAnyH_take (i := 13) (oi := ⟨some 41, .indexAddr 24 (.tmp 39) (.tmp 40), 0, "ref.go:67", #[⟨11, .data⟩, ⟨12, .data⟩, ⟨10, .guard⟩], some (10, true)⟩) (v := ?_) rfl (by kernel_rfl) (by kernel_rfl) (by kernel_rfl) (fun _ _ _ h => h) (Or.inl ⟨by rfl, ?_⟩) (by assumption) ?_
             rotate_left
             · intro w hSw; (try dsimp only at hSw); first | (go_simp; done) | (go_simp; with_reducible rfl)
             try simp only [Act.put, List.setIfInBounds_toArray, List.set_cons_zero, List.set_cons_succ]
             refine wpAnyH_take (i := 14) (oi := ⟨some 42, .load 3 (.tmp 41), 3, "ref.go:67", #[⟨13, .data⟩, ⟨10, .guard⟩], some (10, true)⟩) (v := ?_) rfl (by kernel_rfl) (by kernel_rfl) (by kernel_rfl) (fun _ _ _ h => h) (Or.inl ⟨by rfl, ?_⟩) (by assumption) ?_
             rotate_left
             · intro w hSw; (try dsimp only at hSw); first | (go_simp; done) | (go_simp; with_reducible rfl)
             try simp only [Act.put, List.setIfInBounds_toArray, List.set_cons_zero, List.set_cons_succ]
             refine wpAnyH_take (i := 15) (oi := ⟨some 43, .binOp .lss 3 (.tmp 42) (.const (.int .i64 0)) 3, 4, "ref.go:67", #[⟨14, .data⟩, ⟨10, .guard⟩], some (10, true)⟩) (v := ?_) rfl (by kernel_rfl) (by kernel_rfl) (by kernel_rfl) (fun _ _ _ h => h) (Or.inl ⟨by rfl, ?_⟩) (by assumption) ?_
             rotate_left
             · intro w hSw; (try dsimp only at hSw); first | (go_simp; done) | (go_simp; with_reducible rfl)
             try simp only [Act.put, List.setIfInBounds_toArray, List.set_cons_zero, List.set_cons_succ]
             refine wpAnyH_take (i := 16) (oi := ⟨some 44, .move (.tmp 43), 4, "ref.go:67", #[⟨15, .data⟩, ⟨10, .chain⟩, ⟨10, .guard⟩], some (10, true)⟩) (v := ?_) rfl (by kernel_rfl) (by kernel_rfl) (by kernel_rfl) (fun _ _ _ h => h) (Or.inl ⟨by rfl, ?_⟩) (by assumption) ?_
             rotate_left
             · intro w hSw; (try dsimp only at hSw); first | (go_simp; done) | (go_simp; with_reducible rfl)
             try simp only [Act.put, List.setIfInBounds_toArray, List.set_cons_zero, List.set_cons_succ]
             refine wpAnyH_take (i := 17) (oi := ⟨some 45, .move (.tmp 2), 24, "ref.go:67", #[⟨16, .guard⟩], some (16, false)⟩) (v := ?_) rfl (by kernel_rfl) (by kernel_rfl) (by kernel_rfl) (fun _ _ _ h => h) (Or.inl ⟨by rfl, ?_⟩) (by assumption) ?_
             rotate_left
             · intro w hSw; (try dsimp only at hSw); first | (go_simp; done) | (go_simp; with_reducible rfl)
             try simp only [Act.put, List.setIfInBounds_toArray, List.set_cons_zero, List.set_cons_succ]
             refine wpAnyH_take (i := 18) (oi := ⟨some 46, .move (.tmp 10), 3, "ref.go:67", #[⟨16, .guard⟩], some (16, false)⟩) (v := ?_) rfl (by kernel_rfl) (by kernel_rfl) (by kernel_rfl) (fun _ _ _ h => h) (Or.inl ⟨by rfl, ?_⟩) (by assumption) ?_
             rotate_left
             · intro w hSw; (try dsimp only at hSw); first | (go_simp; done) | (go_simp; with_reducible rfl)
             try simp only [Act.put, List.setIfInBounds_toArray, List.set_cons_zero, List.set_cons_succ]
             refine wpAnyH_take (i := 19) (oi := ⟨some 47, .indexAddr 24 (.tmp 45) (.tmp 46), 0, "ref.go:67", #[⟨17, .data⟩, ⟨18, .data⟩, ⟨16, .guard⟩], some (16, false)⟩) (v := ?_) rfl (by kernel_rfl) (by kernel_rfl) (by kernel_rfl) (fun _ _ _ h => h) (Or.inl ⟨by rfl, ?_⟩) (by assumption) ?_
             rotate_left
             · intro w hSw; (try dsimp only at hSw); first | (go_simp; done) | (go_simp; with_reducible rfl)
             try simp only [Act.put, List.setIfInBounds_toArray, List.set_cons_zero, List.set_cons_succ]
             refine wpAnyH_take (i := 20) (oi := ⟨some 48, .load 3 (.tmp 47), 3, "ref.go:67", #[⟨19, .data⟩, ⟨16, .guard⟩], some (16, false)⟩) (v := ?_) rfl (by kernel_rfl) (by kernel_rfl) (by kernel_rfl) (fun _ _ _ h => h) (Or.inl ⟨by rfl, ?_⟩) (by assumption) ?_
             rotate_left
             · intro w hSw; (try dsimp only at hSw); first | (go_simp; done) | (go_simp; with_reducible rfl)
             try simp only [Act.put, List.setIfInBounds_toArray, List.set_cons_zero, List.set_cons_succ]
             refine wpAnyH_take (i := 21) (oi := ⟨some 49, .move (.tmp 2), 24, "ref.go:67", #[⟨16, .guard⟩], some (16, false)⟩) (v := ?_) rfl (by kernel_rfl) (by kernel_rfl) (by kernel_rfl) (fun _ _ _ h => h) (Or.inl ⟨by rfl, ?_⟩) (by assumption) ?_
             rotate_left
             · intro w hSw; (try dsimp only at hSw); first | (go_simp; done) | (go_simp; with_reducible rfl)
             try simp only [Act.put, List.setIfInBounds_toArray, List.set_cons_zero, List.set_cons_succ]
             refine wpAnyH_take (i := 22) (oi := ⟨some 50, .move (.tmp 11), 3, "ref.go:67", #[⟨16, .guard⟩], some (16, false)⟩) (v := ?_) rfl (by kernel_rfl) (by kernel_rfl) (by kernel_rfl) (fun _ _ _ h => h) (Or.inl ⟨by rfl, ?_⟩) (by assumption) ?_
             rotate_left
             · intro w hSw; (try dsimp only at hSw); first | (go_simp; done) | (go_simp; with_reducible rfl)
             try simp only [Act.put, List.setIfInBounds_toArray, List.set_cons_zero, List.set_cons_succ]
             refine wpAnyH_take (i := 23) (oi := ⟨some 51, .indexAddr 24 (.tmp 49) (.tmp 50), 0, "ref.go:67", #[⟨21, .data⟩, ⟨22, .data⟩, ⟨16, .guard⟩], some (16, false)⟩) (v := ?_) rfl (by kernel_rfl) (by kernel_rfl) (by kernel_rfl) (fun _ _ _ h => h) (Or.inl ⟨by rfl, ?_⟩) (by assumption) ?_
             rotate_left
             · intro w hSw; (try dsimp only at hSw); first | (go_simp; done) | (go_simp; with_reducible rfl)
             try simp only [Act.put, List.setIfInBounds_toArray, List.set_cons_zero, List.set_cons_succ]
             refine wpAnyH_take (i := 24) (oi := ⟨some 52, .load 3 (.tmp 51), 3, "ref.go:67", #[⟨23, .data⟩, ⟨16, .guard⟩], some (16, false)⟩) (v := ?_) rfl (by kernel_rfl) (by kernel_rfl) (by kernel_rfl) (fun _ _ _ h => h) (Or.inl ⟨by rfl, ?_⟩) (by assumption) ?_
             rotate_left
             · intro w hSw; (try dsimp only at hSw); first | (go_simp; done) | (go_simp; with_reducible rfl)
             try simp only [Act.put, List.setIfInBounds_toArray, List.set_cons_zero, List.set_cons_succ]
             refine wpAnyH_take (i := 25) (oi := ⟨some 53, .binOp .neq 3 (.tmp 48) (.tmp 52) 3, 4, "ref.go:67", #[⟨20, .data⟩, ⟨24, .data⟩, ⟨16, .guard⟩], some (16, false)⟩) (v := ?_) rfl (by kernel_rfl) (by kernel_rfl) (by kernel_rfl) (fun _ _ _ h => h) (Or.inl ⟨by rfl, ?_⟩) (by assumption) ?_
             rotate_left
             · intro w hSw; (try dsimp only at hSw); first | (go_simp; done) | (go_simp; with_reducible rfl)
             try simp only [Act.put, List.setIfInBounds_toArray, List.set_cons_zero, List.set_cons_succ]
             refine wpAnyH_take (i := 26) (oi := ⟨some 54, .pick (.tmp 44) (.const (.bool true)) (.tmp 53), 4, "ref.go:67", #[⟨16, .data⟩, ⟨25, .data⟩, ⟨10, .guard⟩], some (10, true)⟩) (v := ?_) rfl (by kernel_rfl) (by kernel_rfl) (by kernel_rfl) (fun _ _ _ h => h) (Or.inl ⟨by rfl, ?_⟩) (by assumption) ?_
             rotate_left
             · intro w hSw; (try dsimp only at hSw); first | (go_simp; done) | (go_simp; with_reducible rfl)
             try simp only [Act.put, List.setIfInBounds_toArray, List.set_cons_zero, List.set_cons_succ]
             refine wpAnyH_take (i := 27) (oi := ⟨some 55, .pick (.tmp 38) (.tmp 54) (.const (.bool false)), 4, "ref.go:67", #[⟨10, .data⟩, ⟨26, .data⟩], none⟩) (v := ?_) rfl (by kernel_rfl) (by kernel_rfl) (by kernel_rfl) (fun _ _ _ h => h) (Or.inl ⟨by rfl, ?_⟩) (by assumption) ?_
             rotate_left
             · intro w hSw; (try dsimp only at hSw); first | (go_simp; done) | (go_simp; with_reducible rfl)
             try simp only [Act.put, List.setIfInBounds_toArray, List.set_cons_zero, List.set_cons_succ]
             refine wpAnyH_done (by kernel_rfl) ?_ _
             go_wp2_with fail
             go_ret
             exact ⟨ret_bool HT.out.symm, (by first | exact HEq.out.drew | exact HEq.out | exact HEq.out.drewN _)⟩
       · have HT : Hid (rdB (L.take (k + 1)) gs th x = true) := HT0.out false (by rw [HBr.out]; simp)
         refine wp_region_held_drew (S := (fun V => V.cell? ⟨gb, go + x1, none⟩ = some (.int .i64 y1) ∧ V.cell? ⟨gb, go + x2, none⟩ = some (.int .i64 y2) ∧ V.cell? ⟨tb, tq + x2, none⟩ = some (.bool true))) (by kernel_rfl) ?_ (fun hHeld0 => ?_)
         · exact mkS.out _ (by with_reducible (repeat (first | assumption | exact Ext.refl _ | apply Ext.drew | apply Ext.drewN)))
         refine wpAnyH_take (i := 0) (oi := ⟨some 28, .move (.tmp 10), 3, "ref.go:67", #[], none⟩) (v := ?_) rfl (by kernel_rfl) (by kernel_rfl) (by kernel_rfl) (fun _ _ _ h => h) (Or.inl ⟨by rfl, ?_⟩) (by assumption) ?_
         rotate_left
         · intro w hSw; (try dsimp only at hSw); first | (go_simp; done) | (go_simp; with_reducible rfl)
         try simp only [Act.put, List.setIfInBounds_toArray, List.set_cons_zero, List.set_cons_succ]
         refine wpAnyH_take (i := 1) (oi := ⟨some 29, .move (.tmp 0), 3, "ref.go:67", #[], none⟩) (v := ?_) rfl (by kernel_rfl) (by kernel_rfl) (by kernel_rfl) (fun _ _ _ h => h) (Or.inl ⟨by rfl, ?_⟩) (by assumption) ?_
         rotate_left
         · intro w hSw; (try dsimp only at hSw); first | (go_simp; done) | (go_simp; with_reducible rfl)
         try simp only [Act.put, List.setIfInBounds_toArray, List.set_cons_zero, List.set_cons_succ]
         refine wpAnyH_take (i := 2) (oi := ⟨some 30, .binOp .eql 3 (.tmp 28) (.tmp 29) 3, 4, "ref.go:67", #[⟨0, .data⟩, ⟨1, .data⟩], none⟩) (v := ?_) rfl (by kernel_rfl) (by kernel_rfl) (by kernel_rfl) (fun _ _ _ h => h) (Or.inl ⟨by rfl, ?_⟩) (by assumption) ?_
         rotate_left
         · intro w hSw; (try dsimp only at hSw); first | (go_simp; done) | (go_simp; with_reducible rfl)
         try simp only [Act.put, List.setIfInBounds_toArray, List.set_cons_zero, List.set_cons_succ]
         refine wpAnyH_take (i := 3) (oi := ⟨some 31, .move (.tmp 30), 4, "ref.go:67", #[⟨2, .data⟩], none⟩) (v := ?_) rfl (by kernel_rfl) (by kernel_rfl) (by kernel_rfl) (fun _ _ _ h => h) (Or.inl ⟨by rfl, ?_⟩) (by assumption) ?_
         rotate_left
         · intro w hSw; (try dsimp only at hSw); first | (go_simp; done) | (go_simp; with_reducible rfl)
         try simp only [Act.put, List.setIfInBounds_toArray, List.set_cons_zero, List.set_cons_succ]
         refine wpAnyH_take (i := 4) (oi := ⟨some 32, .move (.tmp 3), 37, "ref.go:67", #[⟨3, .guard⟩], some (3, true)⟩) (v := ?_) rfl (by kernel_rfl) (by kernel_rfl) (by kernel_rfl) (fun _ _ _ h => h) (Or.inl ⟨by rfl, ?_⟩) (by assumption) ?_
         rotate_left
         · intro w hSw; (try dsimp only at hSw); first | (go_simp; done) | (go_simp; with_reducible rfl)
         try simp only [Act.put, List.setIfInBounds_toArray, List.set_cons_zero, List.set_cons_succ]
         refine wpAnyH_take (i := 5) (oi := ⟨some 33, .move (.tmp 11), 3, "ref.go:67", #[⟨3, .guard⟩], some (3, true)⟩) (v := ?_) rfl (by kernel_rfl) (by kernel_rfl) (by kernel_rfl) (fun _ _ _ h => h) (Or.inl ⟨by rfl, ?_⟩) (by assumption) ?_
         rotate_left
         · intro w hSw; (try dsimp only at hSw); first | (go_simp; done) | (go_simp; with_reducible rfl)
         try simp only [Act.put, List.setIfInBounds_toArray, List.set_cons_zero, List.set_cons_succ]
         refine wpAnyH_take (i := 6) (oi := ⟨some 34, .indexAddr 37 (.tmp 32) (.tmp 33), 0, "ref.go:67", #[⟨4, .data⟩, ⟨5, .data⟩, ⟨3, .guard⟩], some (3, true)⟩) (v := ?_) rfl (by kernel_rfl) (by kernel_rfl) (by kernel_rfl) (fun _ _ _ h => h) (Or.inl ⟨by rfl, ?_⟩) (by assumption) ?_
         rotate_left
         · intro w hSw; (try dsimp only at hSw); first | (go_simp; done) | (go_simp; with_reducible rfl)
         try simp only [Act.put, List.setIfInBounds_toArray, List.set_cons_zero, List.set_cons_succ]
         refine wpAnyH_take (i := 7) (oi := ⟨some 35, .load 4 (.tmp 34), 4, "ref.go:67", #[⟨6, .data⟩, ⟨3, .guard⟩], some (3, true)⟩) (v := ?_) rfl (by kernel_rfl) (by kernel_rfl) (by kernel_rfl) (fun _ _ _ h => h) (Or.inl ⟨by rfl, ?_⟩) (by assumption) ?_
         rotate_left
         · intro w hSw; (try dsimp only at hSw); first | (go_simp; done) | (go_simp; with_reducible rfl)
         try simp only [Act.put, List.setIfInBounds_toArray, List.set_cons_zero, List.set_cons_succ]
         refine wpAnyH_take (i := 8) (oi := ⟨some 36, .unOp .not 4 (.tmp 35), 4, "ref.go:67", #[⟨7, .data⟩, ⟨3, .guard⟩], some (3, true)⟩) (v := ?_) rfl (by kernel_rfl) (by kernel_rfl) (by kernel_rfl) (fun _ _ _ h => h) (Or.inl ⟨by rfl, ?_⟩) (by assumption) ?_
         rotate_left
         · intro w hSw; (try dsimp only at hSw); first | (go_simp; done) | (go_simp; with_reducible rfl)
         try simp only [Act.put, List.setIfInBounds_toArray, List.set_cons_zero, List.set_cons_succ]
         refine wpAnyH_take (i := 9) (oi := ⟨some 37, .pick (.tmp 31) (.tmp 36) (.const (.bool false)), 4, "ref.go:67", #[⟨3, .data⟩, ⟨8, .data⟩], none⟩) (v := ?_) rfl (by kernel_rfl) (by kernel_rfl) (by kernel_rfl) (fun _ _ _ h => h) (Or.inl ⟨by rfl, ?_⟩) (by assumption) ?_
         rotate_left
         · intro w hSw; (try dsimp only at hSw); first | (go_simp; done) | (go_simp; with_reducible rfl)
         try simp only [Act.put, List.setIfInBounds_toArray, List.set_cons_zero, List.set_cons_succ]
         refine wpAnyH_take (i := 10) (oi := ⟨some 38, .move (.tmp 37), 4, "ref.go:67", #[⟨9, .data⟩, ⟨3, .chain⟩], none⟩) (v := ?_) rfl (by kernel_rfl) (by kernel_rfl) (by kernel_rfl) (fun _ _ _ h => h) (Or.inl ⟨by rfl, ?_⟩) (by assumption) ?_
         rotate_left
         · intro w hSw; (try dsimp only at hSw); first | (go_simp; done) | (go_simp; with_reducible rfl)
         try simp only [Act.put, List.setIfInBounds_toArray, List.set_cons_zero, List.set_cons_succ]
         refine wpAnyH_take (i := 11) (oi := ⟨some 39, .move (.tmp 2), 24, "ref.go:67", #[⟨10, .guard⟩], some (10, true)⟩) (v := undef) rfl (by kernel_rfl) (by kernel_rfl) (by kernel_rfl) (fun _ _ _ h => h) (Or.inr ⟨by rfl, rfl⟩) (by assumption) ?_
         try simp only [Act.put, List.setIfInBounds_toArray, List.set_cons_zero, List.set_cons_succ]
         refine wpAnyH_take (i := 12) (oi := ⟨some 40, .move (.tmp 10), 3, "ref.go:67", #[⟨10, .guard⟩], some (10, true)⟩) (v := undef) rfl (by kernel_rfl) (by kernel_rfl) (by kernel_rfl) (fun _ _ _ h => h) (Or.inr ⟨by rfl, rfl⟩) (by assumption) ?_
         try simp only [Act.put, List.setIfInBounds_toArray, List.set_cons_zero, List.set_cons_succ]
         refine wpAnyH_take (i := 13) (oi := ⟨some 41, .indexAddr 24 (.tmp 39) (.tmp 40), 0, "ref.go:67", #[⟨11, .data⟩, ⟨12, .data⟩, ⟨10, .guard⟩], some (10, true)⟩) (v := undef) rfl (by kernel_rfl) (by kernel_rfl) (by kernel_rfl) (fun _ _ _ h => h) (Or.inr ⟨by rfl, rfl⟩) (by assumption) ?_
         try simp only [Act.put, List.setIfInBounds_toArray, List.set_cons_zero, List.set_cons_succ]
         refine wpAnyH_take (i := 14) (oi := ⟨some 42, .load 3 (.tmp 41), 3, "ref.go:67", #[⟨13, .data⟩, ⟨10, .guard⟩], some (10, true)⟩) (v := undef) rfl (by kernel_rfl) (by kernel_rfl) (by kernel_rfl) (fun _ _ _ h => h) (Or.inr ⟨by rfl, rfl⟩) (by assumption) ?_
         try simp only [Act.put, List.setIfInBounds_toArray, List.set_cons_zero, List.set_cons_succ]
         refine wpAnyH_take (i := 15) (oi := ⟨some 43, .binOp .lss 3 (.tmp 42) (.const (.int .i64 0)) 3, 4, "ref.go:67", #[⟨14, .data⟩, ⟨10, .guard⟩], some (10, true)⟩) (v := undef) rfl (by kernel_rfl) (by kernel_rfl) (by kernel_rfl) (fun _ _ _ h => h) (Or.inr ⟨by rfl, rfl⟩) (by assumption) ?_
         try simp only [Act.put, List.setIfInBounds_toArray, List.set_cons_zero, List.set_cons_succ]
         refine wpAnyH_take (i := 16) (oi := ⟨some 44, .move (.tmp 43), 4, "ref.go:67", #[⟨15, .data⟩, ⟨10, .chain⟩, ⟨10, .guard⟩], some (10, true)⟩) (v := undef) rfl (by kernel_rfl) (by kernel_rfl) (by kernel_rfl) (fun _ _ _ h => h) (Or.inr ⟨by rfl, rfl⟩) (by assumption) ?_
         try simp only [Act.put, List.setIfInBounds_toArray, List.set_cons_zero, List.set_cons_succ]
         refine wpAnyH_take (i := 17) (oi := ⟨some 45, .move (.tmp 2), 24, "ref.go:67", #[⟨16, .guard⟩], some (16, false)⟩) (v := undef) rfl (by kernel_rfl) (by kernel_rfl) (by kernel_rfl) (fun _ _ _ h => h) (Or.inr ⟨by rfl, rfl⟩) (by assumption) ?_
         try simp only [Act.put, List.setIfInBounds_toArray, List.set_cons_zero, List.set_cons_succ]
         refine wpAnyH_take (i := 18) (oi := ⟨some 46, .move (.tmp 10), 3, "ref.go:67", #[⟨16, .guard⟩], some (16, false)⟩) (v := undef) rfl (by kernel_rfl) (by kernel_rfl) (by kernel_rfl) (fun _ _ _ h => h) (Or.inr ⟨by rfl, rfl⟩) (by assumption) ?_
         try simp only [Act.put, List.setIfInBounds_toArray, List.set_cons_zero, List.set_cons_succ]
         refine wpAnyH_take (i := 19) (oi := ⟨some 47, .indexAddr 24 (.tmp 45) (.tmp 46), 0, "ref.go:67", #[⟨17, .data⟩, ⟨18, .data⟩, ⟨16, .guard⟩], some (16, false)⟩) (v := undef) rfl (by kernel_rfl) (by kernel_rfl) (by kernel_rfl) (fun _ _ _ h => h) (Or.inr ⟨by rfl, rfl⟩) (by assumption) ?_
         try simp only [Act.put, List.setIfInBounds_toArray, List.set_cons_zero, List.set_cons_succ]
         refine wpAnyH_take (i := 20) (oi := ⟨some 48, .load 3 (.tmp 47), 3, "ref.go:67", #[⟨19, .data⟩, ⟨16, .guard⟩], some (16, false)⟩) (v := undef) rfl (by kernel_rfl) (by kernel_rfl) (by kernel_rfl) (fun _ _ _ h => h) (Or.inr ⟨by rfl, rfl⟩) (by assumption) ?_
         try simp only [Act.put, List.setIfInBounds_toArray, List.set_cons_zero, List.set_cons_succ]
         refine wpAnyH_take (i := 21) (oi := ⟨some 49, .move (.tmp 2), 24, "ref.go:67", #[⟨16, .guard⟩], some (16, false)⟩) (v := undef) rfl (by kernel_rfl) (by kernel_rfl) (by kernel_rfl) (fun _ _ _ h => h) (Or.inr ⟨by rfl, rfl⟩) (by assumption) ?_
         try simp only [Act.put, List.setIfInBounds_toArray, List.set_cons_zero, List.set_cons_succ]
         refine wpAnyH_take (i := 22) (oi := ⟨some 50, .move (.tmp 11), 3, "ref.go:67", #[⟨16, .guard⟩], some (16, false)⟩) (v := undef) rfl (by kernel_rfl) (by kernel_rfl) (by kernel_rfl) (fun _ _ _ h => h) (Or.inr ⟨by rfl, rfl⟩) (by assumption) ?_
         try simp only [Act.put, List.setIfInBounds_toArray, List.set_cons_zero, List.set_cons_succ]
         refine wpAnyH_take (i := 23) (oi := ⟨some 51, .indexAddr 24 (.tmp 49) (.tmp 50), 0, "ref.go:67", #[⟨21, .data⟩, ⟨22, .data⟩, ⟨16, .guard⟩], some (16, false)⟩) (v := undef) rfl (by kernel_rfl) (by kernel_rfl) (by kernel_rfl) (fun _ _ _ h => h) (Or.inr ⟨by rfl, rfl⟩) (by assumption) ?_
         try simp only [Act.put, List.setIfInBounds_toArray, List.set_cons_zero, List.set_cons_succ]
         refine wpAnyH_take (i := 24) (oi := ⟨some 52, .load 3 (.tmp 51), 3, "ref.go:67", #[⟨23, .data⟩, ⟨16, .guard⟩], some (16, false)⟩) (v := undef) rfl (by kernel_rfl) (by kernel_rfl) (by kernel_rfl) (fun _ _ _ h => h) (Or.inr ⟨by rfl, rfl⟩) (by assumption) ?_
         try simp only [Act.put, List.setIfInBounds_toArray, List.set_cons_zero, List.set_cons_succ]
         refine wpAnyH_take (i := 25) (oi := ⟨some 53, .binOp .neq 3 (.tmp 48) (.tmp 52) 3, 4, "ref.go:67", #[⟨20, .data⟩, ⟨24, .data⟩, ⟨16, .guard⟩], some (16, false)⟩) (v := undef) rfl (by kernel_rfl) (by kernel_rfl) (by kernel_rfl) (fun _ _ _ h => h) (Or.inr ⟨by rfl, rfl⟩) (by assumption) ?_
         try simp only [Act.put, List.setIfInBounds_toArray, List.set_cons_zero, List.set_cons_succ]
         refine wpAnyH_take (i := 26) (oi := ⟨some 54, .pick (.tmp 44) (.const (.bool true)) (.tmp 53), 4, "ref.go:67", #[⟨16, .data⟩, ⟨25, .data⟩, ⟨10, .guard⟩], some (10, true)⟩) (v := undef) rfl (by kernel_rfl) (by kernel_rfl) (by kernel_rfl) (fun _ _ _ h => h) (Or.inr ⟨by rfl, rfl⟩) (by assumption) ?_
         try simp only [Act.put, List.setIfInBounds_toArray, List.set_cons_zero, List.set_cons_succ]
         refine wpAnyH_take (i := 27) (oi := ⟨some 55, .pick (.tmp 38) (.tmp 54) (.const (.bool false)), 4, "ref.go:67", #[⟨10, .data⟩, ⟨26, .data⟩], none⟩) (v := ?_) rfl (by kernel_rfl) (by kernel_rfl) (by kernel_rfl) (fun _ _ _ h => h) (Or.inl ⟨by rfl, ?_⟩) (by assumption) ?_
         rotate_left
         · intro w hSw; (try dsimp only at hSw); first | (go_simp; done) | (go_simp; with_reducible rfl)
         try simp only [Act.put, List.setIfInBounds_toArray, List.set_cons_zero, List.set_cons_succ]
         refine wpAnyH_done (by kernel_rfl) ?_ _
         go_wp2_with fail
         go_roundw
         case rel => exact ⟨k + 1, by rw [wk], hlt, (by first | exact HEq.out.drew | exact HEq.out | exact HEq.out.drewN _), HT.out⟩
         case measure => rw [wk]; clear wk; simp [intOf]; omega
     · have e1 : ((x1 : Int) == (x : Int)) = false := by simp; omega
       have HT : Hid (rdB (L.take (k + 1)) gs th x = true) := HT0.out false (by rw [HBr.out]; simp [hxx])
       clear hxx
       refine wp_region_held_drew (S := (fun V => V.cell? ⟨gb, go + x1, none⟩ = some (.int .i64 y1) ∧ V.cell? ⟨gb, go + x2, none⟩ = some (.int .i64 y2) ∧ V.cell? ⟨tb, tq + x2, none⟩ = some (.bool t2))) (by kernel_rfl) ?_ (fun hHeld0 => ?_)
       · exact mkS.out _ (by with_reducible (repeat (first | assumption | exact Ext.refl _ | apply Ext.drew | apply Ext.drewN)))
       refine wpAnyH_take (i := 0) (oi := ⟨some 28, .move (.tmp 10), 3, "ref.go:67", #[], none⟩) (v := ?_) rfl (by kernel_rfl) (by kernel_rfl) (by kernel_rfl) (fun _ _ _ h => h) (Or.inl ⟨by rfl, ?_⟩) (by assumption) ?_
       rotate_left
       · intro w hSw; (try dsimp only at hSw); first | (go_simp; done) | (go_simp; with_reducible rfl)
       try simp only [Act.put, List.setIfInBounds_toArray, List.set_cons_zero, List.set_cons_succ]
       refine wpAnyH_take (i := 1) (oi := ⟨some 29, .move (.tmp 0), 3, "ref.go:67", #[], none⟩) (v := ?_) rfl (by kernel_rfl) (by kernel_rfl) (by kernel_rfl) (fun _ _ _ h => h) (Or.inl ⟨by rfl, ?_⟩) (by assumption) ?_
       rotate_left
       · intro w hSw; (try dsimp only at hSw); first | (go_simp; done) | (go_simp; with_reducible rfl)
       try simp only [Act.put, List.setIfInBounds_toArray, List.set_cons_zero, List.set_cons_succ]
       refine wpAnyH_take (i := 2) (oi := ⟨some 30, .binOp .eql 3 (.tmp 28) (.tmp 29) 3, 4, "ref.go:67", #[⟨0, .data⟩, ⟨1, .data⟩], none⟩) (v := ?_) rfl (by kernel_rfl) (by kernel_rfl) (by kernel_rfl) (fun _ _ _ h => h) (Or.inl ⟨by rfl, ?_⟩) (by assumption) ?_
       rotate_left
       · intro w hSw; (try dsimp only at hSw); first | (go_simp; done) | (go_simp; with_reducible rfl)
       try simp only [Act.put, List.setIfInBounds_toArray, List.set_cons_zero, List.set_cons_succ]
       refine wpAnyH_take (i := 3) (oi := ⟨some 31, .move (.tmp 30), 4, "ref.go:67", #[⟨2, .data⟩], none⟩) (v := ?_) rfl (by kernel_rfl) (by kernel_rfl) (by kernel_rfl) (fun _ _ _ h => h) (Or.inl ⟨by rfl, ?_⟩) (by assumption) ?_
       rotate_left
       · intro w hSw; (try dsimp only at hSw); first | (go_simp; done) | (go_simp; with_reducible rfl)
       try simp only [Act.put, List.setIfInBounds_toArray, List.set_cons_zero, List.set_cons_succ]
       refine wpAnyH_take (i := 4) (oi := ⟨some 32, .move (.tmp 3), 37, "ref.go:67", #[⟨3, .guard⟩], some (3, true)⟩) (v := undef) rfl (by kernel_rfl) (by kernel_rfl) (by kernel_rfl) (fun _ _ _ h => h) (Or.inr ⟨by rfl, rfl⟩) (by assumption) ?_
       try simp only [Act.put, List.setIfInBounds_toArray, List.set_cons_zero, List.set_cons_succ]
       refine wpAnyH_take (i := 5) (oi := ⟨some 33, .move (.tmp 11), 3, "ref.go:67", #[⟨3, .guard⟩], some (3, true)⟩) (v := undef) rfl (by kernel_rfl) (by kernel_rfl) (by kernel_rfl) (fun _ _ _ h => h) (Or.inr ⟨by rfl, rfl⟩) (by assumption) ?_
       try simp only [Act.put, List.setIfInBounds_toArray, List.set_cons_zero, List.set_cons_succ]
       refine wpAnyH_take (i := 6) (oi := ⟨some 34, .indexAddr 37 (.tmp 32) (.tmp 33), 0, "ref.go:67", #[⟨4, .data⟩, ⟨5, .data⟩, ⟨3, .guard⟩], some (3, true)⟩) (v := undef) rfl (by kernel_rfl) (by kernel_rfl) (by kernel_rfl) (fun _ _ _ h => h) (Or.inr ⟨by rfl, rfl⟩) (by assumption) ?_
       try simp only [Act.put, List.setIfInBounds_toArray, List.set_cons_zero, List.set_cons_succ]
       refine wpAnyH_take (i := 7) (oi := ⟨some 35, .load 4 (.tmp 34), 4, "ref.go:67", #[⟨6, .data⟩, ⟨3, .guard⟩], some (3, true)⟩) (v := undef) rfl (by kernel_rfl) (by kernel_rfl) (by kernel_rfl) (fun _ _ _ h => h) (Or.inr ⟨by rfl, rfl⟩) (by assumption) ?_
       try simp only [Act.put, List.setIfInBounds_toArray, List.set_cons_zero, List.set_cons_succ]
       refine wpAnyH_take (i := 8) (oi := ⟨some 36, .unOp .not 4 (.tmp 35), 4, "ref.go:67", #[⟨7, .data⟩, ⟨3, .guard⟩], some (3, true)⟩) (v := undef) rfl (by kernel_rfl) (by kernel_rfl) (by kernel_rfl) (fun _ _ _ h => h) (Or.inr ⟨by rfl, rfl⟩) (by assumption) ?_
       try simp only [Act.put, List.setIfInBounds_toArray, List.set_cons_zero, List.set_cons_succ]
       refine wpAnyH_take (i := 9) (oi := ⟨some 37, .pick (.tmp 31) (.tmp 36) (.const (.bool false)), 4, "ref.go:67", #[⟨3, .data⟩, ⟨8, .data⟩], none⟩) (v := ?_) rfl (by kernel_rfl) (by kernel_rfl) (by kernel_rfl) (fun _ _ _ h => h) (Or.inl ⟨by rfl, ?_⟩) (by assumption) ?_
       rotate_left
       · intro w hSw; (try dsimp only at hSw); first | (go_simp; done) | (go_simp; with_reducible rfl)
       try simp only [Act.put, List.setIfInBounds_toArray, List.set_cons_zero, List.set_cons_succ]
       refine wpAnyH_take (i := 10) (oi := ⟨some 38, .move (.tmp 37), 4, "ref.go:67", #[⟨9, .data⟩, ⟨3, .chain⟩], none⟩) (v := ?_) rfl (by kernel_rfl) (by kernel_rfl) (by kernel_rfl) (fun _ _ _ h => h) (Or.inl ⟨by rfl, ?_⟩) (by assumption) ?_
       rotate_left
       · intro w hSw; (try dsimp only at hSw); first | (go_simp; done) | (go_simp; with_reducible rfl)
       try simp only [Act.put, List.setIfInBounds_toArray, List.set_cons_zero, List.set_cons_succ]
       refine wpAnyH_take (i := 11) (oi := ⟨some 39, .move (.tmp 2), 24, "ref.go:67", #[⟨10, .guard⟩], some (10, true)⟩) (v := undef) rfl (by kernel_rfl) (by kernel_rfl) (by kernel_rfl) (fun _ _ _ h => h) (Or.inr ⟨by rfl, rfl⟩) (by assumption) ?_
       try simp only [Act.put, List.setIfInBounds_toArray, List.set_cons_zero, List.set_cons_succ]
       refine wpAnyH_take (i := 12) (oi := ⟨some 40, .move (.tmp 10), 3, "ref.go:67", #[⟨10, .guard⟩], some (10, true)⟩) (v := undef) rfl (by kernel_rfl) (by kernel_rfl) (by kernel_rfl) (fun _ _ _ h => h) (Or.inr ⟨by rfl, rfl⟩) (by assumption) ?_
       try simp only [Act.put, List.setIfInBounds_toArray, List.set_cons_zero, List.set_cons_succ]
       refine wpAnyH_take (i := 13) (oi := ⟨some 41, .indexAddr 24 (.tmp 39) (.tmp 40), 0, "ref.go:67", #[⟨11, .data⟩, ⟨12, .data⟩, ⟨10, .guard⟩], some (10, true)⟩) (v := undef) rfl (by kernel_rfl) (by kernel_rfl) (by kernel_rfl) (fun _ _ _ h => h) (Or.inr ⟨by rfl, rfl⟩) (by assumption) ?_
       try simp only [Act.put, List.setIfInBounds_toArray, List.set_cons_zero, List.set_cons_succ]
       refine wpAnyH_take (i := 14) (oi := ⟨some 42, .load 3 (.tmp 41), 3, "ref.go:67", #[⟨13, .data⟩, ⟨10, .guard⟩], some (10, true)⟩) (v := undef) rfl (by kernel_rfl) (by kernel_rfl) (by kernel_rfl) (fun _ _ _ h => h) (Or.inr ⟨by rfl, rfl⟩) (by assumption) ?_
       try simp only [Act.put, List.setIfInBounds_toArray, List.set_cons_zero, List.set_cons_succ]
       refine wpAnyH_take (i := 15) (oi := ⟨some 43, .binOp .lss 3 (.tmp 42) (.const (.int .i64 0)) 3, 4, "ref.go:67", #[⟨14, .data⟩, ⟨10, .guard⟩], some (10, true)⟩) (v := undef) rfl (by kernel_rfl) (by kernel_rfl) (by kernel_rfl) (fun _ _ _ h => h) (Or.inr ⟨by rfl, rfl⟩) (by assumption) ?_
       try simp only [Act.put, List.setIfInBounds_toArray, List.set_cons_zero, List.set_cons_succ]
       refine wpAnyH_take (i := 16) (oi := ⟨some 44, .move (.tmp 43), 4, "ref.go:67", #[⟨15, .data⟩, ⟨10, .chain⟩, ⟨10, .guard⟩], some (10, true)⟩) (v := undef) rfl (by kernel_rfl) (by kernel_rfl) (by kernel_rfl) (fun _ _ _ h => h) (Or.inr ⟨by rfl, rfl⟩) (by assumption) ?_
       try simp only [Act.put, List.setIfInBounds_toArray, List.set_cons_zero, List.set_cons_succ]
       refine wpAnyH_take (i := 17) (oi := ⟨some 45, .move (.tmp 2), 24, "ref.go:67", #[⟨16, .guard⟩], some (16, false)⟩) (v := undef) rfl (by kernel_rfl) (by kernel_rfl) (by kernel_rfl) (fun _ _ _ h => h) (Or.inr ⟨by rfl, rfl⟩) (by assumption) ?_
       try simp only [Act.put, List.setIfInBounds_toArray, List.set_cons_zero, List.set_cons_succ]
       refine wpAnyH_take (i := 18) (oi := ⟨some 46, .move (.tmp 10), 3, "ref.go:67", #[⟨16, .guard⟩], some (16, false)⟩) (v := undef) rfl (by kernel_rfl) (by kernel_rfl) (by kernel_rfl) (fun _ _ _ h => h) (Or.inr ⟨by rfl, rfl⟩) (by assumption) ?_
       try simp only [Act.put, List.setIfInBounds_toArray, List.set_cons_zero, List.set_cons_succ]
       refine wpAnyH_take (i := 19) (oi := ⟨some 47, .indexAddr 24 (.tmp 45) (.tmp 46), 0, "ref.go:67", #[⟨17, .data⟩, ⟨18, .data⟩, ⟨16, .guard⟩], some (16, false)⟩) (v := undef) rfl (by kernel_rfl) (by kernel_rfl) (by kernel_rfl) (fun _ _ _ h => h) (Or.inr ⟨by rfl, rfl⟩) (by assumption) ?_
       try simp only [Act.put, List.setIfInBounds_toArray, List.set_cons_zero, List.set_cons_succ]
       refine wpAnyH_take (i := 20) (oi := ⟨some 48, .load 3 (.tmp 47), 3, "ref.go:67", #[⟨19, .data⟩, ⟨16, .guard⟩], some (16, false)⟩) (v := undef) rfl (by kernel_rfl) (by kernel_rfl) (by kernel_rfl) (fun _ _ _ h => h) (Or.inr ⟨by rfl, rfl⟩) (by assumption) ?_
       try simp only [Act.put, List.setIfInBounds_toArray, List.set_cons_zero, List.set_cons_succ]
       refine wpAnyH_take (i := 21) (oi := ⟨some 49, .move (.tmp 2), 24, "ref.go:67", #[⟨16, .guard⟩], some (16, false)⟩) (v := undef) rfl (by kernel_rfl) (by kernel_rfl) (by kernel_rfl) (fun _ _ _ h => h) (Or.inr ⟨by rfl, rfl⟩) (by assumption) ?_
       try simp only [Act.put, List.setIfInBounds_toArray, List.set_cons_zero, List.set_cons_succ]
       refine wpAnyH_take (i := 22) (oi := ⟨some 50, .move (.tmp 11), 3, "ref.go:67", #[⟨16, .guard⟩], some (16, false)⟩) (v := undef) rfl (by kernel_rfl) (by kernel_rfl) (by kernel_rfl) (fun _ _ _ h => h) (Or.inr ⟨by rfl, rfl⟩) (by assumption) ?_
       try simp only [Act.put, List.setIfInBounds_toArray, List.set_cons_zero, List.set_cons_succ]
       refine wpAnyH_take (i := 23) (oi := ⟨some 51, .indexAddr 24 (.tmp 49) (.tmp 50), 0, "ref.go:67", #[⟨21, .data⟩, ⟨22, .data⟩, ⟨16, .guard⟩], some (16, false)⟩) (v := undef) rfl (by kernel_rfl) (by kernel_rfl) (by kernel_rfl) (fun _ _ _ h => h) (Or.inr ⟨by rfl, rfl⟩) (by assumption) ?_
       try simp only [Act.put, List.setIfInBounds_toArray, List.set_cons_zero, List.set_cons_succ]
       refine wpAnyH_take (i := 24) (oi := ⟨some 52, .load 3 (.tmp 51), 3, "ref.go:67", #[⟨23, .data⟩, ⟨16, .guard⟩], some (16, false)⟩) (v := undef) rfl (by kernel_rfl) (by kernel_rfl) (by kernel_rfl) (fun _ _ _ h => h) (Or.inr ⟨by rfl, rfl⟩) (by assumption) ?_
       try simp only [Act.put, List.setIfInBounds_toArray, List.set_cons_zero, List.set_cons_succ]
       refine wpAnyH_take (i := 25) (oi := ⟨some 53, .binOp .neq 3 (.tmp 48) (.tmp 52) 3, 4, "ref.go:67", #[⟨20, .data⟩, ⟨24, .data⟩, ⟨16, .guard⟩], some (16, false)⟩) (v := undef) rfl (by kernel_rfl) (by kernel_rfl) (by kernel_rfl) (fun _ _ _ h => h) (Or.inr ⟨by rfl, rfl⟩) (by assumption) ?_
       try simp only [Act.put, List.setIfInBounds_toArray, List.set_cons_zero, List.set_cons_succ]
       refine wpAnyH_take (i := 26) (oi := ⟨some 54, .pick (.tmp 44) (.const (.bool true)) (.tmp 53), 4, "ref.go:67", #[⟨16, .data⟩, ⟨25, .data⟩, ⟨10, .guard⟩], some (10, true)⟩) (v := undef) rfl (by kernel_rfl) (by kernel_rfl) (by kernel_rfl) (fun _ _ _ h => h) (Or.inr ⟨by rfl, rfl⟩) (by assumption) ?_
       try simp only [Act.put, List.setIfInBounds_toArray, List.set_cons_zero, List.set_cons_succ]
       refine wpAnyH_take (i := 27) (oi := ⟨some 55, .pick (.tmp 38) (.tmp 54) (.const (.bool false)), 4, "ref.go:67", #[⟨10, .data⟩, ⟨26, .data⟩], none⟩) (v := ?_) rfl (by kernel_rfl) (by kernel_rfl) (by kernel_rfl) (fun _ _ _ h => h) (Or.inl ⟨by rfl, ?_⟩) (by assumption) ?_
       rotate_left
       · intro w hSw; (try dsimp only at hSw); first | (go_simp; done) | (go_simp; with_reducible rfl)
       try simp only [Act.put, List.setIfInBounds_toArray, List.set_cons_zero, List.set_cons_succ]
       refine wpAnyH_done (by kernel_rfl) ?_ _
       go_wp2_with fail
       go_roundw
       case rel => exact ⟨k + 1, by rw [wk], hlt, (by first | exact HEq.out.drew | exact HEq.out | exact HEq.out.drewN _), HT.out⟩
       case measure => rw [wk]; clear wk; simp [intOf]; omega
   · have hltI : ¬ (k : Int) < (M : Int) := by omega
     have HT : Hid (rdB L gs th x = true) := by have := HA.out; rwa [List.take_of_length_le (by have := HB.out.2.2.2; omega)] at this
     clear ha
     go_wp2_with fail
     go_ret
     exact ⟨ret_bool HT.out.symm, HE.out⟩
end Go.Proofs.Ytcjenjeggmlanaa
