import Derived.Test.YtjhmbkdkjgjoaaaX14
import Derived.Test.YtjhmbkdkjgjoaaaX13
import Derived.Deep.CutBlock
import Derived.Deep.DeepCutAuto
import Derived.Deep.Light
namespace Go.Proofs.Ytjhmbkdkjgjoaaa
open Go.RowKit
set_option maxHeartbeats 6000000
theorem IsL.one1 {P : Nat → Prop} {W : World} {x : T} {lx : Value} (hx : IsL W P lx x.l) (hP : P W.heap.size) :
   IsL (W.alloc (.cells #[.int .i64 x.k, .int .i64 x.n, .string (bs x.s), .int .i64 x.e, .int .i64 x.r.1, .int .i64 x.r.2.1, .bool x.r.2.2.1, .bool x.r.2.2.2, .int .i64 x.q.1, .int .i64 x.q.2.1, .bool x.q.2.2.1, .bool x.q.2.2.2, lx] 29)) P (.slice (some ⟨W.heap.size, 0, none⟩) 1 1) [x] := by
 refine .mk W.heap.size 0 1 1 [x] (fun i => lx) rfl (Nat.le_refl _) hP (by simp) ?_ ?_
 · intro i t j u hi hj
   rw [cell_of_row _ _ _ _ _ (0, 0) (new_top W _), Nat.zero_add, ← Array.getElem?_toList]
   have e : (#[.int .i64 x.k, .int .i64 x.n, .string (bs x.s), .int .i64 x.e, .int .i64 x.r.1, .int .i64 x.r.2.1, .bool x.r.2.2.1, .bool x.r.2.2.2, .int .i64 x.q.1, .int .i64 x.q.2.1, .bool x.q.2.2.1, .bool x.q.2.2.2, lx] : Array Value).toList = cellsT x lx := rfl
   rw [e]
   match i with
   | 0 =>
     simp at hi
     subst hi
     rw [Nat.zero_mul, Nat.zero_add]
     exact hj
   | i + 1 => simp at hi
 · intro i t hi
   match i with
   | 0 => simp at hi; subst hi; exact hx.ext ((Ext.refl _).alloc _)
   | i + 1 => simp at hi
theorem RX.weak {w0 W w' : World} {b L : Nat} {lo lo' d : Int} {f f' : Ft} {e : Ending} (h : RX w0 b W L lo d (.error f) e w') (hl : lo' ≤ lo) : RX w0 b W L lo' d (.error f') e w' := by
 obtain ⟨h1, h2, ts, d', pa, why, q1, q2, q3, q4, q5⟩ := h
 exact ⟨h1, h2, ts, d', pa, why, by omega, q2, q3, q4, q5⟩
theorem RY.state {w0 W w' : World} {b L : Nat} {lo d : Int} {r : Rs} {x : T} {lv : Value} (h : RY w0 b W L lo d r x lv w') (hl : lo ≤ d := by omega) : ∃ ts d' pa why, Rp w0 b w' ts d' pa why ∧ lo ≤ d' ∧ d' ≤ d ∧ Hid ((why = 0 ∧ d' = d ∧ r = .ok (x, ts) ∧ IsL w' (W.heap.size ≤ ·) lv x.l) ∨ (why ≠ 0 ∧ (∃ f, r = .error f) ∧ ts.length ≤ L)) := by
 obtain ⟨h1, ⟨ts, pa, hr, hL, hR⟩ | ⟨f, ts, d', pa, why, hr, q1, q2, q3, q4, q5⟩⟩ := h
 · exact ⟨ts, d, pa, 0, hR, hl, Int.le_refl _, .inl ⟨rfl, rfl, hr, hL⟩⟩
 · exact ⟨ts, d', pa, why, q5, q1, q2, .inr ⟨q3, ⟨f, hr⟩, q4⟩⟩
set_option maxRecDepth 100000 in
theorem prefix_bad (w0 : World) (b : Nat) : PfB w0 b := by
 intro W ts d pa why h hw
 have HR : Hid (Rp w0 b W ts d pa why ∧ why ≠ 0) := ⟨h, hw⟩
 have hbW : b < W.heap.size := h.lt.1
 have w0' : (why == 0) = false := by simpa using hw
 have w1' : (why != 0) = true := by simpa using hw
 obtain ⟨g0, g1, g2, g3, g4, g5, g6, tb, off, cc, nn, ii, all, u1, u2, u3, u4, u5, u6⟩ := h
 obtain ⟨hz, ⟨b0, b1, b2, b3, b4⟩, f0, f1, f2, f3, f4⟩ := u6
 clear g0 g1 g2 g3 g4 g5 g6 u1 u2 u3 u4 u5
 clear hw
 go_enter Try.func33, Try.ntmps33
 go_wp2_with fail
 exact endR (BlkX.top rfl (Ext.refl _)) rfl ⟨(ExtB.refl b W).alloc _, ⟨tz, none, 0, 0, rfl⟩, ts, d, pa, why, Int.le_refl _, Int.le_refl _, HR.out.2, Nat.le_refl _, HR.out.1.ext ((Ext.refl _).alloc _)⟩ (fun h0 h1 h2 h3 h4 h5 h6 h7 h8 h9 h10 h11 h12 => by simp [results, Try.results33, go_sem, h0, h1, h2, h3, h4, h5, h6, h7, h8, h9, h10, h11, h12, aggX])
def WdC (w0 : World) (b n : Nat) : Prop := ∀ (W : World) (ts : List Tk) (d : Nat) (pa : Int), Rp w0 b W ts d pa 0 → ts.length ≤ n + 1 → d ≤ 40 → (hd ts).1 = 2 → Calls Try.prog 54 #[.pointer (some ⟨b, 0, none⟩), .string (bs (hd ts).2.2.1)] W (RX w0 b W ts.length (d - 1) d (wrd (frm (O n)) d ts))
set_option maxRecDepth 100000 in
theorem prefix_k0 (w0 : World) (b n : Nat) (hP : PfC w0 b n) (hX : ExC w0 b n n) (hW : WdC w0 b n) (W : World) (ts : List Tk) (d : Nat) (pa : Int) (h : Rp w0 b W ts d pa 0) (hts : ts.length ≤ n + 1) (hd4 : d ≤ 40) (hk : (hd ts).1 = 0) :
   Calls Try.prog 33 #[.pointer (some ⟨b, 0, none⟩)] W (RX w0 b W ts.length (d - 1) d (O (n + 1) d ts)) := by
 have HR : Hid (Rp w0 b W ts d pa 0) := h
 have HN : Hid (ts.length ≤ n + 1 ∧ d ≤ 40 ∧ w0.heap.size ≤ W.heap.size) := ⟨hts, hd4, h.1.sz⟩
 have HPC : Hid (PfC w0 b n ∧ ExC w0 b n n ∧ WdC w0 b n) := ⟨hP, hX, hW⟩
 have hbW : b < W.heap.size := h.lt.1
 have hgW : W.heap.size ≠ b := by omega
 have c1 := fun V e => rt_any (h.ext (W' := V) e)
 unfold tkA at c1
 have HXX : Hid (O (n + 1) d ts = .ok (tNum (hd ts).2.2.2.1, ts.tail)) := by
   show opn (frm (O n)) (O n) d ts = _
   have hs : isSg [45] ts = false := by unfold isSg; rw [hk]; rfl
   unfold opn smp one
   rw [hs, tk1_ok hd4]
   simp [hk]
 have HNX : Hid (nx ts = ts.tail) := nx_tail h.2.2.1 (by rw [hk]; decide)
 have k0 : ((hd ts).1 == 0) = true := by rw [hk]; rfl
 clear hk
 obtain ⟨g0, g1, g2, g3, g4, g5, g6, tb, off, cc, nn, ii, all, u1, u2, u3, u4, u5, u6⟩ := h
 obtain ⟨hz, ⟨b0, b1, b2, b3, b4⟩, f0, f1, f2, f3, f4⟩ := u6
 clear g0 g1 g2 g3 g4 g5 g6 u1 u2 u3 u4 u5
 clear hts hd4 hP hX hW
 generalize hd ts = t at *
 go_enter Try.func33, Try.ntmps33
 go_wp2_with fail
 refine (c1 _ ((Ext.refl _).alloc _)).mono ?_
 rintro e w1 ⟨rfl, E1⟩
 have hw1 : W.heap.size + 1 ≤ w1.heap.size := by have := E1.size; simp at this; omega
 have HB1 : Hid (BlkX w1 W.heap.size tz (.slice none 0 0) ∧ Ext W w1) := ⟨BlkX.top rfl E1, ((Ext.refl _).alloc _).trans E1⟩
 clear E1 c1 b0 b1 b2 b3 b4 f0 f1 f2 f3 f4 hz
 have hg1 : w1.heap.size ≠ b := by omega
 have BT := blk5_top (b := w1.heap.size) rfl (Ext.refl (w1.alloc (.cells #[.int .i64 t.1, .int .i64 t.2.1, .string (bs t.2.2.1), .int .i64 t.2.2.2.1, .int .i64 t.2.2.2.2] 62)))
 have ET : Ext w1 (w1.alloc (.cells #[.int .i64 t.1, .int .i64 t.2.1, .string (bs t.2.2.1), .int .i64 t.2.2.2.1, .int .i64 t.2.2.2.2] 62)) := (Ext.refl _).alloc _
 have HV : Hid (BlkX (w1.alloc (.cells #[.int .i64 t.1, .int .i64 t.2.1, .string (bs t.2.2.1), .int .i64 t.2.2.2.1, .int .i64 t.2.2.2.2] 62)) W.heap.size tz (.slice none 0 0) ∧ Ext W (w1.alloc (.cells #[.int .i64 t.1, .int .i64 t.2.1, .string (bs t.2.2.1), .int .i64 t.2.2.2.1, .int .i64 t.2.2.2.2] 62)) ∧ Blk5 (w1.alloc (.cells #[.int .i64 t.1, .int .i64 t.2.1, .string (bs t.2.2.1), .int .i64 t.2.2.2.1, .int .i64 t.2.2.2.2] 62)) w1.heap.size (.int .i64 t.1) (.int .i64 t.2.1) (.string (bs t.2.2.1)) (.int .i64 t.2.2.2.1) (.int .i64 t.2.2.2.2)) := ⟨HB1.out.1.ext ET, HB1.out.2.trans ET, BT⟩
 clear BT ET
 go_wp2_with fail
 refine (rnext_any (HR.out.ext HV.out.2.1)).mono ?_
 rintro e w2 ⟨rfl, R2, X2⟩
 have H2 : Hid (Rp w0 b w2 (nx ts) d pa 0 ∧ ExtB b W w2 ∧ BlkX w2 W.heap.size tz (.slice none 0 0)) := ⟨R2, (HV.out.2.1.toB b).trans X2, HV.out.1.extB X2 hgW⟩
 have T2 := HV.out.2.2.extB X2 hg1
 obtain ⟨zt, ⟨t0, t1, t2, t3, t4⟩, t5⟩ := T2
 have HB0 := H2.out.2.2
 obtain ⟨qa, ⟨la0, la1, la2, la3, la4, la5, la6, la7, la8, la9, la10, la11, la12⟩, ga0, ga1, ga2, ga3, ga4, ga5, ga6, ga7, ga8, ga9, ga10, ga11, ga12⟩ := HB0
 clear R2 X2 t5 HB1 HV
 go_wp2_with fail
 show bodyPost Try.prog _ _ _ _ (putX w2 W.heap.size (tNum t.2.2.2.1) (.slice none 0 0))
 rw [HXX.out]
 exact endR (H2.out.2.2.put (tNum t.2.2.2.1) (.slice none 0 0)) rfl ⟨putX_B H2.out.2.1 (Nat.le_refl _) _ _, ⟨_, rfl, .nil⟩, pa, HNX.out ▸ putX_R H2.out.1 hgW HN.out.2.2 _ _⟩ (fun h0 h1 h2 h3 h4 h5 h6 h7 h8 h9 h10 h11 h12 => by simp [results, Try.results33, go_sem, h0, h1, h2, h3, h4, h5, h6, h7, h8, h9, h10, h11, h12, aggX])
set_option maxRecDepth 100000 in
theorem prefix_k1 (w0 : World) (b n : Nat) (hP : PfC w0 b n) (hX : ExC w0 b n n) (hW : WdC w0 b n) (W : World) (ts : List Tk) (d : Nat) (pa : Int) (h : Rp w0 b W ts d pa 0) (hts : ts.length ≤ n + 1) (hd4 : d ≤ 40) (hk : (hd ts).1 = 1) :
   Calls Try.prog 33 #[.pointer (some ⟨b, 0, none⟩)] W (RX w0 b W ts.length (d - 1) d (O (n + 1) d ts)) := by
 have HR : Hid (Rp w0 b W ts d pa 0) := h
 have HN : Hid (ts.length ≤ n + 1 ∧ d ≤ 40 ∧ w0.heap.size ≤ W.heap.size) := ⟨hts, hd4, h.1.sz⟩
 have HPC : Hid (PfC w0 b n ∧ ExC w0 b n n ∧ WdC w0 b n) := ⟨hP, hX, hW⟩
 have hbW : b < W.heap.size := h.lt.1
 have hgW : W.heap.size ≠ b := by omega
 have c1 := fun V e => rt_any (h.ext (W' := V) e)
 unfold tkA at c1
 have HXX : Hid (O (n + 1) d ts = .ok (tText (hd ts).2.2.1, ts.tail)) := by
   show opn (frm (O n)) (O n) d ts = _
   have hs : isSg [45] ts = false := by unfold isSg; rw [hk]; rfl
   unfold opn smp one
   rw [hs, tk1_ok hd4]
   simp [hk]
 have HNX : Hid (nx ts = ts.tail) := nx_tail h.2.2.1 (by rw [hk]; decide)
 have k0 : ((hd ts).1 == 0) = false := by rw [hk]; rfl
 have k1 : ((hd ts).1 == 1) = true := by rw [hk]; rfl
 clear hk
 obtain ⟨g0, g1, g2, g3, g4, g5, g6, tb, off, cc, nn, ii, all, u1, u2, u3, u4, u5, u6⟩ := h
 obtain ⟨hz, ⟨b0, b1, b2, b3, b4⟩, f0, f1, f2, f3, f4⟩ := u6
 clear g0 g1 g2 g3 g4 g5 g6 u1 u2 u3 u4 u5
 clear hts hd4 hP hX hW
 generalize hd ts = t at *
 go_enter Try.func33, Try.ntmps33
 go_wp2_with fail
 refine (c1 _ ((Ext.refl _).alloc _)).mono ?_
 rintro e w1 ⟨rfl, E1⟩
 have hw1 : W.heap.size + 1 ≤ w1.heap.size := by have := E1.size; simp at this; omega
 have HB1 : Hid (BlkX w1 W.heap.size tz (.slice none 0 0) ∧ Ext W w1) := ⟨BlkX.top rfl E1, ((Ext.refl _).alloc _).trans E1⟩
 clear E1 c1 b0 b1 b2 b3 b4 f0 f1 f2 f3 f4 hz
 have hg1 : w1.heap.size ≠ b := by omega
 have BT := blk5_top (b := w1.heap.size) rfl (Ext.refl (w1.alloc (.cells #[.int .i64 t.1, .int .i64 t.2.1, .string (bs t.2.2.1), .int .i64 t.2.2.2.1, .int .i64 t.2.2.2.2] 62)))
 have ET : Ext w1 (w1.alloc (.cells #[.int .i64 t.1, .int .i64 t.2.1, .string (bs t.2.2.1), .int .i64 t.2.2.2.1, .int .i64 t.2.2.2.2] 62)) := (Ext.refl _).alloc _
 have HV : Hid (BlkX (w1.alloc (.cells #[.int .i64 t.1, .int .i64 t.2.1, .string (bs t.2.2.1), .int .i64 t.2.2.2.1, .int .i64 t.2.2.2.2] 62)) W.heap.size tz (.slice none 0 0) ∧ Ext W (w1.alloc (.cells #[.int .i64 t.1, .int .i64 t.2.1, .string (bs t.2.2.1), .int .i64 t.2.2.2.1, .int .i64 t.2.2.2.2] 62)) ∧ Blk5 (w1.alloc (.cells #[.int .i64 t.1, .int .i64 t.2.1, .string (bs t.2.2.1), .int .i64 t.2.2.2.1, .int .i64 t.2.2.2.2] 62)) w1.heap.size (.int .i64 t.1) (.int .i64 t.2.1) (.string (bs t.2.2.1)) (.int .i64 t.2.2.2.1) (.int .i64 t.2.2.2.2)) := ⟨HB1.out.1.ext ET, HB1.out.2.trans ET, BT⟩
 clear BT ET
 go_wp2_with fail
 refine (rnext_any (HR.out.ext HV.out.2.1)).mono ?_
 rintro e w2 ⟨rfl, R2, X2⟩
 have H2 : Hid (Rp w0 b w2 (nx ts) d pa 0 ∧ ExtB b W w2 ∧ BlkX w2 W.heap.size tz (.slice none 0 0)) := ⟨R2, (HV.out.2.1.toB b).trans X2, HV.out.1.extB X2 hgW⟩
 have T2 := HV.out.2.2.extB X2 hg1
 obtain ⟨zt, ⟨t0, t1, t2, t3, t4⟩, t5⟩ := T2
 have HB0 := H2.out.2.2
 obtain ⟨qa, ⟨la0, la1, la2, la3, la4, la5, la6, la7, la8, la9, la10, la11, la12⟩, ga0, ga1, ga2, ga3, ga4, ga5, ga6, ga7, ga8, ga9, ga10, ga11, ga12⟩ := HB0
 clear R2 X2 t5 HB1 HV
 go_wp2_with fail
 show bodyPost Try.prog _ _ _ _ (putX w2 W.heap.size (tText t.2.2.1) (.slice none 0 0))
 rw [HXX.out]
 exact endR (H2.out.2.2.put (tText t.2.2.1) (.slice none 0 0)) rfl ⟨putX_B H2.out.2.1 (Nat.le_refl _) _ _, ⟨_, rfl, .nil⟩, pa, HNX.out ▸ putX_R H2.out.1 hgW HN.out.2.2 _ _⟩ (fun h0 h1 h2 h3 h4 h5 h6 h7 h8 h9 h10 h11 h12 => by simp [results, Try.results33, go_sem, h0, h1, h2, h3, h4, h5, h6, h7, h8, h9, h10, h11, h12, aggX])
set_option maxRecDepth 100000 in
theorem prefix_k4 (w0 : World) (b n : Nat) (hP : PfC w0 b n) (hX : ExC w0 b n n) (hW : WdC w0 b n) (W : World) (ts : List Tk) (d : Nat) (pa : Int) (h : Rp w0 b W ts d pa 0) (hts : ts.length ≤ n + 1) (hd4 : d ≤ 40) (hk : (hd ts).1 = 4) :
   Calls Try.prog 33 #[.pointer (some ⟨b, 0, none⟩)] W (RX w0 b W ts.length (d - 1) d (O (n + 1) d ts)) := by
 have HR : Hid (Rp w0 b W ts d pa 0) := h
 have HN : Hid (ts.length ≤ n + 1 ∧ d ≤ 40 ∧ w0.heap.size ≤ W.heap.size) := ⟨hts, hd4, h.1.sz⟩
 have HPC : Hid (PfC w0 b n ∧ ExC w0 b n n ∧ WdC w0 b n) := ⟨hP, hX, hW⟩
 have hbW : b < W.heap.size := h.lt.1
 have hgW : W.heap.size ≠ b := by omega
 have c1 := fun V e => rt_any (h.ext (W' := V) e)
 unfold tkA at c1
 have HXX : Hid (O (n + 1) d ts = .ok (tErr (hd ts).2.2.2.2, ts.tail)) := by
   show opn (frm (O n)) (O n) d ts = _
   have hs : isSg [45] ts = false := by unfold isSg; rw [hk]; rfl
   unfold opn smp one
   rw [hs, tk1_ok hd4]
   simp [hk]
 have HNX : Hid (nx ts = ts.tail) := nx_tail h.2.2.1 (by rw [hk]; decide)
 have k0 : ((hd ts).1 == 0) = false := by rw [hk]; rfl
 have k1 : ((hd ts).1 == 1) = false := by rw [hk]; rfl
 have k4 : ((hd ts).1 == 4) = true := by rw [hk]; rfl
 clear hk
 obtain ⟨g0, g1, g2, g3, g4, g5, g6, tb, off, cc, nn, ii, all, u1, u2, u3, u4, u5, u6⟩ := h
 obtain ⟨hz, ⟨b0, b1, b2, b3, b4⟩, f0, f1, f2, f3, f4⟩ := u6
 clear g0 g1 g2 g3 g4 g5 g6 u1 u2 u3 u4 u5
 clear hts hd4 hP hX hW
 generalize hd ts = t at *
 go_enter Try.func33, Try.ntmps33
 go_wp2_with fail
 refine (c1 _ ((Ext.refl _).alloc _)).mono ?_
 rintro e w1 ⟨rfl, E1⟩
 have hw1 : W.heap.size + 1 ≤ w1.heap.size := by have := E1.size; simp at this; omega
 have HB1 : Hid (BlkX w1 W.heap.size tz (.slice none 0 0) ∧ Ext W w1) := ⟨BlkX.top rfl E1, ((Ext.refl _).alloc _).trans E1⟩
 clear E1 c1 b0 b1 b2 b3 b4 f0 f1 f2 f3 f4 hz
 have hg1 : w1.heap.size ≠ b := by omega
 have BT := blk5_top (b := w1.heap.size) rfl (Ext.refl (w1.alloc (.cells #[.int .i64 t.1, .int .i64 t.2.1, .string (bs t.2.2.1), .int .i64 t.2.2.2.1, .int .i64 t.2.2.2.2] 62)))
 have ET : Ext w1 (w1.alloc (.cells #[.int .i64 t.1, .int .i64 t.2.1, .string (bs t.2.2.1), .int .i64 t.2.2.2.1, .int .i64 t.2.2.2.2] 62)) := (Ext.refl _).alloc _
 have HV : Hid (BlkX (w1.alloc (.cells #[.int .i64 t.1, .int .i64 t.2.1, .string (bs t.2.2.1), .int .i64 t.2.2.2.1, .int .i64 t.2.2.2.2] 62)) W.heap.size tz (.slice none 0 0) ∧ Ext W (w1.alloc (.cells #[.int .i64 t.1, .int .i64 t.2.1, .string (bs t.2.2.1), .int .i64 t.2.2.2.1, .int .i64 t.2.2.2.2] 62)) ∧ Blk5 (w1.alloc (.cells #[.int .i64 t.1, .int .i64 t.2.1, .string (bs t.2.2.1), .int .i64 t.2.2.2.1, .int .i64 t.2.2.2.2] 62)) w1.heap.size (.int .i64 t.1) (.int .i64 t.2.1) (.string (bs t.2.2.1)) (.int .i64 t.2.2.2.1) (.int .i64 t.2.2.2.2)) := ⟨HB1.out.1.ext ET, HB1.out.2.trans ET, BT⟩
 clear BT ET
 go_wp2_with fail
 refine (rnext_any (HR.out.ext HV.out.2.1)).mono ?_
 rintro e w2 ⟨rfl, R2, X2⟩
 have H2 : Hid (Rp w0 b w2 (nx ts) d pa 0 ∧ ExtB b W w2 ∧ BlkX w2 W.heap.size tz (.slice none 0 0)) := ⟨R2, (HV.out.2.1.toB b).trans X2, HV.out.1.extB X2 hgW⟩
 have T2 := HV.out.2.2.extB X2 hg1
 obtain ⟨zt, ⟨t0, t1, t2, t3, t4⟩, t5⟩ := T2
 have HB0 := H2.out.2.2
 obtain ⟨qa, ⟨la0, la1, la2, la3, la4, la5, la6, la7, la8, la9, la10, la11, la12⟩, ga0, ga1, ga2, ga3, ga4, ga5, ga6, ga7, ga8, ga9, ga10, ga11, ga12⟩ := HB0
 clear R2 X2 t5 HB1 HV
 go_wp2_with fail
 show bodyPost Try.prog _ _ _ _ (putX w2 W.heap.size (tErr t.2.2.2.2) (.slice none 0 0))
 rw [HXX.out]
 exact endR (H2.out.2.2.put (tErr t.2.2.2.2) (.slice none 0 0)) rfl ⟨putX_B H2.out.2.1 (Nat.le_refl _) _ _, ⟨_, rfl, .nil⟩, pa, HNX.out ▸ putX_R H2.out.1 hgW HN.out.2.2 _ _⟩ (fun h0 h1 h2 h3 h4 h5 h6 h7 h8 h9 h10 h11 h12 => by simp [results, Try.results33, go_sem, h0, h1, h2, h3, h4, h5, h6, h7, h8, h9, h10, h11, h12, aggX])
set_option maxRecDepth 100000 in
theorem prefix_k2 (w0 : World) (b n : Nat) (hP : PfC w0 b n) (hX : ExC w0 b n n) (hW : WdC w0 b n) (W : World) (ts : List Tk) (d : Nat) (pa : Int) (h : Rp w0 b W ts d pa 0) (hts : ts.length ≤ n + 1) (hd4 : d ≤ 40) (hk : (hd ts).1 = 2) :
   Calls Try.prog 33 #[.pointer (some ⟨b, 0, none⟩)] W (RX w0 b W ts.length (d - 1) d (O (n + 1) d ts)) := by
 have HR : Hid (Rp w0 b W ts d pa 0) := h
 have HN : Hid (ts.length ≤ n + 1 ∧ d ≤ 40 ∧ w0.heap.size ≤ W.heap.size) := ⟨hts, hd4, h.1.sz⟩
 have HPC : Hid (PfC w0 b n ∧ ExC w0 b n n ∧ WdC w0 b n) := ⟨hP, hX, hW⟩
 have hbW : b < W.heap.size := h.lt.1
 have hgW : W.heap.size ≠ b := by omega
 have c1 := fun V e => rt_any (h.ext (W' := V) e)
 unfold tkA at c1
 have HXX : Hid (O (n + 1) d ts = wrd (frm (O n)) d ts) := by
   show opn (frm (O n)) (O n) d ts = _
   have hs : isSg [45] ts = false := by unfold isSg; rw [hk]; rfl
   unfold opn smp
   rw [hs]
   simp [hk]
 have c2 := fun V e => hW V ts d pa (h.ext (W' := V) e) hts hd4 hk
 have k0 : ((hd ts).1 == 0) = false := by rw [hk]; rfl
 have k1 : ((hd ts).1 == 1) = false := by rw [hk]; rfl
 have k4 : ((hd ts).1 == 4) = false := by rw [hk]; rfl
 have k2 : ((hd ts).1 == 2) = true := by rw [hk]; rfl
 clear hk
 obtain ⟨g0, g1, g2, g3, g4, g5, g6, tb, off, cc, nn, ii, all, u1, u2, u3, u4, u5, u6⟩ := h
 obtain ⟨hz, ⟨b0, b1, b2, b3, b4⟩, f0, f1, f2, f3, f4⟩ := u6
 clear g0 g1 g2 g3 g4 g5 g6 u1 u2 u3 u4 u5
 clear hts hd4 hP hX hW
 generalize hd ts = t at *
 go_enter Try.func33, Try.ntmps33
 go_wp2_with fail
 refine (c1 _ ((Ext.refl _).alloc _)).mono ?_
 rintro e w1 ⟨rfl, E1⟩
 have hw1 : W.heap.size + 1 ≤ w1.heap.size := by have := E1.size; simp at this; omega
 have HB1 : Hid (BlkX w1 W.heap.size tz (.slice none 0 0) ∧ Ext W w1) := ⟨BlkX.top rfl E1, ((Ext.refl _).alloc _).trans E1⟩
 clear E1 c1 b0 b1 b2 b3 b4 f0 f1 f2 f3 f4 hz
 have hg1 : w1.heap.size ≠ b := by omega
 have BT := blk5_top (b := w1.heap.size) rfl (Ext.refl (w1.alloc (.cells #[.int .i64 t.1, .int .i64 t.2.1, .string (bs t.2.2.1), .int .i64 t.2.2.2.1, .int .i64 t.2.2.2.2] 62)))
 have ET : Ext w1 (w1.alloc (.cells #[.int .i64 t.1, .int .i64 t.2.1, .string (bs t.2.2.1), .int .i64 t.2.2.2.1, .int .i64 t.2.2.2.2] 62)) := (Ext.refl _).alloc _
 have HV : Hid (BlkX (w1.alloc (.cells #[.int .i64 t.1, .int .i64 t.2.1, .string (bs t.2.2.1), .int .i64 t.2.2.2.1, .int .i64 t.2.2.2.2] 62)) W.heap.size tz (.slice none 0 0) ∧ Ext W (w1.alloc (.cells #[.int .i64 t.1, .int .i64 t.2.1, .string (bs t.2.2.1), .int .i64 t.2.2.2.1, .int .i64 t.2.2.2.2] 62)) ∧ Blk5 (w1.alloc (.cells #[.int .i64 t.1, .int .i64 t.2.1, .string (bs t.2.2.1), .int .i64 t.2.2.2.1, .int .i64 t.2.2.2.2] 62)) w1.heap.size (.int .i64 t.1) (.int .i64 t.2.1) (.string (bs t.2.2.1)) (.int .i64 t.2.2.2.1) (.int .i64 t.2.2.2.2)) := ⟨HB1.out.1.ext ET, HB1.out.2.trans ET, BT⟩
 clear BT ET
 go_wp2_with fail
 refine (c2 _ HV.out.2.1).mono ?_
 intro e w2 h2
 obtain ⟨x, p, l, c, rfl, hY⟩ := h2.form
 have HY : Hid (RY w0 b W ts.length (d - 1) d (wrd (frm (O n)) d ts) x (.slice p l c) (putX w2 W.heap.size x (.slice p l c))) := hY.put (HV.out.2.1.toB b) (by show _ < (w1.heap.push _).size; simp; omega) hgW HN.out.2.2 (Nat.le_refl _)
 have HB2 : Hid (BlkX w2 W.heap.size tz (.slice none 0 0)) := HV.out.1.extB hY.1 hgW
 have HB0 := HB2.out
 obtain ⟨qa, ⟨la0, la1, la2, la3, la4, la5, la6, la7, la8, la9, la10, la11, la12⟩, ga0, ga1, ga2, ga3, ga4, ga5, ga6, ga7, ga8, ga9, ga10, ga11, ga12⟩ := HB0
 clear h2 hY c2 HV
 unfold aggX
 go_wp2_with fail
 show bodyPost Try.prog _ _ _ _ (putX w2 W.heap.size x (.slice p l c))
 rw [HXX.out]
 exact endR (HB2.out.put x (.slice p l c)) rfl HY.out.back (fun h0 h1 h2 h3 h4 h5 h6 h7 h8 h9 h10 h11 h12 => by simp [results, Try.results33, go_sem, h0, h1, h2, h3, h4, h5, h6, h7, h8, h9, h10, h11, h12, aggX])
set_option maxRecDepth 100000 in
theorem prefix_neg (w0 : World) (b n : Nat) (hP : PfC w0 b n) (hX : ExC w0 b n n) (hW : WdC w0 b n) (W : World) (ts : List Tk) (d : Nat) (pa : Int) (h : Rp w0 b W ts d pa 0) (hts : ts.length ≤ n + 1) (hd4 : d ≤ 40) (hs : isSg [45] ts = true) :
   Calls Try.prog 33 #[.pointer (some ⟨b, 0, none⟩)] W (RX w0 b W ts.length (d - 1) d (O (n + 1) d ts)) := by
 have HR : Hid (Rp w0 b W ts d pa 0) := h
 have HN : Hid (ts.length ≤ n + 1 ∧ d ≤ 40 ∧ w0.heap.size ≤ W.heap.size) := ⟨hts, hd4, h.1.sz⟩
 have HPC : Hid (PfC w0 b n ∧ ExC w0 b n n ∧ WdC w0 b n) := ⟨hP, hX, hW⟩
 have hbW : b < W.heap.size := h.lt.1
 have hgW : W.heap.size ≠ b := by omega
 have c1 := fun V e => rt_any (h.ext (W' := V) e)
 unfold tkA at c1
 have hk : (hd ts).1 = 3 := (isSg_k hs).1
 have hq : ((bs (hd ts).2.2.1).toList == [45]) = true := by rw [bs_tl, (isSg_k hs).2]; rfl
 have HXX : Hid (O (n + 1) d ts = match O n (d + 1) ts.tail with | .error e => .error e | .ok (x, ts2) => .ok (tNeg x, ts2)) := by
   show opn (frm (O n)) (O n) d ts = _
   unfold opn
   rw [hs, tk1_ok hd4]
   rfl
 have HNX : Hid (nx ts = ts.tail) := nx_tail h.2.2.1 (by rw [hk]; decide)
 have HT : Hid (Nz ts.tail ∧ ts.tail.length + 1 = ts.length) := tail_sh h.2.2.1 hk
 have k0 : ((hd ts).1 == 0) = false := by rw [hk]; rfl
 have k1 : ((hd ts).1 == 1) = false := by rw [hk]; rfl
 have k4 : ((hd ts).1 == 4) = false := by rw [hk]; rfl
 have k2 : ((hd ts).1 == 2) = false := by rw [hk]; rfl
 clear hk hs
 obtain ⟨g0, g1, g2, g3, g4, g5, g6, tb, off, cc, nn, ii, all, u1, u2, u3, u4, u5, u6⟩ := h
 obtain ⟨hz, ⟨b0, b1, b2, b3, b4⟩, f0, f1, f2, f3, f4⟩ := u6
 clear g0 g1 g2 g3 g4 g5 g6 u1 u2 u3 u4 u5
 clear hts hd4 hP hX hW
 generalize hd ts = t at *
 go_enter Try.func33, Try.ntmps33
 go_wp2_with fail
 refine (c1 _ ((Ext.refl _).alloc _)).mono ?_
 rintro e w1 ⟨rfl, E1⟩
 have hw1 : W.heap.size + 1 ≤ w1.heap.size := by have := E1.size; simp at this; omega
 have HB1 : Hid (BlkX w1 W.heap.size tz (.slice none 0 0) ∧ Ext W w1) := ⟨BlkX.top rfl E1, ((Ext.refl _).alloc _).trans E1⟩
 clear E1 c1 b0 b1 b2 b3 b4 f0 f1 f2 f3 f4 hz
 have hg1 : w1.heap.size ≠ b := by omega
 have BT := blk5_top (b := w1.heap.size) rfl (Ext.refl (w1.alloc (.cells #[.int .i64 t.1, .int .i64 t.2.1, .string (bs t.2.2.1), .int .i64 t.2.2.2.1, .int .i64 t.2.2.2.2] 62)))
 have ET : Ext w1 (w1.alloc (.cells #[.int .i64 t.1, .int .i64 t.2.1, .string (bs t.2.2.1), .int .i64 t.2.2.2.1, .int .i64 t.2.2.2.2] 62)) := (Ext.refl _).alloc _
 have HV : Hid (BlkX (w1.alloc (.cells #[.int .i64 t.1, .int .i64 t.2.1, .string (bs t.2.2.1), .int .i64 t.2.2.2.1, .int .i64 t.2.2.2.2] 62)) W.heap.size tz (.slice none 0 0) ∧ Ext W (w1.alloc (.cells #[.int .i64 t.1, .int .i64 t.2.1, .string (bs t.2.2.1), .int .i64 t.2.2.2.1, .int .i64 t.2.2.2.2] 62)) ∧ Blk5 (w1.alloc (.cells #[.int .i64 t.1, .int .i64 t.2.1, .string (bs t.2.2.1), .int .i64 t.2.2.2.1, .int .i64 t.2.2.2.2] 62)) w1.heap.size (.int .i64 t.1) (.int .i64 t.2.1) (.string (bs t.2.2.1)) (.int .i64 t.2.2.2.1) (.int .i64 t.2.2.2.2)) := ⟨HB1.out.1.ext ET, HB1.out.2.trans ET, BT⟩
 clear BT ET
 go_wp2_with fail
 refine (rnext_any (HR.out.ext HV.out.2.1)).mono ?_
 rintro e w2 ⟨rfl, R2, X2⟩
 have H2 : Hid (Rp w0 b w2 ts.tail d pa 0 ∧ ExtB b W w2 ∧ BlkX w2 W.heap.size tz (.slice none 0 0)) := ⟨HNX.out ▸ R2, (HV.out.2.1.toB b).trans X2, HV.out.1.extB X2 hgW⟩
 clear R2 X2 HB1 HV
 go_wp2_with fail
 refine (rdown_any H2.out.1 (by have := HN.out.2.1; omega)).mono ?_
 rintro e w3 ⟨rfl, X3, D3⟩
 have cN : Calls Try.prog 33 #[.pointer (some ⟨b, 0, none⟩)] w3 (RX w0 b w3 ts.tail.length d ((d : Int) + 1) (O n (d + 1) ts.tail)) := by
   have n1 := HN.out.1
   have n2 := HT.out.2
   rcases D3 with ⟨q1, q2⟩ | ⟨q1, pa', why', q2, q3⟩
   · have c := HPC.out.1 w3 ts.tail (d + 1) pa (by exact q2) (by omega) (by omega)
     have e1 : (((d + 1 : Nat) : Int) - 1) = (d : Int) := by omega
     rw [e1] at c
     exact c
   · obtain ⟨f, hf⟩ := O_deep n (d + 1) (by omega) ts.tail
     rw [hf]
     exact (prefix_bad w0 b w3 ts.tail _ pa' why' q3 q2).mono (fun e w' h => h.weak (by omega))
 have HW3 : Hid (W.heap.size < w3.heap.size) := (H2.out.2.2.extB X3 hgW).1
 have H3 : Hid (ExtB b W w3 ∧ BlkX w3 W.heap.size tz (.slice none 0 0)) := ⟨H2.out.2.1.trans X3, H2.out.2.2.extB X3 hgW⟩
 clear X3 D3 H2
 go_wp2_with fail
 refine cN.mono ?_
 intro e w4 h4
 obtain ⟨x, p, l, c, rfl, hY⟩ := h4.form
 obtain ⟨ts2, d2, pa2, why2, R4, hd2, hd3, HY⟩ := hY.state
 have HR4 : Hid (Rp w0 b w4 ts2 d2 pa2 why2 ∧ (d : Int) ≤ d2 ∧ d2 ≤ (d : Int) + 1) := ⟨R4, hd2, hd3⟩
 have HB4 : Hid (BlkX w4 W.heap.size tz (.slice none 0 0) ∧ ExtB b W w4) := ⟨H3.out.2.extB hY.1 hgW, H3.out.1.trans hY.1⟩
 have hw4 : W.heap.size < w4.heap.size := HB4.out.1.1
 obtain ⟨g0, g1, g2, g3, g4, g5, g6, tb, off, cc, nn, ii, all, u1, u2, u3, u4, u5, u6⟩ := R4
 obtain ⟨hz, ⟨b0, b1, b2, b3, b4⟩, f0, f1, f2, f3, f4⟩ := u6
 clear g0 g1 g2 g3 g4 g5 g6 u1 u2 u3 u4 u5
 have HB0 := HB4.out.1
 obtain ⟨qa, ⟨la0, la1, la2, la3, la4, la5, la6, la7, la8, la9, la10, la11, la12⟩, ga0, ga1, ga2, ga3, ga4, ga5, ga6, ga7, ga8, ga9, ga10, ga11, ga12⟩ := HB0
 have hdb : -1000 ≤ d2 - 1 := by omega
 have hdc : d2 ≤ 1000 := by have := HN.out.2.1; omega
 clear h4 hY cN H3 hd2 hd3
 unfold aggX
 go_wp2_with fail
 show bodyPost Try.prog _ _ _ _ (((putX (w4.setCell ⟨b, 2, none⟩ (.int .i64 (d2 - 1))) W.heap.size (tNeg x) (.slice (some ⟨w4.heap.size + 1, 0, none⟩) 1 1)).alloc (.cells #[.int .i64 x.k, .int .i64 x.n, .string (bs x.s), .int .i64 x.e, .int .i64 x.r.1, .int .i64 x.r.2.1, .bool x.r.2.2.1, .bool x.r.2.2.2, .int .i64 x.q.1, .int .i64 x.q.2.1, .bool x.q.2.2.1, .bool x.q.2.2.2, .slice p l c] 29)).alloc (.cells #[.int .i64 x.k, .int .i64 x.n, .string (bs x.s), .int .i64 x.e, .int .i64 x.r.1, .int .i64 x.r.2.1, .bool x.r.2.2.1, .bool x.r.2.2.2, .int .i64 x.q.1, .int .i64 x.q.2.1, .bool x.q.2.2.1, .bool x.q.2.2.2, .slice p l c] 29))
 have R6 := putX_R (HR4.out.1.deep (by have := HR4.out.2; omega)) hgW HN.out.2.2 (tNeg x) (.slice (some ⟨w4.heap.size + 1, 0, none⟩) 1 1)
 have X6 := putX_B (HB4.out.2.set (p := ⟨b, 2, none⟩) (.inl rfl) (.int .i64 (d2 - 1))) (Nat.le_refl _) (tNeg x) (.slice (some ⟨w4.heap.size + 1, 0, none⟩) 1 1)
 have B5 : BlkX (w4.setCell ⟨b, 2, none⟩ (.int .i64 (d2 - 1))) W.heap.size tz (.slice none 0 0) := Blk13.far1 HB4.out.1 (c := b) (by omega) 2 (.int .i64 (d2 - 1))
 have B6 := B5.put (tNeg x) (.slice (some ⟨w4.heap.size + 1, 0, none⟩) 1 1)
 have zs := putX_size (w4.setCell ⟨b, 2, none⟩ (.int .i64 (d2 - 1))) W.heap.size (tNeg x) (.slice (some ⟨w4.heap.size + 1, 0, none⟩) 1 1)
 have zs2 : (w4.setCell ⟨b, 2, none⟩ (.int .i64 (d2 - 1))).heap.size = w4.heap.size := by simp
 have L6 : ∀ v l', IsL w4 (W.heap.size + 1 ≤ ·) v l' → IsL (putX (w4.setCell ⟨b, 2, none⟩ (.int .i64 (d2 - 1))) W.heap.size (tNeg x) (.slice (some ⟨w4.heap.size + 1, 0, none⟩) 1 1)) (W.heap.size + 1 ≤ ·) v l' := fun v l' hh => (hh.extB ((ExtB.refl b w4).set (p := ⟨b, 2, none⟩) (.inl rfl) (.int .i64 (d2 - 1))) (fun j hj => by omega)).keep (by rw [zs]; exact Nat.le_refl _) (fun j hj hs => putX_heap _ _ _ _ _ (by omega)) (fun j hj _ => hj)
 rw [zs2] at zs
 generalize putX (w4.setCell ⟨b, 2, none⟩ (.int .i64 (d2 - 1))) W.heap.size (tNeg x) (.slice (some ⟨w4.heap.size + 1, 0, none⟩) 1 1) = V6 at zs R6 X6 B6 L6 ⊢
 have e : (V6.alloc (.cells #[.int .i64 x.k, .int .i64 x.n, .string (bs x.s), .int .i64 x.e, .int .i64 x.r.1, .int .i64 x.r.2.1, .bool x.r.2.2.1, .bool x.r.2.2.2, .int .i64 x.q.1, .int .i64 x.q.2.1, .bool x.q.2.2.1, .bool x.q.2.2.2, .slice p l c] 29)).heap.size = w4.heap.size + 1 := by simp [zs]
 refine endR (B6.ext (((Ext.refl _).alloc _).alloc _)) rfl (RY.back ⟨(X6.alloc _).alloc _, ?_⟩) (fun h0 h1 h2 h3 h4 h5 h6 h7 h8 h9 h10 h11 h12 => by simp [results, Try.results33, go_sem, h0, h1, h2, h3, h4, h5, h6, h7, h8, h9, h10, h11, h12, aggX])
 have R9 := R6.ext (((Ext.refl V6).alloc (.cells #[.int .i64 x.k, .int .i64 x.n, .string (bs x.s), .int .i64 x.e, .int .i64 x.r.1, .int .i64 x.r.2.1, .bool x.r.2.2.1, .bool x.r.2.2.2, .int .i64 x.q.1, .int .i64 x.q.2.1, .bool x.q.2.2.1, .bool x.q.2.2.2, .slice p l c] 29)).alloc (.cells #[.int .i64 x.k, .int .i64 x.n, .string (bs x.s), .int .i64 x.e, .int .i64 x.r.1, .int .i64 x.r.2.1, .bool x.r.2.2.1, .bool x.r.2.2.2, .int .i64 x.q.1, .int .i64 x.q.2.1, .bool x.q.2.2.1, .bool x.q.2.2.2, .slice p l c] 29))
 rw [HXX.out]
 have n2 := HT.out.2
 have hw3 := HW3.out
 have hr4 := HR4.out.2
 rcases HY.out with ⟨hw, hd5, hr, hL⟩ | ⟨hw, ⟨f, hr⟩, hl⟩
 · rw [hw, hd5, show (d : Int) + 1 - 1 = d by omega] at R9
   refine .inl ⟨ts2, pa2, by rw [hr], ?_, R9⟩
   have hx := (L6 _ _ (hL.mono (fun j hj _ => (by omega : W.heap.size + 1 ≤ j)))).ext ((Ext.refl _).alloc (.cells #[.int .i64 x.k, .int .i64 x.n, .string (bs x.s), .int .i64 x.e, .int .i64 x.r.1, .int .i64 x.r.2.1, .bool x.r.2.2.1, .bool x.r.2.2.2, .int .i64 x.q.1, .int .i64 x.q.2.1, .bool x.q.2.2.1, .bool x.q.2.2.2, .slice p l c] 29))
   have h1 := IsL.one1 hx (by show W.heap.size + 1 ≤ _; omega)
   rw [e] at h1
   exact h1.mono (fun j hj _ => by omega)
 · exact .inr ⟨f, ts2, d2 - 1, pa2, why2, by rw [hr], by omega, by omega, hw, by omega, R9⟩
set_option maxRecDepth 100000 in
theorem prefix_no (w0 : World) (b n : Nat) (hP : PfC w0 b n) (hX : ExC w0 b n n) (hW : WdC w0 b n) (W : World) (ts : List Tk) (d : Nat) (pa : Int) (h : Rp w0 b W ts d pa 0) (hts : ts.length ≤ n + 1) (hd4 : d ≤ 40) (hs : isSg [45] ts = false) (hop : isSg [40] ts = false) (hkk : (hd ts).1 ≠ 0 ∧ (hd ts).1 ≠ 1 ∧ (hd ts).1 ≠ 4 ∧ (hd ts).1 ≠ 2) :
   Calls Try.prog 33 #[.pointer (some ⟨b, 0, none⟩)] W (RX w0 b W ts.length (d - 1) d (O (n + 1) d ts)) := by
 have HR : Hid (Rp w0 b W ts d pa 0) := h
 have HN : Hid (ts.length ≤ n + 1 ∧ d ≤ 40 ∧ w0.heap.size ≤ W.heap.size) := ⟨hts, hd4, h.1.sz⟩
 have HPC : Hid (PfC w0 b n ∧ ExC w0 b n n ∧ WdC w0 b n) := ⟨hP, hX, hW⟩
 have hbW : b < W.heap.size := h.lt.1
 have hgW : W.heap.size ≠ b := by omega
 have c1 := fun V e => rt_any (h.ext (W' := V) e)
 unfold tkA at c1
 have hk2 := h.2.2.2.2.1 (hd ts) (by
   have hp := h.2.2.1.ne
   cases ts with
   | nil => exact absurd rfl hp
   | cons a r => exact List.mem_cons_self)
 have hk : (hd ts).1 = 3 ∨ (hd ts).1 = 5 := by obtain ⟨_, k1, k2, _⟩ := hk2; omega
 have hns : (hd ts).2.2.1 ≠ [45] := by
   intro hh
   rcases hk with hk | hk
   · have : isSg [45] ts = true := by unfold isSg; rw [hk, hh]; rfl
     rw [hs] at this; cases this
   · rw [hk2.2.2.2 hk] at hh; cases hh
 have hq : ((bs (hd ts).2.2.1).toList == [45]) = false := by rw [bs_tl]; simpa using hns
 have HXX : Hid (O (n + 1) d ts = brk (frm (O n)) d ts) := by
   show opn (frm (O n)) (O n) d ts = _
   unfold opn smp
   rw [hs, if_neg (by decide), if_neg (by omega), if_neg (by omega), if_neg (by omega), if_neg (by omega)]
 have k0 : ((hd ts).1 == 0) = false := by simp; omega
 have k1 : ((hd ts).1 == 1) = false := by simp; omega
 have k4 : ((hd ts).1 == 4) = false := by simp; omega
 have k2 : ((hd ts).1 == 2) = false := by simp; omega
 have HSG : Hid (sgn ts 0 ≠ [40]) := by
   show sgn ts 0 ≠ [40]
   unfold sgn
   split
   · rename_i h3
     intro hh
     have : isSg [40] ts = true := by unfold isSg; rw [h3.2, hh]; rfl
     rw [hop] at this; cases this
   · decide
 have HRE : Hid (∃ f, O (n + 1) d ts = .error f) := by
   show ∃ f, _
   rw [HXX.out]
   unfold brk pass1
   rw [hop]
   exact ⟨_, rfl⟩
 clear hkk
 clear hk hs hk2 hns hop
 obtain ⟨g0, g1, g2, g3, g4, g5, g6, tb, off, cc, nn, ii, all, u1, u2, u3, u4, u5, u6⟩ := h
 obtain ⟨hz, ⟨b0, b1, b2, b3, b4⟩, f0, f1, f2, f3, f4⟩ := u6
 clear g0 g1 g2 g3 g4 g5 g6 u1 u2 u3 u4 u5
 clear hts hd4 hP hX hW
 generalize hd ts = t at *
 go_enter Try.func33, Try.ntmps33
 go_wp2_with fail
 refine (c1 _ ((Ext.refl _).alloc _)).mono ?_
 rintro e w1 ⟨rfl, E1⟩
 have hw1 : W.heap.size + 1 ≤ w1.heap.size := by have := E1.size; simp at this; omega
 have HB1 : Hid (BlkX w1 W.heap.size tz (.slice none 0 0) ∧ Ext W w1) := ⟨BlkX.top rfl E1, ((Ext.refl _).alloc _).trans E1⟩
 clear E1 c1 b0 b1 b2 b3 b4 f0 f1 f2 f3 f4 hz
 have hg1 : w1.heap.size ≠ b := by omega
 have BT := blk5_top (b := w1.heap.size) rfl (Ext.refl (w1.alloc (.cells #[.int .i64 t.1, .int .i64 t.2.1, .string (bs t.2.2.1), .int .i64 t.2.2.2.1, .int .i64 t.2.2.2.2] 62)))
 have ET : Ext w1 (w1.alloc (.cells #[.int .i64 t.1, .int .i64 t.2.1, .string (bs t.2.2.1), .int .i64 t.2.2.2.1, .int .i64 t.2.2.2.2] 62)) := (Ext.refl _).alloc _
 have HV : Hid (BlkX (w1.alloc (.cells #[.int .i64 t.1, .int .i64 t.2.1, .string (bs t.2.2.1), .int .i64 t.2.2.2.1, .int .i64 t.2.2.2.2] 62)) W.heap.size tz (.slice none 0 0) ∧ Ext W (w1.alloc (.cells #[.int .i64 t.1, .int .i64 t.2.1, .string (bs t.2.2.1), .int .i64 t.2.2.2.1, .int .i64 t.2.2.2.2] 62)) ∧ Blk5 (w1.alloc (.cells #[.int .i64 t.1, .int .i64 t.2.1, .string (bs t.2.2.1), .int .i64 t.2.2.2.1, .int .i64 t.2.2.2.2] 62)) w1.heap.size (.int .i64 t.1) (.int .i64 t.2.1) (.string (bs t.2.2.1)) (.int .i64 t.2.2.2.1) (.int .i64 t.2.2.2.2)) := ⟨HB1.out.1.ext ET, HB1.out.2.trans ET, BT⟩
 clear BT ET
 go_wp2_with fail
 refine (rwant_any (HR.out.ext HV.out.2.1) ⟨#[40]⟩).mono ?_
 rintro e w2 ⟨rfl, X2, D2⟩
 have H2 : Hid (ExtB b W w2 ∧ BlkX w2 W.heap.size tz (.slice none 0 0)) := ⟨(HV.out.2.1.toB b).trans X2, HV.out.1.extB X2 hgW⟩
 obtain ⟨pa', why', hw, R2⟩ : ∃ pa' why', why' ≠ 0 ∧ Rp w0 b w2 ts d pa' why' := by
   rcases D2 with ⟨q1, _⟩ | ⟨_, q2⟩
   · exact absurd q1 HSG.out
   · exact q2
 have w0' : (why' == 0) = false := by simpa using hw
 have cE := exp_bad w0 b (prefix_bad w0 b) w2 ts d pa' why' R2 hw
 have H3 : Hid (ExtB b W w2 ∧ BlkX w2 W.heap.size tz (.slice none 0 0)) := H2.out
 have HW3 : Hid (W.heap.size < w2.heap.size) := H2.out.2.1
 obtain ⟨g0, g1, g2, g3, g4, g5, g6, tb, off, cc, nn, ii, all, u1, u2, u3, u4, u5, u6⟩ := R2
 obtain ⟨hz, ⟨b0, b1, b2, b3, b4⟩, f0, f1, f2, f3, f4⟩ := u6
 clear g0 g1 g2 g3 g4 g5 g6 u1 u2 u3 u4 u5
 clear X2 D2 HB1 HV H2 hw
 go_wp2_with fail
 refine cE.mono ?_
 intro e w4 h4
 obtain ⟨x, p, l, c, rfl, hY⟩ := h4.form
 obtain ⟨ts2, d2, pa2, why2, R4, hd2, hd3, HY⟩ := hY.state
 have HR4 : Hid (Rp w0 b w4 ts2 d2 pa2 why2 ∧ (d : Int) ≤ d2 ∧ d2 ≤ (d : Int) + 1) := ⟨R4, by omega, by omega⟩
 have HB4 : Hid (BlkX w4 W.heap.size tz (.slice none 0 0) ∧ ExtB b W w4) := ⟨H3.out.2.extB hY.1 hgW, H3.out.1.trans hY.1⟩
 have hw4 : W.heap.size < w4.heap.size := HB4.out.1.1
 have hdb : -1000 ≤ d2 - 1 := by omega
 have hdc : d2 ≤ 1000 := by have := HN.out.2.1; omega
 obtain ⟨g0, g1, g2, g3, g4, g5, g6, tb, off, cc, nn, ii, all, u1, u2, u3, u4, u5, u6⟩ := R4
 obtain ⟨hz, ⟨b0, b1, b2, b3, b4⟩, f0, f1, f2, f3, f4⟩ := u6
 clear g0 g1 g2 g3 g4 g5 g6 u1 u2 u3 u4 u5
 clear h4 hY cE H3 hd2 hd3
 unfold aggX
 go_wp2_with fail
 have R5 := (HR4.out.1.deep (by have := HR4.out.2; omega)).ext ((Ext.refl _).alloc (.cells #[.int .i64 x.k, .int .i64 x.n, .string (bs x.s), .int .i64 x.e, .int .i64 x.r.1, .int .i64 x.r.2.1, .bool x.r.2.2.1, .bool x.r.2.2.2, .int .i64 x.q.1, .int .i64 x.q.2.1, .bool x.q.2.2.1, .bool x.q.2.2.2, .slice p l c] 29))
 have B5 : BlkX (w4.setCell ⟨b, 2, none⟩ (.int .i64 (d2 - 1))) W.heap.size tz (.slice none 0 0) := Blk13.far1 HB4.out.1 (c := b) (by omega) 2 (.int .i64 (d2 - 1))
 have X5 := (HB4.out.2.set (p := ⟨b, 2, none⟩) (.inl rfl) (.int .i64 (d2 - 1))).alloc (.cells #[.int .i64 x.k, .int .i64 x.n, .string (bs x.s), .int .i64 x.e, .int .i64 x.r.1, .int .i64 x.r.2.1, .bool x.r.2.2.1, .bool x.r.2.2.2, .int .i64 x.q.1, .int .i64 x.q.2.1, .bool x.q.2.2.1, .bool x.q.2.2.2, .slice p l c] 29)
 have B5a := B5.ext ((Ext.refl _).alloc (.cells #[.int .i64 x.k, .int .i64 x.n, .string (bs x.s), .int .i64 x.e, .int .i64 x.r.1, .int .i64 x.r.2.1, .bool x.r.2.2.1, .bool x.r.2.2.2, .int .i64 x.q.1, .int .i64 x.q.2.1, .bool x.q.2.2.1, .bool x.q.2.2.2, .slice p l c] 29))
 have BX : BlkX ((w4.setCell ⟨b, 2, none⟩ (.int .i64 (d2 - 1))).alloc (.cells #[.int .i64 x.k, .int .i64 x.n, .string (bs x.s), .int .i64 x.e, .int .i64 x.r.1, .int .i64 x.r.2.1, .bool x.r.2.2.1, .bool x.r.2.2.2, .int .i64 x.q.1, .int .i64 x.q.2.1, .bool x.q.2.2.1, .bool x.q.2.2.2, .slice p l c] 29)) w4.heap.size x (.slice p l c) := blk13_top (by simp) (Ext.refl _)
 have L5 : ∀ v l', IsL w4 (W.heap.size + 1 ≤ ·) v l' → IsL ((w4.setCell ⟨b, 2, none⟩ (.int .i64 (d2 - 1))).alloc (.cells #[.int .i64 x.k, .int .i64 x.n, .string (bs x.s), .int .i64 x.e, .int .i64 x.r.1, .int .i64 x.r.2.1, .bool x.r.2.2.1, .bool x.r.2.2.2, .int .i64 x.q.1, .int .i64 x.q.2.1, .bool x.q.2.2.1, .bool x.q.2.2.2, .slice p l c] 29)) (W.heap.size + 1 ≤ ·) v l' := fun v l' hh => (hh.extB ((ExtB.refl b w4).set (p := ⟨b, 2, none⟩) (.inl rfl) (.int .i64 (d2 - 1))) (fun j hj => by omega)).ext ((Ext.refl _).alloc _)
 refine (rwant_any R5 ⟨#[41]⟩).mono ?_
 rintro e w6 ⟨rfl, X6, D6⟩
 have HD6 : Hid ((sgn ts2 why2 = [41] ∧ Rp w0 b w6 (nx ts2) (d2 - 1) pa2 why2) ∨ (sgn ts2 why2 ≠ [41] ∧ ∃ pa' why', why' ≠ 0 ∧ Rp w0 b w6 ts2 (d2 - 1) pa' why')) := D6
 have H6 : Hid (ExtB b W w6 ∧ BlkX w6 W.heap.size tz (.slice none 0 0) ∧ BlkX w6 w4.heap.size x (.slice p l c)) := ⟨X5.trans X6, B5a.extB X6 hgW, BX.extB X6 (by omega)⟩
 have HL6 : Hid (∀ v l', IsL w4 (W.heap.size + 1 ≤ ·) v l' → IsL w6 (W.heap.size + 1 ≤ ·) v l') := fun v l' hh => (L5 v l' hh).extB X6 (fun j hj => by omega)
 clear D6 X6 X5 B5 B5a BX L5 R5 HB4 b0 b1 b2 b3 b4 f0 f1 f2 f3 f4 hz
 have HB0 := H6.out.2.1
 obtain ⟨qa, ⟨la0, la1, la2, la3, la4, la5, la6, la7, la8, la9, la10, la11, la12⟩, ga0, ga1, ga2, ga3, ga4, ga5, ga6, ga7, ga8, ga9, ga10, ga11, ga12⟩ := HB0
 have HB1 := H6.out.2.2
 obtain ⟨qc, ⟨lc0, lc1, lc2, lc3, lc4, lc5, lc6, lc7, lc8, lc9, lc10, lc11, lc12⟩, gc0, gc1, gc2, gc3, gc4, gc5, gc6, gc7, gc8, gc9, gc10, gc11, gc12⟩ := HB1
 go_wp2_with fail
 show bodyPost Try.prog _ _ _ _ (putX w6 W.heap.size x (.slice p l c))
 refine endR (H6.out.2.1.put x (.slice p l c)) rfl (RY.back ⟨putX_B H6.out.1 (Nat.le_refl _) _ _, ?_⟩) (fun h0 h1 h2 h3 h4 h5 h6 h7 h8 h9 h10 h11 h12 => by simp [results, Try.results33, go_sem, h0, h1, h2, h3, h4, h5, h6, h7, h8, h9, h10, h11, h12, aggX])
 have hr4 := HR4.out.2
 have hw3 := HW3.out
 have bad : ∀ pa' why', why' ≠ 0 → Rp w0 b w6 ts2 (d2 - 1) pa' why' → ts2.length ≤ ts.length → (∃ f, O (n + 1) d ts = .error f) → (∃ f ts2 d' pa why, O (n + 1) d ts = .error f ∧ (d : Int) - 1 ≤ d' ∧ d' ≤ d ∧ why ≠ 0 ∧ ts2.length ≤ ts.length ∧ Rp w0 b (putX w6 W.heap.size x (.slice p l c)) ts2 d' pa why) := by
   rintro pa' why' z1 z2 z3 ⟨f, hf⟩
   exact ⟨f, ts2, d2 - 1, pa', why', hf, by omega, by omega, z1, z3, putX_R z2 hgW HN.out.2.2 _ _⟩
 rcases HY.out with ⟨hw, hd5, hr, hL⟩ | ⟨hw, ⟨f, hr⟩, hl⟩
 · cases hr
 · rcases HD6.out with ⟨q1, _⟩ | ⟨_, pa', why', q2, q3⟩
   · unfold sgn at q1
     rw [if_neg (fun h => hw h.1)] at q1
     cases q1
   · exact .inr (bad pa' why' q2 q3 hl HRE.out)
set_option maxRecDepth 100000 in
theorem prefix_brk (w0 : World) (b n : Nat) (hP : PfC w0 b n) (hX : ExC w0 b n n) (hW : WdC w0 b n) (W : World) (ts : List Tk) (d : Nat) (pa : Int) (h : Rp w0 b W ts d pa 0) (hts : ts.length ≤ n + 1) (hd4 : d ≤ 40) (hs : isSg [45] ts = false) (hop : isSg [40] ts = true) :
   Calls Try.prog 33 #[.pointer (some ⟨b, 0, none⟩)] W (RX w0 b W ts.length (d - 1) d (O (n + 1) d ts)) := by
 have HR : Hid (Rp w0 b W ts d pa 0) := h
 have HN : Hid (ts.length ≤ n + 1 ∧ d ≤ 40 ∧ w0.heap.size ≤ W.heap.size) := ⟨hts, hd4, h.1.sz⟩
 have HPC : Hid (PfC w0 b n ∧ ExC w0 b n n ∧ WdC w0 b n) := ⟨hP, hX, hW⟩
 have hbW : b < W.heap.size := h.lt.1
 have hgW : W.heap.size ≠ b := by omega
 have c1 := fun V e => rt_any (h.ext (W' := V) e)
 unfold tkA at c1
 have hk2 := h.2.2.2.2.1 (hd ts) (by
   have hp := h.2.2.1.ne
   cases ts with
   | nil => exact absurd rfl hp
   | cons a r => exact List.mem_cons_self)
 have hk : (hd ts).1 = 3 ∨ (hd ts).1 = 5 := .inl (isSg_k hop).1
 have hns : (hd ts).2.2.1 ≠ [45] := by
   intro hh
   rcases hk with hk | hk
   · have : isSg [45] ts = true := by unfold isSg; rw [hk, hh]; rfl
     rw [hs] at this; cases this
   · rw [hk2.2.2.2 hk] at hh; cases hh
 have hq : ((bs (hd ts).2.2.1).toList == [45]) = false := by rw [bs_tl]; simpa using hns
 have HXX : Hid (O (n + 1) d ts = brk (frm (O n)) d ts) := by
   show opn (frm (O n)) (O n) d ts = _
   unfold opn smp
   rw [hs, if_neg (by decide), if_neg (by omega), if_neg (by omega), if_neg (by omega), if_neg (by omega)]
 have k0 : ((hd ts).1 == 0) = false := by simp; omega
 have k1 : ((hd ts).1 == 1) = false := by simp; omega
 have k4 : ((hd ts).1 == 4) = false := by simp; omega
 have k2 : ((hd ts).1 == 2) = false := by simp; omega
 have HSG : Hid (sgn ts 0 = [40]) := by
   show sgn ts 0 = [40]
   unfold sgn; rw [if_pos ⟨rfl, (isSg_k hop).1⟩, (isSg_k hop).2]
 have HT : Hid (Nz ts.tail ∧ ts.tail.length + 1 = ts.length) := tail_sh h.2.2.1 (isSg_k hop).1
 have HNX : Hid (nx ts = ts.tail) := nx_tail h.2.2.1 (by rw [(isSg_k hop).1]; decide)
 have HRE : Hid (O (n + 1) d ts = match frm (O n) (d + 1) ts.tail with | .error e => .error e | .ok (x, ts2) => if isSg [41] ts2 then .ok (x, ts2.tail) else .error (ft ts2 false)) := by
   show _ = _
   rw [HXX.out]
   unfold brk pass1
   rw [hop, if_pos rfl, tk1_ok hd4]
   show (match frm (O n) (d + 1) ts.tail with | .error e => (.error e : Rs) | .ok (x, ts2) => _) = _
   cases frm (O n) (d + 1) ts.tail with
   | error e => rfl
   | ok q =>
     obtain ⟨x, ts2⟩ := q
     show (match (if isSg [41] ts2 = true then tk1 d ts2 else .error (ft ts2 false)) with | .error e => (.error e : Rs) | .ok ts3 => .ok (x, ts3)) = (if isSg [41] ts2 = true then .ok (x, ts2.tail) else .error (ft ts2 false))
     rw [tk1_ok hd4]
     cases isSg [41] ts2 <;> rfl
 clear hk hs hk2 hns hop
 obtain ⟨g0, g1, g2, g3, g4, g5, g6, tb, off, cc, nn, ii, all, u1, u2, u3, u4, u5, u6⟩ := h
 obtain ⟨hz, ⟨b0, b1, b2, b3, b4⟩, f0, f1, f2, f3, f4⟩ := u6
 clear g0 g1 g2 g3 g4 g5 g6 u1 u2 u3 u4 u5
 clear hts hd4 hP hX hW
 generalize hd ts = t at *
 go_enter Try.func33, Try.ntmps33
 go_wp2_with fail
 refine (c1 _ ((Ext.refl _).alloc _)).mono ?_
 rintro e w1 ⟨rfl, E1⟩
 have hw1 : W.heap.size + 1 ≤ w1.heap.size := by have := E1.size; simp at this; omega
 have HB1 : Hid (BlkX w1 W.heap.size tz (.slice none 0 0) ∧ Ext W w1) := ⟨BlkX.top rfl E1, ((Ext.refl _).alloc _).trans E1⟩
 clear E1 c1 b0 b1 b2 b3 b4 f0 f1 f2 f3 f4 hz
 have hg1 : w1.heap.size ≠ b := by omega
 have BT := blk5_top (b := w1.heap.size) rfl (Ext.refl (w1.alloc (.cells #[.int .i64 t.1, .int .i64 t.2.1, .string (bs t.2.2.1), .int .i64 t.2.2.2.1, .int .i64 t.2.2.2.2] 62)))
 have ET : Ext w1 (w1.alloc (.cells #[.int .i64 t.1, .int .i64 t.2.1, .string (bs t.2.2.1), .int .i64 t.2.2.2.1, .int .i64 t.2.2.2.2] 62)) := (Ext.refl _).alloc _
 have HV : Hid (BlkX (w1.alloc (.cells #[.int .i64 t.1, .int .i64 t.2.1, .string (bs t.2.2.1), .int .i64 t.2.2.2.1, .int .i64 t.2.2.2.2] 62)) W.heap.size tz (.slice none 0 0) ∧ Ext W (w1.alloc (.cells #[.int .i64 t.1, .int .i64 t.2.1, .string (bs t.2.2.1), .int .i64 t.2.2.2.1, .int .i64 t.2.2.2.2] 62)) ∧ Blk5 (w1.alloc (.cells #[.int .i64 t.1, .int .i64 t.2.1, .string (bs t.2.2.1), .int .i64 t.2.2.2.1, .int .i64 t.2.2.2.2] 62)) w1.heap.size (.int .i64 t.1) (.int .i64 t.2.1) (.string (bs t.2.2.1)) (.int .i64 t.2.2.2.1) (.int .i64 t.2.2.2.2)) := ⟨HB1.out.1.ext ET, HB1.out.2.trans ET, BT⟩
 clear BT ET
 go_wp2_with fail
 refine (rwant_any (HR.out.ext HV.out.2.1) ⟨#[40]⟩).mono ?_
 rintro e w2 ⟨rfl, X2, D2⟩
 have H2 : Hid (ExtB b W w2 ∧ BlkX w2 W.heap.size tz (.slice none 0 0)) := ⟨(HV.out.2.1.toB b).trans X2, HV.out.1.extB X2 hgW⟩
 have R2 : Rp w0 b w2 ts.tail d pa 0 := by
   rcases D2 with ⟨_, q2⟩ | ⟨q1, _⟩
   · exact HNX.out ▸ q2
   · exact absurd HSG.out q1
 have HR2 : Hid (Rp w0 b w2 ts.tail d pa 0) := R2
 obtain ⟨g0, g1, g2, g3, g4, g5, g6, tb, off, cc, nn, ii, all, u1, u2, u3, u4, u5, u6⟩ := R2
 obtain ⟨hz, ⟨b0, b1, b2, b3, b4⟩, f0, f1, f2, f3, f4⟩ := u6
 clear g0 g1 g2 g3 g4 g5 g6 u1 u2 u3 u4 u5
 clear X2 D2 HB1 HV
 go_wp2_with fail
 refine (rdown_any HR2.out (by have := HN.out.2.1; omega)).mono ?_
 rintro e w3 ⟨rfl, X3, D3⟩
 have cE : Calls Try.prog 19 #[.pointer (some ⟨b, 0, none⟩), .int .i64 1] w3 (RX w0 b w3 ts.tail.length d ((d : Int) + 1) (frm (O n) (d + 1) ts.tail)) := by
   have n1 := HN.out.1
   have n2 := HT.out.2
   rcases D3 with ⟨q1, q2⟩ | ⟨q1, pa', why', q2, q3⟩
   · have c := HPC.out.2.1 w3 ts.tail (d + 1) pa 1 (by exact q2) (by omega) (by omega) (by omega) (by omega)
     have e1 : (((d + 1 : Nat) : Int) - 1) = (d : Int) := by omega
     rw [e1] at c
     exact c
   · obtain ⟨f, hf⟩ := LvK_deep n (d + 1) 1 (by omega) ts.tail
     have hf2 : frm (O n) (d + 1) ts.tail = .error f := hf
     rw [hf2]
     exact (exp_bad w0 b (prefix_bad w0 b) w3 ts.tail _ pa' why' q3 q2).mono (fun e w' h => h.weak (by omega))
 have HW3 : Hid (W.heap.size < w3.heap.size) := (H2.out.2.extB X3 hgW).1
 have H3 : Hid (ExtB b W w3 ∧ BlkX w3 W.heap.size tz (.slice none 0 0)) := ⟨H2.out.1.trans X3, H2.out.2.extB X3 hgW⟩
 clear X3 D3 H2 b0 b1 b2 b3 b4 f0 f1 f2 f3 f4 hz
 go_wp2_with fail
 refine cE.mono ?_
 intro e w4 h4
 obtain ⟨x, p, l, c, rfl, hY⟩ := h4.form
 obtain ⟨ts2, d2, pa2, why2, R4, hd2, hd3, HY⟩ := hY.state
 have HR4 : Hid (Rp w0 b w4 ts2 d2 pa2 why2 ∧ (d : Int) ≤ d2 ∧ d2 ≤ (d : Int) + 1) := ⟨R4, by omega, by omega⟩
 have HB4 : Hid (BlkX w4 W.heap.size tz (.slice none 0 0) ∧ ExtB b W w4) := ⟨H3.out.2.extB hY.1 hgW, H3.out.1.trans hY.1⟩
 have hw4 : W.heap.size < w4.heap.size := HB4.out.1.1
 have hdb : -1000 ≤ d2 - 1 := by omega
 have hdc : d2 ≤ 1000 := by have := HN.out.2.1; omega
 obtain ⟨g0, g1, g2, g3, g4, g5, g6, tb, off, cc, nn, ii, all, u1, u2, u3, u4, u5, u6⟩ := R4
 obtain ⟨hz, ⟨b0, b1, b2, b3, b4⟩, f0, f1, f2, f3, f4⟩ := u6
 clear g0 g1 g2 g3 g4 g5 g6 u1 u2 u3 u4 u5
 clear h4 hY cE H3 hd2 hd3
 unfold aggX
 go_wp2_with fail
 have R5 := (HR4.out.1.deep (by have := HR4.out.2; omega)).ext ((Ext.refl _).alloc (.cells #[.int .i64 x.k, .int .i64 x.n, .string (bs x.s), .int .i64 x.e, .int .i64 x.r.1, .int .i64 x.r.2.1, .bool x.r.2.2.1, .bool x.r.2.2.2, .int .i64 x.q.1, .int .i64 x.q.2.1, .bool x.q.2.2.1, .bool x.q.2.2.2, .slice p l c] 29))
 have B5 : BlkX (w4.setCell ⟨b, 2, none⟩ (.int .i64 (d2 - 1))) W.heap.size tz (.slice none 0 0) := Blk13.far1 HB4.out.1 (c := b) (by omega) 2 (.int .i64 (d2 - 1))
 have X5 := (HB4.out.2.set (p := ⟨b, 2, none⟩) (.inl rfl) (.int .i64 (d2 - 1))).alloc (.cells #[.int .i64 x.k, .int .i64 x.n, .string (bs x.s), .int .i64 x.e, .int .i64 x.r.1, .int .i64 x.r.2.1, .bool x.r.2.2.1, .bool x.r.2.2.2, .int .i64 x.q.1, .int .i64 x.q.2.1, .bool x.q.2.2.1, .bool x.q.2.2.2, .slice p l c] 29)
 have B5a := B5.ext ((Ext.refl _).alloc (.cells #[.int .i64 x.k, .int .i64 x.n, .string (bs x.s), .int .i64 x.e, .int .i64 x.r.1, .int .i64 x.r.2.1, .bool x.r.2.2.1, .bool x.r.2.2.2, .int .i64 x.q.1, .int .i64 x.q.2.1, .bool x.q.2.2.1, .bool x.q.2.2.2, .slice p l c] 29))
 have BX : BlkX ((w4.setCell ⟨b, 2, none⟩ (.int .i64 (d2 - 1))).alloc (.cells #[.int .i64 x.k, .int .i64 x.n, .string (bs x.s), .int .i64 x.e, .int .i64 x.r.1, .int .i64 x.r.2.1, .bool x.r.2.2.1, .bool x.r.2.2.2, .int .i64 x.q.1, .int .i64 x.q.2.1, .bool x.q.2.2.1, .bool x.q.2.2.2, .slice p l c] 29)) w4.heap.size x (.slice p l c) := blk13_top (by simp) (Ext.refl _)
 have L5 : ∀ v l', IsL w4 (W.heap.size + 1 ≤ ·) v l' → IsL ((w4.setCell ⟨b, 2, none⟩ (.int .i64 (d2 - 1))).alloc (.cells #[.int .i64 x.k, .int .i64 x.n, .string (bs x.s), .int .i64 x.e, .int .i64 x.r.1, .int .i64 x.r.2.1, .bool x.r.2.2.1, .bool x.r.2.2.2, .int .i64 x.q.1, .int .i64 x.q.2.1, .bool x.q.2.2.1, .bool x.q.2.2.2, .slice p l c] 29)) (W.heap.size + 1 ≤ ·) v l' := fun v l' hh => (hh.extB ((ExtB.refl b w4).set (p := ⟨b, 2, none⟩) (.inl rfl) (.int .i64 (d2 - 1))) (fun j hj => by omega)).ext ((Ext.refl _).alloc _)
 refine (rwant_any R5 ⟨#[41]⟩).mono ?_
 rintro e w6 ⟨rfl, X6, D6⟩
 have HD6 : Hid ((sgn ts2 why2 = [41] ∧ Rp w0 b w6 (nx ts2) (d2 - 1) pa2 why2) ∨ (sgn ts2 why2 ≠ [41] ∧ ∃ pa' why', why' ≠ 0 ∧ Rp w0 b w6 ts2 (d2 - 1) pa' why')) := D6
 have H6 : Hid (ExtB b W w6 ∧ BlkX w6 W.heap.size tz (.slice none 0 0) ∧ BlkX w6 w4.heap.size x (.slice p l c)) := ⟨X5.trans X6, B5a.extB X6 hgW, BX.extB X6 (by omega)⟩
 have HL6 : Hid (∀ v l', IsL w4 (W.heap.size + 1 ≤ ·) v l' → IsL w6 (W.heap.size + 1 ≤ ·) v l') := fun v l' hh => (L5 v l' hh).extB X6 (fun j hj => by omega)
 clear D6 X6 X5 B5 B5a BX L5 R5 HB4 b0 b1 b2 b3 b4 f0 f1 f2 f3 f4 hz
 have HB0 := H6.out.2.1
 obtain ⟨qa, ⟨la0, la1, la2, la3, la4, la5, la6, la7, la8, la9, la10, la11, la12⟩, ga0, ga1, ga2, ga3, ga4, ga5, ga6, ga7, ga8, ga9, ga10, ga11, ga12⟩ := HB0
 have HB1 := H6.out.2.2
 obtain ⟨qc, ⟨lc0, lc1, lc2, lc3, lc4, lc5, lc6, lc7, lc8, lc9, lc10, lc11, lc12⟩, gc0, gc1, gc2, gc3, gc4, gc5, gc6, gc7, gc8, gc9, gc10, gc11, gc12⟩ := HB1
 go_wp2_with fail
 show bodyPost Try.prog _ _ _ _ (putX w6 W.heap.size x (.slice p l c))
 refine endR (H6.out.2.1.put x (.slice p l c)) rfl (RY.back ⟨putX_B H6.out.1 (Nat.le_refl _) _ _, ?_⟩) (fun h0 h1 h2 h3 h4 h5 h6 h7 h8 h9 h10 h11 h12 => by simp [results, Try.results33, go_sem, h0, h1, h2, h3, h4, h5, h6, h7, h8, h9, h10, h11, h12, aggX])
 have hr4 := HR4.out.2
 have hw3 := HW3.out
 have bad : ∀ pa' why', why' ≠ 0 → Rp w0 b w6 ts2 (d2 - 1) pa' why' → ts2.length ≤ ts.length → (∃ f, O (n + 1) d ts = .error f) → (∃ f ts2 d' pa why, O (n + 1) d ts = .error f ∧ (d : Int) - 1 ≤ d' ∧ d' ≤ d ∧ why ≠ 0 ∧ ts2.length ≤ ts.length ∧ Rp w0 b (putX w6 W.heap.size x (.slice p l c)) ts2 d' pa why) := by
   rintro pa' why' z1 z2 z3 ⟨f, hf⟩
   exact ⟨f, ts2, d2 - 1, pa', why', hf, by omega, by omega, z1, z3, putX_R z2 hgW HN.out.2.2 _ _⟩
 have hre := HRE.out
 have n1 := HN.out.1
 have n2 := HT.out.2
 rcases HY.out with ⟨hw, hd5, hr, hL⟩ | ⟨hw, ⟨f, hr⟩, hl⟩
 · rw [hr] at hre
   replace hre : O (n + 1) d ts = if isSg [41] ts2 = true then .ok (x, ts2.tail) else .error (ft ts2 false) := hre
   have s2 := frm_sh (O_sh n) (d + 1) ts.tail HT.out.1 (by omega) x ts2 hr
   have s3 := s2.2
   rcases HD6.out with ⟨q1, q2⟩ | ⟨q1, pa', why', q2, q3⟩
   · unfold sgn at q1
     split at q1
     · rename_i h3
       have hc : isSg [41] ts2 = true := by unfold isSg; rw [h3.2, q1]; rfl
       rw [hc, if_pos rfl] at hre
       have hn2 : nx ts2 = ts2.tail := nx_tail s2.1 (by rw [h3.2]; decide)
       rw [hn2, hw, hd5, show (d : Int) + 1 - 1 = d by omega] at q2
       exact .inl ⟨ts2.tail, pa2, hre, ((HL6.out _ _ (hL.mono (fun j hj _ => (by omega : W.heap.size + 1 ≤ j)))).keep (by rw [putX_size]; exact Nat.le_refl _) (fun j hj hs => putX_heap _ _ _ _ _ (by omega)) (fun j hj _ => hj)).mono (fun j hj _ => by omega), putX_R q2 hgW HN.out.2.2 _ _⟩
     · cases q1
   · refine .inr (bad pa' why' q2 q3 (by omega) ?_)
     have hc : isSg [41] ts2 = false := by
       cases hc : isSg [41] ts2 with
       | false => rfl
       | true => exact absurd (by unfold sgn; rw [if_pos ⟨hw, (isSg_k hc).1⟩]; exact (isSg_k hc).2) q1
     rw [hc, if_neg (by decide)] at hre
     exact ⟨_, hre⟩
 · rw [hr] at hre
   rcases HD6.out with ⟨q1, _⟩ | ⟨_, pa', why', q2, q3⟩
   · unfold sgn at q1
     rw [if_neg (fun h => hw h.1)] at q1
     cases q1
   · exact .inr (bad pa' why' q2 q3 (by omega) ⟨f, hre⟩)
theorem prefix_step (w0 : World) (b n : Nat) (hP : PfC w0 b n) (hX : ExC w0 b n n) (hW : WdC w0 b n) : PfC w0 b (n + 1) := by
 intro W ts d pa h hts hd4
 by_cases k0 : (hd ts).1 = 0
 · exact prefix_k0 w0 b n hP hX hW W ts d pa h hts hd4 k0
 by_cases k1 : (hd ts).1 = 1
 · exact prefix_k1 w0 b n hP hX hW W ts d pa h hts hd4 k1
 by_cases k4 : (hd ts).1 = 4
 · exact prefix_k4 w0 b n hP hX hW W ts d pa h hts hd4 k4
 by_cases k2 : (hd ts).1 = 2
 · exact prefix_k2 w0 b n hP hX hW W ts d pa h hts hd4 k2
 cases hs : isSg [45] ts with
 | true => exact prefix_neg w0 b n hP hX hW W ts d pa h hts hd4 hs
 | false =>
   cases hop : isSg [40] ts with
   | true => exact prefix_brk w0 b n hP hX hW W ts d pa h hts hd4 hs hop
   | false => exact prefix_no w0 b n hP hX hW W ts d pa h hts hd4 hs hop ⟨k0, k1, k4, k2⟩
theorem prefix_all (w0 : World) (b : Nat) (hW : ∀ n, PfC w0 b n → ExC w0 b n n → WdC w0 b n) : ∀ n, PfC w0 b n := by
 intro n
 induction n with
 | zero =>
   intro W ts d pa h hts _
   have := h.2.2.1.pos
   omega
 | succ n ih => exact prefix_step w0 b n ih (exp_all w0 b n ih n (Nat.le_refl _)) (hW n ih (exp_all w0 b n ih n (Nat.le_refl _)))
open Go.RowKit
theorem not_kn {s : List UInt8} (h : okP s = true) (L : List (List UInt8)) (hL : L.all (fun t => !okP t) = true) : s ∉ L := by
 intro hm
 have := List.all_eq_true.mp hL s hm
 rw [h] at this
 cases this
theorem kno_ok {s : List UInt8} (h : okP s = true) : kno s = none ∧ s ≠ wTrue ∧ s ≠ wFalse := by
 refine ⟨?_, fun hh => ?_, fun hh => ?_⟩
 · unfold kno
   rw [if_neg (not_kn h kn1 (by kernel_rfl)), if_neg (not_kn h kn2 (by kernel_rfl)), if_neg (not_kn h kn3 (by kernel_rfl)), if_neg (not_kn h kn4 (by kernel_rfl)), if_neg (not_kn h kn5 (by kernel_rfl))]
 · have e : okP wTrue = false := by kernel_rfl
   rw [hh, e] at h; cases h
 · have e : okP wFalse = false := by kernel_rfl
   rw [hh, e] at h; cases h
theorem brk_len {n d : Nat} {F : Rd} (hF : ShF n F) {ts ts1 : List Tk} {x : T} (h : Nz ts) (hn : ts.length ≤ n + 1) (e : brk F d ts = .ok (x, ts1)) : ts1.length + 3 ≤ ts.length := by
 unfold brk at e
 split at e
 · cases e
 · rename_i us1 h1
   have s1 := pass1_sh h h1
   have a1 := s1.2
   split at e
   · cases e
   · rename_i y us2 h2
     have s2 := hF _ _ s1.1 (by omega) y us2 h2
     have a2 := s2.2
     split at e
     · cases e
     · rename_i us3 h3
       have s3 := pass1_sh s2.1 h3
       have a3 := s3.2
       cases e
       omega
theorem call_k {F : Rd} {s : List UInt8} {a b d : Nat} {ts ts1 : List Tk} {x : T} (e : call F s a b d ts = .ok (x, ts1)) : x.k = 8 := by
 unfold call at e
 split at e
 · cases e
 · cases e; rfl
theorem brk_k {F : Rd} {d : Nat} {ts ts1 : List Tk} {x : T} (e : brk F d ts = .ok (x, ts1)) : ∃ us us1, F (d + 1) us = .ok (x, us1) := by
 unfold brk at e
 split at e
 · cases e
 · rename_i us1 h1
   split at e
   · cases e
   · rename_i y us2 h2
     split at e
     · cases e
     · cases e; exact ⟨_, _, h2⟩
theorem O_one {n d : Nat} (hd4 : d ≤ 40) {ts ts1 : List Tk} {x : T} (h : Nz ts) (hn : ts.length ≤ n) (e : O n d ts = .ok (x, ts1)) (h4 : x.k = 4) (hl : ts.length = ts1.length + 1) :
   (hd ts).1 = 2 ∧ okP (hd ts).2.2.1 = true ∧ ts1 = ts.tail := by
 cases n with
 | zero => cases e
 | succ n =>
   change opn (frm (O n)) (O n) d ts = _ at e
   unfold opn at e
   split at e
   · rw [tk1_ok hd4] at e
     dsimp only at e
     split at e
     · cases e
     · cases e; cases h4
   · unfold smp one at e
     rw [tk1_ok hd4] at e
     split at e
     · cases e; cases h4
     · split at e
       · cases e; cases h4
       · split at e
         · cases e; cases h4
         · split at e
           · rename_i hk
             unfold wrd one at e
             rw [tk1_ok hd4] at e
             split at e
             · cases e; cases h4
             · split at e
               · cases e; cases h4
               · split at e
                 · obtain ⟨us, us1, hc⟩ := brk_k e
                   rw [call_k hc] at h4
                   cases h4
                 · unfold refr at e
                   by_cases ho : (hd ts).1 = 2 ∧ okP (hd ts).2.2.1 = true
                   · rw [if_pos ho, tk1_ok hd4] at e
                     cases e
                     exact ⟨ho.1, ho.2, rfl⟩
                   · rw [if_neg ho] at e
                     cases e
           · have := brk_len (frm_sh (O_sh n)) h hn e
             omega
theorem cl_k {o : Rd} (k d : Nat) : ∀ (f : Nat) (x y : T) (ts ts' : List Tk), cl o d f k x ts = .ok (y, ts') → (y = x ∧ ts' = ts) ∨ y.k = 7 := by
 intro f
 induction f with
 | zero => intro x y ts ts' e; cases e; exact .inl ⟨rfl, rfl⟩
 | succ f ih =>
   intro x y ts ts' e
   unfold cl at e
   split at e
   · split at e
     · cases e
     · rcases ih _ _ _ _ e with ⟨h, _⟩ | h
       · exact .inr (by rw [h]; rfl)
       · exact .inr h
   · cases e; exact .inl ⟨rfl, rfl⟩
theorem O_ref {n d : Nat} (hd4 : d ≤ 40) {ts : List Tk} (h2 : (hd ts).1 = 2) (ho : okP (hd ts).2.2.1 = true) : O (n + 1) d ts = .ok (tRef (rfP (hd ts).2.2.1), ts.tail) := by
 obtain ⟨a1, a2, a3⟩ := kno_ok ho
 show opn (frm (O n)) (O n) d ts = _
 have hs : isSg [45] ts = false := by unfold isSg; rw [h2]; rfl
 unfold opn smp wrd refr
 rw [hs, if_neg (by decide), if_neg (by omega), if_neg (by omega), if_neg (by omega), if_pos h2, if_neg a2, if_neg a3, a1, if_pos ⟨h2, ho⟩, tk1_ok hd4]
theorem argm_doc {n d : Nat} (hd4 : d ≤ 40) {ts : List Tk} (h : Nz ts) (hn : ts.length ≤ n) : argm (frm (O n)) d ts =
   if (hd ts).1 = 2 ∧ okP (hd ts).2.2.1 = true ∧ isSg [58] ts.tail = true then (match refr d ts.tail.tail with | .error e => .error e | .ok (q, ts3) => .ok (tRange (rfP (hd ts).2.2.1) q, ts3)) else frm (O n) d ts := by
 have hC : frm (O n) d ts = thenR (O n d ts) (fun x ts1 => cl (O n) d ts1.length 1 x ts1) := clm_all (O_sh n) hd4 1 (by decide) (by decide) ts h hn
 by_cases hc : (hd ts).1 = 2 ∧ okP (hd ts).2.2.1 = true ∧ isSg [58] ts.tail = true
 · rw [if_pos hc]
   obtain ⟨c1, c2, c3⟩ := hc
   obtain ⟨m, rfl⟩ : ∃ m, n = m + 1 := ⟨n - 1, by have := h.pos; omega⟩
   rw [O_ref hd4 c1 c2] at hC
   have ht := h.tail (by rw [c1]; decide)
   have hcl : cl (O (m + 1)) d ts.tail.length 1 (tRef (rfP (hd ts).2.2.1)) ts.tail = .ok (tRef (rfP (hd ts).2.2.1), ts.tail) := by
     obtain ⟨g, hg⟩ : ∃ g, ts.tail.length = g + 1 := ⟨ts.tail.length - 1, by have := ht.1.pos; omega⟩
     rw [hg, cl, if_neg]
     rintro ⟨_, h1⟩
     rw [(isSg_k c3).2] at h1
     exact absurd h1 (by decide)
   have hF : frm (O (m + 1)) d ts = .ok (tRef (rfP (hd ts).2.2.1), ts.tail) := hC.trans hcl
   unfold argm
   rw [hF]
   dsimp only
   rw [if_pos ⟨rfl, ht.2.symm, c3⟩, tk1_ok hd4]
   rfl
 · rw [if_neg hc]
   unfold argm
   cases hF : frm (O n) d ts with
   | error e => rfl
   | ok q =>
     obtain ⟨x, ts1⟩ := q
     dsimp only
     rw [if_neg]
     rintro ⟨h4, hl, h58⟩
     rw [hF] at hC
     cases hO : O n d ts with
     | error e => rw [hO] at hC; cases hC
     | ok q =>
       obtain ⟨y, us⟩ := q
       rw [hO] at hC
       rcases cl_k 1 d _ _ _ _ _ hC.symm with ⟨rfl, rfl⟩ | h7
       · obtain ⟨a1, a2, a3⟩ := O_one hd4 h hn hO h4 hl
         exact hc ⟨a1, a2, a3 ▸ h58⟩
       · rw [h7] at h4; cases h4
open Go.RowKit
set_option maxHeartbeats 1000000
def CSt (w wx : World) (r c : Int) (ar ac : Bool) : Prop := Ext w wx ∧ Blk wx w.heap.size (.int .i64 0) (.int .i64 0) (.bool false) (.bool false) ∧ Blk wx (w.heap.size + 1) (.int .i64 r) (.int .i64 c) (.bool ar) (.bool ac)
theorem dl_at (s : ByteArray) (k : Nat) : (s.size ≤ k → dlB (s.data.toList.drop k) = false) ∧ (∀ h : k < s.size, dlB (s.data.toList.drop k) = decide ((s[k].toNat : Int) = 36)) := by
 constructor
 · intro h
   rw [List.drop_of_length_le (by rw [size_list]; exact h)]; rfl
 · intro h
   unfold dlB
   rw [List.drop_eq_getElem_cons (by rw [size_list]; exact h)]
   show (some (s.data.toList[k]'_) == some 36) = _
   rw [get_list s k h, Bool.eq_iff_iff]
   simp
   constructor
   · intro e; rw [e]; rfl
   · intro e; exact u8_eq (by show s[k].toNat = 36; omega)
theorem undl_drop (l : List UInt8) (k : Nat) : undl (l.drop k) = l.drop (k + if dlB (l.drop k) then 1 else 0) := by
 unfold undl
 split
 · rw [List.tail_drop]
 · rfl
theorem Blk.put2 {w : World} {b : Nat} {x0 x1 x2 x3 : Value} (h : Blk w b x0 x1 x2 x3) (v : Value) : Blk (w.setCell ⟨b, 2, none⟩ v) b x0 x1 v x3 := by
 obtain ⟨z, ⟨k0, k1, k2, k3⟩, f0, f1, f2, f3⟩ := h
 refine ⟨by simpa [World.setCell] using z, ⟨?_, ?_, World.cell?_setCell_same w ⟨b, 2, none⟩ v (by rw [k2]), ?_⟩, ?_, ?_, ?_, ?_⟩
 · rw [World.cell?_setCell_other _ _ _ _ (by simp)]; exact k0
 · rw [World.cell?_setCell_other _ _ _ _ (by simp)]; exact k1
 · rw [World.cell?_setCell_other _ _ _ _ (by simp)]; exact k3
 all_goals (rw [World.frozen?_setCell]; assumption)
theorem Blk.put3 {w : World} {b : Nat} {x0 x1 x2 x3 : Value} (h : Blk w b x0 x1 x2 x3) (v : Value) : Blk (w.setCell ⟨b, 3, none⟩ v) b x0 x1 x2 v := by
 obtain ⟨z, ⟨k0, k1, k2, k3⟩, f0, f1, f2, f3⟩ := h
 refine ⟨by simpa [World.setCell] using z, ⟨?_, ?_, ?_, World.cell?_setCell_same w ⟨b, 3, none⟩ v (by rw [k3])⟩, ?_, ?_, ?_, ?_⟩
 · rw [World.cell?_setCell_other _ _ _ _ (by simp)]; exact k0
 · rw [World.cell?_setCell_other _ _ _ _ (by simp)]; exact k1
 · rw [World.cell?_setCell_other _ _ _ _ (by simp)]; exact k2
 all_goals (rw [World.frozen?_setCell]; assumption)
theorem CSt.set {w wx : World} {r c r' c' : Int} {ar ac ar' ac' : Bool} (h : CSt w wx r c ar ac) (o : Nat) (v : Value)
   (hB : Blk wx (w.heap.size + 1) (.int .i64 r) (.int .i64 c) (.bool ar) (.bool ac) → Blk (wx.setCell ⟨w.heap.size + 1, o, none⟩ v) (w.heap.size + 1) (.int .i64 r') (.int .i64 c') (.bool ar') (.bool ac')) :
   CSt w (wx.setCell ⟨w.heap.size + 1, o, none⟩ v) r' c' ar' ac' :=
 ⟨h.1.setCell (by simp) _, h.2.1.far1 (by omega) _ _, hB h.2.2⟩
theorem CSt.ext {w wx wy : World} {r c : Int} {ar ac : Bool} (h : CSt w wx r c ar ac) (e : Ext wx wy) : CSt w wy r c ar ac := ⟨h.1.trans e, h.2.1.ext e, h.2.2.ext e⟩
theorem run_facts (p : UInt8 → Bool) (s : ByteArray) (a : Nat) (ha : a ≤ s.size) :
   ∃ n : Nat, a + n ≤ s.size ∧ (s.data.toList.drop a).takeWhile p = (s.data.toList.drop a).take n ∧ (s.data.toList.drop a).dropWhile p = s.data.toList.drop (a + n) ∧
     (∀ j (h : j < s.size), a ≤ j → j < a + n → p (s[j]'h) = true) ∧ (∀ h : a + n < s.size, p (s[a + n]'h) = false) := by
 have e := List.takeWhile_append_dropWhile (p := p) (l := s.data.toList.drop a)
 have hl := size_list s
 refine ⟨((s.data.toList.drop a).takeWhile p).length, ?_, ?_, ?_, ?_, ?_⟩
 · have := congrArg List.length e
   rw [List.length_append, List.length_drop] at this
   omega
 · have := congrArg (List.take ((s.data.toList.drop a).takeWhile p).length) e
   rw [List.take_left' rfl] at this
   exact this
 · have := congrArg (List.drop ((s.data.toList.drop a).takeWhile p).length) e
   rw [List.drop_left' rfl, List.drop_drop] at this
   exact this
 · intro j h h1 h2
   have hm := List.all_eq_true.1 (List.all_takeWhile (p := p) (l := s.data.toList.drop a)) (s[j]'h)
   apply hm
   have : ((s.data.toList.drop a).takeWhile p)[j - a]? = some (s[j]'h) := by
     rw [← List.getElem?_append_left (l₂ := (s.data.toList.drop a).dropWhile p) (by omega), e, List.getElem?_drop, show a + (j - a) = j from by omega]
     exact at_get s j h
   exact List.mem_of_getElem? this
 · intro h
   apply dw_head (p := p) (s.data.toList.drop a)
   have : (s.data.toList.drop a).dropWhile p = s.data.toList.drop (a + ((s.data.toList.drop a).takeWhile p).length) := by
     have := congrArg (List.drop ((s.data.toList.drop a).takeWhile p).length) e
     rw [List.drop_left' rfl, List.drop_drop] at this
     exact this
   rw [this, List.head?_drop]
   exact at_get s _ h
theorem colN_long (l : List UInt8) (h : 2 < l.length) : colN l = 0 := by
 by_cases g : colN l = 0
 · exact g
 · have := name_colN l g
   have h2 := name_len (colN l)
   rw [this] at h2; omega
theorem row_bad {l : List UInt8} {k : Nat} {c : UInt8} (h : l[k]? = some c) (hc : dgB c = false) : rowOk l = false := by
 unfold rowOk
 have : l.all dgB = false := by
   rw [List.all_eq_false]; exact ⟨c, List.mem_of_getElem? h, by simp [hc]⟩
 rw [this]; rfl
theorem row_nought {l : List UInt8} (h : l.head? = some 48) : rowOk l = false := by
 unfold rowOk; rw [h]; simp
theorem row_long {l : List UInt8} (h : 4 < l.length) : rowOk l = false := by
 unfold rowOk
 rw [show decide (l.length ≤ 4) = false from decide_eq_false (by omega)]; simp
set_option maxRecDepth 100000 in
theorem rparse6_any (s : ByteArray) (w : World) (hs : s.size ≤ maxLen) :
   Calls Try.prog 72 #[.string s] w fun e w' => e = .returned (.tuple #[prV s.data.toList, .bool (okP s.data.toList)]) ∧ Ext w w' := by
 unfold maxLen at hs
 have hsI : (s.size : Int) ≤ 9223372036854775807 := by omega
 have hl := size_list s
 have HV : Hid (prV s.data.toList = if okR s.data.toList then refD (val (dgR s.data.toList)) (colN (nmR s.data.toList)) (dlB (rsR s.data.toList)) (dlB s.data.toList) else refD 0 0 false false) := prV_R _
 have HO : Hid (okP s.data.toList = okR s.data.toList) := ok_eq _
 have HD0 := dl_at s 0
 rw [List.drop_zero] at HD0
 obtain ⟨a, ha⟩ : ∃ a : Nat, a = if dlB s.data.toList then 1 else 0 := ⟨_, rfl⟩
 have HA : Hid (a = if dlB s.data.toList then 1 else 0) := ha
 have hu : undl s.data.toList = s.data.toList.drop a := by
   have := undl_drop s.data.toList 0
   rw [List.drop_zero, Nat.zero_add] at this
   rw [this, ha]
 have hal : a ≤ s.size := by
   rw [ha]; split
   · rename_i h
     by_cases g : s.size ≤ 0
     · rw [HD0.1 g] at h; cases h
     · omega
   · omega
 have ha1 : a ≤ 1 := by rw [ha]; split <;> omega
 have H1 : Hid (s.size ≤ 0 → dlB s.data.toList = false) := HD0.1
 have H2 : Hid (∀ h : 0 < s.size, dlB s.data.toList = decide ((s[0].toNat : Int) = 36)) := HD0.2
 clear HD0 ha
 go_enter Try.func72, Try.ntmps72
 go_upto_region 2 with fail
 obtain ⟨W0, hW0⟩ : ∃ W0, W0 = (w.alloc (.cells #[.int .i64 0, .int .i64 0, .bool false, .bool false] 26)).alloc (.cells #[.int .i64 0, .int .i64 0, .bool false, .bool false] 26) := ⟨_, rfl⟩
 have S0 : CSt w W0 0 0 false false := by
   rw [hW0]
   exact ⟨((Ext.refl _).alloc _).alloc _, (blk_top rfl (Ext.refl _)).al _, blk_top (by simp) (Ext.refl _)⟩
 rw [← hW0]
 clear hW0
 go_cut [18] (fun v wx => v = .bool (dlB s.data.toList) ∧ wx = W0)
 case first =>
   by_cases h0 : 0 < s.size
   · have h0I : (0 : Int) < s.size := by omega
     by_cases h1 : (s[0].toNat : Int) = 36
     · have HB : Hid (dlB s.data.toList = true) := by show _ = _; rw [H2.out h0]; simpa using h1
       have h1' : ((s[0].toNat : Int) == 36) = true := by simpa using h1
       clear h1
       go_wp2_with fail
       go_meet
       case rel => exact ⟨by rw [HB.out], rfl⟩
     · have HB : Hid (dlB s.data.toList = false) := by show _ = _; rw [H2.out h0]; simpa using h1
       have h1' : ((s[0].toNat : Int) == 36) = false := by simpa using h1
       clear h1
       go_wp2_with fail
       go_meet
       case rel => exact ⟨by rw [HB.out], rfl⟩
   · have HB : Hid (dlB s.data.toList = false) := H1.out (by omega)
     have h0I : ¬ (0 : Int) < s.size := by omega
     go_wp2_with fail
     go_meet
     case rel => exact ⟨by rw [HB.out], rfl⟩
 case rest =>
   obtain ⟨rfl, rfl⟩ := hcut
   clear H1 H2
   go_upto_if 18 with fail
   go_cut [5] (fun v wx => v = .int .i64 (a : Int) ∧ CSt w wx 0 0 false (dlB s.data.toList))
   case first =>
     have S1 := S0
     obtain ⟨_, _, ⟨_, ⟨k0, k1, k2, k3⟩, f0, f1, f2, f3⟩⟩ := S1
     cases hd : dlB s.data.toList
     · have ea : a = 0 := by rw [HA.out, hd]; rfl
       subst ea
       go_wp2_with fail
       go_meet
       case rel => exact ⟨rfl, by rw [hd]; exact S0⟩
     · have ea : a = 1 := by rw [HA.out, hd]; rfl
       subst ea
       go_wp2_with fail
       go_meet
       case rel => exact ⟨rfl, by rw [hd]; exact S0.set 3 _ (fun b => b.put3 _)⟩
   case rest =>
     clear S0 HA
     obtain ⟨rfl, S0⟩ := hcut
     obtain ⟨n, hn, t1, t2, t3, t4⟩ := run_facts upB s a hal
     obtain ⟨E, hE⟩ : ∃ E : Nat, E = a + n := ⟨_, rfl⟩
     rw [← hE] at hn t2
     have T3 : Hid (∀ j (h : j < s.size), a ≤ j → j < E → (65 : Int) ≤ (s[j].toNat : Int) ∧ (s[j].toNat : Int) ≤ 90) := by
       intro j h h1 h2
       have := t3 j h h1 (by omega)
       unfold upB at this; simp at this; omega
     have T4 : Hid (∀ h : E < s.size, ¬ ((65 : Int) ≤ (s[E].toNat : Int) ∧ (s[E].toNat : Int) ≤ 90)) := by
       intro h g
       subst hE
       have := t4 h
       unfold upB at this; simp at this; omega
     have N1 : Hid (nmR s.data.toList = (s.extract a E).data.toList) := by
       show _ = _
       unfold nmR; rw [hu, t1, Lib.extract_data, hE, Nat.add_sub_cancel_left]
     have N2 : Hid (rsR s.data.toList = s.data.toList.drop E) := by
       show _ = _
       unfold rsR; rw [hu, t2]
     have haE : a ≤ E := by omega
     clear t1 t2 t3 t4 hE
     go_upto_block 0 with fail
     go_cut [5] (fun v wx => v = .int .i64 (E : Int) ∧ wx = wc)
     case first =>
       go_wp2_with fail
       go_loop [5] (fun v => ∃ p : Nat, v = .int .i64 (p : Int) ∧ a ≤ p ∧ p ≤ E) (fun v => s.size - (intOf v).toNat)
       case atStart => exact ⟨a, rfl, Nat.le_refl _, haE⟩
       case round =>
         obtain ⟨p, rfl, p1, p2⟩ := hrel
         by_cases hp : p < E
         · have hps : p < s.size := by omega
           obtain ⟨g1, g2⟩ := T3.out p hps p1 hp
           have hpI : (p : Int) < s.size := by omega
           go_wp2_with fail
           go_round
           case rel => exact ⟨p + 1, by go_num, by omega, by omega⟩
           case measure => simp [intOf]; omega
         · obtain rfl : p = E := by omega
           by_cases hps : p < s.size
           · have hpI : (p : Int) < s.size := by omega
             by_cases g : (65 : Int) ≤ (s[p].toNat : Int)
             · have g' : ¬ (s[p].toNat : Int) ≤ 90 := fun k => T4.out hps ⟨g, k⟩
               go_wp2_with fail
               go_meet
               case rel => exact ⟨rfl, rfl⟩
             · go_wp2_with fail
               go_meet
               case rel => exact ⟨rfl, rfl⟩
           · have hpI : ¬ (p : Int) < s.size := by omega
             go_wp2_with fail
             go_meet
             case rel => exact ⟨rfl, rfl⟩
     case rest =>
       obtain ⟨rfl, rfl⟩ := hcut
       clear T3 T4
       have cN := fun W => rcolnumber_any (s.extract a E) W
       rw [← N1.out] at cN
       have hNl : (nmR s.data.toList).length = E - a := by rw [N1.out, size_list, ByteArray.size_extract]; omega
       have HC0 : Hid (2 < E - a → colN (nmR s.data.toList) = 0) := fun h => colN_long _ (by omega)
       have HD := dl_at s E
       rw [← N2.out] at HD
       obtain ⟨A, hA⟩ : ∃ A : Nat, A = E + if dlB (rsR s.data.toList) then 1 else 0 := ⟨_, rfl⟩
       have HA : Hid (A = E + if dlB (rsR s.data.toList) then 1 else 0) := hA
       have hdg : dgR s.data.toList = s.data.toList.drop A := by
         unfold dgR; rw [hA, N2.out]; exact undl_drop _ _
       have hAl : A ≤ s.size := by
         rw [hA]; split
         · rename_i h
           by_cases g : s.size ≤ E
           · rw [HD.1 g] at h; cases h
           · omega
         · omega
       have hAE : A ≤ E + 1 := by rw [hA]; split <;> omega
       have hEA : E ≤ A := by rw [hA]; omega
       have H1 : Hid (s.size ≤ E → dlB (rsR s.data.toList) = false) := HD.1
       have H2 : Hid (∀ h : E < s.size, dlB (rsR s.data.toList) = decide ((s[E].toNat : Int) = 36)) := HD.2
       have eI1 : (a : Int) ≤ E := by omega
       have eI2 : (E : Int) ≤ s.size := by omega
       clear HD hA hNl N1 N2 hu
       generalize dlB (rsR s.data.toList) = d2 at *
       generalize dlB s.data.toList = d1 at *
       obtain ⟨k, hk⟩ : ∃ k : Nat, k = colN (nmR s.data.toList) := ⟨_, rfl⟩
       have hk52 : (k : Int) ≤ 52 := by rw [hk]; have := colN_le (nmR s.data.toList); omega
       rw [← hk] at cN HV HC0
       have HK : Hid (k = colN (nmR s.data.toList)) := hk
       clear hk
       go_wp2_with fail
       refine (cN _).mono ?_
       rintro e w1 ⟨rfl, E1⟩
       have S1 := S0.ext E1
       clear S0 E1 cN
       have S2 := S1
       obtain ⟨_, _, ⟨_, ⟨k0, k1, k2, k3⟩, f0, f1, f2, f3⟩⟩ := S2
       go_upto_region 9 with fail
       have S2 : CSt w (w1.setCell ⟨w.heap.size + 1, 1, none⟩ (.int .i64 k)) 0 k false d1 := S1.set 1 _ (fun b => b.put1 _)
       generalize w1.setCell ⟨w.heap.size + 1, 1, none⟩ (.int .i64 k) = W2 at *
       clear S1 k0 k1 k2 k3 f0 f1 f2 f3
       go_cut [56] (fun v wx => v = .bool d2 ∧ wx = W2)
       case first =>
         by_cases h0 : E < s.size
         · have h0I : (E : Int) < s.size := by omega
           by_cases h1 : (s[E].toNat : Int) = 36
           · have HB : Hid (d2 = true) := by show _ = _; rw [H2.out h0]; simpa using h1
             have h1' : ((s[E].toNat : Int) == 36) = true := by simpa using h1
             clear h1
             go_wp2_with fail
             go_meet
             case rel => exact ⟨by rw [HB.out], rfl⟩
           · have HB : Hid (d2 = false) := by show _ = _; rw [H2.out h0]; simpa using h1
             have h1' : ((s[E].toNat : Int) == 36) = false := by simpa using h1
             clear h1
             go_wp2_with fail
             go_meet
             case rel => exact ⟨by rw [HB.out], rfl⟩
         · have HB : Hid (d2 = false) := H1.out (by omega)
           have h0I : ¬ (E : Int) < s.size := by omega
           go_wp2_with fail
           go_meet
           case rel => exact ⟨by rw [HB.out], rfl⟩
       case rest =>
         obtain ⟨rfl, rfl⟩ := hcut
         clear H1 H2
         go_upto_if 56 with fail
         go_cut [5] (fun v wx => v = .int .i64 (A : Int) ∧ CSt w wx 0 k d2 d1)
         case first =>
           have S1 := S2
           obtain ⟨_, _, ⟨_, ⟨k0, k1, k2, k3⟩, f0, f1, f2, f3⟩⟩ := S1
           cases hd : d2
           · have ea : A = E := by rw [HA.out, hd]; rfl
             subst ea
             go_wp2_with fail
             go_meet
             case rel => exact ⟨rfl, by rw [hd]; exact S2⟩
           · have ea : A = E + 1 := by rw [HA.out, hd]; rfl
             subst ea
             have w3 : (E : Int) + 1 ≤ 9223372036854775807 := by omega
             go_wp2_with fail
             go_meet
             case rel => exact ⟨by go_num, by rw [hd]; exact S2.set 2 _ (fun b => b.put2 _)⟩
         case rest =>
           clear S2 HA
           obtain ⟨rfl, S2⟩ := hcut
           have HOK : Hid (okR s.data.toList = (rowOk (dgR s.data.toList) && inB (val (dgR s.data.toList)) k)) := by show _ = _; rw [HK.out]; rfl
           have HDl : (dgR s.data.toList).length = s.size - A := by rw [hdg, List.length_drop, hl]
           have HDa : Hid (∀ j (h : j < s.size), A ≤ j → (dgR s.data.toList)[j - A]? = some (s[j]'h)) := fun j h h1 => by
             rw [hdg, List.getElem?_drop, show A + (j - A) = j from by omega]; exact at_get s j h
           have HLN : Hid ((dgR s.data.toList).length = s.size - A) := HDl
           clear HDl hdg HK
           generalize dgR s.data.toList = D at *
           generalize okR s.data.toList = ok at *
           have haI : (A : Int) ≤ s.size := by omega
           have aI0 : (0 : Int) ≤ A := by omega
           go_wp2_with fail
           go_loopw [7] (fun v wx => ∃ p r : Nat, v = .int .i64 (p : Int) ∧ A ≤ p ∧ p ≤ s.size ∧ p ≤ A + 4 ∧ (D.take (p - A)).all dgB = true ∧ (A < p → D.head? ≠ some 48) ∧ r = val (D.take (p - A)) ∧ CSt w wx (r : Int) k d2 d1) (fun v _ => s.size - (intOf v).toNat)
           case atStart => exact ⟨A, 0, rfl, Nat.le_refl _, hAl, by omega, by rw [Nat.sub_self]; rfl, fun h => absurd h (Nat.lt_irrefl _), by rw [Nat.sub_self]; rfl, S2⟩
           case round =>
             obtain ⟨p, r, rfl, p1, p2, p3, hall, hhead, hr, SS⟩ := hrel
             have HALL : Hid ((D.take (p - A)).all dgB = true) := hall
             have HHEAD : Hid (A < p → D.head? ≠ some 48) := hhead
             have HR : Hid (r = val (D.take (p - A))) := hr
             have HRB : Hid (r < 10 ^ (p - A)) := by
               show _ < _
               rw [hr]
               refine Nat.lt_of_lt_of_le (val_bd _ hall) (Nat.pow_le_pow_right (by omega) ?_)
               rw [List.length_take]; omega
             clear hall hhead hr
             have S3 := SS
             obtain ⟨X, ⟨_, ⟨k0, k1, k2, k3⟩, f0, f1, f2, f3⟩, ⟨_, ⟨m0, m1, m2, m3⟩, g0, g1, g2, g3⟩⟩ := S3
             have p1I : (A : Int) ≤ p := by omega
             by_cases hp : p < s.size
             · have hpI : (p : Int) < s.size := by omega
               have HX := HDa.out p hp p1
               have HXX : Hid (D[p - A]? = some s[p]) := HX
               clear HX
               by_cases c1 : (s[p].toNat : Int) < 48
               · have HZ : Hid (ok = false) := by show _ = _; rw [HOK.out, row_bad HXX.out (dg_no (.inl c1))]; rfl
                 go_wp2_with fail
                 exact fin4b false k0 k1 k2 k3 rfl (Nat.le_refl _) X (fun W g0 g1 g2 g3 => by simp [results, Try.results72, go_sem, g0, g1, g2, g3]) (fun W h => ⟨ret_ref (by rw [HV.out, HZ.out]; rfl) (by rw [HO.out, HZ.out]), h⟩)
               by_cases c2 : (57 : Int) < s[p].toNat
               · have HZ : Hid (ok = false) := by show _ = _; rw [HOK.out, row_bad HXX.out (dg_no (.inr c2))]; rfl
                 go_wp2_with fail
                 exact fin4b false k0 k1 k2 k3 rfl (Nat.le_refl _) X (fun W g0 g1 g2 g3 => by simp [results, Try.results72, go_sem, g0, g1, g2, g3]) (fun W h => ⟨ret_ref (by rw [HV.out, HZ.out]; rfl) (by rw [HO.out, HZ.out]), h⟩)
               by_cases c3 : p = A ∧ (s[p].toNat : Int) = 48
               · obtain ⟨rfl, c4⟩ := c3
                 have HZ : Hid (ok = false) := by
                   show _ = _
                   rw [HOK.out, row_nought (by
                     have := HXX.out
                     rw [Nat.sub_self] at this
                     rw [List.head?_eq_getElem?, this, u8_eq (a := s[p]) (b := 48) (by show s[p].toNat = 48; omega)])]
                   rfl
                 have c5 : ((p : Int) == (p : Int)) = true := by simp
                 have c6 : ((s[p].toNat : Int) == 48) = true := by simpa using c4
                 clear c4
                 go_wp2_with fail
                 exact fin4b false k0 k1 k2 k3 rfl (Nat.le_refl _) X (fun W g0 g1 g2 g3 => by simp [results, Try.results72, go_sem, g0, g1, g2, g3]) (fun W h => ⟨ret_ref (by rw [HV.out, HZ.out]; rfl) (by rw [HO.out, HZ.out]), h⟩)
               have c7 : ((p : Int) == (A : Int)) = false ∨ ((s[p].toNat : Int) == 48) = false := by
                 by_cases e : p = A
                 · right; simp; intro e2; exact c3 ⟨e, e2⟩
                 · left; simp; omega
               have HC3 : Hid (¬ (p = A ∧ (s[p].toNat : Int) = 48)) := c3
               clear c3
               by_cases hov : (A : Int) + 3 ≤ 9223372036854775807
               · by_cases c4 : (A : Int) + 3 < p
                 · have HZ : Hid (ok = false) := by
                     show _ = _
                     rw [HOK.out, row_long (by rw [HLN.out]; omega)]; rfl
                   cases c8 : ((p : Int) == (A : Int))
                   · go_wp2_with fail
                     exact fin4b false k0 k1 k2 k3 rfl (Nat.le_refl _) X (fun W g0 g1 g2 g3 => by simp [results, Try.results72, go_sem, g0, g1, g2, g3]) (fun W h => ⟨ret_ref (by rw [HV.out, HZ.out]; rfl) (by rw [HO.out, HZ.out]), h⟩)
                   · have c9 : ((s[p].toNat : Int) == 48) = false := by
                       rcases c7 with h | h
                       · rw [h] at c8; cases c8
                       · exact h
                     go_wp2_with fail
                     exact fin4b false k0 k1 k2 k3 rfl (Nat.le_refl _) X (fun W g0 g1 g2 g3 => by simp [results, Try.results72, go_sem, g0, g1, g2, g3]) (fun W h => ⟨ret_ref (by rw [HV.out, HZ.out]; rfl) (by rw [HO.out, HZ.out]), h⟩)
                 · have hr9 : r ≤ 999 := by
                     have h1 := HRB.out
                     have h2 : 10 ^ (p - A) ≤ 10 ^ 3 := Nat.pow_le_pow_right (by omega) (by omega)
                     omega
                   have hr9I : (r : Int) ≤ 999 := by omega
                   have hr0I : (0 : Int) ≤ r := by omega
                   have hlen : p - A < D.length := by rw [HLN.out]; omega
                   have hel : D[p - A] = s[p] := by
                     have := HXX.out
                     rw [List.getElem?_eq_getElem hlen] at this
                     exact Option.some.inj this
                   have e1 : p + 1 - A = p - A + 1 := by omega
                   have HAL : Hid ((D.take (p + 1 - A)).all dgB = true) := by
                     show _ = _
                     rw [e1, all_take D (p - A) hlen, HALL.out, hel, dg_yes c1 c2]; rfl
                   have HVL : Hid (10 * r + (s[p].toNat - 48) = val (D.take (p + 1 - A))) := by
                     show _ = _
                     rw [e1, val_take_succ D (p - A) hlen, ← HR.out, hel]; omega
                   have HHD : Hid (A < p + 1 → D.head? ≠ some 48) := by
                     show _ → _
                     intro _ hh
                     by_cases g : A < p
                     · exact HHEAD.out g hh
                     · have ep : p = A := by omega
                       have h5 := HXX.out
                       rw [show p - A = 0 from by omega, ← List.head?_eq_getElem?, hh] at h5
                       have h6 := Option.some.inj h5
                       exact HC3.out ⟨ep, by rw [← h6]; rfl⟩
                   clear hlen hel e1 hr9
                   cases c8 : ((p : Int) == (A : Int))
                   · go_wp2_with fail
                     go_region
                     go_wp2_with fail
                     go_roundw
                     case rel =>
                       exact ⟨p + 1, 10 * r + (s[p].toNat - 48), by go_num, by omega, by omega, by omega, HAL.out, HHD.out, HVL.out, by
                         have e : ((10 * r + (s[p].toNat - 48) : Nat) : Int) = 10 * (r : Int) + ((s[p].toNat : Int) - 48) := by omega
                         rw [e]
                         exact (SS.ext (Ext.drew (Ext.refl _))).set 0 _ (fun b => b.put0 _)⟩
                     case measure => simp [intOf]; omega
                   · have c9 : ((s[p].toNat : Int) == 48) = false := by
                       rcases c7 with h | h
                       · rw [h] at c8; cases c8
                       · exact h
                     go_wp2_with fail
                     go_region
                     go_wp2_with fail
                     go_roundw
                     case rel =>
                       exact ⟨p + 1, 10 * r + (s[p].toNat - 48), by go_num, by omega, by omega, by omega, HAL.out, HHD.out, HVL.out, by
                         have e : ((10 * r + (s[p].toNat - 48) : Nat) : Int) = 10 * (r : Int) + ((s[p].toNat : Int) - 48) := by omega
                         rw [e]
                         exact (SS.ext (Ext.drew (Ext.refl _))).set 0 _ (fun b => b.put0 _)⟩
                     case measure => simp [intOf]; omega
               · have HZ : Hid (ok = false) := by
                   show _ = _
                   rw [HOK.out, HC0.out (by omega)]
                   unfold inB; simp
                 have hw : IntKind.i64.wrap ((A : Int) + 3) = (A : Int) + 3 - 18446744073709551616 := by
                   unfold IntKind.wrap; simp [IntKind.bits, IntKind.signed]; omega
                 have hw2 : (A : Int) + 3 - 18446744073709551616 < p := by omega
                 cases c8 : ((p : Int) == (A : Int))
                 · go_wp2_with fail
                   exact fin4b false k0 k1 k2 k3 rfl (Nat.le_refl _) X (fun W g0 g1 g2 g3 => by simp [results, Try.results72, go_sem, g0, g1, g2, g3]) (fun W h => ⟨ret_ref (by rw [HV.out, HZ.out]; rfl) (by rw [HO.out, HZ.out]), h⟩)
                 · have c9 : ((s[p].toNat : Int) == 48) = false := by
                     rcases c7 with h | h
                     · rw [h] at c8; cases c8
                     · exact h
                   go_wp2_with fail
                   exact fin4b false k0 k1 k2 k3 rfl (Nat.le_refl _) X (fun W g0 g1 g2 g3 => by simp [results, Try.results72, go_sem, g0, g1, g2, g3]) (fun W h => ⟨ret_ref (by rw [HV.out, HZ.out]; rfl) (by rw [HO.out, HZ.out]), h⟩)
             · obtain rfl : p = s.size := by omega
               have htk : D.take (s.size - A) = D := List.take_of_length_le (by rw [HLN.out]; omega)
               rw [htk] at HR HALL
               have hpI : ¬ (s.size : Int) < s.size := by omega
               have cI := fun W => rin_any (r : Int) (k : Int) W
               have HRO : Hid (D ≠ [] → rowOk D = true) := by
                 show _ → _
                 intro hne
                 have hA : A < s.size := by
                   have := HLN.out
                   rcases Nat.lt_or_ge A s.size with g | g
                   · exact g
                   · exact absurd (List.length_eq_zero_iff.1 (by omega)) hne
                 unfold rowOk
                 have hh : (D.head? != some 48) = true := by simpa using HHEAD.out hA
                 rw [HALL.out, hh, HLN.out, show decide (s.size - A ≤ 4) = true from decide_eq_true (by omega)]
                 rfl
               have HOK2 : Hid (ok = inB r k) := by
                 show _ = _
                 rw [HOK.out, HR.out]
                 by_cases hne : D = []
                 · rw [hne]
                   have : val ([] : List UInt8) = 0 := rfl
                   rw [this]; unfold inB; simp
                 · rw [HRO.out hne]; rfl
               have HRV : Hid ((r : Int) = (val D : Int)) := by show _ = _; rw [HR.out]
               clear htk
               cases hin : inB (r : Int) (k : Int)
               · rw [hin] at cI HOK2
                 have HZ : Hid (ok = false) := HOK2.out
                 go_wp2_with fail
                 refine (cI _).mono ?_
                 rintro e w5 ⟨rfl, rfl⟩
                 go_wp2_with fail
                 exact fin4b false k0 k1 k2 k3 rfl (Nat.le_refl _) X (fun W g0 g1 g2 g3 => by simp [results, Try.results72, go_sem, g0, g1, g2, g3]) (fun W h => ⟨ret_ref (by rw [HV.out, HZ.out]; rfl) (by rw [HO.out, HZ.out]), h⟩)
               · rw [hin] at cI HOK2
                 have HZ : Hid (ok = true) := HOK2.out
                 go_wp2_with fail
                 refine (cI _).mono ?_
                 rintro e w5 ⟨rfl, rfl⟩
                 go_wp2_with fail
                 exact fin4b true k0 k1 k2 k3 rfl (Nat.le_refl _) X (fun W g0 g1 g2 g3 => by simp [results, Try.results72, go_sem, g0, g1, g2, g3]) (fun W h => ⟨ret_ref (by rw [HV.out, HZ.out, if_pos rfl, ← HRV.out]; rfl) (by rw [HO.out, HZ.out]), h⟩)
end Go.Proofs.Ytjhmbkdkjgjoaaa
