import Derived.Test.YtjhmbkdkjgjoaaaX23
import Derived.Test.YtjhmbkdkjgjoaaaX12
import Derived.Test.YtjhmbkdkjgjoaaaX14
import Derived.Test.YtjhmbkdkjgjoaaaX5
import Derived.Test.YtjhmbkdkjgjoaaaX7
import Derived.Laws.IdiomStrings
import Derived.BigQuiet
import Derived.Test.YtjhmbkdkjgjoaaaX19
namespace Go.Proofs.Ytjhmbkdkjgjoaaa
open Go.RowKit
set_option maxHeartbeats 6000000
def OwY (w : World) (base : Nat) (v : Value) (ps : List (T × Value)) : Prop := w.ownsRow base 29 13 v ps.length (flatX ps)
theorem OwY.far {w : World} {base : Nat} {v : Value} {ps : List (T × Value)} (h : OwY w base v ps) {b : Nat} (hb : b < base) : v.ownBlock ≠ some b := by
 rcases h.2 with ⟨h1, h2⟩ | ⟨g, cap, cur, h1, h2, h3⟩
 · rw [h1]; simp [Value.ownBlock]
 · rw [h1]; simp [Value.ownBlock]; omega
theorem OwY.extB {b base : Nat} {w w' : World} {v : Value} {ps : List (T × Value)} (h : OwY w base v ps) (e : ExtB b w w') (hb : b < base) : OwY w' base v ps := by
 refine ⟨h.1, ?_⟩
 rcases h.2 with h2 | ⟨g, cap, cur, h1, h2, h3, h4⟩
 · exact .inl h2
 · exact .inr ⟨g, cap, cur, h1, h2, (e.block g (heap_lt h3) (by omega)).trans h3, h4⟩
theorem OwY.set {w : World} {base : Nat} {v : Value} {ps : List (T × Value)} (h : OwY w base v ps) {p : Addr} (hp : p.block < base) (u : Value) : OwY (w.setCell p u) base v ps := by
 refine ⟨h.1, ?_⟩
 rcases h.2 with h2 | ⟨g, cap, cur, h1, h2, h3, h4⟩
 · exact .inl h2
 · exact .inr ⟨g, cap, cur, h1, h2, (Below.heap_setCell _ _ _ _ (by omega)).trans h3, h4⟩
theorem OwY.nil (w : World) (base : Nat) : OwY w base (.slice none 0 0) [] := ⟨rfl, .inl ⟨rfl, rfl⟩⟩
theorem OwY.form {w : World} {base : Nat} {v : Value} {ps : List (T × Value)} (h : OwY w base v ps) : ∃ p c, v = .slice p ps.length c := by
 rcases h.2 with ⟨h1, h0⟩ | ⟨g, cap, cur, h1, _⟩
 · exact ⟨none, 0, by rw [h1, h0]⟩
 · exact ⟨_, _, h1⟩
theorem grownBY {b : Nat} {w W W' : World} {base : Nat} {v : Value} {ps : List (T × Value)} (h : W.grownBy W' v.ownBlock) (hB : OwY W base v ps) (hE : ExtB b w W) (hb : w.heap.size ≤ base) : ExtB b w W' := by
 refine ⟨h.os.trans hE.os, h.tape.trans hE.tape, h.output.trans hE.output, Nat.le_trans hE.size h.size, fun k hk hkb => ?_⟩
 exact (h.block k (Nat.lt_of_lt_of_le hk hE.size) (fun e => hB.far (Nat.lt_of_lt_of_le hk hb) e.symm)).trans (hE.block k hk hkb)
theorem BlkX.grownY {W W' : World} {base g : Nat} {v lv : Value} {t : T} {ps : List (T × Value)} (B : BlkX W g t lv) (h : W.grownBy W' v.ownBlock) (hB : OwY W base v ps) (hg : g < base) : BlkX W' g t lv := by
 have hz := B.1
 have hb := h.block g hz (fun e => hB.far hg e.symm)
 obtain ⟨z, ⟨k0, k1, k2, k3, k4, k5, k6, k7, k8, k9, k10, k11, k12⟩, f0, f1, f2, f3, f4, f5, f6, f7, f8, f9, f10, f11, f12⟩ := B
 have k := fun o => World.cell?_of_block (a := ⟨g, o, none⟩) hb
 have f := fun o => World.frozen?_of_block (a := ⟨g, o, none⟩) hb
 exact ⟨Nat.lt_of_lt_of_le z h.size, ⟨(k 0).trans k0, (k 1).trans k1, (k 2).trans k2, (k 3).trans k3, (k 4).trans k4, (k 5).trans k5, (k 6).trans k6, (k 7).trans k7, (k 8).trans k8, (k 9).trans k9, (k 10).trans k10, (k 11).trans k11, (k 12).trans k12⟩, (f 0).trans f0, (f 1).trans f1, (f 2).trans f2, (f 3).trans f3, (f 4).trans f4, (f 5).trans f5, (f 6).trans f6, (f 7).trans f7, (f 8).trans f8, (f 9).trans f9, (f 10).trans f10, (f 11).trans f11, (f 12).trans f12⟩
theorem Rp.grownY {w0 W W' : World} {b base : Nat} {ts : List Tk} {d pa why : Int} {v : Value} {ps : List (T × Value)} (hS : Rp w0 b W ts d pa why) (h : W.grownBy W' v.ownBlock) (hB : OwY W base v ps) (hb : b < base) (h0 : w0.heap.size ≤ base) : Rp w0 b W' ts d pa why := by
 obtain ⟨h1, h2, h3, h4, h5, h6, h7, tb, off, c, n, i, all, g1, g2, g3, g4, g5, g6⟩ := hS
 obtain ⟨hz, ⟨b0, b1, b2, b3, b4⟩, f0, f1, f2, f3, f4⟩ := g6
 have k := fun o => (World.cell?_of_block (a := ⟨b, o, none⟩) (h.block b hz (fun e => hB.far hb e.symm)))
 have f := fun o => (World.frozen?_of_block (a := ⟨b, o, none⟩) (h.block b hz (fun e => hB.far hb e.symm)))
 refine ⟨⟨h.os.trans h1.os, h.tape.trans h1.tape, h.output.trans h1.output, Nat.le_trans h1.size h.size, fun i hi => ?_⟩, h2, h3, h4, h5, h6, h7, tb, off, c, n, i, all, g1, g2, g3, g4, g5, Nat.lt_of_lt_of_le hz h.size, ⟨(k 0).trans b0, (k 1).trans b1, (k 2).trans b2, (k 3).trans b3, (k 4).trans b4⟩, (f 0).trans f0, (f 1).trans f1, (f 2).trans f2, (f 3).trans f3, (f 4).trans f4⟩
 exact (h.block i (Nat.lt_of_lt_of_le hi h1.size) (fun e => hB.far (Nat.lt_of_lt_of_le hi h0) e.symm)).trans (h1.block i hi)
theorem y_append {ops : Array Oper} {rest : List Oper} {o : Oper} {a : Act} {Q : Exit → Act → World → Prop} (W : World) (base : Nat) (s y : Operand) (v : Value) (b : Nat) (ps : List (T × Value)) (x : T) (pp : Option Addr) (ln cl : Nat) (hgd : o.guard = none)
   (ho : o.op = .call { callee := .builtin .append, args := #[s, y], argTypes := #[27, 27] })
   (hs : a.eval s = v) (hx : a.eval y = .slice (some ⟨b, 0, none⟩) 1 1) (hB : OwY W base v ps)
   (hR : ∀ j u, (cellsT x (.slice pp ln cl))[j]? = some u → W.cell? ((⟨b, 0, none⟩ : Addr).add j) = some u) (hlen : ps.length ≤ 100000) (hbase : base ≤ W.heap.size)
   (h : ∀ v' W', OwY W' base v' (ps ++ [(x, .slice pp ln cl)]) → W.grownBy W' v.ownBlock → (∃ g cap, v' = .slice (some ⟨g, 0, none⟩) (ps.length + 1) cap) → (∀ k, k < W.heap.size → v.ownBlock ≠ some k → v'.ownBlock ≠ some k) → wpList Try.prog ops Q rest (a.put o.dst v') W') : wpList Try.prog ops Q (o :: rest) a W := by
 obtain ⟨i, hi, hz, h1, h2⟩ := info_x
 refine wpList_append_own_at W hgd s y 27 ho base 29 i _ 13 112 Try.underlying27 hi hz h1 h2 rfl (by decide) v ps.length (flatX ps) hs hB ⟨b, 0, none⟩ 1 1 (cellsT x (.slice pp ln cl)) hx rfl hR ?_ (by unfold maxLen; omega) (by omega) hbase ?_
 · intro u hu
   simp [cellsT] at hu
   rcases hu with rfl | rfl | rfl | rfl | rfl | rfl | rfl | rfl | rfl | rfl | rfl | rfl | rfl <;> rfl
 intro v' W' h3 h4 h5 h6
 have hsz : ∀ k, k < W.heap.size → v.ownBlock ≠ some k → v'.ownBlock ≠ some k := by
   intro k hk hv
   rcases h6 with h6 | h6
   · rw [h6]; exact hv
   · rw [h6]; simp; omega
 have hO : OwY W' base v' (ps ++ [(x, .slice pp ln cl)]) := by
   unfold OwY
   rw [List.length_append, flatX_append]
   exact h3
 refine h v' W' hO h4 ?_ hsz
 rcases h3.2 with ⟨_, h0⟩ | ⟨g, cap, cur, hv, _⟩
 · omega
 · exact ⟨g, cap, hv⟩
theorem own_up {W W' : World} {base : Nat} {v v' y : Value} {l : List T} (h4 : W.grownBy W' v.ownBlock) (hsz : ∀ k, k < W.heap.size → v.ownBlock ≠ some k → v'.ownBlock ≠ some k) (hy : IsL W (fun k => base ≤ k ∧ v.ownBlock ≠ some k) y l) : IsL W' (fun k => base ≤ k ∧ v'.ownBlock ≠ some k) y l :=
 hy.keep h4.size (fun k hk hs => h4.block k hs (fun e => hk.2 e.symm)) (fun k hk hs => ⟨hk.1, hsz k hs hk.2⟩)
def muR (b : Nat) (w : World) : Nat := leftR b w + (match w.cell? ⟨b, 4, none⟩ with
 | some (.int _ y) => if y = 0 then 1 else 0
 | _ => 0)
theorem Rp.mu {w0 W : World} {b : Nat} {ts : List Tk} {d pa why : Int} (h : Rp w0 b W ts d pa why) : muR b W = ts.length + (if why = 0 then 1 else 0) := by
 unfold muR
 rw [h.left]
 obtain ⟨h1, h2, h3, h4, h5, h6, h7, tb, off, c, n, i, all, g1, g2, g3, g4, g5, g6⟩ := h
 rw [g6.2.1.2.2.2.2]
theorem rknown_none (s : List UInt8) (W : World) (h : kno s = none) : Calls Try.prog 73 #[.string (bs s)] W fun e w' => e = .returned (.tuple #[.int .i64 0, .int .i64 0, .bool false]) ∧ w' = W := by
 have := rknown_any (bs s) W
 rw [bs_list] at this
 unfold knA knB at this
 rw [h] at this
 exact this
theorem rknown_some (s : List UInt8) (W : World) (a m : Nat) (h : kno s = some (a, m)) : Calls Try.prog 73 #[.string (bs s)] W fun e w' => e = .returned (.tuple #[.int .i64 (a : Int), .int .i64 (m : Int), .bool true]) ∧ w' = W := by
 have := rknown_any (bs s) W
 rw [bs_list] at this
 unfold knA knB at this
 rw [h] at this
 exact this
set_option maxRecDepth 100000 in
theorem word_true (w0 : World) (b n : Nat) (hX : ExC w0 b n n) (W : World) (ts : List Tk) (d : Nat) (pa : Int) (h : Rp w0 b W ts d pa 0) (hts : ts.length ≤ n + 1) (hd4 : d ≤ 40) (hk : (hd ts).1 = 2) (hw : (hd ts).2.2.1 = wTrue) :
   Calls Try.prog 54 #[.pointer (some ⟨b, 0, none⟩), .string (bs (hd ts).2.2.1)] W (RX w0 b W ts.length (d - 1) d (wrd (frm (O n)) d ts)) := by
 have HR : Hid (Rp w0 b W ts d pa 0) := h
 have HN : Hid (ts.length ≤ n + 1 ∧ d ≤ 40 ∧ w0.heap.size ≤ W.heap.size) := ⟨hts, hd4, h.1.sz⟩
 have HX : Hid (ExC w0 b n n) := hX
 have hbW : b < W.heap.size := h.lt.1
 have hgW : W.heap.size ≠ b := by omega
 have HT : Hid (Nz ts.tail ∧ ts.tail.length + 1 = ts.length ∧ nx ts = ts.tail) := ⟨(h.2.2.1.tail (by rw [hk]; decide)).1, (h.2.2.1.tail (by rw [hk]; decide)).2, nx_tail h.2.2.1 (by rw [hk]; decide)⟩
 have cP := fun V => rparse_rf (hd ts).2.2.1 V (h.2.2.2.2.1 _ (hd_mem h.2.2.1.pos)).1
 have HXX : Hid (wrd (frm (O n)) d ts = .ok (tBool 1, ts.tail)) := by
   show _ = _
   unfold wrd one
   rw [tk1_ok hd4]
   rw [if_pos hw]
 have e1 : ((bs (hd ts).2.2.1).toList == [84, 82, 85, 69]) = true := by rw [bs_tl, hw]; rfl
 have e2 : ((bs (hd ts).2.2.1).toList == [70, 65, 76, 83, 69]) = false := by rw [bs_tl, hw]; rfl
 clear hw
 clear hts hd4 hX h hk
 obtain ⟨s, hs⟩ : ∃ s, (hd ts).2.2.1 = s := ⟨_, rfl⟩
 have HSS : Hid ((hd ts).2.2.1 = s) := hs
 rw [hs] at cP e1 e2 ⊢
 clear hs
 generalize bs s = q at *
 go_enter Try.func54, Try.ntmps54
 go_wp2_with fail
 refine (rnext_any (HR.out.ext ((Ext.refl _).alloc _))).mono ?_
 rintro e w2 ⟨rfl, R2, X2⟩
 have H2 : Hid (Rp w0 b w2 (nx ts) d pa 0 ∧ ExtB b W w2 ∧ BlkX w2 W.heap.size tz (.slice none 0 0)) := ⟨R2, (Ext.toB ((Ext.refl W).alloc _) b).trans X2, (BlkX.top rfl (Ext.refl _)).extB X2 hgW⟩
 skip
 have HB0 := H2.out.2.2
 obtain ⟨qa, ⟨la0, la1, la2, la3, la4, la5, la6, la7, la8, la9, la10, la11, la12⟩, ga0, ga1, ga2, ga3, ga4, ga5, ga6, ga7, ga8, ga9, ga10, ga11, ga12⟩ := HB0
 clear R2 X2
 go_wp2_with fail
 show bodyPost Try.prog _ _ _ _ (putX w2 W.heap.size (tBool 1) (.slice none 0 0))
 have R3 := H2.out.1
 rw [HT.out.2.2] at R3
 rw [HXX.out]
 exact endR (H2.out.2.2.put (tBool 1) (.slice none 0 0)) rfl ⟨putX_B H2.out.2.1 (Nat.le_refl _) _ _, ⟨_, rfl, .nil⟩, pa, putX_R R3 hgW HN.out.2.2 _ _⟩ (fun h0 h1 h2 h3 h4 h5 h6 h7 h8 h9 h10 h11 h12 => by simp [results, Try.results54, go_sem, h0, h1, h2, h3, h4, h5, h6, h7, h8, h9, h10, h11, h12, aggX])
set_option maxRecDepth 100000 in
theorem word_false (w0 : World) (b n : Nat) (hX : ExC w0 b n n) (W : World) (ts : List Tk) (d : Nat) (pa : Int) (h : Rp w0 b W ts d pa 0) (hts : ts.length ≤ n + 1) (hd4 : d ≤ 40) (hk : (hd ts).1 = 2) (hw : (hd ts).2.2.1 = wFalse) :
   Calls Try.prog 54 #[.pointer (some ⟨b, 0, none⟩), .string (bs (hd ts).2.2.1)] W (RX w0 b W ts.length (d - 1) d (wrd (frm (O n)) d ts)) := by
 have HR : Hid (Rp w0 b W ts d pa 0) := h
 have HN : Hid (ts.length ≤ n + 1 ∧ d ≤ 40 ∧ w0.heap.size ≤ W.heap.size) := ⟨hts, hd4, h.1.sz⟩
 have HX : Hid (ExC w0 b n n) := hX
 have hbW : b < W.heap.size := h.lt.1
 have hgW : W.heap.size ≠ b := by omega
 have HT : Hid (Nz ts.tail ∧ ts.tail.length + 1 = ts.length ∧ nx ts = ts.tail) := ⟨(h.2.2.1.tail (by rw [hk]; decide)).1, (h.2.2.1.tail (by rw [hk]; decide)).2, nx_tail h.2.2.1 (by rw [hk]; decide)⟩
 have cP := fun V => rparse_rf (hd ts).2.2.1 V (h.2.2.2.2.1 _ (hd_mem h.2.2.1.pos)).1
 have HXX : Hid (wrd (frm (O n)) d ts = .ok (tBool 0, ts.tail)) := by
   show _ = _
   unfold wrd one
   rw [tk1_ok hd4]
   rw [if_neg (by rw [hw]; decide), if_pos hw]
 have e1 : ((bs (hd ts).2.2.1).toList == [84, 82, 85, 69]) = false := by rw [bs_tl, hw]; rfl
 have e2 : ((bs (hd ts).2.2.1).toList == [70, 65, 76, 83, 69]) = true := by rw [bs_tl, hw]; rfl
 clear hw
 clear hts hd4 hX h hk
 obtain ⟨s, hs⟩ : ∃ s, (hd ts).2.2.1 = s := ⟨_, rfl⟩
 have HSS : Hid ((hd ts).2.2.1 = s) := hs
 rw [hs] at cP e1 e2 ⊢
 clear hs
 generalize bs s = q at *
 go_enter Try.func54, Try.ntmps54
 go_wp2_with fail
 refine (rnext_any (HR.out.ext ((Ext.refl _).alloc _))).mono ?_
 rintro e w2 ⟨rfl, R2, X2⟩
 have H2 : Hid (Rp w0 b w2 (nx ts) d pa 0 ∧ ExtB b W w2 ∧ BlkX w2 W.heap.size tz (.slice none 0 0)) := ⟨R2, (Ext.toB ((Ext.refl W).alloc _) b).trans X2, (BlkX.top rfl (Ext.refl _)).extB X2 hgW⟩
 skip
 have HB0 := H2.out.2.2
 obtain ⟨qa, ⟨la0, la1, la2, la3, la4, la5, la6, la7, la8, la9, la10, la11, la12⟩, ga0, ga1, ga2, ga3, ga4, ga5, ga6, ga7, ga8, ga9, ga10, ga11, ga12⟩ := HB0
 clear R2 X2
 go_wp2_with fail
 show bodyPost Try.prog _ _ _ _ (putX w2 W.heap.size (tBool 0) (.slice none 0 0))
 have R3 := H2.out.1
 rw [HT.out.2.2] at R3
 rw [HXX.out]
 exact endR (H2.out.2.2.put (tBool 0) (.slice none 0 0)) rfl ⟨putX_B H2.out.2.1 (Nat.le_refl _) _ _, ⟨_, rfl, .nil⟩, pa, putX_R R3 hgW HN.out.2.2 _ _⟩ (fun h0 h1 h2 h3 h4 h5 h6 h7 h8 h9 h10 h11 h12 => by simp [results, Try.results54, go_sem, h0, h1, h2, h3, h4, h5, h6, h7, h8, h9, h10, h11, h12, aggX])
set_option maxRecDepth 100000 in
theorem word_ref (w0 : World) (b n : Nat) (hX : ExC w0 b n n) (W : World) (ts : List Tk) (d : Nat) (pa : Int) (h : Rp w0 b W ts d pa 0) (hts : ts.length ≤ n + 1) (hd4 : d ≤ 40) (hk : (hd ts).1 = 2) (ho : okP (hd ts).2.2.1 = true) :
   Calls Try.prog 54 #[.pointer (some ⟨b, 0, none⟩), .string (bs (hd ts).2.2.1)] W (RX w0 b W ts.length (d - 1) d (wrd (frm (O n)) d ts)) := by
 have HR : Hid (Rp w0 b W ts d pa 0) := h
 have HN : Hid (ts.length ≤ n + 1 ∧ d ≤ 40 ∧ w0.heap.size ≤ W.heap.size) := ⟨hts, hd4, h.1.sz⟩
 have HX : Hid (ExC w0 b n n) := hX
 have hbW : b < W.heap.size := h.lt.1
 have hgW : W.heap.size ≠ b := by omega
 have HT : Hid (Nz ts.tail ∧ ts.tail.length + 1 = ts.length ∧ nx ts = ts.tail) := ⟨(h.2.2.1.tail (by rw [hk]; decide)).1, (h.2.2.1.tail (by rw [hk]; decide)).2, nx_tail h.2.2.1 (by rw [hk]; decide)⟩
 have cP := fun V => rparse_rf (hd ts).2.2.1 V (h.2.2.2.2.1 _ (hd_mem h.2.2.1.pos)).1
 obtain ⟨hk1, hk2, hk3⟩ := kno_ok ho
 have HXX : Hid (wrd (frm (O n)) d ts = .ok (tRef (rfP (hd ts).2.2.1), ts.tail)) := by
   show _ = _
   unfold wrd refr
   rw [tk1_ok hd4, if_neg hk2, if_neg hk3, hk1, if_pos ⟨hk, ho⟩]
 have e1 : ((bs (hd ts).2.2.1).toList == [84, 82, 85, 69]) = false := by rw [bs_tl]; simpa [wTrue] using hk2
 have e2 : ((bs (hd ts).2.2.1).toList == [70, 65, 76, 83, 69]) = false := by rw [bs_tl]; simpa [wFalse] using hk3
 have HPF : Hid (prf (hd ts).2.2.1 = rfP (hd ts).2.2.1) := if_pos ho
 rw [ho] at cP
 clear ho hk1 hk2 hk3
 clear hts hd4 hX h hk
 obtain ⟨s, hs⟩ : ∃ s, (hd ts).2.2.1 = s := ⟨_, rfl⟩
 have HSS : Hid ((hd ts).2.2.1 = s) := hs
 rw [hs] at cP e1 e2 HXX HPF ⊢
 clear hs
 have es : (bs s).data.toList = s := rfl
 obtain ⟨r, hr⟩ : ∃ r, prf s = r := ⟨_, rfl⟩
 have HRF : Hid (prf s = r) := hr
 rw [hr] at cP
 clear hr es
 generalize bs s = q at *
 go_enter Try.func54, Try.ntmps54
 go_wp2_with fail
 refine (cP _).mono ?_
 rintro e w1 ⟨rfl, E1⟩
 have hw1 : W.heap.size + 1 ≤ w1.heap.size := by have := E1.size; simp at this; omega
 have E3 : Ext w1 (w1.alloc (.cells #[.int .i64 r.1, .int .i64 r.2.1, .bool r.2.2.1, .bool r.2.2.2] 26)) := (Ext.refl _).alloc _
 have B3 := blk_top (b := w1.heap.size) rfl (Ext.refl (w1.alloc (.cells #[.int .i64 r.1, .int .i64 r.2.1, .bool r.2.2.1, .bool r.2.2.2] 26)))
 have HV : Hid (BlkX (w1.alloc (.cells #[.int .i64 r.1, .int .i64 r.2.1, .bool r.2.2.1, .bool r.2.2.2] 26)) W.heap.size tz (.slice none 0 0) ∧ Ext W (w1.alloc (.cells #[.int .i64 r.1, .int .i64 r.2.1, .bool r.2.2.1, .bool r.2.2.2] 26)) ∧ Blk (w1.alloc (.cells #[.int .i64 r.1, .int .i64 r.2.1, .bool r.2.2.1, .bool r.2.2.2] 26)) w1.heap.size (.int .i64 r.1) (.int .i64 r.2.1) (.bool r.2.2.1) (.bool r.2.2.2)) := ⟨(BlkX.top rfl E1).ext E3, (((Ext.refl _).alloc _).trans E1).trans E3, B3⟩
 clear E1 E3 B3 cP
 go_wp2_with fail
 refine (rnext_any (HR.out.ext HV.out.2.1)).mono ?_
 rintro e w2 ⟨rfl, R2, X2⟩
 have H2 : Hid (Rp w0 b w2 (nx ts) d pa 0 ∧ ExtB b W w2 ∧ BlkX w2 W.heap.size tz (.slice none 0 0)) := ⟨R2, (Ext.toB HV.out.2.1 b).trans X2, (HV.out.1).extB X2 hgW⟩
 obtain ⟨zr, ⟨p0, p1, p2, p3⟩, zrf⟩ := HV.out.2.2.extB X2 (by omega)
 clear zrf
 have HB0 := H2.out.2.2
 obtain ⟨qa, ⟨la0, la1, la2, la3, la4, la5, la6, la7, la8, la9, la10, la11, la12⟩, ga0, ga1, ga2, ga3, ga4, ga5, ga6, ga7, ga8, ga9, ga10, ga11, ga12⟩ := HB0
 clear R2 X2
 go_wp2_with fail
 show bodyPost Try.prog _ _ _ _ (putX w2 W.heap.size (tRef r) (.slice none 0 0))
 have R3 := H2.out.1
 rw [HT.out.2.2] at R3
 rw [HXX.out, ← HPF.out, HRF.out]
 exact endR (H2.out.2.2.put (tRef r) (.slice none 0 0)) rfl ⟨putX_B H2.out.2.1 (Nat.le_refl _) _ _, ⟨_, rfl, .nil⟩, pa, putX_R R3 hgW HN.out.2.2 _ _⟩ (fun h0 h1 h2 h3 h4 h5 h6 h7 h8 h9 h10 h11 h12 => by simp [results, Try.results54, go_sem, h0, h1, h2, h3, h4, h5, h6, h7, h8, h9, h10, h11, h12, aggX])
set_option maxRecDepth 100000 in
theorem word_none (w0 : World) (b n : Nat) (hX : ExC w0 b n n) (W : World) (ts : List Tk) (d : Nat) (pa : Int) (h : Rp w0 b W ts d pa 0) (hts : ts.length ≤ n + 1) (hd4 : d ≤ 40) (hk : (hd ts).1 = 2) (ho : okP (hd ts).2.2.1 = false) (h1 : (hd ts).2.2.1 ≠ wTrue) (h2 : (hd ts).2.2.1 ≠ wFalse) (h3 : kno (hd ts).2.2.1 = none) :
   Calls Try.prog 54 #[.pointer (some ⟨b, 0, none⟩), .string (bs (hd ts).2.2.1)] W (RX w0 b W ts.length (d - 1) d (wrd (frm (O n)) d ts)) := by
 have HR : Hid (Rp w0 b W ts d pa 0) := h
 have HN : Hid (ts.length ≤ n + 1 ∧ d ≤ 40 ∧ w0.heap.size ≤ W.heap.size) := ⟨hts, hd4, h.1.sz⟩
 have HX : Hid (ExC w0 b n n) := hX
 have hbW : b < W.heap.size := h.lt.1
 have hgW : W.heap.size ≠ b := by omega
 have HT : Hid (Nz ts.tail ∧ ts.tail.length + 1 = ts.length ∧ nx ts = ts.tail) := ⟨(h.2.2.1.tail (by rw [hk]; decide)).1, (h.2.2.1.tail (by rw [hk]; decide)).2, nx_tail h.2.2.1 (by rw [hk]; decide)⟩
 have cP := fun V => rparse_rf (hd ts).2.2.1 V (h.2.2.2.2.1 _ (hd_mem h.2.2.1.pos)).1
 have HXX : Hid (∃ f, wrd (frm (O n)) d ts = .error f) := by
   show ∃ f, _
   unfold wrd refr
   rw [if_neg h1, if_neg h2, h3, if_neg (by rintro ⟨_, h⟩; rw [ho] at h; cases h)]
   exact ⟨_, rfl⟩
 have e1 : ((bs (hd ts).2.2.1).toList == [84, 82, 85, 69]) = false := by rw [bs_tl]; simpa [wTrue] using h1
 have e2 : ((bs (hd ts).2.2.1).toList == [70, 65, 76, 83, 69]) = false := by rw [bs_tl]; simpa [wFalse] using h2
 have cK := fun V => rknown_none (hd ts).2.2.1 V h3
 rw [ho] at cP
 clear ho h1 h2 h3
 clear hts hd4 hX h hk
 obtain ⟨s, hs⟩ : ∃ s, (hd ts).2.2.1 = s := ⟨_, rfl⟩
 have HSS : Hid ((hd ts).2.2.1 = s) := hs
 rw [hs] at cP e1 e2 cK ⊢
 clear hs
 have es : (bs s).data.toList = s := rfl
 obtain ⟨r, hr⟩ : ∃ r, prf s = r := ⟨_, rfl⟩
 have HRF : Hid (prf s = r) := hr
 rw [hr] at cP
 clear hr es
 generalize bs s = q at *
 go_enter Try.func54, Try.ntmps54
 go_wp2_with fail
 refine (cP _).mono ?_
 rintro e w1 ⟨rfl, E1⟩
 have hw1 : W.heap.size + 1 ≤ w1.heap.size := by have := E1.size; simp at this; omega
 have E3 : Ext w1 (w1.alloc (.cells #[.int .i64 r.1, .int .i64 r.2.1, .bool r.2.2.1, .bool r.2.2.2] 26)) := (Ext.refl _).alloc _
 have B3 := blk_top (b := w1.heap.size) rfl (Ext.refl (w1.alloc (.cells #[.int .i64 r.1, .int .i64 r.2.1, .bool r.2.2.1, .bool r.2.2.2] 26)))
 have HV : Hid (BlkX (w1.alloc (.cells #[.int .i64 r.1, .int .i64 r.2.1, .bool r.2.2.1, .bool r.2.2.2] 26)) W.heap.size tz (.slice none 0 0) ∧ Ext W (w1.alloc (.cells #[.int .i64 r.1, .int .i64 r.2.1, .bool r.2.2.1, .bool r.2.2.2] 26)) ∧ Blk (w1.alloc (.cells #[.int .i64 r.1, .int .i64 r.2.1, .bool r.2.2.1, .bool r.2.2.2] 26)) w1.heap.size (.int .i64 r.1) (.int .i64 r.2.1) (.bool r.2.2.1) (.bool r.2.2.2)) := ⟨(BlkX.top rfl E1).ext E3, (((Ext.refl _).alloc _).trans E1).trans E3, B3⟩
 clear E1 E3 B3 cP
 go_wp2_with fail
 refine (cK _).mono ?_
 rintro e wk ⟨rfl, rfl⟩
 go_wp2_with fail
 refine (rbad_any (HR.out.ext HV.out.2.1) 4).mono ?_
 rintro e w2 ⟨rfl, R2, X2⟩
 have H2 : Hid (ExtB b W w2 ∧ BlkX w2 W.heap.size tz (.slice none 0 0) ∧ ∃ pa' why', why' ≠ 0 ∧ Rp w0 b w2 ts d pa' why') := ⟨(HV.out.2.1.toB b).trans X2, HV.out.1.extB X2 hgW, _, _, by decide, R2⟩
 have HB0 := H2.out.2.1
 obtain ⟨qa, ⟨la0, la1, la2, la3, la4, la5, la6, la7, la8, la9, la10, la11, la12⟩, ga0, ga1, ga2, ga3, ga4, ga5, ga6, ga7, ga8, ga9, ga10, ga11, ga12⟩ := HB0
 clear R2 X2
 go_wp2_with fail
 show bodyPost Try.prog _ _ _ _ (putX w2 W.heap.size tz (.slice none 0 0))
 obtain ⟨f, hf⟩ := HXX.out
 obtain ⟨pa', why', z1, z2⟩ := H2.out.2.2
 exact endR (H2.out.2.1.put tz (.slice none 0 0)) rfl (RY.back ⟨putX_B H2.out.1 (Nat.le_refl _) _ _, .inr ⟨f, ts, d, pa', why', hf, by omega, Int.le_refl _, z1, Nat.le_refl _, putX_R z2 hgW HN.out.2.2 _ _⟩⟩) (fun h0 h1 h2 h3 h4 h5 h6 h7 h8 h9 h10 h11 h12 => by simp [results, Try.results54, go_sem, h0, h1, h2, h3, h4, h5, h6, h7, h8, h9, h10, h11, h12, aggX])
set_option maxRecDepth 100000 in
theorem word_call (w0 : World) (b n : Nat) (hX : ExC w0 b n n) (W : World) (ts : List Tk) (d : Nat) (pa : Int) (h : Rp w0 b W ts d pa 0) (hts : ts.length ≤ n + 1) (hd4 : d ≤ 40) (hk : (hd ts).1 = 2) (a m : Nat) (hkn : kno (hd ts).2.2.1 = some (a, m)) :
   Calls Try.prog 54 #[.pointer (some ⟨b, 0, none⟩), .string (bs (hd ts).2.2.1)] W (RX w0 b W ts.length (d - 1) d (wrd (frm (O n)) d ts)) := by
 have HR : Hid (Rp w0 b W ts d pa 0) := h
 have HN : Hid (ts.length ≤ n + 1 ∧ d ≤ 40 ∧ w0.heap.size ≤ W.heap.size) := ⟨hts, hd4, h.1.sz⟩
 have HX : Hid (ExC w0 b n n) := hX
 have hbW : b < W.heap.size := h.lt.1
 have hgW : W.heap.size ≠ b := by omega
 have HT : Hid (Nz ts.tail ∧ ts.tail.length + 1 = ts.length ∧ nx ts = ts.tail) := ⟨(h.2.2.1.tail (by rw [hk]; decide)).1, (h.2.2.1.tail (by rw [hk]; decide)).2, nx_tail h.2.2.1 (by rw [hk]; decide)⟩
 have cP := fun V => rparse_rf (hd ts).2.2.1 V (h.2.2.2.2.1 _ (hd_mem h.2.2.1.pos)).1
 obtain ⟨ka, kb, kc, h1, h2, ho⟩ := kno_bd hkn
 simp only at ka kb kc
 have hbrk : wrd (frm (O n)) d ts = brk (call (frm (O n)) (hd ts).2.2.1 a m) d ts.tail := by
   unfold wrd
   rw [if_neg h1, if_neg h2, hkn]
   show (match tk1 d ts with | .error e => (.error e : Rs) | .ok ts1 => brk (call (frm (O n)) (hd ts).2.2.1 a m) d ts1) = _
   rw [tk1_ok hd4]
 have HNO : Hid (isSg [40] ts.tail = false → ∃ f, wrd (frm (O n)) d ts = .error f) := by
   intro h40
   rw [hbrk]
   unfold brk pass1
   rw [h40]
   exact ⟨_, rfl⟩
 have hyes : isSg [40] ts.tail = true → wrd (frm (O n)) d ts = match args (frm (O n)) a m (d + 1) ts.tail.tail with | .error e => .error e | .ok (l, us) => if isSg [41] us = true then .ok (tCall (hd ts).2.2.1 l, us.tail) else .error (ft us false) := by
   intro h40
   rw [hbrk]
   unfold brk pass1 call
   rw [h40, if_pos rfl, tk1_ok hd4]
   dsimp only
   cases args (frm (O n)) a m (d + 1) ts.tail.tail with
   | error e => rfl
   | ok q =>
     obtain ⟨l, us⟩ := q
     dsimp only
     rw [tk1_ok hd4]
     cases isSg [41] us <;> rfl
 have HWR : Hid ((isSg [40] ts.tail = true → (∃ f, args (frm (O n)) a m (d + 1) ts.tail.tail = .error f) → ∃ f, wrd (frm (O n)) d ts = .error f) ∧ (∀ l us, isSg [40] ts.tail = true → args (frm (O n)) a m (d + 1) ts.tail.tail = .ok (l, us) → isSg [41] us = true → wrd (frm (O n)) d ts = .ok (tCall (hd ts).2.2.1 l, us.tail)) ∧ (∀ l us, isSg [40] ts.tail = true → args (frm (O n)) a m (d + 1) ts.tail.tail = .ok (l, us) → isSg [41] us = false → ∃ f, wrd (frm (O n)) d ts = .error f)) := by
   refine ⟨fun q1 q2 => ?_, fun l us q1 q2 q3 => ?_, fun l us q1 q2 q3 => ?_⟩
   · obtain ⟨f, hf⟩ := q2
     rw [hyes q1, hf]
     exact ⟨_, rfl⟩
   · rw [hyes q1, q2]
     show (if isSg [41] us = true then _ else _) = _
     rw [if_pos q3]
   · rw [hyes q1, q2]
     refine ⟨ft us false, ?_⟩
     show (if isSg [41] us = true then _ else _) = _
     rw [if_neg (by rw [q3]; decide)]
 have HT2 : Hid (isSg [40] ts.tail = true → Nz ts.tail.tail ∧ ts.tail.tail.length + 1 = ts.tail.length ∧ nx ts.tail = ts.tail.tail ∧ ts.tail.tail.length ≤ n) := by
   intro h40
   have z := HT.out.1.tail (by rw [(isSg_k h40).1]; decide)
   exact ⟨z.1, z.2, nx_tail HT.out.1 (by rw [(isSg_k h40).1]; decide), by have := HT.out.2.1; have := z.2; omega⟩
 have HAD : Hid (d + 1 ≤ 40 → isSg [40] ts.tail = true → Eqv (args (frm (O n)) a m (d + 1) ts.tail.tail) (docA (frm (O n)) a m (d + 1) ts.tail.tail)) := fun q1 q2 => args_doc (frm_sh (O_sh n)) q1 kb (HT2.out q2).1 (HT2.out q2).2.2.2
 have HDP : Hid (40 < d + 1 → isSg [40] ts.tail = true → ∃ f, wrd (frm (O n)) d ts = .error f) := by
   intro q1 q2
   refine HWR.out.1 q2 ?_
   obtain ⟨f, hf⟩ := LvK_deep n (d + 1) 1 q1 ts.tail.tail
   have hf2 : frm (O n) (d + 1) ts.tail.tail = .error f := hf
   unfold args argm
   rw [hf2]
   exact ⟨_, rfl⟩
 have HAM : Hid (1 ≤ a ∧ a ≤ m ∧ m ≤ 20) := ⟨ka, kb, kc⟩
 have e1 : ((bs (hd ts).2.2.1).toList == [84, 82, 85, 69]) = false := by rw [bs_tl]; simpa [wTrue] using h1
 have e2 : ((bs (hd ts).2.2.1).toList == [70, 65, 76, 83, 69]) = false := by rw [bs_tl]; simpa [wFalse] using h2
 have cK := fun V => rknown_some (hd ts).2.2.1 V a m hkn
 rw [ho] at cP
 have ham : a ≤ 20 := by omega
 have hmm : m ≤ 20 := kc
 clear ho h1 h2 hkn hbrk hyes ka kb kc
 clear hts hd4 hX h hk
 obtain ⟨s, hs⟩ : ∃ s, (hd ts).2.2.1 = s := ⟨_, rfl⟩
 have HSS : Hid ((hd ts).2.2.1 = s) := hs
 rw [hs] at cP e1 e2 cK ⊢
 clear hs
 have es : (bs s).data.toList = s := rfl
 obtain ⟨r, hr⟩ : ∃ r, prf s = r := ⟨_, rfl⟩
 have HRF : Hid (prf s = r) := hr
 rw [hr] at cP
 clear hr es
 go_enter Try.func54, Try.ntmps54
 go_wp2_with fail
 refine (cP _).mono ?_
 rintro e w1 ⟨rfl, E1⟩
 have hw1 : W.heap.size + 1 ≤ w1.heap.size := by have := E1.size; simp at this; omega
 have E3 : Ext w1 (w1.alloc (.cells #[.int .i64 r.1, .int .i64 r.2.1, .bool r.2.2.1, .bool r.2.2.2] 26)) := (Ext.refl _).alloc _
 have B3 := blk_top (b := w1.heap.size) rfl (Ext.refl (w1.alloc (.cells #[.int .i64 r.1, .int .i64 r.2.1, .bool r.2.2.1, .bool r.2.2.2] 26)))
 have HV : Hid (BlkX (w1.alloc (.cells #[.int .i64 r.1, .int .i64 r.2.1, .bool r.2.2.1, .bool r.2.2.2] 26)) W.heap.size tz (.slice none 0 0) ∧ Ext W (w1.alloc (.cells #[.int .i64 r.1, .int .i64 r.2.1, .bool r.2.2.1, .bool r.2.2.2] 26)) ∧ Blk (w1.alloc (.cells #[.int .i64 r.1, .int .i64 r.2.1, .bool r.2.2.1, .bool r.2.2.2] 26)) w1.heap.size (.int .i64 r.1) (.int .i64 r.2.1) (.bool r.2.2.1) (.bool r.2.2.2)) := ⟨(BlkX.top rfl E1).ext E3, (((Ext.refl _).alloc _).trans E1).trans E3, B3⟩
 clear E1 E3 B3 cP
 go_wp2_with fail
 refine (cK _).mono ?_
 rintro e wk ⟨rfl, rfl⟩
 clear cK
 go_wp2_with fail
 refine (rnext_any (HR.out.ext HV.out.2.1)).mono ?_
 rintro e w2 ⟨rfl, R2, X2⟩
 rw [HT.out.2.2] at R2
 have H2 : Hid (Rp w0 b w2 ts.tail d pa 0 ∧ ExtB b W w2 ∧ BlkX w2 W.heap.size tz (.slice none 0 0)) := ⟨R2, (HV.out.2.1.toB b).trans X2, HV.out.1.extB X2 hgW⟩
 clear R2 X2 HV HRF
 go_wp2_with fail
 refine (rwant_any H2.out.1 ⟨#[40]⟩).mono ?_
 rintro e w3 ⟨rfl, X3, D3⟩
 obtain ⟨us, pa3, why, R3, HS3⟩ : ∃ us pa3 why, Rp w0 b w3 us d pa3 why ∧ Hid ((why = 0 ∧ us = ts.tail.tail ∧ isSg [40] ts.tail = true) ∨ (why ≠ 0 ∧ us = ts.tail ∧ ∃ f, wrd (frm (O n)) d ts = .error f)) := by
   rcases D3 with ⟨q1, q2⟩ | ⟨q1, pa', why', q2, q3⟩
   · unfold sgn at q1
     split at q1
     · rename_i h3
       have hc : isSg [40] ts.tail = true := by unfold isSg; rw [h3.2, q1]; rfl
       exact ⟨_, _, 0, q2, .inl ⟨rfl, (HT2.out hc).2.2.1, hc⟩⟩
     · cases q1
   · refine ⟨_, _, why', q3, .inr ⟨q2, rfl, HNO.out ?_⟩⟩
     cases hc : isSg [40] ts.tail with
     | false => rfl
     | true => exact absurd (by unfold sgn; rw [if_pos ⟨rfl, (isSg_k hc).1⟩]; exact (isSg_k hc).2) q1
 have H3 : Hid (Rp w0 b w3 us d pa3 why ∧ ExtB b W w3 ∧ BlkX w3 W.heap.size tz (.slice none 0 0)) := ⟨R3, H2.out.2.1.trans X3, H2.out.2.2.extB X3 hgW⟩
 have HUL : Hid (us.length ≤ ts.length) := by
   show _ ≤ _
   have z := HT.out.2.1
   rcases HS3.out with ⟨_, hu, hc⟩ | ⟨_, hu, _⟩
   · rw [hu]; have := (HT2.out hc).2.1; omega
   · rw [hu]; omega
 obtain ⟨g0, g1, g2, g3, g4, g5, g6, tb, off, cc, nn, ii, all, u1, u2, u3, u4, u5, u6⟩ := R3
 obtain ⟨hz, ⟨b0, b1, b2, b3, b4⟩, f0, f1, f2, f3, f4⟩ := u6
 clear g0 g1 g2 g3 g4 g5 g6 u1 u2 u3 u4 u5
 clear X3 D3 H2
 go_upto_if 54 with fail
 go_cut [] (fun wx => ∃ us D pa' why, Rp w0 b wx us D pa' why ∧ us.length ≤ ts.length ∧ BlkX wx W.heap.size tz (.slice none 0 0) ∧ ExtB b W wx ∧ ((why = 0 ∧ D = (d : Int) + 1 ∧ d + 1 ≤ 40 ∧ us = ts.tail.tail ∧ isSg [40] ts.tail = true) ∨ (why ≠ 0 ∧ (d : Int) ≤ D ∧ D ≤ (d : Int) + 1 ∧ ∃ f, wrd (frm (O n)) d ts = .error f)))
 case first =>
   by_cases hw : why = 0
   · have w0' : (why == 0) = true := by rw [hw]; rfl
     have HW0 : Hid (why = 0) := hw
     clear hw
     go_wp2_with fail
     refine (rdown_any H3.out.1 (by have := HN.out.2.1; omega)).mono ?_
     rintro e w4 ⟨rfl, X4, D4⟩
     have HD4 : Hid ((d + 1 ≤ (40 : Int) ∧ Rp w0 b w4 us ((d : Int) + 1) pa3 why) ∨ (40 < (d : Int) + 1 ∧ ∃ pa' why', why' ≠ 0 ∧ Rp w0 b w4 us ((d : Int) + 1) pa' why')) := D4
     have HX4 : Hid (ExtB b w3 w4) := X4
     clear X4 D4 b0 b1 b2 b3 b4 f0 f1 f2 f3 f4 hz
     go_wp2_with fail
     go_meet
     case rel =>
       rcases HS3.out with ⟨_, hu, hc⟩ | ⟨hne, _⟩
       · rcases HD4.out with ⟨q1, q2⟩ | ⟨q1, pa', why', q2, q3⟩
         · exact ⟨us, _, pa3, why, q2, HUL.out, H3.out.2.2.extB HX4.out hgW, H3.out.2.1.trans HX4.out, .inl ⟨HW0.out, rfl, by omega, hu, hc⟩⟩
         · exact ⟨us, _, pa', why', q3, HUL.out, H3.out.2.2.extB HX4.out hgW, H3.out.2.1.trans HX4.out, .inr ⟨q2, by omega, by omega, HDP.out (by omega) hc⟩⟩
       · exact absurd HW0.out hne
   · have w0' : (why == 0) = false := by simpa using hw
     have HW0 : Hid (why ≠ 0) := hw
     clear hw
     go_wp2_with fail
     go_meet
     case rel =>
       rcases HS3.out with ⟨h0, _⟩ | ⟨hne, _, hr⟩
       · exact absurd h0 HW0.out
       · exact ⟨us, _, pa3, why, H3.out.1, HUL.out, H3.out.2.2, H3.out.2.1, .inr ⟨hne, by omega, by omega, hr⟩⟩
 case rest =>
   clear b0 b1 b2 b3 b4 f0 f1 f2 f3 f4 hz
   obtain ⟨us0, D0, pa0, why0, j1, j2, j3, j4, j5⟩ := hcut
   have HJ : Hid (Rp w0 b wc us0 D0 pa0 why0 ∧ us0.length ≤ ts.length ∧ BlkX wc W.heap.size tz (.slice none 0 0) ∧ ExtB b W wc) := ⟨j1, j2, j3, j4⟩
   have HJ5 : Hid ((why0 = 0 ∧ D0 = (d : Int) + 1 ∧ d + 1 ≤ 40 ∧ us0 = ts.tail.tail ∧ isSg [40] ts.tail = true) ∨ (why0 ≠ 0 ∧ (d : Int) ≤ D0 ∧ D0 ≤ (d : Int) + 1 ∧ ∃ f, wrd (frm (O n)) d ts = .error f)) := j5
   have hXW : W.heap.size < wc.heap.size := j3.1
   clear j1 j2 j3 j4 j5 H3 HS3 HUL
   have hXb : wc.heap.size ≠ b := by omega
   go_wp2_with fail
   go_loopw [11] (fun mv wr => ∃ (more : Bool) (us : List Tk) (D pa' why : Int) (v : Value) (ps : List (T × Value)), mv = .bool more ∧ BlkX wr wc.heap.size (tCall s []) v ∧ BlkX wr W.heap.size tz (.slice none 0 0) ∧ ExtB b W wr ∧ Rp w0 b wr us D pa' why ∧ us.length ≤ ts.length ∧ OwY wr (wc.heap.size + 1) v ps ∧ ps.length ≤ 20 ∧ ((more = true ∧ why = 0 ∧ D = (d : Int) + 1 ∧ d + 1 ≤ 40 ∧ ps.length < m ∧ us.length ≤ n ∧ (∀ p ∈ ps, IsL wr (fun k => wc.heap.size + 1 ≤ k ∧ v.ownBlock ≠ some k) p.2 p.1.l) ∧ (∃ f, us.length ≤ f ∧ docA (frm (O n)) a m (d + 1) ts.tail.tail = chk a (docL (frm (O n)) m (d + 1) f (ps.map Prod.fst) us)) ∧ isSg [40] ts.tail = true) ∨ (more = false ∧ why = 0 ∧ D = (d : Int) + 1 ∧ d + 1 ≤ 40 ∧ (∀ p ∈ ps, IsL wr (fun k => wc.heap.size + 1 ≤ k ∧ v.ownBlock ≠ some k) p.2 p.1.l) ∧ docA (frm (O n)) a m (d + 1) ts.tail.tail = chk a (.ok (ps.map Prod.fst, us)) ∧ isSg [40] ts.tail = true) ∨ (why ≠ 0 ∧ (d : Int) ≤ D ∧ D ≤ (d : Int) + 1 ∧ ∃ f, wrd (frm (O n)) d ts = .error f))) (fun _ wr => muR b wr)
   case atStart =>
     have E4 : Ext wc (wc.alloc (.cells #[.int .i64 8, .int .i64 0, .string (bs s), .int .i64 0, .int .i64 0, .int .i64 0, .bool false, .bool false, .int .i64 0, .int .i64 0, .bool false, .bool false, .slice none 0 0] 29)) := (Ext.refl _).alloc _
     refine ⟨true, us0, D0, pa0, why0, .slice none 0 0, [], rfl, ?_, HJ.out.2.2.1.ext E4, HJ.out.2.2.2.alloc _, HJ.out.1.ext E4, HJ.out.2.1, OwY.nil _ _, by simp, ?_⟩
     · exact blk13_top rfl (Ext.refl _)
     · rcases HJ5.out with ⟨z1, z2, z3, z4, z5⟩ | z
       · refine .inl ⟨rfl, z1, z2, z3, by have := HAM.out; show 0 < m; omega, by rw [z4]; exact (HT2.out z5).2.2.2, fun p hp => by simp at hp, ⟨us0.length, Nat.le_refl _, ?_⟩, z5⟩
         rw [z4]; rfl
       · exact .inr (.inr z)
   case round =>
     clear HJ HJ5
     generalize wc.heap.size = X at *
     obtain ⟨more, us, D, pa', why, v, ps, rfl, i1, i2, i3, i4, i5, i6, i7, i8⟩ := hrel
     have HO : Hid (BlkX wr X (tCall s []) v ∧ BlkX wr W.heap.size tz (.slice none 0 0) ∧ ExtB b W wr ∧ Rp w0 b wr us D pa' why ∧ us.length ≤ ts.length ∧ OwY wr (X + 1) v ps ∧ ps.length ≤ 20) := ⟨i1, i2, i3, i4, i5, i6, i7⟩
     have HRp : Hid (Rp w0 b wr us D pa' why) := i4
     have hXr : X < wr.heap.size := i1.1
     cases more with
     | false =>
       have HST : Hid ((why = 0 ∧ D = (d : Int) + 1 ∧ d + 1 ≤ 40 ∧ (∀ p ∈ ps, IsL wr (fun k => X + 1 ≤ k ∧ v.ownBlock ≠ some k) p.2 p.1.l) ∧ docA (frm (O n)) a m (d + 1) ts.tail.tail = chk a (.ok (ps.map Prod.fst, us)) ∧ isSg [40] ts.tail = true) ∨ (why ≠ 0 ∧ (d : Int) ≤ D ∧ D ≤ (d : Int) + 1 ∧ ∃ f, wrd (frm (O n)) d ts = .error f)) := by
         rcases i8 with ⟨z, _⟩ | ⟨_, z⟩ | z
         · cases z
         · exact .inl z
         · exact .inr z
       clear i1 i2 i3 i5 i6 i7 i8
       obtain ⟨g0, g1, g2, g3, g4, g5, g6, tb, off, cc, nn, ii, all, u1, u2, u3, u4, u5, u6⟩ := i4
       obtain ⟨hz, ⟨b0, b1, b2, b3, b4⟩, f0, f1, f2, f3, f4⟩ := u6
       clear g0 g1 g2 g3 g4 g5 g6 u1 u2 u3 u4 u5
       obtain ⟨pv, cv, hv⟩ := HO.out.2.2.2.2.2.1.form
       obtain ⟨pl, hpl⟩ : ∃ pl, ps.length = pl := ⟨_, rfl⟩
       have HPL : Hid (ps.length = pl) := hpl
       rw [hpl] at hv
       subst hv
       obtain ⟨zx, ⟨x0, x1, x2, x3, x4, x5, x6, x7, x8, x9, x10, x11, x12⟩, zxf⟩ := HO.out.1
       clear zxf hpl
       have hpl20 : pl ≤ 20 := by rw [← HPL.out]; exact HO.out.2.2.2.2.2.2
       go_upto_if 88 with fail
       go_cut [] (fun wx => ∃ us D pa' why, BlkX wx X (tCall s []) (.slice pv pl cv) ∧ BlkX wx W.heap.size tz (.slice none 0 0) ∧ ExtB b W wx ∧ Rp w0 b wx us D pa' why ∧ us.length ≤ ts.length ∧ ((why = 0 ∧ D = (d : Int) + 1 ∧ IsL wx (X + 1 ≤ ·) (.slice pv pl cv) (ps.map Prod.fst) ∧ args (frm (O n)) a m (d + 1) ts.tail.tail = .ok (ps.map Prod.fst, us) ∧ isSg [40] ts.tail = true) ∨ (why ≠ 0 ∧ (d : Int) ≤ D ∧ D ≤ (d : Int) + 1 ∧ ∃ f, wrd (frm (O n)) d ts = .error f)))
       case first =>
         have HSX : Hid ((why = 0 ∧ D = (d : Int) + 1 ∧ (pl < a → ∃ f, wrd (frm (O n)) d ts = .error f) ∧ (¬ pl < a → IsL wr (X + 1 ≤ ·) (.slice pv pl cv) (ps.map Prod.fst) ∧ args (frm (O n)) a m (d + 1) ts.tail.tail = .ok (ps.map Prod.fst, us) ∧ isSg [40] ts.tail = true)) ∨ (why ≠ 0 ∧ (d : Int) ≤ D ∧ D ≤ (d : Int) + 1 ∧ ∃ f, wrd (frm (O n)) d ts = .error f)) := by
           rcases HST.out with ⟨z1, z2, z3, z4, z5, z6⟩ | z
           · refine .inl ⟨z1, z2, fun hlt => ?_, fun hge => ?_⟩
             · have hc : chk a (.ok (ps.map Prod.fst, us)) = .error (ft us false) := chk_lt (by rw [List.length_map, HPL.out]; exact hlt)
               exact HWR.out.1 z6 ((HAD.out z3 z6).err (z5.trans hc))
             · have hc : chk a (.ok (ps.map Prod.fst, us)) = .ok (ps.map Prod.fst, us) := chk_ge (by rw [List.length_map, HPL.out]; exact hge)
               have hOX : OwX wr (X + 1) (.slice pv pl cv) ps := ⟨HO.out.2.2.2.2.2.1, z4⟩
               exact ⟨hOX.isL, (HAD.out z3 z6).ok (z5.trans hc), z6⟩
           · exact .inr z
         by_cases hlt : (pl : Int) < (a : Int)
         · go_wp2_with fail
           refine (rbad_any HO.out.2.2.2.1 4).mono ?_
           rintro e w7 ⟨rfl, R7, X7⟩
           go_wp2_with fail
           go_meet
           case rel =>
             refine ⟨us, D, _, _, HO.out.1.extB X7 (by omega), HO.out.2.1.extB X7 hgW, HO.out.2.2.1.trans X7, R7, HO.out.2.2.2.2.1, .inr ?_⟩
             rcases HSX.out with ⟨z1, z2, z3, _⟩ | ⟨z1, z2, z3, z4⟩
             · exact ⟨by rw [if_pos z1]; decide, by omega, by omega, z3 (by omega)⟩
             · exact ⟨by rw [if_neg z1]; exact z1, z2, z3, z4⟩
         · go_wp2_with fail
           go_meet
           case rel =>
             refine ⟨us, D, pa', why, HO.out.1, HO.out.2.1, HO.out.2.2.1, HO.out.2.2.2.1, HO.out.2.2.2.2.1, ?_⟩
             rcases HSX.out with ⟨z1, z2, _, z3⟩ | z
             · exact .inl ⟨z1, z2, z3 (by omega)⟩
             · exact .inr z
       case rest =>
         obtain ⟨us, D, pa', why, i1, i2, i3, i4, i5, i6⟩ := hcut
         have HO : Hid (BlkX wc X (tCall s []) (.slice pv pl cv) ∧ BlkX wc W.heap.size tz (.slice none 0 0) ∧ ExtB b W wc ∧ Rp w0 b wc us D pa' why ∧ us.length ≤ ts.length) := ⟨i1, i2, i3, i4, i5⟩
         have HST : Hid ((why = 0 ∧ D = (d : Int) + 1 ∧ IsL wc (X + 1 ≤ ·) (.slice pv pl cv) (ps.map Prod.fst) ∧ args (frm (O n)) a m (d + 1) ts.tail.tail = .ok (ps.map Prod.fst, us) ∧ isSg [40] ts.tail = true) ∨ (why ≠ 0 ∧ (d : Int) ≤ D ∧ D ≤ (d : Int) + 1 ∧ ∃ f, wrd (frm (O n)) d ts = .error f)) := i6
         have hD1 : (d : Int) ≤ D ∧ D ≤ (d : Int) + 1 := by
           rcases i6 with ⟨_, z, _⟩ | ⟨_, z1, z2, _⟩
           · omega
           · omega
         have hdb : -1000 ≤ D - 1 := by omega
         have hdc : D ≤ 1000 := by have := HN.out.2.1; omega
         obtain ⟨zx, ⟨x0, x1, x2, x3, x4, x5, x6, x7, x8, x9, x10, x11, x12⟩, zxf⟩ := i1
         obtain ⟨g0, g1, g2, g3, g4, g5, g6, tb, off, cc, nn, ii, all, u1, u2, u3, u4, u5, u6⟩ := i4
         obtain ⟨hz, ⟨b0, b1, b2, b3, b4⟩, f0, f1, f2, f3, f4⟩ := u6
         clear g0 g1 g2 g3 g4 g5 g6 u1 u2 u3 u4 u5
         clear i2 i3 i5 i6 zxf
         go_wp2_with fail
         have R5 := HO.out.2.2.2.1.deep (by omega)
         have X5 := HO.out.2.2.1.set (p := ⟨b, 2, none⟩) (.inl rfl) (.int .i64 (D - 1))
         have B5 : BlkX (wc.setCell ⟨b, 2, none⟩ (.int .i64 (D - 1))) W.heap.size tz (.slice none 0 0) := Blk13.far1 HO.out.2.1 (c := b) (by omega) 2 (.int .i64 (D - 1))
         have B6 : BlkX (wc.setCell ⟨b, 2, none⟩ (.int .i64 (D - 1))) X (tCall s []) (.slice pv pl cv) := Blk13.far1 HO.out.1 (c := b) (by omega) 2 (.int .i64 (D - 1))
         have L5 : ∀ l', IsL wc (X + 1 ≤ ·) (.slice pv pl cv) l' → IsL (wc.setCell ⟨b, 2, none⟩ (.int .i64 (D - 1))) (X + 1 ≤ ·) (.slice pv pl cv) l' := fun l' hh => hh.extB ((ExtB.refl b wc).set (p := ⟨b, 2, none⟩) (.inl rfl) (.int .i64 (D - 1))) (fun j hj => by omega)
         refine (rwant_any R5 ⟨#[41]⟩).mono ?_
         rintro e w6 ⟨rfl, X6, D6⟩
         have HD6 : Hid ((sgn us why = [41] ∧ Rp w0 b w6 (nx us) (D - 1) pa' why) ∨ (sgn us why ≠ [41] ∧ ∃ pa' why', why' ≠ 0 ∧ Rp w0 b w6 us (D - 1) pa' why')) := D6
         have H6 : Hid (ExtB b W w6 ∧ BlkX w6 W.heap.size tz (.slice none 0 0) ∧ BlkX w6 X (tCall s []) (.slice pv pl cv)) := ⟨X5.trans X6, B5.extB X6 hgW, B6.extB X6 (by omega)⟩
         have HL6 : Hid (∀ l', IsL wc (X + 1 ≤ ·) (.slice pv pl cv) l' → IsL w6 (X + 1 ≤ ·) (.slice pv pl cv) l') := fun l' hh => (L5 l' hh).extB X6 (fun j hj => by omega)
         clear D6 X6 X5 B5 B6 L5 R5 b0 b1 b2 b3 b4 f0 f1 f2 f3 f4 hz zx x0 x1 x2 x3 x4 x5 x6 x7 x8 x9 x10 x11 x12
         have HB0 := H6.out.2.1
         obtain ⟨qa, ⟨la0, la1, la2, la3, la4, la5, la6, la7, la8, la9, la10, la11, la12⟩, ga0, ga1, ga2, ga3, ga4, ga5, ga6, ga7, ga8, ga9, ga10, ga11, ga12⟩ := HB0
         have HB1 := H6.out.2.2
         obtain ⟨qc, ⟨lc0, lc1, lc2, lc3, lc4, lc5, lc6, lc7, lc8, lc9, lc10, lc11, lc12⟩, gc0, gc1, gc2, gc3, gc4, gc5, gc6, gc7, gc8, gc9, gc10, gc11, gc12⟩ := HB1
         go_wp2_with fail
         show bodyPost Try.prog _ _ _ _ (putX w6 W.heap.size (tCall s (ps.map Prod.fst)) (.slice pv pl cv))
         refine endR (H6.out.2.1.put (tCall s (ps.map Prod.fst)) (.slice pv pl cv)) rfl (RY.back ⟨putX_B H6.out.1 (Nat.le_refl _) _ _, ?_⟩) (fun h0 h1 h2 h3 h4 h5 h6 h7 h8 h9 h10 h11 h12 => by simp [results, Try.results54, go_sem, h0, h1, h2, h3, h4, h5, h6, h7, h8, h9, h10, h11, h12, aggX])
         have bad : ∀ us' pa' why', why' ≠ 0 → Rp w0 b w6 us' (D - 1) pa' why' → us'.length ≤ ts.length → (∃ f, wrd (frm (O n)) d ts = .error f) → (∃ f ts2 d' pa why, wrd (frm (O n)) d ts = .error f ∧ (d : Int) - 1 ≤ d' ∧ d' ≤ d ∧ why ≠ 0 ∧ ts2.length ≤ ts.length ∧ Rp w0 b (putX w6 W.heap.size (tCall s (ps.map Prod.fst)) (.slice pv pl cv)) ts2 d' pa why) := by
           rintro us' pa' why' z1 z2 z3 ⟨f, hf⟩
           exact ⟨f, us', D - 1, pa', why', hf, by omega, by omega, z1, z3, putX_R z2 hgW HN.out.2.2 _ _⟩
         rcases HST.out with ⟨hw, hd5, hL, hr, h40⟩ | ⟨hw, _, _, hr⟩
         · rcases HD6.out with ⟨q1, q2⟩ | ⟨q1, pa'', why', q2, q3⟩
           · unfold sgn at q1
             split at q1
             · rename_i h3
               have hc : isSg [41] us = true := by unfold isSg; rw [h3.2, q1]; rfl
               have hre := HWR.out.2.1 _ _ h40 hr hc
               have hn2 : nx us = us.tail := nx_tail HO.out.2.2.2.1.2.2.1 (by rw [h3.2]; decide)
               rw [hn2, hw, hd5, show (d : Int) + 1 - 1 = d by omega] at q2
               rw [HSS.out] at hre
               exact .inl ⟨us.tail, pa', hre, ((HL6.out _ hL).keep (by rw [putX_size]; exact Nat.le_refl _) (fun j hj hs => putX_heap _ _ _ _ _ (by omega)) (fun j hj _ => hj)).mono (fun j hj _ => by omega), putX_R q2 hgW HN.out.2.2 _ _⟩
             · cases q1
           · refine .inr (bad us pa'' why' q2 q3 HO.out.2.2.2.2 ?_)
             have hc : isSg [41] us = false := by
               cases hc : isSg [41] us with
               | false => rfl
               | true => exact absurd (by unfold sgn; rw [if_pos ⟨hw, (isSg_k hc).1⟩]; exact (isSg_k hc).2) q1
             exact HWR.out.2.2 _ _ h40 hr hc
         · rcases HD6.out with ⟨q1, _⟩ | ⟨_, pa'', why', q2, q3⟩
           · unfold sgn at q1
             rw [if_neg (fun h => hw h.1)] at q1
             cases q1
           · exact .inr (bad us pa'' why' q2 q3 HO.out.2.2.2.2 hr)
     | true =>
       by_cases hw : why = 0
       · have w0' : (why == 0) = true := by rw [hw]; rfl
         have HGA : Hid (D = (d : Int) + 1 ∧ d + 1 ≤ 40 ∧ ps.length < m ∧ us.length ≤ n ∧ (∀ p ∈ ps, IsL wr (fun k => X + 1 ≤ k ∧ v.ownBlock ≠ some k) p.2 p.1.l) ∧ (∃ f, us.length ≤ f ∧ docA (frm (O n)) a m (d + 1) ts.tail.tail = chk a (docL (frm (O n)) m (d + 1) f (ps.map Prod.fst) us)) ∧ isSg [40] ts.tail = true) := by
           rcases i8 with ⟨_, _, z⟩ | ⟨z, _⟩ | ⟨z, _⟩
           · exact z
           · cases z
           · exact absurd hw z
         have HW0 : Hid (why = 0) := hw
         have e4 : ((d + 1 : Nat) : Int) = D := by have := HGA.out.1; omega
         have i9 := i4
         rw [hw, ← e4] at i9
         have c3 := rargument_any w0 b n HX.out wr us (d + 1) pa' i9 HGA.out.2.2.2.1 HGA.out.2.1
         clear i9 e4
         clear hw i1 i2 i3 i5 i6 i7 i8
         obtain ⟨g0, g1, g2, g3, g4, g5, g6, tb, off, cc, nn, ii, all, u1, u2, u3, u4, u5, u6⟩ := i4
         obtain ⟨hz, ⟨b0, b1, b2, b3, b4⟩, f0, f1, f2, f3, f4⟩ := u6
         clear g0 g1 g2 g3 g4 g5 g6 u1 u2 u3 u4 u5
         go_wp2_with fail
         refine c3.mono ?_
         intro e w4 h4
         obtain ⟨y, qq, lm, cm, rfl, hY⟩ := h4.form
         obtain ⟨ts2, d2, pa2, why2, R4, hd2, hd3, HY⟩ := hY.state
         have H4 : Hid (BlkX w4 X (tCall s []) v ∧ BlkX w4 W.heap.size tz (.slice none 0 0) ∧ ExtB b W w4 ∧ Rp w0 b w4 ts2 d2 pa2 why2 ∧ OwY w4 (X + 1) v ps ∧ ps.length ≤ 20 ∧ ExtB b wr w4) := ⟨HO.out.1.extB hY.1 hXb, HO.out.2.1.extB hY.1 hgW, HO.out.2.2.1.trans hY.1, R4, HO.out.2.2.2.2.2.1.extB hY.1 (by omega), HO.out.2.2.2.2.2.2, hY.1⟩
         have HDD : Hid ((d : Int) ≤ d2 ∧ d2 ≤ (d : Int) + 1) := ⟨by omega, by omega⟩
         have hw4 : X < w4.heap.size := H4.out.1.1
         obtain ⟨pv, cv, hv⟩ := H4.out.2.2.2.2.1.form
         obtain ⟨pl, hpl⟩ : ∃ pl, ps.length = pl := ⟨_, rfl⟩
         have HPL : Hid (ps.length = pl) := hpl
         have hpl20 : pl < m := by have := HGA.out.2.2.1; omega
         rw [hpl] at hv
         subst hv
         have HB0 := H4.out.1
         obtain ⟨zx, ⟨x0, x1, x2, x3, x4, x5, x6, x7, x8, x9, x10, x11, x12⟩, xf0, xf1, xf2, xf3, xf4, xf5, xf6, xf7, xf8, xf9, xf10, xf11, xf12⟩ := HB0
         clear h4 hY c3 R4 hd2 hd3 hpl b0 b1 b2 b3 b4 f0 f1 f2 f3 f4 hz
         have E5 : Ext w4 ((w4.alloc (.cells #[.int .i64 y.k, .int .i64 y.n, .string (bs y.s), .int .i64 y.e, .int .i64 y.r.1, .int .i64 y.r.2.1, .bool y.r.2.2.1, .bool y.r.2.2.2, .int .i64 y.q.1, .int .i64 y.q.2.1, .bool y.q.2.2.1, .bool y.q.2.2.2, .slice qq lm cm] 29)).alloc (.cells #[.int .i64 y.k, .int .i64 y.n, .string (bs y.s), .int .i64 y.e, .int .i64 y.r.1, .int .i64 y.r.2.1, .bool y.r.2.2.1, .bool y.r.2.2.2, .int .i64 y.q.1, .int .i64 y.q.2.1, .bool y.q.2.2.1, .bool y.q.2.2.2, .slice qq lm cm] 29)) := ((Ext.refl _).alloc _).alloc _
         have HB4 : Hid (OwY ((w4.alloc (.cells #[.int .i64 y.k, .int .i64 y.n, .string (bs y.s), .int .i64 y.e, .int .i64 y.r.1, .int .i64 y.r.2.1, .bool y.r.2.2.1, .bool y.r.2.2.2, .int .i64 y.q.1, .int .i64 y.q.2.1, .bool y.q.2.2.1, .bool y.q.2.2.2, .slice qq lm cm] 29)).alloc (.cells #[.int .i64 y.k, .int .i64 y.n, .string (bs y.s), .int .i64 y.e, .int .i64 y.r.1, .int .i64 y.r.2.1, .bool y.r.2.2.1, .bool y.r.2.2.2, .int .i64 y.q.1, .int .i64 y.q.2.1, .bool y.q.2.2.1, .bool y.q.2.2.2, .slice qq lm cm] 29)) (X + 1) (.slice pv pl cv) ps) := H4.out.2.2.2.2.1.extB (E5.toB b) (by omega)
         have HE5 : Hid (Ext w4 ((w4.alloc (.cells #[.int .i64 y.k, .int .i64 y.n, .string (bs y.s), .int .i64 y.e, .int .i64 y.r.1, .int .i64 y.r.2.1, .bool y.r.2.2.1, .bool y.r.2.2.2, .int .i64 y.q.1, .int .i64 y.q.2.1, .bool y.q.2.2.1, .bool y.q.2.2.2, .slice qq lm cm] 29)).alloc (.cells #[.int .i64 y.k, .int .i64 y.n, .string (bs y.s), .int .i64 y.e, .int .i64 y.r.1, .int .i64 y.r.2.1, .bool y.r.2.2.1, .bool y.r.2.2.2, .int .i64 y.q.1, .int .i64 y.q.2.1, .bool y.q.2.2.1, .bool y.q.2.2.2, .slice qq lm cm] 29))) := E5
         clear E5
         unfold aggX
         go_wp2_with (at_builtin; refine y_append _ (X + 1) _ _ _ (w4.heap.size + 1) ps y qq lm cm rfl rfl (by rfl) (by first | rfl | (simp; rfl)) HB4.out ?cR (by rw [HPL.out]; omega) (by simp; omega) ?_)
         case cR =>
           intro j u hu
           have e9 : (w4.alloc (.cells #[.int .i64 y.k, .int .i64 y.n, .string (bs y.s), .int .i64 y.e, .int .i64 y.r.1, .int .i64 y.r.2.1, .bool y.r.2.2.1, .bool y.r.2.2.2, .int .i64 y.q.1, .int .i64 y.q.2.1, .bool y.q.2.2.1, .bool y.q.2.2.2, .slice qq lm cm] 29)).heap.size = w4.heap.size + 1 := by simp
           rw [Addr.add_lit, ← e9, cell_of_row _ _ _ _ _ (0, 0) (new_top _ _), Nat.zero_add]
           rw [← hu, ← Array.getElem?_toList]; rfl
         intro v' w5 k1 k2 g5 cap5 hv5 k4
         subst hv5
         have HE6 := HE5.out
         have HIL : Hid (∀ z l, IsL w4 (fun k => X + 1 ≤ k ∧ (Value.slice pv pl cv).ownBlock ≠ some k) z l → IsL w5 (fun k => X + 1 ≤ k ∧ (Value.slice (some ⟨g5, 0, none⟩) (ps.length + 1) cap5).ownBlock ≠ some k) z l) := fun z l hz => own_up k2 (fun k hk hv => k4 k (by simp at hk; omega) hv) (hz.ext HE6)
         have HG : Hid (BlkX w5 X (tCall s []) (.slice pv pl cv) ∧ BlkX w5 W.heap.size tz (.slice none 0 0) ∧ ExtB b W w5 ∧ Rp w0 b w5 ts2 d2 pa2 why2 ∧ OwY w5 (X + 1) (.slice (some ⟨g5, 0, none⟩) (ps.length + 1) cap5) (ps ++ [(y, .slice qq lm cm)])) := ⟨(H4.out.1.ext HE6).grownY k2 HB4.out (by omega), (H4.out.2.1.ext HE6).grownY k2 HB4.out (by omega), grownBY k2 HB4.out (H4.out.2.2.1.trans (HE6.toB b)) (by omega), (H4.out.2.2.2.1.ext HE6).grownY k2 HB4.out (by omega) (by have := HN.out.2.2; omega), k1⟩
         have HGD : Hid ((why2 = 0 ∧ d2 = (d : Int) + 1 ∧ (∀ p ∈ ps ++ [(y, Value.slice qq lm cm)], IsL w5 (fun k => X + 1 ≤ k ∧ (Value.slice (some ⟨g5, 0, none⟩) (ps.length + 1) cap5).ownBlock ≠ some k) p.2 p.1.l) ∧ ts2.length < us.length ∧ Nz ts2 ∧ (pl + 1 < m ∧ isSg [44] ts2 = true → ∃ f, ts2.tail.length ≤ f ∧ docA (frm (O n)) a m (d + 1) ts.tail.tail = chk a (docL (frm (O n)) m (d + 1) f ((ps ++ [(y, Value.slice qq lm cm)]).map Prod.fst) ts2.tail)) ∧ (¬ (pl + 1 < m ∧ isSg [44] ts2 = true) → docA (frm (O n)) a m (d + 1) ts.tail.tail = chk a (.ok ((ps ++ [(y, Value.slice qq lm cm)]).map Prod.fst, ts2)))) ∨ (why2 ≠ 0 ∧ (∃ f, wrd (frm (O n)) d ts = .error f) ∧ ts2.length ≤ us.length)) := by
           obtain ⟨z1, z2, z3, z4, z5, ⟨f, z6, z7⟩, z8⟩ := HGA.out
           obtain ⟨f, rfl⟩ : ∃ k, f = k + 1 := ⟨f - 1, by have := HRp.out.2.2.1.pos; omega⟩
           unfold docL at z7
           rcases HY.out with ⟨y1, y2, y3, y4⟩ | ⟨y1, ⟨g, y2⟩, y3⟩
           · rw [y3] at z7
             dsimp only at z7
             rw [List.length_map, HPL.out] at z7
             have s2 := argm_sh (frm_sh (O_sh n)) (d + 1) us HRp.out.2.2.1 z4 _ _ y3
             have s3 := s2.2
             have em : (ps ++ [(y, Value.slice qq lm cm)]).map Prod.fst = ps.map Prod.fst ++ [y] := by rw [List.map_append]; rfl
             refine .inl ⟨y1, by omega, ?_, s3, s2.1, fun hc => ?_, fun hc => ?_⟩
             · intro p hp
               rcases List.mem_append.1 hp with hp | hp
               · exact HIL.out _ _ ((z5 p hp).extB H4.out.2.2.2.2.2.2 (fun k hk => by omega))
               · simp at hp; subst hp
                 refine HIL.out _ _ (y4.mono (fun k hk hs => ⟨by omega, ?_⟩))
                 rcases HO.out.2.2.2.2.2.1.2 with ⟨q1, _⟩ | ⟨g', cap', cur, q1, _, q3, _⟩
                 · cases q1; simp [Value.ownBlock]
                 · cases q1; simp [Value.ownBlock]; have := heap_lt q3; omega
             · rw [if_pos hc] at z7
               rw [em]
               exact ⟨f, by have := (s2.1.tail (by rw [(isSg_k hc.2).1]; decide)).2; omega, z7⟩
             · rw [if_neg hc] at z7
               rw [em]
               exact z7
           · rw [y2] at z7
             exact .inr ⟨y1, HWR.out.1 z8 ((HAD.out z2 z8).err (e := g) (by rw [z7]; rfl)), y3⟩
         have hl5 : (ps ++ [(y, Value.slice qq lm cm)]).length = pl + 1 := by rw [List.length_append, HPL.out]; rfl
         have HL5 : Hid ((ps ++ [(y, Value.slice qq lm cm)]).length = pl + 1) := hl5
         have hpl5 : ps.length = pl := HPL.out
         rw [hpl5] at HG HGD HIL
         rw [hpl5]
         have hw5 : X < w5.heap.size := HG.out.1.1
         have HB7 := HG.out.1
         clear zx x0 x1 x2 x3 x4 x5 x6 x7 x8 x9 x10 x11 x12 xf0 xf1 xf2 xf3 xf4 xf5 xf6 xf7 xf8 xf9 xf10 xf11 xf12
         obtain ⟨zx, ⟨x0, x1, x2, x3, x4, x5, x6, x7, x8, x9, x10, x11, x12⟩, xf0, xf1, xf2, xf3, xf4, xf5, xf6, xf7, xf8, xf9, xf10, xf11, xf12⟩ := HB7
         clear k1 k2 k4 HE6 hl5 hpl5 HB4 HE5 HIL H4
         have HS : Hid (BlkX (w5.setCell ⟨X, 12, none⟩ (.slice (some ⟨g5, 0, none⟩) (pl + 1) cap5)) X (tCall s []) (.slice (some ⟨g5, 0, none⟩) (pl + 1) cap5) ∧ BlkX (w5.setCell ⟨X, 12, none⟩ (.slice (some ⟨g5, 0, none⟩) (pl + 1) cap5)) W.heap.size tz (.slice none 0 0) ∧ ExtB b W (w5.setCell ⟨X, 12, none⟩ (.slice (some ⟨g5, 0, none⟩) (pl + 1) cap5)) ∧ Rp w0 b (w5.setCell ⟨X, 12, none⟩ (.slice (some ⟨g5, 0, none⟩) (pl + 1) cap5)) ts2 d2 pa2 why2 ∧ OwY (w5.setCell ⟨X, 12, none⟩ (.slice (some ⟨g5, 0, none⟩) (pl + 1) cap5)) (X + 1) (.slice (some ⟨g5, 0, none⟩) (pl + 1) cap5) (ps ++ [(y, .slice qq lm cm)])) := ⟨Blk13.put12 HG.out.1 _, Blk13.far1 HG.out.2.1 (by omega) 12 _, HG.out.2.2.1.set (.inr (by show W.heap.size ≤ X; omega)) _, HG.out.2.2.2.1.far (by omega) (by have := HN.out.2.2; omega) _, HG.out.2.2.2.2.set (by show X < X + 1; omega) _⟩
         have HIS : Hid (∀ z l, IsL w5 (fun k => X + 1 ≤ k ∧ (Value.slice (some ⟨g5, 0, none⟩) (pl + 1) cap5).ownBlock ≠ some k) z l → IsL (w5.setCell ⟨X, 12, none⟩ (.slice (some ⟨g5, 0, none⟩) (pl + 1) cap5)) (fun k => X + 1 ≤ k ∧ (Value.slice (some ⟨g5, 0, none⟩) (pl + 1) cap5).ownBlock ≠ some k) z l) := fun z l hz => hz.keep (by simp [World.setCell]) (fun k hk _ => Below.heap_setCell _ _ _ _ (by simp; omega)) (fun _ h _ => h)
         have cC := rcomma_any HS.out.2.2.2.1
         by_cases hlm : pl + 1 < m
         · have hlmI : (pl : Int) + 1 < (m : Int) := by omega
           have HLM : Hid (pl + 1 < m) := hlm
           clear hlm
           go_wp2_with fail
           refine cC.mono ?_
           rintro e w7 ⟨X7, D7⟩
           clear cC
           have H7 : Hid (BlkX w7 X (tCall s []) (.slice (some ⟨g5, 0, none⟩) (pl + 1) cap5) ∧ BlkX w7 W.heap.size tz (.slice none 0 0) ∧ ExtB b W w7 ∧ OwY w7 (X + 1) (.slice (some ⟨g5, 0, none⟩) (pl + 1) cap5) (ps ++ [(y, .slice qq lm cm)])) := ⟨HS.out.1.extB X7 hXb, HS.out.2.1.extB X7 hgW, HS.out.2.2.1.trans X7, HS.out.2.2.2.2.extB X7 (by omega)⟩
           have HI7 : Hid (∀ z l, IsL w5 (fun k => X + 1 ≤ k ∧ (Value.slice (some ⟨g5, 0, none⟩) (pl + 1) cap5).ownBlock ≠ some k) z l → IsL w7 (fun k => X + 1 ≤ k ∧ (Value.slice (some ⟨g5, 0, none⟩) (pl + 1) cap5).ownBlock ≠ some k) z l) := fun z l hz => (HIS.out z l hz).extB X7 (fun k hk => by omega)
           clear X7 zx x0 x1 x2 x3 x4 x5 x6 x7 x8 x9 x10 x11 x12 xf0 xf1 xf2 xf3 xf4 xf5 xf6 xf7 xf8 xf9 xf10 xf11 xf12
           rcases D7 with ⟨q1, rfl, q3⟩ | ⟨q1, rfl, q3⟩
           · have HQ : Hid (sgn ts2 why2 = [44] ∧ Rp w0 b w7 (nx ts2) d2 pa2 why2) := ⟨q1, q3⟩
             clear q1 q3
             go_wp2_with fail
             go_roundw
             case rel =>
               have q1 := HQ.out.1
               unfold sgn at q1
               split at q1
               · rename_i h3
                 have hc : isSg [44] ts2 = true := by unfold isSg; rw [h3.2, q1]; rfl
                 rcases HGD.out with ⟨z1, z2, z3, z4, z5, z6, _⟩ | ⟨z1, _⟩
                 · have hn := nx_tail z5 (by rw [h3.2]; decide)
                   have q3 := HQ.out.2
                   rw [hn] at q3
                   have tl := (z5.tail (by rw [h3.2]; decide)).2
                   have u1 := HO.out.2.2.2.2.1
                   have u2 := HGA.out.2.2.2.1
                   exact ⟨true, ts2.tail, d2, pa2, why2, _, ps ++ [(y, .slice qq lm cm)], rfl, H7.out.1, H7.out.2.1, H7.out.2.2.1, q3, by omega, H7.out.2.2.2, by rw [HL5.out]; omega, .inl ⟨rfl, z1, z2, HGA.out.2.1, by rw [HL5.out]; exact HLM.out, by omega, fun p hp => HI7.out _ _ (z3 p hp), z6 ⟨HLM.out, hc⟩, HGA.out.2.2.2.2.2.2⟩⟩
                 · exact absurd h3.1 z1
               · cases q1
             case measure =>
               have q1 := HQ.out.1
               unfold sgn at q1
               split at q1
               · rename_i h3
                 rcases HGD.out with ⟨z1, z2, z3, z4, z5, z6, _⟩ | ⟨z1, _⟩
                 · have hn := nx_tail z5 (by rw [h3.2]; decide)
                   have tl := (z5.tail (by rw [h3.2]; decide)).2
                   rw [HQ.out.2.mu, HRp.out.mu, if_pos HW0.out, hn]
                   split <;> omega
                 · exact absurd h3.1 z1
               · cases q1
           · have HQ : Hid (sgn ts2 why2 ≠ [44] ∧ Rp w0 b w7 ts2 d2 pa2 why2) := ⟨q1, q3⟩
             clear q1 q3
             go_wp2_with fail
             go_roundw
             case rel =>
               have u1 := HO.out.2.2.2.2.1
               rcases HGD.out with ⟨z1, z2, z3, z4, z5, _, z6⟩ | ⟨z1, z2, z3⟩
               · exact ⟨false, ts2, d2, pa2, why2, _, ps ++ [(y, .slice qq lm cm)], rfl, H7.out.1, H7.out.2.1, H7.out.2.2.1, HQ.out.2, by omega, H7.out.2.2.2, by rw [HL5.out]; omega, .inr (.inl ⟨rfl, z1, z2, HGA.out.2.1, fun p hp => HI7.out _ _ (z3 p hp), z6 (fun hc => HQ.out.1 (by unfold sgn; rw [if_pos ⟨z1, (isSg_k hc.2).1⟩]; exact (isSg_k hc.2).2)), HGA.out.2.2.2.2.2.2⟩)⟩
               · exact ⟨false, ts2, d2, pa2, why2, _, ps ++ [(y, .slice qq lm cm)], rfl, H7.out.1, H7.out.2.1, H7.out.2.2.1, HQ.out.2, by omega, H7.out.2.2.2, by rw [HL5.out]; omega, .inr (.inr ⟨z1, HDD.out.1, HDD.out.2, z2⟩)⟩
             case measure =>
               rw [HQ.out.2.mu, HRp.out.mu, if_pos HW0.out]
               rcases HGD.out with ⟨z1, z2, z3, z4, z5, _, z6⟩ | ⟨z1, z2, z3⟩
               · split <;> omega
               · rw [if_neg z1]; omega
         · have hlmI : ¬ (pl : Int) + 1 < (m : Int) := by omega
           have HLM : Hid (¬ pl + 1 < m) := hlm
           clear hlm cC
           go_wp2_with fail
           go_roundw
           case rel =>
             have u1 := HO.out.2.2.2.2.1
             rcases HGD.out with ⟨z1, z2, z3, z4, z5, _, z6⟩ | ⟨z1, z2, z3⟩
             · exact ⟨false, ts2, d2, pa2, why2, _, ps ++ [(y, .slice qq lm cm)], rfl, HS.out.1, HS.out.2.1, HS.out.2.2.1, HS.out.2.2.2.1, by omega, HS.out.2.2.2.2, by rw [HL5.out]; omega, .inr (.inl ⟨rfl, z1, z2, HGA.out.2.1, fun p hp => HIS.out _ _ (z3 p hp), z6 (fun hc => HLM.out hc.1), HGA.out.2.2.2.2.2.2⟩)⟩
             · exact ⟨false, ts2, d2, pa2, why2, _, ps ++ [(y, .slice qq lm cm)], rfl, HS.out.1, HS.out.2.1, HS.out.2.2.1, HS.out.2.2.2.1, by omega, HS.out.2.2.2.2, by rw [HL5.out]; omega, .inr (.inr ⟨z1, HDD.out.1, HDD.out.2, z2⟩)⟩
           case measure =>
             rw [HS.out.2.2.2.1.mu, HRp.out.mu, if_pos HW0.out]
             rcases HGD.out with ⟨z1, z2, z3, z4, z5, _, z6⟩ | ⟨z1, z2, z3⟩
             · split <;> omega
             · rw [if_neg z1]; omega
       · have w0' : (why == 0) = false := by simpa using hw
         have HST : Hid ((why = 0 ∧ D = (d : Int) + 1 ∧ d + 1 ≤ 40 ∧ (∀ p ∈ ps, IsL wr (fun k => X + 1 ≤ k ∧ v.ownBlock ≠ some k) p.2 p.1.l) ∧ docA (frm (O n)) a m (d + 1) ts.tail.tail = chk a (.ok (ps.map Prod.fst, us)) ∧ isSg [40] ts.tail = true) ∨ (why ≠ 0 ∧ (d : Int) ≤ D ∧ D ≤ (d : Int) + 1 ∧ ∃ f, wrd (frm (O n)) d ts = .error f)) := by
           rcases i8 with ⟨_, z, _⟩ | ⟨z, _⟩ | z
           · exact absurd z hw
           · cases z
           · exact .inr z
         clear i1 i2 i3 i5 i6 i7 i8 hw
         obtain ⟨g0, g1, g2, g3, g4, g5, g6, tb, off, cc, nn, ii, all, u1, u2, u3, u4, u5, u6⟩ := i4
         obtain ⟨hz, ⟨b0, b1, b2, b3, b4⟩, f0, f1, f2, f3, f4⟩ := u6
         clear g0 g1 g2 g3 g4 g5 g6 u1 u2 u3 u4 u5
         obtain ⟨pv, cv, hv⟩ := HO.out.2.2.2.2.2.1.form
         obtain ⟨pl, hpl⟩ : ∃ pl, ps.length = pl := ⟨_, rfl⟩
         have HPL : Hid (ps.length = pl) := hpl
         rw [hpl] at hv
         subst hv
         obtain ⟨zx, ⟨x0, x1, x2, x3, x4, x5, x6, x7, x8, x9, x10, x11, x12⟩, zxf⟩ := HO.out.1
         clear zxf hpl
         have hpl20 : pl ≤ 20 := by rw [← HPL.out]; exact HO.out.2.2.2.2.2.2
         go_upto_if 88 with fail
         go_cut [] (fun wx => ∃ us D pa' why, BlkX wx X (tCall s []) (.slice pv pl cv) ∧ BlkX wx W.heap.size tz (.slice none 0 0) ∧ ExtB b W wx ∧ Rp w0 b wx us D pa' why ∧ us.length ≤ ts.length ∧ ((why = 0 ∧ D = (d : Int) + 1 ∧ IsL wx (X + 1 ≤ ·) (.slice pv pl cv) (ps.map Prod.fst) ∧ args (frm (O n)) a m (d + 1) ts.tail.tail = .ok (ps.map Prod.fst, us) ∧ isSg [40] ts.tail = true) ∨ (why ≠ 0 ∧ (d : Int) ≤ D ∧ D ≤ (d : Int) + 1 ∧ ∃ f, wrd (frm (O n)) d ts = .error f)))
         case first =>
           have HSX : Hid ((why = 0 ∧ D = (d : Int) + 1 ∧ (pl < a → ∃ f, wrd (frm (O n)) d ts = .error f) ∧ (¬ pl < a → IsL wr (X + 1 ≤ ·) (.slice pv pl cv) (ps.map Prod.fst) ∧ args (frm (O n)) a m (d + 1) ts.tail.tail = .ok (ps.map Prod.fst, us) ∧ isSg [40] ts.tail = true)) ∨ (why ≠ 0 ∧ (d : Int) ≤ D ∧ D ≤ (d : Int) + 1 ∧ ∃ f, wrd (frm (O n)) d ts = .error f)) := by
             rcases HST.out with ⟨z1, z2, z3, z4, z5, z6⟩ | z
             · refine .inl ⟨z1, z2, fun hlt => ?_, fun hge => ?_⟩
               · have hc : chk a (.ok (ps.map Prod.fst, us)) = .error (ft us false) := chk_lt (by rw [List.length_map, HPL.out]; exact hlt)
                 exact HWR.out.1 z6 ((HAD.out z3 z6).err (z5.trans hc))
               · have hc : chk a (.ok (ps.map Prod.fst, us)) = .ok (ps.map Prod.fst, us) := chk_ge (by rw [List.length_map, HPL.out]; exact hge)
                 have hOX : OwX wr (X + 1) (.slice pv pl cv) ps := ⟨HO.out.2.2.2.2.2.1, z4⟩
                 exact ⟨hOX.isL, (HAD.out z3 z6).ok (z5.trans hc), z6⟩
             · exact .inr z
           by_cases hlt : (pl : Int) < (a : Int)
           · go_wp2_with fail
             refine (rbad_any HO.out.2.2.2.1 4).mono ?_
             rintro e w7 ⟨rfl, R7, X7⟩
             go_wp2_with fail
             go_meet
             case rel =>
               refine ⟨us, D, _, _, HO.out.1.extB X7 (by omega), HO.out.2.1.extB X7 hgW, HO.out.2.2.1.trans X7, R7, HO.out.2.2.2.2.1, .inr ?_⟩
               rcases HSX.out with ⟨z1, z2, z3, _⟩ | ⟨z1, z2, z3, z4⟩
               · exact ⟨by rw [if_pos z1]; decide, by omega, by omega, z3 (by omega)⟩
               · exact ⟨by rw [if_neg z1]; exact z1, z2, z3, z4⟩
           · go_wp2_with fail
             go_meet
             case rel =>
               refine ⟨us, D, pa', why, HO.out.1, HO.out.2.1, HO.out.2.2.1, HO.out.2.2.2.1, HO.out.2.2.2.2.1, ?_⟩
               rcases HSX.out with ⟨z1, z2, _, z3⟩ | z
               · exact .inl ⟨z1, z2, z3 (by omega)⟩
               · exact .inr z
         case rest =>
           obtain ⟨us, D, pa', why, i1, i2, i3, i4, i5, i6⟩ := hcut
           have HO : Hid (BlkX wc X (tCall s []) (.slice pv pl cv) ∧ BlkX wc W.heap.size tz (.slice none 0 0) ∧ ExtB b W wc ∧ Rp w0 b wc us D pa' why ∧ us.length ≤ ts.length) := ⟨i1, i2, i3, i4, i5⟩
           have HST : Hid ((why = 0 ∧ D = (d : Int) + 1 ∧ IsL wc (X + 1 ≤ ·) (.slice pv pl cv) (ps.map Prod.fst) ∧ args (frm (O n)) a m (d + 1) ts.tail.tail = .ok (ps.map Prod.fst, us) ∧ isSg [40] ts.tail = true) ∨ (why ≠ 0 ∧ (d : Int) ≤ D ∧ D ≤ (d : Int) + 1 ∧ ∃ f, wrd (frm (O n)) d ts = .error f)) := i6
           have hD1 : (d : Int) ≤ D ∧ D ≤ (d : Int) + 1 := by
             rcases i6 with ⟨_, z, _⟩ | ⟨_, z1, z2, _⟩
             · omega
             · omega
           have hdb : -1000 ≤ D - 1 := by omega
           have hdc : D ≤ 1000 := by have := HN.out.2.1; omega
           obtain ⟨zx, ⟨x0, x1, x2, x3, x4, x5, x6, x7, x8, x9, x10, x11, x12⟩, zxf⟩ := i1
           obtain ⟨g0, g1, g2, g3, g4, g5, g6, tb, off, cc, nn, ii, all, u1, u2, u3, u4, u5, u6⟩ := i4
           obtain ⟨hz, ⟨b0, b1, b2, b3, b4⟩, f0, f1, f2, f3, f4⟩ := u6
           clear g0 g1 g2 g3 g4 g5 g6 u1 u2 u3 u4 u5
           clear i2 i3 i5 i6 zxf
           go_wp2_with fail
           have R5 := HO.out.2.2.2.1.deep (by omega)
           have X5 := HO.out.2.2.1.set (p := ⟨b, 2, none⟩) (.inl rfl) (.int .i64 (D - 1))
           have B5 : BlkX (wc.setCell ⟨b, 2, none⟩ (.int .i64 (D - 1))) W.heap.size tz (.slice none 0 0) := Blk13.far1 HO.out.2.1 (c := b) (by omega) 2 (.int .i64 (D - 1))
           have B6 : BlkX (wc.setCell ⟨b, 2, none⟩ (.int .i64 (D - 1))) X (tCall s []) (.slice pv pl cv) := Blk13.far1 HO.out.1 (c := b) (by omega) 2 (.int .i64 (D - 1))
           have L5 : ∀ l', IsL wc (X + 1 ≤ ·) (.slice pv pl cv) l' → IsL (wc.setCell ⟨b, 2, none⟩ (.int .i64 (D - 1))) (X + 1 ≤ ·) (.slice pv pl cv) l' := fun l' hh => hh.extB ((ExtB.refl b wc).set (p := ⟨b, 2, none⟩) (.inl rfl) (.int .i64 (D - 1))) (fun j hj => by omega)
           refine (rwant_any R5 ⟨#[41]⟩).mono ?_
           rintro e w6 ⟨rfl, X6, D6⟩
           have HD6 : Hid ((sgn us why = [41] ∧ Rp w0 b w6 (nx us) (D - 1) pa' why) ∨ (sgn us why ≠ [41] ∧ ∃ pa' why', why' ≠ 0 ∧ Rp w0 b w6 us (D - 1) pa' why')) := D6
           have H6 : Hid (ExtB b W w6 ∧ BlkX w6 W.heap.size tz (.slice none 0 0) ∧ BlkX w6 X (tCall s []) (.slice pv pl cv)) := ⟨X5.trans X6, B5.extB X6 hgW, B6.extB X6 (by omega)⟩
           have HL6 : Hid (∀ l', IsL wc (X + 1 ≤ ·) (.slice pv pl cv) l' → IsL w6 (X + 1 ≤ ·) (.slice pv pl cv) l') := fun l' hh => (L5 l' hh).extB X6 (fun j hj => by omega)
           clear D6 X6 X5 B5 B6 L5 R5 b0 b1 b2 b3 b4 f0 f1 f2 f3 f4 hz zx x0 x1 x2 x3 x4 x5 x6 x7 x8 x9 x10 x11 x12
           have HB0 := H6.out.2.1
           obtain ⟨qa, ⟨la0, la1, la2, la3, la4, la5, la6, la7, la8, la9, la10, la11, la12⟩, ga0, ga1, ga2, ga3, ga4, ga5, ga6, ga7, ga8, ga9, ga10, ga11, ga12⟩ := HB0
           have HB1 := H6.out.2.2
           obtain ⟨qc, ⟨lc0, lc1, lc2, lc3, lc4, lc5, lc6, lc7, lc8, lc9, lc10, lc11, lc12⟩, gc0, gc1, gc2, gc3, gc4, gc5, gc6, gc7, gc8, gc9, gc10, gc11, gc12⟩ := HB1
           go_wp2_with fail
           show bodyPost Try.prog _ _ _ _ (putX w6 W.heap.size (tCall s (ps.map Prod.fst)) (.slice pv pl cv))
           refine endR (H6.out.2.1.put (tCall s (ps.map Prod.fst)) (.slice pv pl cv)) rfl (RY.back ⟨putX_B H6.out.1 (Nat.le_refl _) _ _, ?_⟩) (fun h0 h1 h2 h3 h4 h5 h6 h7 h8 h9 h10 h11 h12 => by simp [results, Try.results54, go_sem, h0, h1, h2, h3, h4, h5, h6, h7, h8, h9, h10, h11, h12, aggX])
           have bad : ∀ us' pa' why', why' ≠ 0 → Rp w0 b w6 us' (D - 1) pa' why' → us'.length ≤ ts.length → (∃ f, wrd (frm (O n)) d ts = .error f) → (∃ f ts2 d' pa why, wrd (frm (O n)) d ts = .error f ∧ (d : Int) - 1 ≤ d' ∧ d' ≤ d ∧ why ≠ 0 ∧ ts2.length ≤ ts.length ∧ Rp w0 b (putX w6 W.heap.size (tCall s (ps.map Prod.fst)) (.slice pv pl cv)) ts2 d' pa why) := by
             rintro us' pa' why' z1 z2 z3 ⟨f, hf⟩
             exact ⟨f, us', D - 1, pa', why', hf, by omega, by omega, z1, z3, putX_R z2 hgW HN.out.2.2 _ _⟩
           rcases HST.out with ⟨hw, hd5, hL, hr, h40⟩ | ⟨hw, _, _, hr⟩
           · rcases HD6.out with ⟨q1, q2⟩ | ⟨q1, pa'', why', q2, q3⟩
             · unfold sgn at q1
               split at q1
               · rename_i h3
                 have hc : isSg [41] us = true := by unfold isSg; rw [h3.2, q1]; rfl
                 have hre := HWR.out.2.1 _ _ h40 hr hc
                 have hn2 : nx us = us.tail := nx_tail HO.out.2.2.2.1.2.2.1 (by rw [h3.2]; decide)
                 rw [hn2, hw, hd5, show (d : Int) + 1 - 1 = d by omega] at q2
                 rw [HSS.out] at hre
                 exact .inl ⟨us.tail, pa', hre, ((HL6.out _ hL).keep (by rw [putX_size]; exact Nat.le_refl _) (fun j hj hs => putX_heap _ _ _ _ _ (by omega)) (fun j hj _ => hj)).mono (fun j hj _ => by omega), putX_R q2 hgW HN.out.2.2 _ _⟩
               · cases q1
             · refine .inr (bad us pa'' why' q2 q3 HO.out.2.2.2.2 ?_)
               have hc : isSg [41] us = false := by
                 cases hc : isSg [41] us with
                 | false => rfl
                 | true => exact absurd (by unfold sgn; rw [if_pos ⟨hw, (isSg_k hc).1⟩]; exact (isSg_k hc).2) q1
               exact HWR.out.2.2 _ _ h40 hr hc
           · rcases HD6.out with ⟨q1, _⟩ | ⟨_, pa'', why', q2, q3⟩
             · unfold sgn at q1
               rw [if_neg (fun h => hw h.1)] at q1
               cases q1
             · exact .inr (bad us pa'' why' q2 q3 HO.out.2.2.2.2 hr)
theorem word_all (w0 : World) (b n : Nat) (hX : ExC w0 b n n) : WdC w0 b n := by
 intro W ts d pa h hts hd4 hk
 by_cases h1 : (hd ts).2.2.1 = wTrue
 · exact word_true w0 b n hX W ts d pa h hts hd4 hk h1
 by_cases h2 : (hd ts).2.2.1 = wFalse
 · exact word_false w0 b n hX W ts d pa h hts hd4 hk h2
 cases ho : okP (hd ts).2.2.1 with
 | true => exact word_ref w0 b n hX W ts d pa h hts hd4 hk ho
 | false =>
   cases hkn : kno (hd ts).2.2.1 with
   | none => exact word_none w0 b n hX W ts d pa h hts hd4 hk ho h1 h2 hkn
   | some q =>
     obtain ⟨a, m⟩ := q
     exact word_call w0 b n hX W ts d pa h hts hd4 hk a m hkn
theorem reader_all (w0 : World) (b n : Nat) : ExC w0 b n n := exp_all w0 b n (prefix_all w0 b (fun n _ hX => word_all w0 b n hX) n) n (Nat.le_refl _)
open Go.RowKit
set_option maxHeartbeats 1000000
def kindN (c : UInt8) : Int := if dgB c then 1 else if letB c then 2 else 0
theorem qkind_any (c : UInt8) (w : World) : Calls Try.prog 50 #[.int .u8 (c.toNat : Int)] w fun e w' => e = .returned (.int .i64 (kindN c)) ∧ w' = w := by
 by_cases h1 : (48 : Int) ≤ c.toNat ∧ (c.toNat : Int) ≤ 57
 · have H : Hid (kindN c = 1) := by show _ = _; unfold kindN; rw [if_pos]; unfold dgB; simp; omega
   obtain ⟨g1, g2⟩ := h1
   go_enter Try.func50, Try.ntmps50
   go_wp2
   go_ret
   exact ⟨ret_int H.out.symm, rfl⟩
 have hd : dgB c = false := by unfold dgB; simp; omega
 by_cases h2 : (97 : Int) ≤ c.toNat ∧ (c.toNat : Int) ≤ 122
 · have H : Hid (kindN c = 2) := by show _ = _; unfold kindN; rw [hd, lt_yes (.inr h2)]; rfl
   obtain ⟨g1, g2⟩ := h2
   have g3 : (48 : Int) ≤ c.toNat := by omega
   have g4 : ¬ (c.toNat : Int) ≤ 57 := by omega
   clear h1 hd
   go_enter Try.func50, Try.ntmps50
   go_wp2
   go_ret
   exact ⟨ret_int H.out.symm, rfl⟩
 by_cases h3 : (65 : Int) ≤ c.toNat ∧ (c.toNat : Int) ≤ 90
 · have H : Hid (kindN c = 2) := by show _ = _; unfold kindN; rw [hd, lt_yes (.inl h3)]; rfl
   obtain ⟨g1, g2⟩ := h3
   have g3 : (48 : Int) ≤ c.toNat := by omega
   have g4 : ¬ (c.toNat : Int) ≤ 57 := by omega
   have g5 : ¬ (97 : Int) ≤ c.toNat := by omega
   clear h1 h2 hd
   go_enter Try.func50, Try.ntmps50
   go_wp2
   go_ret
   exact ⟨ret_int H.out.symm, rfl⟩
 have hl := lt_no h3 h2
 by_cases h4 : (c.toNat : Int) = 36
 · have H : Hid (kindN c = 2) := by show _ = _; unfold kindN; rw [hd, hl, h4]; rfl
   clear h1 h2 h3 hd hl
   rw [h4]
   go_enter Try.func50, Try.ntmps50
   go_wp2
   go_ret
   exact ⟨ret_int H.out.symm, rfl⟩
 · have t4 : ((c.toNat : Int) == 36) = false := by simpa using h4
   have H : Hid (kindN c = 0) := by show _ = _; unfold kindN; rw [hd, hl, t4]; rfl
   clear hd hl
   by_cases g1 : (48 : Int) ≤ c.toNat
   · have g2 : ¬ (c.toNat : Int) ≤ 57 := by omega
     by_cases g3 : (97 : Int) ≤ c.toNat
     · have g4 : ¬ (c.toNat : Int) ≤ 122 := by omega
       have g5 : (65 : Int) ≤ c.toNat := by omega
       have g6 : ¬ (c.toNat : Int) ≤ 90 := by omega
       clear h1 h2 h3
       go_enter Try.func50, Try.ntmps50
       go_wp2
       go_ret
       exact ⟨ret_int H.out.symm, rfl⟩
     · by_cases g5 : (65 : Int) ≤ c.toNat
       · have g6 : ¬ (c.toNat : Int) ≤ 90 := by omega
         clear h1 h2 h3
         go_enter Try.func50, Try.ntmps50
         go_wp2
         go_ret
         exact ⟨ret_int H.out.symm, rfl⟩
       · clear h1 h2 h3
         go_enter Try.func50, Try.ntmps50
         go_wp2
         go_ret
         exact ⟨ret_int H.out.symm, rfl⟩
   · have g3 : ¬ (97 : Int) ≤ c.toNat := by omega
     have g5 : ¬ (65 : Int) ≤ c.toNat := by omega
     clear h1 h2 h3
     go_enter Try.func50, Try.ntmps50
     go_wp2
     go_ret
     exact ⟨ret_int H.out.symm, rfl⟩
theorem pre_takew (p l : List UInt8) : p.isPrefixOf l = (decide (p.length ≤ l.length) && (l.take p.length == p)) := by
 rw [Bool.eq_iff_iff, List.isPrefixOf_iff_prefix, List.prefix_iff_eq_take]
 simp
 constructor
 · intro h; exact ⟨by have := congrArg List.length h; simp at this; omega, h.symm⟩
 · intro h; exact h.2.symm
theorem qis_any (s t : ByteArray) (k : Nat) (w : World) (hk : k ≤ s.size) (hs : s.size ≤ 300) (ht : t.size ≤ 10) :
   Calls Try.prog 53 #[.string s, .int .i64 (k : Int), .string t] w fun e w' => e = .returned (.bool (t.data.toList.isPrefixOf (s.data.toList.drop k))) ∧ w' = w := by
 have hl := size_list s
 have hlt := size_list t
 have hp := pre_takew t.data.toList (s.data.toList.drop k)
 by_cases h : k + t.size ≤ s.size
 · have hI : (k : Int) + (t.size : Int) ≤ (s.size : Int) := by omega
   have e1 : (s.extract k (k + t.size)).toList = (s.data.toList.drop k).take t.data.toList.length := by
     rw [sub_bs, ByteArray.toList_eq, hlt]; rfl
   have H : Hid (t.data.toList.isPrefixOf (s.data.toList.drop k) = ((s.extract k (k + t.size)).toList == t.toList)) := by
     show _ = _
     rw [hp, e1, ByteArray.toList_eq, decide_eq_true (by simp; omega)]; rfl
   obtain ⟨m, hm⟩ : ∃ m, k + t.size = m := ⟨_, rfl⟩
   have m0 : (k : Int) + (t.size : Int) = (m : Int) := by omega
   have m1 : k ≤ m := by omega
   have m2 : m ≤ s.size := by omega
   rw [hm] at H
   clear hp e1 hl hlt h hm hI
   have hI : (m : Int) ≤ (s.size : Int) := by omega
   rw [H.out]
   go_enter Try.func53, Try.ntmps53
   go_wp2
   go_ret
   exact ⟨rfl, rfl⟩
 · have hI : ¬ (k : Int) + (t.size : Int) ≤ (s.size : Int) := by omega
   have H : Hid (t.data.toList.isPrefixOf (s.data.toList.drop k) = false) := by
     show _ = _
     rw [hp, decide_eq_false (by simp; omega)]; rfl
   clear hp hl hlt h
   rw [H.out]
   go_enter Try.func53, Try.ntmps53
   go_wp2
   go_ret
   exact ⟨rfl, rfl⟩
theorem kind_one (c : UInt8) : (kindN c == 1) = dgB c := by
 unfold kindN; cases dgB c
 · cases letB c <;> rfl
 · rfl
theorem qdigits_any (s : ByteArray) (k : Nat) (w : World) (hk : k ≤ s.size) (hs : s.size ≤ 300) :
   Calls Try.prog 70 #[.string s, .int .i64 (k : Int)] w fun e w' => e = .returned (.int .i64 ((k + run dgB (s.data.toList.drop k) : Nat) : Int)) ∧ w' = w := by
 have hl := size_list s
 have HS : Hid (s.data.toList.length = s.size) := hl
 clear hl
 go_enter Try.func70, Try.ntmps70
 go_wp2
 go_loop [1] (fun i => ∃ j : Nat, j ≤ s.size ∧ i = .int .i64 j ∧ k + run dgB (s.data.toList.drop k) = j + run dgB (s.data.toList.drop j)) (fun i => s.size - (intOf i).toNat)
 case atStart => exact ⟨k, hk, rfl, rfl⟩
 case round =>
   obtain ⟨j, hj, rfl, ha⟩ := hrel
   have HA : Hid (k + run dgB (s.data.toList.drop k) = j + run dgB (s.data.toList.drop j)) := ha
   clear ha hk
   by_cases hlt : j < s.size
   · have HT : Hid (run dgB (s.data.toList.drop j) = if dgB s[j] then run dgB (s.data.toList.drop (j + 1)) + 1 else 0) := run_at dgB s.data.toList j (by have := HS.out; omega)
     have c1 := fun W => qkind_any s[j] W
     have k1 := kind_one s[j]
     cases hp : dgB s[j]
     · rw [hp] at k1
       have HP : Hid (dgB s[j] = false) := hp
       clear hp
       go_wp2_with fail
       refine (c1 _).mono ?_
       rintro e w1 ⟨rfl, rfl⟩
       go_wp2_with fail
       go_ret
       refine ⟨ret_int ?_, rfl⟩
       rw [HA.out, HT.out, HP.out]; simp
     · rw [hp] at k1
       have HP : Hid (dgB s[j] = true) := hp
       clear hp
       go_wp2_with fail
       refine (c1 _).mono ?_
       rintro e w1 ⟨rfl, rfl⟩
       go_wp2_with fail
       go_round
       case rel => exact ⟨j + 1, by omega, by go_num, by rw [HA.out, HT.out, HP.out]; simp; omega⟩
       case measure => simp [intOf]; omega
   · have HT : Hid (run dgB (s.data.toList.drop j) = 0) := run_off dgB s.data.toList j (by have := HS.out; omega)
     go_wp2_with fail
     go_ret
     refine ⟨ret_int ?_, rfl⟩
     have h1 := HA.out
     have h2 := HT.out
     omega
def RxR (r : Except Int Wd) (k : Nat) (e : Ending) : Prop :=
 match r with
 | .ok x => e = .returned (.tuple #[.agg #[.int .i64 x.1, .int .i64 (k : Int), .string (bs x.2.1), .int .i64 x.2.2.1, .int .i64 x.2.2.2.1], .int .i64 ((k + x.2.2.2.2 : Nat) : Int), .int .i64 0])
 | .error c => e = .returned (.tuple #[.agg #[.int .i64 0, .int .i64 0, .string ⟨#[]⟩, .int .i64 0, .int .i64 0], .int .i64 (k : Int), .int .i64 c])
theorem rx_fin (x : Wd) (k : Nat) (i : Int) (hi : i = ((k + x.2.2.2.2 : Nat) : Int)) :
   RxR (.ok x) k (.returned (.tuple #[.agg #[.int .i64 x.1, .int .i64 (k : Int), .string (bs x.2.1), .int .i64 x.2.2.1, .int .i64 x.2.2.2.1], .int .i64 i, .int .i64 0])) := by subst hi; rfl
theorem qnumber_any (s : ByteArray) (k : Nat) (w : World) (hk : k ≤ s.size) (hs : s.size ≤ 300) :
   Calls Try.prog 51 #[.string s, .int .i64 (k : Int)] w fun e w' => RxR (nuRL (s.data.toList.drop k)) k e ∧ Ext w w' := by
 have hl := size_list s
 obtain ⟨l, hll⟩ : ∃ l, s.data.toList.drop k = l := ⟨_, rfl⟩
 have hlen : l.length = s.size - k := by rw [← hll]; simp [hl]
 have c1 := fun W => qdigits_any s k W hk hs
 have hr := runL_le dgB l
 rw [hll] at c1 ⊢
 have hn := numE_le l
 have hng := numE_ge l
 obtain ⟨m, hm⟩ : ∃ m, k + numE l = m := ⟨_, rfl⟩
 have m1 : k ≤ m := by omega
 have m2 : m ≤ s.size := by omega
 obtain ⟨q, hq⟩ : ∃ q, s.extract k m = q := ⟨_, rfl⟩
 have hqs : q.size ≤ 300 := by rw [← hq, ByteArray.size_extract]; omega
 have hqq : q.data.toList = l.take (numE l) := by rw [← hq, ← hm, sub_bs, hll]; rfl
 have c3 := fun W => rparse_any q W (by unfold maxLen; omega)
 rw [hqq] at c3
 have H0 : Hid (rdK (l.take (numE l)) = 0 → nuRL l = .error 4) := numR_0
 have H2 : Hid (rdK (l.take (numE l)) = 2 → nuRL l = .error 2) := numR_2
 have H1 : Hid (rdK (l.take (numE l)) = 1 → nuRL l = .ok (0, [], rdV (l.take (numE l)), 0, numE l)) := numR_1
 have HM : Hid (k + numE l = m) := hm
 have HK : Hid (rdK (l.take (numE l)) = 0 ∨ rdK (l.take (numE l)) = 1 ∨ rdK (l.take (numE l)) = 2) := rdK_three _
 obtain ⟨K, hK⟩ : ∃ K, rdK (l.take (numE l)) = K := ⟨_, rfl⟩
 obtain ⟨V, hV⟩ : ∃ V, rdV (l.take (numE l)) = V := ⟨_, rfl⟩
 rw [hK] at c3 H0 H1 H2 HK
 rw [hV] at c3 H1
 obtain ⟨n1, hn1⟩ : ∃ n1, run dgB l = n1 := ⟨_, rfl⟩
 obtain ⟨e1, he1⟩ : ∃ e1, k + n1 = e1 := ⟨_, rfl⟩
 rw [hn1] at c1 hr hng
 rw [he1] at c1
 have e1a : k ≤ e1 := by omega
 have e1b : e1 ≤ s.size := by omega
 have hdr : s.data.toList.drop e1 = l.drop n1 := by rw [← hll, List.drop_drop]; congr 1; omega
 have c2 := fun W => qis_any s ⟨#[46]⟩ e1 W e1b hs (by decide)
 rw [hdr] at c2
 have hdot : ((⟨#[46]⟩ : ByteArray).data.toList.isPrefixOf (l.drop n1)) = decide (l[n1]? = some 46) := by
   show List.isPrefixOf [46] (l.drop n1) = _
   rw [Bool.eq_iff_iff]
   rw [← List.head?_drop]
   cases l.drop n1 with
   | nil => simp
   | cons c r => simp [List.isPrefixOf]; exact eq_comm
 rw [hdot] at c2
 have hE : numE l = if l[n1]? = some 46 ∧ 0 < run dgB (l.drop (n1 + 1)) then n1 + 1 + run dgB (l.drop (n1 + 1)) else n1 := by unfold numE; rw [hn1]
 have wk : wrap64 ((e1 : Int) + 1) = ((e1 + 1 : Nat) : Int) := by unfold wrap64; omega
 by_cases h1 : l[n1]? = some 46
 · rw [decide_eq_true h1] at c2
   have hb : e1 + 1 ≤ s.size := by have := (List.getElem?_eq_some_iff.mp h1).1; clear hE wk hdot; omega
   have c4 := fun W => qdigits_any s (e1 + 1) W hb hs
   have hdd : s.data.toList.drop (e1 + 1) = l.drop (n1 + 1) := by rw [← hll, List.drop_drop]; congr 1; omega
   rw [hdd] at c4
   by_cases h2 : 0 < run dgB (l.drop (n1 + 1))
   · rw [if_pos ⟨h1, h2⟩] at hE
     have hme : e1 + 1 + run dgB (l.drop (n1 + 1)) = m := by omega
     rw [hme] at c4
     have g1 : (e1 : Int) + 1 < (m : Int) := by omega
     clear h1 h2 hdd hme hb
     clear hr hn hng hm hqq hK hV hn1 he1 hE hlen hl hll hk hdr hdot
     go_enter Try.func51, Try.ntmps51
     rcases HK.out with k0 | k0 | k0
     · subst k0
       have R0 : Hid (nuRL l = .error 4) := H0.out rfl
       clear H0 H1 H2 HK
       go_wp2_with fail
       refine (c1 _).mono ?_
       rintro e w1 ⟨rfl, rfl⟩
       go_wp2_with fail
       refine (c2 _).mono ?_
       rintro e w2 ⟨rfl, rfl⟩
       go_wp2_with fail
       refine (c4 _).mono ?_
       rintro e w2 ⟨rfl, rfl⟩
       go_wp2_with fail
       refine (c4 _).mono ?_
       rintro e w2 ⟨rfl, rfl⟩
       go_wp2_with fail
       refine (c3 _).mono ?_
       rintro e w3 ⟨rfl, E3⟩
       have B3 := blk5_top rfl E3
       have X3 := ((Ext.refl w).alloc _).trans E3
       have D3 := B3
       obtain ⟨_, ⟨b0, b1, b2, b3, b4⟩, f0, f1, f2, f3, f4⟩ := D3
       clear E3
       go_wp2_with fail
       refine fin5 _ (B3.set _ _ _ _ _) rfl (by with_reducible repeat (first | assumption | exact Ext.refl _ | apply Ext.alloc | apply Ext.drewN | (refine Ext.setCell ?_ (by simp) _))) (fun g0 g1 g2 g3 g4 => by simp [results, Try.results51, go_sem, g0, g1, g2, g3, g4]; rfl) (fun h => ⟨?_, h⟩)
       rw [R0.out]
       exact rfl
     · subst k0
       have R0 : Hid (nuRL l = .ok (0, [], V, 0, numE l)) := H1.out rfl
       clear H0 H1 H2 HK
       go_wp2_with fail
       refine (c1 _).mono ?_
       rintro e w1 ⟨rfl, rfl⟩
       go_wp2_with fail
       refine (c2 _).mono ?_
       rintro e w2 ⟨rfl, rfl⟩
       go_wp2_with fail
       refine (c4 _).mono ?_
       rintro e w2 ⟨rfl, rfl⟩
       go_wp2_with fail
       refine (c4 _).mono ?_
       rintro e w2 ⟨rfl, rfl⟩
       go_wp2_with fail
       refine (c3 _).mono ?_
       rintro e w3 ⟨rfl, E3⟩
       have B3 := blk5_top rfl E3
       have X3 := ((Ext.refl w).alloc _).trans E3
       have D3 := B3
       obtain ⟨_, ⟨b0, b1, b2, b3, b4⟩, f0, f1, f2, f3, f4⟩ := D3
       clear E3
       go_wp2_with fail
       refine fin5 _ (B3.set _ _ _ _ _) rfl (by with_reducible repeat (first | assumption | exact Ext.refl _ | apply Ext.alloc | apply Ext.drewN | (refine Ext.setCell ?_ (by simp) _))) (fun g0 g1 g2 g3 g4 => by simp [results, Try.results51, go_sem, g0, g1, g2, g3, g4]; rfl) (fun h => ⟨?_, h⟩)
       rw [R0.out]
       exact rx_fin (0, [], V, 0, numE l) k _ (by rw [HM.out])
     · subst k0
       have R0 : Hid (nuRL l = .error 2) := H2.out rfl
       clear H0 H1 H2 HK
       go_wp2_with fail
       refine (c1 _).mono ?_
       rintro e w1 ⟨rfl, rfl⟩
       go_wp2_with fail
       refine (c2 _).mono ?_
       rintro e w2 ⟨rfl, rfl⟩
       go_wp2_with fail
       refine (c4 _).mono ?_
       rintro e w2 ⟨rfl, rfl⟩
       go_wp2_with fail
       refine (c4 _).mono ?_
       rintro e w2 ⟨rfl, rfl⟩
       go_wp2_with fail
       refine (c3 _).mono ?_
       rintro e w3 ⟨rfl, E3⟩
       have B3 := blk5_top rfl E3
       have X3 := ((Ext.refl w).alloc _).trans E3
       have D3 := B3
       obtain ⟨_, ⟨b0, b1, b2, b3, b4⟩, f0, f1, f2, f3, f4⟩ := D3
       clear E3
       go_wp2_with fail
       refine fin5 _ (B3.set _ _ _ _ _) rfl (by with_reducible repeat (first | assumption | exact Ext.refl _ | apply Ext.alloc | apply Ext.drewN | (refine Ext.setCell ?_ (by simp) _))) (fun g0 g1 g2 g3 g4 => by simp [results, Try.results51, go_sem, g0, g1, g2, g3, g4]; rfl) (fun h => ⟨?_, h⟩)
       rw [R0.out]
       exact rfl
   · rw [if_neg (fun h => h2 h.2)] at hE
     have hme : m = e1 := by omega
     have hme2 : e1 + 1 + run dgB (l.drop (n1 + 1)) = e1 + 1 := by omega
     rw [hme2] at c4
     subst hme
     have g1 : ¬ (m : Int) + 1 < (m : Int) + 1 := by omega
     clear h1 h2 hdd hme2 hb
     clear hr hn hng hm hqq hK hV hn1 hE hlen hl hll hk hdr hdot
     go_enter Try.func51, Try.ntmps51
     rcases HK.out with k0 | k0 | k0
     · subst k0
       have R0 : Hid (nuRL l = .error 4) := H0.out rfl
       clear H0 H1 H2 HK
       go_wp2_with fail
       refine (c1 _).mono ?_
       rintro e w1 ⟨rfl, rfl⟩
       go_wp2_with fail
       refine (c2 _).mono ?_
       rintro e w2 ⟨rfl, rfl⟩
       go_wp2_with fail
       refine (c4 _).mono ?_
       rintro e w2 ⟨rfl, rfl⟩
       go_wp2_with fail
       refine (c3 _).mono ?_
       rintro e w3 ⟨rfl, E3⟩
       have B3 := blk5_top rfl E3
       have X3 := ((Ext.refl w).alloc _).trans E3
       have D3 := B3
       obtain ⟨_, ⟨b0, b1, b2, b3, b4⟩, f0, f1, f2, f3, f4⟩ := D3
       clear E3
       go_wp2_with fail
       refine fin5 _ (B3.set _ _ _ _ _) rfl (by with_reducible repeat (first | assumption | exact Ext.refl _ | apply Ext.alloc | apply Ext.drewN | (refine Ext.setCell ?_ (by simp) _))) (fun g0 g1 g2 g3 g4 => by simp [results, Try.results51, go_sem, g0, g1, g2, g3, g4]; rfl) (fun h => ⟨?_, h⟩)
       rw [R0.out]
       exact rfl
     · subst k0
       have R0 : Hid (nuRL l = .ok (0, [], V, 0, numE l)) := H1.out rfl
       clear H0 H1 H2 HK
       go_wp2_with fail
       refine (c1 _).mono ?_
       rintro e w1 ⟨rfl, rfl⟩
       go_wp2_with fail
       refine (c2 _).mono ?_
       rintro e w2 ⟨rfl, rfl⟩
       go_wp2_with fail
       refine (c4 _).mono ?_
       rintro e w2 ⟨rfl, rfl⟩
       go_wp2_with fail
       refine (c3 _).mono ?_
       rintro e w3 ⟨rfl, E3⟩
       have B3 := blk5_top rfl E3
       have X3 := ((Ext.refl w).alloc _).trans E3
       have D3 := B3
       obtain ⟨_, ⟨b0, b1, b2, b3, b4⟩, f0, f1, f2, f3, f4⟩ := D3
       clear E3
       go_wp2_with fail
       refine fin5 _ (B3.set _ _ _ _ _) rfl (by with_reducible repeat (first | assumption | exact Ext.refl _ | apply Ext.alloc | apply Ext.drewN | (refine Ext.setCell ?_ (by simp) _))) (fun g0 g1 g2 g3 g4 => by simp [results, Try.results51, go_sem, g0, g1, g2, g3, g4]; rfl) (fun h => ⟨?_, h⟩)
       rw [R0.out]
       exact rx_fin (0, [], V, 0, numE l) k _ (by rw [HM.out])
     · subst k0
       have R0 : Hid (nuRL l = .error 2) := H2.out rfl
       clear H0 H1 H2 HK
       go_wp2_with fail
       refine (c1 _).mono ?_
       rintro e w1 ⟨rfl, rfl⟩
       go_wp2_with fail
       refine (c2 _).mono ?_
       rintro e w2 ⟨rfl, rfl⟩
       go_wp2_with fail
       refine (c4 _).mono ?_
       rintro e w2 ⟨rfl, rfl⟩
       go_wp2_with fail
       refine (c3 _).mono ?_
       rintro e w3 ⟨rfl, E3⟩
       have B3 := blk5_top rfl E3
       have X3 := ((Ext.refl w).alloc _).trans E3
       have D3 := B3
       obtain ⟨_, ⟨b0, b1, b2, b3, b4⟩, f0, f1, f2, f3, f4⟩ := D3
       clear E3
       go_wp2_with fail
       refine fin5 _ (B3.set _ _ _ _ _) rfl (by with_reducible repeat (first | assumption | exact Ext.refl _ | apply Ext.alloc | apply Ext.drewN | (refine Ext.setCell ?_ (by simp) _))) (fun g0 g1 g2 g3 g4 => by simp [results, Try.results51, go_sem, g0, g1, g2, g3, g4]; rfl) (fun h => ⟨?_, h⟩)
       rw [R0.out]
       exact rfl
 · rw [decide_eq_false h1] at c2
   rw [if_neg (fun h => h1 h.1)] at hE
   have hme : m = e1 := by omega
   subst hme
   clear h1
   clear hr hn hng hm hqq hK hV hn1 hE hlen hl hll hk hdr hdot
   go_enter Try.func51, Try.ntmps51
   rcases HK.out with k0 | k0 | k0
   · subst k0
     have R0 : Hid (nuRL l = .error 4) := H0.out rfl
     clear H0 H1 H2 HK
     go_wp2_with fail
     refine (c1 _).mono ?_
     rintro e w1 ⟨rfl, rfl⟩
     go_wp2_with fail
     refine (c2 _).mono ?_
     rintro e w2 ⟨rfl, rfl⟩
     go_wp2_with fail
     refine (c3 _).mono ?_
     rintro e w3 ⟨rfl, E3⟩
     have B3 := blk5_top rfl E3
     have X3 := ((Ext.refl w).alloc _).trans E3
     have D3 := B3
     obtain ⟨_, ⟨b0, b1, b2, b3, b4⟩, f0, f1, f2, f3, f4⟩ := D3
     clear E3
     go_wp2_with fail
     refine fin5 _ (B3.set _ _ _ _ _) rfl (by with_reducible repeat (first | assumption | exact Ext.refl _ | apply Ext.alloc | apply Ext.drewN | (refine Ext.setCell ?_ (by simp) _))) (fun g0 g1 g2 g3 g4 => by simp [results, Try.results51, go_sem, g0, g1, g2, g3, g4]; rfl) (fun h => ⟨?_, h⟩)
     rw [R0.out]
     exact rfl
   · subst k0
     have R0 : Hid (nuRL l = .ok (0, [], V, 0, numE l)) := H1.out rfl
     clear H0 H1 H2 HK
     go_wp2_with fail
     refine (c1 _).mono ?_
     rintro e w1 ⟨rfl, rfl⟩
     go_wp2_with fail
     refine (c2 _).mono ?_
     rintro e w2 ⟨rfl, rfl⟩
     go_wp2_with fail
     refine (c3 _).mono ?_
     rintro e w3 ⟨rfl, E3⟩
     have B3 := blk5_top rfl E3
     have X3 := ((Ext.refl w).alloc _).trans E3
     have D3 := B3
     obtain ⟨_, ⟨b0, b1, b2, b3, b4⟩, f0, f1, f2, f3, f4⟩ := D3
     clear E3
     go_wp2_with fail
     refine fin5 _ (B3.set _ _ _ _ _) rfl (by with_reducible repeat (first | assumption | exact Ext.refl _ | apply Ext.alloc | apply Ext.drewN | (refine Ext.setCell ?_ (by simp) _))) (fun g0 g1 g2 g3 g4 => by simp [results, Try.results51, go_sem, g0, g1, g2, g3, g4]; rfl) (fun h => ⟨?_, h⟩)
     rw [R0.out]
     exact rx_fin (0, [], V, 0, numE l) k _ (by rw [HM.out])
   · subst k0
     have R0 : Hid (nuRL l = .error 2) := H2.out rfl
     clear H0 H1 H2 HK
     go_wp2_with fail
     refine (c1 _).mono ?_
     rintro e w1 ⟨rfl, rfl⟩
     go_wp2_with fail
     refine (c2 _).mono ?_
     rintro e w2 ⟨rfl, rfl⟩
     go_wp2_with fail
     refine (c3 _).mono ?_
     rintro e w3 ⟨rfl, E3⟩
     have B3 := blk5_top rfl E3
     have X3 := ((Ext.refl w).alloc _).trans E3
     have D3 := B3
     obtain ⟨_, ⟨b0, b1, b2, b3, b4⟩, f0, f1, f2, f3, f4⟩ := D3
     clear E3
     go_wp2_with fail
     refine fin5 _ (B3.set _ _ _ _ _) rfl (by with_reducible repeat (first | assumption | exact Ext.refl _ | apply Ext.alloc | apply Ext.drewN | (refine Ext.setCell ?_ (by simp) _))) (fun g0 g1 g2 g3 g4 => by simp [results, Try.results51, go_sem, g0, g1, g2, g3, g4]; rfl) (fun h => ⟨?_, h⟩)
     rw [R0.out]
     exact rfl
open Go.RowKit
set_option maxHeartbeats 1000000
def OwB (w : World) (base : Nat) (v : Value) (l : List UInt8) : Prop := (∃ g cap, v = .slice (some ⟨g, 0, none⟩) l.length cap) ∧ w.ownsRow base 5 1 v l.length (Lib.byteCells l)
theorem OwB.alloc {w : World} {base : Nat} {v : Value} {l : List UInt8} (h : OwB w base v l) (o : Obj) : OwB (w.alloc o) base v l := ⟨h.1, h.2.alloc o⟩
theorem OwB.conv {w : World} {base : Nat} {v : Value} {l : List UInt8} (h : OwB w base v l) : (convert 99 9 v).run Try.prog w = .ok (.string (bs l)) w := by
 obtain ⟨⟨g, cap, rfl⟩, h2⟩ := h
 exact run_convert_bytes_back w 99 9 5 ⟨g, 0, none⟩ cap l Try.underlying99 Try.underlying5 Try.underlying9 (fun j hj => h2.cells (g := g) rfl j _ (by rw [List.getElem?_eq_getElem (by rw [Lib.byteCells_length]; exact hj)]; simp [Lib.byteCells]))
theorem owb_new (W : World) (base : Nat) (h : base ≤ W.heap.size) : OwB (W.alloc (.cells #[] 5)) base (.slice (some ⟨W.heap.size, 0, none⟩) 0 0) [] :=
 ⟨⟨_, _, rfl⟩, World.ownsRow_made W #[] 0 h (by unfold maxLen; omega) (by simp)⟩
theorem ob_append {ops : Array Oper} {rest : List Oper} {o : Oper} {a : Act} {Q : Exit → Act → World → Prop} (w W : World) (base : Nat) (hbase : base = w.heap.size) (s x : Operand) (v : Value) (b : Nat) (l : List UInt8) (c : UInt8) (hgd : o.guard = none)
   (ho : o.op = .call { callee := .builtin .append, args := #[s, x], argTypes := #[99, 99] })
   (hs : a.eval s = v) (hx : a.eval x = .slice (some ⟨b, 0, none⟩) 1 1) (hB : OwB W base v l) (hR : W.cell? ⟨b, 0, none⟩ = some (.int .u8 (c.toNat : Int))) (hlen : l.length ≤ 100000) (hE : Ext w W)
   (h : ∀ v' W', OwB W' base v' (l ++ [c]) → Ext w W' → wpList Try.prog ops Q rest (a.put o.dst v') W') : wpList Try.prog ops Q (o :: rest) a W := by
 subst hbase
 obtain ⟨i, hi, hz, h1, h2⟩ := byte_info
 refine wpList_append_own_at W hgd s x 99 ho w.heap.size 5 i _ 1 1 Try.underlying99 hi hz h1 h2 rfl (by decide) v l.length (Lib.byteCells l) hs hB.2 ⟨b, 0, none⟩ 1 1 [.int .u8 (c.toNat : Int)] hx rfl ?_ ?_ (by unfold maxLen; omega) (by omega) hE.size ?_
 · intro j u hj
   match j, hj with
   | 0, hj => simp at hj; subst hj; rw [Addr.add_lit]; exact hR
 · intro u hu; simp at hu; subst hu; rfl
 · intro v' W' h3 h4 _ _
   have e : Lib.byteCells l ++ [.int .u8 (c.toNat : Int)] = Lib.byteCells (l ++ [c]) := by simp [Lib.byteCells]
   rw [e] at h3
   have e2 : (l ++ [c]).length = l.length + 1 := by simp
   refine h v' W' ⟨?_, by rw [e2]; exact h3⟩ ⟨h4.os.trans hE.os, h4.tape.trans hE.tape, h4.output.trans hE.output, Nat.le_trans hE.size h4.size, fun k hk => ?_⟩
   · rw [e2]
     rcases h3.2 with ⟨_, h0⟩ | ⟨g, cap, cur, hv, _⟩
     · omega
     · exact ⟨g, cap, hv⟩
   · refine (h4.block k (Nat.lt_of_lt_of_le hk hE.size) (fun e => ?_)).trans (hE.block k hk)
     have := (hB.2.lt k e.symm).1
     omega
theorem qtext_any (s : ByteArray) (k : Nat) (w : World) (hk : k < s.size) (hs : s.size ≤ 300) :
   Calls Try.prog 52 #[.string s, .int .i64 (k : Int)] w fun e w' => RxR (txtR (s.data.toList.drop k)) k e ∧ Ext w w' := by
 have hl := size_list s
 obtain ⟨l, hll⟩ : ∃ l, s.data.toList = l := ⟨_, rfl⟩
 have HL : Hid (l.length = s.size) := by show _ = _; rw [← hll]; exact hl
 have HA : Hid (∀ i (h : i < s.size) (h' : i < l.length), l[i] = s[i]) := by intro i h h'; subst hll; rfl
 have cI : ∀ i W, i ≤ s.size → Calls Try.prog 53 #[.string s, .int .i64 (i : Int), .string ⟨#[34]⟩] W fun e w' => e = .returned (.bool (decide ((l.drop i).head? = some 34))) ∧ w' = W := by
   intro i W hi
   have h := qis_any s ⟨#[34]⟩ i W hi hs (by decide)
   rw [hll] at h
   have hdot : ((⟨#[34]⟩ : ByteArray).data.toList.isPrefixOf (l.drop i)) = decide ((l.drop i).head? = some 34) := by
     show List.isPrefixOf [34] (l.drop i) = _
     rw [Bool.eq_iff_iff]
     cases l.drop i with
     | nil => simp
     | cons c r => simp [List.isPrefixOf]; exact eq_comm
   rwa [hdot] at h
 have HI : Hid (∀ i W, i ≤ s.size → Calls Try.prog 53 #[.string s, .int .i64 (i : Int), .string ⟨#[34]⟩] W fun e w' => e = .returned (.bool (decide ((l.drop i).head? = some 34))) ∧ w' = W) := cI
 rw [hll]
 clear hl hll cI
 go_enter Try.func52, Try.ntmps52
 go_wp2_with fail
 go_loopw [7, 8] (fun v i wr => ∃ (j : Nat) (acc : List UInt8), j ≤ s.size ∧ i = .int .i64 (j : Int) ∧ TxA l k j acc ∧ OwB wr (w.heap.size + 1) v acc ∧ Ext (w.alloc (.cells #[.int .i64 0, .int .i64 0, .string ⟨#[]⟩, .int .i64 0, .int .i64 0] 62)) wr) (fun _ i _ => s.size - (intOf i).toNat)
 case atStart => exact ⟨k + 1, [], hk, by go_num, TxA.start l k, by have := owb_new (w.alloc (.cells #[.int .i64 0, .int .i64 0, .string ⟨#[]⟩, .int .i64 0, .int .i64 0] 62)) _ (Nat.le_refl _); simpa using this, (Ext.refl _).alloc _⟩
 case round =>
   obtain ⟨j, acc, hj, rfl, hT, hO, hE⟩ := hrel
   obtain ⟨⟨g, cap, rfl⟩, hO2⟩ := hO
   have HT : Hid (TxA l k j acc) := hT
   have HO : Hid (OwB wr (w.heap.size + 1) (.slice (some ⟨g, 0, none⟩) acc.length cap) acc) := ⟨⟨g, cap, rfl⟩, hO2⟩
   have HE : Hid (Ext (w.alloc (.cells #[.int .i64 0, .int .i64 0, .string ⟨#[]⟩, .int .i64 0, .int .i64 0] 62)) wr) := hE
   have HC : Hid (acc.length ≤ 1000) := by have := hT.2.1; show _ ≤ _; omega
   have HJ : Hid (k + 1 ≤ j) := hT.1
   clear hT hO2 hE
   by_cases hlt : j < s.size
   · have hltI : (j : Int) < (s.size : Int) := by omega
     have wk : wrap64 ((j : Int) + 1) = ((j + 1 : Nat) : Int) := by unfold wrap64; omega
     have hb := byte_ne (c := s[j]) 34 (by omega)
     by_cases h1 : s[j] = 34
     · have tb : (((s[j]).toNat : Int) != 34) = false := by rw [bne, show (34 : Int) = ((34 : Nat) : Int) from rfl, hb, h1]; rfl
       have c1 := fun W => HI.out (j + 1) W hlt
       by_cases h2 : (l.drop (j + 1)).head? = some 34
       · rw [decide_eq_true h2] at c1
         have hlt2 : j + 1 < l.length := by
           rw [List.head?_drop] at h2; exact (List.getElem?_eq_some_iff.mp h2).1
         have HX : Hid (TxA l k (j + 1 + 1) (acc ++ [34])) := by
           rw [List.head?_drop, List.getElem?_eq_getElem hlt2] at h2
           exact HT.out.two hlt2 (by rw [HA.out j hlt]; exact h1) (Option.some.inj h2)
         have hlt3 : (j : Int) + 1 < (s.size : Int) := by have := HL.out; omega
         have HB : Hid (j + 1 + 1 ≤ s.size) := by have := HL.out; show _ ≤ _; omega
         clear hb h1 h2 hlt2
         go_wp2_with fail
         refine (c1 _).mono ?_
         rintro e w1 ⟨rfl, rfl⟩
         go_wp2_with (at_builtin; refine ob_append (w.alloc (.cells #[.int .i64 0, .int .i64 0, .string ⟨#[]⟩, .int .i64 0, .int .i64 0] 62)) _ (w.heap.size + 1) (by simp) _ _ _ _ acc 34 rfl rfl (by rfl) (by rfl) (HO.out.alloc _) (by simp) (by have := HC.out; omega) (HE.out.alloc _) ?_)
         intro v' w2 k1 k2
         have HO2 : Hid (OwB w2 (w.heap.size + 1) v' (acc ++ [34]) ∧ Ext (w.alloc (.cells #[.int .i64 0, .int .i64 0, .string ⟨#[]⟩, .int .i64 0, .int .i64 0] 62)) w2) := ⟨k1, k2⟩
         clear k1 k2
         go_wp2_with fail
         go_roundw
         case rel => exact ⟨j + 1 + 1, acc ++ [34], HB.out, by go_num, HX.out, HO2.out.1, HO2.out.2⟩
         case measure => simp [intOf]; omega
       · rw [decide_eq_false h2] at c1
         have HX : Hid (txtR (l.drop k) = .ok (1, acc, 0, 0, j + 1 - k)) := HT.out.done (by have := HL.out; omega) (by rw [HA.out j hlt]; exact h1) h2
         have CV : Hid (∀ v, v = Value.slice (some ⟨g, 0, none⟩) acc.length cap → (convert 99 9 v).run Try.prog wr = .ok (.string (bs acc)) wr) := by rintro v rfl; exact HO.out.conv
         clear hb h1 h2
         go_wp2_with fail
         refine (c1 _).mono ?_
         rintro e w1 ⟨rfl, rfl⟩
         have hcv := CV.out _ rfl
         obtain ⟨q, hq⟩ : ∃ q, bs acc = q := ⟨_, rfl⟩
         rw [hq] at hcv
         have HQ : Hid (bs acc = q) := hq
         have B3 := blk5_top rfl HE.out
         have X3 := ((Ext.refl w).alloc _).trans HE.out
         have D3 := B3
         obtain ⟨_, ⟨b0, b1, b2, b3, b4⟩, f0, f1, f2, f3, f4⟩ := D3
         clear hq
         go_wp2_with fail
         refine fin5 _ (B3.set _ _ _ _ _) rfl (by with_reducible repeat (first | assumption | exact Ext.refl _ | apply Ext.alloc | apply Ext.drewN | (refine Ext.setCell ?_ (by simp) _))) (fun g0 g1 g2 g3 g4 => by simp [results, Try.results52, go_sem, g0, g1, g2, g3, g4]; rfl) (fun h => ⟨?_, h⟩)
         rw [HX.out]
         rw [← HQ.out]
         exact rx_fin (1, acc, 0, 0, j + 1 - k) k _ (by have := HJ.out; simp; omega)
     · have tb : (((s[j]).toNat : Int) != 34) = true := by rw [bne, show (34 : Int) = ((34 : Nat) : Int) from rfl, hb]; simpa using h1
       have HX : Hid (TxA l k (j + 1) (acc ++ [s[j]])) := by
         have h3 : j < l.length := by have := HL.out; omega
         have := HT.out.one h3 (by rw [HA.out j hlt]; exact h1)
         rwa [HA.out j hlt] at this
       clear hb h1
       go_wp2_with (at_builtin; refine ob_append (w.alloc (.cells #[.int .i64 0, .int .i64 0, .string ⟨#[]⟩, .int .i64 0, .int .i64 0] 62)) _ (w.heap.size + 1) (by simp) _ _ _ _ acc s[j] rfl rfl (by rfl) (by rfl) (HO.out.alloc _) (by simp) (by have := HC.out; omega) (HE.out.alloc _) ?_)
       intro v' w2 k1 k2
       have HO2 : Hid (OwB w2 (w.heap.size + 1) v' (acc ++ [s[j]]) ∧ Ext (w.alloc (.cells #[.int .i64 0, .int .i64 0, .string ⟨#[]⟩, .int .i64 0, .int .i64 0] 62)) w2) := ⟨k1, k2⟩
       clear k1 k2
       go_wp2_with fail
       go_roundw
       case rel => exact ⟨j + 1, acc ++ [s[j]], by omega, by go_num, HX.out, HO2.out.1, HO2.out.2⟩
       case measure => simp [intOf]; omega
   · have hltI : ¬ (j : Int) < (s.size : Int) := by omega
     have HX : Hid (txtR (l.drop k) = .error 4) := HT.out.none (by have := HL.out; omega)
     have B3 := blk5_top rfl HE.out
     have X3 := ((Ext.refl w).alloc _).trans HE.out
     have D3 := B3
     obtain ⟨_, ⟨b0, b1, b2, b3, b4⟩, f0, f1, f2, f3, f4⟩ := D3
     go_wp2_with fail
     refine fin5 _ (B3.set _ _ _ _ _) rfl (by with_reducible repeat (first | assumption | exact Ext.refl _ | apply Ext.alloc | apply Ext.drewN | (refine Ext.setCell ?_ (by simp) _))) (fun g0 g1 g2 g3 g4 => by simp [results, Try.results52, go_sem, g0, g1, g2, g3, g4]; rfl) (fun h => ⟨?_, h⟩)
     rw [HX.out]
     exact rfl
open Go.RowKit
set_option maxHeartbeats 1000000
theorem kind_two (c : UInt8) (h : dgB c = false) : (kindN c == 2) = letB c := by
 unfold kindN; rw [h]; cases letB c <;> rfl
theorem kind_pos (c : UInt8) : decide (0 < kindN c) = (letB c || dgB c) := by
 unfold kindN; cases dgB c <;> cases letB c <;> rfl
theorem err_first {l : List UInt8} {x : Int × List UInt8} (h : errT l = some x) : l.head? = some 35 := by
 unfold errT at h
 have h1 := List.find?_some h
 have h2 := List.mem_of_find?_eq_some h
 obtain ⟨t, rfl⟩ := List.isPrefixOf_iff_prefix.mp h1
 simp [errsL] at h2; rcases h2 with rfl | rfl | rfl | rfl | rfl <;> rfl
def sg12 : List UInt8 := [60, 62, 61, 43, 45, 42, 47, 38, 40, 41, 44, 58]
theorem sg_two {l p : List UInt8} (hp : p = [60, 62] ∨ p = [60, 61] ∨ p = [62, 61]) (h : p.isPrefixOf l = true) : sgR l = .ok (3, l.take 2, 0, 0, 2) := by
 obtain ⟨t, rfl⟩ := List.isPrefixOf_iff_prefix.mp h
 rcases hp with rfl | rfl | rfl <;> rfl
theorem sg_one {c : UInt8} {r : List UInt8} (h1 : List.isPrefixOf [60, 62] (c :: r) = false) (h2 : List.isPrefixOf [60, 61] (c :: r) = false) (h3 : List.isPrefixOf [62, 61] (c :: r) = false) :
   sgR (c :: r) = if c ∈ sg12 then .ok (3, [c], 0, 0, 1) else .error 4 := by
 unfold sgR sgT sgsL
 simp only [List.find?_cons, h1, h2, h3]
 simp only [List.isPrefixOf_cons_cons, List.isPrefixOf_nil_left, Bool.and_true, List.find?_nil]
 unfold sg12
 simp only [List.mem_cons, List.not_mem_nil, or_false]
 by_cases g0 : c = 60
 · subst g0; rfl
 by_cases g1 : c = 62
 · subst g1; rfl
 by_cases g2 : c = 61
 · subst g2; rfl
 by_cases g3 : c = 43
 · subst g3; rfl
 by_cases g4 : c = 45
 · subst g4; rfl
 by_cases g5 : c = 42
 · subst g5; rfl
 by_cases g6 : c = 47
 · subst g6; rfl
 by_cases g7 : c = 38
 · subst g7; rfl
 by_cases g8 : c = 40
 · subst g8; rfl
 by_cases g9 : c = 41
 · subst g9; rfl
 by_cases g10 : c = 44
 · subst g10; rfl
 by_cases g11 : c = 58
 · subst g11; rfl
 have e : ∀ d : UInt8, c ≠ d → (d == c) = false := fun d h => by simpa using fun e : d = c => h e.symm
 rw [e 60 g0, e 62 g1, e 61 g2, e 43 g3, e 45 g4, e 42 g5, e 47 g6, e 38 g7, e 40 g8, e 41 g9, e 44 g10, e 58 g11, if_neg (by simp [g0, g1, g2, g3, g4, g5, g6, g7, g8, g9, g10, g11])]
theorem nxt_err {c : UInt8} {r : List UInt8} (h1 : dgB c = false) (h2 : c ≠ 34) (h3 : letB c = false) {x : Int × List UInt8} (h : errT (c :: r) = some x) : nxt (c :: r) = .ok (4, [], 0, x.1, x.2.length) := by
 have hc := err_first h
 simp at hc
 rw [nxt_cons, h1, if_neg (by simp), if_neg h2, h3, if_neg (by simp), if_pos hc]; unfold errR; rw [h]
theorem nxt_sg {c : UInt8} {r : List UInt8} (h1 : dgB c = false) (h2 : c ≠ 34) (h3 : letB c = false) (h : errT (c :: r) = none) : nxt (c :: r) = sgR (c :: r) := by
 rw [nxt_cons, h1, if_neg (by simp), if_neg h2, h3, if_neg (by simp)]
 by_cases hc : c = 35
 · rw [if_pos hc]; unfold errR; rw [h]; subst hc; rfl
 · rw [if_neg hc]
theorem sg12_0 (W : World) : (Instr.index 9 (.string ⟨#[60, 62, 61, 43, 45, 42, 47, 38, 40, 41, 44, 58]⟩) (.int .i64 0)).run Try.prog W = .ok (.int .u8 60) W := by kernel_rfl
theorem sg12_1 (W : World) : (Instr.index 9 (.string ⟨#[60, 62, 61, 43, 45, 42, 47, 38, 40, 41, 44, 58]⟩) (.int .i64 1)).run Try.prog W = .ok (.int .u8 62) W := by kernel_rfl
theorem sg12_2 (W : World) : (Instr.index 9 (.string ⟨#[60, 62, 61, 43, 45, 42, 47, 38, 40, 41, 44, 58]⟩) (.int .i64 2)).run Try.prog W = .ok (.int .u8 61) W := by kernel_rfl
theorem sg12_3 (W : World) : (Instr.index 9 (.string ⟨#[60, 62, 61, 43, 45, 42, 47, 38, 40, 41, 44, 58]⟩) (.int .i64 3)).run Try.prog W = .ok (.int .u8 43) W := by kernel_rfl
theorem sg12_4 (W : World) : (Instr.index 9 (.string ⟨#[60, 62, 61, 43, 45, 42, 47, 38, 40, 41, 44, 58]⟩) (.int .i64 4)).run Try.prog W = .ok (.int .u8 45) W := by kernel_rfl
theorem sg12_5 (W : World) : (Instr.index 9 (.string ⟨#[60, 62, 61, 43, 45, 42, 47, 38, 40, 41, 44, 58]⟩) (.int .i64 5)).run Try.prog W = .ok (.int .u8 42) W := by kernel_rfl
theorem sg12_6 (W : World) : (Instr.index 9 (.string ⟨#[60, 62, 61, 43, 45, 42, 47, 38, 40, 41, 44, 58]⟩) (.int .i64 6)).run Try.prog W = .ok (.int .u8 47) W := by kernel_rfl
theorem sg12_7 (W : World) : (Instr.index 9 (.string ⟨#[60, 62, 61, 43, 45, 42, 47, 38, 40, 41, 44, 58]⟩) (.int .i64 7)).run Try.prog W = .ok (.int .u8 38) W := by kernel_rfl
theorem sg12_8 (W : World) : (Instr.index 9 (.string ⟨#[60, 62, 61, 43, 45, 42, 47, 38, 40, 41, 44, 58]⟩) (.int .i64 8)).run Try.prog W = .ok (.int .u8 40) W := by kernel_rfl
theorem sg12_9 (W : World) : (Instr.index 9 (.string ⟨#[60, 62, 61, 43, 45, 42, 47, 38, 40, 41, 44, 58]⟩) (.int .i64 9)).run Try.prog W = .ok (.int .u8 41) W := by kernel_rfl
theorem sg12_10 (W : World) : (Instr.index 9 (.string ⟨#[60, 62, 61, 43, 45, 42, 47, 38, 40, 41, 44, 58]⟩) (.int .i64 10)).run Try.prog W = .ok (.int .u8 44) W := by kernel_rfl
theorem sg12_11 (W : World) : (Instr.index 9 (.string ⟨#[60, 62, 61, 43, 45, 42, 47, 38, 40, 41, 44, 58]⟩) (.int .i64 11)).run Try.prog W = .ok (.int .u8 58) W := by kernel_rfl
theorem sg12_at (j : Nat) (p : UInt8) (h : sg12[j]? = some p) (W : World) : (Instr.index 9 (.string ⟨#[60, 62, 61, 43, 45, 42, 47, 38, 40, 41, 44, 58]⟩) (.int .i64 (j : Int))).run Try.prog W = .ok (.int .u8 (p.toNat : Int)) W := by
 have hj : j < 12 := (List.getElem?_eq_some_iff.mp h).1
 have hh : j = 0 ∨ j = 1 ∨ j = 2 ∨ j = 3 ∨ j = 4 ∨ j = 5 ∨ j = 6 ∨ j = 7 ∨ j = 8 ∨ j = 9 ∨ j = 10 ∨ j = 11 := by omega
 rcases hh with rfl | rfl | rfl | rfl | rfl | rfl | rfl | rfl | rfl | rfl | rfl | rfl
 · simp [sg12] at h; subst h; exact sg12_0 W
 · simp [sg12] at h; subst h; exact sg12_1 W
 · simp [sg12] at h; subst h; exact sg12_2 W
 · simp [sg12] at h; subst h; exact sg12_3 W
 · simp [sg12] at h; subst h; exact sg12_4 W
 · simp [sg12] at h; subst h; exact sg12_5 W
 · simp [sg12] at h; subst h; exact sg12_6 W
 · simp [sg12] at h; subst h; exact sg12_7 W
 · simp [sg12] at h; subst h; exact sg12_8 W
 · simp [sg12] at h; subst h; exact sg12_9 W
 · simp [sg12] at h; subst h; exact sg12_10 W
 · simp [sg12] at h; subst h; exact sg12_11 W
theorem qerrname_at (i : Nat) (x : Int × List UInt8) (hx : errsL[i]? = some x) (w : World) : Calls Try.prog 41 #[.int .i64 ((i + 1 : Nat) : Int)] w fun r w' => r = .returned (.string (bs x.2)) ∧ w' = w := by
 have hi : i < 5 := (List.getElem?_eq_some_iff.mp hx).1
 have hh : i = 0 ∨ i = 1 ∨ i = 2 ∨ i = 3 ∨ i = 4 := by omega
 rcases hh with rfl | rfl | rfl | rfl | rfl
 all_goals
   simp [errsL] at hx
   subst hx
   clear hi
   go_enter Try.func41, Try.ntmps41
   go_wp2_with fail
   go_ret
   exact ⟨rfl, rfl⟩
set_option maxHeartbeats 4000000 in
theorem qword_any (s : ByteArray) (k : Nat) (w : World) (hk : k < s.size) (hs : s.size ≤ 300) :
   Calls Try.prog 32 #[.string s, .int .i64 (k : Int)] w fun e w' => RxR (nxt (s.data.toList.drop k)) k e ∧ Ext w w' := by
 have hl := size_list s
 have hkI : (k : Int) < (s.size : Int) := by omega
 obtain ⟨l, hll⟩ : ∃ l, s.data.toList.drop k = l := ⟨_, rfl⟩
 have hc : l = s[k] :: s.data.toList.drop (k + 1) := by rw [← hll, List.drop_eq_getElem_cons (by rw [hl]; exact hk)]; rfl
 have hn : nxt l = if dgB s[k] then nuRL l else if s[k] = 34 then txtR l else if letB s[k] then wdR l else if s[k] = 35 then errR l else sgR l := by
   rw [hc]; exact nxt_cons _ _
 have d1 := fun W => qkind_any s[k] W
 have k1 := kind_one s[k]
 have k2 := kind_two s[k]
 obtain ⟨K, hK⟩ : ∃ K, kindN s[k] = K := ⟨_, rfl⟩
 rw [hK] at d1 k1 k2
 have b1 := byte_ne (c := s[k]) 34 (by omega)
 have c1 := fun W => qnumber_any s k W (Nat.le_of_lt hk) hs
 have c2 := fun W => qtext_any s k W hk hs
 rw [hll] at c1 c2 ⊢
 cases h1 : dgB s[k]
 case true =>
   rw [h1] at k1 hn
   simp only [if_true] at hn
   clear h1 b1 k2 hK hl hll hc
   have HN : Hid (nxt l = nuRL l) := hn
   clear hn
   cases hr : nuRL l with
   | ok x =>
     have HR : Hid (nuRL l = .ok x) := hr
     obtain ⟨x0, x1, x2, x3, x4⟩ := x
     have C : ∀ W, Calls Try.prog 51 #[.string s, .int .i64 (k : Int)] W fun e w' => e = .returned (.tuple #[.agg #[.int .i64 x0, .int .i64 (k : Int), .string (bs x1), .int .i64 x2, .int .i64 x3], .int .i64 ((k + x4 : Nat) : Int), .int .i64 0]) ∧ Ext W w' := by rw [hr] at c1; exact c1
     clear hr c1 c2
     obtain ⟨q1, hq1⟩ : ∃ q1, bs x1 = q1 := ⟨_, rfl⟩
     obtain ⟨m, hm⟩ : ∃ m, k + x4 = m := ⟨_, rfl⟩
     rw [hq1, hm] at C
     have HQ : Hid (bs x1 = q1 ∧ k + x4 = m) := ⟨hq1, hm⟩
     clear hq1 hm
     go_enter Try.func32, Try.ntmps32
     go_wp2_with fail
     refine (d1 _).mono ?_
     rintro e w1 ⟨rfl, rfl⟩
     go_wp2_with fail
     refine (C _).mono ?_
     rintro e w3 ⟨rfl, E3⟩
     have B3 := blk5_top rfl E3
     have X3 := ((Ext.refl w).alloc _).trans E3
     have D3 := B3
     obtain ⟨_, ⟨b0, b1, b2, b3, b4⟩, f0, f1, f2, f3, f4⟩ := D3
     clear E3
     go_wp2_with fail
     refine fin5 _ (B3.set _ _ _ _ _) rfl (by with_reducible repeat (first | assumption | exact Ext.refl _ | apply Ext.alloc | apply Ext.drewN | (refine Ext.setCell ?_ (by simp) _))) (fun g0 g1 g2 g3 g4 => by simp [results, Try.results32, go_sem, g0, g1, g2, g3, g4]; rfl) (fun h => ⟨?_, h⟩)
     rw [HN.out, HR.out, ← HQ.out.1]
     exact rx_fin (x0, x1, x2, x3, x4) k _ (by rw [← HQ.out.2])
   | error c =>
     have HR : Hid (nuRL l = .error c) := hr
     have C : ∀ W, Calls Try.prog 51 #[.string s, .int .i64 (k : Int)] W fun e w' => e = .returned (.tuple #[.agg #[.int .i64 0, .int .i64 0, .string ⟨#[]⟩, .int .i64 0, .int .i64 0], .int .i64 (k : Int), .int .i64 c]) ∧ Ext W w' := by rw [hr] at c1; exact c1
     clear hr c1 c2
     go_enter Try.func32, Try.ntmps32
     go_wp2_with fail
     refine (d1 _).mono ?_
     rintro e w1 ⟨rfl, rfl⟩
     go_wp2_with fail
     refine (C _).mono ?_
     rintro e w3 ⟨rfl, E3⟩
     have B3 := blk5_top rfl E3
     have X3 := ((Ext.refl w).alloc _).trans E3
     have D3 := B3
     obtain ⟨_, ⟨b0, b1, b2, b3, b4⟩, f0, f1, f2, f3, f4⟩ := D3
     clear E3
     go_wp2_with fail
     refine fin5 _ (B3.set _ _ _ _ _) rfl (by with_reducible repeat (first | assumption | exact Ext.refl _ | apply Ext.alloc | apply Ext.drewN | (refine Ext.setCell ?_ (by simp) _))) (fun g0 g1 g2 g3 g4 => by simp [results, Try.results32, go_sem, g0, g1, g2, g3, g4]; rfl) (fun h => ⟨?_, h⟩)
     rw [HN.out, HR.out]
     exact rfl
 rw [h1] at k1 hn
 simp only [Bool.false_eq_true, if_false] at hn
 replace k2 := k2 h1
 by_cases h2 : s[k] = 34
 · rw [if_pos h2] at hn
   have t1 : (((s[k]).toNat : Int) == 34) = true := by rw [show (34 : Int) = ((34 : Nat) : Int) from rfl, b1, h2]; rfl
   clear h1 h2 b1 k2 hK hl hll hc
   have HN : Hid (nxt l = txtR l) := hn
   clear hn
   cases hr : txtR l with
   | ok x =>
     have HR : Hid (txtR l = .ok x) := hr
     obtain ⟨x0, x1, x2, x3, x4⟩ := x
     have C : ∀ W, Calls Try.prog 52 #[.string s, .int .i64 (k : Int)] W fun e w' => e = .returned (.tuple #[.agg #[.int .i64 x0, .int .i64 (k : Int), .string (bs x1), .int .i64 x2, .int .i64 x3], .int .i64 ((k + x4 : Nat) : Int), .int .i64 0]) ∧ Ext W w' := by rw [hr] at c2; exact c2
     clear hr c1 c2
     obtain ⟨q1, hq1⟩ : ∃ q1, bs x1 = q1 := ⟨_, rfl⟩
     obtain ⟨m, hm⟩ : ∃ m, k + x4 = m := ⟨_, rfl⟩
     rw [hq1, hm] at C
     have HQ : Hid (bs x1 = q1 ∧ k + x4 = m) := ⟨hq1, hm⟩
     clear hq1 hm
     go_enter Try.func32, Try.ntmps32
     go_wp2_with fail
     refine (d1 _).mono ?_
     rintro e w1 ⟨rfl, rfl⟩
     go_wp2_with fail
     refine (C _).mono ?_
     rintro e w3 ⟨rfl, E3⟩
     have B3 := blk5_top rfl E3
     have X3 := ((Ext.refl w).alloc _).trans E3
     have D3 := B3
     obtain ⟨_, ⟨b0, b1, b2, b3, b4⟩, f0, f1, f2, f3, f4⟩ := D3
     clear E3
     go_wp2_with fail
     refine fin5 _ (B3.set _ _ _ _ _) rfl (by with_reducible repeat (first | assumption | exact Ext.refl _ | apply Ext.alloc | apply Ext.drewN | (refine Ext.setCell ?_ (by simp) _))) (fun g0 g1 g2 g3 g4 => by simp [results, Try.results32, go_sem, g0, g1, g2, g3, g4]; rfl) (fun h => ⟨?_, h⟩)
     rw [HN.out, HR.out, ← HQ.out.1]
     exact rx_fin (x0, x1, x2, x3, x4) k _ (by rw [← HQ.out.2])
   | error c =>
     have HR : Hid (txtR l = .error c) := hr
     have C : ∀ W, Calls Try.prog 52 #[.string s, .int .i64 (k : Int)] W fun e w' => e = .returned (.tuple #[.agg #[.int .i64 0, .int .i64 0, .string ⟨#[]⟩, .int .i64 0, .int .i64 0], .int .i64 (k : Int), .int .i64 c]) ∧ Ext W w' := by rw [hr] at c2; exact c2
     clear hr c1 c2
     go_enter Try.func32, Try.ntmps32
     go_wp2_with fail
     refine (d1 _).mono ?_
     rintro e w1 ⟨rfl, rfl⟩
     go_wp2_with fail
     refine (C _).mono ?_
     rintro e w3 ⟨rfl, E3⟩
     have B3 := blk5_top rfl E3
     have X3 := ((Ext.refl w).alloc _).trans E3
     have D3 := B3
     obtain ⟨_, ⟨b0, b1, b2, b3, b4⟩, f0, f1, f2, f3, f4⟩ := D3
     clear E3
     go_wp2_with fail
     refine fin5 _ (B3.set _ _ _ _ _) rfl (by with_reducible repeat (first | assumption | exact Ext.refl _ | apply Ext.alloc | apply Ext.drewN | (refine Ext.setCell ?_ (by simp) _))) (fun g0 g1 g2 g3 g4 => by simp [results, Try.results32, go_sem, g0, g1, g2, g3, g4]; rfl) (fun h => ⟨?_, h⟩)
     rw [HN.out, HR.out]
     exact rfl
 rw [if_neg h2] at hn
 have t1 : (((s[k]).toNat : Int) == 34) = false := by rw [show (34 : Int) = ((34 : Nat) : Int) from rfl, b1]; simpa using h2
 cases h3 : letB s[k]
 case true =>
   rw [h3] at k2 hn
   simp only [if_true] at hn
   have HN : Hid (nxt l = .ok (2, l.take (run inW l), 0, 0, run inW l)) := hn
   have HL : Hid (s.data.toList.length = s.size) := hl
   have HD : Hid (s.data.toList.drop k = l) := hll
   clear h1 h2 h3 b1 hK hl hll hc hn c1 c2
   go_enter Try.func32, Try.ntmps32
   go_wp2_with fail
   refine (d1 _).mono ?_
   rintro e w1 ⟨rfl, rfl⟩
   go_wp2_with fail
   refine (d1 _).mono ?_
   rintro e w1 ⟨rfl, rfl⟩
   go_wp2_with fail
   go_loopw [7] (fun i wr => ∃ j : Nat, k ≤ j ∧ j ≤ s.size ∧ i = .int .i64 (j : Int) ∧ k + run inW l = j + run inW (s.data.toList.drop j) ∧ wr = w.alloc (.cells #[.int .i64 0, .int .i64 0, .string ⟨#[]⟩, .int .i64 0, .int .i64 0] 62)) (fun i _ => s.size - (intOf i).toNat)
   case atStart => exact ⟨k, Nat.le_refl _, Nat.le_of_lt hk, rfl, by rw [HD.out], rfl⟩
   case round =>
     obtain ⟨j, hkj, hj, rfl, ha, rfl⟩ := hrel
     have HA : Hid (k + run inW l = j + run inW (s.data.toList.drop j)) := ha
     clear ha
     by_cases hlt : j < s.size
     · have hltI : (j : Int) < (s.size : Int) := by omega
       have HT : Hid (run inW (s.data.toList.drop j) = if inW s[j] then run inW (s.data.toList.drop (j + 1)) + 1 else 0) := run_at inW s.data.toList j (by have := HL.out; omega)
       have e1 := fun W => qkind_any s[j] W
       have p1 := kind_pos s[j]
       obtain ⟨N, hN⟩ : ∃ N, kindN s[j] = N := ⟨_, rfl⟩
       rw [hN] at e1 p1
       have b2 := byte_ne (c := s[j]) 95 (by omega)
       have b3 : (((s[j]).toNat : Int) == 95) = (s[j] == 95) := by rw [show (95 : Int) = ((95 : Nat) : Int) from rfl, b2]; rfl
       have wk : wrap64 ((j : Int) + 1) = ((j + 1 : Nat) : Int) := by unfold wrap64; omega
       cases hp : (letB s[j] || dgB s[j])
       · rw [hp] at p1
         have q1 : ¬ (0 : Int) < N := by simpa using p1
         cases hu : (s[j] == 95)
         · have HP : Hid (inW s[j] = false) := by show _ = _; unfold inW; rw [hp, hu]; rfl
           rw [hu] at b3
           clear hp hu hN b2
           go_wp2_with fail
           refine (e1 _).mono ?_
           rintro e w1 ⟨rfl, rfl⟩
           go_wp2_with fail
           refine fin5 _ (blk5_top rfl (Ext.refl _)) rfl ((Ext.refl _).alloc _) (fun g0 g1 g2 g3 g4 => by simp [results, Try.results32, go_sem, g0, g1, g2, g3, g4]; rfl) (fun h => ⟨?_, h⟩)
           have hm : j = k + run inW l := by have h1 := HA.out; have h2 := HT.out; rw [HP.out] at h2; simp at h2; omega
           rw [HN.out, hm, sub_bs, HD.out]
           exact rx_fin (2, l.take (run inW l), 0, 0, run inW l) k _ rfl
         · have HP : Hid (inW s[j] = true) := by show _ = _; unfold inW; rw [hp, hu]; rfl
           rw [hu] at b3
           clear hp hu hN b2
           go_wp2_with fail
           refine (e1 _).mono ?_
           rintro e w1 ⟨rfl, rfl⟩
           go_wp2_with fail
           go_roundw
           case rel => exact ⟨j + 1, by omega, by omega, by go_num, by rw [HA.out, HT.out, HP.out]; simp; omega, trivial⟩
           case measure => simp [intOf]; omega
       · rw [hp] at p1
         have q1 : (0 : Int) < N := by simpa using p1
         have HP : Hid (inW s[j] = true) := by show _ = _; unfold inW; rw [hp]; rfl
         clear hp hN b2 b3
         go_wp2_with fail
         refine (e1 _).mono ?_
         rintro e w1 ⟨rfl, rfl⟩
         go_wp2_with fail
         go_roundw
         case rel => exact ⟨j + 1, by omega, by omega, by go_num, by rw [HA.out, HT.out, HP.out]; simp; omega, trivial⟩
         case measure => simp [intOf]; omega
     · have hltI : ¬ (j : Int) < (s.size : Int) := by omega
       have HT : Hid (run inW (s.data.toList.drop j) = 0) := run_off inW s.data.toList j (by have := HL.out; omega)
       have hjs : j ≤ s.size := hj
       go_wp2_with fail
       refine fin5 _ (blk5_top rfl (Ext.refl _)) rfl ((Ext.refl _).alloc _) (fun g0 g1 g2 g3 g4 => by simp [results, Try.results32, go_sem, g0, g1, g2, g3, g4]; rfl) (fun h => ⟨?_, h⟩)
       have hm : j = k + run inW l := by have h1 := HA.out; have h2 := HT.out; omega
       rw [HN.out, hm, sub_bs, HD.out]
       exact rx_fin (2, l.take (run inW l), 0, 0, run inW l) k _ rfl
 rw [h3] at k2
 have HE : Hid (∀ x, errT l = some x → nxt l = .ok (4, [], 0, x.1, x.2.length)) := by intro x hx; rw [hc] at hx ⊢; exact nxt_err h1 h2 h3 hx
 have HS : Hid (errT l = none → nxt l = sgR l) := by intro hx; rw [hc] at hx ⊢; exact nxt_sg h1 h2 h3 hx
 have HC : Hid (∃ r, l = s[k] :: r) := ⟨_, hc⟩
 have HD : Hid (s.data.toList.drop k = l) := hll
 have cI : ∀ t : ByteArray, t.size ≤ 10 → ∀ W, Calls Try.prog 53 #[.string s, .int .i64 (k : Int), .string t] W fun e w' => e = .returned (.bool (t.data.toList.isPrefixOf l)) ∧ w' = W := by
   intro t ht W
   have h := qis_any s t k W (Nat.le_of_lt hk) hs ht
   rwa [hll] at h
 have HI : Hid (∀ t : ByteArray, t.size ≤ 10 → ∀ W, Calls Try.prog 53 #[.string s, .int .i64 (k : Int), .string t] W fun e w' => e = .returned (.bool (t.data.toList.isPrefixOf l)) ∧ w' = W) := cI
 clear h1 h2 h3 b1 hK hl hll hc hn c1 c2 cI
 go_enter Try.func32, Try.ntmps32
 go_wp2_with fail
 refine (d1 _).mono ?_
 rintro e w1 ⟨rfl, rfl⟩
 go_wp2_with fail
 refine (d1 _).mono ?_
 rintro e w1 ⟨rfl, rfl⟩
 go_wp2_with fail
 go_loopw [8] (fun i wr => ∃ j : Nat, j ≤ 5 ∧ i = .int .i64 ((j + 1 : Nat) : Int) ∧ (errsL.take j).find? (fun x => x.2.isPrefixOf l) = none ∧ wr = w.alloc (.cells #[.int .i64 0, .int .i64 0, .string ⟨#[]⟩, .int .i64 0, .int .i64 0] 62)) (fun i _ => 6 - (intOf i).toNat)
 case atStart => exact ⟨0, by omega, rfl, rfl, rfl⟩
 case round =>
   obtain ⟨j, hj, rfl, hf, rfl⟩ := hrel
   have HF : Hid ((errsL.take j).find? (fun x => x.2.isPrefixOf l) = none) := hf
   clear hf
   by_cases hlt : j < 5
   · obtain ⟨x, hx⟩ : ∃ x, errsL[j]? = some x := ⟨_, List.getElem?_eq_getElem (by simp [errsL]; omega)⟩
     have e1 := fun W => qerrname_at j x hx W
     have HY : Hid (x.1 = (j : Int) + 1 ∧ (bs x.2).size ≤ 10) := by
       have hh : j = 0 ∨ j = 1 ∨ j = 2 ∨ j = 3 ∨ j = 4 := by omega
       rcases hh with rfl | rfl | rfl | rfl | rfl <;> (simp [errsL] at hx; subst hx; exact ⟨rfl, by decide⟩)
     have HX : Hid (errsL[j]? = some x) := hx
     have hxs : (bs x.2).size ≤ 10 := HY.out.2
     have HZ : Hid ((bs x.2).size = x.2.length) := bs_size _
     have e2 := fun W => HI.out (bs x.2) hxs W
     rw [bs_list] at e2
     obtain ⟨t, ht⟩ : ∃ t, x.2.isPrefixOf l = t := ⟨_, rfl⟩
     rw [ht] at e2
     have HT : Hid (x.2.isPrefixOf l = t) := ht
     clear hx ht
     generalize hb : bs x.2 = b at e1 e2 hxs HZ
     clear hb
     have hl1 : ((j + 1 : Nat) : Int) ≤ 5 := by omega
     cases t
     · go_wp2_with fail
       refine (e1 _).mono ?_
       rintro e w1 ⟨rfl, rfl⟩
       go_wp2_with fail
       refine (e2 _).mono ?_
       rintro e w1 ⟨rfl, rfl⟩
       go_wp2_with fail
       go_roundw
       case rel => exact ⟨j + 1, by omega, by go_num, find_on HF.out HX.out HT.out, trivial⟩
       case measure => simp [intOf]; omega
     · go_wp2_with fail
       refine (e1 _).mono ?_
       rintro e w1 ⟨rfl, rfl⟩
       go_wp2_with fail
       refine (e2 _).mono ?_
       rintro e w1 ⟨rfl, rfl⟩
       go_wp2_with fail
       refine (e1 _).mono ?_
       rintro e w1 ⟨rfl, rfl⟩
       go_wp2_with fail
       refine fin5 _ (blk5_top rfl (Ext.refl _)) rfl ((Ext.refl _).alloc _) (fun g0 g1 g2 g3 g4 => by simp [results, Try.results32, go_sem, g0, g1, g2, g3, g4]; rfl) (fun h => ⟨?_, h⟩)
       rw [HE.out x (by unfold errT; exact find_here HF.out HX.out HT.out), HY.out.1, ← HZ.out]
       exact rx_fin (4, [], 0, (j : Int) + 1, b.size) k _ (by simp)
   · have hl1 : ¬ ((j + 1 : Nat) : Int) ≤ 5 := by omega
     have HR : Hid (nxt l = sgR l) := HS.out (by unfold errT; exact find_end HF.out (by simp [errsL]; omega))
     have s1 := HI.out ⟨#[60, 62]⟩ (by decide)
     have s2 := HI.out ⟨#[60, 61]⟩ (by decide)
     have s3 := HI.out ⟨#[62, 61]⟩ (by decide)
     have ht2 : ∀ p, (p = [60, 62] ∨ p = [60, 61] ∨ p = [62, 61]) → List.isPrefixOf p l = true → k + 2 ≤ s.size := by
       intro p hp h
       have h4 := (List.isPrefixOf_iff_prefix.mp h).length_le
       have h5 := congrArg List.length HD.out
       rw [List.length_drop, size_list] at h5
       rcases hp with rfl | rfl | rfl <;> (simp at h4; omega)
     clear HE HS
     cases g1 : List.isPrefixOf [60, 62] l
     case true =>
       have HW : Hid (sgR l = .ok (3, l.take 2, 0, 0, 2)) := sg_two (.inl rfl) g1
       have hm : k + 2 ≤ s.size := ht2 _ (.inl rfl) g1
       replace s1 : ∀ W, Calls Try.prog 53 #[.string s, .int .i64 (k : Int), .string ⟨#[60, 62]⟩] W fun e w' => e = .returned (.bool true) ∧ w' = W := by intro W; have := s1 W; rwa [show (⟨#[60, 62]⟩ : ByteArray).data.toList = [60, 62] from rfl, g1] at this
       clear g1 ht2 s2 s3
       go_wp2_with fail
       refine (s1 _).mono ?_
       rintro e w1 ⟨rfl, rfl⟩
       go_wp2_with fail
       refine fin5 _ (blk5_top rfl (Ext.refl _)) rfl ((Ext.refl _).alloc _) (fun g0 g1 g2 g3 g4 => by simp [results, Try.results32, go_sem, g0, g1, g2, g3, g4]; rfl) (fun h => ⟨?_, h⟩)
       rw [HR.out, HW.out, sub_bs, HD.out]
       exact rx_fin (3, l.take 2, 0, 0, 2) k _ (by simp)
     replace s1 : ∀ W, Calls Try.prog 53 #[.string s, .int .i64 (k : Int), .string ⟨#[60, 62]⟩] W fun e w' => e = .returned (.bool false) ∧ w' = W := by intro W; have := s1 W; rwa [show (⟨#[60, 62]⟩ : ByteArray).data.toList = [60, 62] from rfl, g1] at this
     cases g2 : List.isPrefixOf [60, 61] l
     case true =>
       have HW : Hid (sgR l = .ok (3, l.take 2, 0, 0, 2)) := sg_two (.inr (.inl rfl)) g2
       have hm : k + 2 ≤ s.size := ht2 _ (.inr (.inl rfl)) g2
       replace s2 : ∀ W, Calls Try.prog 53 #[.string s, .int .i64 (k : Int), .string ⟨#[60, 61]⟩] W fun e w' => e = .returned (.bool true) ∧ w' = W := by intro W; have := s2 W; rwa [show (⟨#[60, 61]⟩ : ByteArray).data.toList = [60, 61] from rfl, g2] at this
       clear g1 g2 ht2 s3
       go_wp2_with fail
       refine (s1 _).mono ?_
       rintro e w1 ⟨rfl, rfl⟩
       go_wp2_with fail
       refine (s2 _).mono ?_
       rintro e w1 ⟨rfl, rfl⟩
       go_wp2_with fail
       refine fin5 _ (blk5_top rfl (Ext.refl _)) rfl ((Ext.refl _).alloc _) (fun g0 g1 g2 g3 g4 => by simp [results, Try.results32, go_sem, g0, g1, g2, g3, g4]; rfl) (fun h => ⟨?_, h⟩)
       rw [HR.out, HW.out, sub_bs, HD.out]
       exact rx_fin (3, l.take 2, 0, 0, 2) k _ (by simp)
     replace s2 : ∀ W, Calls Try.prog 53 #[.string s, .int .i64 (k : Int), .string ⟨#[60, 61]⟩] W fun e w' => e = .returned (.bool false) ∧ w' = W := by intro W; have := s2 W; rwa [show (⟨#[60, 61]⟩ : ByteArray).data.toList = [60, 61] from rfl, g2] at this
     cases g3 : List.isPrefixOf [62, 61] l
     case true =>
       have HW : Hid (sgR l = .ok (3, l.take 2, 0, 0, 2)) := sg_two (.inr (.inr rfl)) g3
       have hm : k + 2 ≤ s.size := ht2 _ (.inr (.inr rfl)) g3
       replace s3 : ∀ W, Calls Try.prog 53 #[.string s, .int .i64 (k : Int), .string ⟨#[62, 61]⟩] W fun e w' => e = .returned (.bool true) ∧ w' = W := by intro W; have := s3 W; rwa [show (⟨#[62, 61]⟩ : ByteArray).data.toList = [62, 61] from rfl, g3] at this
       clear g1 g2 g3 ht2
       go_wp2_with fail
       refine (s1 _).mono ?_
       rintro e w1 ⟨rfl, rfl⟩
       go_wp2_with fail
       refine (s2 _).mono ?_
       rintro e w1 ⟨rfl, rfl⟩
       go_wp2_with fail
       refine (s3 _).mono ?_
       rintro e w1 ⟨rfl, rfl⟩
       go_wp2_with fail
       refine fin5 _ (blk5_top rfl (Ext.refl _)) rfl ((Ext.refl _).alloc _) (fun g0 g1 g2 g3 g4 => by simp [results, Try.results32, go_sem, g0, g1, g2, g3, g4]; rfl) (fun h => ⟨?_, h⟩)
       rw [HR.out, HW.out, sub_bs, HD.out]
       exact rx_fin (3, l.take 2, 0, 0, 2) k _ (by simp)
     replace s3 : ∀ W, Calls Try.prog 53 #[.string s, .int .i64 (k : Int), .string ⟨#[62, 61]⟩] W fun e w' => e = .returned (.bool false) ∧ w' = W := by intro W; have := s3 W; rwa [show (⟨#[62, 61]⟩ : ByteArray).data.toList = [62, 61] from rfl, g3] at this
     have HW : Hid (sgR l = if s[k] ∈ sg12 then .ok (3, [s[k]], 0, 0, 1) else .error 4) := by
       obtain ⟨r, hr⟩ := HC.out
       rw [hr] at g1 g2 g3 ⊢
       exact sg_one g1 g2 g3
     have HO : Hid (bs [s[k]] = s.extract k (k + 1)) := by
       obtain ⟨r, hr⟩ := HC.out
       show _ = _; rw [sub_bs, HD.out, hr]; rfl
     clear g1 g2 g3 ht2
     go_wp2_with fail
     refine (s1 _).mono ?_
     rintro e w1 ⟨rfl, rfl⟩
     go_wp2_with fail
     refine (s2 _).mono ?_
     rintro e w1 ⟨rfl, rfl⟩
     go_wp2_with fail
     refine (s3 _).mono ?_
     rintro e w1 ⟨rfl, rfl⟩
     go_wp2_with fail
     go_loopw [9] (fun i wr => ∃ j : Nat, j ≤ 12 ∧ i = .int .i64 (j : Int) ∧ (∀ i (h : i < j) p, sg12[i]? = some p → s[k] ≠ p) ∧ Ext w wr ∧ Blk5 wr w.heap.size (.int .i64 0) (.int .i64 0) (.string ⟨#[]⟩) (.int .i64 0) (.int .i64 0)) (fun i _ => 12 - (intOf i).toNat)
     case atStart => exact ⟨0, by omega, rfl, fun i h => by omega, (Ext.refl _).alloc _, blk5_top rfl (Ext.refl _)⟩
     case round =>
       obtain ⟨i, hi, rfl, hf, hX, hB⟩ := hrel
       have HF2 : Hid (∀ m (h : m < i) p, sg12[m]? = some p → s[k] ≠ p) := hf
       have HX : Hid (Ext w wr) := hX
       have HB : Hid (Blk5 wr w.heap.size (.int .i64 0) (.int .i64 0) (.string ⟨#[]⟩) (.int .i64 0) (.int .i64 0)) := hB
       clear hf hX hB
       by_cases hlt2 : i < 12
       · have hl2 : (i : Int) < 12 := by omega
         obtain ⟨p, hp⟩ : ∃ p, sg12[i]? = some p := ⟨_, List.getElem?_eq_getElem (by simp [sg12]; omega)⟩
         have hix := fun W => sg12_at i p hp W
         have HP : Hid (sg12[i]? = some p) := hp
         clear hp
         have wk : wrap64 ((i : Int) + 1) = ((i + 1 : Nat) : Int) := by unfold wrap64; omega
         by_cases he : s[k] = p
         · have te : (((s[k]).toNat : Int) == (p.toNat : Int)) = true := by rw [he]; simp
           have HE : Hid (s[k] = p) := he
           clear he
           go_upto_region 20 with fail
           go_quiet (fail)
           have X3 : Ext w (wr.drewN nq) := HX.out.drewN _
           have B3 := HB.out.ext ((Ext.refl wr).drewN nq)
           have D3 := B3
           obtain ⟨_, ⟨b0, b1, b2, b3, b4⟩, f0, f1, f2, f3, f4⟩ := D3
           generalize wr.drewN nq = w3 at *
           go_wp2_with fail
           refine fin5 _ (B3.set _ _ _ _ _) rfl (by with_reducible repeat (first | assumption | exact Ext.refl _ | apply Ext.alloc | apply Ext.drewN | (refine Ext.setCell ?_ (by simp) _))) (fun g0 g1 g2 g3 g4 => by simp [results, Try.results32, go_sem, g0, g1, g2, g3, g4]; rfl) (fun h => ⟨?_, h⟩)
           rw [HR.out, HW.out, if_pos (by rw [HE.out]; exact List.mem_of_getElem? HP.out), ← HO.out]
           exact rx_fin (3, [s[k]], 0, 0, 1) k _ (by simp)
         · have te : (((s[k]).toNat : Int) == (p.toNat : Int)) = false := by
             simp; intro h; exact he (UInt8.toNat_inj.mp (by omega))
           have HE : Hid (s[k] ≠ p) := he
           clear he
           go_upto_region 20 with fail
           go_quiet (fail)
           go_wp2_with fail
           go_roundw
           case rel =>
             refine ⟨i + 1, by omega, by go_num, fun m h p' hp' => ?_, HX.out.drewN _, HB.out.ext ((Ext.refl wr).drewN _)⟩
             by_cases hm : m = i
             · subst hm
               have e := HP.out
               rw [hp'] at e
               cases e
               exact HE.out
             · exact HF2.out m (by omega) p' hp'
           case measure => simp [intOf]; omega
       · have hl2 : ¬ (i : Int) < 12 := by omega
         have B3 := HB.out
         have X3 := HX.out
         have D3 := B3
         obtain ⟨_, ⟨b0, b1, b2, b3, b4⟩, f0, f1, f2, f3, f4⟩ := D3
         go_wp2_with fail
         refine fin5 _ (B3.set _ _ _ _ _) rfl (by with_reducible repeat (first | assumption | exact Ext.refl _ | apply Ext.alloc | apply Ext.drewN | (refine Ext.setCell ?_ (by simp) _))) (fun g0 g1 g2 g3 g4 => by simp [results, Try.results32, go_sem, g0, g1, g2, g3, g4]; rfl) (fun h => ⟨?_, h⟩)
         have hno : s[k] ∉ sg12 := by
           intro hm
           obtain ⟨m, hm1, hm2⟩ := List.getElem_of_mem hm
           exact HF2.out m (by simp [sg12] at hm1; omega) s[k] (by rw [List.getElem?_eq_getElem hm1, hm2]) rfl
         rw [HR.out, HW.out, if_neg hno]
         exact rfl
open Go.RowKit
set_option maxHeartbeats 1000000
theorem owt_new (W : World) (base : Nat) (h : base ≤ W.heap.size) : OwT (W.alloc (.cells #[] 62)) base (.slice (some ⟨W.heap.size, 0, none⟩) 0 0) [] :=
 World.ownsRow_made W #[] 0 h (by unfold maxLen; omega) (by simp)
theorem W_spz (l : List UInt8) (j : Nat) (h : j < l.length) (hc : l[j] = 32) : W j (l.drop j) = W (j + 1) (l.drop (j + 1)) := by
 rw [List.drop_eq_getElem_cons h, hc, W_blank]
theorem qwords_any (s : ByteArray) (w : World) (hs : s.size ≤ maxLen) :
   Calls Try.prog 18 #[.string s] w (WordsQ w s.data.toList) := by
 unfold maxLen at hs
 have hl := size_list s
 by_cases h : 300 < s.size
 · have hI : (300 : Int) < (s.size : Int) := by omega
   have HX : Hid (lexR s.data.toList = ([], 0, 2)) := by show _ = _; unfold lexR; rw [if_pos (by omega)]
   go_enter Try.func18, Try.ntmps18
   go_wp2_with fail
   go_ret3
   unfold WordsQ
   rw [HX.out]
   exact ⟨_, rfl, RdT.nil _, Ext.refl _⟩
 have hI : ¬ (300 : Int) < (s.size : Int) := by omega
 have hs3 : s.size ≤ 300 := by omega
 obtain ⟨l, hll⟩ : ∃ l, s.data.toList = l := ⟨_, rfl⟩
 have HL : Hid (l.length = s.size) := by show _ = _; rw [← hll]; exact hl
 have HG : Hid (∀ i (h : i < s.size) (h' : i < l.length), l[i] = s[i]) := by intro i h h'; subst hll; rfl
 have cN := fun k W h => qword_any s k W h hs3
 have HN : Hid (∀ k W (h : k < s.size), Calls Try.prog 32 #[.string s, .int .i64 (k : Int)] W fun e w' => RxR (nxt (l.drop k)) k e ∧ Ext W w') := by intro k W h; have := cN k W h; rwa [hll] at this
 have HR : Hid (∀ ts, W 0 l = .ok ts → lexR l = (ts, 0, 0)) := by intro ts h; unfold lexR; rw [if_neg (by rw [← hll]; omega), h]
 have HF : Hid (∀ p c, W 0 l = .error (p, c) → lexR l = ([], (p : Int), c)) := by intro p c h; unfold lexR; rw [if_neg (by rw [← hll]; omega), h]
 rw [hll]
 clear hl hll cN h hs
 go_enter Try.func18, Try.ntmps18
 go_wp2_with fail
 go_loopw [5, 6] (fun v x wr => ∃ (j : Nat) (acc : List Tk), x = .int .i64 (j : Int) ∧ j ≤ s.size ∧ W 0 l = (W j (l.drop j)).map (fun ts => acc ++ ts) ∧ acc.length ≤ j ∧ OwT wr w.heap.size v acc ∧ Ext w wr) (fun _ x _ => s.size - (intOf x).toNat)
 case atStart => exact ⟨0, [], rfl, Nat.zero_le _, map_nil _, Nat.le_refl _, owt_new w _ (Nat.le_refl _), (Ext.refl _).alloc _⟩
 case round =>
   obtain ⟨j, acc, rfl, hj, hW, ha, hO, hE⟩ := hrel
   have HW : Hid (W 0 l = (W j (l.drop j)).map (fun ts => acc ++ ts)) := hW
   have HA : Hid (acc.length ≤ j) := ha
   have HO : Hid (OwT wr w.heap.size u5 acc ∧ Ext w wr) := ⟨hO, hE⟩
   clear hW ha hO hE
   by_cases hlt : j < s.size
   · have hltI : (j : Int) < (s.size : Int) := by omega
     have wk : wrap64 ((j : Int) + 1) = ((j + 1 : Nat) : Int) := by unfold wrap64; omega
     have hb := byte_ne (c := s[j]) 32 (by omega)
     by_cases h1 : s[j] = 32
     · have tb : (((s[j]).toNat : Int) == 32) = true := by rw [show (32 : Int) = ((32 : Nat) : Int) from rfl, hb, h1]; rfl
       have HX : Hid (W 0 l = (W (j + 1) (l.drop (j + 1))).map (fun ts => acc ++ ts)) := by
         show _ = _; rw [HW.out, W_spz l j (by have := HL.out; omega) (by rw [HG.out j hlt]; exact h1)]
       clear hb h1
       go_wp2_with fail
       go_roundw
       case rel => exact ⟨j + 1, acc, by go_num, by omega, HX.out, by have := HA.out; omega, HO.out.1, HO.out.2⟩
       case measure => simp [intOf]; omega
     have tb : (((s[j]).toNat : Int) == 32) = false := by rw [show (32 : Int) = ((32 : Nat) : Int) from rfl, hb]; simpa using h1
     have hW2 := W_at l j (by have := HL.out; omega) (by rw [HG.out j hlt]; exact h1)
     have c1 := HN.out j wr hlt
     cases hx : nxt (l.drop j) with
     | error c =>
       have HX : Hid (lexR l = ([], (j : Int), c)) := HF.out j c (by rw [HW.out, hW2, hx]; rfl)
       have hc0 : (c != 0) = true := by
         have := nxt_code hx
         rcases this with rfl | rfl <;> rfl
       have C : Calls Try.prog 32 #[.string s, .int .i64 (j : Int)] wr fun e w' => e = .returned (.tuple #[.agg #[.int .i64 0, .int .i64 0, .string ⟨#[]⟩, .int .i64 0, .int .i64 0], .int .i64 (j : Int), .int .i64 c]) ∧ Ext wr w' := by rw [hx] at c1; exact c1
       clear hx c1 hW2 hb h1
       go_wp2_with fail
       refine C.mono ?_
       rintro e w1 ⟨rfl, E1⟩
       have HE1 : Hid (Ext w w1) := HO.out.2.trans E1
       clear E1
       go_wp2_with fail
       go_ret3
       unfold WordsQ
       rw [HX.out]
       exact ⟨_, rfl, RdT.nil _, HE1.out.alloc _⟩
     | ok x =>
       have hpos := nxt_pos hx
       have HX : Hid (W 0 l = (W (j + x.2.2.2.2) (l.drop (j + x.2.2.2.2))).map (fun ts => acc ++ [tkOf x j] ++ ts)) := by
         show _ = _
         rw [HW.out, hW2, hx]
         simp only []
         cases W (j + x.2.2.2.2) (l.drop (j + x.2.2.2.2)) <;> simp [Except.map]
       have hmS : j + x.2.2.2.2 ≤ s.size := by have := hpos.2; have := HL.out; simp at *; omega
       have hmJ : 1 ≤ x.2.2.2.2 := hpos.1
       have C : Calls Try.prog 32 #[.string s, .int .i64 (j : Int)] wr fun e w' => e = .returned (.tuple #[.agg #[.int .i64 x.1, .int .i64 (j : Int), .string (bs x.2.1), .int .i64 x.2.2.1, .int .i64 x.2.2.2.1], .int .i64 ((j + x.2.2.2.2 : Nat) : Int), .int .i64 0]) ∧ Ext wr w' := by rw [hx] at c1; exact c1
       obtain ⟨x0, x1, x2, x3, x4⟩ := x
       simp only [] at C HX hmS hmJ
       obtain ⟨m, hm⟩ : ∃ m, j + x4 = m := ⟨_, rfl⟩
       obtain ⟨q1, hq1⟩ : ∃ q1, bs x1 = q1 := ⟨_, rfl⟩
       rw [hm] at C HX hmS
       rw [hq1] at C
       have HJ : Hid (j < m ∧ m ≤ s.size) := ⟨by omega, hmS⟩
       have HQ : Hid (bs x1 = q1) := hq1
       have HA2 : Hid (acc.length ≤ 100000) := by have := HA.out; show _ ≤ _; omega
       clear hx c1 hpos hm hq1 hmJ hW2 hb h1
       go_wp2_with fail
       refine C.mono ?_
       rintro e w1 ⟨rfl, E1⟩
       have HO1 : Hid (OwT w1 w.heap.size u5 acc ∧ Ext w w1) := ⟨HO.out.1.ext E1, HO.out.2.trans E1⟩
       clear E1
       go_wp2_with (at_builtin; refine tk_append _ w.heap.size _ _ _ _ acc (x0, (j : Int), x1, x2, x3) rfl rfl (by rfl) (by rfl) (HO1.out.1.ext (((Ext.refl _).alloc _).alloc _)) ?cR HA2.out (by have := HO1.out.2.sz; simp; omega) ?_)
       case cR => exact new_tk (by simp) HQ.out
       intro v' w2 k1 k2 g cap hv
       have hE2 := grown_ext k2 (HO1.out.1.ext (((Ext.refl _).alloc _).alloc _)) ((HO1.out.2.alloc _).alloc _) (Nat.le_refl _)
       have HO2 : Hid (OwT w2 w.heap.size v' (acc ++ [(x0, (j : Int), x1, x2, x3)]) ∧ Ext w w2) := ⟨k1, hE2⟩
       clear k1 k2 hE2
       subst hv
       go_wp2_with fail
       go_roundw
       case rel =>
         have h4 := HJ.out
         have h7 := HA.out
         exact ⟨m, acc ++ [(x0, (j : Int), x1, x2, x3)], rfl, h4.2, HX.out, by simp; omega, HO2.out.1, HO2.out.2⟩
       case measure => have h4 := HJ.out; simp [intOf]; omega
   · have hltI : ¬ (j : Int) < (s.size : Int) := by omega
     have hjs : j = s.size := by omega
     have HX : Hid (lexR l = (acc ++ [endT s.size], 0, 0)) := HR.out _ (by rw [HW.out, List.drop_eq_nil_of_le (by have := HL.out; omega), W_nil, hjs]; rfl)
     have HA2 : Hid (acc.length ≤ 100000) := by have := HA.out; show _ ≤ _; omega
     clear hjs
     go_wp2_with (at_builtin; refine tk_append _ w.heap.size _ _ _ _ acc (endT s.size) rfl rfl (by rfl) (by rfl) (HO.out.1.ext ((Ext.refl _).alloc _)) ?cR HA2.out (by have := HO.out.2.sz; simp; omega) ?_)
     case cR => exact fun _ _ h => h
     intro v' w2 k1 k2 g cap hv
     have hE2 := grown_ext k2 (HO.out.1.ext ((Ext.refl _).alloc _)) (HO.out.2.alloc _) (Nat.le_refl _)
     have HO2 : Hid (OwT w2 w.heap.size v' (acc ++ [endT s.size]) ∧ Ext w w2) := ⟨k1, hE2⟩
     clear k1 k2 hE2
     subst hv
     go_wp2_with fail
     go_ret3
     unfold WordsQ
     rw [HX.out]
     exact ⟨_, rfl, HO2.out.1.rd, HO2.out.2⟩
end Go.Proofs.Ytjhmbkdkjgjoaaa
