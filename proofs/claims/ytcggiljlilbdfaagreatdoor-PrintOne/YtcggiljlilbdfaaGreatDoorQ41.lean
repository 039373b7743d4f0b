/-
 The document's reader: a word: a truth, a place, a call.
-/
import Derived.Test.YtcggiljlilbdfaaGreatDoorQ39
import Derived.Test.YtcggiljlilbdfaaGreatDoorQ40
import Derived.Test.YtcggiljlilbdfaaGreatDoorQ33
namespace Go.Proofs.YtcggiljlilbdfaaGreatDoor
open Go.RowKit
set_option maxHeartbeats 6000000

/-- v holds trees in a block of the call's own, from base on. -/
def OwY (w : World) (base : Nat) (v : Value) (ps : List (T × Value)) : Prop := w.ownsRow base 29 13 v ps.length (flatX ps)
theorem OwY.far {w : World} {base : Nat} {v : Value} {ps : List (T × Value)} (h : OwY w base v ps) {b : Nat} (hb : b < base) : v.ownBlock ≠ some b := by
 rcases h.2 with ⟨h1, h2⟩ | ⟨g, cap, cur, h1, h2, h3⟩
 · rw [h1]; simp [Value.ownBlock]
 · rw [h1]; simp [Value.ownBlock]; omega
theorem OwY.extB {b base : Nat} {w w' : World} {v : Value} {ps : List (T × Value)} (h : OwY w base v ps) (e : ExtB b w w') (hb : b < base) : OwY w' base v ps := by
 refine ⟨h.1, ?_⟩
 rcases h.2 with h2 | ⟨g, cap, cur, h1, h2, h3, h4⟩
 · exact .inl h2
 · exact .inr ⟨g, cap, cur, h1, h2, (e.block g (heap_lt h3) (by omega)).trans h3, h4⟩
theorem OwY.set {w : World} {base : Nat} {v : Value} {ps : List (T × Value)} (h : OwY w base v ps) {p : Addr} (hp : p.block < base) (u : Value) : OwY (w.setCell p u) base v ps := by
 refine ⟨h.1, ?_⟩
 rcases h.2 with h2 | ⟨g, cap, cur, h1, h2, h3, h4⟩
 · exact .inl h2
 · exact .inr ⟨g, cap, cur, h1, h2, (Below.heap_setCell _ _ _ _ (by omega)).trans h3, h4⟩
theorem OwY.nil (w : World) (base : Nat) : OwY w base (.slice none 0 0) [] := ⟨rfl, .inl ⟨rfl, rfl⟩⟩
theorem OwY.form {w : World} {base : Nat} {v : Value} {ps : List (T × Value)} (h : OwY w base v ps) : ∃ p c, v = .slice p ps.length c := by
 rcases h.2 with ⟨h1, h0⟩ | ⟨g, cap, cur, h1, _⟩
 · exact ⟨none, 0, by rw [h1, h0]⟩
 · exact ⟨_, _, h1⟩
theorem grownBY {b : Nat} {w W W' : World} {base : Nat} {v : Value} {ps : List (T × Value)} (h : W.grownBy W' v.ownBlock) (hB : OwY W base v ps) (hE : ExtB b w W) (hb : w.heap.size ≤ base) : ExtB b w W' := by
 refine ⟨h.os.trans hE.os, h.tape.trans hE.tape, h.output.trans hE.output, Nat.le_trans hE.size h.size, fun k hk hkb => ?_⟩
 exact (h.block k (Nat.lt_of_lt_of_le hk hE.size) (fun e => hB.far (Nat.lt_of_lt_of_le hk hb) e.symm)).trans (hE.block k hk hkb)
theorem BlkX.grownY {W W' : World} {base g : Nat} {v lv : Value} {t : T} {ps : List (T × Value)} (B : BlkX W g t lv) (h : W.grownBy W' v.ownBlock) (hB : OwY W base v ps) (hg : g < base) : BlkX W' g t lv := by
 have hz := B.1
 have hb := h.block g hz (fun e => hB.far hg e.symm)
 obtain ⟨z, ⟨k0, k1, k2, k3, k4, k5, k6, k7, k8, k9, k10, k11, k12⟩, f0, f1, f2, f3, f4, f5, f6, f7, f8, f9, f10, f11, f12⟩ := B
 have k := fun o => World.cell?_of_block (a := ⟨g, o, none⟩) hb
 have f := fun o => World.frozen?_of_block (a := ⟨g, o, none⟩) hb
 exact ⟨Nat.lt_of_lt_of_le z h.size, ⟨(k 0).trans k0, (k 1).trans k1, (k 2).trans k2, (k 3).trans k3, (k 4).trans k4, (k 5).trans k5, (k 6).trans k6, (k 7).trans k7, (k 8).trans k8, (k 9).trans k9, (k 10).trans k10, (k 11).trans k11, (k 12).trans k12⟩, (f 0).trans f0, (f 1).trans f1, (f 2).trans f2, (f 3).trans f3, (f 4).trans f4, (f 5).trans f5, (f 6).trans f6, (f 7).trans f7, (f 8).trans f8, (f 9).trans f9, (f 10).trans f10, (f 11).trans f11, (f 12).trans f12⟩
theorem Rp.grownY {w0 W W' : World} {b base : Nat} {ts : List Tk} {d pa why : Int} {v : Value} {ps : List (T × Value)} (hS : Rp w0 b W ts d pa why) (h : W.grownBy W' v.ownBlock) (hB : OwY W base v ps) (hb : b < base) (h0 : w0.heap.size ≤ base) : Rp w0 b W' ts d pa why := by
 obtain ⟨h1, h2, h3, h4, h5, h6, h7, tb, off, c, n, i, all, g1, g2, g3, g4, g5, g6⟩ := hS
 obtain ⟨hz, ⟨b0, b1, b2, b3, b4⟩, f0, f1, f2, f3, f4⟩ := g6
 have k := fun o => (World.cell?_of_block (a := ⟨b, o, none⟩) (h.block b hz (fun e => hB.far hb e.symm)))
 have f := fun o => (World.frozen?_of_block (a := ⟨b, o, none⟩) (h.block b hz (fun e => hB.far hb e.symm)))
 refine ⟨⟨h.os.trans h1.os, h.tape.trans h1.tape, h.output.trans h1.output, Nat.le_trans h1.size h.size, fun i hi => ?_⟩, h2, h3, h4, h5, h6, h7, tb, off, c, n, i, all, g1, g2, g3, g4, g5, Nat.lt_of_lt_of_le hz h.size, ⟨(k 0).trans b0, (k 1).trans b1, (k 2).trans b2, (k 3).trans b3, (k 4).trans b4⟩, (f 0).trans f0, (f 1).trans f1, (f 2).trans f2, (f 3).trans f3, (f 4).trans f4⟩
 exact (h.block i (Nat.lt_of_lt_of_le hi h1.size) (fun e => hB.far (Nat.lt_of_lt_of_le hi h0) e.symm)).trans (h1.block i hi)
/-- append of one tree that lies in a new block, whatever it hangs on. -/
theorem y_append {ops : Array Oper} {rest : List Oper} {o : Oper} {a : Act} {Q : Exit → Act → World → Prop} (W : World) (base : Nat) (s y : Operand) (v : Value) (b : Nat) (ps : List (T × Value)) (x : T) (pp : Option Addr) (ln cl : Nat) (hgd : o.guard = none)
   (ho : o.op = .call { callee := .builtin .append, args := #[s, y], argTypes := #[27, 27] })
   (hs : a.eval s = v) (hx : a.eval y = .slice (some ⟨b, 0, none⟩) 1 1) (hB : OwY W base v ps)
   (hR : ∀ j u, (cellsT x (.slice pp ln cl))[j]? = some u → W.cell? ((⟨b, 0, none⟩ : Addr).add j) = some u) (hlen : ps.length ≤ 100000) (hbase : base ≤ W.heap.size)
   (h : ∀ v' W', OwY W' base v' (ps ++ [(x, .slice pp ln cl)]) → W.grownBy W' v.ownBlock → (∃ g cap, v' = .slice (some ⟨g, 0, none⟩) (ps.length + 1) cap) → (∀ k, k < W.heap.size → v.ownBlock ≠ some k → v'.ownBlock ≠ some k) → wpList Tryz.prog ops Q rest (a.put o.dst v') W') : wpList Tryz.prog ops Q (o :: rest) a W := by
 obtain ⟨i, hi, hz, h1, h2⟩ := info_x
 refine wpList_append_own_at W hgd s y 27 ho base 29 i _ 13 112 Tryz.underlying27 hi hz h1 h2 rfl (by decide) v ps.length (flatX ps) hs hB ⟨b, 0, none⟩ 1 1 (cellsT x (.slice pp ln cl)) hx rfl hR ?_ (by unfold maxLen; omega) (by omega) hbase ?_
 · intro u hu
   simp [cellsT] at hu
   rcases hu with rfl | rfl | rfl | rfl | rfl | rfl | rfl | rfl | rfl | rfl | rfl | rfl | rfl <;> rfl
 intro v' W' h3 h4 h5 h6
 have hsz : ∀ k, k < W.heap.size → v.ownBlock ≠ some k → v'.ownBlock ≠ some k := by
   intro k hk hv
   rcases h6 with h6 | h6
   · rw [h6]; exact hv
   · rw [h6]; simp; omega
 have hO : OwY W' base v' (ps ++ [(x, .slice pp ln cl)]) := by
   unfold OwY
   rw [List.length_append, flatX_append]
   exact h3
 refine h v' W' hO h4 ?_ hsz
 rcases h3.2 with ⟨_, h0⟩ | ⟨g, cap, cur, hv, _⟩
 · omega
 · exact ⟨g, cap, hv⟩
theorem own_up {W W' : World} {base : Nat} {v v' y : Value} {l : List T} (h4 : W.grownBy W' v.ownBlock) (hsz : ∀ k, k < W.heap.size → v.ownBlock ≠ some k → v'.ownBlock ≠ some k) (hy : IsL W (fun k => base ≤ k ∧ v.ownBlock ≠ some k) y l) : IsL W' (fun k => base ≤ k ∧ v'.ownBlock ≠ some k) y l :=
 hy.keep h4.size (fun k hk hs => h4.block k hs (fun e => hk.2 e.symm)) (fun k hk hs => ⟨hk.1, hsz k hs hk.2⟩)
/-- How far it is to the end of the reading. -/
def muR (b : Nat) (w : World) : Nat := leftR b w + (match w.cell? ⟨b, 4, none⟩ with
 | some (.int _ y) => if y = 0 then 1 else 0
 | _ => 0)
theorem Rp.mu {w0 W : World} {b : Nat} {ts : List Tk} {d pa why : Int} (h : Rp w0 b W ts d pa why) : muR b W = ts.length + (if why = 0 then 1 else 0) := by
 unfold muR
 rw [h.left]
 obtain ⟨h1, h2, h3, h4, h5, h6, h7, tb, off, c, n, i, all, g1, g2, g3, g4, g5, g6⟩ := h
 rw [g6.2.1.2.2.2.2]
theorem rknown_none (s : List UInt8) (W : World) (h : kno s = none) : Calls Tryz.prog 74 #[.string (bs s)] W fun e w' => e = .returned (.tuple #[.int .i64 0, .int .i64 0, .bool false]) ∧ w' = W := by
 have := rknown_any (bs s) W
 rw [bs_list] at this
 unfold knA knB at this
 rw [h] at this
 exact this
theorem rknown_some (s : List UInt8) (W : World) (a m : Nat) (h : kno s = some (a, m)) : Calls Tryz.prog 74 #[.string (bs s)] W fun e w' => e = .returned (.tuple #[.int .i64 (a : Int), .int .i64 (m : Int), .bool true]) ∧ w' = W := by
 have := rknown_any (bs s) W
 rw [bs_list] at this
 unfold knA knB at this
 rw [h] at this
 exact this
set_option maxRecDepth 100000 in
theorem word_true (w0 : World) (b n : Nat) (hX : ExC w0 b n n) (W : World) (ts : List Tk) (d : Nat) (pa : Int) (h : Rp w0 b W ts d pa 0) (hts : ts.length ≤ n + 1) (hd4 : d ≤ 40) (hk : (hd ts).1 = 2) (hw : (hd ts).2.2.1 = wTrue) :
   Calls Tryz.prog 50 #[.pointer (some ⟨b, 0, none⟩), .string (bs (hd ts).2.2.1)] W (RX w0 b W ts.length (d - 1) d (wrd (frm (O n)) d ts)) := by
 have HR : Hid (Rp w0 b W ts d pa 0) := h
 have HN : Hid (ts.length ≤ n + 1 ∧ d ≤ 40 ∧ w0.heap.size ≤ W.heap.size) := ⟨hts, hd4, h.1.sz⟩
 have HX : Hid (ExC w0 b n n) := hX
 have hbW : b < W.heap.size := h.lt.1
 have hgW : W.heap.size ≠ b := by omega
 have HT : Hid (Nz ts.tail ∧ ts.tail.length + 1 = ts.length ∧ nx ts = ts.tail) := ⟨(h.2.2.1.tail (by rw [hk]; decide)).1, (h.2.2.1.tail (by rw [hk]; decide)).2, nx_tail h.2.2.1 (by rw [hk]; decide)⟩
 have cP := fun V => rparse_rf (hd ts).2.2.1 V (h.2.2.2.2.1 _ (hd_mem h.2.2.1.pos)).1
 have HXX : Hid (wrd (frm (O n)) d ts = .ok (tBool 1, ts.tail)) := by
   show _ = _
   unfold wrd one
   rw [tk1_ok hd4]
   rw [if_pos hw]
 have e1 : ((bs (hd ts).2.2.1).toList == [84, 82, 85, 69]) = true := by rw [bs_tl, hw]; rfl
 have e2 : ((bs (hd ts).2.2.1).toList == [70, 65, 76, 83, 69]) = false := by rw [bs_tl, hw]; rfl
 clear hw
 clear hts hd4 hX h hk
 obtain ⟨s, hs⟩ : ∃ s, (hd ts).2.2.1 = s := ⟨_, rfl⟩
 have HSS : Hid ((hd ts).2.2.1 = s) := hs
 rw [hs] at cP e1 e2 ⊢
 clear hs
 generalize bs s = q at *
 go_enter Tryz.func50, Tryz.ntmps50
 go_wp2_with fail
 refine (rnext_any (HR.out.ext ((Ext.refl _).alloc _))).mono ?_
 rintro e w2 ⟨rfl, R2, X2⟩
 have H2 : Hid (Rp w0 b w2 (nx ts) d pa 0 ∧ ExtB b W w2 ∧ BlkX w2 W.heap.size tz (.slice none 0 0)) := ⟨R2, (Ext.toB ((Ext.refl W).alloc _) b).trans X2, (BlkX.top rfl (Ext.refl _)).extB X2 hgW⟩
 skip
 have HB0 := H2.out.2.2
 obtain ⟨qa, ⟨la0, la1, la2, la3, la4, la5, la6, la7, la8, la9, la10, la11, la12⟩, ga0, ga1, ga2, ga3, ga4, ga5, ga6, ga7, ga8, ga9, ga10, ga11, ga12⟩ := HB0
 clear R2 X2
 go_wp2_with fail
 show bodyPost Tryz.prog _ _ _ _ (putX w2 W.heap.size (tBool 1) (.slice none 0 0))
 have R3 := H2.out.1
 rw [HT.out.2.2] at R3
 rw [HXX.out]
 exact endR (H2.out.2.2.put (tBool 1) (.slice none 0 0)) rfl ⟨putX_B H2.out.2.1 (Nat.le_refl _) _ _, ⟨_, rfl, .nil⟩, pa, putX_R R3 hgW HN.out.2.2 _ _⟩ (fun h0 h1 h2 h3 h4 h5 h6 h7 h8 h9 h10 h11 h12 => by simp [results, Tryz.results50, go_sem, h0, h1, h2, h3, h4, h5, h6, h7, h8, h9, h10, h11, h12, aggX])
set_option maxRecDepth 100000 in
theorem word_false (w0 : World) (b n : Nat) (hX : ExC w0 b n n) (W : World) (ts : List Tk) (d : Nat) (pa : Int) (h : Rp w0 b W ts d pa 0) (hts : ts.length ≤ n + 1) (hd4 : d ≤ 40) (hk : (hd ts).1 = 2) (hw : (hd ts).2.2.1 = wFalse) :
   Calls Tryz.prog 50 #[.pointer (some ⟨b, 0, none⟩), .string (bs (hd ts).2.2.1)] W (RX w0 b W ts.length (d - 1) d (wrd (frm (O n)) d ts)) := by
 have HR : Hid (Rp w0 b W ts d pa 0) := h
 have HN : Hid (ts.length ≤ n + 1 ∧ d ≤ 40 ∧ w0.heap.size ≤ W.heap.size) := ⟨hts, hd4, h.1.sz⟩
 have HX : Hid (ExC w0 b n n) := hX
 have hbW : b < W.heap.size := h.lt.1
 have hgW : W.heap.size ≠ b := by omega
 have HT : Hid (Nz ts.tail ∧ ts.tail.length + 1 = ts.length ∧ nx ts = ts.tail) := ⟨(h.2.2.1.tail (by rw [hk]; decide)).1, (h.2.2.1.tail (by rw [hk]; decide)).2, nx_tail h.2.2.1 (by rw [hk]; decide)⟩
 have cP := fun V => rparse_rf (hd ts).2.2.1 V (h.2.2.2.2.1 _ (hd_mem h.2.2.1.pos)).1
 have HXX : Hid (wrd (frm (O n)) d ts = .ok (tBool 0, ts.tail)) := by
   show _ = _
   unfold wrd one
   rw [tk1_ok hd4]
   rw [if_neg (by rw [hw]; decide), if_pos hw]
 have e1 : ((bs (hd ts).2.2.1).toList == [84, 82, 85, 69]) = false := by rw [bs_tl, hw]; rfl
 have e2 : ((bs (hd ts).2.2.1).toList == [70, 65, 76, 83, 69]) = true := by rw [bs_tl, hw]; rfl
 clear hw
 clear hts hd4 hX h hk
 obtain ⟨s, hs⟩ : ∃ s, (hd ts).2.2.1 = s := ⟨_, rfl⟩
 have HSS : Hid ((hd ts).2.2.1 = s) := hs
 rw [hs] at cP e1 e2 ⊢
 clear hs
 generalize bs s = q at *
 go_enter Tryz.func50, Tryz.ntmps50
 go_wp2_with fail
 refine (rnext_any (HR.out.ext ((Ext.refl _).alloc _))).mono ?_
 rintro e w2 ⟨rfl, R2, X2⟩
 have H2 : Hid (Rp w0 b w2 (nx ts) d pa 0 ∧ ExtB b W w2 ∧ BlkX w2 W.heap.size tz (.slice none 0 0)) := ⟨R2, (Ext.toB ((Ext.refl W).alloc _) b).trans X2, (BlkX.top rfl (Ext.refl _)).extB X2 hgW⟩
 skip
 have HB0 := H2.out.2.2
 obtain ⟨qa, ⟨la0, la1, la2, la3, la4, la5, la6, la7, la8, la9, la10, la11, la12⟩, ga0, ga1, ga2, ga3, ga4, ga5, ga6, ga7, ga8, ga9, ga10, ga11, ga12⟩ := HB0
 clear R2 X2
 go_wp2_with fail
 show bodyPost Tryz.prog _ _ _ _ (putX w2 W.heap.size (tBool 0) (.slice none 0 0))
 have R3 := H2.out.1
 rw [HT.out.2.2] at R3
 rw [HXX.out]
 exact endR (H2.out.2.2.put (tBool 0) (.slice none 0 0)) rfl ⟨putX_B H2.out.2.1 (Nat.le_refl _) _ _, ⟨_, rfl, .nil⟩, pa, putX_R R3 hgW HN.out.2.2 _ _⟩ (fun h0 h1 h2 h3 h4 h5 h6 h7 h8 h9 h10 h11 h12 => by simp [results, Tryz.results50, go_sem, h0, h1, h2, h3, h4, h5, h6, h7, h8, h9, h10, h11, h12, aggX])
set_option maxRecDepth 100000 in
theorem word_ref (w0 : World) (b n : Nat) (hX : ExC w0 b n n) (W : World) (ts : List Tk) (d : Nat) (pa : Int) (h : Rp w0 b W ts d pa 0) (hts : ts.length ≤ n + 1) (hd4 : d ≤ 40) (hk : (hd ts).1 = 2) (ho : okP (hd ts).2.2.1 = true) :
   Calls Tryz.prog 50 #[.pointer (some ⟨b, 0, none⟩), .string (bs (hd ts).2.2.1)] W (RX w0 b W ts.length (d - 1) d (wrd (frm (O n)) d ts)) := by
 have HR : Hid (Rp w0 b W ts d pa 0) := h
 have HN : Hid (ts.length ≤ n + 1 ∧ d ≤ 40 ∧ w0.heap.size ≤ W.heap.size) := ⟨hts, hd4, h.1.sz⟩
 have HX : Hid (ExC w0 b n n) := hX
 have hbW : b < W.heap.size := h.lt.1
 have hgW : W.heap.size ≠ b := by omega
 have HT : Hid (Nz ts.tail ∧ ts.tail.length + 1 = ts.length ∧ nx ts = ts.tail) := ⟨(h.2.2.1.tail (by rw [hk]; decide)).1, (h.2.2.1.tail (by rw [hk]; decide)).2, nx_tail h.2.2.1 (by rw [hk]; decide)⟩
 have cP := fun V => rparse_rf (hd ts).2.2.1 V (h.2.2.2.2.1 _ (hd_mem h.2.2.1.pos)).1
 obtain ⟨hk1, hk2, hk3⟩ := kno_ok ho
 have HXX : Hid (wrd (frm (O n)) d ts = .ok (tRef (rfP (hd ts).2.2.1), ts.tail)) := by
   show _ = _
   unfold wrd refr
   rw [tk1_ok hd4, if_neg hk2, if_neg hk3, hk1, if_pos ⟨hk, ho⟩]
 have e1 : ((bs (hd ts).2.2.1).toList == [84, 82, 85, 69]) = false := by rw [bs_tl]; simpa [wTrue] using hk2
 have e2 : ((bs (hd ts).2.2.1).toList == [70, 65, 76, 83, 69]) = false := by rw [bs_tl]; simpa [wFalse] using hk3
 have HPF : Hid (prf (hd ts).2.2.1 = rfP (hd ts).2.2.1) := if_pos ho
 rw [ho] at cP
 clear ho hk1 hk2 hk3
 clear hts hd4 hX h hk
 obtain ⟨s, hs⟩ : ∃ s, (hd ts).2.2.1 = s := ⟨_, rfl⟩
 have HSS : Hid ((hd ts).2.2.1 = s) := hs
 rw [hs] at cP e1 e2 HXX HPF ⊢
 clear hs
 have es : (bs s).data.toList = s := rfl
 obtain ⟨r, hr⟩ : ∃ r, prf s = r := ⟨_, rfl⟩
 have HRF : Hid (prf s = r) := hr
 rw [hr] at cP
 clear hr es
 generalize bs s = q at *
 go_enter Tryz.func50, Tryz.ntmps50
 go_wp2_with fail
 refine (cP _).mono ?_
 rintro e w1 ⟨rfl, E1⟩
 have hw1 : W.heap.size + 1 ≤ w1.heap.size := by have := E1.size; simp at this; omega
 have E3 : Ext w1 (w1.alloc (.cells #[.int .i64 r.1, .int .i64 r.2.1, .bool r.2.2.1, .bool r.2.2.2] 26)) := (Ext.refl _).alloc _
 have B3 := blk_top (b := w1.heap.size) rfl (Ext.refl (w1.alloc (.cells #[.int .i64 r.1, .int .i64 r.2.1, .bool r.2.2.1, .bool r.2.2.2] 26)))
 have HV : Hid (BlkX (w1.alloc (.cells #[.int .i64 r.1, .int .i64 r.2.1, .bool r.2.2.1, .bool r.2.2.2] 26)) W.heap.size tz (.slice none 0 0) ∧ Ext W (w1.alloc (.cells #[.int .i64 r.1, .int .i64 r.2.1, .bool r.2.2.1, .bool r.2.2.2] 26)) ∧ Blk (w1.alloc (.cells #[.int .i64 r.1, .int .i64 r.2.1, .bool r.2.2.1, .bool r.2.2.2] 26)) w1.heap.size (.int .i64 r.1) (.int .i64 r.2.1) (.bool r.2.2.1) (.bool r.2.2.2)) := ⟨(BlkX.top rfl E1).ext E3, (((Ext.refl _).alloc _).trans E1).trans E3, B3⟩
 clear E1 E3 B3 cP
 go_wp2_with fail
 refine (rnext_any (HR.out.ext HV.out.2.1)).mono ?_
 rintro e w2 ⟨rfl, R2, X2⟩
 have H2 : Hid (Rp w0 b w2 (nx ts) d pa 0 ∧ ExtB b W w2 ∧ BlkX w2 W.heap.size tz (.slice none 0 0)) := ⟨R2, (Ext.toB HV.out.2.1 b).trans X2, (HV.out.1).extB X2 hgW⟩
 obtain ⟨zr, ⟨p0, p1, p2, p3⟩, zrf⟩ := HV.out.2.2.extB X2 (by omega)
 clear zrf
 have HB0 := H2.out.2.2
 obtain ⟨qa, ⟨la0, la1, la2, la3, la4, la5, la6, la7, la8, la9, la10, la11, la12⟩, ga0, ga1, ga2, ga3, ga4, ga5, ga6, ga7, ga8, ga9, ga10, ga11, ga12⟩ := HB0
 clear R2 X2
 go_wp2_with fail
 show bodyPost Tryz.prog _ _ _ _ (putX w2 W.heap.size (tRef r) (.slice none 0 0))
 have R3 := H2.out.1
 rw [HT.out.2.2] at R3
 rw [HXX.out, ← HPF.out, HRF.out]
 exact endR (H2.out.2.2.put (tRef r) (.slice none 0 0)) rfl ⟨putX_B H2.out.2.1 (Nat.le_refl _) _ _, ⟨_, rfl, .nil⟩, pa, putX_R R3 hgW HN.out.2.2 _ _⟩ (fun h0 h1 h2 h3 h4 h5 h6 h7 h8 h9 h10 h11 h12 => by simp [results, Tryz.results50, go_sem, h0, h1, h2, h3, h4, h5, h6, h7, h8, h9, h10, h11, h12, aggX])
set_option maxRecDepth 100000 in
theorem word_none (w0 : World) (b n : Nat) (hX : ExC w0 b n n) (W : World) (ts : List Tk) (d : Nat) (pa : Int) (h : Rp w0 b W ts d pa 0) (hts : ts.length ≤ n + 1) (hd4 : d ≤ 40) (hk : (hd ts).1 = 2) (ho : okP (hd ts).2.2.1 = false) (h1 : (hd ts).2.2.1 ≠ wTrue) (h2 : (hd ts).2.2.1 ≠ wFalse) (h3 : kno (hd ts).2.2.1 = none) :
   Calls Tryz.prog 50 #[.pointer (some ⟨b, 0, none⟩), .string (bs (hd ts).2.2.1)] W (RX w0 b W ts.length (d - 1) d (wrd (frm (O n)) d ts)) := by
 have HR : Hid (Rp w0 b W ts d pa 0) := h
 have HN : Hid (ts.length ≤ n + 1 ∧ d ≤ 40 ∧ w0.heap.size ≤ W.heap.size) := ⟨hts, hd4, h.1.sz⟩
 have HX : Hid (ExC w0 b n n) := hX
 have hbW : b < W.heap.size := h.lt.1
 have hgW : W.heap.size ≠ b := by omega
 have HT : Hid (Nz ts.tail ∧ ts.tail.length + 1 = ts.length ∧ nx ts = ts.tail) := ⟨(h.2.2.1.tail (by rw [hk]; decide)).1, (h.2.2.1.tail (by rw [hk]; decide)).2, nx_tail h.2.2.1 (by rw [hk]; decide)⟩
 have cP := fun V => rparse_rf (hd ts).2.2.1 V (h.2.2.2.2.1 _ (hd_mem h.2.2.1.pos)).1
 have HXX : Hid (∃ f, wrd (frm (O n)) d ts = .error f) := by
   show ∃ f, _
   unfold wrd refr
   rw [if_neg h1, if_neg h2, h3, if_neg (by rintro ⟨_, h⟩; rw [ho] at h; cases h)]
   exact ⟨_, rfl⟩
 have e1 : ((bs (hd ts).2.2.1).toList == [84, 82, 85, 69]) = false := by rw [bs_tl]; simpa [wTrue] using h1
 have e2 : ((bs (hd ts).2.2.1).toList == [70, 65, 76, 83, 69]) = false := by rw [bs_tl]; simpa [wFalse] using h2
 have cK := fun V => rknown_none (hd ts).2.2.1 V h3
 rw [ho] at cP
 clear ho h1 h2 h3
 clear hts hd4 hX h hk
 obtain ⟨s, hs⟩ : ∃ s, (hd ts).2.2.1 = s := ⟨_, rfl⟩
 have HSS : Hid ((hd ts).2.2.1 = s) := hs
 rw [hs] at cP e1 e2 cK ⊢
 clear hs
 have es : (bs s).data.toList = s := rfl
 obtain ⟨r, hr⟩ : ∃ r, prf s = r := ⟨_, rfl⟩
 have HRF : Hid (prf s = r) := hr
 rw [hr] at cP
 clear hr es
 generalize bs s = q at *
 go_enter Tryz.func50, Tryz.ntmps50
 go_wp2_with fail
 refine (cP _).mono ?_
 rintro e w1 ⟨rfl, E1⟩
 have hw1 : W.heap.size + 1 ≤ w1.heap.size := by have := E1.size; simp at this; omega
 have E3 : Ext w1 (w1.alloc (.cells #[.int .i64 r.1, .int .i64 r.2.1, .bool r.2.2.1, .bool r.2.2.2] 26)) := (Ext.refl _).alloc _
 have B3 := blk_top (b := w1.heap.size) rfl (Ext.refl (w1.alloc (.cells #[.int .i64 r.1, .int .i64 r.2.1, .bool r.2.2.1, .bool r.2.2.2] 26)))
 have HV : Hid (BlkX (w1.alloc (.cells #[.int .i64 r.1, .int .i64 r.2.1, .bool r.2.2.1, .bool r.2.2.2] 26)) W.heap.size tz (.slice none 0 0) ∧ Ext W (w1.alloc (.cells #[.int .i64 r.1, .int .i64 r.2.1, .bool r.2.2.1, .bool r.2.2.2] 26)) ∧ Blk (w1.alloc (.cells #[.int .i64 r.1, .int .i64 r.2.1, .bool r.2.2.1, .bool r.2.2.2] 26)) w1.heap.size (.int .i64 r.1) (.int .i64 r.2.1) (.bool r.2.2.1) (.bool r.2.2.2)) := ⟨(BlkX.top rfl E1).ext E3, (((Ext.refl _).alloc _).trans E1).trans E3, B3⟩
 clear E1 E3 B3 cP
 go_wp2_with fail
 refine (cK _).mono ?_
 rintro e wk ⟨rfl, rfl⟩
 go_wp2_with fail
 refine (rbad_any (HR.out.ext HV.out.2.1) 4).mono ?_
 rintro e w2 ⟨rfl, R2, X2⟩
 have H2 : Hid (ExtB b W w2 ∧ BlkX w2 W.heap.size tz (.slice none 0 0) ∧ ∃ pa' why', why' ≠ 0 ∧ Rp w0 b w2 ts d pa' why') := ⟨(HV.out.2.1.toB b).trans X2, HV.out.1.extB X2 hgW, _, _, by decide, R2⟩
 have HB0 := H2.out.2.1
 obtain ⟨qa, ⟨la0, la1, la2, la3, la4, la5, la6, la7, la8, la9, la10, la11, la12⟩, ga0, ga1, ga2, ga3, ga4, ga5, ga6, ga7, ga8, ga9, ga10, ga11, ga12⟩ := HB0
 clear R2 X2
 go_wp2_with fail
 show bodyPost Tryz.prog _ _ _ _ (putX w2 W.heap.size tz (.slice none 0 0))
 obtain ⟨f, hf⟩ := HXX.out
 obtain ⟨pa', why', z1, z2⟩ := H2.out.2.2
 exact endR (H2.out.2.1.put tz (.slice none 0 0)) rfl (RY.back ⟨putX_B H2.out.1 (Nat.le_refl _) _ _, .inr ⟨f, ts, d, pa', why', hf, by omega, Int.le_refl _, z1, Nat.le_refl _, putX_R z2 hgW HN.out.2.2 _ _⟩⟩) (fun h0 h1 h2 h3 h4 h5 h6 h7 h8 h9 h10 h11 h12 => by simp [results, Tryz.results50, go_sem, h0, h1, h2, h3, h4, h5, h6, h7, h8, h9, h10, h11, h12, aggX])
set_option maxRecDepth 100000 in
theorem word_call (w0 : World) (b n : Nat) (hX : ExC w0 b n n) (W : World) (ts : List Tk) (d : Nat) (pa : Int) (h : Rp w0 b W ts d pa 0) (hts : ts.length ≤ n + 1) (hd4 : d ≤ 40) (hk : (hd ts).1 = 2) (a m : Nat) (hkn : kno (hd ts).2.2.1 = some (a, m)) :
   Calls Tryz.prog 50 #[.pointer (some ⟨b, 0, none⟩), .string (bs (hd ts).2.2.1)] W (RX w0 b W ts.length (d - 1) d (wrd (frm (O n)) d ts)) := by
 have HR : Hid (Rp w0 b W ts d pa 0) := h
 have HN : Hid (ts.length ≤ n + 1 ∧ d ≤ 40 ∧ w0.heap.size ≤ W.heap.size) := ⟨hts, hd4, h.1.sz⟩
 have HX : Hid (ExC w0 b n n) := hX
 have hbW : b < W.heap.size := h.lt.1
 have hgW : W.heap.size ≠ b := by omega
 have HT : Hid (Nz ts.tail ∧ ts.tail.length + 1 = ts.length ∧ nx ts = ts.tail) := ⟨(h.2.2.1.tail (by rw [hk]; decide)).1, (h.2.2.1.tail (by rw [hk]; decide)).2, nx_tail h.2.2.1 (by rw [hk]; decide)⟩
 have cP := fun V => rparse_rf (hd ts).2.2.1 V (h.2.2.2.2.1 _ (hd_mem h.2.2.1.pos)).1
 obtain ⟨ka, kb, kc, h1, h2, ho⟩ := kno_bd hkn
 simp only at ka kb kc
 have hbrk : wrd (frm (O n)) d ts = brk (call (frm (O n)) (hd ts).2.2.1 a m) d ts.tail := by
   unfold wrd
   rw [if_neg h1, if_neg h2, hkn]
   show (match tk1 d ts with | .error e => (.error e : Rs) | .ok ts1 => brk (call (frm (O n)) (hd ts).2.2.1 a m) d ts1) = _
   rw [tk1_ok hd4]
 have HNO : Hid (isSg [40] ts.tail = false → ∃ f, wrd (frm (O n)) d ts = .error f) := by
   intro h40
   rw [hbrk]
   unfold brk pass1
   rw [h40]
   exact ⟨_, rfl⟩
 have hyes : isSg [40] ts.tail = true → wrd (frm (O n)) d ts = match args (frm (O n)) a m (d + 1) ts.tail.tail with | .error e => .error e | .ok (l, us) => if isSg [41] us = true then .ok (tCall (hd ts).2.2.1 l, us.tail) else .error (ft us false) := by
   intro h40
   rw [hbrk]
   unfold brk pass1 call
   rw [h40, if_pos rfl, tk1_ok hd4]
   dsimp only
   cases args (frm (O n)) a m (d + 1) ts.tail.tail with
   | error e => rfl
   | ok q =>
     obtain ⟨l, us⟩ := q
     dsimp only
     rw [tk1_ok hd4]
     cases isSg [41] us <;> rfl
 have HWR : Hid ((isSg [40] ts.tail = true → (∃ f, args (frm (O n)) a m (d + 1) ts.tail.tail = .error f) → ∃ f, wrd (frm (O n)) d ts = .error f) ∧ (∀ l us, isSg [40] ts.tail = true → args (frm (O n)) a m (d + 1) ts.tail.tail = .ok (l, us) → isSg [41] us = true → wrd (frm (O n)) d ts = .ok (tCall (hd ts).2.2.1 l, us.tail)) ∧ (∀ l us, isSg [40] ts.tail = true → args (frm (O n)) a m (d + 1) ts.tail.tail = .ok (l, us) → isSg [41] us = false → ∃ f, wrd (frm (O n)) d ts = .error f)) := by
   refine ⟨fun q1 q2 => ?_, fun l us q1 q2 q3 => ?_, fun l us q1 q2 q3 => ?_⟩
   · obtain ⟨f, hf⟩ := q2
     rw [hyes q1, hf]
     exact ⟨_, rfl⟩
   · rw [hyes q1, q2]
     show (if isSg [41] us = true then _ else _) = _
     rw [if_pos q3]
   · rw [hyes q1, q2]
     refine ⟨ft us false, ?_⟩
     show (if isSg [41] us = true then _ else _) = _
     rw [if_neg (by rw [q3]; decide)]
 have HT2 : Hid (isSg [40] ts.tail = true → Nz ts.tail.tail ∧ ts.tail.tail.length + 1 = ts.tail.length ∧ nx ts.tail = ts.tail.tail ∧ ts.tail.tail.length ≤ n) := by
   intro h40
   have z := HT.out.1.tail (by rw [(isSg_k h40).1]; decide)
   exact ⟨z.1, z.2, nx_tail HT.out.1 (by rw [(isSg_k h40).1]; decide), by have := HT.out.2.1; have := z.2; omega⟩
 have HAD : Hid (d + 1 ≤ 40 → isSg [40] ts.tail = true → Eqv (args (frm (O n)) a m (d + 1) ts.tail.tail) (docA (frm (O n)) a m (d + 1) ts.tail.tail)) := fun q1 q2 => args_doc (frm_sh (O_sh n)) q1 kb (HT2.out q2).1 (HT2.out q2).2.2.2
 have HDP : Hid (40 < d + 1 → isSg [40] ts.tail = true → ∃ f, wrd (frm (O n)) d ts = .error f) := by
   intro q1 q2
   refine HWR.out.1 q2 ?_
   obtain ⟨f, hf⟩ := LvK_deep n (d + 1) 1 q1 ts.tail.tail
   have hf2 : frm (O n) (d + 1) ts.tail.tail = .error f := hf
   unfold args argm
   rw [hf2]
   exact ⟨_, rfl⟩
 have HAM : Hid (1 ≤ a ∧ a ≤ m ∧ m ≤ 20) := ⟨ka, kb, kc⟩
 have e1 : ((bs (hd ts).2.2.1).toList == [84, 82, 85, 69]) = false := by rw [bs_tl]; simpa [wTrue] using h1
 have e2 : ((bs (hd ts).2.2.1).toList == [70, 65, 76, 83, 69]) = false := by rw [bs_tl]; simpa [wFalse] using h2
 have cK := fun V => rknown_some (hd ts).2.2.1 V a m hkn
 rw [ho] at cP
 have ham : a ≤ 20 := by omega
 have hmm : m ≤ 20 := kc
 clear ho h1 h2 hkn hbrk hyes ka kb kc
 clear hts hd4 hX h hk
 obtain ⟨s, hs⟩ : ∃ s, (hd ts).2.2.1 = s := ⟨_, rfl⟩
 have HSS : Hid ((hd ts).2.2.1 = s) := hs
 rw [hs] at cP e1 e2 cK ⊢
 clear hs
 have es : (bs s).data.toList = s := rfl
 obtain ⟨r, hr⟩ : ∃ r, prf s = r := ⟨_, rfl⟩
 have HRF : Hid (prf s = r) := hr
 rw [hr] at cP
 clear hr es
 go_enter Tryz.func50, Tryz.ntmps50
 go_wp2_with fail
 refine (cP _).mono ?_
 rintro e w1 ⟨rfl, E1⟩
 have hw1 : W.heap.size + 1 ≤ w1.heap.size := by have := E1.size; simp at this; omega
 have E3 : Ext w1 (w1.alloc (.cells #[.int .i64 r.1, .int .i64 r.2.1, .bool r.2.2.1, .bool r.2.2.2] 26)) := (Ext.refl _).alloc _
 have B3 := blk_top (b := w1.heap.size) rfl (Ext.refl (w1.alloc (.cells #[.int .i64 r.1, .int .i64 r.2.1, .bool r.2.2.1, .bool r.2.2.2] 26)))
 have HV : Hid (BlkX (w1.alloc (.cells #[.int .i64 r.1, .int .i64 r.2.1, .bool r.2.2.1, .bool r.2.2.2] 26)) W.heap.size tz (.slice none 0 0) ∧ Ext W (w1.alloc (.cells #[.int .i64 r.1, .int .i64 r.2.1, .bool r.2.2.1, .bool r.2.2.2] 26)) ∧ Blk (w1.alloc (.cells #[.int .i64 r.1, .int .i64 r.2.1, .bool r.2.2.1, .bool r.2.2.2] 26)) w1.heap.size (.int .i64 r.1) (.int .i64 r.2.1) (.bool r.2.2.1) (.bool r.2.2.2)) := ⟨(BlkX.top rfl E1).ext E3, (((Ext.refl _).alloc _).trans E1).trans E3, B3⟩
 clear E1 E3 B3 cP
 go_wp2_with fail
 refine (cK _).mono ?_
 rintro e wk ⟨rfl, rfl⟩
 clear cK
 go_wp2_with fail
 refine (rnext_any (HR.out.ext HV.out.2.1)).mono ?_
 rintro e w2 ⟨rfl, R2, X2⟩
 rw [HT.out.2.2] at R2
 have H2 : Hid (Rp w0 b w2 ts.tail d pa 0 ∧ ExtB b W w2 ∧ BlkX w2 W.heap.size tz (.slice none 0 0)) := ⟨R2, (HV.out.2.1.toB b).trans X2, HV.out.1.extB X2 hgW⟩
 clear R2 X2 HV HRF
 go_wp2_with fail
 refine (rwant_any H2.out.1 ⟨#[40]⟩).mono ?_
 rintro e w3 ⟨rfl, X3, D3⟩
 obtain ⟨us, pa3, why, R3, HS3⟩ : ∃ us pa3 why, Rp w0 b w3 us d pa3 why ∧ Hid ((why = 0 ∧ us = ts.tail.tail ∧ isSg [40] ts.tail = true) ∨ (why ≠ 0 ∧ us = ts.tail ∧ ∃ f, wrd (frm (O n)) d ts = .error f)) := by
   rcases D3 with ⟨q1, q2⟩ | ⟨q1, pa', why', q2, q3⟩
   · unfold sgn at q1
     split at q1
     · rename_i h3
       have hc : isSg [40] ts.tail = true := by unfold isSg; rw [h3.2, q1]; rfl
       exact ⟨_, _, 0, q2, .inl ⟨rfl, (HT2.out hc).2.2.1, hc⟩⟩
     · cases q1
   · refine ⟨_, _, why', q3, .inr ⟨q2, rfl, HNO.out ?_⟩⟩
     cases hc : isSg [40] ts.tail with
     | false => rfl
     | true => exact absurd (by unfold sgn; rw [if_pos ⟨rfl, (isSg_k hc).1⟩]; exact (isSg_k hc).2) q1
 have H3 : Hid (Rp w0 b w3 us d pa3 why ∧ ExtB b W w3 ∧ BlkX w3 W.heap.size tz (.slice none 0 0)) := ⟨R3, H2.out.2.1.trans X3, H2.out.2.2.extB X3 hgW⟩
 have HUL : Hid (us.length ≤ ts.length) := by
   show _ ≤ _
   have z := HT.out.2.1
   rcases HS3.out with ⟨_, hu, hc⟩ | ⟨_, hu, _⟩
   · rw [hu]; have := (HT2.out hc).2.1; omega
   · rw [hu]; omega
 obtain ⟨g0, g1, g2, g3, g4, g5, g6, tb, off, cc, nn, ii, all, u1, u2, u3, u4, u5, u6⟩ := R3
 obtain ⟨hz, ⟨b0, b1, b2, b3, b4⟩, f0, f1, f2, f3, f4⟩ := u6
 clear g0 g1 g2 g3 g4 g5 g6 u1 u2 u3 u4 u5
 clear X3 D3 H2
 go_upto_if 54 with fail
 go_cut [] (fun wx => ∃ us D pa' why, Rp w0 b wx us D pa' why ∧ us.length ≤ ts.length ∧ BlkX wx W.heap.size tz (.slice none 0 0) ∧ ExtB b W wx ∧ ((why = 0 ∧ D = (d : Int) + 1 ∧ d + 1 ≤ 40 ∧ us = ts.tail.tail ∧ isSg [40] ts.tail = true) ∨ (why ≠ 0 ∧ (d : Int) ≤ D ∧ D ≤ (d : Int) + 1 ∧ ∃ f, wrd (frm (O n)) d ts = .error f)))
 case first =>
   by_cases hw : why = 0
   · have w0' : (why == 0) = true := by rw [hw]; rfl
     have HW0 : Hid (why = 0) := hw
     clear hw
     go_wp2_with fail
     refine (rdown_any H3.out.1 (by have := HN.out.2.1; omega)).mono ?_
     rintro e w4 ⟨rfl, X4, D4⟩
     have HD4 : Hid ((d + 1 ≤ (40 : Int) ∧ Rp w0 b w4 us ((d : Int) + 1) pa3 why) ∨ (40 < (d : Int) + 1 ∧ ∃ pa' why', why' ≠ 0 ∧ Rp w0 b w4 us ((d : Int) + 1) pa' why')) := D4
     have HX4 : Hid (ExtB b w3 w4) := X4
     clear X4 D4 b0 b1 b2 b3 b4 f0 f1 f2 f3 f4 hz
     go_wp2_with fail
     go_meet
     case rel =>
       rcases HS3.out with ⟨_, hu, hc⟩ | ⟨hne, _⟩
       · rcases HD4.out with ⟨q1, q2⟩ | ⟨q1, pa', why', q2, q3⟩
         · exact ⟨us, _, pa3, why, q2, HUL.out, H3.out.2.2.extB HX4.out hgW, H3.out.2.1.trans HX4.out, .inl ⟨HW0.out, rfl, by omega, hu, hc⟩⟩
         · exact ⟨us, _, pa', why', q3, HUL.out, H3.out.2.2.extB HX4.out hgW, H3.out.2.1.trans HX4.out, .inr ⟨q2, by omega, by omega, HDP.out (by omega) hc⟩⟩
       · exact absurd HW0.out hne
   · have w0' : (why == 0) = false := by simpa using hw
     have HW0 : Hid (why ≠ 0) := hw
     clear hw
     go_wp2_with fail
     go_meet
     case rel =>
       rcases HS3.out with ⟨h0, _⟩ | ⟨hne, _, hr⟩
       · exact absurd h0 HW0.out
       · exact ⟨us, _, pa3, why, H3.out.1, HUL.out, H3.out.2.2, H3.out.2.1, .inr ⟨hne, by omega, by omega, hr⟩⟩
 case rest =>
   clear b0 b1 b2 b3 b4 f0 f1 f2 f3 f4 hz
   obtain ⟨us0, D0, pa0, why0, j1, j2, j3, j4, j5⟩ := hcut
   have HJ : Hid (Rp w0 b wc us0 D0 pa0 why0 ∧ us0.length ≤ ts.length ∧ BlkX wc W.heap.size tz (.slice none 0 0) ∧ ExtB b W wc) := ⟨j1, j2, j3, j4⟩
   have HJ5 : Hid ((why0 = 0 ∧ D0 = (d : Int) + 1 ∧ d + 1 ≤ 40 ∧ us0 = ts.tail.tail ∧ isSg [40] ts.tail = true) ∨ (why0 ≠ 0 ∧ (d : Int) ≤ D0 ∧ D0 ≤ (d : Int) + 1 ∧ ∃ f, wrd (frm (O n)) d ts = .error f)) := j5
   have hXW : W.heap.size < wc.heap.size := j3.1
   clear j1 j2 j3 j4 j5 H3 HS3 HUL
   have hXb : wc.heap.size ≠ b := by omega
   go_wp2_with fail
   go_loopw [11] (fun mv wr => ∃ (more : Bool) (us : List Tk) (D pa' why : Int) (v : Value) (ps : List (T × Value)), mv = .bool more ∧ BlkX wr wc.heap.size (tCall s []) v ∧ BlkX wr W.heap.size tz (.slice none 0 0) ∧ ExtB b W wr ∧ Rp w0 b wr us D pa' why ∧ us.length ≤ ts.length ∧ OwY wr (wc.heap.size + 1) v ps ∧ ps.length ≤ 20 ∧ ((more = true ∧ why = 0 ∧ D = (d : Int) + 1 ∧ d + 1 ≤ 40 ∧ ps.length < m ∧ us.length ≤ n ∧ (∀ p ∈ ps, IsL wr (fun k => wc.heap.size + 1 ≤ k ∧ v.ownBlock ≠ some k) p.2 p.1.l) ∧ (∃ f, us.length ≤ f ∧ docA (frm (O n)) a m (d + 1) ts.tail.tail = chk a (docL (frm (O n)) m (d + 1) f (ps.map Prod.fst) us)) ∧ isSg [40] ts.tail = true) ∨ (more = false ∧ why = 0 ∧ D = (d : Int) + 1 ∧ d + 1 ≤ 40 ∧ (∀ p ∈ ps, IsL wr (fun k => wc.heap.size + 1 ≤ k ∧ v.ownBlock ≠ some k) p.2 p.1.l) ∧ docA (frm (O n)) a m (d + 1) ts.tail.tail = chk a (.ok (ps.map Prod.fst, us)) ∧ isSg [40] ts.tail = true) ∨ (why ≠ 0 ∧ (d : Int) ≤ D ∧ D ≤ (d : Int) + 1 ∧ ∃ f, wrd (frm (O n)) d ts = .error f))) (fun _ wr => muR b wr)
   case atStart =>
     have E4 : Ext wc (wc.alloc (.cells #[.int .i64 8, .int .i64 0, .string (bs s), .int .i64 0, .int .i64 0, .int .i64 0, .bool false, .bool false, .int .i64 0, .int .i64 0, .bool false, .bool false, .slice none 0 0] 29)) := (Ext.refl _).alloc _
     refine ⟨true, us0, D0, pa0, why0, .slice none 0 0, [], rfl, ?_, HJ.out.2.2.1.ext E4, HJ.out.2.2.2.alloc _, HJ.out.1.ext E4, HJ.out.2.1, OwY.nil _ _, by simp, ?_⟩
     · exact blk13_top rfl (Ext.refl _)
     · rcases HJ5.out with ⟨z1, z2, z3, z4, z5⟩ | z
       · refine .inl ⟨rfl, z1, z2, z3, by have := HAM.out; show 0 < m; omega, by rw [z4]; exact (HT2.out z5).2.2.2, fun p hp => by simp at hp, ⟨us0.length, Nat.le_refl _, ?_⟩, z5⟩
         rw [z4]; rfl
       · exact .inr (.inr z)
   case round =>
     clear HJ HJ5
     generalize wc.heap.size = X at *
     obtain ⟨more, us, D, pa', why, v, ps, rfl, i1, i2, i3, i4, i5, i6, i7, i8⟩ := hrel
     have HO : Hid (BlkX wr X (tCall s []) v ∧ BlkX wr W.heap.size tz (.slice none 0 0) ∧ ExtB b W wr ∧ Rp w0 b wr us D pa' why ∧ us.length ≤ ts.length ∧ OwY wr (X + 1) v ps ∧ ps.length ≤ 20) := ⟨i1, i2, i3, i4, i5, i6, i7⟩
     have HRp : Hid (Rp w0 b wr us D pa' why) := i4
     have hXr : X < wr.heap.size := i1.1
     cases more with
     | false =>
       have HST : Hid ((why = 0 ∧ D = (d : Int) + 1 ∧ d + 1 ≤ 40 ∧ (∀ p ∈ ps, IsL wr (fun k => X + 1 ≤ k ∧ v.ownBlock ≠ some k) p.2 p.1.l) ∧ docA (frm (O n)) a m (d + 1) ts.tail.tail = chk a (.ok (ps.map Prod.fst, us)) ∧ isSg [40] ts.tail = true) ∨ (why ≠ 0 ∧ (d : Int) ≤ D ∧ D ≤ (d : Int) + 1 ∧ ∃ f, wrd (frm (O n)) d ts = .error f)) := by
         rcases i8 with ⟨z, _⟩ | ⟨_, z⟩ | z
         · cases z
         · exact .inl z
         · exact .inr z
       clear i1 i2 i3 i5 i6 i7 i8
       obtain ⟨g0, g1, g2, g3, g4, g5, g6, tb, off, cc, nn, ii, all, u1, u2, u3, u4, u5, u6⟩ := i4
       obtain ⟨hz, ⟨b0, b1, b2, b3, b4⟩, f0, f1, f2, f3, f4⟩ := u6
       clear g0 g1 g2 g3 g4 g5 g6 u1 u2 u3 u4 u5
       obtain ⟨pv, cv, hv⟩ := HO.out.2.2.2.2.2.1.form
       obtain ⟨pl, hpl⟩ : ∃ pl, ps.length = pl := ⟨_, rfl⟩
       have HPL : Hid (ps.length = pl) := hpl
       rw [hpl] at hv
       subst hv
       obtain ⟨zx, ⟨x0, x1, x2, x3, x4, x5, x6, x7, x8, x9, x10, x11, x12⟩, zxf⟩ := HO.out.1
       clear zxf hpl
       have hpl20 : pl ≤ 20 := by rw [← HPL.out]; exact HO.out.2.2.2.2.2.2
       go_upto_if 88 with fail
       go_cut [] (fun wx => ∃ us D pa' why, BlkX wx X (tCall s []) (.slice pv pl cv) ∧ BlkX wx W.heap.size tz (.slice none 0 0) ∧ ExtB b W wx ∧ Rp w0 b wx us D pa' why ∧ us.length ≤ ts.length ∧ ((why = 0 ∧ D = (d : Int) + 1 ∧ IsL wx (X + 1 ≤ ·) (.slice pv pl cv) (ps.map Prod.fst) ∧ args (frm (O n)) a m (d + 1) ts.tail.tail = .ok (ps.map Prod.fst, us) ∧ isSg [40] ts.tail = true) ∨ (why ≠ 0 ∧ (d : Int) ≤ D ∧ D ≤ (d : Int) + 1 ∧ ∃ f, wrd (frm (O n)) d ts = .error f)))
       case first =>
         have HSX : Hid ((why = 0 ∧ D = (d : Int) + 1 ∧ (pl < a → ∃ f, wrd (frm (O n)) d ts = .error f) ∧ (¬ pl < a → IsL wr (X + 1 ≤ ·) (.slice pv pl cv) (ps.map Prod.fst) ∧ args (frm (O n)) a m (d + 1) ts.tail.tail = .ok (ps.map Prod.fst, us) ∧ isSg [40] ts.tail = true)) ∨ (why ≠ 0 ∧ (d : Int) ≤ D ∧ D ≤ (d : Int) + 1 ∧ ∃ f, wrd (frm (O n)) d ts = .error f)) := by
           rcases HST.out with ⟨z1, z2, z3, z4, z5, z6⟩ | z
           · refine .inl ⟨z1, z2, fun hlt => ?_, fun hge => ?_⟩
             · have hc : chk a (.ok (ps.map Prod.fst, us)) = .error (ft us false) := chk_lt (by rw [List.length_map, HPL.out]; exact hlt)
               exact HWR.out.1 z6 ((HAD.out z3 z6).err (z5.trans hc))
             · have hc : chk a (.ok (ps.map Prod.fst, us)) = .ok (ps.map Prod.fst, us) := chk_ge (by rw [List.length_map, HPL.out]; exact hge)
               have hOX : OwX wr (X + 1) (.slice pv pl cv) ps := ⟨HO.out.2.2.2.2.2.1, z4⟩
               exact ⟨hOX.isL, (HAD.out z3 z6).ok (z5.trans hc), z6⟩
           · exact .inr z
         by_cases hlt : (pl : Int) < (a : Int)
         · go_wp2_with fail
           refine (rbad_any HO.out.2.2.2.1 4).mono ?_
           rintro e w7 ⟨rfl, R7, X7⟩
           go_wp2_with fail
           go_meet
           case rel =>
             refine ⟨us, D, _, _, HO.out.1.extB X7 (by omega), HO.out.2.1.extB X7 hgW, HO.out.2.2.1.trans X7, R7, HO.out.2.2.2.2.1, .inr ?_⟩
             rcases HSX.out with ⟨z1, z2, z3, _⟩ | ⟨z1, z2, z3, z4⟩
             · exact ⟨by rw [if_pos z1]; decide, by omega, by omega, z3 (by omega)⟩
             · exact ⟨by rw [if_neg z1]; exact z1, z2, z3, z4⟩
         · go_wp2_with fail
           go_meet
           case rel =>
             refine ⟨us, D, pa', why, HO.out.1, HO.out.2.1, HO.out.2.2.1, HO.out.2.2.2.1, HO.out.2.2.2.2.1, ?_⟩
             rcases HSX.out with ⟨z1, z2, _, z3⟩ | z
             · exact .inl ⟨z1, z2, z3 (by omega)⟩
             · exact .inr z
       case rest =>
         obtain ⟨us, D, pa', why, i1, i2, i3, i4, i5, i6⟩ := hcut
         have HO : Hid (BlkX wc X (tCall s []) (.slice pv pl cv) ∧ BlkX wc W.heap.size tz (.slice none 0 0) ∧ ExtB b W wc ∧ Rp w0 b wc us D pa' why ∧ us.length ≤ ts.length) := ⟨i1, i2, i3, i4, i5⟩
         have HST : Hid ((why = 0 ∧ D = (d : Int) + 1 ∧ IsL wc (X + 1 ≤ ·) (.slice pv pl cv) (ps.map Prod.fst) ∧ args (frm (O n)) a m (d + 1) ts.tail.tail = .ok (ps.map Prod.fst, us) ∧ isSg [40] ts.tail = true) ∨ (why ≠ 0 ∧ (d : Int) ≤ D ∧ D ≤ (d : Int) + 1 ∧ ∃ f, wrd (frm (O n)) d ts = .error f)) := i6
         have hD1 : (d : Int) ≤ D ∧ D ≤ (d : Int) + 1 := by
           rcases i6 with ⟨_, z, _⟩ | ⟨_, z1, z2, _⟩
           · omega
           · omega
         have hdb : -1000 ≤ D - 1 := by omega
         have hdc : D ≤ 1000 := by have := HN.out.2.1; omega
         obtain ⟨zx, ⟨x0, x1, x2, x3, x4, x5, x6, x7, x8, x9, x10, x11, x12⟩, zxf⟩ := i1
         obtain ⟨g0, g1, g2, g3, g4, g5, g6, tb, off, cc, nn, ii, all, u1, u2, u3, u4, u5, u6⟩ := i4
         obtain ⟨hz, ⟨b0, b1, b2, b3, b4⟩, f0, f1, f2, f3, f4⟩ := u6
         clear g0 g1 g2 g3 g4 g5 g6 u1 u2 u3 u4 u5
         clear i2 i3 i5 i6 zxf
         go_wp2_with fail
         have R5 := HO.out.2.2.2.1.deep (by omega)
         have X5 := HO.out.2.2.1.set (p := ⟨b, 2, none⟩) (.inl rfl) (.int .i64 (D - 1))
         have B5 : BlkX (wc.setCell ⟨b, 2, none⟩ (.int .i64 (D - 1))) W.heap.size tz (.slice none 0 0) := Blk13.far1 HO.out.2.1 (c := b) (by omega) 2 (.int .i64 (D - 1))
         have B6 : BlkX (wc.setCell ⟨b, 2, none⟩ (.int .i64 (D - 1))) X (tCall s []) (.slice pv pl cv) := Blk13.far1 HO.out.1 (c := b) (by omega) 2 (.int .i64 (D - 1))
         have L5 : ∀ l', IsL wc (X + 1 ≤ ·) (.slice pv pl cv) l' → IsL (wc.setCell ⟨b, 2, none⟩ (.int .i64 (D - 1))) (X + 1 ≤ ·) (.slice pv pl cv) l' := fun l' hh => hh.extB ((ExtB.refl b wc).set (p := ⟨b, 2, none⟩) (.inl rfl) (.int .i64 (D - 1))) (fun j hj => by omega)
         refine (rwant_any R5 ⟨#[41]⟩).mono ?_
         rintro e w6 ⟨rfl, X6, D6⟩
         have HD6 : Hid ((sgn us why = [41] ∧ Rp w0 b w6 (nx us) (D - 1) pa' why) ∨ (sgn us why ≠ [41] ∧ ∃ pa' why', why' ≠ 0 ∧ Rp w0 b w6 us (D - 1) pa' why')) := D6
         have H6 : Hid (ExtB b W w6 ∧ BlkX w6 W.heap.size tz (.slice none 0 0) ∧ BlkX w6 X (tCall s []) (.slice pv pl cv)) := ⟨X5.trans X6, B5.extB X6 hgW, B6.extB X6 (by omega)⟩
         have HL6 : Hid (∀ l', IsL wc (X + 1 ≤ ·) (.slice pv pl cv) l' → IsL w6 (X + 1 ≤ ·) (.slice pv pl cv) l') := fun l' hh => (L5 l' hh).extB X6 (fun j hj => by omega)
         clear D6 X6 X5 B5 B6 L5 R5 b0 b1 b2 b3 b4 f0 f1 f2 f3 f4 hz zx x0 x1 x2 x3 x4 x5 x6 x7 x8 x9 x10 x11 x12
         have HB0 := H6.out.2.1
         obtain ⟨qa, ⟨la0, la1, la2, la3, la4, la5, la6, la7, la8, la9, la10, la11, la12⟩, ga0, ga1, ga2, ga3, ga4, ga5, ga6, ga7, ga8, ga9, ga10, ga11, ga12⟩ := HB0
         have HB1 := H6.out.2.2
         obtain ⟨qc, ⟨lc0, lc1, lc2, lc3, lc4, lc5, lc6, lc7, lc8, lc9, lc10, lc11, lc12⟩, gc0, gc1, gc2, gc3, gc4, gc5, gc6, gc7, gc8, gc9, gc10, gc11, gc12⟩ := HB1
         go_wp2_with fail
         show bodyPost Tryz.prog _ _ _ _ (putX w6 W.heap.size (tCall s (ps.map Prod.fst)) (.slice pv pl cv))
         refine endR (H6.out.2.1.put (tCall s (ps.map Prod.fst)) (.slice pv pl cv)) rfl (RY.back ⟨putX_B H6.out.1 (Nat.le_refl _) _ _, ?_⟩) (fun h0 h1 h2 h3 h4 h5 h6 h7 h8 h9 h10 h11 h12 => by simp [results, Tryz.results50, go_sem, h0, h1, h2, h3, h4, h5, h6, h7, h8, h9, h10, h11, h12, aggX])
         have bad : ∀ us' pa' why', why' ≠ 0 → Rp w0 b w6 us' (D - 1) pa' why' → us'.length ≤ ts.length → (∃ f, wrd (frm (O n)) d ts = .error f) → (∃ f ts2 d' pa why, wrd (frm (O n)) d ts = .error f ∧ (d : Int) - 1 ≤ d' ∧ d' ≤ d ∧ why ≠ 0 ∧ ts2.length ≤ ts.length ∧ Rp w0 b (putX w6 W.heap.size (tCall s (ps.map Prod.fst)) (.slice pv pl cv)) ts2 d' pa why) := by
           rintro us' pa' why' z1 z2 z3 ⟨f, hf⟩
           exact ⟨f, us', D - 1, pa', why', hf, by omega, by omega, z1, z3, putX_R z2 hgW HN.out.2.2 _ _⟩
         rcases HST.out with ⟨hw, hd5, hL, hr, h40⟩ | ⟨hw, _, _, hr⟩
         · rcases HD6.out with ⟨q1, q2⟩ | ⟨q1, pa'', why', q2, q3⟩
           · unfold sgn at q1
             split at q1
             · rename_i h3
               have hc : isSg [41] us = true := by unfold isSg; rw [h3.2, q1]; rfl
               have hre := HWR.out.2.1 _ _ h40 hr hc
               have hn2 : nx us = us.tail := nx_tail HO.out.2.2.2.1.2.2.1 (by rw [h3.2]; decide)
               rw [hn2, hw, hd5, show (d : Int) + 1 - 1 = d by omega] at q2
               rw [HSS.out] at hre
               exact .inl ⟨us.tail, pa', hre, ((HL6.out _ hL).keep (by rw [putX_size]; exact Nat.le_refl _) (fun j hj hs => putX_heap _ _ _ _ _ (by omega)) (fun j hj _ => hj)).mono (fun j hj _ => by omega), putX_R q2 hgW HN.out.2.2 _ _⟩
             · cases q1
           · refine .inr (bad us pa'' why' q2 q3 HO.out.2.2.2.2 ?_)
             have hc : isSg [41] us = false := by
               cases hc : isSg [41] us with
               | false => rfl
               | true => exact absurd (by unfold sgn; rw [if_pos ⟨hw, (isSg_k hc).1⟩]; exact (isSg_k hc).2) q1
             exact HWR.out.2.2 _ _ h40 hr hc
         · rcases HD6.out with ⟨q1, _⟩ | ⟨_, pa'', why', q2, q3⟩
           · unfold sgn at q1
             rw [if_neg (fun h => hw h.1)] at q1
             cases q1
           · exact .inr (bad us pa'' why' q2 q3 HO.out.2.2.2.2 hr)
     | true =>
       by_cases hw : why = 0
       · have w0' : (why == 0) = true := by rw [hw]; rfl
         have HGA : Hid (D = (d : Int) + 1 ∧ d + 1 ≤ 40 ∧ ps.length < m ∧ us.length ≤ n ∧ (∀ p ∈ ps, IsL wr (fun k => X + 1 ≤ k ∧ v.ownBlock ≠ some k) p.2 p.1.l) ∧ (∃ f, us.length ≤ f ∧ docA (frm (O n)) a m (d + 1) ts.tail.tail = chk a (docL (frm (O n)) m (d + 1) f (ps.map Prod.fst) us)) ∧ isSg [40] ts.tail = true) := by
           rcases i8 with ⟨_, _, z⟩ | ⟨z, _⟩ | ⟨z, _⟩
           · exact z
           · cases z
           · exact absurd hw z
         have HW0 : Hid (why = 0) := hw
         have e4 : ((d + 1 : Nat) : Int) = D := by have := HGA.out.1; omega
         have i9 := i4
         rw [hw, ← e4] at i9
         have c3 := rargument_any w0 b n HX.out wr us (d + 1) pa' i9 HGA.out.2.2.2.1 HGA.out.2.1
         clear i9 e4
         clear hw i1 i2 i3 i5 i6 i7 i8
         obtain ⟨g0, g1, g2, g3, g4, g5, g6, tb, off, cc, nn, ii, all, u1, u2, u3, u4, u5, u6⟩ := i4
         obtain ⟨hz, ⟨b0, b1, b2, b3, b4⟩, f0, f1, f2, f3, f4⟩ := u6
         clear g0 g1 g2 g3 g4 g5 g6 u1 u2 u3 u4 u5
         go_wp2_with fail
         refine c3.mono ?_
         intro e w4 h4
         obtain ⟨y, qq, lm, cm, rfl, hY⟩ := h4.form
         obtain ⟨ts2, d2, pa2, why2, R4, hd2, hd3, HY⟩ := hY.state
         have H4 : Hid (BlkX w4 X (tCall s []) v ∧ BlkX w4 W.heap.size tz (.slice none 0 0) ∧ ExtB b W w4 ∧ Rp w0 b w4 ts2 d2 pa2 why2 ∧ OwY w4 (X + 1) v ps ∧ ps.length ≤ 20 ∧ ExtB b wr w4) := ⟨HO.out.1.extB hY.1 hXb, HO.out.2.1.extB hY.1 hgW, HO.out.2.2.1.trans hY.1, R4, HO.out.2.2.2.2.2.1.extB hY.1 (by omega), HO.out.2.2.2.2.2.2, hY.1⟩
         have HDD : Hid ((d : Int) ≤ d2 ∧ d2 ≤ (d : Int) + 1) := ⟨by omega, by omega⟩
         have hw4 : X < w4.heap.size := H4.out.1.1
         obtain ⟨pv, cv, hv⟩ := H4.out.2.2.2.2.1.form
         obtain ⟨pl, hpl⟩ : ∃ pl, ps.length = pl := ⟨_, rfl⟩
         have HPL : Hid (ps.length = pl) := hpl
         have hpl20 : pl < m := by have := HGA.out.2.2.1; omega
         rw [hpl] at hv
         subst hv
         have HB0 := H4.out.1
         obtain ⟨zx, ⟨x0, x1, x2, x3, x4, x5, x6, x7, x8, x9, x10, x11, x12⟩, xf0, xf1, xf2, xf3, xf4, xf5, xf6, xf7, xf8, xf9, xf10, xf11, xf12⟩ := HB0
         clear h4 hY c3 R4 hd2 hd3 hpl b0 b1 b2 b3 b4 f0 f1 f2 f3 f4 hz
         have E5 : Ext w4 ((w4.alloc (.cells #[.int .i64 y.k, .int .i64 y.n, .string (bs y.s), .int .i64 y.e, .int .i64 y.r.1, .int .i64 y.r.2.1, .bool y.r.2.2.1, .bool y.r.2.2.2, .int .i64 y.q.1, .int .i64 y.q.2.1, .bool y.q.2.2.1, .bool y.q.2.2.2, .slice qq lm cm] 29)).alloc (.cells #[.int .i64 y.k, .int .i64 y.n, .string (bs y.s), .int .i64 y.e, .int .i64 y.r.1, .int .i64 y.r.2.1, .bool y.r.2.2.1, .bool y.r.2.2.2, .int .i64 y.q.1, .int .i64 y.q.2.1, .bool y.q.2.2.1, .bool y.q.2.2.2, .slice qq lm cm] 29)) := ((Ext.refl _).alloc _).alloc _
         have HB4 : Hid (OwY ((w4.alloc (.cells #[.int .i64 y.k, .int .i64 y.n, .string (bs y.s), .int .i64 y.e, .int .i64 y.r.1, .int .i64 y.r.2.1, .bool y.r.2.2.1, .bool y.r.2.2.2, .int .i64 y.q.1, .int .i64 y.q.2.1, .bool y.q.2.2.1, .bool y.q.2.2.2, .slice qq lm cm] 29)).alloc (.cells #[.int .i64 y.k, .int .i64 y.n, .string (bs y.s), .int .i64 y.e, .int .i64 y.r.1, .int .i64 y.r.2.1, .bool y.r.2.2.1, .bool y.r.2.2.2, .int .i64 y.q.1, .int .i64 y.q.2.1, .bool y.q.2.2.1, .bool y.q.2.2.2, .slice qq lm cm] 29)) (X + 1) (.slice pv pl cv) ps) := H4.out.2.2.2.2.1.extB (E5.toB b) (by omega)
         have HE5 : Hid (Ext w4 ((w4.alloc (.cells #[.int .i64 y.k, .int .i64 y.n, .string (bs y.s), .int .i64 y.e, .int .i64 y.r.1, .int .i64 y.r.2.1, .bool y.r.2.2.1, .bool y.r.2.2.2, .int .i64 y.q.1, .int .i64 y.q.2.1, .bool y.q.2.2.1, .bool y.q.2.2.2, .slice qq lm cm] 29)).alloc (.cells #[.int .i64 y.k, .int .i64 y.n, .string (bs y.s), .int .i64 y.e, .int .i64 y.r.1, .int .i64 y.r.2.1, .bool y.r.2.2.1, .bool y.r.2.2.2, .int .i64 y.q.1, .int .i64 y.q.2.1, .bool y.q.2.2.1, .bool y.q.2.2.2, .slice qq lm cm] 29))) := E5
         clear E5
         unfold aggX
         go_wp2_with (at_builtin; refine y_append _ (X + 1) _ _ _ (w4.heap.size + 1) ps y qq lm cm rfl rfl (by rfl) (by first | rfl | (simp; rfl)) HB4.out ?cR (by rw [HPL.out]; omega) (by simp; omega) ?_)
         case cR =>
           intro j u hu
           have e9 : (w4.alloc (.cells #[.int .i64 y.k, .int .i64 y.n, .string (bs y.s), .int .i64 y.e, .int .i64 y.r.1, .int .i64 y.r.2.1, .bool y.r.2.2.1, .bool y.r.2.2.2, .int .i64 y.q.1, .int .i64 y.q.2.1, .bool y.q.2.2.1, .bool y.q.2.2.2, .slice qq lm cm] 29)).heap.size = w4.heap.size + 1 := by simp
           rw [Addr.add_lit, ← e9, cell_of_row _ _ _ _ _ (0, 0) (new_top _ _), Nat.zero_add]
           rw [← hu, ← Array.getElem?_toList]; rfl
         intro v' w5 k1 k2 g5 cap5 hv5 k4
         subst hv5
         have HE6 := HE5.out
         have HIL : Hid (∀ z l, IsL w4 (fun k => X + 1 ≤ k ∧ (Value.slice pv pl cv).ownBlock ≠ some k) z l → IsL w5 (fun k => X + 1 ≤ k ∧ (Value.slice (some ⟨g5, 0, none⟩) (ps.length + 1) cap5).ownBlock ≠ some k) z l) := fun z l hz => own_up k2 (fun k hk hv => k4 k (by simp at hk; omega) hv) (hz.ext HE6)
         have HG : Hid (BlkX w5 X (tCall s []) (.slice pv pl cv) ∧ BlkX w5 W.heap.size tz (.slice none 0 0) ∧ ExtB b W w5 ∧ Rp w0 b w5 ts2 d2 pa2 why2 ∧ OwY w5 (X + 1) (.slice (some ⟨g5, 0, none⟩) (ps.length + 1) cap5) (ps ++ [(y, .slice qq lm cm)])) := ⟨(H4.out.1.ext HE6).grownY k2 HB4.out (by omega), (H4.out.2.1.ext HE6).grownY k2 HB4.out (by omega), grownBY k2 HB4.out (H4.out.2.2.1.trans (HE6.toB b)) (by omega), (H4.out.2.2.2.1.ext HE6).grownY k2 HB4.out (by omega) (by have := HN.out.2.2; omega), k1⟩
         have HGD : Hid ((why2 = 0 ∧ d2 = (d : Int) + 1 ∧ (∀ p ∈ ps ++ [(y, Value.slice qq lm cm)], IsL w5 (fun k => X + 1 ≤ k ∧ (Value.slice (some ⟨g5, 0, none⟩) (ps.length + 1) cap5).ownBlock ≠ some k) p.2 p.1.l) ∧ ts2.length < us.length ∧ Nz ts2 ∧ (pl + 1 < m ∧ isSg [44] ts2 = true → ∃ f, ts2.tail.length ≤ f ∧ docA (frm (O n)) a m (d + 1) ts.tail.tail = chk a (docL (frm (O n)) m (d + 1) f ((ps ++ [(y, Value.slice qq lm cm)]).map Prod.fst) ts2.tail)) ∧ (¬ (pl + 1 < m ∧ isSg [44] ts2 = true) → docA (frm (O n)) a m (d + 1) ts.tail.tail = chk a (.ok ((ps ++ [(y, Value.slice qq lm cm)]).map Prod.fst, ts2)))) ∨ (why2 ≠ 0 ∧ (∃ f, wrd (frm (O n)) d ts = .error f) ∧ ts2.length ≤ us.length)) := by
           obtain ⟨z1, z2, z3, z4, z5, ⟨f, z6, z7⟩, z8⟩ := HGA.out
           obtain ⟨f, rfl⟩ : ∃ k, f = k + 1 := ⟨f - 1, by have := HRp.out.2.2.1.pos; omega⟩
           unfold docL at z7
           rcases HY.out with ⟨y1, y2, y3, y4⟩ | ⟨y1, ⟨g, y2⟩, y3⟩
           · rw [y3] at z7
             dsimp only at z7
             rw [List.length_map, HPL.out] at z7
             have s2 := argm_sh (frm_sh (O_sh n)) (d + 1) us HRp.out.2.2.1 z4 _ _ y3
             have s3 := s2.2
             have em : (ps ++ [(y, Value.slice qq lm cm)]).map Prod.fst = ps.map Prod.fst ++ [y] := by rw [List.map_append]; rfl
             refine .inl ⟨y1, by omega, ?_, s3, s2.1, fun hc => ?_, fun hc => ?_⟩
             · intro p hp
               rcases List.mem_append.1 hp with hp | hp
               · exact HIL.out _ _ ((z5 p hp).extB H4.out.2.2.2.2.2.2 (fun k hk => by omega))
               · simp at hp; subst hp
                 refine HIL.out _ _ (y4.mono (fun k hk hs => ⟨by omega, ?_⟩))
                 rcases HO.out.2.2.2.2.2.1.2 with ⟨q1, _⟩ | ⟨g', cap', cur, q1, _, q3, _⟩
                 · cases q1; simp [Value.ownBlock]
                 · cases q1; simp [Value.ownBlock]; have := heap_lt q3; omega
             · rw [if_pos hc] at z7
               rw [em]
               exact ⟨f, by have := (s2.1.tail (by rw [(isSg_k hc.2).1]; decide)).2; omega, z7⟩
             · rw [if_neg hc] at z7
               rw [em]
               exact z7
           · rw [y2] at z7
             exact .inr ⟨y1, HWR.out.1 z8 ((HAD.out z2 z8).err (e := g) (by rw [z7]; rfl)), y3⟩
         have hl5 : (ps ++ [(y, Value.slice qq lm cm)]).length = pl + 1 := by rw [List.length_append, HPL.out]; rfl
         have HL5 : Hid ((ps ++ [(y, Value.slice qq lm cm)]).length = pl + 1) := hl5
         have hpl5 : ps.length = pl := HPL.out
         rw [hpl5] at HG HGD HIL
         rw [hpl5]
         have hw5 : X < w5.heap.size := HG.out.1.1
         have HB7 := HG.out.1
         clear zx x0 x1 x2 x3 x4 x5 x6 x7 x8 x9 x10 x11 x12 xf0 xf1 xf2 xf3 xf4 xf5 xf6 xf7 xf8 xf9 xf10 xf11 xf12
         obtain ⟨zx, ⟨x0, x1, x2, x3, x4, x5, x6, x7, x8, x9, x10, x11, x12⟩, xf0, xf1, xf2, xf3, xf4, xf5, xf6, xf7, xf8, xf9, xf10, xf11, xf12⟩ := HB7
         clear k1 k2 k4 HE6 hl5 hpl5 HB4 HE5 HIL H4
         have HS : Hid (BlkX (w5.setCell ⟨X, 12, none⟩ (.slice (some ⟨g5, 0, none⟩) (pl + 1) cap5)) X (tCall s []) (.slice (some ⟨g5, 0, none⟩) (pl + 1) cap5) ∧ BlkX (w5.setCell ⟨X, 12, none⟩ (.slice (some ⟨g5, 0, none⟩) (pl + 1) cap5)) W.heap.size tz (.slice none 0 0) ∧ ExtB b W (w5.setCell ⟨X, 12, none⟩ (.slice (some ⟨g5, 0, none⟩) (pl + 1) cap5)) ∧ Rp w0 b (w5.setCell ⟨X, 12, none⟩ (.slice (some ⟨g5, 0, none⟩) (pl + 1) cap5)) ts2 d2 pa2 why2 ∧ OwY (w5.setCell ⟨X, 12, none⟩ (.slice (some ⟨g5, 0, none⟩) (pl + 1) cap5)) (X + 1) (.slice (some ⟨g5, 0, none⟩) (pl + 1) cap5) (ps ++ [(y, .slice qq lm cm)])) := ⟨Blk13.put12 HG.out.1 _, Blk13.far1 HG.out.2.1 (by omega) 12 _, HG.out.2.2.1.set (.inr (by show W.heap.size ≤ X; omega)) _, HG.out.2.2.2.1.far (by omega) (by have := HN.out.2.2; omega) _, HG.out.2.2.2.2.set (by show X < X + 1; omega) _⟩
         have HIS : Hid (∀ z l, IsL w5 (fun k => X + 1 ≤ k ∧ (Value.slice (some ⟨g5, 0, none⟩) (pl + 1) cap5).ownBlock ≠ some k) z l → IsL (w5.setCell ⟨X, 12, none⟩ (.slice (some ⟨g5, 0, none⟩) (pl + 1) cap5)) (fun k => X + 1 ≤ k ∧ (Value.slice (some ⟨g5, 0, none⟩) (pl + 1) cap5).ownBlock ≠ some k) z l) := fun z l hz => hz.keep (by simp [World.setCell]) (fun k hk _ => Below.heap_setCell _ _ _ _ (by simp; omega)) (fun _ h _ => h)
         have cC := rcomma_any HS.out.2.2.2.1
         by_cases hlm : pl + 1 < m
         · have hlmI : (pl : Int) + 1 < (m : Int) := by omega
           have HLM : Hid (pl + 1 < m) := hlm
           clear hlm
           go_wp2_with fail
           refine cC.mono ?_
           rintro e w7 ⟨X7, D7⟩
           clear cC
           have H7 : Hid (BlkX w7 X (tCall s []) (.slice (some ⟨g5, 0, none⟩) (pl + 1) cap5) ∧ BlkX w7 W.heap.size tz (.slice none 0 0) ∧ ExtB b W w7 ∧ OwY w7 (X + 1) (.slice (some ⟨g5, 0, none⟩) (pl + 1) cap5) (ps ++ [(y, .slice qq lm cm)])) := ⟨HS.out.1.extB X7 hXb, HS.out.2.1.extB X7 hgW, HS.out.2.2.1.trans X7, HS.out.2.2.2.2.extB X7 (by omega)⟩
           have HI7 : Hid (∀ z l, IsL w5 (fun k => X + 1 ≤ k ∧ (Value.slice (some ⟨g5, 0, none⟩) (pl + 1) cap5).ownBlock ≠ some k) z l → IsL w7 (fun k => X + 1 ≤ k ∧ (Value.slice (some ⟨g5, 0, none⟩) (pl + 1) cap5).ownBlock ≠ some k) z l) := fun z l hz => (HIS.out z l hz).extB X7 (fun k hk => by omega)
           clear X7 zx x0 x1 x2 x3 x4 x5 x6 x7 x8 x9 x10 x11 x12 xf0 xf1 xf2 xf3 xf4 xf5 xf6 xf7 xf8 xf9 xf10 xf11 xf12
           rcases D7 with ⟨q1, rfl, q3⟩ | ⟨q1, rfl, q3⟩
           · have HQ : Hid (sgn ts2 why2 = [44] ∧ Rp w0 b w7 (nx ts2) d2 pa2 why2) := ⟨q1, q3⟩
             clear q1 q3
             go_wp2_with fail
             go_roundw
             case rel =>
               have q1 := HQ.out.1
               unfold sgn at q1
               split at q1
               · rename_i h3
                 have hc : isSg [44] ts2 = true := by unfold isSg; rw [h3.2, q1]; rfl
                 rcases HGD.out with ⟨z1, z2, z3, z4, z5, z6, _⟩ | ⟨z1, _⟩
                 · have hn := nx_tail z5 (by rw [h3.2]; decide)
                   have q3 := HQ.out.2
                   rw [hn] at q3
                   have tl := (z5.tail (by rw [h3.2]; decide)).2
                   have u1 := HO.out.2.2.2.2.1
                   have u2 := HGA.out.2.2.2.1
                   exact ⟨true, ts2.tail, d2, pa2, why2, _, ps ++ [(y, .slice qq lm cm)], rfl, H7.out.1, H7.out.2.1, H7.out.2.2.1, q3, by omega, H7.out.2.2.2, by rw [HL5.out]; omega, .inl ⟨rfl, z1, z2, HGA.out.2.1, by rw [HL5.out]; exact HLM.out, by omega, fun p hp => HI7.out _ _ (z3 p hp), z6 ⟨HLM.out, hc⟩, HGA.out.2.2.2.2.2.2⟩⟩
                 · exact absurd h3.1 z1
               · cases q1
             case measure =>
               have q1 := HQ.out.1
               unfold sgn at q1
               split at q1
               · rename_i h3
                 rcases HGD.out with ⟨z1, z2, z3, z4, z5, z6, _⟩ | ⟨z1, _⟩
                 · have hn := nx_tail z5 (by rw [h3.2]; decide)
                   have tl := (z5.tail (by rw [h3.2]; decide)).2
                   rw [HQ.out.2.mu, HRp.out.mu, if_pos HW0.out, hn]
                   split <;> omega
                 · exact absurd h3.1 z1
               · cases q1
           · have HQ : Hid (sgn ts2 why2 ≠ [44] ∧ Rp w0 b w7 ts2 d2 pa2 why2) := ⟨q1, q3⟩
             clear q1 q3
             go_wp2_with fail
             go_roundw
             case rel =>
               have u1 := HO.out.2.2.2.2.1
               rcases HGD.out with ⟨z1, z2, z3, z4, z5, _, z6⟩ | ⟨z1, z2, z3⟩
               · exact ⟨false, ts2, d2, pa2, why2, _, ps ++ [(y, .slice qq lm cm)], rfl, H7.out.1, H7.out.2.1, H7.out.2.2.1, HQ.out.2, by omega, H7.out.2.2.2, by rw [HL5.out]; omega, .inr (.inl ⟨rfl, z1, z2, HGA.out.2.1, fun p hp => HI7.out _ _ (z3 p hp), z6 (fun hc => HQ.out.1 (by unfold sgn; rw [if_pos ⟨z1, (isSg_k hc.2).1⟩]; exact (isSg_k hc.2).2)), HGA.out.2.2.2.2.2.2⟩)⟩
               · exact ⟨false, ts2, d2, pa2, why2, _, ps ++ [(y, .slice qq lm cm)], rfl, H7.out.1, H7.out.2.1, H7.out.2.2.1, HQ.out.2, by omega, H7.out.2.2.2, by rw [HL5.out]; omega, .inr (.inr ⟨z1, HDD.out.1, HDD.out.2, z2⟩)⟩
             case measure =>
               rw [HQ.out.2.mu, HRp.out.mu, if_pos HW0.out]
               rcases HGD.out with ⟨z1, z2, z3, z4, z5, _, z6⟩ | ⟨z1, z2, z3⟩
               · split <;> omega
               · rw [if_neg z1]; omega
         · have hlmI : ¬ (pl : Int) + 1 < (m : Int) := by omega
           have HLM : Hid (¬ pl + 1 < m) := hlm
           clear hlm cC
           go_wp2_with fail
           go_roundw
           case rel =>
             have u1 := HO.out.2.2.2.2.1
             rcases HGD.out with ⟨z1, z2, z3, z4, z5, _, z6⟩ | ⟨z1, z2, z3⟩
             · exact ⟨false, ts2, d2, pa2, why2, _, ps ++ [(y, .slice qq lm cm)], rfl, HS.out.1, HS.out.2.1, HS.out.2.2.1, HS.out.2.2.2.1, by omega, HS.out.2.2.2.2, by rw [HL5.out]; omega, .inr (.inl ⟨rfl, z1, z2, HGA.out.2.1, fun p hp => HIS.out _ _ (z3 p hp), z6 (fun hc => HLM.out hc.1), HGA.out.2.2.2.2.2.2⟩)⟩
             · exact ⟨false, ts2, d2, pa2, why2, _, ps ++ [(y, .slice qq lm cm)], rfl, HS.out.1, HS.out.2.1, HS.out.2.2.1, HS.out.2.2.2.1, by omega, HS.out.2.2.2.2, by rw [HL5.out]; omega, .inr (.inr ⟨z1, HDD.out.1, HDD.out.2, z2⟩)⟩
           case measure =>
             rw [HS.out.2.2.2.1.mu, HRp.out.mu, if_pos HW0.out]
             rcases HGD.out with ⟨z1, z2, z3, z4, z5, _, z6⟩ | ⟨z1, z2, z3⟩
             · split <;> omega
             · rw [if_neg z1]; omega
       · have w0' : (why == 0) = false := by simpa using hw
         have HST : Hid ((why = 0 ∧ D = (d : Int) + 1 ∧ d + 1 ≤ 40 ∧ (∀ p ∈ ps, IsL wr (fun k => X + 1 ≤ k ∧ v.ownBlock ≠ some k) p.2 p.1.l) ∧ docA (frm (O n)) a m (d + 1) ts.tail.tail = chk a (.ok (ps.map Prod.fst, us)) ∧ isSg [40] ts.tail = true) ∨ (why ≠ 0 ∧ (d : Int) ≤ D ∧ D ≤ (d : Int) + 1 ∧ ∃ f, wrd (frm (O n)) d ts = .error f)) := by
           rcases i8 with ⟨_, z, _⟩ | ⟨z, _⟩ | z
           · exact absurd z hw
           · cases z
           · exact .inr z
         clear i1 i2 i3 i5 i6 i7 i8 hw
         obtain ⟨g0, g1, g2, g3, g4, g5, g6, tb, off, cc, nn, ii, all, u1, u2, u3, u4, u5, u6⟩ := i4
         obtain ⟨hz, ⟨b0, b1, b2, b3, b4⟩, f0, f1, f2, f3, f4⟩ := u6
         clear g0 g1 g2 g3 g4 g5 g6 u1 u2 u3 u4 u5
         obtain ⟨pv, cv, hv⟩ := HO.out.2.2.2.2.2.1.form
         obtain ⟨pl, hpl⟩ : ∃ pl, ps.length = pl := ⟨_, rfl⟩
         have HPL : Hid (ps.length = pl) := hpl
         rw [hpl] at hv
         subst hv
         obtain ⟨zx, ⟨x0, x1, x2, x3, x4, x5, x6, x7, x8, x9, x10, x11, x12⟩, zxf⟩ := HO.out.1
         clear zxf hpl
         have hpl20 : pl ≤ 20 := by rw [← HPL.out]; exact HO.out.2.2.2.2.2.2
         go_upto_if 88 with fail
         go_cut [] (fun wx => ∃ us D pa' why, BlkX wx X (tCall s []) (.slice pv pl cv) ∧ BlkX wx W.heap.size tz (.slice none 0 0) ∧ ExtB b W wx ∧ Rp w0 b wx us D pa' why ∧ us.length ≤ ts.length ∧ ((why = 0 ∧ D = (d : Int) + 1 ∧ IsL wx (X + 1 ≤ ·) (.slice pv pl cv) (ps.map Prod.fst) ∧ args (frm (O n)) a m (d + 1) ts.tail.tail = .ok (ps.map Prod.fst, us) ∧ isSg [40] ts.tail = true) ∨ (why ≠ 0 ∧ (d : Int) ≤ D ∧ D ≤ (d : Int) + 1 ∧ ∃ f, wrd (frm (O n)) d ts = .error f)))
         case first =>
           have HSX : Hid ((why = 0 ∧ D = (d : Int) + 1 ∧ (pl < a → ∃ f, wrd (frm (O n)) d ts = .error f) ∧ (¬ pl < a → IsL wr (X + 1 ≤ ·) (.slice pv pl cv) (ps.map Prod.fst) ∧ args (frm (O n)) a m (d + 1) ts.tail.tail = .ok (ps.map Prod.fst, us) ∧ isSg [40] ts.tail = true)) ∨ (why ≠ 0 ∧ (d : Int) ≤ D ∧ D ≤ (d : Int) + 1 ∧ ∃ f, wrd (frm (O n)) d ts = .error f)) := by
             rcases HST.out with ⟨z1, z2, z3, z4, z5, z6⟩ | z
             · refine .inl ⟨z1, z2, fun hlt => ?_, fun hge => ?_⟩
               · have hc : chk a (.ok (ps.map Prod.fst, us)) = .error (ft us false) := chk_lt (by rw [List.length_map, HPL.out]; exact hlt)
                 exact HWR.out.1 z6 ((HAD.out z3 z6).err (z5.trans hc))
               · have hc : chk a (.ok (ps.map Prod.fst, us)) = .ok (ps.map Prod.fst, us) := chk_ge (by rw [List.length_map, HPL.out]; exact hge)
                 have hOX : OwX wr (X + 1) (.slice pv pl cv) ps := ⟨HO.out.2.2.2.2.2.1, z4⟩
                 exact ⟨hOX.isL, (HAD.out z3 z6).ok (z5.trans hc), z6⟩
             · exact .inr z
           by_cases hlt : (pl : Int) < (a : Int)
           · go_wp2_with fail
             refine (rbad_any HO.out.2.2.2.1 4).mono ?_
             rintro e w7 ⟨rfl, R7, X7⟩
             go_wp2_with fail
             go_meet
             case rel =>
               refine ⟨us, D, _, _, HO.out.1.extB X7 (by omega), HO.out.2.1.extB X7 hgW, HO.out.2.2.1.trans X7, R7, HO.out.2.2.2.2.1, .inr ?_⟩
               rcases HSX.out with ⟨z1, z2, z3, _⟩ | ⟨z1, z2, z3, z4⟩
               · exact ⟨by rw [if_pos z1]; decide, by omega, by omega, z3 (by omega)⟩
               · exact ⟨by rw [if_neg z1]; exact z1, z2, z3, z4⟩
           · go_wp2_with fail
             go_meet
             case rel =>
               refine ⟨us, D, pa', why, HO.out.1, HO.out.2.1, HO.out.2.2.1, HO.out.2.2.2.1, HO.out.2.2.2.2.1, ?_⟩
               rcases HSX.out with ⟨z1, z2, _, z3⟩ | z
               · exact .inl ⟨z1, z2, z3 (by omega)⟩
               · exact .inr z
         case rest =>
           obtain ⟨us, D, pa', why, i1, i2, i3, i4, i5, i6⟩ := hcut
           have HO : Hid (BlkX wc X (tCall s []) (.slice pv pl cv) ∧ BlkX wc W.heap.size tz (.slice none 0 0) ∧ ExtB b W wc ∧ Rp w0 b wc us D pa' why ∧ us.length ≤ ts.length) := ⟨i1, i2, i3, i4, i5⟩
           have HST : Hid ((why = 0 ∧ D = (d : Int) + 1 ∧ IsL wc (X + 1 ≤ ·) (.slice pv pl cv) (ps.map Prod.fst) ∧ args (frm (O n)) a m (d + 1) ts.tail.tail = .ok (ps.map Prod.fst, us) ∧ isSg [40] ts.tail = true) ∨ (why ≠ 0 ∧ (d : Int) ≤ D ∧ D ≤ (d : Int) + 1 ∧ ∃ f, wrd (frm (O n)) d ts = .error f)) := i6
           have hD1 : (d : Int) ≤ D ∧ D ≤ (d : Int) + 1 := by
             rcases i6 with ⟨_, z, _⟩ | ⟨_, z1, z2, _⟩
             · omega
             · omega
           have hdb : -1000 ≤ D - 1 := by omega
           have hdc : D ≤ 1000 := by have := HN.out.2.1; omega
           obtain ⟨zx, ⟨x0, x1, x2, x3, x4, x5, x6, x7, x8, x9, x10, x11, x12⟩, zxf⟩ := i1
           obtain ⟨g0, g1, g2, g3, g4, g5, g6, tb, off, cc, nn, ii, all, u1, u2, u3, u4, u5, u6⟩ := i4
           obtain ⟨hz, ⟨b0, b1, b2, b3, b4⟩, f0, f1, f2, f3, f4⟩ := u6
           clear g0 g1 g2 g3 g4 g5 g6 u1 u2 u3 u4 u5
           clear i2 i3 i5 i6 zxf
           go_wp2_with fail
           have R5 := HO.out.2.2.2.1.deep (by omega)
           have X5 := HO.out.2.2.1.set (p := ⟨b, 2, none⟩) (.inl rfl) (.int .i64 (D - 1))
           have B5 : BlkX (wc.setCell ⟨b, 2, none⟩ (.int .i64 (D - 1))) W.heap.size tz (.slice none 0 0) := Blk13.far1 HO.out.2.1 (c := b) (by omega) 2 (.int .i64 (D - 1))
           have B6 : BlkX (wc.setCell ⟨b, 2, none⟩ (.int .i64 (D - 1))) X (tCall s []) (.slice pv pl cv) := Blk13.far1 HO.out.1 (c := b) (by omega) 2 (.int .i64 (D - 1))
           have L5 : ∀ l', IsL wc (X + 1 ≤ ·) (.slice pv pl cv) l' → IsL (wc.setCell ⟨b, 2, none⟩ (.int .i64 (D - 1))) (X + 1 ≤ ·) (.slice pv pl cv) l' := fun l' hh => hh.extB ((ExtB.refl b wc).set (p := ⟨b, 2, none⟩) (.inl rfl) (.int .i64 (D - 1))) (fun j hj => by omega)
           refine (rwant_any R5 ⟨#[41]⟩).mono ?_
           rintro e w6 ⟨rfl, X6, D6⟩
           have HD6 : Hid ((sgn us why = [41] ∧ Rp w0 b w6 (nx us) (D - 1) pa' why) ∨ (sgn us why ≠ [41] ∧ ∃ pa' why', why' ≠ 0 ∧ Rp w0 b w6 us (D - 1) pa' why')) := D6
           have H6 : Hid (ExtB b W w6 ∧ BlkX w6 W.heap.size tz (.slice none 0 0) ∧ BlkX w6 X (tCall s []) (.slice pv pl cv)) := ⟨X5.trans X6, B5.extB X6 hgW, B6.extB X6 (by omega)⟩
           have HL6 : Hid (∀ l', IsL wc (X + 1 ≤ ·) (.slice pv pl cv) l' → IsL w6 (X + 1 ≤ ·) (.slice pv pl cv) l') := fun l' hh => (L5 l' hh).extB X6 (fun j hj => by omega)
           clear D6 X6 X5 B5 B6 L5 R5 b0 b1 b2 b3 b4 f0 f1 f2 f3 f4 hz zx x0 x1 x2 x3 x4 x5 x6 x7 x8 x9 x10 x11 x12
           have HB0 := H6.out.2.1
           obtain ⟨qa, ⟨la0, la1, la2, la3, la4, la5, la6, la7, la8, la9, la10, la11, la12⟩, ga0, ga1, ga2, ga3, ga4, ga5, ga6, ga7, ga8, ga9, ga10, ga11, ga12⟩ := HB0
           have HB1 := H6.out.2.2
           obtain ⟨qc, ⟨lc0, lc1, lc2, lc3, lc4, lc5, lc6, lc7, lc8, lc9, lc10, lc11, lc12⟩, gc0, gc1, gc2, gc3, gc4, gc5, gc6, gc7, gc8, gc9, gc10, gc11, gc12⟩ := HB1
           go_wp2_with fail
           show bodyPost Tryz.prog _ _ _ _ (putX w6 W.heap.size (tCall s (ps.map Prod.fst)) (.slice pv pl cv))
           refine endR (H6.out.2.1.put (tCall s (ps.map Prod.fst)) (.slice pv pl cv)) rfl (RY.back ⟨putX_B H6.out.1 (Nat.le_refl _) _ _, ?_⟩) (fun h0 h1 h2 h3 h4 h5 h6 h7 h8 h9 h10 h11 h12 => by simp [results, Tryz.results50, go_sem, h0, h1, h2, h3, h4, h5, h6, h7, h8, h9, h10, h11, h12, aggX])
           have bad : ∀ us' pa' why', why' ≠ 0 → Rp w0 b w6 us' (D - 1) pa' why' → us'.length ≤ ts.length → (∃ f, wrd (frm (O n)) d ts = .error f) → (∃ f ts2 d' pa why, wrd (frm (O n)) d ts = .error f ∧ (d : Int) - 1 ≤ d' ∧ d' ≤ d ∧ why ≠ 0 ∧ ts2.length ≤ ts.length ∧ Rp w0 b (putX w6 W.heap.size (tCall s (ps.map Prod.fst)) (.slice pv pl cv)) ts2 d' pa why) := by
             rintro us' pa' why' z1 z2 z3 ⟨f, hf⟩
             exact ⟨f, us', D - 1, pa', why', hf, by omega, by omega, z1, z3, putX_R z2 hgW HN.out.2.2 _ _⟩
           rcases HST.out with ⟨hw, hd5, hL, hr, h40⟩ | ⟨hw, _, _, hr⟩
           · rcases HD6.out with ⟨q1, q2⟩ | ⟨q1, pa'', why', q2, q3⟩
             · unfold sgn at q1
               split at q1
               · rename_i h3
                 have hc : isSg [41] us = true := by unfold isSg; rw [h3.2, q1]; rfl
                 have hre := HWR.out.2.1 _ _ h40 hr hc
                 have hn2 : nx us = us.tail := nx_tail HO.out.2.2.2.1.2.2.1 (by rw [h3.2]; decide)
                 rw [hn2, hw, hd5, show (d : Int) + 1 - 1 = d by omega] at q2
                 rw [HSS.out] at hre
                 exact .inl ⟨us.tail, pa', hre, ((HL6.out _ hL).keep (by rw [putX_size]; exact Nat.le_refl _) (fun j hj hs => putX_heap _ _ _ _ _ (by omega)) (fun j hj _ => hj)).mono (fun j hj _ => by omega), putX_R q2 hgW HN.out.2.2 _ _⟩
               · cases q1
             · refine .inr (bad us pa'' why' q2 q3 HO.out.2.2.2.2 ?_)
               have hc : isSg [41] us = false := by
                 cases hc : isSg [41] us with
                 | false => rfl
                 | true => exact absurd (by unfold sgn; rw [if_pos ⟨hw, (isSg_k hc).1⟩]; exact (isSg_k hc).2) q1
               exact HWR.out.2.2 _ _ h40 hr hc
           · rcases HD6.out with ⟨q1, _⟩ | ⟨_, pa'', why', q2, q3⟩
             · unfold sgn at q1
               rw [if_neg (fun h => hw h.1)] at q1
               cases q1
             · exact .inr (bad us pa'' why' q2 q3 HO.out.2.2.2.2 hr)
/-- A word, whatever it is. -/
theorem word_all (w0 : World) (b n : Nat) (hX : ExC w0 b n n) : WdC w0 b n := by
 intro W ts d pa h hts hd4 hk
 by_cases h1 : (hd ts).2.2.1 = wTrue
 · exact word_true w0 b n hX W ts d pa h hts hd4 hk h1
 by_cases h2 : (hd ts).2.2.1 = wFalse
 · exact word_false w0 b n hX W ts d pa h hts hd4 hk h2
 cases ho : okP (hd ts).2.2.1 with
 | true => exact word_ref w0 b n hX W ts d pa h hts hd4 hk ho
 | false =>
   cases hkn : kno (hd ts).2.2.1 with
   | none => exact word_none w0 b n hX W ts d pa h hts hd4 hk ho h1 h2 hkn
   | some q =>
     obtain ⟨a, m⟩ := q
     exact word_call w0 b n hX W ts d pa h hts hd4 hk a m hkn
/-- The document's exp reads what the grammar reads. -/
theorem reader_all (w0 : World) (b n : Nat) : ExC w0 b n n := exp_all w0 b n (prefix_all w0 b (fun n _ hX => word_all w0 b n hX) n) n (Nat.le_refl _)
end Go.Proofs.YtcggiljlilbdfaaGreatDoor
