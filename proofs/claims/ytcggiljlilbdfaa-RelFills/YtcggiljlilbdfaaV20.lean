/-
 The contract of package lex's read, whose deferred closure recovers the panic that tells the first fault.
 The contract of package lex's Words.
 What the laws of words lean on: lists of words held against each other, and the small living call.
 The document's reader: its state in memory; the next word, the next sign, going on, faults.
-/
import Derived.Test.YtcggiljlilbdfaaV19
import Derived.Test.YtcggiljlilbdfaaV11
import Derived.Defers
import Derived.Recover
import Derived.BigQuiet
import Derived.Deep.DeepCutAuto
import Derived.Deep.Light
import Derived.Deep.CutBlock
namespace Go.Proofs.Ytcggiljlilbdfaa
open Go.RowKit
set_option maxHeartbeats 1000000

/-- The world while words are read: those that were, the two results. -/
def St (w : World) (W : World) (v : Value) (acc : List Tk) : Prop := OwT W (w.heap.size + 2) v acc ∧ Ext w W ∧ w.heap.size + 2 ≤ W.heap.size ∧
 (W.cell? ⟨w.heap.size, 0, none⟩ = some v ∧ W.frozen? ⟨w.heap.size, 0, none⟩ = false) ∧
 (W.cell? ⟨w.heap.size + 1, 0, none⟩ = some (.int .i64 0) ∧ W.frozen? ⟨w.heap.size + 1, 0, none⟩ = false) ∧ W.cell? ⟨w.heap.size + 1, 1, none⟩ = some (.int .i64 0) ∧ W.frozen? ⟨w.heap.size + 1, 1, none⟩ = false
theorem St.ext {w W W' : World} {v : Value} {acc : List Tk} (h : St w W v acc) (e : Ext W W') : St w W' v acc := by
 obtain ⟨h1, h2, h3, ⟨a0, z0⟩, ⟨a1, z1⟩, a2, z2⟩ := h
 have k := e.cell
 exact ⟨h1.ext e, h2.trans e, Nat.le_trans h3 e.sz, ⟨(k.1 _ 0 (by omega)).trans a0, (k.2 _ 0 (by omega)).trans z0⟩, ⟨(k.1 _ 0 (by omega)).trans a1, (k.2 _ 0 (by omega)).trans z1⟩, (k.1 _ 1 (by omega)).trans a2, (k.2 _ 1 (by omega)).trans z2⟩
/-- A word more. -/
theorem St.more {w W W' : World} {v v' : Value} {acc : List Tk} {t : Tk} (h : St w W v acc) (k1 : OwT W' (w.heap.size + 2) v' (acc ++ [t])) (k2 : W.grownBy W' v.ownBlock) : St w (W'.setCell ⟨w.heap.size, 0, none⟩ v') v' (acc ++ [t]) := by
 obtain ⟨h1, h2, h3, ⟨a0, z0⟩, ⟨a1, z1⟩, a2, z2⟩ := h
 have c0 := grown_cell k2 (b := w.heap.size) (by omega) (h1.far (by omega)) 0
 have c1 := grown_cell k2 (b := w.heap.size + 1) (by omega) (h1.far (by omega)) 0
 have c2 := grown_cell k2 (b := w.heap.size + 1) (by omega) (h1.far (by omega)) 1
 have hs := k2.size
 refine ⟨k1.set (by simp) _, (grown_ext k2 h1 h2 (by omega)).setCell (Nat.le_refl _) _, by simp; omega, ⟨World.cell?_setCell_same _ _ _ (by rw [c0.1, a0]), ?_⟩, ⟨?_, ?_⟩, ?_, ?_⟩
 · rw [World.frozen?_setCell, c0.2, z0]
 · rw [World.cell?_setCell_far _ _ _ _ (by simp), c1.1, a1]
 · rw [World.frozen?_setCell, c1.2, z1]
 · rw [World.cell?_setCell_far _ _ _ _ (by simp), c2.1, a2]
 · rw [World.frozen?_setCell, c2.2, z2]

theorem map_nil {e : Type} (r : Except e (List Tk)) : r = r.map (fun ts => [] ++ ts) := by cases r <;> rfl
theorem W_at (l : List UInt8) (j : Nat) (h : j < l.length) (hc : ¬ l[j] = 32) : W j (l.drop j) = match nxt (l.drop j) with
   | .error e => .error (j, e)
   | .ok x => (W (j + x.2.2.2.2) (l.drop (j + x.2.2.2.2))).map (fun ts => tkOf x j :: ts) := by
 have e := W_cons j l[j] (l.drop (j + 1)) hc
 rw [← List.drop_eq_getElem_cons h] at e
 rw [e]
 cases nxt (l.drop j) with
 | error c => rfl
 | ok x => simp only [List.drop_drop]
theorem new_tk {W : World} {b : Nat} {t : Tk} {q : ByteArray} {T : TypeId} (hb : b = W.heap.size) (hq : bs t.2.2.1 = q) :
   ∀ j u, (flatT [t])[j]? = some u → (W.alloc (.cells #[.int .i64 t.1, .int .i64 t.2.1, .string q, .int .i64 t.2.2.2.1, .int .i64 t.2.2.2.2] T)).cell? ((⟨b, 0, none⟩ : Addr).add j) = some u := by
 subst hb hq
 intro j u hu
 rw [Addr.add_lit, cell_of_row _ _ _ _ _ (0, 0) (new_top W _), Nat.zero_add]
 rw [← hu, ← Array.getElem?_toList]; rfl

open Go.RowKit
set_option maxHeartbeats 1000000

/-- What Words answers of a text. -/
def WordsQ (w : World) (l : List UInt8) (e : Ending) (w' : World) : Prop :=
 ∃ v, e = .returned (.tuple #[v, .int .i64 (lexR l).2.1, .int .i64 (lexR l).2.2]) ∧ RdT w' v (lexR l).1 ∧ Ext w w'

open Go.RowKit
set_option maxHeartbeats 1000000

theorem bs_tl (x : List UInt8) : (bs x).toList = x := by rw [ByteArray.toList_eq]; rfl

open Go.RowKit
set_option maxHeartbeats 4000000

/-- What a word is. -/
def Kd (t : Tk) : Prop := t.2.2.1.length ≤ 300 ∧ 0 ≤ t.1 ∧ t.1 ≤ 5 ∧ (t.1 = 5 → t.2.2.1 = [])
/-- The reader in block b: the words that are left, how deep, where and why it can't go on. -/
def Rp (w0 : World) (b : Nat) (W : World) (ts : List Tk) (d pa why : Int) : Prop :=
 Ext w0 W ∧ w0.heap.size ≤ b ∧ Nz ts ∧ ts.length ≤ 400 ∧ (∀ t ∈ ts, Kd t) ∧ -1000 ≤ d ∧ d ≤ 1000 ∧
 ∃ (tb off c n i : Nat) (all : List Tk), RdT w0 (.slice (some ⟨tb, off, none⟩) n c) all ∧ all.length = n ∧ n ≤ 400 ∧ i < n ∧ all.drop i = ts ∧ Blk5 W b (.slice (some ⟨tb, off, none⟩) n c) (.int .i64 (i : Int)) (.int .i64 d) (.int .i64 pa) (.int .i64 why)
theorem Rp.ext {w0 W W' : World} {b : Nat} {ts : List Tk} {d pa why : Int} (h : Rp w0 b W ts d pa why) (e : Ext W W') : Rp w0 b W' ts d pa why := by
 obtain ⟨h1, h2, h3, h4, h5, h6, h7, tb, off, c, n, i, all, g1, g2, g3, g4, g5, g6⟩ := h
 exact ⟨h1.trans e, h2, h3, h4, h5, h6, h7, tb, off, c, n, i, all, g1, g2, g3, g4, g5, g6.ext e⟩
def tkA (t : Tk) : Value := .agg #[.int .i64 t.1, .int .i64 t.2.1, .string (bs t.2.2.1), .int .i64 t.2.2.2.1, .int .i64 t.2.2.2.2]
theorem tkf0 (t : Tk) (W : World) : (Instr.field 83 (.agg #[.int .i64 t.1, .int .i64 t.2.1, .string (bs t.2.2.1), .int .i64 t.2.2.2.1, .int .i64 t.2.2.2.2]) 0).run Try.prog W = .ok (.int .i64 t.1) W := by kernel_rfl
theorem tkf1 (t : Tk) (W : World) : (Instr.field 83 (.agg #[.int .i64 t.1, .int .i64 t.2.1, .string (bs t.2.2.1), .int .i64 t.2.2.2.1, .int .i64 t.2.2.2.2]) 1).run Try.prog W = .ok (.int .i64 t.2.1) W := by kernel_rfl
theorem tkf2 (t : Tk) (W : World) : (Instr.field 83 (.agg #[.int .i64 t.1, .int .i64 t.2.1, .string (bs t.2.2.1), .int .i64 t.2.2.2.1, .int .i64 t.2.2.2.2]) 2).run Try.prog W = .ok (.string (bs t.2.2.1)) W := by kernel_rfl
set_option maxRecDepth 100000 in
theorem rt_any {w0 W : World} {b : Nat} {ts : List Tk} {d pa why : Int} (h : Rp w0 b W ts d pa why) : Calls Try.prog 63 #[.pointer (some ⟨b, 0, none⟩)] W fun e w' => e = .returned (tkA (hd ts)) ∧ Ext W w' := by
 obtain ⟨h1, h2, h3, h4, h5, h6, h7, tb, off, c, n, i, all, g1, g2, g3, g4, g5, g6⟩ := h
 obtain ⟨p, c', e1, e2⟩ := g1.form
 obtain ⟨b', off', t, e3, e4, _, e6⟩ := g1.at (k := i) (by omega)
 cases e3
 have ht : hd ts = t := by rw [← g5]; unfold hd; rw [List.headD_eq_head?_getD, List.head?_drop, e4]; rfl
 rw [ht]
 have htb : tb < w0.heap.size := by
   rcases g1 with ⟨h8, _⟩ | ⟨b2, o2, c2, q1, q2, q3, _⟩
   · cases h8
   · cases q1; exact q3
 have hc := e6 W h1
 obtain ⟨c0, c1, c2, c3, c4⟩ := hc
 have hin : (i : Int) < (n : Int) := by omega
 obtain ⟨hz, ⟨b0, b1, b2, b3, b4⟩, f0, f1, f2, f3, f4⟩ := g6
 have HW : Hid (tb < W.heap.size ∧ Ext w0 W) := ⟨Nat.lt_of_lt_of_le htb h1.sz, h1⟩
 have htW : tb < W.heap.size := HW.out.1
 clear h1 h2 h3 h4 h5 h6 h7 g1 g2 g4 g5 e1 e2 e4 e6 ht htb
 go_enter Try.func63, Try.ntmps63
 go_wp2_with fail
 go_region
 go_wp2_with fail
 have B9 := blk5_top (b := W.heap.size) rfl ((Ext.refl (W.alloc (.cells #[.int .i64 t.1, .int .i64 t.2.1, .string (bs t.2.2.1), .int .i64 t.2.2.2.1, .int .i64 t.2.2.2.2] 83))).drew)
 have E9 : Ext W (W.alloc (.cells #[.int .i64 t.1, .int .i64 t.2.1, .string (bs t.2.2.1), .int .i64 t.2.2.2.1, .int .i64 t.2.2.2.2] 83)).drew := ((Ext.refl _).alloc _).drew
 generalize (W.alloc (.cells #[.int .i64 t.1, .int .i64 t.2.1, .string (bs t.2.2.1), .int .i64 t.2.2.2.1, .int .i64 t.2.2.2.2] 83)).drew = W9 at *
 refine fin5 _ B9 rfl E9 (fun g0 g1 g2 g3 g4 => by simp [results, Try.results63, go_sem, g0, g1, g2, g3, g4]; rfl) (fun h => ⟨rfl, h⟩)
/-- One word on, but never behind the end. -/
def nx (ts : List Tk) : List Tk := if 2 ≤ ts.length then ts.tail else ts
theorem nx_tail {ts : List Tk} (h : Nz ts) (h5 : (hd ts).1 ≠ 5) : nx ts = ts.tail := by
 have := (h.tail h5).2
 have h2 := (h.tail h5).1.pos
 exact if_pos (by omega)
theorem nx_nz {ts : List Tk} (h : Nz ts) : Nz (nx ts) := by
 unfold nx
 split
 · rename_i h2
   obtain ⟨pre, t, rfl, h1⟩ := h
   cases pre with
   | nil => simp at h2
   | cons a r => exact ⟨r, t, rfl, h1⟩
 · exact h
set_option maxRecDepth 100000 in
theorem rnext_any {w0 W : World} {b : Nat} {ts : List Tk} {d pa why : Int} (h : Rp w0 b W ts d pa why) : Calls Try.prog 95 #[.pointer (some ⟨b, 0, none⟩)] W fun e w' => e = .returned (.tuple #[]) ∧ Rp w0 b w' (nx ts) d pa why ∧ ExtB b W w' := by
 obtain ⟨h1, h2, h3, h4, h5, h6, h7, tb, off, c, n, i, all, g1, g2, g3, g4, g5, g6⟩ := h
 have hlen : ts.length = n - i := by rw [← g5, List.length_drop, g2]
 have hB : Blk5 W b (.slice (some ⟨tb, off, none⟩) n c) (.int .i64 (i : Int)) (.int .i64 d) (.int .i64 pa) (.int .i64 why) := g6
 have HB : Hid (Blk5 W b (.slice (some ⟨tb, off, none⟩) n c) (.int .i64 (i : Int)) (.int .i64 d) (.int .i64 pa) (.int .i64 why)) := g6
 obtain ⟨hz, ⟨b0, b1, b2, b3, b4⟩, f0, f1, f2, f3, f4⟩ := hB
 have HR : Hid (Rp w0 b W ts d pa why) := ⟨h1, h2, h3, h4, h5, h6, h7, tb, off, c, n, i, all, g1, g2, g3, g4, g5, g6⟩
 have HG : Hid (RdT w0 (.slice (some ⟨tb, off, none⟩) n c) all ∧ all.length = n ∧ n ≤ 400 ∧ i < n ∧ all.drop i = ts ∧ ts.length = n - i ∧ w0.heap.size ≤ b ∧ Ext w0 W) := ⟨g1, g2, g3, g4, g5, hlen, h2, h1⟩
 have hin : i < n := g4
 have hn4 : n ≤ 400 := g3
 clear h1 h2 h3 h4 h5 h6 h7 g1 g2 g3 g4 g5 g6 hlen
 by_cases hc : (i : Int) < (n : Int) - 1
 · go_enter Try.func95, Try.ntmps95
   go_wp2_with fail
   go_region
   go_wp2_with fail
   go_end0
   refine ⟨rfl, ?_, ?_⟩
   · obtain ⟨q1, q2, q3, q4, q5, q6, q7, q8⟩ := HG.out
     obtain ⟨r1, r2, r3, r4, r5, r6, r7, _⟩ := HR.out
     have hnx : nx ts = all.drop (i + 1) := by
       have : nx ts = ts.tail := if_pos (by omega)
       rw [this, ← q5, List.tail_drop]
     rw [hnx]
     refine ⟨?_, q7, ?_, ?_, ?_, r6, r7, tb, off, c, n, i + 1, all, q1, q2, q3, by omega, rfl, ?_⟩
     · exact (q8.setCell q7 _).drew
     · rw [← hnx]; exact nx_nz r3
     · rw [List.length_drop]; omega
     · intro t ht; exact r5 t (by rw [← q5]; rw [← List.tail_drop] at ht; exact List.mem_of_mem_tail ht)
     · exact ((HB.out.put1 _).ext (Ext.refl _)).dr
   · exact ((ExtB.refl b W).set (.inl rfl) _).drew
 · go_enter Try.func95, Try.ntmps95
   go_wp2_with fail
   go_region
   go_wp2_with fail
   go_end0
   refine ⟨rfl, ?_, ?_⟩
   · have hnx : nx ts = ts := if_neg (by have := HG.out.2.2.2.2.2.1; omega)
     rw [hnx]
     exact HR.out.ext (Ext.refl _).drew
   · exact (ExtB.refl b W).drew
set_option maxRecDepth 100000 in
theorem rbad_any {w0 W : World} {b : Nat} {ts : List Tk} {d pa why : Int} (h : Rp w0 b W ts d pa why) (f : Int) : Calls Try.prog 64 #[.pointer (some ⟨b, 0, none⟩), .int .i64 f] W fun e w' => e = .returned (.tuple #[]) ∧ Rp w0 b w' ts d (if why = 0 then (hd ts).2.1 else pa) (if why = 0 then f else why) ∧ ExtB b W w' := by
 have HR : Hid (Rp w0 b W ts d pa why) := h
 have c1 := fun V e => rt_any (h.ext (W' := V) e)
 obtain ⟨h1, h2, h3, h4, h5, h6, h7, tb, off, c, n, i, all, g1, g2, g3, g4, g5, g6⟩ := h
 have HB : Hid (Blk5 W b (.slice (some ⟨tb, off, none⟩) n c) (.int .i64 (i : Int)) (.int .i64 d) (.int .i64 pa) (.int .i64 why)) := g6
 have HG : Hid (w0.heap.size ≤ b ∧ Nz ts ∧ ts.length ≤ 400 ∧ (∀ t ∈ ts, Kd t) ∧ (-1000 ≤ d ∧ d ≤ 1000) ∧ RdT w0 (.slice (some ⟨tb, off, none⟩) n c) all ∧ all.length = n ∧ n ≤ 400 ∧ i < n ∧ all.drop i = ts) := ⟨h2, h3, h4, h5, ⟨h6, h7⟩, g1, g2, g3, g4, g5⟩
 obtain ⟨hz, ⟨b0, b1, b2, b3, b4⟩, f0, f1, f2, f3, f4⟩ := g6
 clear h1 h2 h3 h4 h5 h6 h7 g1 g2 g3 g4 g5
 by_cases hw : why = 0
 · have w0' : (why == 0) = true := by rw [hw]; rfl
   rw [if_pos hw, if_pos hw]
   unfold tkA at c1
   have kf1 := fun W => tkf1 (hd ts) W
   obtain ⟨ta, hta⟩ : ∃ ta, (hd ts).2.1 = ta := ⟨_, rfl⟩
   rw [hta] at c1 kf1 ⊢
   clear hw hta
   go_enter Try.func64, Try.ntmps64
   go_wp2_with fail
   refine (c1 _ (Ext.refl _)).mono ?_
   rintro e w1 ⟨rfl, E1⟩
   have HB1 : Hid (Blk5 w1 b (.slice (some ⟨tb, off, none⟩) n c) (.int .i64 (i : Int)) (.int .i64 d) (.int .i64 pa) (.int .i64 why) ∧ Ext w0 w1 ∧ Ext W w1) := ⟨HB.out.ext E1, HR.out.1.trans E1, E1⟩
   clear E1 b0 b1 b2 b3 b4 f0 f1 f2 f3 f4
   obtain ⟨hz1, ⟨b0, b1, b2, b3, b4⟩, f0, f1, f2, f3, f4⟩ := HB1.out.1
   go_wp2_with fail
   go_end0
   obtain ⟨q1, q2, q3, q4, ⟨q5, q6⟩, q7⟩ := HG.out
   refine ⟨rfl, ⟨(HB1.out.2.1.setCell q1 _).setCell q1 _, q1, q2, q3, q4, q5, q6, tb, off, c, n, i, all, q7.1, q7.2.1, q7.2.2.1, q7.2.2.2.1, q7.2.2.2.2, (HB1.out.1.put3 _).put4 _⟩, ((HB1.out.2.2.toB b).set (.inl rfl) _).set (.inl rfl) _⟩
 · have w0' : (why == 0) = false := by simpa using hw
   rw [if_neg hw, if_neg hw]
   clear hw c1
   go_enter Try.func64, Try.ntmps64
   go_wp2_with fail
   go_end0
   exact ⟨rfl, HR.out, ExtB.refl b W⟩
/-- The sign that comes next, as it is told. -/
def sgn (ts : List Tk) (why : Int) : List UInt8 := if why = 0 ∧ (hd ts).1 = 3 then (hd ts).2.2.1 else []
set_option maxRecDepth 100000 in
theorem rsign_any {w0 W : World} {b : Nat} {ts : List Tk} {d pa why : Int} (h : Rp w0 b W ts d pa why) : Calls Try.prog 94 #[.pointer (some ⟨b, 0, none⟩)] W fun e w' => e = .returned (.string (bs (sgn ts why))) ∧ Ext W w' := by
 have c1 := fun V e => rt_any (h.ext (W' := V) e)
 unfold tkA at c1
 obtain ⟨h1, h2, h3, h4, h5, h6, h7, tb, off, c, n, i, all, g1, g2, g3, g4, g5, g6⟩ := h
 obtain ⟨hz, ⟨b0, b1, b2, b3, b4⟩, f0, f1, f2, f3, f4⟩ := g6
 clear h1 h2 h3 h4 h5 h6 h7 g1 g2 g3 g4 g5
 by_cases hw : why = 0
 · have w0' : (why == 0) = true := by rw [hw]; rfl
   by_cases hk : (hd ts).1 = 3
   · have k3 : ((hd ts).1 == 3) = true := by rw [hk]; rfl
     have HX : Hid (sgn ts why = (hd ts).2.2.1) := if_pos ⟨hw, hk⟩
     clear hw hk
     have kf0 := fun W => tkf0 (hd ts) W
     have kf2 := fun W => tkf2 (hd ts) W
     generalize hd ts = t at *
     go_enter Try.func94, Try.ntmps94
     go_wp2_with fail
     refine (c1 _ (Ext.refl _)).mono ?_
     rintro e w1 ⟨rfl, E1⟩
     have HE1 : Hid (Ext W w1) := E1
     clear E1
     go_wp2_with fail
     refine (c1 _ HE1.out).mono ?_
     rintro e w2 ⟨rfl, E2⟩
     have HE2 : Hid (Ext W w2) := HE1.out.trans E2
     clear E2
     go_wp2_with fail
     go_ret
     exact ⟨ret_s (by rw [HX.out]), HE2.out⟩
   · have k3 : ((hd ts).1 == 3) = false := by simpa using hk
     have HX : Hid (sgn ts why = []) := if_neg (fun h => hk h.2)
     clear hw hk
     have kf0 := fun W => tkf0 (hd ts) W
     have kf2 := fun W => tkf2 (hd ts) W
     generalize hd ts = t at *
     go_enter Try.func94, Try.ntmps94
     go_wp2_with fail
     refine (c1 _ (Ext.refl _)).mono ?_
     rintro e w1 ⟨rfl, E1⟩
     have HE1 : Hid (Ext W w1) := E1
     clear E1
     go_wp2_with fail
     go_ret
     exact ⟨ret_s (by rw [HX.out]; rfl), HE1.out⟩
 · have w0' : (why == 0) = false := by simpa using hw
   have HX : Hid (sgn ts why = []) := if_neg (fun h => hw h.1)
   clear hw c1
   go_enter Try.func94, Try.ntmps94
   go_wp2_with fail
   go_ret
   exact ⟨ret_s (by rw [HX.out]; rfl), Ext.refl _⟩
/-- What want leaves. -/
def RpW (w0 : World) (b : Nat) (W : World) (s : List UInt8) (ts : List Tk) (d pa why : Int) (e : Ending) (w' : World) : Prop := e = .returned (.tuple #[]) ∧ ExtB b W w' ∧
 ((sgn ts why = s ∧ Rp w0 b w' (nx ts) d pa why) ∨ (sgn ts why ≠ s ∧ ∃ pa' why', why' ≠ 0 ∧ Rp w0 b w' ts d pa' why'))
set_option maxRecDepth 100000 in
theorem rwant_any {w0 W : World} {b : Nat} {ts : List Tk} {d pa why : Int} (h : Rp w0 b W ts d pa why) (s : ByteArray) : Calls Try.prog 113 #[.pointer (some ⟨b, 0, none⟩), .string s] W (RpW w0 b W s.data.toList ts d pa why) := by
 have HR : Hid (Rp w0 b W ts d pa why) := h
 have c1 := rsign_any h
 have hq : ((bs (sgn ts why)).toList == s.toList) = decide (sgn ts why = s.data.toList) := by
   rw [bs_tl, ByteArray.toList_eq]
   by_cases hh : sgn ts why = s.data.toList <;> simp [hh]
 obtain ⟨sg, hsg⟩ : ∃ sg, sgn ts why = sg := ⟨_, rfl⟩
 rw [hsg] at c1 hq
 have HS : Hid (sgn ts why = sg) := hsg
 generalize bs sg = q at *
 clear h hsg
 by_cases he : sg = s.data.toList
 · rw [decide_eq_true he] at hq
   have HE : Hid (sg = s.data.toList) := he
   clear he
   go_enter Try.func113, Try.ntmps113
   go_wp2_with fail
   refine c1.mono ?_
   rintro e w1 ⟨rfl, E1⟩
   have HE1 : Hid (Ext W w1) := E1
   clear E1 c1
   go_wp2_with fail
   refine (rnext_any (HR.out.ext HE1.out)).mono ?_
   rintro e w2 ⟨rfl, R2, X2⟩
   have H2 : Hid (Rp w0 b w2 (nx ts) d pa why ∧ ExtB b W w2) := ⟨R2, (HE1.out.toB b).trans X2⟩
   clear R2 X2
   go_wp2_with fail
   go_end0
   exact ⟨rfl, H2.out.2, .inl ⟨HS.out.trans HE.out, H2.out.1⟩⟩
 · rw [decide_eq_false he] at hq
   have HE : Hid (sg ≠ s.data.toList) := he
   clear he
   go_enter Try.func113, Try.ntmps113
   go_wp2_with fail
   refine c1.mono ?_
   rintro e w1 ⟨rfl, E1⟩
   have HE1 : Hid (Ext W w1) := E1
   clear E1 c1
   go_wp2_with fail
   refine (rbad_any (HR.out.ext HE1.out) 4).mono ?_
   rintro e w2 ⟨rfl, R2, X2⟩
   have H2 : Hid (ExtB b W w2 ∧ ∃ pa' why', why' ≠ 0 ∧ Rp w0 b w2 ts d pa' why') := ⟨(HE1.out.toB b).trans X2, _, _, by split <;> omega, R2⟩
   clear R2 X2
   go_wp2_with fail
   go_end0
   exact ⟨rfl, H2.out.1, .inr ⟨by rw [HS.out]; exact HE.out, H2.out.2⟩⟩
/-- What going deeper leaves. -/
def RpD (w0 : World) (b : Nat) (W : World) (ts : List Tk) (d pa why : Int) (e : Ending) (w' : World) : Prop := e = .returned (.tuple #[]) ∧ ExtB b W w' ∧
 ((d + 1 ≤ 40 ∧ Rp w0 b w' ts (d + 1) pa why) ∨ (40 < d + 1 ∧ ∃ pa' why', why' ≠ 0 ∧ Rp w0 b w' ts (d + 1) pa' why'))
set_option maxRecDepth 100000 in
theorem rdown_any {w0 W : World} {b : Nat} {ts : List Tk} {d pa why : Int} (h : Rp w0 b W ts d pa why) (hd9 : d ≤ 900) : Calls Try.prog 112 #[.pointer (some ⟨b, 0, none⟩)] W (RpD w0 b W ts d pa why) := by
 obtain ⟨h1, h2, h3, h4, h5, h6, h7, tb, off, c, n, i, all, g1, g2, g3, g4, g5, g6⟩ := h
 have HB : Hid (Blk5 W b (.slice (some ⟨tb, off, none⟩) n c) (.int .i64 (i : Int)) (.int .i64 d) (.int .i64 pa) (.int .i64 why)) := g6
 have HR : Hid (Rp w0 b (W.setCell ⟨b, 2, none⟩ (.int .i64 (d + 1))) ts (d + 1) pa why ∧ ExtB b W (W.setCell ⟨b, 2, none⟩ (.int .i64 (d + 1)))) := ⟨⟨h1.setCell h2 _, h2, h3, h4, h5, by omega, by omega, tb, off, c, n, i, all, g1, g2, g3, g4, g5, g6.put2 _⟩, (ExtB.refl b W).set (.inl rfl) _⟩
 have HB2 : Hid (Blk5 (W.setCell ⟨b, 2, none⟩ (.int .i64 (d + 1))) b (.slice (some ⟨tb, off, none⟩) n c) (.int .i64 (i : Int)) (.int .i64 (d + 1)) (.int .i64 pa) (.int .i64 why)) := g6.put2 _
 obtain ⟨hz, ⟨b0, b1, b2, b3, b4⟩, f0, f1, f2, f3, f4⟩ := g6
 clear h1 h2 h3 h4 h5 g1 g2 g3 g4 g5
 by_cases hc : 40 < d + 1
 · go_enter Try.func112, Try.ntmps112
   go_wp2_with fail
   refine (rbad_any HR.out.1 2).mono ?_
   rintro e w2 ⟨rfl, R2, X2⟩
   have H2 : Hid (ExtB b W w2 ∧ ∃ pa' why', why' ≠ 0 ∧ Rp w0 b w2 ts (d + 1) pa' why') := ⟨HR.out.2.trans X2, _, _, by split <;> omega, R2⟩
   clear R2 X2
   go_wp2_with fail
   go_end0
   exact ⟨rfl, H2.out.1, .inr ⟨hc, H2.out.2⟩⟩
 · go_enter Try.func112, Try.ntmps112
   go_wp2_with fail
   go_end0
   exact ⟨rfl, HR.out.2, Or.inl (And.intro (by omega) HR.out.1)⟩
end Go.Proofs.Ytcggiljlilbdfaa
