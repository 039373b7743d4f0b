import Derived.Test.YtjhmbkdkjgjoaaaX7
import Derived.Test.YtjhmbkdkjgjoaaaX4
import Derived.Test.YtjhmbkdkjgjoaaaX12
import Derived.Defers
import Derived.Recover
import Derived.BigQuiet
import Derived.Deep.DeepCutAuto
import Derived.Deep.Light
import Derived.Deep.CutBlock
import Derived.Test.YtjhmbkdkjgjoaaaX13
import Derived.Test.YtjhmbkdkjgjoaaaX8
import Derived.Test.YtjhmbkdkjgjoaaaX9
namespace Go.Proofs.Ytjhmbkdkjgjoaaa
open Go.RowKit
set_option maxHeartbeats 1000000
theorem rdK_three (l : List UInt8) : rdK l = 0 ∨ rdK l = 1 ∨ rdK l = 2 := by
 unfold rdK; split
 · split <;> simp
 · simp
theorem numR_0 {l : List UInt8} (h : rdK (l.take (numE l)) = 0) : nuRL l = .error 4 := by unfold nuRL; rw [if_pos h]
theorem numR_2 {l : List UInt8} (h : rdK (l.take (numE l)) = 2) : nuRL l = .error 2 := by unfold nuRL; rw [if_neg (by omega), if_pos h]
theorem numR_1 {l : List UInt8} (h : rdK (l.take (numE l)) = 1) : nuRL l = .ok (0, [], rdV (l.take (numE l)), 0, numE l) := by unfold nuRL; rw [if_neg (by omega), if_neg (by omega)]
open Go.RowKit
set_option maxHeartbeats 1000000
open Go.RowKit
set_option maxHeartbeats 1000000
def St (w : World) (W : World) (v : Value) (acc : List Tk) : Prop := OwT W (w.heap.size + 2) v acc ∧ Ext w W ∧ w.heap.size + 2 ≤ W.heap.size ∧
 (W.cell? ⟨w.heap.size, 0, none⟩ = some v ∧ W.frozen? ⟨w.heap.size, 0, none⟩ = false) ∧
 (W.cell? ⟨w.heap.size + 1, 0, none⟩ = some (.int .i64 0) ∧ W.frozen? ⟨w.heap.size + 1, 0, none⟩ = false) ∧ W.cell? ⟨w.heap.size + 1, 1, none⟩ = some (.int .i64 0) ∧ W.frozen? ⟨w.heap.size + 1, 1, none⟩ = false
theorem St.ext {w W W' : World} {v : Value} {acc : List Tk} (h : St w W v acc) (e : Ext W W') : St w W' v acc := by
 obtain ⟨h1, h2, h3, ⟨a0, z0⟩, ⟨a1, z1⟩, a2, z2⟩ := h
 have k := e.cell
 exact ⟨h1.ext e, h2.trans e, Nat.le_trans h3 e.sz, ⟨(k.1 _ 0 (by omega)).trans a0, (k.2 _ 0 (by omega)).trans z0⟩, ⟨(k.1 _ 0 (by omega)).trans a1, (k.2 _ 0 (by omega)).trans z1⟩, (k.1 _ 1 (by omega)).trans a2, (k.2 _ 1 (by omega)).trans z2⟩
theorem St.more {w W W' : World} {v v' : Value} {acc : List Tk} {t : Tk} (h : St w W v acc) (k1 : OwT W' (w.heap.size + 2) v' (acc ++ [t])) (k2 : W.grownBy W' v.ownBlock) : St w (W'.setCell ⟨w.heap.size, 0, none⟩ v') v' (acc ++ [t]) := by
 obtain ⟨h1, h2, h3, ⟨a0, z0⟩, ⟨a1, z1⟩, a2, z2⟩ := h
 have c0 := grown_cell k2 (b := w.heap.size) (by omega) (h1.far (by omega)) 0
 have c1 := grown_cell k2 (b := w.heap.size + 1) (by omega) (h1.far (by omega)) 0
 have c2 := grown_cell k2 (b := w.heap.size + 1) (by omega) (h1.far (by omega)) 1
 have hs := k2.size
 refine ⟨k1.set (by simp) _, (grown_ext k2 h1 h2 (by omega)).setCell (Nat.le_refl _) _, by simp; omega, ⟨World.cell?_setCell_same _ _ _ (by rw [c0.1, a0]), ?_⟩, ⟨?_, ?_⟩, ?_, ?_⟩
 · rw [World.frozen?_setCell, c0.2, z0]
 · rw [World.cell?_setCell_far _ _ _ _ (by simp), c1.1, a1]
 · rw [World.frozen?_setCell, c1.2, z1]
 · rw [World.cell?_setCell_far _ _ _ _ (by simp), c2.1, a2]
 · rw [World.frozen?_setCell, c2.2, z2]
theorem map_nil {e : Type} (r : Except e (List Tk)) : r = r.map (fun ts => [] ++ ts) := by cases r <;> rfl
theorem W_at (l : List UInt8) (j : Nat) (h : j < l.length) (hc : ¬ l[j] = 32) : W j (l.drop j) = match nxt (l.drop j) with
   | .error e => .error (j, e)
   | .ok x => (W (j + x.2.2.2.2) (l.drop (j + x.2.2.2.2))).map (fun ts => tkOf x j :: ts) := by
 have e := W_cons j l[j] (l.drop (j + 1)) hc
 rw [← List.drop_eq_getElem_cons h] at e
 rw [e]
 cases nxt (l.drop j) with
 | error c => rfl
 | ok x => simp only [List.drop_drop]
theorem new_tk {W : World} {b : Nat} {t : Tk} {q : ByteArray} {T : TypeId} (hb : b = W.heap.size) (hq : bs t.2.2.1 = q) :
   ∀ j u, (flatT [t])[j]? = some u → (W.alloc (.cells #[.int .i64 t.1, .int .i64 t.2.1, .string q, .int .i64 t.2.2.2.1, .int .i64 t.2.2.2.2] T)).cell? ((⟨b, 0, none⟩ : Addr).add j) = some u := by
 subst hb hq
 intro j u hu
 rw [Addr.add_lit, cell_of_row _ _ _ _ _ (0, 0) (new_top W _), Nat.zero_add]
 rw [← hu, ← Array.getElem?_toList]; rfl
open Go.RowKit
set_option maxHeartbeats 1000000
def WordsQ (w : World) (l : List UInt8) (e : Ending) (w' : World) : Prop :=
 ∃ v, e = .returned (.tuple #[v, .int .i64 (lexR l).2.1, .int .i64 (lexR l).2.2]) ∧ RdT w' v (lexR l).1 ∧ Ext w w'
open Go.RowKit
set_option maxHeartbeats 1000000
theorem bs_tl (x : List UInt8) : (bs x).toList = x := by rw [ByteArray.toList_eq]; rfl
open Go.RowKit
set_option maxHeartbeats 4000000
def Kd (t : Tk) : Prop := t.2.2.1.length ≤ 300 ∧ 0 ≤ t.1 ∧ t.1 ≤ 5 ∧ (t.1 = 5 → t.2.2.1 = [])
def Rp (w0 : World) (b : Nat) (W : World) (ts : List Tk) (d pa why : Int) : Prop :=
 Ext w0 W ∧ w0.heap.size ≤ b ∧ Nz ts ∧ ts.length ≤ 400 ∧ (∀ t ∈ ts, Kd t) ∧ -1000 ≤ d ∧ d ≤ 1000 ∧
 ∃ (tb off c n i : Nat) (all : List Tk), RdT w0 (.slice (some ⟨tb, off, none⟩) n c) all ∧ all.length = n ∧ n ≤ 400 ∧ i < n ∧ all.drop i = ts ∧ Blk5 W b (.slice (some ⟨tb, off, none⟩) n c) (.int .i64 (i : Int)) (.int .i64 d) (.int .i64 pa) (.int .i64 why)
theorem Rp.ext {w0 W W' : World} {b : Nat} {ts : List Tk} {d pa why : Int} (h : Rp w0 b W ts d pa why) (e : Ext W W') : Rp w0 b W' ts d pa why := by
 obtain ⟨h1, h2, h3, h4, h5, h6, h7, tb, off, c, n, i, all, g1, g2, g3, g4, g5, g6⟩ := h
 exact ⟨h1.trans e, h2, h3, h4, h5, h6, h7, tb, off, c, n, i, all, g1, g2, g3, g4, g5, g6.ext e⟩
def tkA (t : Tk) : Value := .agg #[.int .i64 t.1, .int .i64 t.2.1, .string (bs t.2.2.1), .int .i64 t.2.2.2.1, .int .i64 t.2.2.2.2]
theorem tkf0 (t : Tk) (W : World) : (Instr.field 62 (.agg #[.int .i64 t.1, .int .i64 t.2.1, .string (bs t.2.2.1), .int .i64 t.2.2.2.1, .int .i64 t.2.2.2.2]) 0).run Try.prog W = .ok (.int .i64 t.1) W := by kernel_rfl
theorem tkf1 (t : Tk) (W : World) : (Instr.field 62 (.agg #[.int .i64 t.1, .int .i64 t.2.1, .string (bs t.2.2.1), .int .i64 t.2.2.2.1, .int .i64 t.2.2.2.2]) 1).run Try.prog W = .ok (.int .i64 t.2.1) W := by kernel_rfl
theorem tkf2 (t : Tk) (W : World) : (Instr.field 62 (.agg #[.int .i64 t.1, .int .i64 t.2.1, .string (bs t.2.2.1), .int .i64 t.2.2.2.1, .int .i64 t.2.2.2.2]) 2).run Try.prog W = .ok (.string (bs t.2.2.1)) W := by kernel_rfl
set_option maxRecDepth 100000 in
theorem rt_any {w0 W : World} {b : Nat} {ts : List Tk} {d pa why : Int} (h : Rp w0 b W ts d pa why) : Calls Try.prog 20 #[.pointer (some ⟨b, 0, none⟩)] W fun e w' => e = .returned (tkA (hd ts)) ∧ Ext W w' := by
 obtain ⟨h1, h2, h3, h4, h5, h6, h7, tb, off, c, n, i, all, g1, g2, g3, g4, g5, g6⟩ := h
 obtain ⟨p, c', e1, e2⟩ := g1.form
 obtain ⟨b', off', t, e3, e4, _, e6⟩ := g1.at (k := i) (by omega)
 cases e3
 have ht : hd ts = t := by rw [← g5]; unfold hd; rw [List.headD_eq_head?_getD, List.head?_drop, e4]; rfl
 rw [ht]
 have htb : tb < w0.heap.size := by
   rcases g1 with ⟨h8, _⟩ | ⟨b2, o2, c2, q1, q2, q3, _⟩
   · cases h8
   · cases q1; exact q3
 have hc := e6 W h1
 obtain ⟨c0, c1, c2, c3, c4⟩ := hc
 have hin : (i : Int) < (n : Int) := by omega
 obtain ⟨hz, ⟨b0, b1, b2, b3, b4⟩, f0, f1, f2, f3, f4⟩ := g6
 have HW : Hid (tb < W.heap.size ∧ Ext w0 W) := ⟨Nat.lt_of_lt_of_le htb h1.sz, h1⟩
 have htW : tb < W.heap.size := HW.out.1
 clear h1 h2 h3 h4 h5 h6 h7 g1 g2 g4 g5 e1 e2 e4 e6 ht htb
 go_enter Try.func20, Try.ntmps20
 go_wp2_with fail
 go_region
 go_wp2_with fail
 have B9 := blk5_top (b := W.heap.size) rfl ((Ext.refl (W.alloc (.cells #[.int .i64 t.1, .int .i64 t.2.1, .string (bs t.2.2.1), .int .i64 t.2.2.2.1, .int .i64 t.2.2.2.2] 62))).drew)
 have E9 : Ext W (W.alloc (.cells #[.int .i64 t.1, .int .i64 t.2.1, .string (bs t.2.2.1), .int .i64 t.2.2.2.1, .int .i64 t.2.2.2.2] 62)).drew := ((Ext.refl _).alloc _).drew
 generalize (W.alloc (.cells #[.int .i64 t.1, .int .i64 t.2.1, .string (bs t.2.2.1), .int .i64 t.2.2.2.1, .int .i64 t.2.2.2.2] 62)).drew = W9 at *
 refine fin5 _ B9 rfl E9 (fun g0 g1 g2 g3 g4 => by simp [results, Try.results20, go_sem, g0, g1, g2, g3, g4]; rfl) (fun h => ⟨rfl, h⟩)
def nx (ts : List Tk) : List Tk := if 2 ≤ ts.length then ts.tail else ts
theorem nx_tail {ts : List Tk} (h : Nz ts) (h5 : (hd ts).1 ≠ 5) : nx ts = ts.tail := by
 have := (h.tail h5).2
 have h2 := (h.tail h5).1.pos
 exact if_pos (by omega)
theorem nx_nz {ts : List Tk} (h : Nz ts) : Nz (nx ts) := by
 unfold nx
 split
 · rename_i h2
   obtain ⟨pre, t, rfl, h1⟩ := h
   cases pre with
   | nil => simp at h2
   | cons a r => exact ⟨r, t, rfl, h1⟩
 · exact h
set_option maxRecDepth 100000 in
theorem rnext_any {w0 W : World} {b : Nat} {ts : List Tk} {d pa why : Int} (h : Rp w0 b W ts d pa why) : Calls Try.prog 36 #[.pointer (some ⟨b, 0, none⟩)] W fun e w' => e = .returned (.tuple #[]) ∧ Rp w0 b w' (nx ts) d pa why ∧ ExtB b W w' := by
 obtain ⟨h1, h2, h3, h4, h5, h6, h7, tb, off, c, n, i, all, g1, g2, g3, g4, g5, g6⟩ := h
 have hlen : ts.length = n - i := by rw [← g5, List.length_drop, g2]
 have hB : Blk5 W b (.slice (some ⟨tb, off, none⟩) n c) (.int .i64 (i : Int)) (.int .i64 d) (.int .i64 pa) (.int .i64 why) := g6
 have HB : Hid (Blk5 W b (.slice (some ⟨tb, off, none⟩) n c) (.int .i64 (i : Int)) (.int .i64 d) (.int .i64 pa) (.int .i64 why)) := g6
 obtain ⟨hz, ⟨b0, b1, b2, b3, b4⟩, f0, f1, f2, f3, f4⟩ := hB
 have HR : Hid (Rp w0 b W ts d pa why) := ⟨h1, h2, h3, h4, h5, h6, h7, tb, off, c, n, i, all, g1, g2, g3, g4, g5, g6⟩
 have HG : Hid (RdT w0 (.slice (some ⟨tb, off, none⟩) n c) all ∧ all.length = n ∧ n ≤ 400 ∧ i < n ∧ all.drop i = ts ∧ ts.length = n - i ∧ w0.heap.size ≤ b ∧ Ext w0 W) := ⟨g1, g2, g3, g4, g5, hlen, h2, h1⟩
 have hin : i < n := g4
 have hn4 : n ≤ 400 := g3
 clear h1 h2 h3 h4 h5 h6 h7 g1 g2 g3 g4 g5 g6 hlen
 by_cases hc : (i : Int) < (n : Int) - 1
 · go_enter Try.func36, Try.ntmps36
   go_wp2_with fail
   go_region
   go_wp2_with fail
   go_end0
   refine ⟨rfl, ?_, ?_⟩
   · obtain ⟨q1, q2, q3, q4, q5, q6, q7, q8⟩ := HG.out
     obtain ⟨r1, r2, r3, r4, r5, r6, r7, _⟩ := HR.out
     have hnx : nx ts = all.drop (i + 1) := by
       have : nx ts = ts.tail := if_pos (by omega)
       rw [this, ← q5, List.tail_drop]
     rw [hnx]
     refine ⟨?_, q7, ?_, ?_, ?_, r6, r7, tb, off, c, n, i + 1, all, q1, q2, q3, by omega, rfl, ?_⟩
     · exact (q8.setCell q7 _).drew
     · rw [← hnx]; exact nx_nz r3
     · rw [List.length_drop]; omega
     · intro t ht; exact r5 t (by rw [← q5]; rw [← List.tail_drop] at ht; exact List.mem_of_mem_tail ht)
     · exact ((HB.out.put1 _).ext (Ext.refl _)).dr
   · exact ((ExtB.refl b W).set (.inl rfl) _).drew
 · go_enter Try.func36, Try.ntmps36
   go_wp2_with fail
   go_region
   go_wp2_with fail
   go_end0
   refine ⟨rfl, ?_, ?_⟩
   · have hnx : nx ts = ts := if_neg (by have := HG.out.2.2.2.2.2.1; omega)
     rw [hnx]
     exact HR.out.ext (Ext.refl _).drew
   · exact (ExtB.refl b W).drew
set_option maxRecDepth 100000 in
theorem rbad_any {w0 W : World} {b : Nat} {ts : List Tk} {d pa why : Int} (h : Rp w0 b W ts d pa why) (f : Int) : Calls Try.prog 21 #[.pointer (some ⟨b, 0, none⟩), .int .i64 f] W fun e w' => e = .returned (.tuple #[]) ∧ Rp w0 b w' ts d (if why = 0 then (hd ts).2.1 else pa) (if why = 0 then f else why) ∧ ExtB b W w' := by
 have HR : Hid (Rp w0 b W ts d pa why) := h
 have c1 := fun V e => rt_any (h.ext (W' := V) e)
 obtain ⟨h1, h2, h3, h4, h5, h6, h7, tb, off, c, n, i, all, g1, g2, g3, g4, g5, g6⟩ := h
 have HB : Hid (Blk5 W b (.slice (some ⟨tb, off, none⟩) n c) (.int .i64 (i : Int)) (.int .i64 d) (.int .i64 pa) (.int .i64 why)) := g6
 have HG : Hid (w0.heap.size ≤ b ∧ Nz ts ∧ ts.length ≤ 400 ∧ (∀ t ∈ ts, Kd t) ∧ (-1000 ≤ d ∧ d ≤ 1000) ∧ RdT w0 (.slice (some ⟨tb, off, none⟩) n c) all ∧ all.length = n ∧ n ≤ 400 ∧ i < n ∧ all.drop i = ts) := ⟨h2, h3, h4, h5, ⟨h6, h7⟩, g1, g2, g3, g4, g5⟩
 obtain ⟨hz, ⟨b0, b1, b2, b3, b4⟩, f0, f1, f2, f3, f4⟩ := g6
 clear h1 h2 h3 h4 h5 h6 h7 g1 g2 g3 g4 g5
 by_cases hw : why = 0
 · have w0' : (why == 0) = true := by rw [hw]; rfl
   rw [if_pos hw, if_pos hw]
   unfold tkA at c1
   have kf1 := fun W => tkf1 (hd ts) W
   obtain ⟨ta, hta⟩ : ∃ ta, (hd ts).2.1 = ta := ⟨_, rfl⟩
   rw [hta] at c1 kf1 ⊢
   clear hw hta
   go_enter Try.func21, Try.ntmps21
   go_wp2_with fail
   refine (c1 _ (Ext.refl _)).mono ?_
   rintro e w1 ⟨rfl, E1⟩
   have HB1 : Hid (Blk5 w1 b (.slice (some ⟨tb, off, none⟩) n c) (.int .i64 (i : Int)) (.int .i64 d) (.int .i64 pa) (.int .i64 why) ∧ Ext w0 w1 ∧ Ext W w1) := ⟨HB.out.ext E1, HR.out.1.trans E1, E1⟩
   clear E1 b0 b1 b2 b3 b4 f0 f1 f2 f3 f4
   obtain ⟨hz1, ⟨b0, b1, b2, b3, b4⟩, f0, f1, f2, f3, f4⟩ := HB1.out.1
   go_wp2_with fail
   go_end0
   obtain ⟨q1, q2, q3, q4, ⟨q5, q6⟩, q7⟩ := HG.out
   refine ⟨rfl, ⟨(HB1.out.2.1.setCell q1 _).setCell q1 _, q1, q2, q3, q4, q5, q6, tb, off, c, n, i, all, q7.1, q7.2.1, q7.2.2.1, q7.2.2.2.1, q7.2.2.2.2, (HB1.out.1.put3 _).put4 _⟩, ((HB1.out.2.2.toB b).set (.inl rfl) _).set (.inl rfl) _⟩
 · have w0' : (why == 0) = false := by simpa using hw
   rw [if_neg hw, if_neg hw]
   clear hw c1
   go_enter Try.func21, Try.ntmps21
   go_wp2_with fail
   go_end0
   exact ⟨rfl, HR.out, ExtB.refl b W⟩
def sgn (ts : List Tk) (why : Int) : List UInt8 := if why = 0 ∧ (hd ts).1 = 3 then (hd ts).2.2.1 else []
set_option maxRecDepth 100000 in
theorem rsign_any {w0 W : World} {b : Nat} {ts : List Tk} {d pa why : Int} (h : Rp w0 b W ts d pa why) : Calls Try.prog 35 #[.pointer (some ⟨b, 0, none⟩)] W fun e w' => e = .returned (.string (bs (sgn ts why))) ∧ Ext W w' := by
 have c1 := fun V e => rt_any (h.ext (W' := V) e)
 unfold tkA at c1
 obtain ⟨h1, h2, h3, h4, h5, h6, h7, tb, off, c, n, i, all, g1, g2, g3, g4, g5, g6⟩ := h
 obtain ⟨hz, ⟨b0, b1, b2, b3, b4⟩, f0, f1, f2, f3, f4⟩ := g6
 clear h1 h2 h3 h4 h5 h6 h7 g1 g2 g3 g4 g5
 by_cases hw : why = 0
 · have w0' : (why == 0) = true := by rw [hw]; rfl
   by_cases hk : (hd ts).1 = 3
   · have k3 : ((hd ts).1 == 3) = true := by rw [hk]; rfl
     have HX : Hid (sgn ts why = (hd ts).2.2.1) := if_pos ⟨hw, hk⟩
     clear hw hk
     have kf0 := fun W => tkf0 (hd ts) W
     have kf2 := fun W => tkf2 (hd ts) W
     generalize hd ts = t at *
     go_enter Try.func35, Try.ntmps35
     go_wp2_with fail
     refine (c1 _ (Ext.refl _)).mono ?_
     rintro e w1 ⟨rfl, E1⟩
     have HE1 : Hid (Ext W w1) := E1
     clear E1
     go_wp2_with fail
     refine (c1 _ HE1.out).mono ?_
     rintro e w2 ⟨rfl, E2⟩
     have HE2 : Hid (Ext W w2) := HE1.out.trans E2
     clear E2
     go_wp2_with fail
     go_ret
     exact ⟨ret_s (by rw [HX.out]), HE2.out⟩
   · have k3 : ((hd ts).1 == 3) = false := by simpa using hk
     have HX : Hid (sgn ts why = []) := if_neg (fun h => hk h.2)
     clear hw hk
     have kf0 := fun W => tkf0 (hd ts) W
     have kf2 := fun W => tkf2 (hd ts) W
     generalize hd ts = t at *
     go_enter Try.func35, Try.ntmps35
     go_wp2_with fail
     refine (c1 _ (Ext.refl _)).mono ?_
     rintro e w1 ⟨rfl, E1⟩
     have HE1 : Hid (Ext W w1) := E1
     clear E1
     go_wp2_with fail
     go_ret
     exact ⟨ret_s (by rw [HX.out]; rfl), HE1.out⟩
 · have w0' : (why == 0) = false := by simpa using hw
   have HX : Hid (sgn ts why = []) := if_neg (fun h => hw h.1)
   clear hw c1
   go_enter Try.func35, Try.ntmps35
   go_wp2_with fail
   go_ret
   exact ⟨ret_s (by rw [HX.out]; rfl), Ext.refl _⟩
def RpW (w0 : World) (b : Nat) (W : World) (s : List UInt8) (ts : List Tk) (d pa why : Int) (e : Ending) (w' : World) : Prop := e = .returned (.tuple #[]) ∧ ExtB b W w' ∧
 ((sgn ts why = s ∧ Rp w0 b w' (nx ts) d pa why) ∨ (sgn ts why ≠ s ∧ ∃ pa' why', why' ≠ 0 ∧ Rp w0 b w' ts d pa' why'))
set_option maxRecDepth 100000 in
theorem rwant_any {w0 W : World} {b : Nat} {ts : List Tk} {d pa why : Int} (h : Rp w0 b W ts d pa why) (s : ByteArray) : Calls Try.prog 56 #[.pointer (some ⟨b, 0, none⟩), .string s] W (RpW w0 b W s.data.toList ts d pa why) := by
 have HR : Hid (Rp w0 b W ts d pa why) := h
 have c1 := rsign_any h
 have hq : ((bs (sgn ts why)).toList == s.toList) = decide (sgn ts why = s.data.toList) := by
   rw [bs_tl, ByteArray.toList_eq]
   by_cases hh : sgn ts why = s.data.toList <;> simp [hh]
 obtain ⟨sg, hsg⟩ : ∃ sg, sgn ts why = sg := ⟨_, rfl⟩
 rw [hsg] at c1 hq
 have HS : Hid (sgn ts why = sg) := hsg
 generalize bs sg = q at *
 clear h hsg
 by_cases he : sg = s.data.toList
 · rw [decide_eq_true he] at hq
   have HE : Hid (sg = s.data.toList) := he
   clear he
   go_enter Try.func56, Try.ntmps56
   go_wp2_with fail
   refine c1.mono ?_
   rintro e w1 ⟨rfl, E1⟩
   have HE1 : Hid (Ext W w1) := E1
   clear E1 c1
   go_wp2_with fail
   refine (rnext_any (HR.out.ext HE1.out)).mono ?_
   rintro e w2 ⟨rfl, R2, X2⟩
   have H2 : Hid (Rp w0 b w2 (nx ts) d pa why ∧ ExtB b W w2) := ⟨R2, (HE1.out.toB b).trans X2⟩
   clear R2 X2
   go_wp2_with fail
   go_end0
   exact ⟨rfl, H2.out.2, .inl ⟨HS.out.trans HE.out, H2.out.1⟩⟩
 · rw [decide_eq_false he] at hq
   have HE : Hid (sg ≠ s.data.toList) := he
   clear he
   go_enter Try.func56, Try.ntmps56
   go_wp2_with fail
   refine c1.mono ?_
   rintro e w1 ⟨rfl, E1⟩
   have HE1 : Hid (Ext W w1) := E1
   clear E1 c1
   go_wp2_with fail
   refine (rbad_any (HR.out.ext HE1.out) 4).mono ?_
   rintro e w2 ⟨rfl, R2, X2⟩
   have H2 : Hid (ExtB b W w2 ∧ ∃ pa' why', why' ≠ 0 ∧ Rp w0 b w2 ts d pa' why') := ⟨(HE1.out.toB b).trans X2, _, _, by split <;> omega, R2⟩
   clear R2 X2
   go_wp2_with fail
   go_end0
   exact ⟨rfl, H2.out.1, .inr ⟨by rw [HS.out]; exact HE.out, H2.out.2⟩⟩
def RpD (w0 : World) (b : Nat) (W : World) (ts : List Tk) (d pa why : Int) (e : Ending) (w' : World) : Prop := e = .returned (.tuple #[]) ∧ ExtB b W w' ∧
 ((d + 1 ≤ 40 ∧ Rp w0 b w' ts (d + 1) pa why) ∨ (40 < d + 1 ∧ ∃ pa' why', why' ≠ 0 ∧ Rp w0 b w' ts (d + 1) pa' why'))
set_option maxRecDepth 100000 in
theorem rdown_any {w0 W : World} {b : Nat} {ts : List Tk} {d pa why : Int} (h : Rp w0 b W ts d pa why) (hd9 : d ≤ 900) : Calls Try.prog 55 #[.pointer (some ⟨b, 0, none⟩)] W (RpD w0 b W ts d pa why) := by
 obtain ⟨h1, h2, h3, h4, h5, h6, h7, tb, off, c, n, i, all, g1, g2, g3, g4, g5, g6⟩ := h
 have HB : Hid (Blk5 W b (.slice (some ⟨tb, off, none⟩) n c) (.int .i64 (i : Int)) (.int .i64 d) (.int .i64 pa) (.int .i64 why)) := g6
 have HR : Hid (Rp w0 b (W.setCell ⟨b, 2, none⟩ (.int .i64 (d + 1))) ts (d + 1) pa why ∧ ExtB b W (W.setCell ⟨b, 2, none⟩ (.int .i64 (d + 1)))) := ⟨⟨h1.setCell h2 _, h2, h3, h4, h5, by omega, by omega, tb, off, c, n, i, all, g1, g2, g3, g4, g5, g6.put2 _⟩, (ExtB.refl b W).set (.inl rfl) _⟩
 have HB2 : Hid (Blk5 (W.setCell ⟨b, 2, none⟩ (.int .i64 (d + 1))) b (.slice (some ⟨tb, off, none⟩) n c) (.int .i64 (i : Int)) (.int .i64 (d + 1)) (.int .i64 pa) (.int .i64 why)) := g6.put2 _
 obtain ⟨hz, ⟨b0, b1, b2, b3, b4⟩, f0, f1, f2, f3, f4⟩ := g6
 clear h1 h2 h3 h4 h5 g1 g2 g3 g4 g5
 by_cases hc : 40 < d + 1
 · go_enter Try.func55, Try.ntmps55
   go_wp2_with fail
   refine (rbad_any HR.out.1 2).mono ?_
   rintro e w2 ⟨rfl, R2, X2⟩
   have H2 : Hid (ExtB b W w2 ∧ ∃ pa' why', why' ≠ 0 ∧ Rp w0 b w2 ts (d + 1) pa' why') := ⟨HR.out.2.trans X2, _, _, by split <;> omega, R2⟩
   clear R2 X2
   go_wp2_with fail
   go_end0
   exact ⟨rfl, H2.out.1, .inr ⟨hc, H2.out.2⟩⟩
 · go_enter Try.func55, Try.ntmps55
   go_wp2_with fail
   go_end0
   exact ⟨rfl, HR.out.2, Or.inl (And.intro (by omega) HR.out.1)⟩
open Go.RowKit
set_option maxHeartbeats 6000000
theorem IsL.two {P : Nat → Prop} {W : World} {x y : T} {lx ly : Value} (hx : IsL W P lx x.l) (hy : IsL W P ly y.l) (hP : P W.heap.size) :
   IsL (W.alloc (.cells #[.int .i64 x.k, .int .i64 x.n, .string (bs x.s), .int .i64 x.e, .int .i64 x.r.1, .int .i64 x.r.2.1, .bool x.r.2.2.1, .bool x.r.2.2.2, .int .i64 x.q.1, .int .i64 x.q.2.1, .bool x.q.2.2.1, .bool x.q.2.2.2, lx, .int .i64 y.k, .int .i64 y.n, .string (bs y.s), .int .i64 y.e, .int .i64 y.r.1, .int .i64 y.r.2.1, .bool y.r.2.2.1, .bool y.r.2.2.2, .int .i64 y.q.1, .int .i64 y.q.2.1, .bool y.q.2.2.1, .bool y.q.2.2.2, ly] 29)) P (.slice (some ⟨W.heap.size, 0, none⟩) 2 2) [x, y] := by
 refine .mk W.heap.size 0 2 2 [x, y] (fun i => if i = 0 then lx else ly) rfl (Nat.le_refl _) hP (by simp) ?_ ?_
 · intro i t j u hi hj
   rw [cell_of_row _ _ _ _ _ (0, 0) (new_top W _), Nat.zero_add, ← Array.getElem?_toList]
   have e : (#[.int .i64 x.k, .int .i64 x.n, .string (bs x.s), .int .i64 x.e, .int .i64 x.r.1, .int .i64 x.r.2.1, .bool x.r.2.2.1, .bool x.r.2.2.2, .int .i64 x.q.1, .int .i64 x.q.2.1, .bool x.q.2.2.1, .bool x.q.2.2.2, lx, .int .i64 y.k, .int .i64 y.n, .string (bs y.s), .int .i64 y.e, .int .i64 y.r.1, .int .i64 y.r.2.1, .bool y.r.2.2.1, .bool y.r.2.2.2, .int .i64 y.q.1, .int .i64 y.q.2.1, .bool y.q.2.2.1, .bool y.q.2.2.2, ly] : Array Value).toList = cellsT x lx ++ cellsT y ly := rfl
   rw [e]
   match i with
   | 0 =>
     simp at hi
     subst hi
     have hl : j < (cellsT x lx).length := (List.getElem?_eq_some_iff.mp hj).1
     rw [Nat.zero_mul, Nat.zero_add, List.getElem?_append_left hl]
     exact hj
   | 1 =>
     simp at hi
     subst hi
     rw [List.getElem?_append_right (by rw [cellsT_length]; omega), cellsT_length, show 1 * 13 + j - 13 = j by omega]
     exact hj
   | i + 2 => simp at hi
 · intro i t hi
   match i with
   | 0 => simp at hi; subst hi; exact hx.ext ((Ext.refl _).alloc _)
   | 1 => simp at hi; subst hi; exact hy.ext ((Ext.refl _).alloc _)
   | i + 2 => simp at hi
open Go.RowKit
set_option maxHeartbeats 6000000
def RX (w0 : World) (b : Nat) (W : World) (L : Nat) (lo d : Int) (r : Rs) (e : Ending) (w' : World) : Prop :=
 ExtB b W w' ∧ match r with
 | .ok a => (∃ lv, e = .returned (aggX a.1 lv) ∧ IsL w' (W.heap.size ≤ ·) lv a.1.l) ∧ ∃ pa, Rp w0 b w' a.2 d pa 0
 | .error _ => (∃ x p l c, e = .returned (aggX x (.slice p l c))) ∧ ∃ ts d' pa why, lo ≤ d' ∧ d' ≤ d ∧ why ≠ 0 ∧ ts.length ≤ L ∧ Rp w0 b w' ts d' pa why
theorem RX.cases {w0 W w' : World} {b L : Nat} {lo d : Int} {r : Rs} {e : Ending} (h : RX w0 b W L lo d r e w') :
   (∃ f x p l c ts d' pa why, r = .error f ∧ e = .returned (aggX x (.slice p l c)) ∧ lo ≤ d' ∧ d' ≤ d ∧ why ≠ 0 ∧ ts.length ≤ L ∧ Rp w0 b w' ts d' pa why ∧ ExtB b W w') ∨
   (∃ x ts p l c pa, r = .ok (x, ts) ∧ e = .returned (aggX x (.slice p l c)) ∧ IsL w' (W.heap.size ≤ ·) (.slice p l c) x.l ∧ Rp w0 b w' ts d pa 0 ∧ ExtB b W w') := by
 obtain ⟨h1, h2⟩ := h
 cases r with
 | error f =>
   obtain ⟨⟨x, p, l, c, he⟩, ts, d', pa, why, q1, q2, q3, q4, q5⟩ := h2
   exact .inl ⟨f, x, p, l, c, ts, d', pa, why, rfl, he, q1, q2, q3, q4, q5, h1⟩
 | ok a =>
   obtain ⟨⟨lv, he, hL⟩, pa, hR⟩ := h2
   obtain ⟨p, c, hf, _⟩ := hL.form
   subst hf
   exact .inr ⟨a.1, a.2, p, _, c, pa, rfl, he, hL, hR, h1⟩
theorem Rp.far {w0 W : World} {b g o : Nat} {ts : List Tk} {d pa why : Int} (h : Rp w0 b W ts d pa why) (hg : g ≠ b) (h0 : w0.heap.size ≤ g) (u : Value) : Rp w0 b (W.setCell ⟨g, o, none⟩ u) ts d pa why := by
 obtain ⟨h1, h2, h3, h4, h5, h6, h7, tb, off, c, n, i, all, g1, g2, g3, g4, g5, g6⟩ := h
 exact ⟨h1.setCell h0 _, h2, h3, h4, h5, h6, h7, tb, off, c, n, i, all, g1, g2, g3, g4, g5, g6.far1 hg _ _⟩
theorem putX_R {w0 W : World} {b g : Nat} {ts : List Tk} {d pa why : Int} (h : Rp w0 b W ts d pa why) (hg : g ≠ b) (h0 : w0.heap.size ≤ g) (t : T) (lv : Value) : Rp w0 b (putX W g t lv) ts d pa why := by
 unfold putX
 iterate 13 refine Rp.far ?_ hg h0 _
 exact h
def leftR (b : Nat) (w : World) : Nat := match w.cell? ⟨b, 0, none⟩, w.cell? ⟨b, 1, none⟩ with
 | some (.slice _ n _), some (.int _ i) => n - i.toNat
 | _, _ => 0
theorem Rp.left {w0 W : World} {b : Nat} {ts : List Tk} {d pa why : Int} (h : Rp w0 b W ts d pa why) : leftR b W = ts.length := by
 obtain ⟨h1, h2, h3, h4, h5, h6, h7, tb, off, c, n, i, all, g1, g2, g3, g4, g5, g6⟩ := h
 unfold leftR
 rw [g6.2.1.1, g6.2.1.2.1, ← g5, List.length_drop, g2]
 simp
theorem Rp.lt {w0 W : World} {b : Nat} {ts : List Tk} {d pa why : Int} (h : Rp w0 b W ts d pa why) : b < W.heap.size ∧ w0.heap.size ≤ b := by
 obtain ⟨h1, h2, h3, h4, h5, h6, h7, tb, off, c, n, i, all, g1, g2, g3, g4, g5, g6⟩ := h
 exact ⟨g6.1, h2⟩
theorem endR {fn : Func} {a : Act} {W : World} {g : Nat} {t : T} {lv : Value} {Q : Ending → World → Prop} (B : BlkX W g t lv) (hd : a.defers = []) (hQ : Q (.returned (aggX t lv)) W)
   (hr : W.cell? ⟨g, 0, none⟩ = some (.int .i64 t.k) → W.cell? ⟨g, 1, none⟩ = some (.int .i64 t.n) → W.cell? ⟨g, 2, none⟩ = some (.string (bs t.s)) → W.cell? ⟨g, 3, none⟩ = some (.int .i64 t.e) → W.cell? ⟨g, 4, none⟩ = some (.int .i64 t.r.1) → W.cell? ⟨g, 5, none⟩ = some (.int .i64 t.r.2.1) → W.cell? ⟨g, 6, none⟩ = some (.bool t.r.2.2.1) → W.cell? ⟨g, 7, none⟩ = some (.bool t.r.2.2.2) → W.cell? ⟨g, 8, none⟩ = some (.int .i64 t.q.1) → W.cell? ⟨g, 9, none⟩ = some (.int .i64 t.q.2.1) → W.cell? ⟨g, 10, none⟩ = some (.bool t.q.2.2.1) → W.cell? ⟨g, 11, none⟩ = some (.bool t.q.2.2.2) → W.cell? ⟨g, 12, none⟩ = some lv → (results fn a.tmps).run Try.prog W = .ok (aggX t lv) W) :
   bodyPost Try.prog fn Q .ret a W := by
 obtain ⟨z, ⟨k0, k1, k2, k3, k4, k5, k6, k7, k8, k9, k10, k11, k12⟩, f⟩ := B
 exact bodyPost_ret (hr k0 k1 k2 k3 k4 k5 k6 k7 k8 k9 k10 k11 k12) hd hQ
def RY (w0 : World) (b : Nat) (W : World) (L : Nat) (lo d : Int) (r : Rs) (x : T) (lv : Value) (w' : World) : Prop :=
 ExtB b W w' ∧ ((∃ ts pa, r = .ok (x, ts) ∧ IsL w' (W.heap.size ≤ ·) lv x.l ∧ Rp w0 b w' ts d pa 0) ∨ (∃ f ts d' pa why, r = .error f ∧ lo ≤ d' ∧ d' ≤ d ∧ why ≠ 0 ∧ ts.length ≤ L ∧ Rp w0 b w' ts d' pa why))
theorem RX.form {w0 W w' : World} {b L : Nat} {lo d : Int} {r : Rs} {e : Ending} (h : RX w0 b W L lo d r e w') : ∃ x p l c, e = .returned (aggX x (.slice p l c)) ∧ RY w0 b W L lo d r x (.slice p l c) w' := by
 rcases h.cases with ⟨f, x, p, l, c, ts1, d', pa1, why, hr, he, q1, q2, q3, q4, R1, X1⟩ | ⟨x, ts1, p, l, c, pa1, hr, he, hL, R1, X1⟩
 · exact ⟨x, p, l, c, he, X1, .inr ⟨f, ts1, d', pa1, why, hr, q1, q2, q3, q4, R1⟩⟩
 · exact ⟨x, p, l, c, he, X1, .inl ⟨ts1, pa1, hr, hL, R1⟩⟩
theorem RY.back {w0 W w' : World} {b L : Nat} {lo d : Int} {r : Rs} {x : T} {p : Option Addr} {l c : Nat} (h : RY w0 b W L lo d r x (.slice p l c) w') : RX w0 b W L lo d r (.returned (aggX x (.slice p l c))) w' := by
 obtain ⟨h1, ⟨ts, pa, rfl, hL, hR⟩ | ⟨f, ts, d', pa, why, rfl, q1, q2, q3, q4, q5⟩⟩ := h
 · exact ⟨h1, ⟨_, rfl, hL⟩, pa, hR⟩
 · exact ⟨h1, ⟨x, p, l, c, rfl⟩, ts, d', pa, why, q1, q2, q3, q4, q5⟩
theorem RY.put {w0 W V w' : World} {b L L' : Nat} {lo d : Int} {r : Rs} {x : T} {lv : Value} (h : RY w0 b V L lo d r x lv w') (hV : ExtB b W V) (hs : W.heap.size < V.heap.size) (hg : W.heap.size ≠ b) (h0 : w0.heap.size ≤ W.heap.size) (hL : L ≤ L') :
   RY w0 b W L' lo d r x lv (putX w' W.heap.size x lv) := by
 obtain ⟨h1, h2⟩ := h
 refine ⟨putX_B (hV.trans h1) (Nat.le_refl _) x lv, ?_⟩
 rcases h2 with ⟨ts, pa, hr, hl, hR⟩ | ⟨f, ts, d', pa, why, hr, q1, q2, q3, q4, q5⟩
 · exact .inl ⟨ts, pa, hr, hl.keep (by rw [putX_size]; exact Nat.le_refl _) (fun j hj hs => putX_heap _ _ _ _ _ (by omega)) (fun j hj _ => by omega), putX_R hR hg h0 _ _⟩
 · exact .inr ⟨f, ts, d', pa, why, hr, q1, q2, q3, by omega, putX_R q5 hg h0 _ _⟩
theorem Rp.deep {w0 W : World} {b : Nat} {ts : List Tk} {d pa why : Int} (h : Rp w0 b W ts d pa why) (hd9 : -900 ≤ d) : Rp w0 b (W.setCell ⟨b, 2, none⟩ (.int .i64 (d - 1))) ts (d - 1) pa why := by
 obtain ⟨h1, h2, h3, h4, h5, h6, h7, tb, off, c, n, i, all, g1, g2, g3, g4, g5, g6⟩ := h
 exact ⟨h1.setCell h2 _, h2, h3, h4, h5, by omega, by omega, tb, off, c, n, i, all, g1, g2, g3, g4, g5, g6.put2 _⟩
theorem Blk5.extB {b g : Nat} {w w' : World} {x0 x1 x2 x3 x4 : Value} (h : Blk5 w g x0 x1 x2 x3 x4) (e : ExtB b w w') (hg : g ≠ b) : Blk5 w' g x0 x1 x2 x3 x4 := by
 obtain ⟨h1, ⟨a0, a1, a2, a3, a4⟩, f0, f1, f2, f3, f4⟩ := h
 exact ⟨Nat.lt_of_lt_of_le h1 e.size, ⟨(e.cell h1 hg 0).1.trans a0, (e.cell h1 hg 1).1.trans a1, (e.cell h1 hg 2).1.trans a2, (e.cell h1 hg 3).1.trans a3, (e.cell h1 hg 4).1.trans a4⟩, (e.cell h1 hg 0).2.trans f0, (e.cell h1 hg 1).2.trans f1, (e.cell h1 hg 2).2.trans f2, (e.cell h1 hg 3).2.trans f3, (e.cell h1 hg 4).2.trans f4⟩
def PfC (w0 : World) (b n : Nat) : Prop := ∀ (W : World) (ts : List Tk) (d : Nat) (pa : Int), Rp w0 b W ts d pa 0 → ts.length ≤ n → d ≤ 40 → Calls Try.prog 33 #[.pointer (some ⟨b, 0, none⟩)] W (RX w0 b W ts.length (d - 1) d (O n d ts))
def ExC (w0 : World) (b n m : Nat) : Prop := ∀ (W : World) (ts : List Tk) (d : Nat) (pa : Int) (k : Nat), Rp w0 b W ts d pa 0 → ts.length ≤ m → d ≤ 40 → 1 ≤ k → k ≤ 5 → Calls Try.prog 19 #[.pointer (some ⟨b, 0, none⟩), .int .i64 (k : Int)] W (RX w0 b W ts.length (d - 1) d (LvK (O n) k d ts))
set_option maxRecDepth 100000 in
theorem exp_core (w0 : World) (b n m L dn k : Nat) (lo d : Int) (W : World) (r0 R : Rs) (hW0 : w0.heap.size ≤ W.heap.size) (hbW : b < W.heap.size) (hL : L ≤ m) (hm : m ≤ n) (hk5 : 1 ≤ k ∧ k ≤ 5)
   (c1 : ∀ V, Ext W V → Calls Try.prog 33 #[.pointer (some ⟨b, 0, none⟩)] V (RX w0 b V L lo d r0)) (hE : ∀ f, r0 = .error f → ∃ f, R = .error f)
   (hO : ∀ x ts1, r0 = .ok (x, ts1) → d = (dn : Int) ∧ dn ≤ 40 ∧ ts1.length ≤ L ∧ R = cl (O n) dn ts1.length k x ts1) (ih : (∃ a, r0 = .ok a) → lo ≤ d - 1 ∧ ∀ m', m' < m → ExC w0 b n m') :
   Calls Try.prog 19 #[.pointer (some ⟨b, 0, none⟩), .int .i64 (k : Int)] W (RX w0 b W L lo d R) := by
 have HN : Hid (L ≤ m ∧ m ≤ n ∧ 1 ≤ k ∧ k ≤ 5) := ⟨hL, hm, hk5⟩
 have HIH : Hid ((∃ a, r0 = .ok a) → lo ≤ d - 1 ∧ ∀ m', m' < m → ExC w0 b n m') := ih
 have HC1 : Hid (∀ V, Ext W V → Calls Try.prog 33 #[.pointer (some ⟨b, 0, none⟩)] V (RX w0 b V L lo d r0)) := c1
 have hgW : W.heap.size ≠ b := by omega
 have HW0 : Hid (w0.heap.size ≤ W.heap.size) := hW0
 have HER : Hid (∀ f, r0 = .error f → ∃ f, R = .error f) := hE
 have HOR : Hid (∀ x ts1, r0 = .ok (x, ts1) → d = (dn : Int) ∧ dn ≤ 40 ∧ ts1.length ≤ L ∧ R = cl (O n) dn ts1.length k x ts1) := hO
 have hk4 : k ≤ 5 := hk5.2
 clear hL hm hk5 ih c1 hE hO hW0
 go_enter Try.func19, Try.ntmps19
 go_wp2_with fail
 refine (HC1.out _ ((Ext.refl _).alloc _)).mono ?_
 intro e w1 h1
 obtain ⟨x, p, l, c, rfl, HJ⟩ : ∃ x p l c, e = .returned (aggX x (.slice p l c)) ∧ Hid (∃ us d' pa why, Rp w0 b w1 us d' pa why ∧ us.length ≤ L ∧ ((why = 0 ∧ d' = (dn : Int) ∧ d = (dn : Int) ∧ (dn ≤ 40 ∧ ∃ a, r0 = .ok a) ∧ IsL w1 (fun j => W.heap.size + 1 ≤ j ∧ j ≠ w1.heap.size) (.slice p l c) x.l ∧ R = cl (O n) dn us.length k x us) ∨ (why ≠ 0 ∧ lo ≤ d' ∧ d' ≤ d ∧ ∃ f, R = .error f))) := by
   rcases h1.cases with ⟨f, x, p, l, c, ts1, d', pa1, why, hr, he, q1, q2, q3, q4, R1, X1⟩ | ⟨x, ts1, p, l, c, pa1, hr, he, hL, R1, X1⟩
   · exact ⟨x, p, l, c, he, ts1, d', pa1, why, R1, q4, .inr ⟨q3, q1, q2, HER.out f hr⟩⟩
   · obtain ⟨o1, o2, o3, o4⟩ := HOR.out x ts1 hr
     exact ⟨x, p, l, c, he, ts1, d, pa1, 0, R1, o3, .inl ⟨rfl, o1, o1, ⟨o2, _, hr⟩, hL.mono (fun j hj hs => ⟨by simp at hj; exact hj, by omega⟩), o4⟩⟩
 have X1 := h1.1
 have hw1 : W.heap.size + 1 ≤ w1.heap.size := by have := X1.size; simp at this; omega
 have HB : Hid (BlkX w1 W.heap.size tz (.slice none 0 0) ∧ ExtB b W w1 ∧ W.heap.size + 1 ≤ w1.heap.size) := ⟨(BlkX.top rfl (Ext.refl _)).extB X1 hgW, ((ExtB.refl b W).alloc _).trans X1, hw1⟩
 have hg1 : w1.heap.size ≠ b := by omega
 clear h1 X1 HC1 HER HOR
 unfold aggX
 go_wp2_with fail
 go_loopw [6] (fun _ wr => ∃ x p l c us d' pa why, BlkX wr w1.heap.size x (.slice p l c) ∧ BlkX wr W.heap.size tz (.slice none 0 0) ∧ ExtB b W wr ∧ Rp w0 b wr us d' pa why ∧ us.length ≤ L ∧ ((why = 0 ∧ d' = (dn : Int) ∧ d = (dn : Int) ∧ (dn ≤ 40 ∧ ∃ a, r0 = .ok a) ∧ IsL wr (fun j => W.heap.size + 1 ≤ j ∧ j ≠ w1.heap.size) (.slice p l c) x.l ∧ R = cl (O n) dn us.length k x us) ∨ (why ≠ 0 ∧ lo ≤ d' ∧ d' ≤ d ∧ ∃ f, R = .error f))) (fun _ wr => leftR b wr)
 case atStart =>
   obtain ⟨us, d', pa, why, j1, j2, j3⟩ := HJ.out
   refine ⟨x, p, l, c, us, d', pa, why, blk13_top rfl (Ext.refl _), HB.out.1.ext ((Ext.refl _).alloc _), HB.out.2.1.alloc _, j1.ext ((Ext.refl _).alloc _), j2, ?_⟩
   rcases j3 with ⟨a1, a2, a6, a3, a4, a5⟩ | j3
   · exact .inl ⟨a1, a2, a6, a3, a4.ext ((Ext.refl _).alloc _), a5⟩
   · exact .inr j3
 case round =>
   clear HJ
   obtain ⟨x, p, l, c, us, d', pa, why, i1, i2, i3, i4, i5, i6⟩ := hrel
   have HO : Hid (BlkX wr w1.heap.size x (.slice p l c) ∧ BlkX wr W.heap.size tz (.slice none 0 0) ∧ ExtB b W wr) := ⟨i1, i2, i3⟩
   have HRp : Hid (Rp w0 b wr us d' pa why) := i4
   have HU : Hid (us.length ≤ L) := i5
   have hwz : w1.heap.size < wr.heap.size := i1.1
   rcases i6 with ⟨rfl, rfl, hdd, hdn, iL, hRc⟩ | ⟨hne, i6⟩
   · have HD : Hid (dn ≤ 40 ∧ ∃ a, r0 = .ok a) := hdn
     have HDD : Hid (d = (dn : Int)) := hdd
     have HLx : Hid (IsL wr (fun j => W.heap.size + 1 ≤ j ∧ j ≠ w1.heap.size) (.slice p l c) x.l) := iL
     have HRC : Hid (R = cl (O n) dn us.length k x us) := hRc
     have cS := fun V e => rsign_any (HRp.out.ext (W' := V) e)
     obtain ⟨sg, hsg⟩ : ∃ sg, sgn us 0 = sg := ⟨_, rfl⟩
     rw [hsg] at cS
     have HSG : Hid (sgn us 0 = sg) := hsg
     have cB := fun W => rpow8_any (bs sg) W
     have es : (bs sg).data.toList = sg := rfl
     rw [es] at cB
     obtain ⟨bb, hbb⟩ : ∃ bb, bnd sg = bb := ⟨_, rfl⟩
     rw [hbb] at cB
     have HBB : Hid (bnd sg = bb) := hbb
     have hb4 : bb ≤ 4 := by rw [← hbb]; exact bnd_le4 sg
     obtain ⟨g0, g1, g2, g3, g4, g5, g6, tb, off, cc, nn, ii, all, u1, u2, u3, u4, u5, u6⟩ := i4
     obtain ⟨hz, ⟨b0, b1, b2, b3, b4⟩, f0, f1, f2, f3, f4⟩ := u6
     clear i1 i2 i3 i5 iL hRc hdn hdd es hsg hbb g0 g1 g2 g3 g4 g5 g6 u1 u2 u3 u4 u5
     by_cases hbk : (k : Int) ≤ (bb : Int)
     · have HC3 : Hid ((hd us).1 = 3 ∧ (hd us).2.2.1 = sg ∧ k ≤ bnd sg) := by
         have e1 := HSG.out
         have e2 := HBB.out
         have e3 := HN.out.2.2.1
         unfold sgn at e1
         split at e1
         · rename_i h; exact ⟨h.2, e1, by omega⟩
         · subst e1; exact absurd e2 (by show ¬ bnd [] = bb; have : bnd [] = 0 := rfl; omega)
       have HT : Hid (Nz us.tail ∧ us.tail.length + 1 = us.length) := tail_sh HRp.out.2.2.1 HC3.out.1
       have HNX : Hid (nx us = us.tail) := nx_tail HRp.out.2.2.1 (by rw [HC3.out.1]; decide)
       go_wp2_with fail
       refine (cS _ (Ext.refl _)).mono ?_
       rintro e wa ⟨rfl, Ea⟩
       have HEa : Hid (Ext wr wa) := Ea
       clear Ea b0 b1 b2 b3 b4 f0 f1 f2 f3 f4 hz
       go_wp2_with fail
       refine (cB _).mono ?_
       rintro e wb ⟨rfl, rfl⟩
       go_wp2_with fail
       refine (cS _ HEa.out).mono ?_
       rintro e w2 ⟨rfl, E2⟩
       have HE2 : Hid (Ext wr w2) := HEa.out.trans E2
       clear E2 HEa
       go_wp2_with fail
       refine (rnext_any (HRp.out.ext HE2.out)).mono ?_
       rintro e w3 ⟨rfl, R3, X3⟩
       have H3 : Hid (Rp w0 b w3 us.tail dn pa 0 ∧ ExtB b wr w3) := ⟨HNX.out ▸ R3, (HE2.out.toB b).trans X3⟩
       clear R3 X3 HE2
       go_wp2_with fail
       refine (cB _).mono ?_
       rintro e w3 ⟨rfl, rfl⟩
       go_wp2_with fail
       refine ((HIH.out HD.out.2).2 us.tail.length (by have := HT.out.2; have := HU.out; have := HN.out.1; omega) w3 us.tail dn pa (bb + 1) H3.out.1 (Nat.le_refl _) HD.out.1 (by omega) (by omega)).mono ?_
       intro e w4 h4
       obtain ⟨y, p2, l2, c2, rfl, H4⟩ : ∃ y p2 l2 c2, e = .returned (aggX y (.slice p2 l2 c2)) ∧ Hid (ExtB b wr w4 ∧ ∃ us2 d' pa why, Rp w0 b w4 us2 d' pa why ∧ us2.length < us.length ∧ ((why = 0 ∧ d' = (dn : Int) ∧ IsL w4 (w3.heap.size ≤ ·) (.slice p2 l2 c2) y.l ∧ R = cl (O n) dn us2.length k (tBin sg x y) us2) ∨ (why ≠ 0 ∧ (dn : Int) - 1 ≤ d' ∧ d' ≤ dn ∧ ∃ f, R = .error f))) := by
         have t2 := HT.out.2
         have hRC := HRC.out
         obtain ⟨g, hg⟩ : ∃ g, us.length = g + 1 := ⟨us.length - 1, by omega⟩
         rw [hg, cl, if_pos ⟨HC3.out.1, by rw [HC3.out.2.1]; exact HC3.out.2.2⟩, HC3.out.2.1, HBB.out] at hRC
         rcases h4.cases with ⟨f, y, p2, l2, c2, ts1, d', pa1, why, hr, he, q1, q2, q3, q4, R1, X1⟩ | ⟨y, ts1, p2, l2, c2, pa1, hr, he, hL, R1, X1⟩
         · exact ⟨y, p2, l2, c2, he, H3.out.2.trans X1, ts1, d', pa1, why, R1, by omega, .inr ⟨q3, q1, q2, f, by rw [hRC, hr]⟩⟩
         · have n1 := HN.out
           have n2 := HU.out
           have s2 := LvK_sh (O_sh n) _ dn us.tail HT.out.1 (by omega) y ts1 hr
           have s3 := s2.2
           refine ⟨y, p2, l2, c2, he, H3.out.2.trans X1, ts1, dn, pa1, 0, R1, by omega, .inl ⟨rfl, rfl, hL, ?_⟩⟩
           rw [hRC, hr]
           exact cl_fuel (O_sh n) k dn g ts1.length _ ts1 s2.1 (by omega) (by omega) (Nat.le_refl _)
       have X4 := H4.out.1
       have HO4 : Hid (BlkX w4 w1.heap.size x (.slice p l c) ∧ BlkX w4 W.heap.size tz (.slice none 0 0) ∧ ExtB b W w4 ∧ IsL w4 (fun j => W.heap.size + 1 ≤ j ∧ j ≠ w1.heap.size) (.slice p l c) x.l ∧ w1.heap.size < w4.heap.size) := ⟨HO.out.1.extB X4 hg1, HO.out.2.1.extB X4 hgW, HO.out.2.2.trans X4, HLx.out.extB X4 (fun j hj => by omega), by have := X4.size; omega⟩
       have hz4 : w1.heap.size < w4.heap.size := HO4.out.2.2.2.2
       have hz3 : wr.heap.size ≤ w3.heap.size := H3.out.2.size
       clear h4 X4
       have HB0 := HO4.out.1
       obtain ⟨qa, ⟨la0, la1, la2, la3, la4, la5, la6, la7, la8, la9, la10, la11, la12⟩, ga0, ga1, ga2, ga3, ga4, ga5, ga6, ga7, ga8, ga9, ga10, ga11, ga12⟩ := HB0
       unfold aggX
       go_wp2_with fail
       clear la0 la1 la2 la3 la4 la5 la6 la7 la8 la9 la10 la11 la12 ga0 ga1 ga2 ga3 ga4 ga5 ga6 ga7 ga8 ga9 ga10 ga11 ga12 qa cS cB
       show (fun V => (∃ x p l c us d' pa why, BlkX V w1.heap.size x (.slice p l c) ∧ BlkX V W.heap.size tz (.slice none 0 0) ∧ ExtB b W V ∧ Rp w0 b V us d' pa why ∧ us.length ≤ L ∧ ((why = 0 ∧ d' = (dn : Int) ∧ d = (dn : Int) ∧ (dn ≤ 40 ∧ ∃ a, r0 = .ok a) ∧ IsL V (fun j => W.heap.size + 1 ≤ j ∧ j ≠ w1.heap.size) (.slice p l c) x.l ∧ R = cl (O n) dn us.length k x us) ∨ (why ≠ 0 ∧ lo ≤ d' ∧ d' ≤ d ∧ ∃ f, R = .error f))) ∧ leftR b V < leftR b wr) (((putX w4 w1.heap.size (tBin sg x y) (.slice (some ⟨w4.heap.size + 1, 0, none⟩) 2 2)).alloc (.cells #[.int .i64 y.k, .int .i64 y.n, .string (bs y.s), .int .i64 y.e, .int .i64 y.r.1, .int .i64 y.r.2.1, .bool y.r.2.2.1, .bool y.r.2.2.2, .int .i64 y.q.1, .int .i64 y.q.2.1, .bool y.q.2.2.1, .bool y.q.2.2.2, .slice p2 l2 c2] 29)).alloc (.cells #[.int .i64 x.k, .int .i64 x.n, .string (bs x.s), .int .i64 x.e, .int .i64 x.r.1, .int .i64 x.r.2.1, .bool x.r.2.2.1, .bool x.r.2.2.2, .int .i64 x.q.1, .int .i64 x.q.2.1, .bool x.q.2.2.1, .bool x.q.2.2.2, .slice p l c, .int .i64 y.k, .int .i64 y.n, .string (bs y.s), .int .i64 y.e, .int .i64 y.r.1, .int .i64 y.r.2.1, .bool y.r.2.2.1, .bool y.r.2.2.2, .int .i64 y.q.1, .int .i64 y.q.2.1, .bool y.q.2.2.1, .bool y.q.2.2.2, .slice p2 l2 c2] 29))
       obtain ⟨X4, us2, d2, pa2, why2, R2, hlt, hcase⟩ := H4.out
       obtain ⟨o1, o2, o3, o4, o5⟩ := HO4.out
       have hw0 := HW0.out
       have zs := putX_size w4 w1.heap.size (tBin sg x y) (.slice (some ⟨w4.heap.size + 1, 0, none⟩) 2 2)
       have R6 := putX_R R2 hg1 (by omega) (tBin sg x y) (.slice (some ⟨w4.heap.size + 1, 0, none⟩) 2 2)
       have X6 := putX_B o3 (show W.heap.size ≤ w1.heap.size by omega) (tBin sg x y) (.slice (some ⟨w4.heap.size + 1, 0, none⟩) 2 2)
       have B6 : BlkX (putX w4 w1.heap.size (tBin sg x y) (.slice (some ⟨w4.heap.size + 1, 0, none⟩) 2 2)) W.heap.size tz (.slice none 0 0) := Blk13.far o2 (by omega) _ _ _ _ _ _ _ _ _ _ _ _ _
       have A6 := o1.put (tBin sg x y) (.slice (some ⟨w4.heap.size + 1, 0, none⟩) 2 2)
       have L6 : ∀ v l', IsL w4 (fun j => W.heap.size + 1 ≤ j ∧ j ≠ w1.heap.size) v l' → IsL (putX w4 w1.heap.size (tBin sg x y) (.slice (some ⟨w4.heap.size + 1, 0, none⟩) 2 2)) (fun j => W.heap.size + 1 ≤ j ∧ j ≠ w1.heap.size) v l' := fun v l' hh => hh.keep (by rw [zs]; exact Nat.le_refl _) (fun j hj hs => putX_heap _ _ _ _ _ hj.2) (fun j hj _ => hj)
       have hu := HU.out
       have hm2 : leftR b wr = us.length := HRp.out.left
       generalize putX w4 w1.heap.size (tBin sg x y) (.slice (some ⟨w4.heap.size + 1, 0, none⟩) 2 2) = V6 at zs R6 X6 B6 A6 L6 ⊢
       refine ⟨⟨tBin sg x y, some ⟨w4.heap.size + 1, 0, none⟩, 2, 2, us2, d2, pa2, why2, A6.ext (((Ext.refl _).alloc _).alloc _), B6.ext (((Ext.refl _).alloc _).alloc _), (X6.alloc _).alloc _, R6.ext (((Ext.refl _).alloc _).alloc _), by omega, ?_⟩, ?_⟩
       · rcases hcase with ⟨z1, z2, z3, z4⟩ | ⟨z1, z2, z3, z4⟩
         · have hx := (L6 _ _ o4).ext ((Ext.refl _).alloc (.cells #[.int .i64 y.k, .int .i64 y.n, .string (bs y.s), .int .i64 y.e, .int .i64 y.r.1, .int .i64 y.r.2.1, .bool y.r.2.2.1, .bool y.r.2.2.2, .int .i64 y.q.1, .int .i64 y.q.2.1, .bool y.q.2.2.1, .bool y.q.2.2.2, .slice p2 l2 c2] 29))
           have hy := (L6 _ _ (z3.mono (fun j hj _ => (⟨by omega, by omega⟩ : W.heap.size + 1 ≤ j ∧ j ≠ w1.heap.size)))).ext ((Ext.refl _).alloc (.cells #[.int .i64 y.k, .int .i64 y.n, .string (bs y.s), .int .i64 y.e, .int .i64 y.r.1, .int .i64 y.r.2.1, .bool y.r.2.2.1, .bool y.r.2.2.2, .int .i64 y.q.1, .int .i64 y.q.2.1, .bool y.q.2.2.1, .bool y.q.2.2.2, .slice p2 l2 c2] 29))
           have e : (V6.alloc (.cells #[.int .i64 y.k, .int .i64 y.n, .string (bs y.s), .int .i64 y.e, .int .i64 y.r.1, .int .i64 y.r.2.1, .bool y.r.2.2.1, .bool y.r.2.2.2, .int .i64 y.q.1, .int .i64 y.q.2.1, .bool y.q.2.2.1, .bool y.q.2.2.2, .slice p2 l2 c2] 29)).heap.size = w4.heap.size + 1 := by simp [zs]
           have hxy := IsL.two hx hy ⟨by omega, by omega⟩
           rw [e] at hxy
           exact .inl ⟨z1, z2, HDD.out, HD.out, hxy, z4⟩
         · exact .inr ⟨z1, by have h9 := (HIH.out HD.out.2).1; have h8 := HDD.out; omega, by rw [HDD.out]; exact z3, z4⟩
       · rw [(R6.ext (((Ext.refl _).alloc _).alloc _)).left, hm2]
         exact hlt
     · have HNC : Hid (R = .ok (x, us)) := by
         have hRC := HRC.out
         obtain ⟨g, hg⟩ : ∃ g, us.length = g + 1 := ⟨us.length - 1, by have := HRp.out.2.2.1.pos; omega⟩
         rw [hg, cl, if_neg] at hRC
         · exact hRC
         · rintro ⟨h1, h2⟩
           have e1 := HSG.out
           unfold sgn at e1
           rw [if_pos ⟨rfl, h1⟩] at e1
           rw [e1, HBB.out] at h2
           omega
       go_wp2_with fail
       refine (cS _ (Ext.refl _)).mono ?_
       rintro e wa ⟨rfl, Ea⟩
       have HEa : Hid (Ext wr wa) := Ea
       clear Ea b0 b1 b2 b3 b4 f0 f1 f2 f3 f4 hz
       go_wp2_with fail
       refine (cB _).mono ?_
       rintro e wb ⟨rfl, rfl⟩
       have HO2 : Hid (BlkX wb w1.heap.size x (.slice p l c) ∧ BlkX wb W.heap.size tz (.slice none 0 0) ∧ ExtB b W wb) := ⟨HO.out.1.ext HEa.out, HO.out.2.1.ext HEa.out, HO.out.2.2.trans (HEa.out.toB b)⟩
       have HB0 := HO2.out.1
       obtain ⟨qa, ⟨la0, la1, la2, la3, la4, la5, la6, la7, la8, la9, la10, la11, la12⟩, ga0, ga1, ga2, ga3, ga4, ga5, ga6, ga7, ga8, ga9, ga10, ga11, ga12⟩ := HB0
       have HB00 := HO2.out.2.1
       obtain ⟨qc, ⟨lc0, lc1, lc2, lc3, lc4, lc5, lc6, lc7, lc8, lc9, lc10, lc11, lc12⟩, gc0, gc1, gc2, gc3, gc4, gc5, gc6, gc7, gc8, gc9, gc10, gc11, gc12⟩ := HB00
       go_wp2_with fail
       show bodyPost Try.prog _ _ _ _ (putX wb W.heap.size x (.slice p l c))
       have B6 := HO2.out.2.1.put x (.slice p l c)
       have R6 := putX_R (HRp.out.ext HEa.out) hgW HW0.out x (.slice p l c)
       have X6 := putX_B HO2.out.2.2 (Nat.le_refl _) x (.slice p l c)
       rw [HNC.out]
       refine endR B6 rfl ⟨X6, ⟨_, rfl, ((HLx.out.ext HEa.out).keep (by rw [putX_size]; exact Nat.le_refl _) (fun j hj hs => putX_heap _ _ _ _ _ (by omega)) (fun j hj _ => hj)).mono (fun j hj _ => by omega)⟩, pa, HDD.out ▸ R6⟩ (fun h0 h1 h2 h3 h4 h5 h6 h7 h8 h9 h10 h11 h12 => by simp [results, Try.results19, go_sem, h0, h1, h2, h3, h4, h5, h6, h7, h8, h9, h10, h11, h12, aggX])
   · have HRr : Hid (why ≠ 0 ∧ lo ≤ d' ∧ d' ≤ d ∧ ∃ f, R = .error f) := ⟨hne, i6⟩
     have w0' : (why == 0) = false := by simpa using hne
     obtain ⟨g0, g1, g2, g3, g4, g5, g6, tb, off, cc, nn, ii, all, u1, u2, u3, u4, u5, u6⟩ := i4
     obtain ⟨hz, ⟨b0, b1, b2, b3, b4⟩, f0, f1, f2, f3, f4⟩ := u6
     clear i1 i2 i3 i5 i6 hne g0 g1 g2 g3 g4 g5 g6 u1 u2 u3 u4 u5
     have HB0 := HO.out.1
     obtain ⟨qa, ⟨la0, la1, la2, la3, la4, la5, la6, la7, la8, la9, la10, la11, la12⟩, ga0, ga1, ga2, ga3, ga4, ga5, ga6, ga7, ga8, ga9, ga10, ga11, ga12⟩ := HB0
     have HB00 := HO.out.2.1
     obtain ⟨qc, ⟨lc0, lc1, lc2, lc3, lc4, lc5, lc6, lc7, lc8, lc9, lc10, lc11, lc12⟩, gc0, gc1, gc2, gc3, gc4, gc5, gc6, gc7, gc8, gc9, gc10, gc11, gc12⟩ := HB00
     go_wp2_with fail
     show bodyPost Try.prog _ _ _ _ (putX wr W.heap.size x (.slice p l c))
     have B6 := HO.out.2.1.put x (.slice p l c)
     have R6 := putX_R HRp.out hgW HW0.out x (.slice p l c)
     have X6 := putX_B HO.out.2.2 (Nat.le_refl _) x (.slice p l c)
     obtain ⟨r1, r2, r3, f, hf⟩ := HRr.out
     rw [hf]
     exact endR B6 rfl ⟨X6, ⟨x, p, l, c, rfl⟩, us, d', pa, why, r2, r3, r1, HU.out, R6⟩ (fun h0 h1 h2 h3 h4 h5 h6 h7 h8 h9 h10 h11 h12 => by simp [results, Try.results19, go_sem, h0, h1, h2, h3, h4, h5, h6, h7, h8, h9, h10, h11, h12, aggX])
theorem exp_step (w0 : World) (b n m : Nat) (hm : m ≤ n) (hP : PfC w0 b n) (ih : ∀ m', m' < m → ExC w0 b n m') : ExC w0 b n m := by
 intro W ts d pa k h hts hd hk1 hk5
 have hCl := clm_all (O_sh n) hd k hk1 hk5 ts h.2.2.1 (by omega)
 refine exp_core w0 b n m ts.length d k ((d : Int) - 1) d W (O n d ts) (LvK (O n) k d ts) h.1.sz h.lt.1 hts hm ⟨hk1, hk5⟩ (fun V e => hP V ts d pa (h.ext e) (by omega) hd) ?_ ?_ (fun _ => ⟨Int.le_refl _, ih⟩)
 · intro f hr
   exact ⟨f, by rw [hCl, hr]; rfl⟩
 · intro x ts1 hr
   have s2 := O_sh n d ts h.2.2.1 (by omega) x ts1 hr
   have s3 := s2.2
   exact ⟨rfl, hd, by omega, by rw [hCl, hr]; rfl⟩
theorem exp_all (w0 : World) (b n : Nat) (hP : PfC w0 b n) : ∀ m, m ≤ n → ExC w0 b n m := by
 intro m
 induction m using Nat.strongRecOn with
 | ind m ih => exact fun hm => exp_step w0 b n m hm hP (fun m' h => ih m' h (by omega))
def PfB (w0 : World) (b : Nat) : Prop := ∀ (W : World) (ts : List Tk) (d pa why : Int), Rp w0 b W ts d pa why → why ≠ 0 → Calls Try.prog 33 #[.pointer (some ⟨b, 0, none⟩)] W (RX w0 b W ts.length d d (.error (ft ts true)))
theorem exp_bad (w0 : World) (b : Nat) (hP : PfB w0 b) (W : World) (ts : List Tk) (d pa why : Int) (h : Rp w0 b W ts d pa why) (hw : why ≠ 0) : Calls Try.prog 19 #[.pointer (some ⟨b, 0, none⟩), .int .i64 1] W (RX w0 b W ts.length d d (.error (ft ts true))) :=
 exp_core w0 b ts.length ts.length ts.length 0 1 d d W (.error (ft ts true)) (.error (ft ts true)) h.1.sz h.lt.1 (Nat.le_refl _) (Nat.le_refl _) ⟨by omega, by omega⟩ (fun V e => hP V ts d pa why (h.ext e) hw) (fun f _ => ⟨_, rfl⟩) (fun x ts1 hr => by cases hr) (fun ⟨a, ha⟩ => by cases ha)
end Go.Proofs.Ytjhmbkdkjgjoaaa
