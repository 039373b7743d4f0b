/-
 strings.Builder: copyCheck and WriteByte, at a builder of the call's own. (The shelf's contracts do not lie at this dump: here a builder's text that was written in another place is refused.)
 The contract of package lex's text.
 Lists of trees that the call makes; the contract of arguments.
 The document's Own: a tree in memory of its own.
-/
import Derived.Test.YtcggiljlilbdfaaV10
import Derived.Shelf.Strings.BuilderX
import Derived.Lib.Builder
import Derived.Laws.Externs
import Derived.Laws.AppendOwn
import Derived.Test.YtcggiljlilbdfaaV17
import Derived.Test.YtcggiljlilbdfaaV14
namespace Go.Proofs.Ytcggiljlilbdfaa
open Go.RowKit
set_option maxHeartbeats 1000000

theorem byte_info : ∃ i, Try.prog.info? 5 = some i ∧ i.zero = some (.int .u8 0) ∧ i.size = 1 ∧ i.bytes = 1 := by
 have h : (Try.prog.info? 5).map (fun i => (i.zero, i.size, i.bytes)) = some (some (.int .u8 0), 1, 1) := by kernel_rfl
 obtain ⟨j, h1, h2⟩ := Option.map_eq_some_iff.1 h
 simp at h2
 exact ⟨j, h1, h2⟩

open Go.RowKit
set_option maxHeartbeats 1000000

theorem txt_ne (c : UInt8) (r : List UInt8) (h : c ≠ 34) : txt (c :: r) = (txt r).map (fun x => (c :: x.1, x.2 + 1)) := by
 cases r with
 | nil => simp [txt, h]
 | cons d r => rw [txt, if_neg h]
theorem txt_two (r : List UInt8) : txt (34 :: 34 :: r) = (txt r).map (fun x => (34 :: x.1, x.2 + 2)) := by simp [txt]
theorem txt_end (r : List UInt8) (h : r.head? ≠ some 34) : txt (34 :: r) = some ([], 1) := by
 cases r with
 | nil => simp [txt]
 | cons d r => rw [txt, if_pos rfl, if_neg (by simpa using h)]
/-- What is read of a text up to a place. -/
def TxA (l : List UInt8) (k j : Nat) (acc : List UInt8) : Prop := k + 1 ≤ j ∧ acc.length ≤ j ∧ txt (l.drop (k + 1)) = (txt (l.drop j)).map (fun x => (acc ++ x.1, x.2 + (j - (k + 1))))
theorem TxA.start (l : List UInt8) (k : Nat) : TxA l k (k + 1) [] := by
 refine ⟨Nat.le_refl _, Nat.zero_le _, ?_⟩
 cases txt (l.drop (k + 1)) <;> simp
theorem TxA.one {l : List UInt8} {k j : Nat} {acc : List UInt8} (h : TxA l k j acc) (hj : j < l.length) (hc : l[j] ≠ 34) : TxA l k (j + 1) (acc ++ [l[j]]) := by
 obtain ⟨h0, h1, h2⟩ := h
 refine ⟨by omega, by simp; omega, ?_⟩
 rw [h2, List.drop_eq_getElem_cons hj, txt_ne _ _ hc]
 cases txt (l.drop (j + 1)) with
 | none => rfl
 | some x => simp; omega
theorem TxA.two {l : List UInt8} {k j : Nat} {acc : List UInt8} (h : TxA l k j acc) (hj : j + 1 < l.length) (hc : l[j] = 34) (hd : l[j + 1] = 34) : TxA l k (j + 1 + 1) (acc ++ [34]) := by
 obtain ⟨h0, h1, h2⟩ := h
 refine ⟨by omega, by simp; omega, ?_⟩
 rw [h2, List.drop_eq_getElem_cons (by omega : j < l.length), List.drop_eq_getElem_cons hj, hc, hd, txt_two]
 cases txt (l.drop (j + 1 + 1)) with
 | none => rfl
 | some x => simp; omega
theorem TxA.none {l : List UInt8} {k j : Nat} {acc : List UInt8} (h : TxA l k j acc) (hj : l.length ≤ j) : txtR (l.drop k) = .error 4 := by
 have e := h.2.2
 rw [List.drop_eq_nil_of_le hj] at e
 unfold txtR
 rw [List.tail_drop, e]; rfl
theorem TxA.done {l : List UInt8} {k j : Nat} {acc : List UInt8} (h : TxA l k j acc) (hj : j < l.length) (hc : l[j] = 34) (hd : (l.drop (j + 1)).head? ≠ some 34) : txtR (l.drop k) = .ok (1, acc, 0, 0, j + 1 - k) := by
 obtain ⟨h0, h1, e⟩ := h
 rw [List.drop_eq_getElem_cons hj, hc, txt_end _ hd] at e
 unfold txtR
 rw [List.tail_drop, e]
 simp; omega

theorem new_top (w : World) (o : Obj) : (w.alloc o).heap[w.heap.size]? = some o := by show (w.heap.push o)[w.heap.size]? = some o; simp

open Go.RowKit
set_option maxHeartbeats 6000000

def flatX (ps : List (T × Value)) : List Value := ps.flatMap fun p => cellsT p.1 p.2
theorem flatX_append (a b : List (T × Value)) : flatX (a ++ b) = flatX a ++ flatX b := by unfold flatX; rw [List.flatMap_append]
theorem cellsT_length (t : T) (lv : Value) : (cellsT t lv).length = 13 := rfl
theorem flatX_length (a : List (T × Value)) : (flatX a).length = a.length * 13 := by
 induction a with
 | nil => rfl
 | cons p r ih =>
   have : flatX (p :: r) = cellsT p.1 p.2 ++ flatX r := rfl
   rw [this, List.length_append, ih, cellsT_length, List.length_cons]; omega
theorem flatX_at : ∀ (a : List (T × Value)) (i j : Nat) (p : T × Value) (u : Value), a[i]? = some p → (cellsT p.1 p.2)[j]? = some u → (flatX a)[i * 13 + j]? = some u
 | [], _, _, _, _, h, _ => by simp at h
 | q :: r, 0, j, p, u, h, hu => by
   simp at h; subst h
   have : flatX (q :: r) = cellsT q.1 q.2 ++ flatX r := rfl
   rw [this, Nat.zero_mul, Nat.zero_add, List.getElem?_append_left (List.getElem?_eq_some_iff.mp hu).1]; exact hu
 | q :: r, i + 1, j, p, u, h, hu => by
   have ih := flatX_at r i j p u (by simpa using h) hu
   have : flatX (q :: r) = cellsT q.1 q.2 ++ flatX r := rfl
   rw [this, List.getElem?_append_right (by rw [cellsT_length]; omega), cellsT_length, show (i + 1) * 13 + j - 13 = i * 13 + j by omega]; exact ih
theorem info_x : ∃ i, Try.prog.info? 26 = some i ∧ i.zero = some (.agg #[.int .i64 0, .int .i64 0, .string ⟨#[]⟩, .int .i64 0, .int .i64 0, .int .i64 0, .bool false, .bool false, .int .i64 0, .int .i64 0, .bool false, .bool false, .slice none 0 0]) ∧ i.size = 13 ∧ i.bytes = 112 := by
 have h2 : (Try.prog.info? 26).bind (fun i => i.zero) = some (.agg #[.int .i64 0, .int .i64 0, .string ⟨#[]⟩, .int .i64 0, .int .i64 0, .int .i64 0, .bool false, .bool false, .int .i64 0, .int .i64 0, .bool false, .bool false, .slice none 0 0]) := by kernel_rfl
 have h3 : (Try.prog.info? 26).map (fun i => (i.size, i.bytes)) = some (13, 112) := by kernel_rfl
 cases h : Try.prog.info? 26 with
 | none => rw [h] at h2; cases h2
 | some i =>
   rw [h] at h2 h3
   simp at h2 h3
   exact ⟨i, rfl, h2, h3.1, h3.2⟩
/-- v holds the trees ps in a block of the call's own, from base on; what they hang on lies in other blocks. -/
def OwX (w : World) (base : Nat) (v : Value) (ps : List (T × Value)) : Prop := w.ownsRow base 26 13 v ps.length (flatX ps) ∧ ∀ p ∈ ps, IsL w (fun k => base ≤ k ∧ v.ownBlock ≠ some k) p.2 p.1.l
theorem OwX.isL {w : World} {base : Nat} {v : Value} {ps : List (T × Value)} (h : OwX w base v ps) : IsL w (base ≤ ·) v (ps.map Prod.fst) := by
 obtain ⟨⟨_, h1⟩, h2⟩ := h
 rcases h1 with ⟨h1, h0⟩ | ⟨g, cap, cur, h1, h3, h4, h5, h6, h7, h8⟩
 · have : ps = [] := List.eq_nil_of_length_eq_zero h0
   subst this h1
   exact .nil
 · subst h1
   refine .mk g 0 cap ps.length _ (fun i => match ps[i]? with | some p => p.2 | none => .slice none 0 0) (by simp) h5 h3 (heap_lt h4) ?_ ?_
   · intro i t j u hi hj
     rw [List.getElem?_map, Option.map_eq_some_iff] at hi
     obtain ⟨p, hp, rfl⟩ := hi
     simp only [hp] at hj
     have k := flatX_at ps i j p u hp hj
     have hj13 : i * 13 + j < (flatX ps).length := (List.getElem?_eq_some_iff.mp k).1
     rw [flatX_length] at hj13
     rw [cell_of_row w g _ cur _ (0, 0) h4, Nat.zero_add, ← Array.getElem?_toList]
     rw [← h8, List.getElem?_take, if_pos (by omega)] at k
     exact k
   · intro i t hi
     rw [List.getElem?_map, Option.map_eq_some_iff] at hi
     obtain ⟨p, hp, rfl⟩ := hi
     simp only [hp]
     exact (h2 p (List.mem_of_getElem? hp)).mono (fun k hk _ => hk.1)
theorem OwX.far {w : World} {base : Nat} {v : Value} {ps : List (T × Value)} (h : OwX w base v ps) {b : Nat} (hb : b < base) : v.ownBlock ≠ some b := by
 rcases h.1.2 with ⟨h1, h2⟩ | ⟨g, cap, cur, h1, h2, h3⟩
 · rw [h1]; simp [Value.ownBlock]
 · rw [h1]; simp [Value.ownBlock]; omega
theorem OwX.extB {b base : Nat} {w w' : World} {v : Value} {ps : List (T × Value)} (h : OwX w base v ps) (e : ExtB b w w') (hb : b < base) : OwX w' base v ps := by
 refine ⟨⟨h.1.1, ?_⟩, fun p hp => (h.2 p hp).extB e (fun k hk => by omega)⟩
 rcases h.1.2 with h2 | ⟨g, cap, cur, h1, h2, h3, h4⟩
 · exact .inl h2
 · exact .inr ⟨g, cap, cur, h1, h2, (e.block g (heap_lt h3) (by omega)).trans h3, h4⟩
/-- One tree in a new block. -/
theorem OwX.one {W W' : World} {base : Nat} {x : T} {pp : Option Addr} {ln cl : Nat} (hb : base ≤ W.heap.size) (hL : IsL W (base ≤ ·) (.slice pp ln cl) x.l) (hW : W' = W.alloc (.cells #[.int .i64 x.k, .int .i64 x.n, .string (bs x.s), .int .i64 x.e, .int .i64 x.r.1, .int .i64 x.r.2.1, .bool x.r.2.2.1, .bool x.r.2.2.2, .int .i64 x.q.1, .int .i64 x.q.2.1, .bool x.q.2.2.1, .bool x.q.2.2.2, .slice pp ln cl] 26)) : OwX W' base (.slice (some ⟨W.heap.size, 0, none⟩) 1 1) [(x, .slice pp ln cl)] := by
 subst hW
 refine ⟨⟨rfl, .inr ⟨W.heap.size, 1, #[.int .i64 x.k, .int .i64 x.n, .string (bs x.s), .int .i64 x.e, .int .i64 x.r.1, .int .i64 x.r.2.1, .bool x.r.2.2.1, .bool x.r.2.2.2, .int .i64 x.q.1, .int .i64 x.q.2.1, .bool x.q.2.2.1, .bool x.q.2.2.2, .slice pp ln cl], rfl, hb, ?_, Nat.le_refl _, by unfold maxLen; omega, rfl, rfl⟩⟩, ?_⟩
 · show (W.heap.push _)[W.heap.size]? = _; simp
 · intro p hp
   simp at hp; subst hp
   exact (hL.mono (P' := fun k => base ≤ k ∧ (Value.slice (some ⟨W.heap.size, 0, none⟩) 1 1).ownBlock ≠ some k) (fun k hk hs => ⟨hk, by simp [Value.ownBlock]; omega⟩)).ext ((Ext.refl _).alloc _)
/-- append of one tree that lies in a new block, at the operation. -/
theorem x_append {ops : Array Oper} {rest : List Oper} {o : Oper} {a : Act} {Q : Exit → Act → World → Prop} (W : World) (base : Nat) (s y : Operand) (v : Value) (b : Nat) (ps : List (T × Value)) (x : T) (pp : Option Addr) (ln cl : Nat) (hgd : o.guard = none)
   (ho : o.op = .call { callee := .builtin .append, args := #[s, y], argTypes := #[24, 24] })
   (hs : a.eval s = v) (hx : a.eval y = .slice (some ⟨b, 0, none⟩) 1 1) (hB : OwX W base v ps) (hL : IsL W (fun k => base ≤ k ∧ v.ownBlock ≠ some k) (.slice pp ln cl) x.l)
   (hR : ∀ j u, (cellsT x (.slice pp ln cl))[j]? = some u → W.cell? ((⟨b, 0, none⟩ : Addr).add j) = some u) (hlen : ps.length ≤ 100000) (hbase : base ≤ W.heap.size)
   (h : ∀ v' W', OwX W' base v' (ps ++ [(x, .slice pp ln cl)]) → W.grownBy W' v.ownBlock → (∃ g cap, v' = .slice (some ⟨g, 0, none⟩) (ps.length + 1) cap) → wpList Try.prog ops Q rest (a.put o.dst v') W') : wpList Try.prog ops Q (o :: rest) a W := by
 obtain ⟨i, hi, hz, h1, h2⟩ := info_x
 refine wpList_append_own_at W hgd s y 24 ho base 26 i _ 13 112 Try.underlying24 hi hz h1 h2 rfl (by decide) v ps.length (flatX ps) hs hB.1 ⟨b, 0, none⟩ 1 1 (cellsT x (.slice pp ln cl)) hx rfl hR ?_ (by unfold maxLen; omega) (by omega) hbase ?_
 · intro u hu
   simp [cellsT] at hu
   rcases hu with rfl | rfl | rfl | rfl | rfl | rfl | rfl | rfl | rfl | rfl | rfl | rfl | rfl <;> rfl
 intro v' W' h3 h4 h5 h6
 have hsz : ∀ k, k < W.heap.size → v.ownBlock ≠ some k → v'.ownBlock ≠ some k := by
   intro k hk hv
   rcases h6 with h6 | h6
   · rw [h6]; exact hv
   · rw [h6]; simp; omega
 have hk : ∀ (y : Value) (l : List T), IsL W (fun k => base ≤ k ∧ v.ownBlock ≠ some k) y l → IsL W' (fun k => base ≤ k ∧ v'.ownBlock ≠ some k) y l := fun y l hy =>
   hy.keep h4.size (fun k hk hs => h4.block k hs (fun e => hk.2 e.symm)) (fun k hk hs => ⟨hk.1, hsz k hs hk.2⟩)
 have hO : OwX W' base v' (ps ++ [(x, .slice pp ln cl)]) := by
   refine ⟨?_, ?_⟩
   · rw [List.length_append, flatX_append]
     exact h3
   · intro p hp
     rcases List.mem_append.1 hp with hp | hp
     · exact hk _ _ (hB.2 p hp)
     · simp at hp; subst hp; exact hk _ _ hL
 refine h v' W' hO h4 ?_
 rcases h3.2 with ⟨_, h0⟩ | ⟨g, cap, cur, hv, _⟩
 · omega
 · exact ⟨g, cap, hv⟩
theorem Stt.grown {w0 W W' : World} {b d base : Nat} {ts : List Tk} {v : Value} {ps : List (T × Value)} (hS : Stt w0 b W ts d) (h : W.grownBy W' v.ownBlock) (hB : OwX W base v ps) (hb : b < base) (h0 : w0.heap.size ≤ base) : Stt w0 b W' ts d := by
 obtain ⟨h1, h2, h3, h4, h5', h6, h7, tb, off, c, h8, h9, h10, h11, h12⟩ := hS
 have k := fun o => (World.cell?_of_block (a := ⟨b, o, none⟩) (h.block b h3 (fun e => hB.far hb e.symm)))
 have f := fun o => (World.frozen?_of_block (a := ⟨b, o, none⟩) (h.block b h3 (fun e => hB.far hb e.symm)))
 refine ⟨⟨h.os.trans h1.os, h.tape.trans h1.tape, h.output.trans h1.output, Nat.le_trans h1.size h.size, fun i hi => ?_⟩, h2, Nat.lt_of_lt_of_le h3 h.size, h4, h5', h6, h7, tb, off, c, h8, (k 0).trans h9, (f 0).trans h10, (k 1).trans h11, (f 1).trans h12⟩
 exact (h.block i (Nat.lt_of_lt_of_le hi h1.size) (fun e => hB.far (Nat.lt_of_lt_of_le hi h0) e.symm)).trans (h1.block i hi)
def left (b : Nat) (w : World) : Nat := match w.cell? ⟨b, 0, none⟩ with
 | some (.slice _ n _) => n
 | _ => 0
theorem Stt.left {w0 w : World} {b d : Nat} {ts : List Tk} (h : Stt w0 b w ts d) : left b w = ts.length := by
 obtain ⟨tb, off, cc, b0, _⟩ := h.get
 unfold Go.Proofs.Ytcggiljlilbdfaa.left; rw [b0]

open Go.RowKit
set_option maxHeartbeats 6000000

def OwnQ (w : World) (t : T) (e : Ending) (w' : World) : Prop := ∃ lv, e = .returned (aggX t lv) ∧ IsL w' (w.heap.size ≤ ·) lv t.l ∧ Ext w w'
def OwnC (t : T) : Prop := ∀ (W : World) (P : Nat → Prop) (pp : Option Addr) (ln cl : Nat), IsL W P (.slice pp ln cl) t.l → Calls Try.prog 14 #[.agg #[.int .i64 t.k, .int .i64 t.n, .string (bs t.s), .int .i64 t.e, .int .i64 t.r.1, .int .i64 t.r.2.1, .bool t.r.2.2.1, .bool t.r.2.2.2, .int .i64 t.q.1, .int .i64 t.q.2.1, .bool t.q.2.2.1, .bool t.q.2.2.2, .slice pp ln cl]] W (OwnQ W t)
theorem endO {fn : Func} {a : Act} {w W : World} {g : Nat} {t : T} {lv : Value} {P : Nat → Prop} (B : BlkX W g t lv) (hd : a.defers = []) (hL : IsL W P lv t.l) (hP : ∀ k, P k → w.heap.size ≤ k) (hE : Ext w W)
   (hr : W.cell? ⟨g, 0, none⟩ = some (.int .i64 t.k) → W.cell? ⟨g, 1, none⟩ = some (.int .i64 t.n) → W.cell? ⟨g, 2, none⟩ = some (.string (bs t.s)) → W.cell? ⟨g, 3, none⟩ = some (.int .i64 t.e) → W.cell? ⟨g, 4, none⟩ = some (.int .i64 t.r.1) → W.cell? ⟨g, 5, none⟩ = some (.int .i64 t.r.2.1) → W.cell? ⟨g, 6, none⟩ = some (.bool t.r.2.2.1) → W.cell? ⟨g, 7, none⟩ = some (.bool t.r.2.2.2) → W.cell? ⟨g, 8, none⟩ = some (.int .i64 t.q.1) → W.cell? ⟨g, 9, none⟩ = some (.int .i64 t.q.2.1) → W.cell? ⟨g, 10, none⟩ = some (.bool t.q.2.2.1) → W.cell? ⟨g, 11, none⟩ = some (.bool t.q.2.2.2) → W.cell? ⟨g, 12, none⟩ = some lv → (results fn a.tmps).run Try.prog W = .ok (aggX t lv) W) :
   bodyPost Try.prog fn (OwnQ w t) .ret a W := by
 obtain ⟨z, ⟨k0, k1, k2, k3, k4, k5, k6, k7, k8, k9, k10, k11, k12⟩, f⟩ := B
 exact bodyPost_ret (hr k0 k1 k2 k3 k4 k5 k6 k7 k8 k9 k10 k11 k12) hd ⟨lv, rfl, hL.mono (fun k hk _ => hP k hk), hE⟩
/-- An empty list in a new block. -/
theorem OwX.zero {W W' : World} {base g : Nat} (hW : W' = W.alloc (.cells #[] 26)) (hg : g = W.heap.size) (hb : base ≤ g) : OwX W' base (.slice (some ⟨g, 0, none⟩) 0 0) [] := by
 subst hW hg
 refine ⟨⟨rfl, .inr ⟨W.heap.size, 0, #[], rfl, hb, ?_, Nat.le_refl _, Nat.zero_le _, rfl, rfl⟩⟩, fun p hp => by cases hp⟩
 show (W.heap.push _)[W.heap.size]? = _; simp
theorem OwX.ext {w w' : World} {base : Nat} {v : Value} {ps : List (T × Value)} (h : OwX w base v ps) (e : Ext w w') : OwX w' base v ps := by
 refine ⟨⟨h.1.1, ?_⟩, fun p hp => (h.2 p hp).ext e⟩
 rcases h.1.2 with h2 | ⟨g, cap, cur, h1, h2, h3, h4⟩
 · exact .inl h2
 · exact .inr ⟨g, cap, cur, h1, h2, (e.block g (heap_lt h3)).trans h3, h4⟩
theorem ext_grown {w W W' : World} {base : Nat} {v : Value} {ps : List (T × Value)} (h : W.grownBy W' v.ownBlock) (hB : OwX W base v ps) (hE : Ext w W) (hb : w.heap.size ≤ base) : Ext w W' :=
 ⟨h.os.trans hE.os, h.tape.trans hE.tape, h.output.trans hE.output, Nat.le_trans hE.size h.size, fun k hk =>
   (h.block k (Nat.lt_of_lt_of_le hk hE.size) (fun e => hB.far (Nat.lt_of_lt_of_le hk hb) e.symm)).trans (hE.block k hk)⟩
theorem BlkX.grown {W W' : World} {base g : Nat} {v lv : Value} {t : T} {ps : List (T × Value)} (B : BlkX W g t lv) (h : W.grownBy W' v.ownBlock) (hB : OwX W base v ps) (hg : g < base) : BlkX W' g t lv := by
 have hz := B.1
 have hb := h.block g hz (fun e => hB.far hg e.symm)
 obtain ⟨z, ⟨k0, k1, k2, k3, k4, k5, k6, k7, k8, k9, k10, k11, k12⟩, f0, f1, f2, f3, f4, f5, f6, f7, f8, f9, f10, f11, f12⟩ := B
 have k := fun o => World.cell?_of_block (a := ⟨g, o, none⟩) hb
 have f := fun o => World.frozen?_of_block (a := ⟨g, o, none⟩) hb
 exact ⟨Nat.lt_of_lt_of_le z h.size, ⟨(k 0).trans k0, (k 1).trans k1, (k 2).trans k2, (k 3).trans k3, (k 4).trans k4, (k 5).trans k5, (k 6).trans k6, (k 7).trans k7, (k 8).trans k8, (k 9).trans k9, (k 10).trans k10, (k 11).trans k11, (k 12).trans k12⟩, (f 0).trans f0, (f 1).trans f1, (f 2).trans f2, (f 3).trans f3, (f 4).trans f4, (f 5).trans f5, (f 6).trans f6, (f 7).trans f7, (f 8).trans f8, (f 9).trans f9, (f 10).trans f10, (f 11).trans f11, (f 12).trans f12⟩
set_option maxRecDepth 100000 in
theorem own_step (t : T) (hl : t.l.length ≤ 100000) (ih : ∀ x ∈ t.l, OwnC x) : OwnC t := by
 intro W P pp ln cl hL
 have hln : ln = t.l.length := by
   obtain ⟨p, c, h1, _⟩ := hL.form
   cases h1; rfl
 have HI : Hid (IsL W P (.slice pp ln cl) t.l) := hL
 have HLN : Hid (ln = t.l.length) := hln
 have HIH : Hid (∀ x ∈ t.l, OwnC x) := ih
 have hl2 : ln ≤ 100000 := by omega
 clear hL hln ih hl
 go_enter Try.func14, Try.ntmps14
 go_wp2_with fail
 go_loopw [3, 4] (fun xv iv wr => ∃ (j g cap : Nat) (ps : List (T × Value)), j ≤ ln ∧ xv = .slice (some ⟨g, 0, none⟩) j cap ∧ iv = .int .i64 (j : Int) ∧ ps.length = j ∧ OwX wr (W.heap.size + 1 + 1) (.slice (some ⟨g, 0, none⟩) ps.length cap) ps ∧ ps.map Prod.fst = t.l.take j ∧ BlkX wr W.heap.size t (.slice pp ln cl) ∧ BlkX wr (W.heap.size + 1) tz (.slice none 0 0) ∧ Ext W wr) (fun _ iv _ => ln - (intOf iv).toNat)
 case atStart => exact ⟨0, W.heap.size + 1 + 1, 0, [], Nat.zero_le _, rfl, rfl, rfl, OwX.zero rfl (by simp) (Nat.le_refl _), by simp, blk13_top rfl (((Ext.refl _).alloc _).alloc _), BlkX.top (by simp) ((Ext.refl _).alloc _), (((Ext.refl _).alloc _).alloc _).alloc _⟩
 case round =>
   obtain ⟨j, g, cap, ps, hj, rfl, rfl, hpl, hO, hps, hB, hB2, hE⟩ := hrel
   have HO : Hid (OwX wr (W.heap.size + 1 + 1) (.slice (some ⟨g, 0, none⟩) ps.length cap) ps ∧ ps.map Prod.fst = t.l.take j ∧ Ext W wr ∧ ps.length = j) := ⟨hO, hps, hE, hpl⟩
   have HB : Hid (BlkX wr W.heap.size t (.slice pp ln cl) ∧ BlkX wr (W.heap.size + 1) tz (.slice none 0 0)) := ⟨hB, hB2⟩
   obtain ⟨qz, ⟨k0, k1, k2, k3, k4, k5, k6, k7, k8, k9, k10, k11, k12⟩, f0, f1, f2, f3, f4, f5, f6, f7, f8, f9, f10, f11, f12⟩ := hB
   have hwr : W.heap.size + 1 < wr.heap.size := hB2.1
   clear hE hps hO hpl hB2 f0 f1 f2 f3 f4 f5 f6 f7 f8 f9 f10 f11
   by_cases hlt : j < ln
   · have hltI : (j : Int) < (ln : Int) := by omega
     have hI := HI.out.ext HO.out.2.2.1
     obtain ⟨gb, off, x, lv, hpp, hx1, hA1, hgb, hA2, hLx, hce⟩ := hI.at (i := j) (by rw [← HLN.out]; exact hlt)
     clear hA1 hA2
     subst hpp
     obtain ⟨pp, cl', hlv, hcl⟩ := hLx.form
     obtain ⟨ln', hln'⟩ : ∃ ln', x.l.length = ln' := ⟨_, rfl⟩
     rw [hln'] at hlv
     subst hlv
     have HX1 : Hid (t.l[j]? = some x) := hx1
     have HC : Hid (Calls Try.prog 14 #[.agg #[.int .i64 x.k, .int .i64 x.n, .string (bs x.s), .int .i64 x.e, .int .i64 x.r.1, .int .i64 x.r.2.1, .bool x.r.2.2.1, .bool x.r.2.2.2, .int .i64 x.q.1, .int .i64 x.q.2.1, .bool x.q.2.2.1, .bool x.q.2.2.2, .slice pp ln' cl']] wr (OwnQ wr x)) := HIH.out x (List.mem_of_getElem? hx1) wr P pp ln' cl' hLx
     have e0 : wr.cell? ⟨gb, off + j * 13, none⟩ = some (.int .i64 x.k) := hce 0 _ rfl
     have e1 : wr.cell? ⟨gb, off + j * 13 + 1, none⟩ = some (.int .i64 x.n) := hce 1 _ rfl
     have e2 : wr.cell? ⟨gb, off + j * 13 + 2, none⟩ = some (.string (bs x.s)) := hce 2 _ rfl
     have e3 : wr.cell? ⟨gb, off + j * 13 + 3, none⟩ = some (.int .i64 x.e) := hce 3 _ rfl
     have e4 : wr.cell? ⟨gb, off + j * 13 + 4, none⟩ = some (.int .i64 x.r.1) := hce 4 _ rfl
     have e5 : wr.cell? ⟨gb, off + j * 13 + 5, none⟩ = some (.int .i64 x.r.2.1) := hce 5 _ rfl
     have e6 : wr.cell? ⟨gb, off + j * 13 + 6, none⟩ = some (.bool x.r.2.2.1) := hce 6 _ rfl
     have e7 : wr.cell? ⟨gb, off + j * 13 + 7, none⟩ = some (.bool x.r.2.2.2) := hce 7 _ rfl
     have e8 : wr.cell? ⟨gb, off + j * 13 + 8, none⟩ = some (.int .i64 x.q.1) := hce 8 _ rfl
     have e9 : wr.cell? ⟨gb, off + j * 13 + 9, none⟩ = some (.int .i64 x.q.2.1) := hce 9 _ rfl
     have e10 : wr.cell? ⟨gb, off + j * 13 + 10, none⟩ = some (.bool x.q.2.2.1) := hce 10 _ rfl
     have e11 : wr.cell? ⟨gb, off + j * 13 + 11, none⟩ = some (.bool x.q.2.2.2) := hce 11 _ rfl
     have e12 : wr.cell? ⟨gb, off + j * 13 + 12, none⟩ = some (.slice pp ln' cl') := hce 12 _ rfl
     clear hI hx1 hLx hce hcl hln'
     go_wp2_with fail
     refine HC.out.mono ?_
     rintro e w3 ⟨lv, rfl, hL, E3⟩
     obtain ⟨qq, cm, hlv, hcm⟩ := hL.form
     obtain ⟨lm, hlm⟩ : ∃ lm, x.l.length = lm := ⟨_, rfl⟩
     rw [hlm] at hlv
     subst hlv
     have hgw : g < wr.heap.size := by
       rcases HO.out.1.1.2 with ⟨q1, _⟩ | ⟨g', cap', cur, q1, _, q3, _⟩
       · cases q1
       · cases q1; exact heap_lt q3
     have HL3 : Hid (IsL w3 (fun k => W.heap.size + 1 + 1 ≤ k ∧ (Value.slice (some ⟨g, 0, none⟩) ps.length cap).ownBlock ≠ some k) (.slice qq lm cm) x.l) := hL.mono (fun k hk hs => ⟨by omega, by simp [Value.ownBlock]; omega⟩)
     have HO3 : Hid (OwX w3 (W.heap.size + 1 + 1) (.slice (some ⟨g, 0, none⟩) ps.length cap) ps ∧ Ext W w3 ∧ BlkX w3 W.heap.size t (.slice (some ⟨gb, off, none⟩) ln cl) ∧ BlkX w3 (W.heap.size + 1) tz (.slice none 0 0)) := ⟨HO.out.1.ext E3, HO.out.2.2.1.trans E3, HB.out.1.ext E3, HB.out.2.ext E3⟩
     have hw3 : W.heap.size + 1 < w3.heap.size := HO3.out.2.2.2.1
     clear hL hcm hlm E3 hgw f12 k0 k1 k2 k3 k4 k5 k6 k7 k8 k9 k10 k11 k12 e0 e1 e2 e3 e4 e5 e6 e7 e8 e9 e10 e11 e12
     unfold aggX
     go_wp2_with (at_builtin; refine x_append _ (W.heap.size + 1 + 1) _ _ _ w3.heap.size ps x qq lm cm rfl rfl (by rfl) (by rfl) (by rw [← HO.out.2.2.2]; exact HO3.out.1.ext ((Ext.refl _).alloc _)) (by rw [← HO.out.2.2.2]; exact HL3.out.ext ((Ext.refl _).alloc _)) ?cR (by rw [HO.out.2.2.2]; omega) (by simp; omega) ?_)
     case cR =>
       intro j u hu
       rw [Addr.add_lit, cell_of_row _ _ _ _ _ (0, 0) (new_top w3 _), Nat.zero_add]
       rw [← hu, ← Array.getElem?_toList]; rfl
     intro v' w4 k1 k2 g4 cap4 hv4
     subst hv4
     have HB4 : Hid (OwX (w3.alloc (.cells #[.int .i64 x.k, .int .i64 x.n, .string (bs x.s), .int .i64 x.e, .int .i64 x.r.1, .int .i64 x.r.2.1, .bool x.r.2.2.1, .bool x.r.2.2.2, .int .i64 x.q.1, .int .i64 x.q.2.1, .bool x.q.2.2.1, .bool x.q.2.2.2, .slice qq lm cm] 26)) (W.heap.size + 1 + 1) (.slice (some ⟨g, 0, none⟩) ps.length cap) ps) := HO3.out.1.ext ((Ext.refl _).alloc _)
     rw [← HO.out.2.2.2] at k2
     have HG : Hid (OwX w4 (W.heap.size + 1 + 1) (.slice (some ⟨g4, 0, none⟩) (ps.length + 1) cap4) (ps ++ [(x, .slice qq lm cm)]) ∧ Ext W w4 ∧ BlkX w4 W.heap.size t (.slice (some ⟨gb, off, none⟩) ln cl) ∧ BlkX w4 (W.heap.size + 1) tz (.slice none 0 0)) :=
       ⟨k1, ext_grown k2 HB4.out (HO3.out.2.1.alloc _) (by omega), (HO3.out.2.2.1.ext ((Ext.refl _).alloc _)).grown k2 HB4.out (by omega), (HO3.out.2.2.2.ext ((Ext.refl _).alloc _)).grown k2 HB4.out (by omega)⟩
     clear k1 k2 HB4
     go_wp2_with fail
     go_roundw
     case rel =>
       refine ⟨j + 1, g4, cap4, ps ++ [(x, .slice qq lm cm)], by omega, by rw [HO.out.2.2.2], by go_num, by rw [List.length_append, HO.out.2.2.2]; rfl, ?_, ?_, HG.out.2.2.1, HG.out.2.2.2, HG.out.2.1⟩
       · rw [List.length_append]; exact HG.out.1
       · rw [List.map_append, HO.out.2.1, List.take_add_one, HX1.out]; rfl
     case measure => show ln - ((j : Int) + 1).toNat < ln - ((j : Int)).toNat; omega
   · have hltI : ¬ (j : Int) < (ln : Int) := by omega
     have hjl : j = ln := by omega
     have HT : Hid (t.l.take j = t.l) := by show _ = _; rw [hjl, HLN.out]; exact List.take_length
     clear hlt hjl
     obtain ⟨qy, ⟨y0, y1, y2, y3, y4, y5, y6, y7, y8, y9, y10, y11, y12⟩, g0, g1, g2, g3, g4, g5, g6, g7, g8, g9, g10, g11, g12⟩ := HB.out.2
     go_wp2_with fail
     have hLL := HO.out.1.isL
     rw [HO.out.2.1, HT.out, HO.out.2.2.2] at hLL
     have HLL : Hid (IsL wr (W.heap.size + 1 + 1 ≤ ·) (.slice (some ⟨g, 0, none⟩) j cap) t.l) := hLL
     clear hLL
     show bodyPost Try.prog _ _ _ _ (putX (wr.setCell ⟨W.heap.size, 12, none⟩ (.slice (some ⟨g, 0, none⟩) j cap)) (W.heap.size + 1) t (.slice (some ⟨g, 0, none⟩) j cap))
     have hB6 : BlkX (wr.setCell ⟨W.heap.size, 12, none⟩ (.slice (some ⟨g, 0, none⟩) j cap)) (W.heap.size + 1) tz (.slice none 0 0) := Blk13.far1 HB.out.2 (by omega) 12 _
     have hL6 : IsL (wr.setCell ⟨W.heap.size, 12, none⟩ (.slice (some ⟨g, 0, none⟩) j cap)) (W.heap.size + 1 + 1 ≤ ·) (.slice (some ⟨g, 0, none⟩) j cap) t.l := HLL.out.keep (by simp [World.setCell]) (fun k hk _ => Below.heap_setCell _ _ _ _ (by simp; omega)) (fun _ h _ => h)
     have hE6 : Ext W (wr.setCell ⟨W.heap.size, 12, none⟩ (.slice (some ⟨g, 0, none⟩) j cap)) := HO.out.2.2.1.setCell (Nat.le_refl _) _
     generalize wr.setCell ⟨W.heap.size, 12, none⟩ (.slice (some ⟨g, 0, none⟩) j cap) = W6 at hB6 hL6 hE6 ⊢
     exact endO (hB6.put t _) rfl (putX_L hL6 (fun k hk => by omega)) (fun k hk => by omega) (putX_E hE6 (by omega) _ _) (fun h0 h1 h2 h3 h4 h5 h6 h7 h8 h9 h10 h11 h12 => by simp [results, Try.results14, go_sem, h0, h1, h2, h3, h4, h5, h6, h7, h8, h9, h10, h11, h12, aggX])
theorem own_any (n : Nat) (t : T) (h : Hr n t) : OwnC t := by
 induction n generalizing t with
 | zero => cases h
 | succ n ih => exact own_step t h.1 (fun x hx => ih x (h.2 x hx))
end Go.Proofs.Ytcggiljlilbdfaa
