/-
 strings.Builder: copyCheck and WriteByte, at a builder of the call's own. (The shelf's contracts do not lie at this dump: here a builder's text that was written in another place is refused.)
 The contract of package lex's text.
 Lists of trees that the call makes; the contract of arguments.
 The document's Own: a tree in memory of its own.
 The document's Well, of any tree not too deep.
 The document's Same, of any two trees.
 Cells and runs in memory; the map of columns that region.Find keeps.
 Package region: the order of places, row by row.
-/
import Derived.Test.YtjhmbkdkjgjoaaaDoorX8
import Derived.Shelf.Strings.BuilderX
import Derived.Lib.Builder
import Derived.Laws.Externs
import Derived.Laws.AppendOwn
import Derived.Test.YtjhmbkdkjgjoaaaDoorX12
import Derived.Test.YtjhmbkdkjgjoaaaDoorX9
import Derived.Test.YtjhmbkdkjgjoaaaDoorX10
import Derived.Laws.StructEq
import Derived.Maps.RangeWalk
import Derived.DeepKeys5
import Derived.Deep.WholeRow
import Derived.Deep.MidRow
import Derived.Sort.Grow
namespace Go.Proofs.YtjhmbkdkjgjoaaaDoor
open Go.RowKit
set_option maxHeartbeats 1000000

theorem byte_info : ∃ i, Tryd.prog.info? 5 = some i ∧ i.zero = some (.int .u8 0) ∧ i.size = 1 ∧ i.bytes = 1 := by
 have h : (Tryd.prog.info? 5).map (fun i => (i.zero, i.size, i.bytes)) = some (some (.int .u8 0), 1, 1) := by kernel_rfl
 obtain ⟨j, h1, h2⟩ := Option.map_eq_some_iff.1 h
 simp at h2
 exact ⟨j, h1, h2⟩

open Go.RowKit
set_option maxHeartbeats 1000000

theorem txt_ne (c : UInt8) (r : List UInt8) (h : c ≠ 34) : txt (c :: r) = (txt r).map (fun x => (c :: x.1, x.2 + 1)) := by
 cases r with
 | nil => simp [txt, h]
 | cons d r => rw [txt, if_neg h]
theorem txt_two (r : List UInt8) : txt (34 :: 34 :: r) = (txt r).map (fun x => (34 :: x.1, x.2 + 2)) := by simp [txt]
theorem txt_end (r : List UInt8) (h : r.head? ≠ some 34) : txt (34 :: r) = some ([], 1) := by
 cases r with
 | nil => simp [txt]
 | cons d r => rw [txt, if_pos rfl, if_neg (by simpa using h)]
/-- What is read of a text up to a place. -/
def TxA (l : List UInt8) (k j : Nat) (acc : List UInt8) : Prop := k + 1 ≤ j ∧ acc.length ≤ j ∧ txt (l.drop (k + 1)) = (txt (l.drop j)).map (fun x => (acc ++ x.1, x.2 + (j - (k + 1))))
theorem TxA.start (l : List UInt8) (k : Nat) : TxA l k (k + 1) [] := by
 refine ⟨Nat.le_refl _, Nat.zero_le _, ?_⟩
 cases txt (l.drop (k + 1)) <;> simp
theorem TxA.one {l : List UInt8} {k j : Nat} {acc : List UInt8} (h : TxA l k j acc) (hj : j < l.length) (hc : l[j] ≠ 34) : TxA l k (j + 1) (acc ++ [l[j]]) := by
 obtain ⟨h0, h1, h2⟩ := h
 refine ⟨by omega, by simp; omega, ?_⟩
 rw [h2, List.drop_eq_getElem_cons hj, txt_ne _ _ hc]
 cases txt (l.drop (j + 1)) with
 | none => rfl
 | some x => simp; omega
theorem TxA.two {l : List UInt8} {k j : Nat} {acc : List UInt8} (h : TxA l k j acc) (hj : j + 1 < l.length) (hc : l[j] = 34) (hd : l[j + 1] = 34) : TxA l k (j + 1 + 1) (acc ++ [34]) := by
 obtain ⟨h0, h1, h2⟩ := h
 refine ⟨by omega, by simp; omega, ?_⟩
 rw [h2, List.drop_eq_getElem_cons (by omega : j < l.length), List.drop_eq_getElem_cons hj, hc, hd, txt_two]
 cases txt (l.drop (j + 1 + 1)) with
 | none => rfl
 | some x => simp; omega
theorem TxA.none {l : List UInt8} {k j : Nat} {acc : List UInt8} (h : TxA l k j acc) (hj : l.length ≤ j) : txtR (l.drop k) = .error 4 := by
 have e := h.2.2
 rw [List.drop_eq_nil_of_le hj] at e
 unfold txtR
 rw [List.tail_drop, e]; rfl
theorem TxA.done {l : List UInt8} {k j : Nat} {acc : List UInt8} (h : TxA l k j acc) (hj : j < l.length) (hc : l[j] = 34) (hd : (l.drop (j + 1)).head? ≠ some 34) : txtR (l.drop k) = .ok (1, acc, 0, 0, j + 1 - k) := by
 obtain ⟨h0, h1, e⟩ := h
 rw [List.drop_eq_getElem_cons hj, hc, txt_end _ hd] at e
 unfold txtR
 rw [List.tail_drop, e]
 simp; omega

theorem new_top (w : World) (o : Obj) : (w.alloc o).heap[w.heap.size]? = some o := by show (w.heap.push o)[w.heap.size]? = some o; simp

open Go.RowKit
set_option maxHeartbeats 6000000

def flatX (ps : List (T × Value)) : List Value := ps.flatMap fun p => cellsT p.1 p.2
theorem flatX_append (a b : List (T × Value)) : flatX (a ++ b) = flatX a ++ flatX b := by unfold flatX; rw [List.flatMap_append]
theorem cellsT_length (t : T) (lv : Value) : (cellsT t lv).length = 13 := rfl
theorem flatX_length (a : List (T × Value)) : (flatX a).length = a.length * 13 := by
 induction a with
 | nil => rfl
 | cons p r ih =>
   have : flatX (p :: r) = cellsT p.1 p.2 ++ flatX r := rfl
   rw [this, List.length_append, ih, cellsT_length, List.length_cons]; omega
theorem flatX_at : ∀ (a : List (T × Value)) (i j : Nat) (p : T × Value) (u : Value), a[i]? = some p → (cellsT p.1 p.2)[j]? = some u → (flatX a)[i * 13 + j]? = some u
 | [], _, _, _, _, h, _ => by simp at h
 | q :: r, 0, j, p, u, h, hu => by
   simp at h; subst h
   have : flatX (q :: r) = cellsT q.1 q.2 ++ flatX r := rfl
   rw [this, Nat.zero_mul, Nat.zero_add, List.getElem?_append_left (List.getElem?_eq_some_iff.mp hu).1]; exact hu
 | q :: r, i + 1, j, p, u, h, hu => by
   have ih := flatX_at r i j p u (by simpa using h) hu
   have : flatX (q :: r) = cellsT q.1 q.2 ++ flatX r := rfl
   rw [this, List.getElem?_append_right (by rw [cellsT_length]; omega), cellsT_length, show (i + 1) * 13 + j - 13 = i * 13 + j by omega]; exact ih
theorem info_x : ∃ i, Tryd.prog.info? 34 = some i ∧ i.zero = some (.agg #[.int .i64 0, .int .i64 0, .string ⟨#[]⟩, .int .i64 0, .int .i64 0, .int .i64 0, .bool false, .bool false, .int .i64 0, .int .i64 0, .bool false, .bool false, .slice none 0 0]) ∧ i.size = 13 ∧ i.bytes = 112 := by
 have h2 : (Tryd.prog.info? 34).bind (fun i => i.zero) = some (.agg #[.int .i64 0, .int .i64 0, .string ⟨#[]⟩, .int .i64 0, .int .i64 0, .int .i64 0, .bool false, .bool false, .int .i64 0, .int .i64 0, .bool false, .bool false, .slice none 0 0]) := by kernel_rfl
 have h3 : (Tryd.prog.info? 34).map (fun i => (i.size, i.bytes)) = some (13, 112) := by kernel_rfl
 cases h : Tryd.prog.info? 34 with
 | none => rw [h] at h2; cases h2
 | some i =>
   rw [h] at h2 h3
   simp at h2 h3
   exact ⟨i, rfl, h2, h3.1, h3.2⟩
/-- v holds the trees ps in a block of the call's own, from base on; what they hang on lies in other blocks. -/
def OwX (w : World) (base : Nat) (v : Value) (ps : List (T × Value)) : Prop := w.ownsRow base 34 13 v ps.length (flatX ps) ∧ ∀ p ∈ ps, IsL w (fun k => base ≤ k ∧ v.ownBlock ≠ some k) p.2 p.1.l
theorem OwX.isL {w : World} {base : Nat} {v : Value} {ps : List (T × Value)} (h : OwX w base v ps) : IsL w (base ≤ ·) v (ps.map Prod.fst) := by
 obtain ⟨⟨_, h1⟩, h2⟩ := h
 rcases h1 with ⟨h1, h0⟩ | ⟨g, cap, cur, h1, h3, h4, h5, h6, h7, h8⟩
 · have : ps = [] := List.eq_nil_of_length_eq_zero h0
   subst this h1
   exact .nil
 · subst h1
   refine .mk g 0 cap ps.length _ (fun i => match ps[i]? with | some p => p.2 | none => .slice none 0 0) (by simp) h5 h3 (heap_lt h4) ?_ ?_
   · intro i t j u hi hj
     rw [List.getElem?_map, Option.map_eq_some_iff] at hi
     obtain ⟨p, hp, rfl⟩ := hi
     simp only [hp] at hj
     have k := flatX_at ps i j p u hp hj
     have hj13 : i * 13 + j < (flatX ps).length := (List.getElem?_eq_some_iff.mp k).1
     rw [flatX_length] at hj13
     rw [cell_of_row w g _ cur _ (0, 0) h4, Nat.zero_add, ← Array.getElem?_toList]
     rw [← h8, List.getElem?_take, if_pos (by omega)] at k
     exact k
   · intro i t hi
     rw [List.getElem?_map, Option.map_eq_some_iff] at hi
     obtain ⟨p, hp, rfl⟩ := hi
     simp only [hp]
     exact (h2 p (List.mem_of_getElem? hp)).mono (fun k hk _ => hk.1)
theorem OwX.far {w : World} {base : Nat} {v : Value} {ps : List (T × Value)} (h : OwX w base v ps) {b : Nat} (hb : b < base) : v.ownBlock ≠ some b := by
 rcases h.1.2 with ⟨h1, h2⟩ | ⟨g, cap, cur, h1, h2, h3⟩
 · rw [h1]; simp [Value.ownBlock]
 · rw [h1]; simp [Value.ownBlock]; omega
theorem OwX.extB {b base : Nat} {w w' : World} {v : Value} {ps : List (T × Value)} (h : OwX w base v ps) (e : ExtB b w w') (hb : b < base) : OwX w' base v ps := by
 refine ⟨⟨h.1.1, ?_⟩, fun p hp => (h.2 p hp).extB e (fun k hk => by omega)⟩
 rcases h.1.2 with h2 | ⟨g, cap, cur, h1, h2, h3, h4⟩
 · exact .inl h2
 · exact .inr ⟨g, cap, cur, h1, h2, (e.block g (heap_lt h3) (by omega)).trans h3, h4⟩
/-- One tree in a new block. -/
theorem OwX.one {W W' : World} {base : Nat} {x : T} {pp : Option Addr} {ln cl : Nat} (hb : base ≤ W.heap.size) (hL : IsL W (base ≤ ·) (.slice pp ln cl) x.l) (hW : W' = W.alloc (.cells #[.int .i64 x.k, .int .i64 x.n, .string (bs x.s), .int .i64 x.e, .int .i64 x.r.1, .int .i64 x.r.2.1, .bool x.r.2.2.1, .bool x.r.2.2.2, .int .i64 x.q.1, .int .i64 x.q.2.1, .bool x.q.2.2.1, .bool x.q.2.2.2, .slice pp ln cl] 34)) : OwX W' base (.slice (some ⟨W.heap.size, 0, none⟩) 1 1) [(x, .slice pp ln cl)] := by
 subst hW
 refine ⟨⟨rfl, .inr ⟨W.heap.size, 1, #[.int .i64 x.k, .int .i64 x.n, .string (bs x.s), .int .i64 x.e, .int .i64 x.r.1, .int .i64 x.r.2.1, .bool x.r.2.2.1, .bool x.r.2.2.2, .int .i64 x.q.1, .int .i64 x.q.2.1, .bool x.q.2.2.1, .bool x.q.2.2.2, .slice pp ln cl], rfl, hb, ?_, Nat.le_refl _, by unfold maxLen; omega, rfl, rfl⟩⟩, ?_⟩
 · show (W.heap.push _)[W.heap.size]? = _; simp
 · intro p hp
   simp at hp; subst hp
   exact (hL.mono (P' := fun k => base ≤ k ∧ (Value.slice (some ⟨W.heap.size, 0, none⟩) 1 1).ownBlock ≠ some k) (fun k hk hs => ⟨hk, by simp [Value.ownBlock]; omega⟩)).ext ((Ext.refl _).alloc _)
theorem Stt.grown {w0 W W' : World} {b d base : Nat} {ts : List Tk} {v : Value} {ps : List (T × Value)} (hS : Stt w0 b W ts d) (h : W.grownBy W' v.ownBlock) (hB : OwX W base v ps) (hb : b < base) (h0 : w0.heap.size ≤ base) : Stt w0 b W' ts d := by
 obtain ⟨h1, h2, h3, h4, h5', h6, h7, tb, off, c, h8, h9, h10, h11, h12⟩ := hS
 have k := fun o => (World.cell?_of_block (a := ⟨b, o, none⟩) (h.block b h3 (fun e => hB.far hb e.symm)))
 have f := fun o => (World.frozen?_of_block (a := ⟨b, o, none⟩) (h.block b h3 (fun e => hB.far hb e.symm)))
 refine ⟨⟨h.os.trans h1.os, h.tape.trans h1.tape, h.output.trans h1.output, Nat.le_trans h1.size h.size, fun i hi => ?_⟩, h2, Nat.lt_of_lt_of_le h3 h.size, h4, h5', h6, h7, tb, off, c, h8, (k 0).trans h9, (f 0).trans h10, (k 1).trans h11, (f 1).trans h12⟩
 exact (h.block i (Nat.lt_of_lt_of_le hi h1.size) (fun e => hB.far (Nat.lt_of_lt_of_le hi h0) e.symm)).trans (h1.block i hi)
def left (b : Nat) (w : World) : Nat := match w.cell? ⟨b, 0, none⟩ with
 | some (.slice _ n _) => n
 | _ => 0
theorem Stt.left {w0 w : World} {b d : Nat} {ts : List Tk} (h : Stt w0 b w ts d) : left b w = ts.length := by
 obtain ⟨tb, off, cc, b0, _⟩ := h.get
 unfold Go.Proofs.YtjhmbkdkjgjoaaaDoor.left; rw [b0]

open Go.RowKit
set_option maxHeartbeats 6000000

/-- An empty list in a new block. -/
theorem OwX.zero {W W' : World} {base g : Nat} (hW : W' = W.alloc (.cells #[] 34)) (hg : g = W.heap.size) (hb : base ≤ g) : OwX W' base (.slice (some ⟨g, 0, none⟩) 0 0) [] := by
 subst hW hg
 refine ⟨⟨rfl, .inr ⟨W.heap.size, 0, #[], rfl, hb, ?_, Nat.le_refl _, Nat.zero_le _, rfl, rfl⟩⟩, fun p hp => by cases hp⟩
 show (W.heap.push _)[W.heap.size]? = _; simp
theorem OwX.ext {w w' : World} {base : Nat} {v : Value} {ps : List (T × Value)} (h : OwX w base v ps) (e : Ext w w') : OwX w' base v ps := by
 refine ⟨⟨h.1.1, ?_⟩, fun p hp => (h.2 p hp).ext e⟩
 rcases h.1.2 with h2 | ⟨g, cap, cur, h1, h2, h3, h4⟩
 · exact .inl h2
 · exact .inr ⟨g, cap, cur, h1, h2, (e.block g (heap_lt h3)).trans h3, h4⟩
theorem BlkX.grown {W W' : World} {base g : Nat} {v lv : Value} {t : T} {ps : List (T × Value)} (B : BlkX W g t lv) (h : W.grownBy W' v.ownBlock) (hB : OwX W base v ps) (hg : g < base) : BlkX W' g t lv := by
 have hz := B.1
 have hb := h.block g hz (fun e => hB.far hg e.symm)
 obtain ⟨z, ⟨k0, k1, k2, k3, k4, k5, k6, k7, k8, k9, k10, k11, k12⟩, f0, f1, f2, f3, f4, f5, f6, f7, f8, f9, f10, f11, f12⟩ := B
 have k := fun o => World.cell?_of_block (a := ⟨g, o, none⟩) hb
 have f := fun o => World.frozen?_of_block (a := ⟨g, o, none⟩) hb
 exact ⟨Nat.lt_of_lt_of_le z h.size, ⟨(k 0).trans k0, (k 1).trans k1, (k 2).trans k2, (k 3).trans k3, (k 4).trans k4, (k 5).trans k5, (k 6).trans k6, (k 7).trans k7, (k 8).trans k8, (k 9).trans k9, (k 10).trans k10, (k 11).trans k11, (k 12).trans k12⟩, (f 0).trans f0, (f 1).trans f1, (f 2).trans f2, (f 3).trans f3, (f 4).trans f4, (f 5).trans f5, (f 6).trans f6, (f 7).trans f7, (f 8).trans f8, (f 9).trans f9, (f 10).trans f10, (f 11).trans f11, (f 12).trans f12⟩

open Go.RowKit
set_option maxHeartbeats 6000000

open Go.RowKit
set_option maxHeartbeats 6000000

/-- Whether two lists are alike by g, one by one. -/
def allZ (g : T → T → Bool) : List T → List T → Bool
 | [], [] => true
 | a :: l, b :: m => g a b && allZ g l m
 | _, _ => false
/-- Whether two trees are one. -/
def sameT : Nat → T → T → Bool
 | 0, _, _ => false
 | n + 1, a, b => if ¬ a.k = b.k then false else if a.k = 0 ∨ a.k = 2 then a.n == b.n else if a.k = 3 then a.e == b.e else if a.k = 4 then decide (a.r = b.r) else if a.k = 5 then (decide (a.r = b.r) && decide (a.q = b.q)) else
   if a.k = 1 then a.s == b.s else if ¬ (a.k = 6 ∨ a.k = 7 ∨ a.k = 8) then true else if ¬ a.k = 6 ∧ ¬ a.s = b.s then false else allZ (sameT n) a.l b.l
theorem allZ_len (g : T → T → Bool) (l m : List T) (h : l.length ≠ m.length) : allZ g l m = false := by
 induction l generalizing m with
 | nil => cases m with
   | nil => exact absurd rfl h
   | cons => rfl
 | cons a l ih => cases m with
   | nil => rfl
   | cons b m =>
     unfold allZ
     rw [ih m (by simpa using h)]
     simp
theorem allZ_take (g : T → T → Bool) (l m : List T) (j : Nat) (x y : T) (hx : l[j]? = some x) (hy : m[j]? = some y) : allZ g (l.take (j + 1)) (m.take (j + 1)) = (allZ g (l.take j) (m.take j) && g x y) := by
 induction j generalizing l m with
 | zero =>
   cases l with
   | nil => cases hx
   | cons a l => cases m with
     | nil => cases hy
     | cons b m => simp at hx hy; subst hx hy; simp [allZ]
 | succ j ih =>
   cases l with
   | nil => cases hx
   | cons a l => cases m with
     | nil => cases hy
     | cons b m =>
       simp at hx hy
       rw [List.take_succ_cons, List.take_succ_cons, List.take_succ_cons, List.take_succ_cons, allZ, allZ, ih l m hx hy, Bool.and_assoc]
theorem allZ_no (g : T → T → Bool) (l m : List T) (j : Nat) (x y : T) (hx : l[j]? = some x) (hy : m[j]? = some y) (h : g x y = false) : allZ g l m = false := by
 induction j generalizing l m with
 | zero =>
   cases l with
   | nil => cases hx
   | cons a l => cases m with
     | nil => cases hy
     | cons b m => simp at hx hy; subst hx hy; simp [allZ, h]
 | succ j ih =>
   cases l with
   | nil => cases hx
   | cons a l => cases m with
     | nil => cases hy
     | cons b m => simp at hx hy; simp [allZ, ih l m hx hy]
theorem eq_rf (s t : Rf) (w : World) : Sem.run Tryd.prog (Op.equalIn 10000 31 (.agg #[.int .i64 s.1, .int .i64 s.2.1, .bool s.2.2.1, .bool s.2.2.2]) (.agg #[.int .i64 t.1, .int .i64 t.2.1, .bool t.2.2.1, .bool t.2.2.2])) w = .ok (decide (s = t)) w := by
 have u3 := Tryd.underlying3
 have a3 := Tryd.isAgg3
 have z3 := Tryd.sizeOf3
 have u4 := Tryd.underlying4
 have hS : Tryd.prog.underlying 31 = some (.struct (Tryd.prog.fieldsOf 31)) := by kernel_rfl
 have hp : Tryd.prog.stoodInHeld 31 = false := by kernel_rfl
 obtain ⟨s1, s2, s3, s4⟩ := s
 obtain ⟨t1, t2, t3, t4⟩ := t
 rw [show (10000 : Nat) = 9999 + 1 from rfl, run_equalIn_agg w 9999 31 _ _ hS hp]
 simp only [Program.fieldsOf, Tryd.underlying31]
 go_simp
 by_cases h1 : s1 = t1 <;> by_cases h2 : s2 = t2 <;> by_cases h3 : s3 = t3 <;> by_cases h4 : s4 = t4 <;> simp [h1, h2, h3, h4]
theorem gd_rf (x y : Array Value) (op : BinOp) (a b : Operand) (w : World) : (eqGuard op 31 a b (.agg x) (.agg y)).run Tryd.prog w = .ok () w := run_eqGuard_agg w op 31 a b x y (by kernel_rfl)
theorem bs_tl9 (x : List UInt8) : (bs x).toList = x := by rw [ByteArray.toList_eq]; rfl
def SmC (K : FuncId) (P : Nat → Prop) (n : Nat) (a : T) : Prop := ∀ (b : T) (W : World) (pp qq : Option Addr) (ln cl lm cm : Nat), IsL W P (.slice pp ln cl) a.l → IsL W P (.slice qq lm cm) b.l →
 Calls Tryd.prog K #[.agg #[.int .i64 a.k, .int .i64 a.n, .string (bs a.s), .int .i64 a.e, .int .i64 a.r.1, .int .i64 a.r.2.1, .bool a.r.2.2.1, .bool a.r.2.2.2, .int .i64 a.q.1, .int .i64 a.q.2.1, .bool a.q.2.2.1, .bool a.q.2.2.2, .slice pp ln cl], .agg #[.int .i64 b.k, .int .i64 b.n, .string (bs b.s), .int .i64 b.e, .int .i64 b.r.1, .int .i64 b.r.2.1, .bool b.r.2.2.1, .bool b.r.2.2.2, .int .i64 b.q.1, .int .i64 b.q.2.1, .bool b.q.2.2.1, .bool b.q.2.2.2, .slice qq lm cm]] W fun e w' => e = .returned (.bool (sameT n a b)) ∧ Ext W w'

open Go.RowKit
open Go.Maps (Keyed)
set_option maxHeartbeats 1000000

theorem iwrap {x : Int} (h : -1000000000 ≤ x) (h2 : x ≤ 1000000000) : IntKind.i64.wrap x = x := by
 simp only [IntKind.wrap, IntKind.signed, IntKind.bits]
 simp
 omega
theorem iwrap64 {x : Int} (h : -1000000000 ≤ x) (h2 : x ≤ 1000000000) : wrap64 x = x := by unfold wrap64; omega
def cRn (x : Rn) : List Value := [.int .i64 x.1, .int .i64 x.2.1, .int .i64 x.2.2]
theorem cRn_len (x : Rn) : (cRn x).length = 3 := rfl
theorem cRn_one (x : Rn) : ∀ v ∈ cRn x, v.oneCell' = true := by intro v hv; simp [cRn] at hv; rcases hv with rfl | rfl | rfl <;> rfl
theorem elt_mk {TS T : TypeId} {k bytes : Nat} {z : Value} (hu : Tryd.prog.underlying TS = some (.slice T)) (h1 : (Tryd.prog.info? T).isSome = true) (h2 : (Tryd.prog.info? T).bind (fun i => i.zero) = some z) (h3 : (Tryd.prog.info? T).map (fun i => (i.size, i.bytes)) = some (k, bytes)) (hz : z.cells.size = k) (hk : 0 < k) : Elt TS T k bytes := by
 refine ⟨hu, ?_, hk⟩
 cases h : Tryd.prog.info? T with
 | none => rw [h] at h1; cases h1
 | some i =>
   rw [h] at h2 h3
   simp at h2 h3
   exact ⟨i, _, rfl, h2, h3.1, h3.2, hz⟩
theorem eltRn : Elt 43 46 3 24 := elt_mk (z := .agg #[.int .i64 0, .int .i64 0, .int .i64 0]) Tryd.underlying43 (by kernel_rfl) (by kernel_rfl) (by kernel_rfl) rfl (by decide)
/-- A cell, its parts' slice being lv. -/
def cC (c : Cl) (lv : Value) : List Value := [.int .i64 c.row, .int .i64 c.col, .string c.txt, .bool c.is, .int .i64 c.x.k, .int .i64 c.x.n, .string (bs c.x.s), .int .i64 c.x.e, .int .i64 c.x.r.1, .int .i64 c.x.r.2.1, .bool c.x.r.2.2.1, .bool c.x.r.2.2.2, .int .i64 c.x.q.1, .int .i64 c.x.q.2.1, .bool c.x.q.2.2.1, .bool c.x.q.2.2.2, lv, .int .i64 c.vk, .int .i64 c.vn, .string c.vs, .int .i64 c.ve]
def aggC (c : Cl) (lv : Value) : Value := .agg #[.int .i64 c.row, .int .i64 c.col, .string c.txt, .bool c.is, .int .i64 c.x.k, .int .i64 c.x.n, .string (bs c.x.s), .int .i64 c.x.e, .int .i64 c.x.r.1, .int .i64 c.x.r.2.1, .bool c.x.r.2.2.1, .bool c.x.r.2.2.2, .int .i64 c.x.q.1, .int .i64 c.x.q.2.1, .bool c.x.q.2.2.1, .bool c.x.q.2.2.2, lv, .int .i64 c.vk, .int .i64 c.vn, .string c.vs, .int .i64 c.ve]
/-- A column's runs and its lowest formula. -/
def aggS (v : Value) (c : Cl) (lv : Value) : Value := .agg #[v, .int .i64 c.row, .int .i64 c.col, .string c.txt, .bool c.is, .int .i64 c.x.k, .int .i64 c.x.n, .string (bs c.x.s), .int .i64 c.x.e, .int .i64 c.x.r.1, .int .i64 c.x.r.2.1, .bool c.x.r.2.2.1, .bool c.x.r.2.2.2, .int .i64 c.x.q.1, .int .i64 c.x.q.2.1, .bool c.x.q.2.2.1, .bool c.x.q.2.2.2, lv, .int .i64 c.vk, .int .i64 c.vn, .string c.vs, .int .i64 c.ve]
/-- The slice v holds the cells l, their parts in blocks below B. -/
def RdC (B : Nat) (W : World) (v : Value) (l : List Cl) : Prop :=
 ∃ p c, v = .slice p l.length c ∧ l.length ≤ c ∧ (l = [] ∨ ∃ (b off : Nat) (lvs : Nat → Value), p = some ⟨b, off, none⟩ ∧ b < W.heap.size ∧
   (∀ (i : Nat) x (j : Nat) u, l[i]? = some x → (cC x (lvs i))[j]? = some u → W.cell? ⟨b, off + i * 21 + j, none⟩ = some u) ∧ ∀ (i : Nat) x, l[i]? = some x → IsL W (fun k => k < B) (lvs i) x.x.l)
theorem RdC.ext {B : Nat} {W W' : World} {v : Value} {l : List Cl} (h : RdC B W v l) (e : Ext W W') : RdC B W' v l := by
 obtain ⟨p, c, h1, h2, h3⟩ := h
 refine ⟨p, c, h1, h2, ?_⟩
 rcases h3 with h3 | ⟨b, off, lvs, h3, h4, h5, h6⟩
 · exact .inl h3
 · refine .inr ⟨b, off, lvs, h3, Nat.lt_of_lt_of_le h4 e.size, fun i x j u hi hj => ?_, fun i x hi => (h6 i x hi).ext e⟩
   exact ((cells_heap (e.block b h4) _).1).trans (h5 i x j u hi hj)
theorem RdC.form {B : Nat} {W : World} {v : Value} {l : List Cl} (h : RdC B W v l) : ∃ p c, v = .slice p l.length c ∧ l.length ≤ c := by
 obtain ⟨p, c, h1, h2, _⟩ := h
 exact ⟨p, c, h1, h2⟩
theorem RdC.len {B : Nat} {W : World} {p : Option Addr} {n c : Nat} {l : List Cl} (h : RdC B W (.slice p n c) l) : n = l.length := by
 obtain ⟨_, _, h1, _⟩ := h
 cases h1; rfl
theorem RdC.at {B : Nat} {W : World} {p : Option Addr} {n c : Nat} {l : List Cl} (h : RdC B W (.slice p n c) l) {i : Nat} {x : Cl} (hi : l[i]? = some x) :
   ∃ b off lv, p = some ⟨b, off, none⟩ ∧ b < W.heap.size ∧ IsL W (fun k => k < B) lv x.x.l ∧ ∀ j u, (cC x lv)[j]? = some u → W.cell? ⟨b, off + i * 21 + j, none⟩ = some u := by
 obtain ⟨_, _, h1, _, h3⟩ := h
 cases h1
 rcases h3 with rfl | ⟨b, off, lvs, h3, h4, h5, h6⟩
 · simp at hi
 · exact ⟨b, off, lvs i, h3, h4, h6 i x hi, fun j u hj => h5 i x j u hi hj⟩
/-- A whole struct into the block that was made last, at the operation. -/
theorem wpList_storeN {P : Program} {ops : Array Oper} {rest : List Oper} {o : Oper} {a : Act} {Q : Exit → Act → World → Prop} (w : World) (hg : o.guard = none) (x v : Operand) (t : TypeId) (hop : o.op = Op.store t x v) (c c' : Array Value) (hx : a.eval x = .pointer (some ⟨w.heap.size, 0, none⟩)) (hv : a.eval v = .agg c')
   (hi : (P.info? t).map (·.size) = some c'.size) (ho : c.size = c'.size) (h1 : c'.all (·.oneCell') = true) (hK : wpList P ops Q rest (a.put o.dst undef) (w.alloc (.cells c' t))) : wpList P ops Q (o :: rest) a (w.alloc (.cells c t)) := by
 refine wpList_plain hg fun K' hK' => ?_
 have hrun := run_storeAt_new (P := P) w t c c' hi ho h1
 unfold Oper.wp
 simp [execOp, hop, hx, hv, hrun, Result.andThen]
 exact hK' _ _ hK
theorem rng_ext {W V : World} {b o : Nat} {cs : List Value} (h : W.rangeAt b o cs) (e : Ext W V) (hb : b < W.heap.size) : V.rangeAt b o cs := fun j v hj => ((cells_heap (e.block b hb) _).1).trans (h j v hj)
theorem rng_top {W V : World} {cs : List Value} {T : TypeId} (e : Ext (W.alloc (.cells cs.toArray T)) V) : V.rangeAt W.heap.size 0 cs := fun j v hj => by
 rw [Nat.zero_add, cell_of_row V _ j _ _ (0, 0) e.top]
 simpa using hj

/-! ### The map of columns -/
theorem ikLaw : Keyed Tryd.prog 3 := Maps.int_keyed Tryd.underlying3
theorem ik_mk {k : Int} (h : I64 k) : keyOf Tryd.prog 3 (.int .i64 k) = some (.int .i64 k) := Maps.keyOf_int_mk Tryd.underlying3 (WalkArith.wf_i64 (by unfold I64 at h; omega))
/-- An element reads as itself. -/
def hR (v : Value) : Option (DataW Value × List MemPlace) := some (.held v, [])
def zS : Value := .agg #[.slice none 0 0, .int .i64 0, .int .i64 0, .string ByteArray.empty, .bool false, .int .i64 0, .int .i64 0, .string ByteArray.empty, .int .i64 0, .int .i64 0, .int .i64 0, .bool false, .bool false, .int .i64 0, .int .i64 0, .bool false, .bool false, .slice none 0 0, .int .i64 0, .int .i64 0, .string ByteArray.empty, .int .i64 0]
theorem zeroS (W : World) : (zeroValue 66).run Tryd.prog W = .ok zS W := by kernel_rfl
theorem zS_eq : zS = aggS (.slice none 0 0) clz (.slice none 0 0) := by kernel_rfl
/-- The columns lie in the map of block g: vs their runs, lvs the parts of their lowest formulas. -/
structure ColM (W : World) (base g : Nat) (D : DataW Value) (vs lvs : Int → Value) (σ : Spn) : Prop where
 bg : base ≤ g
 at_ : ∀ k, I64 k → D.atKey (.int .i64 k) (.held zS) = .held (aggS (vs k) (σ k).2 (lvs k))
 row : ∀ k, W.ownsRow base 46 3 (vs k) (σ k).1.length ((σ k).1.flatMap cRn)
 tree : ∀ k, IsL W (fun b => b < base) (lvs k) (σ k).2.x.l
 sep : ∀ k k' q, k ≠ k' → (vs k).ownBlock = some q → (vs k').ownBlock ≠ some q
/-- What Find keeps: behind block t the map of the columns. -/
structure FsS (w0 W : World) (t n : Nat) (σ : Spn) : Prop where
 e : Ext w0 W
 bt : w0.heap.size ≤ t
 ok : SpOk σ n
 map : ∃ g D vs lvs, W.heap[t]? = some (.cells #[.map (some g)] 64 (0, 0)) ∧ W.ownsMap Tryd.prog 3 hR g n D ∧ ColM W w0.heap.size g D vs lvs σ
theorem own_heap {W : World} {base n k : Nat} {T : TypeId} {v : Value} {xs : List Value} (h : W.ownsRow base T k v n xs) {q : Nat} (hq : v.ownBlock = some q) : base ≤ q ∧ ∃ cur, W.heap[q]? = some (.cells cur T (0, 0)) := by
 rcases h.2 with ⟨rfl, _⟩ | ⟨g, cap, cur, rfl, h2, h3, _⟩
 · cases hq
 · cases hq
   exact ⟨h2, cur, h3⟩
theorem own_kept {W W' : World} {bs n k : Nat} {T : TypeId} {v : Value} {xs : List Value} (h : W.ownsRow bs T k v n xs) (hk : ∀ g, v.ownBlock = some g → g < W.heap.size → W'.heap[g]? = W.heap[g]?) : W'.ownsRow bs T k v n xs := by
 refine ⟨h.1, ?_⟩
 rcases h.2 with h | ⟨g, cap, cur, rfl, h2, h3, h4⟩
 · exact .inl h
 · exact .inr ⟨g, cap, cur, rfl, h2, (hk g rfl (heap_lt h3)).trans h3, h4⟩
theorem ColM.ext {W W' : World} {base g : Nat} {D : DataW Value} {vs lvs : Int → Value} {σ : Spn} (h : ColM W base g D vs lvs σ) (e : Ext W W') : ColM W' base g D vs lvs σ :=
 ⟨h.bg, h.at_, fun k => ownsRow_ext (h.row k) e, fun k => (h.tree k).ext e, h.sep⟩
theorem ownsMap_ext {W W' : World} {g n : Nat} {D : DataW Value} {T : TypeId} (h : W.ownsMap Tryd.prog T hR g n D) (e : Ext W W') : W'.ownsMap Tryd.prog T hR g n D := by
 obtain ⟨es, clock, hb, r⟩ := h
 exact ⟨es, clock, (e.block g (heap_lt hb)).trans hb, r⟩
theorem FsS.ext {w0 W W' : World} {t n : Nat} {σ : Spn} (h : FsS w0 W t n σ) (e : Ext W W') : FsS w0 W' t n σ := by
 obtain ⟨g, D, vs, lvs, h1, h2, h3⟩ := h.map
 exact ⟨h.e.trans e, h.bt, h.ok, g, D, vs, lvs, (e.block t (heap_lt h1)).trans h1, ownsMap_ext h2 e, h3.ext e⟩
theorem col_look {W : World} {base g n : Nat} {D : DataW Value} {vs lvs : Int → Value} {σ : Spn} (own : W.ownsMap Tryd.prog 3 hR g n D) (h : ColM W base g D vs lvs σ) {k : Int} (hk : I64 k) :
   (Instr.lookup 64 (.map (some g)) (.int .i64 k) false).run Tryd.prog W = .ok (aggS (vs k) (σ k).2 (lvs k)) W := by
 obtain ⟨v, ps, h3, h4⟩ := own.lookup ikLaw Tryd.underlying64 (zeroS W) (zd := .held zS) (zp := []) rfl (ik_mk hk)
 rw [h.at_ k hk] at h4
 unfold hR at h4
 simp at h4
 rw [← h4.1]
 exact h3
theorem putS_self (σ : Spn) (k : Int) (s : List Rn × Cl) : putS σ k s k = s := by unfold putS; simp
theorem putS_ne (σ : Spn) {k i : Int} (s : List Rn × Cl) (h : i ≠ k) : putS σ k s i = σ i := by unfold putS; rw [if_neg h]
/-- A column is laid in anew: its runs' row may have turned, the map too, nothing else that was there from base on. -/
theorem ColM.put {W W' : World} {base g : Nat} {D : DataW Value} {vs lvs : Int → Value} {σ : Spn} (h : ColM W base g D vs lvs σ) (hD : Maps.IsMap D) {k : Int} (hk : I64 k) {v lv : Value} {s : List Rn × Cl}
   (hn : v.ownBlock = (vs k).ownBlock ∨ ∃ q, v.ownBlock = some q ∧ W.heap.size ≤ q)
   (ho : W'.ownsRow base 46 3 v s.1.length (s.1.flatMap cRn)) (hl : IsL W' (fun b => b < base) lv s.2.x.l) (e0 : ∀ q, q < base → q < W.heap.size → W'.heap[q]? = W.heap[q]?) (hz : W.heap.size ≤ W'.heap.size)
   (e1 : ∀ q, q < W.heap.size → some q ≠ (vs k).ownBlock → (∃ cur, W.heap[q]? = some (.cells cur 46 (0, 0))) → W'.heap[q]? = W.heap[q]?) :
   ColM W' base g (D.put (.int .i64 k) (.held (aggS v s.2 lv))) (fun i => if i = k then v else vs i) (fun i => if i = k then lv else lvs i) (putS σ k s) := by
 have hkk := ikLaw.key (ik_mk hk)
 refine ⟨h.bg, fun i hi => ?_, fun i => ?_, fun i => ?_, fun i j q hij hq => ?_⟩
 · by_cases hik : i = k
   · subst hik
     rw [Maps.atKey_put_same hD hkk, putS_self]
     simp
   · have hne : (Lit.int .i64 i) ≠ Lit.int .i64 k := fun he => hik (by cases he; rfl)
     rw [Maps.atKey_put_other hne, h.at_ i hi, putS_ne _ _ hik]
     simp [hik]
 · by_cases hik : i = k
   · subst hik; rw [putS_self]; simpa using ho
   · rw [putS_ne _ _ hik]
     simp only [if_neg hik]
     refine own_kept (h.row i) (fun q hq hlt => e1 q hlt (fun e => h.sep i k q hik hq e.symm) (own_heap (h.row i) hq).2)
 · by_cases hik : i = k
   · subst hik; rw [putS_self]; simpa using hl
   · rw [putS_ne _ _ hik]
     simp only [if_neg hik]
     exact (h.tree i).keep hz (fun q hq hlt => e0 q hq hlt) (fun _ h _ => h)
 · by_cases hik : i = k
   · subst hik
     have hj : ¬ j = i := fun e => hij e.symm
     simp only [if_true] at hq
     simp only [if_neg hj]
     rcases hn with hn | ⟨q', hn, hs⟩
     · rw [hn] at hq; exact h.sep i j q hij hq
     · rw [hn] at hq
       cases hq
       intro e
       obtain ⟨_, cur, h3⟩ := own_heap (h.row j) e
       have := heap_lt h3
       omega
   · simp only [if_neg hik] at hq
     by_cases hj : j = k
     · subst hj
       simp only [if_true]
       rcases hn with hn | ⟨q', hn, hs⟩
       · rw [hn]; exact h.sep i j q hij hq
       · rw [hn]
         intro e
         cases e
         obtain ⟨_, cur, h3⟩ := own_heap (h.row i) hq
         have := heap_lt h3
         omega
     · simp only [if_neg hj]
       exact h.sep i j q hij hq

open Go.RowKit Go.Sort
set_option maxHeartbeats 1000000

abbrev Plc := Int × Int
theorem rbox2 {w w1 : World} {a b : Value} {T : TypeId} (E : Ext (w.alloc (.cells #[a, b] T)) w1) : w1.cell? ⟨w.heap.size, 0, none⟩ = some a ∧ w1.cell? ⟨w.heap.size, 1, none⟩ = some b := by
 have h := E.top
 exact ⟨(cell_of_row _ _ 0 _ _ (0, 0) h).trans rfl, (cell_of_row _ _ 1 _ _ (0, 0) h).trans rfl⟩
def rcmp (x y : Int) : Int := if x < y then -1 else if y < x then 1 else 0
def cmpQ (x y : Plc) : Int := if rcmp x.1 y.1 ≠ 0 then rcmp x.1 y.1 else rcmp x.2 y.2
theorem isnan_any (a : Int) (W : World) : Calls Tryd.prog 72 #[.int .i64 a] W fun e w' => e = .returned (.bool false) ∧ w' = W := by
 have h : (a != a) = false := by simp
 go_enter Tryd.func72, Tryd.ntmps72
 go_wp2_with fail
 go_ret
 exact ⟨by simp, rfl⟩
theorem ccmp_any (a b : Int) (W : World) : Calls Tryd.prog 63 #[.int .i64 a, .int .i64 b] W fun e w' => e = .returned (.int .i64 (rcmp a b)) ∧ w' = W := by
 have ca := fun V => isnan_any a V
 have cb := fun V => isnan_any b V
 obtain ⟨r, hr⟩ : ∃ r, rcmp a b = r := ⟨_, rfl⟩
 have HR : Hid (rcmp a b = r) := hr
 rw [hr]
 clear hr
 go_enter Tryd.func63, Tryd.ntmps63
 go_wp2_with fail
 refine (ca _).mono ?_
 rintro e w1 ⟨rfl, rfl⟩
 go_wp2_with fail
 refine (cb _).mono ?_
 rintro e w2 ⟨rfl, rfl⟩
 by_cases h1 : a < b
 · have d1 : decide (a < b) = true := by simp [h1]
   have he : Hid (r = -1) := by rw [← HR.out]; unfold rcmp; rw [if_pos h1]; exact rfl
   clear h1
   go_wp2_with fail
   go_ret
   exact ⟨by rw [he.out]; rfl, rfl⟩
 · have d1 : decide (a < b) = false := by simp [h1]
   by_cases h2 : b < a
   · have d2 : decide (b < a) = true := by simp [h2]
     have he : Hid (r = 1) := by rw [← HR.out]; unfold rcmp; rw [if_neg h1, if_pos h2]; exact rfl
     clear h1 h2
     go_wp2_with fail
     go_ret
     exact ⟨by rw [he.out]; rfl, rfl⟩
   · have d2 : decide (b < a) = false := by simp [h2]
     have he : Hid (r = 0) := by rw [← HR.out]; unfold rcmp; rw [if_neg h1, if_neg h2]; exact rfl
     clear h1 h2
     go_wp2_with fail
     go_ret
     exact ⟨by rw [he.out]; rfl, rfl⟩
set_option maxRecDepth 100000 in
theorem cmpor_any (a b : Int) (g : Nat) (W : World) (h0 : W.cell? ⟨g, 0, none⟩ = some (.int .i64 a)) (h1 : W.cell? ⟨g, 1, none⟩ = some (.int .i64 b)) : Calls Tryd.prog 62 #[.slice (some ⟨g, 0, none⟩) 2 2] W fun e w' => e = .returned (.int .i64 (if a ≠ 0 then a else b)) ∧ w' = W := by
 go_enter Tryd.func62, Tryd.ntmps62
 go_wp2_with fail
 go_loopw [8] (fun iv wr => ∃ i : Nat, iv = .int .i64 (i : Int) ∧ i ≤ 2 ∧ (1 ≤ i → a = 0) ∧ (2 ≤ i → b = 0) ∧ wr = W) (fun iv _ => 2 - (intOf iv).toNat)
 case atStart => exact ⟨0, rfl, by omega, by omega, by omega, rfl⟩
 case round =>
   obtain ⟨i, rfl, hi, ha, hb, rfl⟩ := hrel
   match i, hi with
   | 0, _ =>
     by_cases hz : a = 0
     · have z0 : (a != 0) = false := by simpa using hz
       go_wp2_with fail
       go_roundw
       case rel => exact ⟨1, rfl, by omega, fun _ => hz, by omega, by first | rfl | trivial⟩
       case measure => exact (by show 2 - (1 : Int).toNat < 2 - (0 : Int).toNat; decide)
     · have z0 : (a != 0) = true := by simpa using hz
       go_wp2_with fail
       go_ret
       exact ⟨rfl, rfl⟩
   | 1, _ =>
     have hz := ha (by omega)
     by_cases hy : b = 0
     · have y0 : (b != 0) = false := by simpa using hy
       go_wp2_with fail
       go_roundw
       case rel => exact ⟨2, rfl, by omega, fun _ => hz, fun _ => hy, by first | rfl | trivial⟩
       case measure => exact (by show 2 - (2 : Int).toNat < 2 - (1 : Int).toNat; decide)
     · have y0 : (b != 0) = true := by simpa using hy
       go_wp2_with fail
       go_ret
       exact ⟨rfl, rfl⟩
   | 2, _ =>
     have hz := ha (by omega)
     have hy := hb (by omega)
     go_wp2_with fail
     go_ret
     exact ⟨rfl, rfl⟩
set_option maxRecDepth 100000 in
theorem rginord_any (x y : Plc) (W : World) : Calls Tryd.prog 45 #[.agg #[.int .i64 x.1, .int .i64 x.2], .agg #[.int .i64 y.1, .int .i64 y.2]] W fun e w' => e = .returned (.int .i64 (cmpQ x y)) ∧ ∃ q os', w' = grow (W.drewN q) os' := by
 have hc1 := fun W' => ccmp_any x.1 y.1 W'
 have hc2 := fun W' => ccmp_any x.2 y.2 W'
 unfold cmpQ
 generalize rcmp x.1 y.1 = a at hc1 ⊢
 generalize rcmp x.2 y.2 = b at hc2 ⊢
 have cO := fun g W h0 h1 => cmpor_any a b g W h0 h1
 generalize (if a ≠ 0 then a else b) = r at cO ⊢
 obtain ⟨W2, hW2⟩ : ∃ W2, W2 = (W.alloc (.cells #[.int .i64 x.1, .int .i64 x.2] 85)).alloc (.cells #[.int .i64 y.1, .int .i64 y.2] 85) := ⟨_, rfl⟩
 have mkS : Hid (∀ V, Ext W2 V → (fun V => V.cell? ⟨W.heap.size, 0, none⟩ = some (.int .i64 x.1) ∧ V.cell? ⟨W.heap.size, 1, none⟩ = some (.int .i64 x.2) ∧ V.cell? ⟨W.heap.size + 1, 0, none⟩ = some (.int .i64 y.1) ∧ V.cell? ⟨W.heap.size + 1, 1, none⟩ = some (.int .i64 y.2)) V) := by
   intro V e
   have e1 : Ext (W.alloc (.cells #[.int .i64 x.1, .int .i64 x.2] 85)) V := ((Ext.refl _).alloc (.cells #[.int .i64 y.1, .int .i64 y.2] 85)).trans (by rw [← hW2]; exact e)
   have e2 : Ext ((W.alloc (.cells #[.int .i64 x.1, .int .i64 x.2] 85)).alloc (.cells #[.int .i64 y.1, .int .i64 y.2] 85)) V := by rw [← hW2]; exact e
   have k1 := rbox2 e1
   have k2 := rbox2 e2
   simp only [show (W.alloc (.cells #[.int .i64 x.1, .int .i64 x.2] 85)).heap.size = W.heap.size + 1 by simp] at k2
   exact ⟨k1.1, k1.2, k2.1, k2.2⟩
 go_enter Tryd.func45, Tryd.ntmps45
 go_wp2_with fail
 rw [← hW2]
 have HW2 : Hid (W2 = (W.alloc (.cells #[.int .i64 x.1, .int .i64 x.2] 85)).alloc (.cells #[.int .i64 y.1, .int .i64 y.2] 85)) := hW2
 have o0 : ∀ (i : Nat) (u : Value), (#[.int .i64 a, .int .i64 b] : Array Value)[i]? = some u → ((W2.alloc (.cells #[.int .i64 a, .int .i64 b] 3)).drew).cell? ⟨W2.heap.size, i, none⟩ = some u := fun i u h => (cell_of_row _ _ i _ _ (0, 0) (top_heap W2 _)).trans h
 clear hW2
 generalize W.heap.size = A at mkS ⊢
 refine wp_region_held_drew (S := (fun V => V.cell? ⟨A, 0, none⟩ = some (.int .i64 x.1) ∧ V.cell? ⟨A, 1, none⟩ = some (.int .i64 x.2) ∧ V.cell? ⟨A + 1, 0, none⟩ = some (.int .i64 y.1) ∧ V.cell? ⟨A + 1, 1, none⟩ = some (.int .i64 y.2))) (by kernel_rfl) ?_ (fun hHeld0 => ?_)
 · (refine mkS.out _ ?_; ((with_reducible (repeat (first | assumption | exact Ext.refl _ | apply Ext.drew | apply Ext.alloc))); done))
 refine wpAnyH_take (i := 0) (oi := ⟨some 5, .fieldAddr 85 (.tmp 2) 0, 0, "region.go:122", #[], none⟩) (v := ?_) rfl (by kernel_rfl) (by kernel_rfl) (by kernel_rfl) (fun _ _ _ h => h) (Or.inl ⟨by rfl, ?_⟩) (by assumption) ?_
 rotate_left
 · intro w hSw; (try dsimp only at hSw); first | (go_simp; done) | (go_simp; with_reducible rfl)
 try simp only [Act.put, List.setIfInBounds_toArray, List.set_cons_zero, List.set_cons_succ]
 refine wpAnyH_take (i := 1) (oi := ⟨some 6, .load 3 (.tmp 5), 3, "region.go:122", #[⟨0, .data⟩], none⟩) (v := ?_) rfl (by kernel_rfl) (by kernel_rfl) (by kernel_rfl) (fun _ _ _ h => h) (Or.inl ⟨by rfl, ?_⟩) (by assumption) ?_
 rotate_left
 · intro w hSw; (try dsimp only at hSw); first | (go_simp; done) | (go_simp; with_reducible rfl)
 try simp only [Act.put, List.setIfInBounds_toArray, List.set_cons_zero, List.set_cons_succ]
 refine wpAnyH_take (i := 2) (oi := ⟨some 7, .fieldAddr 85 (.tmp 3) 0, 0, "region.go:122", #[], none⟩) (v := ?_) rfl (by kernel_rfl) (by kernel_rfl) (by kernel_rfl) (fun _ _ _ h => h) (Or.inl ⟨by rfl, ?_⟩) (by assumption) ?_
 rotate_left
 · intro w hSw; (try dsimp only at hSw); first | (go_simp; done) | (go_simp; with_reducible rfl)
 try simp only [Act.put, List.setIfInBounds_toArray, List.set_cons_zero, List.set_cons_succ]
 refine wpAnyH_take (i := 3) (oi := ⟨some 8, .load 3 (.tmp 7), 3, "region.go:122", #[⟨2, .data⟩], none⟩) (v := ?_) rfl (by kernel_rfl) (by kernel_rfl) (by kernel_rfl) (fun _ _ _ h => h) (Or.inl ⟨by rfl, ?_⟩) (by assumption) ?_
 rotate_left
 · intro w hSw; (try dsimp only at hSw); first | (go_simp; done) | (go_simp; with_reducible rfl)
 try simp only [Act.put, List.setIfInBounds_toArray, List.set_cons_zero, List.set_cons_succ]
 refine wpAnyH_take (i := 5) (oi := ⟨some 10, .fieldAddr 85 (.tmp 2) 1, 0, "region.go:122", #[], none⟩) (v := ?_) rfl (by kernel_rfl) (by kernel_rfl) (by kernel_rfl) (fun _ _ _ h => h) (Or.inl ⟨by rfl, ?_⟩) (by assumption) ?_
 rotate_left
 · intro w hSw; (try dsimp only at hSw); first | (go_simp; done) | (go_simp; with_reducible rfl)
 try simp only [Act.put, List.setIfInBounds_toArray, List.set_cons_zero, List.set_cons_succ]
 refine wpAnyH_take (i := 6) (oi := ⟨some 11, .load 3 (.tmp 10), 3, "region.go:122", #[⟨5, .data⟩], none⟩) (v := ?_) rfl (by kernel_rfl) (by kernel_rfl) (by kernel_rfl) (fun _ _ _ h => h) (Or.inl ⟨by rfl, ?_⟩) (by assumption) ?_
 rotate_left
 · intro w hSw; (try dsimp only at hSw); first | (go_simp; done) | (go_simp; with_reducible rfl)
 try simp only [Act.put, List.setIfInBounds_toArray, List.set_cons_zero, List.set_cons_succ]
 refine wpAnyH_take (i := 7) (oi := ⟨some 12, .fieldAddr 85 (.tmp 3) 1, 0, "region.go:122", #[], none⟩) (v := ?_) rfl (by kernel_rfl) (by kernel_rfl) (by kernel_rfl) (fun _ _ _ h => h) (Or.inl ⟨by rfl, ?_⟩) (by assumption) ?_
 rotate_left
 · intro w hSw; (try dsimp only at hSw); first | (go_simp; done) | (go_simp; with_reducible rfl)
 try simp only [Act.put, List.setIfInBounds_toArray, List.set_cons_zero, List.set_cons_succ]
 refine wpAnyH_take (i := 8) (oi := ⟨some 13, .load 3 (.tmp 12), 3, "region.go:122", #[⟨7, .data⟩], none⟩) (v := ?_) rfl (by kernel_rfl) (by kernel_rfl) (by kernel_rfl) (fun _ _ _ h => h) (Or.inl ⟨by rfl, ?_⟩) (by assumption) ?_
 rotate_left
 · intro w hSw; (try dsimp only at hSw); first | (go_simp; done) | (go_simp; with_reducible rfl)
 try simp only [Act.put, List.setIfInBounds_toArray, List.set_cons_zero, List.set_cons_succ]
 refine wpAnyH_ready (rs := [4]) (by kernel_rfl) (by simp) ?_
 refine AllReadyH.cons (o := ⟨some 9, .call { callee := .value (.func 63), args := #[.tmp 6, .tmp 8], argTypes := #[3, 3] }, 3, "region.go:122", #[⟨1, .data⟩, ⟨3, .data⟩], none⟩) rfl (fun K hK => ?_) AllReadyH.nil
 go_simp
 refine (hc1 _).mono ?_; rintro e x1 ⟨rfl, rfl⟩
 try go_wp2_with fail
 refine hK.out _ _ ?_ (fun hHeld1 => ?_)
 · (try dsimp only); (refine mkS.out _ ?_; ((with_reducible (repeat (first | assumption | exact Ext.refl _ | apply Ext.drew | apply Ext.alloc))); done))
 clear hK K hHeld0
 try simp only [Act.put, List.setIfInBounds_toArray, List.set_cons_zero, List.set_cons_succ]
 refine wpAnyH_ready (rs := [9]) (by kernel_rfl) (by simp) ?_
 refine AllReadyH.cons (o := ⟨some 14, .call { callee := .value (.func 63), args := #[.tmp 11, .tmp 13], argTypes := #[3, 3] }, 3, "region.go:122", #[⟨6, .data⟩, ⟨8, .data⟩, ⟨4, .chain⟩], none⟩) rfl (fun K hK => ?_) AllReadyH.nil
 go_simp
 refine (hc2 _).mono ?_; rintro e x2 ⟨rfl, rfl⟩
 try go_wp2_with fail
 refine hK.out _ _ ?_ (fun hHeld2 => ?_)
 · (try dsimp only); (refine mkS.out _ ?_; ((with_reducible (repeat (first | assumption | exact Ext.refl _ | apply Ext.drew | apply Ext.alloc))); done))
 clear hK K hHeld1
 try simp only [Act.put, List.setIfInBounds_toArray, List.set_cons_zero, List.set_cons_succ]
 refine wpAnyH_ready (rs := [10]) (by kernel_rfl) (by simp) ?_
 refine AllReadyH.cons (o := ⟨some 15, .buildSlice 110 2 #[(0, .tmp 9), (1, .tmp 14)], 110, "region.go:122", #[⟨4, .data⟩, ⟨9, .data⟩], none⟩) rfl (fun K hK => ?_) AllReadyH.nil
 go_simp
 skip
 try go_wp2_with fail
 refine hK.out _ _ ?_ (fun hHeld3 => ?_)
 · (try dsimp only); (refine mkS.out _ ?_; ((with_reducible (repeat (first | assumption | exact Ext.refl _ | apply Ext.drew | apply Ext.alloc))); done))
 clear hK K hHeld2
 try simp only [Act.put, List.setIfInBounds_toArray, List.set_cons_zero, List.set_cons_succ]
 refine wpAnyH_ready (rs := [11]) (by kernel_rfl) (by simp) ?_
 refine AllReadyH.cons (o := ⟨some 16, .call { callee := .value (.func 62), args := #[.tmp 15], argTypes := #[110] }, 3, "region.go:122", #[⟨10, .data⟩, ⟨9, .chain⟩], none⟩) rfl (fun K hK => ?_) AllReadyH.nil
 go_simp
 refine (cO W2.heap.size _ (o0 0 _ rfl) (o0 1 _ rfl)).mono ?_; rintro e x3 ⟨rfl, rfl⟩
 try go_wp2_with fail
 refine hK.out _ _ ?_ (fun hHeld4 => ?_)
 · (try dsimp only); (refine mkS.out _ ?_; ((with_reducible (repeat (first | assumption | exact Ext.refl _ | apply Ext.drew | apply Ext.alloc))); done))
 clear hK K hHeld3
 try simp only [Act.put, List.setIfInBounds_toArray, List.set_cons_zero, List.set_cons_succ]
 refine wpAnyH_take (i := 12) (oi := ⟨some 4, .assign (.tmp 16), 3, "region.go:122", #[⟨11, .data⟩, ⟨11, .chain⟩, ⟨0, .phase⟩, ⟨1, .phase⟩, ⟨2, .phase⟩, ⟨3, .phase⟩, ⟨4, .phase⟩, ⟨5, .phase⟩, ⟨6, .phase⟩, ⟨7, .phase⟩, ⟨8, .phase⟩, ⟨9, .phase⟩, ⟨10, .phase⟩, ⟨11, .phase⟩], none⟩) (v := ?_) rfl (by kernel_rfl) (by kernel_rfl) (by kernel_rfl) (fun _ _ _ h => h) (Or.inl ⟨by rfl, ?_⟩) (by assumption) ?_
 rotate_left
 · intro w hSw; (try dsimp only at hSw); first | (go_simp; done) | (go_simp; with_reducible rfl)
 try simp only [Act.put, List.setIfInBounds_toArray, List.set_cons_zero, List.set_cons_succ]
 refine wpAnyH_done (by kernel_rfl) ?_ _

 go_wp2_with fail
 go_ret
 refine ⟨rfl, 1, #[.cells #[.int .i64 x.1, .int .i64 x.2] 85, .cells #[.int .i64 y.1, .int .i64 y.2] 85, .cells #[.int .i64 a, .int .i64 b] 3], ?_⟩
 rw [HW2.out]
 rfl
theorem grow_ext {W w' : World} (h : ∃ q os', w' = grow (W.drewN q) os') : Ext W w' := by
 obtain ⟨q, os', rfl⟩ := h
 refine ⟨rfl, rfl, rfl, by simp [grow, World.drewN], fun k hk => ?_⟩
 simp [grow, World.drewN, hk, Array.getElem?_append]
theorem cmpQ_lt (x y : Plc) : decide (0 ≤ cmpQ x y) = !decide (x.1 < y.1 ∨ x.1 = y.1 ∧ x.2 < y.2) := by
 unfold cmpQ rcmp
 by_cases h1 : x.1 < y.1
 · simp [h1]
 · by_cases h2 : y.1 < x.1
   · have : ¬ x.1 = y.1 := by omega
     simp [h1, h2, this]
   · have h3 : x.1 = y.1 := by omega
     by_cases h4 : x.2 < y.2
     · simp [h3, h4]
     · by_cases h5 : y.2 < x.2 <;> simp [h3, h4, h5]
set_option maxRecDepth 100000 in
theorem place_any (c : Cl) (lv : Value) (W : World) : Calls Tryd.prog 46 #[aggC c lv] W fun e w' => e = .returned (.agg #[.int .i64 c.row, .int .i64 c.col]) ∧ Ext W w' := by
 unfold aggC
 have X0 : Hid (Ext W ((W.alloc (.cells #[.int .i64 c.row, .int .i64 c.col, .string c.txt, .bool c.is, .int .i64 c.x.k, .int .i64 c.x.n, .string (bs c.x.s), .int .i64 c.x.e, .int .i64 c.x.r.1, .int .i64 c.x.r.2.1, .bool c.x.r.2.2.1, .bool c.x.r.2.2.2, .int .i64 c.x.q.1, .int .i64 c.x.q.2.1, .bool c.x.q.2.2.1, .bool c.x.q.2.2.2, lv, .int .i64 c.vk, .int .i64 c.vn, .string c.vs, .int .i64 c.ve] 40)).alloc (.cells #[.int .i64 c.row, .int .i64 c.col] 85))) := ((Ext.refl _).alloc _).alloc _
 have Z0 : Hid (Blk2 ((W.alloc (.cells #[.int .i64 c.row, .int .i64 c.col, .string c.txt, .bool c.is, .int .i64 c.x.k, .int .i64 c.x.n, .string (bs c.x.s), .int .i64 c.x.e, .int .i64 c.x.r.1, .int .i64 c.x.r.2.1, .bool c.x.r.2.2.1, .bool c.x.r.2.2.2, .int .i64 c.x.q.1, .int .i64 c.x.q.2.1, .bool c.x.q.2.2.1, .bool c.x.q.2.2.2, lv, .int .i64 c.vk, .int .i64 c.vn, .string c.vs, .int .i64 c.ve] 40)).alloc (.cells #[.int .i64 c.row, .int .i64 c.col] 85)) (W.heap.size + 1) (.int .i64 c.row) (.int .i64 c.col)) := blk2_top (by simp) (Ext.refl _)
 go_enter Tryd.func46, Tryd.ntmps46
 go_wp2_with fail
 exact fin2 (b := W.heap.size + 1) (.agg #[.int .i64 c.row, .int .i64 c.col]) Z0.out rfl X0.out (fun g0 g1 => by simp [results, Tryd.results46, go_sem, g0, g1]) (fun h => ⟨rfl, h⟩)
end Go.Proofs.YtjhmbkdkjgjoaaaDoor
