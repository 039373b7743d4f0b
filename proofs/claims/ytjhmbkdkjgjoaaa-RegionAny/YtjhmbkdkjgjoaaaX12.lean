import Derived.Test.YtjhmbkdkjgjoaaaX7
import Derived.Shelf.Strings.BuilderX
import Derived.Lib.Builder
import Derived.Laws.Externs
import Derived.Laws.AppendOwn
import Derived.Test.YtjhmbkdkjgjoaaaX11
import Derived.Test.YtjhmbkdkjgjoaaaX9
import Derived.Laws.StructEq
import Derived.Maps.RangeWalk
import Derived.DeepKeys5
import Derived.Deep.WholeRow
import Derived.Deep.MidRow
import Derived.Test.YtjhmbkdkjgjoaaaX8
import Derived.Sort.Grow
namespace Go.Proofs.Ytjhmbkdkjgjoaaa
open Go.RowKit
set_option maxHeartbeats 1000000
theorem byte_info : ∃ i, Try.prog.info? 5 = some i ∧ i.zero = some (.int .u8 0) ∧ i.size = 1 ∧ i.bytes = 1 := by
 have h : (Try.prog.info? 5).map (fun i => (i.zero, i.size, i.bytes)) = some (some (.int .u8 0), 1, 1) := by kernel_rfl
 obtain ⟨j, h1, h2⟩ := Option.map_eq_some_iff.1 h
 simp at h2
 exact ⟨j, h1, h2⟩
open Go.RowKit
set_option maxHeartbeats 1000000
theorem txt_ne (c : UInt8) (r : List UInt8) (h : c ≠ 34) : txt (c :: r) = (txt r).map (fun x => (c :: x.1, x.2 + 1)) := by
 cases r with
 | nil => simp [txt, h]
 | cons d r => rw [txt, if_neg h]
theorem txt_two (r : List UInt8) : txt (34 :: 34 :: r) = (txt r).map (fun x => (34 :: x.1, x.2 + 2)) := by simp [txt]
theorem txt_end (r : List UInt8) (h : r.head? ≠ some 34) : txt (34 :: r) = some ([], 1) := by
 cases r with
 | nil => simp [txt]
 | cons d r => rw [txt, if_pos rfl, if_neg (by simpa using h)]
def TxA (l : List UInt8) (k j : Nat) (acc : List UInt8) : Prop := k + 1 ≤ j ∧ acc.length ≤ j ∧ txt (l.drop (k + 1)) = (txt (l.drop j)).map (fun x => (acc ++ x.1, x.2 + (j - (k + 1))))
theorem TxA.start (l : List UInt8) (k : Nat) : TxA l k (k + 1) [] := by
 refine ⟨Nat.le_refl _, Nat.zero_le _, ?_⟩
 cases txt (l.drop (k + 1)) <;> simp
theorem TxA.one {l : List UInt8} {k j : Nat} {acc : List UInt8} (h : TxA l k j acc) (hj : j < l.length) (hc : l[j] ≠ 34) : TxA l k (j + 1) (acc ++ [l[j]]) := by
 obtain ⟨h0, h1, h2⟩ := h
 refine ⟨by omega, by simp; omega, ?_⟩
 rw [h2, List.drop_eq_getElem_cons hj, txt_ne _ _ hc]
 cases txt (l.drop (j + 1)) with
 | none => rfl
 | some x => simp; omega
theorem TxA.two {l : List UInt8} {k j : Nat} {acc : List UInt8} (h : TxA l k j acc) (hj : j + 1 < l.length) (hc : l[j] = 34) (hd : l[j + 1] = 34) : TxA l k (j + 1 + 1) (acc ++ [34]) := by
 obtain ⟨h0, h1, h2⟩ := h
 refine ⟨by omega, by simp; omega, ?_⟩
 rw [h2, List.drop_eq_getElem_cons (by omega : j < l.length), List.drop_eq_getElem_cons hj, hc, hd, txt_two]
 cases txt (l.drop (j + 1 + 1)) with
 | none => rfl
 | some x => simp; omega
theorem TxA.none {l : List UInt8} {k j : Nat} {acc : List UInt8} (h : TxA l k j acc) (hj : l.length ≤ j) : txtR (l.drop k) = .error 4 := by
 have e := h.2.2
 rw [List.drop_eq_nil_of_le hj] at e
 unfold txtR
 rw [List.tail_drop, e]; rfl
theorem TxA.done {l : List UInt8} {k j : Nat} {acc : List UInt8} (h : TxA l k j acc) (hj : j < l.length) (hc : l[j] = 34) (hd : (l.drop (j + 1)).head? ≠ some 34) : txtR (l.drop k) = .ok (1, acc, 0, 0, j + 1 - k) := by
 obtain ⟨h0, h1, e⟩ := h
 rw [List.drop_eq_getElem_cons hj, hc, txt_end _ hd] at e
 unfold txtR
 rw [List.tail_drop, e]
 simp; omega
theorem new_top (w : World) (o : Obj) : (w.alloc o).heap[w.heap.size]? = some o := by show (w.heap.push o)[w.heap.size]? = some o; simp
open Go.RowKit
set_option maxHeartbeats 6000000
def flatX (ps : List (T × Value)) : List Value := ps.flatMap fun p => cellsT p.1 p.2
theorem flatX_append (a b : List (T × Value)) : flatX (a ++ b) = flatX a ++ flatX b := by unfold flatX; rw [List.flatMap_append]
theorem cellsT_length (t : T) (lv : Value) : (cellsT t lv).length = 13 := rfl
theorem flatX_length (a : List (T × Value)) : (flatX a).length = a.length * 13 := by
 induction a with
 | nil => rfl
 | cons p r ih =>
   have : flatX (p :: r) = cellsT p.1 p.2 ++ flatX r := rfl
   rw [this, List.length_append, ih, cellsT_length, List.length_cons]; omega
theorem flatX_at : ∀ (a : List (T × Value)) (i j : Nat) (p : T × Value) (u : Value), a[i]? = some p → (cellsT p.1 p.2)[j]? = some u → (flatX a)[i * 13 + j]? = some u
 | [], _, _, _, _, h, _ => by simp at h
 | q :: r, 0, j, p, u, h, hu => by
   simp at h; subst h
   have : flatX (q :: r) = cellsT q.1 q.2 ++ flatX r := rfl
   rw [this, Nat.zero_mul, Nat.zero_add, List.getElem?_append_left (List.getElem?_eq_some_iff.mp hu).1]; exact hu
 | q :: r, i + 1, j, p, u, h, hu => by
   have ih := flatX_at r i j p u (by simpa using h) hu
   have : flatX (q :: r) = cellsT q.1 q.2 ++ flatX r := rfl
   rw [this, List.getElem?_append_right (by rw [cellsT_length]; omega), cellsT_length, show (i + 1) * 13 + j - 13 = i * 13 + j by omega]; exact ih
theorem info_x : ∃ i, Try.prog.info? 29 = some i ∧ i.zero = some (.agg #[.int .i64 0, .int .i64 0, .string ⟨#[]⟩, .int .i64 0, .int .i64 0, .int .i64 0, .bool false, .bool false, .int .i64 0, .int .i64 0, .bool false, .bool false, .slice none 0 0]) ∧ i.size = 13 ∧ i.bytes = 112 := by
 have h2 : (Try.prog.info? 29).bind (fun i => i.zero) = some (.agg #[.int .i64 0, .int .i64 0, .string ⟨#[]⟩, .int .i64 0, .int .i64 0, .int .i64 0, .bool false, .bool false, .int .i64 0, .int .i64 0, .bool false, .bool false, .slice none 0 0]) := by kernel_rfl
 have h3 : (Try.prog.info? 29).map (fun i => (i.size, i.bytes)) = some (13, 112) := by kernel_rfl
 cases h : Try.prog.info? 29 with
 | none => rw [h] at h2; cases h2
 | some i =>
   rw [h] at h2 h3
   simp at h2 h3
   exact ⟨i, rfl, h2, h3.1, h3.2⟩
def OwX (w : World) (base : Nat) (v : Value) (ps : List (T × Value)) : Prop := w.ownsRow base 29 13 v ps.length (flatX ps) ∧ ∀ p ∈ ps, IsL w (fun k => base ≤ k ∧ v.ownBlock ≠ some k) p.2 p.1.l
theorem OwX.isL {w : World} {base : Nat} {v : Value} {ps : List (T × Value)} (h : OwX w base v ps) : IsL w (base ≤ ·) v (ps.map Prod.fst) := by
 obtain ⟨⟨_, h1⟩, h2⟩ := h
 rcases h1 with ⟨h1, h0⟩ | ⟨g, cap, cur, h1, h3, h4, h5, h6, h7, h8⟩
 · have : ps = [] := List.eq_nil_of_length_eq_zero h0
   subst this h1
   exact .nil
 · subst h1
   refine .mk g 0 cap ps.length _ (fun i => match ps[i]? with | some p => p.2 | none => .slice none 0 0) (by simp) h5 h3 (heap_lt h4) ?_ ?_
   · intro i t j u hi hj
     rw [List.getElem?_map, Option.map_eq_some_iff] at hi
     obtain ⟨p, hp, rfl⟩ := hi
     simp only [hp] at hj
     have k := flatX_at ps i j p u hp hj
     have hj13 : i * 13 + j < (flatX ps).length := (List.getElem?_eq_some_iff.mp k).1
     rw [flatX_length] at hj13
     rw [cell_of_row w g _ cur _ (0, 0) h4, Nat.zero_add, ← Array.getElem?_toList]
     rw [← h8, List.getElem?_take, if_pos (by omega)] at k
     exact k
   · intro i t hi
     rw [List.getElem?_map, Option.map_eq_some_iff] at hi
     obtain ⟨p, hp, rfl⟩ := hi
     simp only [hp]
     exact (h2 p (List.mem_of_getElem? hp)).mono (fun k hk _ => hk.1)
theorem OwX.far {w : World} {base : Nat} {v : Value} {ps : List (T × Value)} (h : OwX w base v ps) {b : Nat} (hb : b < base) : v.ownBlock ≠ some b := by
 rcases h.1.2 with ⟨h1, h2⟩ | ⟨g, cap, cur, h1, h2, h3⟩
 · rw [h1]; simp [Value.ownBlock]
 · rw [h1]; simp [Value.ownBlock]; omega
theorem OwX.extB {b base : Nat} {w w' : World} {v : Value} {ps : List (T × Value)} (h : OwX w base v ps) (e : ExtB b w w') (hb : b < base) : OwX w' base v ps := by
 refine ⟨⟨h.1.1, ?_⟩, fun p hp => (h.2 p hp).extB e (fun k hk => by omega)⟩
 rcases h.1.2 with h2 | ⟨g, cap, cur, h1, h2, h3, h4⟩
 · exact .inl h2
 · exact .inr ⟨g, cap, cur, h1, h2, (e.block g (heap_lt h3) (by omega)).trans h3, h4⟩
theorem OwX.one {W W' : World} {base : Nat} {x : T} {pp : Option Addr} {ln cl : Nat} (hb : base ≤ W.heap.size) (hL : IsL W (base ≤ ·) (.slice pp ln cl) x.l) (hW : W' = W.alloc (.cells #[.int .i64 x.k, .int .i64 x.n, .string (bs x.s), .int .i64 x.e, .int .i64 x.r.1, .int .i64 x.r.2.1, .bool x.r.2.2.1, .bool x.r.2.2.2, .int .i64 x.q.1, .int .i64 x.q.2.1, .bool x.q.2.2.1, .bool x.q.2.2.2, .slice pp ln cl] 29)) : OwX W' base (.slice (some ⟨W.heap.size, 0, none⟩) 1 1) [(x, .slice pp ln cl)] := by
 subst hW
 refine ⟨⟨rfl, .inr ⟨W.heap.size, 1, #[.int .i64 x.k, .int .i64 x.n, .string (bs x.s), .int .i64 x.e, .int .i64 x.r.1, .int .i64 x.r.2.1, .bool x.r.2.2.1, .bool x.r.2.2.2, .int .i64 x.q.1, .int .i64 x.q.2.1, .bool x.q.2.2.1, .bool x.q.2.2.2, .slice pp ln cl], rfl, hb, ?_, Nat.le_refl _, by unfold maxLen; omega, rfl, rfl⟩⟩, ?_⟩
 · show (W.heap.push _)[W.heap.size]? = _; simp
 · intro p hp
   simp at hp; subst hp
   exact (hL.mono (P' := fun k => base ≤ k ∧ (Value.slice (some ⟨W.heap.size, 0, none⟩) 1 1).ownBlock ≠ some k) (fun k hk hs => ⟨hk, by simp [Value.ownBlock]; omega⟩)).ext ((Ext.refl _).alloc _)
theorem Stt.grown {w0 W W' : World} {b d base : Nat} {ts : List Tk} {v : Value} {ps : List (T × Value)} (hS : Stt w0 b W ts d) (h : W.grownBy W' v.ownBlock) (hB : OwX W base v ps) (hb : b < base) (h0 : w0.heap.size ≤ base) : Stt w0 b W' ts d := by
 obtain ⟨h1, h2, h3, h4, h5', h6, h7, tb, off, c, h8, h9, h10, h11, h12⟩ := hS
 have k := fun o => (World.cell?_of_block (a := ⟨b, o, none⟩) (h.block b h3 (fun e => hB.far hb e.symm)))
 have f := fun o => (World.frozen?_of_block (a := ⟨b, o, none⟩) (h.block b h3 (fun e => hB.far hb e.symm)))
 refine ⟨⟨h.os.trans h1.os, h.tape.trans h1.tape, h.output.trans h1.output, Nat.le_trans h1.size h.size, fun i hi => ?_⟩, h2, Nat.lt_of_lt_of_le h3 h.size, h4, h5', h6, h7, tb, off, c, h8, (k 0).trans h9, (f 0).trans h10, (k 1).trans h11, (f 1).trans h12⟩
 exact (h.block i (Nat.lt_of_lt_of_le hi h1.size) (fun e => hB.far (Nat.lt_of_lt_of_le hi h0) e.symm)).trans (h1.block i hi)
def left (b : Nat) (w : World) : Nat := match w.cell? ⟨b, 0, none⟩ with
 | some (.slice _ n _) => n
 | _ => 0
theorem Stt.left {w0 w : World} {b d : Nat} {ts : List Tk} (h : Stt w0 b w ts d) : left b w = ts.length := by
 obtain ⟨tb, off, cc, b0, _⟩ := h.get
 unfold Go.Proofs.Ytjhmbkdkjgjoaaa.left; rw [b0]
open Go.RowKit
set_option maxHeartbeats 6000000
theorem OwX.zero {W W' : World} {base g : Nat} (hW : W' = W.alloc (.cells #[] 29)) (hg : g = W.heap.size) (hb : base ≤ g) : OwX W' base (.slice (some ⟨g, 0, none⟩) 0 0) [] := by
 subst hW hg
 refine ⟨⟨rfl, .inr ⟨W.heap.size, 0, #[], rfl, hb, ?_, Nat.le_refl _, Nat.zero_le _, rfl, rfl⟩⟩, fun p hp => by cases hp⟩
 show (W.heap.push _)[W.heap.size]? = _; simp
theorem OwX.ext {w w' : World} {base : Nat} {v : Value} {ps : List (T × Value)} (h : OwX w base v ps) (e : Ext w w') : OwX w' base v ps := by
 refine ⟨⟨h.1.1, ?_⟩, fun p hp => (h.2 p hp).ext e⟩
 rcases h.1.2 with h2 | ⟨g, cap, cur, h1, h2, h3, h4⟩
 · exact .inl h2
 · exact .inr ⟨g, cap, cur, h1, h2, (e.block g (heap_lt h3)).trans h3, h4⟩
theorem BlkX.grown {W W' : World} {base g : Nat} {v lv : Value} {t : T} {ps : List (T × Value)} (B : BlkX W g t lv) (h : W.grownBy W' v.ownBlock) (hB : OwX W base v ps) (hg : g < base) : BlkX W' g t lv := by
 have hz := B.1
 have hb := h.block g hz (fun e => hB.far hg e.symm)
 obtain ⟨z, ⟨k0, k1, k2, k3, k4, k5, k6, k7, k8, k9, k10, k11, k12⟩, f0, f1, f2, f3, f4, f5, f6, f7, f8, f9, f10, f11, f12⟩ := B
 have k := fun o => World.cell?_of_block (a := ⟨g, o, none⟩) hb
 have f := fun o => World.frozen?_of_block (a := ⟨g, o, none⟩) hb
 exact ⟨Nat.lt_of_lt_of_le z h.size, ⟨(k 0).trans k0, (k 1).trans k1, (k 2).trans k2, (k 3).trans k3, (k 4).trans k4, (k 5).trans k5, (k 6).trans k6, (k 7).trans k7, (k 8).trans k8, (k 9).trans k9, (k 10).trans k10, (k 11).trans k11, (k 12).trans k12⟩, (f 0).trans f0, (f 1).trans f1, (f 2).trans f2, (f 3).trans f3, (f 4).trans f4, (f 5).trans f5, (f 6).trans f6, (f 7).trans f7, (f 8).trans f8, (f 9).trans f9, (f 10).trans f10, (f 11).trans f11, (f 12).trans f12⟩
open Go.RowKit
set_option maxHeartbeats 6000000
open Go.RowKit
set_option maxHeartbeats 6000000
def allZ (g : T → T → Bool) : List T → List T → Bool
 | [], [] => true
 | a :: l, b :: m => g a b && allZ g l m
 | _, _ => false
def sameT : Nat → T → T → Bool
 | 0, _, _ => false
 | n + 1, a, b => if ¬ a.k = b.k then false else if a.k = 0 ∨ a.k = 2 then a.n == b.n else if a.k = 3 then a.e == b.e else if a.k = 4 then decide (a.r = b.r) else if a.k = 5 then (decide (a.r = b.r) && decide (a.q = b.q)) else
   if a.k = 1 then a.s == b.s else if ¬ (a.k = 6 ∨ a.k = 7 ∨ a.k = 8) then true else if ¬ a.k = 6 ∧ ¬ a.s = b.s then false else allZ (sameT n) a.l b.l
theorem allZ_len (g : T → T → Bool) (l m : List T) (h : l.length ≠ m.length) : allZ g l m = false := by
 induction l generalizing m with
 | nil => cases m with
   | nil => exact absurd rfl h
   | cons => rfl
 | cons a l ih => cases m with
   | nil => rfl
   | cons b m =>
     unfold allZ
     rw [ih m (by simpa using h)]
     simp
theorem allZ_take (g : T → T → Bool) (l m : List T) (j : Nat) (x y : T) (hx : l[j]? = some x) (hy : m[j]? = some y) : allZ g (l.take (j + 1)) (m.take (j + 1)) = (allZ g (l.take j) (m.take j) && g x y) := by
 induction j generalizing l m with
 | zero =>
   cases l with
   | nil => cases hx
   | cons a l => cases m with
     | nil => cases hy
     | cons b m => simp at hx hy; subst hx hy; simp [allZ]
 | succ j ih =>
   cases l with
   | nil => cases hx
   | cons a l => cases m with
     | nil => cases hy
     | cons b m =>
       simp at hx hy
       rw [List.take_succ_cons, List.take_succ_cons, List.take_succ_cons, List.take_succ_cons, allZ, allZ, ih l m hx hy, Bool.and_assoc]
theorem allZ_no (g : T → T → Bool) (l m : List T) (j : Nat) (x y : T) (hx : l[j]? = some x) (hy : m[j]? = some y) (h : g x y = false) : allZ g l m = false := by
 induction j generalizing l m with
 | zero =>
   cases l with
   | nil => cases hx
   | cons a l => cases m with
     | nil => cases hy
     | cons b m => simp at hx hy; subst hx hy; simp [allZ, h]
 | succ j ih =>
   cases l with
   | nil => cases hx
   | cons a l => cases m with
     | nil => cases hy
     | cons b m => simp at hx hy; simp [allZ, ih l m hx hy]
theorem eq_rf (s t : Rf) (w : World) : Sem.run Try.prog (Op.equalIn 10000 26 (.agg #[.int .i64 s.1, .int .i64 s.2.1, .bool s.2.2.1, .bool s.2.2.2]) (.agg #[.int .i64 t.1, .int .i64 t.2.1, .bool t.2.2.1, .bool t.2.2.2])) w = .ok (decide (s = t)) w := by
 have u3 := Try.underlying3
 have a3 := Try.isAgg3
 have z3 := Try.sizeOf3
 have u4 := Try.underlying4
 have hS : Try.prog.underlying 26 = some (.struct (Try.prog.fieldsOf 26)) := by kernel_rfl
 have hp : Try.prog.stoodInHeld 26 = false := by kernel_rfl
 obtain ⟨s1, s2, s3, s4⟩ := s
 obtain ⟨t1, t2, t3, t4⟩ := t
 rw [show (10000 : Nat) = 9999 + 1 from rfl, run_equalIn_agg w 9999 26 _ _ hS hp]
 simp only [Program.fieldsOf, Try.underlying26]
 go_simp
 by_cases h1 : s1 = t1 <;> by_cases h2 : s2 = t2 <;> by_cases h3 : s3 = t3 <;> by_cases h4 : s4 = t4 <;> simp [h1, h2, h3, h4]
theorem gd_rf (x y : Array Value) (op : BinOp) (a b : Operand) (w : World) : (eqGuard op 26 a b (.agg x) (.agg y)).run Try.prog w = .ok () w := run_eqGuard_agg w op 26 a b x y (by kernel_rfl)
theorem bs_tl9 (x : List UInt8) : (bs x).toList = x := by rw [ByteArray.toList_eq]; rfl
def SmC (K : FuncId) (P : Nat → Prop) (n : Nat) (a : T) : Prop := ∀ (b : T) (W : World) (pp qq : Option Addr) (ln cl lm cm : Nat), IsL W P (.slice pp ln cl) a.l → IsL W P (.slice qq lm cm) b.l →
 Calls Try.prog K #[.agg #[.int .i64 a.k, .int .i64 a.n, .string (bs a.s), .int .i64 a.e, .int .i64 a.r.1, .int .i64 a.r.2.1, .bool a.r.2.2.1, .bool a.r.2.2.2, .int .i64 a.q.1, .int .i64 a.q.2.1, .bool a.q.2.2.1, .bool a.q.2.2.2, .slice pp ln cl], .agg #[.int .i64 b.k, .int .i64 b.n, .string (bs b.s), .int .i64 b.e, .int .i64 b.r.1, .int .i64 b.r.2.1, .bool b.r.2.2.1, .bool b.r.2.2.2, .int .i64 b.q.1, .int .i64 b.q.2.1, .bool b.q.2.2.1, .bool b.q.2.2.2, .slice qq lm cm]] W fun e w' => e = .returned (.bool (sameT n a b)) ∧ Ext W w'
set_option maxRecDepth 100000 in
theorem rparts_any (k : Int) (w : World) : Calls Try.prog 68 #[.int .i64 k] w fun e w' => e = .returned (.bool (decide (k = 6 ∨ k = 7 ∨ k = 8))) ∧ w' = w := by
 by_cases h6 : k = 6
 · subst h6
   go_enter Try.func68, Try.ntmps68
   go_wp2_with fail
   go_ret
   exact ⟨rfl, rfl⟩
 by_cases h7 : k = 7
 · subst h7
   go_enter Try.func68, Try.ntmps68
   go_wp2_with fail
   go_ret
   exact ⟨rfl, rfl⟩
 by_cases h8 : k = 8
 · subst h8
   go_enter Try.func68, Try.ntmps68
   go_wp2_with fail
   go_ret
   exact ⟨rfl, rfl⟩
 have e6 : (k == 6) = false := by simpa using h6
 have e7 : (k == 7) = false := by simpa using h7
 have e8 : (k == 8) = false := by simpa using h8
 have HR : Hid (decide (k = 6 ∨ k = 7 ∨ k = 8) = false) := by show _ = _; simp [h6, h7, h8]
 clear h6 h7 h8
 go_enter Try.func68, Try.ntmps68
 go_wp2_with fail
 go_ret
 exact ⟨ret_bool HR.out.symm, rfl⟩
set_option maxRecDepth 100000 in
theorem rsame_leaf (P : Nat → Prop) (n : Nat) (a : T) (h678 : ¬ (a.k = 6 ∨ a.k = 7 ∨ a.k = 8)) : SmC 48 P (n + 1) a := by
 intro b W pp qq ln cl lm cm _ _
 have eR := fun W => eq_rf a.r b.r W
 have eQ := fun W => eq_rf a.q b.q W
 by_cases hnb : ¬ a.k = b.k
 · have hkb := hnb
   clear hnb
   have kn : (a.k != b.k) = true := by simpa using hkb
   have HX : Hid (sameT (n + 1) a b = false) := by show _ = _; unfold sameT; rw [if_pos hkb]
   clear hkb h678 eR eQ
   go_enter Try.func48, Try.ntmps48
   go_wp2_with fail
   go_ret
   exact ⟨ret_bool (by rw [HX.out]), ((Ext.refl _).alloc _).alloc _⟩
 have hkb : a.k = b.k := Decidable.not_not.1 hnb
 clear hnb
 have kn : (a.k != b.k) = false := by rw [hkb]; simp
 by_cases hk : a.k = 0
 · have e0 : (a.k == 0) = true := by rw [hk]; rfl
   have e2 : (a.k == 2) = false := by rw [hk]; rfl
   have e3 : (a.k == 3) = false := by rw [hk]; rfl
   have e4 : (a.k == 4) = false := by rw [hk]; rfl
   have e5 : (a.k == 5) = false := by rw [hk]; rfl
   have e1 : (a.k == 1) = false := by rw [hk]; rfl
   have HX : Hid (sameT (n + 1) a b = (a.n == b.n)) := by show _ = _; unfold sameT; rw [if_neg (by rw [← hkb]; simp)]; simp [hk]
   clear hk hkb h678 eR eQ
   go_enter Try.func48, Try.ntmps48
   go_wp2_with fail
   go_ret
   exact ⟨ret_bool (by rw [HX.out]), ((Ext.refl _).alloc _).alloc _⟩
 have n0 := hk
 clear hk
 by_cases hk : a.k = 2
 · have e0 : (a.k == 0) = false := by rw [hk]; rfl
   have e2 : (a.k == 2) = true := by rw [hk]; rfl
   have e3 : (a.k == 3) = false := by rw [hk]; rfl
   have e4 : (a.k == 4) = false := by rw [hk]; rfl
   have e5 : (a.k == 5) = false := by rw [hk]; rfl
   have e1 : (a.k == 1) = false := by rw [hk]; rfl
   have HX : Hid (sameT (n + 1) a b = (a.n == b.n)) := by show _ = _; unfold sameT; rw [if_neg (by rw [← hkb]; simp)]; simp [hk]
   clear hk hkb h678 eR eQ
   go_enter Try.func48, Try.ntmps48
   go_wp2_with fail
   go_ret
   exact ⟨ret_bool (by rw [HX.out]), ((Ext.refl _).alloc _).alloc _⟩
 have n2 := hk
 clear hk
 by_cases hk : a.k = 3
 · have e0 : (a.k == 0) = false := by rw [hk]; rfl
   have e2 : (a.k == 2) = false := by rw [hk]; rfl
   have e3 : (a.k == 3) = true := by rw [hk]; rfl
   have e4 : (a.k == 4) = false := by rw [hk]; rfl
   have e5 : (a.k == 5) = false := by rw [hk]; rfl
   have e1 : (a.k == 1) = false := by rw [hk]; rfl
   have HX : Hid (sameT (n + 1) a b = (a.e == b.e)) := by show _ = _; unfold sameT; rw [if_neg (by rw [← hkb]; simp)]; simp [hk]
   clear hk hkb h678 eR eQ
   go_enter Try.func48, Try.ntmps48
   go_wp2_with fail
   go_ret
   exact ⟨ret_bool (by rw [HX.out]), ((Ext.refl _).alloc _).alloc _⟩
 have n3 := hk
 clear hk
 by_cases hk : a.k = 4
 · have e0 : (a.k == 0) = false := by rw [hk]; rfl
   have e2 : (a.k == 2) = false := by rw [hk]; rfl
   have e3 : (a.k == 3) = false := by rw [hk]; rfl
   have e4 : (a.k == 4) = true := by rw [hk]; rfl
   have e5 : (a.k == 5) = false := by rw [hk]; rfl
   have e1 : (a.k == 1) = false := by rw [hk]; rfl
   have HX : Hid (sameT (n + 1) a b = decide (a.r = b.r)) := by show _ = _; unfold sameT; rw [if_neg (by rw [← hkb]; simp)]; simp [hk]
   have g1 := gd_rf
   clear hk hkb h678
   go_enter Try.func48, Try.ntmps48
   go_wp2_with fail
   go_ret
   exact ⟨ret_bool (by rw [HX.out]), ((Ext.refl _).alloc _).alloc _⟩
 have n4 := hk
 clear hk
 by_cases hk : a.k = 5
 · have e0 : (a.k == 0) = false := by rw [hk]; rfl
   have e2 : (a.k == 2) = false := by rw [hk]; rfl
   have e3 : (a.k == 3) = false := by rw [hk]; rfl
   have e4 : (a.k == 4) = false := by rw [hk]; rfl
   have e5 : (a.k == 5) = true := by rw [hk]; rfl
   have e1 : (a.k == 1) = false := by rw [hk]; rfl
   have HX : Hid (sameT (n + 1) a b = (decide (a.r = b.r) && decide (a.q = b.q))) := by show _ = _; unfold sameT; rw [if_neg (by rw [← hkb]; simp)]; simp [hk]
   have g1 := gd_rf
   clear hk hkb h678
   cases hr : decide (a.r = b.r)
   · rw [hr] at HX eR
     clear hr
     go_enter Try.func48, Try.ntmps48
     go_wp2_with fail
     go_ret
     exact ⟨ret_bool (by rw [HX.out]; rfl), ((Ext.refl _).alloc _).alloc _⟩
   · rw [hr] at HX eR
     clear hr
     go_enter Try.func48, Try.ntmps48
     go_wp2_with fail
     go_ret
     exact ⟨ret_bool (by rw [HX.out]; rfl), ((Ext.refl _).alloc _).alloc _⟩
 have n5 := hk
 clear hk
 by_cases hk : a.k = 1
 · have e0 : (a.k == 0) = false := by rw [hk]; rfl
   have e2 : (a.k == 2) = false := by rw [hk]; rfl
   have e3 : (a.k == 3) = false := by rw [hk]; rfl
   have e4 : (a.k == 4) = false := by rw [hk]; rfl
   have e5 : (a.k == 5) = false := by rw [hk]; rfl
   have e1 : (a.k == 1) = true := by rw [hk]; rfl
   have HX : Hid (sameT (n + 1) a b = (a.s == b.s)) := by show _ = _; unfold sameT; rw [if_neg (by rw [← hkb]; simp)]; simp [hk]
   have es : ((bs a.s).toList == (bs b.s).toList) = (a.s == b.s) := by rw [bs_tl9, bs_tl9]
   generalize bs a.s = qa at *
   generalize bs b.s = qb at *
   clear hk hkb h678 eR eQ
   go_enter Try.func48, Try.ntmps48
   go_wp2_with fail
   go_ret
   exact ⟨ret_bool (by rw [HX.out]), ((Ext.refl _).alloc _).alloc _⟩
 have n1 := hk
 clear hk
 have HX : Hid (sameT (n + 1) a b = true) := by show _ = _; unfold sameT; rw [if_neg (by rw [← hkb]; simp)]; simp [n0, n1, n2, n3, n4, n5, h678]
 have c1 := fun W => rparts_any a.k W
 rw [decide_eq_false h678] at c1
 have e0 : (a.k == 0) = false := by simpa using n0
 have e1 : (a.k == 1) = false := by simpa using n1
 have e2 : (a.k == 2) = false := by simpa using n2
 have e3 : (a.k == 3) = false := by simpa using n3
 have e4 : (a.k == 4) = false := by simpa using n4
 have e5 : (a.k == 5) = false := by simpa using n5
 clear h678 hkb n0 n1 n2 n3 n4 n5 eR eQ
 go_enter Try.func48, Try.ntmps48
 go_wp2_with fail
 refine (c1 _).mono ?_
 rintro e w1 ⟨rfl, rfl⟩
 go_wp2_with fail
 go_ret
 exact ⟨ret_bool (by rw [HX.out]), ((Ext.refl _).alloc _).alloc _⟩
set_option maxRecDepth 100000 in
theorem rsame_6 (P : Nat → Prop) (n : Nat) (a : T) (hk : a.k = 6) (hl : a.l.length ≤ 100000) (hx : ∀ x ∈ a.l, SmC 48 P n x) : SmC 48 P (n + 1) a := by
 intro b W pp qq ln cl lm cm hI hJ
 have hln : a.l.length = ln := by
   obtain ⟨p, c, h1, _⟩ := hI.form
   cases h1; rfl
 have hlm : b.l.length = lm := by
   obtain ⟨p, c, h1, _⟩ := hJ.form
   cases h1; rfl
 have hl2 : ln ≤ 100000 := by omega
 have e0 : (a.k == 0) = false := by rw [hk]; rfl
 have e1 : (a.k == 1) = false := by rw [hk]; rfl
 have e2 : (a.k == 2) = false := by rw [hk]; rfl
 have e3 : (a.k == 3) = false := by rw [hk]; rfl
 have e4 : (a.k == 4) = false := by rw [hk]; rfl
 have e5 : (a.k == 5) = false := by rw [hk]; rfl
 have e6 : (a.k != 6) = false := by rw [hk]; rfl
 have c1 := fun W => rparts_any a.k W
 rw [decide_eq_true (show a.k = 6 ∨ a.k = 7 ∨ a.k = 8 by omega)] at c1
 by_cases hnb : ¬ a.k = b.k
 · have hkb := hnb
   clear hnb
   have kn : (a.k != b.k) = true := by simpa using hkb
   have HX : Hid (sameT (n + 1) a b = false) := by show _ = _; unfold sameT; rw [if_pos hkb]
   clear hk hkb hI hJ hln hlm hl hx c1
   go_enter Try.func48, Try.ntmps48
   go_wp2_with fail
   go_ret
   exact ⟨ret_bool (by rw [HX.out]), ((Ext.refl _).alloc _).alloc _⟩
 have hkb : a.k = b.k := Decidable.not_not.1 hnb
 clear hnb
 have kn : (a.k != b.k) = false := by rw [hkb]; simp
 have HX : Hid (sameT (n + 1) a b = allZ (sameT n) a.l b.l) := by show _ = _; unfold sameT; rw [if_neg (by rw [← hkb]; simp)]; simp [hk]
 by_cases hnl : ¬ ln = lm
 · have hll := hnl
   clear hnl
   have el : ((ln : Int) != (lm : Int)) = true := by simp; omega
   have HX : Hid (sameT (n + 1) a b = false) := by show _ = _; rw [HX.out]; exact allZ_len _ _ _ (by omega)
   clear hk hkb hI hJ hln hlm hl hx hll
   go_enter Try.func48, Try.ntmps48
   go_wp2_with fail
   refine (c1 _).mono ?_
   rintro e w1 ⟨rfl, rfl⟩
   go_wp2_with fail
   go_ret
   exact ⟨ret_bool (by rw [HX.out]), ((Ext.refl _).alloc _).alloc _⟩
 have hll : ln = lm := Decidable.not_not.1 hnl
 clear hnl
 have el : ((ln : Int) != (lm : Int)) = false := by simp; omega
 subst hll
 have ell : ((ln : Int) != (ln : Int)) = false := by simp
 have HI : Hid (IsL W P (.slice pp ln cl) a.l ∧ IsL W P (.slice qq ln cm) b.l) := ⟨hI, hJ⟩
 have HLN : Hid (a.l.length = ln ∧ b.l.length = ln) := ⟨hln, hlm⟩
 have HXX : Hid (∀ x ∈ a.l, SmC 48 P n x) := hx
 clear hk hkb hI hJ hln hlm hl hx
 go_enter Try.func48, Try.ntmps48
 go_wp2_with fail
 refine (c1 _).mono ?_
 rintro e w1 ⟨rfl, rfl⟩
 go_wp2_with fail
 go_loopw [5] (fun iv wr => ∃ j : Nat, j ≤ ln ∧ iv = .int .i64 (j : Int) ∧ allZ (sameT n) (a.l.take j) (b.l.take j) = true ∧ BlkX wr W.heap.size a (.slice pp ln cl) ∧ BlkX wr (W.heap.size + 1) b (.slice qq ln cm) ∧ Ext W wr) (fun iv _ => ln - (intOf iv).toNat)
 case atStart => exact ⟨0, Nat.zero_le _, rfl, rfl, blk13_top rfl ((Ext.refl _).alloc _), blk13_top (by simp) (Ext.refl _), ((Ext.refl _).alloc _).alloc _⟩
 case round =>
   obtain ⟨j, hj, rfl, hg, hB, hB2, hE⟩ := hrel
   have HE : Hid (Ext W wr ∧ allZ (sameT n) (a.l.take j) (b.l.take j) = true) := ⟨hE, hg⟩
   have HBX : Hid (BlkX wr W.heap.size a (.slice pp ln cl) ∧ BlkX wr (W.heap.size + 1) b (.slice qq ln cm)) := ⟨hB, hB2⟩
   obtain ⟨qz, ⟨k0, k1, k2, k3, k4, k5, k6, k7, k8, k9, k10, k11, k12⟩, gz⟩ := hB
   obtain ⟨qy, ⟨m0, m1, m2, m3, m4, m5, m6, m7, m8, m9, m10, m11, m12⟩, gy⟩ := hB2
   clear hE hg gz gy
   by_cases hlt : j < ln
   · have hltI : (j : Int) < (ln : Int) := by omega
     have hI := HI.out.1.ext HE.out.1
     have hJ := HI.out.2.ext HE.out.1
     obtain ⟨gb, off, x, lv, hpp, hx1, hA1, hgb, hA2, hLx, hce⟩ := hI.at (i := j) (by rw [HLN.out.1]; exact hlt)
     obtain ⟨gb2, off2, y, lv2, hqq, hy1, hA3, hgb2, hA4, hLy, hcf⟩ := hJ.at (i := j) (by rw [HLN.out.2]; exact hlt)
     clear hA1 hA2 hA3 hA4
     subst hpp hqq
     obtain ⟨p1, c1, hlv, hcl⟩ := hLx.form
     obtain ⟨l1, hl1⟩ : ∃ l1, x.l.length = l1 := ⟨_, rfl⟩
     rw [hl1] at hlv
     subst hlv
     obtain ⟨p2, c2, hlv2, hcl2⟩ := hLy.form
     obtain ⟨l2, hl2⟩ : ∃ l2, y.l.length = l2 := ⟨_, rfl⟩
     rw [hl2] at hlv2
     subst hlv2
     have HX1 : Hid (a.l[j]? = some x ∧ b.l[j]? = some y) := ⟨hx1, hy1⟩
     have HC : Hid (∀ V, Ext wr V → Calls Try.prog 48 #[.agg #[.int .i64 x.k, .int .i64 x.n, .string (bs x.s), .int .i64 x.e, .int .i64 x.r.1, .int .i64 x.r.2.1, .bool x.r.2.2.1, .bool x.r.2.2.2, .int .i64 x.q.1, .int .i64 x.q.2.1, .bool x.q.2.2.1, .bool x.q.2.2.2, .slice p1 l1 c1], .agg #[.int .i64 y.k, .int .i64 y.n, .string (bs y.s), .int .i64 y.e, .int .i64 y.r.1, .int .i64 y.r.2.1, .bool y.r.2.2.1, .bool y.r.2.2.2, .int .i64 y.q.1, .int .i64 y.q.2.1, .bool y.q.2.2.1, .bool y.q.2.2.2, .slice p2 l2 c2]] V fun e w' => e = .returned (.bool (sameT n x y)) ∧ Ext V w') := fun V e => HXX.out x (List.mem_of_getElem? hx1) y V p1 p2 l1 c1 l2 c2 (hLx.ext e) (hLy.ext e)
     have mkS : Hid (∀ V, Ext wr V → (V.cell? ⟨W.heap.size, 12, none⟩ = some (.slice (some ⟨gb, off, none⟩) ln cl) ∧ V.cell? ⟨W.heap.size + 1, 12, none⟩ = some (.slice (some ⟨gb2, off2, none⟩) ln cm)) ∧ (V.cell? ⟨gb, off + j * 13, none⟩ = some (.int .i64 x.k) ∧ V.cell? ⟨gb, off + j * 13 + 1, none⟩ = some (.int .i64 x.n) ∧ V.cell? ⟨gb, off + j * 13 + 2, none⟩ = some (.string (bs x.s)) ∧ V.cell? ⟨gb, off + j * 13 + 3, none⟩ = some (.int .i64 x.e) ∧ V.cell? ⟨gb, off + j * 13 + 4, none⟩ = some (.int .i64 x.r.1) ∧ V.cell? ⟨gb, off + j * 13 + 5, none⟩ = some (.int .i64 x.r.2.1) ∧ V.cell? ⟨gb, off + j * 13 + 6, none⟩ = some (.bool x.r.2.2.1) ∧ V.cell? ⟨gb, off + j * 13 + 7, none⟩ = some (.bool x.r.2.2.2) ∧ V.cell? ⟨gb, off + j * 13 + 8, none⟩ = some (.int .i64 x.q.1) ∧ V.cell? ⟨gb, off + j * 13 + 9, none⟩ = some (.int .i64 x.q.2.1) ∧ V.cell? ⟨gb, off + j * 13 + 10, none⟩ = some (.bool x.q.2.2.1) ∧ V.cell? ⟨gb, off + j * 13 + 11, none⟩ = some (.bool x.q.2.2.2) ∧ V.cell? ⟨gb, off + j * 13 + 12, none⟩ = some (.slice p1 l1 c1)) ∧ (V.cell? ⟨gb2, off2 + j * 13, none⟩ = some (.int .i64 y.k) ∧ V.cell? ⟨gb2, off2 + j * 13 + 1, none⟩ = some (.int .i64 y.n) ∧ V.cell? ⟨gb2, off2 + j * 13 + 2, none⟩ = some (.string (bs y.s)) ∧ V.cell? ⟨gb2, off2 + j * 13 + 3, none⟩ = some (.int .i64 y.e) ∧ V.cell? ⟨gb2, off2 + j * 13 + 4, none⟩ = some (.int .i64 y.r.1) ∧ V.cell? ⟨gb2, off2 + j * 13 + 5, none⟩ = some (.int .i64 y.r.2.1) ∧ V.cell? ⟨gb2, off2 + j * 13 + 6, none⟩ = some (.bool y.r.2.2.1) ∧ V.cell? ⟨gb2, off2 + j * 13 + 7, none⟩ = some (.bool y.r.2.2.2) ∧ V.cell? ⟨gb2, off2 + j * 13 + 8, none⟩ = some (.int .i64 y.q.1) ∧ V.cell? ⟨gb2, off2 + j * 13 + 9, none⟩ = some (.int .i64 y.q.2.1) ∧ V.cell? ⟨gb2, off2 + j * 13 + 10, none⟩ = some (.bool y.q.2.2.1) ∧ V.cell? ⟨gb2, off2 + j * 13 + 11, none⟩ = some (.bool y.q.2.2.2) ∧ V.cell? ⟨gb2, off2 + j * 13 + 12, none⟩ = some (.slice p2 l2 c2))) := fun V e => by
       have q := fun o => e.cell.1 gb o hgb
       have q2 := fun o => e.cell.1 gb2 o hgb2
       obtain ⟨qz, ⟨k0, k1, k2, k3, k4, k5, k6, k7, k8, k9, k10, k11, k12⟩, gz⟩ := HBX.out.1.ext e
       obtain ⟨qy, ⟨m0, m1, m2, m3, m4, m5, m6, m7, m8, m9, m10, m11, m12⟩, gy⟩ := HBX.out.2.ext e
       exact ⟨⟨k12, m12⟩, ⟨(q _).trans (hce 0 _ rfl), (q _).trans (hce 1 _ rfl), (q _).trans (hce 2 _ rfl), (q _).trans (hce 3 _ rfl), (q _).trans (hce 4 _ rfl), (q _).trans (hce 5 _ rfl), (q _).trans (hce 6 _ rfl), (q _).trans (hce 7 _ rfl), (q _).trans (hce 8 _ rfl), (q _).trans (hce 9 _ rfl), (q _).trans (hce 10 _ rfl), (q _).trans (hce 11 _ rfl), (q _).trans (hce 12 _ rfl)⟩, (q2 _).trans (hcf 0 _ rfl), (q2 _).trans (hcf 1 _ rfl), (q2 _).trans (hcf 2 _ rfl), (q2 _).trans (hcf 3 _ rfl), (q2 _).trans (hcf 4 _ rfl), (q2 _).trans (hcf 5 _ rfl), (q2 _).trans (hcf 6 _ rfl), (q2 _).trans (hcf 7 _ rfl), (q2 _).trans (hcf 8 _ rfl), (q2 _).trans (hcf 9 _ rfl), (q2 _).trans (hcf 10 _ rfl), (q2 _).trans (hcf 11 _ rfl), (q2 _).trans (hcf 12 _ rfl)⟩
     clear hI hJ hx1 hy1 hLx hLy hce hcf hcl hcl2 hl1 hl2
     go_wp2_with fail
     refine wp_region_held_drew (S := (fun V => (V.cell? ⟨W.heap.size, 12, none⟩ = some (.slice (some ⟨gb, off, none⟩) ln cl) ∧ V.cell? ⟨W.heap.size + 1, 12, none⟩ = some (.slice (some ⟨gb2, off2, none⟩) ln cm)) ∧ (V.cell? ⟨gb, off + j * 13, none⟩ = some (.int .i64 x.k) ∧ V.cell? ⟨gb, off + j * 13 + 1, none⟩ = some (.int .i64 x.n) ∧ V.cell? ⟨gb, off + j * 13 + 2, none⟩ = some (.string (bs x.s)) ∧ V.cell? ⟨gb, off + j * 13 + 3, none⟩ = some (.int .i64 x.e) ∧ V.cell? ⟨gb, off + j * 13 + 4, none⟩ = some (.int .i64 x.r.1) ∧ V.cell? ⟨gb, off + j * 13 + 5, none⟩ = some (.int .i64 x.r.2.1) ∧ V.cell? ⟨gb, off + j * 13 + 6, none⟩ = some (.bool x.r.2.2.1) ∧ V.cell? ⟨gb, off + j * 13 + 7, none⟩ = some (.bool x.r.2.2.2) ∧ V.cell? ⟨gb, off + j * 13 + 8, none⟩ = some (.int .i64 x.q.1) ∧ V.cell? ⟨gb, off + j * 13 + 9, none⟩ = some (.int .i64 x.q.2.1) ∧ V.cell? ⟨gb, off + j * 13 + 10, none⟩ = some (.bool x.q.2.2.1) ∧ V.cell? ⟨gb, off + j * 13 + 11, none⟩ = some (.bool x.q.2.2.2) ∧ V.cell? ⟨gb, off + j * 13 + 12, none⟩ = some (.slice p1 l1 c1)) ∧ (V.cell? ⟨gb2, off2 + j * 13, none⟩ = some (.int .i64 y.k) ∧ V.cell? ⟨gb2, off2 + j * 13 + 1, none⟩ = some (.int .i64 y.n) ∧ V.cell? ⟨gb2, off2 + j * 13 + 2, none⟩ = some (.string (bs y.s)) ∧ V.cell? ⟨gb2, off2 + j * 13 + 3, none⟩ = some (.int .i64 y.e) ∧ V.cell? ⟨gb2, off2 + j * 13 + 4, none⟩ = some (.int .i64 y.r.1) ∧ V.cell? ⟨gb2, off2 + j * 13 + 5, none⟩ = some (.int .i64 y.r.2.1) ∧ V.cell? ⟨gb2, off2 + j * 13 + 6, none⟩ = some (.bool y.r.2.2.1) ∧ V.cell? ⟨gb2, off2 + j * 13 + 7, none⟩ = some (.bool y.r.2.2.2) ∧ V.cell? ⟨gb2, off2 + j * 13 + 8, none⟩ = some (.int .i64 y.q.1) ∧ V.cell? ⟨gb2, off2 + j * 13 + 9, none⟩ = some (.int .i64 y.q.2.1) ∧ V.cell? ⟨gb2, off2 + j * 13 + 10, none⟩ = some (.bool y.q.2.2.1) ∧ V.cell? ⟨gb2, off2 + j * 13 + 11, none⟩ = some (.bool y.q.2.2.2) ∧ V.cell? ⟨gb2, off2 + j * 13 + 12, none⟩ = some (.slice p2 l2 c2)))) (by kernel_rfl) ?_ (fun hHeld0 => ?_)
     · (refine mkS.out _ ?_; ((with_reducible (repeat (first | assumption | exact Ext.refl _ | apply Ext.alloc | apply Ext.drew | apply Ext.drewN))); done))
     refine wpAnyH_take (i := 0) (oi := ⟨some 93, .fieldAddr 29 (.tmp 2) 6, 0, "ref.go:294", #[], none⟩) (v := ?_) rfl (by kernel_rfl) (by kernel_rfl) (by kernel_rfl) (fun _ _ _ h => h) (Or.inl ⟨by rfl, ?_⟩) (by assumption) ?_
     rotate_left
     · intro w hSw; (try dsimp only at hSw); first | (go_simp; done) | (go_simp; with_reducible rfl)
     try go_frame
     refine wpAnyH_take (i := 1) (oi := ⟨some 94, .load 27 (.tmp 93), 27, "ref.go:294", #[⟨0, .data⟩], none⟩) (v := ?_) rfl (by kernel_rfl) (by kernel_rfl) (by kernel_rfl) (fun _ _ _ h => h) (Or.inl ⟨by rfl, ?_⟩) (by assumption) ?_
     rotate_left
     · intro w hSw; (try dsimp only at hSw); first | (go_simp; done) | (go_simp; with_reducible rfl)
     try go_frame
     refine wpAnyH_take (i := 2) (oi := ⟨some 95, .move (.tmp 5), 3, "ref.go:294", #[], none⟩) (v := ?_) rfl (by kernel_rfl) (by kernel_rfl) (by kernel_rfl) (fun _ _ _ h => h) (Or.inl ⟨by rfl, ?_⟩) (by assumption) ?_
     rotate_left
     · intro w hSw; (try dsimp only at hSw); first | (go_simp; done) | (go_simp; with_reducible rfl)
     try go_frame
     refine wpAnyH_take (i := 3) (oi := ⟨some 96, .indexAddr 27 (.tmp 94) (.tmp 95), 0, "ref.go:294", #[⟨1, .data⟩, ⟨2, .data⟩], none⟩) (v := ?_) rfl (by kernel_rfl) (by kernel_rfl) (by kernel_rfl) (fun _ _ _ h => h) (Or.inl ⟨by rfl, ?_⟩) (by assumption) ?_
     rotate_left
     · intro w hSw; (try dsimp only at hSw); first | (go_simp; done) | (go_simp; with_reducible rfl)
     try go_frame
     refine wpAnyH_take (i := 4) (oi := ⟨some 97, .load 29 (.tmp 96), 29, "ref.go:294", #[⟨3, .data⟩], none⟩) (v := ?_) rfl (by kernel_rfl) (by kernel_rfl) (by kernel_rfl) (fun _ _ _ h => h) (Or.inl ⟨by rfl, ?_⟩) (by assumption) ?_
     rotate_left
     · intro w hSw; (try dsimp only at hSw); first | (go_simp; done) | (go_simp; with_reducible rfl)
     try go_frame
     refine wpAnyH_take (i := 5) (oi := ⟨some 98, .fieldAddr 29 (.tmp 3) 6, 0, "ref.go:294", #[], none⟩) (v := ?_) rfl (by kernel_rfl) (by kernel_rfl) (by kernel_rfl) (fun _ _ _ h => h) (Or.inl ⟨by rfl, ?_⟩) (by assumption) ?_
     rotate_left
     · intro w hSw; (try dsimp only at hSw); first | (go_simp; done) | (go_simp; with_reducible rfl)
     try go_frame
     refine wpAnyH_take (i := 6) (oi := ⟨some 99, .load 27 (.tmp 98), 27, "ref.go:294", #[⟨5, .data⟩], none⟩) (v := ?_) rfl (by kernel_rfl) (by kernel_rfl) (by kernel_rfl) (fun _ _ _ h => h) (Or.inl ⟨by rfl, ?_⟩) (by assumption) ?_
     rotate_left
     · intro w hSw; (try dsimp only at hSw); first | (go_simp; done) | (go_simp; with_reducible rfl)
     try go_frame
     refine wpAnyH_take (i := 7) (oi := ⟨some 100, .move (.tmp 5), 3, "ref.go:294", #[], none⟩) (v := ?_) rfl (by kernel_rfl) (by kernel_rfl) (by kernel_rfl) (fun _ _ _ h => h) (Or.inl ⟨by rfl, ?_⟩) (by assumption) ?_
     rotate_left
     · intro w hSw; (try dsimp only at hSw); first | (go_simp; done) | (go_simp; with_reducible rfl)
     try go_frame
     refine wpAnyH_take (i := 8) (oi := ⟨some 101, .indexAddr 27 (.tmp 99) (.tmp 100), 0, "ref.go:294", #[⟨6, .data⟩, ⟨7, .data⟩], none⟩) (v := ?_) rfl (by kernel_rfl) (by kernel_rfl) (by kernel_rfl) (fun _ _ _ h => h) (Or.inl ⟨by rfl, ?_⟩) (by assumption) ?_
     rotate_left
     · intro w hSw; (try dsimp only at hSw); first | (go_simp; done) | (go_simp; with_reducible rfl)
     try go_frame
     refine wpAnyH_take (i := 9) (oi := ⟨some 102, .load 29 (.tmp 101), 29, "ref.go:294", #[⟨8, .data⟩], none⟩) (v := ?_) rfl (by kernel_rfl) (by kernel_rfl) (by kernel_rfl) (fun _ _ _ h => h) (Or.inl ⟨by rfl, ?_⟩) (by assumption) ?_
     rotate_left
     · intro w hSw; (try dsimp only at hSw); first | (go_simp; done) | (go_simp; with_reducible rfl)
     try go_frame
     refine wpAnyH_ready (rs := [10]) (by kernel_rfl) (by simp) ?_
     refine AllReadyH.cons (o := ⟨some 103, .call { callee := .value (.func 48), args := #[.tmp 97, .tmp 102], argTypes := #[29, 29] }, 4, "ref.go:294", #[⟨4, .data⟩, ⟨9, .data⟩], none⟩) rfl (fun K hK => ?_) AllReadyH.nil
     go_simp
     (go_at_call 48; refine Calls.mono (HC.out _ (by with_reducible repeat (first | assumption | exact Ext.refl _ | apply Ext.alloc | apply Ext.drew | apply Ext.drewN))) ?_; rintro e w9 ⟨rfl, E9⟩; have X9 : Ext wr w9 := Ext.trans (by with_reducible repeat (first | assumption | exact Ext.refl _ | apply Ext.alloc | apply Ext.drew | apply Ext.drewN)) E9)
     try go_wp2_with fail
     refine hK.out _ _ ?_ (fun hHeld1 => ?_)
     · (try dsimp only); (refine mkS.out _ ?_; ((with_reducible (repeat (first | assumption | exact Ext.refl _ | apply Ext.alloc | apply Ext.drew | apply Ext.drewN))); done))
     clear hK K hHeld0
     try go_frame
     refine wpAnyH_take (i := 11) (oi := ⟨some 104, .unOp .not 4 (.tmp 103), 4, "ref.go:294", #[⟨10, .data⟩], none⟩) (v := ?_) rfl (by kernel_rfl) (by kernel_rfl) (by kernel_rfl) (fun _ _ _ h => h) (Or.inl ⟨by rfl, ?_⟩) (by assumption) ?_
     rotate_left
     · intro w hSw; (try dsimp only at hSw); first | (go_simp; done) | (go_simp; with_reducible rfl)
     try go_frame
     refine wpAnyH_done (by kernel_rfl) ?_ _
     have HE9 : Hid (Ext W w9 ∧ BlkX w9 W.heap.size a (.slice (some ⟨gb, off, none⟩) ln cl) ∧ BlkX w9 (W.heap.size + 1) b (.slice (some ⟨gb2, off2, none⟩) ln cm)) := ⟨HE.out.1.trans X9, HBX.out.1.ext X9, HBX.out.2.ext X9⟩
     clear E9 X9 k0 k1 k2 k3 k4 k5 k6 k7 k8 k9 k10 k11 k12 m0 m1 m2 m3 m4 m5 m6 m7 m8 m9 m10 m11 m12
     cases hgx : sameT n x y
     · have HR : Hid (allZ (sameT n) a.l b.l = false) := allZ_no _ _ _ j x y HX1.out.1 HX1.out.2 hgx
       clear hgx
       go_wp2_with fail
       go_ret
       exact ⟨ret_bool (by rw [HX.out, HR.out]), HE9.out.1⟩
     · have HR : Hid (allZ (sameT n) (a.l.take (j + 1)) (b.l.take (j + 1)) = true) := by show _ = _; rw [allZ_take _ _ _ j x y HX1.out.1 HX1.out.2, HE.out.2, hgx]; rfl
       clear hgx
       go_wp2_with fail
       go_roundw
       case rel => exact ⟨j + 1, by omega, by go_num, HR.out, HE9.out.2.1, HE9.out.2.2, HE9.out.1⟩
       case measure => show ln - ((j : Int) + 1).toNat < ln - ((j : Int)).toNat; omega
   · have hltI : ¬ (j : Int) < (ln : Int) := by omega
     have HR : Hid (allZ (sameT n) a.l b.l = true) := by
       show _ = _
       have := HE.out.2
       rw [List.take_of_length_le (by have := HLN.out.1; omega), List.take_of_length_le (by have := HLN.out.2; omega)] at this
       exact this
     go_wp2_with fail
     go_ret
     exact ⟨ret_bool (by rw [HX.out, HR.out]), HE.out.1⟩
set_option maxRecDepth 100000 in
theorem rsame_7 (P : Nat → Prop) (n : Nat) (a : T) (hk : a.k = 7) (hl : a.l.length ≤ 100000) (hx : ∀ x ∈ a.l, SmC 48 P n x) : SmC 48 P (n + 1) a := by
 intro b W pp qq ln cl lm cm hI hJ
 have hln : a.l.length = ln := by
   obtain ⟨p, c, h1, _⟩ := hI.form
   cases h1; rfl
 have hlm : b.l.length = lm := by
   obtain ⟨p, c, h1, _⟩ := hJ.form
   cases h1; rfl
 have hl2 : ln ≤ 100000 := by omega
 have e0 : (a.k == 0) = false := by rw [hk]; rfl
 have e1 : (a.k == 1) = false := by rw [hk]; rfl
 have e2 : (a.k == 2) = false := by rw [hk]; rfl
 have e3 : (a.k == 3) = false := by rw [hk]; rfl
 have e4 : (a.k == 4) = false := by rw [hk]; rfl
 have e5 : (a.k == 5) = false := by rw [hk]; rfl
 have e6 : (a.k != 6) = true := by rw [hk]; rfl
 have c1 := fun W => rparts_any a.k W
 rw [decide_eq_true (show a.k = 6 ∨ a.k = 7 ∨ a.k = 8 by omega)] at c1
 by_cases hnb : ¬ a.k = b.k
 · have hkb := hnb
   clear hnb
   have kn : (a.k != b.k) = true := by simpa using hkb
   have HX : Hid (sameT (n + 1) a b = false) := by show _ = _; unfold sameT; rw [if_pos hkb]
   clear hk hkb hI hJ hln hlm hl hx c1
   go_enter Try.func48, Try.ntmps48
   go_wp2_with fail
   go_ret
   exact ⟨ret_bool (by rw [HX.out]), ((Ext.refl _).alloc _).alloc _⟩
 have hkb : a.k = b.k := Decidable.not_not.1 hnb
 clear hnb
 have kn : (a.k != b.k) = false := by rw [hkb]; simp
 by_cases hns : ¬ a.s = b.s
 · have hs := hns
   clear hns
   have es : ((bs a.s).toList == (bs b.s).toList) = false := by rw [bs_tl9, bs_tl9]; simpa using hs
   have HX : Hid (sameT (n + 1) a b = false) := by show _ = _; unfold sameT; rw [if_neg (by rw [← hkb]; simp)]; simp [hk, hs]
   generalize bs a.s = qa at *
   generalize bs b.s = qb at *
   clear hk hkb hI hJ hln hlm hl hx hs
   go_enter Try.func48, Try.ntmps48
   go_wp2_with fail
   refine (c1 _).mono ?_
   rintro e w1 ⟨rfl, rfl⟩
   go_wp2_with fail
   go_ret
   exact ⟨ret_bool (by rw [HX.out]), ((Ext.refl _).alloc _).alloc _⟩
 have hs : a.s = b.s := Decidable.not_not.1 hns
 clear hns
 have es : ((bs a.s).toList == (bs b.s).toList) = true := by rw [bs_tl9, bs_tl9]; simpa using hs
 have HX : Hid (sameT (n + 1) a b = allZ (sameT n) a.l b.l) := by show _ = _; unfold sameT; rw [if_neg (by rw [← hkb]; simp)]; simp [hk, hs]
 by_cases hnl : ¬ ln = lm
 · have hll := hnl
   clear hnl
   have el : ((ln : Int) != (lm : Int)) = true := by simp; omega
   have HX : Hid (sameT (n + 1) a b = false) := by show _ = _; rw [HX.out]; exact allZ_len _ _ _ (by omega)
   clear hk hkb hI hJ hln hlm hl hx hll hs
   go_enter Try.func48, Try.ntmps48
   go_wp2_with fail
   refine (c1 _).mono ?_
   rintro e w1 ⟨rfl, rfl⟩
   go_wp2_with fail
   go_ret
   exact ⟨ret_bool (by rw [HX.out]), ((Ext.refl _).alloc _).alloc _⟩
 have hll : ln = lm := Decidable.not_not.1 hnl
 clear hnl
 have el : ((ln : Int) != (lm : Int)) = false := by simp; omega
 subst hll
 have ell : ((ln : Int) != (ln : Int)) = false := by simp
 have HI : Hid (IsL W P (.slice pp ln cl) a.l ∧ IsL W P (.slice qq ln cm) b.l) := ⟨hI, hJ⟩
 have HLN : Hid (a.l.length = ln ∧ b.l.length = ln) := ⟨hln, hlm⟩
 have HXX : Hid (∀ x ∈ a.l, SmC 48 P n x) := hx
 clear hk hkb hI hJ hln hlm hl hx hs
 go_enter Try.func48, Try.ntmps48
 go_wp2_with fail
 refine (c1 _).mono ?_
 rintro e w1 ⟨rfl, rfl⟩
 go_wp2_with fail
 go_loopw [5] (fun iv wr => ∃ j : Nat, j ≤ ln ∧ iv = .int .i64 (j : Int) ∧ allZ (sameT n) (a.l.take j) (b.l.take j) = true ∧ BlkX wr W.heap.size a (.slice pp ln cl) ∧ BlkX wr (W.heap.size + 1) b (.slice qq ln cm) ∧ Ext W wr) (fun iv _ => ln - (intOf iv).toNat)
 case atStart => exact ⟨0, Nat.zero_le _, rfl, rfl, blk13_top rfl ((Ext.refl _).alloc _), blk13_top (by simp) (Ext.refl _), ((Ext.refl _).alloc _).alloc _⟩
 case round =>
   obtain ⟨j, hj, rfl, hg, hB, hB2, hE⟩ := hrel
   have HE : Hid (Ext W wr ∧ allZ (sameT n) (a.l.take j) (b.l.take j) = true) := ⟨hE, hg⟩
   have HBX : Hid (BlkX wr W.heap.size a (.slice pp ln cl) ∧ BlkX wr (W.heap.size + 1) b (.slice qq ln cm)) := ⟨hB, hB2⟩
   obtain ⟨qz, ⟨k0, k1, k2, k3, k4, k5, k6, k7, k8, k9, k10, k11, k12⟩, gz⟩ := hB
   obtain ⟨qy, ⟨m0, m1, m2, m3, m4, m5, m6, m7, m8, m9, m10, m11, m12⟩, gy⟩ := hB2
   clear hE hg gz gy
   by_cases hlt : j < ln
   · have hltI : (j : Int) < (ln : Int) := by omega
     have hI := HI.out.1.ext HE.out.1
     have hJ := HI.out.2.ext HE.out.1
     obtain ⟨gb, off, x, lv, hpp, hx1, hA1, hgb, hA2, hLx, hce⟩ := hI.at (i := j) (by rw [HLN.out.1]; exact hlt)
     obtain ⟨gb2, off2, y, lv2, hqq, hy1, hA3, hgb2, hA4, hLy, hcf⟩ := hJ.at (i := j) (by rw [HLN.out.2]; exact hlt)
     clear hA1 hA2 hA3 hA4
     subst hpp hqq
     obtain ⟨p1, c1, hlv, hcl⟩ := hLx.form
     obtain ⟨l1, hl1⟩ : ∃ l1, x.l.length = l1 := ⟨_, rfl⟩
     rw [hl1] at hlv
     subst hlv
     obtain ⟨p2, c2, hlv2, hcl2⟩ := hLy.form
     obtain ⟨l2, hl2⟩ : ∃ l2, y.l.length = l2 := ⟨_, rfl⟩
     rw [hl2] at hlv2
     subst hlv2
     have HX1 : Hid (a.l[j]? = some x ∧ b.l[j]? = some y) := ⟨hx1, hy1⟩
     have HC : Hid (∀ V, Ext wr V → Calls Try.prog 48 #[.agg #[.int .i64 x.k, .int .i64 x.n, .string (bs x.s), .int .i64 x.e, .int .i64 x.r.1, .int .i64 x.r.2.1, .bool x.r.2.2.1, .bool x.r.2.2.2, .int .i64 x.q.1, .int .i64 x.q.2.1, .bool x.q.2.2.1, .bool x.q.2.2.2, .slice p1 l1 c1], .agg #[.int .i64 y.k, .int .i64 y.n, .string (bs y.s), .int .i64 y.e, .int .i64 y.r.1, .int .i64 y.r.2.1, .bool y.r.2.2.1, .bool y.r.2.2.2, .int .i64 y.q.1, .int .i64 y.q.2.1, .bool y.q.2.2.1, .bool y.q.2.2.2, .slice p2 l2 c2]] V fun e w' => e = .returned (.bool (sameT n x y)) ∧ Ext V w') := fun V e => HXX.out x (List.mem_of_getElem? hx1) y V p1 p2 l1 c1 l2 c2 (hLx.ext e) (hLy.ext e)
     have mkS : Hid (∀ V, Ext wr V → (V.cell? ⟨W.heap.size, 12, none⟩ = some (.slice (some ⟨gb, off, none⟩) ln cl) ∧ V.cell? ⟨W.heap.size + 1, 12, none⟩ = some (.slice (some ⟨gb2, off2, none⟩) ln cm)) ∧ (V.cell? ⟨gb, off + j * 13, none⟩ = some (.int .i64 x.k) ∧ V.cell? ⟨gb, off + j * 13 + 1, none⟩ = some (.int .i64 x.n) ∧ V.cell? ⟨gb, off + j * 13 + 2, none⟩ = some (.string (bs x.s)) ∧ V.cell? ⟨gb, off + j * 13 + 3, none⟩ = some (.int .i64 x.e) ∧ V.cell? ⟨gb, off + j * 13 + 4, none⟩ = some (.int .i64 x.r.1) ∧ V.cell? ⟨gb, off + j * 13 + 5, none⟩ = some (.int .i64 x.r.2.1) ∧ V.cell? ⟨gb, off + j * 13 + 6, none⟩ = some (.bool x.r.2.2.1) ∧ V.cell? ⟨gb, off + j * 13 + 7, none⟩ = some (.bool x.r.2.2.2) ∧ V.cell? ⟨gb, off + j * 13 + 8, none⟩ = some (.int .i64 x.q.1) ∧ V.cell? ⟨gb, off + j * 13 + 9, none⟩ = some (.int .i64 x.q.2.1) ∧ V.cell? ⟨gb, off + j * 13 + 10, none⟩ = some (.bool x.q.2.2.1) ∧ V.cell? ⟨gb, off + j * 13 + 11, none⟩ = some (.bool x.q.2.2.2) ∧ V.cell? ⟨gb, off + j * 13 + 12, none⟩ = some (.slice p1 l1 c1)) ∧ (V.cell? ⟨gb2, off2 + j * 13, none⟩ = some (.int .i64 y.k) ∧ V.cell? ⟨gb2, off2 + j * 13 + 1, none⟩ = some (.int .i64 y.n) ∧ V.cell? ⟨gb2, off2 + j * 13 + 2, none⟩ = some (.string (bs y.s)) ∧ V.cell? ⟨gb2, off2 + j * 13 + 3, none⟩ = some (.int .i64 y.e) ∧ V.cell? ⟨gb2, off2 + j * 13 + 4, none⟩ = some (.int .i64 y.r.1) ∧ V.cell? ⟨gb2, off2 + j * 13 + 5, none⟩ = some (.int .i64 y.r.2.1) ∧ V.cell? ⟨gb2, off2 + j * 13 + 6, none⟩ = some (.bool y.r.2.2.1) ∧ V.cell? ⟨gb2, off2 + j * 13 + 7, none⟩ = some (.bool y.r.2.2.2) ∧ V.cell? ⟨gb2, off2 + j * 13 + 8, none⟩ = some (.int .i64 y.q.1) ∧ V.cell? ⟨gb2, off2 + j * 13 + 9, none⟩ = some (.int .i64 y.q.2.1) ∧ V.cell? ⟨gb2, off2 + j * 13 + 10, none⟩ = some (.bool y.q.2.2.1) ∧ V.cell? ⟨gb2, off2 + j * 13 + 11, none⟩ = some (.bool y.q.2.2.2) ∧ V.cell? ⟨gb2, off2 + j * 13 + 12, none⟩ = some (.slice p2 l2 c2))) := fun V e => by
       have q := fun o => e.cell.1 gb o hgb
       have q2 := fun o => e.cell.1 gb2 o hgb2
       obtain ⟨qz, ⟨k0, k1, k2, k3, k4, k5, k6, k7, k8, k9, k10, k11, k12⟩, gz⟩ := HBX.out.1.ext e
       obtain ⟨qy, ⟨m0, m1, m2, m3, m4, m5, m6, m7, m8, m9, m10, m11, m12⟩, gy⟩ := HBX.out.2.ext e
       exact ⟨⟨k12, m12⟩, ⟨(q _).trans (hce 0 _ rfl), (q _).trans (hce 1 _ rfl), (q _).trans (hce 2 _ rfl), (q _).trans (hce 3 _ rfl), (q _).trans (hce 4 _ rfl), (q _).trans (hce 5 _ rfl), (q _).trans (hce 6 _ rfl), (q _).trans (hce 7 _ rfl), (q _).trans (hce 8 _ rfl), (q _).trans (hce 9 _ rfl), (q _).trans (hce 10 _ rfl), (q _).trans (hce 11 _ rfl), (q _).trans (hce 12 _ rfl)⟩, (q2 _).trans (hcf 0 _ rfl), (q2 _).trans (hcf 1 _ rfl), (q2 _).trans (hcf 2 _ rfl), (q2 _).trans (hcf 3 _ rfl), (q2 _).trans (hcf 4 _ rfl), (q2 _).trans (hcf 5 _ rfl), (q2 _).trans (hcf 6 _ rfl), (q2 _).trans (hcf 7 _ rfl), (q2 _).trans (hcf 8 _ rfl), (q2 _).trans (hcf 9 _ rfl), (q2 _).trans (hcf 10 _ rfl), (q2 _).trans (hcf 11 _ rfl), (q2 _).trans (hcf 12 _ rfl)⟩
     clear hI hJ hx1 hy1 hLx hLy hce hcf hcl hcl2 hl1 hl2
     go_wp2_with fail
     refine wp_region_held_drew (S := (fun V => (V.cell? ⟨W.heap.size, 12, none⟩ = some (.slice (some ⟨gb, off, none⟩) ln cl) ∧ V.cell? ⟨W.heap.size + 1, 12, none⟩ = some (.slice (some ⟨gb2, off2, none⟩) ln cm)) ∧ (V.cell? ⟨gb, off + j * 13, none⟩ = some (.int .i64 x.k) ∧ V.cell? ⟨gb, off + j * 13 + 1, none⟩ = some (.int .i64 x.n) ∧ V.cell? ⟨gb, off + j * 13 + 2, none⟩ = some (.string (bs x.s)) ∧ V.cell? ⟨gb, off + j * 13 + 3, none⟩ = some (.int .i64 x.e) ∧ V.cell? ⟨gb, off + j * 13 + 4, none⟩ = some (.int .i64 x.r.1) ∧ V.cell? ⟨gb, off + j * 13 + 5, none⟩ = some (.int .i64 x.r.2.1) ∧ V.cell? ⟨gb, off + j * 13 + 6, none⟩ = some (.bool x.r.2.2.1) ∧ V.cell? ⟨gb, off + j * 13 + 7, none⟩ = some (.bool x.r.2.2.2) ∧ V.cell? ⟨gb, off + j * 13 + 8, none⟩ = some (.int .i64 x.q.1) ∧ V.cell? ⟨gb, off + j * 13 + 9, none⟩ = some (.int .i64 x.q.2.1) ∧ V.cell? ⟨gb, off + j * 13 + 10, none⟩ = some (.bool x.q.2.2.1) ∧ V.cell? ⟨gb, off + j * 13 + 11, none⟩ = some (.bool x.q.2.2.2) ∧ V.cell? ⟨gb, off + j * 13 + 12, none⟩ = some (.slice p1 l1 c1)) ∧ (V.cell? ⟨gb2, off2 + j * 13, none⟩ = some (.int .i64 y.k) ∧ V.cell? ⟨gb2, off2 + j * 13 + 1, none⟩ = some (.int .i64 y.n) ∧ V.cell? ⟨gb2, off2 + j * 13 + 2, none⟩ = some (.string (bs y.s)) ∧ V.cell? ⟨gb2, off2 + j * 13 + 3, none⟩ = some (.int .i64 y.e) ∧ V.cell? ⟨gb2, off2 + j * 13 + 4, none⟩ = some (.int .i64 y.r.1) ∧ V.cell? ⟨gb2, off2 + j * 13 + 5, none⟩ = some (.int .i64 y.r.2.1) ∧ V.cell? ⟨gb2, off2 + j * 13 + 6, none⟩ = some (.bool y.r.2.2.1) ∧ V.cell? ⟨gb2, off2 + j * 13 + 7, none⟩ = some (.bool y.r.2.2.2) ∧ V.cell? ⟨gb2, off2 + j * 13 + 8, none⟩ = some (.int .i64 y.q.1) ∧ V.cell? ⟨gb2, off2 + j * 13 + 9, none⟩ = some (.int .i64 y.q.2.1) ∧ V.cell? ⟨gb2, off2 + j * 13 + 10, none⟩ = some (.bool y.q.2.2.1) ∧ V.cell? ⟨gb2, off2 + j * 13 + 11, none⟩ = some (.bool y.q.2.2.2) ∧ V.cell? ⟨gb2, off2 + j * 13 + 12, none⟩ = some (.slice p2 l2 c2)))) (by kernel_rfl) ?_ (fun hHeld0 => ?_)
     · (refine mkS.out _ ?_; ((with_reducible (repeat (first | assumption | exact Ext.refl _ | apply Ext.alloc | apply Ext.drew | apply Ext.drewN))); done))
     refine wpAnyH_take (i := 0) (oi := ⟨some 93, .fieldAddr 29 (.tmp 2) 6, 0, "ref.go:294", #[], none⟩) (v := ?_) rfl (by kernel_rfl) (by kernel_rfl) (by kernel_rfl) (fun _ _ _ h => h) (Or.inl ⟨by rfl, ?_⟩) (by assumption) ?_
     rotate_left
     · intro w hSw; (try dsimp only at hSw); first | (go_simp; done) | (go_simp; with_reducible rfl)
     try go_frame
     refine wpAnyH_take (i := 1) (oi := ⟨some 94, .load 27 (.tmp 93), 27, "ref.go:294", #[⟨0, .data⟩], none⟩) (v := ?_) rfl (by kernel_rfl) (by kernel_rfl) (by kernel_rfl) (fun _ _ _ h => h) (Or.inl ⟨by rfl, ?_⟩) (by assumption) ?_
     rotate_left
     · intro w hSw; (try dsimp only at hSw); first | (go_simp; done) | (go_simp; with_reducible rfl)
     try go_frame
     refine wpAnyH_take (i := 2) (oi := ⟨some 95, .move (.tmp 5), 3, "ref.go:294", #[], none⟩) (v := ?_) rfl (by kernel_rfl) (by kernel_rfl) (by kernel_rfl) (fun _ _ _ h => h) (Or.inl ⟨by rfl, ?_⟩) (by assumption) ?_
     rotate_left
     · intro w hSw; (try dsimp only at hSw); first | (go_simp; done) | (go_simp; with_reducible rfl)
     try go_frame
     refine wpAnyH_take (i := 3) (oi := ⟨some 96, .indexAddr 27 (.tmp 94) (.tmp 95), 0, "ref.go:294", #[⟨1, .data⟩, ⟨2, .data⟩], none⟩) (v := ?_) rfl (by kernel_rfl) (by kernel_rfl) (by kernel_rfl) (fun _ _ _ h => h) (Or.inl ⟨by rfl, ?_⟩) (by assumption) ?_
     rotate_left
     · intro w hSw; (try dsimp only at hSw); first | (go_simp; done) | (go_simp; with_reducible rfl)
     try go_frame
     refine wpAnyH_take (i := 4) (oi := ⟨some 97, .load 29 (.tmp 96), 29, "ref.go:294", #[⟨3, .data⟩], none⟩) (v := ?_) rfl (by kernel_rfl) (by kernel_rfl) (by kernel_rfl) (fun _ _ _ h => h) (Or.inl ⟨by rfl, ?_⟩) (by assumption) ?_
     rotate_left
     · intro w hSw; (try dsimp only at hSw); first | (go_simp; done) | (go_simp; with_reducible rfl)
     try go_frame
     refine wpAnyH_take (i := 5) (oi := ⟨some 98, .fieldAddr 29 (.tmp 3) 6, 0, "ref.go:294", #[], none⟩) (v := ?_) rfl (by kernel_rfl) (by kernel_rfl) (by kernel_rfl) (fun _ _ _ h => h) (Or.inl ⟨by rfl, ?_⟩) (by assumption) ?_
     rotate_left
     · intro w hSw; (try dsimp only at hSw); first | (go_simp; done) | (go_simp; with_reducible rfl)
     try go_frame
     refine wpAnyH_take (i := 6) (oi := ⟨some 99, .load 27 (.tmp 98), 27, "ref.go:294", #[⟨5, .data⟩], none⟩) (v := ?_) rfl (by kernel_rfl) (by kernel_rfl) (by kernel_rfl) (fun _ _ _ h => h) (Or.inl ⟨by rfl, ?_⟩) (by assumption) ?_
     rotate_left
     · intro w hSw; (try dsimp only at hSw); first | (go_simp; done) | (go_simp; with_reducible rfl)
     try go_frame
     refine wpAnyH_take (i := 7) (oi := ⟨some 100, .move (.tmp 5), 3, "ref.go:294", #[], none⟩) (v := ?_) rfl (by kernel_rfl) (by kernel_rfl) (by kernel_rfl) (fun _ _ _ h => h) (Or.inl ⟨by rfl, ?_⟩) (by assumption) ?_
     rotate_left
     · intro w hSw; (try dsimp only at hSw); first | (go_simp; done) | (go_simp; with_reducible rfl)
     try go_frame
     refine wpAnyH_take (i := 8) (oi := ⟨some 101, .indexAddr 27 (.tmp 99) (.tmp 100), 0, "ref.go:294", #[⟨6, .data⟩, ⟨7, .data⟩], none⟩) (v := ?_) rfl (by kernel_rfl) (by kernel_rfl) (by kernel_rfl) (fun _ _ _ h => h) (Or.inl ⟨by rfl, ?_⟩) (by assumption) ?_
     rotate_left
     · intro w hSw; (try dsimp only at hSw); first | (go_simp; done) | (go_simp; with_reducible rfl)
     try go_frame
     refine wpAnyH_take (i := 9) (oi := ⟨some 102, .load 29 (.tmp 101), 29, "ref.go:294", #[⟨8, .data⟩], none⟩) (v := ?_) rfl (by kernel_rfl) (by kernel_rfl) (by kernel_rfl) (fun _ _ _ h => h) (Or.inl ⟨by rfl, ?_⟩) (by assumption) ?_
     rotate_left
     · intro w hSw; (try dsimp only at hSw); first | (go_simp; done) | (go_simp; with_reducible rfl)
     try go_frame
     refine wpAnyH_ready (rs := [10]) (by kernel_rfl) (by simp) ?_
     refine AllReadyH.cons (o := ⟨some 103, .call { callee := .value (.func 48), args := #[.tmp 97, .tmp 102], argTypes := #[29, 29] }, 4, "ref.go:294", #[⟨4, .data⟩, ⟨9, .data⟩], none⟩) rfl (fun K hK => ?_) AllReadyH.nil
     go_simp
     (go_at_call 48; refine Calls.mono (HC.out _ (by with_reducible repeat (first | assumption | exact Ext.refl _ | apply Ext.alloc | apply Ext.drew | apply Ext.drewN))) ?_; rintro e w9 ⟨rfl, E9⟩; have X9 : Ext wr w9 := Ext.trans (by with_reducible repeat (first | assumption | exact Ext.refl _ | apply Ext.alloc | apply Ext.drew | apply Ext.drewN)) E9)
     try go_wp2_with fail
     refine hK.out _ _ ?_ (fun hHeld1 => ?_)
     · (try dsimp only); (refine mkS.out _ ?_; ((with_reducible (repeat (first | assumption | exact Ext.refl _ | apply Ext.alloc | apply Ext.drew | apply Ext.drewN))); done))
     clear hK K hHeld0
     try go_frame
     refine wpAnyH_take (i := 11) (oi := ⟨some 104, .unOp .not 4 (.tmp 103), 4, "ref.go:294", #[⟨10, .data⟩], none⟩) (v := ?_) rfl (by kernel_rfl) (by kernel_rfl) (by kernel_rfl) (fun _ _ _ h => h) (Or.inl ⟨by rfl, ?_⟩) (by assumption) ?_
     rotate_left
     · intro w hSw; (try dsimp only at hSw); first | (go_simp; done) | (go_simp; with_reducible rfl)
     try go_frame
     refine wpAnyH_done (by kernel_rfl) ?_ _
     have HE9 : Hid (Ext W w9 ∧ BlkX w9 W.heap.size a (.slice (some ⟨gb, off, none⟩) ln cl) ∧ BlkX w9 (W.heap.size + 1) b (.slice (some ⟨gb2, off2, none⟩) ln cm)) := ⟨HE.out.1.trans X9, HBX.out.1.ext X9, HBX.out.2.ext X9⟩
     clear E9 X9 k0 k1 k2 k3 k4 k5 k6 k7 k8 k9 k10 k11 k12 m0 m1 m2 m3 m4 m5 m6 m7 m8 m9 m10 m11 m12
     cases hgx : sameT n x y
     · have HR : Hid (allZ (sameT n) a.l b.l = false) := allZ_no _ _ _ j x y HX1.out.1 HX1.out.2 hgx
       clear hgx
       go_wp2_with fail
       go_ret
       exact ⟨ret_bool (by rw [HX.out, HR.out]), HE9.out.1⟩
     · have HR : Hid (allZ (sameT n) (a.l.take (j + 1)) (b.l.take (j + 1)) = true) := by show _ = _; rw [allZ_take _ _ _ j x y HX1.out.1 HX1.out.2, HE.out.2, hgx]; rfl
       clear hgx
       go_wp2_with fail
       go_roundw
       case rel => exact ⟨j + 1, by omega, by go_num, HR.out, HE9.out.2.1, HE9.out.2.2, HE9.out.1⟩
       case measure => show ln - ((j : Int) + 1).toNat < ln - ((j : Int)).toNat; omega
   · have hltI : ¬ (j : Int) < (ln : Int) := by omega
     have HR : Hid (allZ (sameT n) a.l b.l = true) := by
       show _ = _
       have := HE.out.2
       rw [List.take_of_length_le (by have := HLN.out.1; omega), List.take_of_length_le (by have := HLN.out.2; omega)] at this
       exact this
     go_wp2_with fail
     go_ret
     exact ⟨ret_bool (by rw [HX.out, HR.out]), HE.out.1⟩
set_option maxRecDepth 100000 in
theorem rsame_8 (P : Nat → Prop) (n : Nat) (a : T) (hk : a.k = 8) (hl : a.l.length ≤ 100000) (hx : ∀ x ∈ a.l, SmC 48 P n x) : SmC 48 P (n + 1) a := by
 intro b W pp qq ln cl lm cm hI hJ
 have hln : a.l.length = ln := by
   obtain ⟨p, c, h1, _⟩ := hI.form
   cases h1; rfl
 have hlm : b.l.length = lm := by
   obtain ⟨p, c, h1, _⟩ := hJ.form
   cases h1; rfl
 have hl2 : ln ≤ 100000 := by omega
 have e0 : (a.k == 0) = false := by rw [hk]; rfl
 have e1 : (a.k == 1) = false := by rw [hk]; rfl
 have e2 : (a.k == 2) = false := by rw [hk]; rfl
 have e3 : (a.k == 3) = false := by rw [hk]; rfl
 have e4 : (a.k == 4) = false := by rw [hk]; rfl
 have e5 : (a.k == 5) = false := by rw [hk]; rfl
 have e6 : (a.k != 6) = true := by rw [hk]; rfl
 have c1 := fun W => rparts_any a.k W
 rw [decide_eq_true (show a.k = 6 ∨ a.k = 7 ∨ a.k = 8 by omega)] at c1
 by_cases hnb : ¬ a.k = b.k
 · have hkb := hnb
   clear hnb
   have kn : (a.k != b.k) = true := by simpa using hkb
   have HX : Hid (sameT (n + 1) a b = false) := by show _ = _; unfold sameT; rw [if_pos hkb]
   clear hk hkb hI hJ hln hlm hl hx c1
   go_enter Try.func48, Try.ntmps48
   go_wp2_with fail
   go_ret
   exact ⟨ret_bool (by rw [HX.out]), ((Ext.refl _).alloc _).alloc _⟩
 have hkb : a.k = b.k := Decidable.not_not.1 hnb
 clear hnb
 have kn : (a.k != b.k) = false := by rw [hkb]; simp
 by_cases hns : ¬ a.s = b.s
 · have hs := hns
   clear hns
   have es : ((bs a.s).toList == (bs b.s).toList) = false := by rw [bs_tl9, bs_tl9]; simpa using hs
   have HX : Hid (sameT (n + 1) a b = false) := by show _ = _; unfold sameT; rw [if_neg (by rw [← hkb]; simp)]; simp [hk, hs]
   generalize bs a.s = qa at *
   generalize bs b.s = qb at *
   clear hk hkb hI hJ hln hlm hl hx hs
   go_enter Try.func48, Try.ntmps48
   go_wp2_with fail
   refine (c1 _).mono ?_
   rintro e w1 ⟨rfl, rfl⟩
   go_wp2_with fail
   go_ret
   exact ⟨ret_bool (by rw [HX.out]), ((Ext.refl _).alloc _).alloc _⟩
 have hs : a.s = b.s := Decidable.not_not.1 hns
 clear hns
 have es : ((bs a.s).toList == (bs b.s).toList) = true := by rw [bs_tl9, bs_tl9]; simpa using hs
 have HX : Hid (sameT (n + 1) a b = allZ (sameT n) a.l b.l) := by show _ = _; unfold sameT; rw [if_neg (by rw [← hkb]; simp)]; simp [hk, hs]
 by_cases hnl : ¬ ln = lm
 · have hll := hnl
   clear hnl
   have el : ((ln : Int) != (lm : Int)) = true := by simp; omega
   have HX : Hid (sameT (n + 1) a b = false) := by show _ = _; rw [HX.out]; exact allZ_len _ _ _ (by omega)
   clear hk hkb hI hJ hln hlm hl hx hll hs
   go_enter Try.func48, Try.ntmps48
   go_wp2_with fail
   refine (c1 _).mono ?_
   rintro e w1 ⟨rfl, rfl⟩
   go_wp2_with fail
   go_ret
   exact ⟨ret_bool (by rw [HX.out]), ((Ext.refl _).alloc _).alloc _⟩
 have hll : ln = lm := Decidable.not_not.1 hnl
 clear hnl
 have el : ((ln : Int) != (lm : Int)) = false := by simp; omega
 subst hll
 have ell : ((ln : Int) != (ln : Int)) = false := by simp
 have HI : Hid (IsL W P (.slice pp ln cl) a.l ∧ IsL W P (.slice qq ln cm) b.l) := ⟨hI, hJ⟩
 have HLN : Hid (a.l.length = ln ∧ b.l.length = ln) := ⟨hln, hlm⟩
 have HXX : Hid (∀ x ∈ a.l, SmC 48 P n x) := hx
 clear hk hkb hI hJ hln hlm hl hx hs
 go_enter Try.func48, Try.ntmps48
 go_wp2_with fail
 refine (c1 _).mono ?_
 rintro e w1 ⟨rfl, rfl⟩
 go_wp2_with fail
 go_loopw [5] (fun iv wr => ∃ j : Nat, j ≤ ln ∧ iv = .int .i64 (j : Int) ∧ allZ (sameT n) (a.l.take j) (b.l.take j) = true ∧ BlkX wr W.heap.size a (.slice pp ln cl) ∧ BlkX wr (W.heap.size + 1) b (.slice qq ln cm) ∧ Ext W wr) (fun iv _ => ln - (intOf iv).toNat)
 case atStart => exact ⟨0, Nat.zero_le _, rfl, rfl, blk13_top rfl ((Ext.refl _).alloc _), blk13_top (by simp) (Ext.refl _), ((Ext.refl _).alloc _).alloc _⟩
 case round =>
   obtain ⟨j, hj, rfl, hg, hB, hB2, hE⟩ := hrel
   have HE : Hid (Ext W wr ∧ allZ (sameT n) (a.l.take j) (b.l.take j) = true) := ⟨hE, hg⟩
   have HBX : Hid (BlkX wr W.heap.size a (.slice pp ln cl) ∧ BlkX wr (W.heap.size + 1) b (.slice qq ln cm)) := ⟨hB, hB2⟩
   obtain ⟨qz, ⟨k0, k1, k2, k3, k4, k5, k6, k7, k8, k9, k10, k11, k12⟩, gz⟩ := hB
   obtain ⟨qy, ⟨m0, m1, m2, m3, m4, m5, m6, m7, m8, m9, m10, m11, m12⟩, gy⟩ := hB2
   clear hE hg gz gy
   by_cases hlt : j < ln
   · have hltI : (j : Int) < (ln : Int) := by omega
     have hI := HI.out.1.ext HE.out.1
     have hJ := HI.out.2.ext HE.out.1
     obtain ⟨gb, off, x, lv, hpp, hx1, hA1, hgb, hA2, hLx, hce⟩ := hI.at (i := j) (by rw [HLN.out.1]; exact hlt)
     obtain ⟨gb2, off2, y, lv2, hqq, hy1, hA3, hgb2, hA4, hLy, hcf⟩ := hJ.at (i := j) (by rw [HLN.out.2]; exact hlt)
     clear hA1 hA2 hA3 hA4
     subst hpp hqq
     obtain ⟨p1, c1, hlv, hcl⟩ := hLx.form
     obtain ⟨l1, hl1⟩ : ∃ l1, x.l.length = l1 := ⟨_, rfl⟩
     rw [hl1] at hlv
     subst hlv
     obtain ⟨p2, c2, hlv2, hcl2⟩ := hLy.form
     obtain ⟨l2, hl2⟩ : ∃ l2, y.l.length = l2 := ⟨_, rfl⟩
     rw [hl2] at hlv2
     subst hlv2
     have HX1 : Hid (a.l[j]? = some x ∧ b.l[j]? = some y) := ⟨hx1, hy1⟩
     have HC : Hid (∀ V, Ext wr V → Calls Try.prog 48 #[.agg #[.int .i64 x.k, .int .i64 x.n, .string (bs x.s), .int .i64 x.e, .int .i64 x.r.1, .int .i64 x.r.2.1, .bool x.r.2.2.1, .bool x.r.2.2.2, .int .i64 x.q.1, .int .i64 x.q.2.1, .bool x.q.2.2.1, .bool x.q.2.2.2, .slice p1 l1 c1], .agg #[.int .i64 y.k, .int .i64 y.n, .string (bs y.s), .int .i64 y.e, .int .i64 y.r.1, .int .i64 y.r.2.1, .bool y.r.2.2.1, .bool y.r.2.2.2, .int .i64 y.q.1, .int .i64 y.q.2.1, .bool y.q.2.2.1, .bool y.q.2.2.2, .slice p2 l2 c2]] V fun e w' => e = .returned (.bool (sameT n x y)) ∧ Ext V w') := fun V e => HXX.out x (List.mem_of_getElem? hx1) y V p1 p2 l1 c1 l2 c2 (hLx.ext e) (hLy.ext e)
     have mkS : Hid (∀ V, Ext wr V → (V.cell? ⟨W.heap.size, 12, none⟩ = some (.slice (some ⟨gb, off, none⟩) ln cl) ∧ V.cell? ⟨W.heap.size + 1, 12, none⟩ = some (.slice (some ⟨gb2, off2, none⟩) ln cm)) ∧ (V.cell? ⟨gb, off + j * 13, none⟩ = some (.int .i64 x.k) ∧ V.cell? ⟨gb, off + j * 13 + 1, none⟩ = some (.int .i64 x.n) ∧ V.cell? ⟨gb, off + j * 13 + 2, none⟩ = some (.string (bs x.s)) ∧ V.cell? ⟨gb, off + j * 13 + 3, none⟩ = some (.int .i64 x.e) ∧ V.cell? ⟨gb, off + j * 13 + 4, none⟩ = some (.int .i64 x.r.1) ∧ V.cell? ⟨gb, off + j * 13 + 5, none⟩ = some (.int .i64 x.r.2.1) ∧ V.cell? ⟨gb, off + j * 13 + 6, none⟩ = some (.bool x.r.2.2.1) ∧ V.cell? ⟨gb, off + j * 13 + 7, none⟩ = some (.bool x.r.2.2.2) ∧ V.cell? ⟨gb, off + j * 13 + 8, none⟩ = some (.int .i64 x.q.1) ∧ V.cell? ⟨gb, off + j * 13 + 9, none⟩ = some (.int .i64 x.q.2.1) ∧ V.cell? ⟨gb, off + j * 13 + 10, none⟩ = some (.bool x.q.2.2.1) ∧ V.cell? ⟨gb, off + j * 13 + 11, none⟩ = some (.bool x.q.2.2.2) ∧ V.cell? ⟨gb, off + j * 13 + 12, none⟩ = some (.slice p1 l1 c1)) ∧ (V.cell? ⟨gb2, off2 + j * 13, none⟩ = some (.int .i64 y.k) ∧ V.cell? ⟨gb2, off2 + j * 13 + 1, none⟩ = some (.int .i64 y.n) ∧ V.cell? ⟨gb2, off2 + j * 13 + 2, none⟩ = some (.string (bs y.s)) ∧ V.cell? ⟨gb2, off2 + j * 13 + 3, none⟩ = some (.int .i64 y.e) ∧ V.cell? ⟨gb2, off2 + j * 13 + 4, none⟩ = some (.int .i64 y.r.1) ∧ V.cell? ⟨gb2, off2 + j * 13 + 5, none⟩ = some (.int .i64 y.r.2.1) ∧ V.cell? ⟨gb2, off2 + j * 13 + 6, none⟩ = some (.bool y.r.2.2.1) ∧ V.cell? ⟨gb2, off2 + j * 13 + 7, none⟩ = some (.bool y.r.2.2.2) ∧ V.cell? ⟨gb2, off2 + j * 13 + 8, none⟩ = some (.int .i64 y.q.1) ∧ V.cell? ⟨gb2, off2 + j * 13 + 9, none⟩ = some (.int .i64 y.q.2.1) ∧ V.cell? ⟨gb2, off2 + j * 13 + 10, none⟩ = some (.bool y.q.2.2.1) ∧ V.cell? ⟨gb2, off2 + j * 13 + 11, none⟩ = some (.bool y.q.2.2.2) ∧ V.cell? ⟨gb2, off2 + j * 13 + 12, none⟩ = some (.slice p2 l2 c2))) := fun V e => by
       have q := fun o => e.cell.1 gb o hgb
       have q2 := fun o => e.cell.1 gb2 o hgb2
       obtain ⟨qz, ⟨k0, k1, k2, k3, k4, k5, k6, k7, k8, k9, k10, k11, k12⟩, gz⟩ := HBX.out.1.ext e
       obtain ⟨qy, ⟨m0, m1, m2, m3, m4, m5, m6, m7, m8, m9, m10, m11, m12⟩, gy⟩ := HBX.out.2.ext e
       exact ⟨⟨k12, m12⟩, ⟨(q _).trans (hce 0 _ rfl), (q _).trans (hce 1 _ rfl), (q _).trans (hce 2 _ rfl), (q _).trans (hce 3 _ rfl), (q _).trans (hce 4 _ rfl), (q _).trans (hce 5 _ rfl), (q _).trans (hce 6 _ rfl), (q _).trans (hce 7 _ rfl), (q _).trans (hce 8 _ rfl), (q _).trans (hce 9 _ rfl), (q _).trans (hce 10 _ rfl), (q _).trans (hce 11 _ rfl), (q _).trans (hce 12 _ rfl)⟩, (q2 _).trans (hcf 0 _ rfl), (q2 _).trans (hcf 1 _ rfl), (q2 _).trans (hcf 2 _ rfl), (q2 _).trans (hcf 3 _ rfl), (q2 _).trans (hcf 4 _ rfl), (q2 _).trans (hcf 5 _ rfl), (q2 _).trans (hcf 6 _ rfl), (q2 _).trans (hcf 7 _ rfl), (q2 _).trans (hcf 8 _ rfl), (q2 _).trans (hcf 9 _ rfl), (q2 _).trans (hcf 10 _ rfl), (q2 _).trans (hcf 11 _ rfl), (q2 _).trans (hcf 12 _ rfl)⟩
     clear hI hJ hx1 hy1 hLx hLy hce hcf hcl hcl2 hl1 hl2
     go_wp2_with fail
     refine wp_region_held_drew (S := (fun V => (V.cell? ⟨W.heap.size, 12, none⟩ = some (.slice (some ⟨gb, off, none⟩) ln cl) ∧ V.cell? ⟨W.heap.size + 1, 12, none⟩ = some (.slice (some ⟨gb2, off2, none⟩) ln cm)) ∧ (V.cell? ⟨gb, off + j * 13, none⟩ = some (.int .i64 x.k) ∧ V.cell? ⟨gb, off + j * 13 + 1, none⟩ = some (.int .i64 x.n) ∧ V.cell? ⟨gb, off + j * 13 + 2, none⟩ = some (.string (bs x.s)) ∧ V.cell? ⟨gb, off + j * 13 + 3, none⟩ = some (.int .i64 x.e) ∧ V.cell? ⟨gb, off + j * 13 + 4, none⟩ = some (.int .i64 x.r.1) ∧ V.cell? ⟨gb, off + j * 13 + 5, none⟩ = some (.int .i64 x.r.2.1) ∧ V.cell? ⟨gb, off + j * 13 + 6, none⟩ = some (.bool x.r.2.2.1) ∧ V.cell? ⟨gb, off + j * 13 + 7, none⟩ = some (.bool x.r.2.2.2) ∧ V.cell? ⟨gb, off + j * 13 + 8, none⟩ = some (.int .i64 x.q.1) ∧ V.cell? ⟨gb, off + j * 13 + 9, none⟩ = some (.int .i64 x.q.2.1) ∧ V.cell? ⟨gb, off + j * 13 + 10, none⟩ = some (.bool x.q.2.2.1) ∧ V.cell? ⟨gb, off + j * 13 + 11, none⟩ = some (.bool x.q.2.2.2) ∧ V.cell? ⟨gb, off + j * 13 + 12, none⟩ = some (.slice p1 l1 c1)) ∧ (V.cell? ⟨gb2, off2 + j * 13, none⟩ = some (.int .i64 y.k) ∧ V.cell? ⟨gb2, off2 + j * 13 + 1, none⟩ = some (.int .i64 y.n) ∧ V.cell? ⟨gb2, off2 + j * 13 + 2, none⟩ = some (.string (bs y.s)) ∧ V.cell? ⟨gb2, off2 + j * 13 + 3, none⟩ = some (.int .i64 y.e) ∧ V.cell? ⟨gb2, off2 + j * 13 + 4, none⟩ = some (.int .i64 y.r.1) ∧ V.cell? ⟨gb2, off2 + j * 13 + 5, none⟩ = some (.int .i64 y.r.2.1) ∧ V.cell? ⟨gb2, off2 + j * 13 + 6, none⟩ = some (.bool y.r.2.2.1) ∧ V.cell? ⟨gb2, off2 + j * 13 + 7, none⟩ = some (.bool y.r.2.2.2) ∧ V.cell? ⟨gb2, off2 + j * 13 + 8, none⟩ = some (.int .i64 y.q.1) ∧ V.cell? ⟨gb2, off2 + j * 13 + 9, none⟩ = some (.int .i64 y.q.2.1) ∧ V.cell? ⟨gb2, off2 + j * 13 + 10, none⟩ = some (.bool y.q.2.2.1) ∧ V.cell? ⟨gb2, off2 + j * 13 + 11, none⟩ = some (.bool y.q.2.2.2) ∧ V.cell? ⟨gb2, off2 + j * 13 + 12, none⟩ = some (.slice p2 l2 c2)))) (by kernel_rfl) ?_ (fun hHeld0 => ?_)
     · (refine mkS.out _ ?_; ((with_reducible (repeat (first | assumption | exact Ext.refl _ | apply Ext.alloc | apply Ext.drew | apply Ext.drewN))); done))
     refine wpAnyH_take (i := 0) (oi := ⟨some 93, .fieldAddr 29 (.tmp 2) 6, 0, "ref.go:294", #[], none⟩) (v := ?_) rfl (by kernel_rfl) (by kernel_rfl) (by kernel_rfl) (fun _ _ _ h => h) (Or.inl ⟨by rfl, ?_⟩) (by assumption) ?_
     rotate_left
     · intro w hSw; (try dsimp only at hSw); first | (go_simp; done) | (go_simp; with_reducible rfl)
     try go_frame
     refine wpAnyH_take (i := 1) (oi := ⟨some 94, .load 27 (.tmp 93), 27, "ref.go:294", #[⟨0, .data⟩], none⟩) (v := ?_) rfl (by kernel_rfl) (by kernel_rfl) (by kernel_rfl) (fun _ _ _ h => h) (Or.inl ⟨by rfl, ?_⟩) (by assumption) ?_
     rotate_left
     · intro w hSw; (try dsimp only at hSw); first | (go_simp; done) | (go_simp; with_reducible rfl)
     try go_frame
     refine wpAnyH_take (i := 2) (oi := ⟨some 95, .move (.tmp 5), 3, "ref.go:294", #[], none⟩) (v := ?_) rfl (by kernel_rfl) (by kernel_rfl) (by kernel_rfl) (fun _ _ _ h => h) (Or.inl ⟨by rfl, ?_⟩) (by assumption) ?_
     rotate_left
     · intro w hSw; (try dsimp only at hSw); first | (go_simp; done) | (go_simp; with_reducible rfl)
     try go_frame
     refine wpAnyH_take (i := 3) (oi := ⟨some 96, .indexAddr 27 (.tmp 94) (.tmp 95), 0, "ref.go:294", #[⟨1, .data⟩, ⟨2, .data⟩], none⟩) (v := ?_) rfl (by kernel_rfl) (by kernel_rfl) (by kernel_rfl) (fun _ _ _ h => h) (Or.inl ⟨by rfl, ?_⟩) (by assumption) ?_
     rotate_left
     · intro w hSw; (try dsimp only at hSw); first | (go_simp; done) | (go_simp; with_reducible rfl)
     try go_frame
     refine wpAnyH_take (i := 4) (oi := ⟨some 97, .load 29 (.tmp 96), 29, "ref.go:294", #[⟨3, .data⟩], none⟩) (v := ?_) rfl (by kernel_rfl) (by kernel_rfl) (by kernel_rfl) (fun _ _ _ h => h) (Or.inl ⟨by rfl, ?_⟩) (by assumption) ?_
     rotate_left
     · intro w hSw; (try dsimp only at hSw); first | (go_simp; done) | (go_simp; with_reducible rfl)
     try go_frame
     refine wpAnyH_take (i := 5) (oi := ⟨some 98, .fieldAddr 29 (.tmp 3) 6, 0, "ref.go:294", #[], none⟩) (v := ?_) rfl (by kernel_rfl) (by kernel_rfl) (by kernel_rfl) (fun _ _ _ h => h) (Or.inl ⟨by rfl, ?_⟩) (by assumption) ?_
     rotate_left
     · intro w hSw; (try dsimp only at hSw); first | (go_simp; done) | (go_simp; with_reducible rfl)
     try go_frame
     refine wpAnyH_take (i := 6) (oi := ⟨some 99, .load 27 (.tmp 98), 27, "ref.go:294", #[⟨5, .data⟩], none⟩) (v := ?_) rfl (by kernel_rfl) (by kernel_rfl) (by kernel_rfl) (fun _ _ _ h => h) (Or.inl ⟨by rfl, ?_⟩) (by assumption) ?_
     rotate_left
     · intro w hSw; (try dsimp only at hSw); first | (go_simp; done) | (go_simp; with_reducible rfl)
     try go_frame
     refine wpAnyH_take (i := 7) (oi := ⟨some 100, .move (.tmp 5), 3, "ref.go:294", #[], none⟩) (v := ?_) rfl (by kernel_rfl) (by kernel_rfl) (by kernel_rfl) (fun _ _ _ h => h) (Or.inl ⟨by rfl, ?_⟩) (by assumption) ?_
     rotate_left
     · intro w hSw; (try dsimp only at hSw); first | (go_simp; done) | (go_simp; with_reducible rfl)
     try go_frame
     refine wpAnyH_take (i := 8) (oi := ⟨some 101, .indexAddr 27 (.tmp 99) (.tmp 100), 0, "ref.go:294", #[⟨6, .data⟩, ⟨7, .data⟩], none⟩) (v := ?_) rfl (by kernel_rfl) (by kernel_rfl) (by kernel_rfl) (fun _ _ _ h => h) (Or.inl ⟨by rfl, ?_⟩) (by assumption) ?_
     rotate_left
     · intro w hSw; (try dsimp only at hSw); first | (go_simp; done) | (go_simp; with_reducible rfl)
     try go_frame
     refine wpAnyH_take (i := 9) (oi := ⟨some 102, .load 29 (.tmp 101), 29, "ref.go:294", #[⟨8, .data⟩], none⟩) (v := ?_) rfl (by kernel_rfl) (by kernel_rfl) (by kernel_rfl) (fun _ _ _ h => h) (Or.inl ⟨by rfl, ?_⟩) (by assumption) ?_
     rotate_left
     · intro w hSw; (try dsimp only at hSw); first | (go_simp; done) | (go_simp; with_reducible rfl)
     try go_frame
     refine wpAnyH_ready (rs := [10]) (by kernel_rfl) (by simp) ?_
     refine AllReadyH.cons (o := ⟨some 103, .call { callee := .value (.func 48), args := #[.tmp 97, .tmp 102], argTypes := #[29, 29] }, 4, "ref.go:294", #[⟨4, .data⟩, ⟨9, .data⟩], none⟩) rfl (fun K hK => ?_) AllReadyH.nil
     go_simp
     (go_at_call 48; refine Calls.mono (HC.out _ (by with_reducible repeat (first | assumption | exact Ext.refl _ | apply Ext.alloc | apply Ext.drew | apply Ext.drewN))) ?_; rintro e w9 ⟨rfl, E9⟩; have X9 : Ext wr w9 := Ext.trans (by with_reducible repeat (first | assumption | exact Ext.refl _ | apply Ext.alloc | apply Ext.drew | apply Ext.drewN)) E9)
     try go_wp2_with fail
     refine hK.out _ _ ?_ (fun hHeld1 => ?_)
     · (try dsimp only); (refine mkS.out _ ?_; ((with_reducible (repeat (first | assumption | exact Ext.refl _ | apply Ext.alloc | apply Ext.drew | apply Ext.drewN))); done))
     clear hK K hHeld0
     try go_frame
     refine wpAnyH_take (i := 11) (oi := ⟨some 104, .unOp .not 4 (.tmp 103), 4, "ref.go:294", #[⟨10, .data⟩], none⟩) (v := ?_) rfl (by kernel_rfl) (by kernel_rfl) (by kernel_rfl) (fun _ _ _ h => h) (Or.inl ⟨by rfl, ?_⟩) (by assumption) ?_
     rotate_left
     · intro w hSw; (try dsimp only at hSw); first | (go_simp; done) | (go_simp; with_reducible rfl)
     try go_frame
     refine wpAnyH_done (by kernel_rfl) ?_ _
     have HE9 : Hid (Ext W w9 ∧ BlkX w9 W.heap.size a (.slice (some ⟨gb, off, none⟩) ln cl) ∧ BlkX w9 (W.heap.size + 1) b (.slice (some ⟨gb2, off2, none⟩) ln cm)) := ⟨HE.out.1.trans X9, HBX.out.1.ext X9, HBX.out.2.ext X9⟩
     clear E9 X9 k0 k1 k2 k3 k4 k5 k6 k7 k8 k9 k10 k11 k12 m0 m1 m2 m3 m4 m5 m6 m7 m8 m9 m10 m11 m12
     cases hgx : sameT n x y
     · have HR : Hid (allZ (sameT n) a.l b.l = false) := allZ_no _ _ _ j x y HX1.out.1 HX1.out.2 hgx
       clear hgx
       go_wp2_with fail
       go_ret
       exact ⟨ret_bool (by rw [HX.out, HR.out]), HE9.out.1⟩
     · have HR : Hid (allZ (sameT n) (a.l.take (j + 1)) (b.l.take (j + 1)) = true) := by show _ = _; rw [allZ_take _ _ _ j x y HX1.out.1 HX1.out.2, HE.out.2, hgx]; rfl
       clear hgx
       go_wp2_with fail
       go_roundw
       case rel => exact ⟨j + 1, by omega, by go_num, HR.out, HE9.out.2.1, HE9.out.2.2, HE9.out.1⟩
       case measure => show ln - ((j : Int) + 1).toNat < ln - ((j : Int)).toNat; omega
   · have hltI : ¬ (j : Int) < (ln : Int) := by omega
     have HR : Hid (allZ (sameT n) a.l b.l = true) := by
       show _ = _
       have := HE.out.2
       rw [List.take_of_length_le (by have := HLN.out.1; omega), List.take_of_length_le (by have := HLN.out.2; omega)] at this
       exact this
     go_wp2_with fail
     go_ret
     exact ⟨ret_bool (by rw [HX.out, HR.out]), HE.out.1⟩
theorem rsame_any (P : Nat → Prop) (n : Nat) (a : T) (h : Hr n a) : SmC 48 P n a := by
 induction n generalizing a with
 | zero => cases h
 | succ n ih =>
   have hx : ∀ x ∈ a.l, SmC 48 P n x := fun x hx => ih x (h.2 x hx)
   by_cases k6 : a.k = 6
   · exact rsame_6 P n a k6 h.1 hx
   by_cases k7 : a.k = 7
   · exact rsame_7 P n a k7 h.1 hx
   by_cases k8 : a.k = 8
   · exact rsame_8 P n a k8 h.1 hx
   exact rsame_leaf P n a (by omega)
open Go.RowKit
open Go.Maps (Keyed)
set_option maxHeartbeats 1000000
theorem iwrap {x : Int} (h : -1000000000 ≤ x) (h2 : x ≤ 1000000000) : IntKind.i64.wrap x = x := by
 simp only [IntKind.wrap, IntKind.signed, IntKind.bits]
 simp
 omega
theorem iwrap64 {x : Int} (h : -1000000000 ≤ x) (h2 : x ≤ 1000000000) : wrap64 x = x := by unfold wrap64; omega
def cRn (x : Rn) : List Value := [.int .i64 x.1, .int .i64 x.2.1, .int .i64 x.2.2]
theorem cRn_len (x : Rn) : (cRn x).length = 3 := rfl
theorem cRn_one (x : Rn) : ∀ v ∈ cRn x, v.oneCell' = true := by intro v hv; simp [cRn] at hv; rcases hv with rfl | rfl | rfl <;> rfl
theorem elt_mk {TS T : TypeId} {k bytes : Nat} {z : Value} (hu : Try.prog.underlying TS = some (.slice T)) (h1 : (Try.prog.info? T).isSome = true) (h2 : (Try.prog.info? T).bind (fun i => i.zero) = some z) (h3 : (Try.prog.info? T).map (fun i => (i.size, i.bytes)) = some (k, bytes)) (hz : z.cells.size = k) (hk : 0 < k) : Elt TS T k bytes := by
 refine ⟨hu, ?_, hk⟩
 cases h : Try.prog.info? T with
 | none => rw [h] at h1; cases h1
 | some i =>
   rw [h] at h2 h3
   simp at h2 h3
   exact ⟨i, _, rfl, h2, h3.1, h3.2, hz⟩
theorem eltRn : Elt 36 45 3 24 := elt_mk (z := .agg #[.int .i64 0, .int .i64 0, .int .i64 0]) Try.underlying36 (by kernel_rfl) (by kernel_rfl) (by kernel_rfl) rfl (by decide)
def cC (c : Cl) (lv : Value) : List Value := [.int .i64 c.row, .int .i64 c.col, .string c.txt, .bool c.is, .int .i64 c.x.k, .int .i64 c.x.n, .string (bs c.x.s), .int .i64 c.x.e, .int .i64 c.x.r.1, .int .i64 c.x.r.2.1, .bool c.x.r.2.2.1, .bool c.x.r.2.2.2, .int .i64 c.x.q.1, .int .i64 c.x.q.2.1, .bool c.x.q.2.2.1, .bool c.x.q.2.2.2, lv, .int .i64 c.vk, .int .i64 c.vn, .string c.vs, .int .i64 c.ve]
def aggC (c : Cl) (lv : Value) : Value := .agg #[.int .i64 c.row, .int .i64 c.col, .string c.txt, .bool c.is, .int .i64 c.x.k, .int .i64 c.x.n, .string (bs c.x.s), .int .i64 c.x.e, .int .i64 c.x.r.1, .int .i64 c.x.r.2.1, .bool c.x.r.2.2.1, .bool c.x.r.2.2.2, .int .i64 c.x.q.1, .int .i64 c.x.q.2.1, .bool c.x.q.2.2.1, .bool c.x.q.2.2.2, lv, .int .i64 c.vk, .int .i64 c.vn, .string c.vs, .int .i64 c.ve]
def aggS (v : Value) (c : Cl) (lv : Value) : Value := .agg #[v, .int .i64 c.row, .int .i64 c.col, .string c.txt, .bool c.is, .int .i64 c.x.k, .int .i64 c.x.n, .string (bs c.x.s), .int .i64 c.x.e, .int .i64 c.x.r.1, .int .i64 c.x.r.2.1, .bool c.x.r.2.2.1, .bool c.x.r.2.2.2, .int .i64 c.x.q.1, .int .i64 c.x.q.2.1, .bool c.x.q.2.2.1, .bool c.x.q.2.2.2, lv, .int .i64 c.vk, .int .i64 c.vn, .string c.vs, .int .i64 c.ve]
def RdC (B : Nat) (W : World) (v : Value) (l : List Cl) : Prop :=
 ∃ p c, v = .slice p l.length c ∧ l.length ≤ c ∧ (l = [] ∨ ∃ (b off : Nat) (lvs : Nat → Value), p = some ⟨b, off, none⟩ ∧ b < W.heap.size ∧
   (∀ (i : Nat) x (j : Nat) u, l[i]? = some x → (cC x (lvs i))[j]? = some u → W.cell? ⟨b, off + i * 21 + j, none⟩ = some u) ∧ ∀ (i : Nat) x, l[i]? = some x → IsL W (fun k => k < B) (lvs i) x.x.l)
theorem RdC.ext {B : Nat} {W W' : World} {v : Value} {l : List Cl} (h : RdC B W v l) (e : Ext W W') : RdC B W' v l := by
 obtain ⟨p, c, h1, h2, h3⟩ := h
 refine ⟨p, c, h1, h2, ?_⟩
 rcases h3 with h3 | ⟨b, off, lvs, h3, h4, h5, h6⟩
 · exact .inl h3
 · refine .inr ⟨b, off, lvs, h3, Nat.lt_of_lt_of_le h4 e.size, fun i x j u hi hj => ?_, fun i x hi => (h6 i x hi).ext e⟩
   exact ((cells_heap (e.block b h4) _).1).trans (h5 i x j u hi hj)
theorem RdC.form {B : Nat} {W : World} {v : Value} {l : List Cl} (h : RdC B W v l) : ∃ p c, v = .slice p l.length c ∧ l.length ≤ c := by
 obtain ⟨p, c, h1, h2, _⟩ := h
 exact ⟨p, c, h1, h2⟩
theorem RdC.len {B : Nat} {W : World} {p : Option Addr} {n c : Nat} {l : List Cl} (h : RdC B W (.slice p n c) l) : n = l.length := by
 obtain ⟨_, _, h1, _⟩ := h
 cases h1; rfl
theorem RdC.at {B : Nat} {W : World} {p : Option Addr} {n c : Nat} {l : List Cl} (h : RdC B W (.slice p n c) l) {i : Nat} {x : Cl} (hi : l[i]? = some x) :
   ∃ b off lv, p = some ⟨b, off, none⟩ ∧ b < W.heap.size ∧ IsL W (fun k => k < B) lv x.x.l ∧ ∀ j u, (cC x lv)[j]? = some u → W.cell? ⟨b, off + i * 21 + j, none⟩ = some u := by
 obtain ⟨_, _, h1, _, h3⟩ := h
 cases h1
 rcases h3 with rfl | ⟨b, off, lvs, h3, h4, h5, h6⟩
 · simp at hi
 · exact ⟨b, off, lvs i, h3, h4, h6 i x hi, fun j u hj => h5 i x j u hi hj⟩
theorem wpList_storeN {P : Program} {ops : Array Oper} {rest : List Oper} {o : Oper} {a : Act} {Q : Exit → Act → World → Prop} (w : World) (hg : o.guard = none) (x v : Operand) (t : TypeId) (hop : o.op = Op.store t x v) (c c' : Array Value) (hx : a.eval x = .pointer (some ⟨w.heap.size, 0, none⟩)) (hv : a.eval v = .agg c')
   (hi : (P.info? t).map (·.size) = some c'.size) (ho : c.size = c'.size) (h1 : c'.all (·.oneCell') = true) (hK : wpList P ops Q rest (a.put o.dst undef) (w.alloc (.cells c' t))) : wpList P ops Q (o :: rest) a (w.alloc (.cells c t)) := by
 refine wpList_plain hg fun K' hK' => ?_
 have hrun := run_storeAt_new (P := P) w t c c' hi ho h1
 unfold Oper.wp
 simp [execOp, hop, hx, hv, hrun, Result.andThen]
 exact hK' _ _ hK
theorem rng_ext {W V : World} {b o : Nat} {cs : List Value} (h : W.rangeAt b o cs) (e : Ext W V) (hb : b < W.heap.size) : V.rangeAt b o cs := fun j v hj => ((cells_heap (e.block b hb) _).1).trans (h j v hj)
theorem rng_top {W V : World} {cs : List Value} {T : TypeId} (e : Ext (W.alloc (.cells cs.toArray T)) V) : V.rangeAt W.heap.size 0 cs := fun j v hj => by
 rw [Nat.zero_add, cell_of_row V _ j _ _ (0, 0) e.top]
 simpa using hj
theorem ikLaw : Keyed Try.prog 3 := Maps.int_keyed Try.underlying3
theorem ik_mk {k : Int} (h : I64 k) : keyOf Try.prog 3 (.int .i64 k) = some (.int .i64 k) := Maps.keyOf_int_mk Try.underlying3 (WalkArith.wf_i64 (by unfold I64 at h; omega))
def hR (v : Value) : Option (DataW Value × List MemPlace) := some (.held v, [])
def zS : Value := .agg #[.slice none 0 0, .int .i64 0, .int .i64 0, .string ByteArray.empty, .bool false, .int .i64 0, .int .i64 0, .string ByteArray.empty, .int .i64 0, .int .i64 0, .int .i64 0, .bool false, .bool false, .int .i64 0, .int .i64 0, .bool false, .bool false, .slice none 0 0, .int .i64 0, .int .i64 0, .string ByteArray.empty, .int .i64 0]
theorem zeroS (W : World) : (zeroValue 48).run Try.prog W = .ok zS W := by kernel_rfl
theorem zS_eq : zS = aggS (.slice none 0 0) clz (.slice none 0 0) := by kernel_rfl
structure ColM (W : World) (base g : Nat) (D : DataW Value) (vs lvs : Int → Value) (σ : Spn) : Prop where
 bg : base ≤ g
 at_ : ∀ k, I64 k → D.atKey (.int .i64 k) (.held zS) = .held (aggS (vs k) (σ k).2 (lvs k))
 row : ∀ k, W.ownsRow base 45 3 (vs k) (σ k).1.length ((σ k).1.flatMap cRn)
 tree : ∀ k, IsL W (fun b => b < base) (lvs k) (σ k).2.x.l
 sep : ∀ k k' q, k ≠ k' → (vs k).ownBlock = some q → (vs k').ownBlock ≠ some q
structure FsS (w0 W : World) (t n : Nat) (σ : Spn) : Prop where
 e : Ext w0 W
 bt : w0.heap.size ≤ t
 ok : SpOk σ n
 map : ∃ g D vs lvs, W.heap[t]? = some (.cells #[.map (some g)] 46 (0, 0)) ∧ W.ownsMap Try.prog 3 hR g n D ∧ ColM W w0.heap.size g D vs lvs σ
theorem own_heap {W : World} {base n k : Nat} {T : TypeId} {v : Value} {xs : List Value} (h : W.ownsRow base T k v n xs) {q : Nat} (hq : v.ownBlock = some q) : base ≤ q ∧ ∃ cur, W.heap[q]? = some (.cells cur T (0, 0)) := by
 rcases h.2 with ⟨rfl, _⟩ | ⟨g, cap, cur, rfl, h2, h3, _⟩
 · cases hq
 · cases hq
   exact ⟨h2, cur, h3⟩
theorem own_kept {W W' : World} {bs n k : Nat} {T : TypeId} {v : Value} {xs : List Value} (h : W.ownsRow bs T k v n xs) (hk : ∀ g, v.ownBlock = some g → g < W.heap.size → W'.heap[g]? = W.heap[g]?) : W'.ownsRow bs T k v n xs := by
 refine ⟨h.1, ?_⟩
 rcases h.2 with h | ⟨g, cap, cur, rfl, h2, h3, h4⟩
 · exact .inl h
 · exact .inr ⟨g, cap, cur, rfl, h2, (hk g rfl (heap_lt h3)).trans h3, h4⟩
theorem ColM.ext {W W' : World} {base g : Nat} {D : DataW Value} {vs lvs : Int → Value} {σ : Spn} (h : ColM W base g D vs lvs σ) (e : Ext W W') : ColM W' base g D vs lvs σ :=
 ⟨h.bg, h.at_, fun k => ownsRow_ext (h.row k) e, fun k => (h.tree k).ext e, h.sep⟩
theorem ownsMap_ext {W W' : World} {g n : Nat} {D : DataW Value} {T : TypeId} (h : W.ownsMap Try.prog T hR g n D) (e : Ext W W') : W'.ownsMap Try.prog T hR g n D := by
 obtain ⟨es, clock, hb, r⟩ := h
 exact ⟨es, clock, (e.block g (heap_lt hb)).trans hb, r⟩
theorem FsS.ext {w0 W W' : World} {t n : Nat} {σ : Spn} (h : FsS w0 W t n σ) (e : Ext W W') : FsS w0 W' t n σ := by
 obtain ⟨g, D, vs, lvs, h1, h2, h3⟩ := h.map
 exact ⟨h.e.trans e, h.bt, h.ok, g, D, vs, lvs, (e.block t (heap_lt h1)).trans h1, ownsMap_ext h2 e, h3.ext e⟩
theorem col_look {W : World} {base g n : Nat} {D : DataW Value} {vs lvs : Int → Value} {σ : Spn} (own : W.ownsMap Try.prog 3 hR g n D) (h : ColM W base g D vs lvs σ) {k : Int} (hk : I64 k) :
   (Instr.lookup 46 (.map (some g)) (.int .i64 k) false).run Try.prog W = .ok (aggS (vs k) (σ k).2 (lvs k)) W := by
 obtain ⟨v, ps, h3, h4⟩ := own.lookup ikLaw Try.underlying46 (zeroS W) (zd := .held zS) (zp := []) rfl (ik_mk hk)
 rw [h.at_ k hk] at h4
 unfold hR at h4
 simp at h4
 rw [← h4.1]
 exact h3
theorem putS_self (σ : Spn) (k : Int) (s : List Rn × Cl) : putS σ k s k = s := by unfold putS; simp
theorem putS_ne (σ : Spn) {k i : Int} (s : List Rn × Cl) (h : i ≠ k) : putS σ k s i = σ i := by unfold putS; rw [if_neg h]
theorem ColM.put {W W' : World} {base g : Nat} {D : DataW Value} {vs lvs : Int → Value} {σ : Spn} (h : ColM W base g D vs lvs σ) (hD : Maps.IsMap D) {k : Int} (hk : I64 k) {v lv : Value} {s : List Rn × Cl}
   (hn : v.ownBlock = (vs k).ownBlock ∨ ∃ q, v.ownBlock = some q ∧ W.heap.size ≤ q)
   (ho : W'.ownsRow base 45 3 v s.1.length (s.1.flatMap cRn)) (hl : IsL W' (fun b => b < base) lv s.2.x.l) (e0 : ∀ q, q < base → q < W.heap.size → W'.heap[q]? = W.heap[q]?) (hz : W.heap.size ≤ W'.heap.size)
   (e1 : ∀ q, q < W.heap.size → some q ≠ (vs k).ownBlock → (∃ cur, W.heap[q]? = some (.cells cur 45 (0, 0))) → W'.heap[q]? = W.heap[q]?) :
   ColM W' base g (D.put (.int .i64 k) (.held (aggS v s.2 lv))) (fun i => if i = k then v else vs i) (fun i => if i = k then lv else lvs i) (putS σ k s) := by
 have hkk := ikLaw.key (ik_mk hk)
 refine ⟨h.bg, fun i hi => ?_, fun i => ?_, fun i => ?_, fun i j q hij hq => ?_⟩
 · by_cases hik : i = k
   · subst hik
     rw [Maps.atKey_put_same hD hkk, putS_self]
     simp
   · have hne : (Lit.int .i64 i) ≠ Lit.int .i64 k := fun he => hik (by cases he; rfl)
     rw [Maps.atKey_put_other hne, h.at_ i hi, putS_ne _ _ hik]
     simp [hik]
 · by_cases hik : i = k
   · subst hik; rw [putS_self]; simpa using ho
   · rw [putS_ne _ _ hik]
     simp only [if_neg hik]
     refine own_kept (h.row i) (fun q hq hlt => e1 q hlt (fun e => h.sep i k q hik hq e.symm) (own_heap (h.row i) hq).2)
 · by_cases hik : i = k
   · subst hik; rw [putS_self]; simpa using hl
   · rw [putS_ne _ _ hik]
     simp only [if_neg hik]
     exact (h.tree i).keep hz (fun q hq hlt => e0 q hq hlt) (fun _ h _ => h)
 · by_cases hik : i = k
   · subst hik
     have hj : ¬ j = i := fun e => hij e.symm
     simp only [if_true] at hq
     simp only [if_neg hj]
     rcases hn with hn | ⟨q', hn, hs⟩
     · rw [hn] at hq; exact h.sep i j q hij hq
     · rw [hn] at hq
       cases hq
       intro e
       obtain ⟨_, cur, h3⟩ := own_heap (h.row j) e
       have := heap_lt h3
       omega
   · simp only [if_neg hik] at hq
     by_cases hj : j = k
     · subst hj
       simp only [if_true]
       rcases hn with hn | ⟨q', hn, hs⟩
       · rw [hn]; exact h.sep i j q hij hq
       · rw [hn]
         intro e
         cases e
         obtain ⟨_, cur, h3⟩ := own_heap (h.row i) hq
         have := heap_lt h3
         omega
     · simp only [if_neg hj]
       exact h.sep i j q hij hq
open Go.RowKit Go.Sort
set_option maxHeartbeats 1000000
abbrev Plc := Int × Int
theorem rbox2 {w w1 : World} {a b : Value} {T : TypeId} (E : Ext (w.alloc (.cells #[a, b] T)) w1) : w1.cell? ⟨w.heap.size, 0, none⟩ = some a ∧ w1.cell? ⟨w.heap.size, 1, none⟩ = some b := by
 have h := E.top
 exact ⟨(cell_of_row _ _ 0 _ _ (0, 0) h).trans rfl, (cell_of_row _ _ 1 _ _ (0, 0) h).trans rfl⟩
def rcmp (x y : Int) : Int := if x < y then -1 else if y < x then 1 else 0
def cmpQ (x y : Plc) : Int := if rcmp x.1 y.1 ≠ 0 then rcmp x.1 y.1 else rcmp x.2 y.2
theorem isnan_any (a : Int) (W : World) : Calls Try.prog 63 #[.int .i64 a] W fun e w' => e = .returned (.bool false) ∧ w' = W := by
 have h : (a != a) = false := by simp
 go_enter Try.func63, Try.ntmps63
 go_wp2_with fail
 go_ret
 exact ⟨by simp, rfl⟩
theorem ccmp_any (a b : Int) (W : World) : Calls Try.prog 45 #[.int .i64 a, .int .i64 b] W fun e w' => e = .returned (.int .i64 (rcmp a b)) ∧ w' = W := by
 have ca := fun V => isnan_any a V
 have cb := fun V => isnan_any b V
 obtain ⟨r, hr⟩ : ∃ r, rcmp a b = r := ⟨_, rfl⟩
 have HR : Hid (rcmp a b = r) := hr
 rw [hr]
 clear hr
 go_enter Try.func45, Try.ntmps45
 go_wp2_with fail
 refine (ca _).mono ?_
 rintro e w1 ⟨rfl, rfl⟩
 go_wp2_with fail
 refine (cb _).mono ?_
 rintro e w2 ⟨rfl, rfl⟩
 by_cases h1 : a < b
 · have d1 : decide (a < b) = true := by simp [h1]
   have he : Hid (r = -1) := by rw [← HR.out]; unfold rcmp; rw [if_pos h1]; exact rfl
   clear h1
   go_wp2_with fail
   go_ret
   exact ⟨by rw [he.out]; rfl, rfl⟩
 · have d1 : decide (a < b) = false := by simp [h1]
   by_cases h2 : b < a
   · have d2 : decide (b < a) = true := by simp [h2]
     have he : Hid (r = 1) := by rw [← HR.out]; unfold rcmp; rw [if_neg h1, if_pos h2]; exact rfl
     clear h1 h2
     go_wp2_with fail
     go_ret
     exact ⟨by rw [he.out]; rfl, rfl⟩
   · have d2 : decide (b < a) = false := by simp [h2]
     have he : Hid (r = 0) := by rw [← HR.out]; unfold rcmp; rw [if_neg h1, if_neg h2]; exact rfl
     clear h1 h2
     go_wp2_with fail
     go_ret
     exact ⟨by rw [he.out]; rfl, rfl⟩
set_option maxRecDepth 100000 in
theorem cmpor_any (a b : Int) (g : Nat) (W : World) (h0 : W.cell? ⟨g, 0, none⟩ = some (.int .i64 a)) (h1 : W.cell? ⟨g, 1, none⟩ = some (.int .i64 b)) : Calls Try.prog 44 #[.slice (some ⟨g, 0, none⟩) 2 2] W fun e w' => e = .returned (.int .i64 (if a ≠ 0 then a else b)) ∧ w' = W := by
 go_enter Try.func44, Try.ntmps44
 go_wp2_with fail
 go_loopw [8] (fun iv wr => ∃ i : Nat, iv = .int .i64 (i : Int) ∧ i ≤ 2 ∧ (1 ≤ i → a = 0) ∧ (2 ≤ i → b = 0) ∧ wr = W) (fun iv _ => 2 - (intOf iv).toNat)
 case atStart => exact ⟨0, rfl, by omega, by omega, by omega, rfl⟩
 case round =>
   obtain ⟨i, rfl, hi, ha, hb, rfl⟩ := hrel
   match i, hi with
   | 0, _ =>
     by_cases hz : a = 0
     · have z0 : (a != 0) = false := by simpa using hz
       go_wp2_with fail
       go_roundw
       case rel => exact ⟨1, rfl, by omega, fun _ => hz, by omega, by first | rfl | trivial⟩
       case measure => exact (by show 2 - (1 : Int).toNat < 2 - (0 : Int).toNat; decide)
     · have z0 : (a != 0) = true := by simpa using hz
       go_wp2_with fail
       go_ret
       exact ⟨rfl, rfl⟩
   | 1, _ =>
     have hz := ha (by omega)
     by_cases hy : b = 0
     · have y0 : (b != 0) = false := by simpa using hy
       go_wp2_with fail
       go_roundw
       case rel => exact ⟨2, rfl, by omega, fun _ => hz, fun _ => hy, by first | rfl | trivial⟩
       case measure => exact (by show 2 - (2 : Int).toNat < 2 - (1 : Int).toNat; decide)
     · have y0 : (b != 0) = true := by simpa using hy
       go_wp2_with fail
       go_ret
       exact ⟨rfl, rfl⟩
   | 2, _ =>
     have hz := ha (by omega)
     have hy := hb (by omega)
     go_wp2_with fail
     go_ret
     exact ⟨rfl, rfl⟩
set_option maxRecDepth 100000 in
theorem rginord_any (x y : Plc) (W : World) : Calls Try.prog 24 #[.agg #[.int .i64 x.1, .int .i64 x.2], .agg #[.int .i64 y.1, .int .i64 y.2]] W fun e w' => e = .returned (.int .i64 (cmpQ x y)) ∧ ∃ q os', w' = grow (W.drewN q) os' := by
 have hc1 := fun W' => ccmp_any x.1 y.1 W'
 have hc2 := fun W' => ccmp_any x.2 y.2 W'
 unfold cmpQ
 generalize rcmp x.1 y.1 = a at hc1 ⊢
 generalize rcmp x.2 y.2 = b at hc2 ⊢
 have cO := fun g W h0 h1 => cmpor_any a b g W h0 h1
 generalize (if a ≠ 0 then a else b) = r at cO ⊢
 obtain ⟨W2, hW2⟩ : ∃ W2, W2 = (W.alloc (.cells #[.int .i64 x.1, .int .i64 x.2] 69)).alloc (.cells #[.int .i64 y.1, .int .i64 y.2] 69) := ⟨_, rfl⟩
 have mkS : Hid (∀ V, Ext W2 V → (fun V => V.cell? ⟨W.heap.size, 0, none⟩ = some (.int .i64 x.1) ∧ V.cell? ⟨W.heap.size, 1, none⟩ = some (.int .i64 x.2) ∧ V.cell? ⟨W.heap.size + 1, 0, none⟩ = some (.int .i64 y.1) ∧ V.cell? ⟨W.heap.size + 1, 1, none⟩ = some (.int .i64 y.2)) V) := by
   intro V e
   have e1 : Ext (W.alloc (.cells #[.int .i64 x.1, .int .i64 x.2] 69)) V := ((Ext.refl _).alloc (.cells #[.int .i64 y.1, .int .i64 y.2] 69)).trans (by rw [← hW2]; exact e)
   have e2 : Ext ((W.alloc (.cells #[.int .i64 x.1, .int .i64 x.2] 69)).alloc (.cells #[.int .i64 y.1, .int .i64 y.2] 69)) V := by rw [← hW2]; exact e
   have k1 := rbox2 e1
   have k2 := rbox2 e2
   simp only [show (W.alloc (.cells #[.int .i64 x.1, .int .i64 x.2] 69)).heap.size = W.heap.size + 1 by simp] at k2
   exact ⟨k1.1, k1.2, k2.1, k2.2⟩
 go_enter Try.func24, Try.ntmps24
 go_wp2_with fail
 rw [← hW2]
 have HW2 : Hid (W2 = (W.alloc (.cells #[.int .i64 x.1, .int .i64 x.2] 69)).alloc (.cells #[.int .i64 y.1, .int .i64 y.2] 69)) := hW2
 have o0 : ∀ (i : Nat) (u : Value), (#[.int .i64 a, .int .i64 b] : Array Value)[i]? = some u → ((W2.alloc (.cells #[.int .i64 a, .int .i64 b] 3)).drew).cell? ⟨W2.heap.size, i, none⟩ = some u := fun i u h => (cell_of_row _ _ i _ _ (0, 0) (top_heap W2 _)).trans h
 clear hW2
 generalize W.heap.size = A at mkS ⊢
 refine wp_region_held_drew (S := (fun V => V.cell? ⟨A, 0, none⟩ = some (.int .i64 x.1) ∧ V.cell? ⟨A, 1, none⟩ = some (.int .i64 x.2) ∧ V.cell? ⟨A + 1, 0, none⟩ = some (.int .i64 y.1) ∧ V.cell? ⟨A + 1, 1, none⟩ = some (.int .i64 y.2))) (by kernel_rfl) ?_ (fun hHeld0 => ?_)
 · (refine mkS.out _ ?_; ((with_reducible (repeat (first | assumption | exact Ext.refl _ | apply Ext.drew | apply Ext.alloc))); done))
 refine wpAnyH_take (i := 0) (oi := ⟨some 5, .fieldAddr 69 (.tmp 2) 0, 0, "region.go:122", #[], none⟩) (v := ?_) rfl (by kernel_rfl) (by kernel_rfl) (by kernel_rfl) (fun _ _ _ h => h) (Or.inl ⟨by rfl, ?_⟩) (by assumption) ?_
 rotate_left
 · intro w hSw; (try dsimp only at hSw); first | (go_simp; done) | (go_simp; with_reducible rfl)
 try go_frame
 refine wpAnyH_take (i := 1) (oi := ⟨some 6, .load 3 (.tmp 5), 3, "region.go:122", #[⟨0, .data⟩], none⟩) (v := ?_) rfl (by kernel_rfl) (by kernel_rfl) (by kernel_rfl) (fun _ _ _ h => h) (Or.inl ⟨by rfl, ?_⟩) (by assumption) ?_
 rotate_left
 · intro w hSw; (try dsimp only at hSw); first | (go_simp; done) | (go_simp; with_reducible rfl)
 try go_frame
 refine wpAnyH_take (i := 2) (oi := ⟨some 7, .fieldAddr 69 (.tmp 3) 0, 0, "region.go:122", #[], none⟩) (v := ?_) rfl (by kernel_rfl) (by kernel_rfl) (by kernel_rfl) (fun _ _ _ h => h) (Or.inl ⟨by rfl, ?_⟩) (by assumption) ?_
 rotate_left
 · intro w hSw; (try dsimp only at hSw); first | (go_simp; done) | (go_simp; with_reducible rfl)
 try go_frame
 refine wpAnyH_take (i := 3) (oi := ⟨some 8, .load 3 (.tmp 7), 3, "region.go:122", #[⟨2, .data⟩], none⟩) (v := ?_) rfl (by kernel_rfl) (by kernel_rfl) (by kernel_rfl) (fun _ _ _ h => h) (Or.inl ⟨by rfl, ?_⟩) (by assumption) ?_
 rotate_left
 · intro w hSw; (try dsimp only at hSw); first | (go_simp; done) | (go_simp; with_reducible rfl)
 try go_frame
 refine wpAnyH_take (i := 5) (oi := ⟨some 10, .fieldAddr 69 (.tmp 2) 1, 0, "region.go:122", #[], none⟩) (v := ?_) rfl (by kernel_rfl) (by kernel_rfl) (by kernel_rfl) (fun _ _ _ h => h) (Or.inl ⟨by rfl, ?_⟩) (by assumption) ?_
 rotate_left
 · intro w hSw; (try dsimp only at hSw); first | (go_simp; done) | (go_simp; with_reducible rfl)
 try go_frame
 refine wpAnyH_take (i := 6) (oi := ⟨some 11, .load 3 (.tmp 10), 3, "region.go:122", #[⟨5, .data⟩], none⟩) (v := ?_) rfl (by kernel_rfl) (by kernel_rfl) (by kernel_rfl) (fun _ _ _ h => h) (Or.inl ⟨by rfl, ?_⟩) (by assumption) ?_
 rotate_left
 · intro w hSw; (try dsimp only at hSw); first | (go_simp; done) | (go_simp; with_reducible rfl)
 try go_frame
 refine wpAnyH_take (i := 7) (oi := ⟨some 12, .fieldAddr 69 (.tmp 3) 1, 0, "region.go:122", #[], none⟩) (v := ?_) rfl (by kernel_rfl) (by kernel_rfl) (by kernel_rfl) (fun _ _ _ h => h) (Or.inl ⟨by rfl, ?_⟩) (by assumption) ?_
 rotate_left
 · intro w hSw; (try dsimp only at hSw); first | (go_simp; done) | (go_simp; with_reducible rfl)
 try go_frame
 refine wpAnyH_take (i := 8) (oi := ⟨some 13, .load 3 (.tmp 12), 3, "region.go:122", #[⟨7, .data⟩], none⟩) (v := ?_) rfl (by kernel_rfl) (by kernel_rfl) (by kernel_rfl) (fun _ _ _ h => h) (Or.inl ⟨by rfl, ?_⟩) (by assumption) ?_
 rotate_left
 · intro w hSw; (try dsimp only at hSw); first | (go_simp; done) | (go_simp; with_reducible rfl)
 try go_frame
 refine wpAnyH_ready (rs := [4]) (by kernel_rfl) (by simp) ?_
 refine AllReadyH.cons (o := ⟨some 9, .call { callee := .value (.func 45), args := #[.tmp 6, .tmp 8], argTypes := #[3, 3] }, 3, "region.go:122", #[⟨1, .data⟩, ⟨3, .data⟩], none⟩) rfl (fun K hK => ?_) AllReadyH.nil
 go_simp
 refine (hc1 _).mono ?_; rintro e x1 ⟨rfl, rfl⟩
 try go_wp2_with fail
 refine hK.out _ _ ?_ (fun hHeld1 => ?_)
 · (try dsimp only); (refine mkS.out _ ?_; ((with_reducible (repeat (first | assumption | exact Ext.refl _ | apply Ext.drew | apply Ext.alloc))); done))
 clear hK K hHeld0
 try go_frame
 refine wpAnyH_ready (rs := [9]) (by kernel_rfl) (by simp) ?_
 refine AllReadyH.cons (o := ⟨some 14, .call { callee := .value (.func 45), args := #[.tmp 11, .tmp 13], argTypes := #[3, 3] }, 3, "region.go:122", #[⟨6, .data⟩, ⟨8, .data⟩, ⟨4, .chain⟩], none⟩) rfl (fun K hK => ?_) AllReadyH.nil
 go_simp
 refine (hc2 _).mono ?_; rintro e x2 ⟨rfl, rfl⟩
 try go_wp2_with fail
 refine hK.out _ _ ?_ (fun hHeld2 => ?_)
 · (try dsimp only); (refine mkS.out _ ?_; ((with_reducible (repeat (first | assumption | exact Ext.refl _ | apply Ext.drew | apply Ext.alloc))); done))
 clear hK K hHeld1
 try go_frame
 refine wpAnyH_ready (rs := [10]) (by kernel_rfl) (by simp) ?_
 refine AllReadyH.cons (o := ⟨some 15, .buildSlice 101 2 #[(0, .tmp 9), (1, .tmp 14)], 101, "region.go:122", #[⟨4, .data⟩, ⟨9, .data⟩], none⟩) rfl (fun K hK => ?_) AllReadyH.nil
 go_simp
 skip
 try go_wp2_with fail
 refine hK.out _ _ ?_ (fun hHeld3 => ?_)
 · (try dsimp only); (refine mkS.out _ ?_; ((with_reducible (repeat (first | assumption | exact Ext.refl _ | apply Ext.drew | apply Ext.alloc))); done))
 clear hK K hHeld2
 try go_frame
 refine wpAnyH_ready (rs := [11]) (by kernel_rfl) (by simp) ?_
 refine AllReadyH.cons (o := ⟨some 16, .call { callee := .value (.func 44), args := #[.tmp 15], argTypes := #[101] }, 3, "region.go:122", #[⟨10, .data⟩, ⟨9, .chain⟩], none⟩) rfl (fun K hK => ?_) AllReadyH.nil
 go_simp
 refine (cO W2.heap.size _ (o0 0 _ rfl) (o0 1 _ rfl)).mono ?_; rintro e x3 ⟨rfl, rfl⟩
 try go_wp2_with fail
 refine hK.out _ _ ?_ (fun hHeld4 => ?_)
 · (try dsimp only); (refine mkS.out _ ?_; ((with_reducible (repeat (first | assumption | exact Ext.refl _ | apply Ext.drew | apply Ext.alloc))); done))
 clear hK K hHeld3
 try go_frame
 refine wpAnyH_take (i := 12) (oi := ⟨some 4, .assign (.tmp 16), 3, "region.go:122", #[⟨11, .data⟩, ⟨11, .chain⟩, ⟨0, .phase⟩, ⟨1, .phase⟩, ⟨2, .phase⟩, ⟨3, .phase⟩, ⟨4, .phase⟩, ⟨5, .phase⟩, ⟨6, .phase⟩, ⟨7, .phase⟩, ⟨8, .phase⟩, ⟨9, .phase⟩, ⟨10, .phase⟩, ⟨11, .phase⟩], none⟩) (v := ?_) rfl (by kernel_rfl) (by kernel_rfl) (by kernel_rfl) (fun _ _ _ h => h) (Or.inl ⟨by rfl, ?_⟩) (by assumption) ?_
 rotate_left
 · intro w hSw; (try dsimp only at hSw); first | (go_simp; done) | (go_simp; with_reducible rfl)
 try go_frame
 refine wpAnyH_done (by kernel_rfl) ?_ _
 go_wp2_with fail
 go_ret
 refine ⟨rfl, 1, #[.cells #[.int .i64 x.1, .int .i64 x.2] 69, .cells #[.int .i64 y.1, .int .i64 y.2] 69, .cells #[.int .i64 a, .int .i64 b] 3], ?_⟩
 rw [HW2.out]
 rfl
theorem grow_ext {W w' : World} (h : ∃ q os', w' = grow (W.drewN q) os') : Ext W w' := by
 obtain ⟨q, os', rfl⟩ := h
 refine ⟨rfl, rfl, rfl, by simp [grow, World.drewN], fun k hk => ?_⟩
 simp [grow, World.drewN, hk, Array.getElem?_append]
theorem cmpQ_lt (x y : Plc) : decide (0 ≤ cmpQ x y) = !decide (x.1 < y.1 ∨ x.1 = y.1 ∧ x.2 < y.2) := by
 unfold cmpQ rcmp
 by_cases h1 : x.1 < y.1
 · simp [h1]
 · by_cases h2 : y.1 < x.1
   · have : ¬ x.1 = y.1 := by omega
     simp [h1, h2, this]
   · have h3 : x.1 = y.1 := by omega
     by_cases h4 : x.2 < y.2
     · simp [h3, h4]
     · by_cases h5 : y.2 < x.2 <;> simp [h3, h4, h5]
set_option maxRecDepth 100000 in
theorem place_any (c : Cl) (lv : Value) (W : World) : Calls Try.prog 25 #[aggC c lv] W fun e w' => e = .returned (.agg #[.int .i64 c.row, .int .i64 c.col]) ∧ Ext W w' := by
 unfold aggC
 have X0 : Hid (Ext W ((W.alloc (.cells #[.int .i64 c.row, .int .i64 c.col, .string c.txt, .bool c.is, .int .i64 c.x.k, .int .i64 c.x.n, .string (bs c.x.s), .int .i64 c.x.e, .int .i64 c.x.r.1, .int .i64 c.x.r.2.1, .bool c.x.r.2.2.1, .bool c.x.r.2.2.2, .int .i64 c.x.q.1, .int .i64 c.x.q.2.1, .bool c.x.q.2.2.1, .bool c.x.q.2.2.2, lv, .int .i64 c.vk, .int .i64 c.vn, .string c.vs, .int .i64 c.ve] 33)).alloc (.cells #[.int .i64 c.row, .int .i64 c.col] 69))) := ((Ext.refl _).alloc _).alloc _
 have Z0 : Hid (Blk2 ((W.alloc (.cells #[.int .i64 c.row, .int .i64 c.col, .string c.txt, .bool c.is, .int .i64 c.x.k, .int .i64 c.x.n, .string (bs c.x.s), .int .i64 c.x.e, .int .i64 c.x.r.1, .int .i64 c.x.r.2.1, .bool c.x.r.2.2.1, .bool c.x.r.2.2.2, .int .i64 c.x.q.1, .int .i64 c.x.q.2.1, .bool c.x.q.2.2.1, .bool c.x.q.2.2.2, lv, .int .i64 c.vk, .int .i64 c.vn, .string c.vs, .int .i64 c.ve] 33)).alloc (.cells #[.int .i64 c.row, .int .i64 c.col] 69)) (W.heap.size + 1) (.int .i64 c.row) (.int .i64 c.col)) := blk2_top (by simp) (Ext.refl _)
 go_enter Try.func25, Try.ntmps25
 go_wp2_with fail
 exact fin2 (b := W.heap.size + 1) (.agg #[.int .i64 c.row, .int .i64 c.col]) Z0.out rfl X0.out (fun g0 g1 => by simp [results, Try.results25, go_sem, g0, g1]) (fun h => ⟨rfl, h⟩)
end Go.Proofs.Ytjhmbkdkjgjoaaa
