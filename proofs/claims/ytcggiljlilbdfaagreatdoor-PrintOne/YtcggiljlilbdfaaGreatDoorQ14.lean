/-
 The contract of package lex's text.
 The printer writes trees: part, sides, call, tree.
 strings.ReplaceAll of a quote by two: a text's quotes doubled.
-/
import Derived.Test.YtcggiljlilbdfaaGreatDoorQ13
import Derived.Test.YtcggiljlilbdfaaGreatDoorQ12
import Derived.Test.YtcggiljlilbdfaaGreatDoorShelf
import Derived.Lib.Replace
import Derived.Lib.ReplaceLaws
import Derived.Lib.CountLaws
namespace Go.Proofs.YtcggiljlilbdfaaGreatDoor
open Go.RowKit
set_option maxHeartbeats 1000000

theorem txt_ne (c : UInt8) (r : List UInt8) (h : c ≠ 34) : txt (c :: r) = (txt r).map (fun x => (c :: x.1, x.2 + 1)) := by
 cases r with
 | nil => simp [txt, h]
 | cons d r => rw [txt, if_neg h]
theorem txt_two (r : List UInt8) : txt (34 :: 34 :: r) = (txt r).map (fun x => (34 :: x.1, x.2 + 2)) := by simp [txt]
theorem txt_end (r : List UInt8) (h : r.head? ≠ some 34) : txt (34 :: r) = some ([], 1) := by
 cases r with
 | nil => simp [txt]
 | cons d r => rw [txt, if_pos rfl, if_neg (by simpa using h)]
/-- What is read of a text up to a place. -/
def TxA (l : List UInt8) (k j : Nat) (acc : List UInt8) : Prop := k + 1 ≤ j ∧ acc.length ≤ j ∧ txt (l.drop (k + 1)) = (txt (l.drop j)).map (fun x => (acc ++ x.1, x.2 + (j - (k + 1))))
theorem TxA.start (l : List UInt8) (k : Nat) : TxA l k (k + 1) [] := by
 refine ⟨Nat.le_refl _, Nat.zero_le _, ?_⟩
 cases txt (l.drop (k + 1)) <;> simp
theorem TxA.one {l : List UInt8} {k j : Nat} {acc : List UInt8} (h : TxA l k j acc) (hj : j < l.length) (hc : l[j] ≠ 34) : TxA l k (j + 1) (acc ++ [l[j]]) := by
 obtain ⟨h0, h1, h2⟩ := h
 refine ⟨by omega, by simp; omega, ?_⟩
 rw [h2, List.drop_eq_getElem_cons hj, txt_ne _ _ hc]
 cases txt (l.drop (j + 1)) with
 | none => rfl
 | some x => simp; omega
theorem TxA.two {l : List UInt8} {k j : Nat} {acc : List UInt8} (h : TxA l k j acc) (hj : j + 1 < l.length) (hc : l[j] = 34) (hd : l[j + 1] = 34) : TxA l k (j + 1 + 1) (acc ++ [34]) := by
 obtain ⟨h0, h1, h2⟩ := h
 refine ⟨by omega, by simp; omega, ?_⟩
 rw [h2, List.drop_eq_getElem_cons (by omega : j < l.length), List.drop_eq_getElem_cons hj, hc, hd, txt_two]
 cases txt (l.drop (j + 1 + 1)) with
 | none => rfl
 | some x => simp; omega
theorem TxA.none {l : List UInt8} {k j : Nat} {acc : List UInt8} (h : TxA l k j acc) (hj : l.length ≤ j) : txtR (l.drop k) = .error 4 := by
 have e := h.2.2
 rw [List.drop_eq_nil_of_le hj] at e
 unfold txtR
 rw [List.tail_drop, e]; rfl
theorem TxA.done {l : List UInt8} {k j : Nat} {acc : List UInt8} (h : TxA l k j acc) (hj : j < l.length) (hc : l[j] = 34) (hd : (l.drop (j + 1)).head? ≠ some 34) : txtR (l.drop k) = .ok (1, acc, 0, 0, j + 1 - k) := by
 obtain ⟨h0, h1, e⟩ := h
 rw [List.drop_eq_getElem_cons hj, hc, txt_end _ hd] at e
 unfold txtR
 rw [List.tail_drop, e]
 simp; omega

theorem new_top (w : World) (o : Obj) : (w.alloc o).heap[w.heap.size]? = some o := by show (w.heap.push o)[w.heap.size]? = some o; simp
theorem new_two (w : World) (a o : Obj) : ((w.alloc a).alloc o).heap[w.heap.size + 1]? = some o := by
 have h := new_top (w.alloc a) o
 have e : (w.alloc a).heap.size = w.heap.size + 1 := by simp
 rwa [e] at h
theorem text_any (s : ByteArray) (k : Nat) (w : World) (hk : k < s.size) (hs : s.size ≤ 300) :
   Calls Tryz.prog 79 #[.string s, .int .i64 (k : Int)] w fun e w' => NxR (txtR (s.data.toList.drop k)) k e ∧ Ext w w' := by
 have hl := size_list s
 obtain ⟨l, hll⟩ : ∃ l, s.data.toList = l := ⟨_, rfl⟩
 have HL : Hid (l.length = s.size) := by show _ = _; rw [← hll]; exact hl
 have HA : Hid (∀ i (h : i < s.size) (h' : i < l.length), l[i] = s[i]) := by intro i h h'; subst hll; rfl
 rw [hll]
 clear hl hll
 go_enter Tryz.func79, Tryz.ntmps79
 go_wp2_with fail
 go_loopw [7] (fun i wr => ∃ (j : Nat) (acc : List UInt8), j ≤ s.size ∧ i = .int .i64 (j : Int) ∧ TxA l k j acc ∧ Lib.IsBuilder 57 5 (w.heap.size + 1) (w.heap.size + 1) (Lib.byteCells acc) wr ∧ Ext (w.alloc (.cells #[.int .i64 0, .int .i64 0, .string ⟨#[]⟩, .int .i64 0, .int .i64 0] 45)) wr) (fun i _ => s.size - (intOf i).toNat)
 case atStart =>
   refine ⟨k + 1, [], hk, by go_num, TxA.start l k, .inl ⟨Nat.le_refl _, .slice none 0 0, ?_, ⟨rfl, .inl ⟨rfl, rfl⟩⟩, by simp [Value.ownBlock]⟩, (Ext.refl _).alloc _⟩
   exact new_two w _ _
 case round =>
   obtain ⟨j, acc, hj, rfl, hT, hI, hE⟩ := hrel
   have HT : Hid (TxA l k j acc) := hT
   have HI : Hid (Lib.IsBuilder 57 5 (w.heap.size + 1) (w.heap.size + 1) (Lib.byteCells acc) wr) := hI
   have HE : Hid (Ext (w.alloc (.cells #[.int .i64 0, .int .i64 0, .string ⟨#[]⟩, .int .i64 0, .int .i64 0] 45)) wr) := hE
   have HC : Hid (acc.length ≤ 1000) := by have := hT.2.1; show _ ≤ _; omega
   clear hT hI hE
   by_cases hlt : j < s.size
   · have hltI : (j : Int) < (s.size : Int) := by omega
     have wk : wrap64 ((j : Int) + 1) = ((j + 1 : Nat) : Int) := by unfold wrap64; omega
     have hb := byte_ne (c := s[j]) 34 (by omega)
     by_cases h1 : s[j] = 34
     · have tb : (((s[j]).toNat : Int) == 34) = true := by rw [show (34 : Int) = ((34 : Nat) : Int) from rfl, hb, h1]; rfl
       by_cases h2 : j + 1 = s.size
       · have hx : txtR (l.drop k) = .ok (1, acc, 0, 0, j + 1 - k) := HT.out.done (by have := HL.out; omega) (by rw [HA.out j hlt]; exact h1) (by rw [List.drop_eq_nil_of_le (by have := HL.out; omega)]; simp)
         have HX : Hid (txtR (l.drop k) = .ok (1, acc, 0, 0, j + 1 - k)) := hx
         have c2 := fun W h => Tryz.Builder_String_any (w.heap.size + 1) (w.heap.size + 1) acc W h
         have t2 : (((j : Int) + 1) == (s.size : Int)) = true := by simp; omega
         have HJ : Hid (k + 1 ≤ j) := HT.out.1
         clear hx hb h1 h2
         go_wp2_with fail
         refine (c2 _ HI.out (by have := HE.out.sz; simp at this; omega)).mono ?_
         rintro e w1 ⟨rfl, E1⟩
         have E2 : Ext (w.alloc (.cells #[.int .i64 0, .int .i64 0, .string ⟨#[]⟩, .int .i64 0, .int .i64 0] 45)) w1 := Below.trans HE.out (by simpa using E1)
         have B3 := blk5_top rfl E2
         have X3 := ((Ext.refl w).alloc _).trans E2
         have D3 := B3
         obtain ⟨_, ⟨b0, b1, b2, b3, b4⟩, f0, f1, f2, f3, f4⟩ := D3
         clear E1 E2
         go_wp2_with fail
         refine fin5 _ (B3.set _ _ _ _ _) rfl (by with_reducible repeat (first | assumption | exact Ext.refl _ | apply Ext.alloc | apply Ext.drewN | (refine Ext.setCell ?_ (by simp) _))) (fun g0 g1 g2 g3 g4 => by simp [results, Tryz.results79, go_sem, g0, g1, g2, g3, g4]; rfl) (fun h => ⟨?_, h⟩)
         rw [HX.out]
         exact nx_fin (1, acc, 0, 0, j + 1 - k) k _ (by have := HJ.out; simp; omega)
       · have hlt2 : j + 1 < s.size := by omega
         have hltJ : (j : Int) + 1 < (s.size : Int) := by omega
         have hb2 := byte_ne (c := s[j + 1]) 34 (by omega)
         by_cases h3 : s[j + 1] = 34
         · have t2 : (((j : Int) + 1) == (s.size : Int)) = false := by simp; omega
           have t3 : (((s[j + 1]).toNat : Int) != 34) = false := by rw [bne, show (34 : Int) = ((34 : Nat) : Int) from rfl, hb2, h3]; rfl
           have HX : Hid (TxA l k (j + 1 + 1) (acc ++ [s[j + 1]])) := by
             have h4 : j + 1 < l.length := by have := HL.out; omega
             rw [h3]
             exact HT.out.two h4 (by rw [HA.out j hlt]; exact h1) (by rw [HA.out (j + 1) hlt2]; exact h3)
           have c1 := fun W h => wbyte_any (w.heap.size + 1) (w.heap.size + 1) acc s[j + 1] W h HC.out
           have wk2 : wrap64 (((j + 1 : Nat) : Int) + 1) = ((j + 1 + 1 : Nat) : Int) := by unfold wrap64; omega
           clear hb h1 h2 h3 hb2
           go_wp2_with fail
           refine (c1 _ HI.out (by have := HE.out.sz; simp at this; omega)).mono ?_
           rintro e w1 ⟨rfl, I1, E1⟩
           have HI1 : Hid (Lib.IsBuilder 57 5 (w.heap.size + 1) (w.heap.size + 1) (Lib.byteCells (acc ++ [s[j + 1]])) w1) := I1
           have HE1 : Hid (Ext (w.alloc (.cells #[.int .i64 0, .int .i64 0, .string ⟨#[]⟩, .int .i64 0, .int .i64 0] 45)) w1) := Below.trans HE.out (by simpa using E1)
           clear I1 E1
           go_wp2_with fail
           go_roundw
           case rel => exact ⟨j + 1 + 1, acc ++ [s[j + 1]], by omega, by go_num, HX.out, HI1.out, HE1.out⟩
           case measure => simp [intOf]; omega
         · have hx : txtR (l.drop k) = .ok (1, acc, 0, 0, j + 1 - k) := HT.out.done (by have := HL.out; omega) (by rw [HA.out j hlt]; exact h1) (by rw [List.drop_eq_getElem_cons (by have := HL.out; omega : j + 1 < l.length)]; simp only [List.head?_cons, ne_eq, Option.some.injEq]; rw [HA.out (j + 1) hlt2]; exact h3)
           have HX : Hid (txtR (l.drop k) = .ok (1, acc, 0, 0, j + 1 - k)) := hx
           have c2 := fun W h => Tryz.Builder_String_any (w.heap.size + 1) (w.heap.size + 1) acc W h
           have t2 : (((j : Int) + 1) == (s.size : Int)) = false := by simp; omega
           have t3 : (((s[j + 1]).toNat : Int) != 34) = true := by rw [bne, show (34 : Int) = ((34 : Nat) : Int) from rfl, hb2]; simpa using h3
           have HJ : Hid (k + 1 ≤ j) := HT.out.1
           clear hx hb h1 h2 h3 hb2
           go_wp2_with fail
           refine (c2 _ HI.out (by have := HE.out.sz; simp at this; omega)).mono ?_
           rintro e w1 ⟨rfl, E1⟩
           have E2 : Ext (w.alloc (.cells #[.int .i64 0, .int .i64 0, .string ⟨#[]⟩, .int .i64 0, .int .i64 0] 45)) w1 := Below.trans HE.out (by simpa using E1)
           have B3 := blk5_top rfl E2
           have X3 := ((Ext.refl w).alloc _).trans E2
           have D3 := B3
           obtain ⟨_, ⟨b0, b1, b2, b3, b4⟩, f0, f1, f2, f3, f4⟩ := D3
           clear E1 E2
           go_wp2_with fail
           refine fin5 _ (B3.set _ _ _ _ _) rfl (by with_reducible repeat (first | assumption | exact Ext.refl _ | apply Ext.alloc | apply Ext.drewN | (refine Ext.setCell ?_ (by simp) _))) (fun g0 g1 g2 g3 g4 => by simp [results, Tryz.results79, go_sem, g0, g1, g2, g3, g4]; rfl) (fun h => ⟨?_, h⟩)
           rw [HX.out]
           exact nx_fin (1, acc, 0, 0, j + 1 - k) k _ (by have := HJ.out; simp; omega)
     · have tb : (((s[j]).toNat : Int) == 34) = false := by rw [show (34 : Int) = ((34 : Nat) : Int) from rfl, hb]; simpa using h1
       have HX : Hid (TxA l k (j + 1) (acc ++ [s[j]])) := by
         have h3 : j < l.length := by have := HL.out; omega
         have := HT.out.one h3 (by rw [HA.out j hlt]; exact h1)
         rwa [HA.out j hlt] at this
       have c1 := fun W h => wbyte_any (w.heap.size + 1) (w.heap.size + 1) acc s[j] W h HC.out
       clear hb h1
       go_wp2_with fail
       refine (c1 _ HI.out (by have := HE.out.sz; simp at this; omega)).mono ?_
       rintro e w1 ⟨rfl, I1, E1⟩
       have HI1 : Hid (Lib.IsBuilder 57 5 (w.heap.size + 1) (w.heap.size + 1) (Lib.byteCells (acc ++ [s[j]])) w1) := I1
       have HE1 : Hid (Ext (w.alloc (.cells #[.int .i64 0, .int .i64 0, .string ⟨#[]⟩, .int .i64 0, .int .i64 0] 45)) w1) := Below.trans HE.out (by simpa using E1)
       clear I1 E1
       go_wp2_with fail
       go_roundw
       case rel => exact ⟨j + 1, acc ++ [s[j]], by omega, by go_num, HX.out, HI1.out, HE1.out⟩
       case measure => simp [intOf]; omega
   · have hltI : ¬ (j : Int) < (s.size : Int) := by omega
     have HX : Hid (txtR (l.drop k) = .error 4) := HT.out.none (by have := HL.out; omega)
     go_wp2_with fail
     exact ⟨rfl, by rw [HX.out]; rfl, ((Ext.refl w).alloc _).trans HE.out⟩

open Go.RowKit
set_option maxHeartbeats 6000000

/-- The tables: powers of ten, the errors' names, the signs; and the library's greatest length of what is sought. -/
def Mx (w : World) : Prop := 3 < w.heap.size ∧ ∃ m, w.cell? ⟨3, 0, none⟩ = some (.int .i64 m)
theorem Mx.ext {w w' : World} (h : Mx w) (e : Ext w w') : Mx w' := by
 obtain ⟨h1, m, h2⟩ := h
 exact ⟨Nat.lt_of_lt_of_le h1 e.sz, m, (e.cell.1 _ _ h1).trans h2⟩
def Tab9 (w : World) : Prop := Tab w ∧ Nm w ∧ Mx w
theorem Tab9.ext {w w' : World} (h : Tab9 w) (e : Ext w w') : Tab9 w' := ⟨h.1.ext e, h.2.1.ext e, h.2.2.ext e⟩
/-- What is asked of a printing. -/
def PrQ (w0 : World) (b : Nat) (W : World) (l : List UInt8) (e : Ending) (w' : World) : Prop := e = .returned (.tuple #[]) ∧ Bu w0 b l w' ∧ Ok9 b W w'
def PTr (n : Nat) (t : T) : Prop := ∀ (w0 W : World) (b : Nat) (l : List UInt8) (pp : Option Addr) (ln cl : Nat), Tab9 w0 → Bu w0 b l W → IsL w0 (fun _ => True) (.slice pp ln cl) t.l → l.length + 701 * szT n t ≤ 90000000 →
 Calls Tryz.prog 18 #[.pointer (some ⟨b, 0, none⟩), .agg #[.int .i64 t.k, .int .i64 t.n, .string (bs t.s), .int .i64 t.e, .int .i64 t.r.1, .int .i64 t.r.2.1, .bool t.r.2.2.1, .bool t.r.2.2.2, .int .i64 t.q.1, .int .i64 t.q.2.1, .bool t.q.2.2.1, .bool t.q.2.2.2, .slice pp ln cl]] W (PrQ w0 b W (l ++ shT n t))
def PPt (n k : Nat) (t : T) : Prop := ∀ (w0 W : World) (b : Nat) (l : List UInt8) (pp : Option Addr) (ln cl : Nat), Tab9 w0 → Bu w0 b l W → IsL w0 (fun _ => True) (.slice pp ln cl) t.l → l.length + 701 * szT n t + 3 ≤ 90000000 →
 Calls Tryz.prog 42 #[.pointer (some ⟨b, 0, none⟩), .agg #[.int .i64 t.k, .int .i64 t.n, .string (bs t.s), .int .i64 t.e, .int .i64 t.r.1, .int .i64 t.r.2.1, .bool t.r.2.2.1, .bool t.r.2.2.2, .int .i64 t.q.1, .int .i64 t.q.2.1, .bool t.q.2.2.1, .bool t.q.2.2.2, .slice pp ln cl], .int .i64 (k : Int)] W (PrQ w0 b W (l ++ brkL (loose (k + 1) t) (shT n t)))
/-- A block of the call's own, kept by whatever keeps all but the printer's. -/
theorem Ok9.blk {b g : Nat} {w w' : World} {cs : Array Value} {T : TypeId} (h : Ok9 b w w') (hb : w.heap[g]? = some (.cells cs T (0, 0))) (hg : g ≠ b) (hT : T ≠ 5) : w'.heap[g]? = some (.cells cs T (0, 0)) :=
 h.1 g _ hb (fun e => hg (Option.some.inj e)) (fun c fz e => by cases e; exact hT rfl)
theorem cells13 {w : World} {g : Nat} {x0 x1 x2 x3 x4 x5 x6 x7 x8 x9 x10 x11 x12 : Value} {T : TypeId} (hb : w.heap[g]? = some (.cells #[x0, x1, x2, x3, x4, x5, x6, x7, x8, x9, x10, x11, x12] T (0, 0))) : w.cell? ⟨g, 0, none⟩ = some x0 ∧ w.cell? ⟨g, 1, none⟩ = some x1 ∧ w.cell? ⟨g, 2, none⟩ = some x2 ∧ w.cell? ⟨g, 3, none⟩ = some x3 ∧ w.cell? ⟨g, 4, none⟩ = some x4 ∧ w.cell? ⟨g, 5, none⟩ = some x5 ∧ w.cell? ⟨g, 6, none⟩ = some x6 ∧ w.cell? ⟨g, 7, none⟩ = some x7 ∧ w.cell? ⟨g, 8, none⟩ = some x8 ∧ w.cell? ⟨g, 9, none⟩ = some x9 ∧ w.cell? ⟨g, 10, none⟩ = some x10 ∧ w.cell? ⟨g, 11, none⟩ = some x11 ∧ w.cell? ⟨g, 12, none⟩ = some x12 := by
 have h := fun o => Lib.cell_of_heap hb o
 exact ⟨h 0, h 1, h 2, h 3, h 4, h 5, h 6, h 7, h 8, h 9, h 10, h 11, h 12⟩
set_option maxRecDepth 100000 in
theorem part_any (n k : Nat) (hk : k ≤ 4) (t : T) (hb : t.k = 7 → bnd t.s ≠ 0) (hT : PTr n t) (hW : Wf t) (hw : wellT n t = true ∨ t.k = 5) : PPt n k t := by
 intro w0 W b l pp ln cl hTab hBu hL hlen
 have c1 := fun W => holds_any t (.slice pp ln cl) W
 have HLB : Hid (∀ W l, Bu w0 b l W → l.length + 701 * szT n t ≤ 90000000 → Calls Tryz.prog 18 #[.pointer (some ⟨b, 0, none⟩), .agg #[.int .i64 t.k, .int .i64 t.n, .string (bs t.s), .int .i64 t.e, .int .i64 t.r.1, .int .i64 t.r.2.1, .bool t.r.2.2.1, .bool t.r.2.2.2, .int .i64 t.q.1, .int .i64 t.q.2.1, .bool t.q.2.2.1, .bool t.q.2.2.2, .slice pp ln cl]] W (PrQ w0 b W (l ++ shT n t))) := fun W l h hl => hT w0 W b l pp ln cl hTab h hL hl
 have HB : Hid (Bu w0 b l W) := hBu
 have hbW : b < W.heap.size := by rcases hBu.2 with h | h <;> exact h.lt
 have HN : Hid (l.length + 701 * szT n t + 3 ≤ 90000000 ∧ (shT n t).length + 1 ≤ 701 * szT n t) := ⟨hlen, sh_len n t hW hw⟩
 have HX : Hid (loose (k + 1) t = decide (hldT t < k)) := hld_loose hk hb
 obtain ⟨hh, hhd⟩ : ∃ hh, hldT t = hh := ⟨_, rfl⟩
 rw [hhd] at c1 HX
 clear hTab hBu hL hlen hT hb hW hw hhd
 by_cases hc : hh < k
 · have i1 : ¬ (k : Int) ≤ (hh : Int) := by omega
   have HY : Hid (brkL (loose (k + 1) t) (shT n t) = 40 :: (shT n t ++ [41])) := by show _ = _; rw [HX.out]; simp [brkL, hc]
   clear hc
   go_enter Tryz.func42, Tryz.ntmps42
   go_wp2_with fail
   refine (c1 _).mono ?_
   rintro e w1 ⟨rfl, E1⟩
   have hnt := new_top W (.cells #[.int .i64 t.k, .int .i64 t.n, .string (bs t.s), .int .i64 t.e, .int .i64 t.r.1, .int .i64 t.r.2.1, .bool t.r.2.2.1, .bool t.r.2.2.2, .int .i64 t.q.1, .int .i64 t.q.2.1, .bool t.q.2.2.1, .bool t.q.2.2.2, .slice pp ln cl] 29)
   have hb1 := (E1.block W.heap.size (by simp)).trans hnt
   have HB1 : Hid (Bu w0 b l w1 ∧ Ok9 b W w1) := ⟨(HB.out.ext ((Ext.refl _).alloc _)).ext E1, (((Ext.refl W).alloc _).trans E1).toK b⟩
   clear E1 hnt
   go_wp2_with fail
   have HBK : Hid (w1.heap[W.heap.size]? = some (.cells #[.int .i64 t.k, .int .i64 t.n, .string (bs t.s), .int .i64 t.e, .int .i64 t.r.1, .int .i64 t.r.2.1, .bool t.r.2.2.1, .bool t.r.2.2.2, .int .i64 t.q.1, .int .i64 t.q.2.1, .bool t.q.2.2.1, .bool t.q.2.2.2, .slice pp ln cl] 29 (0, 0))) := hb1
   clear hb1
   refine (pbyte_any w0 b l 40 _ HB1.out.1 (by have := HN.out; omega)).mono ?_
   rintro e w2 ⟨rfl, B2, K2⟩
   have hb2 := K2.blk HBK.out (by omega) (by decide)
   have HB2 : Hid (Bu w0 b (l ++ [40]) w2 ∧ Ok9 b W w2) := ⟨B2, HB1.out.2.trans K2⟩
   clear B2 K2 HB1 HBK
   obtain ⟨k0, k1, k2, k3, k4, k5, k6, k7, k8, k9, k10, k11, k12⟩ := cells13 hb2
   clear hb2
   go_wp2_with fail
   refine (HLB.out _ _ HB2.out.1 (by have := HN.out; rw [List.length_append]; simp; omega)).mono ?_
   rintro e w3 ⟨rfl, B3, K3⟩
   have HB3 : Hid (Bu w0 b (l ++ [40] ++ shT n t) w3 ∧ Ok9 b W w3) := ⟨B3, HB2.out.2.trans K3⟩
   clear B3 K3 HB2 k0 k1 k2 k3 k4 k5 k6 k7 k8 k9 k10 k11 k12
   go_wp2_with fail
   refine (pbyte_any w0 b _ 41 _ HB3.out.1 (by have := HN.out; rw [List.length_append, List.length_append]; simp; omega)).mono ?_
   rintro e w4 ⟨rfl, B4, K4⟩
   have HB4 : Hid (Bu w0 b (l ++ [40] ++ shT n t ++ [41]) w4 ∧ Ok9 b W w4) := ⟨B4, HB3.out.2.trans K4⟩
   clear B4 K4 HB3
   go_wp2_with fail
   go_end0
   refine ⟨rfl, ?_, HB4.out.2⟩
   rw [HY.out]
   have := HB4.out.1
   simpa using this
 · have i1 : (k : Int) ≤ (hh : Int) := by omega
   have HY : Hid (brkL (loose (k + 1) t) (shT n t) = shT n t) := by show _ = _; rw [HX.out]; simp [brkL, hc]
   clear hc
   go_enter Tryz.func42, Tryz.ntmps42
   go_wp2_with fail
   refine (c1 _).mono ?_
   rintro e w1 ⟨rfl, E1⟩
   have hnt := new_top W (.cells #[.int .i64 t.k, .int .i64 t.n, .string (bs t.s), .int .i64 t.e, .int .i64 t.r.1, .int .i64 t.r.2.1, .bool t.r.2.2.1, .bool t.r.2.2.2, .int .i64 t.q.1, .int .i64 t.q.2.1, .bool t.q.2.2.1, .bool t.q.2.2.2, .slice pp ln cl] 29)
   have hb1 := (E1.block W.heap.size (by simp)).trans hnt
   have HB1 : Hid (Bu w0 b l w1 ∧ Ok9 b W w1) := ⟨(HB.out.ext ((Ext.refl _).alloc _)).ext E1, (((Ext.refl W).alloc _).trans E1).toK b⟩
   obtain ⟨k0, k1, k2, k3, k4, k5, k6, k7, k8, k9, k10, k11, k12⟩ := cells13 hb1
   clear E1 hnt hb1
   go_wp2_with fail
   refine (HLB.out _ _ HB1.out.1 (by have := HN.out; omega)).mono ?_
   rintro e w3 ⟨rfl, B3, K3⟩
   have HB3 : Hid (Bu w0 b (l ++ shT n t) w3 ∧ Ok9 b W w3) := ⟨B3, HB1.out.2.trans K3⟩
   clear B3 K3 HB1 k0 k1 k2 k3 k4 k5 k6 k7 k8 k9 k10 k11 k12
   go_wp2_with fail
   go_end0
   refine ⟨rfl, ?_, HB3.out.2⟩
   rw [HY.out]
   exact HB3.out.1
set_option maxRecDepth 100000 in
theorem sides_any (n : Nat) (x y : T) (s : List UInt8) (hs0 : bnd s ≠ 0) (hx : ∀ k, k ≤ 4 → PPt n k x) (hy : ∀ k, k ≤ 4 → PPt n k y) (lx : (shT n x).length + 1 ≤ 701 * szT n x)
   (w0 W : World) (b : Nat) (l : List UInt8) (pp qq : Option Addr) (ln cl lm cm : Nat) (hTab : Tab9 w0) (hBu : Bu w0 b l W) (hL : IsL w0 (fun _ => True) (.slice pp ln cl) x.l) (hM : IsL w0 (fun _ => True) (.slice qq lm cm) y.l) (hlen : l.length + 701 * (1 + (szT n x + szT n y)) ≤ 90000000) :
   Calls Tryz.prog 43 #[.pointer (some ⟨b, 0, none⟩), .agg #[.int .i64 x.k, .int .i64 x.n, .string (bs x.s), .int .i64 x.e, .int .i64 x.r.1, .int .i64 x.r.2.1, .bool x.r.2.2.1, .bool x.r.2.2.2, .int .i64 x.q.1, .int .i64 x.q.2.1, .bool x.q.2.2.1, .bool x.q.2.2.2, .slice pp ln cl], .string (bs s), .agg #[.int .i64 y.k, .int .i64 y.n, .string (bs y.s), .int .i64 y.e, .int .i64 y.r.1, .int .i64 y.r.2.1, .bool y.r.2.2.1, .bool y.r.2.2.2, .int .i64 y.q.1, .int .i64 y.q.2.1, .bool y.q.2.2.1, .bool y.q.2.2.2, .slice qq lm cm]] W (PrQ w0 b W (l ++ (brkL (loose (bnd s) x) (shT n x) ++ s ++ brkL (loose (bnd s + 1) y) (shT n y)))) := by
 have c1 := fun W => pbinds_any (bs s) W
 have es : (bs s).data.toList = s := rfl
 rw [es] at c1
 have hb4 : bnd s ≤ 4 := by unfold bnd; repeat (first | (split; · omega) | omega)
 obtain ⟨k, hk⟩ : ∃ k, bnd s = k + 1 := ⟨bnd s - 1, by omega⟩
 rw [hk] at c1 hb4 ⊢
 rw [show k + 1 - 1 = k from rfl] at c1
 have HX : Hid (∀ W l, Bu w0 b l W → l.length + 701 * szT n x + 3 ≤ 90000000 → Calls Tryz.prog 42 #[.pointer (some ⟨b, 0, none⟩), .agg #[.int .i64 x.k, .int .i64 x.n, .string (bs x.s), .int .i64 x.e, .int .i64 x.r.1, .int .i64 x.r.2.1, .bool x.r.2.2.1, .bool x.r.2.2.2, .int .i64 x.q.1, .int .i64 x.q.2.1, .bool x.q.2.2.1, .bool x.q.2.2.2, .slice pp ln cl], .int .i64 (k : Int)] W (PrQ w0 b W (l ++ brkL (loose (k + 1) x) (shT n x)))) := fun W l h hl => hx k (by omega) w0 W b l pp ln cl hTab h hL hl
 have HY : Hid (∀ W l, Bu w0 b l W → l.length + 701 * szT n y + 3 ≤ 90000000 → Calls Tryz.prog 42 #[.pointer (some ⟨b, 0, none⟩), .agg #[.int .i64 y.k, .int .i64 y.n, .string (bs y.s), .int .i64 y.e, .int .i64 y.r.1, .int .i64 y.r.2.1, .bool y.r.2.2.1, .bool y.r.2.2.2, .int .i64 y.q.1, .int .i64 y.q.2.1, .bool y.q.2.2.1, .bool y.q.2.2.2, .slice qq lm cm], .int .i64 ((k + 1 : Nat) : Int)] W (PrQ w0 b W (l ++ brkL (loose (k + 1 + 1) y) (shT n y)))) := fun W l h hl => hy (k + 1) (by omega) w0 W b l qq lm cm hTab h hM hl
 have e1 : ((k + 1 : Nat) : Int) = (k : Int) + 1 := by omega
 rw [e1] at HY
 have HB : Hid (Bu w0 b l W) := hBu
 have hbW : b < W.heap.size := by rcases hBu.2 with h | h <;> exact h.lt
 have HN : Hid (l.length + 701 * (1 + (szT n x + szT n y)) ≤ 90000000 ∧ (brkL (loose (k + 1) x) (shT n x)).length ≤ 701 * szT n x + 1 ∧ s.length ≤ 2) := ⟨hlen, by have := brkL_len (loose (k + 1) x) (shT n x); omega, bnd_len hs0⟩
 have HQ : Hid ((bs s).size = s.length ∧ (bs s).data.toList = s) := ⟨bs_size s, rfl⟩
 generalize bs s = q at *
 obtain ⟨A, hA⟩ : ∃ A, brkL (loose (k + 1) x) (shT n x) = A := ⟨_, rfl⟩
 obtain ⟨C, hC⟩ : ∃ C, brkL (loose (k + 1 + 1) y) (shT n y) = C := ⟨_, rfl⟩
 rw [hA] at HX HN ⊢
 rw [hC] at HY ⊢
 have hk4 : k ≤ 3 := by omega
 clear hTab hBu hL hM hlen hx hy lx hs0 es e1 hb4 hk hA hC
 go_enter Tryz.func43, Tryz.ntmps43
 go_wp2_with fail
 refine (c1 _).mono ?_
 rintro e w1 ⟨rfl, rfl⟩
 clear c1
 have HW : Hid (Ext W ((W.alloc (.cells #[.int .i64 x.k, .int .i64 x.n, .string (bs x.s), .int .i64 x.e, .int .i64 x.r.1, .int .i64 x.r.2.1, .bool x.r.2.2.1, .bool x.r.2.2.2, .int .i64 x.q.1, .int .i64 x.q.2.1, .bool x.q.2.2.1, .bool x.q.2.2.2, .slice pp ln cl] 29)).alloc (.cells #[.int .i64 y.k, .int .i64 y.n, .string (bs y.s), .int .i64 y.e, .int .i64 y.r.1, .int .i64 y.r.2.1, .bool y.r.2.2.1, .bool y.r.2.2.2, .int .i64 y.q.1, .int .i64 y.q.2.1, .bool y.q.2.2.1, .bool y.q.2.2.2, .slice qq lm cm] 29))) := ((Ext.refl _).alloc _).alloc _
 have HN2 : Hid (((W.alloc (.cells #[.int .i64 x.k, .int .i64 x.n, .string (bs x.s), .int .i64 x.e, .int .i64 x.r.1, .int .i64 x.r.2.1, .bool x.r.2.2.1, .bool x.r.2.2.2, .int .i64 x.q.1, .int .i64 x.q.2.1, .bool x.q.2.2.1, .bool x.q.2.2.2, .slice pp ln cl] 29)).alloc (.cells #[.int .i64 y.k, .int .i64 y.n, .string (bs y.s), .int .i64 y.e, .int .i64 y.r.1, .int .i64 y.r.2.1, .bool y.r.2.2.1, .bool y.r.2.2.2, .int .i64 y.q.1, .int .i64 y.q.2.1, .bool y.q.2.2.1, .bool y.q.2.2.2, .slice qq lm cm] 29)).heap[W.heap.size + 1]? = some (.cells #[.int .i64 y.k, .int .i64 y.n, .string (bs y.s), .int .i64 y.e, .int .i64 y.r.1, .int .i64 y.r.2.1, .bool y.r.2.2.1, .bool y.r.2.2.2, .int .i64 y.q.1, .int .i64 y.q.2.1, .bool y.q.2.2.1, .bool y.q.2.2.2, .slice qq lm cm] 29 (0, 0))) := new_two W _ _
 go_wp2_with fail
 refine (HX.out _ _ (HB.out.ext HW.out) (by have := HN.out; omega)).mono ?_
 rintro e w2 ⟨rfl, B2, K2⟩
 have hb2 := K2.blk HN2.out (by omega) (by decide)
 have HB2 : Hid (Bu w0 b (l ++ A) w2 ∧ Ok9 b W w2 ∧ w2.heap[W.heap.size + 1]? = some (.cells #[.int .i64 y.k, .int .i64 y.n, .string (bs y.s), .int .i64 y.e, .int .i64 y.r.1, .int .i64 y.r.2.1, .bool y.r.2.2.1, .bool y.r.2.2.2, .int .i64 y.q.1, .int .i64 y.q.2.1, .bool y.q.2.2.1, .bool y.q.2.2.2, .slice qq lm cm] 29 (0, 0))) := ⟨B2, (HW.out.toK b).trans K2, hb2⟩
 clear B2 K2 hb2 HW HN2
 go_wp2_with fail
 refine (pstr_any w0 b _ q _ HB2.out.1 (by have := HN.out; rw [List.length_append]; omega) (by have := HN.out; have := HQ.out.1; omega)).mono ?_
 rintro e w3 ⟨rfl, B3, K3⟩
 have hb3 := K3.blk HB2.out.2.2 (by omega) (by decide)
 rw [HQ.out.2] at B3
 have HB3 : Hid (Bu w0 b (l ++ A ++ s) w3 ∧ Ok9 b W w3) := ⟨B3, HB2.out.2.1.trans K3⟩
 obtain ⟨k0, k1, k2, k3, k4, k5, k6, k7, k8, k9, k10, k11, k12⟩ := cells13 hb3
 clear B3 K3 hb3 HB2
 go_wp2_with fail
 refine (HY.out _ _ HB3.out.1 (by have := HN.out; rw [List.length_append, List.length_append]; omega)).mono ?_
 rintro e w4 ⟨rfl, B4, K4⟩
 have HB4 : Hid (Bu w0 b (l ++ A ++ s ++ C) w4 ∧ Ok9 b W w4) := ⟨B4, HB3.out.2.trans K4⟩
 clear B4 K4 HB3 k0 k1 k2 k3 k4 k5 k6 k7 k8 k9 k10 k11 k12
 go_wp2_with fail
 go_end0
 refine ⟨rfl, ?_, HB4.out.2⟩
 have := HB4.out.1
 simpa using this
theorem join_take_len (n : Nat) (ls : List T) (j : Nat) (h : ∀ x ∈ ls, (shT n x).length + 1 ≤ 701 * szT n x) : (joinL ((ls.take j).map (shT n))).length ≤ 701 * ((ls.take j).map (szT n)).sum := by
 refine Nat.le_trans (joinL_len _) ?_
 rw [List.map_map, ← sum_mul]
 exact sum_le fun x hx => h x (List.mem_of_mem_take hx)
theorem sum_take_le (n : Nat) (ls : List T) (j : Nat) (x : T) (h : ls[j]? = some x) : ((ls.take j).map (szT n)).sum + szT n x ≤ (ls.map (szT n)).sum := by
 have e : ls = ls.take j ++ x :: ls.drop (j + 1) := by
   have hj := (List.getElem?_eq_some_iff.1 h)
   obtain ⟨hj, hx⟩ := hj
   rw [← hx, ← List.drop_eq_getElem_cons hj, List.take_append_drop]
 have : (ls.map (szT n)).sum = ((ls.take j).map (szT n)).sum + (szT n x + ((ls.drop (j + 1)).map (szT n)).sum) := by
   conv => lhs; rw [e]
   simp
 omega
theorem joinL_snoc (ls : List (List UInt8)) (a : List UInt8) (h : ls ≠ []) : joinL (ls ++ [a]) = joinL ls ++ 44 :: a := by
 match ls, h with
 | [x], _ => rfl
 | x :: y :: r, _ =>
   have ih := joinL_snoc (y :: r) a (by simp)
   show x ++ 44 :: joinL (y :: r ++ [a]) = (x ++ 44 :: joinL (y :: r)) ++ 44 :: a
   rw [ih]; simp
set_option maxRecDepth 100000 in
theorem call_any (n : Nat) (s : List UInt8) (ls : List T) (hs : s.length ≤ 8) (hl : ls.length ≤ 100) (hT : ∀ x ∈ ls, PTr n x) (hsl : ∀ x ∈ ls, (shT n x).length + 1 ≤ 701 * szT n x)
   (w0 W : World) (b : Nat) (l : List UInt8) (pp : Option Addr) (ln cl : Nat) (hTab : Tab9 w0) (hBu : Bu w0 b l W) (hL : IsL w0 (fun _ => True) (.slice pp ln cl) ls) (hlen : l.length + 701 * (1 + (ls.map (szT n)).sum) ≤ 90000000) :
   Calls Tryz.prog 44 #[.pointer (some ⟨b, 0, none⟩), .string (bs s), .slice pp ln cl] W (PrQ w0 b W (l ++ (s ++ 40 :: (joinL (ls.map (shT n)) ++ [41])))) := by
 have hln : ln = ls.length := by
   obtain ⟨p, c, h1, _⟩ := hL.form
   cases h1; rfl
 have hl2 : ln ≤ 100 := by omega
 have HI : Hid (IsL w0 (fun _ => True) (.slice pp ln cl) ls) := hL
 have HLN : Hid (ln = ls.length) := hln
 have HT : Hid (∀ x ∈ ls, PTr n x) := hT
 have HTab : Hid (Tab9 w0) := hTab
 have HB : Hid (Bu w0 b l W) := hBu
 have hbW : b < W.heap.size := by rcases hBu.2 with h | h <;> exact h.lt
 have HN : Hid (l.length + 701 * (1 + (ls.map (szT n)).sum) ≤ 90000000 ∧ (∀ x ∈ ls, (shT n x).length + 1 ≤ 701 * szT n x) ∧ s.length ≤ 8) := ⟨hlen, hsl, hs⟩
 have HQ : Hid ((bs s).size = s.length ∧ (bs s).data.toList = s) := ⟨bs_size s, rfl⟩
 generalize bs s = q at *
 clear hL hln hT hTab hBu hlen hs hl hsl
 go_enter Tryz.func44, Tryz.ntmps44
 go_wp2_with fail
 refine (pstr_any w0 b _ q _ HB.out (by have := HN.out; omega) (by have := HN.out; have := HQ.out.1; omega)).mono ?_
 rintro e w1 ⟨rfl, B1, K1⟩
 rw [HQ.out.2] at B1
 have HB1 : Hid (Bu w0 b (l ++ s) w1 ∧ Ok9 b W w1) := ⟨B1, K1⟩
 clear B1 K1
 go_wp2_with fail
 refine (pbyte_any w0 b _ 40 _ HB1.out.1 (by have := HN.out; rw [List.length_append]; omega)).mono ?_
 rintro e w2 ⟨rfl, B2, K2⟩
 have HB2 : Hid (Bu w0 b (l ++ s ++ [40]) w2 ∧ Ok9 b W w2) := ⟨B2, HB1.out.2.trans K2⟩
 clear B2 K2 HB1
 go_wp2_with fail
 go_loopw [19] (fun iv wr => ∃ j : Nat, j ≤ ln ∧ iv = .int .i64 (j : Int) ∧ Bu w0 b (l ++ s ++ [40] ++ joinL ((ls.take j).map (shT n))) wr ∧ Ok9 b W wr) (fun iv _ => ln - (intOf iv).toNat)
 case atStart => exact ⟨0, Nat.zero_le _, rfl, by simpa [joinL] using HB2.out.1, HB2.out.2⟩
 case round =>
   obtain ⟨j, hj, rfl, hBu, hK⟩ := hrel
   have HBr : Hid (Bu w0 b (l ++ s ++ [40] ++ joinL ((ls.take j).map (shT n))) wr ∧ Ok9 b W wr) := ⟨hBu, hK⟩
   have hwr : W.heap.size ≤ wr.heap.size := hK.2
   clear hBu hK HB2
   by_cases hlt : j < ln
   · have hltI : (j : Int) < (ln : Int) := by omega
     have hI := HI.out.ext HBr.out.1.1
     obtain ⟨gb, off, x, lv, hpp, hx1, hA1, hgb, hA2, hLx, hce⟩ := hI.at (i := j) (by rw [← HLN.out]; exact hlt)
     have hI0 := HI.out
     obtain ⟨gb', off', x', lv', hpp', hx1', hA1', hgb', hA2', hLx', hce'⟩ := HI.out.at (i := j) (by rw [← HLN.out]; exact hlt)
     rw [hpp] at hpp'
     cases hpp'
     rw [hx1] at hx1'
     cases hx1'
     have hlvq : lv = lv' := by
       have q1 := hce 12 lv rfl
       have q2 := (HBr.out.1.1.cell.1 _ (off + j * 13 + 12) hgb').trans (hce' 12 lv' rfl)
       rw [q1] at q2
       exact Option.some.inj q2
     subst hlvq
     clear hA1 hA2 hA1' hA2' hce' hgb' hI0 hLx
     subst hpp
     obtain ⟨pp, cl', hlv, hcl⟩ := hLx'.form
     obtain ⟨ln', hln'⟩ : ∃ ln', x.l.length = ln' := ⟨_, rfl⟩
     rw [hln'] at hlv
     subst hlv
     have HX1 : Hid (ls[j]? = some x) := hx1
     have HLX : Hid (IsL w0 (fun _ => True) (.slice pp ln' cl') x.l) := hLx'
     have HLN2 : Hid ((joinL ((ls.take j).map (shT n))).length ≤ 701 * ((ls.take j).map (szT n)).sum ∧ ((ls.take j).map (szT n)).sum + szT n x ≤ (ls.map (szT n)).sum) := ⟨join_take_len n ls j HN.out.2.1, sum_take_le n ls j x hx1⟩
     have e0 : wr.cell? ⟨gb, off + j * 13, none⟩ = some (.int .i64 x.k) := hce 0 _ rfl
     have e1 : wr.cell? ⟨gb, off + j * 13 + 1, none⟩ = some (.int .i64 x.n) := hce 1 _ rfl
     have e2 : wr.cell? ⟨gb, off + j * 13 + 2, none⟩ = some (.string (bs x.s)) := hce 2 _ rfl
     have e3 : wr.cell? ⟨gb, off + j * 13 + 3, none⟩ = some (.int .i64 x.e) := hce 3 _ rfl
     have e4 : wr.cell? ⟨gb, off + j * 13 + 4, none⟩ = some (.int .i64 x.r.1) := hce 4 _ rfl
     have e5 : wr.cell? ⟨gb, off + j * 13 + 5, none⟩ = some (.int .i64 x.r.2.1) := hce 5 _ rfl
     have e6 : wr.cell? ⟨gb, off + j * 13 + 6, none⟩ = some (.bool x.r.2.2.1) := hce 6 _ rfl
     have e7 : wr.cell? ⟨gb, off + j * 13 + 7, none⟩ = some (.bool x.r.2.2.2) := hce 7 _ rfl
     have e8 : wr.cell? ⟨gb, off + j * 13 + 8, none⟩ = some (.int .i64 x.q.1) := hce 8 _ rfl
     have e9 : wr.cell? ⟨gb, off + j * 13 + 9, none⟩ = some (.int .i64 x.q.2.1) := hce 9 _ rfl
     have e10 : wr.cell? ⟨gb, off + j * 13 + 10, none⟩ = some (.bool x.q.2.2.1) := hce 10 _ rfl
     have e11 : wr.cell? ⟨gb, off + j * 13 + 11, none⟩ = some (.bool x.q.2.2.2) := hce 11 _ rfl
     have e12 : wr.cell? ⟨gb, off + j * 13 + 12, none⟩ = some (.slice pp ln' cl') := hce 12 _ rfl
     clear hI hx1 hLx' hce hcl hln'
     have HNT : Hid ((wr.alloc (.cells #[.int .i64 x.k, .int .i64 x.n, .string (bs x.s), .int .i64 x.e, .int .i64 x.r.1, .int .i64 x.r.2.1, .bool x.r.2.2.1, .bool x.r.2.2.2, .int .i64 x.q.1, .int .i64 x.q.2.1, .bool x.q.2.2.1, .bool x.q.2.2.2, .slice pp ln' cl'] 29)).heap[wr.heap.size]? = some (.cells #[.int .i64 x.k, .int .i64 x.n, .string (bs x.s), .int .i64 x.e, .int .i64 x.r.1, .int .i64 x.r.2.1, .bool x.r.2.2.1, .bool x.r.2.2.2, .int .i64 x.q.1, .int .i64 x.q.2.1, .bool x.q.2.2.1, .bool x.q.2.2.2, .slice pp ln' cl'] 29 (0, 0))) := new_top wr _
     have HBa : Hid (Bu w0 b (l ++ s ++ [40] ++ joinL ((ls.take j).map (shT n))) (wr.alloc (.cells #[.int .i64 x.k, .int .i64 x.n, .string (bs x.s), .int .i64 x.e, .int .i64 x.r.1, .int .i64 x.r.2.1, .bool x.r.2.2.1, .bool x.r.2.2.2, .int .i64 x.q.1, .int .i64 x.q.2.1, .bool x.q.2.2.1, .bool x.q.2.2.2, .slice pp ln' cl'] 29)) ∧ Ok9 b W (wr.alloc (.cells #[.int .i64 x.k, .int .i64 x.n, .string (bs x.s), .int .i64 x.e, .int .i64 x.r.1, .int .i64 x.r.2.1, .bool x.r.2.2.1, .bool x.r.2.2.2, .int .i64 x.q.1, .int .i64 x.q.2.1, .bool x.q.2.2.1, .bool x.q.2.2.2, .slice pp ln' cl'] 29))) := ⟨HBr.out.1.ext ((Ext.refl _).alloc _), HBr.out.2.trans (((Ext.refl _).alloc _).toK b)⟩
     by_cases h0 : j = 0
     · have i0 : ¬ 0 < (j : Int) := by omega
       have HJ : Hid (joinL ((ls.take j).map (shT n) ++ [shT n x]) = joinL ((ls.take j).map (shT n)) ++ shT n x) := by show _ = _; rw [h0]; simp [joinL]
       clear h0
       go_wp2_with fail
       refine (HT.out x (List.mem_of_getElem? HX1.out) w0 _ b _ pp ln' cl' HTab.out HBa.out.1 HLX.out (by have := HN.out; have := HLN2.out; simp only [List.length_append, List.length_cons, List.length_nil]; omega)).mono ?_
       rintro e w4 ⟨rfl, B4, K4⟩
       have HB4 : Hid (Bu w0 b (l ++ s ++ [40] ++ joinL ((ls.take j).map (shT n)) ++ shT n x) w4 ∧ Ok9 b W w4) := ⟨B4, HBa.out.2.trans K4⟩
       clear B4 K4 e0 e1 e2 e3 e4 e5 e6 e7 e8 e9 e10 e11 e12
       go_wp2_with fail
       go_roundw
       case rel => exact ⟨j + 1, by omega, by go_num, by rw [List.take_add_one, HX1.out, List.map_append]; show Bu w0 b (l ++ s ++ [40] ++ joinL ((ls.take j).map (shT n) ++ [shT n x])) w4; rw [HJ.out]; have := HB4.out.1; simpa using this, HB4.out.2⟩
       case measure => show ln - ((j : Int) + 1).toNat < ln - ((j : Int)).toNat; omega
     · have i0 : 0 < (j : Int) := by omega
       have HJ : Hid (joinL ((ls.take j).map (shT n) ++ [shT n x]) = joinL ((ls.take j).map (shT n)) ++ 44 :: shT n x) := by
         refine joinL_snoc _ _ ?_
         intro h
         have h2 := congrArg List.length h
         rw [List.length_map, List.length_take] at h2
         have := HLN.out
         simp only [List.length_nil] at h2
         omega
       clear h0
       go_wp2_with fail
       refine (pbyte_any w0 b _ 44 _ HBa.out.1 (by have := HN.out; have := HLN2.out; simp only [List.length_append, List.length_cons, List.length_nil]; omega)).mono ?_
       rintro e w3 ⟨rfl, B3, K3⟩
       have hb3 := K3.blk HNT.out (by omega) (by decide)
       have HB3 : Hid (Bu w0 b (l ++ s ++ [40] ++ joinL ((ls.take j).map (shT n)) ++ [44]) w3 ∧ Ok9 b W w3) := ⟨B3, HBa.out.2.trans K3⟩
       obtain ⟨k0, k1, k2, k3, k4, k5, k6, k7, k8, k9, k10, k11, k12⟩ := cells13 hb3
       clear B3 K3 hb3 e0 e1 e2 e3 e4 e5 e6 e7 e8 e9 e10 e11 e12
       go_wp2_with fail
       refine (HT.out x (List.mem_of_getElem? HX1.out) w0 _ b _ pp ln' cl' HTab.out HB3.out.1 HLX.out (by have := HN.out; have := HLN2.out; simp only [List.length_append, List.length_cons, List.length_nil]; omega)).mono ?_
       rintro e w4 ⟨rfl, B4, K4⟩
       have HB4 : Hid (Bu w0 b (l ++ s ++ [40] ++ joinL ((ls.take j).map (shT n)) ++ [44] ++ shT n x) w4 ∧ Ok9 b W w4) := ⟨B4, HB3.out.2.trans K4⟩
       clear B4 K4 k0 k1 k2 k3 k4 k5 k6 k7 k8 k9 k10 k11 k12
       go_wp2_with fail
       go_roundw
       case rel => exact ⟨j + 1, by omega, by go_num, by rw [List.take_add_one, HX1.out, List.map_append]; show Bu w0 b (l ++ s ++ [40] ++ joinL ((ls.take j).map (shT n) ++ [shT n x])) w4; rw [HJ.out]; have := HB4.out.1; simpa using this, HB4.out.2⟩
       case measure => show ln - ((j : Int) + 1).toNat < ln - ((j : Int)).toNat; omega
   · have hltI : ¬ (j : Int) < (ln : Int) := by omega
     have hjl : j = ln := by omega
     have HT2 : Hid (ls.take j = ls) := by show _ = _; rw [hjl, HLN.out]; exact List.take_length
     clear hlt hjl
     go_wp2_with fail
     refine (pbyte_any w0 b _ 41 _ HBr.out.1 (by have h1 := HN.out; have h2 := join_take_len n ls j HN.out.2.1; rw [HT2.out] at h2 ⊢; simp only [List.length_append, List.length_cons, List.length_nil]; omega)).mono ?_
     rintro e w4 ⟨rfl, B4, K4⟩
     rw [HT2.out] at B4
     have HB4 : Hid (Bu w0 b (l ++ s ++ [40] ++ joinL (ls.map (shT n)) ++ [41]) w4 ∧ Ok9 b W w4) := ⟨B4, HBr.out.2.trans K4⟩
     clear B4 K4
     go_wp2_with fail
     go_end0
     refine ⟨rfl, ?_, HB4.out.2⟩
     have := HB4.out.1
     simpa using this

open Go.RowKit

theorem idx_hit (r : List UInt8) : Lib.index (34 :: r) [34] = ((0 : Nat) : Int) := by unfold Lib.index; simp
theorem idx_miss (c : UInt8) (r : List UInt8) (h : c ≠ 34) : Lib.index (c :: r) [34] = if Lib.index r [34] == -1 then -1 else Lib.index r [34] + 1 := by
 conv => lhs; unfold Lib.index
 rw [if_neg]
 simp
 exact fun e => h e.symm
theorem cnt_hit (r : List UInt8) : Lib.count (34 :: r) [34] = Lib.count r [34] + 1 := by
 rw [Lib.count_hit (by simp) (idx_hit r)]; simp; omega
theorem cnt_miss (c : UInt8) (r : List UInt8) (h : c ≠ 34) : Lib.count (c :: r) [34] = Lib.count r [34] := by
 have h1 := idx_miss c r h
 by_cases hm : Lib.index r [34] = -1
 · rw [Lib.count_miss hm]
   exact Lib.count_miss (by rw [h1, hm]; rfl)
 · have hg := Lib.index_ge r [34]
   obtain ⟨i, hi⟩ : ∃ i : Nat, Lib.index r [34] = i := ⟨(Lib.index r [34]).toNat, by omega⟩
   have h2 : Lib.index (c :: r) [34] = ((i + 1 : Nat) : Int) := by
     rw [h1, if_neg (by simpa using hm), hi]; omega
   rw [Lib.count_hit (by simp) h2, Lib.count_hit (by simp) hi]
   have : i + 1 + [(34 : UInt8)].length = (i + [(34 : UInt8)].length) + 1 := by simp
   rw [this, List.drop_succ_cons]
theorem repl_miss (k : Nat) (c : UInt8) (r : List UInt8) (h : c ≠ 34) : Lib.replaceK [34] [34, 34] k (c :: r) = c :: Lib.replaceK [34] [34, 34] k r := by
 cases k with
 | zero => rfl
 | succ k =>
   have h1 := idx_miss c r h
   by_cases hm : Lib.index r [34] = -1
   · rw [hm] at h1
     unfold Lib.replaceK
     rw [h1, hm]; rfl
   · have hg := Lib.index_ge r [34]
     obtain ⟨i, hi⟩ : ∃ i : Nat, Lib.index r [34] = i := ⟨(Lib.index r [34]).toNat, by omega⟩
     have h2 : Lib.index (c :: r) [34] = ((i + 1 : Nat) : Int) := by
       rw [h1, if_neg (by simpa using hm), hi]; omega
     rw [Lib.replaceK_hit _ _ _ _ _ h2, Lib.replaceK_hit _ _ _ _ _ hi]
     have : i + 1 + [(34 : UInt8)].length = (i + [(34 : UInt8)].length) + 1 := by simp
     rw [this, List.drop_succ_cons, List.take_succ_cons]
     rfl
theorem repl_quo (s : List UInt8) : Lib.replaceK [34] [34, 34] (Lib.count s [34]) s = quoB s := by
 induction s with
 | nil => rfl
 | cons c r ih =>
   by_cases h : c = 34
   · subst h
     rw [cnt_hit, Lib.replaceK_hit _ _ _ _ 0 (idx_hit r)]
     show [] ++ [34, 34] ++ Lib.replaceK [34] [34, 34] (Lib.count r [34]) r = quoB (34 :: r)
     rw [ih, quoB, if_pos rfl]; rfl
   · rw [cnt_miss c r h, repl_miss _ c r h, ih, quoB, if_neg h]
theorem all_quo (s : List UInt8) : Lib.replaceAll s [34] [34, 34] = quoB s := by
 unfold Lib.replaceAll Lib.replace Lib.replaceNum
 rw [if_neg (by decide), if_pos (.inl (by decide))]
 exact repl_quo s
theorem repl_any (s : ByteArray) (w : World) (hs : s.size ≤ 300) (hm : ∃ m, w.cell? ⟨3, 0, none⟩ = some (.int .i64 m)) :
   Calls Tryz.prog 36 #[.string s, .string ⟨#[34]⟩, .string ⟨#[34, 34]⟩] w fun e w' => e = .returned (.string (bs (quoB s.data.toList))) ∧ Ext w w' := by
 obtain ⟨m, hm⟩ := hm
 have hc := Lib.countB_mul_le ⟨#[34]⟩ (by decide) s.size s (Nat.le_refl _)
 have e1 : (⟨#[34]⟩ : ByteArray).size = 1 := rfl
 have e2 : (⟨#[34, 34]⟩ : ByteArray).size = 2 := rfl
 rw [e1] at hc
 refine (Tryz.strings_ReplaceAll s ⟨#[34]⟩ ⟨#[34, 34]⟩ m w (by omega) hm (by decide) (by rw [e2]; omega)).mono ?_
 rintro e w' ⟨rfl, h⟩
 refine ⟨?_, h⟩
 have : Lib.replaceAll s.data.toList (⟨#[34]⟩ : ByteArray).data.toList (⟨#[34, 34]⟩ : ByteArray).data.toList = quoB s.data.toList := all_quo _
 rw [this]; rfl
end Go.Proofs.YtcggiljlilbdfaaGreatDoor
