/-
 How tightly a tree holds together: package print's binds and holds.
 What TRUE and FALSE, and errors, are written as: package value's Show and ErrName, and the document's.
 strings.Builder: copyCheck and WriteByte, at a builder of the call's own. (The shelf's contracts do not lie at this dump: here a builder's text that was written in another place is refused.)
 The printer: a strings.Builder within a struct of its own (package print's printer): WriteByte, WriteString, String.
-/
import Derived.Test.YtcggiljlilbdfaaGreatDoorQ12
import Derived.Test.YtcggiljlilbdfaaGreatDoorQ10
import Derived.Test.YtcggiljlilbdfaaGreatDoorQ9
import Derived.Shelf.Strings.BuilderX
import Derived.Lib.Builder
import Derived.Laws.Externs
import Derived.Laws.AppendOwn
import Derived.Lib.OthersKept
import Derived.Lib.OwnKind
import Derived.Lib.AppendStr
import Derived.Lib.AppendIntMem
import Derived.Lib.UnsafeStr
namespace Go.Proofs.YtcggiljlilbdfaaGreatDoor
open Go.RowKit
set_option maxHeartbeats 1000000

theorem pbinds_any (s : ByteArray) (w : World) :
   Calls Tryz.prog 70 #[.string s] w fun e w' => e = .returned (.int .i64 ((bnd s.data.toList - 1 : Nat) : Int)) ∧ w' = w := by
 have hs := ByteArray.toList_eq s
 obtain ⟨l, hl⟩ : ∃ l, s.data.toList = l := ⟨_, rfl⟩
 rw [hl] at hs ⊢
 clear hl
 by_cases h0 : l = [38]
 · subst h0
   have e0 : (s.toList == [38]) = true := by rw [hs]; decide
   clear hs 
   go_enter Tryz.func70, Tryz.ntmps70
   go_wp2_with fail
   go_ret
   exact ⟨rfl, rfl⟩
 by_cases h1 : l = [43]
 · subst h1
   have e0 : (s.toList == [38]) = false := by rw [hs]; decide
   have e1 : (s.toList == [43]) = true := by rw [hs]; decide
   clear hs h0
   go_enter Tryz.func70, Tryz.ntmps70
   go_wp2_with fail
   go_ret
   exact ⟨rfl, rfl⟩
 by_cases h2 : l = [45]
 · subst h2
   have e0 : (s.toList == [38]) = false := by rw [hs]; decide
   have e1 : (s.toList == [43]) = false := by rw [hs]; decide
   have e2 : (s.toList == [45]) = true := by rw [hs]; decide
   clear hs h0 h1
   go_enter Tryz.func70, Tryz.ntmps70
   go_wp2_with fail
   go_ret
   exact ⟨rfl, rfl⟩
 by_cases h3 : l = [42]
 · subst h3
   have e0 : (s.toList == [38]) = false := by rw [hs]; decide
   have e1 : (s.toList == [43]) = false := by rw [hs]; decide
   have e2 : (s.toList == [45]) = false := by rw [hs]; decide
   have e3 : (s.toList == [42]) = true := by rw [hs]; decide
   clear hs h0 h1 h2
   go_enter Tryz.func70, Tryz.ntmps70
   go_wp2_with fail
   go_ret
   exact ⟨rfl, rfl⟩
 by_cases h4 : l = [47]
 · subst h4
   have e0 : (s.toList == [38]) = false := by rw [hs]; decide
   have e1 : (s.toList == [43]) = false := by rw [hs]; decide
   have e2 : (s.toList == [45]) = false := by rw [hs]; decide
   have e3 : (s.toList == [42]) = false := by rw [hs]; decide
   have e4 : (s.toList == [47]) = true := by rw [hs]; decide
   clear hs h0 h1 h2 h3
   go_enter Tryz.func70, Tryz.ntmps70
   go_wp2_with fail
   go_ret
   exact ⟨rfl, rfl⟩
 have e0 : (s.toList == [38]) = false := by rw [hs]; simpa using h0
 have e1 : (s.toList == [43]) = false := by rw [hs]; simpa using h1
 have e2 : (s.toList == [45]) = false := by rw [hs]; simpa using h2
 have e3 : (s.toList == [42]) = false := by rw [hs]; simpa using h3
 have e4 : (s.toList == [47]) = false := by rw [hs]; simpa using h4
 have HK : Hid (bnd l - 1 = 0) := by show _ = _; unfold bnd; simp only [h0, h1, h2, h3, h4, if_false, or_self]; split <;> rfl
 clear hs h0 h1 h2 h3 h4
 go_enter Tryz.func70, Tryz.ntmps70
 go_wp2_with fail
 go_ret
 exact ⟨ret_int (by rw [HK.out]; rfl), rfl⟩
/-- How tightly a tree holds together. -/
def hldT (t : T) : Nat := if t.k = 7 then bnd t.s - 1 else 4
theorem hld_loose {t : T} {k : Nat} (hk : k ≤ 4) (h : t.k = 7 → bnd t.s ≠ 0) : loose (k + 1) t = decide (hldT t < k) := by
 unfold loose hldT
 by_cases h7 : t.k = 7
 · have := h h7
   rw [if_pos h7]
   simp [h7]
   omega
 · have e7 : (t.k == 7) = false := by simpa using h7
   rw [if_neg h7, e7, Bool.false_and]
   exact (decide_eq_false (by omega)).symm
theorem holds_any (t : T) (lv : Value) (w : World) : Calls Tryz.prog 69 #[.agg #[.int .i64 t.k, .int .i64 t.n, .string (bs t.s), .int .i64 t.e, .int .i64 t.r.1, .int .i64 t.r.2.1, .bool t.r.2.2.1, .bool t.r.2.2.2, .int .i64 t.q.1, .int .i64 t.q.2.1, .bool t.q.2.2.1, .bool t.q.2.2.2, lv]] w fun e w' => e = .returned (.int .i64 ((hldT t : Nat) : Int)) ∧ Ext w w' := by
 have c1 := fun W => pbinds_any (bs t.s) W
 have es : (bs t.s).data.toList = t.s := rfl
 rw [es] at c1
 clear es
 by_cases hk : t.k = 7
 · have e7 : (t.k == 7) = true := by rw [hk]; rfl
   have HX : Hid (hldT t = bnd t.s - 1) := if_pos hk
   generalize bs t.s = q at *
   clear hk
   go_enter Tryz.func69, Tryz.ntmps69
   go_wp2_with fail
   refine (c1 _).mono ?_
   rintro e w1 ⟨rfl, rfl⟩
   go_wp2_with fail
   go_ret
   exact ⟨ret_int (by rw [HX.out]), (Ext.refl _).alloc _⟩
 · have e7 : (t.k == 7) = false := by simpa using hk
   have HX : Hid (hldT t = 4) := if_neg hk
   clear hk c1
   go_enter Tryz.func69, Tryz.ntmps69
   go_wp2_with fail
   go_ret
   exact ⟨ret_int (by rw [HX.out]; rfl), (Ext.refl _).alloc _⟩

open Go.RowKit
set_option maxHeartbeats 1000000

def nB (b : Bool) : Int := if b then 1 else 0
def tfL (b : Bool) : List UInt8 := if b then wTrue else wFalse
theorem vb9_any (b : Bool) (w : World) : Calls Tryz.prog 38 #[.bool b] w fun r w' => r = .returned (.agg #[.int .i64 1, .int .i64 (nB b), .string ⟨#[]⟩, .int .i64 0]) ∧ Ext w w' := by
 cases b
 all_goals
   go_enter Tryz.func38, Tryz.ntmps38
   go_wp2_with fail
   simp [bodyPost, results, Tryz.results38, go_sem, nB]
   exact (Ext.refl _).alloc _
theorem vn9_any (b : Bool) (w : World) : Calls Tryz.prog 64 #[.agg #[.int .i64 1, .int .i64 (nB b), .string ⟨#[]⟩, .int .i64 0]] w fun r w' => r = .returned (.agg #[.int .i64 1, .int .i64 (nB b), .string ⟨#[]⟩, .int .i64 0]) ∧ Ext w w' := by
 have c1 := fun W => vb9_any b W
 have hb : (nB b != 0) = b := by cases b <;> rfl
 generalize nB b = q1 at *
 go_enter Tryz.func64, Tryz.ntmps64
 go_wp2_with fail
 refine (c1 _).mono ?_
 rintro r w1 ⟨rfl, E1⟩
 obtain ⟨z, ⟨k0, k1, k2, k3⟩, f0, f1, f2, f3⟩ := blk_top (b := w.heap.size + 1) (by simp) E1
 have HE : Hid (Ext w w1) := (((Ext.refl _).alloc _).alloc _).trans E1
 clear E1
 go_wp2_with fail
 exact fin4 k0 k1 k2 k3 rfl (by simp) HE.out (fun W g0 g1 g2 g3 => by simp [results, Tryz.results64, go_sem, g0, g1, g2, g3]) (fun W h => ⟨rfl, h⟩)
theorem tn9_any (b : Bool) (w : World) : Calls Tryz.prog 65 #[.agg #[.int .i64 1, .int .i64 (nB b), .string ⟨#[]⟩, .int .i64 0]] w fun r w' => r = .returned (.string (bs (tfL b))) ∧ Ext w w' := by
 cases b
 all_goals
   simp only [nB, Bool.false_eq_true, if_false, if_true]
   go_enter Tryz.func65, Tryz.ntmps65
   go_wp2_with fail
   go_ret
   exact ⟨rfl, (Ext.refl _).alloc _⟩
theorem vs9_any (b : Bool) (w : World) : Calls Tryz.prog 37 #[.agg #[.int .i64 1, .int .i64 (nB b), .string ⟨#[]⟩, .int .i64 0]] w fun r w' => r = .returned (.string (bs (tfL b))) ∧ Ext w w' := by
 have c0 := fun W => vn9_any b W
 have c1 := fun W => tn9_any b W
 generalize nB b = q1 at *
 go_enter Tryz.func37, Tryz.ntmps37
 go_wp2_with fail
 refine (c0 _).mono ?_
 rintro r w1 ⟨rfl, E1⟩
 have X1 : Hid (Ext w w1) := ((Ext.refl _).alloc _).trans E1
 obtain ⟨z, ⟨k0, k1, k2, k3⟩, f0, f1, f2, f3⟩ := blk_top (b := w.heap.size) (by simp) E1
 clear E1
 go_wp2_with fail
 refine (c1 _).mono ?_
 rintro r w2 ⟨rfl, E2⟩
 have X2 : Hid (Ext w w2) := ((((X1.out.setCell (by simp) _).setCell (by simp) _).setCell (by simp) _).setCell (by simp) _).trans E2
 clear E2
 go_wp2_with fail
 go_ret
 exact ⟨rfl, X2.out⟩
theorem verr9_any (e : Int) (h : 1 ≤ e ∧ e ≤ 5) (w : World) (hN : Nm w) : Calls Tryz.prog 39 #[.int .i64 e] w fun r w' => r = .returned (.string (bs (errL e))) ∧ w' = w := by
 have hh : e = 1 ∨ e = 2 ∨ e = 3 ∨ e = 4 ∨ e = 5 := by omega
 rcases hh with rfl | rfl | rfl | rfl | rfl
 · exact (errname_at 0 _ rfl w hN).2
 · exact (errname_at 1 _ rfl w hN).2
 · exact (errname_at 2 _ rfl w hN).2
 · exact (errname_at 3 _ rfl w hN).2
 · exact (errname_at 4 _ rfl w hN).2

open Go.RowKit
set_option maxHeartbeats 1000000

theorem bld_info : ∃ j, Tryz.prog.info? 57 = some j ∧ j.size = 2 := by
 have h : (Tryz.prog.info? 57).map (fun i => i.size) = some 2 := by kernel_rfl
 obtain ⟨j, h1, h2⟩ := Option.map_eq_some_iff.1 h
 exact ⟨j, h1, h2⟩
theorem bld_lies : liesAt Tryz.prog Tryz.prog.depth 57 (2 / Tryz.prog.cellsOf 57) 0 57 1 = true := by kernel_rfl
theorem byte_info : ∃ i, Tryz.prog.info? 5 = some i ∧ i.zero = some (.int .u8 0) ∧ i.size = 1 ∧ i.bytes = 1 := by
 have h : (Tryz.prog.info? 5).map (fun i => (i.zero, i.size, i.bytes)) = some (some (.int .u8 0), 1, 1) := by kernel_rfl
 obtain ⟨j, h1, h2⟩ := Option.map_eq_some_iff.1 h
 simp at h2
 exact ⟨j, h1, h2⟩

set_option maxRecDepth 100000 in
/-- A builder that was used is let by. -/
theorem check_used (b : Nat) (w : World) (h0 : w.cell? ⟨b, 0, none⟩ = some (.pointer (some ⟨b, 0, none⟩))) :
   Calls Tryz.prog 59 #[.pointer (some ⟨b, 0, none⟩)] w fun e w' => e = .returned (.tuple #[]) ∧ w' = w := by
 obtain ⟨j, hj, _⟩ := bld_info
 go_enter Tryz.func59, Tryz.ntmps59
 go_wp2
 rw [Lib.run_neq_ptr_same w _ Tryz.underlying54 hj]
 go_wp2
 go_end0
 exact ⟨rfl, rfl⟩
set_option maxRecDepth 100000 in
/-- A new one lays its own address. -/
theorem check_new (b : Nat) (w : World) (h0 : w.cell? ⟨b, 0, none⟩ = some (.pointer none)) (hsh : w.shape? b = some (57, 2)) (hfz : w.frozen? ⟨b, 0, none⟩ = false) :
   Calls Tryz.prog 59 #[.pointer (some ⟨b, 0, none⟩)] w fun e w' => e = .returned (.tuple #[]) ∧ w' = w.setCell ⟨b, 0, none⟩ (.pointer (some ⟨b, 0, none⟩)) := by
 obtain ⟨j, hj, hjs⟩ := bld_info
 have q1 := Lib.run_to_unsafe (P := Tryz.prog) w ⟨b, 0, none⟩ Tryz.underlying54 Tryz.underlying119 hj (by omega) hsh (Nat.zero_lt_succ 1)
 have q3 := Lib.run_from_unsafe (P := Tryz.prog) w ⟨b, 0, none⟩ Tryz.underlying119 Tryz.underlying54 hj hsh bld_lies
 have q2 := run_callFunc_extern (P := Tryz.prog) Tryz.func88 (by kernel_rfl) (by kernel_rfl) (by kernel_rfl) (e := Extern.AbiNoEscape.same) (by kernel_rfl) #[.pointer (some ⟨b, 0, none⟩)] w
 rw [Lib.run_noEscape] at q2
 go_enter Tryz.func59, Tryz.ntmps59
 go_wp2
 go_end0
 exact ⟨rfl, rfl⟩
theorem check_any (B b : Nat) (l : List Value) (w : World) (h : Lib.IsBuilder 57 5 B b l w) :
   Calls Tryz.prog 59 #[.pointer (some ⟨b, 0, none⟩)] w fun e w' => e = .returned (.tuple #[]) ∧ Lib.BuilderAt 57 5 B b (.pointer (some ⟨b, 0, none⟩)) l w' ∧ Below B w w' := by
 rcases h with h | h
 · refine (check_new b w h.cell0 h.shape h.frozen0).mono ?_
   rintro e w' ⟨rfl, rfl⟩
   exact ⟨rfl, h.used _, (Below.refl B w).setCell (p := ⟨b, 0, none⟩) h.1 _⟩
 · refine (check_used b w h.cell0).mono ?_
   rintro e w' ⟨rfl, rfl⟩
   exact ⟨rfl, h, Below.refl B _⟩

set_option maxRecDepth 100000 in
set_option maxHeartbeats 2000000 in
/-- A byte more. -/
theorem wbyte_any (B b : Nat) (l : List UInt8) (c : UInt8) (w : World) (h : Lib.IsBuilder 57 5 B b (Lib.byteCells l) w) (hlen : l.length ≤ 1000) (hBw : B ≤ w.heap.size) :
   Calls Tryz.prog 41 #[.pointer (some ⟨b, 0, none⟩), .int .u8 (c.toNat : Int)] w fun e w' => e = .returned .nilIface ∧ Lib.IsBuilder 57 5 B b (Lib.byteCells (l ++ [c])) w' ∧ Below B w w' := by
 obtain ⟨i, hi, hz, h1, h2⟩ := byte_info
 have c0 := fun W h => check_any B b (Lib.byteCells l) W h
 have hbl : (Lib.byteCells l).length = l.length := by simp [Lib.byteCells]
 have hbs : Lib.byteCells (l ++ [c]) = Lib.byteCells l ++ [.int .u8 (c.toNat : Int)] := by simp [Lib.byteCells]
 rw [hbs]
 rw [← hbl] at hlen
 clear hbs hbl
 generalize Lib.byteCells l = bl at *
 go_enter Tryz.func41, Tryz.ntmps41
 go_wp2_with fail
 refine (c0 _ h).mono ?_
 rintro e w1 ⟨rfl, ⟨hB, v, hb, hown, hne⟩, hw1⟩
 have d0 : w1.cell? ⟨b, 0, none⟩ = some (.pointer (some ⟨b, 0, none⟩)) := by rw [Lib.cell_of_heap hb]; rfl
 have d1 : w1.cell? ⟨b, 1, none⟩ = some v := by rw [Lib.cell_of_heap hb]; rfl
 have hlt : b < w1.heap.size := Lib.BuilderAt.lt ⟨hB, v, hb, hown, hne⟩
 have HO : Hid (w1.ownsRow B 5 1 v bl.length bl) := hown
 have HS := hw1.size
 go_wp2_with (at_builtin; refine wpList_append_own _ rfl _ _ 55 rfl B 5 i (.int .u8 0) 1 1 Tryz.underlying55 hi hz h1 h2 rfl (by decide) _ _ _ rfl (HO.out.alloc _) ⟨w1.heap.size, 0, none⟩ 1 1 [.int .u8 (c.toNat : Int)] rfl rfl ?c1 ?c2 ?c3 ?c4 ?c5 ?_)
 case c1 =>
   intro j u hj
   match j, hj with
   | 0, hj => simp at hj; subst hj; simp [Addr.add]
 case c2 => intro u hu; simp at hu; subst hu; rfl
 case c3 => unfold maxLen; omega
 case c4 => omega
 case c5 => simp; omega
 intro v' w2 hown' hg _
 have hb2 : w2.heap[b]? = some (.cells #[.pointer (some ⟨b, 0, none⟩), v] 57 (0, 0)) := by
   rw [hg.block b (by simp; omega) (fun e => hne e.symm), Lib.alloc_old w1 _ b hlt]
   exact hb
 have d2 : w2.cell? ⟨b, 0, none⟩ = some (.pointer (some ⟨b, 0, none⟩)) := by rw [Lib.cell_of_heap hb2]; rfl
 have d3 : w2.cell? ⟨b, 1, none⟩ = some v := by rw [Lib.cell_of_heap hb2]; rfl
 have f3 : w2.frozen? ⟨b, 1, none⟩ = false := Lib.frozen_of_heap hb2 1
 obtain ⟨g, cap, rfl⟩ : ∃ g cap, v' = .slice (some ⟨g, 0, none⟩) (bl.length + 1) cap := by
   rcases hown'.2 with ⟨_, h0⟩ | ⟨g, cap, cur, hv, _⟩
   · omega
   · exact ⟨g, cap, hv⟩
 go_wp2
 go_ret
 refine ⟨rfl, .inr ?_, ?_⟩
 · exact Lib.BuilderAt.put hB hb2 (by simpa using hown') (by decide)
 · exact ((hw1.alloc (by omega) _).grown hg (by simp; omega) (fun k hk => (hown.lt k hk).1)).setCell (p := ⟨b, 1, none⟩) hB _

open Go.RowKit
set_option maxHeartbeats 2000000

/-- The printer in block b has written l; of w0 nothing has turned. -/
def Bu (w0 : World) (b : Nat) (l : List UInt8) (W : World) : Prop := Ext w0 W ∧ Lib.IsBuilder 59 5 w0.heap.size b (Lib.byteCells l) W
/-- Nothing else has turned. -/
def Ok9 (b : Nat) (w w' : World) : Prop := Lib.OthersKept 5 (some b) w w' ∧ w.heap.size ≤ w'.heap.size
theorem Ok9.trans {b : Nat} {x y z : World} (h : Ok9 b x y) (k : Ok9 b y z) : Ok9 b x z := ⟨h.1.trans k.1, Nat.le_trans h.2 k.2⟩
theorem Ok9.refl (b : Nat) (w : World) : Ok9 b w w := ⟨Lib.OthersKept.refl _ _ _, Nat.le_refl _⟩
theorem Ext.toK {w w' : World} (h : Ext w w') (b : Nat) : Ok9 b w w' :=
 ⟨fun k _ hk _ _ => (h.block k (Array.getElem?_eq_some_iff.1 hk).1).trans hk, h.size⟩
theorem Bu.ext {w0 W W' : World} {b : Nat} {l : List UInt8} (h : Bu w0 b l W) (e : Ext W W') : Bu w0 b l W' := by
 refine ⟨h.1.trans e, ?_⟩
 have one : ∀ p, Lib.BuilderAt 59 5 w0.heap.size b p (Lib.byteCells l) W → Lib.BuilderAt 59 5 w0.heap.size b p (Lib.byteCells l) W' := by
   rintro p ⟨hB, v, hb, hown, hne⟩
   refine ⟨hB, v, (e.block b (Array.getElem?_eq_some_iff.1 hb).1).trans hb, ⟨hown.1, ?_⟩, hne⟩
   rcases hown.2 with h | ⟨g, cap, cur, hv, hbg, hg, rest⟩
   · exact .inl h
   · exact .inr ⟨g, cap, cur, hv, hbg, (e.block g (Array.getElem?_eq_some_iff.1 hg).1).trans hg, rest⟩
 exact h.2.imp (one _) (one _)
theorem pr_lies : liesAt Tryz.prog Tryz.prog.depth 59 (2 / Tryz.prog.cellsOf 59) 0 57 1 = true := by kernel_rfl
set_option maxRecDepth 100000 in
theorem pcheck_new (b : Nat) (w : World) (h0 : w.cell? ⟨b, 0, none⟩ = some (.pointer none)) (hsh : w.shape? b = some (59, 2)) (hfz : w.frozen? ⟨b, 0, none⟩ = false) :
   Calls Tryz.prog 59 #[.pointer (some ⟨b, 0, none⟩)] w fun e w' => e = .returned (.tuple #[]) ∧ w' = w.setCell ⟨b, 0, none⟩ (.pointer (some ⟨b, 0, none⟩)) := by
 obtain ⟨j, hj, hjs⟩ := bld_info
 have q1 := Lib.run_to_unsafe (P := Tryz.prog) w ⟨b, 0, none⟩ Tryz.underlying54 Tryz.underlying119 hj (by omega) hsh (Nat.zero_lt_succ 1)
 have q3 := Lib.run_from_unsafe (P := Tryz.prog) w ⟨b, 0, none⟩ Tryz.underlying119 Tryz.underlying54 hj hsh pr_lies
 have q2 := run_callFunc_extern (P := Tryz.prog) Tryz.func88 (by kernel_rfl) (by kernel_rfl) (by kernel_rfl) (e := Extern.AbiNoEscape.same) (by kernel_rfl) #[.pointer (some ⟨b, 0, none⟩)] w
 rw [Lib.run_noEscape] at q2
 go_enter Tryz.func59, Tryz.ntmps59
 go_wp2
 go_end0
 exact ⟨rfl, rfl⟩
theorem pcheck_any (B b : Nat) (l : List Value) (w : World) (h : Lib.IsBuilder 59 5 B b l w) :
   Calls Tryz.prog 59 #[.pointer (some ⟨b, 0, none⟩)] w fun e w' => e = .returned (.tuple #[]) ∧ Lib.BuilderAt 59 5 B b (.pointer (some ⟨b, 0, none⟩)) l w' ∧ Below B w w' ∧ Lib.OthersKept 5 (some b) w w' := by
 rcases h with h | h
 · refine (pcheck_new b w h.cell0 h.shape h.frozen0).mono ?_
   rintro e w' ⟨rfl, rfl⟩
   exact ⟨rfl, h.used _, (Below.refl B w).setCell (p := ⟨b, 0, none⟩) h.1 _, (Lib.OthersKept.refl _ _ w).setCell ⟨b, 0, none⟩ rfl _⟩
 · refine (check_used b w h.cell0).mono ?_
   rintro e w' ⟨rfl, rfl⟩
   exact ⟨rfl, h, Below.refl B _, Lib.OthersKept.refl _ _ _⟩
set_option maxRecDepth 100000 in
/-- A byte more. -/
theorem pbyte_any (w0 : World) (b : Nat) (l : List UInt8) (c : UInt8) (w : World) (hBu : Bu w0 b l w) (hlen : l.length ≤ 100000000) :
   Calls Tryz.prog 41 #[.pointer (some ⟨b, 0, none⟩), .int .u8 (c.toNat : Int)] w fun e w' => e = .returned .nilIface ∧ Bu w0 b (l ++ [c]) w' ∧ Ok9 b w w' := by
 obtain ⟨i, hi, hz, h1, h2⟩ := byte_info
 obtain ⟨hE0, h⟩ := hBu
 have HE0 : Hid (Ext w0 w) := hE0
 have hBw : w0.heap.size ≤ w.heap.size := hE0.size
 obtain ⟨B, hBdef⟩ : ∃ B, w0.heap.size = B := ⟨_, rfl⟩
 rw [hBdef] at h hBw
 have HB0 : Hid (w0.heap.size = B) := hBdef
 clear hBdef hE0
 have c0 := fun W h => pcheck_any B b (Lib.byteCells l) W h
 have hbl : (Lib.byteCells l).length = l.length := by simp [Lib.byteCells]
 have hbs : Hid (Lib.byteCells (l ++ [c]) = Lib.byteCells l ++ [.int .u8 (c.toNat : Int)]) := by show _ = _; simp [Lib.byteCells]
 rw [← hbl] at hlen
 clear hbl
 obtain ⟨bl, hbl⟩ : ∃ bl, Lib.byteCells l = bl := ⟨_, rfl⟩
 rw [hbl] at h c0 hbs hlen
 clear hbl
 go_enter Tryz.func41, Tryz.ntmps41
 go_wp2_with fail
 refine (c0 _ h).mono ?_
 rintro e w1 ⟨rfl, ⟨hB, v, hb, hown, hne⟩, hw1, hk1⟩
 have d0 : w1.cell? ⟨b, 0, none⟩ = some (.pointer (some ⟨b, 0, none⟩)) := by rw [Lib.cell_of_heap hb]; rfl
 have d1 : w1.cell? ⟨b, 1, none⟩ = some v := by rw [Lib.cell_of_heap hb]; rfl
 have hlt : b < w1.heap.size := Lib.BuilderAt.lt ⟨hB, v, hb, hown, hne⟩
 have HO : Hid (w1.ownsRow B 5 1 v bl.length bl) := hown
 have HS := hw1.size
 go_wp2_with (at_builtin; refine wpList_append_own _ rfl _ _ 55 rfl B 5 i (.int .u8 0) 1 1 Tryz.underlying55 hi hz h1 h2 rfl (by decide) _ _ _ rfl (HO.out.alloc _) ⟨w1.heap.size, 0, none⟩ 1 1 [.int .u8 (c.toNat : Int)] rfl rfl ?c1 ?c2 ?c3 ?c4 ?c5 ?_)
 case c1 =>
   intro j u hj
   match j, hj with
   | 0, hj => simp at hj; subst hj; simp [Addr.add]
 case c2 => intro u hu; simp at hu; subst hu; rfl
 case c3 => unfold maxLen; omega
 case c4 => omega
 case c5 => simp; omega
 intro v' w2 hown' hg _
 have hb2 : w2.heap[b]? = some (.cells #[.pointer (some ⟨b, 0, none⟩), v] 59 (0, 0)) := by
   rw [hg.block b (by simp; omega) (fun e => hne e.symm), Lib.alloc_old w1 _ b hlt]
   exact hb
 have d2 : w2.cell? ⟨b, 0, none⟩ = some (.pointer (some ⟨b, 0, none⟩)) := by rw [Lib.cell_of_heap hb2]; rfl
 have d3 : w2.cell? ⟨b, 1, none⟩ = some v := by rw [Lib.cell_of_heap hb2]; rfl
 have f3 : w2.frozen? ⟨b, 1, none⟩ = false := Lib.frozen_of_heap hb2 1
 obtain ⟨g, cap, rfl⟩ : ∃ g cap, v' = .slice (some ⟨g, 0, none⟩) (bl.length + 1) cap := by
   rcases hown'.2 with ⟨_, h0⟩ | ⟨g, cap, cur, hv, _⟩
   · omega
   · exact ⟨g, cap, hv⟩
 go_wp2
 go_ret
 have hbel : Below B w (w2.setCell ⟨b, 1, none⟩ (.slice (some ⟨g, 0, none⟩) (bl.length + 1) cap)) := ((hw1.alloc (by omega) _).grown hg (by simp; omega) (fun k hk => (hown.lt k hk).1)).setCell (p := ⟨b, 1, none⟩) hB _
 refine ⟨rfl, ⟨?_, ?_⟩, ?_, hbel.size⟩
 · show Below w0.heap.size w0 _
   rw [HB0.out]
   have := HE0.out
   unfold Ext at this
   rw [HB0.out] at this
   exact Below.trans this hbel
 · rw [HB0.out, hbs.out]
   exact .inr (Lib.BuilderAt.put hB hb2 (by simpa using hown') (by decide))
 · exact ((hk1.alloc _).grown hg (Lib.ownsRow_kind (hown.alloc _))).setCell ⟨b, 1, none⟩ rfl _
set_option maxRecDepth 100000 in
/-- A text more. -/
theorem pstr_any (w0 : World) (b : Nat) (l : List UInt8) (s : ByteArray) (w : World) (hBu : Bu w0 b l w) (hlen : l.length ≤ 100000000) (hs : s.size ≤ 100000000) :
   Calls Tryz.prog 34 #[.pointer (some ⟨b, 0, none⟩), .string s] w fun e w' => e = .returned (.tuple #[.int .i64 s.size, .nilIface]) ∧ Bu w0 b (l ++ s.data.toList) w' ∧ Ok9 b w w' := by
 obtain ⟨i, hi, hz, h1, h2⟩ := byte_info
 obtain ⟨hE0, h⟩ := hBu
 have HE0 : Hid (Ext w0 w) := hE0
 have hBw : w0.heap.size ≤ w.heap.size := hE0.size
 obtain ⟨B, hBdef⟩ : ∃ B, w0.heap.size = B := ⟨_, rfl⟩
 rw [hBdef] at h hBw
 have HB0 : Hid (w0.heap.size = B) := hBdef
 clear hBdef hE0
 have c0 := fun W h => pcheck_any B b (Lib.byteCells l) W h
 have hbl : (Lib.byteCells l).length = l.length := by simp [Lib.byteCells]
 have hbs : Hid (Lib.byteCells (l ++ s.data.toList) = Lib.byteCells l ++ Lib.strCells s) := by show _ = _; simp [Lib.byteCells, Lib.strCells]
 rw [← hbl] at hlen
 clear hbl
 obtain ⟨bl, hbl⟩ : ∃ bl, Lib.byteCells l = bl := ⟨_, rfl⟩
 rw [hbl] at h c0 hbs hlen
 clear hbl
 go_enter Tryz.func34, Tryz.ntmps34
 go_wp2_with fail
 refine (c0 _ h).mono ?_
 rintro e w1 ⟨rfl, ⟨hB, v, hb, hown, hne⟩, hw1, hk1⟩
 have d0 : w1.cell? ⟨b, 0, none⟩ = some (.pointer (some ⟨b, 0, none⟩)) := by rw [Lib.cell_of_heap hb]; rfl
 have d1 : w1.cell? ⟨b, 1, none⟩ = some v := by rw [Lib.cell_of_heap hb]; rfl
 have hlt : b < w1.heap.size := Lib.BuilderAt.lt ⟨hB, v, hb, hown, hne⟩
 have HO : Hid (w1.ownsRow B 5 1 v bl.length bl) := hown
 have HS := hw1.size
 go_wp2_with (at_builtin; refine Lib.wpList_append_own_string _ rfl _ _ 55 9 rfl B 5 i Tryz.underlying55 Tryz.underlying9 hi hz h1 h2 _ _ _ rfl HO.out s rfl ?c3 ?c4 ?c5 ?_)
 case c3 => unfold maxLen; omega
 case c4 => omega
 case c5 => omega
 intro v' w2 hown' hg _
 have hb2 : w2.heap[b]? = some (.cells #[.pointer (some ⟨b, 0, none⟩), v] 59 (0, 0)) := by
   rw [hg.block b hlt (fun e => hne e.symm)]
   exact hb
 have d2 : w2.cell? ⟨b, 0, none⟩ = some (.pointer (some ⟨b, 0, none⟩)) := by rw [Lib.cell_of_heap hb2]; rfl
 have d3 : w2.cell? ⟨b, 1, none⟩ = some v := by rw [Lib.cell_of_heap hb2]; rfl
 have f3 : w2.frozen? ⟨b, 1, none⟩ = false := Lib.frozen_of_heap hb2 1
 obtain ⟨ao, n', cap, rfl⟩ : ∃ ao n' cap, v' = .slice ao n' cap := by
   rcases hown'.2 with ⟨hv, _⟩ | ⟨g, cap, cur, hv, _⟩
   · exact ⟨_, _, _, hv⟩
   · exact ⟨_, _, _, hv⟩
 go_wp2
 go_ret2
 have hbel : Below B w (w2.setCell ⟨b, 1, none⟩ (.slice ao n' cap)) := (hw1.grown hg (by omega) (fun k hk => (hown.lt k hk).1)).setCell (p := ⟨b, 1, none⟩) hB _
 refine ⟨rfl, ⟨?_, ?_⟩, ?_, hbel.size⟩
 · show Below w0.heap.size w0 _
   rw [HB0.out]
   have := HE0.out
   unfold Ext at this
   rw [HB0.out] at this
   exact Below.trans this hbel
 · rw [HB0.out, hbs.out]
   exact .inr (Lib.BuilderAt.put hB hb2 (by simpa [Lib.strCells_length] using hown') (by decide))
 · exact (hk1.grown hg (Lib.ownsRow_kind hown)).setCell ⟨b, 1, none⟩ rfl _
set_option maxRecDepth 100000 in
/-- What is written. -/
theorem pstring_any (w0 : World) (b : Nat) (l : List UInt8) (w : World) (hBu : Bu w0 b l w) (h0 : l ≠ []) :
   Calls Tryz.prog 19 #[.pointer (some ⟨b, 0, none⟩)] w fun e w' => e = .returned (.string ⟨l.toArray⟩) ∧ Ext w0 w' := by
 obtain ⟨hE0, h⟩ := hBu
 obtain ⟨p, hB, v, hbk, hown, hne⟩ : ∃ p, Lib.BuilderAt 59 5 w0.heap.size b p (Lib.byteCells l) w := by
   rcases h with h | h
   · exact ⟨_, h⟩
   · exact ⟨_, h⟩
 have hl0 : l.length ≠ 0 := by simpa using h0
 rw [Lib.byteCells_length] at hown
 obtain ⟨g, cap, cur, rfl, hbg, hg, hnc, hcm, hcs, htake⟩ : ∃ g cap cur, v = .slice (some ⟨g, 0, none⟩) l.length cap ∧ w0.heap.size ≤ g ∧ w.heap[g]? = some (.cells cur 5 (0, 0)) ∧ l.length ≤ cap ∧ cap ≤ maxLen ∧ cur.size = cap * 1 ∧ cur.toList.take (l.length * 1) = Lib.byteCells l := by
   rcases hown.2 with ⟨_, hz⟩ | ⟨g, cap, cur, hv, r⟩
   · exact absurd hz hl0
   · exact ⟨g, cap, cur, hv, r⟩
 have c1 : w.drew.cell? ⟨b, 1, none⟩ = some (.slice (some ⟨g, 0, none⟩) l.length cap) := by
   have : w.drew.heap[b]? = some (.cells #[p, .slice (some ⟨g, 0, none⟩) l.length cap] 59 (0, 0)) := hbk
   rw [Lib.cell_of_heap this]; rfl
 have hSD : (Builtin.unsafeSliceData_ #[55] 95 #[.slice (some ⟨g, 0, none⟩) l.length cap]).run Tryz.prog w.drew = .ok (.pointer (some ⟨g, 0, none⟩)) w.drew :=
   Lib.run_unsafeSliceData_row _ _ _ _ _ _ (by omega)
 have hUS : (Builtin.unsafeString_ #[95, 3] 9 #[.pointer (some ⟨g, 0, none⟩), .int .i64 l.length]).run Tryz.prog w.drew = .ok (.string ⟨l.toArray⟩) (w.drew.freeze ⟨g, 0, none⟩ l.length) := by
   refine Lib.run_unsafeString_row w.drew 95 3 9 5 Tryz.underlying95 (by kernel_rfl) g cur.size (by have hg' : w.drew.heap[g]? = some (.cells cur 5 (0, 0)) := hg; simp [World.shape?, hg']) l h0 (by omega) (by unfold maxLen at hcm; omega) ?_
   intro j x hx
   have := hown.cells (g := g) rfl j (.int .u8 x.toNat) (by simp [Lib.byteCells, hx])
   exact this
 have HE0 : Hid (Ext w0 w) := hE0
 have HG : Hid (w0.heap.size ≤ g) := hbg
 clear hE0 hbg h hown hne htake hcs hcm hnc hg hbk hB hl0 h0
 go_enter Tryz.func19, Tryz.ntmps19
 go_wp2
 go_region
 all_goals (go_wp2; go_ret; exact ⟨rfl, Lib.below_freeze (Below.drew HE0.out) (p := ⟨g, 0, none⟩) HG.out _⟩)
end Go.Proofs.YtcggiljlilbdfaaGreatDoor
