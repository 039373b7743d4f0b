/-
  The printer: a strings.Builder within a struct of its own (package print's printer): WriteByte, WriteString, String.
  The printer writes trees: part, sides, call, tree.
  strings.ReplaceAll of a quote by two: a text's quotes doubled.
  The printer writes trees: tree itself.
-/
import Derived.Test.YtdjniiginnlmhaaGreatDoorQ13
import Derived.Lib.OthersKept
import Derived.Lib.OwnKind
import Derived.Lib.AppendStr
import Derived.Lib.AppendIntMem
import Derived.Lib.UnsafeStr
import Derived.Test.YtdjniiginnlmhaaGreatDoorQ14
import Derived.Test.YtdjniiginnlmhaaGreatDoorQ12
import Derived.Test.YtdjniiginnlmhaaGreatDoorShelf
import Derived.Lib.Replace
import Derived.Lib.ReplaceLaws
import Derived.Lib.CountLaws
namespace Go.Proofs.YtdjniiginnlmhaaGreatDoor
open Go.RowKit
set_option maxHeartbeats 2000000

/-- The printer in block b has written l; of w0 nothing has turned. -/
def Bu (w0 : World) (b : Nat) (l : List UInt8) (W : World) : Prop := Ext w0 W ∧ Lib.IsBuilder 59 5 w0.heap.size b (Lib.byteCells l) W
/-- Nothing else has turned. -/
def Ok9 (b : Nat) (w w' : World) : Prop := Lib.OthersKept 5 (some b) w w' ∧ w.heap.size ≤ w'.heap.size
theorem Ok9.trans {b : Nat} {x y z : World} (h : Ok9 b x y) (k : Ok9 b y z) : Ok9 b x z := ⟨h.1.trans k.1, Nat.le_trans h.2 k.2⟩
theorem Ok9.refl (b : Nat) (w : World) : Ok9 b w w := ⟨Lib.OthersKept.refl _ _ _, Nat.le_refl _⟩
theorem Ext.toK {w w' : World} (h : Ext w w') (b : Nat) : Ok9 b w w' :=
  ⟨fun k _ hk _ _ => (h.block k (Array.getElem?_eq_some_iff.1 hk).1).trans hk, h.size⟩
theorem Bu.ext {w0 W W' : World} {b : Nat} {l : List UInt8} (h : Bu w0 b l W) (e : Ext W W') : Bu w0 b l W' := by
  refine ⟨h.1.trans e, ?_⟩
  have one : ∀ p, Lib.BuilderAt 59 5 w0.heap.size b p (Lib.byteCells l) W → Lib.BuilderAt 59 5 w0.heap.size b p (Lib.byteCells l) W' := by
    rintro p ⟨hB, v, hb, hown, hne⟩
    refine ⟨hB, v, (e.block b (Array.getElem?_eq_some_iff.1 hb).1).trans hb, ⟨hown.1, ?_⟩, hne⟩
    rcases hown.2 with h | ⟨g, cap, cur, hv, hbg, hg, rest⟩
    · exact .inl h
    · exact .inr ⟨g, cap, cur, hv, hbg, (e.block g (Array.getElem?_eq_some_iff.1 hg).1).trans hg, rest⟩
  exact h.2.imp (one _) (one _)
theorem pr_lies : liesAt Tryz.prog Tryz.prog.depth 59 (2 / Tryz.prog.cellsOf 59) 0 57 1 = true := by kernel_rfl
set_option maxRecDepth 100000 in
theorem pcheck_new (b : Nat) (w : World) (h0 : w.cell? ⟨b, 0, none⟩ = some (.pointer none)) (hsh : w.shape? b = some (59, 2)) (hfz : w.frozen? ⟨b, 0, none⟩ = false) :
    Calls Tryz.prog 93 #[.pointer (some ⟨b, 0, none⟩)] w fun e w' => e = .returned (.tuple #[]) ∧ w' = w.setCell ⟨b, 0, none⟩ (.pointer (some ⟨b, 0, none⟩)) := by
  obtain ⟨j, hj, hjs⟩ := bld_info
  have q1 := Lib.run_to_unsafe (P := Tryz.prog) w ⟨b, 0, none⟩ Tryz.underlying54 Tryz.underlying165 hj (by omega) hsh (Nat.zero_lt_succ 1)
  have q3 := Lib.run_from_unsafe (P := Tryz.prog) w ⟨b, 0, none⟩ Tryz.underlying165 Tryz.underlying54 hj hsh pr_lies
  have q2 := run_callFunc_extern (P := Tryz.prog) Tryz.func129 (by kernel_rfl) (by kernel_rfl) (by kernel_rfl) (e := Extern.AbiNoEscape.same) (by kernel_rfl) #[.pointer (some ⟨b, 0, none⟩)] w
  rw [Lib.run_noEscape] at q2
  go_enter Tryz.func93, Tryz.ntmps93
  go_wp2
  go_end0
  exact ⟨rfl, rfl⟩
theorem pcheck_any (B b : Nat) (l : List Value) (w : World) (h : Lib.IsBuilder 59 5 B b l w) :
    Calls Tryz.prog 93 #[.pointer (some ⟨b, 0, none⟩)] w fun e w' => e = .returned (.tuple #[]) ∧ Lib.BuilderAt 59 5 B b (.pointer (some ⟨b, 0, none⟩)) l w' ∧ Below B w w' ∧ Lib.OthersKept 5 (some b) w w' := by
  rcases h with h | h
  · refine (pcheck_new b w h.cell0 h.shape h.frozen0).mono ?_
    rintro e w' ⟨rfl, rfl⟩
    exact ⟨rfl, h.used _, (Below.refl B w).setCell (p := ⟨b, 0, none⟩) h.1 _, (Lib.OthersKept.refl _ _ w).setCell ⟨b, 0, none⟩ rfl _⟩
  · refine (check_used b w h.cell0).mono ?_
    rintro e w' ⟨rfl, rfl⟩
    exact ⟨rfl, h, Below.refl B _, Lib.OthersKept.refl _ _ _⟩
set_option maxRecDepth 100000 in
/-- A byte more. -/
theorem pbyte_any (w0 : World) (b : Nat) (l : List UInt8) (c : UInt8) (w : World) (hBu : Bu w0 b l w) (hlen : l.length ≤ 100000000) :
    Calls Tryz.prog 64 #[.pointer (some ⟨b, 0, none⟩), .int .u8 (c.toNat : Int)] w fun e w' => e = .returned .nilIface ∧ Bu w0 b (l ++ [c]) w' ∧ Ok9 b w w' := by
  obtain ⟨i, hi, hz, h1, h2⟩ := byte_info
  obtain ⟨hE0, h⟩ := hBu
  have HE0 : Hid (Ext w0 w) := hE0
  have hBw : w0.heap.size ≤ w.heap.size := hE0.size
  obtain ⟨B, hBdef⟩ : ∃ B, w0.heap.size = B := ⟨_, rfl⟩
  rw [hBdef] at h hBw
  have HB0 : Hid (w0.heap.size = B) := hBdef
  clear hBdef hE0
  have c0 := fun W h => pcheck_any B b (Lib.byteCells l) W h
  have hbl : (Lib.byteCells l).length = l.length := by simp [Lib.byteCells]
  have hbs : Hid (Lib.byteCells (l ++ [c]) = Lib.byteCells l ++ [.int .u8 (c.toNat : Int)]) := by show _ = _; simp [Lib.byteCells]
  rw [← hbl] at hlen
  clear hbl
  obtain ⟨bl, hbl⟩ : ∃ bl, Lib.byteCells l = bl := ⟨_, rfl⟩
  rw [hbl] at h c0 hbs hlen
  clear hbl
  go_enter Tryz.func64, Tryz.ntmps64
  go_wp2_with fail
  refine (c0 _ h).mono ?_
  rintro e w1 ⟨rfl, ⟨hB, v, hb, hown, hne⟩, hw1, hk1⟩
  have d0 : w1.cell? ⟨b, 0, none⟩ = some (.pointer (some ⟨b, 0, none⟩)) := by rw [Lib.cell_of_heap hb]; rfl
  have d1 : w1.cell? ⟨b, 1, none⟩ = some v := by rw [Lib.cell_of_heap hb]; rfl
  have hlt : b < w1.heap.size := Lib.BuilderAt.lt ⟨hB, v, hb, hown, hne⟩
  have HO : Hid (w1.ownsRow B 5 1 v bl.length bl) := hown
  have HS := hw1.size
  go_wp2_with (at_builtin; refine wpList_append_own _ rfl _ _ 55 rfl B 5 i (.int .u8 0) 1 1 Tryz.underlying55 hi hz h1 h2 rfl (by decide) _ _ _ rfl (HO.out.alloc _) ⟨w1.heap.size, 0, none⟩ 1 1 [.int .u8 (c.toNat : Int)] rfl rfl ?c1 ?c2 ?c3 ?c4 ?c5 ?_)
  case c1 =>
    intro j u hj
    match j, hj with
    | 0, hj => simp at hj; subst hj; simp [Addr.add]
  case c2 => intro u hu; simp at hu; subst hu; rfl
  case c3 => unfold maxLen; omega
  case c4 => omega
  case c5 => simp; omega
  intro v' w2 hown' hg _
  have hb2 : w2.heap[b]? = some (.cells #[.pointer (some ⟨b, 0, none⟩), v] 59 (0, 0)) := by
    rw [hg.block b (by simp; omega) (fun e => hne e.symm), Lib.alloc_old w1 _ b hlt]
    exact hb
  have d2 : w2.cell? ⟨b, 0, none⟩ = some (.pointer (some ⟨b, 0, none⟩)) := by rw [Lib.cell_of_heap hb2]; rfl
  have d3 : w2.cell? ⟨b, 1, none⟩ = some v := by rw [Lib.cell_of_heap hb2]; rfl
  have f3 : w2.frozen? ⟨b, 1, none⟩ = false := Lib.frozen_of_heap hb2 1
  obtain ⟨g, cap, rfl⟩ : ∃ g cap, v' = .slice (some ⟨g, 0, none⟩) (bl.length + 1) cap := by
    rcases hown'.2 with ⟨_, h0⟩ | ⟨g, cap, cur, hv, _⟩
    · omega
    · exact ⟨g, cap, hv⟩
  go_wp2
  go_ret
  have hbel : Below B w (w2.setCell ⟨b, 1, none⟩ (.slice (some ⟨g, 0, none⟩) (bl.length + 1) cap)) := ((hw1.alloc (by omega) _).grown hg (by simp; omega) (fun k hk => (hown.lt k hk).1)).setCell (p := ⟨b, 1, none⟩) hB _
  refine ⟨rfl, ⟨?_, ?_⟩, ?_, hbel.size⟩
  · show Below w0.heap.size w0 _
    rw [HB0.out]
    have := HE0.out
    unfold Ext at this
    rw [HB0.out] at this
    exact Below.trans this hbel
  · rw [HB0.out, hbs.out]
    exact .inr (Lib.BuilderAt.put hB hb2 (by simpa using hown') (by decide))
  · exact ((hk1.alloc _).grown hg (Lib.ownsRow_kind (hown.alloc _))).setCell ⟨b, 1, none⟩ rfl _
set_option maxRecDepth 100000 in
/-- A text more. -/
theorem pstr_any (w0 : World) (b : Nat) (l : List UInt8) (s : ByteArray) (w : World) (hBu : Bu w0 b l w) (hlen : l.length ≤ 100000000) (hs : s.size ≤ 100000000) :
    Calls Tryz.prog 58 #[.pointer (some ⟨b, 0, none⟩), .string s] w fun e w' => e = .returned (.tuple #[.int .i64 s.size, .nilIface]) ∧ Bu w0 b (l ++ s.data.toList) w' ∧ Ok9 b w w' := by
  obtain ⟨i, hi, hz, h1, h2⟩ := byte_info
  obtain ⟨hE0, h⟩ := hBu
  have HE0 : Hid (Ext w0 w) := hE0
  have hBw : w0.heap.size ≤ w.heap.size := hE0.size
  obtain ⟨B, hBdef⟩ : ∃ B, w0.heap.size = B := ⟨_, rfl⟩
  rw [hBdef] at h hBw
  have HB0 : Hid (w0.heap.size = B) := hBdef
  clear hBdef hE0
  have c0 := fun W h => pcheck_any B b (Lib.byteCells l) W h
  have hbl : (Lib.byteCells l).length = l.length := by simp [Lib.byteCells]
  have hbs : Hid (Lib.byteCells (l ++ s.data.toList) = Lib.byteCells l ++ Lib.strCells s) := by show _ = _; simp [Lib.byteCells, Lib.strCells]
  rw [← hbl] at hlen
  clear hbl
  obtain ⟨bl, hbl⟩ : ∃ bl, Lib.byteCells l = bl := ⟨_, rfl⟩
  rw [hbl] at h c0 hbs hlen
  clear hbl
  go_enter Tryz.func58, Tryz.ntmps58
  go_wp2_with fail
  refine (c0 _ h).mono ?_
  rintro e w1 ⟨rfl, ⟨hB, v, hb, hown, hne⟩, hw1, hk1⟩
  have d0 : w1.cell? ⟨b, 0, none⟩ = some (.pointer (some ⟨b, 0, none⟩)) := by rw [Lib.cell_of_heap hb]; rfl
  have d1 : w1.cell? ⟨b, 1, none⟩ = some v := by rw [Lib.cell_of_heap hb]; rfl
  have hlt : b < w1.heap.size := Lib.BuilderAt.lt ⟨hB, v, hb, hown, hne⟩
  have HO : Hid (w1.ownsRow B 5 1 v bl.length bl) := hown
  have HS := hw1.size
  go_wp2_with (at_builtin; refine Lib.wpList_append_own_string _ rfl _ _ 55 9 rfl B 5 i Tryz.underlying55 Tryz.underlying9 hi hz h1 h2 _ _ _ rfl HO.out s rfl ?c3 ?c4 ?c5 ?_)
  case c3 => unfold maxLen; omega
  case c4 => omega
  case c5 => omega
  intro v' w2 hown' hg _
  have hb2 : w2.heap[b]? = some (.cells #[.pointer (some ⟨b, 0, none⟩), v] 59 (0, 0)) := by
    rw [hg.block b hlt (fun e => hne e.symm)]
    exact hb
  have d2 : w2.cell? ⟨b, 0, none⟩ = some (.pointer (some ⟨b, 0, none⟩)) := by rw [Lib.cell_of_heap hb2]; rfl
  have d3 : w2.cell? ⟨b, 1, none⟩ = some v := by rw [Lib.cell_of_heap hb2]; rfl
  have f3 : w2.frozen? ⟨b, 1, none⟩ = false := Lib.frozen_of_heap hb2 1
  obtain ⟨ao, n', cap, rfl⟩ : ∃ ao n' cap, v' = .slice ao n' cap := by
    rcases hown'.2 with ⟨hv, _⟩ | ⟨g, cap, cur, hv, _⟩
    · exact ⟨_, _, _, hv⟩
    · exact ⟨_, _, _, hv⟩
  go_wp2
  go_ret2
  have hbel : Below B w (w2.setCell ⟨b, 1, none⟩ (.slice ao n' cap)) := (hw1.grown hg (by omega) (fun k hk => (hown.lt k hk).1)).setCell (p := ⟨b, 1, none⟩) hB _
  refine ⟨rfl, ⟨?_, ?_⟩, ?_, hbel.size⟩
  · show Below w0.heap.size w0 _
    rw [HB0.out]
    have := HE0.out
    unfold Ext at this
    rw [HB0.out] at this
    exact Below.trans this hbel
  · rw [HB0.out, hbs.out]
    exact .inr (Lib.BuilderAt.put hB hb2 (by simpa [Lib.strCells_length] using hown') (by decide))
  · exact (hk1.grown hg (Lib.ownsRow_kind hown)).setCell ⟨b, 1, none⟩ rfl _
set_option maxRecDepth 100000 in
/-- What is written. -/
theorem pstring_any (w0 : World) (b : Nat) (l : List UInt8) (w : World) (hBu : Bu w0 b l w) (h0 : l ≠ []) :
    Calls Tryz.prog 27 #[.pointer (some ⟨b, 0, none⟩)] w fun e w' => e = .returned (.string ⟨l.toArray⟩) ∧ Ext w0 w' := by
  obtain ⟨hE0, h⟩ := hBu
  obtain ⟨p, hB, v, hbk, hown, hne⟩ : ∃ p, Lib.BuilderAt 59 5 w0.heap.size b p (Lib.byteCells l) w := by
    rcases h with h | h
    · exact ⟨_, h⟩
    · exact ⟨_, h⟩
  have hl0 : l.length ≠ 0 := by simpa using h0
  rw [Lib.byteCells_length] at hown
  obtain ⟨g, cap, cur, rfl, hbg, hg, hnc, hcm, hcs, htake⟩ : ∃ g cap cur, v = .slice (some ⟨g, 0, none⟩) l.length cap ∧ w0.heap.size ≤ g ∧ w.heap[g]? = some (.cells cur 5 (0, 0)) ∧ l.length ≤ cap ∧ cap ≤ maxLen ∧ cur.size = cap * 1 ∧ cur.toList.take (l.length * 1) = Lib.byteCells l := by
    rcases hown.2 with ⟨_, hz⟩ | ⟨g, cap, cur, hv, r⟩
    · exact absurd hz hl0
    · exact ⟨g, cap, cur, hv, r⟩
  have c1 : w.drew.cell? ⟨b, 1, none⟩ = some (.slice (some ⟨g, 0, none⟩) l.length cap) := by
    have : w.drew.heap[b]? = some (.cells #[p, .slice (some ⟨g, 0, none⟩) l.length cap] 59 (0, 0)) := hbk
    rw [Lib.cell_of_heap this]; rfl
  have hSD : (Builtin.unsafeSliceData_ #[55] 108 #[.slice (some ⟨g, 0, none⟩) l.length cap]).run Tryz.prog w.drew = .ok (.pointer (some ⟨g, 0, none⟩)) w.drew :=
    Lib.run_unsafeSliceData_row _ _ _ _ _ _ (by omega)
  have hUS : (Builtin.unsafeString_ #[108, 3] 9 #[.pointer (some ⟨g, 0, none⟩), .int .i64 l.length]).run Tryz.prog w.drew = .ok (.string ⟨l.toArray⟩) (w.drew.freeze ⟨g, 0, none⟩ l.length) := by
    refine Lib.run_unsafeString_row w.drew 108 3 9 5 Tryz.underlying108 (by kernel_rfl) g cur.size (by have hg' : w.drew.heap[g]? = some (.cells cur 5 (0, 0)) := hg; simp [World.shape?, hg']) l h0 (by omega) (by unfold maxLen at hcm; omega) ?_
    intro j x hx
    have := hown.cells (g := g) rfl j (.int .u8 x.toNat) (by simp [Lib.byteCells, hx])
    exact this
  have HE0 : Hid (Ext w0 w) := hE0
  have HG : Hid (w0.heap.size ≤ g) := hbg
  clear hE0 hbg h hown hne htake hcs hcm hnc hg hbk hB hl0 h0
  go_enter Tryz.func27, Tryz.ntmps27
  go_wp2
  go_region
  all_goals (go_wp2; go_ret; exact ⟨rfl, Lib.below_freeze (Below.drew HE0.out) (p := ⟨g, 0, none⟩) HG.out _⟩)
end Go.Proofs.YtdjniiginnlmhaaGreatDoor

namespace Go.Proofs.YtdjniiginnlmhaaGreatDoor
open Go.RowKit
set_option maxHeartbeats 6000000

/-- The tables: powers of ten, the errors' names, the signs; and the library's greatest length of what is sought. -/
def Mx (w : World) : Prop := 3 < w.heap.size ∧ ∃ m, w.cell? ⟨3, 0, none⟩ = some (.int .i64 m)
theorem Mx.ext {w w' : World} (h : Mx w) (e : Ext w w') : Mx w' := by
  obtain ⟨h1, m, h2⟩ := h
  exact ⟨Nat.lt_of_lt_of_le h1 e.sz, m, (e.cell.1 _ _ h1).trans h2⟩
def Tab9 (w : World) : Prop := Tab w ∧ Nm w ∧ Mx w
theorem Tab9.ext {w w' : World} (h : Tab9 w) (e : Ext w w') : Tab9 w' := ⟨h.1.ext e, h.2.1.ext e, h.2.2.ext e⟩
/-- What is asked of a printing. -/
def PrQ (w0 : World) (b : Nat) (W : World) (l : List UInt8) (e : Ending) (w' : World) : Prop := e = .returned (.tuple #[]) ∧ Bu w0 b l w' ∧ Ok9 b W w'
def PTr (n : Nat) (t : T) : Prop := ∀ (w0 W : World) (b : Nat) (l : List UInt8) (pp : Option Addr) (ln cl : Nat), Tab9 w0 → Bu w0 b l W → IsL w0 (fun _ => True) (.slice pp ln cl) t.l → l.length + 701 * szT n t ≤ 90000000 →
  Calls Tryz.prog 26 #[.pointer (some ⟨b, 0, none⟩), .agg #[.int .i64 t.k, .int .i64 t.n, .string (bs t.s), .int .i64 t.e, .int .i64 t.r.1, .int .i64 t.r.2.1, .bool t.r.2.2.1, .bool t.r.2.2.2, .int .i64 t.q.1, .int .i64 t.q.2.1, .bool t.q.2.2.1, .bool t.q.2.2.2, .slice pp ln cl]] W (PrQ w0 b W (l ++ shT n t))
def PPt (n k : Nat) (t : T) : Prop := ∀ (w0 W : World) (b : Nat) (l : List UInt8) (pp : Option Addr) (ln cl : Nat), Tab9 w0 → Bu w0 b l W → IsL w0 (fun _ => True) (.slice pp ln cl) t.l → l.length + 701 * szT n t + 3 ≤ 90000000 →
  Calls Tryz.prog 65 #[.pointer (some ⟨b, 0, none⟩), .agg #[.int .i64 t.k, .int .i64 t.n, .string (bs t.s), .int .i64 t.e, .int .i64 t.r.1, .int .i64 t.r.2.1, .bool t.r.2.2.1, .bool t.r.2.2.2, .int .i64 t.q.1, .int .i64 t.q.2.1, .bool t.q.2.2.1, .bool t.q.2.2.2, .slice pp ln cl], .int .i64 (k : Int)] W (PrQ w0 b W (l ++ brkL (loose (k + 1) t) (shT n t)))
/-- A block of the call's own, kept by whatever keeps all but the printer's. -/
theorem Ok9.blk {b g : Nat} {w w' : World} {cs : Array Value} {T : TypeId} (h : Ok9 b w w') (hb : w.heap[g]? = some (.cells cs T (0, 0))) (hg : g ≠ b) (hT : T ≠ 5) : w'.heap[g]? = some (.cells cs T (0, 0)) :=
  h.1 g _ hb (fun e => hg (Option.some.inj e)) (fun c fz e => by cases e; exact hT rfl)
theorem cells13 {w : World} {g : Nat} {x0 x1 x2 x3 x4 x5 x6 x7 x8 x9 x10 x11 x12 : Value} {T : TypeId} (hb : w.heap[g]? = some (.cells #[x0, x1, x2, x3, x4, x5, x6, x7, x8, x9, x10, x11, x12] T (0, 0))) : w.cell? ⟨g, 0, none⟩ = some x0 ∧ w.cell? ⟨g, 1, none⟩ = some x1 ∧ w.cell? ⟨g, 2, none⟩ = some x2 ∧ w.cell? ⟨g, 3, none⟩ = some x3 ∧ w.cell? ⟨g, 4, none⟩ = some x4 ∧ w.cell? ⟨g, 5, none⟩ = some x5 ∧ w.cell? ⟨g, 6, none⟩ = some x6 ∧ w.cell? ⟨g, 7, none⟩ = some x7 ∧ w.cell? ⟨g, 8, none⟩ = some x8 ∧ w.cell? ⟨g, 9, none⟩ = some x9 ∧ w.cell? ⟨g, 10, none⟩ = some x10 ∧ w.cell? ⟨g, 11, none⟩ = some x11 ∧ w.cell? ⟨g, 12, none⟩ = some x12 := by
  have h := fun o => Lib.cell_of_heap hb o
  exact ⟨h 0, h 1, h 2, h 3, h 4, h 5, h 6, h 7, h 8, h 9, h 10, h 11, h 12⟩
set_option maxRecDepth 100000 in
theorem part_any (n k : Nat) (hk : k ≤ 4) (t : T) (hb : t.k = 7 → bnd t.s ≠ 0) (hT : PTr n t) (hW : Wf t) (hw : wellT n t = true ∨ t.k = 5) : PPt n k t := by
  intro w0 W b l pp ln cl hTab hBu hL hlen
  have c1 := fun W => holds_any t (.slice pp ln cl) W
  have HLB : Hid (∀ W l, Bu w0 b l W → l.length + 701 * szT n t ≤ 90000000 → Calls Tryz.prog 26 #[.pointer (some ⟨b, 0, none⟩), .agg #[.int .i64 t.k, .int .i64 t.n, .string (bs t.s), .int .i64 t.e, .int .i64 t.r.1, .int .i64 t.r.2.1, .bool t.r.2.2.1, .bool t.r.2.2.2, .int .i64 t.q.1, .int .i64 t.q.2.1, .bool t.q.2.2.1, .bool t.q.2.2.2, .slice pp ln cl]] W (PrQ w0 b W (l ++ shT n t))) := fun W l h hl => hT w0 W b l pp ln cl hTab h hL hl
  have HB : Hid (Bu w0 b l W) := hBu
  have hbW : b < W.heap.size := by rcases hBu.2 with h | h <;> exact h.lt
  have HN : Hid (l.length + 701 * szT n t + 3 ≤ 90000000 ∧ (shT n t).length + 1 ≤ 701 * szT n t) := ⟨hlen, sh_len n t hW hw⟩
  have HX : Hid (loose (k + 1) t = decide (hldT t < k)) := hld_loose hk hb
  obtain ⟨hh, hhd⟩ : ∃ hh, hldT t = hh := ⟨_, rfl⟩
  rw [hhd] at c1 HX
  clear hTab hBu hL hlen hT hb hW hw hhd
  by_cases hc : hh < k
  · have i1 : ¬ (k : Int) ≤ (hh : Int) := by omega
    have HY : Hid (brkL (loose (k + 1) t) (shT n t) = 40 :: (shT n t ++ [41])) := by show _ = _; rw [HX.out]; simp [brkL, hc]
    clear hc
    go_enter Tryz.func65, Tryz.ntmps65
    go_wp2_with fail
    refine (c1 _).mono ?_
    rintro e w1 ⟨rfl, E1⟩
    have hnt := new_top W (.cells #[.int .i64 t.k, .int .i64 t.n, .string (bs t.s), .int .i64 t.e, .int .i64 t.r.1, .int .i64 t.r.2.1, .bool t.r.2.2.1, .bool t.r.2.2.2, .int .i64 t.q.1, .int .i64 t.q.2.1, .bool t.q.2.2.1, .bool t.q.2.2.2, .slice pp ln cl] 26)
    have hb1 := (E1.block W.heap.size (by simp)).trans hnt
    have HB1 : Hid (Bu w0 b l w1 ∧ Ok9 b W w1) := ⟨(HB.out.ext ((Ext.refl _).alloc _)).ext E1, (((Ext.refl W).alloc _).trans E1).toK b⟩
    clear E1 hnt
    go_wp2_with fail
    have HBK : Hid (w1.heap[W.heap.size]? = some (.cells #[.int .i64 t.k, .int .i64 t.n, .string (bs t.s), .int .i64 t.e, .int .i64 t.r.1, .int .i64 t.r.2.1, .bool t.r.2.2.1, .bool t.r.2.2.2, .int .i64 t.q.1, .int .i64 t.q.2.1, .bool t.q.2.2.1, .bool t.q.2.2.2, .slice pp ln cl] 26 (0, 0))) := hb1
    clear hb1
    refine (pbyte_any w0 b l 40 _ HB1.out.1 (by have := HN.out; omega)).mono ?_
    rintro e w2 ⟨rfl, B2, K2⟩
    have hb2 := K2.blk HBK.out (by omega) (by decide)
    have HB2 : Hid (Bu w0 b (l ++ [40]) w2 ∧ Ok9 b W w2) := ⟨B2, HB1.out.2.trans K2⟩
    clear B2 K2 HB1 HBK
    obtain ⟨k0, k1, k2, k3, k4, k5, k6, k7, k8, k9, k10, k11, k12⟩ := cells13 hb2
    clear hb2
    go_wp2_with fail
    refine (HLB.out _ _ HB2.out.1 (by have := HN.out; rw [List.length_append]; simp; omega)).mono ?_
    rintro e w3 ⟨rfl, B3, K3⟩
    have HB3 : Hid (Bu w0 b (l ++ [40] ++ shT n t) w3 ∧ Ok9 b W w3) := ⟨B3, HB2.out.2.trans K3⟩
    clear B3 K3 HB2 k0 k1 k2 k3 k4 k5 k6 k7 k8 k9 k10 k11 k12
    go_wp2_with fail
    refine (pbyte_any w0 b _ 41 _ HB3.out.1 (by have := HN.out; rw [List.length_append, List.length_append]; simp; omega)).mono ?_
    rintro e w4 ⟨rfl, B4, K4⟩
    have HB4 : Hid (Bu w0 b (l ++ [40] ++ shT n t ++ [41]) w4 ∧ Ok9 b W w4) := ⟨B4, HB3.out.2.trans K4⟩
    clear B4 K4 HB3
    go_wp2_with fail
    go_end0
    refine ⟨rfl, ?_, HB4.out.2⟩
    rw [HY.out]
    have := HB4.out.1
    simpa using this
  · have i1 : (k : Int) ≤ (hh : Int) := by omega
    have HY : Hid (brkL (loose (k + 1) t) (shT n t) = shT n t) := by show _ = _; rw [HX.out]; simp [brkL, hc]
    clear hc
    go_enter Tryz.func65, Tryz.ntmps65
    go_wp2_with fail
    refine (c1 _).mono ?_
    rintro e w1 ⟨rfl, E1⟩
    have hnt := new_top W (.cells #[.int .i64 t.k, .int .i64 t.n, .string (bs t.s), .int .i64 t.e, .int .i64 t.r.1, .int .i64 t.r.2.1, .bool t.r.2.2.1, .bool t.r.2.2.2, .int .i64 t.q.1, .int .i64 t.q.2.1, .bool t.q.2.2.1, .bool t.q.2.2.2, .slice pp ln cl] 26)
    have hb1 := (E1.block W.heap.size (by simp)).trans hnt
    have HB1 : Hid (Bu w0 b l w1 ∧ Ok9 b W w1) := ⟨(HB.out.ext ((Ext.refl _).alloc _)).ext E1, (((Ext.refl W).alloc _).trans E1).toK b⟩
    obtain ⟨k0, k1, k2, k3, k4, k5, k6, k7, k8, k9, k10, k11, k12⟩ := cells13 hb1
    clear E1 hnt hb1
    go_wp2_with fail
    refine (HLB.out _ _ HB1.out.1 (by have := HN.out; omega)).mono ?_
    rintro e w3 ⟨rfl, B3, K3⟩
    have HB3 : Hid (Bu w0 b (l ++ shT n t) w3 ∧ Ok9 b W w3) := ⟨B3, HB1.out.2.trans K3⟩
    clear B3 K3 HB1 k0 k1 k2 k3 k4 k5 k6 k7 k8 k9 k10 k11 k12
    go_wp2_with fail
    go_end0
    refine ⟨rfl, ?_, HB3.out.2⟩
    rw [HY.out]
    exact HB3.out.1
set_option maxRecDepth 100000 in
theorem sides_any (n : Nat) (x y : T) (s : List UInt8) (hs0 : bnd s ≠ 0) (hx : ∀ k, k ≤ 4 → PPt n k x) (hy : ∀ k, k ≤ 4 → PPt n k y) (lx : (shT n x).length + 1 ≤ 701 * szT n x)
    (w0 W : World) (b : Nat) (l : List UInt8) (pp qq : Option Addr) (ln cl lm cm : Nat) (hTab : Tab9 w0) (hBu : Bu w0 b l W) (hL : IsL w0 (fun _ => True) (.slice pp ln cl) x.l) (hM : IsL w0 (fun _ => True) (.slice qq lm cm) y.l) (hlen : l.length + 701 * (1 + (szT n x + szT n y)) ≤ 90000000) :
    Calls Tryz.prog 66 #[.pointer (some ⟨b, 0, none⟩), .agg #[.int .i64 x.k, .int .i64 x.n, .string (bs x.s), .int .i64 x.e, .int .i64 x.r.1, .int .i64 x.r.2.1, .bool x.r.2.2.1, .bool x.r.2.2.2, .int .i64 x.q.1, .int .i64 x.q.2.1, .bool x.q.2.2.1, .bool x.q.2.2.2, .slice pp ln cl], .string (bs s), .agg #[.int .i64 y.k, .int .i64 y.n, .string (bs y.s), .int .i64 y.e, .int .i64 y.r.1, .int .i64 y.r.2.1, .bool y.r.2.2.1, .bool y.r.2.2.2, .int .i64 y.q.1, .int .i64 y.q.2.1, .bool y.q.2.2.1, .bool y.q.2.2.2, .slice qq lm cm]] W (PrQ w0 b W (l ++ (brkL (loose (bnd s) x) (shT n x) ++ s ++ brkL (loose (bnd s + 1) y) (shT n y)))) := by
  have c1 := fun W => pbinds_any (bs s) W
  have es : (bs s).data.toList = s := rfl
  rw [es] at c1
  have hb4 : bnd s ≤ 4 := by unfold bnd; repeat (first | (split; · omega) | omega)
  obtain ⟨k, hk⟩ : ∃ k, bnd s = k + 1 := ⟨bnd s - 1, by omega⟩
  rw [hk] at c1 hb4 ⊢
  rw [show k + 1 - 1 = k from rfl] at c1
  have HX : Hid (∀ W l, Bu w0 b l W → l.length + 701 * szT n x + 3 ≤ 90000000 → Calls Tryz.prog 65 #[.pointer (some ⟨b, 0, none⟩), .agg #[.int .i64 x.k, .int .i64 x.n, .string (bs x.s), .int .i64 x.e, .int .i64 x.r.1, .int .i64 x.r.2.1, .bool x.r.2.2.1, .bool x.r.2.2.2, .int .i64 x.q.1, .int .i64 x.q.2.1, .bool x.q.2.2.1, .bool x.q.2.2.2, .slice pp ln cl], .int .i64 (k : Int)] W (PrQ w0 b W (l ++ brkL (loose (k + 1) x) (shT n x)))) := fun W l h hl => hx k (by omega) w0 W b l pp ln cl hTab h hL hl
  have HY : Hid (∀ W l, Bu w0 b l W → l.length + 701 * szT n y + 3 ≤ 90000000 → Calls Tryz.prog 65 #[.pointer (some ⟨b, 0, none⟩), .agg #[.int .i64 y.k, .int .i64 y.n, .string (bs y.s), .int .i64 y.e, .int .i64 y.r.1, .int .i64 y.r.2.1, .bool y.r.2.2.1, .bool y.r.2.2.2, .int .i64 y.q.1, .int .i64 y.q.2.1, .bool y.q.2.2.1, .bool y.q.2.2.2, .slice qq lm cm], .int .i64 ((k + 1 : Nat) : Int)] W (PrQ w0 b W (l ++ brkL (loose (k + 1 + 1) y) (shT n y)))) := fun W l h hl => hy (k + 1) (by omega) w0 W b l qq lm cm hTab h hM hl
  have e1 : ((k + 1 : Nat) : Int) = (k : Int) + 1 := by omega
  rw [e1] at HY
  have HB : Hid (Bu w0 b l W) := hBu
  have hbW : b < W.heap.size := by rcases hBu.2 with h | h <;> exact h.lt
  have HN : Hid (l.length + 701 * (1 + (szT n x + szT n y)) ≤ 90000000 ∧ (brkL (loose (k + 1) x) (shT n x)).length ≤ 701 * szT n x + 1 ∧ s.length ≤ 2) := ⟨hlen, by have := brkL_len (loose (k + 1) x) (shT n x); omega, bnd_len hs0⟩
  have HQ : Hid ((bs s).size = s.length ∧ (bs s).data.toList = s) := ⟨bs_size s, rfl⟩
  generalize bs s = q at *
  obtain ⟨A, hA⟩ : ∃ A, brkL (loose (k + 1) x) (shT n x) = A := ⟨_, rfl⟩
  obtain ⟨C, hC⟩ : ∃ C, brkL (loose (k + 1 + 1) y) (shT n y) = C := ⟨_, rfl⟩
  rw [hA] at HX HN ⊢
  rw [hC] at HY ⊢
  have hk4 : k ≤ 3 := by omega
  clear hTab hBu hL hM hlen hx hy lx hs0 es e1 hb4 hk hA hC
  go_enter Tryz.func66, Tryz.ntmps66
  go_wp2_with fail
  refine (c1 _).mono ?_
  rintro e w1 ⟨rfl, rfl⟩
  clear c1
  have HW : Hid (Ext W ((W.alloc (.cells #[.int .i64 x.k, .int .i64 x.n, .string (bs x.s), .int .i64 x.e, .int .i64 x.r.1, .int .i64 x.r.2.1, .bool x.r.2.2.1, .bool x.r.2.2.2, .int .i64 x.q.1, .int .i64 x.q.2.1, .bool x.q.2.2.1, .bool x.q.2.2.2, .slice pp ln cl] 26)).alloc (.cells #[.int .i64 y.k, .int .i64 y.n, .string (bs y.s), .int .i64 y.e, .int .i64 y.r.1, .int .i64 y.r.2.1, .bool y.r.2.2.1, .bool y.r.2.2.2, .int .i64 y.q.1, .int .i64 y.q.2.1, .bool y.q.2.2.1, .bool y.q.2.2.2, .slice qq lm cm] 26))) := ((Ext.refl _).alloc _).alloc _
  have HN2 : Hid (((W.alloc (.cells #[.int .i64 x.k, .int .i64 x.n, .string (bs x.s), .int .i64 x.e, .int .i64 x.r.1, .int .i64 x.r.2.1, .bool x.r.2.2.1, .bool x.r.2.2.2, .int .i64 x.q.1, .int .i64 x.q.2.1, .bool x.q.2.2.1, .bool x.q.2.2.2, .slice pp ln cl] 26)).alloc (.cells #[.int .i64 y.k, .int .i64 y.n, .string (bs y.s), .int .i64 y.e, .int .i64 y.r.1, .int .i64 y.r.2.1, .bool y.r.2.2.1, .bool y.r.2.2.2, .int .i64 y.q.1, .int .i64 y.q.2.1, .bool y.q.2.2.1, .bool y.q.2.2.2, .slice qq lm cm] 26)).heap[W.heap.size + 1]? = some (.cells #[.int .i64 y.k, .int .i64 y.n, .string (bs y.s), .int .i64 y.e, .int .i64 y.r.1, .int .i64 y.r.2.1, .bool y.r.2.2.1, .bool y.r.2.2.2, .int .i64 y.q.1, .int .i64 y.q.2.1, .bool y.q.2.2.1, .bool y.q.2.2.2, .slice qq lm cm] 26 (0, 0))) := new_two W _ _
  go_wp2_with fail
  refine (HX.out _ _ (HB.out.ext HW.out) (by have := HN.out; omega)).mono ?_
  rintro e w2 ⟨rfl, B2, K2⟩
  have hb2 := K2.blk HN2.out (by omega) (by decide)
  have HB2 : Hid (Bu w0 b (l ++ A) w2 ∧ Ok9 b W w2 ∧ w2.heap[W.heap.size + 1]? = some (.cells #[.int .i64 y.k, .int .i64 y.n, .string (bs y.s), .int .i64 y.e, .int .i64 y.r.1, .int .i64 y.r.2.1, .bool y.r.2.2.1, .bool y.r.2.2.2, .int .i64 y.q.1, .int .i64 y.q.2.1, .bool y.q.2.2.1, .bool y.q.2.2.2, .slice qq lm cm] 26 (0, 0))) := ⟨B2, (HW.out.toK b).trans K2, hb2⟩
  clear B2 K2 hb2 HW HN2
  go_wp2_with fail
  refine (pstr_any w0 b _ q _ HB2.out.1 (by have := HN.out; rw [List.length_append]; omega) (by have := HN.out; have := HQ.out.1; omega)).mono ?_
  rintro e w3 ⟨rfl, B3, K3⟩
  have hb3 := K3.blk HB2.out.2.2 (by omega) (by decide)
  rw [HQ.out.2] at B3
  have HB3 : Hid (Bu w0 b (l ++ A ++ s) w3 ∧ Ok9 b W w3) := ⟨B3, HB2.out.2.1.trans K3⟩
  obtain ⟨k0, k1, k2, k3, k4, k5, k6, k7, k8, k9, k10, k11, k12⟩ := cells13 hb3
  clear B3 K3 hb3 HB2
  go_wp2_with fail
  refine (HY.out _ _ HB3.out.1 (by have := HN.out; rw [List.length_append, List.length_append]; omega)).mono ?_
  rintro e w4 ⟨rfl, B4, K4⟩
  have HB4 : Hid (Bu w0 b (l ++ A ++ s ++ C) w4 ∧ Ok9 b W w4) := ⟨B4, HB3.out.2.trans K4⟩
  clear B4 K4 HB3 k0 k1 k2 k3 k4 k5 k6 k7 k8 k9 k10 k11 k12
  go_wp2_with fail
  go_end0
  refine ⟨rfl, ?_, HB4.out.2⟩
  have := HB4.out.1
  simpa using this
theorem join_take_len (n : Nat) (ls : List T) (j : Nat) (h : ∀ x ∈ ls, (shT n x).length + 1 ≤ 701 * szT n x) : (joinL ((ls.take j).map (shT n))).length ≤ 701 * ((ls.take j).map (szT n)).sum := by
  refine Nat.le_trans (joinL_len _) ?_
  rw [List.map_map, ← sum_mul]
  exact sum_le fun x hx => h x (List.mem_of_mem_take hx)
theorem sum_take_le (n : Nat) (ls : List T) (j : Nat) (x : T) (h : ls[j]? = some x) : ((ls.take j).map (szT n)).sum + szT n x ≤ (ls.map (szT n)).sum := by
  have e : ls = ls.take j ++ x :: ls.drop (j + 1) := by
    have hj := (List.getElem?_eq_some_iff.1 h)
    obtain ⟨hj, hx⟩ := hj
    rw [← hx, ← List.drop_eq_getElem_cons hj, List.take_append_drop]
  have : (ls.map (szT n)).sum = ((ls.take j).map (szT n)).sum + (szT n x + ((ls.drop (j + 1)).map (szT n)).sum) := by
    conv => lhs; rw [e]
    simp
  omega
theorem joinL_snoc (ls : List (List UInt8)) (a : List UInt8) (h : ls ≠ []) : joinL (ls ++ [a]) = joinL ls ++ 44 :: a := by
  match ls, h with
  | [x], _ => rfl
  | x :: y :: r, _ =>
    have ih := joinL_snoc (y :: r) a (by simp)
    show x ++ 44 :: joinL (y :: r ++ [a]) = (x ++ 44 :: joinL (y :: r)) ++ 44 :: a
    rw [ih]; simp
set_option maxRecDepth 100000 in
theorem call_any (n : Nat) (s : List UInt8) (ls : List T) (hs : s.length ≤ 8) (hl : ls.length ≤ 100) (hT : ∀ x ∈ ls, PTr n x) (hsl : ∀ x ∈ ls, (shT n x).length + 1 ≤ 701 * szT n x)
    (w0 W : World) (b : Nat) (l : List UInt8) (pp : Option Addr) (ln cl : Nat) (hTab : Tab9 w0) (hBu : Bu w0 b l W) (hL : IsL w0 (fun _ => True) (.slice pp ln cl) ls) (hlen : l.length + 701 * (1 + (ls.map (szT n)).sum) ≤ 90000000) :
    Calls Tryz.prog 67 #[.pointer (some ⟨b, 0, none⟩), .string (bs s), .slice pp ln cl] W (PrQ w0 b W (l ++ (s ++ 40 :: (joinL (ls.map (shT n)) ++ [41])))) := by
  have hln : ln = ls.length := by
    obtain ⟨p, c, h1, _⟩ := hL.form
    cases h1; rfl
  have hl2 : ln ≤ 100 := by omega
  have HI : Hid (IsL w0 (fun _ => True) (.slice pp ln cl) ls) := hL
  have HLN : Hid (ln = ls.length) := hln
  have HT : Hid (∀ x ∈ ls, PTr n x) := hT
  have HTab : Hid (Tab9 w0) := hTab
  have HB : Hid (Bu w0 b l W) := hBu
  have hbW : b < W.heap.size := by rcases hBu.2 with h | h <;> exact h.lt
  have HN : Hid (l.length + 701 * (1 + (ls.map (szT n)).sum) ≤ 90000000 ∧ (∀ x ∈ ls, (shT n x).length + 1 ≤ 701 * szT n x) ∧ s.length ≤ 8) := ⟨hlen, hsl, hs⟩
  have HQ : Hid ((bs s).size = s.length ∧ (bs s).data.toList = s) := ⟨bs_size s, rfl⟩
  generalize bs s = q at *
  clear hL hln hT hTab hBu hlen hs hl hsl
  go_enter Tryz.func67, Tryz.ntmps67
  go_wp2_with fail
  refine (pstr_any w0 b _ q _ HB.out (by have := HN.out; omega) (by have := HN.out; have := HQ.out.1; omega)).mono ?_
  rintro e w1 ⟨rfl, B1, K1⟩
  rw [HQ.out.2] at B1
  have HB1 : Hid (Bu w0 b (l ++ s) w1 ∧ Ok9 b W w1) := ⟨B1, K1⟩
  clear B1 K1
  go_wp2_with fail
  refine (pbyte_any w0 b _ 40 _ HB1.out.1 (by have := HN.out; rw [List.length_append]; omega)).mono ?_
  rintro e w2 ⟨rfl, B2, K2⟩
  have HB2 : Hid (Bu w0 b (l ++ s ++ [40]) w2 ∧ Ok9 b W w2) := ⟨B2, HB1.out.2.trans K2⟩
  clear B2 K2 HB1
  go_wp2_with fail
  go_loopw [19] (fun iv wr => ∃ j : Nat, j ≤ ln ∧ iv = .int .i64 (j : Int) ∧ Bu w0 b (l ++ s ++ [40] ++ joinL ((ls.take j).map (shT n))) wr ∧ Ok9 b W wr) (fun iv _ => ln - (intOf iv).toNat)
  case atStart => exact ⟨0, Nat.zero_le _, rfl, by simpa [joinL] using HB2.out.1, HB2.out.2⟩
  case round =>
    obtain ⟨j, hj, rfl, hBu, hK⟩ := hrel
    have HBr : Hid (Bu w0 b (l ++ s ++ [40] ++ joinL ((ls.take j).map (shT n))) wr ∧ Ok9 b W wr) := ⟨hBu, hK⟩
    have hwr : W.heap.size ≤ wr.heap.size := hK.2
    clear hBu hK HB2
    by_cases hlt : j < ln
    · have hltI : (j : Int) < (ln : Int) := by omega
      have hI := HI.out.ext HBr.out.1.1
      obtain ⟨gb, off, x, lv, hpp, hx1, hA1, hgb, hA2, hLx, hce⟩ := hI.at (i := j) (by rw [← HLN.out]; exact hlt)
      have hI0 := HI.out
      obtain ⟨gb', off', x', lv', hpp', hx1', hA1', hgb', hA2', hLx', hce'⟩ := HI.out.at (i := j) (by rw [← HLN.out]; exact hlt)
      rw [hpp] at hpp'
      cases hpp'
      rw [hx1] at hx1'
      cases hx1'
      have hlvq : lv = lv' := by
        have q1 := hce 12 lv rfl
        have q2 := (HBr.out.1.1.cell.1 _ (off + j * 13 + 12) hgb').trans (hce' 12 lv' rfl)
        rw [q1] at q2
        exact Option.some.inj q2
      subst hlvq
      clear hA1 hA2 hA1' hA2' hce' hgb' hI0 hLx
      subst hpp
      obtain ⟨pp, cl', hlv, hcl⟩ := hLx'.form
      obtain ⟨ln', hln'⟩ : ∃ ln', x.l.length = ln' := ⟨_, rfl⟩
      rw [hln'] at hlv
      subst hlv
      have HX1 : Hid (ls[j]? = some x) := hx1
      have HLX : Hid (IsL w0 (fun _ => True) (.slice pp ln' cl') x.l) := hLx'
      have HLN2 : Hid ((joinL ((ls.take j).map (shT n))).length ≤ 701 * ((ls.take j).map (szT n)).sum ∧ ((ls.take j).map (szT n)).sum + szT n x ≤ (ls.map (szT n)).sum) := ⟨join_take_len n ls j HN.out.2.1, sum_take_le n ls j x hx1⟩
      have e0 : wr.cell? ⟨gb, off + j * 13, none⟩ = some (.int .i64 x.k) := hce 0 _ rfl
      have e1 : wr.cell? ⟨gb, off + j * 13 + 1, none⟩ = some (.int .i64 x.n) := hce 1 _ rfl
      have e2 : wr.cell? ⟨gb, off + j * 13 + 2, none⟩ = some (.string (bs x.s)) := hce 2 _ rfl
      have e3 : wr.cell? ⟨gb, off + j * 13 + 3, none⟩ = some (.int .i64 x.e) := hce 3 _ rfl
      have e4 : wr.cell? ⟨gb, off + j * 13 + 4, none⟩ = some (.int .i64 x.r.1) := hce 4 _ rfl
      have e5 : wr.cell? ⟨gb, off + j * 13 + 5, none⟩ = some (.int .i64 x.r.2.1) := hce 5 _ rfl
      have e6 : wr.cell? ⟨gb, off + j * 13 + 6, none⟩ = some (.bool x.r.2.2.1) := hce 6 _ rfl
      have e7 : wr.cell? ⟨gb, off + j * 13 + 7, none⟩ = some (.bool x.r.2.2.2) := hce 7 _ rfl
      have e8 : wr.cell? ⟨gb, off + j * 13 + 8, none⟩ = some (.int .i64 x.q.1) := hce 8 _ rfl
      have e9 : wr.cell? ⟨gb, off + j * 13 + 9, none⟩ = some (.int .i64 x.q.2.1) := hce 9 _ rfl
      have e10 : wr.cell? ⟨gb, off + j * 13 + 10, none⟩ = some (.bool x.q.2.2.1) := hce 10 _ rfl
      have e11 : wr.cell? ⟨gb, off + j * 13 + 11, none⟩ = some (.bool x.q.2.2.2) := hce 11 _ rfl
      have e12 : wr.cell? ⟨gb, off + j * 13 + 12, none⟩ = some (.slice pp ln' cl') := hce 12 _ rfl
      clear hI hx1 hLx' hce hcl hln'
      have HNT : Hid ((wr.alloc (.cells #[.int .i64 x.k, .int .i64 x.n, .string (bs x.s), .int .i64 x.e, .int .i64 x.r.1, .int .i64 x.r.2.1, .bool x.r.2.2.1, .bool x.r.2.2.2, .int .i64 x.q.1, .int .i64 x.q.2.1, .bool x.q.2.2.1, .bool x.q.2.2.2, .slice pp ln' cl'] 26)).heap[wr.heap.size]? = some (.cells #[.int .i64 x.k, .int .i64 x.n, .string (bs x.s), .int .i64 x.e, .int .i64 x.r.1, .int .i64 x.r.2.1, .bool x.r.2.2.1, .bool x.r.2.2.2, .int .i64 x.q.1, .int .i64 x.q.2.1, .bool x.q.2.2.1, .bool x.q.2.2.2, .slice pp ln' cl'] 26 (0, 0))) := new_top wr _
      have HBa : Hid (Bu w0 b (l ++ s ++ [40] ++ joinL ((ls.take j).map (shT n))) (wr.alloc (.cells #[.int .i64 x.k, .int .i64 x.n, .string (bs x.s), .int .i64 x.e, .int .i64 x.r.1, .int .i64 x.r.2.1, .bool x.r.2.2.1, .bool x.r.2.2.2, .int .i64 x.q.1, .int .i64 x.q.2.1, .bool x.q.2.2.1, .bool x.q.2.2.2, .slice pp ln' cl'] 26)) ∧ Ok9 b W (wr.alloc (.cells #[.int .i64 x.k, .int .i64 x.n, .string (bs x.s), .int .i64 x.e, .int .i64 x.r.1, .int .i64 x.r.2.1, .bool x.r.2.2.1, .bool x.r.2.2.2, .int .i64 x.q.1, .int .i64 x.q.2.1, .bool x.q.2.2.1, .bool x.q.2.2.2, .slice pp ln' cl'] 26))) := ⟨HBr.out.1.ext ((Ext.refl _).alloc _), HBr.out.2.trans (((Ext.refl _).alloc _).toK b)⟩
      by_cases h0 : j = 0
      · have i0 : ¬ 0 < (j : Int) := by omega
        have HJ : Hid (joinL ((ls.take j).map (shT n) ++ [shT n x]) = joinL ((ls.take j).map (shT n)) ++ shT n x) := by show _ = _; rw [h0]; simp [joinL]
        clear h0
        go_wp2_with fail
        refine (HT.out x (List.mem_of_getElem? HX1.out) w0 _ b _ pp ln' cl' HTab.out HBa.out.1 HLX.out (by have := HN.out; have := HLN2.out; simp only [List.length_append, List.length_cons, List.length_nil]; omega)).mono ?_
        rintro e w4 ⟨rfl, B4, K4⟩
        have HB4 : Hid (Bu w0 b (l ++ s ++ [40] ++ joinL ((ls.take j).map (shT n)) ++ shT n x) w4 ∧ Ok9 b W w4) := ⟨B4, HBa.out.2.trans K4⟩
        clear B4 K4 e0 e1 e2 e3 e4 e5 e6 e7 e8 e9 e10 e11 e12
        go_wp2_with fail
        go_roundw
        case rel => exact ⟨j + 1, by omega, by go_num, by rw [List.take_add_one, HX1.out, List.map_append]; show Bu w0 b (l ++ s ++ [40] ++ joinL ((ls.take j).map (shT n) ++ [shT n x])) w4; rw [HJ.out]; have := HB4.out.1; simpa using this, HB4.out.2⟩
        case measure => show ln - ((j : Int) + 1).toNat < ln - ((j : Int)).toNat; omega
      · have i0 : 0 < (j : Int) := by omega
        have HJ : Hid (joinL ((ls.take j).map (shT n) ++ [shT n x]) = joinL ((ls.take j).map (shT n)) ++ 44 :: shT n x) := by
          refine joinL_snoc _ _ ?_
          intro h
          have h2 := congrArg List.length h
          rw [List.length_map, List.length_take] at h2
          have := HLN.out
          simp only [List.length_nil] at h2
          omega
        clear h0
        go_wp2_with fail
        refine (pbyte_any w0 b _ 44 _ HBa.out.1 (by have := HN.out; have := HLN2.out; simp only [List.length_append, List.length_cons, List.length_nil]; omega)).mono ?_
        rintro e w3 ⟨rfl, B3, K3⟩
        have hb3 := K3.blk HNT.out (by omega) (by decide)
        have HB3 : Hid (Bu w0 b (l ++ s ++ [40] ++ joinL ((ls.take j).map (shT n)) ++ [44]) w3 ∧ Ok9 b W w3) := ⟨B3, HBa.out.2.trans K3⟩
        obtain ⟨k0, k1, k2, k3, k4, k5, k6, k7, k8, k9, k10, k11, k12⟩ := cells13 hb3
        clear B3 K3 hb3 e0 e1 e2 e3 e4 e5 e6 e7 e8 e9 e10 e11 e12
        go_wp2_with fail
        refine (HT.out x (List.mem_of_getElem? HX1.out) w0 _ b _ pp ln' cl' HTab.out HB3.out.1 HLX.out (by have := HN.out; have := HLN2.out; simp only [List.length_append, List.length_cons, List.length_nil]; omega)).mono ?_
        rintro e w4 ⟨rfl, B4, K4⟩
        have HB4 : Hid (Bu w0 b (l ++ s ++ [40] ++ joinL ((ls.take j).map (shT n)) ++ [44] ++ shT n x) w4 ∧ Ok9 b W w4) := ⟨B4, HB3.out.2.trans K4⟩
        clear B4 K4 k0 k1 k2 k3 k4 k5 k6 k7 k8 k9 k10 k11 k12
        go_wp2_with fail
        go_roundw
        case rel => exact ⟨j + 1, by omega, by go_num, by rw [List.take_add_one, HX1.out, List.map_append]; show Bu w0 b (l ++ s ++ [40] ++ joinL ((ls.take j).map (shT n) ++ [shT n x])) w4; rw [HJ.out]; have := HB4.out.1; simpa using this, HB4.out.2⟩
        case measure => show ln - ((j : Int) + 1).toNat < ln - ((j : Int)).toNat; omega
    · have hltI : ¬ (j : Int) < (ln : Int) := by omega
      have hjl : j = ln := by omega
      have HT2 : Hid (ls.take j = ls) := by show _ = _; rw [hjl, HLN.out]; exact List.take_length
      clear hlt hjl
      go_wp2_with fail
      refine (pbyte_any w0 b _ 41 _ HBr.out.1 (by have h1 := HN.out; have h2 := join_take_len n ls j HN.out.2.1; rw [HT2.out] at h2 ⊢; simp only [List.length_append, List.length_cons, List.length_nil]; omega)).mono ?_
      rintro e w4 ⟨rfl, B4, K4⟩
      rw [HT2.out] at B4
      have HB4 : Hid (Bu w0 b (l ++ s ++ [40] ++ joinL (ls.map (shT n)) ++ [41]) w4 ∧ Ok9 b W w4) := ⟨B4, HBr.out.2.trans K4⟩
      clear B4 K4
      go_wp2_with fail
      go_end0
      refine ⟨rfl, ?_, HB4.out.2⟩
      have := HB4.out.1
      simpa using this
end Go.Proofs.YtdjniiginnlmhaaGreatDoor

namespace Go.Proofs.YtdjniiginnlmhaaGreatDoor
open Go.RowKit

theorem idx_hit (r : List UInt8) : Lib.index (34 :: r) [34] = ((0 : Nat) : Int) := by unfold Lib.index; simp
theorem idx_miss (c : UInt8) (r : List UInt8) (h : c ≠ 34) : Lib.index (c :: r) [34] = if Lib.index r [34] == -1 then -1 else Lib.index r [34] + 1 := by
  conv => lhs; unfold Lib.index
  rw [if_neg]
  simp
  exact fun e => h e.symm
theorem cnt_hit (r : List UInt8) : Lib.count (34 :: r) [34] = Lib.count r [34] + 1 := by
  rw [Lib.count_hit (by simp) (idx_hit r)]; simp; omega
theorem cnt_miss (c : UInt8) (r : List UInt8) (h : c ≠ 34) : Lib.count (c :: r) [34] = Lib.count r [34] := by
  have h1 := idx_miss c r h
  by_cases hm : Lib.index r [34] = -1
  · rw [Lib.count_miss hm]
    exact Lib.count_miss (by rw [h1, hm]; rfl)
  · have hg := Lib.index_ge r [34]
    obtain ⟨i, hi⟩ : ∃ i : Nat, Lib.index r [34] = i := ⟨(Lib.index r [34]).toNat, by omega⟩
    have h2 : Lib.index (c :: r) [34] = ((i + 1 : Nat) : Int) := by
      rw [h1, if_neg (by simpa using hm), hi]; omega
    rw [Lib.count_hit (by simp) h2, Lib.count_hit (by simp) hi]
    have : i + 1 + [(34 : UInt8)].length = (i + [(34 : UInt8)].length) + 1 := by simp
    rw [this, List.drop_succ_cons]
theorem repl_miss (k : Nat) (c : UInt8) (r : List UInt8) (h : c ≠ 34) : Lib.replaceK [34] [34, 34] k (c :: r) = c :: Lib.replaceK [34] [34, 34] k r := by
  cases k with
  | zero => rfl
  | succ k =>
    have h1 := idx_miss c r h
    by_cases hm : Lib.index r [34] = -1
    · rw [hm] at h1
      unfold Lib.replaceK
      rw [h1, hm]; rfl
    · have hg := Lib.index_ge r [34]
      obtain ⟨i, hi⟩ : ∃ i : Nat, Lib.index r [34] = i := ⟨(Lib.index r [34]).toNat, by omega⟩
      have h2 : Lib.index (c :: r) [34] = ((i + 1 : Nat) : Int) := by
        rw [h1, if_neg (by simpa using hm), hi]; omega
      rw [Lib.replaceK_hit _ _ _ _ _ h2, Lib.replaceK_hit _ _ _ _ _ hi]
      have : i + 1 + [(34 : UInt8)].length = (i + [(34 : UInt8)].length) + 1 := by simp
      rw [this, List.drop_succ_cons, List.take_succ_cons]
      rfl
theorem repl_quo (s : List UInt8) : Lib.replaceK [34] [34, 34] (Lib.count s [34]) s = quoB s := by
  induction s with
  | nil => rfl
  | cons c r ih =>
    by_cases h : c = 34
    · subst h
      rw [cnt_hit, Lib.replaceK_hit _ _ _ _ 0 (idx_hit r)]
      show [] ++ [34, 34] ++ Lib.replaceK [34] [34, 34] (Lib.count r [34]) r = quoB (34 :: r)
      rw [ih, quoB, if_pos rfl]; rfl
    · rw [cnt_miss c r h, repl_miss _ c r h, ih, quoB, if_neg h]
theorem all_quo (s : List UInt8) : Lib.replaceAll s [34] [34, 34] = quoB s := by
  unfold Lib.replaceAll Lib.replace Lib.replaceNum
  rw [if_neg (by decide), if_pos (.inl (by decide))]
  exact repl_quo s
theorem repl_any (s : ByteArray) (w : World) (hs : s.size ≤ 300) (hm : ∃ m, w.cell? ⟨3, 0, none⟩ = some (.int .i64 m)) :
    Calls Tryz.prog 59 #[.string s, .string ⟨#[34]⟩, .string ⟨#[34, 34]⟩] w fun e w' => e = .returned (.string (bs (quoB s.data.toList))) ∧ Ext w w' := by
  obtain ⟨m, hm⟩ := hm
  have hc := Lib.countB_mul_le ⟨#[34]⟩ (by decide) s.size s (Nat.le_refl _)
  have e1 : (⟨#[34]⟩ : ByteArray).size = 1 := rfl
  have e2 : (⟨#[34, 34]⟩ : ByteArray).size = 2 := rfl
  rw [e1] at hc
  refine (Tryz.strings_ReplaceAll s ⟨#[34]⟩ ⟨#[34, 34]⟩ m w (by omega) hm (by decide) (by rw [e2]; omega)).mono ?_
  rintro e w' ⟨rfl, h⟩
  refine ⟨?_, h⟩
  have : Lib.replaceAll s.data.toList (⟨#[34]⟩ : ByteArray).data.toList (⟨#[34, 34]⟩ : ByteArray).data.toList = quoB s.data.toList := all_quo _
  rw [this]; rfl
end Go.Proofs.YtdjniiginnlmhaaGreatDoor

namespace Go.Proofs.YtdjniiginnlmhaaGreatDoor
open Go.RowKit
set_option maxHeartbeats 6000000

set_option maxRecDepth 100000 in
theorem tree_num (n : Nat) (t : T) (hk : t.k = 0) (hW : Wf t) : PTr (n + 1) t := by
  intro w0 W b l pp ln cl hTab hBu hL hlen
  have e0 : (t.k == 0) = true := by rw [hk]; rfl
  have HX : Hid (shT (n + 1) t = printL t.n) := by show _ = _; unfold shT; simp [hk]
  have HB : Hid (Bu w0 b l W) := hBu
  have HT : Hid (Tab9 w0) := hTab
  have HN : Hid (l.length ≤ 90000000) := by have := szT_pos (n + 1) t; show _ ≤ _; omega
  have HW : Hid (Wf t) := hW
  have c1 := fun W h => print_any t.n (by have := HW.out; cases this; assumption) W h
  have HS : Hid ((bs (printL t.n)).size ≤ 21 ∧ (bs (printL t.n)).data.toList = printL t.n) := ⟨by rw [bs_size]; exact printL_len t.n (by cases hW; assumption), rfl⟩
  rw [show (⟨(printL t.n).toArray⟩ : ByteArray) = bs (printL t.n) from rfl] at c1
  clear hTab hBu hL hlen hW hk
  generalize bs (printL t.n) = q at *
  go_enter Tryz.func26, Tryz.ntmps26
  go_wp2_with fail
  have HB1 : Hid (Bu w0 b l (W.alloc (.cells #[.int .i64 t.k, .int .i64 t.n, .string (bs t.s), .int .i64 t.e, .int .i64 t.r.1, .int .i64 t.r.2.1, .bool t.r.2.2.1, .bool t.r.2.2.2, .int .i64 t.q.1, .int .i64 t.q.2.1, .bool t.q.2.2.1, .bool t.q.2.2.2, .slice pp ln cl] 26)) ∧ Ext W (W.alloc (.cells #[.int .i64 t.k, .int .i64 t.n, .string (bs t.s), .int .i64 t.e, .int .i64 t.r.1, .int .i64 t.r.2.1, .bool t.r.2.2.1, .bool t.r.2.2.2, .int .i64 t.q.1, .int .i64 t.q.2.1, .bool t.q.2.2.1, .bool t.q.2.2.2, .slice pp ln cl] 26))) := ⟨HB.out.ext ((Ext.refl _).alloc _), (Ext.refl _).alloc _⟩
  obtain ⟨qz, ⟨k0, k1, k2, k3, k4, k5, k6, k7, k8, k9, k10, k11, k12⟩, gz⟩ := blk13_top (b := W.heap.size) rfl (Ext.refl (W.alloc (.cells #[.int .i64 t.k, .int .i64 t.n, .string (bs t.s), .int .i64 t.e, .int .i64 t.r.1, .int .i64 t.r.2.1, .bool t.r.2.2.1, .bool t.r.2.2.2, .int .i64 t.q.1, .int .i64 t.q.2.1, .bool t.q.2.2.1, .bool t.q.2.2.2, .slice pp ln cl] 26)))
  clear qz gz
  generalize W.alloc (.cells #[.int .i64 t.k, .int .i64 t.n, .string (bs t.s), .int .i64 t.e, .int .i64 t.r.1, .int .i64 t.r.2.1, .bool t.r.2.2.1, .bool t.r.2.2.2, .int .i64 t.q.1, .int .i64 t.q.2.1, .bool t.q.2.2.1, .bool t.q.2.2.2, .slice pp ln cl] 26) = W1 at *
  have C1 : Hid (∀ V, Ext W1 V → Calls Tryz.prog 19 #[.int .i64 t.n] V fun e w' => e = .returned (.string q) ∧ Ext V w') := fun V e => c1 V (HT.out.1.ext (HB1.out.1.1.trans e))
  clear c1
  have C9 : Hid (∀ V, Ext W1 V → Calls Tryz.prog 58 #[.pointer (some ⟨b, 0, none⟩), .string q] V fun e w' => e = .returned (.tuple #[.int .i64 (q).size, .nilIface]) ∧ Bu w0 b (l ++ shT (n + 1) t) w' ∧ Ok9 b V w') := fun V e => by rw [HX.out, ← HS.out.2]; exact pstr_any w0 b l _ V (HB1.out.1.ext e) (by have := HN.out; omega) (by have := HS.out.1; omega)
  go_region_with (first | (go_at_call 19; refine (C1.out _ (by with_reducible repeat (first | assumption | exact Ext.refl _ | apply Ext.drew | apply Ext.drewN))).mono ?_; rintro e w5 ⟨rfl, E5⟩; have X5 : Ext W1 w5 := Ext.trans (by with_reducible repeat (first | assumption | exact Ext.refl _ | apply Ext.drew | apply Ext.drewN)) E5) | (go_at_call 58; refine (C9.out _ (by with_reducible repeat (first | assumption | exact Ext.refl _ | apply Ext.drew | apply Ext.drewN))).mono ?_; rintro e w9 ⟨rfl, B9, K9⟩; have HB9 : Hid (Bu w0 b (l ++ shT (n + 1) t) w9 ∧ Ok9 b W w9) := ⟨B9, (Ok9.trans (HB1.out.2.toK b) (Ext.toK (by with_reducible repeat (first | assumption | exact Ext.refl _ | apply Ext.drew | apply Ext.drewN)) b)).trans K9⟩; clear B9 K9))
  all_goals
    go_wp2_with fail
    go_end0
    exact ⟨rfl, HB9.out.1, HB9.out.2⟩
set_option maxRecDepth 100000 in
theorem tree_text (n : Nat) (t : T) (hk : t.k = 1) (hW : Wf t) (hs : t.s.length ≤ 300) : PTr (n + 1) t := by
  intro w0 W b l pp ln cl hTab hBu hL hlen
  have e0 : (t.k == 0) = false := by rw [hk]; rfl
  have e1 : (t.k == 1) = true := by rw [hk]; rfl
  have HX : Hid (shT (n + 1) t = quoL t.s) := by show _ = _; unfold shT; simp [hk]
  have HB : Hid (Bu w0 b l W) := hBu
  have HT : Hid (Tab9 w0) := hTab
  have HN : Hid (l.length ≤ 90000000) := by have := szT_pos (n + 1) t; show _ ≤ _; omega
  have HW : Hid (Wf t) := hW
  have HS0 : Hid ((quoB t.s).length ≤ 600) := by have := quoB_len t.s; show _ ≤ _; omega
  have c1 := fun W h => repl_any (bs t.s) W (by rw [bs_size]; exact hs) h
  rw [show (bs t.s).data.toList = t.s from rfl] at c1
  have HQ : Hid ((bs (quoB t.s)).data.toList = quoB t.s) := rfl
  have hqs : (bs (quoB t.s)).size ≤ 600 := by rw [bs_size]; exact HS0.out
  clear hTab hBu hL hlen hW hk hs
  generalize bs (quoB t.s) = q at *
  have s1 : (⟨#[34]⟩ : ByteArray).size = 1 := rfl
  have s2 : ((⟨#[34]⟩ : ByteArray) ++ q).size = q.size + 1 := by rw [ByteArray.size_append, s1]; omega
  have HS : Hid (((⟨#[34]⟩ : ByteArray) ++ q ++ (⟨#[34]⟩ : ByteArray)).size ≤ 602 ∧ ((⟨#[34]⟩ : ByteArray) ++ q ++ (⟨#[34]⟩ : ByteArray)).data.toList = quoL t.s) := by
    refine ⟨?_, ?_⟩
    · rw [ByteArray.size_append, s2, s1]; omega
    · rw [app_list, app_list, HQ.out]; rfl
  go_enter Tryz.func26, Tryz.ntmps26
  go_wp2_with fail
  have HB1 : Hid (Bu w0 b l (W.alloc (.cells #[.int .i64 t.k, .int .i64 t.n, .string (bs t.s), .int .i64 t.e, .int .i64 t.r.1, .int .i64 t.r.2.1, .bool t.r.2.2.1, .bool t.r.2.2.2, .int .i64 t.q.1, .int .i64 t.q.2.1, .bool t.q.2.2.1, .bool t.q.2.2.2, .slice pp ln cl] 26)) ∧ Ext W (W.alloc (.cells #[.int .i64 t.k, .int .i64 t.n, .string (bs t.s), .int .i64 t.e, .int .i64 t.r.1, .int .i64 t.r.2.1, .bool t.r.2.2.1, .bool t.r.2.2.2, .int .i64 t.q.1, .int .i64 t.q.2.1, .bool t.q.2.2.1, .bool t.q.2.2.2, .slice pp ln cl] 26))) := ⟨HB.out.ext ((Ext.refl _).alloc _), (Ext.refl _).alloc _⟩
  obtain ⟨qz, ⟨k0, k1, k2, k3, k4, k5, k6, k7, k8, k9, k10, k11, k12⟩, gz⟩ := blk13_top (b := W.heap.size) rfl (Ext.refl (W.alloc (.cells #[.int .i64 t.k, .int .i64 t.n, .string (bs t.s), .int .i64 t.e, .int .i64 t.r.1, .int .i64 t.r.2.1, .bool t.r.2.2.1, .bool t.r.2.2.2, .int .i64 t.q.1, .int .i64 t.q.2.1, .bool t.q.2.2.1, .bool t.q.2.2.2, .slice pp ln cl] 26)))
  clear qz gz
  generalize W.alloc (.cells #[.int .i64 t.k, .int .i64 t.n, .string (bs t.s), .int .i64 t.e, .int .i64 t.r.1, .int .i64 t.r.2.1, .bool t.r.2.2.1, .bool t.r.2.2.2, .int .i64 t.q.1, .int .i64 t.q.2.1, .bool t.q.2.2.1, .bool t.q.2.2.2, .slice pp ln cl] 26) = W1 at *
  have C1 : Hid (∀ V, Ext W1 V → Calls Tryz.prog 59 #[.string (bs t.s), .string ⟨#[34]⟩, .string ⟨#[34, 34]⟩] V fun e w' => e = .returned (.string q) ∧ Ext V w') := fun V e => c1 V (HT.out.2.2.ext (HB1.out.1.1.trans e)).2
  clear c1
  have C9 : Hid (∀ V, Ext W1 V → Calls Tryz.prog 58 #[.pointer (some ⟨b, 0, none⟩), .string (⟨#[34]⟩ ++ q ++ ⟨#[34]⟩)] V fun e w' => e = .returned (.tuple #[.int .i64 ((⟨#[34]⟩ ++ q ++ ⟨#[34]⟩)).size, .nilIface]) ∧ Bu w0 b (l ++ shT (n + 1) t) w' ∧ Ok9 b V w') := fun V e => by rw [HX.out, ← HS.out.2]; exact pstr_any w0 b l _ V (HB1.out.1.ext e) (by have := HN.out; omega) (by have := HS.out.1; omega)
  go_region_with (first | (go_at_call 59; refine (C1.out _ (by with_reducible repeat (first | assumption | exact Ext.refl _ | apply Ext.drew | apply Ext.drewN))).mono ?_; rintro e w5 ⟨rfl, E5⟩; have X5 : Ext W1 w5 := Ext.trans (by with_reducible repeat (first | assumption | exact Ext.refl _ | apply Ext.drew | apply Ext.drewN)) E5) | (go_at_call 58; refine (C9.out _ (by with_reducible repeat (first | assumption | exact Ext.refl _ | apply Ext.drew | apply Ext.drewN))).mono ?_; rintro e w9 ⟨rfl, B9, K9⟩; have HB9 : Hid (Bu w0 b (l ++ shT (n + 1) t) w9 ∧ Ok9 b W w9) := ⟨B9, (Ok9.trans (HB1.out.2.toK b) (Ext.toK (by with_reducible repeat (first | assumption | exact Ext.refl _ | apply Ext.drew | apply Ext.drewN)) b)).trans K9⟩; clear B9 K9))
  all_goals
    go_wp2_with fail
    go_end0
    exact ⟨rfl, HB9.out.1, HB9.out.2⟩
set_option maxRecDepth 100000 in
theorem tree_bool (n : Nat) (t : T) (hk : t.k = 2) (hW : Wf t) (hn : t.n = 0 ∨ t.n = 1) : PTr (n + 1) t := by
  intro w0 W b l pp ln cl hTab hBu hL hlen
  have e0 : (t.k == 0) = false := by rw [hk]; rfl
  have e1 : (t.k == 1) = false := by rw [hk]; rfl
  have e2 : (t.k == 2) = true := by rw [hk]; rfl
  have HX : Hid (shT (n + 1) t = tfL (t.n != 0)) := by show _ = _; unfold shT; rcases hn with h | h <;> simp [hk, h, tfL]
  have HB : Hid (Bu w0 b l W) := hBu
  have HT : Hid (Tab9 w0) := hTab
  have HN : Hid (l.length ≤ 90000000) := by have := szT_pos (n + 1) t; show _ ≤ _; omega
  have HW : Hid (Wf t) := hW
  clear hTab hBu hL hlen hW hk hn
  obtain ⟨bb, hbb⟩ : ∃ bb, (t.n != 0) = bb := ⟨_, rfl⟩
  rw [hbb] at HX
  have c1 := fun W => vb9_any bb W
  have c2 := fun W => vs9_any bb W
  have HS : Hid ((bs (tfL bb)).size ≤ 5 ∧ (bs (tfL bb)).data.toList = tfL bb) := by cases bb <;> exact ⟨by decide, rfl⟩
  generalize nB bb = nb at *
  generalize bs (tfL bb) = q at *
  go_enter Tryz.func26, Tryz.ntmps26
  go_wp2_with fail
  have HB1 : Hid (Bu w0 b l (W.alloc (.cells #[.int .i64 t.k, .int .i64 t.n, .string (bs t.s), .int .i64 t.e, .int .i64 t.r.1, .int .i64 t.r.2.1, .bool t.r.2.2.1, .bool t.r.2.2.2, .int .i64 t.q.1, .int .i64 t.q.2.1, .bool t.q.2.2.1, .bool t.q.2.2.2, .slice pp ln cl] 26)) ∧ Ext W (W.alloc (.cells #[.int .i64 t.k, .int .i64 t.n, .string (bs t.s), .int .i64 t.e, .int .i64 t.r.1, .int .i64 t.r.2.1, .bool t.r.2.2.1, .bool t.r.2.2.2, .int .i64 t.q.1, .int .i64 t.q.2.1, .bool t.q.2.2.1, .bool t.q.2.2.2, .slice pp ln cl] 26))) := ⟨HB.out.ext ((Ext.refl _).alloc _), (Ext.refl _).alloc _⟩
  obtain ⟨qz, ⟨k0, k1, k2, k3, k4, k5, k6, k7, k8, k9, k10, k11, k12⟩, gz⟩ := blk13_top (b := W.heap.size) rfl (Ext.refl (W.alloc (.cells #[.int .i64 t.k, .int .i64 t.n, .string (bs t.s), .int .i64 t.e, .int .i64 t.r.1, .int .i64 t.r.2.1, .bool t.r.2.2.1, .bool t.r.2.2.2, .int .i64 t.q.1, .int .i64 t.q.2.1, .bool t.q.2.2.1, .bool t.q.2.2.2, .slice pp ln cl] 26)))
  clear qz gz
  generalize W.alloc (.cells #[.int .i64 t.k, .int .i64 t.n, .string (bs t.s), .int .i64 t.e, .int .i64 t.r.1, .int .i64 t.r.2.1, .bool t.r.2.2.1, .bool t.r.2.2.2, .int .i64 t.q.1, .int .i64 t.q.2.1, .bool t.q.2.2.1, .bool t.q.2.2.2, .slice pp ln cl] 26) = W1 at *
  have C1 : Hid (∀ V, Ext W1 V → Calls Tryz.prog 61 #[.bool bb] V fun e w' => e = .returned (.agg #[.int .i64 1, .int .i64 nb, .string ⟨#[]⟩, .int .i64 0]) ∧ Ext V w') := fun V e => c1 V
  have C2 : Hid (∀ V, Ext W1 V → Calls Tryz.prog 60 #[.agg #[.int .i64 1, .int .i64 nb, .string ⟨#[]⟩, .int .i64 0]] V fun e w' => e = .returned (.string q) ∧ Ext V w') := fun V e => c2 V
  clear c1 c2
  have C9 : Hid (∀ V, Ext W1 V → Calls Tryz.prog 58 #[.pointer (some ⟨b, 0, none⟩), .string q] V fun e w' => e = .returned (.tuple #[.int .i64 (q).size, .nilIface]) ∧ Bu w0 b (l ++ shT (n + 1) t) w' ∧ Ok9 b V w') := fun V e => by rw [HX.out, ← HS.out.2]; exact pstr_any w0 b l _ V (HB1.out.1.ext e) (by have := HN.out; omega) (by have := HS.out.1; omega)
  go_region_with (first | (go_at_call 61; refine (C1.out _ (by with_reducible repeat (first | assumption | exact Ext.refl _ | apply Ext.drew | apply Ext.drewN))).mono ?_; rintro e w5 ⟨rfl, E5⟩; have X5 : Ext W1 w5 := Ext.trans (by with_reducible repeat (first | assumption | exact Ext.refl _ | apply Ext.drew | apply Ext.drewN)) E5) | (go_at_call 60; refine (C2.out _ (by with_reducible repeat (first | assumption | exact Ext.refl _ | apply Ext.drew | apply Ext.drewN))).mono ?_; rintro e w6 ⟨rfl, E6⟩; have X6 : Ext W1 w6 := Ext.trans (by with_reducible repeat (first | assumption | exact Ext.refl _ | apply Ext.drew | apply Ext.drewN)) E6) | (go_at_call 58; refine (C9.out _ (by with_reducible repeat (first | assumption | exact Ext.refl _ | apply Ext.drew | apply Ext.drewN))).mono ?_; rintro e w9 ⟨rfl, B9, K9⟩; have HB9 : Hid (Bu w0 b (l ++ shT (n + 1) t) w9 ∧ Ok9 b W w9) := ⟨B9, (Ok9.trans (HB1.out.2.toK b) (Ext.toK (by with_reducible repeat (first | assumption | exact Ext.refl _ | apply Ext.drew | apply Ext.drewN)) b)).trans K9⟩; clear B9 K9))
  all_goals
    go_wp2_with fail
    go_end0
    exact ⟨rfl, HB9.out.1, HB9.out.2⟩
set_option maxRecDepth 100000 in
theorem tree_err (n : Nat) (t : T) (hk : t.k = 3) (hW : Wf t) (he : 1 ≤ t.e ∧ t.e ≤ 5) : PTr (n + 1) t := by
  intro w0 W b l pp ln cl hTab hBu hL hlen
  have e0 : (t.k == 0) = false := by rw [hk]; rfl
  have e1 : (t.k == 1) = false := by rw [hk]; rfl
  have e2 : (t.k == 2) = false := by rw [hk]; rfl
  have e3 : (t.k == 3) = true := by rw [hk]; rfl
  have HX : Hid (shT (n + 1) t = errL t.e) := by show _ = _; unfold shT; simp [hk]
  have HB : Hid (Bu w0 b l W) := hBu
  have HT : Hid (Tab9 w0) := hTab
  have HN : Hid (l.length ≤ 90000000) := by have := szT_pos (n + 1) t; show _ ≤ _; omega
  have HW : Hid (Wf t) := hW
  have c1 := fun W h => verr9_any t.e he W h
  have HS : Hid ((bs (errL t.e)).size ≤ 7 ∧ (bs (errL t.e)).data.toList = errL t.e) := ⟨by rw [bs_size]; exact errL_len _, rfl⟩
  clear hTab hBu hL hlen hW hk he
  generalize bs (errL t.e) = q at *
  go_enter Tryz.func26, Tryz.ntmps26
  go_wp2_with fail
  have HB1 : Hid (Bu w0 b l (W.alloc (.cells #[.int .i64 t.k, .int .i64 t.n, .string (bs t.s), .int .i64 t.e, .int .i64 t.r.1, .int .i64 t.r.2.1, .bool t.r.2.2.1, .bool t.r.2.2.2, .int .i64 t.q.1, .int .i64 t.q.2.1, .bool t.q.2.2.1, .bool t.q.2.2.2, .slice pp ln cl] 26)) ∧ Ext W (W.alloc (.cells #[.int .i64 t.k, .int .i64 t.n, .string (bs t.s), .int .i64 t.e, .int .i64 t.r.1, .int .i64 t.r.2.1, .bool t.r.2.2.1, .bool t.r.2.2.2, .int .i64 t.q.1, .int .i64 t.q.2.1, .bool t.q.2.2.1, .bool t.q.2.2.2, .slice pp ln cl] 26))) := ⟨HB.out.ext ((Ext.refl _).alloc _), (Ext.refl _).alloc _⟩
  obtain ⟨qz, ⟨k0, k1, k2, k3, k4, k5, k6, k7, k8, k9, k10, k11, k12⟩, gz⟩ := blk13_top (b := W.heap.size) rfl (Ext.refl (W.alloc (.cells #[.int .i64 t.k, .int .i64 t.n, .string (bs t.s), .int .i64 t.e, .int .i64 t.r.1, .int .i64 t.r.2.1, .bool t.r.2.2.1, .bool t.r.2.2.2, .int .i64 t.q.1, .int .i64 t.q.2.1, .bool t.q.2.2.1, .bool t.q.2.2.2, .slice pp ln cl] 26)))
  clear qz gz
  generalize W.alloc (.cells #[.int .i64 t.k, .int .i64 t.n, .string (bs t.s), .int .i64 t.e, .int .i64 t.r.1, .int .i64 t.r.2.1, .bool t.r.2.2.1, .bool t.r.2.2.2, .int .i64 t.q.1, .int .i64 t.q.2.1, .bool t.q.2.2.1, .bool t.q.2.2.2, .slice pp ln cl] 26) = W1 at *
  have C1 : Hid (∀ V, Ext W1 V → Calls Tryz.prog 62 #[.int .i64 t.e] V fun e w' => e = .returned (.string q) ∧ Ext V w') := fun V e => (c1 V (HT.out.2.1.ext (HB1.out.1.1.trans e))).mono (fun e w h => ⟨h.1, by rw [h.2]; exact Ext.refl _⟩)
  clear c1
  have C9 : Hid (∀ V, Ext W1 V → Calls Tryz.prog 58 #[.pointer (some ⟨b, 0, none⟩), .string q] V fun e w' => e = .returned (.tuple #[.int .i64 (q).size, .nilIface]) ∧ Bu w0 b (l ++ shT (n + 1) t) w' ∧ Ok9 b V w') := fun V e => by rw [HX.out, ← HS.out.2]; exact pstr_any w0 b l _ V (HB1.out.1.ext e) (by have := HN.out; omega) (by have := HS.out.1; omega)
  go_region_with (first | (go_at_call 62; refine (C1.out _ (by with_reducible repeat (first | assumption | exact Ext.refl _ | apply Ext.drew | apply Ext.drewN))).mono ?_; rintro e w5 ⟨rfl, E5⟩; have X5 : Ext W1 w5 := Ext.trans (by with_reducible repeat (first | assumption | exact Ext.refl _ | apply Ext.drew | apply Ext.drewN)) E5) | (go_at_call 58; refine (C9.out _ (by with_reducible repeat (first | assumption | exact Ext.refl _ | apply Ext.drew | apply Ext.drewN))).mono ?_; rintro e w9 ⟨rfl, B9, K9⟩; have HB9 : Hid (Bu w0 b (l ++ shT (n + 1) t) w9 ∧ Ok9 b W w9) := ⟨B9, (Ok9.trans (HB1.out.2.toK b) (Ext.toK (by with_reducible repeat (first | assumption | exact Ext.refl _ | apply Ext.drew | apply Ext.drewN)) b)).trans K9⟩; clear B9 K9))
  all_goals
    go_wp2_with fail
    go_end0
    exact ⟨rfl, HB9.out.1, HB9.out.2⟩
set_option maxRecDepth 100000 in
theorem tree_ref (n : Nat) (t : T) (hk : t.k = 4) (hW : Wf t) : PTr (n + 1) t := by
  intro w0 W b l pp ln cl hTab hBu hL hlen
  have e0 : (t.k == 0) = false := by rw [hk]; rfl
  have e1 : (t.k == 1) = false := by rw [hk]; rfl
  have e2 : (t.k == 2) = false := by rw [hk]; rfl
  have e3 : (t.k == 3) = false := by rw [hk]; rfl
  have e4 : (t.k == 4) = true := by rw [hk]; rfl
  have HX : Hid (shT (n + 1) t = rfL t.r) := by show _ = _; unfold shT; simp [hk]
  have HB : Hid (Bu w0 b l W) := hBu
  have HT : Hid (Tab9 w0) := hTab
  have HN : Hid (l.length ≤ 90000000) := by have := szT_pos (n + 1) t; show _ ≤ _; omega
  have HW : Hid (Wf t) := hW
  have c1 := fun W h => cprint_any t.r.1 t.r.2.1 t.r.2.2.1 t.r.2.2.2 (by have := HW.out; cases this; assumption) (by have := HW.out; cases this; assumption) W h
  have HS : Hid ((bs (rfL t.r)).size ≤ 8 ∧ (bs (rfL t.r)).data.toList = rfL t.r) := ⟨by rw [bs_size]; exact rfL_len _, rfl⟩
  rw [show (⟨(printR t.r.1 t.r.2.1 t.r.2.2.1 t.r.2.2.2).toArray⟩ : ByteArray) = bs (rfL t.r) from rfl] at c1
  generalize bs (rfL t.r) = q at *
  clear hTab hBu hL hlen hW hk
  go_enter Tryz.func26, Tryz.ntmps26
  go_wp2_with fail
  have HB1 : Hid (Bu w0 b l (W.alloc (.cells #[.int .i64 t.k, .int .i64 t.n, .string (bs t.s), .int .i64 t.e, .int .i64 t.r.1, .int .i64 t.r.2.1, .bool t.r.2.2.1, .bool t.r.2.2.2, .int .i64 t.q.1, .int .i64 t.q.2.1, .bool t.q.2.2.1, .bool t.q.2.2.2, .slice pp ln cl] 26)) ∧ Ext W (W.alloc (.cells #[.int .i64 t.k, .int .i64 t.n, .string (bs t.s), .int .i64 t.e, .int .i64 t.r.1, .int .i64 t.r.2.1, .bool t.r.2.2.1, .bool t.r.2.2.2, .int .i64 t.q.1, .int .i64 t.q.2.1, .bool t.q.2.2.1, .bool t.q.2.2.2, .slice pp ln cl] 26))) := ⟨HB.out.ext ((Ext.refl _).alloc _), (Ext.refl _).alloc _⟩
  obtain ⟨qz, ⟨k0, k1, k2, k3, k4, k5, k6, k7, k8, k9, k10, k11, k12⟩, gz⟩ := blk13_top (b := W.heap.size) rfl (Ext.refl (W.alloc (.cells #[.int .i64 t.k, .int .i64 t.n, .string (bs t.s), .int .i64 t.e, .int .i64 t.r.1, .int .i64 t.r.2.1, .bool t.r.2.2.1, .bool t.r.2.2.2, .int .i64 t.q.1, .int .i64 t.q.2.1, .bool t.q.2.2.1, .bool t.q.2.2.2, .slice pp ln cl] 26)))
  clear qz gz
  generalize W.alloc (.cells #[.int .i64 t.k, .int .i64 t.n, .string (bs t.s), .int .i64 t.e, .int .i64 t.r.1, .int .i64 t.r.2.1, .bool t.r.2.2.1, .bool t.r.2.2.2, .int .i64 t.q.1, .int .i64 t.q.2.1, .bool t.q.2.2.1, .bool t.q.2.2.2, .slice pp ln cl] 26) = W1 at *
  have C1 : Hid (∀ V, Ext W1 V → Calls Tryz.prog 63 #[.agg #[.int .i64 t.r.1, .int .i64 t.r.2.1, .bool t.r.2.2.1, .bool t.r.2.2.2]] V fun e w' => e = .returned (.string q) ∧ Ext V w') := fun V e => c1 V (HT.out.1.ext (HB1.out.1.1.trans e))
  clear c1
  have C9 : Hid (∀ V, Ext W1 V → Calls Tryz.prog 58 #[.pointer (some ⟨b, 0, none⟩), .string q] V fun e w' => e = .returned (.tuple #[.int .i64 (q).size, .nilIface]) ∧ Bu w0 b (l ++ shT (n + 1) t) w' ∧ Ok9 b V w') := fun V e => by rw [HX.out, ← HS.out.2]; exact pstr_any w0 b l _ V (HB1.out.1.ext e) (by have := HN.out; omega) (by have := HS.out.1; omega)
  go_region_with (first | (go_at_call 63; refine (C1.out _ (by with_reducible repeat (first | assumption | exact Ext.refl _ | apply Ext.drew | apply Ext.drewN))).mono ?_; rintro e w5 ⟨rfl, E5⟩; have X5 : Ext W1 w5 := Ext.trans (by with_reducible repeat (first | assumption | exact Ext.refl _ | apply Ext.drew | apply Ext.drewN)) E5) | (go_at_call 58; refine (C9.out _ (by with_reducible repeat (first | assumption | exact Ext.refl _ | apply Ext.drew | apply Ext.drewN))).mono ?_; rintro e w9 ⟨rfl, B9, K9⟩; have HB9 : Hid (Bu w0 b (l ++ shT (n + 1) t) w9 ∧ Ok9 b W w9) := ⟨B9, (Ok9.trans (HB1.out.2.toK b) (Ext.toK (by with_reducible repeat (first | assumption | exact Ext.refl _ | apply Ext.drew | apply Ext.drewN)) b)).trans K9⟩; clear B9 K9))
  all_goals
    go_wp2_with fail
    go_end0
    exact ⟨rfl, HB9.out.1, HB9.out.2⟩
end Go.Proofs.YtdjniiginnlmhaaGreatDoor
